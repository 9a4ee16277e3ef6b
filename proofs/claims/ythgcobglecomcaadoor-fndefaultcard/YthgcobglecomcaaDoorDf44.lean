/- Laid together: NfsBorn, DefM. -/
import Derived.Test.YthgcobglecomcaaDoorDf29
import Derived.Test.YthgcobglecomcaaDoorDf38
import Derived.Test.YthgcobglecomcaaDoorDf41
import Derived.Test.YthgcobglecomcaaDoorDf43
/- NfsBorn, the program's and the specification's. -/
namespace Go.Proofs.YthgcobglecomcaaDoor
open Go.RowKit Go.PlainAid Go.Deep
set_option linter.unusedVariables false
/-- Does an ace of these flags come into what is new? -/
def bornT (dir : Bool) (f : Int) : Bool := if dir then (decide (f / 2 % 2 = 1) || (decide (f % 2 = 1) && !decide (f / 4 % 2 = 1))) else decide (f % 2 = 1)
/-- With which flags? -/
def bornG (dir : Bool) (f : Int) : Int := if dir then (if f / 2 % 2 = 1 then (if f / 4 % 2 = 1 then 0 else f % 8) else 9) else 0
def bornX (dir : Bool) (x : Ac) : Ac := ⟨x.al, x.wh, x.id, bornG dir x.fl, x.ma⟩
def bornO (dir : Bool) (x : Ac) : List Ac := if bornT dir x.fl then [bornX dir x] else []
/-- What the first k of a list give. -/
def bornP (dir : Bool) (l : List Ac) : Nat → List Ac
  | 0 => []
  | k + 1 => bornP dir l k ++ bornO dir (acAt l k)
/-- NfsBorn. -/
def bornL (dir : Bool) (l : List Ac) : List Ac := if acesB l then bornP dir l l.length else []
theorem bornP_len (dir : Bool) (l : List Ac) (k : Nat) : (bornP dir l k).length ≤ k := by
  induction k with
  | zero => exact Nat.le_refl _
  | succ k ih =>
    have : (bornO dir (acAt l k)).length ≤ 1 := by unfold bornO; split <;> simp
    simp only [bornP, List.length_append]
    omega
theorem bornL_len (dir : Bool) (l : List Ac) : (bornL dir l).length ≤ 32 := by
  unfold bornL
  split
  · rename_i h
    have := bornP_len dir l l.length
    have h2 := aces_len h
    omega
  · simp
theorem bornP_yes {dir : Bool} {l : List Ac} {k : Nat} (h : bornT dir (acAt l k).fl = true) : bornP dir l (k + 1) = bornP dir l k ++ [bornX dir (acAt l k)] := by simp [bornP, bornO, h]
theorem bornP_no {dir : Bool} {l : List Ac} {k : Nat} (h : bornT dir (acAt l k).fl = false) : bornP dir l (k + 1) = bornP dir l k := by simp [bornP, bornO, h]
theorem ansL_nil {xs : List Ac} (h : xs = []) {w w' : World} {a : Option Addr} {c : Nat} (hin : ∀ A, a = some A → w.heap.size ≤ A.block ∧ A.block < w'.heap.size) (hb : Below w.heap.size w w') : AnsL xs w (.returned (.slice a 0 c)) w' := by
  subst h
  exact ⟨a, c, rfl, ownA_nil _ _, hin, hb⟩
theorem ansL_row {xs : List Ac} {w w' : World} {t : TypeId} {v : Value} (h : w'.ownsRow w.heap.size t 5 v xs.length (pcA xs)) (hb : Below w.heap.size w w') : AnsL xs w (.returned v) w' := by
  obtain ⟨a, c, rfl, ho, hin⟩ := ownA_of_row h
  exact ⟨a, c, rfl, ho, hin, hb⟩
set_option maxHeartbeats 8000000 in
theorem bornFlags_any (f : Int) (h0 : 0 ≤ f) (h1 : f ≤ 15) (dir : Bool) (w : World) :
    Calls Tryd.prog 34 #[.int .i64 f, .bool dir] w fun e w' => e = .returned (.tuple #[.int .i64 (if bornT dir f then bornG dir f else 0), .bool (bornT dir f)]) ∧ w' = w := by
  rcases (by omega : f = 0 ∨ f = 1 ∨ f = 2 ∨ f = 3 ∨ f = 4 ∨ f = 5 ∨ f = 6 ∨ f = 7 ∨ f = 8 ∨ f = 9 ∨ f = 10 ∨ f = 11 ∨ f = 12 ∨ f = 13 ∨ f = 14 ∨ f = 15) with rfl | rfl | rfl | rfl | rfl | rfl | rfl | rfl | rfl | rfl | rfl | rfl | rfl | rfl | rfl | rfl
  all_goals cases dir
  all_goals (
    go_enter Tryd.func34, Tryd.ntmps34
    go_wp2
    go_ret2
    exact ⟨rfl, rfl⟩)
set_option maxHeartbeats 4000000 in
theorem iNfsBorn_some (b off cap : Nat) (l : List Ac) (dir : Bool) (ha : acesB l = true) (w : World) (hb : b < w.heap.size) (hc : ∀ i, i < l.length → Five w b (off + i * 5) (acAt l i)) :
    Calls Tryd.prog 11 #[.slice (some ⟨b, off, none⟩) l.length cap, .bool dir] w (AnsL (bornP dir l l.length) w) := by
  have hR : Hid (Calls Tryd.prog 33 #[.slice (some ⟨b, off, none⟩) l.length cap] w fun e w' => e = .returned (.bool true) ∧ Below w.heap.size w w') := (by
    have := iNfsRight_any (some ⟨b, off, none⟩) l.length cap l w ⟨rfl, fun _ => ⟨b, off, rfl, hb, hc⟩⟩
    rwa [ha] at this)
  have HC : Hid (∀ i, i < l.length → Five w b (off + i * 5) (acAt l i)) := hc
  have HF : Hid (∀ i, i < l.length → 0 ≤ (acAt l i).fl ∧ (acAt l i).fl ≤ 15) := (fun i hi => (aceB_iff.1 (aces_at ha hi)).2.2.2.1.1)
  have hl := aces_len ha
  clear hc ha
  generalize hlen : l.length = len at hl HC HF hR ⊢
  clear hlen
  go_enter Tryd.func11, Tryd.ntmps11
  go_wp2_with fail
  refine hR.out.mono ?_
  rintro e w0 ⟨rfl, hb0⟩
  have hB0 : Hid (Below w.heap.size w w0) := hb0
  clear hb0 hR
  go_wp2
  go_loopw [5, 15] (fun v i wr => ∃ k : Nat, k ≤ len ∧ i = .int .i64 k ∧ Hid (wr.ownsRow w.heap.size 49 5 v (bornP dir l k).length (pcA (bornP dir l k))) ∧ Hid (Below w.heap.size w wr)) (fun _ i _ => len - (intOf i).toNat)
  case atStart => exact ⟨0, Nat.zero_le _, rfl, World.ownsRow_nil _ _ _ _, hB0⟩
  case round =>
    obtain ⟨k, hk, rfl, hO, hB⟩ := hrel
    by_cases hlt : k < len
    · have hlt' : (k : Int) < (len : Int) := by omega
      obtain ⟨g0, g1, g2, g3, g4⟩ := (HC.out k hlt).keep (fun j => hB.out.cell (p := ⟨b, j, none⟩) hb)
      obtain ⟨f0, f1⟩ := HF.out k hlt
      have HN : Hid (bornT dir (acAt l k).fl = false → ∀ (w' : World) (v : Value), w'.ownsRow w.heap.size 49 5 v (bornP dir l k).length (pcA (bornP dir l k)) → w'.ownsRow w.heap.size 49 5 v (bornP dir l (k + 1)).length (pcA (bornP dir l (k + 1)))) := (fun h w' v h2 => by rw [bornP_no h]; exact h2)
      have HY : Hid (bornT dir (acAt l k).fl = true → ∀ (w' : World) (v : Value), w'.ownsRow w.heap.size 49 5 v (bornP dir l k ++ [bornX dir (acAt l k)]).length (pcA (bornP dir l k ++ [bornX dir (acAt l k)])) → w'.ownsRow w.heap.size 49 5 v (bornP dir l (k + 1)).length (pcA (bornP dir l (k + 1)))) := (fun h w' v h2 => by rw [bornP_yes h]; exact h2)
      have hP := bornP_len dir l k
      generalize bornP dir l k = acc at hO HN HY hP
      generalize acAt l k = x at g0 g1 g2 g3 g4 f0 f1 HN HY
      have hcF : Hid (∀ w, Calls Tryd.prog 34 #[.int .i64 x.fl, .bool dir] w fun e w' => e = .returned (.tuple #[.int .i64 (if bornT dir x.fl then bornG dir x.fl else 0), .bool (bornT dir x.fl)]) ∧ w' = w) := bornFlags_any x.fl f0 f1 dir
      have hbA := bel_alloc wr (.cells #[.bool x.al, .int .i64 x.wh, .int .i64 x.id, .int .i64 x.fl, .int .i64 x.ma] 49)
      clear HC HF f0 f1
      cases ht : bornT dir x.fl
      · have hP2 : Hid ((wr.alloc (.cells #[.bool x.al, .int .i64 x.wh, .int .i64 x.id, .int .i64 x.fl, .int .i64 x.ma] 49)).ownsRow w.heap.size 49 5 u5 (bornP dir l (k + 1)).length (pcA (bornP dir l (k + 1)))) := HN.out ht _ _ (rowA_below hO.out hbA)
        have hB2 : Hid (Below w.heap.size w (wr.alloc (.cells #[.bool x.al, .int .i64 x.wh, .int .i64 x.id, .int .i64 x.fl, .int .i64 x.ma] 49))) := Below.on hB.out hbA
        rw [ht] at hcF
        clear HN HY hO hbA
        go_wp2_with (go_at_call 34; refine (hcF.out _).mono ?_; rintro e w1 ⟨rfl, rfl⟩)
        go_roundw
        case rel => exact ⟨k + 1, by omega, by go_num, hP2, hB2⟩
        case measure => simp [intOf]; omega
      · rw [ht, if_pos rfl] at hcF
        have hbS : Below wr.heap.size wr (wr.alloc (.cells #[.bool x.al, .int .i64 x.wh, .int .i64 x.id, .int .i64 (bornG dir x.fl), .int .i64 x.ma] 49)) := bel_alloc _ _
        obtain ⟨v2, w2, hr, hO2, hB2⟩ := append_one (P := Tryd.prog) w _ 27 27 49 Tryd.underlying27 infoAce u5 acc (rowA_below hO.out hbS) (Below.on hB.out hbS) (bornX dir x) (by omega)
        have hz : (wr.alloc (.cells #[.bool x.al, .int .i64 x.wh, .int .i64 x.id, .int .i64 (bornG dir x.fl), .int .i64 x.ma] 49)).heap.size = wr.heap.size + 1 := by simp
        rw [hz] at hr
        simp only [bornX] at hr
        have HO2 : Hid (w2.ownsRow w.heap.size 49 5 v2 (bornP dir l (k + 1)).length (pcA (bornP dir l (k + 1)))) := HY.out ht _ _ hO2
        have HB2 : Hid (Below w.heap.size w w2) := hB2
        clear HN HY hO hbA hbS hO2 hB2 hz hB
        go_wp2_with (first | (go_at_call 34; refine (hcF.out _).mono ?_; rintro e w1 ⟨rfl, rfl⟩) | (at_builtin; refine wpList_append_runA _ rfl (.tmp 29) (.tmp 31) 27 27 rfl _ _ _ _ rfl rfl hr ?_))
        go_roundw
        case rel => exact ⟨k + 1, by omega, by go_num, HO2, HB2⟩
        case measure => simp [intOf]; omega
    · have : k = len := by omega
      subst this
      go_wp2
      go_ret
      exact ansL_row hO.out hB.out
set_option maxHeartbeats 2000000 in
theorem iNfsBorn_no (a : Option Addr) (len cap : Nat) (l : List Ac) (dir : Bool) (ha : acesB l = false) (w : World) (hi : Acs a len l w) :
    Calls Tryd.prog 11 #[.slice a len cap, .bool dir] w (AnsL [] w) := by
  have hR : Hid (Calls Tryd.prog 33 #[.slice a len cap] w fun e w' => e = .returned (.bool false) ∧ Below w.heap.size w w') := (by
    have := iNfsRight_any a len cap l w hi
    rwa [ha] at this)
  clear hi ha
  go_enter Tryd.func11, Tryd.ntmps11
  go_wp2_with fail
  refine hR.out.mono ?_
  rintro e w0 ⟨rfl, hb0⟩
  have hB0 : Hid (Below w.heap.size w w0) := hb0
  clear hb0 hR
  go_wp2
  go_ret
  exact ansL_nil rfl (fun A e => by cases e) hB0.out
set_option maxHeartbeats 2000000 in
theorem iNfsBorn_none (a : Option Addr) (cap : Nat) (dir : Bool) (w : World) :
    Calls Tryd.prog 11 #[.slice a 0 cap, .bool dir] w (AnsL [] w) := by
  have hR : Hid (Calls Tryd.prog 33 #[.slice a 0 cap] w fun e w' => e = .returned (.bool true) ∧ w' = w) := iNfsRight_none a cap w
  go_enter Tryd.func11, Tryd.ntmps11
  go_wp2_with (go_at_call 33; refine hR.out.mono ?_; rintro e w0 ⟨rfl, rfl⟩)
  go_rounds 1
  go_ret
  exact ansL_nil rfl (fun A e => by cases e) (Below.refl _ _)
/-- impl.NfsBorn. -/
theorem iNfsBorn_any (a : Option Addr) (len cap : Nat) (l : List Ac) (dir : Bool) (w : World) (hi : Acs a len l w) :
    Calls Tryd.prog 11 #[.slice a len cap, .bool dir] w (AnsL (bornL dir l) w) := by
  cases ha : acesB l
  · have e : bornL dir l = [] := by simp [bornL, ha]
    rw [e]
    exact iNfsBorn_no a len cap l dir ha w hi
  · have e : bornL dir l = bornP dir l l.length := by simp [bornL, ha]
    rw [e]
    obtain ⟨hln, hp⟩ := hi
    subst hln
    by_cases h0 : l.length = 0
    · rw [h0]
      exact iNfsBorn_none a cap dir w
    · obtain ⟨b, off, rfl, hlt, hc⟩ := hp (by omega)
      exact iNfsBorn_some b off cap l dir ha w hlt hc
end Go.Proofs.YthgcobglecomcaaDoor
/- FnDefault: its mathematics. -/
namespace Go.Proofs.YthgcobglecomcaaDoor
open Go.RowKit Go.PlainAid Go.Deep
set_option linter.unusedVariables false
theorem and_all {x : Int} (h0 : 0 ≤ x) (h1 : x ≤ 7) : andI x 7 = x := by
  rcases (by omega : x = 0 ∨ x = 1 ∨ x = 2 ∨ x = 3 ∨ x = 4 ∨ x = 5 ∨ x = 6 ∨ x = 7) with rfl | rfl | rfl | rfl | rfl | rfl | rfl | rfl <;> decide
/-- Of the mode that asks for all a list is born as it is. -/
theorem born_all {A : Al} (hA : A.B = true) : bornA A.u A.g A.o A.us A.gs A.r A.m 511 = ⟨A.u, A.g, A.o, A.us, A.gs, A.r, A.m, 0⟩ := by
  have h := alR hA
  have hB : aclB A.u A.g A.o A.us A.gs A.r A.m = true := hA
  obtain ⟨c0, c1⟩ := cls_in h
  rw [bornA, if_pos ⟨hB, by decide⟩]
  have e1 : (511 : Int) / 64 % 8 = 7 := by decide
  have e2 : (511 : Int) / 8 % 8 = 7 := by decide
  have e3 : (511 : Int) % 8 = 7 := by decide
  rw [e1, e2, e3, and_all h.u.1 h.u.2, and_all h.o.1 h.o.2, and_all c0 c1]
  cases A.r <;> simp [gSet, mSet, clsOf]
/-- A right ace that is not handed on. -/
def OkX (l : List Ac) : Prop := ∀ x ∈ l, x.fl = 0 ∧ aceB x = true
theorem okX_nil : OkX [] := fun _ h => by cases h
theorem okX_more {l : List Ac} {al : Bool} {wh id ma : Int} (h : OkX l) (hx : ma ≠ 0 → aceB ⟨al, wh, id, 0, ma⟩ = true) : OkX (moreA l al wh id ma) := by
  unfold moreA
  by_cases e : ma = 0
  · rw [if_pos e]; exact h
  · rw [if_neg e]
    intro x hm
    rw [List.mem_append] at hm
    rcases hm with hm | hm
    · exact h x hm
    · have : x = ⟨al, wh, id, 0, ma⟩ := by simpa using hm
      subst this
      exact ⟨rfl, hx e⟩
theorem nb_in {b : Int} (h0 : 0 ≤ b) (h1 : b ≤ 7) : 0 ≤ nb b ∧ nb b ≤ 15 := by
  unfold nb
  omega
theorem ace_lone {al : Bool} {wh b : Int} (hw : 1 ≤ wh ∧ wh ≤ 3) (h0 : 0 ≤ b) (h1 : b ≤ 7) (hn : nb b ≠ 0) : aceB ⟨al, wh, 0, 0, nb b⟩ = true := by
  have := nb_in h0 h1
  refine aceB_iff.2 ⟨?_, ?_, ?_, ?_, ?_⟩ <;> first | omega | decide | (simp only; omega) | (intro _; rfl)
theorem ace_named {al : Bool} {wh id b : Int} (hw : 4 ≤ wh ∧ wh ≤ 5) (hi : 0 ≤ id ∧ id ≤ 9999) (h0 : 0 ≤ b) (h1 : b ≤ 7) (hn : nb b ≠ 0) : aceB ⟨al, wh, id, 0, nb b⟩ = true := by
  have := nb_in h0 h1
  refine aceB_iff.2 ⟨?_, ?_, ?_, ?_, ?_⟩ <;> first | omega | decide | (simp only; omega)
theorem nfs_ok {A : Al} (hA : A.B = true) : OkX (nfsA A) := by
  have h := alR hA
  have og := og_in h
  have bu : ∀ k, k < A.us.length → 0 ≤ andI (btAt A.us k) A.m ∧ andI (btAt A.us k) A.m ≤ 7 := fun k hk => by
    obtain ⟨t0, t1⟩ := nm_bt h.us k hk
    exact and7 _ _ t0 t1 h.m.1 h.m.2
  have bg : ∀ k, k < A.gs.length → 0 ≤ andI (btAt A.gs k) A.m ∧ andI (btAt A.gs k) A.m ≤ 7 := fun k hk => by
    obtain ⟨t0, t1⟩ := nm_bt h.gs k hk
    exact and7 _ _ t0 t1 h.m.1 h.m.2
  have s0 : OkX (pairA [] 1 0 A.u) := okX_more (okX_more okX_nil (ace_lone (by decide) h.u.1 h.u.2)) (ace_lone (by decide) (by have := h.u; omega) (by have := h.u; omega))
  have s1 : ∀ k, k ≤ A.us.length → OkX (usN (pairA [] 1 0 A.u) A.us A.m k) := by
    intro k
    induction k with
    | zero => intro _; exact s0
    | succ k ih =>
      intro hk
      have b := bu k (by omega)
      exact okX_more (okX_more (ih (by omega)) (ace_named (by decide) (nm_id h.us k (by omega)) b.1 b.2)) (ace_named (by decide) (nm_id h.us k (by omega)) (by omega) (by omega))
  have s2 : OkX (moreA (nfs1 A) true 2 0 (nb (ownG A))) := okX_more (s1 _ (Nat.le_refl _)) (ace_lone (by decide) og.1 og.2)
  have s3 : ∀ k, k ≤ A.gs.length → OkX (gaN (moreA (nfs1 A) true 2 0 (nb (ownG A))) A.gs A.m k) := by
    intro k
    induction k with
    | zero => intro _; exact s2
    | succ k ih =>
      intro hk
      have b := bg k (by omega)
      exact okX_more (ih (by omega)) (ace_named (by decide) (nm_id h.gs k (by omega)) b.1 b.2)
  have s4 : OkX (moreA (nfs2 A) false 2 0 (nb (7 - ownG A))) := okX_more (s3 _ (Nat.le_refl _)) (ace_lone (by decide) (by omega) (by omega))
  have s5 : ∀ k, k ≤ A.gs.length → OkX (gdN (moreA (nfs2 A) false 2 0 (nb (7 - ownG A))) A.gs A.m k) := by
    intro k
    induction k with
    | zero => intro _; exact s4
    | succ k ih =>
      intro hk
      have b := bg k (by omega)
      exact okX_more (ih (by omega)) (ace_named (by decide) (nm_id h.gs k (by omega)) (by omega) (by omega))
  exact okX_more (s5 _ (Nat.le_refl _)) (ace_lone (by decide) h.o.1 h.o.2)
theorem nfs_len32 {A : Al} (hA : A.B = true) : (nfsA A).length ≤ 32 := by
  have h := alR hA
  have hl1 := nm_len h.us
  have hl2 := nm_len h.gs
  have h1 := usN_len (pairA [] 1 0 A.u) A.us A.m A.us.length
  have h2 := pair_len [] 1 0 A.u
  have h3 := gaN_len (moreA (nfs1 A) true 2 0 (nb (ownG A))) A.gs A.m A.gs.length
  have h4 := more_len (nfs1 A) true 2 0 (nb (ownG A))
  have h5 := gdN_len (moreA (nfs2 A) false 2 0 (nb (7 - ownG A))) A.gs A.m A.gs.length
  have h6 := more_len (nfs2 A) false 2 0 (nb (7 - ownG A))
  have h7 := more_len (nfs3 A) true 3 0 (nb A.o)
  have e1 : (nfs1 A).length = (usN (pairA [] 1 0 A.u) A.us A.m A.us.length).length := rfl
  have e2 : (nfs2 A).length = (gaN (moreA (nfs1 A) true 2 0 (nb (ownG A))) A.gs A.m A.gs.length).length := rfl
  have e3 : (nfs3 A).length = (gdN (moreA (nfs2 A) false 2 0 (nb (7 - ownG A))) A.gs A.m A.gs.length).length := rfl
  have e4 : (nfsA A).length = (moreA (nfs3 A) true 3 0 (nb A.o)).length := rfl
  simp only [List.length_nil] at h2
  omega
theorem ace_fl11 {x : Ac} (h : aceB x = true) : aceB (fl11 x) = true := by
  obtain ⟨h1, h2, h3, h4, h5⟩ := aceB_iff.1 h
  exact aceB_iff.2 ⟨h1, h2, h3, (show (0 ≤ (11 : Int) ∧ (11 : Int) ≤ 15) ∧ ((11 : Int) < 4 ∨ (11 : Int) % 4 ≠ 0) by decide), h5⟩
theorem acAt_mem {l : List Ac} {k : Nat} (h : k < l.length) : acAt l k ∈ l := by
  rw [acAt_get h]
  exact List.getElem_mem h
theorem acAt_def {l : List Ac} {k : Nat} (h : k < l.length) : acAt (defL l) k = fl11 (acAt l k) := by
  rw [acAt_get (by rw [defL_len]; exact h), acAt_get h]
  simp [defL]
theorem def_right {l : List Ac} (h : OkX l) (hl : l.length ≤ 32) : acesB (defL l) = true := by
  have ha : ∀ k, k ≤ l.length → allA (defL l) k = true := by
    intro k
    induction k with
    | zero => intro _; rfl
    | succ k ih =>
      intro hk
      rw [allA, ih (by omega), acAt_def (by omega), ace_fl11 (h _ (acAt_mem (by omega))).2]
      rfl
  have hd := defL_len l
  exact aces_yes (by omega) (by rw [hd]; exact ha _ (Nat.le_refl _))
theorem born_one {x : Ac} (h : x.fl = 0) : bornO false (fl11 x) = [x] := by
  obtain ⟨a, b, c, d, e⟩ := x
  simp only at h
  subst h
  rfl
/-- What a default list gives a new file. -/
theorem born_def {l : List Ac} (h : OkX l) (hl : l.length ≤ 32) : bornL false (defL l) = l := by
  have hp : ∀ k, k ≤ l.length → bornP false (defL l) k = l.take k := by
    intro k
    induction k with
    | zero => intro _; simp [bornP]
    | succ k ih =>
      intro hk
      have hk2 : k < l.length := by omega
      rw [bornP, ih (by omega), acAt_def hk2, born_one (h _ (acAt_mem hk2)).1, List.take_succ_eq_append_getElem hk2, acAt_get hk2]
  rw [bornL, if_pos (def_right h hl), defL_len, hp _ (Nat.le_refl _), List.take_length]
end Go.Proofs.YthgcobglecomcaaDoor
