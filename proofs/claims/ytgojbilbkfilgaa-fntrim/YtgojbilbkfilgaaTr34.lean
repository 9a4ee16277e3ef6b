/- Laid together: NfsBorn, BornM. -/
import Derived.Test.YtgojbilbkfilgaaTr30
import Derived.Test.YtgojbilbkfilgaaTr31
/- NfsBorn, the program's and the specification's. -/
namespace Go.Proofs.Ytgojbilbkfilgaa
open Go.RowKit Go.PlainAid Go.Deep
set_option linter.unusedVariables false
/-- Does an ace of these flags come into what is new? -/
def bornT (dir : Bool) (f : Int) : Bool := if dir then (decide (f / 2 % 2 = 1) || (decide (f % 2 = 1) && !decide (f / 4 % 2 = 1))) else decide (f % 2 = 1)
/-- With which flags? -/
def bornG (dir : Bool) (f : Int) : Int := if dir then (if f / 2 % 2 = 1 then (if f / 4 % 2 = 1 then 0 else f % 8) else 9) else 0
def bornX (dir : Bool) (x : Ac) : Ac := ⟨x.al, x.wh, x.id, bornG dir x.fl, x.ma⟩
def bornO (dir : Bool) (x : Ac) : List Ac := if bornT dir x.fl then [bornX dir x] else []
/-- What the first k of a list give. -/
def bornP (dir : Bool) (l : List Ac) : Nat → List Ac
  | 0 => []
  | k + 1 => bornP dir l k ++ bornO dir (acAt l k)
/-- NfsBorn. -/
def bornL (dir : Bool) (l : List Ac) : List Ac := if acesB l then bornP dir l l.length else []
theorem bornP_len (dir : Bool) (l : List Ac) (k : Nat) : (bornP dir l k).length ≤ k := by
  induction k with
  | zero => exact Nat.le_refl _
  | succ k ih =>
    have : (bornO dir (acAt l k)).length ≤ 1 := by unfold bornO; split <;> simp
    simp only [bornP, List.length_append]
    omega
theorem bornL_len (dir : Bool) (l : List Ac) : (bornL dir l).length ≤ 32 := by
  unfold bornL
  split
  · rename_i h
    have := bornP_len dir l l.length
    have h2 := aces_len h
    omega
  · simp
theorem bornP_yes {dir : Bool} {l : List Ac} {k : Nat} (h : bornT dir (acAt l k).fl = true) : bornP dir l (k + 1) = bornP dir l k ++ [bornX dir (acAt l k)] := by simp [bornP, bornO, h]
theorem bornP_no {dir : Bool} {l : List Ac} {k : Nat} (h : bornT dir (acAt l k).fl = false) : bornP dir l (k + 1) = bornP dir l k := by simp [bornP, bornO, h]
theorem ansL_nil {xs : List Ac} (h : xs = []) {w w' : World} {a : Option Addr} {c : Nat} (hin : ∀ A, a = some A → w.heap.size ≤ A.block ∧ A.block < w'.heap.size) (hb : Below w.heap.size w w') : AnsL xs w (.returned (.slice a 0 c)) w' := by
  subst h
  exact ⟨a, c, rfl, ownA_nil _ _, hin, hb⟩
theorem ansL_row {xs : List Ac} {w w' : World} {t : TypeId} {v : Value} (h : w'.ownsRow w.heap.size t 5 v xs.length (pcA xs)) (hb : Below w.heap.size w w') : AnsL xs w (.returned v) w' := by
  obtain ⟨a, c, rfl, ho, hin⟩ := ownA_of_row h
  exact ⟨a, c, rfl, ho, hin, hb⟩
set_option maxHeartbeats 8000000 in
theorem bornFlags_any (f : Int) (h0 : 0 ≤ f) (h1 : f ≤ 15) (dir : Bool) (w : World) :
    Calls Try.prog 113 #[.int .i64 f, .bool dir] w fun e w' => e = .returned (.tuple #[.int .i64 (if bornT dir f then bornG dir f else 0), .bool (bornT dir f)]) ∧ w' = w := by
  rcases (by omega : f = 0 ∨ f = 1 ∨ f = 2 ∨ f = 3 ∨ f = 4 ∨ f = 5 ∨ f = 6 ∨ f = 7 ∨ f = 8 ∨ f = 9 ∨ f = 10 ∨ f = 11 ∨ f = 12 ∨ f = 13 ∨ f = 14 ∨ f = 15) with rfl | rfl | rfl | rfl | rfl | rfl | rfl | rfl | rfl | rfl | rfl | rfl | rfl | rfl | rfl | rfl
  all_goals cases dir
  all_goals (
    go_enter Try.func113, Try.ntmps113
    go_wp2
    go_ret2
    exact ⟨rfl, rfl⟩)
set_option maxHeartbeats 4000000 in
theorem iNfsBorn_some (b off cap : Nat) (l : List Ac) (dir : Bool) (ha : acesB l = true) (w : World) (hb : b < w.heap.size) (hc : ∀ i, i < l.length → Five w b (off + i * 5) (acAt l i)) :
    Calls Try.prog 56 #[.slice (some ⟨b, off, none⟩) l.length cap, .bool dir] w (AnsL (bornP dir l l.length) w) := by
  have hR : Hid (Calls Try.prog 58 #[.slice (some ⟨b, off, none⟩) l.length cap] w fun e w' => e = .returned (.bool true) ∧ Below w.heap.size w w') := (by
    have := iNfsRight_any (some ⟨b, off, none⟩) l.length cap l w ⟨rfl, fun _ => ⟨b, off, rfl, hb, hc⟩⟩
    rwa [ha] at this)
  have HC : Hid (∀ i, i < l.length → Five w b (off + i * 5) (acAt l i)) := hc
  have HF : Hid (∀ i, i < l.length → 0 ≤ (acAt l i).fl ∧ (acAt l i).fl ≤ 15) := (fun i hi => (aceB_iff.1 (aces_at ha hi)).2.2.2.1.1)
  have hl := aces_len ha
  clear hc ha
  generalize hlen : l.length = len at hl HC HF hR ⊢
  clear hlen
  go_enter Try.func56, Try.ntmps56
  go_wp2_with fail
  refine hR.out.mono ?_
  rintro e w0 ⟨rfl, hb0⟩
  have hB0 : Hid (Below w.heap.size w w0) := hb0
  clear hb0 hR
  go_wp2
  go_loopw [5, 15] (fun v i wr => ∃ k : Nat, k ≤ len ∧ i = .int .i64 k ∧ Hid (wr.ownsRow w.heap.size 61 5 v (bornP dir l k).length (pcA (bornP dir l k))) ∧ Hid (Below w.heap.size w wr)) (fun _ i _ => len - (intOf i).toNat)
  case atStart => exact ⟨0, Nat.zero_le _, rfl, World.ownsRow_nil _ _ _ _, hB0⟩
  case round =>
    obtain ⟨k, hk, rfl, hO, hB⟩ := hrel
    by_cases hlt : k < len
    · have hlt' : (k : Int) < (len : Int) := by omega
      obtain ⟨g0, g1, g2, g3, g4⟩ := (HC.out k hlt).keep (fun j => hB.out.cell (p := ⟨b, j, none⟩) hb)
      obtain ⟨f0, f1⟩ := HF.out k hlt
      have HN : Hid (bornT dir (acAt l k).fl = false → ∀ (w' : World) (v : Value), w'.ownsRow w.heap.size 61 5 v (bornP dir l k).length (pcA (bornP dir l k)) → w'.ownsRow w.heap.size 61 5 v (bornP dir l (k + 1)).length (pcA (bornP dir l (k + 1)))) := (fun h w' v h2 => by rw [bornP_no h]; exact h2)
      have HY : Hid (bornT dir (acAt l k).fl = true → ∀ (w' : World) (v : Value), w'.ownsRow w.heap.size 61 5 v (bornP dir l k ++ [bornX dir (acAt l k)]).length (pcA (bornP dir l k ++ [bornX dir (acAt l k)])) → w'.ownsRow w.heap.size 61 5 v (bornP dir l (k + 1)).length (pcA (bornP dir l (k + 1)))) := (fun h w' v h2 => by rw [bornP_yes h]; exact h2)
      have hP := bornP_len dir l k
      generalize bornP dir l k = acc at hO HN HY hP
      generalize acAt l k = x at g0 g1 g2 g3 g4 f0 f1 HN HY
      have hcF : Hid (∀ w, Calls Try.prog 113 #[.int .i64 x.fl, .bool dir] w fun e w' => e = .returned (.tuple #[.int .i64 (if bornT dir x.fl then bornG dir x.fl else 0), .bool (bornT dir x.fl)]) ∧ w' = w) := bornFlags_any x.fl f0 f1 dir
      have hbA := bel_alloc wr (.cells #[.bool x.al, .int .i64 x.wh, .int .i64 x.id, .int .i64 x.fl, .int .i64 x.ma] 61)
      clear HC HF f0 f1
      cases ht : bornT dir x.fl
      · have hP2 : Hid ((wr.alloc (.cells #[.bool x.al, .int .i64 x.wh, .int .i64 x.id, .int .i64 x.fl, .int .i64 x.ma] 61)).ownsRow w.heap.size 61 5 u5 (bornP dir l (k + 1)).length (pcA (bornP dir l (k + 1)))) := HN.out ht _ _ (rowA_below hO.out hbA)
        have hB2 : Hid (Below w.heap.size w (wr.alloc (.cells #[.bool x.al, .int .i64 x.wh, .int .i64 x.id, .int .i64 x.fl, .int .i64 x.ma] 61))) := Below.on hB.out hbA
        rw [ht] at hcF
        clear HN HY hO hbA
        go_wp2_with (go_at_call 113; refine (hcF.out _).mono ?_; rintro e w1 ⟨rfl, rfl⟩)
        go_roundw
        case rel => exact ⟨k + 1, by omega, by go_num, hP2, hB2⟩
        case measure => simp [intOf]; omega
      · rw [ht, if_pos rfl] at hcF
        have hbS : Below wr.heap.size wr (wr.alloc (.cells #[.bool x.al, .int .i64 x.wh, .int .i64 x.id, .int .i64 (bornG dir x.fl), .int .i64 x.ma] 61)) := bel_alloc _ _
        obtain ⟨v2, w2, hr, hO2, hB2⟩ := append_one (P := Try.prog) w _ 49 49 61 Try.underlying49 infoAce u5 acc (rowA_below hO.out hbS) (Below.on hB.out hbS) (bornX dir x) (by omega)
        have hz : (wr.alloc (.cells #[.bool x.al, .int .i64 x.wh, .int .i64 x.id, .int .i64 (bornG dir x.fl), .int .i64 x.ma] 61)).heap.size = wr.heap.size + 1 := by simp
        rw [hz] at hr
        simp only [bornX] at hr
        have HO2 : Hid (w2.ownsRow w.heap.size 61 5 v2 (bornP dir l (k + 1)).length (pcA (bornP dir l (k + 1)))) := HY.out ht _ _ hO2
        have HB2 : Hid (Below w.heap.size w w2) := hB2
        clear HN HY hO hbA hbS hO2 hB2 hz hB
        go_wp2_with (first | (go_at_call 113; refine (hcF.out _).mono ?_; rintro e w1 ⟨rfl, rfl⟩) | (at_builtin; refine wpList_append_runA _ rfl (.tmp 29) (.tmp 31) 49 49 rfl _ _ _ _ rfl rfl hr ?_))
        go_roundw
        case rel => exact ⟨k + 1, by omega, by go_num, HO2, HB2⟩
        case measure => simp [intOf]; omega
    · have : k = len := by omega
      subst this
      go_wp2
      go_ret
      exact ansL_row hO.out hB.out
set_option maxHeartbeats 2000000 in
theorem iNfsBorn_no (a : Option Addr) (len cap : Nat) (l : List Ac) (dir : Bool) (ha : acesB l = false) (w : World) (hi : Acs a len l w) :
    Calls Try.prog 56 #[.slice a len cap, .bool dir] w (AnsL [] w) := by
  have hR : Hid (Calls Try.prog 58 #[.slice a len cap] w fun e w' => e = .returned (.bool false) ∧ Below w.heap.size w w') := (by
    have := iNfsRight_any a len cap l w hi
    rwa [ha] at this)
  clear hi ha
  go_enter Try.func56, Try.ntmps56
  go_wp2_with fail
  refine hR.out.mono ?_
  rintro e w0 ⟨rfl, hb0⟩
  have hB0 : Hid (Below w.heap.size w w0) := hb0
  clear hb0 hR
  go_wp2
  go_ret
  exact ansL_nil rfl (fun A e => by cases e) hB0.out
set_option maxHeartbeats 2000000 in
theorem iNfsBorn_none (a : Option Addr) (cap : Nat) (dir : Bool) (w : World) :
    Calls Try.prog 56 #[.slice a 0 cap, .bool dir] w (AnsL [] w) := by
  have hR : Hid (Calls Try.prog 58 #[.slice a 0 cap] w fun e w' => e = .returned (.bool true) ∧ w' = w) := iNfsRight_none a cap w
  go_enter Try.func56, Try.ntmps56
  go_wp2_with (go_at_call 58; refine hR.out.mono ?_; rintro e w0 ⟨rfl, rfl⟩)
  go_rounds 1
  go_ret
  exact ansL_nil rfl (fun A e => by cases e) (Below.refl _ _)
/-- impl.NfsBorn. -/
theorem iNfsBorn_any (a : Option Addr) (len cap : Nat) (l : List Ac) (dir : Bool) (w : World) (hi : Acs a len l w) :
    Calls Try.prog 56 #[.slice a len cap, .bool dir] w (AnsL (bornL dir l) w) := by
  cases ha : acesB l
  · have e : bornL dir l = [] := by simp [bornL, ha]
    rw [e]
    exact iNfsBorn_no a len cap l dir ha w hi
  · have e : bornL dir l = bornP dir l l.length := by simp [bornL, ha]
    rw [e]
    obtain ⟨hln, hp⟩ := hi
    subst hln
    by_cases h0 : l.length = 0
    · rw [h0]
      exact iNfsBorn_none a cap dir w
    · obtain ⟨b, off, rfl, hlt, hc⟩ := hp (by omega)
      exact iNfsBorn_some b off cap l dir ha w hlt hc
set_option maxHeartbeats 2000000 in
theorem sNfsBorn_no (a : Option Addr) (len cap : Nat) (l : List Ac) (dir : Bool) (hl : len ≤ 1048576) (ha : acesB l = false) (w : World) (hi : Acs a len l w) :
    Calls Try.prog 57 #[.slice a len cap, .bool dir] w (AnsL [] w) := by
  have hb1 := bel_alloc w (.cells #[] 61)
  have hR : Hid (Calls Try.prog 53 #[.slice a len cap] (w.alloc (.cells #[] 61)) fun e w' => e = .returned (.bool false) ∧ Below w.heap.size w w' ∧ w.heap.size < w'.heap.size) := (by
    have := sNfsRight_any a len cap l hl (w.alloc (.cells #[] 61)) (hi.below hb1)
    rw [ha] at this
    exact this.mono (fun e w' ⟨h1, h2⟩ => ⟨h1, Below.on hb1 h2, by have := h2.size; simp at this; omega⟩))
  clear hi ha hb1
  go_enter Try.func57, Try.ntmps57
  go_wp2_with fail
  refine hR.out.mono ?_
  rintro e w0 ⟨rfl, hb0, hz0⟩
  have hB0 : Hid (Below w.heap.size w w0) := hb0
  have hZ0 : Hid (w.heap.size < w0.heap.size) := hz0
  clear hb0 hR hz0
  go_wp2
  go_ret
  exact ansL_nil rfl (fun A e => by cases e; exact ⟨Nat.le_refl _, hZ0.out⟩) hB0.out
set_option maxRecDepth 100000 in
set_option maxHeartbeats 8000000 in
theorem sNfsBorn_some (b off cap : Nat) (l : List Ac) (dir : Bool) (ha : acesB l = true) (w : World) (hb : b < w.heap.size) (hc : ∀ i, i < l.length → Five w b (off + i * 5) (acAt l i)) :
    Calls Try.prog 57 #[.slice (some ⟨b, off, none⟩) l.length cap, .bool dir] w (AnsL (bornP dir l l.length) w) := by
  have hl := aces_len ha
  have hb1 := bel_alloc w (.cells #[] 61)
  have hR : Hid (Calls Try.prog 53 #[.slice (some ⟨b, off, none⟩) l.length cap] (w.alloc (.cells #[] 61)) fun e w' => e = .returned (.bool true) ∧ Below w.heap.size w w' ∧ w'.ownsRow w.heap.size 61 5 (.slice (some ⟨w.heap.size, 0, none⟩) 0 0) ([] : List Ac).length (pcA [])) := (by
    have hA : Acs (some ⟨b, off, none⟩) l.length l w := ⟨rfl, fun _ => ⟨b, off, rfl, hb, hc⟩⟩
    have := sNfsRight_any (some ⟨b, off, none⟩) l.length cap l (by omega) (w.alloc (.cells #[] 61)) (hA.below hb1)
    rw [ha] at this
    exact this.mono (fun e w' ⟨h1, h2⟩ => ⟨h1, Below.on hb1 h2, rowA_below (rowA_start w _ rfl _) h2⟩))
  have HC : Hid (∀ i, i < l.length → Five w b (off + i * 5) (acAt l i)) := hc
  have HF : Hid (∀ i, i < l.length → 0 ≤ (acAt l i).fl ∧ (acAt l i).fl ≤ 15) := (fun i hi => (aceB_iff.1 (aces_at ha hi)).2.2.2.1.1)
  clear hc ha hb1
  generalize hlen : l.length = len at hl HC HF hR ⊢
  clear hlen
  go_enter Try.func57, Try.ntmps57
  go_wp2_with fail
  refine hR.out.mono ?_
  rintro e w0 ⟨rfl, hb0, ho0⟩
  have hB0 : Hid (Below w.heap.size w w0) := hb0
  have hO0 : Hid (w0.ownsRow w.heap.size 61 5 (.slice (some ⟨w.heap.size, 0, none⟩) 0 0) ([] : List Ac).length (pcA [])) := ho0
  clear hb0 hR ho0
  go_wp2
  go_loopw [5, 6] (fun v i wr => ∃ k : Nat, k ≤ len ∧ i = .int .i64 k ∧ Hid (wr.ownsRow w.heap.size 61 5 v (bornP dir l k).length (pcA (bornP dir l k))) ∧ Hid (Below w.heap.size w wr)) (fun _ i _ => len - (intOf i).toNat)
  case atStart => exact ⟨0, Nat.zero_le _, rfl, hO0, hB0⟩
  case round =>
    obtain ⟨k, hk, rfl, hO, hB⟩ := hrel
    by_cases hlt : k < len
    · have hlt' : (k : Int) < (len : Int) := by omega
      obtain ⟨g0, g1, g2, g3, g4⟩ := (HC.out k hlt).keep (fun j => hB.out.cell (p := ⟨b, j, none⟩) hb)
      obtain ⟨f0, f1⟩ := HF.out k hlt
      have HN : Hid (bornT dir (acAt l k).fl = false → ∀ (w' : World) (v : Value), w'.ownsRow w.heap.size 61 5 v (bornP dir l k).length (pcA (bornP dir l k)) → w'.ownsRow w.heap.size 61 5 v (bornP dir l (k + 1)).length (pcA (bornP dir l (k + 1)))) := (fun h w' v h2 => by rw [bornP_no h]; exact h2)
      have HY : Hid (bornT dir (acAt l k).fl = true → ∀ (w' : World) (v : Value), w'.ownsRow w.heap.size 61 5 v (bornP dir l k ++ [bornX dir (acAt l k)]).length (pcA (bornP dir l k ++ [bornX dir (acAt l k)])) → w'.ownsRow w.heap.size 61 5 v (bornP dir l (k + 1)).length (pcA (bornP dir l (k + 1)))) := (fun h w' v h2 => by rw [bornP_yes h]; exact h2)
      have hP := bornP_len dir l k
      generalize bornP dir l k = acc at hO HN HY hP
      generalize acAt l k = x at g0 g1 g2 g3 g4 f0 f1 HN HY
      have hbA := bel_alloc wr (.cells #[.bool x.al, .int .i64 x.wh, .int .i64 x.id, .int .i64 x.fl, .int .i64 x.ma] 61)
      clear HC HF
      cases ht : bornT dir x.fl
      · have hP2 : Hid ((wr.alloc (.cells #[.bool x.al, .int .i64 x.wh, .int .i64 x.id, .int .i64 x.fl, .int .i64 x.ma] 61)).ownsRow w.heap.size 61 5 u5 (bornP dir l (k + 1)).length (pcA (bornP dir l (k + 1)))) := HN.out ht _ _ (rowA_below hO.out hbA)
        have hB2 : Hid (Below w.heap.size w (wr.alloc (.cells #[.bool x.al, .int .i64 x.wh, .int .i64 x.id, .int .i64 x.fl, .int .i64 x.ma] 61))) := Below.on hB.out hbA
        clear HN HY hO hbA
        cases dir
        · have e1 : ¬ x.fl % 2 = 1 := by simpa [bornT] using ht
          have e2 : (x.fl % 2 == 1) = false := by simpa using e1
          go_wp2
          go_roundw
          case rel => exact ⟨k + 1, by omega, by go_num, hP2, hB2⟩
          case measure => simp [intOf]; omega
        · have e0 : ¬ x.fl / 2 % 2 = 1 ∧ ¬ (x.fl % 2 = 1 ∧ ¬ x.fl / 4 % 2 = 1) := by
            have := ht
            simp [bornT] at this
            exact ⟨this.1, fun h => h.2 (this.2 h.1)⟩
          have e2 : (x.fl / 2 % 2 == 1) = false := by simpa using e0.1
          by_cases e3 : x.fl % 2 = 1
          · have e4 : x.fl / 4 % 2 = 1 := Decidable.byContradiction fun h => e0.2 ⟨e3, h⟩
            go_wp2
            go_roundw
            case rel => exact ⟨k + 1, by omega, by go_num, hP2, hB2⟩
            case measure => simp [intOf]; omega
          · have e4 : (x.fl % 2 == 1) = false := by simpa using e3
            go_wp2
            go_roundw
            case rel => exact ⟨k + 1, by omega, by go_num, hP2, hB2⟩
            case measure => simp [intOf]; omega
      · have step : Hid (∀ f, bornG dir x.fl = f → ∃ v2 w2, (Builtin.append_ #[49, 49] 49 #[u5, .slice (some ⟨wr.heap.size + 1, 0, none⟩) 1 1]).run Try.prog ((wr.alloc (.cells #[.bool x.al, .int .i64 x.wh, .int .i64 x.id, .int .i64 f, .int .i64 x.ma] 61)).alloc (.cells #[.bool x.al, .int .i64 x.wh, .int .i64 x.id, .int .i64 f, .int .i64 x.ma] 61)) = .ok v2 w2 ∧ w2.ownsRow w.heap.size 61 5 v2 (bornP dir l (k + 1)).length (pcA (bornP dir l (k + 1))) ∧ Below w.heap.size w w2) := (by
          rintro f rfl
          have hbS : Below wr.heap.size wr (wr.alloc (.cells #[.bool x.al, .int .i64 x.wh, .int .i64 x.id, .int .i64 (bornG dir x.fl), .int .i64 x.ma] 61)) := bel_alloc _ _
          obtain ⟨v2, w2, hr, hO2, hB2⟩ := append_one (P := Try.prog) w _ 49 49 61 Try.underlying49 infoAce u5 acc (rowA_below hO.out hbS) (Below.on hB.out hbS) (bornX dir x) (by omega)
          have hz : (wr.alloc (.cells #[.bool x.al, .int .i64 x.wh, .int .i64 x.id, .int .i64 (bornG dir x.fl), .int .i64 x.ma] 61)).heap.size = wr.heap.size + 1 := by simp
          rw [hz] at hr
          exact ⟨v2, w2, hr, HY.out ht _ _ hO2, hB2⟩)
        clear HN HY hO hbA hB
        cases dir
        · have e1 : x.fl % 2 = 1 := by simpa [bornT] using ht
          obtain ⟨v2, w2, hr, hO2, hB2⟩ := step.out 0 rfl
          have HO2 : Hid (w2.ownsRow w.heap.size 61 5 v2 (bornP false l (k + 1)).length (pcA (bornP false l (k + 1)))) := hO2
          have HB2 : Hid (Below w.heap.size w w2) := hB2
          clear step hO2 hB2
          go_wp2_with (at_builtin; refine wpList_append_runA _ rfl (.tmp 56) (.tmp 58) 49 49 rfl _ _ _ _ rfl rfl hr ?_)
          go_roundw
          case rel => exact ⟨k + 1, by omega, by go_num, HO2, HB2⟩
          case measure => simp [intOf]; omega
        · by_cases e1 : x.fl / 2 % 2 = 1
          · by_cases e2 : x.fl / 4 % 2 = 1
            · obtain ⟨v2, w2, hr, hO2, hB2⟩ := step.out 0 (by simp [bornG, e1, e2])
              have HO2 : Hid (w2.ownsRow w.heap.size 61 5 v2 (bornP true l (k + 1)).length (pcA (bornP true l (k + 1)))) := hO2
              have HB2 : Hid (Below w.heap.size w w2) := hB2
              clear step hO2 hB2 ht
              go_wp2_with (at_builtin; refine wpList_append_runA _ rfl (.tmp 56) (.tmp 58) 49 49 rfl _ _ _ _ rfl rfl hr ?_)
              go_roundw
              case rel => exact ⟨k + 1, by omega, by go_num, HO2, HB2⟩
              case measure => simp [intOf]; omega
            · have e3 : (x.fl / 4 % 2 == 1) = false := by simpa using e2
              obtain ⟨v2, w2, hr, hO2, hB2⟩ := step.out (x.fl % 8) (by simp [bornG, e1, e2])
              have HO2 : Hid (w2.ownsRow w.heap.size 61 5 v2 (bornP true l (k + 1)).length (pcA (bornP true l (k + 1)))) := hO2
              have HB2 : Hid (Below w.heap.size w w2) := hB2
              clear step hO2 hB2 ht
              go_wp2_with (at_builtin; refine wpList_append_runA _ rfl (.tmp 69) (.tmp 71) 49 49 rfl _ _ _ _ rfl rfl hr ?_)
              go_roundw
              case rel => exact ⟨k + 1, by omega, by go_num, HO2, HB2⟩
              case measure => simp [intOf]; omega
          · have e4 : x.fl % 2 = 1 ∧ ¬ x.fl / 4 % 2 = 1 := by simpa [bornT, e1] using ht
            have e5 : x.fl % 2 = 1 := e4.1
            have e6 : (x.fl / 4 % 2 == 1) = false := by simpa using e4.2
            have e7 : (x.fl / 2 % 2 == 1) = false := by simpa using e1
            obtain ⟨v2, w2, hr, hO2, hB2⟩ := step.out 9 (by simp [bornG, e1])
            have HO2 : Hid (w2.ownsRow w.heap.size 61 5 v2 (bornP true l (k + 1)).length (pcA (bornP true l (k + 1)))) := hO2
            have HB2 : Hid (Below w.heap.size w w2) := hB2
            clear step hO2 hB2 ht
            go_wp2_with (at_builtin; refine wpList_append_runA _ rfl (.tmp 83) (.tmp 85) 49 49 rfl _ _ _ _ rfl rfl hr ?_)
            go_roundw
            case rel => exact ⟨k + 1, by omega, by go_num, HO2, HB2⟩
            case measure => simp [intOf]; omega
    · have : k = len := by omega
      subst this
      go_wp2
      go_ret
      exact ansL_row hO.out hB.out
set_option maxHeartbeats 2000000 in
theorem sNfsBorn_none (a : Option Addr) (cap : Nat) (dir : Bool) (w : World) :
    Calls Try.prog 57 #[.slice a 0 cap, .bool dir] w (AnsL [] w) := by
  have hR : Hid (∀ w, Calls Try.prog 53 #[.slice a 0 cap] w fun e w' => e = .returned (.bool true) ∧ w' = w) := sNfsRight_none a cap
  go_enter Try.func57, Try.ntmps57
  go_wp2_with (go_at_call 53; refine (hR.out _).mono ?_; rintro e w0 ⟨rfl, rfl⟩)
  go_rounds 1
  go_ret
  exact ansL_nil rfl (fun A e => by cases e; simp) (bel_alloc _ _)
/-- spec.NfsBorn. -/
theorem sNfsBorn_any (a : Option Addr) (len cap : Nat) (l : List Ac) (dir : Bool) (hl : len ≤ 1048576) (w : World) (hi : Acs a len l w) :
    Calls Try.prog 57 #[.slice a len cap, .bool dir] w (AnsL (bornL dir l) w) := by
  cases ha : acesB l
  · have e : bornL dir l = [] := by simp [bornL, ha]
    rw [e]
    exact sNfsBorn_no a len cap l dir hl ha w hi
  · have e : bornL dir l = bornP dir l l.length := by simp [bornL, ha]
    rw [e]
    obtain ⟨hln, hp⟩ := hi
    subst hln
    by_cases h0 : l.length = 0
    · rw [h0]
      exact sNfsBorn_none a cap dir w
    · obtain ⟨b, off, rfl, hlt, hc⟩ := hp (by omega)
      exact sNfsBorn_some b off cap l dir ha w hlt hc
end Go.Proofs.Ytgojbilbkfilgaa
/- What is handed on: to a file nothing with flags; once more the same. -/
namespace Go.Proofs.Ytgojbilbkfilgaa
open Go.RowKit Go.PlainAid Go.Deep
set_option linter.unusedVariables false
theorem bornP_flat (dir : Bool) (l : List Ac) : ∀ k, k ≤ l.length → bornP dir l k = (l.take k).flatMap (bornO dir) := by
  intro k
  induction k with
  | zero => intro _; simp [bornP]
  | succ k ih =>
    intro hk
    rw [bornP, ih (by omega), List.take_succ_eq_append_getElem (by omega), List.flatMap_append, acAt_get (by omega)]
    simp
theorem bornL_flat {dir : Bool} {l : List Ac} (h : acesB l = true) : bornL dir l = l.flatMap (bornO dir) := by
  rw [bornL, if_pos h, bornP_flat dir l _ (Nat.le_refl _), List.take_length]
theorem aces_of {l : List Ac} (h : l.length ≤ 32) (hm : ∀ x ∈ l, aceB x = true) : acesB l = true := by
  refine aces_yes h ?_
  have : ∀ k, k ≤ l.length → allA l k = true := by
    intro k
    induction k with
    | zero => intro _; rfl
    | succ k ih =>
      intro hk
      refine allA_next (ih (by omega)) ?_
      rw [acAt_get (by omega)]
      exact hm _ (List.getElem_mem _)
  exact this _ (Nat.le_refl _)
theorem bornO_mem {dir : Bool} {x y : Ac} (h : x ∈ bornO dir y) : x = bornX dir y ∧ bornT dir y.fl = true := by
  unfold bornO at h
  split at h
  · rename_i ht
    exact ⟨by simpa using h, ht⟩
  · cases h
theorem born_flags {l : List Ac} {k : Nat} (h : acesB l = true) (hk : k < (bornL false l).length) : (acAt (bornL false l) k).fl = 0 := by
  rw [acAt_get hk]
  have hm := List.getElem_mem hk
  generalize (bornL false l)[k] = x at hm ⊢
  rw [bornL_flat h, List.mem_flatMap] at hm
  obtain ⟨y, _, hy⟩ := hm
  obtain ⟨rfl, _⟩ := bornO_mem hy
  rfl
theorem born_ace {dir : Bool} {y : Ac} (h : aceB y = true) (ht : bornT dir y.fl = true) : aceB (bornX dir y) = true := by
  obtain ⟨h1, h2, h3, ⟨⟨f0, f1⟩, f2⟩, h5⟩ := aceB_iff.1 h
  refine aceB_iff.2 ⟨h1, h2, h3, ?_, h5⟩
  show (0 ≤ bornG dir y.fl ∧ bornG dir y.fl ≤ 15) ∧ (bornG dir y.fl < 4 ∨ bornG dir y.fl % 4 ≠ 0)
  unfold bornG
  split
  · split
    · split
      · omega
      · omega
    · omega
  · omega
theorem born_right {dir : Bool} {l : List Ac} (h : acesB l = true) : acesB (bornL dir l) = true := by
  refine aces_of (bornL_len dir l) (fun x hx => ?_)
  rw [bornL_flat h, List.mem_flatMap] at hx
  obtain ⟨y, hy, hxy⟩ := hx
  obtain ⟨rfl, ht⟩ := bornO_mem hxy
  exact born_ace (aces_mem h hy) ht
/-- Those that are not once. -/
def oftO (x : Ac) : List Ac := if x.fl / 4 % 2 = 0 then [x] else []
def oftN (l : List Ac) : Nat → List Ac
  | 0 => []
  | k + 1 => oftN l k ++ oftO (acAt l k)
theorem oftN_flat (l : List Ac) : ∀ k, k ≤ l.length → oftN l k = (l.take k).flatMap oftO := by
  intro k
  induction k with
  | zero => intro _; simp [oftN]
  | succ k ih =>
    intro hk
    rw [oftN, ih (by omega), List.take_succ_eq_append_getElem (by omega), List.flatMap_append, acAt_get (by omega)]
    simp
theorem oftN_len (l : List Ac) : ∀ k, (oftN l k).length ≤ k := by
  intro k
  induction k with
  | zero => simp [oftN]
  | succ k ih =>
    have : (oftO (acAt l k)).length ≤ 1 := by unfold oftO; split <;> simp
    rw [oftN, List.length_append]
    omega
theorem oft_mem {l : List Ac} {x : Ac} (h : x ∈ oftN l l.length) : x ∈ l ∧ x.fl / 4 % 2 = 0 := by
  rw [oftN_flat l _ (Nat.le_refl _), List.take_length, List.mem_flatMap] at h
  obtain ⟨y, hy, hx⟩ := h
  unfold oftO at hx
  split at hx
  · rename_i h0
    obtain rfl : x = y := by simpa using hx
    exact ⟨hy, h0⟩
  · cases hx
theorem oft_right {l : List Ac} (h : acesB l = true) : acesB (oftN l l.length) = true := by
  have h1 := oftN_len l l.length
  have h2 := aces_len h
  exact aces_of (by omega) (fun x hx => aces_mem h (oft_mem hx).1)
theorem born_step {x : Ac} (h : aceB x = true) (h4 : x.fl / 4 % 2 = 0) : (bornO true x).flatMap (bornO false) = bornO false x := by
  obtain ⟨_, _, _, ⟨⟨f0, f1⟩, f2⟩, _⟩ := aceB_iff.1 h
  obtain ⟨al, wh, id, f, ma⟩ := x
  simp only at f0 f1 f2 h4 ⊢
  rcases (by omega : f = 0 ∨ f = 1 ∨ f = 2 ∨ f = 3 ∨ f = 4 ∨ f = 5 ∨ f = 6 ∨ f = 7 ∨ f = 8 ∨ f = 9 ∨ f = 10 ∨ f = 11 ∨ f = 12 ∨ f = 13 ∨ f = 14 ∨ f = 15) with rfl | rfl | rfl | rfl | rfl | rfl | rfl | rfl | rfl | rfl | rfl | rfl | rfl | rfl | rfl | rfl <;> first | rfl | (simp at h4)
theorem flat_same {α : Type} {f g : α → List Ac} {h : Ac → List Ac} : ∀ l : List α, (∀ x ∈ l, (f x).flatMap h = g x) → (l.flatMap f).flatMap h = l.flatMap g := by
  intro l
  induction l with
  | nil => intro _; rfl
  | cons x l ih =>
    intro hx
    rw [List.flatMap_cons, List.flatMap_append, List.flatMap_cons, hx x (by simp), ih (fun y hy => hx y (by simp [hy]))]
theorem born_twice {l : List Ac} (h : acesB l = true) : bornL false (bornL true (oftN l l.length)) = bornL false (oftN l l.length) := by
  have ho := oft_right h
  rw [bornL_flat (born_right ho), bornL_flat ho, bornL_flat ho]
  exact flat_same _ (fun x hx => born_step (aces_mem h (oft_mem hx).1) (oft_mem hx).2)
end Go.Proofs.Ytgojbilbkfilgaa
