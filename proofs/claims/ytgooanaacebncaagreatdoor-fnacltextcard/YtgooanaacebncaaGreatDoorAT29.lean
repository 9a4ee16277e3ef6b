/- Laid together: AclTx, IAclTx, IAclTx2. -/
import Derived.Test.YtgooanaacebncaaGreatDoorAT27
import Derived.Test.YtgooanaacebncaaGreatDoorAT28
/- A list of names as text: l05Named, AclText of the specification; entries by the program. -/
namespace Go.Proofs.YtgooanaacebncaaGreatDoor
open Go.RowKit Go.PlainAid Go.Deep
set_option linter.unusedVariables false
theorem bitsS_size (n : Int) : (bitsS n).size ≤ 3 := by
  unfold bitsS
  split
  · exact Nat.le_refl _
  · exact Nat.zero_le _
/-- An entry. -/
def entT (word id : ByteArray) (b : Int) : ByteArray := word ++ ⟨#[58]⟩ ++ id ++ ⟨#[58]⟩ ++ bitsS b
/-- The entry of somebody who is named. -/
def nmE (word : ByteArray) (l : List (Int × Int)) (k : Nat) : ByteArray := entT word (decT (idAt l k).toNat) (btAt l k)
/-- The first k who are named, a comma ahead of each. -/
def nmTo (word : ByteArray) (l : List (Int × Int)) : Nat → ByteArray
  | 0 => ⟨#[]⟩
  | k + 1 => nmTo word l k ++ ⟨#[44]⟩ ++ word ++ ⟨#[58]⟩ ++ decT (idAt l k).toNat ++ ⟨#[58]⟩ ++ bitsS (btAt l k)
/-- The ids of a list may stand there. -/
def IdsIn (l : List (Int × Int)) : Prop := ∀ k, k < l.length → 0 ≤ idAt l k ∧ idAt l k ≤ 9999
theorem nm_ids {l : List (Int × Int)} (h : nmB l = true) : IdsIn l := by
  intro k hk
  cases e : okN l k
  · rw [nm_no hk e] at h; cases h
  · simp only [okN, Bool.and_eq_true] at e
    exact inR_iff.1 e.1
theorem nmTo_size {word : ByteArray} {l : List (Int × Int)} (hw : word.size ≤ 5) (h : IdsIn l) : ∀ k, k ≤ l.length → (nmTo word l k).size ≤ 15 * k := by
  intro k
  induction k with
  | zero => intro _; exact Nat.zero_le _
  | succ k ih =>
    intro hk
    have h1 := ih (by omega)
    have h2 := (decT_size (n := (idAt l k).toNat) (by have := h k (by omega); omega)).2
    have h3 := bitsS_size (btAt l k)
    have e1 : (⟨#[44]⟩ : ByteArray).size = 1 := rfl
    have e2 : (⟨#[58]⟩ : ByteArray).size = 1 := rfl
    simp only [nmTo, ByteArray.size_append]
    omega
theorem nmE_size {word : ByteArray} {l : List (Int × Int)} (hw : word.size ≤ 5) (h : IdsIn l) {k : Nat} (hk : k < l.length) : (nmE word l k).size ≤ 15 := by
  have h2 := (decT_size (n := (idAt l k).toNat) (by have := h k (by omega); omega)).2
  have h3 := bitsS_size (btAt l k)
  have e2 : (⟨#[58]⟩ : ByteArray).size = 1 := rfl
  simp only [nmE, entT, ByteArray.size_append]
  omega
def aclX (u g : Int) (us gs : List (Int × Int)) : ByteArray := ⟨#[117, 115, 101, 114, 58, 58]⟩ ++ bitsS u ++ nmTo ⟨#[117, 115, 101, 114]⟩ us us.length ++ ⟨#[44, 103, 114, 111, 117, 112, 58, 58]⟩ ++ bitsS g ++ nmTo ⟨#[103, 114, 111, 117, 112]⟩ gs gs.length
def aclY (x : ByteArray) (r : Bool) (m : Int) : ByteArray := if r then x ++ ⟨#[44, 109, 97, 115, 107, 58, 58]⟩ ++ bitsS m else x
/-- AclText of a right one. -/
def aclTx (u g o : Int) (us gs : List (Int × Int)) (r : Bool) (m : Int) : ByteArray := aclY (aclX u g us gs) r m ++ ⟨#[44, 111, 116, 104, 101, 114, 58, 58]⟩ ++ bitsS o
/-- AclText. -/
def aclT (u g o : Int) (us gs : List (Int × Int)) (r : Bool) (m : Int) : ByteArray := if aclB u g o us gs r m then aclTx u g o us gs r m else ⟨#[]⟩
theorem acl_facts {u g o : Int} {us gs : List (Int × Int)} {r : Bool} {m : Int} (h : aclB u g o us gs r m = true) : nmB us = true ∧ nmB gs = true := by
  simp only [aclB, Bool.and_eq_true] at h
  exact ⟨h.2.2.2.2.1, h.2.2.2.2.2.1⟩
theorem aclX_size {u g : Int} {us gs : List (Int × Int)} (hu : nmB us = true) (hg : nmB gs = true) : (aclX u g us gs).size ≤ 250 := by
  have h1 := bitsS_size u
  have h2 := bitsS_size g
  have h3 := nmTo_size (word := ⟨#[117, 115, 101, 114]⟩) (by decide) (nm_ids hu) us.length (Nat.le_refl _)
  have h4 := nmTo_size (word := ⟨#[103, 114, 111, 117, 112]⟩) (by decide) (nm_ids hg) gs.length (Nat.le_refl _)
  have h5 := nm_len hu
  have h6 := nm_len hg
  have e1 : (⟨#[117, 115, 101, 114, 58, 58]⟩ : ByteArray).size = 6 := rfl
  have e2 : (⟨#[44, 103, 114, 111, 117, 112, 58, 58]⟩ : ByteArray).size = 8 := rfl
  simp only [aclX, ByteArray.size_append]
  omega
theorem ret_aclT {a b : ByteArray} (h : a = b) : Ending.returned (.string a) = .returned (.string b) := by rw [h]
set_option maxRecDepth 100000 in
set_option maxHeartbeats 4000000 in
/-- spec.l05Named. -/
theorem sNamedT_any (word : ByteArray) (hw : word.size ≤ 5) (a : Option Addr) (len cap : Nat) (l : List (Int × Int)) (hl : len ≤ 6) (hid : IdsIn l) (w : World) (hi : Prs a len l w) :
    Calls Tryz.prog 33 #[.string word, .slice a len cap] w fun e w' => e = .returned (.string (nmTo word l len)) ∧ Below w.heap.size w w' := by
  have HD : Hid (∀ k w, k < len → Calls Tryz.prog 62 #[.int .i64 (idAt l k)] w fun e w' => e = .returned (.string (decT (idAt l k).toNat)) ∧ Below w.heap.size w w') := (fun k w hk => by
    have h1 := hid k (by rw [hi.1]; exact hk)
    have h2 := sDec_any (idAt l k).toNat (by omega) w
    rwa [Int.toNat_of_nonneg h1.1] at h2)
  have HBt : Hid (∀ k w, Calls Tryz.prog 32 #[.int .i64 (btAt l k)] w fun e w' => e = .returned (.string (bitsS (btAt l k))) ∧ Below w.heap.size w w') := (fun k w => by
    refine (sBitsText_any (btAt l k) w).mono ?_
    rintro e w' ⟨rfl, rfl⟩
    exact ⟨rfl, Below.refl _ _⟩)
  have HS : Hid (∀ k, k ≤ len → (nmTo word l k).size ≤ 90) := (fun k hk => by have := nmTo_size hw hid k (by rw [hi.1]; exact hk); omega)
  have HSD : Hid (∀ k, k < len → (decT (idAt l k).toNat).size ≤ 4) := (fun k hk => (decT_size (by have := hid k (by rw [hi.1]; exact hk); omega)).2)
  have HSB : Hid (∀ k, (bitsS (btAt l k)).size ≤ 3) := (fun k => bitsS_size _)
  have HN : Hid (∀ k, nmTo word l (k + 1) = nmTo word l k ++ ⟨#[44]⟩ ++ word ++ ⟨#[58]⟩ ++ decT (idAt l k).toNat ++ ⟨#[58]⟩ ++ bitsS (btAt l k)) := (fun k => rfl)
  have HI : Hid (Prs a len l w) := hi
  clear hi hid
  go_enter Tryz.func33, Tryz.ntmps33
  go_wp2
  go_loopw [5, 6] (fun s i wr => ∃ k : Nat, k ≤ len ∧ i = .int .i64 k ∧ s = .string (nmTo word l k) ∧ Hid (Below w.heap.size w wr)) (fun _ i _ => len - (intOf i).toNat)
  case atStart => exact ⟨0, Nat.zero_le _, rfl, rfl, Below.refl _ _⟩
  case round =>
    obtain ⟨k, hk, rfl, rfl, hB⟩ := hrel
    by_cases hlt : k < len
    · have hlt' : (k : Int) < (len : Int) := by omega
      obtain ⟨b, off, rfl, hbl, hcl⟩ := HI.out.2 (by omega)
      have c0 : wr.cell? ⟨b, off + k * 2, none⟩ = some (.int .i64 (idAt l k)) := (hB.out.cell (p := ⟨b, off + k * 2, none⟩) hbl).trans (hcl k hlt).1
      have c1 : wr.cell? ⟨b, off + k * 2 + 1, none⟩ = some (.int .i64 (btAt l k)) := (hB.out.cell (p := ⟨b, off + k * 2 + 1, none⟩) hbl).trans (hcl k hlt).2
      have d0 : Hid (∀ w, Calls Tryz.prog 62 #[.int .i64 (idAt l k)] w fun e w' => e = .returned (.string (decT (idAt l k).toNat)) ∧ Below w.heap.size w w') := (fun w => HD.out k w hlt)
      have d1 : Hid (∀ w, Calls Tryz.prog 32 #[.int .i64 (btAt l k)] w fun e w' => e = .returned (.string (bitsS (btAt l k))) ∧ Below w.heap.size w w') := HBt.out k
      have hn : Hid _ := HN.out k
      have s0 := HS.out k hk
      have s1 := HSD.out k hlt
      have s2 := HSB.out k
      clear hcl
      generalize nmTo word l k = T at s0 hn
      generalize decT (idAt l k).toNat = D at d0 s1 hn
      generalize bitsS (btAt l k) = BT at d1 s2 hn
      generalize idAt l k = x at c0 d0
      generalize btAt l k = y at c1 d1
      have q0 := fun d os => cell_regrown c0 d os
      have q1 := fun d os => cell_regrown c1 d os
      have r0 : ∀ d os, Calls Tryz.prog 62 #[.int .i64 x] (Go.Sort.grow (redrawn wr d) os) fun e w'' => e = .returned (.string D) ∧ ∃ p : Regrown, w'' = Go.Sort.grow (redrawn wr p.d) p.os := fun d os => Calls.regrown_of (d0.out _)
      have r1 : ∀ d os, Calls Tryz.prog 32 #[.int .i64 y] (Go.Sort.grow (redrawn wr d) os) fun e w'' => e = .returned (.string BT) ∧ ∃ p : Regrown, w'' = Go.Sort.grow (redrawn wr p.d) p.os := fun d os => Calls.regrown_of (d1.out _)
      have e1 : (⟨#[44]⟩ : ByteArray).size = 1 := rfl
      have e2 : (⟨#[58]⟩ : ByteArray).size = 1 := rfl
      go_wp2_with fail
      refine wp_region_quiet_below (by kernel_rfl) (by kernel_rfl) ?_
      repeat (go_big_quiet_step (first | (go_at_call 62; exact r0 _ _) | (go_at_call 32; exact r1 _ _)))
      refine wpQuiet_nil ?_
      intro _ hw'
      obtain ⟨⟨dq, osq⟩, hw''⟩ := hw'
      subst hw''
      have hB2 : Hid (Below w.heap.size w (Go.Sort.grow (redrawn wr dq) osq)) := Below.on hB.out (below_regrown wr dq osq)
      generalize Go.Sort.grow (redrawn wr dq) osq = w2 at hB2 ⊢
      clear q0 q1 r0 r1 c0 c1 d0 d1
      go_wp2
      go_roundw
      case rel => exact ⟨k + 1, by omega, by go_num, by rw [hn.out], hB2⟩
      case measure => simp [intOf]; omega
    · have : k = len := by omega
      subst this
      go_wp2
      go_ret
      exact ⟨rfl, hB.out⟩
set_option maxRecDepth 100000 in
set_option maxHeartbeats 4000000 in
/-- spec.AclText. -/
theorem sAclText_any (u g o : Int) (au : Option Addr) (lu cu : Nat) (ag : Option Addr) (lg cg : Nat) (r : Bool) (m : Int) (us gs : List (Int × Int)) (hlu : lu ≤ 1048576) (hlg : lg ≤ 1048576) (w : World) (hu : Prs au lu us w) (hg : Prs ag lg gs w) :
    Calls Tryz.prog 12 #[.agg #[.int .i64 u, .int .i64 g, .int .i64 o, .slice au lu cu, .slice ag lg cg, .bool r, .int .i64 m]] w fun e w' => e = .returned (.string (aclT u g o us gs r m)) ∧ Below w.heap.size w w' := by
  have hR : Hid (∀ w', Below w.heap.size w w' → Calls Tryz.prog 31 #[.agg #[.int .i64 u, .int .i64 g, .int .i64 o, .slice au lu cu, .slice ag lg cg, .bool r, .int .i64 m]] w' fun e w'' => e = .returned (.bool (aclB u g o us gs r m)) ∧ Below w'.heap.size w' w'') := (fun w' hb => sAclRight_any u g o au lu cu ag lg cg r m us gs hlu hlg w' (hu.below hb) (hg.below hb))
  have hX0 : Hid (Box7 (w.alloc (.cells #[.int .i64 u, .int .i64 g, .int .i64 o, .slice au lu cu, .slice ag lg cg, .bool r, .int .i64 m] 25)) w.heap.size (.int .i64 u) (.int .i64 g) (.int .i64 o) (.slice au lu cu) (.slice ag lg cg) (.bool r) (.int .i64 m)) := box7_new w _ _ _ _ _ _ _ _
  have hW0 : Hid (Below w.heap.size w (w.alloc (.cells #[.int .i64 u, .int .i64 g, .int .i64 o, .slice au lu cu, .slice ag lg cg, .bool r, .int .i64 m] 25))) := bel_alloc _ _
  cases hb : aclB u g o us gs r m
  · have hn : aclT u g o us gs r m = ⟨#[]⟩ := by rw [aclT, hb]; rfl
    rw [hn]
    rw [hb] at hR
    clear hn hb hu hg hlu hlg
    obtain ⟨xl, x0, x1, x2, x3, x4, x5, x6⟩ := hX0.out
    go_enter Tryz.func12, Tryz.ntmps12
    go_wp2_with fail
    refine (hR.out _ hW0.out).mono ?_
    rintro e w1 ⟨rfl, hb1⟩
    have hW1 : Hid (Below w.heap.size w w1) := Below.on hW0.out hb1
    clear hb1 hR xl x0 x1 x2 x3 x4 x5 x6
    go_wp2
    go_ret
    exact ⟨rfl, hW1.out⟩
  · obtain ⟨nu, ng⟩ := acl_facts hb
    have hn : aclT u g o us gs r m = aclTx u g o us gs r m := by rw [aclT, hb]; rfl
    rw [hn]
    rw [hb] at hR
    have eu := hu.1
    have eg := hg.1
    have lu6 := nm_len nu
    have lg6 := nm_len ng
    have HU : Hid (∀ w', Below w.heap.size w w' → Calls Tryz.prog 33 #[.string ⟨#[117, 115, 101, 114]⟩, .slice au lu cu] w' fun e w'' => e = .returned (.string (nmTo ⟨#[117, 115, 101, 114]⟩ us us.length)) ∧ Below w'.heap.size w' w'') := (fun w' hb => by rw [eu]; exact sNamedT_any _ (by decide) au lu cu us (by omega) (nm_ids nu) w' (hu.below hb))
    have HG : Hid (∀ w', Below w.heap.size w w' → Calls Tryz.prog 33 #[.string ⟨#[103, 114, 111, 117, 112]⟩, .slice ag lg cg] w' fun e w'' => e = .returned (.string (nmTo ⟨#[103, 114, 111, 117, 112]⟩ gs gs.length)) ∧ Below w'.heap.size w' w'') := (fun w' hb => by rw [eg]; exact sNamedT_any _ (by decide) ag lg cg gs (by omega) (nm_ids ng) w' (hg.below hb))
    have HBt : Hid (∀ n w, Calls Tryz.prog 32 #[.int .i64 n] w fun e w' => e = .returned (.string (bitsS n)) ∧ Below w.heap.size w w') := (fun n w => by
      refine (sBitsText_any n w).mono ?_
      rintro e w' ⟨rfl, rfl⟩
      exact ⟨rfl, Below.refl _ _⟩)
    have zu : (nmTo ⟨#[117, 115, 101, 114]⟩ us us.length).size ≤ 90 := by have := nmTo_size (word := ⟨#[117, 115, 101, 114]⟩) (by decide) (nm_ids nu) us.length (Nat.le_refl _); omega
    have zg : (nmTo ⟨#[103, 114, 111, 117, 112]⟩ gs gs.length).size ≤ 90 := by have := nmTo_size (word := ⟨#[103, 114, 111, 117, 112]⟩) (by decide) (nm_ids ng) gs.length (Nat.le_refl _); omega
    have HX : Hid (aclX u g us gs = ⟨#[117, 115, 101, 114, 58, 58]⟩ ++ bitsS u ++ nmTo ⟨#[117, 115, 101, 114]⟩ us us.length ++ ⟨#[44, 103, 114, 111, 117, 112, 58, 58]⟩ ++ bitsS g ++ nmTo ⟨#[103, 114, 111, 117, 112]⟩ gs gs.length) := rfl
    have zx : (aclX u g us gs).size ≤ 250 := aclX_size nu ng
    have HT : Hid (aclTx u g o us gs r m = aclY (aclX u g us gs) r m ++ ⟨#[44, 111, 116, 104, 101, 114, 58, 58]⟩ ++ bitsS o) := rfl
    have b0 := bitsS_size u
    have b1 := bitsS_size g
    have b2 := bitsS_size o
    have b3 := bitsS_size m
    have hu0 : Hid (∀ w, Calls Tryz.prog 32 #[.int .i64 u] w fun e w' => e = .returned (.string (bitsS u)) ∧ Below w.heap.size w w') := HBt.out u
    have hg0 : Hid (∀ w, Calls Tryz.prog 32 #[.int .i64 g] w fun e w' => e = .returned (.string (bitsS g)) ∧ Below w.heap.size w w') := HBt.out g
    have ho0 : Hid (∀ w, Calls Tryz.prog 32 #[.int .i64 o] w fun e w' => e = .returned (.string (bitsS o)) ∧ Below w.heap.size w w') := HBt.out o
    have hm0 : Hid (∀ w, Calls Tryz.prog 32 #[.int .i64 m] w fun e w' => e = .returned (.string (bitsS m)) ∧ Below w.heap.size w w') := HBt.out m
    have HY : Hid (∀ X, aclY X r m = if r then X ++ ⟨#[44, 109, 97, 115, 107, 58, 58]⟩ ++ bitsS m else X) := (fun X => rfl)
    clear hn hb hu hg hlu hlg nu ng eu eg lu6 lg6 HBt
    generalize aclTx u g o us gs r m = R at HT ⊢
    generalize aclX u g us gs = XX at HX zx HT
    generalize nmTo ⟨#[117, 115, 101, 114]⟩ us us.length = NU at HU zu HX
    generalize nmTo ⟨#[103, 114, 111, 117, 112]⟩ gs gs.length = NG at HG zg HX
    generalize bitsS u = BU at hu0 b0 HX
    generalize bitsS g = BG at hg0 b1 HX
    generalize bitsS o = BO at ho0 b2 HT
    generalize bitsS m = BM at hm0 b3 HY
    have y0 : (⟨#[117, 115, 101, 114, 58, 58]⟩ : ByteArray).size = 6 := rfl
    have y1 : (⟨#[44, 103, 114, 111, 117, 112, 58, 58]⟩ : ByteArray).size = 8 := rfl
    have y2 : (⟨#[44, 109, 97, 115, 107, 58, 58]⟩ : ByteArray).size = 7 := rfl
    have y3 : (⟨#[44, 111, 116, 104, 101, 114, 58, 58]⟩ : ByteArray).size = 8 := rfl
    obtain ⟨xl, x0, x1, x2, x3, x4, x5, x6⟩ := hX0.out
    go_enter Tryz.func12, Tryz.ntmps12
    go_wp2_with fail
    refine (hR.out _ hW0.out).mono ?_
    rintro e w1 ⟨rfl, hb1⟩
    have hW1 : Hid (Below w.heap.size w w1) := Below.on hW0.out hb1
    have hX1 : Hid (Box7 w1 w.heap.size (.int .i64 u) (.int .i64 g) (.int .i64 o) (.slice au lu cu) (.slice ag lg cg) (.bool r) (.int .i64 m)) := hX0.out.below hb1
    clear hb1 hR xl x0 x1 x2 x3 x4 x5 x6 hX0 hW0
    obtain ⟨xl, x0, x1, x2, x3, x4, x5, x6⟩ := hX1.out
    have q0 := fun d os => cell_regrown x0 d os
    have q1 := fun d os => cell_regrown x1 d os
    have q3 := fun d os => cell_regrown x3 d os
    have q4 := fun d os => cell_regrown x4 d os
    have r0 : ∀ d os, Calls Tryz.prog 32 #[.int .i64 u] (Go.Sort.grow (redrawn w1 d) os) fun e w'' => e = .returned (.string BU) ∧ ∃ p : Regrown, w'' = Go.Sort.grow (redrawn w1 p.d) p.os := fun d os => Calls.regrown_of (hu0.out _)
    have r1 : ∀ d os, Calls Tryz.prog 33 #[.string ⟨#[117, 115, 101, 114]⟩, .slice au lu cu] (Go.Sort.grow (redrawn w1 d) os) fun e w'' => e = .returned (.string NU) ∧ ∃ p : Regrown, w'' = Go.Sort.grow (redrawn w1 p.d) p.os := fun d os => Calls.regrown_of (HU.out _ (Below.on hW1.out (below_regrown w1 d os)))
    have r2 : ∀ d os, Calls Tryz.prog 32 #[.int .i64 g] (Go.Sort.grow (redrawn w1 d) os) fun e w'' => e = .returned (.string BG) ∧ ∃ p : Regrown, w'' = Go.Sort.grow (redrawn w1 p.d) p.os := fun d os => Calls.regrown_of (hg0.out _)
    have r3 : ∀ d os, Calls Tryz.prog 33 #[.string ⟨#[103, 114, 111, 117, 112]⟩, .slice ag lg cg] (Go.Sort.grow (redrawn w1 d) os) fun e w'' => e = .returned (.string NG) ∧ ∃ p : Regrown, w'' = Go.Sort.grow (redrawn w1 p.d) p.os := fun d os => Calls.regrown_of (HG.out _ (Below.on hW1.out (below_regrown w1 d os)))
    go_wp2_with fail
    refine wp_region_quiet_below (by kernel_rfl) (by kernel_rfl) ?_
    repeat (go_big_quiet_step (fail))
    go_big_quiet_step (exact r0 _ _)
    repeat (go_big_quiet_step (fail))
    go_big_quiet_step (exact r1 _ _)
    repeat (go_big_quiet_step (fail))
    go_big_quiet_step (exact r2 _ _)
    repeat (go_big_quiet_step (fail))
    go_big_quiet_step (exact r3 _ _)
    repeat (go_big_quiet_step (fail))
    refine wpQuiet_nil ?_
    intro _ hw'
    obtain ⟨⟨dq, osq⟩, hw''⟩ := hw'
    subst hw''
    have hbq := below_regrown w1 dq osq
    have hW2 : Hid (Below w.heap.size w (Go.Sort.grow (redrawn w1 dq) osq)) := Below.on hW1.out hbq
    have hX2 : Hid (Box7 (Go.Sort.grow (redrawn w1 dq) osq) w.heap.size (.int .i64 u) (.int .i64 g) (.int .i64 o) (.slice au lu cu) (.slice ag lg cg) (.bool r) (.int .i64 m)) := hX1.out.below hbq
    generalize Go.Sort.grow (redrawn w1 dq) osq = w2 at hW2 hX2 ⊢
    rw [← HX.out]
    clear q0 q1 q3 q4 r0 r1 r2 r3 hbq xl x0 x1 x2 x3 x4 x5 x6 hX1 hW1 HU HG hu0 hg0 HX zu zg b0 b1 y0 y1
    obtain ⟨xl, x0, x1, x2, x3, x4, x5, x6⟩ := hX2.out
    cases r
    · have hy : Hid (R = XX ++ ⟨#[44, 111, 116, 104, 101, 114, 58, 58]⟩ ++ BO) := (by show _ = _; rw [HT.out, HY.out]; rfl)
      go_wp2_with fail
      refine (ho0.out _).mono ?_
      rintro e w3 ⟨rfl, hb3⟩
      have hW3 : Hid (Below w.heap.size w w3) := Below.on hW2.out hb3
      clear hb3 xl x0 x1 x2 x3 x4 x5 x6
      go_wp2
      go_ret
      exact ⟨ret_aclT hy.out.symm, hW3.out⟩
    · have hy : Hid (R = XX ++ ⟨#[44, 109, 97, 115, 107, 58, 58]⟩ ++ BM ++ ⟨#[44, 111, 116, 104, 101, 114, 58, 58]⟩ ++ BO) := (by show _ = _; rw [HT.out, HY.out]; rfl)
      go_wp2_with fail
      refine (hm0.out _).mono ?_
      rintro e w3 ⟨rfl, hb3⟩
      have hW3 : Hid (Below w.heap.size w w3) := Below.on hW2.out hb3
      have hX3 : Hid (Box7 w3 w.heap.size (.int .i64 u) (.int .i64 g) (.int .i64 o) (.slice au lu cu) (.slice ag lg cg) (.bool true) (.int .i64 m)) := hX2.out.below hb3
      clear hb3 xl x0 x1 x2 x3 x4 x5 x6
      obtain ⟨xl, x0, x1, x2, x3, x4, x5, x6⟩ := hX3.out
      go_wp2_with fail
      refine (ho0.out _).mono ?_
      rintro e w4 ⟨rfl, hb4⟩
      have hW4 : Hid (Below w.heap.size w w4) := Below.on hW3.out hb4
      clear hb4 xl x0 x1 x2 x3 x4 x5 x6
      go_wp2
      go_ret
      exact ⟨ret_aclT hy.out.symm, hW4.out⟩
set_option maxRecDepth 100000 in
set_option maxHeartbeats 2000000 in
/-- impl.entryText. -/
theorem iEntry_any (word id : ByteArray) (b : Int) (hs : word.size + id.size ≤ 1000) (w : World) :
    Calls Tryz.prog 21 #[.string word, .string id, .int .i64 b] w fun e w' => e = .returned (.string (entT word id b)) ∧ Below w.heap.size w w' := by
  have hB : Hid (Calls Tryz.prog 51 #[.int .i64 b] w fun e w' => e = .returned (.string (bitsS b)) ∧ Below w.heap.size w w') := iBitsText_any b w
  have hz := bitsS_size b
  have HE : Hid (entT word id b = word ++ ⟨#[58]⟩ ++ id ++ ⟨#[58]⟩ ++ bitsS b) := rfl
  have HJ : Hid (∀ w, Calls Tryz.prog 50 #[.slice (some ⟨w.heap.size, 0, none⟩) 5 5] (w.alloc (.cells #[.string word, .string ⟨#[58]⟩, .string id, .string ⟨#[58]⟩, .string (bitsS b)] 9)) fun e' w' => e' = .returned (.string (word ++ ⟨#[58]⟩ ++ id ++ ⟨#[58]⟩ ++ bitsS b)) ∧ Below w.heap.size w w') := (fun w => join_five _ _ _ _ _ w (by have e2 : (⟨#[58]⟩ : ByteArray).size = 1 := rfl; omega) 5)
  generalize bitsS b = BT at hB HE HJ
  generalize entT word id b = R at HE ⊢
  clear hz hs
  go_enter Tryz.func21, Tryz.ntmps21
  go_wp2_with fail
  refine hB.out.mono ?_
  rintro e w1 ⟨rfl, hb1⟩
  have hW1 : Hid (Below w.heap.size w w1) := hb1
  clear hb1
  go_wp2_with fail
  refine (HJ.out _).mono ?_
  rintro e w2 ⟨rfl, hb2⟩
  have hW2 : Hid (Below w.heap.size w w2) := Below.on hW1.out hb2
  clear hb2
  go_wp2
  go_ret
  exact ⟨ret_aclT HE.out.symm, hW2.out⟩
/-- append of one text, with what it leaves as it was. -/
theorem append_textG (w0 w : World) (v : Value) (l : List ByteArray) (hown : w.ownsRow w0.heap.size 9 1 v l.length (tv l)) (hB : Below w0.heap.size w0 w) (x : ByteArray) (hsm : l.length ≤ 100000000) :
    ∃ v' w', (Builtin.append_ #[40, 40] 40 #[v, .slice (some ⟨w.heap.size, 0, none⟩) 1 1]).run Tryz.prog (w.alloc (.cells #[.string x] 9)) = .ok v' w' ∧ w'.ownsRow w0.heap.size 9 1 v' (l ++ [x]).length (tv (l ++ [x])) ∧ Below w0.heap.size w0 w' ∧ ∀ (b o : Nat), b < w.heap.size → v.ownBlock ≠ some b → w'.cell? ⟨b, o, none⟩ = w.cell? ⟨b, o, none⟩ := by
  obtain ⟨i, hi, hzz⟩ := Option.map_eq_some_iff.1 infoStr
  simp only [Prod.mk.injEq] at hzz
  obtain ⟨hz, hs, hb⟩ := hzz
  have hb1 := bel_alloc w (.cells #[.string x] 9)
  have hB1 := Below.on hB hb1
  have hown1 := rowT_below hown hb1
  obtain ⟨v', w', hr, h1, h2, _⟩ := run_append_own (P := Tryz.prog) _ w0.heap.size 40 40 9 i _ 1 16 Tryz.underlying40 hi hz hs hb rfl (by decide) v l.length (tv l) hown1 ⟨w.heap.size, 0, none⟩ 1 1 [.string x] rfl (text_new w x _) (one_text x) (by unfold maxLen; omega) (by omega) hB1.size
  refine ⟨v', w', hr, ?_, hB1.grown h2 hB1.size (own_blockT hown1), fun b o hlt hne => ?_⟩
  · rw [tv_snoc, List.length_append]
    exact h1
  · exact (World.cell?_of_block (h2.block b (by simp; omega) (fun e => hne e.symm))).trans (hb1.cell (p := ⟨b, o, none⟩) hlt)
/-- append of a row of texts onto another one that is not empty. -/
theorem append_rowT (w0 w : World) (v v2 : Value) (l l2 : List ByteArray) {B2 : Nat} (hown : w.ownsRow w0.heap.size 9 1 v l.length (tv l)) (hpos : 0 < l.length) (hB : Below w0.heap.size w0 w) (hown2 : w.ownsRow B2 9 1 v2 l2.length (tv l2)) (hsm : l.length ≤ 1000000) (hsm2 : l2.length ≤ 1000000) :
    ∃ v' w', (Builtin.append_ #[40, 40] 40 #[v, v2]).run Tryz.prog w = .ok v' w' ∧ w'.ownsRow w0.heap.size 9 1 v' (l ++ l2).length (tv (l ++ l2)) ∧ Below w0.heap.size w0 w' ∧ ∀ (b o : Nat), b < w.heap.size → v.ownBlock ≠ some b → w'.cell? ⟨b, o, none⟩ = w.cell? ⟨b, o, none⟩ := by
  obtain ⟨i, hi, hzz⟩ := Option.map_eq_some_iff.1 infoStr
  simp only [Prod.mk.injEq] at hzz
  obtain ⟨hz, hs, hb⟩ := hzz
  have hown2' := hown2
  obtain ⟨_, ⟨rfl, hn⟩ | ⟨g, cap, cur, rfl, _, _, _, _, _, _⟩⟩ := hown2
  · have hl2 : l2 = [] := List.eq_nil_of_length_eq_zero hn
    subst hl2
    have hown' := hown
    obtain ⟨_, ⟨_, hn0⟩ | ⟨g, cap, cur, rfl, _, _, hc, _, _, _⟩⟩ := hown
    · omega
    · refine ⟨_, w, run_append_room_src (P := Tryz.prog) w 40 40 40 9 i Tryz.underlying40 hi g 0 l.length cap (.slice none 0 0) 0 [] (Src.ofNil w Tryz.underlying40 0) (by omega) (fun j hj => by simp at hj) (fun j hj => by simp at hj), ?_, ?_, ?_⟩
      · simpa using hown'
      · exact hB
      · intro b o _ _
        rfl
  · obtain ⟨v', w', hr, h1, h2, _⟩ := run_append_own (P := Tryz.prog) w w0.heap.size 40 40 9 i _ 1 16 Tryz.underlying40 hi hz hs hb rfl (by decide) v l.length (tv l) hown ⟨g, 0, none⟩ l2.length cap (tv l2) (by simp [tv]) (hown2'.cells rfl) (fun u hu => by simp [tv] at hu; obtain ⟨x, _, rfl⟩ := hu; rfl) (by unfold maxLen; omega) (by omega) hB.size
    refine ⟨v', w', hr, ?_, hB.grown h2 hB.size (own_blockT hown), fun b o hlt hne => World.cell?_of_block (h2.block b hlt (fun e => hne e.symm))⟩
    have e1 : tv (l ++ l2) = tv l ++ tv l2 := by simp [tv]
    rw [e1, List.length_append]
    exact h1
/-- The entries of the first k. -/
def nmL (word : ByteArray) (l : List (Int × Int)) (k : Nat) : List ByteArray := (List.range k).map (nmE word l)
theorem nmL_len (word : ByteArray) (l : List (Int × Int)) (k : Nat) : (nmL word l k).length = k := by simp [nmL]
theorem nmL_snoc (word : ByteArray) (l : List (Int × Int)) (k : Nat) : nmL word l (k + 1) = nmL word l k ++ [nmE word l k] := by simp [nmL, List.range_succ]
theorem own_lt {w : World} {B : Nat} {t : TypeId} {v : Value} {n : Nat} {xs : List Value} (h : w.ownsRow B t 1 v n xs) : v.ownBlock ≠ some w.heap.size := by
  intro e
  have := (h.lt _ e).2
  omega
set_option maxRecDepth 100000 in
set_option maxHeartbeats 4000000 in
/-- impl.namedTexts. -/
theorem iNamedT_any (word : ByteArray) (hw : word.size ≤ 5) (a : Option Addr) (len cap : Nat) (l : List (Int × Int)) (hl : len ≤ 6) (hid : IdsIn l) (w : World) (hi : Prs a len l w) (hp : PowW w) :
    Calls Tryz.prog 22 #[.string word, .slice a len cap] w fun e w' => ∃ v, e = .returned v ∧ w'.ownsRow w.heap.size 9 1 v (nmL word l len).length (tv (nmL word l len)) ∧ Below w.heap.size w w' := by
  have HD : Hid (∀ k w', k < len → Below w.heap.size w w' → Calls Tryz.prog 52 #[.int .i64 (idAt l k)] w' fun e w'' => e = .returned (.string (decT (idAt l k).toNat)) ∧ Below w'.heap.size w' w'') := (fun k w' hk hb => by
    have h1 := hid k (by rw [hi.1]; exact hk)
    have h2 := iDigits_any (idAt l k).toNat (by omega) w' (hp.below hb)
    rwa [Int.toNat_of_nonneg h1.1] at h2)
  have HE : Hid (∀ k w', k < len → Calls Tryz.prog 21 #[.string word, .string (decT (idAt l k).toNat), .int .i64 (btAt l k)] w' fun e w'' => e = .returned (.string (nmE word l k)) ∧ Below w'.heap.size w' w'') := (fun k w' hk => iEntry_any word _ _ (by have := (decT_size (n := (idAt l k).toNat) (by have := hid k (by rw [hi.1]; exact hk); omega)).2; omega) w')
  have HN : Hid (∀ k, nmL word l (k + 1) = nmL word l k ++ [nmE word l k]) := nmL_snoc word l
  have HNL : Hid (∀ k, (nmL word l k).length = k) := nmL_len word l
  have HI : Hid (Prs a len l w) := hi
  clear hi hid hp
  go_enter Tryz.func22, Tryz.ntmps22
  go_wp2
  go_loopw [5, 10] (fun v i wr => ∃ k : Nat, k ≤ len ∧ i = .int .i64 k ∧ Hid (wr.ownsRow w.heap.size 9 1 v (nmL word l k).length (tv (nmL word l k))) ∧ Hid (Below w.heap.size w wr)) (fun _ i _ => len - (intOf i).toNat)
  case atStart => exact ⟨0, Nat.zero_le _, rfl, World.ownsRow_nil _ _ _ _, Below.refl _ _⟩
  case round =>
    obtain ⟨k, hk, rfl, hOw, hB⟩ := hrel
    by_cases hlt : k < len
    · have hlt' : (k : Int) < (len : Int) := by omega
      obtain ⟨b, off, rfl, hbl, hcl⟩ := HI.out.2 (by omega)
      have c0 : wr.cell? ⟨b, off + k * 2, none⟩ = some (.int .i64 (idAt l k)) := (hB.out.cell (p := ⟨b, off + k * 2, none⟩) hbl).trans (hcl k hlt).1
      have c1 : wr.cell? ⟨b, off + k * 2 + 1, none⟩ = some (.int .i64 (btAt l k)) := (hB.out.cell (p := ⟨b, off + k * 2 + 1, none⟩) hbl).trans (hcl k hlt).2
      have d0 : Hid (∀ w', Below w.heap.size w w' → Calls Tryz.prog 52 #[.int .i64 (idAt l k)] w' fun e w'' => e = .returned (.string (decT (idAt l k).toNat)) ∧ Below w'.heap.size w' w'') := (fun w' hb => HD.out k w' hlt hb)
      have d1 : Hid (∀ w', Calls Tryz.prog 21 #[.string word, .string (decT (idAt l k).toNat), .int .i64 (btAt l k)] w' fun e w'' => e = .returned (.string (nmE word l k)) ∧ Below w'.heap.size w' w'') := (fun w' => HE.out k w' hlt)
      have hn : Hid (nmL word l (k + 1) = nmL word l k ++ [nmE word l k]) := HN.out k
      have hlk := HNL.out k
      clear hcl
      generalize decT (idAt l k).toNat = D at d0 d1
      generalize nmE word l k = EN at d1 hn
      generalize idAt l k = x at c0 d0
      generalize btAt l k = y at c1 d1
      go_wp2_with fail
      obtain ⟨p0, p1⟩ := pair_new wr (.int .i64 x) (.int .i64 y) 45
      have HB1 : Hid (Below w.heap.size w (wr.alloc (.cells #[.int .i64 x, .int .i64 y] 45))) := Below.onA hB.out
      have HO1 : Hid ((wr.alloc (.cells #[.int .i64 x, .int .i64 y] 45)).ownsRow w.heap.size 9 1 u5 (nmL word l k).length (tv (nmL word l k))) := rowT_below hOw.out (bel_alloc _ _)
      have HLT : Hid (wr.heap.size < (wr.alloc (.cells #[.int .i64 x, .int .i64 y] 45)).heap.size) := (show _ < _ by simp)
      have HNE : Hid (u5.ownBlock ≠ some wr.heap.size) := own_lt hOw.out
      have P0 : Hid ((wr.alloc (.cells #[.int .i64 x, .int .i64 y] 45)).cell? ⟨wr.heap.size, 0, none⟩ = some (.int .i64 x)) := p0
      have P1 : Hid ((wr.alloc (.cells #[.int .i64 x, .int .i64 y] 45)).cell? ⟨wr.heap.size, 1, none⟩ = some (.int .i64 y)) := p1
      clear p0 p1 c0 c1 hOw hB
      generalize wr.alloc (.cells #[.int .i64 x, .int .i64 y] 45) = w1 at HB1 HO1 HLT P0 P1 ⊢
      generalize wr.heap.size = X at HLT HNE P0 P1 ⊢
      have p0 := P0.out
      have p1 := P1.out
      go_region_held3 (fun w' => w'.cell? ⟨X, 0, none⟩ = some (.int .i64 x) ∧ w'.cell? ⟨X, 1, none⟩ = some (.int .i64 y)) (go_keep)
        (first
          | (refine step_append_run rfl (.tmp 14) (.tmp 22) 40 rfl u5 (.slice (some ⟨wb.heap.size, 0, none⟩) 1 1) v2 w2 (by simp [Act.eval]) (by simp [Act.eval]) HRR.out ?_)
          | (go_at_call 52; refine (d0.out _ (bdC HB1.out)).mono ?_; rintro e wa ⟨rfl, hba⟩; have hA : Hid (Below w1.heap.size w1 wa) := bdZ hba; have ya0 := (hA.out.cell (p := ⟨X, 0, none⟩) HLT.out).trans P0.out; have ya1 := (hA.out.cell (p := ⟨X, 1, none⟩) HLT.out).trans P1.out)
          | (go_at_call 21; refine (d1.out _).mono ?_; rintro e wb ⟨rfl, hbb⟩; have hBb : Hid (Below w1.heap.size w1 wb) := Below.on hA.out hbb; obtain ⟨v2, w2, hr, hO2, hB2, hk2⟩ := append_textG w wb u5 (nmL word l k) (rowT_below HO1.out hBb.out) (Below.on HB1.out hBb.out) EN (by omega); rw [← hn.out] at hO2; have yb0 := (hBb.out.cell (p := ⟨X, 0, none⟩) HLT.out).trans P0.out; have yb1 := (hBb.out.cell (p := ⟨X, 1, none⟩) HLT.out).trans P1.out; have yc0 := (hk2 X 0 (Nat.lt_of_lt_of_le HLT.out hBb.out.size) HNE.out).trans yb0; have yc1 := (hk2 X 1 (Nat.lt_of_lt_of_le HLT.out hBb.out.size) HNE.out).trans yb1; have HRR : Hid ((Builtin.append_ #[40, 40] 40 #[u5, .slice (some ⟨wb.heap.size, 0, none⟩) 1 1]).run Tryz.prog (wb.alloc (.cells #[.string EN] 9)) = .ok v2 w2) := hr; have HO2 : Hid (w2.ownsRow w.heap.size 9 1 v2 (nmL word l (k + 1)).length (tv (nmL word l (k + 1)))) := hO2; have HB2 : Hid (Below w.heap.size w w2) := hB2; clear hr hO2 hB2 hk2))
      clear p0 p1 ya0 ya1 yb0 yb1 yc0 yc1 hba hbb
      go_wp2
      go_roundw
      case rel => exact ⟨k + 1, by omega, by go_num, HO2, HB2⟩
      case measure => simp [intOf]; omega
    · have : k = len := by omega
      subst this
      go_wp2
      go_ret
      exact ⟨_, rfl, hOw.out, hB.out⟩
def usrW : ByteArray := ⟨#[117, 115, 101, 114]⟩
def grpW : ByteArray := ⟨#[103, 114, 111, 117, 112]⟩
def mskW : ByteArray := ⟨#[109, 97, 115, 107]⟩
def othW : ByteArray := ⟨#[111, 116, 104, 101, 114]⟩
def noT : ByteArray := ⟨#[]⟩
/-- The entries of a list of names. -/
def aclL (u g o : Int) (us gs : List (Int × Int)) (r : Bool) (m : Int) : List ByteArray :=
  (if r then [entT usrW noT u] ++ nmL usrW us us.length ++ [entT grpW noT g] ++ nmL grpW gs gs.length ++ [entT mskW noT m] else [entT usrW noT u] ++ nmL usrW us us.length ++ [entT grpW noT g] ++ nmL grpW gs gs.length) ++ [entT othW noT o]
theorem joinTail_app (sep : List UInt8) (a b : List (List UInt8)) : Lib.joinTail sep (a ++ b) = Lib.joinTail sep a ++ Lib.joinTail sep b := by simp [Lib.joinTail]
theorem joinTail_one (sep x : List UInt8) : Lib.joinTail sep [x] = sep ++ x := by simp [Lib.joinTail]
theorem joinTail_nm (word : ByteArray) (l : List (Int × Int)) (k : Nat) : Lib.joinTail [44] ((nmL word l k).map (·.data.toList)) = (nmTo word l k).data.toList := by
  induction k with
  | zero => rfl
  | succ k ih =>
    rw [nmL_snoc, List.map_append, joinTail_app, ih, List.map_singleton, joinTail_one]
    simp [nmTo, nmE, entT, ByteArray.data_append]
theorem ent_l (word : ByteArray) (b : Int) : (entT word noT b).data.toList = word.data.toList ++ [58, 58] ++ (bitsS b).data.toList := by
  simp [entT, noT, ByteArray.data_append]
theorem join_acl (u g o : Int) (us gs : List (Int × Int)) (r : Bool) (m : Int) : Lib.join ((aclL u g o us gs r m).map (·.data.toList)) [44] = (aclTx u g o us gs r m).data.toList := by
  cases r
  · have e : (aclL u g o us gs false m).map (·.data.toList) = (entT usrW noT u).data.toList :: ((nmL usrW us us.length).map (·.data.toList) ++ [(entT grpW noT g).data.toList] ++ (nmL grpW gs gs.length).map (·.data.toList) ++ [(entT othW noT o).data.toList]) := by
      simp [aclL]
    rw [e, Lib.join_cons]
    simp only [joinTail_app, joinTail_one, joinTail_nm, ent_l]
    simp [aclTx, aclY, aclX, ByteArray.data_append, usrW, grpW, othW]
  · have e : (aclL u g o us gs true m).map (·.data.toList) = (entT usrW noT u).data.toList :: ((nmL usrW us us.length).map (·.data.toList) ++ [(entT grpW noT g).data.toList] ++ (nmL grpW gs gs.length).map (·.data.toList) ++ [(entT mskW noT m).data.toList] ++ [(entT othW noT o).data.toList]) := by
      simp [aclL]
    rw [e, Lib.join_cons]
    simp only [joinTail_app, joinTail_one, joinTail_nm, ent_l]
    simp [aclTx, aclY, aclX, ByteArray.data_append, usrW, grpW, othW, mskW]
theorem ent_size {word : ByteArray} (hw : word.size ≤ 5) (b : Int) : (entT word noT b).size ≤ 15 := by
  have h3 := bitsS_size b
  have e2 : (⟨#[58]⟩ : ByteArray).size = 1 := rfl
  have e3 : noT.size = 0 := rfl
  simp only [entT, ByteArray.size_append]
  omega
theorem nmL_sizes {word : ByteArray} {l : List (Int × Int)} (hw : word.size ≤ 5) (h : IdsIn l) : ∀ x ∈ nmL word l l.length, x.size ≤ 15 := by
  intro x hx
  simp only [nmL, List.mem_map, List.mem_range] at hx
  obtain ⟨k, hk, rfl⟩ := hx
  exact nmE_size hw h hk
theorem aclL_sizes {u g o : Int} {us gs : List (Int × Int)} {r : Bool} {m : Int} (hu : nmB us = true) (hg : nmB gs = true) : (∀ x ∈ aclL u g o us gs r m, x.size ≤ 15) ∧ (aclL u g o us gs r m).length ≤ 16 := by
  have h1 := nmL_sizes (word := usrW) (by decide) (nm_ids hu)
  have h2 := nmL_sizes (word := grpW) (by decide) (nm_ids hg)
  have l1 := nm_len hu
  have l2 := nm_len hg
  refine ⟨fun x hx => ?_, ?_⟩
  · cases r
    · simp only [aclL, Bool.false_eq_true, if_false, List.mem_append, List.mem_singleton] at hx
      rcases hx with (((rfl | hx) | rfl) | hx) | rfl
      · exact ent_size (by decide) _
      · exact h1 x hx
      · exact ent_size (by decide) _
      · exact h2 x hx
      · exact ent_size (by decide) _
    · simp only [aclL, if_true, List.mem_append, List.mem_singleton] at hx
      rcases hx with ((((rfl | hx) | rfl) | hx) | rfl) | rfl
      · exact ent_size (by decide) _
      · exact h1 x hx
      · exact ent_size (by decide) _
      · exact h2 x hx
      · exact ent_size (by decide) _
      · exact ent_size (by decide) _
  · cases r <;> simp [aclL, nmL_len] <;> omega
/-- strings.Join of a row of texts, by a comma. -/
theorem joinRow_any (L : List ByteArray) (hl : L.length ≤ 16) (hs : ∀ x ∈ L, x.size ≤ 15) {B : Nat} (v : Value) (w : World) (ho : w.ownsRow B 9 1 v L.length (tv L)) :
    Calls Tryz.prog 23 #[v, .string ⟨#[44]⟩] w fun e w' => e = .returned (.string ⟨(Lib.join (L.map (·.data.toList)) [44]).toArray⟩) ∧ Below w.heap.size w w' := by
  have hf : txl (fun i => L.getD i noT) L.length = L := by
    apply List.ext_getElem
    · simp [txl]
    · intro i h1 h2
      simp [txl, List.getD, h2]
  have hj := join_jl (fun i => L.getD i noT) L.length
  rw [hf] at hj
  obtain ⟨a, c, rfl, hc, hcell⟩ := own_texts ho
  have hm : ∀ i, i < L.length → ((fun i => L.getD i noT) i).size ≤ 15 := fun i hi => by
    have : L.getD i noT = L[i] := by simp [List.getD, hi]
    show (L.getD i noT).size ≤ 15
    rw [this]
    exact hs _ (List.getElem_mem hi)
  have h := joinC_any (fun i => L.getD i noT) L.length 15 (by omega) hm (by omega) a c w hc (by rw [hf]; exact hcell)
  rw [jlT, ← hj] at h
  exact h
theorem own_one (w : World) (x : ByteArray) (B : Nat) (h : B ≤ w.heap.size) : (w.alloc (.cells #[.string x] 9)).ownsRow B 9 1 (.slice (some ⟨w.heap.size, 0, none⟩) 1 1) [x].length (tv [x]) := by
  refine ⟨rfl, .inr ⟨w.heap.size, 1, #[.string x], rfl, h, ?_, Nat.le_refl _, by unfold maxLen; decide, rfl, rfl⟩⟩
  rw [World.alloc]
  exact Array.getElem?_push_size
set_option maxRecDepth 100000 in
set_option maxHeartbeats 4000000 in
/-- impl.AclText. -/
theorem iAclText_any (u g o : Int) (au : Option Addr) (lu cu : Nat) (ag : Option Addr) (lg cg : Nat) (r : Bool) (m : Int) (us gs : List (Int × Int)) (w : World) (hu : Prs au lu us w) (hg : Prs ag lg gs w) (hp : PowW w) :
    Calls Tryz.prog 6 #[.agg #[.int .i64 u, .int .i64 g, .int .i64 o, .slice au lu cu, .slice ag lg cg, .bool r, .int .i64 m]] w fun e w' => e = .returned (.string (aclT u g o us gs r m)) ∧ Below w.heap.size w w' := by
  have hR : Hid (∀ w', Below w.heap.size w w' → Calls Tryz.prog 20 #[.agg #[.int .i64 u, .int .i64 g, .int .i64 o, .slice au lu cu, .slice ag lg cg, .bool r, .int .i64 m]] w' fun e w'' => e = .returned (.bool (aclB u g o us gs r m)) ∧ Below w'.heap.size w' w'') := (fun w' hb => iAclRight_any u g o au lu cu ag lg cg r m us gs w' (hu.below hb) (hg.below hb))
  have hX0 : Hid (Box7 (w.alloc (.cells #[.int .i64 u, .int .i64 g, .int .i64 o, .slice au lu cu, .slice ag lg cg, .bool r, .int .i64 m] 25)) w.heap.size (.int .i64 u) (.int .i64 g) (.int .i64 o) (.slice au lu cu) (.slice ag lg cg) (.bool r) (.int .i64 m)) := box7_new w _ _ _ _ _ _ _ _
  have hW0 : Hid (Below w.heap.size w (w.alloc (.cells #[.int .i64 u, .int .i64 g, .int .i64 o, .slice au lu cu, .slice ag lg cg, .bool r, .int .i64 m] 25))) := bel_alloc _ _
  cases hb : aclB u g o us gs r m
  · have hn : aclT u g o us gs r m = ⟨#[]⟩ := by rw [aclT, hb]; rfl
    rw [hn]
    rw [hb] at hR
    clear hn hb hu hg hp
    obtain ⟨xl, x0, x1, x2, x3, x4, x5, x6⟩ := hX0.out
    go_enter Tryz.func6, Tryz.ntmps6
    go_wp2_with fail
    refine (hR.out _ hW0.out).mono ?_
    rintro e w1 ⟨rfl, hb1⟩
    have hW1 : Hid (Below w.heap.size w w1) := Below.on hW0.out hb1
    clear hb1 hR xl x0 x1 x2 x3 x4 x5 x6
    go_wp2
    go_ret
    exact ⟨rfl, hW1.out⟩
  · obtain ⟨nu, ng⟩ := acl_facts hb
    obtain ⟨sz, ln⟩ := aclL_sizes (u := u) (g := g) (o := o) (r := r) (m := m) nu ng
    have hn : aclT u g o us gs r m = ⟨(Lib.join ((aclL u g o us gs r m).map (·.data.toList)) [44]).toArray⟩ := by
      rw [aclT, hb, join_acl]
      apply ByteArray.ext
      simp
    rw [hn]
    rw [hb] at hR
    have eu := hu.1
    have eg := hg.1
    have lu6 := nm_len nu
    have lg6 := nm_len ng
    have HU : Hid (∀ w', Below w.heap.size w w' → Calls Tryz.prog 22 #[.string ⟨#[117, 115, 101, 114]⟩, .slice au lu cu] w' fun e w'' => ∃ v, e = .returned v ∧ w''.ownsRow w'.heap.size 9 1 v (nmL usrW us us.length).length (tv (nmL usrW us us.length)) ∧ Below w'.heap.size w' w'') := (fun w' hb => by rw [eu]; exact iNamedT_any usrW (by decide) au lu cu us (by omega) (nm_ids nu) w' (hu.below hb) (hp.below hb))
    have HG : Hid (∀ w', Below w.heap.size w w' → Calls Tryz.prog 22 #[.string ⟨#[103, 114, 111, 117, 112]⟩, .slice ag lg cg] w' fun e w'' => ∃ v, e = .returned v ∧ w''.ownsRow w'.heap.size 9 1 v (nmL grpW gs gs.length).length (tv (nmL grpW gs gs.length)) ∧ Below w'.heap.size w' w'') := (fun w' hb => by rw [eg]; exact iNamedT_any grpW (by decide) ag lg cg gs (by omega) (nm_ids ng) w' (hg.below hb) (hp.below hb))
    have hE0 : Hid (∀ w, Calls Tryz.prog 21 #[.string ⟨#[117, 115, 101, 114]⟩, .string ⟨#[]⟩, .int .i64 u] w fun e w' => e = .returned (.string (entT usrW noT u)) ∧ Below w.heap.size w w') := iEntry_any usrW noT u (by decide)
    have hE1 : Hid (∀ w, Calls Tryz.prog 21 #[.string ⟨#[103, 114, 111, 117, 112]⟩, .string ⟨#[]⟩, .int .i64 g] w fun e w' => e = .returned (.string (entT grpW noT g)) ∧ Below w.heap.size w w') := iEntry_any grpW noT g (by decide)
    have hE2 : Hid (∀ w, Calls Tryz.prog 21 #[.string ⟨#[109, 97, 115, 107]⟩, .string ⟨#[]⟩, .int .i64 m] w fun e w' => e = .returned (.string (entT mskW noT m)) ∧ Below w.heap.size w w') := iEntry_any mskW noT m (by decide)
    have hE3 : Hid (∀ w, Calls Tryz.prog 21 #[.string ⟨#[111, 116, 104, 101, 114]⟩, .string ⟨#[]⟩, .int .i64 o] w fun e w' => e = .returned (.string (entT othW noT o)) ∧ Below w.heap.size w w') := iEntry_any othW noT o (by decide)
    have LU : (nmL usrW us us.length).length ≤ 6 := by rw [nmL_len]; exact lu6
    have LG : (nmL grpW gs gs.length).length ≤ 6 := by rw [nmL_len]; exact lg6
    have HLL : Hid (aclL u g o us gs r m = (if r then [entT usrW noT u] ++ nmL usrW us us.length ++ [entT grpW noT g] ++ nmL grpW gs gs.length ++ [entT mskW noT m] else [entT usrW noT u] ++ nmL usrW us us.length ++ [entT grpW noT g] ++ nmL grpW gs gs.length) ++ [entT othW noT o]) := rfl
    have HJ : Hid (∀ {B : Nat} (v : Value) (w : World), w.ownsRow B 9 1 v (aclL u g o us gs r m).length (tv (aclL u g o us gs r m)) → Calls Tryz.prog 23 #[v, .string ⟨#[44]⟩] w fun e w' => e = .returned (.string ⟨(Lib.join ((aclL u g o us gs r m).map (·.data.toList)) [44]).toArray⟩) ∧ Below w.heap.size w w') := (fun {B} v w ho => joinRow_any _ ln sz v w ho)
    clear hn hb hu hg nu ng eu eg lu6 lg6 hp sz ln
    generalize (⟨(Lib.join ((aclL u g o us gs r m).map (·.data.toList)) [44]).toArray⟩ : ByteArray) = R at HJ ⊢
    generalize aclL u g o us gs r m = LL at HLL HJ
    generalize nmL usrW us us.length = NU at HU LU HLL
    generalize nmL grpW gs gs.length = NG at HG LG HLL
    generalize entT usrW noT u = E0 at hE0 HLL
    generalize entT grpW noT g = E1 at hE1 HLL
    generalize entT mskW noT m = E2 at hE2 HLL
    generalize entT othW noT o = E3 at hE3 HLL
    obtain ⟨xl, x0, x1, x2, x3, x4, x5, x6⟩ := hX0.out
    go_enter Tryz.func6, Tryz.ntmps6
    go_wp2_with fail
    refine (hR.out _ hW0.out).mono ?_
    rintro e w1 ⟨rfl, hb1⟩
    have hW1 : Hid (Below w.heap.size w w1) := Below.on hW0.out hb1
    have hX1 : Hid (Box7 w1 w.heap.size (.int .i64 u) (.int .i64 g) (.int .i64 o) (.slice au lu cu) (.slice ag lg cg) (.bool r) (.int .i64 m)) := hX0.out.below hb1
    clear hb1 hR xl x0 x1 x2 x3 x4 x5 x6 hX0 hW0
    obtain ⟨xl, x0, x1, x2, x3, x4, x5, x6⟩ := hX1.out
    go_wp2_with fail
    refine (hE0.out _).mono ?_
    rintro e wa ⟨rfl, hba⟩
    have hO1 : Hid ((wa.alloc (.cells #[.string E0] 9)).ownsRow w1.heap.size 9 1 (.slice (some ⟨wa.heap.size, 0, none⟩) 1 1) [E0].length (tv [E0])) := own_one wa E0 _ hba.size
    have hB1 : Hid (Below w1.heap.size w1 (wa.alloc (.cells #[.string E0] 9))) := Below.onA hba
    clear hba xl x0 x1 x2 x3 x4 x5 x6
    obtain ⟨xl, x0, x1, x2, x3, x4, x5, x6⟩ := hX1.out.below hB1.out
    go_wp2_with fail
    refine (HU.out _ (Below.on hW1.out hB1.out)).mono ?_
    rintro e wb ⟨v2, rfl, hO2, hbb⟩
    obtain ⟨v3, w3, hr3, hO3, hB3, _⟩ := append_rowT w1 wb _ v2 [E0] NU (rowT_below hO1.out hbb) (by simp) (Below.on hB1.out hbb) hO2 (by simp) (by omega)
    have HO3 : Hid (w3.ownsRow w1.heap.size 9 1 v3 ([E0] ++ NU).length (tv ([E0] ++ NU))) := hO3
    have HB3 : Hid (Below w1.heap.size w1 w3) := hB3
    clear hO3 hB3 hO2 hbb hO1 hB1 xl x0 x1 x2 x3 x4 x5 x6
    obtain ⟨xl, x0, x1, x2, x3, x4, x5, x6⟩ := hX1.out.below HB3.out
    go_wp2_with (at_builtin; refine wpList_append_runT _ rfl (.tmp 11) (.tmp 14) 40 40 rfl _ _ _ _ rfl rfl hr3 ?_)
    refine (hE1.out _).mono ?_
    rintro e wd ⟨rfl, hbd⟩
    obtain ⟨v4, w4, hr4, hO4, hB4⟩ := append_text w1 wd v3 ([E0] ++ NU) (rowT_below HO3.out hbd) (Below.on HB3.out hbd) E1 (by simp; omega)
    have HO4 : Hid (w4.ownsRow w1.heap.size 9 1 v4 ([E0] ++ NU ++ [E1]).length (tv ([E0] ++ NU ++ [E1]))) := hO4
    have HB4 : Hid (Below w1.heap.size w1 w4) := hB4
    clear hO4 hB4 hbd HO3 HB3 hr3 xl x0 x1 x2 x3 x4 x5 x6
    obtain ⟨xl, x0, x1, x2, x3, x4, x5, x6⟩ := hX1.out.below HB4.out
    go_wp2_with (at_builtin; refine wpList_append_runT _ rfl (.tmp 16) (.tmp 20) 40 40 rfl _ _ _ _ rfl rfl hr4 ?_)
    refine (HG.out _ (Below.on hW1.out HB4.out)).mono ?_
    rintro e we ⟨v5, rfl, hO5, hbe⟩
    obtain ⟨v6, w6, hr6, hO6, hB6, _⟩ := append_rowT w1 we v4 v5 ([E0] ++ NU ++ [E1]) NG (rowT_below HO4.out hbe) (by simp) (Below.on HB4.out hbe) hO5 (by simp; omega) (by omega)
    have HO6 : Hid (w6.ownsRow w1.heap.size 9 1 v6 ([E0] ++ NU ++ [E1] ++ NG).length (tv ([E0] ++ NU ++ [E1] ++ NG))) := hO6
    have HB6 : Hid (Below w1.heap.size w1 w6) := hB6
    clear hO6 hB6 hO5 hbe HO4 HB4 hr4 xl x0 x1 x2 x3 x4 x5 x6
    obtain ⟨xl, x0, x1, x2, x3, x4, x5, x6⟩ := hX1.out.below HB6.out
    cases r
    · go_wp2_with (at_builtin; refine wpList_append_runT _ rfl (.tmp 22) (.tmp 25) 40 40 rfl _ _ _ _ rfl rfl hr6 ?_)
      refine (hE3.out _).mono ?_
      rintro e wf ⟨rfl, hbf⟩
      obtain ⟨v7, w7, hr7, hO7, hB7⟩ := append_text w1 wf v6 ([E0] ++ NU ++ [E1] ++ NG) (rowT_below HO6.out hbf) (Below.on HB6.out hbf) E3 (by simp; omega)
      have HO7 : Hid (w7.ownsRow w1.heap.size 9 1 v7 LL.length (tv LL)) := (by rw [HLL.out]; exact hO7)
      have HB7 : Hid (Below w1.heap.size w1 w7) := hB7
      clear hO7 hB7 hbf HO6 HB6 hr6 xl x0 x1 x2 x3 x4 x5 x6
      go_wp2_with (at_builtin; refine wpList_append_runT _ rfl (.tmp 35) (.tmp 39) 40 40 rfl _ _ _ _ rfl rfl hr7 ?_)
      refine (HJ.out v7 w7 HO7.out).mono ?_
      rintro e w8 ⟨rfl, hb8⟩
      have hW8 : Hid (Below w.heap.size w w8) := Below.on hW1.out (Below.on HB7.out hb8)
      clear hb8
      go_wp2
      go_ret
      exact ⟨rfl, hW8.out⟩
    · go_wp2_with (at_builtin; refine wpList_append_runT _ rfl (.tmp 22) (.tmp 25) 40 40 rfl _ _ _ _ rfl rfl hr6 ?_)
      refine (hE2.out _).mono ?_
      rintro e wf ⟨rfl, hbf⟩
      obtain ⟨v7, w7, hr7, hO7, hB7⟩ := append_text w1 wf v6 ([E0] ++ NU ++ [E1] ++ NG) (rowT_below HO6.out hbf) (Below.on HB6.out hbf) E2 (by simp; omega)
      have HO7 : Hid (w7.ownsRow w1.heap.size 9 1 v7 ([E0] ++ NU ++ [E1] ++ NG ++ [E2]).length (tv ([E0] ++ NU ++ [E1] ++ NG ++ [E2]))) := hO7
      have HB7 : Hid (Below w1.heap.size w1 w7) := hB7
      clear hO7 hB7 hbf HO6 HB6 hr6 xl x0 x1 x2 x3 x4 x5 x6
      obtain ⟨xl, x0, x1, x2, x3, x4, x5, x6⟩ := hX1.out.below HB7.out
      go_wp2_with (at_builtin; refine wpList_append_runT _ rfl (.tmp 29) (.tmp 33) 40 40 rfl _ _ _ _ rfl rfl hr7 ?_)
      refine (hE3.out _).mono ?_
      rintro e wg ⟨rfl, hbg⟩
      obtain ⟨v8, w8, hr8, hO8, hB8⟩ := append_text w1 wg v7 ([E0] ++ NU ++ [E1] ++ NG ++ [E2]) (rowT_below HO7.out hbg) (Below.on HB7.out hbg) E3 (by simp; omega)
      have HO8 : Hid (w8.ownsRow w1.heap.size 9 1 v8 LL.length (tv LL)) := (by rw [HLL.out]; exact hO8)
      have HB8 : Hid (Below w1.heap.size w1 w8) := hB8
      clear hO8 hB8 hbg HO7 HB7 hr7 xl x0 x1 x2 x3 x4 x5 x6
      go_wp2_with (at_builtin; refine wpList_append_runT _ rfl (.tmp 35) (.tmp 39) 40 40 rfl _ _ _ _ rfl rfl hr8 ?_)
      refine (HJ.out v8 w8 HO8.out).mono ?_
      rintro e w9 ⟨rfl, hb9⟩
      have hW9 : Hid (Below w.heap.size w w9) := Below.on hW1.out (Below.on HB8.out hb9)
      clear hb9
      go_wp2
      go_ret
      exact ⟨rfl, hW9.out⟩
end Go.Proofs.YtgooanaacebncaaGreatDoor
