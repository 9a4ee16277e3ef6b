/- Laid together: AclTx, IAclTx. -/
import Derived.Test.YtgooanaacebncaaDoorRA12
import Derived.Test.YtgooanaacebncaaDoorRA14
import Derived.Test.YtgooanaacebncaaDoorRA15
/- A list of names as text: l05Named, AclText of the specification; entries by the program. -/
namespace Go.Proofs.YtgooanaacebncaaDoor
open Go.RowKit Go.PlainAid Go.Deep
set_option linter.unusedVariables false
theorem bitsS_size (n : Int) : (bitsS n).size ≤ 3 := by
  unfold bitsS
  split
  · exact Nat.le_refl _
  · exact Nat.zero_le _
/-- An entry. -/
def entT (word id : ByteArray) (b : Int) : ByteArray := word ++ ⟨#[58]⟩ ++ id ++ ⟨#[58]⟩ ++ bitsS b
/-- The entry of somebody who is named. -/
def nmE (word : ByteArray) (l : List (Int × Int)) (k : Nat) : ByteArray := entT word (decT (idAt l k).toNat) (btAt l k)
/-- The first k who are named, a comma ahead of each. -/
def nmTo (word : ByteArray) (l : List (Int × Int)) : Nat → ByteArray
  | 0 => ⟨#[]⟩
  | k + 1 => nmTo word l k ++ ⟨#[44]⟩ ++ word ++ ⟨#[58]⟩ ++ decT (idAt l k).toNat ++ ⟨#[58]⟩ ++ bitsS (btAt l k)
/-- The ids of a list may stand there. -/
def IdsIn (l : List (Int × Int)) : Prop := ∀ k, k < l.length → 0 ≤ idAt l k ∧ idAt l k ≤ 9999
theorem nm_ids {l : List (Int × Int)} (h : nmB l = true) : IdsIn l := by
  intro k hk
  cases e : okN l k
  · rw [nm_no hk e] at h; cases h
  · simp only [okN, Bool.and_eq_true] at e
    exact inR_iff.1 e.1
theorem nmTo_size {word : ByteArray} {l : List (Int × Int)} (hw : word.size ≤ 5) (h : IdsIn l) : ∀ k, k ≤ l.length → (nmTo word l k).size ≤ 15 * k := by
  intro k
  induction k with
  | zero => intro _; exact Nat.zero_le _
  | succ k ih =>
    intro hk
    have h1 := ih (by omega)
    have h2 := (decT_size (n := (idAt l k).toNat) (by have := h k (by omega); omega)).2
    have h3 := bitsS_size (btAt l k)
    have e1 : (⟨#[44]⟩ : ByteArray).size = 1 := rfl
    have e2 : (⟨#[58]⟩ : ByteArray).size = 1 := rfl
    simp only [nmTo, ByteArray.size_append]
    omega
theorem nmE_size {word : ByteArray} {l : List (Int × Int)} (hw : word.size ≤ 5) (h : IdsIn l) {k : Nat} (hk : k < l.length) : (nmE word l k).size ≤ 15 := by
  have h2 := (decT_size (n := (idAt l k).toNat) (by have := h k (by omega); omega)).2
  have h3 := bitsS_size (btAt l k)
  have e2 : (⟨#[58]⟩ : ByteArray).size = 1 := rfl
  simp only [nmE, entT, ByteArray.size_append]
  omega
def aclX (u g : Int) (us gs : List (Int × Int)) : ByteArray := ⟨#[117, 115, 101, 114, 58, 58]⟩ ++ bitsS u ++ nmTo ⟨#[117, 115, 101, 114]⟩ us us.length ++ ⟨#[44, 103, 114, 111, 117, 112, 58, 58]⟩ ++ bitsS g ++ nmTo ⟨#[103, 114, 111, 117, 112]⟩ gs gs.length
def aclY (x : ByteArray) (r : Bool) (m : Int) : ByteArray := if r then x ++ ⟨#[44, 109, 97, 115, 107, 58, 58]⟩ ++ bitsS m else x
/-- AclText of a right one. -/
def aclTx (u g o : Int) (us gs : List (Int × Int)) (r : Bool) (m : Int) : ByteArray := aclY (aclX u g us gs) r m ++ ⟨#[44, 111, 116, 104, 101, 114, 58, 58]⟩ ++ bitsS o
/-- AclText. -/
def aclT (u g o : Int) (us gs : List (Int × Int)) (r : Bool) (m : Int) : ByteArray := if aclB u g o us gs r m then aclTx u g o us gs r m else ⟨#[]⟩
theorem acl_facts {u g o : Int} {us gs : List (Int × Int)} {r : Bool} {m : Int} (h : aclB u g o us gs r m = true) : nmB us = true ∧ nmB gs = true := by
  simp only [aclB, Bool.and_eq_true] at h
  exact ⟨h.2.2.2.2.1, h.2.2.2.2.2.1⟩
theorem aclX_size {u g : Int} {us gs : List (Int × Int)} (hu : nmB us = true) (hg : nmB gs = true) : (aclX u g us gs).size ≤ 250 := by
  have h1 := bitsS_size u
  have h2 := bitsS_size g
  have h3 := nmTo_size (word := ⟨#[117, 115, 101, 114]⟩) (by decide) (nm_ids hu) us.length (Nat.le_refl _)
  have h4 := nmTo_size (word := ⟨#[103, 114, 111, 117, 112]⟩) (by decide) (nm_ids hg) gs.length (Nat.le_refl _)
  have h5 := nm_len hu
  have h6 := nm_len hg
  have e1 : (⟨#[117, 115, 101, 114, 58, 58]⟩ : ByteArray).size = 6 := rfl
  have e2 : (⟨#[44, 103, 114, 111, 117, 112, 58, 58]⟩ : ByteArray).size = 8 := rfl
  simp only [aclX, ByteArray.size_append]
  omega
theorem ret_aclT {a b : ByteArray} (h : a = b) : Ending.returned (.string a) = .returned (.string b) := by rw [h]
set_option maxRecDepth 100000 in
set_option maxHeartbeats 4000000 in
/-- spec.l05Named. -/
theorem sNamedT_any (word : ByteArray) (hw : word.size ≤ 5) (a : Option Addr) (len cap : Nat) (l : List (Int × Int)) (hl : len ≤ 6) (hid : IdsIn l) (w : World) (hi : Prs a len l w) :
    Calls Tryd.prog 91 #[.string word, .slice a len cap] w fun e w' => e = .returned (.string (nmTo word l len)) ∧ Below w.heap.size w w' := by
  have HD : Hid (∀ k w, k < len → Calls Tryd.prog 46 #[.int .i64 (idAt l k)] w fun e w' => e = .returned (.string (decT (idAt l k).toNat)) ∧ Below w.heap.size w w') := (fun k w hk => by
    have h1 := hid k (by rw [hi.1]; exact hk)
    have h2 := sDec_any (idAt l k).toNat (by omega) w
    rwa [Int.toNat_of_nonneg h1.1] at h2)
  have HBt : Hid (∀ k w, Calls Tryd.prog 90 #[.int .i64 (btAt l k)] w fun e w' => e = .returned (.string (bitsS (btAt l k))) ∧ Below w.heap.size w w') := (fun k w => by
    refine (sBitsText_any (btAt l k) w).mono ?_
    rintro e w' ⟨rfl, rfl⟩
    exact ⟨rfl, Below.refl _ _⟩)
  have HS : Hid (∀ k, k ≤ len → (nmTo word l k).size ≤ 90) := (fun k hk => by have := nmTo_size hw hid k (by rw [hi.1]; exact hk); omega)
  have HSD : Hid (∀ k, k < len → (decT (idAt l k).toNat).size ≤ 4) := (fun k hk => (decT_size (by have := hid k (by rw [hi.1]; exact hk); omega)).2)
  have HSB : Hid (∀ k, (bitsS (btAt l k)).size ≤ 3) := (fun k => bitsS_size _)
  have HN : Hid (∀ k, nmTo word l (k + 1) = nmTo word l k ++ ⟨#[44]⟩ ++ word ++ ⟨#[58]⟩ ++ decT (idAt l k).toNat ++ ⟨#[58]⟩ ++ bitsS (btAt l k)) := (fun k => rfl)
  have HI : Hid (Prs a len l w) := hi
  clear hi hid
  go_enter Tryd.func91, Tryd.ntmps91
  go_wp2
  go_loopw [5, 6] (fun s i wr => ∃ k : Nat, k ≤ len ∧ i = .int .i64 k ∧ s = .string (nmTo word l k) ∧ Hid (Below w.heap.size w wr)) (fun _ i _ => len - (intOf i).toNat)
  case atStart => exact ⟨0, Nat.zero_le _, rfl, rfl, Below.refl _ _⟩
  case round =>
    obtain ⟨k, hk, rfl, rfl, hB⟩ := hrel
    by_cases hlt : k < len
    · have hlt' : (k : Int) < (len : Int) := by omega
      obtain ⟨b, off, rfl, hbl, hcl⟩ := HI.out.2 (by omega)
      have c0 : wr.cell? ⟨b, off + k * 2, none⟩ = some (.int .i64 (idAt l k)) := (hB.out.cell (p := ⟨b, off + k * 2, none⟩) hbl).trans (hcl k hlt).1
      have c1 : wr.cell? ⟨b, off + k * 2 + 1, none⟩ = some (.int .i64 (btAt l k)) := (hB.out.cell (p := ⟨b, off + k * 2 + 1, none⟩) hbl).trans (hcl k hlt).2
      have d0 : Hid (∀ w, Calls Tryd.prog 46 #[.int .i64 (idAt l k)] w fun e w' => e = .returned (.string (decT (idAt l k).toNat)) ∧ Below w.heap.size w w') := (fun w => HD.out k w hlt)
      have d1 : Hid (∀ w, Calls Tryd.prog 90 #[.int .i64 (btAt l k)] w fun e w' => e = .returned (.string (bitsS (btAt l k))) ∧ Below w.heap.size w w') := HBt.out k
      have hn : Hid _ := HN.out k
      have s0 := HS.out k hk
      have s1 := HSD.out k hlt
      have s2 := HSB.out k
      clear hcl
      generalize nmTo word l k = T at s0 hn
      generalize decT (idAt l k).toNat = D at d0 s1 hn
      generalize bitsS (btAt l k) = BT at d1 s2 hn
      generalize idAt l k = x at c0 d0
      generalize btAt l k = y at c1 d1
      have q0 := fun d os => cell_regrown c0 d os
      have q1 := fun d os => cell_regrown c1 d os
      have r0 : ∀ d os, Calls Tryd.prog 46 #[.int .i64 x] (Go.Sort.grow (redrawn wr d) os) fun e w'' => e = .returned (.string D) ∧ ∃ p : Regrown, w'' = Go.Sort.grow (redrawn wr p.d) p.os := fun d os => Calls.regrown_of (d0.out _)
      have r1 : ∀ d os, Calls Tryd.prog 90 #[.int .i64 y] (Go.Sort.grow (redrawn wr d) os) fun e w'' => e = .returned (.string BT) ∧ ∃ p : Regrown, w'' = Go.Sort.grow (redrawn wr p.d) p.os := fun d os => Calls.regrown_of (d1.out _)
      have e1 : (⟨#[44]⟩ : ByteArray).size = 1 := rfl
      have e2 : (⟨#[58]⟩ : ByteArray).size = 1 := rfl
      go_wp2_with fail
      refine wp_region_quiet_below (by kernel_rfl) (by kernel_rfl) ?_
      repeat (go_big_quiet_step (first | (go_at_call 46; exact r0 _ _) | (go_at_call 90; exact r1 _ _)))
      refine wpQuiet_nil ?_
      intro _ hw'
      obtain ⟨⟨dq, osq⟩, hw''⟩ := hw'
      subst hw''
      have hB2 : Hid (Below w.heap.size w (Go.Sort.grow (redrawn wr dq) osq)) := Below.on hB.out (below_regrown wr dq osq)
      generalize Go.Sort.grow (redrawn wr dq) osq = w2 at hB2 ⊢
      clear q0 q1 r0 r1 c0 c1 d0 d1
      go_wp2
      go_roundw
      case rel => exact ⟨k + 1, by omega, by go_num, by rw [hn.out], hB2⟩
      case measure => simp [intOf]; omega
    · have : k = len := by omega
      subst this
      go_wp2
      go_ret
      exact ⟨rfl, hB.out⟩
set_option maxRecDepth 100000 in
set_option maxHeartbeats 4000000 in
/-- spec.AclText. -/
theorem sAclText_any (u g o : Int) (au : Option Addr) (lu cu : Nat) (ag : Option Addr) (lg cg : Nat) (r : Bool) (m : Int) (us gs : List (Int × Int)) (hlu : lu ≤ 1048576) (hlg : lg ≤ 1048576) (w : World) (hu : Prs au lu us w) (hg : Prs ag lg gs w) :
    Calls Tryd.prog 59 #[.agg #[.int .i64 u, .int .i64 g, .int .i64 o, .slice au lu cu, .slice ag lg cg, .bool r, .int .i64 m]] w fun e w' => e = .returned (.string (aclT u g o us gs r m)) ∧ Below w.heap.size w w' := by
  have hR : Hid (∀ w', Below w.heap.size w w' → Calls Tryd.prog 89 #[.agg #[.int .i64 u, .int .i64 g, .int .i64 o, .slice au lu cu, .slice ag lg cg, .bool r, .int .i64 m]] w' fun e w'' => e = .returned (.bool (aclB u g o us gs r m)) ∧ Below w'.heap.size w' w'') := (fun w' hb => sAclRight_any u g o au lu cu ag lg cg r m us gs hlu hlg w' (hu.below hb) (hg.below hb))
  have hX0 : Hid (Box7 (w.alloc (.cells #[.int .i64 u, .int .i64 g, .int .i64 o, .slice au lu cu, .slice ag lg cg, .bool r, .int .i64 m] 43)) w.heap.size (.int .i64 u) (.int .i64 g) (.int .i64 o) (.slice au lu cu) (.slice ag lg cg) (.bool r) (.int .i64 m)) := box7_new w _ _ _ _ _ _ _ _
  have hW0 : Hid (Below w.heap.size w (w.alloc (.cells #[.int .i64 u, .int .i64 g, .int .i64 o, .slice au lu cu, .slice ag lg cg, .bool r, .int .i64 m] 43))) := bel_alloc _ _
  cases hb : aclB u g o us gs r m
  · have hn : aclT u g o us gs r m = ⟨#[]⟩ := by rw [aclT, hb]; rfl
    rw [hn]
    rw [hb] at hR
    clear hn hb hu hg hlu hlg
    obtain ⟨xl, x0, x1, x2, x3, x4, x5, x6⟩ := hX0.out
    go_enter Tryd.func59, Tryd.ntmps59
    go_wp2_with fail
    refine (hR.out _ hW0.out).mono ?_
    rintro e w1 ⟨rfl, hb1⟩
    have hW1 : Hid (Below w.heap.size w w1) := Below.on hW0.out hb1
    clear hb1 hR xl x0 x1 x2 x3 x4 x5 x6
    go_wp2
    go_ret
    exact ⟨rfl, hW1.out⟩
  · obtain ⟨nu, ng⟩ := acl_facts hb
    have hn : aclT u g o us gs r m = aclTx u g o us gs r m := by rw [aclT, hb]; rfl
    rw [hn]
    rw [hb] at hR
    have eu := hu.1
    have eg := hg.1
    have lu6 := nm_len nu
    have lg6 := nm_len ng
    have HU : Hid (∀ w', Below w.heap.size w w' → Calls Tryd.prog 91 #[.string ⟨#[117, 115, 101, 114]⟩, .slice au lu cu] w' fun e w'' => e = .returned (.string (nmTo ⟨#[117, 115, 101, 114]⟩ us us.length)) ∧ Below w'.heap.size w' w'') := (fun w' hb => by rw [eu]; exact sNamedT_any _ (by decide) au lu cu us (by omega) (nm_ids nu) w' (hu.below hb))
    have HG : Hid (∀ w', Below w.heap.size w w' → Calls Tryd.prog 91 #[.string ⟨#[103, 114, 111, 117, 112]⟩, .slice ag lg cg] w' fun e w'' => e = .returned (.string (nmTo ⟨#[103, 114, 111, 117, 112]⟩ gs gs.length)) ∧ Below w'.heap.size w' w'') := (fun w' hb => by rw [eg]; exact sNamedT_any _ (by decide) ag lg cg gs (by omega) (nm_ids ng) w' (hg.below hb))
    have HBt : Hid (∀ n w, Calls Tryd.prog 90 #[.int .i64 n] w fun e w' => e = .returned (.string (bitsS n)) ∧ Below w.heap.size w w') := (fun n w => by
      refine (sBitsText_any n w).mono ?_
      rintro e w' ⟨rfl, rfl⟩
      exact ⟨rfl, Below.refl _ _⟩)
    have zu : (nmTo ⟨#[117, 115, 101, 114]⟩ us us.length).size ≤ 90 := by have := nmTo_size (word := ⟨#[117, 115, 101, 114]⟩) (by decide) (nm_ids nu) us.length (Nat.le_refl _); omega
    have zg : (nmTo ⟨#[103, 114, 111, 117, 112]⟩ gs gs.length).size ≤ 90 := by have := nmTo_size (word := ⟨#[103, 114, 111, 117, 112]⟩) (by decide) (nm_ids ng) gs.length (Nat.le_refl _); omega
    have HX : Hid (aclX u g us gs = ⟨#[117, 115, 101, 114, 58, 58]⟩ ++ bitsS u ++ nmTo ⟨#[117, 115, 101, 114]⟩ us us.length ++ ⟨#[44, 103, 114, 111, 117, 112, 58, 58]⟩ ++ bitsS g ++ nmTo ⟨#[103, 114, 111, 117, 112]⟩ gs gs.length) := rfl
    have zx : (aclX u g us gs).size ≤ 250 := aclX_size nu ng
    have HT : Hid (aclTx u g o us gs r m = aclY (aclX u g us gs) r m ++ ⟨#[44, 111, 116, 104, 101, 114, 58, 58]⟩ ++ bitsS o) := rfl
    have b0 := bitsS_size u
    have b1 := bitsS_size g
    have b2 := bitsS_size o
    have b3 := bitsS_size m
    have hu0 : Hid (∀ w, Calls Tryd.prog 90 #[.int .i64 u] w fun e w' => e = .returned (.string (bitsS u)) ∧ Below w.heap.size w w') := HBt.out u
    have hg0 : Hid (∀ w, Calls Tryd.prog 90 #[.int .i64 g] w fun e w' => e = .returned (.string (bitsS g)) ∧ Below w.heap.size w w') := HBt.out g
    have ho0 : Hid (∀ w, Calls Tryd.prog 90 #[.int .i64 o] w fun e w' => e = .returned (.string (bitsS o)) ∧ Below w.heap.size w w') := HBt.out o
    have hm0 : Hid (∀ w, Calls Tryd.prog 90 #[.int .i64 m] w fun e w' => e = .returned (.string (bitsS m)) ∧ Below w.heap.size w w') := HBt.out m
    have HY : Hid (∀ X, aclY X r m = if r then X ++ ⟨#[44, 109, 97, 115, 107, 58, 58]⟩ ++ bitsS m else X) := (fun X => rfl)
    clear hn hb hu hg hlu hlg nu ng eu eg lu6 lg6 HBt
    generalize aclTx u g o us gs r m = R at HT ⊢
    generalize aclX u g us gs = XX at HX zx HT
    generalize nmTo ⟨#[117, 115, 101, 114]⟩ us us.length = NU at HU zu HX
    generalize nmTo ⟨#[103, 114, 111, 117, 112]⟩ gs gs.length = NG at HG zg HX
    generalize bitsS u = BU at hu0 b0 HX
    generalize bitsS g = BG at hg0 b1 HX
    generalize bitsS o = BO at ho0 b2 HT
    generalize bitsS m = BM at hm0 b3 HY
    have y0 : (⟨#[117, 115, 101, 114, 58, 58]⟩ : ByteArray).size = 6 := rfl
    have y1 : (⟨#[44, 103, 114, 111, 117, 112, 58, 58]⟩ : ByteArray).size = 8 := rfl
    have y2 : (⟨#[44, 109, 97, 115, 107, 58, 58]⟩ : ByteArray).size = 7 := rfl
    have y3 : (⟨#[44, 111, 116, 104, 101, 114, 58, 58]⟩ : ByteArray).size = 8 := rfl
    obtain ⟨xl, x0, x1, x2, x3, x4, x5, x6⟩ := hX0.out
    go_enter Tryd.func59, Tryd.ntmps59
    go_wp2_with fail
    refine (hR.out _ hW0.out).mono ?_
    rintro e w1 ⟨rfl, hb1⟩
    have hW1 : Hid (Below w.heap.size w w1) := Below.on hW0.out hb1
    have hX1 : Hid (Box7 w1 w.heap.size (.int .i64 u) (.int .i64 g) (.int .i64 o) (.slice au lu cu) (.slice ag lg cg) (.bool r) (.int .i64 m)) := hX0.out.below hb1
    clear hb1 hR xl x0 x1 x2 x3 x4 x5 x6 hX0 hW0
    obtain ⟨xl, x0, x1, x2, x3, x4, x5, x6⟩ := hX1.out
    have q0 := fun d os => cell_regrown x0 d os
    have q1 := fun d os => cell_regrown x1 d os
    have q3 := fun d os => cell_regrown x3 d os
    have q4 := fun d os => cell_regrown x4 d os
    have r0 : ∀ d os, Calls Tryd.prog 90 #[.int .i64 u] (Go.Sort.grow (redrawn w1 d) os) fun e w'' => e = .returned (.string BU) ∧ ∃ p : Regrown, w'' = Go.Sort.grow (redrawn w1 p.d) p.os := fun d os => Calls.regrown_of (hu0.out _)
    have r1 : ∀ d os, Calls Tryd.prog 91 #[.string ⟨#[117, 115, 101, 114]⟩, .slice au lu cu] (Go.Sort.grow (redrawn w1 d) os) fun e w'' => e = .returned (.string NU) ∧ ∃ p : Regrown, w'' = Go.Sort.grow (redrawn w1 p.d) p.os := fun d os => Calls.regrown_of (HU.out _ (Below.on hW1.out (below_regrown w1 d os)))
    have r2 : ∀ d os, Calls Tryd.prog 90 #[.int .i64 g] (Go.Sort.grow (redrawn w1 d) os) fun e w'' => e = .returned (.string BG) ∧ ∃ p : Regrown, w'' = Go.Sort.grow (redrawn w1 p.d) p.os := fun d os => Calls.regrown_of (hg0.out _)
    have r3 : ∀ d os, Calls Tryd.prog 91 #[.string ⟨#[103, 114, 111, 117, 112]⟩, .slice ag lg cg] (Go.Sort.grow (redrawn w1 d) os) fun e w'' => e = .returned (.string NG) ∧ ∃ p : Regrown, w'' = Go.Sort.grow (redrawn w1 p.d) p.os := fun d os => Calls.regrown_of (HG.out _ (Below.on hW1.out (below_regrown w1 d os)))
    go_wp2_with fail
    refine wp_region_quiet_below (by kernel_rfl) (by kernel_rfl) ?_
    repeat (go_big_quiet_step (fail))
    go_big_quiet_step (exact r0 _ _)
    repeat (go_big_quiet_step (fail))
    go_big_quiet_step (exact r1 _ _)
    repeat (go_big_quiet_step (fail))
    go_big_quiet_step (exact r2 _ _)
    repeat (go_big_quiet_step (fail))
    go_big_quiet_step (exact r3 _ _)
    repeat (go_big_quiet_step (fail))
    refine wpQuiet_nil ?_
    intro _ hw'
    obtain ⟨⟨dq, osq⟩, hw''⟩ := hw'
    subst hw''
    have hbq := below_regrown w1 dq osq
    have hW2 : Hid (Below w.heap.size w (Go.Sort.grow (redrawn w1 dq) osq)) := Below.on hW1.out hbq
    have hX2 : Hid (Box7 (Go.Sort.grow (redrawn w1 dq) osq) w.heap.size (.int .i64 u) (.int .i64 g) (.int .i64 o) (.slice au lu cu) (.slice ag lg cg) (.bool r) (.int .i64 m)) := hX1.out.below hbq
    generalize Go.Sort.grow (redrawn w1 dq) osq = w2 at hW2 hX2 ⊢
    rw [← HX.out]
    clear q0 q1 q3 q4 r0 r1 r2 r3 hbq xl x0 x1 x2 x3 x4 x5 x6 hX1 hW1 HU HG hu0 hg0 HX zu zg b0 b1 y0 y1
    obtain ⟨xl, x0, x1, x2, x3, x4, x5, x6⟩ := hX2.out
    cases r
    · have hy : Hid (R = XX ++ ⟨#[44, 111, 116, 104, 101, 114, 58, 58]⟩ ++ BO) := (by show _ = _; rw [HT.out, HY.out]; rfl)
      go_wp2_with fail
      refine (ho0.out _).mono ?_
      rintro e w3 ⟨rfl, hb3⟩
      have hW3 : Hid (Below w.heap.size w w3) := Below.on hW2.out hb3
      clear hb3 xl x0 x1 x2 x3 x4 x5 x6
      go_wp2
      go_ret
      exact ⟨ret_aclT hy.out.symm, hW3.out⟩
    · have hy : Hid (R = XX ++ ⟨#[44, 109, 97, 115, 107, 58, 58]⟩ ++ BM ++ ⟨#[44, 111, 116, 104, 101, 114, 58, 58]⟩ ++ BO) := (by show _ = _; rw [HT.out, HY.out]; rfl)
      go_wp2_with fail
      refine (hm0.out _).mono ?_
      rintro e w3 ⟨rfl, hb3⟩
      have hW3 : Hid (Below w.heap.size w w3) := Below.on hW2.out hb3
      have hX3 : Hid (Box7 w3 w.heap.size (.int .i64 u) (.int .i64 g) (.int .i64 o) (.slice au lu cu) (.slice ag lg cg) (.bool true) (.int .i64 m)) := hX2.out.below hb3
      clear hb3 xl x0 x1 x2 x3 x4 x5 x6
      obtain ⟨xl, x0, x1, x2, x3, x4, x5, x6⟩ := hX3.out
      go_wp2_with fail
      refine (ho0.out _).mono ?_
      rintro e w4 ⟨rfl, hb4⟩
      have hW4 : Hid (Below w.heap.size w w4) := Below.on hW3.out hb4
      clear hb4 xl x0 x1 x2 x3 x4 x5 x6
      go_wp2
      go_ret
      exact ⟨ret_aclT hy.out.symm, hW4.out⟩
set_option maxRecDepth 100000 in
set_option maxHeartbeats 2000000 in
/-- impl.entryText. -/
theorem iEntry_any (word id : ByteArray) (b : Int) (hs : word.size + id.size ≤ 1000) (w : World) :
    Calls Tryd.prog 118 #[.string word, .string id, .int .i64 b] w fun e w' => e = .returned (.string (entT word id b)) ∧ Below w.heap.size w w' := by
  have hB : Hid (Calls Tryd.prog 138 #[.int .i64 b] w fun e w' => e = .returned (.string (bitsS b)) ∧ Below w.heap.size w w') := iBitsText_any b w
  have hz := bitsS_size b
  have HE : Hid (entT word id b = word ++ ⟨#[58]⟩ ++ id ++ ⟨#[58]⟩ ++ bitsS b) := rfl
  have HJ : Hid (∀ w, Calls Tryd.prog 39 #[.slice (some ⟨w.heap.size, 0, none⟩) 5 5] (w.alloc (.cells #[.string word, .string ⟨#[58]⟩, .string id, .string ⟨#[58]⟩, .string (bitsS b)] 9)) fun e' w' => e' = .returned (.string (word ++ ⟨#[58]⟩ ++ id ++ ⟨#[58]⟩ ++ bitsS b)) ∧ Below w.heap.size w w') := (fun w => join_five _ _ _ _ _ w (by have e2 : (⟨#[58]⟩ : ByteArray).size = 1 := rfl; omega) 5)
  generalize bitsS b = BT at hB HE HJ
  generalize entT word id b = R at HE ⊢
  clear hz hs
  go_enter Tryd.func118, Tryd.ntmps118
  go_wp2_with fail
  refine hB.out.mono ?_
  rintro e w1 ⟨rfl, hb1⟩
  have hW1 : Hid (Below w.heap.size w w1) := hb1
  clear hb1
  go_wp2_with fail
  refine (HJ.out _).mono ?_
  rintro e w2 ⟨rfl, hb2⟩
  have hW2 : Hid (Below w.heap.size w w2) := Below.on hW1.out hb2
  clear hb2
  go_wp2
  go_ret
  exact ⟨ret_aclT HE.out.symm, hW2.out⟩
/-- append of one text, with what it leaves as it was. -/
theorem append_textG (w0 w : World) (v : Value) (l : List ByteArray) (hown : w.ownsRow w0.heap.size 9 1 v l.length (tv l)) (hB : Below w0.heap.size w0 w) (x : ByteArray) (hsm : l.length ≤ 100000000) :
    ∃ v' w', (Builtin.append_ #[64, 64] 64 #[v, .slice (some ⟨w.heap.size, 0, none⟩) 1 1]).run Tryd.prog (w.alloc (.cells #[.string x] 9)) = .ok v' w' ∧ w'.ownsRow w0.heap.size 9 1 v' (l ++ [x]).length (tv (l ++ [x])) ∧ Below w0.heap.size w0 w' ∧ ∀ (b o : Nat), b < w.heap.size → v.ownBlock ≠ some b → w'.cell? ⟨b, o, none⟩ = w.cell? ⟨b, o, none⟩ := by
  obtain ⟨i, hi, hzz⟩ := Option.map_eq_some_iff.1 infoStr
  simp only [Prod.mk.injEq] at hzz
  obtain ⟨hz, hs, hb⟩ := hzz
  have hb1 := bel_alloc w (.cells #[.string x] 9)
  have hB1 := Below.on hB hb1
  have hown1 := rowT_below hown hb1
  obtain ⟨v', w', hr, h1, h2, _⟩ := run_append_own (P := Tryd.prog) _ w0.heap.size 64 64 9 i _ 1 16 Tryd.underlying64 hi hz hs hb rfl (by decide) v l.length (tv l) hown1 ⟨w.heap.size, 0, none⟩ 1 1 [.string x] rfl (text_new w x _) (one_text x) (by unfold maxLen; omega) (by omega) hB1.size
  refine ⟨v', w', hr, ?_, hB1.grown h2 hB1.size (own_blockT hown1), fun b o hlt hne => ?_⟩
  · rw [tv_snoc, List.length_append]
    exact h1
  · exact (World.cell?_of_block (h2.block b (by simp; omega) (fun e => hne e.symm))).trans (hb1.cell (p := ⟨b, o, none⟩) hlt)
/-- append of a row of texts onto another one that is not empty. -/
theorem append_rowT (w0 w : World) (v v2 : Value) (l l2 : List ByteArray) {B2 : Nat} (hown : w.ownsRow w0.heap.size 9 1 v l.length (tv l)) (hpos : 0 < l.length) (hB : Below w0.heap.size w0 w) (hown2 : w.ownsRow B2 9 1 v2 l2.length (tv l2)) (hsm : l.length ≤ 1000000) (hsm2 : l2.length ≤ 1000000) :
    ∃ v' w', (Builtin.append_ #[64, 64] 64 #[v, v2]).run Tryd.prog w = .ok v' w' ∧ w'.ownsRow w0.heap.size 9 1 v' (l ++ l2).length (tv (l ++ l2)) ∧ Below w0.heap.size w0 w' ∧ ∀ (b o : Nat), b < w.heap.size → v.ownBlock ≠ some b → w'.cell? ⟨b, o, none⟩ = w.cell? ⟨b, o, none⟩ := by
  obtain ⟨i, hi, hzz⟩ := Option.map_eq_some_iff.1 infoStr
  simp only [Prod.mk.injEq] at hzz
  obtain ⟨hz, hs, hb⟩ := hzz
  have hown2' := hown2
  obtain ⟨_, ⟨rfl, hn⟩ | ⟨g, cap, cur, rfl, _, _, _, _, _, _⟩⟩ := hown2
  · have hl2 : l2 = [] := List.eq_nil_of_length_eq_zero hn
    subst hl2
    have hown' := hown
    obtain ⟨_, ⟨_, hn0⟩ | ⟨g, cap, cur, rfl, _, _, hc, _, _, _⟩⟩ := hown
    · omega
    · refine ⟨_, w, run_append_room_src (P := Tryd.prog) w 64 64 64 9 i Tryd.underlying64 hi g 0 l.length cap (.slice none 0 0) 0 [] (Src.ofNil w Tryd.underlying64 0) (by omega) (fun j hj => by simp at hj) (fun j hj => by simp at hj), ?_, ?_, ?_⟩
      · simpa using hown'
      · exact hB
      · intro b o _ _
        rfl
  · obtain ⟨v', w', hr, h1, h2, _⟩ := run_append_own (P := Tryd.prog) w w0.heap.size 64 64 9 i _ 1 16 Tryd.underlying64 hi hz hs hb rfl (by decide) v l.length (tv l) hown ⟨g, 0, none⟩ l2.length cap (tv l2) (by simp [tv]) (hown2'.cells rfl) (fun u hu => by simp [tv] at hu; obtain ⟨x, _, rfl⟩ := hu; rfl) (by unfold maxLen; omega) (by omega) hB.size
    refine ⟨v', w', hr, ?_, hB.grown h2 hB.size (own_blockT hown), fun b o hlt hne => World.cell?_of_block (h2.block b hlt (fun e => hne e.symm))⟩
    have e1 : tv (l ++ l2) = tv l ++ tv l2 := by simp [tv]
    rw [e1, List.length_append]
    exact h1
/-- The entries of the first k. -/
def nmL (word : ByteArray) (l : List (Int × Int)) (k : Nat) : List ByteArray := (List.range k).map (nmE word l)
theorem nmL_len (word : ByteArray) (l : List (Int × Int)) (k : Nat) : (nmL word l k).length = k := by simp [nmL]
theorem nmL_snoc (word : ByteArray) (l : List (Int × Int)) (k : Nat) : nmL word l (k + 1) = nmL word l k ++ [nmE word l k] := by simp [nmL, List.range_succ]
theorem own_lt {w : World} {B : Nat} {t : TypeId} {v : Value} {n : Nat} {xs : List Value} (h : w.ownsRow B t 1 v n xs) : v.ownBlock ≠ some w.heap.size := by
  intro e
  have := (h.lt _ e).2
  omega
set_option maxRecDepth 100000 in
set_option maxHeartbeats 4000000 in
/-- impl.namedTexts. -/
theorem iNamedT_any (word : ByteArray) (hw : word.size ≤ 5) (a : Option Addr) (len cap : Nat) (l : List (Int × Int)) (hl : len ≤ 6) (hid : IdsIn l) (w : World) (hi : Prs a len l w) (hp : PowW w) :
    Calls Tryd.prog 119 #[.string word, .slice a len cap] w fun e w' => ∃ v, e = .returned v ∧ w'.ownsRow w.heap.size 9 1 v (nmL word l len).length (tv (nmL word l len)) ∧ Below w.heap.size w w' := by
  have HD : Hid (∀ k w', k < len → Below w.heap.size w w' → Calls Tryd.prog 38 #[.int .i64 (idAt l k)] w' fun e w'' => e = .returned (.string (decT (idAt l k).toNat)) ∧ Below w'.heap.size w' w'') := (fun k w' hk hb => by
    have h1 := hid k (by rw [hi.1]; exact hk)
    have h2 := iDigits_any (idAt l k).toNat (by omega) w' (hp.below hb)
    rwa [Int.toNat_of_nonneg h1.1] at h2)
  have HE : Hid (∀ k w', k < len → Calls Tryd.prog 118 #[.string word, .string (decT (idAt l k).toNat), .int .i64 (btAt l k)] w' fun e w'' => e = .returned (.string (nmE word l k)) ∧ Below w'.heap.size w' w'') := (fun k w' hk => iEntry_any word _ _ (by have := (decT_size (n := (idAt l k).toNat) (by have := hid k (by rw [hi.1]; exact hk); omega)).2; omega) w')
  have HN : Hid (∀ k, nmL word l (k + 1) = nmL word l k ++ [nmE word l k]) := nmL_snoc word l
  have HNL : Hid (∀ k, (nmL word l k).length = k) := nmL_len word l
  have HI : Hid (Prs a len l w) := hi
  clear hi hid hp
  go_enter Tryd.func119, Tryd.ntmps119
  go_wp2
  go_loopw [5, 10] (fun v i wr => ∃ k : Nat, k ≤ len ∧ i = .int .i64 k ∧ Hid (wr.ownsRow w.heap.size 9 1 v (nmL word l k).length (tv (nmL word l k))) ∧ Hid (Below w.heap.size w wr)) (fun _ i _ => len - (intOf i).toNat)
  case atStart => exact ⟨0, Nat.zero_le _, rfl, World.ownsRow_nil _ _ _ _, Below.refl _ _⟩
  case round =>
    obtain ⟨k, hk, rfl, hOw, hB⟩ := hrel
    by_cases hlt : k < len
    · have hlt' : (k : Int) < (len : Int) := by omega
      obtain ⟨b, off, rfl, hbl, hcl⟩ := HI.out.2 (by omega)
      have c0 : wr.cell? ⟨b, off + k * 2, none⟩ = some (.int .i64 (idAt l k)) := (hB.out.cell (p := ⟨b, off + k * 2, none⟩) hbl).trans (hcl k hlt).1
      have c1 : wr.cell? ⟨b, off + k * 2 + 1, none⟩ = some (.int .i64 (btAt l k)) := (hB.out.cell (p := ⟨b, off + k * 2 + 1, none⟩) hbl).trans (hcl k hlt).2
      have d0 : Hid (∀ w', Below w.heap.size w w' → Calls Tryd.prog 38 #[.int .i64 (idAt l k)] w' fun e w'' => e = .returned (.string (decT (idAt l k).toNat)) ∧ Below w'.heap.size w' w'') := (fun w' hb => HD.out k w' hlt hb)
      have d1 : Hid (∀ w', Calls Tryd.prog 118 #[.string word, .string (decT (idAt l k).toNat), .int .i64 (btAt l k)] w' fun e w'' => e = .returned (.string (nmE word l k)) ∧ Below w'.heap.size w' w'') := (fun w' => HE.out k w' hlt)
      have hn : Hid (nmL word l (k + 1) = nmL word l k ++ [nmE word l k]) := HN.out k
      have hlk := HNL.out k
      clear hcl
      generalize decT (idAt l k).toNat = D at d0 d1
      generalize nmE word l k = EN at d1 hn
      generalize idAt l k = x at c0 d0
      generalize btAt l k = y at c1 d1
      go_wp2_with fail
      obtain ⟨p0, p1⟩ := pair_new wr (.int .i64 x) (.int .i64 y) 126
      have HB1 : Hid (Below w.heap.size w (wr.alloc (.cells #[.int .i64 x, .int .i64 y] 126))) := Below.onA hB.out
      have HO1 : Hid ((wr.alloc (.cells #[.int .i64 x, .int .i64 y] 126)).ownsRow w.heap.size 9 1 u5 (nmL word l k).length (tv (nmL word l k))) := rowT_below hOw.out (bel_alloc _ _)
      have HLT : Hid (wr.heap.size < (wr.alloc (.cells #[.int .i64 x, .int .i64 y] 126)).heap.size) := (show _ < _ by simp)
      have HNE : Hid (u5.ownBlock ≠ some wr.heap.size) := own_lt hOw.out
      have P0 : Hid ((wr.alloc (.cells #[.int .i64 x, .int .i64 y] 126)).cell? ⟨wr.heap.size, 0, none⟩ = some (.int .i64 x)) := p0
      have P1 : Hid ((wr.alloc (.cells #[.int .i64 x, .int .i64 y] 126)).cell? ⟨wr.heap.size, 1, none⟩ = some (.int .i64 y)) := p1
      clear p0 p1 c0 c1 hOw hB
      generalize wr.alloc (.cells #[.int .i64 x, .int .i64 y] 126) = w1 at HB1 HO1 HLT P0 P1 ⊢
      generalize wr.heap.size = X at HLT HNE P0 P1 ⊢
      have p0 := P0.out
      have p1 := P1.out
      go_region_held3 (fun w' => w'.cell? ⟨X, 0, none⟩ = some (.int .i64 x) ∧ w'.cell? ⟨X, 1, none⟩ = some (.int .i64 y)) (go_keep)
        (first
          | (refine step_append_run rfl (.tmp 14) (.tmp 22) 64 rfl u5 (.slice (some ⟨wb.heap.size, 0, none⟩) 1 1) v2 w2 (by simp [Act.eval]) (by simp [Act.eval]) HRR.out ?_)
          | (go_at_call 38; refine (d0.out _ (bdC HB1.out)).mono ?_; rintro e wa ⟨rfl, hba⟩; have hA : Hid (Below w1.heap.size w1 wa) := bdZ hba; have ya0 := (hA.out.cell (p := ⟨X, 0, none⟩) HLT.out).trans P0.out; have ya1 := (hA.out.cell (p := ⟨X, 1, none⟩) HLT.out).trans P1.out)
          | (go_at_call 118; refine (d1.out _).mono ?_; rintro e wb ⟨rfl, hbb⟩; have hBb : Hid (Below w1.heap.size w1 wb) := Below.on hA.out hbb; obtain ⟨v2, w2, hr, hO2, hB2, hk2⟩ := append_textG w wb u5 (nmL word l k) (rowT_below HO1.out hBb.out) (Below.on HB1.out hBb.out) EN (by omega); rw [← hn.out] at hO2; have yb0 := (hBb.out.cell (p := ⟨X, 0, none⟩) HLT.out).trans P0.out; have yb1 := (hBb.out.cell (p := ⟨X, 1, none⟩) HLT.out).trans P1.out; have yc0 := (hk2 X 0 (Nat.lt_of_lt_of_le HLT.out hBb.out.size) HNE.out).trans yb0; have yc1 := (hk2 X 1 (Nat.lt_of_lt_of_le HLT.out hBb.out.size) HNE.out).trans yb1; have HRR : Hid ((Builtin.append_ #[64, 64] 64 #[u5, .slice (some ⟨wb.heap.size, 0, none⟩) 1 1]).run Tryd.prog (wb.alloc (.cells #[.string EN] 9)) = .ok v2 w2) := hr; have HO2 : Hid (w2.ownsRow w.heap.size 9 1 v2 (nmL word l (k + 1)).length (tv (nmL word l (k + 1)))) := hO2; have HB2 : Hid (Below w.heap.size w w2) := hB2; clear hr hO2 hB2 hk2))
      clear p0 p1 ya0 ya1 yb0 yb1 yc0 yc1 hba hbb
      go_wp2
      go_roundw
      case rel => exact ⟨k + 1, by omega, by go_num, HO2, HB2⟩
      case measure => simp [intOf]; omega
    · have : k = len := by omega
      subst this
      go_wp2
      go_ret
      exact ⟨_, rfl, hOw.out, hB.out⟩
end Go.Proofs.YtgooanaacebncaaDoor
