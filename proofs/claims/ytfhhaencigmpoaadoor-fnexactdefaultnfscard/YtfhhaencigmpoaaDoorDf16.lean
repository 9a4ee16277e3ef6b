/- Laid together: AclTo, AclRight. -/
import Derived.Test.YtfhhaencigmpoaaDoorDf6
import Derived.Test.YtfhhaencigmpoaaDoorDf15
/- laws.toAcl, laws.szAcl: a copy of a list of names; its size. -/
namespace Go.Proofs.YtfhhaencigmpoaaDoor
open Go.RowKit Go.PlainAid
set_option linter.unusedVariables false
theorem Own.set {a : Option Addr} {len : Nat} {l : List (Int × Int)} {w : World} {b o : Nat} {v : Value} (h : Own a len l w) (hne : ∀ B, a = some ⟨B, 0, none⟩ → b ≠ B) : Own a len l (w.setCell ⟨b, o, none⟩ v) := by
  refine ⟨h.1, fun h0 => ?_⟩
  obtain ⟨B, ha, hlt, hp⟩ := h.2 h0
  have hn := hne B ha
  refine ⟨B, ha, by simpa using hlt, fun i hi => ?_⟩
  have h1 := hp i hi
  rw [World.frozen?_setCell, World.frozen?_setCell]
  refine ⟨⟨?_, ?_⟩, h1.2⟩
  · rw [← h1.1.1]
    exact World.cell?_setCell_other _ _ _ _ (by intro h; have h2 := congrArg Addr.block h; simp only at h2; omega)
  · rw [← h1.1.2]
    exact World.cell?_setCell_other _ _ _ _ (by intro h; have h2 := congrArg Addr.block h; simp only at h2; omega)
theorem bl3N_size {w : World} {o1 o2 o3 : Obj} : (((w.alloc o1).alloc o2).alloc o3).heap.size = w.heap.size + 1 + 1 + 1 := by simp
set_option maxHeartbeats 4000000 in
/-- laws.toAcl. -/
theorem toAcl_any (u g o : Int) (au : Option Addr) (lu cu : Nat) (ag : Option Addr) (lg cg : Nat) (r : Bool) (m : Int) (us gs : List (Int × Int)) (h1 : lu ≤ 1048576) (h2 : lg ≤ 1048576) (w : World) (hu : Prs au lu us w) (hg : Prs ag lg gs w) :
    Calls Tryd.prog 9 #[.agg #[.int .i64 u, .int .i64 g, .int .i64 o, .slice au lu cu, .slice ag lg cg, .bool r, .int .i64 m]] w fun e w' => ∃ B1 B2, e = .returned (.agg #[.int .i64 u, .int .i64 g, .int .i64 o, .slice (some ⟨B1, 0, none⟩) lu lu, .slice (some ⟨B2, 0, none⟩) lg lg, .bool r, .int .i64 m]) ∧
      Own (some ⟨B1, 0, none⟩) lu us w' ∧ Own (some ⟨B2, 0, none⟩) lg gs w' ∧ w.heap.size ≤ B1 ∧ B1 < B2 ∧ B2 < w'.heap.size ∧ Below w.heap.size w w' := by
  have hc : Hid (∀ w', Below w.heap.size w w' → Calls Tryd.prog 33 #[.slice au lu cu] w' fun e w'' => e = .returned (.slice (some ⟨w'.heap.size, 0, none⟩) lu lu) ∧ Own (some ⟨w'.heap.size, 0, none⟩) lu us w'' ∧ w'.heap.size < w''.heap.size ∧ Below w'.heap.size w' w'') := (fun w' hb => toNamedS_any au lu cu us h1 w' (hu.below hb))
  have hd : Hid (∀ w', Below w.heap.size w w' → Calls Tryd.prog 33 #[.slice ag lg cg] w' fun e w'' => e = .returned (.slice (some ⟨w'.heap.size, 0, none⟩) lg lg) ∧ Own (some ⟨w'.heap.size, 0, none⟩) lg gs w'' ∧ w'.heap.size < w''.heap.size ∧ Below w'.heap.size w' w'') := (fun w' hb => toNamedS_any ag lg cg gs h2 w' (hg.below hb))
  clear hu hg
  go_enter Tryd.func9, Tryd.ntmps9
  go_wp2_with fail
  refine (hc.out _ (bl3N _ _ _ _)).mono ?_
  rintro e w1 ⟨rfl, hI, hz, hb⟩
  rw [bl3N_size] at hI hz ⊢
  have hbW : Hid (Below w.heap.size w w1) := (bl3N _ _ _ _).trans (hb.mono (by rw [bl3N_size]; omega))
  obtain ⟨hcl, hfz⟩ := bl_cellN hb
  clear hb
  simp at hcl hfz
  go_wp2_with fail
  refine (hd.out _ (bl_setN hbW.out (by omega))).mono ?_
  rintro e w2 ⟨rfl, hJ, hz2, hb2⟩
  have eS : (w1.setCell ⟨w.heap.size + 1 + 1, 3, none⟩ (.slice (some ⟨w.heap.size + 1 + 1 + 1, 0, none⟩) lu lu)).heap.size = w1.heap.size := by simp
  have hI2 : Own (some ⟨w.heap.size + 1 + 1 + 1, 0, none⟩) lu us w2 := (hI.set (fun B e => by simp at e; omega)).below hb2
  have hW2 : Below w.heap.size w w2 := (bl_setN hbW.out (by omega)).trans (hb2.mono (by rw [eS]; omega))
  have hcl2 : ∀ b o, b < w.heap.size + 1 + 1 + 1 → w2.cell? ⟨b, o, none⟩ = (w1.setCell ⟨w.heap.size + 1 + 1, 3, none⟩ (.slice (some ⟨w.heap.size + 1 + 1 + 1, 0, none⟩) lu lu)).cell? ⟨b, o, none⟩ := fun b o h => hb2.cell (p := ⟨b, o, none⟩) (by rw [eS]; show b < _; omega)
  have hfz2 : ∀ b o, b < w.heap.size + 1 + 1 + 1 → w2.frozen? ⟨b, o, none⟩ = (w1.setCell ⟨w.heap.size + 1 + 1, 3, none⟩ (.slice (some ⟨w.heap.size + 1 + 1 + 1, 0, none⟩) lu lu)).frozen? ⟨b, o, none⟩ := fun b o h => hb2.frozen (p := ⟨b, o, none⟩) (by rw [eS]; show b < _; omega)
  rw [eS] at hJ hz2 ⊢
  have HI : Hid (Own (some ⟨w.heap.size + 1 + 1 + 1, 0, none⟩) lu us w2) := hI2
  have HJ : Hid (Own (some ⟨w1.heap.size, 0, none⟩) lg gs w2) := hJ
  have HW : Hid (Below w.heap.size w w2) := hW2
  have HZ : Hid (w.heap.size + 1 + 1 + 1 < w1.heap.size) := hz
  have HZ2 : Hid (w1.heap.size < w2.heap.size) := hz2
  generalize w1.heap.size = X at HJ HZ HZ2 ⊢
  clear hI hJ hW2 hI2 hz hz2 hb2 eS hc hd hbW
  go_wp2
  refine bodyPost_ret (v := .agg #[.int .i64 u, .int .i64 g, .int .i64 o, .slice (some ⟨w.heap.size + 1 + 1 + 1, 0, none⟩) lu lu, .slice (some ⟨X, 0, none⟩) lg lg, .bool r, .int .i64 m]) (by simp [results, Tryd.results9, go_sem, hcl2, hcl]) rfl ⟨_, _, rfl, ?_, ?_, by omega, HZ.out, ?_, ?_⟩
  · iterate 10 (refine Own.set ?_ (fun B e => by simp at e; omega))
    exact HI.out
  · have hX := HZ.out
    iterate 10 (refine Own.set ?_ (fun B e => by simp at e; omega))
    exact HJ.out
  · simpa using HZ2.out
  · iterate 10 (refine bl_setN ?_ (by omega))
    exact HW.out
theorem szNamedS_any (a : Option Addr) (len cap : Nat) (left : Int) (h0 : 0 ≤ left) (h1 : left ≤ 1048576) (hm : len ≤ 9223372036854775807) (w : World) :
    Calls Tryd.prog 31 #[.slice a len cap, .int .i64 left] w fun e w' => e = .returned (.int .i64 (if left < (len : Int) then -1 else left - len)) ∧ w' = w := by
  by_cases hl : left < (len : Int)
  · rw [if_pos hl]
    have d1 : left - (len : Int) < 0 := by omega
    go_enter Tryd.func31, Tryd.ntmps31
    go_wp2
    go_ret
    exact ⟨rfl, rfl⟩
  · rw [if_neg hl]
    have d1 : decide (left - (len : Int) < 0) = false := by simp; omega
    go_enter Tryd.func31, Tryd.ntmps31
    go_wp2
    go_ret
    exact ⟨rfl, rfl⟩
/-- What is left of a size by two lists; -1 if they are too long. -/
def szB (left lu lg : Int) : Int := if left < lu then -1 else if left - lu < lg then -1 else left - lu - lg
set_option maxHeartbeats 2000000 in
/-- laws.szAcl. -/
theorem szAcl_any (u g o : Int) (au : Option Addr) (lu cu : Nat) (ag : Option Addr) (lg cg : Nat) (r : Bool) (m : Int) (left : Int) (h0 : 0 ≤ left) (h1 : left ≤ 1048576) (hu : lu ≤ 9223372036854775807) (hg : lg ≤ 9223372036854775807) (w : World) :
    Calls Tryd.prog 7 #[.agg #[.int .i64 u, .int .i64 g, .int .i64 o, .slice au lu cu, .slice ag lg cg, .bool r, .int .i64 m], .int .i64 left] w fun e w' => e = .returned (.int .i64 (szB left lu lg)) ∧ Below w.heap.size w w' := by
  have hc : Hid (∀ w, Calls Tryd.prog 31 #[.slice au lu cu, .int .i64 left] w fun e w' => e = .returned (.int .i64 (if left < (lu : Int) then -1 else left - lu)) ∧ w' = w) := szNamedS_any au lu cu left h0 h1 hu
  by_cases hl : left < (lu : Int)
  · have e : Hid (szB left lu lg = -1) := (by show szB left lu lg = -1; rw [szB, if_pos hl])
    rw [if_pos hl] at hc
    clear hl h0 h1 hu hg
    go_enter Tryd.func7, Tryd.ntmps7
    go_wp2_with (go_at_call 31; refine (hc.out _).mono ?_; rintro e w' ⟨rfl, rfl⟩)
    go_ret
    exact ⟨by rw [e.out]; rfl, (Below.refl _ _).alloc (Nat.le_refl _) _⟩
  · rw [if_neg hl] at hc
    have hd : Hid (∀ w, Calls Tryd.prog 31 #[.slice ag lg cg, .int .i64 (left - lu)] w fun e w' => e = .returned (.int .i64 (if left - lu < (lg : Int) then -1 else left - lu - lg)) ∧ w' = w) := szNamedS_any ag lg cg (left - lu) (by omega) (by omega) hg
    have d1 : decide (left - (lu : Int) < 0) = false := by simp; omega
    by_cases hl2 : left - (lu : Int) < (lg : Int)
    · have e : Hid (szB left lu lg = -1) := (by show szB left lu lg = -1; rw [szB, if_neg hl, if_pos hl2])
      rw [if_pos hl2] at hd
      clear hl hl2 h0 h1 hu hg
      go_enter Tryd.func7, Tryd.ntmps7
      go_wp2_with fail
      refine (hc.out _).mono ?_
      rintro e1 w1 ⟨rfl, rfl⟩
      go_wp2_with fail
      refine (hd.out _).mono ?_
      rintro e1 w1 ⟨rfl, rfl⟩
      go_wp2
      go_ret
      exact ⟨by rw [e.out]; rfl, (Below.refl _ _).alloc (Nat.le_refl _) _⟩
    · have e : Hid (szB left lu lg = left - lu - lg) := (by show szB left lu lg = left - lu - lg; rw [szB, if_neg hl, if_neg hl2])
      rw [if_neg hl2] at hd
      have d2 : decide (left - (lu : Int) - (lg : Int) < 0) = false := by simp; omega
      clear hl hl2 h0 h1 hu hg
      go_enter Tryd.func7, Tryd.ntmps7
      go_wp2_with fail
      refine (hc.out _).mono ?_
      rintro e1 w1 ⟨rfl, rfl⟩
      go_wp2_with fail
      refine (hd.out _).mono ?_
      rintro e1 w1 ⟨rfl, rfl⟩
      go_wp2
      go_ret
      exact ⟨by rw [e.out]; rfl, (Below.refl _ _).alloc (Nat.le_refl _) _⟩
end Go.Proofs.YtfhhaencigmpoaaDoor
/- AclRight, the program's and the specification's. -/
namespace Go.Proofs.YtfhhaencigmpoaaDoor
open Go.RowKit Go.PlainAid
set_option linter.unusedVariables false
set_option maxHeartbeats 1000000 in
/-- impl.hasNamed. -/
theorem hasNamed_any (u g o : Int) (au : Option Addr) (lu cu : Nat) (ag : Option Addr) (lg cg : Nat) (r : Bool) (m : Int) (w : World) :
    Calls Tryd.prog 75 #[.agg #[.int .i64 u, .int .i64 g, .int .i64 o, .slice au lu cu, .slice ag lg cg, .bool r, .int .i64 m]] w fun e w' => e = .returned (.bool (!(lu == 0 && lg == 0))) ∧ Below w.heap.size w w' := by
  by_cases h1 : lu = 0
  · subst h1
    by_cases h2 : lg = 0
    · subst h2
      go_enter Tryd.func75, Tryd.ntmps75
      go_wp2
      go_ret
      exact ⟨rfl, bel_alloc _ _⟩
    · have e : Hid ((!((0 : Nat) == 0 && lg == 0)) = true) := (by show _ = _; simp [h2])
      have d : 0 < (lg : Int) := by omega
      clear h2
      go_enter Tryd.func75, Tryd.ntmps75
      go_wp2
      go_ret
      exact ⟨ret_boolW (by rw [e.out]; simp; omega), bel_alloc _ _⟩
  · have e : Hid ((!(lu == 0 && lg == 0)) = true) := (by show _ = _; simp [h1])
    have d : 0 < (lu : Int) := by omega
    clear h1
    go_enter Tryd.func75, Tryd.ntmps75
    go_wp2
    go_ret
    exact ⟨ret_boolW e.out.symm, bel_alloc _ _⟩
theorem aclB_u {u g o : Int} {us gs : List (Int × Int)} {r : Bool} {m : Int} (h : inR 0 7 u = false) : aclB u g o us gs r m = false := by simp [aclB, h]
theorem aclB_g {u g o : Int} {us gs : List (Int × Int)} {r : Bool} {m : Int} (h : inR 0 7 g = false) : aclB u g o us gs r m = false := by simp [aclB, h]
theorem aclB_o {u g o : Int} {us gs : List (Int × Int)} {r : Bool} {m : Int} (h : inR 0 7 o = false) : aclB u g o us gs r m = false := by simp [aclB, h]
theorem aclB_m {u g o : Int} {us gs : List (Int × Int)} {r : Bool} {m : Int} (h : inR 0 7 m = false) : aclB u g o us gs r m = false := by simp [aclB, h]
theorem aclB_us {u g o : Int} {us gs : List (Int × Int)} {r : Bool} {m : Int} (h : nmB us = false) : aclB u g o us gs r m = false := by simp [aclB, h]
theorem aclB_gs {u g o : Int} {us gs : List (Int × Int)} {r : Bool} {m : Int} (h : nmB gs = false) : aclB u g o us gs r m = false := by simp [aclB, h]
theorem aclB_r {u g o : Int} {us gs : List (Int × Int)} {m : Int} (h0 : inR 0 7 u = true) (h1 : inR 0 7 g = true) (h2 : inR 0 7 o = true) (h3 : inR 0 7 m = true) (h4 : nmB us = true) (h5 : nmB gs = true) : aclB u g o us gs true m = true := by simp [aclB, *]
theorem aclB_f {u g o : Int} {us gs : List (Int × Int)} {m : Int} (h0 : inR 0 7 u = true) (h1 : inR 0 7 g = true) (h2 : inR 0 7 o = true) (h3 : inR 0 7 m = true) (h4 : nmB us = true) (h5 : nmB gs = true) : aclB u g o us gs false m = (m == 0 && (us.length == 0 && gs.length == 0)) := by simp [aclB, *]
set_option maxHeartbeats 4000000 in
/-- impl.AclRight. -/
theorem iAclRight_any (u g o : Int) (au : Option Addr) (lu cu : Nat) (ag : Option Addr) (lg cg : Nat) (r : Bool) (m : Int) (us gs : List (Int × Int)) (w : World) (hu : Prs au lu us w) (hg : Prs ag lg gs w) :
    Calls Tryd.prog 34 #[.agg #[.int .i64 u, .int .i64 g, .int .i64 o, .slice au lu cu, .slice ag lg cg, .bool r, .int .i64 m]] w fun e w' => e = .returned (.bool (aclB u g o us gs r m)) ∧ Below w.heap.size w w' := by
  have e1 := hu.1
  have e2 := hg.1
  have hc : Hid (∀ w', Below w.heap.size w w' → Calls Tryd.prog 74 #[.slice au lu cu] w' fun e w'' => e = .returned (.bool (nmB us)) ∧ Below w'.heap.size w' w'') := (fun w' hb => named_any au lu cu us w' (hu.below hb))
  have hd : Hid (∀ w', Below w.heap.size w w' → Calls Tryd.prog 74 #[.slice ag lg cg] w' fun e w'' => e = .returned (.bool (nmB gs)) ∧ Below w'.heap.size w' w'') := (fun w' hb => named_any ag lg cg gs w' (hg.below hb))
  clear hu hg
  cases h0 : inR 0 7 u
  · have hno : Hid (aclB u g o us gs r m = false) := aclB_u h0
    go_enter Tryd.func34, Tryd.ntmps34
    go_wp2_with (go_at_call 73; refine (isBits_any _ _).mono ?_; rintro e w' ⟨rfl, rfl⟩)
    go_ret
    exact ⟨ret_boolW hno.out.symm, bel_alloc _ _⟩
  cases h1 : inR 0 7 g
  · have hno : Hid (aclB u g o us gs r m = false) := aclB_g h1
    go_enter Tryd.func34, Tryd.ntmps34
    go_wp2_with (go_at_call 73; refine (isBits_any _ _).mono ?_; rintro e w' ⟨rfl, rfl⟩)
    go_ret
    exact ⟨ret_boolW hno.out.symm, bel_alloc _ _⟩
  cases h2 : inR 0 7 o
  · have hno : Hid (aclB u g o us gs r m = false) := aclB_o h2
    go_enter Tryd.func34, Tryd.ntmps34
    go_wp2_with (go_at_call 73; refine (isBits_any _ _).mono ?_; rintro e w' ⟨rfl, rfl⟩)
    go_ret
    exact ⟨ret_boolW hno.out.symm, bel_alloc _ _⟩
  cases h3 : inR 0 7 m
  · have hno : Hid (aclB u g o us gs r m = false) := aclB_m h3
    go_enter Tryd.func34, Tryd.ntmps34
    go_wp2_with (go_at_call 73; refine (isBits_any _ _).mono ?_; rintro e w' ⟨rfl, rfl⟩)
    go_ret
    exact ⟨ret_boolW hno.out.symm, bel_alloc _ _⟩
  have HT : Hid (nmB us = true → nmB gs = true → aclB u g o us gs true m = true ∧ aclB u g o us gs false m = (m == 0 && (lu == 0 && lg == 0))) := (fun h4 h5 => ⟨aclB_r h0 h1 h2 h3 h4 h5, by rw [← e1, ← e2]; exact aclB_f h0 h1 h2 h3 h4 h5⟩)
  clear e1 e2
  go_enter Tryd.func34, Tryd.ntmps34
  go_wp2_with (go_at_call 73; refine (isBits_any _ _).mono ?_; rintro e w' ⟨rfl, rfl⟩)
  refine (hc.out _ (bel_alloc _ _)).mono ?_
  rintro e w1 ⟨rfl, hb⟩
  have hW1 : Hid (Below w.heap.size w w1) := Below.on (bel_alloc _ _) hb
  have hX := (box7_new w (.int .i64 u) (.int .i64 g) (.int .i64 o) (.slice au lu cu) (.slice ag lg cg) (.bool r) (.int .i64 m) 30).below hb
  clear hb hc
  cases h4 : nmB us
  · have hno : Hid (aclB u g o us gs r m = false) := aclB_us h4
    go_wp2
    go_ret
    exact ⟨ret_boolW hno.out.symm, hW1.out⟩
  obtain ⟨xl, x0, x1, x2, x3, x4, x5, x6⟩ := hX
  go_wp2_with fail
  refine (hd.out _ hW1.out).mono ?_
  rintro e w2 ⟨rfl, hb⟩
  have hW2 : Hid (Below w.heap.size w w2) := Below.on hW1.out hb
  have hX2 := (Box7.mk xl x0 x1 x2 x3 x4 x5 x6).below hb
  clear hb hd hW1 xl x0 x1 x2 x3 x4 x5 x6
  cases h5 : nmB gs
  · have hno : Hid (aclB u g o us gs r m = false) := aclB_gs h5
    go_wp2
    go_ret
    exact ⟨ret_boolW hno.out.symm, hW2.out⟩
  obtain ⟨xl, x0, x1, x2, x3, x4, x5, x6⟩ := hX2
  obtain ⟨t1, t2⟩ := HT.out h4 h5
  cases r with
  | true =>
    have hyes : Hid (aclB u g o us gs true m = true) := t1
    clear t1 t2 HT h0 h1 h2 h3 h4 h5
    go_wp2
    go_ret
    exact ⟨ret_boolW hyes.out.symm, hW2.out⟩
  | false =>
    have hyes : Hid (aclB u g o us gs false m = (m == 0 && (lu == 0 && lg == 0))) := t2
    clear t1 t2 HT h0 h1 h2 h3 h4 h5
    by_cases hm : m = 0
    · subst hm
      go_wp2_with fail
      refine (hasNamed_any u g o au lu cu ag lg cg false 0 _).mono ?_
      rintro e w3 ⟨rfl, hb⟩
      have hW3 : Hid (Below w.heap.size w w3) := Below.on hW2.out hb
      have hyes2 : Hid ((!!(lu == 0 && lg == 0)) = aclB u g o us gs false 0) := (by show _ = _; rw [hyes.out]; simp)
      clear hb hyes
      generalize (!(lu == 0 && lg == 0)) = bb at hyes2 ⊢
      go_wp2
      go_ret
      exact ⟨ret_boolW hyes2.out, hW3.out⟩
    · have hno : Hid (aclB u g o us gs false m = false) := (by show _ = _; rw [hyes.out]; simp [hm])
      have hm2 : (m == 0) = false := by simp [hm]
      clear hm hyes
      go_wp2
      go_ret
      exact ⟨ret_boolW hno.out.symm, hW2.out⟩
set_option maxHeartbeats 4000000 in
/-- spec.AclRight. -/
theorem sAclRight_any (u g o : Int) (au : Option Addr) (lu cu : Nat) (ag : Option Addr) (lg cg : Nat) (r : Bool) (m : Int) (us gs : List (Int × Int)) (hlu : lu ≤ 1048576) (hlg : lg ≤ 1048576) (w : World) (hu : Prs au lu us w) (hg : Prs ag lg gs w) :
    Calls Tryd.prog 27 #[.agg #[.int .i64 u, .int .i64 g, .int .i64 o, .slice au lu cu, .slice ag lg cg, .bool r, .int .i64 m]] w fun e w' => e = .returned (.bool (aclB u g o us gs r m)) ∧ Below w.heap.size w w' := by
  have e1 := hu.1
  have e2 := hg.1
  have hc : Hid (∀ w', Below w.heap.size w w' → Calls Tryd.prog 60 #[.slice au lu cu] w' fun e w'' => e = .returned (.bool (nmB us)) ∧ Below w'.heap.size w' w'') := (fun w' hb => sNamed_any au lu cu us hlu w' (hu.below hb))
  have hd : Hid (∀ w', Below w.heap.size w w' → Calls Tryd.prog 60 #[.slice ag lg cg] w' fun e w'' => e = .returned (.bool (nmB gs)) ∧ Below w'.heap.size w' w'') := (fun w' hb => sNamed_any ag lg cg gs hlg w' (hg.below hb))
  clear hu hg
  cases h0 : inR 0 7 u
  · have hno : Hid (aclB u g o us gs r m = false) := aclB_u h0
    go_enter Tryd.func27, Tryd.ntmps27
    go_wp2_with (go_at_call 59; refine (sBits_any _ _).mono ?_; rintro e w' ⟨rfl, rfl⟩)
    go_ret
    exact ⟨ret_boolW hno.out.symm, bel_alloc _ _⟩
  cases h1 : inR 0 7 g
  · have hno : Hid (aclB u g o us gs r m = false) := aclB_g h1
    go_enter Tryd.func27, Tryd.ntmps27
    go_wp2_with (go_at_call 59; refine (sBits_any _ _).mono ?_; rintro e w' ⟨rfl, rfl⟩)
    go_ret
    exact ⟨ret_boolW hno.out.symm, bel_alloc _ _⟩
  cases h2 : inR 0 7 o
  · have hno : Hid (aclB u g o us gs r m = false) := aclB_o h2
    go_enter Tryd.func27, Tryd.ntmps27
    go_wp2_with (go_at_call 59; refine (sBits_any _ _).mono ?_; rintro e w' ⟨rfl, rfl⟩)
    go_ret
    exact ⟨ret_boolW hno.out.symm, bel_alloc _ _⟩
  cases h3 : inR 0 7 m
  · have hno : Hid (aclB u g o us gs r m = false) := aclB_m h3
    go_enter Tryd.func27, Tryd.ntmps27
    go_wp2_with (go_at_call 59; refine (sBits_any _ _).mono ?_; rintro e w' ⟨rfl, rfl⟩)
    go_ret
    exact ⟨ret_boolW hno.out.symm, bel_alloc _ _⟩
  have HT : Hid (nmB us = true → nmB gs = true → aclB u g o us gs true m = true ∧ aclB u g o us gs false m = (m == 0 && (lu == 0 && lg == 0))) := (fun h4 h5 => ⟨aclB_r h0 h1 h2 h3 h4 h5, by rw [← e1, ← e2]; exact aclB_f h0 h1 h2 h3 h4 h5⟩)
  clear e1 e2
  go_enter Tryd.func27, Tryd.ntmps27
  go_wp2_with (go_at_call 59; refine (sBits_any _ _).mono ?_; rintro e w' ⟨rfl, rfl⟩)
  refine (hc.out _ (bel_alloc _ _)).mono ?_
  rintro e w1 ⟨rfl, hb⟩
  have hW1 : Hid (Below w.heap.size w w1) := Below.on (bel_alloc _ _) hb
  have hX := (box7_new w (.int .i64 u) (.int .i64 g) (.int .i64 o) (.slice au lu cu) (.slice ag lg cg) (.bool r) (.int .i64 m) 30).below hb
  clear hb hc
  cases h4 : nmB us
  · have hno : Hid (aclB u g o us gs r m = false) := aclB_us h4
    go_wp2
    go_ret
    exact ⟨ret_boolW hno.out.symm, hW1.out⟩
  obtain ⟨xl, x0, x1, x2, x3, x4, x5, x6⟩ := hX
  go_wp2_with fail
  refine (hd.out _ hW1.out).mono ?_
  rintro e w2 ⟨rfl, hb⟩
  have hW2 : Hid (Below w.heap.size w w2) := Below.on hW1.out hb
  have hX2 := (Box7.mk xl x0 x1 x2 x3 x4 x5 x6).below hb
  clear hb hd hW1 xl x0 x1 x2 x3 x4 x5 x6
  cases h5 : nmB gs
  · have hno : Hid (aclB u g o us gs r m = false) := aclB_gs h5
    go_wp2
    go_ret
    exact ⟨ret_boolW hno.out.symm, hW2.out⟩
  obtain ⟨xl, x0, x1, x2, x3, x4, x5, x6⟩ := hX2
  obtain ⟨t1, t2⟩ := HT.out h4 h5
  cases r with
  | true =>
    have hyes : Hid (aclB u g o us gs true m = true) := t1
    clear t1 t2 HT h0 h1 h2 h3 h4 h5
    go_wp2
    go_ret
    exact ⟨ret_boolW hyes.out.symm, hW2.out⟩
  | false =>
    have hyes : Hid (aclB u g o us gs false m = (m == 0 && (lu == 0 && lg == 0))) := t2
    clear t1 t2 HT h0 h1 h2 h3 h4 h5
    by_cases hm : m = 0
    · subst hm
      by_cases hz : lu = 0
      · subst hz
        by_cases hz2 : lg = 0
        · subst hz2
          have hy : Hid (aclB u g o us gs false 0 = true) := (by show _ = _; rw [hyes.out]; rfl)
          clear hyes
          go_wp2
          go_ret
          exact ⟨ret_boolW hy.out.symm, hW2.out⟩
        · have hy : Hid (aclB u g o us gs false 0 = false) := (by show _ = _; rw [hyes.out]; simp [hz2])
          have d : ((lg : Int) == 0) = false := by simp; omega
          clear hyes hz2
          go_wp2
          go_ret
          exact ⟨ret_boolW hy.out.symm, hW2.out⟩
      · have hy : Hid (aclB u g o us gs false 0 = false) := (by show _ = _; rw [hyes.out]; simp [hz])
        have d : ((lu : Int) == 0) = false := beq_eq_false_iff_ne.2 (by omega)
        clear hyes hz
        go_wp2
        go_ret
        exact ⟨ret_boolW hy.out.symm, hW2.out⟩
    · have hno : Hid (aclB u g o us gs false m = false) := (by show _ = _; rw [hyes.out]; simp [hm])
      have hm2 : (m == 0) = false := by simp [hm]
      clear hm hyes
      go_wp2
      go_ret
      exact ⟨ret_boolW hno.out.symm, hW2.out⟩
end Go.Proofs.YtfhhaencigmpoaaDoor
