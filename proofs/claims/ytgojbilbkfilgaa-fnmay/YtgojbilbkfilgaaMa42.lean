/- Laid together: MayM, MayW. -/
import Derived.Test.YtgojbilbkfilgaaMa41
import Derived.Test.YtgojbilbkfilgaaMa25
import Derived.Test.YtgojbilbkfilgaaMa36
import Derived.Deep.DeepCutAuto
import Derived.Lib.QuietBelow
import Derived.Deep.RegionHeld3
/- What AclMay answers: who may all may each; a wider mask; the owner. -/
namespace Go.Proofs.Ytgojbilbkfilgaa
open Go.RowKit Go.PlainAid Go.Deep
set_option linter.unusedVariables false
theorem hasB_trans : ∀ x, x < 8 → ∀ v, v < 8 → ∀ n, n < 8 → hasB x v = true → hasB v n = true → hasB x n = true := by decide +kernel
theorem hasB_seven : ∀ v, v < 8 → hasB 7 v = true := by decide +kernel
theorem hasZ_trans {x v n : Int} (x0 : 0 ≤ x) (x1 : x ≤ 7) (v0 : 0 ≤ v) (v1 : v ≤ 7) (n0 : 0 ≤ n) (n1 : n ≤ 7) (h1 : hasZ x v = true) (h2 : hasZ v n = true) : hasZ x n = true := by
  obtain ⟨a, rfl⟩ := Int.eq_ofNat_of_zero_le x0
  obtain ⟨b, rfl⟩ := Int.eq_ofNat_of_zero_le v0
  obtain ⟨c, rfl⟩ := Int.eq_ofNat_of_zero_le n0
  rw [hasZ_in (by omega) (by omega)] at h1 h2 ⊢
  exact hasB_trans a (by omega) b (by omega) c (by omega) h1 h2
theorem hasZ_seven {v : Int} (v0 : 0 ≤ v) (v1 : v ≤ 7) : hasZ 7 v = true := by
  obtain ⟨b, rfl⟩ := Int.eq_ofNat_of_zero_le v0
  show hasZ ((7 : Nat) : Int) b = true
  rw [hasZ_in (by omega) (by omega)]
  exact hasB_seven b (by omega)
theorem allTo_mono {x y : Bool} {P : Int → Bool} {l : List (Int × Int)} {v n : Int} (hx : x = true → y = true) (hb : ∀ k, k < l.length → 0 ≤ btAt l k ∧ btAt l k ≤ 7) (v0 : 0 ≤ v) (v1 : v ≤ 7) (n0 : 0 ≤ n) (n1 : n ≤ 7) (hv : hasZ v n = true) : ∀ k, k ≤ l.length → allTo x P l v k = true → allTo y P l n k = true := by
  intro k
  induction k with
  | zero => intro _ h; exact hx h
  | succ k ih =>
    intro hk h
    simp only [allTo, Bool.or_eq_true, Bool.and_eq_true] at h ⊢
    rcases h with h | ⟨h1, h2⟩
    · exact .inl (ih (by omega) h)
    · exact .inr ⟨h1, hasZ_trans (hb k (by omega)).1 (hb k (by omega)).2 v0 v1 n0 n1 h2 hv⟩
theorem allTo_none {x b : Bool} {P : Int → Bool} {l : List (Int × Int)} {n : Int} : ∀ k, inTo x P l k = false → allTo (x && b) P l n k = false := by
  intro k
  induction k with
  | zero => intro h; simp only [inTo] at h; simp [allTo, h]
  | succ k ih =>
    intro h
    simp only [inTo, Bool.or_eq_false_iff] at h
    simp [allTo, ih h.1, h.2]
theorem fine_want {u g o : Int} {us gs : List (Int × Int)} {r : Bool} {m owner group cu' cg' : Int} {cl : Nat} {cf : Nat → Int} {want n : Int} (h : fineB u g o us gs r m owner group cu' cg' cl cf want = true) (n0 : 0 ≤ n) (n1 : n ≤ 7) : fineB u g o us gs r m owner group cu' cg' cl cf n = true := by
  unfold fineB at h ⊢
  simp only [Bool.and_eq_true] at h ⊢
  exact ⟨h.1, h.2.1, h.2.2.1, h.2.2.2.1, inR_yes n0 n1⟩
theorem mayB_fine {u g o : Int} {us gs : List (Int × Int)} {r : Bool} {m owner group cu' cg' : Int} {cl : Nat} {cf : Nat → Int} {want : Int} (h : fineB u g o us gs r m owner group cu' cg' cl cf want = true) : mayB u g o us gs r m owner group cu' cg' cl cf want = mayK (whichB g us gs owner group cu' (inGB cu' cg' cl cf) want) u g o us r m cu' want := by
  rw [mayB, classB, h]
  rfl
theorem class_fine {u g o : Int} {us gs : List (Int × Int)} {r : Bool} {m owner group cu' cg' : Int} {cl : Nat} {cf : Nat → Int} {want : Int} (h : classB u g o us gs r m owner group cu' cg' cl cf want ≠ 0) : fineB u g o us gs r m owner group cu' cg' cl cf want = true := by
  cases hf : fineB u g o us gs r m owner group cu' cg' cl cf want
  · rw [classB, hf] at h
    exact absurd rfl h
  · rfl
theorem may_zero {u g o : Int} {us gs : List (Int × Int)} {r : Bool} {m owner group cu' cg' : Int} {cl : Nat} {cf : Nat → Int} {want : Int} (h : classB u g o us gs r m owner group cu' cg' cl cf want = 0) : mayB u g o us gs r m owner group cu' cg' cl cf want = false := by
  rw [mayB, h]
  rfl
/-- Who may all may each. -/
theorem may_each {u g o : Int} {us gs : List (Int × Int)} {r : Bool} {m owner group cu' cg' : Int} {cl : Nat} {cf : Nat → Int} {want n : Int} (hf : fineB u g o us gs r m owner group cu' cg' cl cf want = true) (n0 : 0 ≤ n) (n1 : n ≤ 7) (hm : mayB u g o us gs r m owner group cu' cg' cl cf want = true) (hn : hasZ want n = true) : mayB u g o us gs r m owner group cu' cg' cl cf n = true := by
  have hS := fine_sound hf
  have ha : aclB u g o us gs r m = true := by
    unfold fineB at hf
    simp only [Bool.and_eq_true] at hf
    exact hf.1
  obtain ⟨_, ⟨g0, g1⟩, _, _, b1, b2⟩ := aclB_parts ha
  rw [mayB_fine hf] at hm
  rw [mayB_fine (fine_want hf n0 n1)]
  have tr : ∀ x : Int, 0 ≤ x → x ≤ 7 → hasZ x want = true → hasZ x n = true := fun x x0 x1 h => hasZ_trans x0 x1 hS.v0 hS.v1 n0 n1 h hn
  unfold whichB at hm ⊢
  cases ho : (cu' == owner)
  · cases hu : fnd us cu'
    · rw [ho, hu] at hm
      simp only [Bool.false_eq_true, if_false] at hm ⊢
      unfold goC at hm ⊢
      cases hA : allTo (inGB cu' cg' cl cf group && hasZ g want) (inGB cu' cg' cl cf) gs want gs.length
      · cases hI : inTo (inGB cu' cg' cl cf group) (inGB cu' cg' cl cf) gs gs.length
        · rw [hA, hI] at hm
          rw [allTo_none _ hI]
          simp [mayK] at hm ⊢
          exact tr o hS.o0 hS.o1 hm
        · rw [hA, hI] at hm
          simp [mayK] at hm
      · rw [hA] at hm
        have hA2 : allTo (inGB cu' cg' cl cf group && hasZ g n) (inGB cu' cg' cl cf) gs n gs.length = true := allTo_mono (fun h => by
          rw [Bool.and_eq_true] at h ⊢
          exact ⟨h.1, tr g g0 g1 h.2⟩) (nm_bt b2) hS.v0 hS.v1 n0 n1 hn _ (Nat.le_refl _) hA
        rw [hA2]
        simp [mayK] at hm ⊢
        exact tr _ hS.k0 hS.k1 hm
    · rw [ho, hu] at hm
      have hk : plc us cu' < us.length := by
        unfold fnd at hu
        rw [Bool.and_eq_true] at hu
        exact of_decide_eq_true hu.1
      obtain ⟨t0, t1⟩ := nm_bt b1 _ hk
      simp [mayK] at hm ⊢
      exact ⟨tr _ t0 t1 hm.1, tr _ hS.m0 hS.m1 hm.2⟩
  · rw [ho] at hm
    simp [mayK] at hm ⊢
    exact tr _ hS.u0 hS.u1 hm
/-- More bits in the mask. -/
theorem may_mask {u g o : Int} {us gs : List (Int × Int)} {r : Bool} {m owner group cu' cg' : Int} {cl : Nat} {cf : Nat → Int} {want : Int} (hf : fineB u g o us gs r m owner group cu' cg' cl cf want = true) (hm : mayB u g o us gs r m owner group cu' cg' cl cf want = true) : setMaskA u g o us gs r m 7 = ⟨u, g, o, us, gs, true, 7, 0⟩ ∧ mayB u g o us gs true 7 owner group cu' cg' cl cf want = true := by
  have hS := fine_sound hf
  have hf2 := hf
  unfold fineB at hf2
  simp only [Bool.and_eq_true] at hf2
  obtain ⟨ha, hrest⟩ := hf2
  obtain ⟨⟨u0, u1⟩, ⟨g0, g1⟩, ⟨o0, o1⟩, _, b1, b2⟩ := aclB_parts ha
  refine ⟨by rw [setMaskA, if_pos ⟨ha, rfl⟩], ?_⟩
  have ha7 : aclB u g o us gs true 7 = true := aclB_r (inR_yes u0 u1) (inR_yes g0 g1) (inR_yes o0 o1) rfl b1 b2
  have hf7 : fineB u g o us gs true 7 owner group cu' cg' cl cf want = true := by
    unfold fineB
    simp only [Bool.and_eq_true]
    exact ⟨ha7, hrest⟩
  rw [mayB_fine hf] at hm
  rw [mayB_fine hf7]
  have h7 := hasZ_seven hS.v0 hS.v1
  rcases which_cases g us gs owner group cu' (inGB cu' cg' cl cf) want with h | ⟨h, _⟩ | h | h | h <;> rw [h] at hm ⊢ <;> simp [mayK, clsOf, h7] at hm ⊢
  · exact hm
  · exact hm.1
  · exact hm
/-- The owner is not asked by what others may. -/
theorem may_own {u g o : Int} {us gs : List (Int × Int)} {r : Bool} {m owner group cu' cg' : Int} {cl : Nat} {cf : Nat → Int} {want : Int} (hf : fineB u g o us gs r m owner group cu' cg' cl cf want = true) : mayB u g o us gs r m owner group owner cg' cl cf want = hasZ u want := by
  have hf2 : fineB u g o us gs r m owner group owner cg' cl cf want = true := by
    unfold fineB credB at hf ⊢
    simp only [Bool.and_eq_true] at hf ⊢
    exact ⟨hf.1, hf.2.1, hf.2.2.1, ⟨hf.2.1, hf.2.2.2.1.2⟩, hf.2.2.2.2⟩
  rw [mayB_fine hf2, whichB]
  simp [mayK]
end Go.Proofs.Ytgojbilbkfilgaa
/- The law FnMay. -/
namespace Go.Proofs.Ytgojbilbkfilgaa
open Go.RowKit Go.PlainAid Go.Deep
set_option linter.unusedVariables false
theorem fldAclW (v0 v1 v2 v3 v4 v5 v6 v7 : Value) (w : World) : (Instr.field 32 (.agg #[v0, v1, v2, v3, v4, v5, v6, v7]) 0).run Try.prog w = .ok (.agg #[v0, v1, v2, v3, v4, v5, v6]) w := by kernel_rfl
attribute [local go_sem] fldAclW
theorem below_drewW {B : Nat} {w w' : World} (h : Below B w w') : Below B w w'.drew := h.trans ⟨rfl, rfl, rfl, Nat.le_refl _, fun _ _ => rfl⟩
theorem below_undrew {w w' : World} (h : Below w.drew.heap.size w.drew w') : Below w.heap.size w w' := ⟨h.os, h.tape, h.output, h.size, h.block⟩
set_option maxRecDepth 100000 in
theorem may_long0 (a0 : Option Addr) (len0 cap0 : Nat) (a1 : Option Addr) (len1 cap1 : Nat) (h0 : 1048576 < (len0 : Int)) (w : World) :
    Calls Try.prog 4 #[.slice a0 len0 cap0, .slice a1 len1 cap1] w fun e w' => e = .returned (.bool true) ∧ Below w.heap.size w w' := by
  go_enter Try.func4, Try.ntmps4
  go_wp2
  go_ret
  exact ⟨rfl, Below.refl _ _⟩
set_option maxRecDepth 100000 in
theorem may_long1 (a0 : Option Addr) (len0 cap0 : Nat) (a1 : Option Addr) (len1 cap1 : Nat) (d0 : decide (1048576 < (len0 : Int)) = false) (h1 : 1048576 < (len1 : Int)) (w : World) :
    Calls Try.prog 4 #[.slice a0 len0 cap0, .slice a1 len1 cap1] w fun e w' => e = .returned (.bool true) ∧ Below w.heap.size w w' := by
  go_enter Try.func4, Try.ntmps4
  go_wp2
  go_ret
  exact ⟨rfl, Below.refl _ _⟩
set_option maxRecDepth 100000 in
set_option maxHeartbeats 8000000 in
theorem may_short (a b : Option Addr) (la lb ca cb : Nat) (f g : Nat → Int) (w : World) (hc : Code a la f w.heap.size w) (hd : Code b lb g w.heap.size w) :
    Calls Try.prog 4 #[.slice a la ca, .slice b lb cb] w fun e w' => e = .returned (.bool true) ∧ Below w.heap.size w w' := by
  have h1 := hc.1
  have h2 := hd.1
  have n1 : ¬ (1048576 : Int) < (la : Int) := by omega
  have n2 : ¬ (1048576 : Int) < (lb : Int) := by omega
  have HD : Hid (Code b lb g w.heap.size w) := hd
  have HC : Hid (Code a la f w.heap.size w) := hc
  clear hc hd h1 h2
  go_enter Try.func4, Try.ntmps4
  go_wp2_with fail
  refine (dDrawAclMay_any a la ca f _ HC.out).mono ?_
  rintro e w1 ⟨A, aU, cU, aG, cG, ow, gr, u, v, l, ga, gc, r, z, rfl, hrw, hor, hl⟩
  have hbA := bel_alloc w1 (.cells #[.int .i64 A.u, .int .i64 A.g, .int .i64 A.o, .slice aU A.us.length cU, .slice aG A.gs.length cG, .bool A.r, .int .i64 A.m] 25)
  have hbB := Below.on hbA (bel_alloc (w1.alloc (.cells #[.int .i64 A.u, .int .i64 A.g, .int .i64 A.o, .slice aU A.us.length cU, .slice aG A.gs.length cG, .bool A.r, .int .i64 A.m] 25)) (.cells #[.int .i64 u, .int .i64 v, .slice ga l.length gc, .bool r] 44))
  have eA : (w1.alloc (.cells #[.int .i64 A.u, .int .i64 A.g, .int .i64 A.o, .slice aU A.us.length cU, .slice aG A.gs.length cG, .bool A.r, .int .i64 A.m] 25)).heap.size = w1.heap.size + 1 := by simp
  have hX2 : Hid (Box7 ((w1.alloc (.cells #[.int .i64 A.u, .int .i64 A.g, .int .i64 A.o, .slice aU A.us.length cU, .slice aG A.gs.length cG, .bool A.r, .int .i64 A.m] 25)).alloc (.cells #[.int .i64 u, .int .i64 v, .slice ga l.length gc, .bool r] 44)) w1.heap.size (.int .i64 A.u) (.int .i64 A.g) (.int .i64 A.o) (.slice aU A.us.length cU) (.slice aG A.gs.length cG) (.bool A.r) (.int .i64 A.m)) := (box7_new w1 (.int .i64 A.u) (.int .i64 A.g) (.int .i64 A.o) (.slice aU A.us.length cU) (.slice aG A.gs.length cG) (.bool A.r) (.int .i64 A.m) 25).below (bel_alloc _ _)
  have hC2 : Hid (Box4 ((w1.alloc (.cells #[.int .i64 A.u, .int .i64 A.g, .int .i64 A.o, .slice aU A.us.length cU, .slice aG A.gs.length cG, .bool A.r, .int .i64 A.m] 25)).alloc (.cells #[.int .i64 u, .int .i64 v, .slice ga l.length gc, .bool r] 44)) (w1.heap.size + 1) (.int .i64 u) (.int .i64 v) (.slice ga l.length gc) (.bool r)) := (by
    have h := box4_new (w1.alloc (.cells #[.int .i64 A.u, .int .i64 A.g, .int .i64 A.o, .slice aU A.us.length cU, .slice aG A.gs.length cG, .bool A.r, .int .i64 A.m] 25)) (.int .i64 u) (.int .i64 v) (.slice ga l.length gc) (.bool r) 44
    rw [eA] at h
    exact h)
  have hI2 : Hid (AclIs ((w1.alloc (.cells #[.int .i64 A.u, .int .i64 A.g, .int .i64 A.o, .slice aU A.us.length cU, .slice aG A.gs.length cG, .bool A.r, .int .i64 A.m] 25)).alloc (.cells #[.int .i64 u, .int .i64 v, .slice ga l.length gc, .bool r] 44)) A aU aG) := hrw.is.below hbB
  have hN2 : Hid (Ints ga l.length (atD l) ((w1.alloc (.cells #[.int .i64 A.u, .int .i64 A.g, .int .i64 A.o, .slice aU A.us.length cU, .slice aG A.gs.length cG, .bool A.r, .int .i64 A.m] 25)).alloc (.cells #[.int .i64 u, .int .i64 v, .slice ga l.length gc, .bool r] 44))) := (own_intsD hor).below hbB
  have hW2 : Hid (Below w.heap.size w ((w1.alloc (.cells #[.int .i64 A.u, .int .i64 A.g, .int .i64 A.o, .slice aU A.us.length cU, .slice aG A.gs.length cG, .bool A.r, .int .i64 A.m] 25)).alloc (.cells #[.int .i64 u, .int .i64 v, .slice ga l.length gc, .bool r] 44))) := Below.on hrw.bel hbB
  clear hrw hor hbA hbB eA
  go_upto_region 4 with fail
  generalize ((w1.alloc (.cells #[.int .i64 A.u, .int .i64 A.g, .int .i64 A.o, .slice aU A.us.length cU, .slice aG A.gs.length cG, .bool A.r, .int .i64 A.m] 25)).alloc (.cells #[.int .i64 u, .int .i64 v, .slice ga l.length gc, .bool r] 44)) = w2 at hX2 hC2 hI2 hN2 hW2 ⊢
  generalize w1.heap.size = X at hX2 hC2 ⊢
  go_wp2_with fail
  refine (dDrawAclClass_any b lb cb g _ (HD.out.up hW2.out)).mono ?_
  rintro e w3 ⟨B, bU, dU, bG, dG, ow2, gr2, u2, v2, l2, ga2, gc2, r2, z2, rfl, hrw, hor, hl2⟩
  have hbA := bel_alloc w3 (.cells #[.int .i64 B.u, .int .i64 B.g, .int .i64 B.o, .slice bU B.us.length dU, .slice bG B.gs.length dG, .bool B.r, .int .i64 B.m] 25)
  have hbB := Below.on hbA (bel_alloc (w3.alloc (.cells #[.int .i64 B.u, .int .i64 B.g, .int .i64 B.o, .slice bU B.us.length dU, .slice bG B.gs.length dG, .bool B.r, .int .i64 B.m] 25)) (.cells #[.int .i64 u2, .int .i64 v2, .slice ga2 l2.length gc2, .bool r2] 44))
  have eA : (w3.alloc (.cells #[.int .i64 B.u, .int .i64 B.g, .int .i64 B.o, .slice bU B.us.length dU, .slice bG B.gs.length dG, .bool B.r, .int .i64 B.m] 25)).heap.size = w3.heap.size + 1 := by simp
  have hY4 : Hid (Box7 ((w3.alloc (.cells #[.int .i64 B.u, .int .i64 B.g, .int .i64 B.o, .slice bU B.us.length dU, .slice bG B.gs.length dG, .bool B.r, .int .i64 B.m] 25)).alloc (.cells #[.int .i64 u2, .int .i64 v2, .slice ga2 l2.length gc2, .bool r2] 44)) w3.heap.size (.int .i64 B.u) (.int .i64 B.g) (.int .i64 B.o) (.slice bU B.us.length dU) (.slice bG B.gs.length dG) (.bool B.r) (.int .i64 B.m)) := (box7_new w3 (.int .i64 B.u) (.int .i64 B.g) (.int .i64 B.o) (.slice bU B.us.length dU) (.slice bG B.gs.length dG) (.bool B.r) (.int .i64 B.m) 25).below (bel_alloc _ _)
  have hE4 : Hid (Box4 ((w3.alloc (.cells #[.int .i64 B.u, .int .i64 B.g, .int .i64 B.o, .slice bU B.us.length dU, .slice bG B.gs.length dG, .bool B.r, .int .i64 B.m] 25)).alloc (.cells #[.int .i64 u2, .int .i64 v2, .slice ga2 l2.length gc2, .bool r2] 44)) (w3.heap.size + 1) (.int .i64 u2) (.int .i64 v2) (.slice ga2 l2.length gc2) (.bool r2)) := (by
    have h := box4_new (w3.alloc (.cells #[.int .i64 B.u, .int .i64 B.g, .int .i64 B.o, .slice bU B.us.length dU, .slice bG B.gs.length dG, .bool B.r, .int .i64 B.m] 25)) (.int .i64 u2) (.int .i64 v2) (.slice ga2 l2.length gc2) (.bool r2) 44
    rw [eA] at h
    exact h)
  have hIB : Hid (AclIs ((w3.alloc (.cells #[.int .i64 B.u, .int .i64 B.g, .int .i64 B.o, .slice bU B.us.length dU, .slice bG B.gs.length dG, .bool B.r, .int .i64 B.m] 25)).alloc (.cells #[.int .i64 u2, .int .i64 v2, .slice ga2 l2.length gc2, .bool r2] 44)) B bU bG) := hrw.is.below hbB
  have hNB : Hid (Ints ga2 l2.length (atD l2) ((w3.alloc (.cells #[.int .i64 B.u, .int .i64 B.g, .int .i64 B.o, .slice bU B.us.length dU, .slice bG B.gs.length dG, .bool B.r, .int .i64 B.m] 25)).alloc (.cells #[.int .i64 u2, .int .i64 v2, .slice ga2 l2.length gc2, .bool r2] 44))) := (own_intsD hor).below hbB
  have hX4 : Hid (Box7 ((w3.alloc (.cells #[.int .i64 B.u, .int .i64 B.g, .int .i64 B.o, .slice bU B.us.length dU, .slice bG B.gs.length dG, .bool B.r, .int .i64 B.m] 25)).alloc (.cells #[.int .i64 u2, .int .i64 v2, .slice ga2 l2.length gc2, .bool r2] 44)) X (.int .i64 A.u) (.int .i64 A.g) (.int .i64 A.o) (.slice aU A.us.length cU) (.slice aG A.gs.length cG) (.bool A.r) (.int .i64 A.m)) := (hX2.out.below hrw.bel).below hbB
  have hC4 : Hid (Box4 ((w3.alloc (.cells #[.int .i64 B.u, .int .i64 B.g, .int .i64 B.o, .slice bU B.us.length dU, .slice bG B.gs.length dG, .bool B.r, .int .i64 B.m] 25)).alloc (.cells #[.int .i64 u2, .int .i64 v2, .slice ga2 l2.length gc2, .bool r2] 44)) (X + 1) (.int .i64 u) (.int .i64 v) (.slice ga l.length gc) (.bool r)) := (hC2.out.below hrw.bel).below hbB
  have hIA : Hid (AclIs ((w3.alloc (.cells #[.int .i64 B.u, .int .i64 B.g, .int .i64 B.o, .slice bU B.us.length dU, .slice bG B.gs.length dG, .bool B.r, .int .i64 B.m] 25)).alloc (.cells #[.int .i64 u2, .int .i64 v2, .slice ga2 l2.length gc2, .bool r2] 44)) A aU aG) := (hI2.out.below hrw.bel).below hbB
  have hNA : Hid (Ints ga l.length (atD l) ((w3.alloc (.cells #[.int .i64 B.u, .int .i64 B.g, .int .i64 B.o, .slice bU B.us.length dU, .slice bG B.gs.length dG, .bool B.r, .int .i64 B.m] 25)).alloc (.cells #[.int .i64 u2, .int .i64 v2, .slice ga2 l2.length gc2, .bool r2] 44))) := (hN2.out.below hrw.bel).below hbB
  have hW4 : Hid (Below w.heap.size w ((w3.alloc (.cells #[.int .i64 B.u, .int .i64 B.g, .int .i64 B.o, .slice bU B.us.length dU, .slice bG B.gs.length dG, .bool B.r, .int .i64 B.m] 25)).alloc (.cells #[.int .i64 u2, .int .i64 v2, .slice ga2 l2.length gc2, .bool r2] 44))) := Below.on (Below.on hW2.out hrw.bel) hbB
  clear hrw hor hbA hbB eA hX2 hC2 hI2 hN2 hW2 HC HD
  go_upto_region 5 with fail
  generalize ((w3.alloc (.cells #[.int .i64 B.u, .int .i64 B.g, .int .i64 B.o, .slice bU B.us.length dU, .slice bG B.gs.length dG, .bool B.r, .int .i64 B.m] 25)).alloc (.cells #[.int .i64 u2, .int .i64 v2, .slice ga2 l2.length gc2, .bool r2] 44)) = w4 at hY4 hE4 hIB hNB hX4 hC4 hIA hNA hW4 ⊢
  generalize w3.heap.size = Y at hY4 hE4 ⊢
  obtain ⟨hlu, hlg⟩ : A.us.length ≤ 1048576 ∧ A.gs.length ≤ 1048576 := ⟨by have := hIA.out.lu; omega, by have := hIA.out.lg; omega⟩
  obtain ⟨hlu2, hlg2⟩ : B.us.length ≤ 1048576 ∧ B.gs.length ≤ 1048576 := ⟨by have := hIB.out.lu; omega, by have := hIB.out.lg; omega⟩
  have MI : Hid (∀ w', Below w4.heap.size w4 w' → Calls Try.prog 45 #[.agg #[.int .i64 A.u, .int .i64 A.g, .int .i64 A.o, .slice aU A.us.length cU, .slice aG A.gs.length cG, .bool A.r, .int .i64 A.m], .int .i64 ow, .int .i64 gr, .agg #[.int .i64 u, .int .i64 v, .slice ga l.length gc, .bool r], .int .i64 z] w' fun e w'' => e = .returned (.bool (mayB A.u A.g A.o A.us A.gs A.r A.m ow gr u v l.length (atD l) z)) ∧ Below w'.heap.size w' w'') := (fun w' hb => iAclMay_any A.u A.g A.o aU _ cU aG _ cG A.r A.m A.us A.gs ow gr u v ga l.length gc r (atD l) z w' (hIA.out.u.below hb) (hIA.out.g.below hb) (hNA.out.below hb))
  have MS : Hid (∀ w', Below w4.heap.size w4 w' → Calls Try.prog 46 #[.agg #[.int .i64 A.u, .int .i64 A.g, .int .i64 A.o, .slice aU A.us.length cU, .slice aG A.gs.length cG, .bool A.r, .int .i64 A.m], .int .i64 ow, .int .i64 gr, .agg #[.int .i64 u, .int .i64 v, .slice ga l.length gc, .bool r], .int .i64 z] w' fun e w'' => e = .returned (.bool (mayB A.u A.g A.o A.us A.gs A.r A.m ow gr u v l.length (atD l) z)) ∧ Below w'.heap.size w' w'') := (fun w' hb => sAclMay_any A.u A.g A.o aU _ cU aG _ cG A.r A.m A.us A.gs ow gr u v ga l.length gc r (atD l) z hlu hlg w' (hIA.out.u.below hb) (hIA.out.g.below hb) (hNA.out.below hb))
  have CA : Hid (∀ w', Below w4.heap.size w4 w' → Calls Try.prog 44 #[.agg #[.int .i64 A.u, .int .i64 A.g, .int .i64 A.o, .slice aU A.us.length cU, .slice aG A.gs.length cG, .bool A.r, .int .i64 A.m], .int .i64 ow, .int .i64 gr, .agg #[.int .i64 u, .int .i64 v, .slice ga l.length gc, .bool r], .int .i64 z] w' fun e w'' => e = .returned (.int .i64 (classB A.u A.g A.o A.us A.gs A.r A.m ow gr u v l.length (atD l) z)) ∧ Below w'.heap.size w' w'') := (fun w' hb => iAclClass_any A.u A.g A.o aU _ cU aG _ cG A.r A.m A.us A.gs ow gr u v ga l.length gc r (atD l) z w' (hIA.out.u.below hb) (hIA.out.g.below hb) (hNA.out.below hb))
  have CI : Hid (∀ w', Below w4.heap.size w4 w' → Calls Try.prog 44 #[.agg #[.int .i64 B.u, .int .i64 B.g, .int .i64 B.o, .slice bU B.us.length dU, .slice bG B.gs.length dG, .bool B.r, .int .i64 B.m], .int .i64 ow2, .int .i64 gr2, .agg #[.int .i64 u2, .int .i64 v2, .slice ga2 l2.length gc2, .bool r2], .int .i64 z2] w' fun e w'' => e = .returned (.int .i64 (classB B.u B.g B.o B.us B.gs B.r B.m ow2 gr2 u2 v2 l2.length (atD l2) z2)) ∧ Below w'.heap.size w' w'') := (fun w' hb => iAclClass_any B.u B.g B.o bU _ dU bG _ dG B.r B.m B.us B.gs ow2 gr2 u2 v2 ga2 l2.length gc2 r2 (atD l2) z2 w' (hIB.out.u.below hb) (hIB.out.g.below hb) (hNB.out.below hb))
  have CS : Hid (∀ w', Below w4.heap.size w4 w' → Calls Try.prog 47 #[.agg #[.int .i64 B.u, .int .i64 B.g, .int .i64 B.o, .slice bU B.us.length dU, .slice bG B.gs.length dG, .bool B.r, .int .i64 B.m], .int .i64 ow2, .int .i64 gr2, .agg #[.int .i64 u2, .int .i64 v2, .slice ga2 l2.length gc2, .bool r2], .int .i64 z2] w' fun e w'' => e = .returned (.int .i64 (classB B.u B.g B.o B.us B.gs B.r B.m ow2 gr2 u2 v2 l2.length (atD l2) z2)) ∧ Below w'.heap.size w' w'') := (fun w' hb => sAclClass_any B.u B.g B.o bU _ dU bG _ dG B.r B.m B.us B.gs ow2 gr2 u2 v2 ga2 l2.length gc2 r2 (atD l2) z2 hlu2 hlg2 w' (hIB.out.u.below hb) (hIB.out.g.below hb) (hNB.out.below hb))
  have MN : Hid (∀ (n : Int) w', Below w4.heap.size w4 w' → Calls Try.prog 45 #[.agg #[.int .i64 A.u, .int .i64 A.g, .int .i64 A.o, .slice aU A.us.length cU, .slice aG A.gs.length cG, .bool A.r, .int .i64 A.m], .int .i64 ow, .int .i64 gr, .agg #[.int .i64 u, .int .i64 v, .slice ga l.length gc, .bool r], .int .i64 n] w' fun e w'' => e = .returned (.bool (mayB A.u A.g A.o A.us A.gs A.r A.m ow gr u v l.length (atD l) n)) ∧ Below w'.heap.size w' w'') := (fun n w' hb => iAclMay_any A.u A.g A.o aU _ cU aG _ cG A.r A.m A.us A.gs ow gr u v ga l.length gc r (atD l) n w' (hIA.out.u.below hb) (hIA.out.g.below hb) (hNA.out.below hb))
  have MO : Hid (∀ w', Below w4.heap.size w4 w' → Calls Try.prog 45 #[.agg #[.int .i64 A.u, .int .i64 A.g, .int .i64 A.o, .slice aU A.us.length cU, .slice aG A.gs.length cG, .bool A.r, .int .i64 A.m], .int .i64 ow, .int .i64 gr, .agg #[.int .i64 ow, .int .i64 v, .slice ga l.length gc, .bool r], .int .i64 z] w' fun e w'' => e = .returned (.bool (mayB A.u A.g A.o A.us A.gs A.r A.m ow gr ow v l.length (atD l) z)) ∧ Below w'.heap.size w' w'') := (fun w' hb => iAclMay_any A.u A.g A.o aU _ cU aG _ cG A.r A.m A.us A.gs ow gr ow v ga l.length gc r (atD l) z w' (hIA.out.u.below hb) (hIA.out.g.below hb) (hNA.out.below hb))
  have SM : Hid (∀ w', Below w4.heap.size w4 w' → Calls Try.prog 25 #[.agg #[.int .i64 A.u, .int .i64 A.g, .int .i64 A.o, .slice aU A.us.length cU, .slice aG A.gs.length cG, .bool A.r, .int .i64 A.m], .int .i64 7] w' (Answers (setMaskA A.u A.g A.o A.us A.gs A.r A.m 7) w')) := (fun w' hb => iSetMask_any A.u A.g A.o aU _ cU aG _ cG A.r A.m A.us A.gs 7 w' (hIA.out.u.below hb) (hIA.out.g.below hb))
  have M7 : Hid (∀ (a1 : Option Addr) (c1 : Nat) (a2 : Option Addr) (c2 : Nat) w', Prs a1 A.us.length A.us w' → Prs a2 A.gs.length A.gs w' → Below w4.heap.size w4 w' → Calls Try.prog 45 #[.agg #[.int .i64 A.u, .int .i64 A.g, .int .i64 A.o, .slice a1 A.us.length c1, .slice a2 A.gs.length c2, .bool true, .int .i64 7], .int .i64 ow, .int .i64 gr, .agg #[.int .i64 u, .int .i64 v, .slice ga l.length gc, .bool r], .int .i64 z] w' fun e w'' => e = .returned (.bool (mayB A.u A.g A.o A.us A.gs true 7 ow gr u v l.length (atD l) z)) ∧ Below w'.heap.size w' w'') := (fun a1 c1 a2 c2 w' h1 h2 hb => iAclMay_any A.u A.g A.o a1 _ c1 a2 _ c2 true 7 A.us A.gs ow gr u v ga l.length gc r (atD l) z w' h1 h2 (hNA.out.below hb))
  have Z0 : Hid (classB A.u A.g A.o A.us A.gs A.r A.m ow gr u v l.length (atD l) z = 0 → mayB A.u A.g A.o A.us A.gs A.r A.m ow gr u v l.length (atD l) z = false) := (fun h => may_zero h)
  have ZF : Hid (classB A.u A.g A.o A.us A.gs A.r A.m ow gr u v l.length (atD l) z ≠ 0 → fineB A.u A.g A.o A.us A.gs A.r A.m ow gr u v l.length (atD l) z = true) := (fun h => class_fine h)
  have ZE : Hid (∀ n : Int, fineB A.u A.g A.o A.us A.gs A.r A.m ow gr u v l.length (atD l) z = true → 0 ≤ n → n ≤ 7 → mayB A.u A.g A.o A.us A.gs A.r A.m ow gr u v l.length (atD l) z = true → hasZ z n = true → mayB A.u A.g A.o A.us A.gs A.r A.m ow gr u v l.length (atD l) n = true) := (fun n hf n0 n1 hm hn => may_each hf n0 n1 hm hn)
  have ZM : Hid (fineB A.u A.g A.o A.us A.gs A.r A.m ow gr u v l.length (atD l) z = true → mayB A.u A.g A.o A.us A.gs A.r A.m ow gr u v l.length (atD l) z = true → setMaskA A.u A.g A.o A.us A.gs A.r A.m 7 = ⟨A.u, A.g, A.o, A.us, A.gs, true, 7, 0⟩ ∧ mayB A.u A.g A.o A.us A.gs true 7 ow gr u v l.length (atD l) z = true) := (fun hf hm => may_mask hf hm)
  have ZO : Hid (fineB A.u A.g A.o A.us A.gs A.r A.m ow gr u v l.length (atD l) z = true → mayB A.u A.g A.o A.us A.gs A.r A.m ow gr ow v l.length (atD l) z = hasZ A.u z) := (fun hf => may_own hf)
  clear hIA hIB hNA hNB hlu hlg hlu2 hlg2
  generalize mayB A.u A.g A.o A.us A.gs A.r A.m ow gr u v l.length (atD l) z = mb at MI MS Z0 ZE ZM
  generalize classB A.u A.g A.o A.us A.gs A.r A.m ow gr u v l.length (atD l) z = ka at CA Z0 ZF
  generalize classB B.u B.g B.o B.us B.gs B.r B.m ow2 gr2 u2 v2 l2.length (atD l2) z2 = kb at CI CS
  generalize fineB A.u A.g A.o A.us A.gs A.r A.m ow gr u v l.length (atD l) z = fb at ZF ZE ZM ZO
  have hkk : (kb != kb) = false := by simp
  have hkd : decide (kb ≠ kb) = false := by simp
  have hmm : (mb != mb) = false := by simp
  obtain ⟨yl, y0, y1, y2, y3, y4, y5, y6⟩ := hY4.out
  obtain ⟨el, e0, e1, e2, e3⟩ := hE4.out
  go_wp2_with fail
  refine (CI.out _ (Below.refl _ _)).mono ?_
  rintro e w5 ⟨rfl, hb5⟩
  have hB5 : Hid (Below w4.heap.size w4 w5) := hb5
  clear hb5 y0 y1 y2 y3 y4 y5 y6 yl e0 e1 e2 e3 el
  obtain ⟨xl, x0, x1, x2, x3, x4, x5, x6⟩ := hX4.out.below hB5.out
  obtain ⟨cl, c0, c1, c2, c3⟩ := hC4.out.below hB5.out
  go_wp2_with fail
  refine (MI.out _ hB5.out).mono ?_
  rintro e w6 ⟨rfl, hb6⟩
  have hB6 : Hid (Below w4.heap.size w4 w6) := Below.on hB5.out hb6
  clear hb6 x0 x1 x2 x3 x4 x5 x6 xl c0 c1 c2 c3 cl hB5 CI MI
  obtain ⟨xl, x0, x1, x2, x3, x4, x5, x6⟩ := hX4.out.below hB6.out
  obtain ⟨cl, c0, c1, c2, c3⟩ := hC4.out.below hB6.out
  go_wp2_with fail
  refine (MS.out _ hB6.out).mono ?_
  rintro e w7 ⟨rfl, hb7⟩
  have hB7 : Hid (Below w4.heap.size w4 w7) := Below.on hB6.out hb7
  clear hb7 x0 x1 x2 x3 x4 x5 x6 xl c0 c1 c2 c3 cl hB6 MS
  obtain ⟨yl, y0, y1, y2, y3, y4, y5, y6⟩ := hY4.out.below hB7.out
  obtain ⟨el, e0, e1, e2, e3⟩ := hE4.out.below hB7.out
  go_wp2_with fail
  refine (CS.out _ hB7.out).mono ?_
  rintro e w8 ⟨rfl, hb8⟩
  have hB8 : Hid (Below w4.heap.size w4 w8) := Below.on hB7.out hb8
  clear hb8 y0 y1 y2 y3 y4 y5 y6 yl e0 e1 e2 e3 el hB7 CS hY4 hE4
  obtain ⟨xl, x0, x1, x2, x3, x4, x5, x6⟩ := hX4.out.below hB8.out
  obtain ⟨cl, c0, c1, c2, c3⟩ := hC4.out.below hB8.out
  go_wp2_with fail
  refine (CA.out _ hB8.out).mono ?_
  rintro e w9 ⟨rfl, hb9⟩
  have hB9 : Hid (Below w4.heap.size w4 w9) := Below.on hB8.out hb9
  clear hb9 x0 x1 x2 x3 x4 x5 x6 xl c0 c1 c2 c3 cl hB8 CA hkk hkd hmm
  by_cases hk0 : ka = 0
  · have hmf := Z0.out hk0
    subst hmf
    have hd : (ka == 0) = true := by simpa using hk0
    clear Z0 ZF ZE ZM ZO hk0 hX4 hC4 MN MO SM M7
    go_wp2
    go_ret
    exact ⟨rfl, Below.on hW4.out hB9.out⟩
  · have hfb := ZF.out hk0
    subst hfb
    have hd : (ka == 0) = false := by simpa using hk0
    have hd2 : decide (ka = 0) = false := by simpa using hk0
    have ZE2 : Hid (∀ n : Int, 0 ≤ n → n ≤ 7 → mb = true → hasZ z n = true → mayB A.u A.g A.o A.us A.gs A.r A.m ow gr u v l.length (atD l) n = true) := (fun n n0 n1 h1 h2 => ZE.out n rfl n0 n1 h1 h2)
    have ZM2 : Hid (mb = true → setMaskA A.u A.g A.o A.us A.gs A.r A.m 7 = ⟨A.u, A.g, A.o, A.us, A.gs, true, 7, 0⟩ ∧ mayB A.u A.g A.o A.us A.gs true 7 ow gr u v l.length (atD l) z = true) := (fun h => ZM.out rfl h)
    have ZO2 : Hid (mayB A.u A.g A.o A.us A.gs A.r A.m ow gr ow v l.length (atD l) z = hasZ A.u z) := ZO.out rfl
    clear Z0 ZF ZE ZM ZO hk0
    go_wp2
    go_loopw [17] (fun i wr => ∃ k : Nat, k ≤ 8 ∧ i = .int .i64 k ∧ Hid (Below w4.heap.size w4 wr)) (fun i _ => 8 - (intOf i).toNat)
    case atStart => exact ⟨0, Nat.zero_le _, rfl, hB9⟩
    case round =>
      obtain ⟨k, hk, rfl, hB⟩ := hrel
      by_cases hlt : k < 8
      · have hlt' : (k : Int) < 8 := by omega
        cases mb
        · go_wp2
          go_roundw
          case rel => exact ⟨k + 1, by omega, by go_num, hB⟩
          case measure => simp [intOf]; omega
        · cases hh : hasZ z (k : Int)
          · go_wp2_with (go_at_call 41; refine (iHas_any _ _ _).mono ?_; rintro e w3 ⟨rfl, rfl⟩)
            go_roundw
            case rel => exact ⟨k + 1, by omega, by go_num, hB⟩
            case measure => simp [intOf]; omega
          · have hT := ZE2.out (k : Int) (by omega) (by omega) rfl hh
            have MK : Hid (∀ w', Below w4.heap.size w4 w' → Calls Try.prog 45 #[.agg #[.int .i64 A.u, .int .i64 A.g, .int .i64 A.o, .slice aU A.us.length cU, .slice aG A.gs.length cG, .bool A.r, .int .i64 A.m], .int .i64 ow, .int .i64 gr, .agg #[.int .i64 u, .int .i64 v, .slice ga l.length gc, .bool r], .int .i64 (k : Int)] w' fun e w'' => e = .returned (.bool true) ∧ Below w'.heap.size w' w'') := (fun w' hb => by have := MN.out (k : Int) w' hb; rw [hT] at this; exact this)
            obtain ⟨xl, x0, x1, x2, x3, x4, x5, x6⟩ := hX4.out.below hB.out
            obtain ⟨cl, c0, c1, c2, c3⟩ := hC4.out.below hB.out
            clear hT
            go_wp2_with (first | (go_at_call 41; refine (iHas_any _ _ _).mono ?_; rintro e w3 ⟨rfl, rfl⟩) | (go_at_call 45; refine (MK.out _ hB.out).mono ?_; rintro e w10 ⟨rfl, hb10⟩))
            have hB10 : Hid (Below w4.heap.size w4 w10) := Below.on hB.out hb10
            go_roundw
            case rel => exact ⟨k + 1, by omega, by go_num, hB10⟩
            case measure => simp [intOf]; omega
      · have hk8 : k = 8 := by omega
        subst hk8
        obtain ⟨xl, x0, x1, x2, x3, x4, x5, x6⟩ := hX4.out.below hB.out
        obtain ⟨cl, c0, c1, c2, c3⟩ := hC4.out.below hB.out
        clear hB9
        go_upto_region 16 with fail
        go_cut [116] (fun t wx => t = .bool false ∧ Hid (Below w4.heap.size w4 wx))
        case first =>
          cases hAr : A.r
          · rw [hAr] at x5
            have q5 : ∀ d os, (Go.Sort.grow (redrawn wr d) os).cell? ⟨X, 5, none⟩ = some (.bool false) := fun d os => cell_regrown x5 d os
            clear x0 x1 x2 x3 x4 x5 x6 c0 c1 c2 c3 MN MO SM M7 ZE2 ZM2 ZO2 hAr
            refine wp_region_quiet_below (by kernel_rfl) (by kernel_rfl) ?_
            repeat (go_big_quiet_step (fail))
            refine wpQuiet_nil ?_
            intro _ hw'
            obtain ⟨⟨dq, osq⟩, hw''⟩ := hw'
            subst hw''
            have hbq : Hid (Below w4.heap.size w4 (Go.Sort.grow (redrawn wr dq) osq)) := Below.on hB.out (below_regrown wr dq osq)
            generalize Go.Sort.grow (redrawn wr dq) osq = w11 at hbq ⊢
            clear q5
            go_wp2
            go_meet
            exact ⟨rfl, hbq⟩
          · cases mb
            · rw [hAr] at x5
              have q5 : ∀ d os, (Go.Sort.grow (redrawn wr d) os).cell? ⟨X, 5, none⟩ = some (.bool true) := fun d os => cell_regrown x5 d os
              clear x0 x1 x2 x3 x4 x5 x6 c0 c1 c2 c3 MN MO SM M7 ZE2 ZM2 ZO2 hAr
              refine wp_region_quiet_below (by kernel_rfl) (by kernel_rfl) ?_
              repeat (go_big_quiet_step (fail))
              refine wpQuiet_nil ?_
              intro _ hw'
              obtain ⟨⟨dq, osq⟩, hw''⟩ := hw'
              subst hw''
              have hbq : Hid (Below w4.heap.size w4 (Go.Sort.grow (redrawn wr dq) osq)) := Below.on hB.out (below_regrown wr dq osq)
              generalize Go.Sort.grow (redrawn wr dq) osq = w11 at hbq ⊢
              clear q5
              go_wp2
              go_meet
              exact ⟨rfl, hbq⟩
            · obtain ⟨hs1, hs2⟩ := ZM2.out rfl
              have SM7 : Hid (∀ w', Below w4.heap.size w4 w' → Calls Try.prog 25 #[.agg #[.int .i64 A.u, .int .i64 A.g, .int .i64 A.o, .slice aU A.us.length cU, .slice aG A.gs.length cG, .bool true, .int .i64 A.m], .int .i64 7] w' fun e w'' => ∃ (a1 : Option Addr) (c1 : Nat) (a2 : Option Addr) (c2 : Nat), e = .returned (.agg #[.int .i64 A.u, .int .i64 A.g, .int .i64 A.o, .slice a1 A.us.length c1, .slice a2 A.gs.length c2, .bool true, .int .i64 7, .int .i64 0]) ∧ Prs a1 A.us.length A.us w'' ∧ Prs a2 A.gs.length A.gs w'' ∧ Below w'.heap.size w' w'') := (fun w' hb => by
                have := SM.out w' hb
                rw [hs1, hAr] at this
                exact this.mono (fun e w'' ⟨a1, c1, a2, c2, he, hN⟩ => ⟨a1, c1, a2, c2, he, hN.ou.prs, hN.og.prs, hN.bel⟩))
              have M77 : Hid (∀ (a1 : Option Addr) (c1 : Nat) (a2 : Option Addr) (c2 : Nat) w', Prs a1 A.us.length A.us w' → Prs a2 A.gs.length A.gs w' → Below w4.heap.size w4 w' → Calls Try.prog 45 #[.agg #[.int .i64 A.u, .int .i64 A.g, .int .i64 A.o, .slice a1 A.us.length c1, .slice a2 A.gs.length c2, .bool true, .int .i64 7], .int .i64 ow, .int .i64 gr, .agg #[.int .i64 u, .int .i64 v, .slice ga l.length gc, .bool r], .int .i64 z] w' fun e w'' => e = .returned (.bool true) ∧ Below w'.heap.size w' w'') := (fun a1 c1 a2 c2 w' h1 h2 hb => by have := M7.out a1 c1 a2 c2 w' h1 h2 hb; rw [hs2] at this; exact this)
              have HX : Hid (Box7 wr X (.int .i64 A.u) (.int .i64 A.g) (.int .i64 A.o) (.slice aU A.us.length cU) (.slice aG A.gs.length cG) (.bool true) (.int .i64 A.m)) := (by have := hX4.out.below hB.out; rw [hAr] at this; exact this)
              have HC : Hid (Box4 wr (X + 1) (.int .i64 u) (.int .i64 v) (.slice ga l.length gc) (.bool r)) := hC4.out.below hB.out
              rw [hAr] at x5
              clear hs1 hs2 SM M7 MN MO ZE2 ZM2 ZO2 hX4 hC4 hAr
              go_region_held3 (fun w' => w'.cell? ⟨X, 0, none⟩ = some (.int .i64 A.u) ∧ w'.cell? ⟨X, 1, none⟩ = some (.int .i64 A.g) ∧ w'.cell? ⟨X, 2, none⟩ = some (.int .i64 A.o) ∧ w'.cell? ⟨X, 3, none⟩ = some (.slice aU A.us.length cU) ∧ w'.cell? ⟨X, 4, none⟩ = some (.slice aG A.gs.length cG) ∧ w'.cell? ⟨X, 5, none⟩ = some (.bool true) ∧ w'.cell? ⟨X, 6, none⟩ = some (.int .i64 A.m) ∧ w'.cell? ⟨X + 1, 0, none⟩ = some (.int .i64 u) ∧ w'.cell? ⟨X + 1, 1, none⟩ = some (.int .i64 v) ∧ w'.cell? ⟨X + 1, 2, none⟩ = some (.slice ga l.length gc) ∧ w'.cell? ⟨X + 1, 3, none⟩ = some (.bool r)) (go_keep)
                (first
                  | (go_at_call 25; refine Calls.mono (SM7.out _ ?hs) ?_; (case hs => (first | exact hB.out | exact below_drewW hB.out)); rintro e wm ⟨a1, k1, a2, k2, rfl, p1, p2, hbm⟩; have hBm : Hid (Below wr.heap.size wr wm) := (⟨hbm.os, hbm.tape, hbm.output, hbm.size, hbm.block⟩ : Below wr.heap.size wr wm); have HP1 : Hid (Prs a1 A.us.length A.us wm) := p1; have HP2 : Hid (Prs a2 A.gs.length A.gs wm) := p2; obtain ⟨_, xa0, xa1, xa2, xa3, xa4, xa5, xa6⟩ := HX.out.below hBm.out; obtain ⟨_, ca0, ca1, ca2, ca3⟩ := HC.out.below hBm.out)
                  | (go_at_call 45; refine Calls.mono (M77.out a1 k1 a2 k2 _ HP1.out HP2.out (Below.on hB.out hBm.out)) ?_; rintro e wn ⟨rfl, hbn⟩; have hBn : Hid (Below wr.heap.size wr wn) := Below.on hBm.out hbn; obtain ⟨_, xb0, xb1, xb2, xb3, xb4, xb5, xb6⟩ := HX.out.below hBn.out; obtain ⟨_, cb0, cb1, cb2, cb3⟩ := HC.out.below hBn.out))
              go_wp2
              go_meet
              exact ⟨rfl, Below.on hB.out hBn.out⟩
        case rest =>
        obtain ⟨rfl, hBc⟩ := hcut
        obtain ⟨wq, hwq⟩ : ∃ wq, wq = wc := ⟨_, rfl⟩
        subst hwq
        clear x0 x1 x2 x3 x4 x5 x6 xl c0 c1 c2 c3 cl hB SM M7 MN ZE2 ZM2
        obtain ⟨cl, c0, c1, c2, c3⟩ := hC4.out.below hBc.out
        have hbo := bel_alloc wq (.cells #[.int .i64 ow, .int .i64 v, .slice ga l.length gc, .bool r] 44)
        have HX : Hid (Box7 (wq.alloc (.cells #[.int .i64 ow, .int .i64 v, .slice ga l.length gc, .bool r] 44)) X (.int .i64 A.u) (.int .i64 A.g) (.int .i64 A.o) (.slice aU A.us.length cU) (.slice aG A.gs.length cG) (.bool A.r) (.int .i64 A.m)) := (hX4.out.below hBc.out).below hbo
        have HC : Hid (Box4 (wq.alloc (.cells #[.int .i64 ow, .int .i64 v, .slice ga l.length gc, .bool r] 44)) wq.heap.size (.int .i64 ow) (.int .i64 v) (.slice ga l.length gc) (.bool r)) := box4_new wq _ _ _ _ _
        have HB : Hid (Below w4.heap.size w4 (wq.alloc (.cells #[.int .i64 ow, .int .i64 v, .slice ga l.length gc, .bool r] 44))) := Below.on hBc.out hbo
        have MO2 : Hid (∀ w', Below w4.heap.size w4 w' → Calls Try.prog 45 #[.agg #[.int .i64 A.u, .int .i64 A.g, .int .i64 A.o, .slice aU A.us.length cU, .slice aG A.gs.length cG, .bool A.r, .int .i64 A.m], .int .i64 ow, .int .i64 gr, .agg #[.int .i64 ow, .int .i64 v, .slice ga l.length gc, .bool r], .int .i64 z] w' fun e w'' => e = .returned (.bool (hasZ A.u z)) ∧ Below w'.heap.size w' w'') := (fun w' hb => by have := MO.out w' hb; rw [ZO2.out] at this; exact this)
        have hbb : (hasZ A.u z == hasZ A.u z) = true := by simp
        clear hbo MO ZO2 hX4 hC4
        go_upto_region 20 with fail
        generalize wq.alloc (.cells #[.int .i64 ow, .int .i64 v, .slice ga l.length gc, .bool r] 44) = w12 at HX HC HB ⊢
        generalize wq.heap.size = O at HC ⊢
        clear c0 c1 c2 c3 cl
        obtain ⟨xl, x0, x1, x2, x3, x4, x5, x6⟩ := HX.out
        obtain ⟨cl, c0, c1, c2, c3⟩ := HC.out
        go_region_held3 (fun w' => w'.cell? ⟨X, 0, none⟩ = some (.int .i64 A.u) ∧ w'.cell? ⟨X, 1, none⟩ = some (.int .i64 A.g) ∧ w'.cell? ⟨X, 2, none⟩ = some (.int .i64 A.o) ∧ w'.cell? ⟨X, 3, none⟩ = some (.slice aU A.us.length cU) ∧ w'.cell? ⟨X, 4, none⟩ = some (.slice aG A.gs.length cG) ∧ w'.cell? ⟨X, 5, none⟩ = some (.bool A.r) ∧ w'.cell? ⟨X, 6, none⟩ = some (.int .i64 A.m) ∧ w'.cell? ⟨O, 0, none⟩ = some (.int .i64 ow) ∧ w'.cell? ⟨O, 1, none⟩ = some (.int .i64 v) ∧ w'.cell? ⟨O, 2, none⟩ = some (.slice ga l.length gc) ∧ w'.cell? ⟨O, 3, none⟩ = some (.bool r)) (go_keep)
          (first
            | (go_at_call 45; refine Calls.mono (MO2.out _ ?hs) ?_; (case hs => (first | exact HB.out | exact below_drewW HB.out)); rintro e wm ⟨rfl, hbm⟩; have hBm : Hid (Below w12.heap.size w12 wm) := (⟨hbm.os, hbm.tape, hbm.output, hbm.size, hbm.block⟩ : Below w12.heap.size w12 wm); obtain ⟨_, xa0, xa1, xa2, xa3, xa4, xa5, xa6⟩ := HX.out.below hBm.out; obtain ⟨_, ca0, ca1, ca2, ca3⟩ := HC.out.below hBm.out)
            | (go_at_call 41; refine Calls.mono (iHas_any _ _ _) ?_; rintro e w3 ⟨rfl, rfl⟩))
        go_wp2
        go_ret
        exact ⟨rfl, Below.on hW4.out (Below.on HB.out hBm.out)⟩
end Go.Proofs.Ytgojbilbkfilgaa
