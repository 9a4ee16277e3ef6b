/- Laid together: SameA, SameI. -/
import Derived.Test.YtcgkkeooigjbbaaST23
import Derived.Test.YtcgkkeooigjbbaaST7
/- Two Acls: impl.sameLists and spec.l08SameAcl. -/
namespace Go.Proofs.Ytcgkkeooigjbbaa
open Go.RowKit Go.PlainAid Go.Deep
set_option linter.unusedVariables false
set_option maxHeartbeats 4000000 in
theorem iSameL_any (A B : Al) (aU : Option Addr) (cU : Nat) (aG : Option Addr) (cG : Nat) (bU : Option Addr) (dU : Nat) (bG : Option Addr) (dG : Nat) (h1 : A.us.length ≤ 1048576) (h2 : A.gs.length ≤ 1048576) (h3 : B.us.length ≤ 1048576) (h4 : B.gs.length ≤ 1048576) (w : World) (i1 : Prs aU A.us.length A.us w) (i2 : Prs aG A.gs.length A.gs w) (i3 : Prs bU B.us.length B.us w) (i4 : Prs bG B.gs.length B.gs w) :
    Calls Try.prog 71 #[.agg #[.int .i64 A.u, .int .i64 A.g, .int .i64 A.o, .slice aU A.us.length cU, .slice aG A.gs.length cG, .bool A.r, .int .i64 A.m], .agg #[.int .i64 B.u, .int .i64 B.g, .int .i64 B.o, .slice bU B.us.length dU, .slice bG B.gs.length dG, .bool B.r, .int .i64 B.m]] w fun e w' => e = .returned (.bool (A.sm B)) ∧ Below w.heap.size w w' := by
  have HE : Hid (A.sm B = (A.u == B.u && (A.g == B.g && (A.o == B.o && (A.r == B.r && (A.m == B.m && (prsE A.us B.us && prsE A.gs B.gs))))))) := rfl
  have H1 : Hid (∀ w', Below w.heap.size w w' → Calls Try.prog 101 #[.slice aU A.us.length cU, .slice bU B.us.length dU] w' fun e w'' => e = .returned (.bool (prsE A.us B.us)) ∧ Below w'.heap.size w' w'') := (fun w' hb => eqN_any _ _ _ _ _ _ h1 h3 w' (i1.below hb) (i3.below hb))
  have H2 : Hid (∀ w', Below w.heap.size w w' → Calls Try.prog 101 #[.slice aG A.gs.length cG, .slice bG B.gs.length dG] w' fun e w'' => e = .returned (.bool (prsE A.gs B.gs)) ∧ Below w'.heap.size w' w'') := (fun w' hb => eqN_any _ _ _ _ _ _ h2 h4 w' (i2.below hb) (i4.below hb))
  clear i1 i2 i3 i4
  generalize prsE A.us B.us = b1 at HE H1
  generalize prsE A.gs B.gs = b2 at HE H2
  have HB : Hid (Below w.heap.size w ((w.alloc (.cells #[.int .i64 A.u, .int .i64 A.g, .int .i64 A.o, .slice aU A.us.length cU, .slice aG A.gs.length cG, .bool A.r, .int .i64 A.m] 48)).alloc (.cells #[.int .i64 B.u, .int .i64 B.g, .int .i64 B.o, .slice bU B.us.length dU, .slice bG B.gs.length dG, .bool B.r, .int .i64 B.m] 48))) := bl2T _ _ _
  have HX : Hid (BoxR ((w.alloc (.cells #[.int .i64 A.u, .int .i64 A.g, .int .i64 A.o, .slice aU A.us.length cU, .slice aG A.gs.length cG, .bool A.r, .int .i64 A.m] 48)).alloc (.cells #[.int .i64 B.u, .int .i64 B.g, .int .i64 B.o, .slice bU B.us.length dU, .slice bG B.gs.length dG, .bool B.r, .int .i64 B.m] 48)) w.heap.size [.int .i64 A.u, .int .i64 A.g, .int .i64 A.o, .slice aU A.us.length cU, .slice aG A.gs.length cG, .bool A.r, .int .i64 A.m]) := (boxR_new w [.int .i64 A.u, .int .i64 A.g, .int .i64 A.o, .slice aU A.us.length cU, .slice aG A.gs.length cG, .bool A.r, .int .i64 A.m] 48).below (bel_alloc _ _)
  have HZ : Hid (BoxR ((w.alloc (.cells #[.int .i64 A.u, .int .i64 A.g, .int .i64 A.o, .slice aU A.us.length cU, .slice aG A.gs.length cG, .bool A.r, .int .i64 A.m] 48)).alloc (.cells #[.int .i64 B.u, .int .i64 B.g, .int .i64 B.o, .slice bU B.us.length dU, .slice bG B.gs.length dG, .bool B.r, .int .i64 B.m] 48)) (w.heap.size + 1) [.int .i64 B.u, .int .i64 B.g, .int .i64 B.o, .slice bU B.us.length dU, .slice bG B.gs.length dG, .bool B.r, .int .i64 B.m]) := (by
    have h := boxR_new (w.alloc (.cells #[.int .i64 A.u, .int .i64 A.g, .int .i64 A.o, .slice aU A.us.length cU, .slice aG A.gs.length cG, .bool A.r, .int .i64 A.m] 48)) [.int .i64 B.u, .int .i64 B.g, .int .i64 B.o, .slice bU B.us.length dU, .slice bG B.gs.length dG, .bool B.r, .int .i64 B.m] 48
    simp only [World.size_alloc] at h
    exact h)
  go_enter Try.func71, Try.ntmps71
  go_upto_region 1 with fail
  generalize ((w.alloc (.cells #[.int .i64 A.u, .int .i64 A.g, .int .i64 A.o, .slice aU A.us.length cU, .slice aG A.gs.length cG, .bool A.r, .int .i64 A.m] 48)).alloc (.cells #[.int .i64 B.u, .int .i64 B.g, .int .i64 B.o, .slice bU B.us.length dU, .slice bG B.gs.length dG, .bool B.r, .int .i64 B.m] 48)) = w0 at HX HZ HB ⊢
  obtain ⟨X, hX⟩ : ∃ X, X = w.heap.size := ⟨_, rfl⟩
  rw [← hX] at HX HZ ⊢
  clear hX
  have e0 : w0.cell? ⟨X, 0, none⟩ = some (.int .i64 A.u) := HX.out.at0 0 _ rfl
  have e1 : w0.cell? ⟨X, 1, none⟩ = some (.int .i64 A.g) := HX.out.at0 1 _ rfl
  have e2 : w0.cell? ⟨X, 2, none⟩ = some (.int .i64 A.o) := HX.out.at0 2 _ rfl
  have e3 : w0.cell? ⟨X, 3, none⟩ = some (.slice aU A.us.length cU) := HX.out.at0 3 _ rfl
  have e4 : w0.cell? ⟨X, 4, none⟩ = some (.slice aG A.gs.length cG) := HX.out.at0 4 _ rfl
  have e5 : w0.cell? ⟨X, 5, none⟩ = some (.bool A.r) := HX.out.at0 5 _ rfl
  have e6 : w0.cell? ⟨X, 6, none⟩ = some (.int .i64 A.m) := HX.out.at0 6 _ rfl
  have z0 : w0.cell? ⟨X + 1, 0, none⟩ = some (.int .i64 B.u) := HZ.out.at0 0 _ rfl
  have z1 : w0.cell? ⟨X + 1, 1, none⟩ = some (.int .i64 B.g) := HZ.out.at0 1 _ rfl
  have z2 : w0.cell? ⟨X + 1, 2, none⟩ = some (.int .i64 B.o) := HZ.out.at0 2 _ rfl
  have z3 : w0.cell? ⟨X + 1, 3, none⟩ = some (.slice bU B.us.length dU) := HZ.out.at0 3 _ rfl
  have z4 : w0.cell? ⟨X + 1, 4, none⟩ = some (.slice bG B.gs.length dG) := HZ.out.at0 4 _ rfl
  have z5 : w0.cell? ⟨X + 1, 5, none⟩ = some (.bool B.r) := HZ.out.at0 5 _ rfl
  have z6 : w0.cell? ⟨X + 1, 6, none⟩ = some (.int .i64 B.m) := HZ.out.at0 6 _ rfl
  go_wp2_with (first
    | (go_at_call_of 101 (Value.slice aU A.us.length cU); refine (H1.out _ HB.out).mono ?_; rintro e w1 ⟨rfl, hb⟩; replace HB : Hid (Below w.heap.size w w1) := Below.on HB.out hb; replace HX : Hid (BoxR w1 X [.int .i64 A.u, .int .i64 A.g, .int .i64 A.o, .slice aU A.us.length cU, .slice aG A.gs.length cG, .bool A.r, .int .i64 A.m]) := HX.out.below hb; replace HZ : Hid (BoxR w1 (X + 1) [.int .i64 B.u, .int .i64 B.g, .int .i64 B.o, .slice bU B.us.length dU, .slice bG B.gs.length dG, .bool B.r, .int .i64 B.m]) := HZ.out.below hb; clear hb; replace e0 : w1.cell? ⟨X, 0, none⟩ = some (.int .i64 A.u) := HX.out.at0 0 _ rfl; replace e1 : w1.cell? ⟨X, 1, none⟩ = some (.int .i64 A.g) := HX.out.at0 1 _ rfl; replace e2 : w1.cell? ⟨X, 2, none⟩ = some (.int .i64 A.o) := HX.out.at0 2 _ rfl; replace e3 : w1.cell? ⟨X, 3, none⟩ = some (.slice aU A.us.length cU) := HX.out.at0 3 _ rfl; replace e4 : w1.cell? ⟨X, 4, none⟩ = some (.slice aG A.gs.length cG) := HX.out.at0 4 _ rfl; replace e5 : w1.cell? ⟨X, 5, none⟩ = some (.bool A.r) := HX.out.at0 5 _ rfl; replace e6 : w1.cell? ⟨X, 6, none⟩ = some (.int .i64 A.m) := HX.out.at0 6 _ rfl; replace z0 : w1.cell? ⟨X + 1, 0, none⟩ = some (.int .i64 B.u) := HZ.out.at0 0 _ rfl; replace z1 : w1.cell? ⟨X + 1, 1, none⟩ = some (.int .i64 B.g) := HZ.out.at0 1 _ rfl; replace z2 : w1.cell? ⟨X + 1, 2, none⟩ = some (.int .i64 B.o) := HZ.out.at0 2 _ rfl; replace z3 : w1.cell? ⟨X + 1, 3, none⟩ = some (.slice bU B.us.length dU) := HZ.out.at0 3 _ rfl; replace z4 : w1.cell? ⟨X + 1, 4, none⟩ = some (.slice bG B.gs.length dG) := HZ.out.at0 4 _ rfl; replace z5 : w1.cell? ⟨X + 1, 5, none⟩ = some (.bool B.r) := HZ.out.at0 5 _ rfl; replace z6 : w1.cell? ⟨X + 1, 6, none⟩ = some (.int .i64 B.m) := HZ.out.at0 6 _ rfl)
    | (go_at_call_of 101 (Value.slice aG A.gs.length cG); refine (H2.out _ HB.out).mono ?_; rintro e w1 ⟨rfl, hb⟩; replace HB : Hid (Below w.heap.size w w1) := Below.on HB.out hb; replace HX : Hid (BoxR w1 X [.int .i64 A.u, .int .i64 A.g, .int .i64 A.o, .slice aU A.us.length cU, .slice aG A.gs.length cG, .bool A.r, .int .i64 A.m]) := HX.out.below hb; replace HZ : Hid (BoxR w1 (X + 1) [.int .i64 B.u, .int .i64 B.g, .int .i64 B.o, .slice bU B.us.length dU, .slice bG B.gs.length dG, .bool B.r, .int .i64 B.m]) := HZ.out.below hb; clear hb; replace e0 : w1.cell? ⟨X, 0, none⟩ = some (.int .i64 A.u) := HX.out.at0 0 _ rfl; replace e1 : w1.cell? ⟨X, 1, none⟩ = some (.int .i64 A.g) := HX.out.at0 1 _ rfl; replace e2 : w1.cell? ⟨X, 2, none⟩ = some (.int .i64 A.o) := HX.out.at0 2 _ rfl; replace e3 : w1.cell? ⟨X, 3, none⟩ = some (.slice aU A.us.length cU) := HX.out.at0 3 _ rfl; replace e4 : w1.cell? ⟨X, 4, none⟩ = some (.slice aG A.gs.length cG) := HX.out.at0 4 _ rfl; replace e5 : w1.cell? ⟨X, 5, none⟩ = some (.bool A.r) := HX.out.at0 5 _ rfl; replace e6 : w1.cell? ⟨X, 6, none⟩ = some (.int .i64 A.m) := HX.out.at0 6 _ rfl; replace z0 : w1.cell? ⟨X + 1, 0, none⟩ = some (.int .i64 B.u) := HZ.out.at0 0 _ rfl; replace z1 : w1.cell? ⟨X + 1, 1, none⟩ = some (.int .i64 B.g) := HZ.out.at0 1 _ rfl; replace z2 : w1.cell? ⟨X + 1, 2, none⟩ = some (.int .i64 B.o) := HZ.out.at0 2 _ rfl; replace z3 : w1.cell? ⟨X + 1, 3, none⟩ = some (.slice bU B.us.length dU) := HZ.out.at0 3 _ rfl; replace z4 : w1.cell? ⟨X + 1, 4, none⟩ = some (.slice bG B.gs.length dG) := HZ.out.at0 4 _ rfl; replace z5 : w1.cell? ⟨X + 1, 5, none⟩ = some (.bool B.r) := HZ.out.at0 5 _ rfl; replace z6 : w1.cell? ⟨X + 1, 6, none⟩ = some (.int .i64 B.m) := HZ.out.at0 6 _ rfl))
  all_goals go_ret
  all_goals (refine ⟨ret_boolW ?_, HB.out⟩; rw [HE.out]; first | (simp [*]; done) | (simp only [bne_iff_ne, ne_eq, bne_eq_false_iff_eq] at *; simp [*]; done) | (simp only [Bool.not_eq_false', Bool.not_eq_true'] at *; simp [*]))
set_option maxHeartbeats 4000000 in
theorem sSameA_any (A B : Al) (aU : Option Addr) (cU : Nat) (aG : Option Addr) (cG : Nat) (bU : Option Addr) (dU : Nat) (bG : Option Addr) (dG : Nat) (h1 : A.us.length ≤ 1048576) (h2 : A.gs.length ≤ 1048576) (h3 : B.us.length ≤ 1048576) (h4 : B.gs.length ≤ 1048576) (w : World) (i1 : Prs aU A.us.length A.us w) (i2 : Prs aG A.gs.length A.gs w) (i3 : Prs bU B.us.length B.us w) (i4 : Prs bG B.gs.length B.gs w) :
    Calls Try.prog 70 #[.agg #[.int .i64 A.u, .int .i64 A.g, .int .i64 A.o, .slice aU A.us.length cU, .slice aG A.gs.length cG, .bool A.r, .int .i64 A.m], .agg #[.int .i64 B.u, .int .i64 B.g, .int .i64 B.o, .slice bU B.us.length dU, .slice bG B.gs.length dG, .bool B.r, .int .i64 B.m]] w fun e w' => e = .returned (.bool (A.sm B)) ∧ Below w.heap.size w w' := by
  have HE : Hid (A.sm B = (A.u == B.u && (A.g == B.g && (A.o == B.o && (A.r == B.r && (A.m == B.m && (prsE A.us B.us && prsE A.gs B.gs))))))) := rfl
  have H1 : Hid (∀ w', Below w.heap.size w w' → Calls Try.prog 100 #[.slice aU A.us.length cU, .slice bU B.us.length dU] w' fun e w'' => e = .returned (.bool (prsE A.us B.us)) ∧ Below w'.heap.size w' w'') := (fun w' hb => sSameN_any _ _ _ _ _ _ h1 h3 w' (i1.below hb) (i3.below hb))
  have H2 : Hid (∀ w', Below w.heap.size w w' → Calls Try.prog 100 #[.slice aG A.gs.length cG, .slice bG B.gs.length dG] w' fun e w'' => e = .returned (.bool (prsE A.gs B.gs)) ∧ Below w'.heap.size w' w'') := (fun w' hb => sSameN_any _ _ _ _ _ _ h2 h4 w' (i2.below hb) (i4.below hb))
  clear i1 i2 i3 i4
  generalize prsE A.us B.us = b1 at HE H1
  generalize prsE A.gs B.gs = b2 at HE H2
  have HB : Hid (Below w.heap.size w ((w.alloc (.cells #[.int .i64 A.u, .int .i64 A.g, .int .i64 A.o, .slice aU A.us.length cU, .slice aG A.gs.length cG, .bool A.r, .int .i64 A.m] 48)).alloc (.cells #[.int .i64 B.u, .int .i64 B.g, .int .i64 B.o, .slice bU B.us.length dU, .slice bG B.gs.length dG, .bool B.r, .int .i64 B.m] 48))) := bl2T _ _ _
  have HX : Hid (BoxR ((w.alloc (.cells #[.int .i64 A.u, .int .i64 A.g, .int .i64 A.o, .slice aU A.us.length cU, .slice aG A.gs.length cG, .bool A.r, .int .i64 A.m] 48)).alloc (.cells #[.int .i64 B.u, .int .i64 B.g, .int .i64 B.o, .slice bU B.us.length dU, .slice bG B.gs.length dG, .bool B.r, .int .i64 B.m] 48)) w.heap.size [.int .i64 A.u, .int .i64 A.g, .int .i64 A.o, .slice aU A.us.length cU, .slice aG A.gs.length cG, .bool A.r, .int .i64 A.m]) := (boxR_new w [.int .i64 A.u, .int .i64 A.g, .int .i64 A.o, .slice aU A.us.length cU, .slice aG A.gs.length cG, .bool A.r, .int .i64 A.m] 48).below (bel_alloc _ _)
  have HZ : Hid (BoxR ((w.alloc (.cells #[.int .i64 A.u, .int .i64 A.g, .int .i64 A.o, .slice aU A.us.length cU, .slice aG A.gs.length cG, .bool A.r, .int .i64 A.m] 48)).alloc (.cells #[.int .i64 B.u, .int .i64 B.g, .int .i64 B.o, .slice bU B.us.length dU, .slice bG B.gs.length dG, .bool B.r, .int .i64 B.m] 48)) (w.heap.size + 1) [.int .i64 B.u, .int .i64 B.g, .int .i64 B.o, .slice bU B.us.length dU, .slice bG B.gs.length dG, .bool B.r, .int .i64 B.m]) := (by
    have h := boxR_new (w.alloc (.cells #[.int .i64 A.u, .int .i64 A.g, .int .i64 A.o, .slice aU A.us.length cU, .slice aG A.gs.length cG, .bool A.r, .int .i64 A.m] 48)) [.int .i64 B.u, .int .i64 B.g, .int .i64 B.o, .slice bU B.us.length dU, .slice bG B.gs.length dG, .bool B.r, .int .i64 B.m] 48
    simp only [World.size_alloc] at h
    exact h)
  go_enter Try.func70, Try.ntmps70
  go_upto_region 1 with fail
  generalize ((w.alloc (.cells #[.int .i64 A.u, .int .i64 A.g, .int .i64 A.o, .slice aU A.us.length cU, .slice aG A.gs.length cG, .bool A.r, .int .i64 A.m] 48)).alloc (.cells #[.int .i64 B.u, .int .i64 B.g, .int .i64 B.o, .slice bU B.us.length dU, .slice bG B.gs.length dG, .bool B.r, .int .i64 B.m] 48)) = w0 at HX HZ HB ⊢
  obtain ⟨X, hX⟩ : ∃ X, X = w.heap.size := ⟨_, rfl⟩
  rw [← hX] at HX HZ ⊢
  clear hX
  have e0 : w0.cell? ⟨X, 0, none⟩ = some (.int .i64 A.u) := HX.out.at0 0 _ rfl
  have e1 : w0.cell? ⟨X, 1, none⟩ = some (.int .i64 A.g) := HX.out.at0 1 _ rfl
  have e2 : w0.cell? ⟨X, 2, none⟩ = some (.int .i64 A.o) := HX.out.at0 2 _ rfl
  have e3 : w0.cell? ⟨X, 3, none⟩ = some (.slice aU A.us.length cU) := HX.out.at0 3 _ rfl
  have e4 : w0.cell? ⟨X, 4, none⟩ = some (.slice aG A.gs.length cG) := HX.out.at0 4 _ rfl
  have e5 : w0.cell? ⟨X, 5, none⟩ = some (.bool A.r) := HX.out.at0 5 _ rfl
  have e6 : w0.cell? ⟨X, 6, none⟩ = some (.int .i64 A.m) := HX.out.at0 6 _ rfl
  have z0 : w0.cell? ⟨X + 1, 0, none⟩ = some (.int .i64 B.u) := HZ.out.at0 0 _ rfl
  have z1 : w0.cell? ⟨X + 1, 1, none⟩ = some (.int .i64 B.g) := HZ.out.at0 1 _ rfl
  have z2 : w0.cell? ⟨X + 1, 2, none⟩ = some (.int .i64 B.o) := HZ.out.at0 2 _ rfl
  have z3 : w0.cell? ⟨X + 1, 3, none⟩ = some (.slice bU B.us.length dU) := HZ.out.at0 3 _ rfl
  have z4 : w0.cell? ⟨X + 1, 4, none⟩ = some (.slice bG B.gs.length dG) := HZ.out.at0 4 _ rfl
  have z5 : w0.cell? ⟨X + 1, 5, none⟩ = some (.bool B.r) := HZ.out.at0 5 _ rfl
  have z6 : w0.cell? ⟨X + 1, 6, none⟩ = some (.int .i64 B.m) := HZ.out.at0 6 _ rfl
  go_wp2_with (first
    | (go_at_call_of 100 (Value.slice aU A.us.length cU); refine (H1.out _ HB.out).mono ?_; rintro e w1 ⟨rfl, hb⟩; replace HB : Hid (Below w.heap.size w w1) := Below.on HB.out hb; replace HX : Hid (BoxR w1 X [.int .i64 A.u, .int .i64 A.g, .int .i64 A.o, .slice aU A.us.length cU, .slice aG A.gs.length cG, .bool A.r, .int .i64 A.m]) := HX.out.below hb; replace HZ : Hid (BoxR w1 (X + 1) [.int .i64 B.u, .int .i64 B.g, .int .i64 B.o, .slice bU B.us.length dU, .slice bG B.gs.length dG, .bool B.r, .int .i64 B.m]) := HZ.out.below hb; clear hb; replace e0 : w1.cell? ⟨X, 0, none⟩ = some (.int .i64 A.u) := HX.out.at0 0 _ rfl; replace e1 : w1.cell? ⟨X, 1, none⟩ = some (.int .i64 A.g) := HX.out.at0 1 _ rfl; replace e2 : w1.cell? ⟨X, 2, none⟩ = some (.int .i64 A.o) := HX.out.at0 2 _ rfl; replace e3 : w1.cell? ⟨X, 3, none⟩ = some (.slice aU A.us.length cU) := HX.out.at0 3 _ rfl; replace e4 : w1.cell? ⟨X, 4, none⟩ = some (.slice aG A.gs.length cG) := HX.out.at0 4 _ rfl; replace e5 : w1.cell? ⟨X, 5, none⟩ = some (.bool A.r) := HX.out.at0 5 _ rfl; replace e6 : w1.cell? ⟨X, 6, none⟩ = some (.int .i64 A.m) := HX.out.at0 6 _ rfl; replace z0 : w1.cell? ⟨X + 1, 0, none⟩ = some (.int .i64 B.u) := HZ.out.at0 0 _ rfl; replace z1 : w1.cell? ⟨X + 1, 1, none⟩ = some (.int .i64 B.g) := HZ.out.at0 1 _ rfl; replace z2 : w1.cell? ⟨X + 1, 2, none⟩ = some (.int .i64 B.o) := HZ.out.at0 2 _ rfl; replace z3 : w1.cell? ⟨X + 1, 3, none⟩ = some (.slice bU B.us.length dU) := HZ.out.at0 3 _ rfl; replace z4 : w1.cell? ⟨X + 1, 4, none⟩ = some (.slice bG B.gs.length dG) := HZ.out.at0 4 _ rfl; replace z5 : w1.cell? ⟨X + 1, 5, none⟩ = some (.bool B.r) := HZ.out.at0 5 _ rfl; replace z6 : w1.cell? ⟨X + 1, 6, none⟩ = some (.int .i64 B.m) := HZ.out.at0 6 _ rfl)
    | (go_at_call_of 100 (Value.slice aG A.gs.length cG); refine (H2.out _ HB.out).mono ?_; rintro e w1 ⟨rfl, hb⟩; replace HB : Hid (Below w.heap.size w w1) := Below.on HB.out hb; replace HX : Hid (BoxR w1 X [.int .i64 A.u, .int .i64 A.g, .int .i64 A.o, .slice aU A.us.length cU, .slice aG A.gs.length cG, .bool A.r, .int .i64 A.m]) := HX.out.below hb; replace HZ : Hid (BoxR w1 (X + 1) [.int .i64 B.u, .int .i64 B.g, .int .i64 B.o, .slice bU B.us.length dU, .slice bG B.gs.length dG, .bool B.r, .int .i64 B.m]) := HZ.out.below hb; clear hb; replace e0 : w1.cell? ⟨X, 0, none⟩ = some (.int .i64 A.u) := HX.out.at0 0 _ rfl; replace e1 : w1.cell? ⟨X, 1, none⟩ = some (.int .i64 A.g) := HX.out.at0 1 _ rfl; replace e2 : w1.cell? ⟨X, 2, none⟩ = some (.int .i64 A.o) := HX.out.at0 2 _ rfl; replace e3 : w1.cell? ⟨X, 3, none⟩ = some (.slice aU A.us.length cU) := HX.out.at0 3 _ rfl; replace e4 : w1.cell? ⟨X, 4, none⟩ = some (.slice aG A.gs.length cG) := HX.out.at0 4 _ rfl; replace e5 : w1.cell? ⟨X, 5, none⟩ = some (.bool A.r) := HX.out.at0 5 _ rfl; replace e6 : w1.cell? ⟨X, 6, none⟩ = some (.int .i64 A.m) := HX.out.at0 6 _ rfl; replace z0 : w1.cell? ⟨X + 1, 0, none⟩ = some (.int .i64 B.u) := HZ.out.at0 0 _ rfl; replace z1 : w1.cell? ⟨X + 1, 1, none⟩ = some (.int .i64 B.g) := HZ.out.at0 1 _ rfl; replace z2 : w1.cell? ⟨X + 1, 2, none⟩ = some (.int .i64 B.o) := HZ.out.at0 2 _ rfl; replace z3 : w1.cell? ⟨X + 1, 3, none⟩ = some (.slice bU B.us.length dU) := HZ.out.at0 3 _ rfl; replace z4 : w1.cell? ⟨X + 1, 4, none⟩ = some (.slice bG B.gs.length dG) := HZ.out.at0 4 _ rfl; replace z5 : w1.cell? ⟨X + 1, 5, none⟩ = some (.bool B.r) := HZ.out.at0 5 _ rfl; replace z6 : w1.cell? ⟨X + 1, 6, none⟩ = some (.int .i64 B.m) := HZ.out.at0 6 _ rfl))
  all_goals go_ret
  all_goals (refine ⟨ret_boolW ?_, HB.out⟩; rw [HE.out]; first | (simp [*]; done) | (simp only [bne_iff_ne, ne_eq, bne_eq_false_iff_eq] at *; simp [*]; done) | (simp only [Bool.not_eq_false', Bool.not_eq_true'] at *; simp [*]))
end Go.Proofs.Ytcgkkeooigjbbaa
/- impl.sameNode of two nodes. -/
namespace Go.Proofs.Ytcgkkeooigjbbaa
open Go.RowKit Go.PlainAid Go.Deep
set_option linter.unusedVariables false
set_option maxRecDepth 20000 in
set_option maxHeartbeats 8000000 in
theorem iSameNd_any (x z : Nd) (y y2 : Na) (hf : NdFit 1048576 x) (hf2 : NdFit 1048576 z) (w : World) (hi : NdIn w x y) (hi2 : NdIn w z y2) :
    Calls Try.prog 52 #[.agg (ndV x y).toArray, .agg (ndV z y2).toArray] w fun e w' => e = .returned (.bool (x.sm z)) ∧ Below w.heap.size w w' := by
  have HCA : Hid (∀ w', Below w.heap.size w w' → Calls Try.prog 71 #[.agg #[.int .i64 x.A.u, .int .i64 x.A.g, .int .i64 x.A.o, .slice y.aU x.A.us.length y.cU, .slice y.aG x.A.gs.length y.cG, .bool x.A.r, .int .i64 x.A.m], .agg #[.int .i64 z.A.u, .int .i64 z.A.g, .int .i64 z.A.o, .slice y2.aU z.A.us.length y2.cU, .slice y2.aG z.A.gs.length y2.cG, .bool z.A.r, .int .i64 z.A.m]] w' fun e w'' => e = .returned (.bool (x.A.sm z.A)) ∧ Below w'.heap.size w' w'') := (fun w' hb => iSameL_any x.A z.A _ _ _ _ _ _ _ _ hf.au hf.ag hf2.au hf2.ag w' (hi.aU.below hb) (hi.aG.below hb) (hi2.aU.below hb) (hi2.aG.below hb))
  have HCD : Hid (∀ w', Below w.heap.size w w' → Calls Try.prog 71 #[.agg #[.int .i64 x.D.u, .int .i64 x.D.g, .int .i64 x.D.o, .slice y.dU x.D.us.length y.eU, .slice y.dG x.D.gs.length y.eG, .bool x.D.r, .int .i64 x.D.m], .agg #[.int .i64 z.D.u, .int .i64 z.D.g, .int .i64 z.D.o, .slice y2.dU z.D.us.length y2.eU, .slice y2.dG z.D.gs.length y2.eG, .bool z.D.r, .int .i64 z.D.m]] w' fun e w'' => e = .returned (.bool (x.D.sm z.D)) ∧ Below w'.heap.size w' w'') := (fun w' hb => iSameL_any x.D z.D _ _ _ _ _ _ _ _ hf.du hf.dg hf2.du hf2.dg w' (hi.dU.below hb) (hi.dG.below hb) (hi2.dU.below hb) (hi2.dG.below hb))
  have HCN : Hid (∀ w', Below w.heap.size w w' → Calls Try.prog 72 #[.slice y.nA x.ns.length y.nC, .slice y2.nA z.ns.length y2.nC] w' fun e w'' => e = .returned (.bool (ensE x.ns z.ns)) ∧ Below w'.heap.size w' w'') := (fun w' hb => eqE_any _ _ _ _ _ _ hf.nl hf2.nl w' (hi.nA.below hb) (hi2.nA.below hb))
  clear hi hi2 hf hf2
  cases q0 : (x.k == z.k)
  · have HE : Hid (x.sm z = false) := (by show _ = _; simp [Nd.sm, Nd.s1, Nd.s2, q0])
    have q0b : (x.k != z.k) = true := by rw [bne, q0]; rfl
    have HX : Hid (BoxR ((w.alloc (.cells (ndV x y).toArray 51)).alloc (.cells (ndV z y2).toArray 51)) w.heap.size (ndV x y)) := (boxR_new w (ndV x y) 51).below (bel_alloc _ _)
    have HZ : Hid (BoxR ((w.alloc (.cells (ndV x y).toArray 51)).alloc (.cells (ndV z y2).toArray 51)) (w.heap.size + 1) (ndV z y2)) := (by
      have h := boxR_new (w.alloc (.cells (ndV x y).toArray 51)) (ndV z y2) 51
      simp only [World.size_alloc] at h
      exact h)
    have HB : Hid (Below w.heap.size w ((w.alloc (.cells (ndV x y).toArray 51)).alloc (.cells (ndV z y2).toArray 51))) := bl2T _ _ _
    go_enter Try.func52, Try.ntmps52
    go_upto_region 1 with fail
    generalize ((w.alloc (.cells (ndV x y).toArray 51)).alloc (.cells (ndV z y2).toArray 51)) = w0 at HX HZ HB ⊢
    obtain ⟨X, hX⟩ : ∃ X, X = w.heap.size := ⟨_, rfl⟩
    rw [← hX] at HX HZ ⊢
    clear hX
    have e0 := NB.c0 HX.out
    have z0 := NB.c0 HZ.out
    go_wp2
    go_ret
    exact ⟨ret_boolW HE.out.symm, HB.out⟩
  have q0b : (x.k != z.k) = false := by rw [bne, q0]; rfl
  cases q1 : (x.ow == z.ow)
  · have HE : Hid (x.sm z = false) := (by show _ = _; simp [Nd.sm, Nd.s1, Nd.s2, q1])
    have q1b : (x.ow != z.ow) = true := by rw [bne, q1]; rfl
    have HX : Hid (BoxR ((w.alloc (.cells (ndV x y).toArray 51)).alloc (.cells (ndV z y2).toArray 51)) w.heap.size (ndV x y)) := (boxR_new w (ndV x y) 51).below (bel_alloc _ _)
    have HZ : Hid (BoxR ((w.alloc (.cells (ndV x y).toArray 51)).alloc (.cells (ndV z y2).toArray 51)) (w.heap.size + 1) (ndV z y2)) := (by
      have h := boxR_new (w.alloc (.cells (ndV x y).toArray 51)) (ndV z y2) 51
      simp only [World.size_alloc] at h
      exact h)
    have HB : Hid (Below w.heap.size w ((w.alloc (.cells (ndV x y).toArray 51)).alloc (.cells (ndV z y2).toArray 51))) := bl2T _ _ _
    go_enter Try.func52, Try.ntmps52
    go_upto_region 1 with fail
    generalize ((w.alloc (.cells (ndV x y).toArray 51)).alloc (.cells (ndV z y2).toArray 51)) = w0 at HX HZ HB ⊢
    obtain ⟨X, hX⟩ : ∃ X, X = w.heap.size := ⟨_, rfl⟩
    rw [← hX] at HX HZ ⊢
    clear hX
    have e0 := NB.c0 HX.out
    have e1 := NB.c1 HX.out
    have z0 := NB.c0 HZ.out
    have z1 := NB.c1 HZ.out
    go_wp2
    go_ret
    exact ⟨ret_boolW HE.out.symm, HB.out⟩
  have q1b : (x.ow != z.ow) = false := by rw [bne, q1]; rfl
  cases q2 : (x.gr == z.gr)
  · have HE : Hid (x.sm z = false) := (by show _ = _; simp [Nd.sm, Nd.s1, Nd.s2, q2])
    have q2b : (x.gr != z.gr) = true := by rw [bne, q2]; rfl
    have HX : Hid (BoxR ((w.alloc (.cells (ndV x y).toArray 51)).alloc (.cells (ndV z y2).toArray 51)) w.heap.size (ndV x y)) := (boxR_new w (ndV x y) 51).below (bel_alloc _ _)
    have HZ : Hid (BoxR ((w.alloc (.cells (ndV x y).toArray 51)).alloc (.cells (ndV z y2).toArray 51)) (w.heap.size + 1) (ndV z y2)) := (by
      have h := boxR_new (w.alloc (.cells (ndV x y).toArray 51)) (ndV z y2) 51
      simp only [World.size_alloc] at h
      exact h)
    have HB : Hid (Below w.heap.size w ((w.alloc (.cells (ndV x y).toArray 51)).alloc (.cells (ndV z y2).toArray 51))) := bl2T _ _ _
    go_enter Try.func52, Try.ntmps52
    go_upto_region 1 with fail
    generalize ((w.alloc (.cells (ndV x y).toArray 51)).alloc (.cells (ndV z y2).toArray 51)) = w0 at HX HZ HB ⊢
    obtain ⟨X, hX⟩ : ∃ X, X = w.heap.size := ⟨_, rfl⟩
    rw [← hX] at HX HZ ⊢
    clear hX
    have e0 := NB.c0 HX.out
    have e1 := NB.c1 HX.out
    have e2 := NB.c2 HX.out
    have z0 := NB.c0 HZ.out
    have z1 := NB.c1 HZ.out
    have z2 := NB.c2 HZ.out
    go_wp2
    go_ret
    exact ⟨ret_boolW HE.out.symm, HB.out⟩
  have q2b : (x.gr != z.gr) = false := by rw [bne, q2]; rfl
  cases q3 : (x.ex == z.ex)
  · have HE : Hid (x.sm z = false) := (by show _ = _; simp [Nd.sm, Nd.s1, Nd.s2, q3])
    have q3b : (x.ex != z.ex) = true := by rw [bne, q3]; rfl
    have HX : Hid (BoxR ((w.alloc (.cells (ndV x y).toArray 51)).alloc (.cells (ndV z y2).toArray 51)) w.heap.size (ndV x y)) := (boxR_new w (ndV x y) 51).below (bel_alloc _ _)
    have HZ : Hid (BoxR ((w.alloc (.cells (ndV x y).toArray 51)).alloc (.cells (ndV z y2).toArray 51)) (w.heap.size + 1) (ndV z y2)) := (by
      have h := boxR_new (w.alloc (.cells (ndV x y).toArray 51)) (ndV z y2) 51
      simp only [World.size_alloc] at h
      exact h)
    have HB : Hid (Below w.heap.size w ((w.alloc (.cells (ndV x y).toArray 51)).alloc (.cells (ndV z y2).toArray 51))) := bl2T _ _ _
    go_enter Try.func52, Try.ntmps52
    go_upto_region 1 with fail
    generalize ((w.alloc (.cells (ndV x y).toArray 51)).alloc (.cells (ndV z y2).toArray 51)) = w0 at HX HZ HB ⊢
    obtain ⟨X, hX⟩ : ∃ X, X = w.heap.size := ⟨_, rfl⟩
    rw [← hX] at HX HZ ⊢
    clear hX
    have e0 := NB.c0 HX.out
    have e1 := NB.c1 HX.out
    have e2 := NB.c2 HX.out
    have e3 := NB.c3 HX.out
    have z0 := NB.c0 HZ.out
    have z1 := NB.c1 HZ.out
    have z2 := NB.c2 HZ.out
    have z3 := NB.c3 HZ.out
    go_wp2
    go_ret
    exact ⟨ret_boolW HE.out.symm, HB.out⟩
  have q3b : (x.ex != z.ex) = false := by rw [bne, q3]; rfl
  cases q4 : (x.sh == z.sh)
  · have HE : Hid (x.sm z = false) := (by show _ = _; simp [Nd.sm, Nd.s1, Nd.s2, q4])
    have q4b : (x.sh != z.sh) = true := by rw [bne, q4]; rfl
    have HX : Hid (BoxR ((w.alloc (.cells (ndV x y).toArray 51)).alloc (.cells (ndV z y2).toArray 51)) w.heap.size (ndV x y)) := (boxR_new w (ndV x y) 51).below (bel_alloc _ _)
    have HZ : Hid (BoxR ((w.alloc (.cells (ndV x y).toArray 51)).alloc (.cells (ndV z y2).toArray 51)) (w.heap.size + 1) (ndV z y2)) := (by
      have h := boxR_new (w.alloc (.cells (ndV x y).toArray 51)) (ndV z y2) 51
      simp only [World.size_alloc] at h
      exact h)
    have HB : Hid (Below w.heap.size w ((w.alloc (.cells (ndV x y).toArray 51)).alloc (.cells (ndV z y2).toArray 51))) := bl2T _ _ _
    go_enter Try.func52, Try.ntmps52
    go_upto_region 1 with fail
    generalize ((w.alloc (.cells (ndV x y).toArray 51)).alloc (.cells (ndV z y2).toArray 51)) = w0 at HX HZ HB ⊢
    obtain ⟨X, hX⟩ : ∃ X, X = w.heap.size := ⟨_, rfl⟩
    rw [← hX] at HX HZ ⊢
    clear hX
    have e0 := NB.c0 HX.out
    have e1 := NB.c1 HX.out
    have e2 := NB.c2 HX.out
    have e3 := NB.c3 HX.out
    have e11 := NB.c11 HX.out
    have z0 := NB.c0 HZ.out
    have z1 := NB.c1 HZ.out
    have z2 := NB.c2 HZ.out
    have z3 := NB.c3 HZ.out
    have z11 := NB.c11 HZ.out
    go_wp2
    go_ret
    exact ⟨ret_boolW HE.out.symm, HB.out⟩
  have q4b : (x.sh != z.sh) = false := by rw [bne, q4]; rfl
  cases q5 : (x.li == z.li)
  · have HE : Hid (x.sm z = false) := (by show _ = _; simp [Nd.sm, Nd.s1, Nd.s2, q5])
    have q5b : (x.li != z.li) = true := by rw [bne, q5]; rfl
    have HX : Hid (BoxR ((w.alloc (.cells (ndV x y).toArray 51)).alloc (.cells (ndV z y2).toArray 51)) w.heap.size (ndV x y)) := (boxR_new w (ndV x y) 51).below (bel_alloc _ _)
    have HZ : Hid (BoxR ((w.alloc (.cells (ndV x y).toArray 51)).alloc (.cells (ndV z y2).toArray 51)) (w.heap.size + 1) (ndV z y2)) := (by
      have h := boxR_new (w.alloc (.cells (ndV x y).toArray 51)) (ndV z y2) 51
      simp only [World.size_alloc] at h
      exact h)
    have HB : Hid (Below w.heap.size w ((w.alloc (.cells (ndV x y).toArray 51)).alloc (.cells (ndV z y2).toArray 51))) := bl2T _ _ _
    go_enter Try.func52, Try.ntmps52
    go_upto_region 1 with fail
    generalize ((w.alloc (.cells (ndV x y).toArray 51)).alloc (.cells (ndV z y2).toArray 51)) = w0 at HX HZ HB ⊢
    obtain ⟨X, hX⟩ : ∃ X, X = w.heap.size := ⟨_, rfl⟩
    rw [← hX] at HX HZ ⊢
    clear hX
    have e0 := NB.c0 HX.out
    have e1 := NB.c1 HX.out
    have e2 := NB.c2 HX.out
    have e3 := NB.c3 HX.out
    have e11 := NB.c11 HX.out
    have e19 := NB.c19 HX.out
    have z0 := NB.c0 HZ.out
    have z1 := NB.c1 HZ.out
    have z2 := NB.c2 HZ.out
    have z3 := NB.c3 HZ.out
    have z11 := NB.c11 HZ.out
    have z19 := NB.c19 HZ.out
    go_wp2
    go_ret
    exact ⟨ret_boolW HE.out.symm, HB.out⟩
  have q5b : (x.li != z.li) = false := by rw [bne, q5]; rfl
  cases q6 : (x.up == z.up)
  · have HE : Hid (x.sm z = false) := (by show _ = _; simp [Nd.sm, Nd.s1, Nd.s2, q6])
    have q6b : (x.up != z.up) = true := by rw [bne, q6]; rfl
    have HX : Hid (BoxR ((w.alloc (.cells (ndV x y).toArray 51)).alloc (.cells (ndV z y2).toArray 51)) w.heap.size (ndV x y)) := (boxR_new w (ndV x y) 51).below (bel_alloc _ _)
    have HZ : Hid (BoxR ((w.alloc (.cells (ndV x y).toArray 51)).alloc (.cells (ndV z y2).toArray 51)) (w.heap.size + 1) (ndV z y2)) := (by
      have h := boxR_new (w.alloc (.cells (ndV x y).toArray 51)) (ndV z y2) 51
      simp only [World.size_alloc] at h
      exact h)
    have HB : Hid (Below w.heap.size w ((w.alloc (.cells (ndV x y).toArray 51)).alloc (.cells (ndV z y2).toArray 51))) := bl2T _ _ _
    go_enter Try.func52, Try.ntmps52
    go_upto_region 1 with fail
    generalize ((w.alloc (.cells (ndV x y).toArray 51)).alloc (.cells (ndV z y2).toArray 51)) = w0 at HX HZ HB ⊢
    obtain ⟨X, hX⟩ : ∃ X, X = w.heap.size := ⟨_, rfl⟩
    rw [← hX] at HX HZ ⊢
    clear hX
    have e0 := NB.c0 HX.out
    have e1 := NB.c1 HX.out
    have e2 := NB.c2 HX.out
    have e3 := NB.c3 HX.out
    have e11 := NB.c11 HX.out
    have e19 := NB.c19 HX.out
    have e20 := NB.c20 HX.out
    have z0 := NB.c0 HZ.out
    have z1 := NB.c1 HZ.out
    have z2 := NB.c2 HZ.out
    have z3 := NB.c3 HZ.out
    have z11 := NB.c11 HZ.out
    have z19 := NB.c19 HZ.out
    have z20 := NB.c20 HZ.out
    go_wp2
    go_ret
    exact ⟨ret_boolW HE.out.symm, HB.out⟩
  have q6b : (x.up != z.up) = false := by rw [bne, q6]; rfl
  cases q7 : (x.bo.toList == z.bo.toList)
  · have HE : Hid (x.sm z = false) := (by show _ = _; simp [Nd.sm, Nd.s1, Nd.s2, q7])
    have q7b : (x.bo.toList != z.bo.toList) = true := by rw [bne, q7]; rfl
    have HX : Hid (BoxR ((w.alloc (.cells (ndV x y).toArray 51)).alloc (.cells (ndV z y2).toArray 51)) w.heap.size (ndV x y)) := (boxR_new w (ndV x y) 51).below (bel_alloc _ _)
    have HZ : Hid (BoxR ((w.alloc (.cells (ndV x y).toArray 51)).alloc (.cells (ndV z y2).toArray 51)) (w.heap.size + 1) (ndV z y2)) := (by
      have h := boxR_new (w.alloc (.cells (ndV x y).toArray 51)) (ndV z y2) 51
      simp only [World.size_alloc] at h
      exact h)
    have HB : Hid (Below w.heap.size w ((w.alloc (.cells (ndV x y).toArray 51)).alloc (.cells (ndV z y2).toArray 51))) := bl2T _ _ _
    go_enter Try.func52, Try.ntmps52
    go_upto_region 1 with fail
    generalize ((w.alloc (.cells (ndV x y).toArray 51)).alloc (.cells (ndV z y2).toArray 51)) = w0 at HX HZ HB ⊢
    obtain ⟨X, hX⟩ : ∃ X, X = w.heap.size := ⟨_, rfl⟩
    rw [← hX] at HX HZ ⊢
    clear hX
    have e0 := NB.c0 HX.out
    have e1 := NB.c1 HX.out
    have e2 := NB.c2 HX.out
    have e3 := NB.c3 HX.out
    have e11 := NB.c11 HX.out
    have e19 := NB.c19 HX.out
    have e20 := NB.c20 HX.out
    have e21 := NB.c21 HX.out
    have z0 := NB.c0 HZ.out
    have z1 := NB.c1 HZ.out
    have z2 := NB.c2 HZ.out
    have z3 := NB.c3 HZ.out
    have z11 := NB.c11 HZ.out
    have z19 := NB.c19 HZ.out
    have z20 := NB.c20 HZ.out
    have z21 := NB.c21 HZ.out
    go_wp2
    go_ret
    exact ⟨ret_boolW HE.out.symm, HB.out⟩
  have q7b : (x.bo.toList != z.bo.toList) = false := by rw [bne, q7]; rfl
  have HE : Hid (x.sm z = (x.A.sm z.A && (x.D.sm z.D && ensE x.ns z.ns))) := (by show _ = _; simp [Nd.sm, Nd.s1, Nd.s2, q0, q1, q2, q3, q4, q5, q6, q7])
  generalize x.A.sm z.A = b1 at HE HCA
  generalize x.D.sm z.D = b2 at HE HCD
  generalize ensE x.ns z.ns = b3 at HE HCN
  have HX : Hid (BoxR ((w.alloc (.cells (ndV x y).toArray 51)).alloc (.cells (ndV z y2).toArray 51)) w.heap.size (ndV x y)) := (boxR_new w (ndV x y) 51).below (bel_alloc _ _)
  have HZ : Hid (BoxR ((w.alloc (.cells (ndV x y).toArray 51)).alloc (.cells (ndV z y2).toArray 51)) (w.heap.size + 1) (ndV z y2)) := (by
    have h := boxR_new (w.alloc (.cells (ndV x y).toArray 51)) (ndV z y2) 51
    simp only [World.size_alloc] at h
    exact h)
  have HB : Hid (Below w.heap.size w ((w.alloc (.cells (ndV x y).toArray 51)).alloc (.cells (ndV z y2).toArray 51))) := bl2T _ _ _
  go_enter Try.func52, Try.ntmps52
  go_upto_region 1 with fail
  generalize ((w.alloc (.cells (ndV x y).toArray 51)).alloc (.cells (ndV z y2).toArray 51)) = w0 at HX HZ HB ⊢
  obtain ⟨X, hX⟩ : ∃ X, X = w.heap.size := ⟨_, rfl⟩
  rw [← hX] at HX HZ ⊢
  clear hX
  have e0 := NB.c0 HX.out
  have e1 := NB.c1 HX.out
  have e2 := NB.c2 HX.out
  have e3 := NB.c3 HX.out
  have e4 := NB.c4 HX.out
  have e5 := NB.c5 HX.out
  have e6 := NB.c6 HX.out
  have e7 := NB.c7 HX.out
  have e8 := NB.c8 HX.out
  have e9 := NB.c9 HX.out
  have e10 := NB.c10 HX.out
  have e11 := NB.c11 HX.out
  have e12 := NB.c12 HX.out
  have e13 := NB.c13 HX.out
  have e14 := NB.c14 HX.out
  have e15 := NB.c15 HX.out
  have e16 := NB.c16 HX.out
  have e17 := NB.c17 HX.out
  have e18 := NB.c18 HX.out
  have e19 := NB.c19 HX.out
  have e20 := NB.c20 HX.out
  have e21 := NB.c21 HX.out
  have e22 := NB.c22 HX.out
  have z0 := NB.c0 HZ.out
  have z1 := NB.c1 HZ.out
  have z2 := NB.c2 HZ.out
  have z3 := NB.c3 HZ.out
  have z4 := NB.c4 HZ.out
  have z5 := NB.c5 HZ.out
  have z6 := NB.c6 HZ.out
  have z7 := NB.c7 HZ.out
  have z8 := NB.c8 HZ.out
  have z9 := NB.c9 HZ.out
  have z10 := NB.c10 HZ.out
  have z11 := NB.c11 HZ.out
  have z12 := NB.c12 HZ.out
  have z13 := NB.c13 HZ.out
  have z14 := NB.c14 HZ.out
  have z15 := NB.c15 HZ.out
  have z16 := NB.c16 HZ.out
  have z17 := NB.c17 HZ.out
  have z18 := NB.c18 HZ.out
  have z19 := NB.c19 HZ.out
  have z20 := NB.c20 HZ.out
  have z21 := NB.c21 HZ.out
  have z22 := NB.c22 HZ.out
  go_wp2_with (first
    | (go_at_call_of 71 (Value.slice y.aU x.A.us.length y.cU); refine (HCA.out _ HB.out).mono ?_; rintro e w1 ⟨rfl, hb⟩; replace HB : Hid (Below w.heap.size w w1) := Below.on HB.out hb; replace HX : Hid (BoxR w1 X (ndV x y)) := HX.out.below hb; replace HZ : Hid (BoxR w1 (X + 1) (ndV z y2)) := HZ.out.below hb; clear hb; replace e0 := NB.c0 HX.out; replace e1 := NB.c1 HX.out; replace e2 := NB.c2 HX.out; replace e3 := NB.c3 HX.out; replace e4 := NB.c4 HX.out; replace e5 := NB.c5 HX.out; replace e6 := NB.c6 HX.out; replace e7 := NB.c7 HX.out; replace e8 := NB.c8 HX.out; replace e9 := NB.c9 HX.out; replace e10 := NB.c10 HX.out; replace e11 := NB.c11 HX.out; replace e12 := NB.c12 HX.out; replace e13 := NB.c13 HX.out; replace e14 := NB.c14 HX.out; replace e15 := NB.c15 HX.out; replace e16 := NB.c16 HX.out; replace e17 := NB.c17 HX.out; replace e18 := NB.c18 HX.out; replace e19 := NB.c19 HX.out; replace e20 := NB.c20 HX.out; replace e21 := NB.c21 HX.out; replace e22 := NB.c22 HX.out; replace z0 := NB.c0 HZ.out; replace z1 := NB.c1 HZ.out; replace z2 := NB.c2 HZ.out; replace z3 := NB.c3 HZ.out; replace z4 := NB.c4 HZ.out; replace z5 := NB.c5 HZ.out; replace z6 := NB.c6 HZ.out; replace z7 := NB.c7 HZ.out; replace z8 := NB.c8 HZ.out; replace z9 := NB.c9 HZ.out; replace z10 := NB.c10 HZ.out; replace z11 := NB.c11 HZ.out; replace z12 := NB.c12 HZ.out; replace z13 := NB.c13 HZ.out; replace z14 := NB.c14 HZ.out; replace z15 := NB.c15 HZ.out; replace z16 := NB.c16 HZ.out; replace z17 := NB.c17 HZ.out; replace z18 := NB.c18 HZ.out; replace z19 := NB.c19 HZ.out; replace z20 := NB.c20 HZ.out; replace z21 := NB.c21 HZ.out; replace z22 := NB.c22 HZ.out)
    | (go_at_call_of 71 (Value.slice y.dU x.D.us.length y.eU); refine (HCD.out _ HB.out).mono ?_; rintro e w1 ⟨rfl, hb⟩; replace HB : Hid (Below w.heap.size w w1) := Below.on HB.out hb; replace HX : Hid (BoxR w1 X (ndV x y)) := HX.out.below hb; replace HZ : Hid (BoxR w1 (X + 1) (ndV z y2)) := HZ.out.below hb; clear hb; replace e0 := NB.c0 HX.out; replace e1 := NB.c1 HX.out; replace e2 := NB.c2 HX.out; replace e3 := NB.c3 HX.out; replace e4 := NB.c4 HX.out; replace e5 := NB.c5 HX.out; replace e6 := NB.c6 HX.out; replace e7 := NB.c7 HX.out; replace e8 := NB.c8 HX.out; replace e9 := NB.c9 HX.out; replace e10 := NB.c10 HX.out; replace e11 := NB.c11 HX.out; replace e12 := NB.c12 HX.out; replace e13 := NB.c13 HX.out; replace e14 := NB.c14 HX.out; replace e15 := NB.c15 HX.out; replace e16 := NB.c16 HX.out; replace e17 := NB.c17 HX.out; replace e18 := NB.c18 HX.out; replace e19 := NB.c19 HX.out; replace e20 := NB.c20 HX.out; replace e21 := NB.c21 HX.out; replace e22 := NB.c22 HX.out; replace z0 := NB.c0 HZ.out; replace z1 := NB.c1 HZ.out; replace z2 := NB.c2 HZ.out; replace z3 := NB.c3 HZ.out; replace z4 := NB.c4 HZ.out; replace z5 := NB.c5 HZ.out; replace z6 := NB.c6 HZ.out; replace z7 := NB.c7 HZ.out; replace z8 := NB.c8 HZ.out; replace z9 := NB.c9 HZ.out; replace z10 := NB.c10 HZ.out; replace z11 := NB.c11 HZ.out; replace z12 := NB.c12 HZ.out; replace z13 := NB.c13 HZ.out; replace z14 := NB.c14 HZ.out; replace z15 := NB.c15 HZ.out; replace z16 := NB.c16 HZ.out; replace z17 := NB.c17 HZ.out; replace z18 := NB.c18 HZ.out; replace z19 := NB.c19 HZ.out; replace z20 := NB.c20 HZ.out; replace z21 := NB.c21 HZ.out; replace z22 := NB.c22 HZ.out)
    | (go_at_call 72; refine (HCN.out _ HB.out).mono ?_; rintro e w1 ⟨rfl, hb⟩; replace HB : Hid (Below w.heap.size w w1) := Below.on HB.out hb; clear hb))
  all_goals go_ret
  all_goals (refine ⟨ret_boolW ?_, HB.out⟩; rw [HE.out]; first | rfl | (simp; done) | (simp [*]; done) | (simp_all; done))
end Go.Proofs.Ytcgkkeooigjbbaa
