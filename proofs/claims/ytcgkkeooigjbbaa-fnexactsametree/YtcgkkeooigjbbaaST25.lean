/- Laid together: SameS, SameT. -/
import Derived.Test.YtcgkkeooigjbbaaST24
import Derived.Test.YtcgkkeooigjbbaaST7
/- spec.l08SameNode of two nodes. -/
namespace Go.Proofs.Ytcgkkeooigjbbaa
open Go.RowKit Go.PlainAid Go.Deep
set_option linter.unusedVariables false
set_option maxRecDepth 20000 in
set_option maxHeartbeats 8000000 in
theorem sSameNd_any (x z : Nd) (y y2 : Na) (hf : NdFit 1048576 x) (hf2 : NdFit 1048576 z) (w : World) (hi : NdIn w x y) (hi2 : NdIn w z y2) :
    Calls Try.prog 50 #[.agg (ndV x y).toArray, .agg (ndV z y2).toArray] w fun e w' => e = .returned (.bool (x.sm z)) ∧ Below w.heap.size w w' := by
  have HCA : Hid (∀ w', Below w.heap.size w w' → Calls Try.prog 70 #[.agg #[.int .i64 x.A.u, .int .i64 x.A.g, .int .i64 x.A.o, .slice y.aU x.A.us.length y.cU, .slice y.aG x.A.gs.length y.cG, .bool x.A.r, .int .i64 x.A.m], .agg #[.int .i64 z.A.u, .int .i64 z.A.g, .int .i64 z.A.o, .slice y2.aU z.A.us.length y2.cU, .slice y2.aG z.A.gs.length y2.cG, .bool z.A.r, .int .i64 z.A.m]] w' fun e w'' => e = .returned (.bool (x.A.sm z.A)) ∧ Below w'.heap.size w' w'') := (fun w' hb => sSameA_any x.A z.A _ _ _ _ _ _ _ _ hf.au hf.ag hf2.au hf2.ag w' (hi.aU.below hb) (hi.aG.below hb) (hi2.aU.below hb) (hi2.aG.below hb))
  have HCD : Hid (∀ w', Below w.heap.size w w' → Calls Try.prog 70 #[.agg #[.int .i64 x.D.u, .int .i64 x.D.g, .int .i64 x.D.o, .slice y.dU x.D.us.length y.eU, .slice y.dG x.D.gs.length y.eG, .bool x.D.r, .int .i64 x.D.m], .agg #[.int .i64 z.D.u, .int .i64 z.D.g, .int .i64 z.D.o, .slice y2.dU z.D.us.length y2.eU, .slice y2.dG z.D.gs.length y2.eG, .bool z.D.r, .int .i64 z.D.m]] w' fun e w'' => e = .returned (.bool (x.D.sm z.D)) ∧ Below w'.heap.size w' w'') := (fun w' hb => sSameA_any x.D z.D _ _ _ _ _ _ _ _ hf.du hf.dg hf2.du hf2.dg w' (hi.dU.below hb) (hi.dG.below hb) (hi2.dU.below hb) (hi2.dG.below hb))
  have HN1 : Hid (Ens y.nA x.ns.length x.ns w) := hi.nA
  have HN2 : Hid (Ens y2.nA z.ns.length z.ns w) := hi2.nA
  have hln := hf.nl
  clear hi hi2 hf hf2
  cases q0 : (x.k == z.k)
  · have HE : Hid (x.sm z = false) := (by show _ = _; simp [Nd.sm, Nd.s1, Nd.s2, q0])
    have q0b : (x.k != z.k) = true := by rw [bne, q0]; rfl
    have HX : Hid (BoxR ((w.alloc (.cells (ndV x y).toArray 51)).alloc (.cells (ndV z y2).toArray 51)) w.heap.size (ndV x y)) := (boxR_new w (ndV x y) 51).below (bel_alloc _ _)
    have HZ : Hid (BoxR ((w.alloc (.cells (ndV x y).toArray 51)).alloc (.cells (ndV z y2).toArray 51)) (w.heap.size + 1) (ndV z y2)) := (by
      have h := boxR_new (w.alloc (.cells (ndV x y).toArray 51)) (ndV z y2) 51
      simp only [World.size_alloc] at h
      exact h)
    have HB : Hid (Below w.heap.size w ((w.alloc (.cells (ndV x y).toArray 51)).alloc (.cells (ndV z y2).toArray 51))) := bl2T _ _ _
    go_enter Try.func50, Try.ntmps50
    go_upto_region 1 with fail
    generalize ((w.alloc (.cells (ndV x y).toArray 51)).alloc (.cells (ndV z y2).toArray 51)) = w0 at HX HZ HB ⊢
    obtain ⟨X, hX⟩ : ∃ X, X = w.heap.size := ⟨_, rfl⟩
    rw [← hX] at HX HZ ⊢
    clear hX
    have e0 := NB.c0 HX.out
    have z0 := NB.c0 HZ.out
    go_wp2
    go_ret
    exact ⟨ret_boolW HE.out.symm, HB.out⟩
  have q0b : (x.k != z.k) = false := by rw [bne, q0]; rfl
  cases q1 : (x.ow == z.ow)
  · have HE : Hid (x.sm z = false) := (by show _ = _; simp [Nd.sm, Nd.s1, Nd.s2, q1])
    have q1b : (x.ow != z.ow) = true := by rw [bne, q1]; rfl
    have HX : Hid (BoxR ((w.alloc (.cells (ndV x y).toArray 51)).alloc (.cells (ndV z y2).toArray 51)) w.heap.size (ndV x y)) := (boxR_new w (ndV x y) 51).below (bel_alloc _ _)
    have HZ : Hid (BoxR ((w.alloc (.cells (ndV x y).toArray 51)).alloc (.cells (ndV z y2).toArray 51)) (w.heap.size + 1) (ndV z y2)) := (by
      have h := boxR_new (w.alloc (.cells (ndV x y).toArray 51)) (ndV z y2) 51
      simp only [World.size_alloc] at h
      exact h)
    have HB : Hid (Below w.heap.size w ((w.alloc (.cells (ndV x y).toArray 51)).alloc (.cells (ndV z y2).toArray 51))) := bl2T _ _ _
    go_enter Try.func50, Try.ntmps50
    go_upto_region 1 with fail
    generalize ((w.alloc (.cells (ndV x y).toArray 51)).alloc (.cells (ndV z y2).toArray 51)) = w0 at HX HZ HB ⊢
    obtain ⟨X, hX⟩ : ∃ X, X = w.heap.size := ⟨_, rfl⟩
    rw [← hX] at HX HZ ⊢
    clear hX
    have e0 := NB.c0 HX.out
    have e1 := NB.c1 HX.out
    have z0 := NB.c0 HZ.out
    have z1 := NB.c1 HZ.out
    go_wp2
    go_ret
    exact ⟨ret_boolW HE.out.symm, HB.out⟩
  have q1b : (x.ow != z.ow) = false := by rw [bne, q1]; rfl
  cases q2 : (x.gr == z.gr)
  · have HE : Hid (x.sm z = false) := (by show _ = _; simp [Nd.sm, Nd.s1, Nd.s2, q2])
    have q2b : (x.gr != z.gr) = true := by rw [bne, q2]; rfl
    have HX : Hid (BoxR ((w.alloc (.cells (ndV x y).toArray 51)).alloc (.cells (ndV z y2).toArray 51)) w.heap.size (ndV x y)) := (boxR_new w (ndV x y) 51).below (bel_alloc _ _)
    have HZ : Hid (BoxR ((w.alloc (.cells (ndV x y).toArray 51)).alloc (.cells (ndV z y2).toArray 51)) (w.heap.size + 1) (ndV z y2)) := (by
      have h := boxR_new (w.alloc (.cells (ndV x y).toArray 51)) (ndV z y2) 51
      simp only [World.size_alloc] at h
      exact h)
    have HB : Hid (Below w.heap.size w ((w.alloc (.cells (ndV x y).toArray 51)).alloc (.cells (ndV z y2).toArray 51))) := bl2T _ _ _
    go_enter Try.func50, Try.ntmps50
    go_upto_region 1 with fail
    generalize ((w.alloc (.cells (ndV x y).toArray 51)).alloc (.cells (ndV z y2).toArray 51)) = w0 at HX HZ HB ⊢
    obtain ⟨X, hX⟩ : ∃ X, X = w.heap.size := ⟨_, rfl⟩
    rw [← hX] at HX HZ ⊢
    clear hX
    have e0 := NB.c0 HX.out
    have e1 := NB.c1 HX.out
    have e2 := NB.c2 HX.out
    have z0 := NB.c0 HZ.out
    have z1 := NB.c1 HZ.out
    have z2 := NB.c2 HZ.out
    go_wp2
    go_ret
    exact ⟨ret_boolW HE.out.symm, HB.out⟩
  have q2b : (x.gr != z.gr) = false := by rw [bne, q2]; rfl
  cases q3 : (x.ex == z.ex)
  · have HE : Hid (x.sm z = false) := (by show _ = _; simp [Nd.sm, Nd.s1, Nd.s2, q3])
    have q3b : (x.ex != z.ex) = true := by rw [bne, q3]; rfl
    have HX : Hid (BoxR ((w.alloc (.cells (ndV x y).toArray 51)).alloc (.cells (ndV z y2).toArray 51)) w.heap.size (ndV x y)) := (boxR_new w (ndV x y) 51).below (bel_alloc _ _)
    have HZ : Hid (BoxR ((w.alloc (.cells (ndV x y).toArray 51)).alloc (.cells (ndV z y2).toArray 51)) (w.heap.size + 1) (ndV z y2)) := (by
      have h := boxR_new (w.alloc (.cells (ndV x y).toArray 51)) (ndV z y2) 51
      simp only [World.size_alloc] at h
      exact h)
    have HB : Hid (Below w.heap.size w ((w.alloc (.cells (ndV x y).toArray 51)).alloc (.cells (ndV z y2).toArray 51))) := bl2T _ _ _
    go_enter Try.func50, Try.ntmps50
    go_upto_region 1 with fail
    generalize ((w.alloc (.cells (ndV x y).toArray 51)).alloc (.cells (ndV z y2).toArray 51)) = w0 at HX HZ HB ⊢
    obtain ⟨X, hX⟩ : ∃ X, X = w.heap.size := ⟨_, rfl⟩
    rw [← hX] at HX HZ ⊢
    clear hX
    have e0 := NB.c0 HX.out
    have e1 := NB.c1 HX.out
    have e2 := NB.c2 HX.out
    have e3 := NB.c3 HX.out
    have z0 := NB.c0 HZ.out
    have z1 := NB.c1 HZ.out
    have z2 := NB.c2 HZ.out
    have z3 := NB.c3 HZ.out
    go_wp2
    go_ret
    exact ⟨ret_boolW HE.out.symm, HB.out⟩
  have q3b : (x.ex != z.ex) = false := by rw [bne, q3]; rfl
  cases q4 : (x.sh == z.sh)
  · have HE : Hid (x.sm z = false) := (by show _ = _; simp [Nd.sm, Nd.s1, Nd.s2, q4])
    have q4b : (x.sh != z.sh) = true := by rw [bne, q4]; rfl
    have HX : Hid (BoxR ((w.alloc (.cells (ndV x y).toArray 51)).alloc (.cells (ndV z y2).toArray 51)) w.heap.size (ndV x y)) := (boxR_new w (ndV x y) 51).below (bel_alloc _ _)
    have HZ : Hid (BoxR ((w.alloc (.cells (ndV x y).toArray 51)).alloc (.cells (ndV z y2).toArray 51)) (w.heap.size + 1) (ndV z y2)) := (by
      have h := boxR_new (w.alloc (.cells (ndV x y).toArray 51)) (ndV z y2) 51
      simp only [World.size_alloc] at h
      exact h)
    have HB : Hid (Below w.heap.size w ((w.alloc (.cells (ndV x y).toArray 51)).alloc (.cells (ndV z y2).toArray 51))) := bl2T _ _ _
    go_enter Try.func50, Try.ntmps50
    go_upto_region 1 with fail
    generalize ((w.alloc (.cells (ndV x y).toArray 51)).alloc (.cells (ndV z y2).toArray 51)) = w0 at HX HZ HB ⊢
    obtain ⟨X, hX⟩ : ∃ X, X = w.heap.size := ⟨_, rfl⟩
    rw [← hX] at HX HZ ⊢
    clear hX
    have e0 := NB.c0 HX.out
    have e1 := NB.c1 HX.out
    have e2 := NB.c2 HX.out
    have e3 := NB.c3 HX.out
    have e11 := NB.c11 HX.out
    have z0 := NB.c0 HZ.out
    have z1 := NB.c1 HZ.out
    have z2 := NB.c2 HZ.out
    have z3 := NB.c3 HZ.out
    have z11 := NB.c11 HZ.out
    go_wp2
    go_ret
    exact ⟨ret_boolW HE.out.symm, HB.out⟩
  have q4b : (x.sh != z.sh) = false := by rw [bne, q4]; rfl
  cases q5 : (x.li == z.li)
  · have HE : Hid (x.sm z = false) := (by show _ = _; simp [Nd.sm, Nd.s1, Nd.s2, q5])
    have q5b : (x.li != z.li) = true := by rw [bne, q5]; rfl
    have HX : Hid (BoxR ((w.alloc (.cells (ndV x y).toArray 51)).alloc (.cells (ndV z y2).toArray 51)) w.heap.size (ndV x y)) := (boxR_new w (ndV x y) 51).below (bel_alloc _ _)
    have HZ : Hid (BoxR ((w.alloc (.cells (ndV x y).toArray 51)).alloc (.cells (ndV z y2).toArray 51)) (w.heap.size + 1) (ndV z y2)) := (by
      have h := boxR_new (w.alloc (.cells (ndV x y).toArray 51)) (ndV z y2) 51
      simp only [World.size_alloc] at h
      exact h)
    have HB : Hid (Below w.heap.size w ((w.alloc (.cells (ndV x y).toArray 51)).alloc (.cells (ndV z y2).toArray 51))) := bl2T _ _ _
    go_enter Try.func50, Try.ntmps50
    go_upto_region 1 with fail
    generalize ((w.alloc (.cells (ndV x y).toArray 51)).alloc (.cells (ndV z y2).toArray 51)) = w0 at HX HZ HB ⊢
    obtain ⟨X, hX⟩ : ∃ X, X = w.heap.size := ⟨_, rfl⟩
    rw [← hX] at HX HZ ⊢
    clear hX
    have e0 := NB.c0 HX.out
    have e1 := NB.c1 HX.out
    have e2 := NB.c2 HX.out
    have e3 := NB.c3 HX.out
    have e11 := NB.c11 HX.out
    have e19 := NB.c19 HX.out
    have z0 := NB.c0 HZ.out
    have z1 := NB.c1 HZ.out
    have z2 := NB.c2 HZ.out
    have z3 := NB.c3 HZ.out
    have z11 := NB.c11 HZ.out
    have z19 := NB.c19 HZ.out
    go_wp2
    go_ret
    exact ⟨ret_boolW HE.out.symm, HB.out⟩
  have q5b : (x.li != z.li) = false := by rw [bne, q5]; rfl
  cases q6 : (x.up == z.up)
  · have HE : Hid (x.sm z = false) := (by show _ = _; simp [Nd.sm, Nd.s1, Nd.s2, q6])
    have q6b : (x.up != z.up) = true := by rw [bne, q6]; rfl
    have HX : Hid (BoxR ((w.alloc (.cells (ndV x y).toArray 51)).alloc (.cells (ndV z y2).toArray 51)) w.heap.size (ndV x y)) := (boxR_new w (ndV x y) 51).below (bel_alloc _ _)
    have HZ : Hid (BoxR ((w.alloc (.cells (ndV x y).toArray 51)).alloc (.cells (ndV z y2).toArray 51)) (w.heap.size + 1) (ndV z y2)) := (by
      have h := boxR_new (w.alloc (.cells (ndV x y).toArray 51)) (ndV z y2) 51
      simp only [World.size_alloc] at h
      exact h)
    have HB : Hid (Below w.heap.size w ((w.alloc (.cells (ndV x y).toArray 51)).alloc (.cells (ndV z y2).toArray 51))) := bl2T _ _ _
    go_enter Try.func50, Try.ntmps50
    go_upto_region 1 with fail
    generalize ((w.alloc (.cells (ndV x y).toArray 51)).alloc (.cells (ndV z y2).toArray 51)) = w0 at HX HZ HB ⊢
    obtain ⟨X, hX⟩ : ∃ X, X = w.heap.size := ⟨_, rfl⟩
    rw [← hX] at HX HZ ⊢
    clear hX
    have e0 := NB.c0 HX.out
    have e1 := NB.c1 HX.out
    have e2 := NB.c2 HX.out
    have e3 := NB.c3 HX.out
    have e11 := NB.c11 HX.out
    have e19 := NB.c19 HX.out
    have e20 := NB.c20 HX.out
    have z0 := NB.c0 HZ.out
    have z1 := NB.c1 HZ.out
    have z2 := NB.c2 HZ.out
    have z3 := NB.c3 HZ.out
    have z11 := NB.c11 HZ.out
    have z19 := NB.c19 HZ.out
    have z20 := NB.c20 HZ.out
    go_wp2
    go_ret
    exact ⟨ret_boolW HE.out.symm, HB.out⟩
  have q6b : (x.up != z.up) = false := by rw [bne, q6]; rfl
  cases q7 : (x.bo.toList == z.bo.toList)
  · have HE : Hid (x.sm z = false) := (by show _ = _; simp [Nd.sm, Nd.s1, Nd.s2, q7])
    have q7b : (x.bo.toList != z.bo.toList) = true := by rw [bne, q7]; rfl
    have HX : Hid (BoxR ((w.alloc (.cells (ndV x y).toArray 51)).alloc (.cells (ndV z y2).toArray 51)) w.heap.size (ndV x y)) := (boxR_new w (ndV x y) 51).below (bel_alloc _ _)
    have HZ : Hid (BoxR ((w.alloc (.cells (ndV x y).toArray 51)).alloc (.cells (ndV z y2).toArray 51)) (w.heap.size + 1) (ndV z y2)) := (by
      have h := boxR_new (w.alloc (.cells (ndV x y).toArray 51)) (ndV z y2) 51
      simp only [World.size_alloc] at h
      exact h)
    have HB : Hid (Below w.heap.size w ((w.alloc (.cells (ndV x y).toArray 51)).alloc (.cells (ndV z y2).toArray 51))) := bl2T _ _ _
    go_enter Try.func50, Try.ntmps50
    go_upto_region 1 with fail
    generalize ((w.alloc (.cells (ndV x y).toArray 51)).alloc (.cells (ndV z y2).toArray 51)) = w0 at HX HZ HB ⊢
    obtain ⟨X, hX⟩ : ∃ X, X = w.heap.size := ⟨_, rfl⟩
    rw [← hX] at HX HZ ⊢
    clear hX
    have e0 := NB.c0 HX.out
    have e1 := NB.c1 HX.out
    have e2 := NB.c2 HX.out
    have e3 := NB.c3 HX.out
    have e11 := NB.c11 HX.out
    have e19 := NB.c19 HX.out
    have e20 := NB.c20 HX.out
    have e21 := NB.c21 HX.out
    have z0 := NB.c0 HZ.out
    have z1 := NB.c1 HZ.out
    have z2 := NB.c2 HZ.out
    have z3 := NB.c3 HZ.out
    have z11 := NB.c11 HZ.out
    have z19 := NB.c19 HZ.out
    have z20 := NB.c20 HZ.out
    have z21 := NB.c21 HZ.out
    go_wp2
    go_ret
    exact ⟨ret_boolW HE.out.symm, HB.out⟩
  have q7b : (x.bo.toList != z.bo.toList) = false := by rw [bne, q7]; rfl
  cases q8 : (x.ns.length == z.ns.length)
  · have HE : Hid (x.sm z = false) := (by show _ = _; simp only [Nd.sm, ensE, q8, Bool.false_and, Bool.and_false])
    have q9 : ((x.ns.length : Int) == (z.ns.length : Int)) = false := by simp at q8 ⊢; omega
    have q10 : ((x.ns.length : Int) != (z.ns.length : Int)) = true := by rw [bne, q9]; rfl
    have HX : Hid (BoxR ((w.alloc (.cells (ndV x y).toArray 51)).alloc (.cells (ndV z y2).toArray 51)) w.heap.size (ndV x y)) := (boxR_new w (ndV x y) 51).below (bel_alloc _ _)
    have HZ : Hid (BoxR ((w.alloc (.cells (ndV x y).toArray 51)).alloc (.cells (ndV z y2).toArray 51)) (w.heap.size + 1) (ndV z y2)) := (by
      have h := boxR_new (w.alloc (.cells (ndV x y).toArray 51)) (ndV z y2) 51
      simp only [World.size_alloc] at h
      exact h)
    have HB : Hid (Below w.heap.size w ((w.alloc (.cells (ndV x y).toArray 51)).alloc (.cells (ndV z y2).toArray 51))) := bl2T _ _ _
    go_enter Try.func50, Try.ntmps50
    go_upto_region 1 with fail
    generalize ((w.alloc (.cells (ndV x y).toArray 51)).alloc (.cells (ndV z y2).toArray 51)) = w0 at HX HZ HB ⊢
    obtain ⟨X, hX⟩ : ∃ X, X = w.heap.size := ⟨_, rfl⟩
    rw [← hX] at HX HZ ⊢
    clear hX
    have e0 := NB.c0 HX.out
    have e1 := NB.c1 HX.out
    have e2 := NB.c2 HX.out
    have e3 := NB.c3 HX.out
    have e11 := NB.c11 HX.out
    have e19 := NB.c19 HX.out
    have e20 := NB.c20 HX.out
    have e21 := NB.c21 HX.out
    have e22 := NB.c22 HX.out
    have z0 := NB.c0 HZ.out
    have z1 := NB.c1 HZ.out
    have z2 := NB.c2 HZ.out
    have z3 := NB.c3 HZ.out
    have z11 := NB.c11 HZ.out
    have z19 := NB.c19 HZ.out
    have z20 := NB.c20 HZ.out
    have z21 := NB.c21 HZ.out
    have z22 := NB.c22 HZ.out
    go_wp2
    go_ret
    exact ⟨ret_boolW HE.out.symm, HB.out⟩
  have hlz : x.ns.length = z.ns.length := by simpa using q8
  have HE : Hid (x.sm z = (x.A.sm z.A && (x.D.sm z.D && ensT x.ns z.ns x.ns.length))) := (by show _ = _; simp only [Nd.sm, Nd.s1, Nd.s2, ensE, q0, q1, q2, q3, q4, q5, q6, q7, q8, Bool.true_and])
  rw [← hlz] at HN2
  generalize x.A.sm z.A = b1 at HE HCA
  generalize x.D.sm z.D = b2 at HE HCD
  have HX : Hid (BoxR ((w.alloc (.cells (ndV x y).toArray 51)).alloc (.cells (ndV z y2).toArray 51)) w.heap.size (ndV x y)) := (boxR_new w (ndV x y) 51).below (bel_alloc _ _)
  have HZ : Hid (BoxR ((w.alloc (.cells (ndV x y).toArray 51)).alloc (.cells (ndV z y2).toArray 51)) (w.heap.size + 1) (ndV z y2)) := (by
    have h := boxR_new (w.alloc (.cells (ndV x y).toArray 51)) (ndV z y2) 51
    simp only [World.size_alloc] at h
    exact h)
  have HB : Hid (Below w.heap.size w ((w.alloc (.cells (ndV x y).toArray 51)).alloc (.cells (ndV z y2).toArray 51))) := bl2T _ _ _
  go_enter Try.func50, Try.ntmps50
  go_upto_region 1 with fail
  generalize ((w.alloc (.cells (ndV x y).toArray 51)).alloc (.cells (ndV z y2).toArray 51)) = w0 at HX HZ HB ⊢
  obtain ⟨X, hX⟩ : ∃ X, X = w.heap.size := ⟨_, rfl⟩
  rw [← hX] at HX HZ ⊢
  clear hX
  have e0 := NB.c0 HX.out
  have e1 := NB.c1 HX.out
  have e2 := NB.c2 HX.out
  have e3 := NB.c3 HX.out
  have e4 := NB.c4 HX.out
  have e5 := NB.c5 HX.out
  have e6 := NB.c6 HX.out
  have e7 := NB.c7 HX.out
  have e8 := NB.c8 HX.out
  have e9 := NB.c9 HX.out
  have e10 := NB.c10 HX.out
  have e11 := NB.c11 HX.out
  have e12 := NB.c12 HX.out
  have e13 := NB.c13 HX.out
  have e14 := NB.c14 HX.out
  have e15 := NB.c15 HX.out
  have e16 := NB.c16 HX.out
  have e17 := NB.c17 HX.out
  have e18 := NB.c18 HX.out
  have e19 := NB.c19 HX.out
  have e20 := NB.c20 HX.out
  have e21 := NB.c21 HX.out
  have e22 := NB.c22 HX.out
  have z0 := NB.c0 HZ.out
  have z1 := NB.c1 HZ.out
  have z2 := NB.c2 HZ.out
  have z3 := NB.c3 HZ.out
  have z4 := NB.c4 HZ.out
  have z5 := NB.c5 HZ.out
  have z6 := NB.c6 HZ.out
  have z7 := NB.c7 HZ.out
  have z8 := NB.c8 HZ.out
  have z9 := NB.c9 HZ.out
  have z10 := NB.c10 HZ.out
  have z11 := NB.c11 HZ.out
  have z12 := NB.c12 HZ.out
  have z13 := NB.c13 HZ.out
  have z14 := NB.c14 HZ.out
  have z15 := NB.c15 HZ.out
  have z16 := NB.c16 HZ.out
  have z17 := NB.c17 HZ.out
  have z18 := NB.c18 HZ.out
  have z19 := NB.c19 HZ.out
  have z20 := NB.c20 HZ.out
  have z21 := NB.c21 HZ.out
  have z22 := NB.c22 HZ.out
  have hlz' : (z.ns.length : Int) = (x.ns.length : Int) := by omega
  go_wp2
  clear e0 z0 e1 z1 e2 z2 e3 z3 e4 z4 e5 z5 e6 z6 e7 z7 e8 z8 e9 z9 e10 z10 e11 z11 e12 z12 e13 z13 e14 z14 e15 z15 e16 z16 e17 z17 e18 z18 e19 z19 e20 z20 e21 z21 e22 z22
  go_loopw [5] (fun i wr => ∃ k : Nat, k ≤ x.ns.length ∧ i = .int .i64 k ∧ Hid (ensT x.ns z.ns k = true) ∧ Hid (Below w0.heap.size w0 wr)) (fun i _ => x.ns.length - (intOf i).toNat)
  case atStart => exact ⟨0, Nat.zero_le _, rfl, rfl, Below.refl _ _⟩
  case round =>
    obtain ⟨k, hk, rfl, hT, hB⟩ := hrel
    have HXr : Hid (BoxR wr X (ndV x y)) := HX.out.below hB.out
    have HZr : Hid (BoxR wr (X + 1) (ndV z y2)) := HZ.out.below hB.out
    have HBr : Hid (Below w.heap.size w wr) := Below.on HB.out hB.out
    by_cases hlt : k < x.ns.length
    · obtain ⟨b1, o1, hb1e, hb1, hc1⟩ := (HN1.out.below HBr.out).2 (by omega)
      obtain ⟨b2, o2, hb2e, hb2, hc2⟩ := (HN2.out.below HBr.out).2 (by omega)
      have e22 := NB.c22 HXr.out
      have z22 := NB.c22 HZr.out
      rw [hb1e] at e22
      rw [hb2e] at z22
      have g0 := (hc1 k hlt).1
      have g1 := (hc1 k hlt).2
      have g2 := (hc2 k hlt).1
      have g3 := (hc2 k hlt).2
      have hlt' : (k : Int) < (x.ns.length : Int) := by omega
      have hlt2 : (k : Int) < (z.ns.length : Int) := by omega
      have h0' : (0 : Int) ≤ (k : Int) := by omega
      have HY : Hid (((nmAt x.ns k).toList == (nmAt z.ns k).toList && noAt x.ns k == noAt z.ns k) = true → ensT x.ns z.ns (k + 1) = true) := (fun e => by simp only [ensT, hT.out, e, Bool.and_self])
      have HNo : Hid (((nmAt x.ns k).toList == (nmAt z.ns k).toList && noAt x.ns k == noAt z.ns k) = false → x.sm z = false) := (fun e => by rw [HE.out, ensT_false hlt e]; simp)
      clear hc1 hc2 hb1e hb2e hlz hlz' HXr HZr
      generalize nmAt x.ns k = q1 at g0 HY HNo
      generalize noAt x.ns k = q2 at g1 HY HNo
      generalize nmAt z.ns k = q3 at g2 HY HNo
      generalize noAt z.ns k = q4 at g3 HY HNo
      cases e1 : (q1.toList == q3.toList) <;> cases e2 : (q2 == q4)
      case true.true =>
        have hyes : Hid (ensT x.ns z.ns (k + 1) = true) := HY.out (by rw [e1, e2]; rfl)
        clear HY HNo
        go_wp2
        go_quiet (fail)
        go_wp2
        go_roundw
        case rel => exact ⟨k + 1, by omega, by go_num, hyes, below_drewN2 hB.out _⟩
        case measure => simp [intOf]; omega
      all_goals
        have hno : Hid (x.sm z = false) := HNo.out (by rw [e1, e2]; rfl)
        clear HY HNo
        go_wp2
        go_quiet (fail)
        go_wp2
        go_ret
        exact ⟨ret_boolW hno.out.symm, below_drewN2 HBr.out _⟩
    · have hkl : k = x.ns.length := by omega
      have HEnd : Hid (x.sm z = (b1 && b2)) := (by show _ = _; rw [HE.out, ← hkl, hT.out, Bool.and_true])
      have hkl' : (k : Int) = (x.ns.length : Int) := by omega
      clear HE hT hlz hlz' hlt HN1 HN2
      rw [hkl']
      clear hkl hkl' hk
      clear HX HZ HB
      replace HX : Hid (BoxR wr X (ndV x y)) := HXr
      replace HZ : Hid (BoxR wr (X + 1) (ndV z y2)) := HZr
      replace HB : Hid (Below w.heap.size w wr) := HBr
      clear HXr HZr HBr
      have e0 := NB.c0 HX.out
      have e1 := NB.c1 HX.out
      have e2 := NB.c2 HX.out
      have e3 := NB.c3 HX.out
      have e4 := NB.c4 HX.out
      have e5 := NB.c5 HX.out
      have e6 := NB.c6 HX.out
      have e7 := NB.c7 HX.out
      have e8 := NB.c8 HX.out
      have e9 := NB.c9 HX.out
      have e10 := NB.c10 HX.out
      have e11 := NB.c11 HX.out
      have e12 := NB.c12 HX.out
      have e13 := NB.c13 HX.out
      have e14 := NB.c14 HX.out
      have e15 := NB.c15 HX.out
      have e16 := NB.c16 HX.out
      have e17 := NB.c17 HX.out
      have e18 := NB.c18 HX.out
      have e19 := NB.c19 HX.out
      have e20 := NB.c20 HX.out
      have e21 := NB.c21 HX.out
      have e22 := NB.c22 HX.out
      have z0 := NB.c0 HZ.out
      have z1 := NB.c1 HZ.out
      have z2 := NB.c2 HZ.out
      have z3 := NB.c3 HZ.out
      have z4 := NB.c4 HZ.out
      have z5 := NB.c5 HZ.out
      have z6 := NB.c6 HZ.out
      have z7 := NB.c7 HZ.out
      have z8 := NB.c8 HZ.out
      have z9 := NB.c9 HZ.out
      have z10 := NB.c10 HZ.out
      have z11 := NB.c11 HZ.out
      have z12 := NB.c12 HZ.out
      have z13 := NB.c13 HZ.out
      have z14 := NB.c14 HZ.out
      have z15 := NB.c15 HZ.out
      have z16 := NB.c16 HZ.out
      have z17 := NB.c17 HZ.out
      have z18 := NB.c18 HZ.out
      have z19 := NB.c19 HZ.out
      have z20 := NB.c20 HZ.out
      have z21 := NB.c21 HZ.out
      have z22 := NB.c22 HZ.out
      go_wp2_with (first
        | (go_at_call_of 70 (Value.slice y.aU x.A.us.length y.cU); refine (HCA.out _ HB.out).mono ?_; rintro e w1 ⟨rfl, hb⟩; replace HB : Hid (Below w.heap.size w w1) := Below.on HB.out hb; replace HX : Hid (BoxR w1 X (ndV x y)) := HX.out.below hb; replace HZ : Hid (BoxR w1 (X + 1) (ndV z y2)) := HZ.out.below hb; clear hb; replace e0 := NB.c0 HX.out; replace e1 := NB.c1 HX.out; replace e2 := NB.c2 HX.out; replace e3 := NB.c3 HX.out; replace e4 := NB.c4 HX.out; replace e5 := NB.c5 HX.out; replace e6 := NB.c6 HX.out; replace e7 := NB.c7 HX.out; replace e8 := NB.c8 HX.out; replace e9 := NB.c9 HX.out; replace e10 := NB.c10 HX.out; replace e11 := NB.c11 HX.out; replace e12 := NB.c12 HX.out; replace e13 := NB.c13 HX.out; replace e14 := NB.c14 HX.out; replace e15 := NB.c15 HX.out; replace e16 := NB.c16 HX.out; replace e17 := NB.c17 HX.out; replace e18 := NB.c18 HX.out; replace e19 := NB.c19 HX.out; replace e20 := NB.c20 HX.out; replace e21 := NB.c21 HX.out; replace e22 := NB.c22 HX.out; replace z0 := NB.c0 HZ.out; replace z1 := NB.c1 HZ.out; replace z2 := NB.c2 HZ.out; replace z3 := NB.c3 HZ.out; replace z4 := NB.c4 HZ.out; replace z5 := NB.c5 HZ.out; replace z6 := NB.c6 HZ.out; replace z7 := NB.c7 HZ.out; replace z8 := NB.c8 HZ.out; replace z9 := NB.c9 HZ.out; replace z10 := NB.c10 HZ.out; replace z11 := NB.c11 HZ.out; replace z12 := NB.c12 HZ.out; replace z13 := NB.c13 HZ.out; replace z14 := NB.c14 HZ.out; replace z15 := NB.c15 HZ.out; replace z16 := NB.c16 HZ.out; replace z17 := NB.c17 HZ.out; replace z18 := NB.c18 HZ.out; replace z19 := NB.c19 HZ.out; replace z20 := NB.c20 HZ.out; replace z21 := NB.c21 HZ.out; replace z22 := NB.c22 HZ.out)
        | (go_at_call_of 70 (Value.slice y.dU x.D.us.length y.eU); refine (HCD.out _ HB.out).mono ?_; rintro e w1 ⟨rfl, hb⟩; replace HB : Hid (Below w.heap.size w w1) := Below.on HB.out hb; replace HX : Hid (BoxR w1 X (ndV x y)) := HX.out.below hb; replace HZ : Hid (BoxR w1 (X + 1) (ndV z y2)) := HZ.out.below hb; clear hb; replace e0 := NB.c0 HX.out; replace e1 := NB.c1 HX.out; replace e2 := NB.c2 HX.out; replace e3 := NB.c3 HX.out; replace e4 := NB.c4 HX.out; replace e5 := NB.c5 HX.out; replace e6 := NB.c6 HX.out; replace e7 := NB.c7 HX.out; replace e8 := NB.c8 HX.out; replace e9 := NB.c9 HX.out; replace e10 := NB.c10 HX.out; replace e11 := NB.c11 HX.out; replace e12 := NB.c12 HX.out; replace e13 := NB.c13 HX.out; replace e14 := NB.c14 HX.out; replace e15 := NB.c15 HX.out; replace e16 := NB.c16 HX.out; replace e17 := NB.c17 HX.out; replace e18 := NB.c18 HX.out; replace e19 := NB.c19 HX.out; replace e20 := NB.c20 HX.out; replace e21 := NB.c21 HX.out; replace e22 := NB.c22 HX.out; replace z0 := NB.c0 HZ.out; replace z1 := NB.c1 HZ.out; replace z2 := NB.c2 HZ.out; replace z3 := NB.c3 HZ.out; replace z4 := NB.c4 HZ.out; replace z5 := NB.c5 HZ.out; replace z6 := NB.c6 HZ.out; replace z7 := NB.c7 HZ.out; replace z8 := NB.c8 HZ.out; replace z9 := NB.c9 HZ.out; replace z10 := NB.c10 HZ.out; replace z11 := NB.c11 HZ.out; replace z12 := NB.c12 HZ.out; replace z13 := NB.c13 HZ.out; replace z14 := NB.c14 HZ.out; replace z15 := NB.c15 HZ.out; replace z16 := NB.c16 HZ.out; replace z17 := NB.c17 HZ.out; replace z18 := NB.c18 HZ.out; replace z19 := NB.c19 HZ.out; replace z20 := NB.c20 HZ.out; replace z21 := NB.c21 HZ.out; replace z22 := NB.c22 HZ.out))
      all_goals go_ret
      all_goals (refine ⟨ret_boolW ?_, HB.out⟩; rw [HEnd.out]; first | rfl | (simp; done) | (simp [*]; done) | (simp_all; done))
end Go.Proofs.Ytcgkkeooigjbbaa
/- slices.EqualFunc of two rows of nodes; SameTree of both sides. -/
namespace Go.Proofs.Ytcgkkeooigjbbaa
open Go.RowKit Go.PlainAid Go.Deep
set_option linter.unusedVariables false
set_option maxRecDepth 20000 in
set_option maxHeartbeats 8000000 in
theorem eqF_some (b off b2 off2 len cap cap2 : Nat) (l m : List Nd) (Y Y2 : Nat → Na) (hl : len ≤ 12) (h1 : l.length = len) (h2 : m.length = len) (hf : ∀ i, i < len → NdFit 1048576 (ndAt l i)) (hf2 : ∀ i, i < len → NdFit 1048576 (ndAt m i)) (w : World) (hb : b < w.heap.size) (hb2 : b2 < w.heap.size)
    (hc : Hid (∀ i, i < len → N24 w b (off + i * 24) (ndAt l i) (Y i) ∧ NdIn w (ndAt l i) (Y i))) (hc2 : Hid (∀ i, i < len → N24 w b2 (off2 + i * 24) (ndAt m i) (Y2 i) ∧ NdIn w (ndAt m i) (Y2 i))) :
    Calls Try.prog 51 #[.slice (some ⟨b, off, none⟩) len cap, .slice (some ⟨b2, off2, none⟩) len cap2, .func (.func 52) #[] #[]] w fun e w' => e = .returned (.bool (ndsE l m)) ∧ Below w.heap.size w w' := by
  have HE : Hid (ndsE l m = ndsT l m len) := (by show _ = _; simp [ndsE, h1, h2])
  have HF : Hid (∀ i, i < len → NdFit 1048576 (ndAt l i)) := hf
  have HF2 : Hid (∀ i, i < len → NdFit 1048576 (ndAt m i)) := hf2
  clear hf hf2 h1 h2
  go_enter Try.func51, Try.ntmps51
  go_wp2
  go_loopw [17] (fun i wr => ∃ (k : Nat), k ≤ len ∧ i = .int .i64 k ∧ Hid (ndsT l m k = true) ∧ Hid (Below w.heap.size w wr)) (fun i _ => len - (intOf i).toNat)
  case atStart => exact ⟨0, Nat.zero_le _, rfl, rfl, Below.refl _ _⟩
  case round =>
    obtain ⟨k, hk, rfl, hT, hB⟩ := hrel
    by_cases hlt : k < len
    · have hlt' : (k : Int) < (len : Int) := by omega
      have h0' : (0 : Int) ≤ (k : Int) := by omega
      have HY : Hid ((ndAt l k).sm (ndAt m k) = true → ndsT l m (k + 1) = true) := (fun e => by simp only [ndsT, hT.out, e, Bool.and_self])
      have HNo : Hid ((ndAt l k).sm (ndAt m k) = false → ndsE l m = false) := (fun e => by rw [HE.out]; exact ndsT_false hlt e)
      have HC : Hid (∀ w', Below wr.heap.size wr w' → Calls Try.prog 52 #[.agg (ndV (ndAt l k) (Y k)).toArray, .agg (ndV (ndAt m k) (Y2 k)).toArray] w' fun e w'' => e = .returned (.bool ((ndAt l k).sm (ndAt m k))) ∧ Below w'.heap.size w' w'') := (fun w' hw => iSameNd_any _ _ _ _ (HF.out k hlt) (HF2.out k hlt) w' (((hc.out k hlt).2.below hB.out).below hw) (((hc2.out k hlt).2.below hB.out).below hw))
      have HN1 : Hid (N24 wr b (off + k * 24) (ndAt l k) (Y k)) := range_below (hc.out k hlt).1 hb hB.out
      have HN2 : Hid (N24 wr b2 (off2 + k * 24) (ndAt m k) (Y2 k)) := range_below (hc2.out k hlt).1 hb2 hB.out
      have hbw : Hid (b2 < wr.heap.size) := Nat.lt_of_lt_of_le hb2 hB.out.size
      clear hc hc2 HF HF2 hT
      generalize ndAt l k = x at HY HNo HC HN1
      generalize ndAt m k = z at HY HNo HC HN2
      generalize Y k = y at HC HN1
      generalize Y2 k = y2 at HC HN2
      generalize x.sm z = bz at HY HNo HC
      have hbA : Below wr.heap.size wr ((wr.alloc (.cells #[.int .i64 0, .int .i64 0, .int .i64 0, .int .i64 0, .int .i64 0, .int .i64 0, .int .i64 0, .slice none 0 0, .slice none 0 0, .bool false, .int .i64 0, .bool false, .int .i64 0, .int .i64 0, .int .i64 0, .slice none 0 0, .slice none 0 0, .bool false, .int .i64 0, .int .i64 0, .int .i64 0, .string ⟨#[]⟩, .slice none 0 0, .int .i64 0] 51)).setCells wr.heap.size 0 (ndV x y)) := bl_setsT (Nat.le_refl _) _ _ (bel_alloc _ _)
      have HA1 : Hid (Below wr.heap.size wr ((wr.alloc (.cells #[.int .i64 0, .int .i64 0, .int .i64 0, .int .i64 0, .int .i64 0, .int .i64 0, .int .i64 0, .slice none 0 0, .slice none 0 0, .bool false, .int .i64 0, .bool false, .int .i64 0, .int .i64 0, .int .i64 0, .slice none 0 0, .slice none 0 0, .bool false, .int .i64 0, .int .i64 0, .int .i64 0, .string ⟨#[]⟩, .slice none 0 0, .int .i64 0] 51)).setCells wr.heap.size 0 (ndV x y))) := hbA
      have HZ1 : Hid (BoxR ((wr.alloc (.cells #[.int .i64 0, .int .i64 0, .int .i64 0, .int .i64 0, .int .i64 0, .int .i64 0, .int .i64 0, .slice none 0 0, .slice none 0 0, .bool false, .int .i64 0, .bool false, .int .i64 0, .int .i64 0, .int .i64 0, .slice none 0 0, .slice none 0 0, .bool false, .int .i64 0, .int .i64 0, .int .i64 0, .string ⟨#[]⟩, .slice none 0 0, .int .i64 0] 51)).setCells wr.heap.size 0 (ndV x y)) wr.heap.size (ndV x y)) := ⟨by rw [size_setCellsT]; simp, World.rangeAt_setCells_same _ _ _ _ ((boxW_new wr [.int .i64 0, .int .i64 0, .int .i64 0, .int .i64 0, .int .i64 0, .int .i64 0, .int .i64 0, .slice none 0 0, .slice none 0 0, .bool false, .int .i64 0, .bool false, .int .i64 0, .int .i64 0, .int .i64 0, .slice none 0 0, .slice none 0 0, .bool false, .int .i64 0, .int .i64 0, .int .i64 0, .string ⟨#[]⟩, .slice none 0 0, .int .i64 0] 51).there 0 24 (by simp))⟩
      have HN2b : Hid (N24 ((wr.alloc (.cells #[.int .i64 0, .int .i64 0, .int .i64 0, .int .i64 0, .int .i64 0, .int .i64 0, .int .i64 0, .slice none 0 0, .slice none 0 0, .bool false, .int .i64 0, .bool false, .int .i64 0, .int .i64 0, .int .i64 0, .slice none 0 0, .slice none 0 0, .bool false, .int .i64 0, .int .i64 0, .int .i64 0, .string ⟨#[]⟩, .slice none 0 0, .int .i64 0] 51)).setCells wr.heap.size 0 (ndV x y)) b2 (off2 + k * 24) z y2) := range_below HN2.out hbw.out hbA
      clear hbA
      go_upto_region 6 with (first | (refine wpList_load_mid (by rfl) 51 _ (by rfl) _ _ (by rfl) _ _ HN1.out Try.underlying51 rfl (by kernel_rfl) ?_) | (refine wpList_store_list (by rfl) 51 _ _ (by rfl) _ _ (ndV x y) (by rfl) (by rfl) ((boxW_new wr [.int .i64 0, .int .i64 0, .int .i64 0, .int .i64 0, .int .i64 0, .int .i64 0, .int .i64 0, .slice none 0 0, .slice none 0 0, .bool false, .int .i64 0, .bool false, .int .i64 0, .int .i64 0, .int .i64 0, .slice none 0 0, .slice none 0 0, .bool false, .int .i64 0, .int .i64 0, .int .i64 0, .string ⟨#[]⟩, .slice none 0 0, .int .i64 0] 51).there 0 24 (by simp)) (by kernel_rfl) (ndV_ones _ _) ?_))
      generalize ((wr.alloc (.cells #[.int .i64 0, .int .i64 0, .int .i64 0, .int .i64 0, .int .i64 0, .int .i64 0, .int .i64 0, .slice none 0 0, .slice none 0 0, .bool false, .int .i64 0, .bool false, .int .i64 0, .int .i64 0, .int .i64 0, .slice none 0 0, .slice none 0 0, .bool false, .int .i64 0, .int .i64 0, .int .i64 0, .string ⟨#[]⟩, .slice none 0 0, .int .i64 0] 51)).setCells wr.heap.size 0 (ndV x y)) = w1 at HA1 HZ1 HN2b ⊢
      generalize wr.heap.size = Z1 at HZ1 ⊢
      have hbA2 : Below w1.heap.size w1 ((w1.alloc (.cells #[.int .i64 0, .int .i64 0, .int .i64 0, .int .i64 0, .int .i64 0, .int .i64 0, .int .i64 0, .slice none 0 0, .slice none 0 0, .bool false, .int .i64 0, .bool false, .int .i64 0, .int .i64 0, .int .i64 0, .slice none 0 0, .slice none 0 0, .bool false, .int .i64 0, .int .i64 0, .int .i64 0, .string ⟨#[]⟩, .slice none 0 0, .int .i64 0] 51)).setCells w1.heap.size 0 (ndV z y2)) := bl_setsT (Nat.le_refl _) _ _ (bel_alloc _ _)
      have HA2 : Hid (Below w.heap.size w ((w1.alloc (.cells #[.int .i64 0, .int .i64 0, .int .i64 0, .int .i64 0, .int .i64 0, .int .i64 0, .int .i64 0, .slice none 0 0, .slice none 0 0, .bool false, .int .i64 0, .bool false, .int .i64 0, .int .i64 0, .int .i64 0, .slice none 0 0, .slice none 0 0, .bool false, .int .i64 0, .int .i64 0, .int .i64 0, .string ⟨#[]⟩, .slice none 0 0, .int .i64 0] 51)).setCells w1.heap.size 0 (ndV z y2))) := Below.on (Below.on hB.out HA1.out) hbA2
      have HA3 : Hid (Below wr.heap.size wr ((w1.alloc (.cells #[.int .i64 0, .int .i64 0, .int .i64 0, .int .i64 0, .int .i64 0, .int .i64 0, .int .i64 0, .slice none 0 0, .slice none 0 0, .bool false, .int .i64 0, .bool false, .int .i64 0, .int .i64 0, .int .i64 0, .slice none 0 0, .slice none 0 0, .bool false, .int .i64 0, .int .i64 0, .int .i64 0, .string ⟨#[]⟩, .slice none 0 0, .int .i64 0] 51)).setCells w1.heap.size 0 (ndV z y2))) := Below.on HA1.out hbA2
      have HZ2 : Hid (BoxR ((w1.alloc (.cells #[.int .i64 0, .int .i64 0, .int .i64 0, .int .i64 0, .int .i64 0, .int .i64 0, .int .i64 0, .slice none 0 0, .slice none 0 0, .bool false, .int .i64 0, .bool false, .int .i64 0, .int .i64 0, .int .i64 0, .slice none 0 0, .slice none 0 0, .bool false, .int .i64 0, .int .i64 0, .int .i64 0, .string ⟨#[]⟩, .slice none 0 0, .int .i64 0] 51)).setCells w1.heap.size 0 (ndV z y2)) w1.heap.size (ndV z y2)) := ⟨by rw [size_setCellsT]; simp, World.rangeAt_setCells_same _ _ _ _ ((boxW_new w1 [.int .i64 0, .int .i64 0, .int .i64 0, .int .i64 0, .int .i64 0, .int .i64 0, .int .i64 0, .slice none 0 0, .slice none 0 0, .bool false, .int .i64 0, .bool false, .int .i64 0, .int .i64 0, .int .i64 0, .slice none 0 0, .slice none 0 0, .bool false, .int .i64 0, .int .i64 0, .int .i64 0, .string ⟨#[]⟩, .slice none 0 0, .int .i64 0] 51).there 0 24 (by simp))⟩
      have HZ1b : Hid (BoxR ((w1.alloc (.cells #[.int .i64 0, .int .i64 0, .int .i64 0, .int .i64 0, .int .i64 0, .int .i64 0, .int .i64 0, .slice none 0 0, .slice none 0 0, .bool false, .int .i64 0, .bool false, .int .i64 0, .int .i64 0, .int .i64 0, .slice none 0 0, .slice none 0 0, .bool false, .int .i64 0, .int .i64 0, .int .i64 0, .string ⟨#[]⟩, .slice none 0 0, .int .i64 0] 51)).setCells w1.heap.size 0 (ndV z y2)) Z1 (ndV x y)) := HZ1.out.below hbA2
      clear hbA2
      go_upto_region 7 with (first | (refine wpList_load_mid (by rfl) 51 _ (by rfl) _ _ (by rfl) _ _ HN2b.out Try.underlying51 rfl (by kernel_rfl) ?_) | (refine wpList_store_list (by rfl) 51 _ _ (by rfl) _ _ (ndV z y2) (by rfl) (by rfl) ((boxW_new w1 [.int .i64 0, .int .i64 0, .int .i64 0, .int .i64 0, .int .i64 0, .int .i64 0, .int .i64 0, .slice none 0 0, .slice none 0 0, .bool false, .int .i64 0, .bool false, .int .i64 0, .int .i64 0, .int .i64 0, .slice none 0 0, .slice none 0 0, .bool false, .int .i64 0, .int .i64 0, .int .i64 0, .string ⟨#[]⟩, .slice none 0 0, .int .i64 0] 51).there 0 24 (by simp)) (by kernel_rfl) (ndV_ones _ _) ?_))
      generalize ((w1.alloc (.cells #[.int .i64 0, .int .i64 0, .int .i64 0, .int .i64 0, .int .i64 0, .int .i64 0, .int .i64 0, .slice none 0 0, .slice none 0 0, .bool false, .int .i64 0, .bool false, .int .i64 0, .int .i64 0, .int .i64 0, .slice none 0 0, .slice none 0 0, .bool false, .int .i64 0, .int .i64 0, .int .i64 0, .string ⟨#[]⟩, .slice none 0 0, .int .i64 0] 51)).setCells w1.heap.size 0 (ndV z y2)) = w2 at HA2 HA3 HZ2 HZ1b ⊢
      generalize w1.heap.size = Z2 at HZ2 ⊢
      have HL1 : Hid (N24 w2 Z1 0 x y) := HZ1b.out.at0
      have HL2 : Hid (N24 w2 Z2 0 z y2) := HZ2.out.at0
      clear HZ1 HZ2 HZ1b HN1 HN2 HN2b HA1
      cases bz
      · have hno : Hid (ndsE l m = false) := HNo.out rfl
        go_wp2_with (first | (refine wpList_load_mid (by rfl) 51 _ (by rfl) _ _ (by rfl) _ _ HL1.out Try.underlying51 rfl (by kernel_rfl) ?_) | (refine wpList_load_mid (by rfl) 51 _ (by rfl) _ _ (by rfl) _ _ HL2.out Try.underlying51 rfl (by kernel_rfl) ?_) | (go_at_call 52; refine (HC.out _ HA3.out).mono ?_; rintro e w3 ⟨rfl, hb3⟩; replace HA2 : Hid (Below w.heap.size w w3) := Below.on HA2.out hb3; clear hb3))
        go_ret
        exact ⟨ret_boolW hno.out.symm, HA2.out⟩
      · have hyes : Hid (ndsT l m (k + 1) = true) := HY.out rfl
        go_wp2_with (first | (refine wpList_load_mid (by rfl) 51 _ (by rfl) _ _ (by rfl) _ _ HL1.out Try.underlying51 rfl (by kernel_rfl) ?_) | (refine wpList_load_mid (by rfl) 51 _ (by rfl) _ _ (by rfl) _ _ HL2.out Try.underlying51 rfl (by kernel_rfl) ?_) | (go_at_call 52; refine (HC.out _ HA3.out).mono ?_; rintro e w3 ⟨rfl, hb3⟩; replace HA2 : Hid (Below w.heap.size w w3) := Below.on HA2.out hb3; clear hb3))
        go_roundw
        case rel => exact ⟨k + 1, by omega, by go_num, hyes, HA2⟩
        case measure => simp [intOf]; omega
    · have : k = len := by omega
      subst this
      have hyes : Hid (ndsE l m = true) := (by show _ = _; rw [HE.out]; exact hT.out)
      go_wp2
      go_ret
      exact ⟨ret_boolW hyes.out.symm, hB.out⟩
end Go.Proofs.Ytcgkkeooigjbbaa
