/- Laid together: LetS. -/
import Derived.Test.YtcniahgcgfmhpaaGreatND39
/- spec.l08May. -/
namespace Go.Proofs.YtcniahgcgfmhpaaGreat
open Go.RowKit Go.PlainAid Go.Deep
set_option linter.unusedVariables false
set_option maxRecDepth 20000 in
set_option maxHeartbeats 8000000 in
theorem sLet_any (x : Nd) (y : Na) (u g : Int) (ca : Option Addr) (cl cc : Nat) (r : Bool) (cf : Nat → Int) (want : Int) (ha : Ask x u g cl cf want) (w : World) (hi : NdIn w x y) (hci : Ints ca cl cf w) :
    Calls Tryz.prog 25 #[.agg (ndV x y).toArray, .agg #[.int .i64 u, .int .i64 g, .slice ca cl cc, .bool r], .int .i64 want] w fun e w' => e = .returned (.bool (letB x u g cl r cf want)) ∧ Below w.heap.size w w' := by
  have hs := ha.sound
  cases r
  · have HE : Hid (letB x u g cl false cf want = mayB x.A.u x.A.g x.A.o x.A.us x.A.gs x.A.r x.A.m x.ow x.gr u g cl cf want) := rfl
    have HM : Hid (∀ w', Below w.heap.size w w' → Calls Tryz.prog 52 #[.agg #[.int .i64 x.A.u, .int .i64 x.A.g, .int .i64 x.A.o, .slice y.aU x.A.us.length y.cU, .slice y.aG x.A.gs.length y.cG, .bool x.A.r, .int .i64 x.A.m], .int .i64 x.ow, .int .i64 x.gr, .agg #[.int .i64 u, .int .i64 g, .slice ca cl cc, .bool false], .int .i64 want] w' fun e w'' => e = .returned (.bool (mayB x.A.u x.A.g x.A.o x.A.us x.A.gs x.A.r x.A.m x.ow x.gr u g cl cf want)) ∧ Below w'.heap.size w' w'') := (fun w' hb => sMay_any x.A.u x.A.g x.A.o _ _ _ _ _ _ x.A.r x.A.m x.A.us x.A.gs x.ow x.gr u g _ _ _ _ cf want ha.fine w' (hi.aU.below hb) (hi.aG.below hb) (hci.below hb))
    clear hi hci ha hs
    generalize mayB x.A.u x.A.g x.A.o x.A.us x.A.gs x.A.r x.A.m x.ow x.gr u g cl cf want = mb at HE HM
    have HX : Hid (BoxR ((w.alloc (.cells (ndV x y).toArray 45)).alloc (.cells #[.int .i64 u, .int .i64 g, .slice ca cl cc, .bool false] 35)) w.heap.size (ndV x y)) := (boxR_new w (ndV x y) 45).below (bel_alloc _ _)
    have HC : Hid (BoxR ((w.alloc (.cells (ndV x y).toArray 45)).alloc (.cells #[.int .i64 u, .int .i64 g, .slice ca cl cc, .bool false] 35)) (w.heap.size + 1) [.int .i64 u, .int .i64 g, .slice ca cl cc, .bool false]) := (by
      have h := boxR_new (w.alloc (.cells (ndV x y).toArray 45)) [.int .i64 u, .int .i64 g, .slice ca cl cc, .bool false] 35
      simp only [World.size_alloc] at h
      exact h)
    have HB : Hid (Below w.heap.size w ((w.alloc (.cells (ndV x y).toArray 45)).alloc (.cells #[.int .i64 u, .int .i64 g, .slice ca cl cc, .bool false] 35))) := bl2T _ _ _
    go_enter Tryz.func25, Tryz.ntmps25
    go_upto_region 1 with fail
    generalize ((w.alloc (.cells (ndV x y).toArray 45)).alloc (.cells #[.int .i64 u, .int .i64 g, .slice ca cl cc, .bool false] 35)) = w0 at HX HC HB ⊢
    obtain ⟨X, hX⟩ : ∃ X, X = w.heap.size := ⟨_, rfl⟩
    rw [← hX] at HX HC ⊢
    clear hX
    have e0 := NB.c0 HX.out
    have e1 := NB.c1 HX.out
    have e2 := NB.c2 HX.out
    have e3 := NB.c3 HX.out
    have e4 := NB.c4 HX.out
    have e5 := NB.c5 HX.out
    have e6 := NB.c6 HX.out
    have e7 := NB.c7 HX.out
    have e8 := NB.c8 HX.out
    have e9 := NB.c9 HX.out
    have e10 := NB.c10 HX.out
    have y0 : w0.cell? ⟨X + 1, 0, none⟩ = some (.int .i64 u) := HC.out.at0 0 _ rfl
    have y1 : w0.cell? ⟨X + 1, 1, none⟩ = some (.int .i64 g) := HC.out.at0 1 _ rfl
    have y2 : w0.cell? ⟨X + 1, 2, none⟩ = some (.slice ca cl cc) := HC.out.at0 2 _ rfl
    have y3 : w0.cell? ⟨X + 1, 3, none⟩ = some (.bool false) := HC.out.at0 3 _ rfl
    go_wp2_with (go_at_call 52; refine (HM.out _ HB.out).mono ?_; rintro e w1 ⟨rfl, hb⟩; replace HB : Hid (Below w.heap.size w w1) := Below.on HB.out hb; clear hb)
    go_ret
    exact ⟨ret_boolW HE.out.symm, HB.out⟩
  have HE0 : Hid (letB x u g cl true cf want = rootB x want) := rfl
  have HG : Hid (∀ w, Calls Tryz.prog 51 #[.agg #[.int .i64 x.A.u, .int .i64 x.A.g, .int .i64 x.A.o, .slice y.aU x.A.us.length y.cU, .slice y.aG x.A.gs.length y.cG, .bool x.A.r, .int .i64 x.A.m]] w fun e w' => e = .returned (.int .i64 (clsOf x.A.g x.A.r x.A.m)) ∧ Below w.heap.size w w') := sClass_any x.A.u x.A.g x.A.o _ _ _ _ _ _ x.A.r x.A.m
  have p1 := par2 hs.v0
  have p2 := par2 hs.u0
  have p3 := par2 hs.k0
  have p4 := par2 hs.o0
  obtain ⟨kk, hkk⟩ : ∃ kk, kk = clsOf x.A.g x.A.r x.A.m := ⟨_, rfl⟩
  have hk0 := hs.k0
  have hk1 := hs.k1
  have hv0 := hs.v0
  have hv1 := hs.v1
  have hu0 := hs.u0
  have hu1 := hs.u1
  have ho0 := hs.o0
  have ho1 := hs.o1
  have HR : Hid (rootB x want = (x.k == 1 || (want % 2 == 0 || (x.A.u % 2 == 1 || (kk % 2 == 1 || x.A.o % 2 == 1))))) := (by show _ = _; rw [hkk]; rfl)
  rw [← hkk] at p3 HG hk0 hk1
  clear hi hci ha hs hkk
  cases q0 : (x.k == 1)
  case true =>
    have HE : Hid (letB x u g cl true cf want = true) := (by show _ = _; rw [HE0.out, HR.out, q0]; rfl)
    clear p1 p2 p3 p4 HR HE0
    have HX : Hid (BoxR ((w.alloc (.cells (ndV x y).toArray 45)).alloc (.cells #[.int .i64 u, .int .i64 g, .slice ca cl cc, .bool true] 35)) w.heap.size (ndV x y)) := (boxR_new w (ndV x y) 45).below (bel_alloc _ _)
    have HC : Hid (BoxR ((w.alloc (.cells (ndV x y).toArray 45)).alloc (.cells #[.int .i64 u, .int .i64 g, .slice ca cl cc, .bool true] 35)) (w.heap.size + 1) [.int .i64 u, .int .i64 g, .slice ca cl cc, .bool true]) := (by
      have h := boxR_new (w.alloc (.cells (ndV x y).toArray 45)) [.int .i64 u, .int .i64 g, .slice ca cl cc, .bool true] 35
      simp only [World.size_alloc] at h
      exact h)
    have HB : Hid (Below w.heap.size w ((w.alloc (.cells (ndV x y).toArray 45)).alloc (.cells #[.int .i64 u, .int .i64 g, .slice ca cl cc, .bool true] 35))) := bl2T _ _ _
    go_enter Tryz.func25, Tryz.ntmps25
    go_upto_region 1 with fail
    generalize ((w.alloc (.cells (ndV x y).toArray 45)).alloc (.cells #[.int .i64 u, .int .i64 g, .slice ca cl cc, .bool true] 35)) = w0 at HX HC HB ⊢
    obtain ⟨X, hX⟩ : ∃ X, X = w.heap.size := ⟨_, rfl⟩
    rw [← hX] at HX HC ⊢
    clear hX
    have e0 := NB.c0 HX.out
    have e1 := NB.c1 HX.out
    have e2 := NB.c2 HX.out
    have e3 := NB.c3 HX.out
    have e4 := NB.c4 HX.out
    have e5 := NB.c5 HX.out
    have e6 := NB.c6 HX.out
    have e7 := NB.c7 HX.out
    have e8 := NB.c8 HX.out
    have e9 := NB.c9 HX.out
    have e10 := NB.c10 HX.out
    have y0 : w0.cell? ⟨X + 1, 0, none⟩ = some (.int .i64 u) := HC.out.at0 0 _ rfl
    have y1 : w0.cell? ⟨X + 1, 1, none⟩ = some (.int .i64 g) := HC.out.at0 1 _ rfl
    have y2 : w0.cell? ⟨X + 1, 2, none⟩ = some (.slice ca cl cc) := HC.out.at0 2 _ rfl
    have y3 : w0.cell? ⟨X + 1, 3, none⟩ = some (.bool true) := HC.out.at0 3 _ rfl
    go_wp2
    go_ret
    exact ⟨ret_boolW HE.out.symm, HB.out⟩
  rcases p1 with ⟨q1, r1⟩ | ⟨q1, r1⟩
  · have HE : Hid (letB x u g cl true cf want = true) := (by show _ = _; rw [HE0.out, HR.out, q0, r1]; rfl)
    clear p2 p3 p4 HR HE0 r1
    have HX : Hid (BoxR ((w.alloc (.cells (ndV x y).toArray 45)).alloc (.cells #[.int .i64 u, .int .i64 g, .slice ca cl cc, .bool true] 35)) w.heap.size (ndV x y)) := (boxR_new w (ndV x y) 45).below (bel_alloc _ _)
    have HC : Hid (BoxR ((w.alloc (.cells (ndV x y).toArray 45)).alloc (.cells #[.int .i64 u, .int .i64 g, .slice ca cl cc, .bool true] 35)) (w.heap.size + 1) [.int .i64 u, .int .i64 g, .slice ca cl cc, .bool true]) := (by
      have h := boxR_new (w.alloc (.cells (ndV x y).toArray 45)) [.int .i64 u, .int .i64 g, .slice ca cl cc, .bool true] 35
      simp only [World.size_alloc] at h
      exact h)
    have HB : Hid (Below w.heap.size w ((w.alloc (.cells (ndV x y).toArray 45)).alloc (.cells #[.int .i64 u, .int .i64 g, .slice ca cl cc, .bool true] 35))) := bl2T _ _ _
    go_enter Tryz.func25, Tryz.ntmps25
    go_upto_region 1 with fail
    generalize ((w.alloc (.cells (ndV x y).toArray 45)).alloc (.cells #[.int .i64 u, .int .i64 g, .slice ca cl cc, .bool true] 35)) = w0 at HX HC HB ⊢
    obtain ⟨X, hX⟩ : ∃ X, X = w.heap.size := ⟨_, rfl⟩
    rw [← hX] at HX HC ⊢
    clear hX
    have e0 := NB.c0 HX.out
    have e1 := NB.c1 HX.out
    have e2 := NB.c2 HX.out
    have e3 := NB.c3 HX.out
    have e4 := NB.c4 HX.out
    have e5 := NB.c5 HX.out
    have e6 := NB.c6 HX.out
    have e7 := NB.c7 HX.out
    have e8 := NB.c8 HX.out
    have e9 := NB.c9 HX.out
    have e10 := NB.c10 HX.out
    have y0 : w0.cell? ⟨X + 1, 0, none⟩ = some (.int .i64 u) := HC.out.at0 0 _ rfl
    have y1 : w0.cell? ⟨X + 1, 1, none⟩ = some (.int .i64 g) := HC.out.at0 1 _ rfl
    have y2 : w0.cell? ⟨X + 1, 2, none⟩ = some (.slice ca cl cc) := HC.out.at0 2 _ rfl
    have y3 : w0.cell? ⟨X + 1, 3, none⟩ = some (.bool true) := HC.out.at0 3 _ rfl
    go_wp2
    go_ret
    exact ⟨ret_boolW HE.out.symm, HB.out⟩
  rcases p2 with ⟨q2, r2⟩ | ⟨q2, r2⟩
  case inr =>
    have HE : Hid (letB x u g cl true cf want = true) := (by show _ = _; rw [HE0.out, HR.out, q0, r1, r2]; rfl)
    clear p3 p4 HR HE0 r1 r2
    have HX : Hid (BoxR ((w.alloc (.cells (ndV x y).toArray 45)).alloc (.cells #[.int .i64 u, .int .i64 g, .slice ca cl cc, .bool true] 35)) w.heap.size (ndV x y)) := (boxR_new w (ndV x y) 45).below (bel_alloc _ _)
    have HC : Hid (BoxR ((w.alloc (.cells (ndV x y).toArray 45)).alloc (.cells #[.int .i64 u, .int .i64 g, .slice ca cl cc, .bool true] 35)) (w.heap.size + 1) [.int .i64 u, .int .i64 g, .slice ca cl cc, .bool true]) := (by
      have h := boxR_new (w.alloc (.cells (ndV x y).toArray 45)) [.int .i64 u, .int .i64 g, .slice ca cl cc, .bool true] 35
      simp only [World.size_alloc] at h
      exact h)
    have HB : Hid (Below w.heap.size w ((w.alloc (.cells (ndV x y).toArray 45)).alloc (.cells #[.int .i64 u, .int .i64 g, .slice ca cl cc, .bool true] 35))) := bl2T _ _ _
    go_enter Tryz.func25, Tryz.ntmps25
    go_upto_region 1 with fail
    generalize ((w.alloc (.cells (ndV x y).toArray 45)).alloc (.cells #[.int .i64 u, .int .i64 g, .slice ca cl cc, .bool true] 35)) = w0 at HX HC HB ⊢
    obtain ⟨X, hX⟩ : ∃ X, X = w.heap.size := ⟨_, rfl⟩
    rw [← hX] at HX HC ⊢
    clear hX
    have e0 := NB.c0 HX.out
    have e1 := NB.c1 HX.out
    have e2 := NB.c2 HX.out
    have e3 := NB.c3 HX.out
    have e4 := NB.c4 HX.out
    have e5 := NB.c5 HX.out
    have e6 := NB.c6 HX.out
    have e7 := NB.c7 HX.out
    have e8 := NB.c8 HX.out
    have e9 := NB.c9 HX.out
    have e10 := NB.c10 HX.out
    have y0 : w0.cell? ⟨X + 1, 0, none⟩ = some (.int .i64 u) := HC.out.at0 0 _ rfl
    have y1 : w0.cell? ⟨X + 1, 1, none⟩ = some (.int .i64 g) := HC.out.at0 1 _ rfl
    have y2 : w0.cell? ⟨X + 1, 2, none⟩ = some (.slice ca cl cc) := HC.out.at0 2 _ rfl
    have y3 : w0.cell? ⟨X + 1, 3, none⟩ = some (.bool true) := HC.out.at0 3 _ rfl
    go_wp2
    go_ret
    exact ⟨ret_boolW HE.out.symm, HB.out⟩
  have HE : Hid (letB x u g cl true cf want = (kk % 2 == 1 || x.A.o % 2 == 1)) := (by show _ = _; rw [HE0.out, HR.out, q0, r1, r2]; rfl)
  clear HR HE0 r1 r2
  have HX : Hid (BoxR ((w.alloc (.cells (ndV x y).toArray 45)).alloc (.cells #[.int .i64 u, .int .i64 g, .slice ca cl cc, .bool true] 35)) w.heap.size (ndV x y)) := (boxR_new w (ndV x y) 45).below (bel_alloc _ _)
  have HC : Hid (BoxR ((w.alloc (.cells (ndV x y).toArray 45)).alloc (.cells #[.int .i64 u, .int .i64 g, .slice ca cl cc, .bool true] 35)) (w.heap.size + 1) [.int .i64 u, .int .i64 g, .slice ca cl cc, .bool true]) := (by
    have h := boxR_new (w.alloc (.cells (ndV x y).toArray 45)) [.int .i64 u, .int .i64 g, .slice ca cl cc, .bool true] 35
    simp only [World.size_alloc] at h
    exact h)
  have HB : Hid (Below w.heap.size w ((w.alloc (.cells (ndV x y).toArray 45)).alloc (.cells #[.int .i64 u, .int .i64 g, .slice ca cl cc, .bool true] 35))) := bl2T _ _ _
  go_enter Tryz.func25, Tryz.ntmps25
  go_upto_region 1 with fail
  generalize ((w.alloc (.cells (ndV x y).toArray 45)).alloc (.cells #[.int .i64 u, .int .i64 g, .slice ca cl cc, .bool true] 35)) = w0 at HX HC HB ⊢
  obtain ⟨X, hX⟩ : ∃ X, X = w.heap.size := ⟨_, rfl⟩
  rw [← hX] at HX HC ⊢
  clear hX
  have e0 := NB.c0 HX.out
  have e1 := NB.c1 HX.out
  have e2 := NB.c2 HX.out
  have e3 := NB.c3 HX.out
  have e4 := NB.c4 HX.out
  have e5 := NB.c5 HX.out
  have e6 := NB.c6 HX.out
  have e7 := NB.c7 HX.out
  have e8 := NB.c8 HX.out
  have e9 := NB.c9 HX.out
  have e10 := NB.c10 HX.out
  have y0 : w0.cell? ⟨X + 1, 0, none⟩ = some (.int .i64 u) := HC.out.at0 0 _ rfl
  have y1 : w0.cell? ⟨X + 1, 1, none⟩ = some (.int .i64 g) := HC.out.at0 1 _ rfl
  have y2 : w0.cell? ⟨X + 1, 2, none⟩ = some (.slice ca cl cc) := HC.out.at0 2 _ rfl
  have y3 : w0.cell? ⟨X + 1, 3, none⟩ = some (.bool true) := HC.out.at0 3 _ rfl
  rcases p3 with ⟨q3, r3⟩ | ⟨q3, r3⟩ <;> rcases p4 with ⟨q4, r4⟩ | ⟨q4, r4⟩
  all_goals rw [r3, r4] at HE
  all_goals clear r3 r4
  all_goals go_wp2_with (go_at_call 51; refine (HG.out _).mono ?_; rintro e w1 ⟨rfl, hb⟩; replace HB : Hid (Below w.heap.size w w1) := Below.on HB.out hb; replace HX : Hid (BoxR w1 X (ndV x y)) := HX.out.below hb; clear hb; replace e0 := NB.c0 HX.out; replace e1 := NB.c1 HX.out; replace e2 := NB.c2 HX.out; replace e3 := NB.c3 HX.out; replace e4 := NB.c4 HX.out; replace e5 := NB.c5 HX.out; replace e6 := NB.c6 HX.out; replace e7 := NB.c7 HX.out; replace e8 := NB.c8 HX.out; replace e9 := NB.c9 HX.out; replace e10 := NB.c10 HX.out)
  all_goals go_ret
  all_goals exact ⟨ret_boolW HE.out.symm, HB.out⟩
end Go.Proofs.YtcniahgcgfmhpaaGreat
