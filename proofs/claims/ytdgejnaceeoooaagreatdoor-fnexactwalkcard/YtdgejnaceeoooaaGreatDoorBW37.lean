/- Laid together: LetM, LetI, LetS. -/
import Derived.Test.YtdgejnaceeoooaaGreatDoorBW16
import Derived.Test.YtdgejnaceeoooaaGreatDoorBW36
import Derived.Test.YtdgejnaceeoooaaGreatDoorBW30
/- Who a node lets do what. -/
namespace Go.Proofs.YtdgejnaceeoooaaGreatDoor
open Go.RowKit Go.PlainAid Go.Deep
set_option linter.unusedVariables false
def rootB (x : Nd) (want : Int) : Bool := x.k == 1 || (want % 2 == 0 || (x.A.u % 2 == 1 || (clsOf x.A.g x.A.r x.A.m % 2 == 1 || x.A.o % 2 == 1)))
def letB (x : Nd) (u g : Int) (cl : Nat) (r : Bool) (cf : Nat → Int) (want : Int) : Bool := if r then rootB x want else mayB x.A.u x.A.g x.A.o x.A.us x.A.gs x.A.r x.A.m x.ow x.gr u g cl cf want
/-- What may be asked of a node. -/
structure Ask (x : Nd) (u g : Int) (cl : Nat) (cf : Nat → Int) (want : Int) : Prop where
  fine : fineB x.A.u x.A.g x.A.o x.A.us x.A.gs x.A.r x.A.m x.ow x.gr u g cl cf want = true
theorem ask_node {l : List Nd} {now : Int} {k : Nat} {u g : Int} {cl : Nat} {cf : Nat → Int} {want : Int} (h : nodeB l now k = true) (hc : credB u g cl cf = true) (hw : inR 0 7 want = true) : Ask (ndAt l k) u g cl cf want := by
  obtain ⟨_, f2, f3, f4⟩ := node_facts h
  refine ⟨?_⟩
  simp only [fineB, f2, f3, f4, hc, hw, Bool.and_self]
theorem Ask.sound {x : Nd} {u g : Int} {cl : Nat} {cf : Nat → Int} {want : Int} (h : Ask x u g cl cf want) : Sound x.A.u x.A.g x.A.o x.A.us x.A.r x.A.m want := fine_sound h.fine
theorem par2 {n : Int} (h : 0 ≤ n) : (n.tmod 2 = 0 ∧ n % 2 = 0) ∨ (n.tmod 2 = 1 ∧ n % 2 = 1) := by
  have e : n.tmod 2 = n % 2 := Int.tmod_eq_emod_of_nonneg h
  rw [e]
  omega
theorem has_one : ∀ a, a < 8 → hasB a 1 = (a % 2 == 1) := by decide +kernel
theorem has_or3 : ∀ a, a < 8 → ∀ b, b < 8 → ∀ c, c < 8 → hasB ((a ||| b) ||| c) 1 = (a % 2 == 1 || (b % 2 == 1 || c % 2 == 1)) ∧ (a ||| b) < 8 ∧ ((a ||| b) ||| c) < 8 := by decide +kernel
theorem nat_par (a : Nat) : (a % 2 == 1) = (((a : Int) % 2) == 1) := by
  have h : a % 2 = 0 ∨ a % 2 = 1 := by omega
  rcases h with h | h
  · have : (a : Int) % 2 = 0 := by omega
    rw [h, this]; rfl
  · have : (a : Int) % 2 = 1 := by omega
    rw [h, this]; rfl
theorem hasZ_one {n : Int} (h0 : 0 ≤ n) (h1 : n ≤ 7) : hasZ n 1 = (n % 2 == 1) := by
  obtain ⟨a, rfl⟩ := Int.eq_ofNat_of_zero_le h0
  rw [show (1 : Int) = ((1 : Nat) : Int) from rfl, hasZ_in (by omega) (by omega), has_one a (by omega), nat_par]
  rfl
theorem hasZ_or3 {p q s : Int} (p0 : 0 ≤ p) (p1 : p ≤ 7) (q0 : 0 ≤ q) (q1 : q ≤ 7) (s0 : 0 ≤ s) (s1 : s ≤ 7) : hasZ (bits .or .i64 (bits .or .i64 p q) s) 1 = (p % 2 == 1 || (q % 2 == 1 || s % 2 == 1)) := by
  obtain ⟨a, rfl⟩ := Int.eq_ofNat_of_zero_le p0
  obtain ⟨b, rfl⟩ := Int.eq_ofNat_of_zero_le q0
  obtain ⟨c, rfl⟩ := Int.eq_ofNat_of_zero_le s0
  obtain ⟨h1, h2, h3⟩ := has_or3 a (by omega) b (by omega) c (by omega)
  rw [i64_or_nat a b (by omega) (by omega), i64_or_nat (a ||| b) c (by omega) (by omega), show (1 : Int) = ((1 : Nat) : Int) from rfl, hasZ_in (by omega) (by omega), h1, nat_par, nat_par, nat_par]
  rfl
theorem rootB_has {x : Nd} {u g : Int} {cl : Nat} {cf : Nat → Int} {want : Int} (h : Ask x u g cl cf want) : rootB x want = (x.k == 1 || (!hasZ want 1 || hasZ (bits .or .i64 (bits .or .i64 x.A.u (clsOf x.A.g x.A.r x.A.m)) x.A.o) 1)) := by
  have s := h.sound
  rw [hasZ_or3 s.u0 s.u1 s.k0 s.k1 s.o0 s.o1, hasZ_one s.v0 s.v1, rootB]
  have hp := par2 s.v0
  rcases hp with ⟨_, hp⟩ | ⟨_, hp⟩ <;> rw [hp] <;> rfl
end Go.Proofs.YtdgejnaceeoooaaGreatDoor
/- impl's Node.rootMay and Node.lets. -/
namespace Go.Proofs.YtdgejnaceeoooaaGreatDoor
open Go.RowKit Go.PlainAid Go.Deep
set_option linter.unusedVariables false
set_option maxRecDepth 20000 in
set_option maxHeartbeats 8000000 in
theorem iRootMay_any (x : Nd) (y : Na) (want : Int) (w : World) :
    Calls Tryz.prog 138 #[.agg (ndV x y).toArray, .int .i64 want] w fun e w' => e = .returned (.bool (x.k == 1 || (!hasZ want 1 || hasZ (bits .or .i64 (bits .or .i64 x.A.u (clsOf x.A.g x.A.r x.A.m)) x.A.o) 1))) ∧ Below w.heap.size w w' := by
  have cA : ∀ w d os, Calls Tryz.prog 153 #[.agg #[.int .i64 x.A.u, .int .i64 x.A.g, .int .i64 x.A.o, .slice y.aU x.A.us.length y.cU, .slice y.aG x.A.gs.length y.cG, .bool x.A.r, .int .i64 x.A.m]] (Go.Sort.grow (redrawn w d) os) fun e w'' => e = .returned (.int .i64 (clsOf x.A.g x.A.r x.A.m)) ∧ ∃ p : Regrown, w'' = Go.Sort.grow (redrawn w p.d) p.os := fun w d os => Calls.regrown_of (groupClass_any x.A.u x.A.g x.A.o _ _ _ _ _ _ x.A.r x.A.m _)
  have HH : Hid (∀ (h v : Int) (w : World), Calls Tryz.prog 176 #[.int .i64 h, .int .i64 v] w fun e w' => e = .returned (.bool (hasZ h v)) ∧ w' = w) := iHas_any
  generalize clsOf x.A.g x.A.r x.A.m = kk at cA ⊢
  have HE : Hid ((x.k == 1 || (!hasZ want 1 || hasZ (bits .or .i64 (bits .or .i64 x.A.u kk) x.A.o) 1)) = (x.k == 1 || (!hasZ want 1 || hasZ (bits .or .i64 (bits .or .i64 x.A.u kk) x.A.o) 1))) := rfl
  generalize hbz : (x.k == 1 || (!hasZ want 1 || hasZ (bits .or .i64 (bits .or .i64 x.A.u kk) x.A.o) 1)) = bz
  have HZ : Hid (bz = (x.k == 1 || (!hasZ want 1 || hasZ (bits .or .i64 (bits .or .i64 x.A.u kk) x.A.o) 1))) := hbz.symm
  clear hbz HE
  have HB : Hid (Below w.heap.size w (w.alloc (.cells (ndV x y).toArray 84))) := bel_alloc _ _
  have HX : Hid (BoxR (w.alloc (.cells (ndV x y).toArray 84)) w.heap.size (ndV x y)) := boxR_new _ _ _
  go_enter Tryz.func138, Tryz.ntmps138
  go_upto_region 1 with fail
  generalize w.alloc (.cells (ndV x y).toArray 84) = w0 at HB HX ⊢
  obtain ⟨X, hX⟩ : ∃ X, X = w.heap.size := ⟨_, rfl⟩
  rw [← hX] at HX ⊢
  clear hX
  have z4 : ∀ d os, (Go.Sort.grow (redrawn w0 d) os).cell? ⟨X, 4, none⟩ = some (.int .i64 x.A.u) := fun d os => cell_regrown (NB.c4 HX.out) d os
  have z5 : ∀ d os, (Go.Sort.grow (redrawn w0 d) os).cell? ⟨X, 5, none⟩ = some (.int .i64 x.A.g) := fun d os => cell_regrown (NB.c5 HX.out) d os
  have z6 : ∀ d os, (Go.Sort.grow (redrawn w0 d) os).cell? ⟨X, 6, none⟩ = some (.int .i64 x.A.o) := fun d os => cell_regrown (NB.c6 HX.out) d os
  have z7 : ∀ d os, (Go.Sort.grow (redrawn w0 d) os).cell? ⟨X, 7, none⟩ = some (.slice y.aU x.A.us.length y.cU) := fun d os => cell_regrown (NB.c7 HX.out) d os
  have z8 : ∀ d os, (Go.Sort.grow (redrawn w0 d) os).cell? ⟨X, 8, none⟩ = some (.slice y.aG x.A.gs.length y.cG) := fun d os => cell_regrown (NB.c8 HX.out) d os
  have z9 : ∀ d os, (Go.Sort.grow (redrawn w0 d) os).cell? ⟨X, 9, none⟩ = some (.bool x.A.r) := fun d os => cell_regrown (NB.c9 HX.out) d os
  have z10 : ∀ d os, (Go.Sort.grow (redrawn w0 d) os).cell? ⟨X, 10, none⟩ = some (.int .i64 x.A.m) := fun d os => cell_regrown (NB.c10 HX.out) d os
  refine wp_region_quiet_below (by kernel_rfl) (by kernel_rfl) ?_
  repeat (go_big_quiet_step (exact cA _ _ _))
  refine wpQuiet_nil ?_
  intro _ hw'
  obtain ⟨⟨dq, osq⟩, hw''⟩ := hw'
  subst hw''
  have hbq : Hid (Below w.heap.size w (Go.Sort.grow (redrawn w0 dq) osq)) := Below.on HB.out (below_regrown w0 dq osq)
  have e0 : (Go.Sort.grow (redrawn w0 dq) osq).cell? ⟨X, 0, none⟩ = some (.int .i64 x.k) := cell_regrown (NB.c0 HX.out) dq osq
  generalize Go.Sort.grow (redrawn w0 dq) osq = w2 at hbq e0 ⊢
  clear z4 z5 z6 z7 z8 z9 z10 cA HX HB
  generalize bits .or .i64 (bits .or .i64 x.A.u kk) x.A.o = some3 at HZ ⊢
  generalize hq1 : hasZ want 1 = b1 at HZ
  generalize hq2 : hasZ some3 1 = b2 at HZ
  have H1 : Hid (∀ w, Calls Tryz.prog 176 #[.int .i64 want, .int .i64 1] w fun e w' => e = .returned (.bool b1) ∧ w' = w) := (fun w => by rw [← hq1]; exact HH.out _ _ _)
  have H2 : Hid (∀ w, Calls Tryz.prog 176 #[.int .i64 some3, .int .i64 1] w fun e w' => e = .returned (.bool b2) ∧ w' = w) := (fun w => by rw [← hq2]; exact HH.out _ _ _)
  clear hq1 hq2 HH
  cases q0 : (x.k == 1)
  · cases b1
    · have HF : Hid (bz = true) := (by show _ = _; rw [HZ.out, q0]; rfl)
      clear HZ H2
      go_wp2_with (go_at_call 176; refine (H1.out _).mono ?_; rintro e w3 ⟨rfl, hw⟩; have hw2 := hw.symm; clear hw; subst hw2)
      go_ret
      exact ⟨ret_boolW HF.out.symm, hbq.out⟩
    · have HF : Hid (bz = b2) := (by show _ = _; rw [HZ.out, q0]; rfl)
      clear HZ
      go_wp2_with (first
        | (go_at_call_of 176 (Value.int IntKind.i64 want); refine (H1.out _).mono ?_; rintro e w3 ⟨rfl, hw⟩; have hw2 := hw.symm; clear hw; subst hw2)
        | (go_at_call_of 176 (Value.int IntKind.i64 some3); refine (H2.out _).mono ?_; rintro e w3 ⟨rfl, hw⟩; have hw2 := hw.symm; clear hw; subst hw2))
      go_ret
      exact ⟨ret_boolW HF.out.symm, hbq.out⟩
  · have HF : Hid (bz = true) := (by show _ = _; rw [HZ.out, q0]; rfl)
    clear HZ H1 H2
    go_wp2
    go_ret
    exact ⟨ret_boolW HF.out.symm, hbq.out⟩
set_option maxRecDepth 20000 in
set_option maxHeartbeats 8000000 in
theorem iLet_any (x : Nd) (y : Na) (u g : Int) (ca : Option Addr) (cl cc : Nat) (r : Bool) (cf : Nat → Int) (want : Int) (ha : Ask x u g cl cf want) (w : World) (hi : NdIn w x y) (hci : Ints ca cl cf w) :
    Calls Tryz.prog 92 #[.agg (ndV x y).toArray, .agg #[.int .i64 u, .int .i64 g, .slice ca cl cc, .bool r], .int .i64 want] w fun e w' => e = .returned (.bool (letB x u g cl r cf want)) ∧ Below w.heap.size w w' := by
  cases r
  · have HE : Hid (letB x u g cl false cf want = mayB x.A.u x.A.g x.A.o x.A.us x.A.gs x.A.r x.A.m x.ow x.gr u g cl cf want) := rfl
    have HM : Hid (∀ w', Below w.heap.size w w' → Calls Tryz.prog 139 #[.agg #[.int .i64 x.A.u, .int .i64 x.A.g, .int .i64 x.A.o, .slice y.aU x.A.us.length y.cU, .slice y.aG x.A.gs.length y.cG, .bool x.A.r, .int .i64 x.A.m], .int .i64 x.ow, .int .i64 x.gr, .agg #[.int .i64 u, .int .i64 g, .slice ca cl cc, .bool false], .int .i64 want] w' fun e w'' => e = .returned (.bool (mayB x.A.u x.A.g x.A.o x.A.us x.A.gs x.A.r x.A.m x.ow x.gr u g cl cf want)) ∧ Below w'.heap.size w' w'') := (fun w' hb => iAclMay_any x.A.u x.A.g x.A.o _ _ _ _ _ _ x.A.r x.A.m x.A.us x.A.gs x.ow x.gr u g _ _ _ _ cf want w' (hi.aU.below hb) (hi.aG.below hb) (hci.below hb))
    clear hi hci ha
    generalize mayB x.A.u x.A.g x.A.o x.A.us x.A.gs x.A.r x.A.m x.ow x.gr u g cl cf want = mb at HE HM
    have HX : Hid (BoxR ((w.alloc (.cells (ndV x y).toArray 84)).alloc (.cells #[.int .i64 u, .int .i64 g, .slice ca cl cc, .bool false] 37)) w.heap.size (ndV x y)) := (boxR_new w (ndV x y) 84).below (bel_alloc _ _)
    have HC : Hid (BoxR ((w.alloc (.cells (ndV x y).toArray 84)).alloc (.cells #[.int .i64 u, .int .i64 g, .slice ca cl cc, .bool false] 37)) (w.heap.size + 1) [.int .i64 u, .int .i64 g, .slice ca cl cc, .bool false]) := (by
      have h := boxR_new (w.alloc (.cells (ndV x y).toArray 84)) [.int .i64 u, .int .i64 g, .slice ca cl cc, .bool false] 37
      simp only [World.size_alloc] at h
      exact h)
    have HB : Hid (Below w.heap.size w ((w.alloc (.cells (ndV x y).toArray 84)).alloc (.cells #[.int .i64 u, .int .i64 g, .slice ca cl cc, .bool false] 37))) := bl2T _ _ _
    go_enter Tryz.func92, Tryz.ntmps92
    go_upto_region 1 with fail
    generalize ((w.alloc (.cells (ndV x y).toArray 84)).alloc (.cells #[.int .i64 u, .int .i64 g, .slice ca cl cc, .bool false] 37)) = w0 at HX HC HB ⊢
    obtain ⟨X, hX⟩ : ∃ X, X = w.heap.size := ⟨_, rfl⟩
    rw [← hX] at HX HC ⊢
    clear hX
    have e0 := NB.c0 HX.out
    have e1 := NB.c1 HX.out
    have e2 := NB.c2 HX.out
    have e3 := NB.c3 HX.out
    have e4 := NB.c4 HX.out
    have e5 := NB.c5 HX.out
    have e6 := NB.c6 HX.out
    have e7 := NB.c7 HX.out
    have e8 := NB.c8 HX.out
    have e9 := NB.c9 HX.out
    have e10 := NB.c10 HX.out
    have y0 : w0.cell? ⟨X + 1, 0, none⟩ = some (.int .i64 u) := HC.out.at0 0 _ rfl
    have y1 : w0.cell? ⟨X + 1, 1, none⟩ = some (.int .i64 g) := HC.out.at0 1 _ rfl
    have y2 : w0.cell? ⟨X + 1, 2, none⟩ = some (.slice ca cl cc) := HC.out.at0 2 _ rfl
    have y3 : w0.cell? ⟨X + 1, 3, none⟩ = some (.bool false) := HC.out.at0 3 _ rfl
    go_wp2_with (go_at_call 139; refine (HM.out _ HB.out).mono ?_; rintro e w1 ⟨rfl, hb⟩; replace HB : Hid (Below w.heap.size w w1) := Below.on HB.out hb; clear hb)
    go_ret
    exact ⟨ret_boolW HE.out.symm, HB.out⟩
  · have HE : Hid (letB x u g cl true cf want = (x.k == 1 || (!hasZ want 1 || hasZ (bits .or .i64 (bits .or .i64 x.A.u (clsOf x.A.g x.A.r x.A.m)) x.A.o) 1))) := rootB_has ha
    have HR : Hid (∀ w, Calls Tryz.prog 138 #[.agg (ndV x y).toArray, .int .i64 want] w fun e w' => e = .returned (.bool (x.k == 1 || (!hasZ want 1 || hasZ (bits .or .i64 (bits .or .i64 x.A.u (clsOf x.A.g x.A.r x.A.m)) x.A.o) 1))) ∧ Below w.heap.size w w') := (fun w => iRootMay_any x y want w)
    generalize (x.k == 1 || (!hasZ want 1 || hasZ (bits .or .i64 (bits .or .i64 x.A.u (clsOf x.A.g x.A.r x.A.m)) x.A.o) 1)) = rb at HE HR
    clear hi hci ha
    have HX : Hid (BoxR ((w.alloc (.cells (ndV x y).toArray 84)).alloc (.cells #[.int .i64 u, .int .i64 g, .slice ca cl cc, .bool true] 37)) w.heap.size (ndV x y)) := (boxR_new w (ndV x y) 84).below (bel_alloc _ _)
    have HC : Hid (BoxR ((w.alloc (.cells (ndV x y).toArray 84)).alloc (.cells #[.int .i64 u, .int .i64 g, .slice ca cl cc, .bool true] 37)) (w.heap.size + 1) [.int .i64 u, .int .i64 g, .slice ca cl cc, .bool true]) := (by
      have h := boxR_new (w.alloc (.cells (ndV x y).toArray 84)) [.int .i64 u, .int .i64 g, .slice ca cl cc, .bool true] 37
      simp only [World.size_alloc] at h
      exact h)
    have HB : Hid (Below w.heap.size w ((w.alloc (.cells (ndV x y).toArray 84)).alloc (.cells #[.int .i64 u, .int .i64 g, .slice ca cl cc, .bool true] 37))) := bl2T _ _ _
    go_enter Tryz.func92, Tryz.ntmps92
    go_upto_region 1 with fail
    generalize ((w.alloc (.cells (ndV x y).toArray 84)).alloc (.cells #[.int .i64 u, .int .i64 g, .slice ca cl cc, .bool true] 37)) = w0 at HX HC HB ⊢
    obtain ⟨X, hX⟩ : ∃ X, X = w.heap.size := ⟨_, rfl⟩
    rw [← hX] at HX HC ⊢
    clear hX
    have y0 : w0.cell? ⟨X + 1, 0, none⟩ = some (.int .i64 u) := HC.out.at0 0 _ rfl
    have y1 : w0.cell? ⟨X + 1, 1, none⟩ = some (.int .i64 g) := HC.out.at0 1 _ rfl
    have y2 : w0.cell? ⟨X + 1, 2, none⟩ = some (.slice ca cl cc) := HC.out.at0 2 _ rfl
    have y3 : w0.cell? ⟨X + 1, 3, none⟩ = some (.bool true) := HC.out.at0 3 _ rfl
    have HN : Hid (N24 w0 X 0 x y) := HX.out.at0
    go_wp2_with (first
      | (refine wpList_load_mid (by rfl) 84 _ (by rfl) _ _ (by rfl) _ _ HN.out Tryz.underlying84 rfl (by kernel_rfl) ?_)
      | (go_at_call 138; refine (HR.out _).mono ?_; rintro e w1 ⟨rfl, hb⟩; replace HB : Hid (Below w.heap.size w w1) := Below.on HB.out hb; clear hb))
    go_ret
    exact ⟨ret_boolW HE.out.symm, HB.out⟩
end Go.Proofs.YtdgejnaceeoooaaGreatDoor
/- spec.l08May. -/
namespace Go.Proofs.YtdgejnaceeoooaaGreatDoor
open Go.RowKit Go.PlainAid Go.Deep
set_option linter.unusedVariables false
set_option maxRecDepth 20000 in
set_option maxHeartbeats 8000000 in
theorem sLet_any (x : Nd) (y : Na) (u g : Int) (ca : Option Addr) (cl cc : Nat) (r : Bool) (cf : Nat → Int) (want : Int) (ha : Ask x u g cl cf want) (w : World) (hi : NdIn w x y) (hci : Ints ca cl cf w) :
    Calls Tryz.prog 47 #[.agg (ndV x y).toArray, .agg #[.int .i64 u, .int .i64 g, .slice ca cl cc, .bool r], .int .i64 want] w fun e w' => e = .returned (.bool (letB x u g cl r cf want)) ∧ Below w.heap.size w w' := by
  have hs := ha.sound
  cases r
  · have HE : Hid (letB x u g cl false cf want = mayB x.A.u x.A.g x.A.o x.A.us x.A.gs x.A.r x.A.m x.ow x.gr u g cl cf want) := rfl
    have HM : Hid (∀ w', Below w.heap.size w w' → Calls Tryz.prog 89 #[.agg #[.int .i64 x.A.u, .int .i64 x.A.g, .int .i64 x.A.o, .slice y.aU x.A.us.length y.cU, .slice y.aG x.A.gs.length y.cG, .bool x.A.r, .int .i64 x.A.m], .int .i64 x.ow, .int .i64 x.gr, .agg #[.int .i64 u, .int .i64 g, .slice ca cl cc, .bool false], .int .i64 want] w' fun e w'' => e = .returned (.bool (mayB x.A.u x.A.g x.A.o x.A.us x.A.gs x.A.r x.A.m x.ow x.gr u g cl cf want)) ∧ Below w'.heap.size w' w'') := (fun w' hb => sMay_any x.A.u x.A.g x.A.o _ _ _ _ _ _ x.A.r x.A.m x.A.us x.A.gs x.ow x.gr u g _ _ _ _ cf want ha.fine w' (hi.aU.below hb) (hi.aG.below hb) (hci.below hb))
    clear hi hci ha hs
    generalize mayB x.A.u x.A.g x.A.o x.A.us x.A.gs x.A.r x.A.m x.ow x.gr u g cl cf want = mb at HE HM
    have HX : Hid (BoxR ((w.alloc (.cells (ndV x y).toArray 84)).alloc (.cells #[.int .i64 u, .int .i64 g, .slice ca cl cc, .bool false] 37)) w.heap.size (ndV x y)) := (boxR_new w (ndV x y) 84).below (bel_alloc _ _)
    have HC : Hid (BoxR ((w.alloc (.cells (ndV x y).toArray 84)).alloc (.cells #[.int .i64 u, .int .i64 g, .slice ca cl cc, .bool false] 37)) (w.heap.size + 1) [.int .i64 u, .int .i64 g, .slice ca cl cc, .bool false]) := (by
      have h := boxR_new (w.alloc (.cells (ndV x y).toArray 84)) [.int .i64 u, .int .i64 g, .slice ca cl cc, .bool false] 37
      simp only [World.size_alloc] at h
      exact h)
    have HB : Hid (Below w.heap.size w ((w.alloc (.cells (ndV x y).toArray 84)).alloc (.cells #[.int .i64 u, .int .i64 g, .slice ca cl cc, .bool false] 37))) := bl2T _ _ _
    go_enter Tryz.func47, Tryz.ntmps47
    go_upto_region 1 with fail
    generalize ((w.alloc (.cells (ndV x y).toArray 84)).alloc (.cells #[.int .i64 u, .int .i64 g, .slice ca cl cc, .bool false] 37)) = w0 at HX HC HB ⊢
    obtain ⟨X, hX⟩ : ∃ X, X = w.heap.size := ⟨_, rfl⟩
    rw [← hX] at HX HC ⊢
    clear hX
    have e0 := NB.c0 HX.out
    have e1 := NB.c1 HX.out
    have e2 := NB.c2 HX.out
    have e3 := NB.c3 HX.out
    have e4 := NB.c4 HX.out
    have e5 := NB.c5 HX.out
    have e6 := NB.c6 HX.out
    have e7 := NB.c7 HX.out
    have e8 := NB.c8 HX.out
    have e9 := NB.c9 HX.out
    have e10 := NB.c10 HX.out
    have y0 : w0.cell? ⟨X + 1, 0, none⟩ = some (.int .i64 u) := HC.out.at0 0 _ rfl
    have y1 : w0.cell? ⟨X + 1, 1, none⟩ = some (.int .i64 g) := HC.out.at0 1 _ rfl
    have y2 : w0.cell? ⟨X + 1, 2, none⟩ = some (.slice ca cl cc) := HC.out.at0 2 _ rfl
    have y3 : w0.cell? ⟨X + 1, 3, none⟩ = some (.bool false) := HC.out.at0 3 _ rfl
    go_wp2_with (go_at_call 89; refine (HM.out _ HB.out).mono ?_; rintro e w1 ⟨rfl, hb⟩; replace HB : Hid (Below w.heap.size w w1) := Below.on HB.out hb; clear hb)
    go_ret
    exact ⟨ret_boolW HE.out.symm, HB.out⟩
  have HE0 : Hid (letB x u g cl true cf want = rootB x want) := rfl
  have HG : Hid (∀ w, Calls Tryz.prog 88 #[.agg #[.int .i64 x.A.u, .int .i64 x.A.g, .int .i64 x.A.o, .slice y.aU x.A.us.length y.cU, .slice y.aG x.A.gs.length y.cG, .bool x.A.r, .int .i64 x.A.m]] w fun e w' => e = .returned (.int .i64 (clsOf x.A.g x.A.r x.A.m)) ∧ Below w.heap.size w w') := sClass_any x.A.u x.A.g x.A.o _ _ _ _ _ _ x.A.r x.A.m
  have p1 := par2 hs.v0
  have p2 := par2 hs.u0
  have p3 := par2 hs.k0
  have p4 := par2 hs.o0
  obtain ⟨kk, hkk⟩ : ∃ kk, kk = clsOf x.A.g x.A.r x.A.m := ⟨_, rfl⟩
  have hk0 := hs.k0
  have hk1 := hs.k1
  have hv0 := hs.v0
  have hv1 := hs.v1
  have hu0 := hs.u0
  have hu1 := hs.u1
  have ho0 := hs.o0
  have ho1 := hs.o1
  have HR : Hid (rootB x want = (x.k == 1 || (want % 2 == 0 || (x.A.u % 2 == 1 || (kk % 2 == 1 || x.A.o % 2 == 1))))) := (by show _ = _; rw [hkk]; rfl)
  rw [← hkk] at p3 HG hk0 hk1
  clear hi hci ha hs hkk
  cases q0 : (x.k == 1)
  case true =>
    have HE : Hid (letB x u g cl true cf want = true) := (by show _ = _; rw [HE0.out, HR.out, q0]; rfl)
    clear p1 p2 p3 p4 HR HE0
    have HX : Hid (BoxR ((w.alloc (.cells (ndV x y).toArray 84)).alloc (.cells #[.int .i64 u, .int .i64 g, .slice ca cl cc, .bool true] 37)) w.heap.size (ndV x y)) := (boxR_new w (ndV x y) 84).below (bel_alloc _ _)
    have HC : Hid (BoxR ((w.alloc (.cells (ndV x y).toArray 84)).alloc (.cells #[.int .i64 u, .int .i64 g, .slice ca cl cc, .bool true] 37)) (w.heap.size + 1) [.int .i64 u, .int .i64 g, .slice ca cl cc, .bool true]) := (by
      have h := boxR_new (w.alloc (.cells (ndV x y).toArray 84)) [.int .i64 u, .int .i64 g, .slice ca cl cc, .bool true] 37
      simp only [World.size_alloc] at h
      exact h)
    have HB : Hid (Below w.heap.size w ((w.alloc (.cells (ndV x y).toArray 84)).alloc (.cells #[.int .i64 u, .int .i64 g, .slice ca cl cc, .bool true] 37))) := bl2T _ _ _
    go_enter Tryz.func47, Tryz.ntmps47
    go_upto_region 1 with fail
    generalize ((w.alloc (.cells (ndV x y).toArray 84)).alloc (.cells #[.int .i64 u, .int .i64 g, .slice ca cl cc, .bool true] 37)) = w0 at HX HC HB ⊢
    obtain ⟨X, hX⟩ : ∃ X, X = w.heap.size := ⟨_, rfl⟩
    rw [← hX] at HX HC ⊢
    clear hX
    have e0 := NB.c0 HX.out
    have e1 := NB.c1 HX.out
    have e2 := NB.c2 HX.out
    have e3 := NB.c3 HX.out
    have e4 := NB.c4 HX.out
    have e5 := NB.c5 HX.out
    have e6 := NB.c6 HX.out
    have e7 := NB.c7 HX.out
    have e8 := NB.c8 HX.out
    have e9 := NB.c9 HX.out
    have e10 := NB.c10 HX.out
    have y0 : w0.cell? ⟨X + 1, 0, none⟩ = some (.int .i64 u) := HC.out.at0 0 _ rfl
    have y1 : w0.cell? ⟨X + 1, 1, none⟩ = some (.int .i64 g) := HC.out.at0 1 _ rfl
    have y2 : w0.cell? ⟨X + 1, 2, none⟩ = some (.slice ca cl cc) := HC.out.at0 2 _ rfl
    have y3 : w0.cell? ⟨X + 1, 3, none⟩ = some (.bool true) := HC.out.at0 3 _ rfl
    go_wp2
    go_ret
    exact ⟨ret_boolW HE.out.symm, HB.out⟩
  rcases p1 with ⟨q1, r1⟩ | ⟨q1, r1⟩
  · have HE : Hid (letB x u g cl true cf want = true) := (by show _ = _; rw [HE0.out, HR.out, q0, r1]; rfl)
    clear p2 p3 p4 HR HE0 r1
    have HX : Hid (BoxR ((w.alloc (.cells (ndV x y).toArray 84)).alloc (.cells #[.int .i64 u, .int .i64 g, .slice ca cl cc, .bool true] 37)) w.heap.size (ndV x y)) := (boxR_new w (ndV x y) 84).below (bel_alloc _ _)
    have HC : Hid (BoxR ((w.alloc (.cells (ndV x y).toArray 84)).alloc (.cells #[.int .i64 u, .int .i64 g, .slice ca cl cc, .bool true] 37)) (w.heap.size + 1) [.int .i64 u, .int .i64 g, .slice ca cl cc, .bool true]) := (by
      have h := boxR_new (w.alloc (.cells (ndV x y).toArray 84)) [.int .i64 u, .int .i64 g, .slice ca cl cc, .bool true] 37
      simp only [World.size_alloc] at h
      exact h)
    have HB : Hid (Below w.heap.size w ((w.alloc (.cells (ndV x y).toArray 84)).alloc (.cells #[.int .i64 u, .int .i64 g, .slice ca cl cc, .bool true] 37))) := bl2T _ _ _
    go_enter Tryz.func47, Tryz.ntmps47
    go_upto_region 1 with fail
    generalize ((w.alloc (.cells (ndV x y).toArray 84)).alloc (.cells #[.int .i64 u, .int .i64 g, .slice ca cl cc, .bool true] 37)) = w0 at HX HC HB ⊢
    obtain ⟨X, hX⟩ : ∃ X, X = w.heap.size := ⟨_, rfl⟩
    rw [← hX] at HX HC ⊢
    clear hX
    have e0 := NB.c0 HX.out
    have e1 := NB.c1 HX.out
    have e2 := NB.c2 HX.out
    have e3 := NB.c3 HX.out
    have e4 := NB.c4 HX.out
    have e5 := NB.c5 HX.out
    have e6 := NB.c6 HX.out
    have e7 := NB.c7 HX.out
    have e8 := NB.c8 HX.out
    have e9 := NB.c9 HX.out
    have e10 := NB.c10 HX.out
    have y0 : w0.cell? ⟨X + 1, 0, none⟩ = some (.int .i64 u) := HC.out.at0 0 _ rfl
    have y1 : w0.cell? ⟨X + 1, 1, none⟩ = some (.int .i64 g) := HC.out.at0 1 _ rfl
    have y2 : w0.cell? ⟨X + 1, 2, none⟩ = some (.slice ca cl cc) := HC.out.at0 2 _ rfl
    have y3 : w0.cell? ⟨X + 1, 3, none⟩ = some (.bool true) := HC.out.at0 3 _ rfl
    go_wp2
    go_ret
    exact ⟨ret_boolW HE.out.symm, HB.out⟩
  rcases p2 with ⟨q2, r2⟩ | ⟨q2, r2⟩
  case inr =>
    have HE : Hid (letB x u g cl true cf want = true) := (by show _ = _; rw [HE0.out, HR.out, q0, r1, r2]; rfl)
    clear p3 p4 HR HE0 r1 r2
    have HX : Hid (BoxR ((w.alloc (.cells (ndV x y).toArray 84)).alloc (.cells #[.int .i64 u, .int .i64 g, .slice ca cl cc, .bool true] 37)) w.heap.size (ndV x y)) := (boxR_new w (ndV x y) 84).below (bel_alloc _ _)
    have HC : Hid (BoxR ((w.alloc (.cells (ndV x y).toArray 84)).alloc (.cells #[.int .i64 u, .int .i64 g, .slice ca cl cc, .bool true] 37)) (w.heap.size + 1) [.int .i64 u, .int .i64 g, .slice ca cl cc, .bool true]) := (by
      have h := boxR_new (w.alloc (.cells (ndV x y).toArray 84)) [.int .i64 u, .int .i64 g, .slice ca cl cc, .bool true] 37
      simp only [World.size_alloc] at h
      exact h)
    have HB : Hid (Below w.heap.size w ((w.alloc (.cells (ndV x y).toArray 84)).alloc (.cells #[.int .i64 u, .int .i64 g, .slice ca cl cc, .bool true] 37))) := bl2T _ _ _
    go_enter Tryz.func47, Tryz.ntmps47
    go_upto_region 1 with fail
    generalize ((w.alloc (.cells (ndV x y).toArray 84)).alloc (.cells #[.int .i64 u, .int .i64 g, .slice ca cl cc, .bool true] 37)) = w0 at HX HC HB ⊢
    obtain ⟨X, hX⟩ : ∃ X, X = w.heap.size := ⟨_, rfl⟩
    rw [← hX] at HX HC ⊢
    clear hX
    have e0 := NB.c0 HX.out
    have e1 := NB.c1 HX.out
    have e2 := NB.c2 HX.out
    have e3 := NB.c3 HX.out
    have e4 := NB.c4 HX.out
    have e5 := NB.c5 HX.out
    have e6 := NB.c6 HX.out
    have e7 := NB.c7 HX.out
    have e8 := NB.c8 HX.out
    have e9 := NB.c9 HX.out
    have e10 := NB.c10 HX.out
    have y0 : w0.cell? ⟨X + 1, 0, none⟩ = some (.int .i64 u) := HC.out.at0 0 _ rfl
    have y1 : w0.cell? ⟨X + 1, 1, none⟩ = some (.int .i64 g) := HC.out.at0 1 _ rfl
    have y2 : w0.cell? ⟨X + 1, 2, none⟩ = some (.slice ca cl cc) := HC.out.at0 2 _ rfl
    have y3 : w0.cell? ⟨X + 1, 3, none⟩ = some (.bool true) := HC.out.at0 3 _ rfl
    go_wp2
    go_ret
    exact ⟨ret_boolW HE.out.symm, HB.out⟩
  have HE : Hid (letB x u g cl true cf want = (kk % 2 == 1 || x.A.o % 2 == 1)) := (by show _ = _; rw [HE0.out, HR.out, q0, r1, r2]; rfl)
  clear HR HE0 r1 r2
  have HX : Hid (BoxR ((w.alloc (.cells (ndV x y).toArray 84)).alloc (.cells #[.int .i64 u, .int .i64 g, .slice ca cl cc, .bool true] 37)) w.heap.size (ndV x y)) := (boxR_new w (ndV x y) 84).below (bel_alloc _ _)
  have HC : Hid (BoxR ((w.alloc (.cells (ndV x y).toArray 84)).alloc (.cells #[.int .i64 u, .int .i64 g, .slice ca cl cc, .bool true] 37)) (w.heap.size + 1) [.int .i64 u, .int .i64 g, .slice ca cl cc, .bool true]) := (by
    have h := boxR_new (w.alloc (.cells (ndV x y).toArray 84)) [.int .i64 u, .int .i64 g, .slice ca cl cc, .bool true] 37
    simp only [World.size_alloc] at h
    exact h)
  have HB : Hid (Below w.heap.size w ((w.alloc (.cells (ndV x y).toArray 84)).alloc (.cells #[.int .i64 u, .int .i64 g, .slice ca cl cc, .bool true] 37))) := bl2T _ _ _
  go_enter Tryz.func47, Tryz.ntmps47
  go_upto_region 1 with fail
  generalize ((w.alloc (.cells (ndV x y).toArray 84)).alloc (.cells #[.int .i64 u, .int .i64 g, .slice ca cl cc, .bool true] 37)) = w0 at HX HC HB ⊢
  obtain ⟨X, hX⟩ : ∃ X, X = w.heap.size := ⟨_, rfl⟩
  rw [← hX] at HX HC ⊢
  clear hX
  have e0 := NB.c0 HX.out
  have e1 := NB.c1 HX.out
  have e2 := NB.c2 HX.out
  have e3 := NB.c3 HX.out
  have e4 := NB.c4 HX.out
  have e5 := NB.c5 HX.out
  have e6 := NB.c6 HX.out
  have e7 := NB.c7 HX.out
  have e8 := NB.c8 HX.out
  have e9 := NB.c9 HX.out
  have e10 := NB.c10 HX.out
  have y0 : w0.cell? ⟨X + 1, 0, none⟩ = some (.int .i64 u) := HC.out.at0 0 _ rfl
  have y1 : w0.cell? ⟨X + 1, 1, none⟩ = some (.int .i64 g) := HC.out.at0 1 _ rfl
  have y2 : w0.cell? ⟨X + 1, 2, none⟩ = some (.slice ca cl cc) := HC.out.at0 2 _ rfl
  have y3 : w0.cell? ⟨X + 1, 3, none⟩ = some (.bool true) := HC.out.at0 3 _ rfl
  rcases p3 with ⟨q3, r3⟩ | ⟨q3, r3⟩ <;> rcases p4 with ⟨q4, r4⟩ | ⟨q4, r4⟩
  all_goals rw [r3, r4] at HE
  all_goals clear r3 r4
  all_goals go_wp2_with (go_at_call 88; refine (HG.out _).mono ?_; rintro e w1 ⟨rfl, hb⟩; replace HB : Hid (Below w.heap.size w w1) := Below.on HB.out hb; replace HX : Hid (BoxR w1 X (ndV x y)) := HX.out.below hb; clear hb; replace e0 := NB.c0 HX.out; replace e1 := NB.c1 HX.out; replace e2 := NB.c2 HX.out; replace e3 := NB.c3 HX.out; replace e4 := NB.c4 HX.out; replace e5 := NB.c5 HX.out; replace e6 := NB.c6 HX.out; replace e7 := NB.c7 HX.out; replace e8 := NB.c8 HX.out; replace e9 := NB.c9 HX.out; replace e10 := NB.c10 HX.out)
  all_goals go_ret
  all_goals exact ⟨ret_boolW HE.out.symm, HB.out⟩
end Go.Proofs.YtdgejnaceeoooaaGreatDoor
