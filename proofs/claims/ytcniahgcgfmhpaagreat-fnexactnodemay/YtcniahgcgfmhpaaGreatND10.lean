/- Laid together: TrI1, TrI0. -/
import Derived.Test.YtcniahgcgfmhpaaGreatND6
import Derived.Test.YtcniahgcgfmhpaaGreatND8
import Derived.Test.YtcniahgcgfmhpaaGreatND9
import Derived.Laws.ResultCell
/- The program's little tests of a node, and of a number. -/
namespace Go.Proofs.YtcniahgcgfmhpaaGreat
open Go.RowKit Go.PlainAid
set_option linter.unusedVariables false
theorem iTime_any (n : Int) (w : World) :
    Calls Tryz.prog 54 #[.int .i64 n] w fun e w' => e = .returned (.bool (inR 0 1000000 n)) ∧ w' = w := by
  go_enter Tryz.func54, Tryz.ntmps54
  go_wp2
  · go_ret
    exact ⟨ret_boolW (by simp [inR, *]), rfl⟩
  · go_ret
    exact ⟨ret_boolW (by have h : ¬ 0 ≤ n := by omega
                         simp [inR, h]), rfl⟩
theorem iNumAt_any (k : Nat) (hk : k ≤ 1048576) (w : World) :
    Calls Tryz.prog 56 #[.int .i64 k] w fun e w' => e = .returned (.int .i64 ((k : Int) + 1)) ∧ w' = w := by
  go_enter Tryz.func56, Tryz.ntmps56
  go_wp2
  go_ret
  exact ⟨rfl, rfl⟩
set_option maxHeartbeats 2000000 in
theorem eqE_nil (a b : Option Addr) (n c d : Nat) (hn : n ≤ 9223372036854775807) (w : World) :
    Calls Tryz.prog 110 #[.slice a n c, .slice b 0 d] w fun e w' => e = .returned (.bool (n == 0)) ∧ w' = w := by
  by_cases h : n = 0
  · subst h
    go_enter Tryz.func110, Tryz.ntmps110
    go_wp2
    go_rounds 1
    go_ret
    exact ⟨rfl, rfl⟩
  · have e : Hid ((n == 0) = false) := (by show _ = _; simp [h])
    have e2 : ((n : Int) == 0) = false := by rw [beq_eq_false_iff_ne]; omega
    have e3 : ((n : Int) != 0) = true := by rw [bne, e2]; rfl
    clear h
    go_enter Tryz.func110, Tryz.ntmps110
    go_wp2
    go_ret
    exact ⟨ret_boolW e.out.symm, rfl⟩
set_option maxHeartbeats 2000000 in
theorem eqN_nil (a b : Option Addr) (n c d : Nat) (hn : n ≤ 9223372036854775807) (w : World) :
    Calls Tryz.prog 123 #[.slice a n c, .slice b 0 d] w fun e w' => e = .returned (.bool (n == 0)) ∧ w' = w := by
  by_cases h : n = 0
  · subst h
    go_enter Tryz.func123, Tryz.ntmps123
    go_wp2
    go_rounds 1
    go_ret
    exact ⟨rfl, rfl⟩
  · have e : Hid ((n == 0) = false) := (by show _ = _; simp [h])
    have e2 : ((n : Int) == 0) = false := by rw [beq_eq_false_iff_ne]; omega
    have e3 : ((n : Int) != 0) = true := by rw [bne, e2]; rfl
    clear h
    go_enter Tryz.func123, Tryz.ntmps123
    go_wp2
    go_ret
    exact ⟨ret_boolW e.out.symm, rfl⟩
set_option maxHeartbeats 8000000 in
/-- impl.sameLists, of a list and the zero one. -/
theorem iSameL0_any (A : Al) (aU : Option Addr) (cU : Nat) (aG : Option Addr) (cG : Nat) (h1 : A.us.length ≤ 1048576) (h2 : A.gs.length ≤ 1048576) (w : World) :
    Calls Tryz.prog 109 #[.agg #[.int .i64 A.u, .int .i64 A.g, .int .i64 A.o, .slice aU A.us.length cU, .slice aG A.gs.length cG, .bool A.r, .int .i64 A.m], .agg #[.int .i64 0, .int .i64 0, .int .i64 0, .slice none 0 0, .slice none 0 0, .bool false, .int .i64 0]] w fun e w' => e = .returned (.bool A.E) ∧ Below w.heap.size w w' := by
  have HE : Hid (A.E = (A.u == 0 && (A.g == 0 && (A.o == 0 && (A.m == 0 && (!A.r && (A.us.length == 0 && A.gs.length == 0))))))) := rfl
  have H1 : Hid (∀ w, Calls Tryz.prog 123 #[.slice aU A.us.length cU, .slice none 0 0] w fun e w' => e = .returned (.bool (A.us.length == 0)) ∧ w' = w) := (fun w => eqN_nil _ _ _ _ _ (by omega) w)
  have H2 : Hid (∀ w, Calls Tryz.prog 123 #[.slice aG A.gs.length cG, .slice none 0 0] w fun e w' => e = .returned (.bool (A.gs.length == 0)) ∧ w' = w) := (fun w => eqN_nil _ _ _ _ _ (by omega) w)
  go_enter Tryz.func109, Tryz.ntmps109
  go_wp2_with (first | (go_at_call_of 123 (Value.slice aU A.us.length cU); refine (H1.out _).mono ?_; rintro e w1 ⟨rfl, rfl⟩) | (go_at_call_of 123 (Value.slice aG A.gs.length cG); refine (H2.out _).mono ?_; rintro e w1 ⟨rfl, rfl⟩))
  all_goals go_ret
  all_goals (refine ⟨ret_boolW ?_, bl2T _ _ _⟩; rw [HE.out]; first | (simp [*]; done) | (simp only [bne_iff_ne, ne_eq, bne_eq_false_iff_eq] at *; simp [*]; done) | (simp only [Bool.not_eq_false', Bool.not_eq_true'] at *; simp [*]))
set_option maxHeartbeats 8000000 in
theorem iNoDir_any (x : Nd) (y : Na) (hf : NdFit 1048576 x) (w : World) :
    Calls Tryz.prog 86 #[.agg (ndV x y).toArray] w fun e w' => e = .returned (.bool x.bare) ∧ Below w.heap.size w w' := by
  have HK : Hid (NdFit 1048576 x) := hf
  have HE : Hid (x.bare = (!x.sh && (x.D.E && (x.up == 0 && ((x.ns.length : Int) == 0))))) := (by show _ = _; rw [int_zero]; rfl)
  clear hf
  have HB : Hid (Below w.heap.size w (w.alloc (.cells (ndV x y).toArray 45))) := bel_alloc _ _
  have HX : Hid (BoxR (w.alloc (.cells (ndV x y).toArray 45)) w.heap.size (ndV x y)) := boxR_new _ _ _
  go_enter Tryz.func86, Tryz.ntmps86
  go_upto_region 1 with fail
  generalize (w.alloc (.cells (ndV x y).toArray 45)) = w0 at HB HX ⊢
  obtain ⟨X, hX⟩ : ∃ X, X = w.heap.size := ⟨_, rfl⟩
  rw [← hX] at HX ⊢
  clear hX
  have e11 := NB.c11 HX.out
  have e12 := NB.c12 HX.out
  have e13 := NB.c13 HX.out
  have e14 := NB.c14 HX.out
  have e15 := NB.c15 HX.out
  have e16 := NB.c16 HX.out
  have e17 := NB.c17 HX.out
  have e18 := NB.c18 HX.out
  have e20 := NB.c20 HX.out
  have e22 := NB.c22 HX.out
  go_wp2_with ((go_at_call 109; refine (iSameL0_any x.D _ _ _ _ HK.out.du HK.out.dg _).mono ?_; rintro e w1 ⟨rfl, hb⟩; replace HB : Hid (Below w.heap.size w w1) := Below.on HB.out hb; replace HX : Hid (BoxR w1 X (ndV x y)) := HX.out.below hb; clear hb; replace e11 := NB.c11 HX.out; replace e12 := NB.c12 HX.out; replace e13 := NB.c13 HX.out; replace e14 := NB.c14 HX.out; replace e15 := NB.c15 HX.out; replace e16 := NB.c16 HX.out; replace e17 := NB.c17 HX.out; replace e18 := NB.c18 HX.out; replace e20 := NB.c20 HX.out; replace e22 := NB.c22 HX.out))
  all_goals go_ret
  all_goals (refine ⟨ret_boolW ?_, HB.out⟩; rw [HE.out]; first | (simp [*]; done) | (simp only [bne_iff_ne, ne_eq, bne_eq_false_iff_eq] at *; simp [*]; done) | (simp only [Bool.not_eq_false', Bool.not_eq_true'] at *; simp [*]))
set_option maxHeartbeats 8000000 in
theorem iDefault_any (x : Nd) (y : Na) (hf : NdFit 1048576 x) (w : World) (hi : NdIn w x y) :
    Calls Tryz.prog 113 #[.agg (ndV x y).toArray] w fun e w' => e = .returned (.bool x.dB) ∧ Below w.heap.size w w' := by
  have HK : Hid (NdFit 1048576 x) := hf
  have HM : Hid (NdIn w x y) := hi
  have HE : Hid (x.dB = (if x.sh then aclB x.D.u x.D.g x.D.o x.D.us x.D.gs x.D.r x.D.m else x.D.E)) := rfl
  clear hf hi
  have HB : Hid (Below w.heap.size w (w.alloc (.cells (ndV x y).toArray 45))) := bel_alloc _ _
  have HX : Hid (BoxR (w.alloc (.cells (ndV x y).toArray 45)) w.heap.size (ndV x y)) := boxR_new _ _ _
  go_enter Tryz.func113, Tryz.ntmps113
  go_upto_region 1 with fail
  generalize (w.alloc (.cells (ndV x y).toArray 45)) = w0 at HB HX ⊢
  obtain ⟨X, hX⟩ : ∃ X, X = w.heap.size := ⟨_, rfl⟩
  rw [← hX] at HX ⊢
  clear hX
  have e11 := NB.c11 HX.out
  have e12 := NB.c12 HX.out
  have e13 := NB.c13 HX.out
  have e14 := NB.c14 HX.out
  have e15 := NB.c15 HX.out
  have e16 := NB.c16 HX.out
  have e17 := NB.c17 HX.out
  have e18 := NB.c18 HX.out
  have e20 := NB.c20 HX.out
  have e22 := NB.c22 HX.out
  go_wp2_with (first
    | (go_at_call 109; refine (iSameL0_any x.D _ _ _ _ HK.out.du HK.out.dg _).mono ?_; rintro e w1 ⟨rfl, hb⟩; replace HB : Hid (Below w.heap.size w w1) := Below.on HB.out hb; replace HX : Hid (BoxR w1 X (ndV x y)) := HX.out.below hb; clear hb; replace e11 := NB.c11 HX.out; replace e12 := NB.c12 HX.out; replace e13 := NB.c13 HX.out; replace e14 := NB.c14 HX.out; replace e15 := NB.c15 HX.out; replace e16 := NB.c16 HX.out; replace e17 := NB.c17 HX.out; replace e18 := NB.c18 HX.out; replace e20 := NB.c20 HX.out; replace e22 := NB.c22 HX.out)
    | (go_at_call 111; refine (iAclRight_any x.D.u x.D.g x.D.o _ _ _ _ _ _ x.D.r x.D.m x.D.us x.D.gs _ (HM.out.dU.below HB.out) (HM.out.dG.below HB.out)).mono ?_; rintro e w1 ⟨rfl, hb⟩; replace HB : Hid (Below w.heap.size w w1) := Below.on HB.out hb; replace HX : Hid (BoxR w1 X (ndV x y)) := HX.out.below hb; clear hb; replace e11 := NB.c11 HX.out; replace e12 := NB.c12 HX.out; replace e13 := NB.c13 HX.out; replace e14 := NB.c14 HX.out; replace e15 := NB.c15 HX.out; replace e16 := NB.c16 HX.out; replace e17 := NB.c17 HX.out; replace e18 := NB.c18 HX.out; replace e20 := NB.c20 HX.out; replace e22 := NB.c22 HX.out))
  all_goals go_ret
  all_goals (refine ⟨ret_boolW ?_, HB.out⟩; rw [HE.out]; first | (simp [*]; done) | (simp only [bne_iff_ne, ne_eq, bne_eq_false_iff_eq] at *; simp [*]; done) | (simp only [Bool.not_eq_false', Bool.not_eq_true'] at *; simp [*]))
set_option maxHeartbeats 8000000 in
/-- timesNaming. -/
theorem iTimes_any (x : Nd) (y : Na) (n : Int) (hf : x.ns.length ≤ 1048576) (w : World) (hi : Ens y.nA x.ns.length x.ns w) :
    Calls Tryz.prog 128 #[.agg (ndV x y).toArray, .int .i64 n] w fun e w' => e = .returned (.int .i64 (cntE x.ns n x.ns.length)) ∧ Below w.heap.size w w' := by
  have HM : Hid (Ens y.nA x.ns.length x.ns w) := hi
  clear hi
  have HB : Hid (Below w.heap.size w (w.alloc (.cells (ndV x y).toArray 45))) := bel_alloc _ _
  have HX : Hid (BoxR (w.alloc (.cells (ndV x y).toArray 45)) w.heap.size (ndV x y)) := boxR_new _ _ _
  go_enter Tryz.func128, Tryz.ntmps128
  go_upto_region 1 with fail
  generalize (w.alloc (.cells (ndV x y).toArray 45)) = w0 at HB HX ⊢
  obtain ⟨X, hX⟩ : ∃ X, X = w.heap.size := ⟨_, rfl⟩
  rw [← hX] at HX ⊢
  clear hX
  have e22 := NB.c22 HX.out
  have HQ : Hid (Ens y.nA x.ns.length x.ns w0) := HM.out.below HB.out
  clear HM HX
  go_wp2
  go_loopw [11, 5] (fun i c wr => ∃ m : Nat, m ≤ x.ns.length ∧ i = .int .i64 m ∧ c = .int .i64 (cntE x.ns n m) ∧ Hid (Below w0.heap.size w0 wr)) (fun i _ _ => x.ns.length - (intOf i).toNat)
  case atStart => exact ⟨0, Nat.zero_le _, rfl, rfl, Below.refl _ _⟩
  case round =>
    obtain ⟨m, hm, rfl, rfl, hB⟩ := hrel
    have hcb := cntE_b x.ns n m
    by_cases hml : m < x.ns.length
    · obtain ⟨b2, off2, hbe, hb2, hc2⟩ := (HQ.out.below hB.out).2 (by omega)
      rw [hbe] at e22 ⊢
      have hml' : (m : Int) < (x.ns.length : Int) := by omega
      have g0 := (hc2 m hml).1
      have g1 := (hc2 m hml).2
      have HS2 : Hid (cntE x.ns n (m + 1) = cntE x.ns n m + (if noAt x.ns m == n then 1 else 0)) := rfl
      clear hc2 hbe e22
      generalize noAt x.ns m = v at g1 HS2
      generalize nmAt x.ns m = nm at g0
      generalize cntE x.ns n m = z at hcb HS2 ⊢
      by_cases e : v = n
      · have e2 : (v == n) = true := by simp [e]
        rw [e2] at HS2
        clear e
        go_wp2
        go_roundw
        case rel => exact ⟨m + 1, by omega, by go_num, by rw [HS2.out]; simp, Below.on hB.out (bel_alloc _ _)⟩
        case measure => simp [intOf]; omega
      · have e2 : (v == n) = false := by simp [e]
        rw [e2] at HS2
        clear e
        go_wp2
        go_roundw
        case rel => exact ⟨m + 1, by omega, by go_num, by rw [HS2.out]; simp, Below.on hB.out (bel_alloc _ _)⟩
        case measure => simp [intOf]; omega
    · have : m = x.ns.length := by omega
      subst this
      go_wp2
      go_ret
      exact ⟨rfl, Below.on HB.out hB.out⟩
end Go.Proofs.YtcniahgcgfmhpaaGreat
/- The program's sameNode of a node and the zero one, isNumber, isThere, directoryAt. -/
namespace Go.Proofs.YtcniahgcgfmhpaaGreat
open Go.RowKit Go.PlainAid
set_option linter.unusedVariables false
theorem wpList_built {P : Program} {ops : Array Oper} {rest : List Oper} {o : Oper} {a : Act} {w : World} {Q : Exit → Act → World → Prop} (hg : o.guard = none) (t : TypeId) (parts : Array (Nat × Operand)) (ho : o.op = .build t parts)
    (vs : List (Nat × Value)) (hv : (parts.map fun (i, x) => (i, a.eval x)).toList = vs) (cs : Array Value) (hb : P.built t vs = some cs)
    (h : wpList P ops Q rest (a.put o.dst (.agg cs)) w) : wpList P ops Q (o :: rest) a w :=
  wpList_build hg t parts ho (by rw [hv, hb]; rfl) (by rw [hv, hb]; exact h)
theorem wpList_built2 {P : Program} {ops : Array Oper} {rest : List Oper} {o : Oper} {a : Act} {w : World} {Q : Exit → Act → World → Prop} (hg : o.guard = none) (t : TypeId) (x y : Operand) (ho : o.op = .build t #[(0, x), (1, y)])
    (u v : Value) (hx : a.eval x = u) (hy : a.eval y = v) (cs : Array Value) (hb : P.built t [(0, u), (1, v)] = some cs)
    (h : wpList P ops Q rest (a.put o.dst (.agg cs)) w) : wpList P ops Q (o :: rest) a w :=
  wpList_built hg t _ ho [(0, u), (1, v)] (by simp [hx, hy]) cs hb h
theorem results_two {fn : Func} {p u : Tmp} {ty : TypeId} (h : fn.results = #[.cell p ty, .tmp u]) {tmps : Array Value} {P : Program} {w : World} {a : Addr} {v b : Value} (ha : tmps.getD p undef = .pointer (some a)) (hu : tmps.getD u undef = b) (hl : (loadVar ty a).run P w = .ok v w) : (results fn tmps).run P w = .ok (.tuple #[v, b]) w := by
  rw [results_cell_tmp h, ha, hu]
  simp [asAddr, hl, Result.andThen]
theorem bl2TB (w : World) (o1 o2 : Obj) : (w.alloc o1).heap.size = w.heap.size + 1 := by simp
set_option maxRecDepth 20000 in
set_option maxHeartbeats 16000000 in
/-- impl.sameNode, of a node and the zero one. -/
theorem iSameN0_any (x : Nd) (y : Na) (hf : NdFit 1048576 x) (w : World) :
    Calls Tryz.prog 83 #[.agg (ndV x y).toArray, .agg (ndV ndZ naZ).toArray] w fun e w' => e = .returned (.bool x.z0) ∧ Below w.heap.size w w' := by
  have HK : Hid (NdFit 1048576 x) := hf
  have HE : Hid (x.z0 = (x.k == 0 && (x.ow == 0 && (x.gr == 0 && (x.ex == 0 && (!x.sh && (x.li == 0 && (x.up == 0 && ((x.bo.toList == []) && (x.A.E && (x.D.E && x.ns.length == 0))))))))))) := rfl
  have HX : Hid (BoxR ((w.alloc (.cells (ndV x y).toArray 45)).alloc (.cells (ndV ndZ naZ).toArray 45)) w.heap.size (ndV x y)) := (boxR_new w (ndV x y) 45).below (bel_alloc _ _)
  have HZ : Hid (BoxR ((w.alloc (.cells (ndV x y).toArray 45)).alloc (.cells (ndV ndZ naZ).toArray 45)) (w.heap.size + 1) (ndV ndZ naZ)) := (by
    have h := boxR_new (w.alloc (.cells (ndV x y).toArray 45)) (ndV ndZ naZ) 45
    simp only [World.size_alloc] at h
    exact h)
  have HB : Hid (Below w.heap.size w ((w.alloc (.cells (ndV x y).toArray 45)).alloc (.cells (ndV ndZ naZ).toArray 45))) := bl2T _ _ _
  have H3 : Hid (∀ w, Calls Tryz.prog 110 #[.slice y.nA x.ns.length y.nC, .slice none 0 0] w fun e w' => e = .returned (.bool (x.ns.length == 0)) ∧ w' = w) := (fun w => eqE_nil _ _ _ _ _ (by have := hf.nl; omega) w)
  have hbe : (x.bo.toList == []) = x.bo.toList.isEmpty := by cases x.bo.toList <;> rfl
  rw [hbe] at HE
  clear hf hbe
  cases hbo : x.bo.toList.isEmpty
  · rw [hbo] at HE
    go_enter Tryz.func83, Tryz.ntmps83
    go_upto_region 1 with fail
    generalize ((w.alloc (.cells (ndV x y).toArray 45)).alloc (.cells (ndV ndZ naZ).toArray 45)) = w0 at HX HZ HB ⊢
    obtain ⟨X, hX⟩ : ∃ X, X = w.heap.size := ⟨_, rfl⟩
    rw [← hX] at HX HZ ⊢
    clear hX
    have e0 := NB.c0 HX.out
    have e1 := NB.c1 HX.out
    have e2 := NB.c2 HX.out
    have e3 := NB.c3 HX.out
    have e4 := NB.c4 HX.out
    have e5 := NB.c5 HX.out
    have e6 := NB.c6 HX.out
    have e7 := NB.c7 HX.out
    have e8 := NB.c8 HX.out
    have e9 := NB.c9 HX.out
    have e10 := NB.c10 HX.out
    have e11 := NB.c11 HX.out
    have e12 := NB.c12 HX.out
    have e13 := NB.c13 HX.out
    have e14 := NB.c14 HX.out
    have e15 := NB.c15 HX.out
    have e16 := NB.c16 HX.out
    have e17 := NB.c17 HX.out
    have e18 := NB.c18 HX.out
    have e19 := NB.c19 HX.out
    have e20 := NB.c20 HX.out
    have e21 := NB.c21 HX.out
    have e22 := NB.c22 HX.out
    have z0 : w0.cell? ⟨X + 1, 0, none⟩ = some (.int .i64 0) := HZ.out.at0 0 _ rfl
    have z1 : w0.cell? ⟨X + 1, 1, none⟩ = some (.int .i64 0) := HZ.out.at0 1 _ rfl
    have z2 : w0.cell? ⟨X + 1, 2, none⟩ = some (.int .i64 0) := HZ.out.at0 2 _ rfl
    have z3 : w0.cell? ⟨X + 1, 3, none⟩ = some (.int .i64 0) := HZ.out.at0 3 _ rfl
    have z4 : w0.cell? ⟨X + 1, 4, none⟩ = some (.int .i64 0) := HZ.out.at0 4 _ rfl
    have z5 : w0.cell? ⟨X + 1, 5, none⟩ = some (.int .i64 0) := HZ.out.at0 5 _ rfl
    have z6 : w0.cell? ⟨X + 1, 6, none⟩ = some (.int .i64 0) := HZ.out.at0 6 _ rfl
    have z7 : w0.cell? ⟨X + 1, 7, none⟩ = some (.slice none 0 0) := HZ.out.at0 7 _ rfl
    have z8 : w0.cell? ⟨X + 1, 8, none⟩ = some (.slice none 0 0) := HZ.out.at0 8 _ rfl
    have z9 : w0.cell? ⟨X + 1, 9, none⟩ = some (.bool false) := HZ.out.at0 9 _ rfl
    have z10 : w0.cell? ⟨X + 1, 10, none⟩ = some (.int .i64 0) := HZ.out.at0 10 _ rfl
    have z11 : w0.cell? ⟨X + 1, 11, none⟩ = some (.bool false) := HZ.out.at0 11 _ rfl
    have z12 : w0.cell? ⟨X + 1, 12, none⟩ = some (.int .i64 0) := HZ.out.at0 12 _ rfl
    have z13 : w0.cell? ⟨X + 1, 13, none⟩ = some (.int .i64 0) := HZ.out.at0 13 _ rfl
    have z14 : w0.cell? ⟨X + 1, 14, none⟩ = some (.int .i64 0) := HZ.out.at0 14 _ rfl
    have z15 : w0.cell? ⟨X + 1, 15, none⟩ = some (.slice none 0 0) := HZ.out.at0 15 _ rfl
    have z16 : w0.cell? ⟨X + 1, 16, none⟩ = some (.slice none 0 0) := HZ.out.at0 16 _ rfl
    have z17 : w0.cell? ⟨X + 1, 17, none⟩ = some (.bool false) := HZ.out.at0 17 _ rfl
    have z18 : w0.cell? ⟨X + 1, 18, none⟩ = some (.int .i64 0) := HZ.out.at0 18 _ rfl
    have z19 : w0.cell? ⟨X + 1, 19, none⟩ = some (.int .i64 0) := HZ.out.at0 19 _ rfl
    have z20 : w0.cell? ⟨X + 1, 20, none⟩ = some (.int .i64 0) := HZ.out.at0 20 _ rfl
    have z21 : w0.cell? ⟨X + 1, 21, none⟩ = some (.string ⟨#[]⟩) := HZ.out.at0 21 _ rfl
    have z22 : w0.cell? ⟨X + 1, 22, none⟩ = some (.slice none 0 0) := HZ.out.at0 22 _ rfl
    go_wp2_with (first
      | (go_at_call_of 109 (Value.slice y.aU x.A.us.length y.cU); refine (iSameL0_any x.A _ _ _ _ HK.out.au HK.out.ag _).mono ?_; rintro e w1 ⟨rfl, hb⟩; replace HB : Hid (Below w.heap.size w w1) := Below.on HB.out hb; replace HX : Hid (BoxR w1 X (ndV x y)) := HX.out.below hb; replace HZ : Hid (BoxR w1 (X + 1) (ndV ndZ naZ)) := HZ.out.below hb; clear hb; replace e0 := NB.c0 HX.out; replace e1 := NB.c1 HX.out; replace e2 := NB.c2 HX.out; replace e3 := NB.c3 HX.out; replace e4 := NB.c4 HX.out; replace e5 := NB.c5 HX.out; replace e6 := NB.c6 HX.out; replace e7 := NB.c7 HX.out; replace e8 := NB.c8 HX.out; replace e9 := NB.c9 HX.out; replace e10 := NB.c10 HX.out; replace e11 := NB.c11 HX.out; replace e12 := NB.c12 HX.out; replace e13 := NB.c13 HX.out; replace e14 := NB.c14 HX.out; replace e15 := NB.c15 HX.out; replace e16 := NB.c16 HX.out; replace e17 := NB.c17 HX.out; replace e18 := NB.c18 HX.out; replace e19 := NB.c19 HX.out; replace e20 := NB.c20 HX.out; replace e21 := NB.c21 HX.out; replace e22 := NB.c22 HX.out; replace z0 : w1.cell? ⟨X + 1, 0, none⟩ = some (.int .i64 0) := HZ.out.at0 0 _ rfl; replace z1 : w1.cell? ⟨X + 1, 1, none⟩ = some (.int .i64 0) := HZ.out.at0 1 _ rfl; replace z2 : w1.cell? ⟨X + 1, 2, none⟩ = some (.int .i64 0) := HZ.out.at0 2 _ rfl; replace z3 : w1.cell? ⟨X + 1, 3, none⟩ = some (.int .i64 0) := HZ.out.at0 3 _ rfl; replace z4 : w1.cell? ⟨X + 1, 4, none⟩ = some (.int .i64 0) := HZ.out.at0 4 _ rfl; replace z5 : w1.cell? ⟨X + 1, 5, none⟩ = some (.int .i64 0) := HZ.out.at0 5 _ rfl; replace z6 : w1.cell? ⟨X + 1, 6, none⟩ = some (.int .i64 0) := HZ.out.at0 6 _ rfl; replace z7 : w1.cell? ⟨X + 1, 7, none⟩ = some (.slice none 0 0) := HZ.out.at0 7 _ rfl; replace z8 : w1.cell? ⟨X + 1, 8, none⟩ = some (.slice none 0 0) := HZ.out.at0 8 _ rfl; replace z9 : w1.cell? ⟨X + 1, 9, none⟩ = some (.bool false) := HZ.out.at0 9 _ rfl; replace z10 : w1.cell? ⟨X + 1, 10, none⟩ = some (.int .i64 0) := HZ.out.at0 10 _ rfl; replace z11 : w1.cell? ⟨X + 1, 11, none⟩ = some (.bool false) := HZ.out.at0 11 _ rfl; replace z12 : w1.cell? ⟨X + 1, 12, none⟩ = some (.int .i64 0) := HZ.out.at0 12 _ rfl; replace z13 : w1.cell? ⟨X + 1, 13, none⟩ = some (.int .i64 0) := HZ.out.at0 13 _ rfl; replace z14 : w1.cell? ⟨X + 1, 14, none⟩ = some (.int .i64 0) := HZ.out.at0 14 _ rfl; replace z15 : w1.cell? ⟨X + 1, 15, none⟩ = some (.slice none 0 0) := HZ.out.at0 15 _ rfl; replace z16 : w1.cell? ⟨X + 1, 16, none⟩ = some (.slice none 0 0) := HZ.out.at0 16 _ rfl; replace z17 : w1.cell? ⟨X + 1, 17, none⟩ = some (.bool false) := HZ.out.at0 17 _ rfl; replace z18 : w1.cell? ⟨X + 1, 18, none⟩ = some (.int .i64 0) := HZ.out.at0 18 _ rfl; replace z19 : w1.cell? ⟨X + 1, 19, none⟩ = some (.int .i64 0) := HZ.out.at0 19 _ rfl; replace z20 : w1.cell? ⟨X + 1, 20, none⟩ = some (.int .i64 0) := HZ.out.at0 20 _ rfl; replace z21 : w1.cell? ⟨X + 1, 21, none⟩ = some (.string ⟨#[]⟩) := HZ.out.at0 21 _ rfl; replace z22 : w1.cell? ⟨X + 1, 22, none⟩ = some (.slice none 0 0) := HZ.out.at0 22 _ rfl)
      | (go_at_call_of 109 (Value.slice y.dU x.D.us.length y.eU); refine (iSameL0_any x.D _ _ _ _ HK.out.du HK.out.dg _).mono ?_; rintro e w1 ⟨rfl, hb⟩; replace HB : Hid (Below w.heap.size w w1) := Below.on HB.out hb; replace HX : Hid (BoxR w1 X (ndV x y)) := HX.out.below hb; replace HZ : Hid (BoxR w1 (X + 1) (ndV ndZ naZ)) := HZ.out.below hb; clear hb; replace e0 := NB.c0 HX.out; replace e1 := NB.c1 HX.out; replace e2 := NB.c2 HX.out; replace e3 := NB.c3 HX.out; replace e4 := NB.c4 HX.out; replace e5 := NB.c5 HX.out; replace e6 := NB.c6 HX.out; replace e7 := NB.c7 HX.out; replace e8 := NB.c8 HX.out; replace e9 := NB.c9 HX.out; replace e10 := NB.c10 HX.out; replace e11 := NB.c11 HX.out; replace e12 := NB.c12 HX.out; replace e13 := NB.c13 HX.out; replace e14 := NB.c14 HX.out; replace e15 := NB.c15 HX.out; replace e16 := NB.c16 HX.out; replace e17 := NB.c17 HX.out; replace e18 := NB.c18 HX.out; replace e19 := NB.c19 HX.out; replace e20 := NB.c20 HX.out; replace e21 := NB.c21 HX.out; replace e22 := NB.c22 HX.out; replace z0 : w1.cell? ⟨X + 1, 0, none⟩ = some (.int .i64 0) := HZ.out.at0 0 _ rfl; replace z1 : w1.cell? ⟨X + 1, 1, none⟩ = some (.int .i64 0) := HZ.out.at0 1 _ rfl; replace z2 : w1.cell? ⟨X + 1, 2, none⟩ = some (.int .i64 0) := HZ.out.at0 2 _ rfl; replace z3 : w1.cell? ⟨X + 1, 3, none⟩ = some (.int .i64 0) := HZ.out.at0 3 _ rfl; replace z4 : w1.cell? ⟨X + 1, 4, none⟩ = some (.int .i64 0) := HZ.out.at0 4 _ rfl; replace z5 : w1.cell? ⟨X + 1, 5, none⟩ = some (.int .i64 0) := HZ.out.at0 5 _ rfl; replace z6 : w1.cell? ⟨X + 1, 6, none⟩ = some (.int .i64 0) := HZ.out.at0 6 _ rfl; replace z7 : w1.cell? ⟨X + 1, 7, none⟩ = some (.slice none 0 0) := HZ.out.at0 7 _ rfl; replace z8 : w1.cell? ⟨X + 1, 8, none⟩ = some (.slice none 0 0) := HZ.out.at0 8 _ rfl; replace z9 : w1.cell? ⟨X + 1, 9, none⟩ = some (.bool false) := HZ.out.at0 9 _ rfl; replace z10 : w1.cell? ⟨X + 1, 10, none⟩ = some (.int .i64 0) := HZ.out.at0 10 _ rfl; replace z11 : w1.cell? ⟨X + 1, 11, none⟩ = some (.bool false) := HZ.out.at0 11 _ rfl; replace z12 : w1.cell? ⟨X + 1, 12, none⟩ = some (.int .i64 0) := HZ.out.at0 12 _ rfl; replace z13 : w1.cell? ⟨X + 1, 13, none⟩ = some (.int .i64 0) := HZ.out.at0 13 _ rfl; replace z14 : w1.cell? ⟨X + 1, 14, none⟩ = some (.int .i64 0) := HZ.out.at0 14 _ rfl; replace z15 : w1.cell? ⟨X + 1, 15, none⟩ = some (.slice none 0 0) := HZ.out.at0 15 _ rfl; replace z16 : w1.cell? ⟨X + 1, 16, none⟩ = some (.slice none 0 0) := HZ.out.at0 16 _ rfl; replace z17 : w1.cell? ⟨X + 1, 17, none⟩ = some (.bool false) := HZ.out.at0 17 _ rfl; replace z18 : w1.cell? ⟨X + 1, 18, none⟩ = some (.int .i64 0) := HZ.out.at0 18 _ rfl; replace z19 : w1.cell? ⟨X + 1, 19, none⟩ = some (.int .i64 0) := HZ.out.at0 19 _ rfl; replace z20 : w1.cell? ⟨X + 1, 20, none⟩ = some (.int .i64 0) := HZ.out.at0 20 _ rfl; replace z21 : w1.cell? ⟨X + 1, 21, none⟩ = some (.string ⟨#[]⟩) := HZ.out.at0 21 _ rfl; replace z22 : w1.cell? ⟨X + 1, 22, none⟩ = some (.slice none 0 0) := HZ.out.at0 22 _ rfl)
      | (go_at_call 110; refine (H3.out _).mono ?_; rintro e w2 ⟨rfl, rfl⟩))
    all_goals go_ret
    all_goals (refine ⟨ret_boolW ?_, HB.out⟩; rw [HE.out]; first | (simp [*]; done) | (simp only [bne_iff_ne, ne_eq, bne_eq_false_iff_eq] at *; simp [*]))
  · rw [hbo] at HE
    go_enter Tryz.func83, Tryz.ntmps83
    go_upto_region 1 with fail
    generalize ((w.alloc (.cells (ndV x y).toArray 45)).alloc (.cells (ndV ndZ naZ).toArray 45)) = w0 at HX HZ HB ⊢
    obtain ⟨X, hX⟩ : ∃ X, X = w.heap.size := ⟨_, rfl⟩
    rw [← hX] at HX HZ ⊢
    clear hX
    have e0 := NB.c0 HX.out
    have e1 := NB.c1 HX.out
    have e2 := NB.c2 HX.out
    have e3 := NB.c3 HX.out
    have e4 := NB.c4 HX.out
    have e5 := NB.c5 HX.out
    have e6 := NB.c6 HX.out
    have e7 := NB.c7 HX.out
    have e8 := NB.c8 HX.out
    have e9 := NB.c9 HX.out
    have e10 := NB.c10 HX.out
    have e11 := NB.c11 HX.out
    have e12 := NB.c12 HX.out
    have e13 := NB.c13 HX.out
    have e14 := NB.c14 HX.out
    have e15 := NB.c15 HX.out
    have e16 := NB.c16 HX.out
    have e17 := NB.c17 HX.out
    have e18 := NB.c18 HX.out
    have e19 := NB.c19 HX.out
    have e20 := NB.c20 HX.out
    have e21 := NB.c21 HX.out
    have e22 := NB.c22 HX.out
    have z0 : w0.cell? ⟨X + 1, 0, none⟩ = some (.int .i64 0) := HZ.out.at0 0 _ rfl
    have z1 : w0.cell? ⟨X + 1, 1, none⟩ = some (.int .i64 0) := HZ.out.at0 1 _ rfl
    have z2 : w0.cell? ⟨X + 1, 2, none⟩ = some (.int .i64 0) := HZ.out.at0 2 _ rfl
    have z3 : w0.cell? ⟨X + 1, 3, none⟩ = some (.int .i64 0) := HZ.out.at0 3 _ rfl
    have z4 : w0.cell? ⟨X + 1, 4, none⟩ = some (.int .i64 0) := HZ.out.at0 4 _ rfl
    have z5 : w0.cell? ⟨X + 1, 5, none⟩ = some (.int .i64 0) := HZ.out.at0 5 _ rfl
    have z6 : w0.cell? ⟨X + 1, 6, none⟩ = some (.int .i64 0) := HZ.out.at0 6 _ rfl
    have z7 : w0.cell? ⟨X + 1, 7, none⟩ = some (.slice none 0 0) := HZ.out.at0 7 _ rfl
    have z8 : w0.cell? ⟨X + 1, 8, none⟩ = some (.slice none 0 0) := HZ.out.at0 8 _ rfl
    have z9 : w0.cell? ⟨X + 1, 9, none⟩ = some (.bool false) := HZ.out.at0 9 _ rfl
    have z10 : w0.cell? ⟨X + 1, 10, none⟩ = some (.int .i64 0) := HZ.out.at0 10 _ rfl
    have z11 : w0.cell? ⟨X + 1, 11, none⟩ = some (.bool false) := HZ.out.at0 11 _ rfl
    have z12 : w0.cell? ⟨X + 1, 12, none⟩ = some (.int .i64 0) := HZ.out.at0 12 _ rfl
    have z13 : w0.cell? ⟨X + 1, 13, none⟩ = some (.int .i64 0) := HZ.out.at0 13 _ rfl
    have z14 : w0.cell? ⟨X + 1, 14, none⟩ = some (.int .i64 0) := HZ.out.at0 14 _ rfl
    have z15 : w0.cell? ⟨X + 1, 15, none⟩ = some (.slice none 0 0) := HZ.out.at0 15 _ rfl
    have z16 : w0.cell? ⟨X + 1, 16, none⟩ = some (.slice none 0 0) := HZ.out.at0 16 _ rfl
    have z17 : w0.cell? ⟨X + 1, 17, none⟩ = some (.bool false) := HZ.out.at0 17 _ rfl
    have z18 : w0.cell? ⟨X + 1, 18, none⟩ = some (.int .i64 0) := HZ.out.at0 18 _ rfl
    have z19 : w0.cell? ⟨X + 1, 19, none⟩ = some (.int .i64 0) := HZ.out.at0 19 _ rfl
    have z20 : w0.cell? ⟨X + 1, 20, none⟩ = some (.int .i64 0) := HZ.out.at0 20 _ rfl
    have z21 : w0.cell? ⟨X + 1, 21, none⟩ = some (.string ⟨#[]⟩) := HZ.out.at0 21 _ rfl
    have z22 : w0.cell? ⟨X + 1, 22, none⟩ = some (.slice none 0 0) := HZ.out.at0 22 _ rfl
    go_wp2_with (first
      | (go_at_call_of 109 (Value.slice y.aU x.A.us.length y.cU); refine (iSameL0_any x.A _ _ _ _ HK.out.au HK.out.ag _).mono ?_; rintro e w1 ⟨rfl, hb⟩; replace HB : Hid (Below w.heap.size w w1) := Below.on HB.out hb; replace HX : Hid (BoxR w1 X (ndV x y)) := HX.out.below hb; replace HZ : Hid (BoxR w1 (X + 1) (ndV ndZ naZ)) := HZ.out.below hb; clear hb; replace e0 := NB.c0 HX.out; replace e1 := NB.c1 HX.out; replace e2 := NB.c2 HX.out; replace e3 := NB.c3 HX.out; replace e4 := NB.c4 HX.out; replace e5 := NB.c5 HX.out; replace e6 := NB.c6 HX.out; replace e7 := NB.c7 HX.out; replace e8 := NB.c8 HX.out; replace e9 := NB.c9 HX.out; replace e10 := NB.c10 HX.out; replace e11 := NB.c11 HX.out; replace e12 := NB.c12 HX.out; replace e13 := NB.c13 HX.out; replace e14 := NB.c14 HX.out; replace e15 := NB.c15 HX.out; replace e16 := NB.c16 HX.out; replace e17 := NB.c17 HX.out; replace e18 := NB.c18 HX.out; replace e19 := NB.c19 HX.out; replace e20 := NB.c20 HX.out; replace e21 := NB.c21 HX.out; replace e22 := NB.c22 HX.out; replace z0 : w1.cell? ⟨X + 1, 0, none⟩ = some (.int .i64 0) := HZ.out.at0 0 _ rfl; replace z1 : w1.cell? ⟨X + 1, 1, none⟩ = some (.int .i64 0) := HZ.out.at0 1 _ rfl; replace z2 : w1.cell? ⟨X + 1, 2, none⟩ = some (.int .i64 0) := HZ.out.at0 2 _ rfl; replace z3 : w1.cell? ⟨X + 1, 3, none⟩ = some (.int .i64 0) := HZ.out.at0 3 _ rfl; replace z4 : w1.cell? ⟨X + 1, 4, none⟩ = some (.int .i64 0) := HZ.out.at0 4 _ rfl; replace z5 : w1.cell? ⟨X + 1, 5, none⟩ = some (.int .i64 0) := HZ.out.at0 5 _ rfl; replace z6 : w1.cell? ⟨X + 1, 6, none⟩ = some (.int .i64 0) := HZ.out.at0 6 _ rfl; replace z7 : w1.cell? ⟨X + 1, 7, none⟩ = some (.slice none 0 0) := HZ.out.at0 7 _ rfl; replace z8 : w1.cell? ⟨X + 1, 8, none⟩ = some (.slice none 0 0) := HZ.out.at0 8 _ rfl; replace z9 : w1.cell? ⟨X + 1, 9, none⟩ = some (.bool false) := HZ.out.at0 9 _ rfl; replace z10 : w1.cell? ⟨X + 1, 10, none⟩ = some (.int .i64 0) := HZ.out.at0 10 _ rfl; replace z11 : w1.cell? ⟨X + 1, 11, none⟩ = some (.bool false) := HZ.out.at0 11 _ rfl; replace z12 : w1.cell? ⟨X + 1, 12, none⟩ = some (.int .i64 0) := HZ.out.at0 12 _ rfl; replace z13 : w1.cell? ⟨X + 1, 13, none⟩ = some (.int .i64 0) := HZ.out.at0 13 _ rfl; replace z14 : w1.cell? ⟨X + 1, 14, none⟩ = some (.int .i64 0) := HZ.out.at0 14 _ rfl; replace z15 : w1.cell? ⟨X + 1, 15, none⟩ = some (.slice none 0 0) := HZ.out.at0 15 _ rfl; replace z16 : w1.cell? ⟨X + 1, 16, none⟩ = some (.slice none 0 0) := HZ.out.at0 16 _ rfl; replace z17 : w1.cell? ⟨X + 1, 17, none⟩ = some (.bool false) := HZ.out.at0 17 _ rfl; replace z18 : w1.cell? ⟨X + 1, 18, none⟩ = some (.int .i64 0) := HZ.out.at0 18 _ rfl; replace z19 : w1.cell? ⟨X + 1, 19, none⟩ = some (.int .i64 0) := HZ.out.at0 19 _ rfl; replace z20 : w1.cell? ⟨X + 1, 20, none⟩ = some (.int .i64 0) := HZ.out.at0 20 _ rfl; replace z21 : w1.cell? ⟨X + 1, 21, none⟩ = some (.string ⟨#[]⟩) := HZ.out.at0 21 _ rfl; replace z22 : w1.cell? ⟨X + 1, 22, none⟩ = some (.slice none 0 0) := HZ.out.at0 22 _ rfl)
      | (go_at_call_of 109 (Value.slice y.dU x.D.us.length y.eU); refine (iSameL0_any x.D _ _ _ _ HK.out.du HK.out.dg _).mono ?_; rintro e w1 ⟨rfl, hb⟩; replace HB : Hid (Below w.heap.size w w1) := Below.on HB.out hb; replace HX : Hid (BoxR w1 X (ndV x y)) := HX.out.below hb; replace HZ : Hid (BoxR w1 (X + 1) (ndV ndZ naZ)) := HZ.out.below hb; clear hb; replace e0 := NB.c0 HX.out; replace e1 := NB.c1 HX.out; replace e2 := NB.c2 HX.out; replace e3 := NB.c3 HX.out; replace e4 := NB.c4 HX.out; replace e5 := NB.c5 HX.out; replace e6 := NB.c6 HX.out; replace e7 := NB.c7 HX.out; replace e8 := NB.c8 HX.out; replace e9 := NB.c9 HX.out; replace e10 := NB.c10 HX.out; replace e11 := NB.c11 HX.out; replace e12 := NB.c12 HX.out; replace e13 := NB.c13 HX.out; replace e14 := NB.c14 HX.out; replace e15 := NB.c15 HX.out; replace e16 := NB.c16 HX.out; replace e17 := NB.c17 HX.out; replace e18 := NB.c18 HX.out; replace e19 := NB.c19 HX.out; replace e20 := NB.c20 HX.out; replace e21 := NB.c21 HX.out; replace e22 := NB.c22 HX.out; replace z0 : w1.cell? ⟨X + 1, 0, none⟩ = some (.int .i64 0) := HZ.out.at0 0 _ rfl; replace z1 : w1.cell? ⟨X + 1, 1, none⟩ = some (.int .i64 0) := HZ.out.at0 1 _ rfl; replace z2 : w1.cell? ⟨X + 1, 2, none⟩ = some (.int .i64 0) := HZ.out.at0 2 _ rfl; replace z3 : w1.cell? ⟨X + 1, 3, none⟩ = some (.int .i64 0) := HZ.out.at0 3 _ rfl; replace z4 : w1.cell? ⟨X + 1, 4, none⟩ = some (.int .i64 0) := HZ.out.at0 4 _ rfl; replace z5 : w1.cell? ⟨X + 1, 5, none⟩ = some (.int .i64 0) := HZ.out.at0 5 _ rfl; replace z6 : w1.cell? ⟨X + 1, 6, none⟩ = some (.int .i64 0) := HZ.out.at0 6 _ rfl; replace z7 : w1.cell? ⟨X + 1, 7, none⟩ = some (.slice none 0 0) := HZ.out.at0 7 _ rfl; replace z8 : w1.cell? ⟨X + 1, 8, none⟩ = some (.slice none 0 0) := HZ.out.at0 8 _ rfl; replace z9 : w1.cell? ⟨X + 1, 9, none⟩ = some (.bool false) := HZ.out.at0 9 _ rfl; replace z10 : w1.cell? ⟨X + 1, 10, none⟩ = some (.int .i64 0) := HZ.out.at0 10 _ rfl; replace z11 : w1.cell? ⟨X + 1, 11, none⟩ = some (.bool false) := HZ.out.at0 11 _ rfl; replace z12 : w1.cell? ⟨X + 1, 12, none⟩ = some (.int .i64 0) := HZ.out.at0 12 _ rfl; replace z13 : w1.cell? ⟨X + 1, 13, none⟩ = some (.int .i64 0) := HZ.out.at0 13 _ rfl; replace z14 : w1.cell? ⟨X + 1, 14, none⟩ = some (.int .i64 0) := HZ.out.at0 14 _ rfl; replace z15 : w1.cell? ⟨X + 1, 15, none⟩ = some (.slice none 0 0) := HZ.out.at0 15 _ rfl; replace z16 : w1.cell? ⟨X + 1, 16, none⟩ = some (.slice none 0 0) := HZ.out.at0 16 _ rfl; replace z17 : w1.cell? ⟨X + 1, 17, none⟩ = some (.bool false) := HZ.out.at0 17 _ rfl; replace z18 : w1.cell? ⟨X + 1, 18, none⟩ = some (.int .i64 0) := HZ.out.at0 18 _ rfl; replace z19 : w1.cell? ⟨X + 1, 19, none⟩ = some (.int .i64 0) := HZ.out.at0 19 _ rfl; replace z20 : w1.cell? ⟨X + 1, 20, none⟩ = some (.int .i64 0) := HZ.out.at0 20 _ rfl; replace z21 : w1.cell? ⟨X + 1, 21, none⟩ = some (.string ⟨#[]⟩) := HZ.out.at0 21 _ rfl; replace z22 : w1.cell? ⟨X + 1, 22, none⟩ = some (.slice none 0 0) := HZ.out.at0 22 _ rfl)
      | (go_at_call 110; refine (H3.out _).mono ?_; rintro e w2 ⟨rfl, rfl⟩))
    all_goals go_ret
    all_goals (refine ⟨ret_boolW ?_, HB.out⟩; rw [HE.out]; first | (simp [*]; done) | (simp only [bne_iff_ne, ne_eq, bne_eq_false_iff_eq] at *; simp [*]))
end Go.Proofs.YtcniahgcgfmhpaaGreat
