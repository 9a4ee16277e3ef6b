/- Laid together: Box7, TreeSz, TreeEq. -/
import Derived.Test.YtgodbelcddgdmaaGreatNF2
import Derived.Test.YtgodbelcddgdmaaGreatNF3
import Derived.Deep.Cut
import Derived.Deep.RegionHeld3
/- Seven cells of a block. -/
namespace Go.Proofs.YtgodbelcddgdmaaGreat
open Go.RowKit Go.PlainAid
set_option linter.unusedVariables false
/-- Seven cells of a block. -/
structure Box7 (w : World) (B : Nat) (v0 v1 v2 v3 v4 v5 v6 : Value) : Prop where
  lt : B < w.heap.size
  c0 : w.cell? ⟨B, 0, none⟩ = some v0
  c1 : w.cell? ⟨B, 1, none⟩ = some v1
  c2 : w.cell? ⟨B, 2, none⟩ = some v2
  c3 : w.cell? ⟨B, 3, none⟩ = some v3
  c4 : w.cell? ⟨B, 4, none⟩ = some v4
  c5 : w.cell? ⟨B, 5, none⟩ = some v5
  c6 : w.cell? ⟨B, 6, none⟩ = some v6
theorem Box7.keep {w w' : World} {B : Nat} {v0 v1 v2 v3 v4 v5 v6 : Value} (h : Box7 w B v0 v1 v2 v3 v4 v5 v6) (hlt : B < w'.heap.size) (hc : ∀ o, w'.cell? ⟨B, o, none⟩ = w.cell? ⟨B, o, none⟩) : Box7 w' B v0 v1 v2 v3 v4 v5 v6 :=
  ⟨hlt, (hc 0).trans h.c0, (hc 1).trans h.c1, (hc 2).trans h.c2, (hc 3).trans h.c3, (hc 4).trans h.c4, (hc 5).trans h.c5, (hc 6).trans h.c6⟩
theorem Box7.below {w w' : World} {B : Nat} {v0 v1 v2 v3 v4 v5 v6 : Value} (h : Box7 w B v0 v1 v2 v3 v4 v5 v6) (hb : Below w.heap.size w w') : Box7 w' B v0 v1 v2 v3 v4 v5 v6 :=
  h.keep (Nat.lt_of_lt_of_le h.lt hb.size) (fun o => hb.cell (p := ⟨B, o, none⟩) h.lt)
theorem box7_new (w : World) (v0 v1 v2 v3 v4 v5 v6 : Value) (t : TypeId) : Box7 (w.alloc (.cells #[v0, v1, v2, v3, v4, v5, v6] t)) w.heap.size v0 v1 v2 v3 v4 v5 v6 := by
  have hb : (w.alloc (.cells #[v0, v1, v2, v3, v4, v5, v6] t)).heap[w.heap.size]? = some (.cells #[v0, v1, v2, v3, v4, v5, v6] t) := by
    rw [World.alloc]
    exact Array.getElem?_push_size
  refine ⟨by simp, ?_, ?_, ?_, ?_, ?_, ?_, ?_⟩ <;> (simp only [World.cell?, hb]; rfl)
theorem bel_alloc (w : World) (o : Obj) : Below w.heap.size w (w.alloc o) := (Below.refl _ _).alloc (Nat.le_refl _) _
theorem Below.on {w w1 w2 : World} (h1 : Below w.heap.size w w1) (h2 : Below w1.heap.size w1 w2) : Below w.heap.size w w2 := h1.trans (h2.mono h1.size)
theorem Below.onA {w w1 : World} {o : Obj} (h1 : Below w.heap.size w w1) : Below w.heap.size w (w1.alloc o) := h1.trans ((bel_alloc w1 o).mono h1.size)
theorem Box7.set3 {w : World} {B : Nat} {v0 v1 v2 v3 v4 v5 v6 v : Value} (h : Box7 w B v0 v1 v2 v3 v4 v5 v6) : Box7 (w.setCell ⟨B, 3, none⟩ v) B v0 v1 v2 v v4 v5 v6 := by
  obtain ⟨hl, c0, c1, c2, c3, c4, c5, c6⟩ := h
  refine ⟨by simpa using hl, ?_, ?_, ?_, ?_, ?_, ?_, ?_⟩ <;> simp [go_sem, *]
theorem Box7.other {w : World} {B b o : Nat} {v0 v1 v2 v3 v4 v5 v6 v : Value} (h : Box7 w B v0 v1 v2 v3 v4 v5 v6) (hne : b ≠ B) : Box7 (w.setCell ⟨b, o, none⟩ v) B v0 v1 v2 v3 v4 v5 v6 :=
  h.keep (by simpa using h.lt) (fun o2 => World.cell?_setCell_other _ _ _ _ (by intro h; have h2 := congrArg Addr.block h; simp only at h2; omega))
/-- The lists and texts of a node are no longer than n. -/
structure NdFit (n : Nat) (x : Nd) : Prop where
  au : x.A.us.length ≤ n
  ag : x.A.gs.length ≤ n
  du : x.D.us.length ≤ n
  dg : x.D.gs.length ≤ n
  bo : x.bo.size ≤ n
  nl : x.ns.length ≤ n
  nm : ∀ i, i < x.ns.length → (nmAt x.ns i).size ≤ n
set_option maxHeartbeats 1000000 in
theorem szEntry_any (s : ByteArray) (y left : Int) (h0 : 0 ≤ left) (h1 : left ≤ 1048576) (hs : s.size ≤ 9223372036854775807) (w : World) :
    Calls Tryz.prog 69 #[.agg #[.string s, .int .i64 y], .int .i64 left] w fun e w' => e = .returned (.int .i64 (if left < (s.size : Int) then -1 else left - s.size)) ∧ Below w.heap.size w w' := by
  by_cases hl : left < (s.size : Int)
  · rw [if_pos hl]
    have d1 : left - (s.size : Int) < 0 := by omega
    go_enter Tryz.func69, Tryz.ntmps69
    go_wp2
    go_ret
    exact ⟨rfl, bel_alloc _ _⟩
  · rw [if_neg hl]
    have d1 : decide (left - (s.size : Int) < 0) = false := by simp; omega
    go_enter Tryz.func69, Tryz.ntmps69
    go_wp2
    go_ret
    exact ⟨rfl, bel_alloc _ _⟩
end Go.Proofs.YtgodbelcddgdmaaGreat
/- laws.eqEntry, eqEntryS, eqNode, eqNodeS, eqTree of two that hold the same. -/
namespace Go.Proofs.YtgodbelcddgdmaaGreat
open Go.RowKit Go.PlainAid Go.Deep
set_option linter.unusedVariables false
theorem quiet_load_mid {P : Program} {o : Oper} {a : Act} {C : World → Prop} {K : Act → Prop} (ty : TypeId) (x : Operand) (h : o.op = .load ty x) (b off : Nat) (hx : a.eval x = .pointer (some ⟨b, off, none⟩)) (cs : List Value) (d : TypeDesc) (hC : ∀ w, C w → w.rangeAt b off cs)
    (hu : P.underlying ty = some d) (hd : d.isRow = true) (hi : (P.info? ty).map (·.size) = some cs.length) (hk : K (a.put o.dst (.agg cs.toArray))) : o.quiet P a C K :=
  ⟨_, fun w hw => by
    unfold Oper.quietAt execOp
    simp only [h, hx, Instr.loadAt, Instr.sureAddr, Sem.run_bind, Sem.run_pure, Result.andThen_ok, run_loadVar_mid w b off ty cs d (hC w hw) hu hd hi]
    exact ⟨rfl, rfl⟩, hk⟩
theorem range_regrown {w : World} {b o : Nat} {cs : List Value} (h : w.rangeAt b o cs) : ∀ w', (∃ p : Regrown, w' = Go.Sort.grow (redrawn w p.d) p.os) → w'.rangeAt b o cs := by
  rintro w' ⟨p, rfl⟩ j v hv
  exact cell_regrown (h j v hv) p.d p.os
theorem bl2T (w : World) (o1 o2 : Obj) : Below w.heap.size w ((w.alloc o1).alloc o2) := ((Below.refl _ _).alloc (Nat.le_refl _) _).alloc (by simp) _
theorem eqEntry_same (x : ByteArray) (y : Int) (w : World) :
    Calls Tryz.prog 44 #[.agg #[.string x, .int .i64 y], .agg #[.string x, .int .i64 y]] w fun e w' => e = .returned (.bool true) ∧ Below w.heap.size w w' := by
  have hbb : (x.toList != x.toList) = false := by simp
  go_enter Tryz.func44, Tryz.ntmps44
  go_wp2
  go_ret
  exact ⟨rfl, bl2T _ _ _⟩
set_option maxHeartbeats 2000000 in
theorem eqEntryS_none (a a2 : Option Addr) (cap cap2 : Nat) (w : World) :
    Calls Tryz.prog 22 #[.slice a 0 cap, .slice a2 0 cap2] w fun e w' => e = .returned (.bool true) ∧ Below w.heap.size w w' := by
  go_enter Tryz.func22, Tryz.ntmps22
  go_wp2
  go_rounds 1
  go_ret
  exact ⟨rfl, Below.refl _ _⟩
set_option maxHeartbeats 2000000 in
theorem eqEntryS_some (b off b2 off2 len cap cap2 : Nat) (l : List (ByteArray × Int)) (hl : len ≤ 1048576) (w : World) (hb : b < w.heap.size) (hb2 : b2 < w.heap.size)
    (hc : Hid (∀ i, i < len → w.cell? ⟨b, off + i * 2, none⟩ = some (.string (nmAt l i)) ∧ w.cell? ⟨b, off + i * 2 + 1, none⟩ = some (.int .i64 (noAt l i))))
    (hc2 : Hid (∀ i, i < len → w.cell? ⟨b2, off2 + i * 2, none⟩ = some (.string (nmAt l i)) ∧ w.cell? ⟨b2, off2 + i * 2 + 1, none⟩ = some (.int .i64 (noAt l i)))) :
    Calls Tryz.prog 22 #[.slice (some ⟨b, off, none⟩) len cap, .slice (some ⟨b2, off2, none⟩) len cap2] w fun e w' => e = .returned (.bool true) ∧ Below w.heap.size w w' := by
  go_enter Tryz.func22, Tryz.ntmps22
  go_wp2
  go_loopw [5] (fun i wr => ∃ (k : Nat), k ≤ len ∧ i = .int .i64 k ∧ Hid (Below w.heap.size w wr)) (fun i _ => len - (intOf i).toNat)
  case atStart => exact ⟨0, Nat.zero_le _, rfl, Below.refl _ _⟩
  case round =>
    obtain ⟨k, hk, rfl, hB⟩ := hrel
    by_cases hlt : k < len
    · have g0 : ∀ d os, (Go.Sort.grow (redrawn wr d) os).cell? ⟨b, off + k * 2, none⟩ = some (.string (nmAt l k)) := fun d os => cell_regrown ((hB.out.cell (p := ⟨b, off + k * 2, none⟩) hb).trans (hc.out k hlt).1) d os
      have g1 : ∀ d os, (Go.Sort.grow (redrawn wr d) os).cell? ⟨b, off + k * 2 + 1, none⟩ = some (.int .i64 (noAt l k)) := fun d os => cell_regrown ((hB.out.cell (p := ⟨b, off + k * 2 + 1, none⟩) hb).trans (hc.out k hlt).2) d os
      have g2 : ∀ d os, (Go.Sort.grow (redrawn wr d) os).cell? ⟨b2, off2 + k * 2, none⟩ = some (.string (nmAt l k)) := fun d os => cell_regrown ((hB.out.cell (p := ⟨b2, off2 + k * 2, none⟩) hb2).trans (hc2.out k hlt).1) d os
      have g3 : ∀ d os, (Go.Sort.grow (redrawn wr d) os).cell? ⟨b2, off2 + k * 2 + 1, none⟩ = some (.int .i64 (noAt l k)) := fun d os => cell_regrown ((hB.out.cell (p := ⟨b2, off2 + k * 2 + 1, none⟩) hb2).trans (hc2.out k hlt).2) d os
      have cA : ∀ w d os, Calls Tryz.prog 44 #[.agg #[.string (nmAt l k), .int .i64 (noAt l k)], .agg #[.string (nmAt l k), .int .i64 (noAt l k)]] (Go.Sort.grow (redrawn w d) os) fun e w'' => e = .returned (.bool true) ∧ ∃ p : Regrown, w'' = Go.Sort.grow (redrawn w p.d) p.os := fun w d os => Calls.regrown_of (eqEntry_same _ _ _)
      have hlt' : (k : Int) < (len : Int) := by omega
      go_wp2
      refine wp_region_quiet_below (by kernel_rfl) (by kernel_rfl) ?_
      repeat (go_big_quiet_step (exact cA _ _ _))
      refine wpQuiet_nil ?_
      intro _ hw'
      obtain ⟨⟨dq, osq⟩, hw''⟩ := hw'
      subst hw''
      have hbq : Hid (Below w.heap.size w (Go.Sort.grow (redrawn wr dq) osq)) := hB.out.trans ((below_regrown wr dq osq).mono hB.out.size)
      generalize Go.Sort.grow (redrawn wr dq) osq = w1 at hbq ⊢
      clear g0 g1 g2 g3 cA
      go_wp2
      go_roundw
      case rel => exact ⟨k + 1, by omega, by go_num, hbq⟩
      case measure => simp [intOf]; omega
    · have : k = len := by omega
      subst this
      go_wp2
      go_ret
      exact ⟨rfl, hB.out⟩
/-- laws.eqEntryS of two lists that hold the same. -/
theorem eqEntryS_any (a a2 : Option Addr) (len cap cap2 : Nat) (l : List (ByteArray × Int)) (hl : len ≤ 1048576) (w : World) (h1 : Ens a len l w) (h2 : Ens a2 len l w) :
    Calls Tryz.prog 22 #[.slice a len cap, .slice a2 len cap2] w fun e w' => e = .returned (.bool true) ∧ Below w.heap.size w w' := by
  by_cases h0 : len = 0
  · subst h0
    exact eqEntryS_none a a2 cap cap2 w
  · obtain ⟨b, off, rfl, hb, hc⟩ := h1.2 (by omega)
    obtain ⟨b2, off2, rfl, hb2, hc2⟩ := h2.2 (by omega)
    exact eqEntryS_some b off b2 off2 len cap cap2 l hl w hb hb2 hc hc2

set_option maxRecDepth 20000 in
set_option maxHeartbeats 4000000 in
/-- laws.eqNode of two that hold the same. -/
theorem eqNode_any (x : Nd) (y y2 : Na) (hf : NdFit 1048576 x) (w : World) (hi : NdIn w x y) (hi2 : NdIn w x y2) :
    Calls Tryz.prog 8 #[.agg (ndV x y).toArray, .agg (ndV x y2).toArray] w fun e w' => e = .returned (.bool true) ∧ Below w.heap.size w w' := by
  have HF : Hid (NdFit 1048576 x) := hf
  have HI : Hid (NdIn w x y) := hi
  have HJ : Hid (NdIn w x y2) := hi2
  clear hf hi hi2
  have HX : Hid (BoxR ((w.alloc (.cells (ndV x y).toArray 31)).alloc (.cells (ndV x y2).toArray 31)) w.heap.size (ndV x y)) := (boxR_new w (ndV x y) 31).below (bel_alloc _ _)
  have HZ : Hid (BoxR ((w.alloc (.cells (ndV x y).toArray 31)).alloc (.cells (ndV x y2).toArray 31)) (w.heap.size + 1) (ndV x y2)) := (by
    have h := boxR_new (w.alloc (.cells (ndV x y).toArray 31)) (ndV x y2) 31
    simp only [World.size_alloc] at h
    exact h)
  have HB : Hid (Below w.heap.size w ((w.alloc (.cells (ndV x y).toArray 31)).alloc (.cells (ndV x y2).toArray 31))) := bl2T _ _ _
  have f1 : (x.sh != x.sh) = false := by simp
  have f2 : (x.bo.toList != x.bo.toList) = false := by simp
  go_enter Tryz.func8, Tryz.ntmps8
  go_upto_region 1 with fail
  generalize ((w.alloc (.cells (ndV x y).toArray 31)).alloc (.cells (ndV x y2).toArray 31)) = w0 at HX HZ HB ⊢
  obtain ⟨X, hX⟩ : ∃ X, X = w.heap.size := ⟨_, rfl⟩
  rw [← hX] at HX HZ ⊢
  clear hX
  have e0 := N24.c0 HX.out.at0
  have g0 := N24.c0 HZ.out.at0
  have e1 := N24.c1 HX.out.at0
  have g1 := N24.c1 HZ.out.at0
  have e2 := N24.c2 HX.out.at0
  have g2 := N24.c2 HZ.out.at0
  have e3 := N24.c3 HX.out.at0
  have g3 := N24.c3 HZ.out.at0
  have e4 := N24.c4 HX.out.at0
  have g4 := N24.c4 HZ.out.at0
  have e5 := N24.c5 HX.out.at0
  have g5 := N24.c5 HZ.out.at0
  have e6 := N24.c6 HX.out.at0
  have g6 := N24.c6 HZ.out.at0
  have e7 := N24.c7 HX.out.at0
  have g7 := N24.c7 HZ.out.at0
  have e8 := N24.c8 HX.out.at0
  have g8 := N24.c8 HZ.out.at0
  have e9 := N24.c9 HX.out.at0
  have g9 := N24.c9 HZ.out.at0
  have e10 := N24.c10 HX.out.at0
  have g10 := N24.c10 HZ.out.at0
  simp only [Nat.zero_add] at e0 g0 e1 g1 e2 g2 e3 g3 e4 g4 e5 g5 e6 g6 e7 g7 e8 g8 e9 g9 e10 g10
  go_wp2_with fail
  refine (eqAcl_any x.A.u x.A.g x.A.o _ _ _ _ _ _ _ _ _ _ x.A.r x.A.m x.A.us x.A.gs HF.out.au HF.out.ag _ (HI.out.aU.below HB.out) (HJ.out.aU.below HB.out) (HI.out.aG.below HB.out) (HJ.out.aG.below HB.out)).mono ?_
  rintro e w1 ⟨rfl, hb⟩
  have HB1 : Hid (Below w.heap.size w w1) := Below.on HB.out hb
  have HX1 : Hid (BoxR w1 X (ndV x y)) := HX.out.below hb
  have HZ1 : Hid (BoxR w1 (X + 1) (ndV x y2)) := HZ.out.below hb
  clear e0 g0 e1 g1 e2 g2 e3 g3 e4 g4 e5 g5 e6 g6 e7 g7 e8 g8 e9 g9 e10 g10
  clear hb HB HX HZ
  have HB := HB1
  have HX := HX1
  have HZ := HZ1
  clear HB1 HX1 HZ1
  have e11 := N24.c11 HX.out.at0
  have g11 := N24.c11 HZ.out.at0
  have e12 := N24.c12 HX.out.at0
  have g12 := N24.c12 HZ.out.at0
  have e13 := N24.c13 HX.out.at0
  have g13 := N24.c13 HZ.out.at0
  have e14 := N24.c14 HX.out.at0
  have g14 := N24.c14 HZ.out.at0
  have e15 := N24.c15 HX.out.at0
  have g15 := N24.c15 HZ.out.at0
  have e16 := N24.c16 HX.out.at0
  have g16 := N24.c16 HZ.out.at0
  have e17 := N24.c17 HX.out.at0
  have g17 := N24.c17 HZ.out.at0
  have e18 := N24.c18 HX.out.at0
  have g18 := N24.c18 HZ.out.at0
  simp only [Nat.zero_add] at e11 g11 e12 g12 e13 g13 e14 g14 e15 g15 e16 g16 e17 g17 e18 g18
  go_wp2_with fail
  refine (eqAcl_any x.D.u x.D.g x.D.o _ _ _ _ _ _ _ _ _ _ x.D.r x.D.m x.D.us x.D.gs HF.out.du HF.out.dg _ (HI.out.dU.below HB.out) (HJ.out.dU.below HB.out) (HI.out.dG.below HB.out) (HJ.out.dG.below HB.out)).mono ?_
  rintro e w2 ⟨rfl, hb⟩
  have HB2 : Hid (Below w.heap.size w w2) := Below.on HB.out hb
  have HX2 : Hid (BoxR w2 X (ndV x y)) := HX.out.below hb
  have HZ2 : Hid (BoxR w2 (X + 1) (ndV x y2)) := HZ.out.below hb
  clear e11 g11 e12 g12 e13 g13 e14 g14 e15 g15 e16 g16 e17 g17 e18 g18
  clear hb HB HX HZ
  have HB := HB2
  have HX := HX2
  have HZ := HZ2
  clear HB2 HX2 HZ2
  have e19 := N24.c19 HX.out.at0
  have g19 := N24.c19 HZ.out.at0
  have e20 := N24.c20 HX.out.at0
  have g20 := N24.c20 HZ.out.at0
  have e21 := N24.c21 HX.out.at0
  have g21 := N24.c21 HZ.out.at0
  have e22 := N24.c22 HX.out.at0
  have g22 := N24.c22 HZ.out.at0
  simp only [Nat.zero_add] at e19 g19 e20 g20 e21 g21 e22 g22
  go_wp2_with fail
  refine (eqEntryS_any _ _ _ _ _ x.ns HF.out.nl _ (HI.out.nA.below HB.out) (HJ.out.nA.below HB.out)).mono ?_
  rintro e w3 ⟨rfl, hb⟩
  have HB3 : Hid (Below w.heap.size w w3) := Below.on HB.out hb
  have HX3 : Hid (BoxR w3 X (ndV x y)) := HX.out.below hb
  have HZ3 : Hid (BoxR w3 (X + 1) (ndV x y2)) := HZ.out.below hb
  clear e19 g19 e20 g20 e21 g21 e22 g22
  clear hb HB HX HZ
  have HB := HB3
  have HX := HX3
  have HZ := HZ3
  clear HB3 HX3 HZ3
  have e23 := N24.c23 HX.out.at0
  have g23 := N24.c23 HZ.out.at0
  simp only [Nat.zero_add] at e23 g23
  go_wp2
  go_ret
  exact ⟨rfl, HB.out⟩
set_option maxHeartbeats 2000000 in
theorem eqNodeS_none (a a2 : Option Addr) (cap cap2 : Nat) (w : World) :
    Calls Tryz.prog 23 #[.slice a 0 cap, .slice a2 0 cap2] w fun e w' => e = .returned (.bool true) ∧ Below w.heap.size w w' := by
  go_enter Tryz.func23, Tryz.ntmps23
  go_wp2
  go_rounds 1
  go_ret
  exact ⟨rfl, Below.refl _ _⟩
theorem below_drewT {B : Nat} {w w' : World} (h : Below B w w') : Below B w w'.drew := h.trans ⟨rfl, rfl, rfl, Nat.le_refl _, fun _ _ => rfl⟩
set_option maxRecDepth 20000 in
set_option maxHeartbeats 4000000 in
theorem eqNodeS_some (b off b2 off2 len cap cap2 : Nat) (l : List Nd) (Y Y2 : Nat → Na) (hl : len ≤ 1048576) (hf : ∀ i, i < len → NdFit 1048576 (ndAt l i)) (w : World) (hb : b < w.heap.size) (hb2 : b2 < w.heap.size)
    (hc : Hid (∀ i, i < len → N24 w b (off + i * 24) (ndAt l i) (Y i) ∧ NdIn w (ndAt l i) (Y i))) (hc2 : Hid (∀ i, i < len → N24 w b2 (off2 + i * 24) (ndAt l i) (Y2 i) ∧ NdIn w (ndAt l i) (Y2 i))) :
    Calls Tryz.prog 23 #[.slice (some ⟨b, off, none⟩) len cap, .slice (some ⟨b2, off2, none⟩) len cap2] w fun e w' => e = .returned (.bool true) ∧ Below w.heap.size w w' := by
  have HF : Hid (∀ i, i < len → NdFit 1048576 (ndAt l i)) := hf
  clear hf
  go_enter Tryz.func23, Tryz.ntmps23
  go_wp2
  go_loopw [5] (fun i wr => ∃ (k : Nat), k ≤ len ∧ i = .int .i64 k ∧ Hid (Below w.heap.size w wr)) (fun i _ => len - (intOf i).toNat)
  case atStart => exact ⟨0, Nat.zero_le _, rfl, Below.refl _ _⟩
  case round =>
    obtain ⟨k, hk, rfl, hB⟩ := hrel
    by_cases hlt : k < len
    · have F1 : wr.rangeAt b (off + k * 24) (ndV (ndAt l k) (Y k)) := range_below (hc.out k hlt).1 hb hB.out
      have F2 : wr.rangeAt b2 (off2 + k * 24) (ndV (ndAt l k) (Y2 k)) := range_below (hc2.out k hlt).1 hb2 hB.out
      have HC : Hid (∀ w', Below wr.heap.size wr w' → Calls Tryz.prog 8 #[.agg (ndV (ndAt l k) (Y k)).toArray, .agg (ndV (ndAt l k) (Y2 k)).toArray] w' fun e w'' => e = .returned (.bool true) ∧ Below w'.heap.size w' w'') := (fun w' hw => eqNode_any _ _ _ (HF.out k hlt) w' (((hc.out k hlt).2.below hB.out).below hw) (((hc2.out k hlt).2.below hB.out).below hw))
      obtain ⟨cs1, hcs1⟩ : ∃ cs1, cs1 = ndV (ndAt l k) (Y k) := ⟨_, rfl⟩
      obtain ⟨cs2, hcs2⟩ : ∃ cs2, cs2 = ndV (ndAt l k) (Y2 k) := ⟨_, rfl⟩
      have hi1 : (Tryz.prog.info? 31).map (·.size) = some cs1.length := by rw [hcs1]; kernel_rfl
      have hi2 : (Tryz.prog.info? 31).map (·.size) = some cs2.length := by rw [hcs2]; kernel_rfl
      rw [← hcs1] at F1 HC
      rw [← hcs2] at F2 HC
      clear hcs1 hcs2 hc hc2 HF
      have hu := Tryz.underlying31
      have hlt' : (k : Int) < (len : Int) := by omega
      have h0' : (0 : Int) ≤ (k : Int) := by omega
      have R1 := range_regrown F1
      have R2 := range_regrown F2
      have cA : ∀ d os, Calls Tryz.prog 8 #[.agg cs1.toArray, .agg cs2.toArray] (Go.Sort.grow (redrawn wr d) os) fun e w'' => e = .returned (.bool true) ∧ ∃ p : Regrown, w'' = Go.Sort.grow (redrawn wr p.d) p.os := fun d os => Calls.regrown_of (HC.out _ (below_regrown wr d os))
      clear F1 F2 HC
      go_upto_region 6 with fail
      refine wp_region_quiet_below (by kernel_rfl) (by kernel_rfl) ?_
      repeat (first
        | go_big_quiet_skip
        | (go_big_quiet_want; refine quiet_load_mid 31 _ rfl _ _ (by rfl) _ _ R1 hu rfl hi1 ?_; simp only [Act.put, List.setIfInBounds_toArray, List.set_cons_zero, List.set_cons_succ]; go_big_quiet_on)
        | (go_big_quiet_want; refine quiet_load_mid 31 _ rfl _ _ (by rfl) _ _ R2 hu rfl hi2 ?_; simp only [Act.put, List.setIfInBounds_toArray, List.set_cons_zero, List.set_cons_succ]; go_big_quiet_on)
        | (go_big_quiet_want; go_big_quiet_op; first | go_big_quiet_on | go_big_quiet_call (exact cA _ _)))
      refine wpQuiet_nil ?_
      intro _ hw'
      obtain ⟨⟨dq, osq⟩, hw''⟩ := hw'
      subst hw''
      have HB2 : Hid (Below w.heap.size w (Go.Sort.grow (redrawn wr dq) osq)) := hB.out.trans ((below_regrown wr dq osq).mono hB.out.size)
      generalize Go.Sort.grow (redrawn wr dq) osq = w1 at HB2 ⊢
      clear R1 R2 cA hi1 hi2 hu hB
      go_wp2
      go_roundw
      case rel => exact ⟨k + 1, by omega, by go_num, HB2⟩
      case measure => simp [intOf]; omega
    · have : k = len := by omega
      subst this
      go_wp2
      go_ret
      exact ⟨rfl, hB.out⟩
/-- laws.eqNodeS of two lists that hold the same. -/
theorem eqNodeS_any (a a2 : Option Addr) (len cap cap2 : Nat) (l : List Nd) (hl : len ≤ 1048576) (hf : ∀ i, i < len → NdFit 1048576 (ndAt l i)) (w : World) (h1 : Nds a len l w) (h2 : Nds a2 len l w) :
    Calls Tryz.prog 23 #[.slice a len cap, .slice a2 len cap2] w fun e w' => e = .returned (.bool true) ∧ Below w.heap.size w w' := by
  by_cases h0 : len = 0
  · subst h0
    exact eqNodeS_none a a2 cap cap2 w
  · obtain ⟨b, off, Y, rfl, hb, hc⟩ := h1.2 (by omega)
    obtain ⟨b2, off2, Y2, rfl, hb2, hc2⟩ := h2.2 (by omega)
    exact eqNodeS_some b off b2 off2 len cap cap2 l Y Y2 hl hf w hb hb2 hc hc2
set_option maxHeartbeats 4000000 in
/-- laws.eqTree of two that hold the same. -/
theorem eqTree_any (a a2 : Option Addr) (len cap cap2 : Nat) (l : List Nd) (now : Int) (hl : len ≤ 1048576) (hf : ∀ i, i < len → NdFit 1048576 (ndAt l i)) (w : World) (h1 : Nds a len l w) (h2 : Nds a2 len l w) :
    Calls Tryz.prog 9 #[.agg #[.slice a len cap, .int .i64 now], .agg #[.slice a2 len cap2, .int .i64 now]] w fun e w' => e = .returned (.bool true) ∧ Below w.heap.size w w' := by
  have hc : Hid (∀ w', Below w.heap.size w w' → Calls Tryz.prog 23 #[.slice a len cap, .slice a2 len cap2] w' fun e w'' => e = .returned (.bool true) ∧ Below w'.heap.size w' w'') := (fun w' hb => eqNodeS_any a a2 len cap cap2 l hl hf w' (h1.below hb) (h2.below hb))
  clear h1 h2 hf
  go_enter Tryz.func9, Tryz.ntmps9
  go_wp2_with fail
  refine (hc.out _ (bl2T _ _ _)).mono ?_
  rintro e w1 ⟨rfl, hb⟩
  have hbW : Hid (Below w.heap.size w w1) := (bl2T _ _ _).trans (hb.mono (by simp; omega))
  obtain ⟨hcl, hfz⟩ := bl_cellN hb
  clear hb hc
  simp at hcl hfz
  go_wp2
  go_ret
  exact ⟨rfl, hbW.out⟩
end Go.Proofs.YtgodbelcddgdmaaGreat
