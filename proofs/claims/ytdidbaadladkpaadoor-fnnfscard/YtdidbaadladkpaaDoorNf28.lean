/- Laid together: Holding, Take, HoldK. -/
import Derived.Test.YtdidbaadladkpaaDoorNf5
import Derived.RangeFuncNested
import Derived.RangeFuncBound
import Derived.RangeFuncCalls
import Derived.RangeFuncLeaves
import Derived.Shelf.Abstract
import Derived.Shelf.RegionOpen
import Derived.OwnWalkIn
import Derived.TacticsInMore
import Derived.LoopNIn
import Derived.LoopIn
import Derived.Test.YtdidbaadladkpaaDoorNf11
import Derived.BigQuiet
/- The aces that hold and are of somebody, one by one: impl.holding, its closure, impl.holds. -/
namespace Go.Proofs.YtdidbaadladkpaaDoor
open Go.RowKit Go.PlainAid Go.Shelf
set_option linter.unusedVariables false
attribute [local go_sem] Oper.semAt_some
/-- It holds of the file itself. -/
def hldB (x : Ac) : Bool := decide (x.fl < 8)
theorem and8 {f : Int} (h0 : 0 ≤ f) (h1 : f ≤ 15) : (bits .and .i64 f 8 == 0) = decide (f < 8) := by
  rcases (by omega : f = 0 ∨ f = 1 ∨ f = 2 ∨ f = 3 ∨ f = 4 ∨ f = 5 ∨ f = 6 ∨ f = 7 ∨ f = 8 ∨ f = 9 ∨ f = 10 ∨ f = 11 ∨ f = 12 ∨ f = 13 ∨ f = 14 ∨ f = 15) with rfl | rfl | rfl | rfl | rfl | rfl | rfl | rfl | rfl | rfl | rfl | rfl | rfl | rfl | rfl | rfl <;> decide
set_option maxHeartbeats 1000000 in
theorem holds_any (x : Ac) (h0 : 0 ≤ x.fl) (h1 : x.fl ≤ 15) (w : World) :
    Calls Tryd.prog 100 #[.agg #[.bool x.al, .int .i64 x.wh, .int .i64 x.id, .int .i64 x.fl, .int .i64 x.ma]] w fun e w' => e = .returned (.bool (hldB x)) ∧ Below w.heap.size w w' := by
  have e := and8 h0 h1
  go_enter Tryd.func100, Tryd.ntmps100
  go_wp2
  go_ret
  exact ⟨ret_boolW rfl, bel_alloc _ _⟩
/-- What of the first k comes through. -/
def fltP (p : Ac → Bool) (l : List Ac) : Nat → List Ac
  | 0 => []
  | k + 1 => fltP p l k ++ (if hldB (acAt l k) && p (acAt l k) then [acAt l k] else [])
theorem fltP_yes {p : Ac → Bool} {l : List Ac} {k : Nat} (h : (hldB (acAt l k) && p (acAt l k)) = true) : fltP p l (k + 1) = fltP p l k ++ [acAt l k] := by simp only [fltP, h, if_pos]
theorem fltP_no {p : Ac → Bool} {l : List Ac} {k : Nat} (h : (hldB (acAt l k) && p (acAt l k)) = false) : fltP p l (k + 1) = fltP p l k := by simp [fltP, h]
theorem fltP_len (p : Ac → Bool) (l : List Ac) (k : Nat) : (fltP p l k).length ≤ k := by
  induction k with
  | zero => exact Nat.le_refl _
  | succ k ih =>
    have : (if hldB (acAt l k) && p (acAt l k) then [acAt l k] else []).length ≤ 1 := by split <;> simp
    simp only [fltP, List.length_append]
    omega
/-- What a round must keep: what lay below a block's number, and the cells of some blocks. -/
def KpC (n₀ lo hi : Nat) (W W' : World) : Prop := Below n₀ W W' ∧ ∀ c o v, lo ≤ c → c < hi → W.cell? ⟨c, o, none⟩ = some v → W'.cell? ⟨c, o, none⟩ = some v
theorem kpC_refl (n₀ lo hi : Nat) (W : World) : KpC n₀ lo hi W W := ⟨Below.refl _ _, fun _ _ _ _ _ h => h⟩
theorem kpC_t {n₀ lo hi : Nat} {A B C : World} (h : KpC n₀ lo hi A B) (k : KpC n₀ lo hi B C) : KpC n₀ lo hi A C := ⟨h.1.trans k.1, fun c o v h1 h2 hv => k.2 c o v h1 h2 (h.2 c o v h1 h2 hv)⟩
theorem kpC_b {n₀ lo hi : Nat} {w : World} (hn : n₀ ≤ w.heap.size) (W : World) (l : Nat) (o o' : Obj) (hl : w.heap.size ≤ l) (h : W.heap[l]? = some o) (h1 : o.isCells = false) (h2 : o.isWalk = false) : KpC n₀ lo hi W (W.putObj l o') :=
  ⟨belowK_b hn W l o o' hl h h1 h2, fun c o2 v _ _ hv => cell_kept hv (grownBy_putObj' W l o') (fun r e => by cases e; exact ⟨_, h, h1⟩)⟩
theorem kpC_grow {n₀ lo hi : Nat} {W W' : World} (hb : Below W.heap.size W W') (h1 : n₀ ≤ W.heap.size) (h2 : hi ≤ W.heap.size) : KpC n₀ lo hi W W' :=
  ⟨hb.mono h1, fun c o v _ hc hv => (hb.cell (p := ⟨c, o, none⟩) (by show c < _; omega)).trans hv⟩
theorem KpC.five {n₀ lo hi : Nat} {W W' : World} (h : KpC n₀ lo hi W W') {b o : Nat} {x : Ac} (h1 : lo ≤ b) (h2 : b < hi) (hf : Five W b o x) : Five W' b o x :=
  ⟨h.2 _ _ _ h1 h2 hf.c0, h.2 _ _ _ h1 h2 hf.c1, h.2 _ _ _ h1 h2 hf.c2, h.2 _ _ _ h1 h2 hf.c3, h.2 _ _ _ h1 h2 hf.c4⟩
theorem grown_of_below {w w' : World} (h : Below w.heap.size w w') : w.grownBy w' none := ⟨h.os, h.tape, h.output, h.size, fun k hk _ => h.block k hk⟩
set_option maxHeartbeats 1000000 in
/-- impl.holding: the list and the test lie in boxes; the closure has their addresses. -/
theorem holding_any (a : Option Addr) (len cap : Nat) (kf : Nat) (caps : Array Value) (w : World) :
    Calls Tryd.prog 76 #[.slice a len cap, .func (.func kf) #[] caps] w fun e w' => e = .returned (.func (.func 99) #[] #[.pointer (some ⟨w.heap.size, 0, none⟩), .pointer (some ⟨w.heap.size + 1, 0, none⟩)]) ∧ w' = (w.alloc (.cells #[.slice a len cap] 23)).alloc (.cells #[.func (.func kf) #[] caps] 46) := by
  go_enter Tryd.func76, Tryd.ntmps76
  go_wp2
  go_ret
  exact ⟨rfl, rfl⟩
end Go.Proofs.YtdidbaadladkpaaDoor
/- spec.l04Take; spec.l04Holds. -/
namespace Go.Proofs.YtdidbaadladkpaaDoor
open Go.RowKit Go.PlainAid Go.Deep
set_option linter.unusedVariables false
theorem below_drewT {B : Nat} {w w' : World} (h : Below B w w') (n : Nat) : Below B w (w'.drewN n) := h.trans ⟨rfl, rfl, rfl, Nat.le_refl _, fun _ _ => rfl⟩
/-- What is given then. -/
def takeP (al : Bool) (p d : Int) : Int := if al then p + d else p
theorem take_eq {a b c d : Int} (h : a = c) (h2 : b = d) : Ending.returned (.tuple #[.int .i64 a, .int .i64 b]) = .returned (.tuple #[.int .i64 c, .int .i64 d]) := by rw [h, h2]
set_option maxRecDepth 100000 in
set_option maxHeartbeats 4000000 in
/-- spec.l04Take. -/
theorem sTake_any (x : Ac) (s p : Int) (m0 : 0 ≤ x.ma) (m1 : x.ma ≤ 255) (s0 : 0 ≤ s) (s1 : s ≤ 255) (p0 : 0 ≤ p) (p1 : p ≤ 65535) (w : World) :
    Calls Tryd.prog 82 #[.agg #[.bool x.al, .int .i64 x.wh, .int .i64 x.id, .int .i64 x.fl, .int .i64 x.ma], .int .i64 s, .int .i64 p] w fun e w' => e = .returned (.tuple #[.int .i64 (s + (x.ma - andI x.ma s)), .int .i64 (takeP x.al p (x.ma - andI x.ma s))]) ∧ Below w.heap.size w w' := by
  have hba := bel_alloc w (.cells #[.bool x.al, .int .i64 x.wh, .int .i64 x.id, .int .i64 x.fl, .int .i64 x.ma] 33)
  have hB : Hid (Below w.heap.size w (w.alloc (.cells #[.bool x.al, .int .i64 x.wh, .int .i64 x.id, .int .i64 x.fl, .int .i64 x.ma] 33))) := hba
  have hbt : Hid (∀ w, Calls Tryd.prog 89 #[.int .i64 x.ma, .int .i64 s] w fun e w' => e = .returned (.int .i64 (andI x.ma s)) ∧ w' = w) := sBoth_any x.ma s m0 (by omega) s0 (by omega)
  have hd : 0 ≤ x.ma - andI x.ma s ∧ x.ma - andI x.ma s ≤ 255 := by
    obtain ⟨a, ha⟩ := Int.eq_ofNat_of_zero_le m0
    obtain ⟨b, hb⟩ := Int.eq_ofNat_of_zero_le s0
    rw [ha, hb]
    have h1 : andI (a : Int) (b : Int) = ((a &&& b : Nat) : Int) := by simp [andI]
    have h2 : a &&& b ≤ a := Nat.and_le_left
    rw [h1]
    omega
  generalize hq : andI x.ma s = q at hbt hd ⊢
  clear hq hba
  obtain ⟨d0, d1⟩ := hd
  go_enter Tryd.func82, Tryd.ntmps82
  go_wp2_with fail
  have z0 : (w.alloc (.cells #[.bool x.al, .int .i64 x.wh, .int .i64 x.id, .int .i64 x.fl, .int .i64 x.ma] 33)).cell? ⟨w.heap.size, 0, none⟩ = some (.bool x.al) := by simp [go_sem]
  have z4 : (w.alloc (.cells #[.bool x.al, .int .i64 x.wh, .int .i64 x.id, .int .i64 x.fl, .int .i64 x.ma] 33)).cell? ⟨w.heap.size, 4, none⟩ = some (.int .i64 x.ma) := by simp [go_sem]
  generalize (w.alloc (.cells #[.bool x.al, .int .i64 x.wh, .int .i64 x.id, .int .i64 x.fl, .int .i64 x.ma] 33)) = w1 at z0 z4 hB ⊢
  go_quiet ((go_at_call 89; exact Calls.quiet_of_same (hbt.out _)))
  have hB2 : Hid (Below w.heap.size w (w1.drewN nq)) := below_drewT hB.out nq
  have y0 : (w1.drewN nq).cell? ⟨w.heap.size, 0, none⟩ = some (.bool x.al) := z0
  generalize w1.drewN nq = w2 at hB2 y0 ⊢
  have D0 : 0 ≤ x.ma - q := d0
  generalize hdd : x.ma - q = d at D0 d0 d1 ⊢
  have HD : Hid (x.ma - q = d) := hdd
  clear hdd
  clear z0 z4 hB hbt D0
  cases hal : x.al
  · rw [hal] at y0
    go_wp2
    exact bodyPost_ret (v := .tuple #[.int .i64 (s + d), .int .i64 p]) (by simp [results, Tryd.results82, go_sem]) rfl ⟨take_eq (by rw [HD.out]) (by rw [HD.out]; simp [takeP, hal]), hB2.out⟩
  · rw [hal] at y0
    go_wp2
    exact bodyPost_ret (v := .tuple #[.int .i64 (s + d), .int .i64 (p + d)]) (by simp [results, Tryd.results82, go_sem]) rfl ⟨take_eq (by rw [HD.out]) (by rw [HD.out]; simp [takeP, hal]), hB2.out⟩
set_option maxHeartbeats 1000000 in
theorem sl04HoldsG (x : Ac) (w : World) :
    Calls Tryd.prog 80 #[.agg #[.bool x.al, .int .i64 x.wh, .int .i64 x.id, .int .i64 x.fl, .int .i64 x.ma]] w fun e w' => e = .returned (.bool (hldB x)) ∧ Below w.heap.size w w' := by
  go_enter Tryd.func80, Tryd.ntmps80
  go_wp2
  go_ret
  exact ⟨ret_boolW rfl, bel_alloc _ _⟩
end Go.Proofs.YtdidbaadladkpaaDoor
/- The iterator of impl.holding at the test impl.ofAsker$1. -/
namespace Go.Proofs.YtdidbaadladkpaaDoor
open Go.RowKit Go.PlainAid Go.Shelf
set_option linter.unusedVariables false
attribute [local go_sem] Oper.semAt_some
set_option maxRecDepth 100000 in
set_option maxHeartbeats 4000000 in
theorem holdK_in (n : Nat) (hn : 1 ≤ n) (lp Bl Bf n₀ lo hi b off len cap : Nat) (Cc Co Cg : Nat) (l : List Ac) (p : Ac → Bool) (hlen : l.length = len) (hl : len ≤ 1000) (hb : b < n₀) (hf0 : lo ≤ Bf) (hf1 : Bf < hi) (hfl : ∀ i, i < len → 0 ≤ (acAt l i).fl ∧ (acAt l i).fl ≤ 15) (J Jx : List Ac → World → Prop)
    (W : World) (hJ : AbidesFrom W.heap.size J) (hn0 : n₀ ≤ W.heap.size) (hn1 : hi ≤ W.heap.size)
    (hP : ∀ x W', KpC n₀ lo hi W W' → Calls Tryd.prog 77 #[.agg #[.bool x.al, .int .i64 x.wh, .int .i64 x.id, .int .i64 x.fl, .int .i64 x.ma], .pointer (some ⟨Cc, 0, none⟩), .pointer (some ⟨Co, 0, none⟩), .pointer (some ⟨Cg, 0, none⟩)] W' fun e W'' => e = .returned (.bool (p x)) ∧ Below W'.heap.size W' W'')
    (hY : ∀ pre x W1, J pre W1 → pre.length < len → YieldAt Fence.wide (n - 1) Tryd.prog lp #[.agg #[.bool x.al, .int .i64 x.wh, .int .i64 x.id, .int .i64 x.fl, .int .i64 x.ma]] W1 fun e W' =>
      (e = .returned (.bool true) ∧ J (pre ++ [x]) W' ∧ KpC n₀ lo hi W1 W') ∨ (e = .returned (.bool false) ∧ Jx (pre ++ [x]) W'))
    (hBl : W.cell? ⟨Bl, 0, none⟩ = some (.slice (some ⟨b, off, none⟩) len cap)) (hBf : W.cell? ⟨Bf, 0, none⟩ = some (.func (.func 77) #[] #[.pointer (some ⟨Cc, 0, none⟩), .pointer (some ⟨Co, 0, none⟩), .pointer (some ⟨Cg, 0, none⟩)])) (hc : ∀ i, i < len → Five W b (off + i * 5) (acAt l i)) (h0 : J [] W) :
    CallsIn Fence.wide n Tryd.prog 99 #[.func (.yield lp) #[] #[], .pointer (some ⟨Bl, 0, none⟩), .pointer (some ⟨Bf, 0, none⟩)] W fun e W' => (∃ v, e = .returned v) ∧
      ((∃ ys, ys = fltP p l len ∧ J ys W') ∨ (∃ pre, True ∧ Jx pre W')) := by
  have HC : Hid (∀ i, i < len → Five W b (off + i * 5) (acAt l i)) := hc
  have HF : Hid (∀ i, i < len → 0 ≤ (acAt l i).fl ∧ (acAt l i).fl ≤ 15) := hfl
  have HJ : Hid (∀ s A B, J s A → Below A.heap.size A B → J s B) := (fun s A B hs hg => hJ s A B none hs (grown_of_below hg) (fun r e => by cases e))
  have HP : Hid (∀ x W', KpC n₀ lo hi W W' → Calls Tryd.prog 77 #[.agg #[.bool x.al, .int .i64 x.wh, .int .i64 x.id, .int .i64 x.fl, .int .i64 x.ma], .pointer (some ⟨Cc, 0, none⟩), .pointer (some ⟨Co, 0, none⟩), .pointer (some ⟨Cg, 0, none⟩)] W' fun e W'' => e = .returned (.bool (p x)) ∧ Below W'.heap.size W' W'') := hP
  have HY : Hid (∀ pre x W1, J pre W1 → pre.length < len → YieldAt Fence.wide (n - 1) Tryd.prog lp #[.agg #[.bool x.al, .int .i64 x.wh, .int .i64 x.id, .int .i64 x.fl, .int .i64 x.ma]] W1 fun e W' =>
      (e = .returned (.bool true) ∧ J (pre ++ [x]) W' ∧ KpC n₀ lo hi W1 W') ∨ (e = .returned (.bool false) ∧ Jx (pre ++ [x]) W')) := hY
  clear hc hfl hJ hP hY
  refine callsIn_of_wp Tryd.func99 rfl trivial ?_ rfl
  simp only [Tryd.ntmps99, List.size_toArray, List.length_cons, List.length_nil, Nat.reduceAdd, Nat.reduceSub, Array.replicate_succ, Array.replicate_zero, List.push_toArray, List.append_toArray, List.nil_append, List.cons_append]
  gi_wp2
  gi_loopw [8] (fun i wr => ∃ k : Nat, k ≤ len ∧ i = .int .i64 k ∧ Hid (J (fltP p l k) wr) ∧ Hid (KpC n₀ lo hi W wr) ∧ Hid (n₀ ≤ wr.heap.size ∧ hi ≤ wr.heap.size) ∧ wr.cell? ⟨Bf, 0, none⟩ = some (.func (.func 77) #[] #[.pointer (some ⟨Cc, 0, none⟩), .pointer (some ⟨Co, 0, none⟩), .pointer (some ⟨Cg, 0, none⟩)]))
    (fun i _ => len - (intOf i).toNat)
  case atStart => exact ⟨0, Nat.zero_le _, rfl, h0, kpC_refl _ _ _ _, ⟨hn0, hn1⟩, hBf⟩
  case round =>
    obtain ⟨k, hk, rfl, hJs, hB, hz, hfv⟩ := hrel
    by_cases hlt : k < len
    · have hlt' : (k : Int) < (len : Int) := by omega
      obtain ⟨g0, g1, g2, g3, g4⟩ := (HC.out k hlt).keep (fun j => hB.out.1.cell (p := ⟨b, j, none⟩) hb)
      obtain ⟨f0, f1⟩ := HF.out k hlt
      have HN : Hid ((hldB (acAt l k) && p (acAt l k)) = false → ∀ W', J (fltP p l k) W' → J (fltP p l (k + 1)) W') := (fun h W' h2 => by rw [fltP_no h]; exact h2)
      have HYS : Hid ((hldB (acAt l k) && p (acAt l k)) = true → ∀ W', J (fltP p l k ++ [acAt l k]) W' → J (fltP p l (k + 1)) W') := (fun h W' h2 => by rw [fltP_yes h]; exact h2)
      have HLE : Hid ((fltP p l k).length < len) := Nat.lt_of_le_of_lt (fltP_len p l k) hlt
      have hfl := block_lt_of_cell hfv
      generalize acAt l k = x at g0 g1 g2 g3 g4 f0 f1 HN HYS
      have hbA := bel_alloc wr (.cells #[.bool x.al, .int .i64 x.wh, .int .i64 x.id, .int .i64 x.fl, .int .i64 x.ma] 33)
      have hF := five_new wr x 33
      gi_wp2_with fail
      refine ⟨trivial, (callsIn_wide.2 (holds_any x f0 f1 _)).mono ?_⟩
      rintro e w1 ⟨rfl, hb1⟩
      have hb01 := Below.on hbA hb1
      have hF1 := hF.below (by simp) hb1
      have hsz1 : wr.heap.size < w1.heap.size := by have := hb1.size; simp at this; omega
      have hfv1 : w1.cell? ⟨Bf, 0, none⟩ = some (.func (.func 77) #[] #[.pointer (some ⟨Cc, 0, none⟩), .pointer (some ⟨Co, 0, none⟩), .pointer (some ⟨Cg, 0, none⟩)]) := (hb01.cell (p := ⟨Bf, 0, none⟩) hfl).trans hfv
      have hJ1 : Hid (J (fltP p l k) w1) := HJ.out _ _ _ hJs.out hb01
      have hB1 : Hid (KpC n₀ lo hi W w1) := kpC_t hB.out (kpC_grow hb01 hz.out.1 hz.out.2)
      have hz1 : Hid (n₀ ≤ w1.heap.size ∧ hi ≤ w1.heap.size) := ⟨Nat.le_trans hz.out.1 hb01.size, Nat.le_trans hz.out.2 hb01.size⟩
      clear hb1 hbA hF g0 g1 g2 g3 g4 hJs hB hb01 hfv
      obtain ⟨c0, c1, c2, c3, c4⟩ := hF1
      simp only [Nat.zero_add] at c1 c2 c3 c4
      cases hh : hldB x
      · have hJ2 : Hid (J (fltP p l (k + 1)) w1) := HN.out (by rw [hh]; rfl) _ hJ1.out
        clear HN HYS HLE hJ1
        gi_wp2
        refine ⟨fun _ h => (by cases h), ?_⟩
        gi_wp2
        go_roundw
        case rel => exact ⟨k + 1, by omega, by go_num, hJ2, hB1, hz1, hfv1⟩
        case measure => simp [intOf]; omega
      · gi_wp2_with fail
        refine ⟨trivial, (callsIn_wide.2 (HP.out x _ hB1.out)).mono ?_⟩
        rintro e w2 ⟨rfl, hb2⟩
        obtain ⟨c0, c1, c2, c3, c4⟩ := (Five.mk (o := 0) c0 (by simpa using c1) (by simpa using c2) (by simpa using c3) (by simpa using c4) : Five w1 wr.heap.size 0 x).below hsz1 hb2
        simp only [Nat.zero_add] at c1 c2 c3 c4
        have hfl1 := block_lt_of_cell hfv1
        have hfv2 : w2.cell? ⟨Bf, 0, none⟩ = some (.func (.func 77) #[] #[.pointer (some ⟨Cc, 0, none⟩), .pointer (some ⟨Co, 0, none⟩), .pointer (some ⟨Cg, 0, none⟩)]) := (hb2.cell (p := ⟨Bf, 0, none⟩) hfl1).trans hfv1
        have hJ2 : Hid (J (fltP p l k) w2) := HJ.out _ _ _ hJ1.out hb2
        have hB2 : Hid (KpC n₀ lo hi W w2) := kpC_t hB1.out (kpC_grow hb2 hz1.out.1 hz1.out.2)
        have hz2 : Hid (n₀ ≤ w2.heap.size ∧ hi ≤ w2.heap.size) := ⟨Nat.le_trans hz1.out.1 hb2.size, Nat.le_trans hz1.out.2 hb2.size⟩
        clear hb2 hJ1 hB1 hz1 hfv1 hfl1 hfl
        cases hp : p x
        · have hJ3 : Hid (J (fltP p l (k + 1)) w2) := HN.out (by rw [hh, hp]; rfl) _ hJ2.out
          clear HN HYS HLE hJ2
          gi_wp2
          refine ⟨fun _ h => (by cases h), ?_⟩
          gi_wp2
          go_roundw
          case rel => exact ⟨k + 1, by omega, by go_num, hJ3, hB2, hz2, hfv2⟩
          case measure => simp [intOf]; omega
        · obtain ⟨fn, tmps, assign, body, hy, hR⟩ := HY.out _ x w2 hJ2.out HLE.out
          have HR : Hid (RoundIn Fence.wide (n - 1) Tryd.prog lp fn tmps assign body w2 fun e W' => (e = .returned (.bool true) ∧ J (fltP p l k ++ [x]) W' ∧ KpC n₀ lo hi w2 W') ∨ (e = .returned (.bool false) ∧ Jx (fltP p l k ++ [x]) W')) := hR
          have HYT : Hid (∀ W', J (fltP p l k ++ [x]) W' → J (fltP p l (k + 1)) W') := HYS.out (by rw [hh, hp]; rfl)
          clear HN HYS HLE hJ2 hR
          gi_wp2
          refine HR.out.mono ?_
          rintro e W3 (⟨rfl, hJ3, hk3⟩ | ⟨rfl, hJx3⟩)
          · have hJ4 : Hid (J (fltP p l (k + 1)) W3) := HYT.out _ hJ3
            have hB3 : Hid (KpC n₀ lo hi W W3) := kpC_t hB2.out hk3
            have hz3 : Hid (n₀ ≤ W3.heap.size ∧ hi ≤ W3.heap.size) := ⟨Nat.le_trans hz2.out.1 hk3.1.size, Nat.le_trans hz2.out.2 hk3.1.size⟩
            have hfv3 := hk3.2 _ _ _ hf0 hf1 hfv2
            clear hJ3 hk3 hy HR HYT
            gi_wp2
            go_roundw
            case rel => exact ⟨k + 1, by omega, by go_num, hJ4, hB3, hz3, hfv3⟩
            case measure => simp [intOf]; omega
          · have HX : Hid (Jx (fltP p l k ++ [x]) W3) := hJx3
            clear hJx3 hy HR HYT
            gi_wp2
            refine bodyPost_ret (results_none rfl _ _ _) rfl ?_
            exact ⟨⟨_, rfl⟩, .inr ⟨_, trivial, HX.out⟩⟩
    · have : k = len := by omega
      subst this
      gi_wp2
      go_end0
      exact ⟨⟨_, rfl⟩, .inl ⟨_, rfl, hJs.out⟩⟩
set_option maxRecDepth 100000 in
set_option maxHeartbeats 2000000 in
theorem holdK_none (n : Nat) (lp Bl Bf : Nat) (a : Option Addr) (cap : Nat) (J : List Ac → World → Prop) (W : World) (hBl : W.cell? ⟨Bl, 0, none⟩ = some (.slice a 0 cap)) (h0 : J [] W) :
    CallsIn Fence.wide n Tryd.prog 99 #[.func (.yield lp) #[] #[], .pointer (some ⟨Bl, 0, none⟩), .pointer (some ⟨Bf, 0, none⟩)] W fun e W' => (∃ v, e = .returned v) ∧ J [] W' := by
  refine callsIn_of_wp Tryd.func99 rfl trivial ?_ rfl
  simp only [Tryd.ntmps99, List.size_toArray, List.length_cons, List.length_nil, Nat.reduceAdd, Nat.reduceSub, Array.replicate_succ, Array.replicate_zero, List.push_toArray, List.append_toArray, List.nil_append, List.cons_append]
  gi_wp2
  gi_loopw [8] (fun i wr => i = .int .i64 0 ∧ J [] wr) (fun _ _ => 0)
  case atStart => exact ⟨rfl, h0⟩
  case round =>
    obtain ⟨rfl, hJs⟩ := hrel
    gi_wp2
    go_end0
    exact ⟨⟨_, rfl⟩, hJs⟩
/-- The iterator's contract. -/
theorem holdK_stops (n : Nat) (hn : 1 ≤ n) (Bl Bf n₀ lo hi : Nat) (Cc Co Cg : Nat) (a : Option Addr) (len cap : Nat) (l : List Ac) (p : Ac → Bool) (hl : len ≤ 1000) (w : World) (hA : Acs a len l w) (hA0 : 0 < len → ∀ A, a = some A → A.block < n₀) (hf0 : lo ≤ Bf) (hf1 : Bf < hi) (hfl : ∀ i, i < len → 0 ≤ (acAt l i).fl ∧ (acAt l i).fl ≤ 15) (hn0 : n₀ ≤ w.heap.size) (hn1 : hi ≤ w.heap.size)
    (hP : ∀ x W', KpC n₀ lo hi w W' → Calls Tryd.prog 77 #[.agg #[.bool x.al, .int .i64 x.wh, .int .i64 x.id, .int .i64 x.fl, .int .i64 x.ma], .pointer (some ⟨Cc, 0, none⟩), .pointer (some ⟨Co, 0, none⟩), .pointer (some ⟨Cg, 0, none⟩)] W' fun e W'' => e = .returned (.bool (p x)) ∧ Below W'.heap.size W' W'')
    (hBl : w.cell? ⟨Bl, 0, none⟩ = some (.slice a len cap)) (hBf : w.cell? ⟨Bf, 0, none⟩ = some (.func (.func 77) #[] #[.pointer (some ⟨Cc, 0, none⟩), .pointer (some ⟨Co, 0, none⟩), .pointer (some ⟨Cg, 0, none⟩)])) :
    SeqStopsK Fence.wide n Tryd.prog 99 #[.pointer (some ⟨Bl, 0, none⟩), .pointer (some ⟨Bf, 0, none⟩)] (fun x : Ac => #[Value.agg #[.bool x.al, .int .i64 x.wh, .int .i64 x.id, .int .i64 x.fl, .int .i64 x.ma]]) (KpC n₀ lo hi) (fun ys => ys = fltP p l len) (fun _ => True) len w := fun lp J Jx W hW hJ hJx hY h0 => by
  have hBl' := (hW.cell (p := ⟨Bl, 0, none⟩) (block_lt_of_cell hBl)).trans hBl
  have hBf' := (hW.cell (p := ⟨Bf, 0, none⟩) (block_lt_of_cell hBf)).trans hBf
  have hA' := hA.below hW
  by_cases hz : len = 0
  · subst hz
    exact (holdK_none n lp Bl Bf a cap J W hBl' h0).mono fun e W' ⟨he, hj⟩ => ⟨he, .inl ⟨_, rfl, hj⟩⟩
  · obtain ⟨b, off, rfl, hlt, hc⟩ := hA'.2 (by omega)
    exact holdK_in n hn lp Bl Bf n₀ lo hi b off len cap Cc Co Cg l p hA.1 hl (hA0 (by omega) _ rfl) hf0 hf1 hfl J Jx W hJ (Nat.le_trans hn0 hW.size) (Nat.le_trans hn1 hW.size) (fun x W' hK => hP x W' (kpC_t (kpC_grow hW hn0 hn1) hK)) hY hBl' hBf' hc h0
end Go.Proofs.YtdidbaadladkpaaDoor
