/- namedAces of the program: what a round of its loop keeps. -/
import Derived.Test.YtddkmlkfphmdoaaDoorHoldN
import Derived.Test.YtddkmlkfphmdoaaDoorChmodI
import Derived.Test.YtddkmlkfphmdoaaDoorNfsBits
import Derived.Test.YtddkmlkfphmdoaaDoorRmMath
import Derived.RangeFuncBox
import Derived.Stop.RegionWithIn
import Derived.Sort.CutIn
namespace Go.Proofs.YtddkmlkfphmdoaaDoor
open Go.RowKit Go.PlainAid Go.Shelf
set_option linter.unusedVariables false
/-- A user or a group is named. -/
def nmdB (x : Ac) : Bool := decide (x.wh = 4) || decide (x.wh = 5)
/-- What of a mask stays. -/
def ctM (g : Int) (x : Ac) : Int := if x.al then bits .andNot .i64 x.ma (bits .andNot .i64 15 (bitsZ g)) else x.ma
/-- An ace of who is named, as it stays. -/
def ctA (g : Int) (x : Ac) : Ac := ⟨x.al, x.wh, x.id, 0, ctM g x⟩
/-- A box of an ace. -/
def Bx5 (W : World) (B : Nat) (x : Ac) : Prop := W.heap[B]? = some (.cells #[.bool x.al, .int .i64 x.wh, .int .i64 x.id, .int .i64 x.fl, .int .i64 x.ma] 39 (0, 0))
theorem Bx5.new (W : World) (x : Ac) : Bx5 (W.alloc (.cells #[.bool x.al, .int .i64 x.wh, .int .i64 x.id, .int .i64 x.fl, .int .i64 x.ma] 39)) W.heap.size x := World.alloc_heap_new W _
theorem Bx5.lt {W : World} {B : Nat} {x : Ac} (h : Bx5 W B x) : B < W.heap.size := (Array.getElem?_eq_some_iff.1 h).1
theorem Bx5.five {W : World} {B : Nat} {x : Ac} (h : Bx5 W B x) : Five W B 0 x := by
  have h' : W.heap[B]? = _ := h
  refine ⟨?_, ?_, ?_, ?_, ?_⟩ <;> simp [World.cell?, h']
theorem Bx5.free {W : World} {B : Nat} {x : Ac} (h : Bx5 W B x) (o : Nat) : W.frozen? ⟨B, o, none⟩ = false := by
  have h' : W.heap[B]? = _ := h
  simp [World.frozen?, h']
theorem Bx5.below {W W' : World} {B : Nat} {x : Ac} (h : Bx5 W B x) (hb : Below W.heap.size W W') : Bx5 W' B x := (hb.block B h.lt).trans h
theorem Bx5.kept {W W' : World} {row : Option Nat} {B : Nat} {x : Ac} (h : Bx5 W B x) (hg : W.grownBy W' row) (hr : ∀ r, row = some r → ∃ o : Obj, W.heap[r]? = some o ∧ o.isCells = false) : Bx5 W' B x := by
  refine (hg.block B h.lt (fun e' => ?_)).trans h
  obtain ⟨o, ho, hc⟩ := hr B e'.symm
  rw [show W.heap[B]? = _ from h] at ho; cases ho; cases hc
theorem Bx5.fl {W : World} {B : Nat} {x : Ac} (h : Bx5 W B x) (f : Int) : Bx5 (W.setCell ⟨B, 3, none⟩ (.int .i64 f)) B { x with fl := f } := by
  obtain ⟨hlt, hk⟩ := Array.getElem?_eq_some_iff.1 h
  show (W.heap.modify B _)[B]? = _
  rw [Array.getElem?_eq_getElem (by rw [Array.size_modify]; exact hlt), Array.getElem_modify_self, hk]
  rfl
theorem Bx5.ma {W : World} {B : Nat} {x : Ac} (h : Bx5 W B x) (f : Int) : Bx5 (W.setCell ⟨B, 4, none⟩ (.int .i64 f)) B { x with ma := f } := by
  obtain ⟨hlt, hk⟩ := Array.getElem?_eq_some_iff.1 h
  show (W.heap.modify B _)[B]? = _
  rw [Array.getElem?_eq_getElem (by rw [Array.size_modify]; exact hlt), Array.getElem_modify_self, hk]
  rfl
theorem grownBy_setC (W : World) (b o : Nat) (v : Value) : W.grownBy (W.setCell ⟨b, o, none⟩ v) (some b) :=
  ⟨rfl, rfl, rfl, (KeepsWalks.setCell W _ v).size, fun k _ hk => Below.heap_setCell _ _ _ k (fun e => hk (by rw [e]))⟩
/-- What holds in a round: the list's box, the row, the box of the group's bits. -/
structure NmI (w : World) (N0 : Nat) (g : Int) (acc : List Ac) (v : Value) (W : World) : Prop where
  bx : Boxed W (w.heap.size + 1) 24 v
  row : W.ownsRow N0 39 5 v acc.length (pcA acc)
  gr : W.cell? ⟨w.heap.size, 0, none⟩ = some (.int .i64 g)
  bel : Below w.heap.size w W
  sz : N0 ≤ W.heap.size
/-- What a step within a round keeps. -/
structure NmS (N0 : Nat) (W W' : World) : Prop where
  ko : KeepsOthers W W'
  bel : Below N0 W W'
theorem NmS.refl (N0 : Nat) (W : World) : NmS N0 W W := ⟨KeepsOthers.refl _, Below.refl _ _⟩
theorem NmS.trans {N0 : Nat} {A B C : World} (h : NmS N0 A B) (k : NmS N0 B C) : NmS N0 A C := ⟨h.ko.trans k.ko, h.bel.trans k.bel⟩
theorem ko_below {W W' : World} (hb : Below W.heap.size W W') : KeepsOthers W W' :=
  KeepsOthers.of_grownBy (row := none) ⟨hb.os, hb.tape, hb.output, hb.size, fun k hk _ => hb.block k hk⟩ (fun j o e => by cases e)
theorem NmS.below {N0 : Nat} {W W' : World} (hb : Below W.heap.size W W') (h : N0 ≤ W.heap.size) : NmS N0 W W' := ⟨ko_below hb, hb.mono h⟩
theorem NmS.set {N0 : Nat} {W : World} {b o : Nat} {v : Value} (h : N0 ≤ b) : NmS N0 W (W.setCell ⟨b, o, none⟩ v) := ⟨KeepsOthers.setCell _ _ _, bl_setA (Below.refl _ _) h⟩
theorem NmI.below {w : World} {N0 : Nat} {g : Int} {acc : List Ac} {v : Value} {W W' : World} (h : NmI w N0 g acc v W) (hb : Below W.heap.size W W') : NmI w N0 g acc v W' :=
  ⟨(hb.block _ h.bx.lt).trans h.bx, rowA_below h.row hb, (hb.cell (p := ⟨w.heap.size, 0, none⟩) (by have := h.bx.lt; show w.heap.size < _; omega)).trans h.gr, Below.on h.bel hb, Nat.le_trans h.sz hb.size⟩
theorem NmI.set {w : World} {N0 : Nat} {g : Int} {acc : List Ac} {v : Value} {W : World} (h : NmI w N0 g acc v W) {b o : Nat} {u : Value} (h1 : w.heap.size + 1 < b) (hne : v.ownBlock ≠ some b) : NmI w N0 g acc v (W.setCell ⟨b, o, none⟩ u) :=
  ⟨h.bx.kept (grownBy_setC W b o u) (fun e => by cases e; omega), h.row.kept (grownBy_setC W b o u) (.inr hne), by
    rw [World.cell?_setCell_other _ _ _ _ (by intro e; have h2 := congrArg Addr.block e; simp only at h2; omega)]; exact h.gr, bl_setA h.bel (by omega), by simpa using h.sz⟩
theorem row_weak {w : World} {B B' : Nat} {t : TypeId} {s : Nat} {v : Value} {n : Nat} {xs : List Value} (h : w.ownsRow B t s v n xs) (hb : B' ≤ B) : w.ownsRow B' t s v n xs := by
  obtain ⟨h0, ⟨rfl, hn⟩ | ⟨g, cap, cur, rfl, hB, hr⟩⟩ := h
  · exact ⟨h0, .inl ⟨rfl, hn⟩⟩
  · exact ⟨h0, .inr ⟨g, cap, cur, rfl, by omega, hr⟩⟩
/-- The append and the store behind it. -/
theorem nm_app {w : World} {N0 : Nat} {g : Int} {acc : List Ac} {v : Value} {W : World} (h : NmI w N0 g acc v W) (hN : w.heap.size + 4 = N0) (y : Ac) (hl : acc.length ≤ 100000000) :
    ∃ v' w', (Builtin.append_ #[24, 24] 24 #[v, .slice (some ⟨W.heap.size, 0, none⟩) 1 1]).run Tryd.prog (W.alloc (.cells #[.bool y.al, .int .i64 y.wh, .int .i64 y.id, .int .i64 y.fl, .int .i64 y.ma] 39)) = .ok v' w' ∧ (∃ G c, v' = .slice (some ⟨G, 0, none⟩) (acc.length + 1) c) ∧ Boxed w' (w.heap.size + 1) 24 v ∧ NmI w N0 g (acc ++ [y]) v' (w'.setCell ⟨w.heap.size + 1, 0, none⟩ v') ∧ KeepsOthers W (w'.setCell ⟨w.heap.size + 1, 0, none⟩ v') ∧ KpC w.heap.size (w.heap.size + 2) N0 W (w'.setCell ⟨w.heap.size + 1, 0, none⟩ v') := by
  have hb1 := bel_alloc W (.cells #[.bool y.al, .int .i64 y.wh, .int .i64 y.id, .int .i64 y.fl, .int .i64 y.ma] 39)
  have hs1 : W.heap.size ≤ (W.alloc (.cells #[.bool y.al, .int .i64 y.wh, .int .i64 y.id, .int .i64 y.fl, .int .i64 y.ma] 39)).heap.size := hb1.size
  obtain ⟨v', w', hr, hO, hg⟩ := run_append_acs (P := Tryd.prog) _ N0 24 24 39 Tryd.underlying24 infoAce v acc (rowA_below h.row hb1) _ 1 1 [y] (acs_one W y 39) (by omega) (Nat.le_trans h.sz hs1)
  obtain ⟨b1, b2, b3, b4, b5⟩ := Boxed.appended (n₀ := 0) h.bx (by decide) (row_weak h.row (Nat.zero_le _)) (Nat.zero_le _) (Nat.zero_le _) (row_weak hO (Nat.zero_le _)) hg
  have hBl : Below N0 W w' := ((Below.refl N0 W).alloc h.sz _).grown hg (Nat.le_trans h.sz hs1) (own_blockA h.row)
  have hBs : Below w.heap.size W (w'.setCell ⟨w.heap.size + 1, 0, none⟩ v') := bl_setA (hBl.mono (by omega)) (by omega)
  have hoc : ∀ c o : Nat, c ≠ w.heap.size + 1 → (w'.setCell ⟨w.heap.size + 1, 0, none⟩ v').cell? ⟨c, o, none⟩ = w'.cell? ⟨c, o, none⟩ := fun c o hc => World.cell?_setCell_other _ _ _ _ (by intro e; have h2 := congrArg Addr.block e; simp only at h2; omega)
  have e1 : (acc ++ [y]).length = acc.length + 1 := by simp
  refine ⟨v', w', hr, ?_, b1, ⟨b2, hO.kept (grownBy_setCell' w' _ v') (.inr (b1.not_row (by decide) hO).symm), ?_, h.bel.trans hBs, ?_⟩, b4, hBs, fun c o u h1 h2 hu => ?_⟩
  · rw [e1] at hO
    exact ownsRow_succ hO
  · rw [hoc _ _ (by omega)]
    exact (hBl.cell (p := ⟨w.heap.size, 0, none⟩) (by show w.heap.size < _; omega)).trans h.gr
  · have := hBl.size
    have := h.sz
    simp only [World.size_setCell]
    omega
  · rw [hoc _ _ (by omega)]
    exact (hBl.cell (p := ⟨c, o, none⟩) h2).trans hu
theorem NmS.kp {w : World} {N0 : Nat} {W W' : World} (h : NmS N0 W W') (hN : w.heap.size + 4 = N0) : KpC w.heap.size (w.heap.size + 2) N0 W W' := ⟨h.bel.mono (by omega), fun c o v h1 h2 hv => (h.bel.cell (p := ⟨c, o, none⟩) h2).trans hv⟩
theorem boxed_inj {W : World} {B : Nat} {t : TypeId} {v v' : Value} (h : Boxed W B t v) (h' : Boxed W B t v') : v = v' := by
  have := h.cell.symm.trans h'.cell
  simpa using this
end Go.Proofs.YtddkmlkfphmdoaaDoor
