/- Laid together: TreeM, ButT. -/
import Derived.Test.YtgodbelcddgdmaaGreatNF1
import Derived.Deep.MidRow
/- A tree's nodes as they lie in a world. Nothing here names a program. -/
namespace Go.Proofs.YtgodbelcddgdmaaGreat
open Go.RowKit Go.PlainAid Go.Deep
set_option linter.unusedVariables false
/-- A node. -/
structure Nd where
  k : Int
  ow : Int
  gr : Int
  ex : Int
  A : Al
  sh : Bool
  D : Al
  li : Int
  up : Int
  bo : ByteArray
  ns : List (ByteArray × Int)
  ti : Int
/-- Where the lists of a node lie. -/
structure Na where
  aU : Option Addr
  cU : Nat
  aG : Option Addr
  cG : Nat
  dU : Option Addr
  eU : Nat
  dG : Option Addr
  eG : Nat
  nA : Option Addr
  nC : Nat
def ndZ : Nd := ⟨0, 0, 0, 0, alZ, false, alZ, 0, 0, ⟨#[]⟩, [], 0⟩
def naZ : Na := ⟨none, 0, none, 0, none, 0, none, 0, none, 0⟩
def ndAt (l : List Nd) (k : Nat) : Nd := l.getD k ndZ
def nmAt (l : List (ByteArray × Int)) (k : Nat) : ByteArray := (l.getD k (⟨#[]⟩, 0)).1
def noAt (l : List (ByteArray × Int)) (k : Nat) : Int := (l.getD k (⟨#[]⟩, 0)).2
/-- What a world holds of a list of entries. -/
def Ens (a : Option Addr) (len : Nat) (l : List (ByteArray × Int)) (w : World) : Prop :=
  l.length = len ∧ (0 < len → ∃ b off, a = some ⟨b, off, none⟩ ∧ b < w.heap.size ∧ ∀ i, i < len → w.cell? ⟨b, off + i * 2, none⟩ = some (.string (nmAt l i)) ∧ w.cell? ⟨b, off + i * 2 + 1, none⟩ = some (.int .i64 (noAt l i)))
theorem Ens.below {a : Option Addr} {len : Nat} {l : List (ByteArray × Int)} {w w' : World} (h : Ens a len l w) (hb : Below w.heap.size w w') : Ens a len l w' := by
  refine ⟨h.1, fun hl => ?_⟩
  obtain ⟨b, off, ha, hlt, hc⟩ := h.2 hl
  exact ⟨b, off, ha, Nat.lt_of_lt_of_le hlt hb.size, fun i hi => ⟨(hb.cell (p := ⟨b, off + i * 2, none⟩) hlt).trans (hc i hi).1, (hb.cell (p := ⟨b, off + i * 2 + 1, none⟩) hlt).trans (hc i hi).2⟩⟩
theorem ens_nil (a : Option Addr) (w : World) : Ens a 0 [] w := ⟨rfl, fun h => absurd h (by omega)⟩
theorem prs_nil (a : Option Addr) (w : World) : Prs a 0 [] w := ⟨rfl, fun h => absurd h (by omega)⟩
/-- The lists of a node lie where it says. -/
structure NdIn (w : World) (x : Nd) (y : Na) : Prop where
  aU : Prs y.aU x.A.us.length x.A.us w
  aG : Prs y.aG x.A.gs.length x.A.gs w
  dU : Prs y.dU x.D.us.length x.D.us w
  dG : Prs y.dG x.D.gs.length x.D.gs w
  nA : Ens y.nA x.ns.length x.ns w
theorem NdIn.below {w w' : World} {x : Nd} {y : Na} (h : NdIn w x y) (hb : Below w.heap.size w w') : NdIn w' x y := ⟨h.aU.below hb, h.aG.below hb, h.dU.below hb, h.dG.below hb, h.nA.below hb⟩
theorem ndIn_zero (w : World) : NdIn w ndZ naZ := ⟨prs_nil _ _, prs_nil _ _, prs_nil _ _, prs_nil _ _, ens_nil _ _⟩
/-- The cells of a list of names. -/
def alV (A : Al) (aU : Option Addr) (cU : Nat) (aG : Option Addr) (cG : Nat) : List Value := [.int .i64 A.u, .int .i64 A.g, .int .i64 A.o, .slice aU A.us.length cU, .slice aG A.gs.length cG, .bool A.r, .int .i64 A.m]
/-- The cells of a node. -/
def ndV (x : Nd) (y : Na) : List Value := [.int .i64 x.k, .int .i64 x.ow, .int .i64 x.gr, .int .i64 x.ex, .int .i64 x.A.u, .int .i64 x.A.g, .int .i64 x.A.o, .slice y.aU x.A.us.length y.cU, .slice y.aG x.A.gs.length y.cG, .bool x.A.r, .int .i64 x.A.m, .bool x.sh, .int .i64 x.D.u, .int .i64 x.D.g, .int .i64 x.D.o, .slice y.dU x.D.us.length y.eU, .slice y.dG x.D.gs.length y.eG, .bool x.D.r, .int .i64 x.D.m, .int .i64 x.li, .int .i64 x.up, .string x.bo, .slice y.nA x.ns.length y.nC, .int .i64 x.ti]
theorem ndV_len (x : Nd) (y : Na) : (ndV x y).length = 24 := rfl
theorem ndV_ones (x : Nd) (y : Na) : (ndV x y).toArray.all (·.oneCell') = true := all_oneCell_toArray (by simp [ndV]; simp [Value.oneCell'])
/-- A node lies in twenty-four cells. -/
abbrev N24 (w : World) (b o : Nat) (x : Nd) (y : Na) : Prop := w.rangeAt b o (ndV x y)
theorem N24.c0 {w : World} {b o : Nat} {x : Nd} {y : Na} (h : N24 w b o x y) : w.cell? ⟨b, o, none⟩ = some (.int .i64 x.k) := h 0 _ rfl
theorem N24.c1 {w : World} {b o : Nat} {x : Nd} {y : Na} (h : N24 w b o x y) : w.cell? ⟨b, o + 1, none⟩ = some (.int .i64 x.ow) := h 1 _ rfl
theorem N24.c2 {w : World} {b o : Nat} {x : Nd} {y : Na} (h : N24 w b o x y) : w.cell? ⟨b, o + 2, none⟩ = some (.int .i64 x.gr) := h 2 _ rfl
theorem N24.c3 {w : World} {b o : Nat} {x : Nd} {y : Na} (h : N24 w b o x y) : w.cell? ⟨b, o + 3, none⟩ = some (.int .i64 x.ex) := h 3 _ rfl
theorem N24.c4 {w : World} {b o : Nat} {x : Nd} {y : Na} (h : N24 w b o x y) : w.cell? ⟨b, o + 4, none⟩ = some (.int .i64 x.A.u) := h 4 _ rfl
theorem N24.c5 {w : World} {b o : Nat} {x : Nd} {y : Na} (h : N24 w b o x y) : w.cell? ⟨b, o + 5, none⟩ = some (.int .i64 x.A.g) := h 5 _ rfl
theorem N24.c6 {w : World} {b o : Nat} {x : Nd} {y : Na} (h : N24 w b o x y) : w.cell? ⟨b, o + 6, none⟩ = some (.int .i64 x.A.o) := h 6 _ rfl
theorem N24.c7 {w : World} {b o : Nat} {x : Nd} {y : Na} (h : N24 w b o x y) : w.cell? ⟨b, o + 7, none⟩ = some (.slice y.aU x.A.us.length y.cU) := h 7 _ rfl
theorem N24.c8 {w : World} {b o : Nat} {x : Nd} {y : Na} (h : N24 w b o x y) : w.cell? ⟨b, o + 8, none⟩ = some (.slice y.aG x.A.gs.length y.cG) := h 8 _ rfl
theorem N24.c9 {w : World} {b o : Nat} {x : Nd} {y : Na} (h : N24 w b o x y) : w.cell? ⟨b, o + 9, none⟩ = some (.bool x.A.r) := h 9 _ rfl
theorem N24.c10 {w : World} {b o : Nat} {x : Nd} {y : Na} (h : N24 w b o x y) : w.cell? ⟨b, o + 10, none⟩ = some (.int .i64 x.A.m) := h 10 _ rfl
theorem N24.c11 {w : World} {b o : Nat} {x : Nd} {y : Na} (h : N24 w b o x y) : w.cell? ⟨b, o + 11, none⟩ = some (.bool x.sh) := h 11 _ rfl
theorem N24.c12 {w : World} {b o : Nat} {x : Nd} {y : Na} (h : N24 w b o x y) : w.cell? ⟨b, o + 12, none⟩ = some (.int .i64 x.D.u) := h 12 _ rfl
theorem N24.c13 {w : World} {b o : Nat} {x : Nd} {y : Na} (h : N24 w b o x y) : w.cell? ⟨b, o + 13, none⟩ = some (.int .i64 x.D.g) := h 13 _ rfl
theorem N24.c14 {w : World} {b o : Nat} {x : Nd} {y : Na} (h : N24 w b o x y) : w.cell? ⟨b, o + 14, none⟩ = some (.int .i64 x.D.o) := h 14 _ rfl
theorem N24.c15 {w : World} {b o : Nat} {x : Nd} {y : Na} (h : N24 w b o x y) : w.cell? ⟨b, o + 15, none⟩ = some (.slice y.dU x.D.us.length y.eU) := h 15 _ rfl
theorem N24.c16 {w : World} {b o : Nat} {x : Nd} {y : Na} (h : N24 w b o x y) : w.cell? ⟨b, o + 16, none⟩ = some (.slice y.dG x.D.gs.length y.eG) := h 16 _ rfl
theorem N24.c17 {w : World} {b o : Nat} {x : Nd} {y : Na} (h : N24 w b o x y) : w.cell? ⟨b, o + 17, none⟩ = some (.bool x.D.r) := h 17 _ rfl
theorem N24.c18 {w : World} {b o : Nat} {x : Nd} {y : Na} (h : N24 w b o x y) : w.cell? ⟨b, o + 18, none⟩ = some (.int .i64 x.D.m) := h 18 _ rfl
theorem N24.c19 {w : World} {b o : Nat} {x : Nd} {y : Na} (h : N24 w b o x y) : w.cell? ⟨b, o + 19, none⟩ = some (.int .i64 x.li) := h 19 _ rfl
theorem N24.c20 {w : World} {b o : Nat} {x : Nd} {y : Na} (h : N24 w b o x y) : w.cell? ⟨b, o + 20, none⟩ = some (.int .i64 x.up) := h 20 _ rfl
theorem N24.c21 {w : World} {b o : Nat} {x : Nd} {y : Na} (h : N24 w b o x y) : w.cell? ⟨b, o + 21, none⟩ = some (.string x.bo) := h 21 _ rfl
theorem N24.c22 {w : World} {b o : Nat} {x : Nd} {y : Na} (h : N24 w b o x y) : w.cell? ⟨b, o + 22, none⟩ = some (.slice y.nA x.ns.length y.nC) := h 22 _ rfl
theorem N24.c23 {w : World} {b o : Nat} {x : Nd} {y : Na} (h : N24 w b o x y) : w.cell? ⟨b, o + 23, none⟩ = some (.int .i64 x.ti) := h 23 _ rfl
theorem N24.cA {w : World} {b o : Nat} {x : Nd} {y : Na} (h : N24 w b o x y) : w.rangeAt b (o + 4) (alV x.A y.aU y.cU y.aG y.cG) := by
  intro j v hv
  have hj : j < 7 := (List.getElem?_eq_some_iff.1 hv).1
  have e : o + 4 + j = o + (4 + j) := by omega
  rw [e]
  refine h (4 + j) v ?_
  rw [← hv]
  match j, hj with
  | 0, _ => rfl
  | 1, _ => rfl
  | 2, _ => rfl
  | 3, _ => rfl
  | 4, _ => rfl
  | 5, _ => rfl
  | 6, _ => rfl
theorem N24.cD {w : World} {b o : Nat} {x : Nd} {y : Na} (h : N24 w b o x y) : w.rangeAt b (o + 12) (alV x.D y.dU y.eU y.dG y.eG) := by
  intro j v hv
  have hj : j < 7 := (List.getElem?_eq_some_iff.1 hv).1
  have e : o + 12 + j = o + (12 + j) := by omega
  rw [e]
  refine h (12 + j) v ?_
  rw [← hv]
  match j, hj with
  | 0, _ => rfl
  | 1, _ => rfl
  | 2, _ => rfl
  | 3, _ => rfl
  | 4, _ => rfl
  | 5, _ => rfl
  | 6, _ => rfl
theorem N24.lA {w : World} {b o : Nat} {x : Nd} {y : Na} (h : N24 w b o x y) : w.cell? ⟨b, o + 4, none⟩ = some (.int .i64 x.A.u) ∧ w.cell? ⟨b, o + 5, none⟩ = some (.int .i64 x.A.g) ∧ w.cell? ⟨b, o + 6, none⟩ = some (.int .i64 x.A.o) ∧ w.cell? ⟨b, o + 7, none⟩ = some (.slice y.aU x.A.us.length y.cU) ∧ w.cell? ⟨b, o + 8, none⟩ = some (.slice y.aG x.A.gs.length y.cG) ∧ w.cell? ⟨b, o + 9, none⟩ = some (.bool x.A.r) ∧ w.cell? ⟨b, o + 10, none⟩ = some (.int .i64 x.A.m) :=
  ⟨N24.c4 h, N24.c5 h, N24.c6 h, N24.c7 h, N24.c8 h, N24.c9 h, N24.c10 h⟩
theorem N24.lD {w : World} {b o : Nat} {x : Nd} {y : Na} (h : N24 w b o x y) : w.cell? ⟨b, o + 12, none⟩ = some (.int .i64 x.D.u) ∧ w.cell? ⟨b, o + 13, none⟩ = some (.int .i64 x.D.g) ∧ w.cell? ⟨b, o + 14, none⟩ = some (.int .i64 x.D.o) ∧ w.cell? ⟨b, o + 15, none⟩ = some (.slice y.dU x.D.us.length y.eU) ∧ w.cell? ⟨b, o + 16, none⟩ = some (.slice y.dG x.D.gs.length y.eG) ∧ w.cell? ⟨b, o + 17, none⟩ = some (.bool x.D.r) ∧ w.cell? ⟨b, o + 18, none⟩ = some (.int .i64 x.D.m) :=
  ⟨N24.c12 h, N24.c13 h, N24.c14 h, N24.c15 h, N24.c16 h, N24.c17 h, N24.c18 h⟩
theorem range_keep {w w' : World} {b o : Nat} {cs : List Value} (h : w.rangeAt b o cs) (hc : ∀ j, w'.cell? ⟨b, j, none⟩ = w.cell? ⟨b, j, none⟩) : w'.rangeAt b o cs := fun j v hv => (hc _).trans (h j v hv)
theorem range_below {w w' : World} {b o : Nat} {cs : List Value} (h : w.rangeAt b o cs) (hlt : b < w.heap.size) (hb : Below w.heap.size w w') : w'.rangeAt b o cs := range_keep h (fun j => hb.cell (p := ⟨b, j, none⟩) hlt)
/-- What a world holds of a list of nodes. -/
def Nds (a : Option Addr) (len : Nat) (l : List Nd) (w : World) : Prop :=
  l.length = len ∧ (0 < len → ∃ (b off : Nat) (Y : Nat → Na), a = some ⟨b, off, none⟩ ∧ b < w.heap.size ∧ ∀ i, i < len → N24 w b (off + i * 24) (ndAt l i) (Y i) ∧ NdIn w (ndAt l i) (Y i))
theorem Nds.below {a : Option Addr} {len : Nat} {l : List Nd} {w w' : World} (h : Nds a len l w) (hb : Below w.heap.size w w') : Nds a len l w' := by
  refine ⟨h.1, fun hl => ?_⟩
  obtain ⟨b, off, Y, ha, hlt, hc⟩ := h.2 hl
  exact ⟨b, off, Y, ha, Nat.lt_of_lt_of_le hlt hb.size, fun i hi => ⟨range_below (hc i hi).1 hlt hb, (hc i hi).2.below hb⟩⟩
theorem nds_nil (a : Option Addr) (w : World) : Nds a 0 [] w := ⟨rfl, fun h => absurd h (by omega)⟩
theorem bl_setT {B b o : Nat} {W w1 : World} {x : Value} (hb : Below B W w1) (h : B ≤ b) : Below B W (w1.setCell ⟨b, o, none⟩ x) := hb.setCell h _
theorem bl_setsT {B b : Nat} {W : World} (h : B ≤ b) : ∀ (vs : List Value) (o : Nat) {w1 : World}, Below B W w1 → Below B W (w1.setCells b o vs)
  | [], _, _, hb => hb
  | v :: r, o, _, hb => by rw [World.setCells]; exact bl_setsT h r (o + 1) (bl_setT hb h)
/-- A box of cells. -/
structure BoxR (w : World) (B : Nat) (cs : List Value) : Prop where
  lt : B < w.heap.size
  at0 : w.rangeAt B 0 cs
theorem BoxR.below {w w' : World} {B : Nat} {cs : List Value} (h : BoxR w B cs) (hb : Below w.heap.size w w') : BoxR w' B cs := ⟨Nat.lt_of_lt_of_le h.lt hb.size, range_below h.at0 h.lt hb⟩
theorem boxR_new (w : World) (cs : List Value) (t : TypeId) : BoxR (w.alloc (.cells cs.toArray t)) w.heap.size cs := by
  refine ⟨by simp, fun j v hv => ?_⟩
  have hb : (w.alloc (.cells cs.toArray t)).heap[w.heap.size]? = some (.cells cs.toArray t) := by
    rw [World.alloc]
    exact Array.getElem?_push_size
  simp only [World.cell?, hb]
  simpa using hv
theorem alV_ones (A : Al) (aU : Option Addr) (cU : Nat) (aG : Option Addr) (cG : Nat) : (alV A aU cU aG cG).toArray.all (·.oneCell') = true := all_oneCell_toArray (by simp [alV]; simp [Value.oneCell'])
theorem alV_len (A : Al) (aU : Option Addr) (cU : Nat) (aG : Option Addr) (cG : Nat) : (alV A aU cU aG cG).length = 7 := rfl
theorem wpList_store_list {P : Program} {ops : Array Oper} {rest : List Oper} {op : Oper} {a : Act} {w : World} {Q : Exit → Act → World → Prop} (hgd : op.guard = none) (ty : TypeId) (x y : Operand) (ho : op.op = .store ty x y)
    (b o : Nat) (cs : List Value) (hx : a.eval x = .pointer (some ⟨b, o, none⟩)) (hy : a.eval y = .agg cs.toArray)
    (ht : w.there b o cs.length) (hi : (P.info? ty).map (·.size) = some cs.length) (h1 : cs.toArray.all (·.oneCell') = true)
    (h : wpList P ops Q rest (a.put op.dst undef) (w.setCells b o cs)) : wpList P ops Q (op :: rest) a w :=
  wpList_store_mid hgd ty x y ho b o cs.toArray hx hy (by simpa using ht) (by simpa using hi) h1 (by simpa using h)
theorem results_one {fn : Func} {p : Tmp} {ty : TypeId} (h : fn.results = #[.cell p ty]) {tmps : Array Value} {P : Program} {w : World} {a : Addr} {v : Value} (ha : tmps.getD p undef = .pointer (some a)) (hl : (loadVar ty a).run P w = .ok v w) : (results fn tmps).run P w = .ok v w := by
  simp only [results, h]
  have h2 : (asAddr (tmps.getD p undef)).run P w = .ok a w := by rw [ha]; rfl
  simp [Sem.run_bind, Result.andThen] at h2 ⊢
  rw [h2]
  simp [hl]
theorem NB.c0 {w : World} {B : Nat} {x : Nd} {y : Na} (h : BoxR w B (ndV x y)) : w.cell? ⟨B, 0, none⟩ = some (.int .i64 x.k) := h.at0 0 _ rfl
theorem NB.c1 {w : World} {B : Nat} {x : Nd} {y : Na} (h : BoxR w B (ndV x y)) : w.cell? ⟨B, 1, none⟩ = some (.int .i64 x.ow) := h.at0 1 _ rfl
theorem NB.c2 {w : World} {B : Nat} {x : Nd} {y : Na} (h : BoxR w B (ndV x y)) : w.cell? ⟨B, 2, none⟩ = some (.int .i64 x.gr) := h.at0 2 _ rfl
theorem NB.c3 {w : World} {B : Nat} {x : Nd} {y : Na} (h : BoxR w B (ndV x y)) : w.cell? ⟨B, 3, none⟩ = some (.int .i64 x.ex) := h.at0 3 _ rfl
theorem NB.c4 {w : World} {B : Nat} {x : Nd} {y : Na} (h : BoxR w B (ndV x y)) : w.cell? ⟨B, 4, none⟩ = some (.int .i64 x.A.u) := h.at0 4 _ rfl
theorem NB.c5 {w : World} {B : Nat} {x : Nd} {y : Na} (h : BoxR w B (ndV x y)) : w.cell? ⟨B, 5, none⟩ = some (.int .i64 x.A.g) := h.at0 5 _ rfl
theorem NB.c6 {w : World} {B : Nat} {x : Nd} {y : Na} (h : BoxR w B (ndV x y)) : w.cell? ⟨B, 6, none⟩ = some (.int .i64 x.A.o) := h.at0 6 _ rfl
theorem NB.c7 {w : World} {B : Nat} {x : Nd} {y : Na} (h : BoxR w B (ndV x y)) : w.cell? ⟨B, 7, none⟩ = some (.slice y.aU x.A.us.length y.cU) := h.at0 7 _ rfl
theorem NB.c8 {w : World} {B : Nat} {x : Nd} {y : Na} (h : BoxR w B (ndV x y)) : w.cell? ⟨B, 8, none⟩ = some (.slice y.aG x.A.gs.length y.cG) := h.at0 8 _ rfl
theorem NB.c9 {w : World} {B : Nat} {x : Nd} {y : Na} (h : BoxR w B (ndV x y)) : w.cell? ⟨B, 9, none⟩ = some (.bool x.A.r) := h.at0 9 _ rfl
theorem NB.c10 {w : World} {B : Nat} {x : Nd} {y : Na} (h : BoxR w B (ndV x y)) : w.cell? ⟨B, 10, none⟩ = some (.int .i64 x.A.m) := h.at0 10 _ rfl
theorem NB.c11 {w : World} {B : Nat} {x : Nd} {y : Na} (h : BoxR w B (ndV x y)) : w.cell? ⟨B, 11, none⟩ = some (.bool x.sh) := h.at0 11 _ rfl
theorem NB.c12 {w : World} {B : Nat} {x : Nd} {y : Na} (h : BoxR w B (ndV x y)) : w.cell? ⟨B, 12, none⟩ = some (.int .i64 x.D.u) := h.at0 12 _ rfl
theorem NB.c13 {w : World} {B : Nat} {x : Nd} {y : Na} (h : BoxR w B (ndV x y)) : w.cell? ⟨B, 13, none⟩ = some (.int .i64 x.D.g) := h.at0 13 _ rfl
theorem NB.c14 {w : World} {B : Nat} {x : Nd} {y : Na} (h : BoxR w B (ndV x y)) : w.cell? ⟨B, 14, none⟩ = some (.int .i64 x.D.o) := h.at0 14 _ rfl
theorem NB.c15 {w : World} {B : Nat} {x : Nd} {y : Na} (h : BoxR w B (ndV x y)) : w.cell? ⟨B, 15, none⟩ = some (.slice y.dU x.D.us.length y.eU) := h.at0 15 _ rfl
theorem NB.c16 {w : World} {B : Nat} {x : Nd} {y : Na} (h : BoxR w B (ndV x y)) : w.cell? ⟨B, 16, none⟩ = some (.slice y.dG x.D.gs.length y.eG) := h.at0 16 _ rfl
theorem NB.c17 {w : World} {B : Nat} {x : Nd} {y : Na} (h : BoxR w B (ndV x y)) : w.cell? ⟨B, 17, none⟩ = some (.bool x.D.r) := h.at0 17 _ rfl
theorem NB.c18 {w : World} {B : Nat} {x : Nd} {y : Na} (h : BoxR w B (ndV x y)) : w.cell? ⟨B, 18, none⟩ = some (.int .i64 x.D.m) := h.at0 18 _ rfl
theorem NB.c19 {w : World} {B : Nat} {x : Nd} {y : Na} (h : BoxR w B (ndV x y)) : w.cell? ⟨B, 19, none⟩ = some (.int .i64 x.li) := h.at0 19 _ rfl
theorem NB.c20 {w : World} {B : Nat} {x : Nd} {y : Na} (h : BoxR w B (ndV x y)) : w.cell? ⟨B, 20, none⟩ = some (.int .i64 x.up) := h.at0 20 _ rfl
theorem NB.c21 {w : World} {B : Nat} {x : Nd} {y : Na} (h : BoxR w B (ndV x y)) : w.cell? ⟨B, 21, none⟩ = some (.string x.bo) := h.at0 21 _ rfl
theorem NB.c22 {w : World} {B : Nat} {x : Nd} {y : Na} (h : BoxR w B (ndV x y)) : w.cell? ⟨B, 22, none⟩ = some (.slice y.nA x.ns.length y.nC) := h.at0 22 _ rfl
theorem NB.c23 {w : World} {B : Nat} {x : Nd} {y : Na} (h : BoxR w B (ndV x y)) : w.cell? ⟨B, 23, none⟩ = some (.int .i64 x.ti) := h.at0 23 _ rfl
theorem range_set {w : World} {b o : Nat} {cs : List Value} (h : w.rangeAt b o cs) (i : Nat) (hi : i < cs.length) (v : Value) : (w.setCell ⟨b, o + i, none⟩ v).rangeAt b o (cs.set i v) := by
  intro j u hj
  by_cases e : j = i
  · subst e
    simp [hi] at hj
    subst hj
    exact World.cell?_setCell_same _ _ _ (h j _ (List.getElem?_eq_getElem hi))
  · rw [List.getElem?_set_ne (Ne.symm e)] at hj
    rw [World.cell?_setCell_other _ _ _ _ (by intro h; have h2 := congrArg Addr.off h; simp only at h2; omega)]
    exact h j u hj
theorem range_other {w : World} {b o : Nat} {cs : List Value} (h : w.rangeAt b o cs) {b2 o2 : Nat} {v : Value} (hne : b2 ≠ b) : (w.setCell ⟨b2, o2, none⟩ v).rangeAt b o cs := by
  intro j u hj
  rw [World.cell?_setCell_other _ _ _ _ (by intro h; have h2 := congrArg Addr.block h; simp only at h2; omega)]
  exact h j u hj
theorem range_sets {w : World} {b o : Nat} {cs : List Value} (h : w.rangeAt b o cs) (i : Nat) (vs : List Value) (hi : i + vs.length ≤ cs.length) : (w.setCells b (o + i) vs).rangeAt b o (cs.take i ++ (vs ++ cs.drop (i + vs.length))) := by
  intro j u hj
  by_cases h1 : j < i
  · rw [List.getElem?_append_left (by simp; omega), List.getElem?_take_of_lt h1] at hj
    rw [World.cell?_setCells_out b vs (o + i) w ⟨b, o + j, none⟩ (fun _ _ => .inl (by show o + j < o + i; omega))]
    exact h j u hj
  · have e1 : (cs.take i).length = i := by simp; omega
    rw [List.getElem?_append_right (by omega), e1] at hj
    by_cases h2 : j - i < vs.length
    · rw [List.getElem?_append_left h2] at hj
      have e2 : o + j = o + i + (j - i) := by omega
      rw [e2, World.cell?_setCells_in b vs (o + i) w (fun k hk => by
        have := h (i + k) _ (List.getElem?_eq_getElem (by omega))
        rw [show o + i + k = o + (i + k) by omega, this]
        rfl) (j - i) h2, ← hj, List.getElem?_eq_getElem h2]
    · rw [List.getElem?_append_right (by omega), List.getElem?_drop] at hj
      rw [World.cell?_setCells_out b vs (o + i) w ⟨b, o + j, none⟩ (fun _ _ => .inr (by show o + i + vs.length ≤ o + j; omega))]
      rw [show i + vs.length + (j - i - vs.length) = j by omega] at hj
      exact h j u hj
theorem size_setCellsT (b : Nat) : ∀ (vs : List Value) (o : Nat) (w : World), (w.setCells b o vs).heap.size = w.heap.size
  | [], _, _ => rfl
  | v :: r, o, w => by rw [World.setCells, size_setCellsT b r]; simp
/-- A box of cells that may be written. -/
structure BoxW (w : World) (B : Nat) (cs : List Value) : Prop where
  lt : B < w.heap.size
  at0 : w.rangeAt B 0 cs
  frz : ∀ j, w.frozen? ⟨B, j, none⟩ = false
theorem BoxW.below {w w' : World} {B : Nat} {cs : List Value} (h : BoxW w B cs) (hb : Below w.heap.size w w') : BoxW w' B cs := ⟨Nat.lt_of_lt_of_le h.lt hb.size, range_below h.at0 h.lt hb, fun j => (hb.frozen (p := ⟨B, j, none⟩) h.lt).trans (h.frz j)⟩
theorem BoxW.set {w : World} {B : Nat} {cs : List Value} (h : BoxW w B cs) (i : Nat) (hi : i < cs.length) (v : Value) : BoxW (w.setCell ⟨B, i, none⟩ v) B (cs.set i v) := by
  refine ⟨by simpa using h.lt, ?_, fun j => by rw [World.frozen?_setCell]; exact h.frz j⟩
  have := range_set h.at0 i hi v
  rwa [Nat.zero_add] at this
theorem BoxW.sets {w : World} {B : Nat} {cs : List Value} (h : BoxW w B cs) (i : Nat) (vs : List Value) (hi : i + vs.length ≤ cs.length) : BoxW (w.setCells B i vs) B (cs.take i ++ (vs ++ cs.drop (i + vs.length))) := by
  refine ⟨by rw [size_setCellsT]; exact h.lt, ?_, fun j => by rw [World.frozen?_setCells]; exact h.frz j⟩
  have := range_sets h.at0 i vs hi
  rwa [Nat.zero_add] at this
theorem BoxW.other {w : World} {B : Nat} {cs : List Value} (h : BoxW w B cs) {b o : Nat} {v : Value} (hne : b ≠ B) : BoxW (w.setCell ⟨b, o, none⟩ v) B cs := ⟨by simpa using h.lt, range_other h.at0 hne, fun j => by rw [World.frozen?_setCell]; exact h.frz j⟩
theorem BoxW.others {w : World} {B : Nat} {cs : List Value} (h : BoxW w B cs) {b o : Nat} {vs : List Value} (hne : b ≠ B) : BoxW (w.setCells b o vs) B cs := ⟨by rw [size_setCellsT]; exact h.lt, World.rangeAt_setCells_apart h.at0 _ _ _ (.inl (Ne.symm hne)), fun j => by rw [World.frozen?_setCells]; exact h.frz j⟩
theorem BoxR.other {w : World} {B : Nat} {cs : List Value} (h : BoxR w B cs) {b o : Nat} {v : Value} (hne : b ≠ B) : BoxR (w.setCell ⟨b, o, none⟩ v) B cs := ⟨by simpa using h.lt, range_other h.at0 hne⟩
theorem BoxR.others {w : World} {B : Nat} {cs : List Value} (h : BoxR w B cs) {b o : Nat} {vs : List Value} (hne : b ≠ B) : BoxR (w.setCells b o vs) B cs := ⟨by rw [size_setCellsT]; exact h.lt, World.rangeAt_setCells_apart h.at0 _ _ _ (.inl (Ne.symm hne))⟩
theorem BoxW.there {w : World} {B : Nat} {cs : List Value} (h : BoxW w B cs) (i n : Nat) (hi : i + n ≤ cs.length) : w.there B i n := fun j hj => ⟨by
  have := h.at0 (i + j) _ (List.getElem?_eq_getElem (by omega))
  rw [show 0 + (i + j) = i + j by omega] at this
  rw [this]
  rfl, h.frz _⟩
theorem boxW_new (w : World) (cs : List Value) (t : TypeId) : BoxW (w.alloc (.cells cs.toArray t)) w.heap.size cs := by
  have h := boxR_new w cs t
  refine ⟨h.lt, h.at0, fun j => ?_⟩
  have hb : (w.alloc (.cells cs.toArray t)).heap[w.heap.size]? = some (.cells cs.toArray t) := by
    rw [World.alloc]
    exact Array.getElem?_push_size
  simp only [World.frozen?, hb]
  simp
theorem Prs.set {a : Option Addr} {len : Nat} {l : List (Int × Int)} {w : World} (h : Prs a len l w) {Z o : Nat} {v : Value} (hne : ∀ b f, a = some ⟨b, f, none⟩ → b ≠ Z) : Prs a len l (w.setCell ⟨Z, o, none⟩ v) := by
  refine ⟨h.1, fun hl => ?_⟩
  obtain ⟨b, off, ha, hlt, hc⟩ := h.2 hl
  have hn := hne _ _ ha
  refine ⟨b, off, ha, by simpa using hlt, fun i hi => ⟨?_, ?_⟩⟩ <;> rw [World.cell?_setCell_other _ _ _ _ (by intro h; have h2 := congrArg Addr.block h; simp only at h2; omega)]
  · exact (hc i hi).1
  · exact (hc i hi).2
theorem Ens.set {a : Option Addr} {len : Nat} {l : List (ByteArray × Int)} {w : World} (h : Ens a len l w) {Z o : Nat} {v : Value} (hne : ∀ b f, a = some ⟨b, f, none⟩ → b ≠ Z) : Ens a len l (w.setCell ⟨Z, o, none⟩ v) := by
  refine ⟨h.1, fun hl => ?_⟩
  obtain ⟨b, off, ha, hlt, hc⟩ := h.2 hl
  have hn := hne _ _ ha
  refine ⟨b, off, ha, by simpa using hlt, fun i hi => ⟨?_, ?_⟩⟩ <;> rw [World.cell?_setCell_other _ _ _ _ (by intro h; have h2 := congrArg Addr.block h; simp only at h2; omega)]
  · exact (hc i hi).1
  · exact (hc i hi).2
theorem Prs.sets {a : Option Addr} {len : Nat} {l : List (Int × Int)} {Z : Nat} (hne : ∀ b f, a = some ⟨b, f, none⟩ → b ≠ Z) : ∀ (vs : List Value) (o : Nat) {w : World}, Prs a len l w → Prs a len l (w.setCells Z o vs)
  | [], _, _, h => h
  | v :: r, o, _, h => by rw [World.setCells]; exact Prs.sets hne r (o + 1) (h.set hne)
theorem Ens.sets {a : Option Addr} {len : Nat} {l : List (ByteArray × Int)} {Z : Nat} (hne : ∀ b f, a = some ⟨b, f, none⟩ → b ≠ Z) : ∀ (vs : List Value) (o : Nat) {w : World}, Ens a len l w → Ens a len l (w.setCells Z o vs)
  | [], _, _, h => h
  | v :: r, o, _, h => by rw [World.setCells]; exact Ens.sets hne r (o + 1) (h.set hne)
/-- The lists of a node lie from block N on. -/
structure NaFrom (N : Nat) (y : Na) : Prop where
  aU : ∀ b f, y.aU = some ⟨b, f, none⟩ → N ≤ b
  aG : ∀ b f, y.aG = some ⟨b, f, none⟩ → N ≤ b
  dU : ∀ b f, y.dU = some ⟨b, f, none⟩ → N ≤ b
  dG : ∀ b f, y.dG = some ⟨b, f, none⟩ → N ≤ b
  nA : ∀ b f, y.nA = some ⟨b, f, none⟩ → N ≤ b
theorem NaFrom.mono {N M : Nat} {y : Na} (h : NaFrom N y) (hm : M ≤ N) : NaFrom M y := ⟨fun b f e => Nat.le_trans hm (h.aU b f e), fun b f e => Nat.le_trans hm (h.aG b f e), fun b f e => Nat.le_trans hm (h.dU b f e), fun b f e => Nat.le_trans hm (h.dG b f e), fun b f e => Nat.le_trans hm (h.nA b f e)⟩
theorem NdIn.sets {w : World} {x : Nd} {y : Na} {N Z : Nat} (h : NdIn w x y) (hf : NaFrom N y) (hz : Z < N) (vs : List Value) (o : Nat) : NdIn (w.setCells Z o vs) x y :=
  ⟨h.aU.sets (fun b f e => by have := hf.aU b f e; omega) vs o, h.aG.sets (fun b f e => by have := hf.aG b f e; omega) vs o, h.dU.sets (fun b f e => by have := hf.dU b f e; omega) vs o, h.dG.sets (fun b f e => by have := hf.dG b f e; omega) vs o, h.nA.sets (fun b f e => by have := hf.nA b f e; omega) vs o⟩
/-- A row of nodes that may be written. -/
structure NRow (w : World) (B : Nat) (F : Nat → Nd) (Y : Nat → Na) (n : Nat) : Prop where
  at' : ∀ i, i < n → N24 w B (i * 24) (F i) (Y i)
  frz : ∀ j, w.frozen? ⟨B, j, none⟩ = false
theorem NRow.below {w w' : World} {B : Nat} {F : Nat → Nd} {Y : Nat → Na} {n : Nat} (h : NRow w B F Y n) (hlt : B < w.heap.size) (hb : Below w.heap.size w w') : NRow w' B F Y n :=
  ⟨fun i hi => range_below (h.at' i hi) hlt hb, fun j => (hb.frozen (p := ⟨B, j, none⟩) hlt).trans (h.frz j)⟩
theorem NRow.there {w : World} {B : Nat} {F : Nat → Nd} {Y : Nat → Na} {n : Nat} (h : NRow w B F Y n) (k : Nat) (hk : k < n) : w.there B (k * 24) 24 := fun j hj => ⟨(h.at' k hk).isSome j (by rw [ndV_len]; exact hj), h.frz _⟩
theorem NRow.set {w : World} {B : Nat} {F : Nat → Nd} {Y : Nat → Na} {n : Nat} (h : NRow w B F Y n) (k : Nat) (hk : k < n) (x : Nd) (y : Na) : NRow (w.setCells B (k * 24) (ndV x y)) B (fun i => if i = k then x else F i) (fun i => if i = k then y else Y i) n := by
  refine ⟨fun i hi => ?_, fun j => by rw [World.frozen?_setCells]; exact h.frz j⟩
  by_cases e : i = k
  · subst e
    simp only [if_pos]
    exact World.rangeAt_setCells_same _ _ _ _ (h.there i hi)
  · simp only [if_neg e]
    refine World.rangeAt_setCells_apart (h.at' i hi) _ _ _ (.inr ?_)
    rw [ndV_len, ndV_len]
    omega
theorem NRow.other {w : World} {B : Nat} {F : Nat → Nd} {Y : Nat → Na} {n : Nat} (h : NRow w B F Y n) {Z o : Nat} {v : Value} (hne : Z ≠ B) : NRow (w.setCell ⟨Z, o, none⟩ v) B F Y n :=
  ⟨fun i hi => range_other (h.at' i hi) hne, fun j => by rw [World.frozen?_setCell]; exact h.frz j⟩
theorem NdIn.set {w : World} {x : Nd} {y : Na} {N Z o : Nat} {v : Value} (h : NdIn w x y) (hf : NaFrom N y) (hz : Z < N) : NdIn (w.setCell ⟨Z, o, none⟩ v) x y :=
  ⟨h.aU.set (fun b f e => by have := hf.aU b f e; omega), h.aG.set (fun b f e => by have := hf.aG b f e; omega), h.dU.set (fun b f e => by have := hf.dU b f e; omega), h.dG.set (fun b f e => by have := hf.dG b f e; omega), h.nA.set (fun b f e => by have := hf.nA b f e; omega)⟩
/-- A list of nodes in memory of its own. -/
structure OwnN (w : World) (B : Nat) (l : List Nd) (n : Nat) : Prop where
  ln : l.length = n
  lt : B < w.heap.size
  ex : ∃ Y, NRow w B (ndAt l) Y n ∧ ∀ i, i < n → NdIn w (ndAt l i) (Y i) ∧ NaFrom (B + 1) (Y i)
theorem OwnN.nds {w : World} {B n : Nat} {l : List Nd} (h : OwnN w B l n) : Nds (some ⟨B, 0, none⟩) n l w := by
  obtain ⟨Y, hR, hN⟩ := h.ex
  exact ⟨h.ln, fun _ => ⟨B, 0, Y, rfl, h.lt, fun i hi => ⟨by rw [Nat.zero_add]; exact hR.at' i hi, (hN i hi).1⟩⟩⟩
theorem OwnN.below {w w' : World} {B n : Nat} {l : List Nd} (h : OwnN w B l n) (hb : Below w.heap.size w w') : OwnN w' B l n := by
  obtain ⟨Y, hR, hN⟩ := h.ex
  exact ⟨h.ln, Nat.lt_of_lt_of_le h.lt hb.size, Y, hR.below h.lt hb, fun i hi => ⟨(hN i hi).1.below hb, (hN i hi).2⟩⟩
theorem OwnN.set {w : World} {B n : Nat} {l : List Nd} (h : OwnN w B l n) {Z o : Nat} {v : Value} (hz : Z < B) : OwnN (w.setCell ⟨Z, o, none⟩ v) B l n := by
  obtain ⟨Y, hR, hN⟩ := h.ex
  exact ⟨h.ln, by simpa using h.lt, Y, hR.other (by omega), fun i hi => ⟨(hN i hi).1.set (hN i hi).2 (by omega), (hN i hi).2⟩⟩
theorem made_nodes (w : World) (n : Nat) (t : TypeId) : NRow (w.alloc (.cells (madeCells #[.int .i64 0, .int .i64 0, .int .i64 0, .int .i64 0, .int .i64 0, .int .i64 0, .int .i64 0, .slice none 0 0, .slice none 0 0, .bool false, .int .i64 0, .bool false, .int .i64 0, .int .i64 0, .int .i64 0, .slice none 0 0, .slice none 0 0, .bool false, .int .i64 0, .int .i64 0, .int .i64 0, .string ⟨#[]⟩, .slice none 0 0, .int .i64 0] (n * 24)) t)) w.heap.size (fun _ => ndZ) (fun _ => naZ) n := by
  have hb : (w.alloc (.cells (madeCells #[.int .i64 0, .int .i64 0, .int .i64 0, .int .i64 0, .int .i64 0, .int .i64 0, .int .i64 0, .slice none 0 0, .slice none 0 0, .bool false, .int .i64 0, .bool false, .int .i64 0, .int .i64 0, .int .i64 0, .slice none 0 0, .slice none 0 0, .bool false, .int .i64 0, .int .i64 0, .int .i64 0, .string ⟨#[]⟩, .slice none 0 0, .int .i64 0] (n * 24)) t)).heap[w.heap.size]? = some (.cells (madeCells #[.int .i64 0, .int .i64 0, .int .i64 0, .int .i64 0, .int .i64 0, .int .i64 0, .int .i64 0, .slice none 0 0, .slice none 0 0, .bool false, .int .i64 0, .bool false, .int .i64 0, .int .i64 0, .int .i64 0, .slice none 0 0, .slice none 0 0, .bool false, .int .i64 0, .int .i64 0, .int .i64 0, .string ⟨#[]⟩, .slice none 0 0, .int .i64 0] (n * 24)) t) := by
    rw [World.alloc]
    exact Array.getElem?_push_size
  refine ⟨fun i hi j v hv => ?_, fun j => by simp only [World.frozen?, hb]; simp⟩
  have hj : j < 24 := (List.getElem?_eq_some_iff.1 hv).1
  have m0 : (i * 24 + j) % 24 = j := by omega
  have l0 : i * 24 + j < n * 24 := by omega
  simp only [World.cell?, hb]
  simp only [madeCells]
  simp [l0, m0]
  have hv2 : ([.int .i64 0, .int .i64 0, .int .i64 0, .int .i64 0, .int .i64 0, .int .i64 0, .int .i64 0, .slice none 0 0, .slice none 0 0, .bool false, .int .i64 0, .bool false, .int .i64 0, .int .i64 0, .int .i64 0, .slice none 0 0, .slice none 0 0, .bool false, .int .i64 0, .int .i64 0, .int .i64 0, .string ⟨#[]⟩, .slice none 0 0, .int .i64 0] : List Value)[j]? = some v := hv
  rw [hv2]
  rfl
theorem run_make_nodes {P : Program} (t e : TypeId) (ht : P.underlying t = some (.slice e)) (hinfo : (P.info? e).map (fun i => (i.zero, i.size, i.bytes)) = some (some (.agg #[.int .i64 0, .int .i64 0, .int .i64 0, .int .i64 0, .int .i64 0, .int .i64 0, .int .i64 0, .slice none 0 0, .slice none 0 0, .bool false, .int .i64 0, .bool false, .int .i64 0, .int .i64 0, .int .i64 0, .slice none 0 0, .slice none 0 0, .bool false, .int .i64 0, .int .i64 0, .int .i64 0, .string ⟨#[]⟩, .slice none 0 0, .int .i64 0]), 24, 280))
    (kl kc : IntKind) (n : Nat) (hbytes : 280 * n ≤ 281474976710656) (w : World) :
    (Instr.makeSlice t (.int kl (n : Int)) (.int kc (n : Int))).run P w = .ok (.slice (some ⟨w.heap.size, 0, none⟩) n n) (w.alloc (.cells (madeCells #[.int .i64 0, .int .i64 0, .int .i64 0, .int .i64 0, .int .i64 0, .int .i64 0, .int .i64 0, .slice none 0 0, .slice none 0 0, .bool false, .int .i64 0, .bool false, .int .i64 0, .int .i64 0, .int .i64 0, .slice none 0 0, .slice none 0 0, .bool false, .int .i64 0, .int .i64 0, .int .i64 0, .string ⟨#[]⟩, .slice none 0 0, .int .i64 0] (n * 24)) e)) := by
  obtain ⟨i, hi, hzz⟩ := Option.map_eq_some_iff.1 hinfo
  simp only [Prod.mk.injEq] at hzz
  obtain ⟨hz, hs, hb⟩ := hzz
  have hb' : (i.bytes : Int) * (n : Int) ≤ 281474976710656 := by
    have h : ((280 * n : Nat) : Int) ≤ 281474976710656 := by omega
    rw [hb]
    rwa [Int.natCast_mul] at h
  have hr := run_make (P := P) w t e i _ ht hi hz kl kc n n (by omega) (Int.le_refl _) hb' (by omega)
  simp only [Int.toNat_natCast, hs] at hr
  exact hr
theorem apart_of {B Z : Nat} (h : Z < B) : ∀ b f, (some ⟨B, 0, none⟩ : Option Addr) = some ⟨b, f, none⟩ → b ≠ Z := by
  intro b f e
  have : B = b := by simpa using congrArg (fun a => (a.map Addr.block)) e
  omega
theorem setS {B b o : Nat} {W w1 : World} {x : Value} (hb : Below B W w1) (h : B ≤ b) : Below B W (w1.setCell ⟨b, o, none⟩ x) := hb.setCell h _
/-- The world is as it was, but for the cells of one block, and new ones. -/
structure ButS (a : Option Addr) (w w' : World) : Prop where
  size : w.heap.size ≤ w'.heap.size
  below : ∀ c, c ≤ w.heap.size → (∀ A, a = some A → c ≤ A.block) → Below c w w'
  cell : ∀ b o, b < w.heap.size → (∀ A, a = some A → b ≠ A.block) → w'.cell? ⟨b, o, none⟩ = w.cell? ⟨b, o, none⟩ ∧ w'.frozen? ⟨b, o, none⟩ = w.frozen? ⟨b, o, none⟩
theorem ButS.refl (a : Option Addr) (w : World) : ButS a w w := ⟨Nat.le_refl _, fun _ _ _ => Below.refl _ _, fun _ _ _ _ => ⟨rfl, rfl⟩⟩
theorem ButS.set {B o : Nat} {w w' : World} {v : Value} (h : ButS (some ⟨B, 0, none⟩) w w') : ButS (some ⟨B, 0, none⟩) w (w'.setCell ⟨B, o, none⟩ v) := by
  refine ⟨by simpa using h.size, fun c hc1 hc => setS (h.below c hc1 hc) (hc _ rfl), fun b o2 hb1 hb => ?_⟩
  have h1 := h.cell b o2 hb1 hb
  rw [World.frozen?_setCell, ← h1.1]
  exact ⟨World.cell?_setCell_other _ _ _ _ (by intro h; have h2 := congrArg Addr.block h; exact hb _ rfl (by simpa using h2.symm)), h1.2⟩
theorem ButS.on {a : Option Addr} {w w1 w2 : World} (h : ButS a w w1) (hb : Below w1.heap.size w1 w2) : ButS a w w2 := by
  refine ⟨Nat.le_trans h.size hb.size, fun c h1 h2 => (h.below c h1 h2).trans (hb.mono (Nat.le_trans h1 h.size)), fun b o h1 h2 => ?_⟩
  have h3 := h.cell b o h1 h2
  have hlt := Nat.lt_of_lt_of_le h1 h.size
  exact ⟨(hb.cell (p := ⟨b, o, none⟩) hlt).trans h3.1, (hb.frozen (p := ⟨b, o, none⟩) hlt).trans h3.2⟩
theorem ButS.trans {a : Option Addr} {w w1 w2 : World} (h : ButS a w w1) (h2 : ButS a w1 w2) : ButS a w w2 := by
  refine ⟨Nat.le_trans h.size h2.size, fun c hc hA => (h.below c hc hA).trans (h2.below c (Nat.le_trans hc h.size) hA), fun b o hb hA => ?_⟩
  have h3 := h.cell b o hb hA
  have h4 := h2.cell b o (Nat.lt_of_lt_of_le hb h.size) hA
  exact ⟨h4.1.trans h3.1, h4.2.trans h3.2⟩
theorem ButS.of {a : Option Addr} {w w1 : World} (h : Below w.heap.size w w1) : ButS a w w1 := (ButS.refl a w).on h
theorem BoxR.butS {a : Option Addr} {w w' : World} {X : Nat} {cs : List Value} (h : BoxR w X cs) (hb : ButS a w w') (hne : ∀ A, a = some A → X ≠ A.block) : BoxR w' X cs := ⟨Nat.lt_of_lt_of_le h.lt hb.size, range_keep h.at0 (fun j => (hb.cell X j h.lt hne).1)⟩
theorem BoxW.butS {a : Option Addr} {w w' : World} {X : Nat} {cs : List Value} (h : BoxW w X cs) (hb : ButS a w w') (hne : ∀ A, a = some A → X ≠ A.block) : BoxW w' X cs := ⟨Nat.lt_of_lt_of_le h.lt hb.size, range_keep h.at0 (fun j => (hb.cell X j h.lt hne).1), fun j => (hb.cell X j h.lt hne).2.trans (h.frz j)⟩
end Go.Proofs.YtgodbelcddgdmaaGreat
