/- Laid together: AlT, TreeM. -/
import Derived.Test.YtgahphiabajokaaDW1
import Derived.Deep.MidRow
/- A list of names as a whole. -/
namespace Go.Proofs.Ytgahphiabajokaa
open Go.RowKit Go.PlainAid Go.Deep
set_option linter.unusedVariables false
/-- A list of names. -/
structure Al where
  u : Int
  g : Int
  o : Int
  us : List (Int × Int)
  gs : List (Int × Int)
  r : Bool
  m : Int
def alZ : Al := ⟨0, 0, 0, [], [], false, 0⟩
def Al.B (a : Al) : Bool := aclB a.u a.g a.o a.us a.gs a.r a.m
end Go.Proofs.Ytgahphiabajokaa
/- A tree's nodes as they lie in a world. Nothing here names a program. -/
namespace Go.Proofs.Ytgahphiabajokaa
open Go.RowKit Go.PlainAid Go.Deep
set_option linter.unusedVariables false
/-- A node. -/
structure Nd where
  k : Int
  ow : Int
  gr : Int
  ex : Int
  A : Al
  sh : Bool
  D : Al
  li : Int
  up : Int
  bo : ByteArray
  ns : List (ByteArray × Int)
  ti : Int
/-- Where the lists of a node lie. -/
structure Na where
  aU : Option Addr
  cU : Nat
  aG : Option Addr
  cG : Nat
  dU : Option Addr
  eU : Nat
  dG : Option Addr
  eG : Nat
  nA : Option Addr
  nC : Nat
def ndZ : Nd := ⟨0, 0, 0, 0, alZ, false, alZ, 0, 0, ⟨#[]⟩, [], 0⟩
def naZ : Na := ⟨none, 0, none, 0, none, 0, none, 0, none, 0⟩
def ndAt (l : List Nd) (k : Nat) : Nd := l.getD k ndZ
def nmAt (l : List (ByteArray × Int)) (k : Nat) : ByteArray := (l.getD k (⟨#[]⟩, 0)).1
def noAt (l : List (ByteArray × Int)) (k : Nat) : Int := (l.getD k (⟨#[]⟩, 0)).2
/-- What a world holds of a list of entries. -/
def Ens (a : Option Addr) (len : Nat) (l : List (ByteArray × Int)) (w : World) : Prop :=
  l.length = len ∧ (0 < len → ∃ b off, a = some ⟨b, off, none⟩ ∧ b < w.heap.size ∧ ∀ i, i < len → w.cell? ⟨b, off + i * 2, none⟩ = some (.string (nmAt l i)) ∧ w.cell? ⟨b, off + i * 2 + 1, none⟩ = some (.int .i64 (noAt l i)))
theorem Ens.below {a : Option Addr} {len : Nat} {l : List (ByteArray × Int)} {w w' : World} (h : Ens a len l w) (hb : Below w.heap.size w w') : Ens a len l w' := by
  refine ⟨h.1, fun hl => ?_⟩
  obtain ⟨b, off, ha, hlt, hc⟩ := h.2 hl
  exact ⟨b, off, ha, Nat.lt_of_lt_of_le hlt hb.size, fun i hi => ⟨(hb.cell (p := ⟨b, off + i * 2, none⟩) hlt).trans (hc i hi).1, (hb.cell (p := ⟨b, off + i * 2 + 1, none⟩) hlt).trans (hc i hi).2⟩⟩
/-- The lists of a node lie where it says. -/
structure NdIn (w : World) (x : Nd) (y : Na) : Prop where
  aU : Prs y.aU x.A.us.length x.A.us w
  aG : Prs y.aG x.A.gs.length x.A.gs w
  dU : Prs y.dU x.D.us.length x.D.us w
  dG : Prs y.dG x.D.gs.length x.D.gs w
  nA : Ens y.nA x.ns.length x.ns w
theorem NdIn.below {w w' : World} {x : Nd} {y : Na} (h : NdIn w x y) (hb : Below w.heap.size w w') : NdIn w' x y := ⟨h.aU.below hb, h.aG.below hb, h.dU.below hb, h.dG.below hb, h.nA.below hb⟩
/-- The cells of a list of names. -/
def alV (A : Al) (aU : Option Addr) (cU : Nat) (aG : Option Addr) (cG : Nat) : List Value := [.int .i64 A.u, .int .i64 A.g, .int .i64 A.o, .slice aU A.us.length cU, .slice aG A.gs.length cG, .bool A.r, .int .i64 A.m]
/-- The cells of a node. -/
def ndV (x : Nd) (y : Na) : List Value := [.int .i64 x.k, .int .i64 x.ow, .int .i64 x.gr, .int .i64 x.ex, .int .i64 x.A.u, .int .i64 x.A.g, .int .i64 x.A.o, .slice y.aU x.A.us.length y.cU, .slice y.aG x.A.gs.length y.cG, .bool x.A.r, .int .i64 x.A.m, .bool x.sh, .int .i64 x.D.u, .int .i64 x.D.g, .int .i64 x.D.o, .slice y.dU x.D.us.length y.eU, .slice y.dG x.D.gs.length y.eG, .bool x.D.r, .int .i64 x.D.m, .int .i64 x.li, .int .i64 x.up, .string x.bo, .slice y.nA x.ns.length y.nC, .int .i64 x.ti]
theorem ndV_len (x : Nd) (y : Na) : (ndV x y).length = 24 := rfl
/-- A node lies in twenty-four cells. -/
abbrev N24 (w : World) (b o : Nat) (x : Nd) (y : Na) : Prop := w.rangeAt b o (ndV x y)
theorem N24.c0 {w : World} {b o : Nat} {x : Nd} {y : Na} (h : N24 w b o x y) : w.cell? ⟨b, o, none⟩ = some (.int .i64 x.k) := h 0 _ rfl
theorem N24.c1 {w : World} {b o : Nat} {x : Nd} {y : Na} (h : N24 w b o x y) : w.cell? ⟨b, o + 1, none⟩ = some (.int .i64 x.ow) := h 1 _ rfl
theorem N24.c2 {w : World} {b o : Nat} {x : Nd} {y : Na} (h : N24 w b o x y) : w.cell? ⟨b, o + 2, none⟩ = some (.int .i64 x.gr) := h 2 _ rfl
theorem N24.c3 {w : World} {b o : Nat} {x : Nd} {y : Na} (h : N24 w b o x y) : w.cell? ⟨b, o + 3, none⟩ = some (.int .i64 x.ex) := h 3 _ rfl
theorem N24.c4 {w : World} {b o : Nat} {x : Nd} {y : Na} (h : N24 w b o x y) : w.cell? ⟨b, o + 4, none⟩ = some (.int .i64 x.A.u) := h 4 _ rfl
theorem N24.c5 {w : World} {b o : Nat} {x : Nd} {y : Na} (h : N24 w b o x y) : w.cell? ⟨b, o + 5, none⟩ = some (.int .i64 x.A.g) := h 5 _ rfl
theorem N24.c6 {w : World} {b o : Nat} {x : Nd} {y : Na} (h : N24 w b o x y) : w.cell? ⟨b, o + 6, none⟩ = some (.int .i64 x.A.o) := h 6 _ rfl
theorem N24.cA {w : World} {b o : Nat} {x : Nd} {y : Na} (h : N24 w b o x y) : w.rangeAt b (o + 4) (alV x.A y.aU y.cU y.aG y.cG) := by
  intro j v hv
  have hj : j < 7 := (List.getElem?_eq_some_iff.1 hv).1
  have e : o + 4 + j = o + (4 + j) := by omega
  rw [e]
  refine h (4 + j) v ?_
  rw [← hv]
  match j, hj with
  | 0, _ => rfl
  | 1, _ => rfl
  | 2, _ => rfl
  | 3, _ => rfl
  | 4, _ => rfl
  | 5, _ => rfl
  | 6, _ => rfl
theorem range_keep {w w' : World} {b o : Nat} {cs : List Value} (h : w.rangeAt b o cs) (hc : ∀ j, w'.cell? ⟨b, j, none⟩ = w.cell? ⟨b, j, none⟩) : w'.rangeAt b o cs := fun j v hv => (hc _).trans (h j v hv)
theorem range_below {w w' : World} {b o : Nat} {cs : List Value} (h : w.rangeAt b o cs) (hlt : b < w.heap.size) (hb : Below w.heap.size w w') : w'.rangeAt b o cs := range_keep h (fun j => hb.cell (p := ⟨b, j, none⟩) hlt)
/-- What a world holds of a list of nodes. -/
def Nds (a : Option Addr) (len : Nat) (l : List Nd) (w : World) : Prop :=
  l.length = len ∧ (0 < len → ∃ (b off : Nat) (Y : Nat → Na), a = some ⟨b, off, none⟩ ∧ b < w.heap.size ∧ ∀ i, i < len → N24 w b (off + i * 24) (ndAt l i) (Y i) ∧ NdIn w (ndAt l i) (Y i))
theorem Nds.below {a : Option Addr} {len : Nat} {l : List Nd} {w w' : World} (h : Nds a len l w) (hb : Below w.heap.size w w') : Nds a len l w' := by
  refine ⟨h.1, fun hl => ?_⟩
  obtain ⟨b, off, Y, ha, hlt, hc⟩ := h.2 hl
  exact ⟨b, off, Y, ha, Nat.lt_of_lt_of_le hlt hb.size, fun i hi => ⟨range_below (hc i hi).1 hlt hb, (hc i hi).2.below hb⟩⟩
/-- A box of cells. -/
structure BoxR (w : World) (B : Nat) (cs : List Value) : Prop where
  lt : B < w.heap.size
  at0 : w.rangeAt B 0 cs
theorem BoxR.below {w w' : World} {B : Nat} {cs : List Value} (h : BoxR w B cs) (hb : Below w.heap.size w w') : BoxR w' B cs := ⟨Nat.lt_of_lt_of_le h.lt hb.size, range_below h.at0 h.lt hb⟩
theorem boxR_new (w : World) (cs : List Value) (t : TypeId) : BoxR (w.alloc (.cells cs.toArray t)) w.heap.size cs := by
  refine ⟨by simp, fun j v hv => ?_⟩
  have hb : (w.alloc (.cells cs.toArray t)).heap[w.heap.size]? = some (.cells cs.toArray t) := by
    rw [World.alloc]
    exact Array.getElem?_push_size
  simp only [World.cell?, hb]
  simpa using hv
theorem NB.c0 {w : World} {B : Nat} {x : Nd} {y : Na} (h : BoxR w B (ndV x y)) : w.cell? ⟨B, 0, none⟩ = some (.int .i64 x.k) := h.at0 0 _ rfl
theorem NB.c1 {w : World} {B : Nat} {x : Nd} {y : Na} (h : BoxR w B (ndV x y)) : w.cell? ⟨B, 1, none⟩ = some (.int .i64 x.ow) := h.at0 1 _ rfl
theorem NB.c2 {w : World} {B : Nat} {x : Nd} {y : Na} (h : BoxR w B (ndV x y)) : w.cell? ⟨B, 2, none⟩ = some (.int .i64 x.gr) := h.at0 2 _ rfl
theorem NB.c3 {w : World} {B : Nat} {x : Nd} {y : Na} (h : BoxR w B (ndV x y)) : w.cell? ⟨B, 3, none⟩ = some (.int .i64 x.ex) := h.at0 3 _ rfl
theorem NB.c4 {w : World} {B : Nat} {x : Nd} {y : Na} (h : BoxR w B (ndV x y)) : w.cell? ⟨B, 4, none⟩ = some (.int .i64 x.A.u) := h.at0 4 _ rfl
theorem NB.c5 {w : World} {B : Nat} {x : Nd} {y : Na} (h : BoxR w B (ndV x y)) : w.cell? ⟨B, 5, none⟩ = some (.int .i64 x.A.g) := h.at0 5 _ rfl
theorem NB.c6 {w : World} {B : Nat} {x : Nd} {y : Na} (h : BoxR w B (ndV x y)) : w.cell? ⟨B, 6, none⟩ = some (.int .i64 x.A.o) := h.at0 6 _ rfl
theorem range_set {w : World} {b o : Nat} {cs : List Value} (h : w.rangeAt b o cs) (i : Nat) (hi : i < cs.length) (v : Value) : (w.setCell ⟨b, o + i, none⟩ v).rangeAt b o (cs.set i v) := by
  intro j u hj
  by_cases e : j = i
  · subst e
    simp [hi] at hj
    subst hj
    exact World.cell?_setCell_same _ _ _ (h j _ (List.getElem?_eq_getElem hi))
  · rw [List.getElem?_set_ne (Ne.symm e)] at hj
    rw [World.cell?_setCell_other _ _ _ _ (by intro h; have h2 := congrArg Addr.off h; simp only at h2; omega)]
    exact h j u hj
theorem range_other {w : World} {b o : Nat} {cs : List Value} (h : w.rangeAt b o cs) {b2 o2 : Nat} {v : Value} (hne : b2 ≠ b) : (w.setCell ⟨b2, o2, none⟩ v).rangeAt b o cs := by
  intro j u hj
  rw [World.cell?_setCell_other _ _ _ _ (by intro h; have h2 := congrArg Addr.block h; simp only at h2; omega)]
  exact h j u hj
/-- A box of cells that may be written. -/
structure BoxW (w : World) (B : Nat) (cs : List Value) : Prop where
  lt : B < w.heap.size
  at0 : w.rangeAt B 0 cs
  frz : ∀ j, w.frozen? ⟨B, j, none⟩ = false
theorem BoxW.below {w w' : World} {B : Nat} {cs : List Value} (h : BoxW w B cs) (hb : Below w.heap.size w w') : BoxW w' B cs := ⟨Nat.lt_of_lt_of_le h.lt hb.size, range_below h.at0 h.lt hb, fun j => (hb.frozen (p := ⟨B, j, none⟩) h.lt).trans (h.frz j)⟩
theorem BoxW.set {w : World} {B : Nat} {cs : List Value} (h : BoxW w B cs) (i : Nat) (hi : i < cs.length) (v : Value) : BoxW (w.setCell ⟨B, i, none⟩ v) B (cs.set i v) := by
  refine ⟨by simpa using h.lt, ?_, fun j => by rw [World.frozen?_setCell]; exact h.frz j⟩
  have := range_set h.at0 i hi v
  rwa [Nat.zero_add] at this
theorem BoxW.other {w : World} {B : Nat} {cs : List Value} (h : BoxW w B cs) {b o : Nat} {v : Value} (hne : b ≠ B) : BoxW (w.setCell ⟨b, o, none⟩ v) B cs := ⟨by simpa using h.lt, range_other h.at0 hne, fun j => by rw [World.frozen?_setCell]; exact h.frz j⟩
theorem BoxR.other {w : World} {B : Nat} {cs : List Value} (h : BoxR w B cs) {b o : Nat} {v : Value} (hne : b ≠ B) : BoxR (w.setCell ⟨b, o, none⟩ v) B cs := ⟨by simpa using h.lt, range_other h.at0 hne⟩
theorem BoxW.there {w : World} {B : Nat} {cs : List Value} (h : BoxW w B cs) (i n : Nat) (hi : i + n ≤ cs.length) : w.there B i n := fun j hj => ⟨by
  have := h.at0 (i + j) _ (List.getElem?_eq_getElem (by omega))
  rw [show 0 + (i + j) = i + j by omega] at this
  rw [this]
  rfl, h.frz _⟩
theorem boxW_new (w : World) (cs : List Value) (t : TypeId) : BoxW (w.alloc (.cells cs.toArray t)) w.heap.size cs := by
  have h := boxR_new w cs t
  refine ⟨h.lt, h.at0, fun j => ?_⟩
  have hb : (w.alloc (.cells cs.toArray t)).heap[w.heap.size]? = some (.cells cs.toArray t) := by
    rw [World.alloc]
    exact Array.getElem?_push_size
  simp only [World.frozen?, hb]
  simp
theorem Prs.set {a : Option Addr} {len : Nat} {l : List (Int × Int)} {w : World} (h : Prs a len l w) {Z o : Nat} {v : Value} (hne : ∀ b f, a = some ⟨b, f, none⟩ → b ≠ Z) : Prs a len l (w.setCell ⟨Z, o, none⟩ v) := by
  refine ⟨h.1, fun hl => ?_⟩
  obtain ⟨b, off, ha, hlt, hc⟩ := h.2 hl
  have hn := hne _ _ ha
  refine ⟨b, off, ha, by simpa using hlt, fun i hi => ⟨?_, ?_⟩⟩ <;> rw [World.cell?_setCell_other _ _ _ _ (by intro h; have h2 := congrArg Addr.block h; simp only at h2; omega)]
  · exact (hc i hi).1
  · exact (hc i hi).2
theorem Ens.set {a : Option Addr} {len : Nat} {l : List (ByteArray × Int)} {w : World} (h : Ens a len l w) {Z o : Nat} {v : Value} (hne : ∀ b f, a = some ⟨b, f, none⟩ → b ≠ Z) : Ens a len l (w.setCell ⟨Z, o, none⟩ v) := by
  refine ⟨h.1, fun hl => ?_⟩
  obtain ⟨b, off, ha, hlt, hc⟩ := h.2 hl
  have hn := hne _ _ ha
  refine ⟨b, off, ha, by simpa using hlt, fun i hi => ⟨?_, ?_⟩⟩ <;> rw [World.cell?_setCell_other _ _ _ _ (by intro h; have h2 := congrArg Addr.block h; simp only at h2; omega)]
  · exact (hc i hi).1
  · exact (hc i hi).2
/-- The lists of a node lie from block N on. -/
structure NaFrom (N : Nat) (y : Na) : Prop where
  aU : ∀ b f, y.aU = some ⟨b, f, none⟩ → N ≤ b
  aG : ∀ b f, y.aG = some ⟨b, f, none⟩ → N ≤ b
  dU : ∀ b f, y.dU = some ⟨b, f, none⟩ → N ≤ b
  dG : ∀ b f, y.dG = some ⟨b, f, none⟩ → N ≤ b
  nA : ∀ b f, y.nA = some ⟨b, f, none⟩ → N ≤ b
theorem NaFrom.mono {N M : Nat} {y : Na} (h : NaFrom N y) (hm : M ≤ N) : NaFrom M y := ⟨fun b f e => Nat.le_trans hm (h.aU b f e), fun b f e => Nat.le_trans hm (h.aG b f e), fun b f e => Nat.le_trans hm (h.dU b f e), fun b f e => Nat.le_trans hm (h.dG b f e), fun b f e => Nat.le_trans hm (h.nA b f e)⟩
/-- A row of nodes that may be written. -/
structure NRow (w : World) (B : Nat) (F : Nat → Nd) (Y : Nat → Na) (n : Nat) : Prop where
  at' : ∀ i, i < n → N24 w B (i * 24) (F i) (Y i)
  frz : ∀ j, w.frozen? ⟨B, j, none⟩ = false
theorem NRow.below {w w' : World} {B : Nat} {F : Nat → Nd} {Y : Nat → Na} {n : Nat} (h : NRow w B F Y n) (hlt : B < w.heap.size) (hb : Below w.heap.size w w') : NRow w' B F Y n :=
  ⟨fun i hi => range_below (h.at' i hi) hlt hb, fun j => (hb.frozen (p := ⟨B, j, none⟩) hlt).trans (h.frz j)⟩
theorem NRow.there {w : World} {B : Nat} {F : Nat → Nd} {Y : Nat → Na} {n : Nat} (h : NRow w B F Y n) (k : Nat) (hk : k < n) : w.there B (k * 24) 24 := fun j hj => ⟨(h.at' k hk).isSome j (by rw [ndV_len]; exact hj), h.frz _⟩
theorem NRow.set {w : World} {B : Nat} {F : Nat → Nd} {Y : Nat → Na} {n : Nat} (h : NRow w B F Y n) (k : Nat) (hk : k < n) (x : Nd) (y : Na) : NRow (w.setCells B (k * 24) (ndV x y)) B (fun i => if i = k then x else F i) (fun i => if i = k then y else Y i) n := by
  refine ⟨fun i hi => ?_, fun j => by rw [World.frozen?_setCells]; exact h.frz j⟩
  by_cases e : i = k
  · subst e
    simp only [if_pos]
    exact World.rangeAt_setCells_same _ _ _ _ (h.there i hi)
  · simp only [if_neg e]
    refine World.rangeAt_setCells_apart (h.at' i hi) _ _ _ (.inr ?_)
    rw [ndV_len, ndV_len]
    omega
theorem NRow.other {w : World} {B : Nat} {F : Nat → Nd} {Y : Nat → Na} {n : Nat} (h : NRow w B F Y n) {Z o : Nat} {v : Value} (hne : Z ≠ B) : NRow (w.setCell ⟨Z, o, none⟩ v) B F Y n :=
  ⟨fun i hi => range_other (h.at' i hi) hne, fun j => by rw [World.frozen?_setCell]; exact h.frz j⟩
theorem NdIn.set {w : World} {x : Nd} {y : Na} {N Z o : Nat} {v : Value} (h : NdIn w x y) (hf : NaFrom N y) (hz : Z < N) : NdIn (w.setCell ⟨Z, o, none⟩ v) x y :=
  ⟨h.aU.set (fun b f e => by have := hf.aU b f e; omega), h.aG.set (fun b f e => by have := hf.aG b f e; omega), h.dU.set (fun b f e => by have := hf.dU b f e; omega), h.dG.set (fun b f e => by have := hf.dG b f e; omega), h.nA.set (fun b f e => by have := hf.nA b f e; omega)⟩
/-- A list of nodes in memory of its own. -/
structure OwnN (w : World) (B : Nat) (l : List Nd) (n : Nat) : Prop where
  ln : l.length = n
  lt : B < w.heap.size
  ex : ∃ Y, NRow w B (ndAt l) Y n ∧ ∀ i, i < n → NdIn w (ndAt l i) (Y i) ∧ NaFrom (B + 1) (Y i)
theorem OwnN.below {w w' : World} {B n : Nat} {l : List Nd} (h : OwnN w B l n) (hb : Below w.heap.size w w') : OwnN w' B l n := by
  obtain ⟨Y, hR, hN⟩ := h.ex
  exact ⟨h.ln, Nat.lt_of_lt_of_le h.lt hb.size, Y, hR.below h.lt hb, fun i hi => ⟨(hN i hi).1.below hb, (hN i hi).2⟩⟩
theorem OwnN.set {w : World} {B n : Nat} {l : List Nd} (h : OwnN w B l n) {Z o : Nat} {v : Value} (hz : Z < B) : OwnN (w.setCell ⟨Z, o, none⟩ v) B l n := by
  obtain ⟨Y, hR, hN⟩ := h.ex
  exact ⟨h.ln, by simpa using h.lt, Y, hR.other (by omega), fun i hi => ⟨(hN i hi).1.set (hN i hi).2 (by omega), (hN i hi).2⟩⟩
end Go.Proofs.Ytgahphiabajokaa
