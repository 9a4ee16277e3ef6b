/- Laid together: DrawAcl1. -/
import Derived.Test.YtedahdncincgjaaGreatDoorNX8
import Derived.Test.YtedahdncincgjaaGreatDoorNX2
import Derived.Test.YtedahdncincgjaaGreatDoorNX11
/- The draw of a list of names: what is kept while it is drawn. -/
namespace Go.Proofs.YtedahdncincgjaaGreatDoor
open Go.RowKit Go.PlainAid Go.Deep
set_option linter.unusedVariables false
theorem OwnpA.frozen {p : Nat} {w w' : World} (h : Ownp p w w') {b o : Nat} (hb : b < w.heap.size) (hne : b ≠ p) : w'.frozen? ⟨b, o, none⟩ = w.frozen? ⟨b, o, none⟩ :=
  World.frozen?_of_block (h.block b hb (by simpa using hne))
theorem setA_block (w : World) (X o k : Nat) (v : Value) (h : k ≠ X) : (w.setCell ⟨X, o, none⟩ v).heap[k]? = w.heap[k]? := Below.heap_setCell _ _ _ k (fun e => h e)
/-- A row, and where it lies. -/
structure RwA (w0 w : World) (X R : Nat) (a : Option Addr) (c : Nat) (l : List (Int × Int)) : Prop where
  own : Own a l.length l w
  room : Room w a c
  le : l.length ≤ c
  inn : ∀ A, a = some A → w0.heap.size ≤ A.block ∧ A.block ≠ X ∧ A.block ≠ R ∧ A.block < w.heap.size
theorem RwA.keep {w0 w w' : World} {X R : Nat} {a : Option Addr} {c : Nat} {l : List (Int × Int)} (h : RwA w0 w X R a c l) (hs : w.heap.size ≤ w'.heap.size) (hk : ∀ A, a = some A → w'.heap[A.block]? = w.heap[A.block]?) : RwA w0 w' X R a c l := by
  refine ⟨⟨h.own.1, fun h0 => ?_⟩, ?_, h.le, fun A e => ⟨(h.inn A e).1, (h.inn A e).2.1, (h.inn A e).2.2.1, Nat.lt_of_lt_of_le (h.inn A e).2.2.2 hs⟩⟩
  · obtain ⟨B, ha, hlt, hp⟩ := h.own.2 h0
    have hb : w'.heap[B]? = w.heap[B]? := hk _ ha
    have hc : ∀ o, w'.cell? ⟨B, o, none⟩ = w.cell? ⟨B, o, none⟩ := fun o => World.cell?_of_block hb
    have hf : ∀ o, w'.frozen? ⟨B, o, none⟩ = w.frozen? ⟨B, o, none⟩ := fun o => World.frozen?_of_block hb
    exact ⟨B, ha, Nat.lt_of_lt_of_le hlt hs, fun i hi => ⟨⟨(hc _).trans (hp i hi).1.1, (hc _).trans (hp i hi).1.2⟩, (hf _).trans (hp i hi).2.1, (hf _).trans (hp i hi).2.2⟩⟩
  · rcases h.room with q | ⟨g, cur, h1, h2, h3⟩
    · exact .inl q
    · exact .inr ⟨g, cur, h1, (hk _ h1).trans h2, h3⟩
/-- A list of names that is being drawn, in block X; the answer's block R. -/
structure DA (a : Option Addr) (len cap : Nat) (g : Nat → Int) (p X R : Nat) (w0 w : World) (A : Al) (aU : Option Addr) (cU : Nat) (aG : Option Addr) (cG : Nat) : Prop where
  src : Src a len cap g p w
  own : Ownp p w0 w
  x : Box7 w X (.int .i64 A.u) (.int .i64 A.g) (.int .i64 A.o) (.slice aU A.us.length cU) (.slice aG A.gs.length cG) (.bool A.r) (.int .i64 A.m)
  r : Box7 w R (.int .i64 0) (.int .i64 0) (.int .i64 0) (.slice none 0 0) (.slice none 0 0) (.bool false) (.int .i64 0)
  fx : ∀ o, w.frozen? ⟨X, o, none⟩ = false
  fr : ∀ o, w.frozen? ⟨R, o, none⟩ = false
  xr : R < X
  x0 : w0.heap.size ≤ R
  pl : p < w0.heap.size
  ru : RwA w0 w X R aU cU A.us
  rg : RwA w0 w X R aG cG A.gs
  ne : ∀ A1 A2, aU = some A1 → aG = some A2 → A1.block ≠ A2.block
variable {a : Option Addr} {len cap : Nat} {g : Nat → Int} {p X R : Nat} {w0 w w' : World} {A : Al} {aU : Option Addr} {cU : Nat} {aG : Option Addr} {cG : Nat}
/-- Behind a call that turns the source alone. -/
theorem DA.call (h : DA a len cap g p X R w0 w A aU cU aG cG) (hs : Src a len cap g p w') (ho : Ownp p w w') : DA a len cap g p X R w0 w' A aU cU aG cG := by
  have h1 := h.xr
  have h2 := h.x0
  have h3 := h.pl
  have h4 := h.x.lt
  have h5 := h.r.lt
  have kp : ∀ B : Nat, B < w.heap.size → B ≠ p → w'.heap[B]? = w.heap[B]? := fun B hB hne => ho.block B hB (by simpa using hne)
  exact ⟨hs, h.own.trans ho, h.x.keep (Nat.lt_of_lt_of_le h4 ho.size) (fun j => ho.cell h4 (by omega)), h.r.keep (Nat.lt_of_lt_of_le h5 ho.size) (fun j => ho.cell h5 (by omega)), fun o => (OwnpA.frozen ho h4 (by omega)).trans (h.fx o), fun o => (OwnpA.frozen ho h5 (by omega)).trans (h.fr o), h1, h2, h3,
    h.ru.keep ho.size (fun B e => kp _ (h.ru.inn B e).2.2.2 (by have := (h.ru.inn B e).1; omega)), h.rg.keep ho.size (fun B e => kp _ (h.rg.inn B e).2.2.2 (by have := (h.rg.inn B e).1; omega)), h.ne⟩
/-- Behind what makes new memory alone. -/
theorem DA.below (h : DA a len cap g p X R w0 w A aU cU aG cG) (hb : Below w.heap.size w w') : DA a len cap g p X R w0 w' A aU cU aG cG :=
  h.call (h.src.kept (fun k hk => hb.block k (by have := h.src.pos; omega))) ⟨hb.os, hb.tape, hb.output, hb.size, fun k hk _ => hb.block k hk⟩
theorem DA.drew (h : DA a len cap g p X R w0 w A aU cU aG cG) : DA a len cap g p X R w0 w.drew A aU cU aG cG :=
  h.below ⟨rfl, rfl, rfl, Nat.le_refl _, fun _ _ => rfl⟩
/-- A cell of the box is written: what does not lie in the box is as it was. -/
theorem DA.setX {o : Nat} {v : Value} {A' : Al} {aU' aG' : Option Addr} {cU' cG' : Nat} (h : DA a len cap g p X R w0 w A aU cU aG cG)
    (hx : Box7 (w.setCell ⟨X, o, none⟩ v) X (.int .i64 A'.u) (.int .i64 A'.g) (.int .i64 A'.o) (.slice aU' A'.us.length cU') (.slice aG' A'.gs.length cG') (.bool A'.r) (.int .i64 A'.m))
    (hu : RwA w0 w X R aU' cU' A'.us) (hg : RwA w0 w X R aG' cG' A'.gs) (hne : ∀ A1 A2, aU' = some A1 → aG' = some A2 → A1.block ≠ A2.block) : DA a len cap g p X R w0 (w.setCell ⟨X, o, none⟩ v) A' aU' cU' aG' cG' := by
  have h1 := h.xr
  have h2 := h.x0
  have h3 := h.pl
  have hz : w.heap.size ≤ (w.setCell ⟨X, o, none⟩ v).heap.size := by simp
  exact ⟨h.src.kept (fun k hk => setA_block w X o k v (by omega)), ⟨h.own.os, h.own.tape, h.own.output, Nat.le_trans h.own.size hz, fun k hk hn => (setA_block w X o k v (by omega)).trans (h.own.block k hk hn)⟩, hx, h.r.other (by omega), fun o2 => by rw [World.frozen?_setCell]; exact h.fx o2, fun o2 => by rw [World.frozen?_setCell]; exact h.fr o2, h1, h2, h3,
    hu.keep hz (fun B e => setA_block w X o _ v (hu.inn B e).2.1), hg.keep hz (fun B e => setA_block w X o _ v (hg.inn B e).2.1), hne⟩
theorem DA.set2 (h : DA a len cap g p X R w0 w A aU cU aG cG) (v : Int) : DA a len cap g p X R w0 (w.setCell ⟨X, 2, none⟩ (.int .i64 v)) { A with o := v } aU cU aG cG :=
  h.setX (by obtain ⟨l, c0, c1, c2, c3, c4, c5, c6⟩ := h.x; refine ⟨by simpa using l, ?_, ?_, ?_, ?_, ?_, ?_, ?_⟩ <;> simp [go_sem, c0, c1, c2, c3, c4, c5, c6]) h.ru h.rg h.ne
theorem DA.set5 (h : DA a len cap g p X R w0 w A aU cU aG cG) (v : Bool) : DA a len cap g p X R w0 (w.setCell ⟨X, 5, none⟩ (.bool v)) { A with r := v } aU cU aG cG :=
  h.setX h.x.set5 h.ru h.rg h.ne
theorem DA.set6 (h : DA a len cap g p X R w0 w A aU cU aG cG) (v : Int) : DA a len cap g p X R w0 (w.setCell ⟨X, 6, none⟩ (.int .i64 v)) { A with m := v } aU cU aG cG :=
  h.setX h.x.set6 h.ru h.rg h.ne
/-- Seven cells are written. -/
def set7A (w : World) (X : Nat) (v0 v1 v2 v3 v4 v5 v6 : Value) : World := ((((((w.setCell ⟨X, 0, none⟩ v0).setCell ⟨X, 1, none⟩ v1).setCell ⟨X, 2, none⟩ v2).setCell ⟨X, 3, none⟩ v3).setCell ⟨X, 4, none⟩ v4).setCell ⟨X, 5, none⟩ v5).setCell ⟨X, 6, none⟩ v6
theorem set7A_block (w : World) (X k : Nat) (v0 v1 v2 v3 v4 v5 v6 : Value) (h : k ≠ X) : (set7A w X v0 v1 v2 v3 v4 v5 v6).heap[k]? = w.heap[k]? := by
  unfold set7A
  rw [setA_block _ _ _ _ _ h, setA_block _ _ _ _ _ h, setA_block _ _ _ _ _ h, setA_block _ _ _ _ _ h, setA_block _ _ _ _ _ h, setA_block _ _ _ _ _ h, setA_block _ _ _ _ _ h]
theorem set7A_size (w : World) (X : Nat) (v0 v1 v2 v3 v4 v5 v6 : Value) : (set7A w X v0 v1 v2 v3 v4 v5 v6).heap.size = w.heap.size := by unfold set7A; simp
theorem set7A_frozen (w : World) (X : Nat) (v0 v1 v2 v3 v4 v5 v6 : Value) (q : Addr) : (set7A w X v0 v1 v2 v3 v4 v5 v6).frozen? q = w.frozen? q := by
  unfold set7A
  simp only [World.frozen?_setCell]
theorem Box7.set0 {w : World} {B : Nat} {v0 v1 v2 v3 v4 v5 v6 v : Value} (h : Box7 w B v0 v1 v2 v3 v4 v5 v6) : Box7 (w.setCell ⟨B, 0, none⟩ v) B v v1 v2 v3 v4 v5 v6 := by
  obtain ⟨l, c0, c1, c2, c3, c4, c5, c6⟩ := h
  refine ⟨by simpa using l, ?_, ?_, ?_, ?_, ?_, ?_, ?_⟩ <;> simp [go_sem, c0, c1, c2, c3, c4, c5, c6]
theorem Box7.set1 {w : World} {B : Nat} {v0 v1 v2 v3 v4 v5 v6 v : Value} (h : Box7 w B v0 v1 v2 v3 v4 v5 v6) : Box7 (w.setCell ⟨B, 1, none⟩ v) B v0 v v2 v3 v4 v5 v6 := by
  obtain ⟨l, c0, c1, c2, c3, c4, c5, c6⟩ := h
  refine ⟨by simpa using l, ?_, ?_, ?_, ?_, ?_, ?_, ?_⟩ <;> simp [go_sem, c0, c1, c2, c3, c4, c5, c6]
theorem Box7.set2 {w : World} {B : Nat} {v0 v1 v2 v3 v4 v5 v6 v : Value} (h : Box7 w B v0 v1 v2 v3 v4 v5 v6) : Box7 (w.setCell ⟨B, 2, none⟩ v) B v0 v1 v v3 v4 v5 v6 := by
  obtain ⟨l, c0, c1, c2, c3, c4, c5, c6⟩ := h
  refine ⟨by simpa using l, ?_, ?_, ?_, ?_, ?_, ?_, ?_⟩ <;> simp [go_sem, c0, c1, c2, c3, c4, c5, c6]
theorem box7_set7 {w : World} {X : Nat} {u0 u1 u2 u3 u4 u5 u6 : Value} (h : Box7 w X u0 u1 u2 u3 u4 u5 u6) (v0 v1 v2 v3 v4 v5 v6 : Value) : Box7 (set7A w X v0 v1 v2 v3 v4 v5 v6) X v0 v1 v2 v3 v4 v5 v6 := by
  unfold set7A
  exact h.set0.set1.set2.set3.set4.set5.set6
theorem OwnpA.set {p X o : Nat} {w w' : World} (h : Ownp p w w') (hX : w.heap.size ≤ X) (v : Value) : Ownp p w (w'.setCell ⟨X, o, none⟩ v) :=
  ⟨h.os, h.tape, h.output, by simpa using h.size, fun k hk hne => (setA_block w' X o k v (by omega)).trans (h.block k hk hne)⟩
theorem ownp_set7 {p X : Nat} {w w' : World} (h : Ownp p w w') (hX : w.heap.size ≤ X) (v0 v1 v2 v3 v4 v5 v6 : Value) : Ownp p w (set7A w' X v0 v1 v2 v3 v4 v5 v6) := by
  unfold set7A
  exact OwnpA.set (OwnpA.set (OwnpA.set (OwnpA.set (OwnpA.set (OwnpA.set (OwnpA.set h hX _) hX _) hX _) hX _) hX _) hX _) hX _
/-- Another list of names is laid into the box: its rows were made since. -/
theorem DA.put {A' : Al} {aU' aG' : Option Addr} {cU' cG' : Nat} {w1 : World} (h : DA a len cap g p X R w0 w A aU cU aG cG) (hN : NewC w1 w aU' cU' A'.us.length A'.us aG' cG' A'.gs.length A'.gs) (h1 : X < w1.heap.size) (h2 : w0.heap.size ≤ w1.heap.size) :
    DA a len cap g p X R w0 (set7A w X (.int .i64 A'.u) (.int .i64 A'.g) (.int .i64 A'.o) (.slice aU' A'.us.length cU') (.slice aG' A'.gs.length cG') (.bool A'.r) (.int .i64 A'.m)) A' aU' cU' aG' cG' := by
  have q1 := h.xr
  have q2 := h.x0
  have q3 := h.pl
  have hu : RwA w0 w X R aU' cU' A'.us := ⟨hN.new.ou, hN.ru.1, hN.ru.2, fun B e => by have := hN.new.iu B e; exact ⟨by omega, by omega, by omega, this.2⟩⟩
  have hg : RwA w0 w X R aG' cG' A'.gs := ⟨hN.new.og, hN.rg.1, hN.rg.2, fun B e => by have := hN.new.ig B e; exact ⟨by omega, by omega, by omega, this.2⟩⟩
  have hx := box7_set7 h.x (.int .i64 A'.u) (.int .i64 A'.g) (.int .i64 A'.o) (.slice aU' A'.us.length cU') (.slice aG' A'.gs.length cG') (.bool A'.r) (.int .i64 A'.m)
  have hb : ∀ k, k ≠ X → (set7A w X (.int .i64 A'.u) (.int .i64 A'.g) (.int .i64 A'.o) (.slice aU' A'.us.length cU') (.slice aG' A'.gs.length cG') (.bool A'.r) (.int .i64 A'.m)).heap[k]? = w.heap[k]? := fun k hk => set7A_block w X k _ _ _ _ _ _ _ hk
  have hz := set7A_size w X (.int .i64 A'.u) (.int .i64 A'.g) (.int .i64 A'.o) (.slice aU' A'.us.length cU') (.slice aG' A'.gs.length cG') (.bool A'.r) (.int .i64 A'.m)
  have hf := set7A_frozen w X (.int .i64 A'.u) (.int .i64 A'.g) (.int .i64 A'.o) (.slice aU' A'.us.length cU') (.slice aG' A'.gs.length cG') (.bool A'.r) (.int .i64 A'.m)
  have hos := ownp_set7 h.own (show w0.heap.size ≤ X by omega) (.int .i64 A'.u) (.int .i64 A'.g) (.int .i64 A'.o) (.slice aU' A'.us.length cU') (.slice aG' A'.gs.length cG') (.bool A'.r) (.int .i64 A'.m)
  generalize set7A w X (.int .i64 A'.u) (.int .i64 A'.g) (.int .i64 A'.o) (.slice aU' A'.us.length cU') (.slice aG' A'.gs.length cG') (.bool A'.r) (.int .i64 A'.m) = W at hb hz hf hx hos ⊢
  exact ⟨h.src.kept (fun k hk => hb k (by omega)), hos, hx, h.r.keep (by rw [hz]; exact h.r.lt) (fun o => World.cell?_of_block (hb R (by omega))), fun o => (hf _).trans (h.fx o), fun o => (hf _).trans (h.fr o), q1, q2, q3, hu.keep (by rw [hz]; exact Nat.le_refl _) (fun B e => hb _ (hu.inn B e).2.1), hg.keep (by rw [hz]; exact Nat.le_refl _) (fun B e => hb _ (hg.inn B e).2.1), hN.new.ne⟩
end Go.Proofs.YtedahdncincgjaaGreatDoor
