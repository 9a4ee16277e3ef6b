/- Laid together: DrawAclY. -/
import Derived.Test.YtedahdncincgjaaGreatDoorNX12
import Derived.Test.YtedahdncincgjaaGreatDoorNX18
/- The draw of a list of names: the answer of PutUser and PutGroup in its box. -/
namespace Go.Proofs.YtedahdncincgjaaGreatDoor
open Go.RowKit Go.PlainAid Go.Deep
set_option linter.unusedVariables false
/-- The list that is drawn, and a box Y of eight cells beside it. -/
structure DZ (a : Option Addr) (len cap : Nat) (g : Nat → Int) (p X R : Nat) (w0 w : World) (A : Al) (aU : Option Addr) (cU : Nat) (aG : Option Addr) (cG : Nat) (Y : Nat) : Prop where
  da : DA a len cap g p X R w0 w A aU cU aG cG
  y : ∃ v0 v1 v2 v3 v4 v5 v6 v7, Box8 w Y v0 v1 v2 v3 v4 v5 v6 v7
  fy : ∀ o, w.frozen? ⟨Y, o, none⟩ = false
  xy : X < Y
  nu : ∀ B, aU = some B → B.block ≠ Y
  ng : ∀ B, aG = some B → B.block ≠ Y
/-- The same, with an answer in the box. -/
structure DY (a : Option Addr) (len cap : Nat) (g : Nat → Int) (p X R : Nat) (w0 w : World) (A : Al) (aU : Option Addr) (cU : Nat) (aG : Option Addr) (cG : Nat) (Y : Nat) (x : Ans) (a1 : Option Addr) (c1 : Nat) (a2 : Option Addr) (c2 : Nat) : Prop where
  dz : DZ a len cap g p X R w0 w A aU cU aG cG Y
  y : Box8 w Y (.int .i64 x.u) (.int .i64 x.g) (.int .i64 x.o) (.slice a1 x.us.length c1) (.slice a2 x.gs.length c2) (.bool x.r) (.int .i64 x.m) (.int .i64 x.code)
  ru : RwA w0 w X R a1 c1 x.us
  rg : RwA w0 w X R a2 c2 x.gs
  ne : ∀ A1 A2, a1 = some A1 → a2 = some A2 → A1.block ≠ A2.block
  good : x.code = 0 → AG 5 (ansAl x)
variable {a : Option Addr} {len cap : Nat} {g : Nat → Int} {p X R Y : Nat} {w0 w w' : World} {A : Al} {aU : Option Addr} {cU : Nat} {aG : Option Addr} {cG : Nat} {x : Ans} {a1 : Option Addr} {c1 : Nat} {a2 : Option Addr} {c2 : Nat}
theorem DZ.new (h : DA a len cap g p X R w0 w A aU cU aG cG) (v0 v1 v2 v3 v4 v5 v6 v7 : Value) (t : TypeId) : DZ a len cap g p X R w0 (w.alloc (.cells #[v0, v1, v2, v3, v4, v5, v6, v7] t)) A aU cU aG cG w.heap.size :=
  ⟨h.below (bel_alloc _ _), ⟨_, _, _, _, _, _, _, _, box8_new w v0 v1 v2 v3 v4 v5 v6 v7 t⟩, fun o => froz_new w _ _ o, h.x.lt, fun B e => by have := (h.ru.inn B e).2.2.2; omega, fun B e => by have := (h.rg.inn B e).2.2.2; omega⟩
theorem DZ.call (h : DZ a len cap g p X R w0 w A aU cU aG cG Y) (hs : Src a len cap g p w') (ho : Ownp p w w') : DZ a len cap g p X R w0 w' A aU cU aG cG Y := by
  obtain ⟨v0, v1, v2, v3, v4, v5, v6, v7, hy⟩ := h.y
  have h1 := h.da.xr
  have h2 := h.da.x0
  have h3 := h.da.pl
  have h4 := h.xy
  exact ⟨h.da.call hs ho, ⟨_, _, _, _, _, _, _, _, hy.keep (Nat.lt_of_lt_of_le hy.lt ho.size) (fun o => ho.cell hy.lt (by omega))⟩, fun o => (OwnpA.frozen ho hy.lt (by omega)).trans (h.fy o), h4, h.nu, h.ng⟩
theorem below_ownp {w w' : World} (p : Nat) (hb : Below w.heap.size w w') : Ownp p w w' := ⟨hb.os, hb.tape, hb.output, hb.size, fun k hk _ => hb.block k hk⟩
theorem DA.srcB (h : DA a len cap g p X R w0 w A aU cU aG cG) (hb : Below w.heap.size w w') : Src a len cap g p w' := h.src.kept (fun k hk => hb.block k (by have := h.src.pos; omega))
theorem DZ.below (h : DZ a len cap g p X R w0 w A aU cU aG cG Y) (hb : Below w.heap.size w w') : DZ a len cap g p X R w0 w' A aU cU aG cG Y := h.call (h.da.srcB hb) (below_ownp p hb)
theorem DZ.drew (h : DZ a len cap g p X R w0 w A aU cU aG cG Y) : DZ a len cap g p X R w0 w.drew A aU cU aG cG Y := h.below ⟨rfl, rfl, rfl, Nat.le_refl _, fun _ _ => rfl⟩
theorem DZ.lt (h : DZ a len cap g p X R w0 w A aU cU aG cG Y) : Y < w.heap.size := by
  obtain ⟨v0, v1, v2, v3, v4, v5, v6, v7, hy⟩ := h.y
  exact hy.lt
theorem DY.call (h : DY a len cap g p X R w0 w A aU cU aG cG Y x a1 c1 a2 c2) (hs : Src a len cap g p w') (ho : Ownp p w w') : DY a len cap g p X R w0 w' A aU cU aG cG Y x a1 c1 a2 c2 := by
  have h1 := h.dz.da.xr
  have h2 := h.dz.da.x0
  have h3 := h.dz.da.pl
  have h4 := h.dz.xy
  have kp : ∀ B : Nat, B < w.heap.size → B ≠ p → w'.heap[B]? = w.heap[B]? := fun B hB hne => ho.block B hB (by simpa using hne)
  exact ⟨h.dz.call hs ho, h.y.keep (Nat.lt_of_lt_of_le h.y.lt ho.size) (fun o => ho.cell h.y.lt (by omega)), h.ru.keep ho.size (fun B e => kp _ (h.ru.inn B e).2.2.2 (by have := (h.ru.inn B e).1; omega)), h.rg.keep ho.size (fun B e => kp _ (h.rg.inn B e).2.2.2 (by have := (h.rg.inn B e).1; omega)), h.ne, h.good⟩
theorem DY.below (h : DY a len cap g p X R w0 w A aU cU aG cG Y x a1 c1 a2 c2) (hb : Below w.heap.size w w') : DY a len cap g p X R w0 w' A aU cU aG cG Y x a1 c1 a2 c2 := h.call (h.dz.da.srcB hb) (below_ownp p hb)
theorem DY.drew (h : DY a len cap g p X R w0 w A aU cU aG cG Y x a1 c1 a2 c2) : DY a len cap g p X R w0 w.drew A aU cU aG cG Y x a1 c1 a2 c2 := h.below ⟨rfl, rfl, rfl, Nat.le_refl _, fun _ _ => rfl⟩
/-- Eight cells are written. -/
def set8A (w : World) (X : Nat) (v0 v1 v2 v3 v4 v5 v6 v7 : Value) : World := (set7A w X v0 v1 v2 v3 v4 v5 v6).setCell ⟨X, 7, none⟩ v7
theorem set8A_block (w : World) (X k : Nat) (v0 v1 v2 v3 v4 v5 v6 v7 : Value) (h : k ≠ X) : (set8A w X v0 v1 v2 v3 v4 v5 v6 v7).heap[k]? = w.heap[k]? := by
  unfold set8A
  rw [setA_block _ _ _ _ _ h, set7A_block _ _ _ _ _ _ _ _ _ _ h]
theorem set8A_size (w : World) (X : Nat) (v0 v1 v2 v3 v4 v5 v6 v7 : Value) : (set8A w X v0 v1 v2 v3 v4 v5 v6 v7).heap.size = w.heap.size := by unfold set8A set7A; simp
theorem set8A_frozen (w : World) (X : Nat) (v0 v1 v2 v3 v4 v5 v6 v7 : Value) (q : Addr) : (set8A w X v0 v1 v2 v3 v4 v5 v6 v7).frozen? q = w.frozen? q := by
  unfold set8A
  rw [World.frozen?_setCell, set7A_frozen]
theorem box8_set8 {w : World} {X : Nat} {u0 u1 u2 u3 u4 u5 u6 u7 : Value} (h : Box8 w X u0 u1 u2 u3 u4 u5 u6 u7) (v0 v1 v2 v3 v4 v5 v6 v7 : Value) : Box8 (set8A w X v0 v1 v2 v3 v4 v5 v6 v7) X v0 v1 v2 v3 v4 v5 v6 v7 := by
  have h7 : Box7 w X u0 u1 u2 u3 u4 u5 u6 := ⟨h.lt, h.c0, h.c1, h.c2, h.c3, h.c4, h.c5, h.c6⟩
  have hs := box7_set7 h7 v0 v1 v2 v3 v4 v5 v6
  have h8 : (set7A w X v0 v1 v2 v3 v4 v5 v6).cell? ⟨X, 7, none⟩ = some u7 := by
    have c7 := h.c7
    unfold set7A
    simp [go_sem, c7]
  obtain ⟨l, c0, c1, c2, c3, c4, c5, c6⟩ := hs
  unfold set8A
  generalize set7A w X v0 v1 v2 v3 v4 v5 v6 = W at l c0 c1 c2 c3 c4 c5 c6 h8 ⊢
  refine ⟨by simpa using l, ?_, ?_, ?_, ?_, ?_, ?_, ?_, ?_⟩ <;> simp [go_sem, c0, c1, c2, c3, c4, c5, c6, h8]
theorem ownp_set8 {p X : Nat} {w w' : World} (h : Ownp p w w') (hX : w.heap.size ≤ X) (v0 v1 v2 v3 v4 v5 v6 v7 : Value) : Ownp p w (set8A w' X v0 v1 v2 v3 v4 v5 v6 v7) := by
  unfold set8A
  exact OwnpA.set (ownp_set7 h hX _ _ _ _ _ _ _) hX _
/-- The box Y is written: the list that is drawn is as it was. -/
theorem DZ.fillZ (h : DZ a len cap g p X R w0 w A aU cU aG cG Y) (v0 v1 v2 v3 v4 v5 v6 v7 : Value) : DZ a len cap g p X R w0 (set8A w Y v0 v1 v2 v3 v4 v5 v6 v7) A aU cU aG cG Y := by
  have h1 := h.da.xr
  have h2 := h.da.x0
  have h3 := h.da.pl
  have h4 := h.xy
  have hlt := h.lt
  obtain ⟨u0, u1, u2, u3, u4, u5, u6, u7, hy⟩ := h.y
  have hx := box8_set8 hy v0 v1 v2 v3 v4 v5 v6 v7
  have hb : ∀ k, k ≠ Y → (set8A w Y v0 v1 v2 v3 v4 v5 v6 v7).heap[k]? = w.heap[k]? := fun k hk => set8A_block w Y k _ _ _ _ _ _ _ _ hk
  have hz := set8A_size w Y v0 v1 v2 v3 v4 v5 v6 v7
  have hf := set8A_frozen w Y v0 v1 v2 v3 v4 v5 v6 v7
  have hos := ownp_set8 h.da.own (show w0.heap.size ≤ Y by omega) v0 v1 v2 v3 v4 v5 v6 v7
  generalize set8A w Y v0 v1 v2 v3 v4 v5 v6 v7 = W at hb hz hf hx hos ⊢
  exact ⟨⟨h.da.src.kept (fun k hk => hb k (by omega)), hos, h.da.x.keep (by rw [hz]; exact h.da.x.lt) (fun o => World.cell?_of_block (hb X (by omega))), h.da.r.keep (by rw [hz]; exact h.da.r.lt) (fun o => World.cell?_of_block (hb R (by omega))), fun o => (hf _).trans (h.da.fx o), fun o => (hf _).trans (h.da.fr o), h1, h2, h3, h.da.ru.keep (by rw [hz]; exact Nat.le_refl _) (fun B e => hb _ (h.nu B e)), h.da.rg.keep (by rw [hz]; exact Nat.le_refl _) (fun B e => hb _ (h.ng B e)), h.da.ne⟩, ⟨_, _, _, _, _, _, _, _, hx⟩, fun o => (hf _).trans (h.fy o), h4, h.nu, h.ng⟩
/-- Rows that were made since lie beside all of it. -/
theorem NewC.rwU {w1 : World} {us gs : List (Int × Int)} (hN : NewC w1 w a1 c1 us.length us a2 c2 gs.length gs) (h1 : X < w1.heap.size) (h2 : w0.heap.size ≤ w1.heap.size) (h3 : R < X) : RwA w0 w X R a1 c1 us := ⟨hN.new.ou, hN.ru.1, hN.ru.2, fun B e => by have := hN.new.iu B e; exact ⟨by omega, by omega, by omega, this.2⟩⟩
theorem NewC.rwG {w1 : World} {us gs : List (Int × Int)} (hN : NewC w1 w a1 c1 us.length us a2 c2 gs.length gs) (h1 : X < w1.heap.size) (h2 : w0.heap.size ≤ w1.heap.size) (h3 : R < X) : RwA w0 w X R a2 c2 gs := ⟨hN.new.og, hN.rg.1, hN.rg.2, fun B e => by have := hN.new.ig B e; exact ⟨by omega, by omega, by omega, this.2⟩⟩
/-- An answer is laid into the box: it was made behind the box. -/
theorem DZ.fill {w1 : World} (h1 : DZ a len cap g p X R w0 w1 A aU cU aG cG Y) (hN : NewC w1 w a1 c1 x.us.length x.us a2 c2 x.gs.length x.gs) (hg : x.code = 0 → AG 5 (ansAl x)) :
    DY a len cap g p X R w0 (set8A w Y (.int .i64 x.u) (.int .i64 x.g) (.int .i64 x.o) (.slice a1 x.us.length c1) (.slice a2 x.gs.length c2) (.bool x.r) (.int .i64 x.m) (.int .i64 x.code)) A aU cU aG cG Y x a1 c1 a2 c2 := by
  have h := h1.below hN.new.bel
  have q1 := h1.lt
  have q2 := h1.da.own.size
  have q3 := h1.da.x.lt
  have hru := hN.rwU q3 q2 h.da.xr
  have hrg := hN.rwG q3 q2 h.da.xr
  have hz := set8A_size w Y (.int .i64 x.u) (.int .i64 x.g) (.int .i64 x.o) (.slice a1 x.us.length c1) (.slice a2 x.gs.length c2) (.bool x.r) (.int .i64 x.m) (.int .i64 x.code)
  have hb : ∀ k, k ≠ Y → (set8A w Y (.int .i64 x.u) (.int .i64 x.g) (.int .i64 x.o) (.slice a1 x.us.length c1) (.slice a2 x.gs.length c2) (.bool x.r) (.int .i64 x.m) (.int .i64 x.code)).heap[k]? = w.heap[k]? := fun k hk => set8A_block w Y k _ _ _ _ _ _ _ _ hk
  obtain ⟨u0, u1, u2, u3, u4, u5, u6, u7, hy⟩ := h.y
  exact ⟨h.fillZ _ _ _ _ _ _ _ _, box8_set8 hy _ _ _ _ _ _ _ _, hru.keep (by rw [hz]; exact Nat.le_refl _) (fun B e => hb _ (by have := (hN.new.iu B e).1; omega)), hrg.keep (by rw [hz]; exact Nat.le_refl _) (fun B e => hb _ (by have := (hN.new.ig B e).1; omega)), hN.new.ne, hg⟩
/-- An answer is laid into a new box. -/
theorem DA.fill {w1 : World} (t : TypeId) (h1 : DA a len cap g p X R w0 w1 A aU cU aG cG) (hN : NewC w1 w a1 c1 x.us.length x.us a2 c2 x.gs.length x.gs) (hg : x.code = 0 → AG 5 (ansAl x)) :
    DY a len cap g p X R w0 (w.alloc (.cells #[.int .i64 x.u, .int .i64 x.g, .int .i64 x.o, .slice a1 x.us.length c1, .slice a2 x.gs.length c2, .bool x.r, .int .i64 x.m, .int .i64 x.code] t)) A aU cU aG cG w.heap.size x a1 c1 a2 c2 := by
  have h := h1.below hN.new.bel
  have hb := bel_alloc w (.cells #[.int .i64 x.u, .int .i64 x.g, .int .i64 x.o, .slice a1 x.us.length c1, .slice a2 x.gs.length c2, .bool x.r, .int .i64 x.m, .int .i64 x.code] t)
  have hru := hN.rwU h1.x.lt h1.own.size h.xr
  have hrg := hN.rwG h1.x.lt h1.own.size h.xr
  exact ⟨DZ.new h _ _ _ _ _ _ _ _ t, box8_new w _ _ _ _ _ _ _ _ t, hru.keep hb.size (fun B e => hb.block _ (hru.inn B e).2.2.2), hrg.keep hb.size (fun B e => hb.block _ (hrg.inn B e).2.2.2), hN.new.ne, hg⟩
/-- Another list of names is laid into the box X, whose rows lie beside all of it. -/
theorem DA.putR {A' : Al} {aU' aG' : Option Addr} {cU' cG' : Nat} (h : DA a len cap g p X R w0 w A aU cU aG cG) (hu : RwA w0 w X R aU' cU' A'.us) (hg : RwA w0 w X R aG' cG' A'.gs) (hne : ∀ A1 A2, aU' = some A1 → aG' = some A2 → A1.block ≠ A2.block) :
    DA a len cap g p X R w0 (set7A w X (.int .i64 A'.u) (.int .i64 A'.g) (.int .i64 A'.o) (.slice aU' A'.us.length cU') (.slice aG' A'.gs.length cG') (.bool A'.r) (.int .i64 A'.m)) A' aU' cU' aG' cG' := by
  have q1 := h.xr
  have q2 := h.x0
  have q3 := h.pl
  have hx := box7_set7 h.x (.int .i64 A'.u) (.int .i64 A'.g) (.int .i64 A'.o) (.slice aU' A'.us.length cU') (.slice aG' A'.gs.length cG') (.bool A'.r) (.int .i64 A'.m)
  have hb : ∀ k, k ≠ X → (set7A w X (.int .i64 A'.u) (.int .i64 A'.g) (.int .i64 A'.o) (.slice aU' A'.us.length cU') (.slice aG' A'.gs.length cG') (.bool A'.r) (.int .i64 A'.m)).heap[k]? = w.heap[k]? := fun k hk => set7A_block w X k _ _ _ _ _ _ _ hk
  have hz := set7A_size w X (.int .i64 A'.u) (.int .i64 A'.g) (.int .i64 A'.o) (.slice aU' A'.us.length cU') (.slice aG' A'.gs.length cG') (.bool A'.r) (.int .i64 A'.m)
  have hf := set7A_frozen w X (.int .i64 A'.u) (.int .i64 A'.g) (.int .i64 A'.o) (.slice aU' A'.us.length cU') (.slice aG' A'.gs.length cG') (.bool A'.r) (.int .i64 A'.m)
  have hos := ownp_set7 h.own (show w0.heap.size ≤ X by omega) (.int .i64 A'.u) (.int .i64 A'.g) (.int .i64 A'.o) (.slice aU' A'.us.length cU') (.slice aG' A'.gs.length cG') (.bool A'.r) (.int .i64 A'.m)
  generalize set7A w X (.int .i64 A'.u) (.int .i64 A'.g) (.int .i64 A'.o) (.slice aU' A'.us.length cU') (.slice aG' A'.gs.length cG') (.bool A'.r) (.int .i64 A'.m) = W at hb hz hf hx hos ⊢
  exact ⟨h.src.kept (fun k hk => hb k (by omega)), hos, hx, h.r.keep (by rw [hz]; exact h.r.lt) (fun o => World.cell?_of_block (hb R (by omega))), fun o => (hf _).trans (h.fx o), fun o => (hf _).trans (h.fr o), q1, q2, q3, hu.keep (by rw [hz]; exact Nat.le_refl _) (fun B e => hb _ (hu.inn B e).2.1), hg.keep (by rw [hz]; exact Nat.le_refl _) (fun B e => hb _ (hg.inn B e).2.1), hne⟩
theorem DA.prsU (h : DA a len cap g p X R w0 w A aU cU aG cG) : Prs aU A.us.length A.us w := h.ru.own.prs
theorem DA.prsG (h : DA a len cap g p X R w0 w A aU cU aG cG) : Prs aG A.gs.length A.gs w := h.rg.own.prs
theorem putU_hid {A : Al} {x : Ans} {B id bt : Int} (h : AG B A) (hi : id < B) (hx : Hid (x = putUA A.u A.g A.o A.us A.gs A.r A.m id bt)) : Hid (x.code = 0 → AG B (ansAl x)) := (fun h0 => by
  have e := hx.out
  subst e
  exact putU_code h hi h0)
theorem putG_hid {A : Al} {x : Ans} {B id bt : Int} (h : AG B A) (hx : Hid (x = putGA A.u A.g A.o A.us A.gs A.r A.m id bt)) : Hid (x.code = 0 → AG B (ansAl x)) := (fun h0 => by
  have e := hx.out
  subst e
  exact putG_code h h0)
theorem setM_hid {A : Al} {x : Ans} {B n : Int} (h : AG B A) (n0 : 0 ≤ n) (n1 : n ≤ 7) (hx : Hid (x = setMaskA A.u A.g A.o A.us A.gs A.r A.m n)) : Hid (AG B (ansAl x)) := (by
  show AG B (ansAl x)
  have e := hx.out
  subst e
  exact setM_al h n0 n1)
end Go.Proofs.YtedahdncincgjaaGreatDoor
