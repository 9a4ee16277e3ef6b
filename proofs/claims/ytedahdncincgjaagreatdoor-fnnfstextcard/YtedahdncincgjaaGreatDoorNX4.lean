/- Laid together: AceTo, NfsBits4, DrawAce, Holding. -/
import Derived.Test.YtedahdncincgjaaGreatDoorNX3
import Derived.Deep.OwnRows
import Derived.Deep.QuietTactic
import Derived.Handy
import Derived.Lib.QuietBelow
import Derived.Test.YtedahdncincgjaaGreatDoorNX2
import Derived.Deep.DeepCutAuto
import Derived.RangeFuncNested
import Derived.RangeFuncBound
import Derived.RangeFuncCalls
import Derived.RangeFuncLeaves
import Derived.Shelf.Abstract
import Derived.Shelf.RegionOpen
import Derived.OwnWalkIn
import Derived.TacticsInMore
import Derived.LoopNIn
import Derived.LoopIn
/- laws.toAce, toAceS, szAceS, eqAce, eqAceS: a copy of a list of aces, two lists held against each other. -/
namespace Go.Proofs.YtedahdncincgjaaGreatDoor
open Go.RowKit Go.PlainAid
set_option linter.unusedVariables false
theorem bl_setA {B b o : Nat} {W w1 : World} {x : Value} (hb : Below B W w1) (h : B ≤ b) : Below B W (w1.setCell ⟨b, o, none⟩ x) := hb.setCell h _
theorem below_drewA {B : Nat} {w w' : World} (h : Below B w w') : Below B w w'.drew := h.trans ⟨rfl, rfl, rfl, Nat.le_refl _, fun _ _ => rfl⟩
/-- Five cells that may be written. -/
structure Free5 (w : World) (b o : Nat) : Prop where
  f0 : w.frozen? ⟨b, o, none⟩ = false
  f1 : w.frozen? ⟨b, o + 1, none⟩ = false
  f2 : w.frozen? ⟨b, o + 2, none⟩ = false
  f3 : w.frozen? ⟨b, o + 3, none⟩ = false
  f4 : w.frozen? ⟨b, o + 4, none⟩ = false
theorem Free5.keep {w w' : World} {b o : Nat} (h : Free5 w b o) (hc : ∀ j, w'.frozen? ⟨b, j, none⟩ = w.frozen? ⟨b, j, none⟩) : Free5 w' b o :=
  ⟨(hc _).trans h.f0, (hc _).trans h.f1, (hc _).trans h.f2, (hc _).trans h.f3, (hc _).trans h.f4⟩
/-- An ace is written into five cells. -/
abbrev set5 (w : World) (b o : Nat) (x : Ac) : World := ((((w.setCell ⟨b, o, none⟩ (.bool x.al)).setCell ⟨b, o + 1, none⟩ (.int .i64 x.wh)).setCell ⟨b, o + 2, none⟩ (.int .i64 x.id)).setCell ⟨b, o + 3, none⟩ (.int .i64 x.fl)).setCell ⟨b, o + 4, none⟩ (.int .i64 x.ma)
theorem cell_set5_off {w : World} {b o p : Nat} {x : Ac} (h : p < o ∨ o + 5 ≤ p) : (set5 w b o x).cell? ⟨b, p, none⟩ = w.cell? ⟨b, p, none⟩ := by
  unfold set5
  rw [World.cell?_setCell_other _ _ _ _ (by intro h; have h2 := congrArg Addr.off h; simp only at h2; omega), World.cell?_setCell_other _ _ _ _ (by intro h; have h2 := congrArg Addr.off h; simp only at h2; omega), World.cell?_setCell_other _ _ _ _ (by intro h; have h2 := congrArg Addr.off h; simp only at h2; omega), World.cell?_setCell_other _ _ _ _ (by intro h; have h2 := congrArg Addr.off h; simp only at h2; omega), World.cell?_setCell_other _ _ _ _ (by intro h; have h2 := congrArg Addr.off h; simp only at h2; omega)]
theorem froz_set5 {w : World} {b o : Nat} {x : Ac} (p : Addr) : (set5 w b o x).frozen? p = w.frozen? p := by
  unfold set5
  rw [World.frozen?_setCell, World.frozen?_setCell, World.frozen?_setCell, World.frozen?_setCell, World.frozen?_setCell]
theorem five_set5 {w : World} {b o : Nat} {x y : Ac} (h : Five w b o y) : Five (set5 w b o x) b o x := by
  obtain ⟨c0, c1, c2, c3, c4⟩ := h
  refine ⟨?_, ?_, ?_, ?_, ?_⟩ <;> simp [set5, go_sem, c0, c1, c2, c3, c4]
/-- What a world holds of a row of aces that may be written. -/
def AHold (w : World) (B : Nat) (F : Nat → Ac) (n : Nat) : Prop := ∀ i, i < n → Five w B (i * 5) (F i) ∧ Free5 w B (i * 5)
theorem AHold.below {w w' : World} {B : Nat} {F : Nat → Ac} {n : Nat} (h : AHold w B F n) (hlt : B < w.heap.size) (hb : Below w.heap.size w w') : AHold w' B F n := fun i hi =>
  ⟨(h i hi).1.below hlt hb, (h i hi).2.keep (fun j => hb.frozen (p := ⟨B, j, none⟩) hlt)⟩
theorem AHold.set {w : World} {B : Nat} {F : Nat → Ac} {n : Nat} (h : AHold w B F n) (k : Nat) (hk : k < n) (x : Ac) : AHold (set5 w B (k * 5) x) B (fun i => if i = k then x else F i) n := by
  intro i hi
  have h1 := h i hi
  refine ⟨?_, h1.2.keep (fun j => froz_set5 _)⟩
  by_cases e : i = k
  · subst e
    simp only [if_pos]
    exact five_set5 h1.1
  · simp only [if_neg e]
    refine ⟨?_, ?_, ?_, ?_, ?_⟩
    · rw [cell_set5_off (by omega)]; exact h1.1.c0
    · rw [cell_set5_off (by omega)]; exact h1.1.c1
    · rw [cell_set5_off (by omega)]; exact h1.1.c2
    · rw [cell_set5_off (by omega)]; exact h1.1.c3
    · rw [cell_set5_off (by omega)]; exact h1.1.c4
/-- A list of aces in memory of its own, that may be written. -/
def OwnA (a : Option Addr) (len : Nat) (l : List Ac) (w : World) : Prop :=
  l.length = len ∧ (0 < len → ∃ B, a = some ⟨B, 0, none⟩ ∧ B < w.heap.size ∧ AHold w B (acAt l) len)
theorem OwnA.acs {a : Option Addr} {len : Nat} {l : List Ac} {w : World} (h : OwnA a len l w) : Acs a len l w := by
  refine ⟨h.1, fun h0 => ?_⟩
  obtain ⟨B, ha, hlt, hp⟩ := h.2 h0
  exact ⟨B, 0, ha, hlt, fun i hi => by simpa using (hp i hi).1⟩
theorem OwnA.below {a : Option Addr} {len : Nat} {l : List Ac} {w w' : World} (h : OwnA a len l w) (hb : Below w.heap.size w w') : OwnA a len l w' := by
  refine ⟨h.1, fun h0 => ?_⟩
  obtain ⟨B, ha, hlt, hp⟩ := h.2 h0
  exact ⟨B, ha, Nat.lt_of_lt_of_le hlt hb.size, hp.below hlt hb⟩
theorem ownA_nil (a : Option Addr) (w : World) : OwnA a 0 [] w := ⟨rfl, fun h => absurd h (by omega)⟩
theorem OwnA.set {a : Option Addr} {len : Nat} {l : List Ac} {w : World} {b o : Nat} {v : Value} (h : OwnA a len l w) (hne : ∀ A, a = some A → b ≠ A.block) : OwnA a len l (w.setCell ⟨b, o, none⟩ v) := by
  refine ⟨h.1, fun h0 => ?_⟩
  obtain ⟨B, ha, hlt, hp⟩ := h.2 h0
  refine ⟨B, ha, by simpa using hlt, fun i hi => ?_⟩
  have hn : b ≠ B := hne _ ha
  exact ⟨(hp i hi).1.other hn, (hp i hi).2.keep (fun j => World.frozen?_setCell _ _ _ _)⟩
theorem infoAce : (Tryz.prog.info? 24).map (fun i => (i.zero, i.size, i.bytes)) = some (some (.agg #[.bool false, .int .i64 0, .int .i64 0, .int .i64 0, .int .i64 0]), 5, 40) := by kernel_rfl
end Go.Proofs.YtedahdncincgjaaGreatDoor
/- spec.l04Bits of bits: some number; spec.l04More. -/
namespace Go.Proofs.YtedahdncincgjaaGreatDoor
open Go.RowKit Go.PlainAid Go.Deep
set_option linter.unusedVariables false
/-- What bits are in a mask. -/
def nb (b : Int) : Int := b / 4 + b / 2 % 2 * 10 + b % 2 * 4
set_option maxHeartbeats 2000000 in
theorem l04Bits_any (b : Int) (h0 : 0 ≤ b) (h1 : b ≤ 7) (w : World) :
    Calls Tryz.prog 54 #[.int .i64 b] w fun e w' => e = .returned (.int .i64 (nb b)) ∧ w' = w := by
  rcases (by omega : b = 0 ∨ b = 1 ∨ b = 2 ∨ b = 3 ∨ b = 4 ∨ b = 5 ∨ b = 6 ∨ b = 7) with rfl | rfl | rfl | rfl | rfl | rfl | rfl | rfl
  all_goals (
    go_enter Tryz.func54, Tryz.ntmps54
    go_wp2
    go_ret
    exact ⟨rfl, rfl⟩)
theorem l04Bits_some (b : Int) (h0 : 0 ≤ b) (h1 : b ≤ 7) (w : World) :
    Calls Tryz.prog 54 #[.int .i64 b] w fun e w' => (∃ z : Int, e = .returned (.int .i64 z)) ∧ w' = w :=
  (l04Bits_any b h0 h1 w).mono fun e w' ⟨h, h2⟩ => ⟨⟨_, h⟩, h2⟩
theorem lit_frozen (w : World) (xs : Array Value) (t : TypeId) (k : Nat) : (w.alloc (.cells xs t)).frozen? ⟨w.heap.size, k, none⟩ = false := by
  have hb : (w.alloc (.cells xs t)).heap[w.heap.size]? = some (.cells xs t) := blk_new w _
  simp only [World.frozen?, hb]
  simp
theorem Ownp.frozen {p : Nat} {w w' : World} (h : Ownp p w w') {b o : Nat} (hb : b < w.heap.size) (hne : b ≠ p) : w'.frozen? ⟨b, o, none⟩ = w.frozen? ⟨b, o, none⟩ :=
  World.frozen?_of_block (h.block b hb (by simpa using hne))
theorem set_block (w : World) (X o k : Nat) (v : Value) (h : k ≠ X) : (w.setCell ⟨X, o, none⟩ v).heap[k]? = w.heap[k]? := by
  by_cases hk : k < w.heap.size
  · exact (Lib.grownBy_setCell w X o v).block k hk (by simpa using h)
  · have h1 : w.heap[k]? = none := Array.getElem?_eq_none (by omega)
    have h2 : (w.setCell ⟨X, o, none⟩ v).heap[k]? = none := Array.getElem?_eq_none (by simp; omega)
    rw [h1, h2]
theorem Ownp.setNew {p X o : Nat} {w w' : World} (h : Ownp p w w') (hX : w.heap.size ≤ X) (v : Value) : Ownp p w (w'.setCell ⟨X, o, none⟩ v) :=
  ⟨h.os, h.tape, h.output, by simpa [World.setCell] using h.size, fun k hk hne => (set_block w' X o k v (by omega)).trans (h.block k hk hne)⟩
theorem Src.setNew {a : Option Addr} {len cap : Nat} {g : Nat → Int} {p X o : Nat} {w : World} (h : Src a len cap g p w) (hX : p < X) (v : Value) : Src a len cap g p (w.setCell ⟨X, o, none⟩ v) :=
  h.kept (fun k hk => set_block w X o k v (by omega))
/-- An ace that is being drawn, in block X; the answer's block R. -/
structure AB (a : Option Addr) (len cap : Nat) (g : Nat → Int) (p X R : Nat) (w0 w : World) (ac : Ac) : Prop where
  src : Src a len cap g p w
  own : Ownp p w0 w
  x : Five w X 0 ac
  r : Five w R 0 acZ
  fx : ∀ o, w.frozen? ⟨X, o, none⟩ = false
  fr : ∀ o, w.frozen? ⟨R, o, none⟩ = false
  xr : R < X
  x0 : w0.heap.size ≤ R
  pl : p < w0.heap.size
  xl : X < w.heap.size
theorem AB.call {a : Option Addr} {len cap : Nat} {g : Nat → Int} {p X R : Nat} {w0 w w' : World} {ac : Ac} (h : AB a len cap g p X R w0 w ac) (hs : Src a len cap g p w') (ho : Ownp p w w') : AB a len cap g p X R w0 w' ac := by
  have h1 := h.xr
  have h2 := h.x0
  have h3 := h.pl
  have h4 := h.xl
  exact ⟨hs, h.own.trans ho, h.x.keep (fun j => ho.cell (by omega) (by omega)), h.r.keep (fun j => ho.cell (by omega) (by omega)), fun o => (ho.frozen (by omega) (by omega)).trans (h.fx o), fun o => (ho.frozen (by omega) (by omega)).trans (h.fr o), h1, h2, h3, Nat.lt_of_lt_of_le h4 ho.size⟩
theorem AB.alloc {a : Option Addr} {len cap : Nat} {g : Nat → Int} {p X R : Nat} {w0 w : World} {ac : Ac} (h : AB a len cap g p X R w0 w ac) (o : Obj) : AB a len cap g p X R w0 (w.alloc o) ac :=
  h.call (src_alloc h.src o) ((Ownp.refl p w).alloc o)
theorem AB.setX {a : Option Addr} {len cap : Nat} {g : Nat → Int} {p X R o : Nat} {w0 w : World} {ac ac' : Ac} {v : Value} (h : AB a len cap g p X R w0 w ac) (hx : Five (w.setCell ⟨X, o, none⟩ v) X 0 ac') : AB a len cap g p X R w0 (w.setCell ⟨X, o, none⟩ v) ac' := by
  have h1 := h.xr
  have h2 := h.x0
  have h3 := h.pl
  exact ⟨h.src.setNew (by omega) v, h.own.setNew (by omega) v, hx, h.r.other (by omega), fun o => by rw [World.frozen?_setCell]; exact h.fx o, fun o => by rw [World.frozen?_setCell]; exact h.fr o, h1, h2, h3, by simpa using h.xl⟩
theorem AB.set1 {a : Option Addr} {len cap : Nat} {g : Nat → Int} {p X R : Nat} {w0 w : World} {ac : Ac} (h : AB a len cap g p X R w0 w ac) (v : Int) : AB a len cap g p X R w0 (w.setCell ⟨X, 1, none⟩ (.int .i64 v)) ⟨ac.al, v, ac.id, ac.fl, ac.ma⟩ :=
  h.setX (by obtain ⟨c0, c1, c2, c3, c4⟩ := h.x; simp only [Nat.zero_add] at c1 c2 c3 c4; refine ⟨?_, ?_, ?_, ?_, ?_⟩ <;> simp [go_sem, c0, c1, c2, c3, c4])
theorem AB.set2 {a : Option Addr} {len cap : Nat} {g : Nat → Int} {p X R : Nat} {w0 w : World} {ac : Ac} (h : AB a len cap g p X R w0 w ac) (v : Int) : AB a len cap g p X R w0 (w.setCell ⟨X, 2, none⟩ (.int .i64 v)) ⟨ac.al, ac.wh, v, ac.fl, ac.ma⟩ :=
  h.setX (by obtain ⟨c0, c1, c2, c3, c4⟩ := h.x; simp only [Nat.zero_add] at c1 c2 c3 c4; refine ⟨?_, ?_, ?_, ?_, ?_⟩ <;> simp [go_sem, c0, c1, c2, c3, c4])
theorem AB.set3 {a : Option Addr} {len cap : Nat} {g : Nat → Int} {p X R : Nat} {w0 w : World} {ac : Ac} (h : AB a len cap g p X R w0 w ac) (v : Int) : AB a len cap g p X R w0 (w.setCell ⟨X, 3, none⟩ (.int .i64 v)) ⟨ac.al, ac.wh, ac.id, v, ac.ma⟩ :=
  h.setX (by obtain ⟨c0, c1, c2, c3, c4⟩ := h.x; simp only [Nat.zero_add] at c1 c2 c3 c4; refine ⟨?_, ?_, ?_, ?_, ?_⟩ <;> simp [go_sem, c0, c1, c2, c3, c4])
theorem AB.set4 {a : Option Addr} {len cap : Nat} {g : Nat → Int} {p X R : Nat} {w0 w : World} {ac : Ac} (h : AB a len cap g p X R w0 w ac) (v : Int) : AB a len cap g p X R w0 (w.setCell ⟨X, 4, none⟩ (.int .i64 v)) ⟨ac.al, ac.wh, ac.id, ac.fl, v⟩ :=
  h.setX (by obtain ⟨c0, c1, c2, c3, c4⟩ := h.x; simp only [Nat.zero_add] at c1 c2 c3 c4; refine ⟨?_, ?_, ?_, ?_, ?_⟩ <;> simp [go_sem, c0, c1, c2, c3, c4])
theorem lit_some (w : World) (xs : Array Value) (t : TypeId) (n : Nat) (hx : ∀ k, k < n → ∃ z : Int, xs[k]? = some (.int .i64 z)) (r : Int) (h0 : 0 ≤ r) (h1 : r < n) : ∃ z : Int, (w.alloc (.cells xs t)).cell? ⟨w.heap.size, r.toNat, none⟩ = some (.int .i64 z) := by
  rw [lit_cell]
  exact hx _ (by omega)
theorem lit_fA (w : World) (t : TypeId) (r : Int) (h0 : 0 ≤ r) (h1 : r < 10) : ∃ z : Int, (w.alloc (.cells #[.int .i64 1, .int .i64 2, .int .i64 3, .int .i64 5, .int .i64 6, .int .i64 7, .int .i64 9, .int .i64 10, .int .i64 11, .int .i64 15] t)).cell? ⟨w.heap.size, r.toNat, none⟩ = some (.int .i64 z) :=
  lit_some w _ t 10 (fun k hk => by match k, hk with | 0, _ => exact ⟨_, rfl⟩ | 1, _ => exact ⟨_, rfl⟩ | 2, _ => exact ⟨_, rfl⟩ | 3, _ => exact ⟨_, rfl⟩ | 4, _ => exact ⟨_, rfl⟩ | 5, _ => exact ⟨_, rfl⟩ | 6, _ => exact ⟨_, rfl⟩ | 7, _ => exact ⟨_, rfl⟩ | 8, _ => exact ⟨_, rfl⟩ | 9, _ => exact ⟨_, rfl⟩) r h0 h1
theorem lit_fB (w : World) (t : TypeId) (r : Int) (h0 : 0 ≤ r) (h1 : r < 5) : ∃ z : Int, (w.alloc (.cells #[.int .i64 4, .int .i64 8, .int .i64 12, .int .i64 16, .int .i64 (-1)] t)).cell? ⟨w.heap.size, r.toNat, none⟩ = some (.int .i64 z) :=
  lit_some w _ t 5 (fun k hk => by match k, hk with | 0, _ => exact ⟨_, rfl⟩ | 1, _ => exact ⟨_, rfl⟩ | 2, _ => exact ⟨_, rfl⟩ | 3, _ => exact ⟨_, rfl⟩ | 4, _ => exact ⟨_, rfl⟩) r h0 h1
theorem lit_fM (w : World) (t : TypeId) (r : Int) (h0 : 0 ≤ r) (h1 : r < 3) : ∃ z : Int, (w.alloc (.cells #[.int .i64 0, .int .i64 255, .int .i64 256] t)).cell? ⟨w.heap.size, r.toNat, none⟩ = some (.int .i64 z) :=
  lit_some w _ t 3 (fun k hk => by match k, hk with | 0, _ => exact ⟨_, rfl⟩ | 1, _ => exact ⟨_, rfl⟩ | 2, _ => exact ⟨_, rfl⟩) r h0 h1
theorem lit_fW (w : World) (t : TypeId) (r : Int) (h0 : 0 ≤ r) (h1 : r < 2) : ∃ z : Int, (w.alloc (.cells #[.int .i64 0, .int .i64 6] t)).cell? ⟨w.heap.size, r.toNat, none⟩ = some (.int .i64 z) :=
  lit_some w _ t 2 (fun k hk => by match k, hk with | 0, _ => exact ⟨_, rfl⟩ | 1, _ => exact ⟨_, rfl⟩) r h0 h1
set_option maxRecDepth 100000 in
set_option maxHeartbeats 4000000 in
/-- The draw of an ace. -/
theorem drAce_any (a : Option Addr) (len cap : Nat) (g : Nat → Int) (p : Nat) (w : World) (hs : Src a len cap g p w) :
    Calls Tryz.prog 25 #[.pointer (some ⟨p, 0, none⟩)] w fun e w' => ∃ x : Ac, e = .returned (.agg #[.bool x.al, .int .i64 x.wh, .int .i64 x.id, .int .i64 x.fl, .int .i64 x.ma]) ∧ Src a len cap g p w' ∧ Ownp p w w' := by
  have hp := hs.pos
  go_enter Tryz.func25, Tryz.ntmps25
  go_wp2_with fail
  refine (one_any a len cap g _ _ (by decide) _ (src_alloc hs _)).mono ?_
  rintro e w1 ⟨al, rfl, hs1, ho1⟩
  go_wp2_with fail
  refine (n_any a len cap g _ _ (by decide) _ hs1).mono ?_
  rintro e w2 ⟨wh, rfl, x1, x2, hs2, ho2⟩
  go_wp2_with fail
  refine (n_any a len cap g _ _ (by decide) _ hs2).mono ?_
  rintro e w3 ⟨ma, rfl, y1, y2, hs3, ho3⟩
  have hr0 : Five (w.alloc (.cells #[.bool false, .int .i64 0, .int .i64 0, .int .i64 0, .int .i64 0] 24)) w.heap.size 0 acZ := five_new w acZ 24
  have hf0 : ∀ o, (w.alloc (.cells #[.bool false, .int .i64 0, .int .i64 0, .int .i64 0, .int .i64 0] 24)).frozen? ⟨w.heap.size, o, none⟩ = false := fun o => lit_frozen _ _ _ _
  have ho := (ho1.trans ho2).trans ho3
  have hz3 : w.heap.size < w3.heap.size := by have := ho.size; simp at this; omega
  have hO3 : Ownp p w w3 := ((Ownp.refl p w).alloc _).trans ho
  have x3 : wh < 5 := by omega
  have y3 : ma < 255 := by omega
  obtain ⟨wh', hwh⟩ : ∃ q, q = 1 + wh := ⟨_, rfl⟩
  obtain ⟨ma', hma⟩ : ∃ q, q = 1 + ma := ⟨_, rfl⟩
  have hAB : Hid (AB a len cap g p w3.heap.size w.heap.size w (w3.alloc (.cells #[.bool al, .int .i64 (1 + wh), .int .i64 0, .int .i64 0, .int .i64 (1 + ma)] 24)) ⟨al, 1 + wh, 0, 0, 1 + ma⟩) :=
    ⟨src_alloc hs3 _, hO3.alloc _, five_new w3 ⟨al, 1 + wh, 0, 0, 1 + ma⟩ 24, (hr0.keep (fun j => ho.cell (by simp) (by omega))).below hz3 (bel_alloc _ _), fun o => lit_frozen _ _ _ _, fun o => ((bel_alloc w3 _).frozen (p := ⟨w.heap.size, o, none⟩) hz3).trans ((ho.frozen (by simp) (by omega)).trans (hf0 o)), hz3, Nat.le_refl _, hp, by simp⟩
  clear hwh hma wh' ma' hr0 hf0 ho hO3 ho1 ho2 ho3 hs1 hs2 hs3 hs x2 y2 hz3
  go_wp2_with fail
  generalize (w3.alloc (.cells #[.bool al, .int .i64 (1 + wh), .int .i64 0, .int .i64 0, .int .i64 (1 + ma)] 24)) = w4 at hAB ⊢
  generalize w3.heap.size = X at hAB ⊢
  obtain ⟨ac0, hac0⟩ : ∃ q : Ac, q = ⟨al, 1 + wh, 0, 0, 1 + ma⟩ := ⟨_, rfl⟩
  rw [← hac0] at hAB
  clear hac0
  refine (one_any a len cap g _ _ (by decide) _ hAB.out.src).mono ?_
  rintro e wx ⟨r, rfl, hsx, hox⟩
  have hA5 : Hid (AB a len cap g p X w.heap.size w wx ac0) := hAB.out.call hsx hox
  clear hsx hox hAB
  go_upto_if 14 with fail
  go_cut [] (fun wx => ∃ ac, Hid (AB a len cap g p X w.heap.size w wx ac))
  case first =>
    obtain ⟨ac, hac⟩ : ∃ ac, ac = ac0 := ⟨_, rfl⟩
    subst hac
    cases r
    · go_wp2
      go_meet
      exact ⟨_, hA5⟩
    · go_wp2_with fail
      refine (n_any a len cap g _ _ (by decide) _ hA5.out.src).mono ?_
      rintro e wn ⟨y, rfl, z1, z2, hsn, hon⟩
      have hAn : Hid (AB a len cap g p X w.heap.size w wn ac) := hA5.out.call hsn hon
      have z3 : y < 7 := by omega
      clear hsn hon z2 hA5
      obtain ⟨c0, c1, c2, c3, c4⟩ := hAn.out.x
      simp only [Nat.zero_add] at c1 c2 c3 c4
      have cf := hAn.out.fx
      have hl4 : Hid (∀ w, Calls Tryz.prog 54 #[.int .i64 (1 + y)] w fun e w' => (∃ z : Int, e = .returned (.int .i64 z)) ∧ w' = w) := (fun w => (l04Bits_some (1 + y) (by omega) (by omega) w))
      go_wp2_with fail
      refine (hl4.out _).mono ?_
      rintro e wq ⟨⟨z, rfl⟩, rfl⟩
      go_wp2
      go_meet
      exact ⟨_, hAn.out.set4 z⟩
  case rest =>
  obtain ⟨ac1, hA6⟩ := hcut
  obtain ⟨wy, hwy⟩ : ∃ wy, wy = wc := ⟨_, rfl⟩
  subst hwy
  clear hA5
  obtain ⟨c0, c1, c2, c3, c4⟩ := hA6.out.x
  simp only [Nat.zero_add] at c1 c2 c3 c4
  go_upto_if 22 with fail
  go_cut [] (fun wx => ∃ ac, Hid (AB a len cap g p X w.heap.size w wx ac))
  case first =>
    by_cases hw4 : 4 ≤ ac1.wh
    · go_wp2_with fail
      refine (n_any a len cap g _ _ (by decide) _ hA6.out.src).mono ?_
      rintro e wn ⟨y, rfl, z1, z2, hsn, hon⟩
      have hAn : Hid (AB a len cap g p X w.heap.size w wn ac1) := hA6.out.call hsn hon
      clear hsn hon z2 hA6 c0 c1 c2 c3 c4
      obtain ⟨c0, c1, c2, c3, c4⟩ := hAn.out.x
      simp only [Nat.zero_add] at c1 c2 c3 c4
      have cf := hAn.out.fx
      go_wp2
      go_meet
      exact ⟨_, hAn.out.set2 y⟩
    · go_wp2
      go_meet
      exact ⟨_, hA6⟩
  case rest =>
  clear c0 c1 c2 c3 c4 hA6
  obtain ⟨ac, hA7⟩ := hcut
  obtain ⟨wz, hwz⟩ : ∃ wz, wz = wc := ⟨_, rfl⟩
  subst hwz
  clear ac1
  go_wp2_with fail
  refine (one_any a len cap g _ _ (by decide) _ hA7.out.src).mono ?_
  rintro e wy ⟨r, rfl, hsx, hox⟩
  have hA : Hid (AB a len cap g p X w.heap.size w wy ac) := hA7.out.call hsx hox
  clear hsx hox hA7
  go_upto_if 27 with fail
  go_cut [] (fun wx => ∃ ac, Hid (AB a len cap g p X w.heap.size w wx ac))
  case first =>
    cases r
    · go_wp2
      go_meet
      exact ⟨_, hA⟩
    · go_wp2_with fail
      refine (n_any a len cap g _ _ (by decide) _ (hA.out.alloc _).src).mono ?_
      rintro e wn ⟨y, rfl, y1, y2, hsn, hon⟩
      obtain ⟨z, hz⟩ := lit_fA wy 2 y y1 (by omega)
      have hAL := (hA.out.alloc (.cells #[.int .i64 1, .int .i64 2, .int .i64 3, .int .i64 5, .int .i64 6, .int .i64 7, .int .i64 9, .int .i64 10, .int .i64 11, .int .i64 15] 2))
      have hcz : wn.cell? ⟨wy.heap.size, y.toNat, none⟩ = some (.int .i64 z) := (hon.cell (by simp) (by have := hA.out.pl; have := hA.out.own.size; omega)).trans hz
      have hAn : Hid (AB a len cap g p X w.heap.size w wn ac) := hAL.call hsn hon
      have y3 : y < 10 := by omega
      clear hz hAL hon hsn y2 hA
      obtain ⟨c0, c1, c2, c3, c4⟩ := hAn.out.x
      simp only [Nat.zero_add] at c1 c2 c3 c4
      have cf := hAn.out.fx
      go_wp2
      go_meet
      exact ⟨_, hAn.out.set3 z⟩
  case rest =>
  clear hA
  clear ac
  obtain ⟨ac, hA7⟩ := hcut
  obtain ⟨wz, hwz⟩ : ∃ wz, wz = wc := ⟨_, rfl⟩
  subst hwz
  go_wp2_with fail
  refine (one_any a len cap g _ _ (by decide) _ hA7.out.src).mono ?_
  rintro e wy ⟨r, rfl, hsx, hox⟩
  have hA : Hid (AB a len cap g p X w.heap.size w wy ac) := hA7.out.call hsx hox
  clear hsx hox hA7
  go_upto_if 35 with fail
  go_cut [] (fun wx => ∃ ac, Hid (AB a len cap g p X w.heap.size w wx ac))
  case first =>
    cases r
    · go_wp2
      go_meet
      exact ⟨_, hA⟩
    · go_wp2_with fail
      refine (n_any a len cap g _ _ (by decide) _ hA.out.src).mono ?_
      rintro e wm ⟨q, rfl, q1, q2, hsx, hox⟩
      have hA' : Hid (AB a len cap g p X w.heap.size w wm ac) := hA.out.call hsx hox
      clear hsx hox hA
      clear wy
      obtain ⟨wy, hwy⟩ : ∃ wy, wy = wm := ⟨_, rfl⟩
      subst hwy
      have hA := hA'
      clear hA'
      by_cases e0 : q = 0
      · subst e0
        go_wp2_with fail
        refine (n_any a len cap g _ _ (by decide) _ (hA.out.alloc _).src).mono ?_
        rintro e wn ⟨y, rfl, y1, y2, hsn, hon⟩
        obtain ⟨z, hz⟩ := lit_fB wy 2 y y1 (by omega)
        have hAL := (hA.out.alloc (.cells #[.int .i64 4, .int .i64 8, .int .i64 12, .int .i64 16, .int .i64 (-1)] 2))
        have hcz : wn.cell? ⟨wy.heap.size, y.toNat, none⟩ = some (.int .i64 z) := (hon.cell (by simp) (by have := hA.out.pl; have := hA.out.own.size; omega)).trans hz
        have hAn : Hid (AB a len cap g p X w.heap.size w wn ac) := hAL.call hsn hon
        have y3 : y < 5 := by omega
        clear hz hAL hon hsn y2 hA
        obtain ⟨c0, c1, c2, c3, c4⟩ := hAn.out.x
        simp only [Nat.zero_add] at c1 c2 c3 c4
        have cf := hAn.out.fx
        go_wp2
        go_meet
        exact ⟨_, hAn.out.set3 z⟩
      · have b0 : (q == 0) = false := by simpa using e0
        by_cases e1 : q = 1
        · subst e1
          clear e0
          go_wp2_with fail
          refine (n_any a len cap g _ _ (by decide) _ (hA.out.alloc _).src).mono ?_
          rintro e wn ⟨y, rfl, y1, y2, hsn, hon⟩
          obtain ⟨z, hz⟩ := lit_fM wy 2 y y1 (by omega)
          have hAL := (hA.out.alloc (.cells #[.int .i64 0, .int .i64 255, .int .i64 256] 2))
          have hcz : wn.cell? ⟨wy.heap.size, y.toNat, none⟩ = some (.int .i64 z) := (hon.cell (by simp) (by have := hA.out.pl; have := hA.out.own.size; omega)).trans hz
          have hAn : Hid (AB a len cap g p X w.heap.size w wn ac) := hAL.call hsn hon
          have y3 : y < 3 := by omega
          clear hz hAL hon hsn y2 hA
          obtain ⟨c0, c1, c2, c3, c4⟩ := hAn.out.x
          simp only [Nat.zero_add] at c1 c2 c3 c4
          have cf := hAn.out.fx
          go_wp2
          go_meet
          exact ⟨_, hAn.out.set4 z⟩
        · have b1 : (q == 1) = false := by simpa using e1
          by_cases e2 : q = 2
          · subst e2
            clear e0 e1
            go_wp2_with fail
            refine (n_any a len cap g _ _ (by decide) _ (hA.out.alloc _).src).mono ?_
            rintro e wn ⟨y, rfl, y1, y2, hsn, hon⟩
            obtain ⟨z, hz⟩ := lit_fW wy 2 y y1 (by omega)
            have hAL := (hA.out.alloc (.cells #[.int .i64 0, .int .i64 6] 2))
            have hcz : wn.cell? ⟨wy.heap.size, y.toNat, none⟩ = some (.int .i64 z) := (hon.cell (by simp) (by have := hA.out.pl; have := hA.out.own.size; omega)).trans hz
            have hAn : Hid (AB a len cap g p X w.heap.size w wn ac) := hAL.call hsn hon
            have y3 : y < 2 := by omega
            clear hz hAL hon hsn y2 hA
            obtain ⟨c0, c1, c2, c3, c4⟩ := hAn.out.x
            simp only [Nat.zero_add] at c1 c2 c3 c4
            have cf := hAn.out.fx
            go_wp2
            go_meet
            exact ⟨_, hAn.out.set1 z⟩
          · have b2 : (q == 2) = false := by simpa using e2
            clear e0 e1 e2
            go_wp2_with fail
            refine (drId_any a len cap g _ _ hA.out.src).mono ?_
            rintro e wn ⟨z, rfl, z1, z2, hsn, hon⟩
            have hAn : Hid (AB a len cap g p X w.heap.size w wn ac) := hA.out.call hsn hon
            clear hsn hon hA
            obtain ⟨c0, c1, c2, c3, c4⟩ := hAn.out.x
            simp only [Nat.zero_add] at c1 c2 c3 c4
            have cf := hAn.out.fx
            go_wp2
            go_meet
            exact ⟨_, hAn.out.set2 z⟩
  case rest =>
  clear hA
  clear ac
  obtain ⟨ac, hA7⟩ := hcut
  obtain ⟨wz, hwz⟩ : ∃ wz, wz = wc := ⟨_, rfl⟩
  subst hwz
  obtain ⟨c0, c1, c2, c3, c4⟩ := hA7.out.x
  obtain ⟨d0, d1, d2, d3, d4⟩ := hA7.out.r
  simp only [Nat.zero_add, acZ] at c1 c2 c3 c4 d0 d1 d2 d3 d4
  have cf := hA7.out.fr
  have hfin : Hid (Src a len cap g p (set5 wz w.heap.size 0 ac) ∧ Ownp p w (set5 wz w.heap.size 0 ac)) := ⟨((((hA7.out.src.setNew hp _).setNew hp _).setNew hp _).setNew hp _).setNew hp _, ((((hA7.out.own.setNew (Nat.le_refl _) _).setNew (Nat.le_refl _) _).setNew (Nat.le_refl _) _).setNew (Nat.le_refl _) _).setNew (Nat.le_refl _) _⟩
  go_wp2
  refine bodyPost_ret (v := .agg #[.bool ac.al, .int .i64 ac.wh, .int .i64 ac.id, .int .i64 ac.fl, .int .i64 ac.ma]) (by simp [results, Tryz.results25, go_sem, d0, d1, d2, d3, d4]) rfl ⟨ac, rfl, ?_⟩
  exact hfin.out
end Go.Proofs.YtedahdncincgjaaGreatDoor
/- The aces that hold and are of somebody, one by one: impl.holding, its closure, impl.holds. -/
namespace Go.Proofs.YtedahdncincgjaaGreatDoor
open Go.RowKit Go.PlainAid Go.Shelf
set_option linter.unusedVariables false
attribute [local go_sem] Oper.semAt_some
/-- What a round must keep: what lay below a block's number, and the cells of some blocks. -/
def KpC (n₀ lo hi : Nat) (W W' : World) : Prop := Below n₀ W W' ∧ ∀ c o v, lo ≤ c → c < hi → W.cell? ⟨c, o, none⟩ = some v → W'.cell? ⟨c, o, none⟩ = some v
theorem KpC.five {n₀ lo hi : Nat} {W W' : World} (h : KpC n₀ lo hi W W') {b o : Nat} {x : Ac} (h1 : lo ≤ b) (h2 : b < hi) (hf : Five W b o x) : Five W' b o x :=
  ⟨h.2 _ _ _ h1 h2 hf.c0, h.2 _ _ _ h1 h2 hf.c1, h.2 _ _ _ h1 h2 hf.c2, h.2 _ _ _ h1 h2 hf.c3, h.2 _ _ _ h1 h2 hf.c4⟩
end Go.Proofs.YtedahdncincgjaaGreatDoor
