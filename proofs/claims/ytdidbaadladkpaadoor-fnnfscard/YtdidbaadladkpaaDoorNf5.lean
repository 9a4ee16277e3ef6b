/- Laid together: AceMath, AceTo, NfsBits4. -/
import Derived.Test.YtdidbaadladkpaaDoorNf4
import Derived.Deep.OwnRows
import Derived.Deep.QuietTactic
import Derived.BigQuiet
import Derived.Handy
import Derived.Lib.QuietBelow
/- A list of aces (a bool and four numbers each) that lies in a world; right aces and lists of them. Nothing here names a program. -/
namespace Go.Proofs.YtdidbaadladkpaaDoor
open Go.RowKit Go.PlainAid Go.ChangeShapes Go.WideShapes Go.ChangeAt Go.Joins Go.Deep
set_option linter.unusedVariables false
/-- An ace. -/
structure Ac where
  al : Bool
  wh : Int
  id : Int
  fl : Int
  ma : Int
def acZ : Ac := ⟨false, 0, 0, 0, 0⟩
instance : Inhabited Ac := ⟨acZ⟩
def acAt (l : List Ac) (k : Nat) : Ac := l.getD k acZ
theorem acAt_get {l : List Ac} {k : Nat} (h : k < l.length) : acAt l k = l[k] := by simp [acAt, List.getD, h]
theorem acAt_map (q : Nat → Ac) (len i : Nat) (h : i < len) : acAt ((List.range len).map q) i = q i := by simp [acAt, List.getD, h]
/-- Five cells that hold an ace. -/
structure Five (w : World) (b o : Nat) (x : Ac) : Prop where
  c0 : w.cell? ⟨b, o, none⟩ = some (.bool x.al)
  c1 : w.cell? ⟨b, o + 1, none⟩ = some (.int .i64 x.wh)
  c2 : w.cell? ⟨b, o + 2, none⟩ = some (.int .i64 x.id)
  c3 : w.cell? ⟨b, o + 3, none⟩ = some (.int .i64 x.fl)
  c4 : w.cell? ⟨b, o + 4, none⟩ = some (.int .i64 x.ma)
theorem Five.keep {w w' : World} {b o : Nat} {x : Ac} (h : Five w b o x) (hc : ∀ j, w'.cell? ⟨b, j, none⟩ = w.cell? ⟨b, j, none⟩) : Five w' b o x :=
  ⟨(hc _).trans h.c0, (hc _).trans h.c1, (hc _).trans h.c2, (hc _).trans h.c3, (hc _).trans h.c4⟩
theorem Five.below {w w' : World} {b o : Nat} {x : Ac} (h : Five w b o x) (hlt : b < w.heap.size) (hb : Below w.heap.size w w') : Five w' b o x :=
  h.keep (fun j => hb.cell (p := ⟨b, j, none⟩) hlt)
theorem Five.other {w : World} {b o b2 o2 : Nat} {x : Ac} {v : Value} (h : Five w b o x) (hne : b2 ≠ b) : Five (w.setCell ⟨b2, o2, none⟩ v) b o x :=
  h.keep (fun j => World.cell?_setCell_other _ _ _ _ (by intro h; have h2 := congrArg Addr.block h; simp only at h2; omega))
theorem five_new (w : World) (x : Ac) (t : TypeId) : Five (w.alloc (.cells #[.bool x.al, .int .i64 x.wh, .int .i64 x.id, .int .i64 x.fl, .int .i64 x.ma] t)) w.heap.size 0 x := by
  have hb : (w.alloc (.cells #[.bool x.al, .int .i64 x.wh, .int .i64 x.id, .int .i64 x.fl, .int .i64 x.ma] t)).heap[w.heap.size]? = some (.cells #[.bool x.al, .int .i64 x.wh, .int .i64 x.id, .int .i64 x.fl, .int .i64 x.ma] t) := by
    rw [World.alloc]
    exact Array.getElem?_push_size
  refine ⟨?_, ?_, ?_, ?_, ?_⟩ <;> (simp only [World.cell?, hb]; rfl)
/-- What a world holds of a list of aces. -/
def Acs (a : Option Addr) (len : Nat) (l : List Ac) (w : World) : Prop :=
  l.length = len ∧ (0 < len → ∃ b off, a = some ⟨b, off, none⟩ ∧ b < w.heap.size ∧ ∀ i, i < len → Five w b (off + i * 5) (acAt l i))
theorem Acs.below {a : Option Addr} {len : Nat} {l : List Ac} {w w' : World} (h : Acs a len l w) (hb : Below w.heap.size w w') : Acs a len l w' := by
  refine ⟨h.1, fun hl => ?_⟩
  obtain ⟨b, off, ha, hlt, hc⟩ := h.2 hl
  exact ⟨b, off, ha, Nat.lt_of_lt_of_le hlt hb.size, fun i hi => (hc i hi).below hlt hb⟩
/-- Flags that may stand there. -/
def flB (f : Int) : Bool := inR 0 15 f && (decide (f < 4) || !decide (f % 4 = 0))
/-- AceRight. -/
def aceB (x : Ac) : Bool := inR 1 5 x.wh && (inR 0 9999 x.id && ((!decide (x.wh < 4) || decide (x.id = 0)) && (flB x.fl && inR 1 255 x.ma)))
def allA (l : List Ac) : Nat → Bool
  | 0 => true
  | k + 1 => allA l k && aceB (acAt l k)
/-- NfsRight. -/
def acesB (l : List Ac) : Bool := decide (l.length ≤ 32) && allA l l.length
theorem allA_false {l : List Ac} {k n : Nat} (h : k < n) (hk : aceB (acAt l k) = false) : allA l n = false := by
  induction n with
  | zero => omega
  | succ n ih =>
    by_cases e : k = n
    · subst e; simp [allA, hk]
    · simp [allA, ih (by omega)]
theorem allA_at {l : List Ac} {k n : Nat} (h : k < n) (hk : allA l n = true) : aceB (acAt l k) = true := by
  cases e : aceB (acAt l k)
  · rw [allA_false h e] at hk; cases hk
  · rfl
theorem aces_no {l : List Ac} {k : Nat} (h : k < l.length) (hk : aceB (acAt l k) = false) : acesB l = false := by simp [acesB, allA_false h hk]
theorem aces_long {l : List Ac} (h : 32 < l.length) : acesB l = false := by
  have : ¬ l.length ≤ 32 := by omega
  simp [acesB, this]
theorem aces_yes {l : List Ac} (h : l.length ≤ 32) (hr : allA l l.length = true) : acesB l = true := by simp [acesB, h, hr]
theorem aces_len {l : List Ac} (h : acesB l = true) : l.length ≤ 32 := by
  simp [acesB] at h
  exact h.1
theorem aces_at {l : List Ac} {k : Nat} (h : acesB l = true) (hk : k < l.length) : aceB (acAt l k) = true := by
  simp [acesB] at h
  exact allA_at hk h.2
theorem aces_mem {l : List Ac} (h : acesB l = true) {x : Ac} (hx : x ∈ l) : aceB x = true := by
  obtain ⟨k, hk, rfl⟩ := List.mem_iff_getElem.1 hx
  rw [← acAt_get hk]
  exact aces_at h hk
theorem allA_next {l : List Ac} {k : Nat} (h : allA l k = true) (hk : aceB (acAt l k) = true) : allA l (k + 1) = true := by simp [allA, h, hk]
theorem aceB_iff {x : Ac} : aceB x = true ↔ (1 ≤ x.wh ∧ x.wh ≤ 5) ∧ (0 ≤ x.id ∧ x.id ≤ 9999) ∧ (x.wh < 4 → x.id = 0) ∧ ((0 ≤ x.fl ∧ x.fl ≤ 15) ∧ (x.fl < 4 ∨ x.fl % 4 ≠ 0)) ∧ (1 ≤ x.ma ∧ x.ma ≤ 255) := by
  simp only [aceB, flB, Bool.and_eq_true, inR_iff, Bool.or_eq_true, Bool.not_eq_true', decide_eq_true_eq, decide_eq_false_iff_not]
  constructor
  · rintro ⟨h1, h2, h3, h4, h5⟩
    exact ⟨h1, h2, fun h => h3.resolve_left (fun h6 => h6 h), h4, h5⟩
  · rintro ⟨h1, h2, h3, h4, h5⟩
    exact ⟨h1, h2, (Decidable.em (x.wh < 4)).elim (fun h => Or.inr (h3 h)) Or.inl, h4, h5⟩
/-- A slice of aces, opened as a list. -/
theorem open_aces {H : Type} {enc : TypeId × Value → H} {P : Program} {w : World} {base : Nat} {spare : Nat → Bool} {held : Bool} {t e : TypeId} {f0 f1 f2 f3 f4 : Field} {fuel : Nat} {c : Value} {x : DataW H × List MemPlace}
    (ht : P.underlying t = some (.slice e)) (he : P.underlying e = some (.struct #[f0, f1, f2, f3, f4])) (ce : P.cellsOf e = 5) (o0 : f0.offset = 0) (o1 : f1.offset = 1) (o2 : f2.offset = 2) (o3 : f3.offset = 3) (o4 : f4.offset = 4)
    (c0 : P.cellsOf f0.type = 1) (c1 : P.cellsOf f1.type = 1) (c2 : P.cellsOf f2.type = 1) (c3 : P.cellsOf f3.type = 1) (c4 : P.cellsOf f4.type = 1)
    (i0 : P.underlying f0.type = some .bool) (i1 : P.underlying f1.type = some (.int .i64)) (i2 : P.underlying f2.type = some (.int .i64)) (i3 : P.underlying f3.type = some (.int .i64)) (i4 : P.underlying f4.type = some (.int .i64)) (h : DataW.trod enc P w base spare held fuel t [c] = some x) :
    ∃ (a : Option Addr) (len cap : Nat) (l : List Ac), c = .slice a len cap ∧ Acs a len l w ∧ len ≤ maxLen := by
  rcases open_slice ht h with ⟨hc, _⟩ | ⟨a, len, cap, m, n, D, Pl, hc, _, hl, hm, hmm, _, hx⟩
  · exact ⟨none, 0, 0, [], by simpa using hc, ⟨rfl, fun h => absurd h (by omega)⟩, by omega⟩
  · have hlm : len ≤ m := by rw [hmm]; split <;> omega
    have each : ∀ i, i < len → ∃ q : Ac, w.cell? (a.add (i * 5)) = some (.bool q.al) ∧ w.cell? (a.add (i * 5 + 1)) = some (.int .i64 q.wh) ∧ w.cell? (a.add (i * 5 + 2)) = some (.int .i64 q.id) ∧ w.cell? (a.add (i * 5 + 3)) = some (.int .i64 q.fl) ∧ w.cell? (a.add (i * 5 + 4)) = some (.int .i64 q.ma) := by
      intro i hi
      obtain ⟨cs', h1, h2⟩ := hx i (by omega)
      rw [ce] at h1
      obtain ⟨_, hlen, hcell⟩ := World.cells?_some h1
      obtain ⟨xs, k, hk, hxy, _, hxl, hf⟩ := DataW.trod_struct he h2
      match xs, hxl, cs', hlen with
      | [y0, y1, y2, y3, y4], _, [v0, v1, v2, v3, v4], _ =>
        have g0 := hf 0 f0 rfl
        have g1 := hf 1 f1 rfl
        have g2 := hf 2 f2 rfl
        have g3 := hf 3 f3 rfl
        have g4 := hf 4 f4 rfl
        simp [o0, o1, o2, o3, o4, c0, c1, c2, c3, c4] at g0 g1 g2 g3 g4
        have e0 := hcell 0 (by omega)
        have e1 := hcell 1 (by omega)
        have e2 := hcell 2 (by omega)
        have e3 := hcell 3 (by omega)
        have e4 := hcell 4 (by omega)
        rw [add_add] at e0 e1 e2 e3 e4
        obtain ⟨n0, r0, _⟩ := DataW.trod_bool i0 g0
        obtain ⟨n1, r1, _, _⟩ := DataW.trod_int i1 g1
        obtain ⟨n2, r2, _, _⟩ := DataW.trod_int i2 g2
        obtain ⟨n3, r3, _, _⟩ := DataW.trod_int i3 g3
        obtain ⟨n4, r4, _, _⟩ := DataW.trod_int i4 g4
        simp at r0 r1 r2 r3 r4
        subst r0 r1 r2 r3 r4
        exact ⟨⟨n0, n1, n2, n3, n4⟩, by simpa using e0, by simpa using e1, by simpa using e2, by simpa using e3, by simpa using e4⟩
    obtain ⟨q, hq⟩ := choose_lt each
    refine ⟨some a, len, cap, (List.range len).map q, by simpa using hc, ⟨by simp, fun h0 => ?_⟩, by omega⟩
    obtain ⟨b, off, spot⟩ := a
    have hs : spot = none := by
      have := (hq 0 h0).1
      simpa [Addr.add] using World.cell?_spot this
    subst hs
    have hadd : ∀ i, (⟨b, off, none⟩ : Addr).add i = ⟨b, off + i, none⟩ := by
      intro i
      by_cases e : i = 0
      · subst e; simp [Addr.add]
      · simp [Addr.add, e]
    refine ⟨b, off, rfl, ?_, fun i hi => ?_⟩
    · have := (hq 0 h0).1
      rw [hadd] at this
      exact block_lt_of_cell this
    · obtain ⟨g0, g1, g2, g3, g4⟩ := hq i hi
      rw [hadd] at g0 g1 g2 g3 g4
      rw [acAt_map q len i hi]
      exact ⟨g0, g1, g2, g3, g4⟩
/-- An ace, by value, opened. -/
theorem open_ace {H : Type} {enc : TypeId × Value → H} {P : Program} {w : World} {base : Nat} {spare : Nat → Bool} {held : Bool} {r : Reach} {b0 : Nat} {t : TypeId} {f0 f1 f2 f3 f4 : Field} {v : Value} {d : DataW H} {p : List MemPlace}
    (hs : P.underlying t = some (.struct #[f0, f1, f2, f3, f4])) (hone : oneCellFields P #[f0, f1, f2, f3, f4] = true) (hC : P.cellsOf t = 5)
    (i0 : P.underlying f0.type = some .bool) (i1 : P.underlying f1.type = some (.int .i64)) (i2 : P.underlying f2.type = some (.int .i64)) (i3 : P.underlying f3.type = some (.int .i64)) (i4 : P.underlying f4.type = some (.int .i64))
    (hv : Value.okWide P w r b0 t v) (h : DataW.Trod enc P w base spare held t v d p) :
    ∃ (x : Ac), v = .agg #[.bool x.al, .int .i64 x.wh, .int .i64 x.id, .int .i64 x.fl, .int .i64 x.ma] := by
  obtain ⟨cs, n, hv2, hsz, hy⟩ := open_aggN hs hone hC hv h
  have hsz5 : cs.length = 5 := hsz
  match cs, hsz5 with
  | [a0, a1, a2, a3, a4], _ =>
    obtain ⟨y0, t0⟩ := hy 0 f0 a0 rfl rfl
    obtain ⟨y1, t1⟩ := hy 1 f1 a1 rfl rfl
    obtain ⟨y2, t2⟩ := hy 2 f2 a2 rfl rfl
    obtain ⟨y3, t3⟩ := hy 3 f3 a3 rfl rfl
    obtain ⟨y4, t4⟩ := hy 4 f4 a4 rfl rfl
    obtain ⟨n0, e0, _⟩ := DataW.trod_bool i0 t0
    obtain ⟨n1, e1, _, _⟩ := DataW.trod_int i1 t1
    obtain ⟨n2, e2, _, _⟩ := DataW.trod_int i2 t2
    obtain ⟨n3, e3, _, _⟩ := DataW.trod_int i3 t3
    obtain ⟨n4, e4, _, _⟩ := DataW.trod_int i4 t4
    simp at e0 e1 e2 e3 e4
    exact ⟨⟨n0, n1, n2, n3, n4⟩, by rw [hv2, e0, e1, e2, e3, e4]⟩
end Go.Proofs.YtdidbaadladkpaaDoor
/- laws.toAce, toAceS, szAceS, eqAce, eqAceS: a copy of a list of aces, two lists held against each other. -/
namespace Go.Proofs.YtdidbaadladkpaaDoor
open Go.RowKit Go.PlainAid
set_option linter.unusedVariables false
theorem bl_setA {B b o : Nat} {W w1 : World} {x : Value} (hb : Below B W w1) (h : B ≤ b) : Below B W (w1.setCell ⟨b, o, none⟩ x) := hb.setCell h _
theorem bl2A (w : World) (o1 o2 : Obj) : Below w.heap.size w ((w.alloc o1).alloc o2) := ((Below.refl _ _).alloc (Nat.le_refl _) _).alloc (by simp) _
theorem bl3A (w : World) (o1 o2 o3 : Obj) : Below w.heap.size w (((w.alloc o1).alloc o2).alloc o3) := (((Below.refl _ _).alloc (Nat.le_refl _) _).alloc (by simp) _).alloc (by simp; omega) _
theorem below_drewA {B : Nat} {w w' : World} (h : Below B w w') : Below B w w'.drew := h.trans ⟨rfl, rfl, rfl, Nat.le_refl _, fun _ _ => rfl⟩
theorem below_drewZ {w w' : World} (h : Below w.drew.heap.size w.drew w') : Below w.heap.size w w' := ⟨h.os, h.tape, h.output, h.size, h.block⟩
/-- Five cells that may be written. -/
structure Free5 (w : World) (b o : Nat) : Prop where
  f0 : w.frozen? ⟨b, o, none⟩ = false
  f1 : w.frozen? ⟨b, o + 1, none⟩ = false
  f2 : w.frozen? ⟨b, o + 2, none⟩ = false
  f3 : w.frozen? ⟨b, o + 3, none⟩ = false
  f4 : w.frozen? ⟨b, o + 4, none⟩ = false
theorem Free5.keep {w w' : World} {b o : Nat} (h : Free5 w b o) (hc : ∀ j, w'.frozen? ⟨b, j, none⟩ = w.frozen? ⟨b, j, none⟩) : Free5 w' b o :=
  ⟨(hc _).trans h.f0, (hc _).trans h.f1, (hc _).trans h.f2, (hc _).trans h.f3, (hc _).trans h.f4⟩
/-- An ace is written into five cells. -/
abbrev set5 (w : World) (b o : Nat) (x : Ac) : World := ((((w.setCell ⟨b, o, none⟩ (.bool x.al)).setCell ⟨b, o + 1, none⟩ (.int .i64 x.wh)).setCell ⟨b, o + 2, none⟩ (.int .i64 x.id)).setCell ⟨b, o + 3, none⟩ (.int .i64 x.fl)).setCell ⟨b, o + 4, none⟩ (.int .i64 x.ma)
theorem cell_set5_off {w : World} {b o p : Nat} {x : Ac} (h : p < o ∨ o + 5 ≤ p) : (set5 w b o x).cell? ⟨b, p, none⟩ = w.cell? ⟨b, p, none⟩ := by
  unfold set5
  rw [World.cell?_setCell_other _ _ _ _ (by intro h; have h2 := congrArg Addr.off h; simp only at h2; omega), World.cell?_setCell_other _ _ _ _ (by intro h; have h2 := congrArg Addr.off h; simp only at h2; omega), World.cell?_setCell_other _ _ _ _ (by intro h; have h2 := congrArg Addr.off h; simp only at h2; omega), World.cell?_setCell_other _ _ _ _ (by intro h; have h2 := congrArg Addr.off h; simp only at h2; omega), World.cell?_setCell_other _ _ _ _ (by intro h; have h2 := congrArg Addr.off h; simp only at h2; omega)]
theorem cell_set5_out {w : World} {b o b2 p : Nat} {x : Ac} (hne : b2 ≠ b) : (set5 w b o x).cell? ⟨b2, p, none⟩ = w.cell? ⟨b2, p, none⟩ := by
  unfold set5
  rw [World.cell?_setCell_other _ _ _ _ (by intro h; have h2 := congrArg Addr.block h; simp only at h2; omega), World.cell?_setCell_other _ _ _ _ (by intro h; have h2 := congrArg Addr.block h; simp only at h2; omega), World.cell?_setCell_other _ _ _ _ (by intro h; have h2 := congrArg Addr.block h; simp only at h2; omega), World.cell?_setCell_other _ _ _ _ (by intro h; have h2 := congrArg Addr.block h; simp only at h2; omega), World.cell?_setCell_other _ _ _ _ (by intro h; have h2 := congrArg Addr.block h; simp only at h2; omega)]
theorem froz_set5 {w : World} {b o : Nat} {x : Ac} (p : Addr) : (set5 w b o x).frozen? p = w.frozen? p := by
  unfold set5
  rw [World.frozen?_setCell, World.frozen?_setCell, World.frozen?_setCell, World.frozen?_setCell, World.frozen?_setCell]
theorem five_set5 {w : World} {b o : Nat} {x y : Ac} (h : Five w b o y) : Five (set5 w b o x) b o x := by
  obtain ⟨c0, c1, c2, c3, c4⟩ := h
  refine ⟨?_, ?_, ?_, ?_, ?_⟩ <;> simp [set5, go_sem, c0, c1, c2, c3, c4]
/-- What a world holds of a row of aces that may be written. -/
def AHold (w : World) (B : Nat) (F : Nat → Ac) (n : Nat) : Prop := ∀ i, i < n → Five w B (i * 5) (F i) ∧ Free5 w B (i * 5)
theorem AHold.below {w w' : World} {B : Nat} {F : Nat → Ac} {n : Nat} (h : AHold w B F n) (hlt : B < w.heap.size) (hb : Below w.heap.size w w') : AHold w' B F n := fun i hi =>
  ⟨(h i hi).1.below hlt hb, (h i hi).2.keep (fun j => hb.frozen (p := ⟨B, j, none⟩) hlt)⟩
theorem AHold.set {w : World} {B : Nat} {F : Nat → Ac} {n : Nat} (h : AHold w B F n) (k : Nat) (hk : k < n) (x : Ac) : AHold (set5 w B (k * 5) x) B (fun i => if i = k then x else F i) n := by
  intro i hi
  have h1 := h i hi
  refine ⟨?_, h1.2.keep (fun j => froz_set5 _)⟩
  by_cases e : i = k
  · subst e
    simp only [if_pos]
    exact five_set5 h1.1
  · simp only [if_neg e]
    refine ⟨?_, ?_, ?_, ?_, ?_⟩
    · rw [cell_set5_off (by omega)]; exact h1.1.c0
    · rw [cell_set5_off (by omega)]; exact h1.1.c1
    · rw [cell_set5_off (by omega)]; exact h1.1.c2
    · rw [cell_set5_off (by omega)]; exact h1.1.c3
    · rw [cell_set5_off (by omega)]; exact h1.1.c4
/-- A list of aces in memory of its own, that may be written. -/
def OwnA (a : Option Addr) (len : Nat) (l : List Ac) (w : World) : Prop :=
  l.length = len ∧ (0 < len → ∃ B, a = some ⟨B, 0, none⟩ ∧ B < w.heap.size ∧ AHold w B (acAt l) len)
theorem OwnA.acs {a : Option Addr} {len : Nat} {l : List Ac} {w : World} (h : OwnA a len l w) : Acs a len l w := by
  refine ⟨h.1, fun h0 => ?_⟩
  obtain ⟨B, ha, hlt, hp⟩ := h.2 h0
  exact ⟨B, 0, ha, hlt, fun i hi => by simpa using (hp i hi).1⟩
theorem OwnA.below {a : Option Addr} {len : Nat} {l : List Ac} {w w' : World} (h : OwnA a len l w) (hb : Below w.heap.size w w') : OwnA a len l w' := by
  refine ⟨h.1, fun h0 => ?_⟩
  obtain ⟨B, ha, hlt, hp⟩ := h.2 h0
  exact ⟨B, ha, Nat.lt_of_lt_of_le hlt hb.size, hp.below hlt hb⟩
theorem ownA_nil (a : Option Addr) (w : World) : OwnA a 0 [] w := ⟨rfl, fun h => absurd h (by omega)⟩
theorem OwnA.set {a : Option Addr} {len : Nat} {l : List Ac} {w : World} {b o : Nat} {v : Value} (h : OwnA a len l w) (hne : ∀ A, a = some A → b ≠ A.block) : OwnA a len l (w.setCell ⟨b, o, none⟩ v) := by
  refine ⟨h.1, fun h0 => ?_⟩
  obtain ⟨B, ha, hlt, hp⟩ := h.2 h0
  refine ⟨B, ha, by simpa using hlt, fun i hi => ?_⟩
  have hn : b ≠ B := hne _ ha
  exact ⟨(hp i hi).1.other hn, (hp i hi).2.keep (fun j => World.frozen?_setCell _ _ _ _)⟩
theorem made_aces (w : World) (n : Nat) (t : TypeId) : AHold (w.alloc (.cells (madeCells #[.bool false, .int .i64 0, .int .i64 0, .int .i64 0, .int .i64 0] (n * 5)) t)) w.heap.size (fun _ => acZ) n := by
  have hb : (w.alloc (.cells (madeCells #[.bool false, .int .i64 0, .int .i64 0, .int .i64 0, .int .i64 0] (n * 5)) t)).heap[w.heap.size]? = some (.cells (madeCells #[.bool false, .int .i64 0, .int .i64 0, .int .i64 0, .int .i64 0] (n * 5)) t) := by
    rw [World.alloc]
    exact Array.getElem?_push_size
  intro i hi
  have m0 : i * 5 % 5 = 0 := by omega
  have m1 : (i * 5 + 1) % 5 = 1 := by omega
  have m2 : (i * 5 + 2) % 5 = 2 := by omega
  have m3 : (i * 5 + 3) % 5 = 3 := by omega
  have m4 : (i * 5 + 4) % 5 = 4 := by omega
  have l0 : i * 5 < n * 5 := by omega
  have l1 : i * 5 + 1 < n * 5 := by omega
  have l2 : i * 5 + 2 < n * 5 := by omega
  have l3 : i * 5 + 3 < n * 5 := by omega
  have l4 : i * 5 + 4 < n * 5 := by omega
  refine ⟨⟨?_, ?_, ?_, ?_, ?_⟩, ⟨?_, ?_, ?_, ?_, ?_⟩⟩
  · simp only [World.cell?, hb]; simp [madeCells, l0, m0, acZ]
  · simp only [World.cell?, hb]; simp [madeCells, l1, m1, acZ]
  · simp only [World.cell?, hb]; simp [madeCells, l2, m2, acZ]
  · simp only [World.cell?, hb]; simp [madeCells, l3, m3, acZ]
  · simp only [World.cell?, hb]; simp [madeCells, l4, m4, acZ]
  all_goals (simp only [World.frozen?, hb]; simp)
theorem run_make_aces {P : Program} (t e : TypeId) (ht : P.underlying t = some (.slice e)) (hinfo : (P.info? e).map (fun i => (i.zero, i.size, i.bytes)) = some (some (.agg #[.bool false, .int .i64 0, .int .i64 0, .int .i64 0, .int .i64 0]), 5, 40))
    (kl kc : IntKind) (n : Nat) (hbytes : 40 * n ≤ 281474976710656) (w : World) :
    (Instr.makeSlice t (.int kl (n : Int)) (.int kc (n : Int))).run P w = .ok (.slice (some ⟨w.heap.size, 0, none⟩) n n) (w.alloc (.cells (madeCells #[.bool false, .int .i64 0, .int .i64 0, .int .i64 0, .int .i64 0] (n * 5)) e)) := by
  obtain ⟨i, hi, hzz⟩ := Option.map_eq_some_iff.1 hinfo
  simp only [Prod.mk.injEq] at hzz
  obtain ⟨hz, hs, hb⟩ := hzz
  have hb' : (i.bytes : Int) * (n : Int) ≤ 281474976710656 := by
    have h : ((40 * n : Nat) : Int) ≤ 281474976710656 := by omega
    rw [hb]
    rwa [Int.natCast_mul] at h
  have hr := run_make (P := P) w t e i _ ht hi hz kl kc n n (by omega) (Int.le_refl _) hb' (by omega)
  simp only [Int.toNat_natCast, hs] at hr
  exact hr
theorem infoAce : (Tryd.prog.info? 33).map (fun i => (i.zero, i.size, i.bytes)) = some (some (.agg #[.bool false, .int .i64 0, .int .i64 0, .int .i64 0, .int .i64 0]), 5, 40) := by kernel_rfl
end Go.Proofs.YtdidbaadladkpaaDoor
/- spec.l04Bits of bits: some number; spec.l04More. -/
namespace Go.Proofs.YtdidbaadladkpaaDoor
open Go.RowKit Go.PlainAid Go.Deep
set_option linter.unusedVariables false
/-- What bits are in a mask. -/
def nb (b : Int) : Int := b / 4 + b / 2 % 2 * 10 + b % 2 * 4
set_option maxHeartbeats 2000000 in
theorem l04Bits_any (b : Int) (h0 : 0 ≤ b) (h1 : b ≤ 7) (w : World) :
    Calls Tryd.prog 48 #[.int .i64 b] w fun e w' => e = .returned (.int .i64 (nb b)) ∧ w' = w := by
  rcases (by omega : b = 0 ∨ b = 1 ∨ b = 2 ∨ b = 3 ∨ b = 4 ∨ b = 5 ∨ b = 6 ∨ b = 7) with rfl | rfl | rfl | rfl | rfl | rfl | rfl | rfl
  all_goals (
    go_enter Tryd.func48, Tryd.ntmps48
    go_wp2
    go_ret
    exact ⟨rfl, rfl⟩)
theorem l04Bits_some (b : Int) (h0 : 0 ≤ b) (h1 : b ≤ 7) (w : World) :
    Calls Tryd.prog 48 #[.int .i64 b] w fun e w' => (∃ z : Int, e = .returned (.int .i64 z)) ∧ w' = w :=
  (l04Bits_any b h0 h1 w).mono fun e w' ⟨h, h2⟩ => ⟨⟨_, h⟩, h2⟩
end Go.Proofs.YtdidbaadladkpaaDoor
