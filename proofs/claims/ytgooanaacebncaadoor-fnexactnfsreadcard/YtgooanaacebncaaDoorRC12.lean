/- Laid together: AceMath, AceTo. -/
import Derived.Test.YtgooanaacebncaaDoorRC5
import Derived.Deep.QuietTactic
import Derived.BigQuiet
import Derived.Handy
/- A list of aces (a bool and four numbers each) that lies in a world; right aces and lists of them. Nothing here names a program. -/
namespace Go.Proofs.YtgooanaacebncaaDoor
open Go.RowKit Go.PlainAid Go.ChangeShapes Go.WideShapes Go.ChangeAt Go.Joins Go.Deep
set_option linter.unusedVariables false
/-- An ace. -/
structure Ac where
  al : Bool
  wh : Int
  id : Int
  fl : Int
  ma : Int
def acZ : Ac := ⟨false, 0, 0, 0, 0⟩
instance : Inhabited Ac := ⟨acZ⟩
def acAt (l : List Ac) (k : Nat) : Ac := l.getD k acZ
theorem acAt_get {l : List Ac} {k : Nat} (h : k < l.length) : acAt l k = l[k] := by simp [acAt, List.getD, h]
theorem acAt_map (q : Nat → Ac) (len i : Nat) (h : i < len) : acAt ((List.range len).map q) i = q i := by simp [acAt, List.getD, h]
/-- Five cells that hold an ace. -/
structure Five (w : World) (b o : Nat) (x : Ac) : Prop where
  c0 : w.cell? ⟨b, o, none⟩ = some (.bool x.al)
  c1 : w.cell? ⟨b, o + 1, none⟩ = some (.int .i64 x.wh)
  c2 : w.cell? ⟨b, o + 2, none⟩ = some (.int .i64 x.id)
  c3 : w.cell? ⟨b, o + 3, none⟩ = some (.int .i64 x.fl)
  c4 : w.cell? ⟨b, o + 4, none⟩ = some (.int .i64 x.ma)
theorem Five.keep {w w' : World} {b o : Nat} {x : Ac} (h : Five w b o x) (hc : ∀ j, w'.cell? ⟨b, j, none⟩ = w.cell? ⟨b, j, none⟩) : Five w' b o x :=
  ⟨(hc _).trans h.c0, (hc _).trans h.c1, (hc _).trans h.c2, (hc _).trans h.c3, (hc _).trans h.c4⟩
theorem Five.below {w w' : World} {b o : Nat} {x : Ac} (h : Five w b o x) (hlt : b < w.heap.size) (hb : Below w.heap.size w w') : Five w' b o x :=
  h.keep (fun j => hb.cell (p := ⟨b, j, none⟩) hlt)
theorem Five.other {w : World} {b o b2 o2 : Nat} {x : Ac} {v : Value} (h : Five w b o x) (hne : b2 ≠ b) : Five (w.setCell ⟨b2, o2, none⟩ v) b o x :=
  h.keep (fun j => World.cell?_setCell_other _ _ _ _ (by intro h; have h2 := congrArg Addr.block h; simp only at h2; omega))
theorem five_new (w : World) (x : Ac) (t : TypeId) : Five (w.alloc (.cells #[.bool x.al, .int .i64 x.wh, .int .i64 x.id, .int .i64 x.fl, .int .i64 x.ma] t)) w.heap.size 0 x := by
  have hb : (w.alloc (.cells #[.bool x.al, .int .i64 x.wh, .int .i64 x.id, .int .i64 x.fl, .int .i64 x.ma] t)).heap[w.heap.size]? = some (.cells #[.bool x.al, .int .i64 x.wh, .int .i64 x.id, .int .i64 x.fl, .int .i64 x.ma] t) := by
    rw [World.alloc]
    exact Array.getElem?_push_size
  refine ⟨?_, ?_, ?_, ?_, ?_⟩ <;> (simp only [World.cell?, hb]; rfl)
/-- What a world holds of a list of aces. -/
def Acs (a : Option Addr) (len : Nat) (l : List Ac) (w : World) : Prop :=
  l.length = len ∧ (0 < len → ∃ b off, a = some ⟨b, off, none⟩ ∧ b < w.heap.size ∧ ∀ i, i < len → Five w b (off + i * 5) (acAt l i))
theorem Acs.below {a : Option Addr} {len : Nat} {l : List Ac} {w w' : World} (h : Acs a len l w) (hb : Below w.heap.size w w') : Acs a len l w' := by
  refine ⟨h.1, fun hl => ?_⟩
  obtain ⟨b, off, ha, hlt, hc⟩ := h.2 hl
  exact ⟨b, off, ha, Nat.lt_of_lt_of_le hlt hb.size, fun i hi => (hc i hi).below hlt hb⟩
/-- Flags that may stand there. -/
def flB (f : Int) : Bool := inR 0 15 f && (decide (f < 4) || !decide (f % 4 = 0))
/-- AceRight. -/
def aceB (x : Ac) : Bool := inR 1 5 x.wh && (inR 0 9999 x.id && ((!decide (x.wh < 4) || decide (x.id = 0)) && (flB x.fl && inR 1 255 x.ma)))
def allA (l : List Ac) : Nat → Bool
  | 0 => true
  | k + 1 => allA l k && aceB (acAt l k)
/-- NfsRight. -/
def acesB (l : List Ac) : Bool := decide (l.length ≤ 32) && allA l l.length
theorem allA_false {l : List Ac} {k n : Nat} (h : k < n) (hk : aceB (acAt l k) = false) : allA l n = false := by
  induction n with
  | zero => omega
  | succ n ih =>
    by_cases e : k = n
    · subst e; simp [allA, hk]
    · simp [allA, ih (by omega)]
theorem allA_at {l : List Ac} {k n : Nat} (h : k < n) (hk : allA l n = true) : aceB (acAt l k) = true := by
  cases e : aceB (acAt l k)
  · rw [allA_false h e] at hk; cases hk
  · rfl
theorem aces_no {l : List Ac} {k : Nat} (h : k < l.length) (hk : aceB (acAt l k) = false) : acesB l = false := by simp [acesB, allA_false h hk]
theorem aces_long {l : List Ac} (h : 32 < l.length) : acesB l = false := by
  have : ¬ l.length ≤ 32 := by omega
  simp [acesB, this]
theorem aces_yes {l : List Ac} (h : l.length ≤ 32) (hr : allA l l.length = true) : acesB l = true := by simp [acesB, h, hr]
theorem aces_len {l : List Ac} (h : acesB l = true) : l.length ≤ 32 := by
  simp [acesB] at h
  exact h.1
theorem aces_at {l : List Ac} {k : Nat} (h : acesB l = true) (hk : k < l.length) : aceB (acAt l k) = true := by
  simp [acesB] at h
  exact allA_at hk h.2
theorem aces_mem {l : List Ac} (h : acesB l = true) {x : Ac} (hx : x ∈ l) : aceB x = true := by
  obtain ⟨k, hk, rfl⟩ := List.mem_iff_getElem.1 hx
  rw [← acAt_get hk]
  exact aces_at h hk
theorem allA_next {l : List Ac} {k : Nat} (h : allA l k = true) (hk : aceB (acAt l k) = true) : allA l (k + 1) = true := by simp [allA, h, hk]
theorem aceB_iff {x : Ac} : aceB x = true ↔ (1 ≤ x.wh ∧ x.wh ≤ 5) ∧ (0 ≤ x.id ∧ x.id ≤ 9999) ∧ (x.wh < 4 → x.id = 0) ∧ ((0 ≤ x.fl ∧ x.fl ≤ 15) ∧ (x.fl < 4 ∨ x.fl % 4 ≠ 0)) ∧ (1 ≤ x.ma ∧ x.ma ≤ 255) := by
  simp only [aceB, flB, Bool.and_eq_true, inR_iff, Bool.or_eq_true, Bool.not_eq_true', decide_eq_true_eq, decide_eq_false_iff_not]
  constructor
  · rintro ⟨h1, h2, h3, h4, h5⟩
    exact ⟨h1, h2, fun h => h3.resolve_left (fun h6 => h6 h), h4, h5⟩
  · rintro ⟨h1, h2, h3, h4, h5⟩
    exact ⟨h1, h2, (Decidable.em (x.wh < 4)).elim (fun h => Or.inr (h3 h)) Or.inl, h4, h5⟩
end Go.Proofs.YtgooanaacebncaaDoor
/- laws.toAce, toAceS, szAceS, eqAce, eqAceS: a copy of a list of aces, two lists held against each other. -/
namespace Go.Proofs.YtgooanaacebncaaDoor
open Go.RowKit Go.PlainAid
set_option linter.unusedVariables false
theorem bl_setA {B b o : Nat} {W w1 : World} {x : Value} (hb : Below B W w1) (h : B ≤ b) : Below B W (w1.setCell ⟨b, o, none⟩ x) := hb.setCell h _
theorem bl2A (w : World) (o1 o2 : Obj) : Below w.heap.size w ((w.alloc o1).alloc o2) := ((Below.refl _ _).alloc (Nat.le_refl _) _).alloc (by simp) _
/-- Five cells that may be written. -/
structure Free5 (w : World) (b o : Nat) : Prop where
  f0 : w.frozen? ⟨b, o, none⟩ = false
  f1 : w.frozen? ⟨b, o + 1, none⟩ = false
  f2 : w.frozen? ⟨b, o + 2, none⟩ = false
  f3 : w.frozen? ⟨b, o + 3, none⟩ = false
  f4 : w.frozen? ⟨b, o + 4, none⟩ = false
theorem Free5.keep {w w' : World} {b o : Nat} (h : Free5 w b o) (hc : ∀ j, w'.frozen? ⟨b, j, none⟩ = w.frozen? ⟨b, j, none⟩) : Free5 w' b o :=
  ⟨(hc _).trans h.f0, (hc _).trans h.f1, (hc _).trans h.f2, (hc _).trans h.f3, (hc _).trans h.f4⟩
/-- An ace is written into five cells. -/
abbrev set5 (w : World) (b o : Nat) (x : Ac) : World := ((((w.setCell ⟨b, o, none⟩ (.bool x.al)).setCell ⟨b, o + 1, none⟩ (.int .i64 x.wh)).setCell ⟨b, o + 2, none⟩ (.int .i64 x.id)).setCell ⟨b, o + 3, none⟩ (.int .i64 x.fl)).setCell ⟨b, o + 4, none⟩ (.int .i64 x.ma)
theorem cell_set5_off {w : World} {b o p : Nat} {x : Ac} (h : p < o ∨ o + 5 ≤ p) : (set5 w b o x).cell? ⟨b, p, none⟩ = w.cell? ⟨b, p, none⟩ := by
  unfold set5
  rw [World.cell?_setCell_other _ _ _ _ (by intro h; have h2 := congrArg Addr.off h; simp only at h2; omega), World.cell?_setCell_other _ _ _ _ (by intro h; have h2 := congrArg Addr.off h; simp only at h2; omega), World.cell?_setCell_other _ _ _ _ (by intro h; have h2 := congrArg Addr.off h; simp only at h2; omega), World.cell?_setCell_other _ _ _ _ (by intro h; have h2 := congrArg Addr.off h; simp only at h2; omega), World.cell?_setCell_other _ _ _ _ (by intro h; have h2 := congrArg Addr.off h; simp only at h2; omega)]
theorem froz_set5 {w : World} {b o : Nat} {x : Ac} (p : Addr) : (set5 w b o x).frozen? p = w.frozen? p := by
  unfold set5
  rw [World.frozen?_setCell, World.frozen?_setCell, World.frozen?_setCell, World.frozen?_setCell, World.frozen?_setCell]
theorem five_set5 {w : World} {b o : Nat} {x y : Ac} (h : Five w b o y) : Five (set5 w b o x) b o x := by
  obtain ⟨c0, c1, c2, c3, c4⟩ := h
  refine ⟨?_, ?_, ?_, ?_, ?_⟩ <;> simp [set5, go_sem, c0, c1, c2, c3, c4]
/-- What a world holds of a row of aces that may be written. -/
def AHold (w : World) (B : Nat) (F : Nat → Ac) (n : Nat) : Prop := ∀ i, i < n → Five w B (i * 5) (F i) ∧ Free5 w B (i * 5)
theorem AHold.below {w w' : World} {B : Nat} {F : Nat → Ac} {n : Nat} (h : AHold w B F n) (hlt : B < w.heap.size) (hb : Below w.heap.size w w') : AHold w' B F n := fun i hi =>
  ⟨(h i hi).1.below hlt hb, (h i hi).2.keep (fun j => hb.frozen (p := ⟨B, j, none⟩) hlt)⟩
theorem AHold.set {w : World} {B : Nat} {F : Nat → Ac} {n : Nat} (h : AHold w B F n) (k : Nat) (hk : k < n) (x : Ac) : AHold (set5 w B (k * 5) x) B (fun i => if i = k then x else F i) n := by
  intro i hi
  have h1 := h i hi
  refine ⟨?_, h1.2.keep (fun j => froz_set5 _)⟩
  by_cases e : i = k
  · subst e
    simp only [if_pos]
    exact five_set5 h1.1
  · simp only [if_neg e]
    refine ⟨?_, ?_, ?_, ?_, ?_⟩
    · rw [cell_set5_off (by omega)]; exact h1.1.c0
    · rw [cell_set5_off (by omega)]; exact h1.1.c1
    · rw [cell_set5_off (by omega)]; exact h1.1.c2
    · rw [cell_set5_off (by omega)]; exact h1.1.c3
    · rw [cell_set5_off (by omega)]; exact h1.1.c4
/-- A list of aces in memory of its own, that may be written. -/
def OwnA (a : Option Addr) (len : Nat) (l : List Ac) (w : World) : Prop :=
  l.length = len ∧ (0 < len → ∃ B, a = some ⟨B, 0, none⟩ ∧ B < w.heap.size ∧ AHold w B (acAt l) len)
theorem OwnA.acs {a : Option Addr} {len : Nat} {l : List Ac} {w : World} (h : OwnA a len l w) : Acs a len l w := by
  refine ⟨h.1, fun h0 => ?_⟩
  obtain ⟨B, ha, hlt, hp⟩ := h.2 h0
  exact ⟨B, 0, ha, hlt, fun i hi => by simpa using (hp i hi).1⟩
theorem OwnA.below {a : Option Addr} {len : Nat} {l : List Ac} {w w' : World} (h : OwnA a len l w) (hb : Below w.heap.size w w') : OwnA a len l w' := by
  refine ⟨h.1, fun h0 => ?_⟩
  obtain ⟨B, ha, hlt, hp⟩ := h.2 h0
  exact ⟨B, ha, Nat.lt_of_lt_of_le hlt hb.size, hp.below hlt hb⟩
theorem ownA_nil (a : Option Addr) (w : World) : OwnA a 0 [] w := ⟨rfl, fun h => absurd h (by omega)⟩
theorem OwnA.set {a : Option Addr} {len : Nat} {l : List Ac} {w : World} {b o : Nat} {v : Value} (h : OwnA a len l w) (hne : ∀ A, a = some A → b ≠ A.block) : OwnA a len l (w.setCell ⟨b, o, none⟩ v) := by
  refine ⟨h.1, fun h0 => ?_⟩
  obtain ⟨B, ha, hlt, hp⟩ := h.2 h0
  refine ⟨B, ha, by simpa using hlt, fun i hi => ?_⟩
  have hn : b ≠ B := hne _ ha
  exact ⟨(hp i hi).1.other hn, (hp i hi).2.keep (fun j => World.frozen?_setCell _ _ _ _)⟩
theorem infoAce : (Tryd.prog.info? 50).map (fun i => (i.zero, i.size, i.bytes)) = some (some (.agg #[.bool false, .int .i64 0, .int .i64 0, .int .i64 0, .int .i64 0]), 5, 40) := by kernel_rfl
theorem eqAce_same (x : Ac) (w : World) :
    Calls Tryd.prog 67 #[.agg #[.bool x.al, .int .i64 x.wh, .int .i64 x.id, .int .i64 x.fl, .int .i64 x.ma], .agg #[.bool x.al, .int .i64 x.wh, .int .i64 x.id, .int .i64 x.fl, .int .i64 x.ma]] w fun e w' => e = .returned (.bool true) ∧ Below w.heap.size w w' := by
  have hbb : (x.al != x.al) = false := by simp
  go_enter Tryd.func67, Tryd.ntmps67
  go_wp2
  go_ret
  exact ⟨rfl, bl2A _ _ _⟩
set_option maxHeartbeats 2000000 in
theorem eqAceS_none (a a2 : Option Addr) (cap cap2 : Nat) (w : World) :
    Calls Tryd.prog 71 #[.slice a 0 cap, .slice a2 0 cap2] w fun e w' => e = .returned (.bool true) ∧ Below w.heap.size w w' := by
  go_enter Tryd.func71, Tryd.ntmps71
  go_wp2
  go_rounds 1
  go_ret
  exact ⟨rfl, Below.refl _ _⟩
set_option maxHeartbeats 4000000 in
theorem eqAceS_some (b off b2 off2 len cap cap2 : Nat) (l : List Ac) (hl : len ≤ 1048576) (w : World) (hb : b < w.heap.size) (hb2 : b2 < w.heap.size)
    (hc : Hid (∀ i, i < len → Five w b (off + i * 5) (acAt l i))) (hc2 : Hid (∀ i, i < len → Five w b2 (off2 + i * 5) (acAt l i))) :
    Calls Tryd.prog 71 #[.slice (some ⟨b, off, none⟩) len cap, .slice (some ⟨b2, off2, none⟩) len cap2] w fun e w' => e = .returned (.bool true) ∧ Below w.heap.size w w' := by
  go_enter Tryd.func71, Tryd.ntmps71
  go_wp2
  go_loopw [5] (fun i wr => ∃ (k : Nat), k ≤ len ∧ i = .int .i64 k ∧ Hid (Below w.heap.size w wr)) (fun i _ => len - (intOf i).toNat)
  case atStart => exact ⟨0, Nat.zero_le _, rfl, Below.refl _ _⟩
  case round =>
    obtain ⟨k, hk, rfl, hB⟩ := hrel
    by_cases hlt : k < len
    · have F1 := (hc.out k hlt).keep (fun j => hB.out.cell (p := ⟨b, j, none⟩) hb)
      have F2 := (hc2.out k hlt).keep (fun j => hB.out.cell (p := ⟨b2, j, none⟩) hb2)
      generalize acAt l k = x at F1 F2
      have g0 : ∀ d os, (Go.Sort.grow (redrawn wr d) os).cell? ⟨b, off + k * 5, none⟩ = some (.bool x.al) := fun d os => cell_regrown F1.c0 d os
      have g1 : ∀ d os, (Go.Sort.grow (redrawn wr d) os).cell? ⟨b, off + k * 5 + 1, none⟩ = some (.int .i64 x.wh) := fun d os => cell_regrown F1.c1 d os
      have g2 : ∀ d os, (Go.Sort.grow (redrawn wr d) os).cell? ⟨b, off + k * 5 + 2, none⟩ = some (.int .i64 x.id) := fun d os => cell_regrown F1.c2 d os
      have g3 : ∀ d os, (Go.Sort.grow (redrawn wr d) os).cell? ⟨b, off + k * 5 + 3, none⟩ = some (.int .i64 x.fl) := fun d os => cell_regrown F1.c3 d os
      have g4 : ∀ d os, (Go.Sort.grow (redrawn wr d) os).cell? ⟨b, off + k * 5 + 4, none⟩ = some (.int .i64 x.ma) := fun d os => cell_regrown F1.c4 d os
      have k0 : ∀ d os, (Go.Sort.grow (redrawn wr d) os).cell? ⟨b2, off2 + k * 5, none⟩ = some (.bool x.al) := fun d os => cell_regrown F2.c0 d os
      have k1 : ∀ d os, (Go.Sort.grow (redrawn wr d) os).cell? ⟨b2, off2 + k * 5 + 1, none⟩ = some (.int .i64 x.wh) := fun d os => cell_regrown F2.c1 d os
      have k2 : ∀ d os, (Go.Sort.grow (redrawn wr d) os).cell? ⟨b2, off2 + k * 5 + 2, none⟩ = some (.int .i64 x.id) := fun d os => cell_regrown F2.c2 d os
      have k3 : ∀ d os, (Go.Sort.grow (redrawn wr d) os).cell? ⟨b2, off2 + k * 5 + 3, none⟩ = some (.int .i64 x.fl) := fun d os => cell_regrown F2.c3 d os
      have k4 : ∀ d os, (Go.Sort.grow (redrawn wr d) os).cell? ⟨b2, off2 + k * 5 + 4, none⟩ = some (.int .i64 x.ma) := fun d os => cell_regrown F2.c4 d os
      have cA : ∀ w d os, Calls Tryd.prog 67 #[.agg #[.bool x.al, .int .i64 x.wh, .int .i64 x.id, .int .i64 x.fl, .int .i64 x.ma], .agg #[.bool x.al, .int .i64 x.wh, .int .i64 x.id, .int .i64 x.fl, .int .i64 x.ma]] (Go.Sort.grow (redrawn w d) os) fun e w'' => e = .returned (.bool true) ∧ ∃ p : Regrown, w'' = Go.Sort.grow (redrawn w p.d) p.os := fun w d os => Calls.regrown_of (eqAce_same _ _)
      have hlt' : (k : Int) < (len : Int) := by omega
      clear F1 F2
      go_wp2
      refine wp_region_quiet_below (by kernel_rfl) (by kernel_rfl) ?_
      repeat (go_big_quiet_step (exact cA _ _ _))
      refine wpQuiet_nil ?_
      intro _ hw'
      obtain ⟨⟨dq, osq⟩, hw''⟩ := hw'
      subst hw''
      have hbq : Hid (Below w.heap.size w (Go.Sort.grow (redrawn wr dq) osq)) := hB.out.trans ((below_regrown wr dq osq).mono hB.out.size)
      generalize Go.Sort.grow (redrawn wr dq) osq = w1 at hbq ⊢
      clear g0 g1 g2 g3 g4 k0 k1 k2 k3 k4 cA
      go_wp2
      go_roundw
      case rel => exact ⟨k + 1, by omega, by go_num, hbq⟩
      case measure => simp [intOf]; omega
    · have : k = len := by omega
      subst this
      go_wp2
      go_ret
      exact ⟨rfl, hB.out⟩
/-- laws.eqAceS of two lists that hold the same. -/
theorem eqAceS_any (a a2 : Option Addr) (len cap cap2 : Nat) (l : List Ac) (hl : len ≤ 1048576) (w : World) (h1 : Acs a len l w) (h2 : Acs a2 len l w) :
    Calls Tryd.prog 71 #[.slice a len cap, .slice a2 len cap2] w fun e w' => e = .returned (.bool true) ∧ Below w.heap.size w w' := by
  by_cases h0 : len = 0
  · subst h0
    exact eqAceS_none a a2 cap cap2 w
  · obtain ⟨b, off, rfl, hb, hc⟩ := h1.2 (by omega)
    obtain ⟨b2, off2, rfl, hb2, hc2⟩ := h2.2 (by omega)
    exact eqAceS_some b off b2 off2 len cap cap2 l hl w hb hb2 hc hc2
end Go.Proofs.YtgooanaacebncaaDoor
