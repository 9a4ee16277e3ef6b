/- Laid together: AceTo, NfsBits4. -/
import Derived.Test.YtgojbilbkfilgaaNb5
import Derived.Deep.OwnRows
import Derived.Deep.QuietTactic
import Derived.BigQuiet
import Derived.Handy
import Derived.Lib.QuietBelow
import Derived.Test.YtgojbilbkfilgaaNb4
/- laws.toAce, toAceS, szAceS, eqAce, eqAceS: a copy of a list of aces, two lists held against each other. -/
namespace Go.Proofs.Ytgojbilbkfilgaa
open Go.RowKit Go.PlainAid
set_option linter.unusedVariables false
theorem bl_setA {B b o : Nat} {W w1 : World} {x : Value} (hb : Below B W w1) (h : B ≤ b) : Below B W (w1.setCell ⟨b, o, none⟩ x) := hb.setCell h _
theorem bl2A (w : World) (o1 o2 : Obj) : Below w.heap.size w ((w.alloc o1).alloc o2) := ((Below.refl _ _).alloc (Nat.le_refl _) _).alloc (by simp) _
theorem bl3A (w : World) (o1 o2 o3 : Obj) : Below w.heap.size w (((w.alloc o1).alloc o2).alloc o3) := (((Below.refl _ _).alloc (Nat.le_refl _) _).alloc (by simp) _).alloc (by simp; omega) _
theorem below_drewA {B : Nat} {w w' : World} (h : Below B w w') : Below B w w'.drew := h.trans ⟨rfl, rfl, rfl, Nat.le_refl _, fun _ _ => rfl⟩
theorem below_drewZ {w w' : World} (h : Below w.drew.heap.size w.drew w') : Below w.heap.size w w' := ⟨h.os, h.tape, h.output, h.size, h.block⟩
/-- Five cells that may be written. -/
structure Free5 (w : World) (b o : Nat) : Prop where
  f0 : w.frozen? ⟨b, o, none⟩ = false
  f1 : w.frozen? ⟨b, o + 1, none⟩ = false
  f2 : w.frozen? ⟨b, o + 2, none⟩ = false
  f3 : w.frozen? ⟨b, o + 3, none⟩ = false
  f4 : w.frozen? ⟨b, o + 4, none⟩ = false
theorem Free5.keep {w w' : World} {b o : Nat} (h : Free5 w b o) (hc : ∀ j, w'.frozen? ⟨b, j, none⟩ = w.frozen? ⟨b, j, none⟩) : Free5 w' b o :=
  ⟨(hc _).trans h.f0, (hc _).trans h.f1, (hc _).trans h.f2, (hc _).trans h.f3, (hc _).trans h.f4⟩
/-- An ace is written into five cells. -/
abbrev set5 (w : World) (b o : Nat) (x : Ac) : World := ((((w.setCell ⟨b, o, none⟩ (.bool x.al)).setCell ⟨b, o + 1, none⟩ (.int .i64 x.wh)).setCell ⟨b, o + 2, none⟩ (.int .i64 x.id)).setCell ⟨b, o + 3, none⟩ (.int .i64 x.fl)).setCell ⟨b, o + 4, none⟩ (.int .i64 x.ma)
theorem cell_set5_off {w : World} {b o p : Nat} {x : Ac} (h : p < o ∨ o + 5 ≤ p) : (set5 w b o x).cell? ⟨b, p, none⟩ = w.cell? ⟨b, p, none⟩ := by
  unfold set5
  rw [World.cell?_setCell_other _ _ _ _ (by intro h; have h2 := congrArg Addr.off h; simp only at h2; omega), World.cell?_setCell_other _ _ _ _ (by intro h; have h2 := congrArg Addr.off h; simp only at h2; omega), World.cell?_setCell_other _ _ _ _ (by intro h; have h2 := congrArg Addr.off h; simp only at h2; omega), World.cell?_setCell_other _ _ _ _ (by intro h; have h2 := congrArg Addr.off h; simp only at h2; omega), World.cell?_setCell_other _ _ _ _ (by intro h; have h2 := congrArg Addr.off h; simp only at h2; omega)]
theorem cell_set5_out {w : World} {b o b2 p : Nat} {x : Ac} (hne : b2 ≠ b) : (set5 w b o x).cell? ⟨b2, p, none⟩ = w.cell? ⟨b2, p, none⟩ := by
  unfold set5
  rw [World.cell?_setCell_other _ _ _ _ (by intro h; have h2 := congrArg Addr.block h; simp only at h2; omega), World.cell?_setCell_other _ _ _ _ (by intro h; have h2 := congrArg Addr.block h; simp only at h2; omega), World.cell?_setCell_other _ _ _ _ (by intro h; have h2 := congrArg Addr.block h; simp only at h2; omega), World.cell?_setCell_other _ _ _ _ (by intro h; have h2 := congrArg Addr.block h; simp only at h2; omega), World.cell?_setCell_other _ _ _ _ (by intro h; have h2 := congrArg Addr.block h; simp only at h2; omega)]
theorem froz_set5 {w : World} {b o : Nat} {x : Ac} (p : Addr) : (set5 w b o x).frozen? p = w.frozen? p := by
  unfold set5
  rw [World.frozen?_setCell, World.frozen?_setCell, World.frozen?_setCell, World.frozen?_setCell, World.frozen?_setCell]
theorem five_set5 {w : World} {b o : Nat} {x y : Ac} (h : Five w b o y) : Five (set5 w b o x) b o x := by
  obtain ⟨c0, c1, c2, c3, c4⟩ := h
  refine ⟨?_, ?_, ?_, ?_, ?_⟩ <;> simp [set5, go_sem, c0, c1, c2, c3, c4]
/-- What a world holds of a row of aces that may be written. -/
def AHold (w : World) (B : Nat) (F : Nat → Ac) (n : Nat) : Prop := ∀ i, i < n → Five w B (i * 5) (F i) ∧ Free5 w B (i * 5)
theorem AHold.below {w w' : World} {B : Nat} {F : Nat → Ac} {n : Nat} (h : AHold w B F n) (hlt : B < w.heap.size) (hb : Below w.heap.size w w') : AHold w' B F n := fun i hi =>
  ⟨(h i hi).1.below hlt hb, (h i hi).2.keep (fun j => hb.frozen (p := ⟨B, j, none⟩) hlt)⟩
theorem AHold.set {w : World} {B : Nat} {F : Nat → Ac} {n : Nat} (h : AHold w B F n) (k : Nat) (hk : k < n) (x : Ac) : AHold (set5 w B (k * 5) x) B (fun i => if i = k then x else F i) n := by
  intro i hi
  have h1 := h i hi
  refine ⟨?_, h1.2.keep (fun j => froz_set5 _)⟩
  by_cases e : i = k
  · subst e
    simp only [if_pos]
    exact five_set5 h1.1
  · simp only [if_neg e]
    refine ⟨?_, ?_, ?_, ?_, ?_⟩
    · rw [cell_set5_off (by omega)]; exact h1.1.c0
    · rw [cell_set5_off (by omega)]; exact h1.1.c1
    · rw [cell_set5_off (by omega)]; exact h1.1.c2
    · rw [cell_set5_off (by omega)]; exact h1.1.c3
    · rw [cell_set5_off (by omega)]; exact h1.1.c4
/-- A list of aces in memory of its own, that may be written. -/
def OwnA (a : Option Addr) (len : Nat) (l : List Ac) (w : World) : Prop :=
  l.length = len ∧ (0 < len → ∃ B, a = some ⟨B, 0, none⟩ ∧ B < w.heap.size ∧ AHold w B (acAt l) len)
theorem OwnA.acs {a : Option Addr} {len : Nat} {l : List Ac} {w : World} (h : OwnA a len l w) : Acs a len l w := by
  refine ⟨h.1, fun h0 => ?_⟩
  obtain ⟨B, ha, hlt, hp⟩ := h.2 h0
  exact ⟨B, 0, ha, hlt, fun i hi => by simpa using (hp i hi).1⟩
theorem OwnA.below {a : Option Addr} {len : Nat} {l : List Ac} {w w' : World} (h : OwnA a len l w) (hb : Below w.heap.size w w') : OwnA a len l w' := by
  refine ⟨h.1, fun h0 => ?_⟩
  obtain ⟨B, ha, hlt, hp⟩ := h.2 h0
  exact ⟨B, ha, Nat.lt_of_lt_of_le hlt hb.size, hp.below hlt hb⟩
theorem ownA_nil (a : Option Addr) (w : World) : OwnA a 0 [] w := ⟨rfl, fun h => absurd h (by omega)⟩
theorem OwnA.set {a : Option Addr} {len : Nat} {l : List Ac} {w : World} {b o : Nat} {v : Value} (h : OwnA a len l w) (hne : ∀ A, a = some A → b ≠ A.block) : OwnA a len l (w.setCell ⟨b, o, none⟩ v) := by
  refine ⟨h.1, fun h0 => ?_⟩
  obtain ⟨B, ha, hlt, hp⟩ := h.2 h0
  refine ⟨B, ha, by simpa using hlt, fun i hi => ?_⟩
  have hn : b ≠ B := hne _ ha
  exact ⟨(hp i hi).1.other hn, (hp i hi).2.keep (fun j => World.frozen?_setCell _ _ _ _)⟩
theorem made_aces (w : World) (n : Nat) (t : TypeId) : AHold (w.alloc (.cells (madeCells #[.bool false, .int .i64 0, .int .i64 0, .int .i64 0, .int .i64 0] (n * 5)) t)) w.heap.size (fun _ => acZ) n := by
  have hb : (w.alloc (.cells (madeCells #[.bool false, .int .i64 0, .int .i64 0, .int .i64 0, .int .i64 0] (n * 5)) t)).heap[w.heap.size]? = some (.cells (madeCells #[.bool false, .int .i64 0, .int .i64 0, .int .i64 0, .int .i64 0] (n * 5)) t) := by
    rw [World.alloc]
    exact Array.getElem?_push_size
  intro i hi
  have m0 : i * 5 % 5 = 0 := by omega
  have m1 : (i * 5 + 1) % 5 = 1 := by omega
  have m2 : (i * 5 + 2) % 5 = 2 := by omega
  have m3 : (i * 5 + 3) % 5 = 3 := by omega
  have m4 : (i * 5 + 4) % 5 = 4 := by omega
  have l0 : i * 5 < n * 5 := by omega
  have l1 : i * 5 + 1 < n * 5 := by omega
  have l2 : i * 5 + 2 < n * 5 := by omega
  have l3 : i * 5 + 3 < n * 5 := by omega
  have l4 : i * 5 + 4 < n * 5 := by omega
  refine ⟨⟨?_, ?_, ?_, ?_, ?_⟩, ⟨?_, ?_, ?_, ?_, ?_⟩⟩
  · simp only [World.cell?, hb]; simp [madeCells, l0, m0, acZ]
  · simp only [World.cell?, hb]; simp [madeCells, l1, m1, acZ]
  · simp only [World.cell?, hb]; simp [madeCells, l2, m2, acZ]
  · simp only [World.cell?, hb]; simp [madeCells, l3, m3, acZ]
  · simp only [World.cell?, hb]; simp [madeCells, l4, m4, acZ]
  all_goals (simp only [World.frozen?, hb]; simp)
theorem run_make_aces {P : Program} (t e : TypeId) (ht : P.underlying t = some (.slice e)) (hinfo : (P.info? e).map (fun i => (i.zero, i.size, i.bytes)) = some (some (.agg #[.bool false, .int .i64 0, .int .i64 0, .int .i64 0, .int .i64 0]), 5, 40))
    (kl kc : IntKind) (n : Nat) (hbytes : 40 * n ≤ 281474976710656) (w : World) :
    (Instr.makeSlice t (.int kl (n : Int)) (.int kc (n : Int))).run P w = .ok (.slice (some ⟨w.heap.size, 0, none⟩) n n) (w.alloc (.cells (madeCells #[.bool false, .int .i64 0, .int .i64 0, .int .i64 0, .int .i64 0] (n * 5)) e)) := by
  obtain ⟨i, hi, hzz⟩ := Option.map_eq_some_iff.1 hinfo
  simp only [Prod.mk.injEq] at hzz
  obtain ⟨hz, hs, hb⟩ := hzz
  have hb' : (i.bytes : Int) * (n : Int) ≤ 281474976710656 := by
    have h : ((40 * n : Nat) : Int) ≤ 281474976710656 := by omega
    rw [hb]
    rwa [Int.natCast_mul] at h
  have hr := run_make (P := P) w t e i _ ht hi hz kl kc n n (by omega) (Int.le_refl _) hb' (by omega)
  simp only [Int.toNat_natCast, hs] at hr
  exact hr
theorem infoAce : (Try.prog.info? 61).map (fun i => (i.zero, i.size, i.bytes)) = some (some (.agg #[.bool false, .int .i64 0, .int .i64 0, .int .i64 0, .int .i64 0]), 5, 40) := by kernel_rfl
end Go.Proofs.Ytgojbilbkfilgaa
/- spec.l04Bits of bits: some number; spec.l04More. -/
namespace Go.Proofs.Ytgojbilbkfilgaa
open Go.RowKit Go.PlainAid Go.Deep
set_option linter.unusedVariables false
/-- What bits are in a mask. -/
def nb (b : Int) : Int := b / 4 + b / 2 % 2 * 10 + b % 2 * 4
set_option maxHeartbeats 2000000 in
theorem l04Bits_any (b : Int) (h0 : 0 ≤ b) (h1 : b ≤ 7) (w : World) :
    Calls Try.prog 137 #[.int .i64 b] w fun e w' => e = .returned (.int .i64 (nb b)) ∧ w' = w := by
  rcases (by omega : b = 0 ∨ b = 1 ∨ b = 2 ∨ b = 3 ∨ b = 4 ∨ b = 5 ∨ b = 6 ∨ b = 7) with rfl | rfl | rfl | rfl | rfl | rfl | rfl | rfl
  all_goals (
    go_enter Try.func137, Try.ntmps137
    go_wp2
    go_ret
    exact ⟨rfl, rfl⟩)
theorem l04Bits_some (b : Int) (h0 : 0 ≤ b) (h1 : b ≤ 7) (w : World) :
    Calls Try.prog 137 #[.int .i64 b] w fun e w' => (∃ z : Int, e = .returned (.int .i64 z)) ∧ w' = w :=
  (l04Bits_any b h0 h1 w).mono fun e w' ⟨h, h2⟩ => ⟨⟨_, h⟩, h2⟩
end Go.Proofs.Ytgojbilbkfilgaa
