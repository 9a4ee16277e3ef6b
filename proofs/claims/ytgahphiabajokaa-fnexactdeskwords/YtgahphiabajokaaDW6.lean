/- Laid together: ButT, MkSt. -/
import Derived.Test.YtgahphiabajokaaDW4
import Derived.Test.YtgahphiabajokaaDW5
import Derived.Handy
/- A world that is as it was but for one block. -/
namespace Go.Proofs.Ytgahphiabajokaa
open Go.RowKit Go.PlainAid Go.Deep
set_option linter.unusedVariables false
theorem setS {B b o : Nat} {W w1 : World} {x : Value} (hb : Below B W w1) (h : B ≤ b) : Below B W (w1.setCell ⟨b, o, none⟩ x) := hb.setCell h _
/-- The world is as it was, but for the cells of one block, and new ones. -/
structure ButS (a : Option Addr) (w w' : World) : Prop where
  size : w.heap.size ≤ w'.heap.size
  below : ∀ c, c ≤ w.heap.size → (∀ A, a = some A → c ≤ A.block) → Below c w w'
  cell : ∀ b o, b < w.heap.size → (∀ A, a = some A → b ≠ A.block) → w'.cell? ⟨b, o, none⟩ = w.cell? ⟨b, o, none⟩ ∧ w'.frozen? ⟨b, o, none⟩ = w.frozen? ⟨b, o, none⟩
theorem ButS.refl (a : Option Addr) (w : World) : ButS a w w := ⟨Nat.le_refl _, fun _ _ _ => Below.refl _ _, fun _ _ _ _ => ⟨rfl, rfl⟩⟩
theorem ButS.set {B o : Nat} {w w' : World} {v : Value} (h : ButS (some ⟨B, 0, none⟩) w w') : ButS (some ⟨B, 0, none⟩) w (w'.setCell ⟨B, o, none⟩ v) := by
  refine ⟨by simpa using h.size, fun c hc1 hc => setS (h.below c hc1 hc) (hc _ rfl), fun b o2 hb1 hb => ?_⟩
  have h1 := h.cell b o2 hb1 hb
  rw [World.frozen?_setCell, ← h1.1]
  exact ⟨World.cell?_setCell_other _ _ _ _ (by intro h; have h2 := congrArg Addr.block h; exact hb _ rfl (by simpa using h2.symm)), h1.2⟩
theorem ButS.on {a : Option Addr} {w w1 w2 : World} (h : ButS a w w1) (hb : Below w1.heap.size w1 w2) : ButS a w w2 := by
  refine ⟨Nat.le_trans h.size hb.size, fun c h1 h2 => (h.below c h1 h2).trans (hb.mono (Nat.le_trans h1 h.size)), fun b o h1 h2 => ?_⟩
  have h3 := h.cell b o h1 h2
  have hlt := Nat.lt_of_lt_of_le h1 h.size
  exact ⟨(hb.cell (p := ⟨b, o, none⟩) hlt).trans h3.1, (hb.frozen (p := ⟨b, o, none⟩) hlt).trans h3.2⟩
theorem ButS.trans {a : Option Addr} {w w1 w2 : World} (h : ButS a w w1) (h2 : ButS a w1 w2) : ButS a w w2 := by
  refine ⟨Nat.le_trans h.size h2.size, fun c hc hA => (h.below c hc hA).trans (h2.below c (Nat.le_trans hc h.size) hA), fun b o hb hA => ?_⟩
  have h3 := h.cell b o hb hA
  have h4 := h2.cell b o (Nat.lt_of_lt_of_le hb h.size) hA
  exact ⟨h4.1.trans h3.1, h4.2.trans h3.2⟩
theorem ButS.of {a : Option Addr} {w w1 : World} (h : Below w.heap.size w w1) : ButS a w w1 := (ButS.refl a w).on h
end Go.Proofs.Ytgahphiabajokaa
/- Rows of texts that may be written: laws.markStringS, heldStringS, eqStringS. -/
namespace Go.Proofs.Ytgahphiabajokaa
open Go.RowKit Go.PlainAid Go.Deep
set_option linter.unusedVariables false
def SHolds (w : World) (B : Nat) (f : Nat → ByteArray) (n : Nat) : Prop := (∀ i, i < n → w.cell? ⟨B, i, none⟩ = some (.string (f i))) ∧ ∀ i, i < n → w.frozen? ⟨B, i, none⟩ = false
theorem SHolds.set {w : World} {B : Nat} {f : Nat → ByteArray} {n : Nat} (h : SHolds w B f n) (i : Nat) (hi : i < n) (v : ByteArray) : SHolds (w.setCell ⟨B, i, none⟩ (.string v)) B (fun k => if k = i then v else f k) n := by
  constructor
  · intro k hk
    by_cases e : k = i
    · subst e
      simp only [if_pos]
      have := h.1 k hk
      simp [go_sem, this]
    · simp only [if_neg e]
      rw [← h.1 k hk]
      exact World.cell?_setCell_other _ _ _ _ (by intro h; cases h; exact e rfl)
  · intro k hk
    rw [World.frozen?_setCell]
    exact h.2 k hk
/-- A row of texts that may be written. -/
def OwnS (a : Option Addr) (len : Nat) (f : Nat → ByteArray) (w : World) : Prop := 0 < len → ∃ B, a = some ⟨B, 0, none⟩ ∧ B < w.heap.size ∧ SHolds w B f len
theorem SHolds.below {w w' : World} {B : Nat} {f : Nat → ByteArray} {n : Nat} (h : SHolds w B f n) (hlt : B < w.heap.size) (hb : Below w.heap.size w w') : SHolds w' B f n := ⟨fun i hi2 => (hb.cell (p := ⟨B, i, none⟩) hlt).trans (h.1 i hi2), fun i hi2 => (hb.frozen (p := ⟨B, i, none⟩) hlt).trans (h.2 i hi2)⟩
theorem OwnS.below {a : Option Addr} {len : Nat} {f : Nat → ByteArray} {w w' : World} (h : OwnS a len f w) (hb : Below w.heap.size w w') : OwnS a len f w' := by
  intro h0
  obtain ⟨B, ha, hlt, hi⟩ := h h0
  exact ⟨B, ha, Nat.lt_of_lt_of_le hlt hb.size, hi.below hlt hb⟩
def mkF (k : Nat) : Nat → ByteArray := fun i => mkT (k + i)
set_option maxHeartbeats 4000000 in
theorem markStr_any (a : Option Addr) (len cap k : Nat) (F0 : Nat → ByteArray) (h0 : 0 < k) (h1 : k ≤ 1000000) (hl : len ≤ 1048576) (w : World) (hp : OwnS a len F0 w) :
    Calls Try.prog 19 #[.slice a len cap, .int .i64 k] w fun e w' => e = .returned (.int .i64 ((k : Int) + len)) ∧ OwnS a len (mkF k) w' ∧ ButS a w w' := by
  by_cases hz : len = 0
  · subst hz
    go_enter Try.func19, Try.ntmps19
    go_wp2
    go_rounds 1
    go_ret
    exact ⟨by simp, fun h => absurd h (by omega), ButS.refl _ _⟩
  obtain ⟨B, rfl, hB0, hp⟩ := hp (by omega)
  have HP : Hid (SHolds w B F0 len) := hp
  clear hp
  go_enter Try.func19, Try.ntmps19
  go_wp2
  go_loopw [5, 1] (fun i q wr => ∃ (j : Nat) (F : Nat → ByteArray), j ≤ len ∧ i = .int .i64 j ∧ q = .int .i64 ((k : Int) + j) ∧ Hid (SHolds wr B F len) ∧ Hid (∀ t, t < j → F t = mkF k t) ∧ Hid (ButS (some ⟨B, 0, none⟩) w wr)) (fun i _ _ => len - (intOf i).toNat)
  case atStart => exact ⟨0, F0, Nat.zero_le _, rfl, by simp, HP, fun t ht => absurd ht (by omega), ButS.refl _ _⟩
  case round =>
    obtain ⟨j, F, hj, rfl, rfl, hH, hg, hB⟩ := hrel
    by_cases hlt : j < len
    · have hlt' : (j : Int) < (len : Int) := by omega
      have h0' : (0 : Int) ≤ (j : Int) := by omega
      have hBr : Hid (B < wr.heap.size) := Nat.lt_of_lt_of_le hB0 hB.out.size
      have HM : Hid (∀ w, Calls Try.prog 31 #[.int .i64 ((k : Int) + j)] w fun e w' => e = .returned (.string (mkT (k + j))) ∧ Below w.heap.size w w') := (fun w => by
        have h := markText_any (k + j) (by omega) (by omega) w
        have e : ((k + j : Nat) : Int) = (k : Int) + j := by omega
        rw [e] at h
        exact h)
      go_wp2_with fail
      refine (HM.out _).mono ?_
      rintro e w1 ⟨rfl, hb1⟩
      have hH1 : Hid (SHolds w1 B F len) := hH.out.below hBr.out hb1
      have g2 := hH1.out.1 j hlt
      have g3 := hH1.out.2 j hlt
      have hH2 : Hid (SHolds (w1.setCell ⟨B, j, none⟩ (.string (mkT (k + j)))) B (fun i => if i = j then mkT (k + j) else F i) len) := hH1.out.set j hlt _
      have hg2 : Hid (∀ t, t < j + 1 → (fun i => if i = j then mkT (k + j) else F i) t = mkF k t) := (fun t ht => by
        show (if t = j then mkT (k + j) else F t) = mkF k t
        by_cases e : t = j
        · rw [if_pos e, e]; rfl
        · rw [if_neg e]; exact hg.out t (by omega))
      have hB2 : Hid (ButS (some ⟨B, 0, none⟩) w (w1.setCell ⟨B, j, none⟩ (.string (mkT (k + j))))) := (hB.out.on hb1).set
      clear hH hg hB hb1 hH1 HM
      generalize mkT (k + j) = mt at hH2 hg2 hB2 ⊢
      go_wp2
      go_roundw
      case rel => exact ⟨j + 1, _, by omega, by go_num, by go_num, hH2, hg2, hB2⟩
      case measure => simp [intOf]; omega
    · have : j = len := by omega
      subst this
      go_wp2
      go_ret
      refine ⟨rfl, fun _ => ⟨B, rfl, Nat.lt_of_lt_of_le hB0 hB.out.size, ⟨fun i hi => ?_, hH.out.2⟩⟩, hB.out⟩
      have h1 := hH.out.1 i hi
      rw [hg.out i hi] at h1
      exact h1
end Go.Proofs.Ytgahphiabajokaa
