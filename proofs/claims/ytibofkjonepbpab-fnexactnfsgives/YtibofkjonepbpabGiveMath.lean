/- What the aces give, in sums. -/
import Derived.Test.YtibofkjonepbpabTake
import Derived.Test.YtibofkjonepbpabGiveDef
namespace Go.Proofs.Ytibofkjonepbpab
open Go.RowKit Go.PlainAid
set_option linter.unusedVariables false
/-- One more ace, in sums. -/
theorem giveS_sum {x : Ac} {g s : Nat} (m0 : 0 ≤ x.ma) (m1 : x.ma ≤ 255) (hg : g ≤ 255) (hs : s ≤ 255) (hgs : s ||| g = s) :
    giveS ((g : Int), (s : Int)) x = (takeP x.al g (x.ma - andI x.ma s), (s : Int) + (x.ma - andI x.ma s)) ∧ ∃ g' s' : Nat, giveS ((g : Int), (s : Int)) x = ((g' : Int), (s' : Int)) ∧ g' ≤ 255 ∧ s' ≤ 255 ∧ s' ||| g' = s' := by
  obtain ⟨m, hm⟩ := Int.eq_ofNat_of_zero_le m0
  have hm' : m ≤ 255 := by omega
  have hx : giveS ((g : Int), (s : Int)) x = (if x.al then (((g ||| rmN m s : Nat)) : Int) else (g : Int), ((s ||| m : Nat) : Int)) := by
    have hrl := rm_le m s
    have e1 : bits .andNot .i64 x.ma (s : Int) = ((rmN m s : Nat) : Int) := by rw [hm]; exact andNot_nat m s (by omega) (by omega)
    have e2 : bits .or .i64 (g : Int) ((rmN m s : Nat) : Int) = ((g ||| rmN m s : Nat) : Int) := by
      rw [or_bits (by omega) (by omega) (by omega) (by omega)]; simp [orI]
    have e3 : bits .or .i64 (s : Int) x.ma = ((s ||| m : Nat) : Int) := by
      rw [hm, or_bits (by omega) (by omega) (by omega) (by omega)]; simp [orI]
    show (if x.al then bits .or .i64 (g : Int) (bits .andNot .i64 x.ma (s : Int)) else (g : Int), bits .or .i64 (s : Int) x.ma) = _
    rw [e1, e2, e3]
  have hd : x.ma - andI x.ma s = ((rmN m s : Nat) : Int) := by
    have h1 : andI x.ma (s : Int) = ((m &&& s : Nat) : Int) := by rw [hm]; simp [andI]
    have h2 : m &&& s ≤ m := Nat.and_le_left
    have h3 := rm_sub (m := m) (s := s) (by omega)
    rw [h1, hm]
    omega
  have o1 : s ||| m = s + rmN m s := or_rm s m (by omega) (by omega)
  have o2 : g ||| rmN m s = g + rmN m s := by
    have hrl := rm_le m s
    rw [or_rm g (rmN m s) (by omega) (by omega), rm_rm, hgs]
  constructor
  · rw [hx, hd, o1, o2, takeP]
    cases x.al <;> simp
  · have hle : s ||| m ≤ 255 := or_le hs hm'
    have hr2 : rmN m s ≤ 255 := Nat.le_trans (rm_le m s) hm'
    have hsub : (s ||| m) ||| g = s ||| m := by rw [Nat.or_assoc, Nat.or_comm m g, ← Nat.or_assoc, hgs]
    have hsub2 : (s ||| m) ||| (g ||| rmN m s) = s ||| m := by
      apply Nat.eq_of_testBit_eq
      intro i
      have h := congrArg (fun n => Nat.testBit n i) hgs
      simp only [Nat.testBit_or, rm_bit] at h ⊢
      revert h
      cases Nat.testBit s i <;> cases Nat.testBit m i <;> cases Nat.testBit g i <;> simp
    rw [hx]
    cases x.al
    · exact ⟨g, s ||| m, rfl, hg, hle, hsub⟩
    · exact ⟨g ||| rmN m s, s ||| m, rfl, or_le hg hr2, hle, hsub2⟩
/-- What is given and said of so many aces are two numbers. -/
theorem giveI_nat {l : List Ac} (hm : ∀ i, i < l.length → 0 ≤ (acAt l i).ma ∧ (acAt l i).ma ≤ 255) (p : Ac → Bool) : ∀ k, k ≤ l.length → ∃ g s : Nat, giveI (fltP p l k) = ((g : Int), (s : Int)) ∧ g ≤ 255 ∧ s ≤ 255 ∧ s ||| g = s := by
  intro k
  induction k with
  | zero => intro _; exact ⟨0, 0, rfl, by omega, by omega, rfl⟩
  | succ k ih =>
    intro hk
    obtain ⟨g, s, he, hg, hs, hgs⟩ := ih (by omega)
    cases hb : (hldB (acAt l k) && p (acAt l k))
    · rw [fltP_no hb]
      exact ⟨g, s, he, hg, hs, hgs⟩
    · rw [fltP_yes hb, giveI_snoc, he]
      exact (giveS_sum (hm k (by omega)).1 (hm k (by omega)).2 hg hs hgs).2
/-- The next ace. -/
theorem giveI_next {l : List Ac} (hm : ∀ i, i < l.length → 0 ≤ (acAt l i).ma ∧ (acAt l i).ma ≤ 255) (p : Ac → Bool) {k : Nat} (hk : k < l.length) (hb : (hldB (acAt l k) && p (acAt l k)) = true) :
    giveI (fltP p l (k + 1)) = (takeP (acAt l k).al (giveI (fltP p l k)).1 ((acAt l k).ma - andI (acAt l k).ma (giveI (fltP p l k)).2), (giveI (fltP p l k)).2 + ((acAt l k).ma - andI (acAt l k).ma (giveI (fltP p l k)).2)) := by
  obtain ⟨g, s, he, hg, hs, hgs⟩ := giveI_nat hm p k (by omega)
  rw [fltP_yes hb, giveI_snoc, he]
  exact (giveS_sum (hm k hk).1 (hm k hk).2 hg hs hgs).1
end Go.Proofs.Ytibofkjonepbpab
