/- Laid together: RmMath, GiveDef, GiveMath. -/
import Derived.Test.YtdidbaadladkpaaDoorNf11
import Derived.Test.YtdidbaadladkpaaDoorNf28
/- A set without another one: plain mathematics. Nothing here names a program. -/
namespace Go.Proofs.YtdidbaadladkpaaDoor
open Go.RowKit
set_option linter.unusedVariables false
/-- m without what s has. -/
def rmN (m s : Nat) : Nat := m &&& (m ^^^ s)
theorem rm_bit (m s i : Nat) : Nat.testBit (rmN m s) i = (Nat.testBit m i && !Nat.testBit s i) := by
  unfold rmN
  simp only [Nat.testBit_and, Nat.testBit_xor]
  cases Nat.testBit m i <;> cases Nat.testBit s i <;> rfl
theorem rm_le (m s : Nat) : rmN m s ≤ m := Nat.and_le_left
theorem rm_rm (m a b : Nat) : rmN (rmN m a) b = rmN m (a ||| b) := by
  apply Nat.eq_of_testBit_eq
  intro i
  simp only [rm_bit, Nat.testBit_or]
  cases Nat.testBit m i <;> cases Nat.testBit a i <;> cases Nat.testBit b i <;> rfl
theorem rm_zero (m : Nat) : rmN m 0 = m := by
  apply Nat.eq_of_testBit_eq
  intro i
  simp [rm_bit]
theorem and_half (a b : Nat) : (a &&& b) / 2 = (a / 2) &&& (b / 2) := by
  apply Nat.eq_of_testBit_eq
  intro i
  simp [Nat.testBit_div_two]
theorem rm_half (a b : Nat) : rmN a b / 2 = rmN (a / 2) (b / 2) := by
  apply Nat.eq_of_testBit_eq
  intro i
  simp [Nat.testBit_div_two, rm_bit]
theorem rm_mod (a b : Nat) : rmN a b % 2 = (a % 2) * (1 - b % 2) := by
  have h := rm_bit a b 0
  simp only [Nat.testBit_zero] at h
  rcases Nat.mod_two_eq_zero_or_one (rmN a b) with e | e <;> rcases Nat.mod_two_eq_zero_or_one a with e1 | e1 <;> rcases Nat.mod_two_eq_zero_or_one b with e2 | e2 <;> simp [e, e1, e2] at h ⊢
theorem rm_add : ∀ (n m s : Nat), m < 2 ^ n → (m &&& s) + rmN m s = m := by
  intro n
  induction n with
  | zero =>
    intro m s h
    have : m = 0 := by simpa using h
    subst this
    have := rm_le 0 s
    have h2 : 0 &&& s = 0 := by simp
    omega
  | succ n ih =>
    intro m s h
    have h1 := ih (m / 2) (s / 2) (by rw [Nat.pow_succ] at h; omega)
    have h2 := and_half m s
    have h3 := rm_half m s
    have h4 := and_two m s
    have h5 := rm_mod m s
    rw [← h2, ← h3] at h1
    rcases Nat.mod_two_eq_zero_or_one m with e1 | e1 <;> rcases Nat.mod_two_eq_zero_or_one s with e2 | e2 <;> rw [e1, e2] at h4 h5 <;> omega
theorem rm_sub {m s : Nat} (hm : m ≤ 65535) : m - (m &&& s) = rmN m s := by
  have := rm_add 16 m s (by omega)
  omega
theorem or_le {a b : Nat} (ha : a ≤ 255) (hb : b ≤ 255) : a ||| b ≤ 255 := by
  have := Nat.or_lt_two_pow (x := a) (y := b) (n := 8) (by omega) (by omega)
  omega
/-- What is put to a set that has none of it. -/
theorem or_rm (s m : Nat) (hm : m ≤ 65535) (hs : s ≤ 65535) : s ||| m = s + rmN m s := by
  have h := rm_add 17 (s ||| m) s (by have := Nat.or_lt_two_pow (x := s) (y := m) (n := 16) (by omega) (by omega); omega)
  have e1 : (s ||| m) &&& s = s := by
    apply Nat.eq_of_testBit_eq
    intro i
    simp only [Nat.testBit_and, Nat.testBit_or]
    cases Nat.testBit s i <;> cases Nat.testBit m i <;> rfl
  have e2 : rmN (s ||| m) s = rmN m s := by
    apply Nat.eq_of_testBit_eq
    intro i
    simp only [rm_bit, Nat.testBit_or]
    cases Nat.testBit s i <;> cases Nat.testBit m i <;> rfl
  omega
theorem andNot_nat (m s : Nat) (hm : m ≤ 65535) (hs : s ≤ 65535) : bits .andNot .i64 (m : Int) (s : Int) = ((rmN m s : Nat) : Int) := by
  have hx : rmN m s ≤ m := rm_le m s
  show IntKind.i64.wrap ((BitVec.ofInt 64 (m : Int) &&& ~~~BitVec.ofInt 64 (s : Int)).toNat : Int) = _
  rw [BitVec.toNat_and, BitVec.toNat_not, ofInt_u64 m (by omega), ofInt_u64 s (by omega), IntKind.wrap_i64]
  have e : m &&& (2 ^ 64 - 1 - s) = rmN m s := by
    apply Nat.eq_of_testBit_eq
    intro i
    have e2 : 2 ^ 64 - 1 - s = 2 ^ 64 - (s + 1) := by omega
    rw [Nat.testBit_and, e2, Nat.testBit_two_pow_sub_succ (by omega), rm_bit]
    by_cases hi : i < 64
    · simp [hi]
    · have : Nat.testBit m i = false := Nat.testBit_lt_two_pow (Nat.lt_of_lt_of_le (show m < 2 ^ 64 by omega) (Nat.pow_le_pow_right (by omega) (by omega)))
      simp [this]
  rw [e]
  omega
end Go.Proofs.YtdidbaadladkpaaDoor
/- What aces give, one after another. -/
namespace Go.Proofs.YtdidbaadladkpaaDoor
open Go.RowKit Go.PlainAid Go.Shelf
set_option linter.unusedVariables false
attribute [local go_sem] Oper.semAt_some
/-- What one more ace makes of what is allowed and what is said. -/
def giveS (q : Int × Int) (x : Ac) : Int × Int := (if x.al then bits .or .i64 q.1 (bits .andNot .i64 x.ma q.2) else q.1, bits .or .i64 q.2 x.ma)
/-- What several give, and say. -/
def giveI (l : List Ac) : Int × Int := l.foldl giveS (0, 0)
theorem giveI_snoc (l : List Ac) (x : Ac) : giveI (l ++ [x]) = giveS (giveI l) x := by simp [giveI]
theorem giveI_al {l : List Ac} {x : Ac} (h : x.al = true) : (giveI (l ++ [x])).1 = bits .or .i64 (giveI l).1 (bits .andNot .i64 x.ma (giveI l).2) := by rw [giveI_snoc, giveS, h]; rfl
theorem giveI_no {l : List Ac} {x : Ac} (h : x.al = false) : (giveI (l ++ [x])).1 = (giveI l).1 := by rw [giveI_snoc, giveS, h]; rfl
theorem giveI_said (l : List Ac) (x : Ac) : (giveI (l ++ [x])).2 = bits .or .i64 (giveI l).2 x.ma := by rw [giveI_snoc]; rfl
theorem cell_newG (w : World) (v : Value) (t : TypeId) : (w.alloc (.cells #[v] t)).cell? ⟨w.heap.size, 0, none⟩ = some v ∧ (w.alloc (.cells #[v] t)).frozen? ⟨w.heap.size, 0, none⟩ = false := by
  have hb : (w.alloc (.cells #[v] t)).heap[w.heap.size]? = some (.cells #[v] t) := by
    rw [World.alloc]
    exact Array.getElem?_push_size
  constructor
  · simp only [World.cell?, hb]; rfl
  · simp only [World.frozen?, hb]; simp
theorem five_keptG {b o : Nat} {x : Ac} {W W' : World} {row : Option Nat} (h : Five W b o x) (hg : W.grownBy W' row) (hr : ∀ r, row = some r → ∃ o : Obj, W.heap[r]? = some o ∧ o.isCells = false) : Five W' b o x :=
  ⟨cell_kept h.c0 hg hr, cell_kept h.c1 hg hr, cell_kept h.c2 hg hr, cell_kept h.c3 hg hr, cell_kept h.c4 hg hr⟩
end Go.Proofs.YtdidbaadladkpaaDoor
/- What the aces give, in sums. -/
namespace Go.Proofs.YtdidbaadladkpaaDoor
open Go.RowKit Go.PlainAid
set_option linter.unusedVariables false
/-- One more ace, in sums. -/
theorem giveS_sum {x : Ac} {g s : Nat} (m0 : 0 ≤ x.ma) (m1 : x.ma ≤ 255) (hg : g ≤ 255) (hs : s ≤ 255) (hgs : s ||| g = s) :
    giveS ((g : Int), (s : Int)) x = (takeP x.al g (x.ma - andI x.ma s), (s : Int) + (x.ma - andI x.ma s)) ∧ ∃ g' s' : Nat, giveS ((g : Int), (s : Int)) x = ((g' : Int), (s' : Int)) ∧ g' ≤ 255 ∧ s' ≤ 255 ∧ s' ||| g' = s' := by
  obtain ⟨m, hm⟩ := Int.eq_ofNat_of_zero_le m0
  have hm' : m ≤ 255 := by omega
  have hx : giveS ((g : Int), (s : Int)) x = (if x.al then (((g ||| rmN m s : Nat)) : Int) else (g : Int), ((s ||| m : Nat) : Int)) := by
    have hrl := rm_le m s
    have e1 : bits .andNot .i64 x.ma (s : Int) = ((rmN m s : Nat) : Int) := by rw [hm]; exact andNot_nat m s (by omega) (by omega)
    have e2 : bits .or .i64 (g : Int) ((rmN m s : Nat) : Int) = ((g ||| rmN m s : Nat) : Int) := by
      rw [or_bits (by omega) (by omega) (by omega) (by omega)]; simp [orI]
    have e3 : bits .or .i64 (s : Int) x.ma = ((s ||| m : Nat) : Int) := by
      rw [hm, or_bits (by omega) (by omega) (by omega) (by omega)]; simp [orI]
    show (if x.al then bits .or .i64 (g : Int) (bits .andNot .i64 x.ma (s : Int)) else (g : Int), bits .or .i64 (s : Int) x.ma) = _
    rw [e1, e2, e3]
  have hd : x.ma - andI x.ma s = ((rmN m s : Nat) : Int) := by
    have h1 : andI x.ma (s : Int) = ((m &&& s : Nat) : Int) := by rw [hm]; simp [andI]
    have h2 : m &&& s ≤ m := Nat.and_le_left
    have h3 := rm_sub (m := m) (s := s) (by omega)
    rw [h1, hm]
    omega
  have o1 : s ||| m = s + rmN m s := or_rm s m (by omega) (by omega)
  have o2 : g ||| rmN m s = g + rmN m s := by
    have hrl := rm_le m s
    rw [or_rm g (rmN m s) (by omega) (by omega), rm_rm, hgs]
  constructor
  · rw [hx, hd, o1, o2, takeP]
    cases x.al <;> simp
  · have hle : s ||| m ≤ 255 := or_le hs hm'
    have hr2 : rmN m s ≤ 255 := Nat.le_trans (rm_le m s) hm'
    have hsub : (s ||| m) ||| g = s ||| m := by rw [Nat.or_assoc, Nat.or_comm m g, ← Nat.or_assoc, hgs]
    have hsub2 : (s ||| m) ||| (g ||| rmN m s) = s ||| m := by
      apply Nat.eq_of_testBit_eq
      intro i
      have h := congrArg (fun n => Nat.testBit n i) hgs
      simp only [Nat.testBit_or, rm_bit] at h ⊢
      revert h
      cases Nat.testBit s i <;> cases Nat.testBit m i <;> cases Nat.testBit g i <;> simp
    rw [hx]
    cases x.al
    · exact ⟨g, s ||| m, rfl, hg, hle, hsub⟩
    · exact ⟨g ||| rmN m s, s ||| m, rfl, or_le hg hr2, hle, hsub2⟩
/-- What is given and said of so many aces are two numbers. -/
theorem giveI_nat {l : List Ac} (hm : ∀ i, i < l.length → 0 ≤ (acAt l i).ma ∧ (acAt l i).ma ≤ 255) (p : Ac → Bool) : ∀ k, k ≤ l.length → ∃ g s : Nat, giveI (fltP p l k) = ((g : Int), (s : Int)) ∧ g ≤ 255 ∧ s ≤ 255 ∧ s ||| g = s := by
  intro k
  induction k with
  | zero => intro _; exact ⟨0, 0, rfl, by omega, by omega, rfl⟩
  | succ k ih =>
    intro hk
    obtain ⟨g, s, he, hg, hs, hgs⟩ := ih (by omega)
    cases hb : (hldB (acAt l k) && p (acAt l k))
    · rw [fltP_no hb]
      exact ⟨g, s, he, hg, hs, hgs⟩
    · rw [fltP_yes hb, giveI_snoc, he]
      exact (giveS_sum (hm k (by omega)).1 (hm k (by omega)).2 hg hs hgs).2
/-- The next ace. -/
theorem giveI_next {l : List Ac} (hm : ∀ i, i < l.length → 0 ≤ (acAt l i).ma ∧ (acAt l i).ma ≤ 255) (p : Ac → Bool) {k : Nat} (hk : k < l.length) (hb : (hldB (acAt l k) && p (acAt l k)) = true) :
    giveI (fltP p l (k + 1)) = (takeP (acAt l k).al (giveI (fltP p l k)).1 ((acAt l k).ma - andI (acAt l k).ma (giveI (fltP p l k)).2), (giveI (fltP p l k)).2 + ((acAt l k).ma - andI (acAt l k).ma (giveI (fltP p l k)).2)) := by
  obtain ⟨g, s, he, hg, hs, hgs⟩ := giveI_nat hm p k (by omega)
  rw [fltP_yes hb, giveI_snoc, he]
  exact (giveS_sum (hm k hk).1 (hm k hk).2 hg hs hgs).1
end Go.Proofs.YtdidbaadladkpaaDoor
