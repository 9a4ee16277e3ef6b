/- Laid together: GiveMath, TrimM. -/
import Derived.Test.YtgojbilbkfilgaaTr29
import Derived.Test.YtgojbilbkfilgaaTr38
import Derived.Test.YtgojbilbkfilgaaTr40
import Derived.Test.YtgojbilbkfilgaaTr44
import Derived.Test.YtgojbilbkfilgaaTr34
/- What the aces give, in sums. -/
namespace Go.Proofs.Ytgojbilbkfilgaa
open Go.RowKit Go.PlainAid
set_option linter.unusedVariables false
/-- One more ace, in sums. -/
theorem giveS_sum {x : Ac} {g s : Nat} (m0 : 0 ≤ x.ma) (m1 : x.ma ≤ 255) (hg : g ≤ 255) (hs : s ≤ 255) (hgs : s ||| g = s) :
    giveS ((g : Int), (s : Int)) x = (takeP x.al g (x.ma - andI x.ma s), (s : Int) + (x.ma - andI x.ma s)) ∧ ∃ g' s' : Nat, giveS ((g : Int), (s : Int)) x = ((g' : Int), (s' : Int)) ∧ g' ≤ 255 ∧ s' ≤ 255 ∧ s' ||| g' = s' := by
  obtain ⟨m, hm⟩ := Int.eq_ofNat_of_zero_le m0
  have hm' : m ≤ 255 := by omega
  have hx : giveS ((g : Int), (s : Int)) x = (if x.al then (((g ||| rmN m s : Nat)) : Int) else (g : Int), ((s ||| m : Nat) : Int)) := by
    have hrl := rm_le m s
    have e1 : bits .andNot .i64 x.ma (s : Int) = ((rmN m s : Nat) : Int) := by rw [hm]; exact andNot_nat m s (by omega) (by omega)
    have e2 : bits .or .i64 (g : Int) ((rmN m s : Nat) : Int) = ((g ||| rmN m s : Nat) : Int) := by
      rw [or_bits (by omega) (by omega) (by omega) (by omega)]; simp [orI]
    have e3 : bits .or .i64 (s : Int) x.ma = ((s ||| m : Nat) : Int) := by
      rw [hm, or_bits (by omega) (by omega) (by omega) (by omega)]; simp [orI]
    show (if x.al then bits .or .i64 (g : Int) (bits .andNot .i64 x.ma (s : Int)) else (g : Int), bits .or .i64 (s : Int) x.ma) = _
    rw [e1, e2, e3]
  have hd : x.ma - andI x.ma s = ((rmN m s : Nat) : Int) := by
    have h1 : andI x.ma (s : Int) = ((m &&& s : Nat) : Int) := by rw [hm]; simp [andI]
    have h2 : m &&& s ≤ m := Nat.and_le_left
    have h3 := rm_sub (m := m) (s := s) (by omega)
    rw [h1, hm]
    omega
  have o1 : s ||| m = s + rmN m s := or_rm s m (by omega) (by omega)
  have o2 : g ||| rmN m s = g + rmN m s := by
    have hrl := rm_le m s
    rw [or_rm g (rmN m s) (by omega) (by omega), rm_rm, hgs]
  constructor
  · rw [hx, hd, o1, o2, takeP]
    cases x.al <;> simp
  · have hle : s ||| m ≤ 255 := or_le hs hm'
    have hr2 : rmN m s ≤ 255 := Nat.le_trans (rm_le m s) hm'
    have hsub : (s ||| m) ||| g = s ||| m := by rw [Nat.or_assoc, Nat.or_comm m g, ← Nat.or_assoc, hgs]
    have hsub2 : (s ||| m) ||| (g ||| rmN m s) = s ||| m := by
      apply Nat.eq_of_testBit_eq
      intro i
      have h := congrArg (fun n => Nat.testBit n i) hgs
      simp only [Nat.testBit_or, rm_bit] at h ⊢
      revert h
      cases Nat.testBit s i <;> cases Nat.testBit m i <;> cases Nat.testBit g i <;> simp
    rw [hx]
    cases x.al
    · exact ⟨g, s ||| m, rfl, hg, hle, hsub⟩
    · exact ⟨g ||| rmN m s, s ||| m, rfl, or_le hg hr2, hle, hsub2⟩
/-- What is given and said of so many aces are two numbers. -/
theorem giveI_nat {l : List Ac} (hm : ∀ i, i < l.length → 0 ≤ (acAt l i).ma ∧ (acAt l i).ma ≤ 255) (p : Ac → Bool) : ∀ k, k ≤ l.length → ∃ g s : Nat, giveI (fltP p l k) = ((g : Int), (s : Int)) ∧ g ≤ 255 ∧ s ≤ 255 ∧ s ||| g = s := by
  intro k
  induction k with
  | zero => intro _; exact ⟨0, 0, rfl, by omega, by omega, rfl⟩
  | succ k ih =>
    intro hk
    obtain ⟨g, s, he, hg, hs, hgs⟩ := ih (by omega)
    cases hb : (hldB (acAt l k) && p (acAt l k))
    · rw [fltP_no hb]
      exact ⟨g, s, he, hg, hs, hgs⟩
    · rw [fltP_yes hb, giveI_snoc, he]
      exact (giveS_sum (hm k (by omega)).1 (hm k (by omega)).2 hg hs hgs).2
/-- The next ace. -/
theorem giveI_next {l : List Ac} (hm : ∀ i, i < l.length → 0 ≤ (acAt l i).ma ∧ (acAt l i).ma ≤ 255) (p : Ac → Bool) {k : Nat} (hk : k < l.length) (hb : (hldB (acAt l k) && p (acAt l k)) = true) :
    giveI (fltP p l (k + 1)) = (takeP (acAt l k).al (giveI (fltP p l k)).1 ((acAt l k).ma - andI (acAt l k).ma (giveI (fltP p l k)).2), (giveI (fltP p l k)).2 + ((acAt l k).ma - andI (acAt l k).ma (giveI (fltP p l k)).2)) := by
  obtain ⟨g, s, he, hg, hs, hgs⟩ := giveI_nat hm p k (by omega)
  rw [fltP_yes hb, giveI_snoc, he]
  exact (giveS_sum (hm k hk).1 (hm k hk).2 hg hs hgs).1
end Go.Proofs.Ytgojbilbkfilgaa
/- A list that is trimmed gives what it gave; trimmed once more it is the same. -/
namespace Go.Proofs.Ytgojbilbkfilgaa
open Go.RowKit Go.PlainAid Go.Deep
set_option linter.unusedVariables false
theorem acAt_left {a b : List Ac} {k : Nat} (h : k < a.length) : acAt (a ++ b) k = acAt a k := by
  rw [acAt_get h, acAt_get (by simp; omega), List.getElem_append_left h]
theorem acAt_mid {a : List Ac} {x : Ac} : acAt (a ++ [x]) a.length = x := by
  rw [acAt_get (by simp)]
  simp
theorem fltP_left (p : Ac → Bool) (a b : List Ac) : ∀ k, k ≤ a.length → fltP p (a ++ b) k = fltP p a k := by
  intro k
  induction k with
  | zero => intro _; rfl
  | succ k ih => intro hk; simp only [fltP, ih (by omega), acAt_left (show k < a.length by omega)]
theorem trimP_left (a b : List Ac) : ∀ k, k ≤ a.length → trimP (a ++ b) k = trimP a k := by
  intro k
  induction k with
  | zero => intro _; rfl
  | succ k ih =>
    intro hk
    have e : trimO (a ++ b) k = trimO a k := by unfold trimO trimM; rw [acAt_left (show k < a.length by omega), fltP_left _ _ _ _ (by omega)]
    simp only [trimP, ih (by omega), e]
/-- The masks of a right list. -/
def Msk (l : List Ac) : Prop := ∀ i, i < l.length → 1 ≤ (acAt l i).ma ∧ (acAt l i).ma ≤ 255
theorem msk_of {l : List Ac} (h : acesB l = true) : Msk l := fun i hi => (aceB_iff.1 (aces_at h hi)).2.2.2.2
theorem Msk.wide {l : List Ac} (h : Msk l) : ∀ i, i < l.length → 0 ≤ (acAt l i).ma ∧ (acAt l i).ma ≤ 255 := fun i hi => ⟨by have := (h i hi).1; omega, (h i hi).2⟩
theorem fl_zero {l : List Ac} (h : acesB l = true) {k : Nat} (hk : k < l.length) (h4 : (acAt l k).fl % 4 = 0) : (acAt l k).fl = 0 := by
  obtain ⟨⟨f0, f1⟩, f2⟩ := (aceB_iff.1 (aces_at h hk)).2.2.2.1
  omega
/-- One ace more, in plain numbers. -/
theorem giveS_nat {x : Ac} {g s : Nat} (m0 : 0 ≤ x.ma) (m1 : x.ma ≤ 255) (hg : g ≤ 255) (hs : s ≤ 255) :
    giveS ((g : Int), (s : Int)) x = (if x.al then (((g ||| rmN x.ma.toNat s : Nat)) : Int) else (g : Int), ((s ||| x.ma.toNat : Nat) : Int)) := by
  obtain ⟨m, hm⟩ := Int.eq_ofNat_of_zero_le m0
  have hrl := rm_le m s
  have e1 : bits .andNot .i64 x.ma (s : Int) = ((rmN m s : Nat) : Int) := by rw [hm]; exact andNot_nat m s (by omega) (by omega)
  have e2 : bits .or .i64 (g : Int) ((rmN m s : Nat) : Int) = ((g ||| rmN m s : Nat) : Int) := by
    rw [or_bits (by omega) (by omega) (by omega) (by omega)]; simp [orI]
  have e3 : bits .or .i64 (s : Int) x.ma = ((s ||| m : Nat) : Int) := by
    rw [hm, or_bits (by omega) (by omega) (by omega) (by omega)]; simp [orI]
  have e4 : x.ma.toNat = m := by omega
  show (if x.al then bits .or .i64 (g : Int) (bits .andNot .i64 x.ma (s : Int)) else (g : Int), bits .or .i64 (s : Int) x.ma) = _
  rw [e1, e2, e3, e4]
/-- Whoever is asked by x is asked by those like x. -/
theorem ask_like {owner group u g : Int} {cl : Nat} {f : Nat → Int} {x y : Ac} (hx : askB owner group u g cl f x = true) (hl : likeB x y = true) : askB owner group u g cl f y = true := by
  unfold likeB at hl
  simp only [Bool.or_eq_true, Bool.and_eq_true, decide_eq_true_eq] at hl
  rcases hl with h | ⟨h1, h2⟩
  · unfold askB
    rw [h]
    rfl
  · unfold askB at hx ⊢
    rw [h1, h2]
    exact hx
/-- What those like x said is said. -/
theorem like_said {owner group u g : Int} {cl : Nat} {f : Nat → Int} {l : List Ac} (hm : Msk l) {x : Ac} (hx : askB owner group u g cl f x = true) : ∀ k, k ≤ l.length → ∃ gv s : Nat, giveI (fltP (askB owner group u g cl f) l k) = ((gv : Int), (s : Int)) ∧ gv ≤ 255 ∧ s ≤ 255 ∧ saidN (fltP (likeB x) l k) ||| s = s := by
  intro k
  induction k with
  | zero => intro _; exact ⟨0, 0, rfl, by omega, by omega, by simp [fltP, saidN]⟩
  | succ k ih =>
    intro hk
    obtain ⟨gv, s, he, hg, hs, hss⟩ := ih (by omega)
    obtain ⟨m0, m1⟩ := hm.wide k (by omega)
    have hmn : (acAt l k).ma.toNat ≤ 255 := by omega
    cases hb : (hldB (acAt l k) && askB owner group u g cl f (acAt l k))
    · have hb2 : (hldB (acAt l k) && likeB x (acAt l k)) = false := by
        cases h1 : hldB (acAt l k)
        · rfl
        · rw [h1] at hb
          cases h2 : likeB x (acAt l k)
          · rfl
          · rw [ask_like hx h2] at hb
            cases hb
      rw [fltP_no hb, fltP_no hb2]
      exact ⟨gv, s, he, hg, hs, hss⟩
    · rw [fltP_yes hb, giveI_snoc, he, giveS_nat m0 m1 hg hs]
      have hle : s ||| (acAt l k).ma.toNat ≤ 255 := or_le hs hmn
      have hr2 : rmN (acAt l k).ma.toNat s ≤ 255 := Nat.le_trans (rm_le _ _) hmn
      have hsaid : saidN (fltP (likeB x) l (k + 1)) ||| (s ||| (acAt l k).ma.toNat) = s ||| (acAt l k).ma.toNat := by
        cases hb2 : (hldB (acAt l k) && likeB x (acAt l k))
        · rw [fltP_no hb2, ← Nat.or_assoc, hss]
        · rw [fltP_yes hb2, saidN_snoc]
          generalize saidN (fltP (likeB x) l k) = S at hss
          apply Nat.eq_of_testBit_eq
          intro i
          have h := congrArg (fun n => Nat.testBit n i) hss
          simp only [Nat.testBit_or] at h ⊢
          revert h
          cases Nat.testBit S i <;> cases Nat.testBit s i <;> cases Nat.testBit (acAt l k).ma.toNat i <;> simp
      cases (acAt l k).al
      · exact ⟨gv, _, rfl, hg, hle, hsaid⟩
      · exact ⟨_, _, rfl, or_le hg hr2, hle, hsaid⟩
theorem rm_said {m S s : Nat} (h : S ||| s = s) : rmN (rmN m S) s = rmN m s ∧ s ||| rmN m S = s ||| m := by
  constructor
  · rw [rm_rm, h]
  · apply Nat.eq_of_testBit_eq
    intro i
    have h := congrArg (fun n => Nat.testBit n i) h
    simp only [Nat.testBit_or, rm_bit] at h ⊢
    revert h
    cases Nat.testBit S i <;> cases Nat.testBit s i <;> cases Nat.testBit m i <;> simp
theorem fltP_snoc (p : Ac → Bool) (a : List Ac) (x : Ac) : fltP p (a ++ [x]) (a ++ [x]).length = fltP p a a.length ++ (if hldB x && p x then [x] else []) := by
  have e : (a ++ [x]).length = a.length + 1 := by simp
  rw [e, fltP, fltP_left _ _ _ _ (Nat.le_refl _), acAt_mid]
/-- What a trimmed list gives. -/
theorem trim_gives {owner group u g : Int} {cl : Nat} {f : Nat → Int} {l : List Ac} (hR : acesB l = true) : ∀ k, k ≤ l.length → giveI (fltP (askB owner group u g cl f) (trimP l k) (trimP l k).length) = giveI (fltP (askB owner group u g cl f) l k) := by
  have hm := msk_of hR
  intro k
  induction k with
  | zero => intro _; rfl
  | succ k ih =>
    intro hk
    have ihk := ih (by omega)
    obtain ⟨m0, m1⟩ := hm.wide k (by omega)
    have m2 := (hm k (by omega)).1
    by_cases h4 : (acAt l k).fl % 4 = 0
    · have hf0 := fl_zero hR (by omega) h4
      have hM := trimM_zero hm.wide (by omega) hf0
      have hll := leftN_le l (acAt l k) k
      cases hb : (hldB (acAt l k) && askB owner group u g cl f (acAt l k))
      · rw [fltP_no hb]
        by_cases hz : trimM l k = 0
        · rw [trimP_no hz]
          exact ihk
        · have hb2 : (hldB (trimX (acAt l k) (trimM l k)) && askB owner group u g cl f (trimX (acAt l k) (trimM l k))) = false := hb
          rw [trimP_yes hz, fltP_snoc, hb2]
          simpa using ihk
      · have hx : askB owner group u g cl f (acAt l k) = true := by
          rw [Bool.and_eq_true] at hb
          exact hb.2
        obtain ⟨gv, s, he, hg, hs, hss⟩ := like_said hm hx k (by omega)
        obtain ⟨r1, r2⟩ := rm_said (m := (acAt l k).ma.toNat) hss
        have hle : leftN l (acAt l k) k = rmN (acAt l k).ma.toNat (saidN (fltP (likeB (acAt l k)) l k)) := rfl
        rw [← hle] at r1 r2
        rw [fltP_yes hb, giveI_snoc, he, giveS_nat m0 m1 hg hs]
        by_cases hz : trimM l k = 0
        · have hz2 : leftN l (acAt l k) k = 0 := by omega
          rw [trimP_no hz, ihk, he, ← r1, ← r2, hz2]
          have : rmN 0 s = 0 := by simp [rmN]
          rw [this, Nat.or_zero, Nat.or_zero]
          cases (acAt l k).al <;> rfl
        · have hb2 : (hldB (trimX (acAt l k) (trimM l k)) && askB owner group u g cl f (trimX (acAt l k) (trimM l k))) = true := hb
          have e5 : (trimX (acAt l k) (trimM l k)).ma.toNat = leftN l (acAt l k) k := by
            show (trimM l k).toNat = _
            omega
          rw [trimP_yes hz, fltP_snoc, hb2, if_pos rfl, giveI_snoc, ihk, he, giveS_nat (by show 0 ≤ trimM l k; omega) (by show trimM l k ≤ 255; omega) hg hs, e5, r1, r2]
          rfl
    · have hM : trimM l k = (acAt l k).ma := by unfold trimM; rw [if_neg h4]
      have hz : ¬ trimM l k = 0 := by rw [hM]; omega
      have hX : trimX (acAt l k) (trimM l k) = acAt l k := by rw [hM]; rfl
      rw [trimP_yes hz, fltP_snoc, hX]
      cases hb : (hldB (acAt l k) && askB owner group u g cl f (acAt l k))
      · rw [fltP_no hb]
        simpa using ihk
      · rw [fltP_yes hb, if_pos rfl, giveI_snoc, giveI_snoc, ihk]
theorem trimM_in {l : List Ac} (hR : acesB l = true) {k : Nat} (hk : k < l.length) : 0 ≤ trimM l k ∧ trimM l k ≤ (acAt l k).ma := by
  have hm := msk_of hR
  obtain ⟨m0, m1⟩ := hm.wide k hk
  by_cases h4 : (acAt l k).fl % 4 = 0
  · rw [trimM_zero hm.wide hk (fl_zero hR hk h4)]
    have := leftN_le l (acAt l k) k
    omega
  · have hM : trimM l k = (acAt l k).ma := by unfold trimM; rw [if_neg h4]
    omega
theorem trim_mem {l : List Ac} : ∀ k, k ≤ l.length → ∀ x ∈ trimP l k, ∃ j, j < l.length ∧ trimM l j ≠ 0 ∧ x = trimX (acAt l j) (trimM l j) := by
  intro k
  induction k with
  | zero => intro _ x hx; cases hx
  | succ k ih =>
    intro hk x hx
    by_cases hz : trimM l k = 0
    · rw [trimP_no hz] at hx
      exact ih (by omega) x hx
    · rw [trimP_yes hz, List.mem_append] at hx
      rcases hx with hx | hx
      · exact ih (by omega) x hx
      · exact ⟨k, by omega, hz, by simpa using hx⟩
theorem trimP_right {l : List Ac} (hR : acesB l = true) : ∀ k, k ≤ l.length → acesB (trimP l k) = true := by
  intro k hk
  have h1 := trimP_len l k
  have h2 := aces_len hR
  refine aces_of (by omega) (fun x hx => ?_)
  obtain ⟨j, hj, hz, rfl⟩ := trim_mem k hk x hx
  obtain ⟨a1, a2, a3, a4, a5⟩ := aceB_iff.1 (aces_at hR hj)
  obtain ⟨t0, t1⟩ := trimM_in hR hj
  exact aceB_iff.2 ⟨a1, a2, a3, a4, by show 1 ≤ trimM l j ∧ trimM l j ≤ 255; omega⟩
/-- What those like x say in the trimmed list, they said. -/
theorem like_trim {l : List Ac} (hR : acesB l = true) (x : Ac) : ∀ k, k ≤ l.length → saidN (fltP (likeB x) (trimP l k) (trimP l k).length) ||| saidN (fltP (likeB x) l k) = saidN (fltP (likeB x) l k) := by
  have hm := msk_of hR
  intro k
  induction k with
  | zero => intro _; simp [trimP, fltP, saidN]
  | succ k ih =>
    intro hk
    have ihk := ih (by omega)
    obtain ⟨m0, m1⟩ := hm.wide k (by omega)
    have hsub : ∃ t : Nat, (trimM l k).toNat = t ∧ t ||| (acAt l k).ma.toNat = (acAt l k).ma.toNat := by
      refine ⟨_, rfl, ?_⟩
      by_cases h4 : (acAt l k).fl % 4 = 0
      · rw [trimM_zero hm.wide (by omega) (fl_zero hR (by omega) h4), Int.toNat_natCast]
        show rmN (acAt l k).ma.toNat _ ||| _ = _
        apply Nat.eq_of_testBit_eq
        intro i
        simp only [Nat.testBit_or, rm_bit]
        cases Nat.testBit (acAt l k).ma.toNat i <;> simp
      · have hM : trimM l k = (acAt l k).ma := by unfold trimM; rw [if_neg h4]
        rw [hM, Nat.or_self]
    obtain ⟨t, ht, hts⟩ := hsub
    cases hb : (hldB (acAt l k) && likeB x (acAt l k))
    · rw [fltP_no hb]
      by_cases hz : trimM l k = 0
      · rw [trimP_no hz]
        exact ihk
      · have hb2 : (hldB (trimX (acAt l k) (trimM l k)) && likeB x (trimX (acAt l k) (trimM l k))) = false := hb
        rw [trimP_yes hz, fltP_snoc, hb2]
        simpa using ihk
    · rw [fltP_yes hb, saidN_snoc]
      by_cases hz : trimM l k = 0
      · rw [trimP_no hz, ← Nat.or_assoc, ihk]
      · have hb2 : (hldB (trimX (acAt l k) (trimM l k)) && likeB x (trimX (acAt l k) (trimM l k))) = true := hb
        have e5 : (trimX (acAt l k) (trimM l k)).ma.toNat = t := ht
        rw [trimP_yes hz, fltP_snoc, hb2, if_pos rfl, saidN_snoc, e5]
        generalize saidN (fltP (likeB x) (trimP l k) (trimP l k).length) = P at ihk
        generalize saidN (fltP (likeB x) l k) = Q at ihk
        generalize (acAt l k).ma.toNat = m at hts
        apply Nat.eq_of_testBit_eq
        intro i
        have h := congrArg (fun n => Nat.testBit n i) ihk
        have h2 := congrArg (fun n => Nat.testBit n i) hts
        simp only [Nat.testBit_or] at h h2 ⊢
        revert h h2
        cases Nat.testBit P i <;> cases Nat.testBit Q i <;> cases Nat.testBit m i <;> cases Nat.testBit t i <;> simp
/-- Trimmed once more. -/
theorem trim_again {l : List Ac} (hR : acesB l = true) : ∀ k, k ≤ l.length → trimP (trimP l k) (trimP l k).length = trimP l k := by
  have hm := msk_of hR
  intro k
  induction k with
  | zero => intro _; rfl
  | succ k ih =>
    intro hk
    have ihk := ih (by omega)
    by_cases hz : trimM l k = 0
    · rw [trimP_no hz]
      exact ihk
    · have hRk := trimP_right hR (k + 1) hk
      have hmk := msk_of hRk
      rw [trimP_yes hz] at hRk hmk ⊢
      generalize hT : trimP l k = T at ihk hRk hmk ⊢
      generalize hX : trimX (acAt l k) (trimM l k) = X at hRk hmk ⊢
      have eL : (T ++ [X]).length = T.length + 1 := by simp
      have eX : acAt (T ++ [X]) T.length = X := acAt_mid
      have eF : X.fl = (acAt l k).fl := by rw [← hX]; rfl
      have eM : X.ma = trimM l k := by rw [← hX]; rfl
      have hMM : trimM (T ++ [X]) T.length = X.ma := by
        by_cases h4 : X.fl % 4 = 0
        · have hf := fl_zero hRk (k := T.length) (by omega) (by rw [eX]; exact h4)
          rw [trimM_zero hmk.wide (by omega) hf, eX]
          have hl : leftN (T ++ [X]) X T.length = rmN X.ma.toNat (saidN (fltP (likeB X) T T.length)) := by
            unfold leftN
            rw [fltP_left _ _ _ _ (Nat.le_refl _)]
          have hsub := like_trim hR X k (by omega)
          rw [hT] at hsub
          have e0 : trimM l k = ((leftN l (acAt l k) k : Nat) : Int) := trimM_zero hm.wide (by omega) (fl_zero hR (by omega) (by rw [← eF]; exact h4))
          have eS : saidN (fltP (likeB X) l k) = saidN (fltP (likeB (acAt l k)) l k) := by rw [← hX]; rfl
          have e1 : X.ma.toNat = rmN (acAt l k).ma.toNat (saidN (fltP (likeB X) l k)) := by
            rw [eM, e0, Int.toNat_natCast, eS]
            rfl
          have e2 : rmN X.ma.toNat (saidN (fltP (likeB X) T T.length)) = X.ma.toNat := by
            rw [e1, rm_rm, Nat.or_comm, hsub]
          rw [hl, e2]
          have := (hmk.wide T.length (by omega)).1
          rw [eX] at this
          omega
        · unfold trimM
          rw [eX, if_neg h4]
      have hz2 : ¬ trimM (T ++ [X]) T.length = 0 := by rw [hMM, eM]; exact hz
      rw [eL, trimP_yes hz2, trimP_left _ _ _ (Nat.le_refl _), ihk, eX, hMM]
      rfl
theorem trimL_right {l : List Ac} (hR : acesB l = true) : acesB (trimL l) = true := by
  rw [trimL, if_pos hR]
  exact trimP_right hR _ (Nat.le_refl _)
theorem trimL_again {l : List Ac} (hR : acesB l = true) : trimL (trimL l) = trimL l := by
  have h := trimL_right hR
  rw [trimL, if_pos h]
  have e : trimL l = trimP l l.length := by rw [trimL, if_pos hR]
  rw [e]
  exact trim_again hR _ (Nat.le_refl _)
theorem trimL_gives {owner group u g : Int} {cl : Nat} {f : Nat → Int} {l : List Ac} (hR : acesB l = true) : givesI (trimL l) owner group u g cl f = givesI l owner group u g cl f := by
  have h := trimL_right hR
  have e : trimL l = trimP l l.length := by rw [trimL, if_pos hR]
  unfold givesI
  rw [h, hR, e, trim_gives hR _ (Nat.le_refl _)]
theorem trimL_le {l : List Ac} : (trimL l).length ≤ l.length := by
  unfold trimL
  split
  · exact trimP_len l _
  · simp
end Go.Proofs.Ytgojbilbkfilgaa
