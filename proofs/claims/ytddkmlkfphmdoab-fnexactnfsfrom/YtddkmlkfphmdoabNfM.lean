/- A list in order read of bytes: what both sides come to. -/
import Derived.Test.YtddkmlkfphmdoabNbW
import Derived.Test.YtddkmlkfphmdoabUnsealWalks
import Derived.Test.YtddkmlkfphmdoabWrT
namespace Go.Proofs.Ytddkmlkfphmdoab
open Go.RowKit Go.PlainAid
set_option linter.unusedVariables false
/-- What Unseal comes to. -/
def uT (s : ByteArray) : ByteArray := if 4 ≤ s.size ∧ s.size ≤ 8000 ∧ sealOf (bodyOf s) = s then bodyOf s else ⟨#[]⟩
def uC (s : ByteArray) : Int := if 8000 < s.size then 2 else if s.size < 4 then 4 else if sealOf (bodyOf s) = s then 0 else 5
theorem u_long {s : ByteArray} (h : 8000 < s.size) : uT s = ⟨#[]⟩ ∧ uC s = 2 := ⟨by unfold uT; rw [if_neg (by omega)], by unfold uC; rw [if_pos h]⟩
theorem u_short {s : ByteArray} (h1 : ¬ 8000 < s.size) (h : s.size < 4) : uT s = ⟨#[]⟩ ∧ uC s = 4 := ⟨by unfold uT; rw [if_neg (by omega)], by unfold uC; rw [if_neg h1, if_pos h]⟩
theorem u_yes {s : ByteArray} (h1 : ¬ 8000 < s.size) (h2 : ¬ s.size < 4) (h : sealOf (bodyOf s) = s) : uT s = bodyOf s ∧ uC s = 0 := ⟨by unfold uT; rw [if_pos ⟨by omega, by omega, h⟩], by unfold uC; rw [if_neg h1, if_neg h2, if_pos h]⟩
theorem u_no {s : ByteArray} (h1 : ¬ 8000 < s.size) (h2 : ¬ s.size < 4) (h : ¬ sealOf (bodyOf s) = s) : uT s = ⟨#[]⟩ ∧ uC s = 5 := ⟨by unfold uT; rw [if_neg (fun e => h e.2.2)], by unfold uC; rw [if_neg h1, if_neg h2, if_neg h]⟩
theorem u_zero {s : ByteArray} (h : uC s = 0) : 4 ≤ s.size ∧ s.size ≤ 8000 ∧ sealOf (uT s) = s ∧ (uT s).size ≤ 7996 := by
  by_cases h1 : 8000 < s.size
  · rw [(u_long h1).2] at h; simp at h
  · by_cases h2 : s.size < 4
    · rw [(u_short h1 h2).2] at h; simp at h
    · by_cases h3 : sealOf (bodyOf s) = s
      · rw [(u_yes h1 h2 h3).1]
        exact ⟨by omega, by omega, h3, by rw [body_size (by omega)]; omega⟩
      · rw [(u_no h1 h2 h3).2] at h; simp at h
theorem iUns_any (s : ByteArray) (hs : s.size ≤ maxLen) (w : World) :
    Calls Try.prog 13 #[.string s] w fun e w' => e = .returned (.agg #[.string (uT s), .int .i64 0, .int .i64 (uC s)]) ∧ Below w.heap.size w w' := by
  by_cases h1 : 8000 < s.size
  · rw [(u_long h1).1, (u_long h1).2]; exact iUnseal_long s (by omega) hs w
  · by_cases h2 : s.size < 4
    · rw [(u_short h1 h2).1, (u_short h1 h2).2]; exact iUnseal_short s (by omega) w
    · have h := iUnseal_in s (by omega) (by omega) w
      by_cases h3 : sealOf (bodyOf s) = s
      · rw [if_pos h3] at h
        rw [(u_yes h1 h2 h3).1, (u_yes h1 h2 h3).2]; exact h
      · rw [if_neg h3] at h
        rw [(u_no h1 h2 h3).1, (u_no h1 h2 h3).2]; exact h
theorem sUns_any (s : ByteArray) (hs : s.size ≤ maxLen) (w : World) :
    Calls Try.prog 9 #[.string s] w fun e w' => e = .returned (.agg #[.string (uT s), .int .i64 0, .int .i64 (uC s)]) ∧ Below w.heap.size w w' := by
  by_cases h1 : 8000 < s.size
  · rw [(u_long h1).1, (u_long h1).2]; exact sUnseal_long s (by omega) hs w
  · by_cases h2 : s.size < 4
    · rw [(u_short h1 h2).1, (u_short h1 h2).2]; exact sUnseal_short s (by omega) w
    · have h := sUnseal_in s (by omega) (by omega) w
      by_cases h3 : sealOf (bodyOf s) = s
      · rw [if_pos h3] at h
        rw [(u_yes h1 h2 h3).1, (u_yes h1 h2 h3).2]; exact h
      · rw [if_neg h3] at h
        rw [(u_no h1 h2 h3).1, (u_no h1 h2 h3).2]; exact h
theorem seal_inj {a b : ByteArray} (h : sealOf a = sealOf b) : a = b := by
  have h1 := congrArg ByteArray.size h
  rw [sealOf_size, sealOf_size] at h1
  have h2 := congrArg (fun x : ByteArray => x.data.toList.take a.size) h
  simp only [sealOf, ByteArray.data_append, Array.toList_append] at h2
  have e1 : a.data.toList.length = a.size := (Lib.size_eq a).symm
  have e2 : b.data.toList.length = b.size := (Lib.size_eq b).symm
  rw [List.take_append_of_le_length (by omega), List.take_append_of_le_length (by omega), List.take_of_length_le (by omega), List.take_of_length_le (by omega)] at h2
  apply ByteArray.ext
  exact Array.toList_inj.1 h2
/-- NfsFrom. -/
def nfO (s : ByteArray) : List Ac × Int := if uC s ≠ 0 then ([], uC s) else match rdNb (uT s) with
  | none => ([], 3)
  | some l => (l, 0)
theorem nfO_ill {s : ByteArray} (h : uC s ≠ 0) : nfO s = ([], uC s) := by rw [nfO, if_pos h]
theorem nfO_none {s : ByteArray} (h : uC s = 0) (h2 : rdNb (uT s) = none) : nfO s = ([], 3) := by rw [nfO, if_neg (by simpa using h), h2]
theorem nfO_some {s : ByteArray} {l : List Ac} (h : uC s = 0) (h2 : rdNb (uT s) = some l) : nfO s = (l, 0) := by rw [nfO, if_neg (by simpa using h), h2]
/-- The bytes of a list are the text just if the list is what is read. -/
theorem nbT_iff {s : ByteArray} (h : uC s = 0) (l : List Ac) : nbT l = s ↔ rdNb (uT s) = some l := by
  obtain ⟨h4, h8, hse, hz⟩ := u_zero h
  rw [rdNb_iff]
  constructor
  · intro e
    cases hb : acesB l
    · rw [nbT, hb] at e
      have : (⟨#[]⟩ : ByteArray).size = s.size := congrArg ByteArray.size e
      have e0 : (⟨#[]⟩ : ByteArray).size = 0 := rfl
      omega
    · refine ⟨rfl, ?_⟩
      rw [nbT, if_pos hb] at e
      have e2 := seal_inj (e.trans hse.symm)
      rw [← e2]
  · rintro ⟨h1, h2⟩
    rw [nbT, if_pos h1]
    have e : (⟨(nbB l).toArray⟩ : ByteArray) = uT s := by
      apply ByteArray.ext
      apply Array.toList_inj.1
      simpa using h2.symm
    rw [e]
    exact hse
theorem rd1_some {s : ByteArray} {a q : Nat} {n : Int} (h : rd1 s a = some (n, q)) : scan s a 10 0 0 = (n, (q : Int), 0) := by
  obtain ⟨hat, hq⟩ := rd1_of h
  unfold rd1 at h
  split at h
  · rename_i hc
    simp only [Option.some.injEq, Prod.mk.injEq] at h
    obtain ⟨_, h2, _, _⟩ := scan_of (s := s) (a := a) (n := (scan s a 10 0 0).1) (p := (scan s a 10 0 0).2.1) (c := (scan s a 10 0 0).2.2) rfl hc
    refine Prod.ext h.1 (Prod.ext ?_ hc)
    show (scan s a 10 0 0).2.1 = (q : Int)
    rw [h2, h.1, hq]
    omega
  · cases h
theorem rd1_none {s : ByteArray} {a : Nat} (h : rd1 s a = none) : ∃ c : Int, c ≠ 0 ∧ scan s a 10 0 0 = (0, 0, c) := by
  unfold rd1 at h
  split at h
  · cases h
  · rename_i hc
    refine ⟨(scan s a 10 0 0).2.2, hc, ?_⟩
    rcases scan_code s a with h1 | ⟨h1, h2⟩
    · exact absurd h1 hc
    · exact Prod.ext h1 (Prod.ext h2 rfl)
theorem rd1_le {s : ByteArray} {a q : Nat} {n : Int} (h : rd1 s a = some (n, q)) : q ≤ s.size := by
  obtain ⟨hat, hq⟩ := rd1_of h
  have := hat.1
  omega
theorem rs1_of (s : ByteArray) (a : Nat) : (∃ n q, rd1 s a = some (n, q) ∧ rs1 s (a, false) = (n, (q, false))) ∨ (rd1 s a = none ∧ rs1 s (a, false) = (0, (a, true))) := by
  cases h : rd1 s a with
  | none =>
    right
    obtain ⟨c, hc, e⟩ := rd1_none h
    refine ⟨rfl, ?_⟩
    unfold rs1
    simp only []
    rw [e, if_pos (.inr hc)]
  | some p =>
    obtain ⟨n, q⟩ := p
    left
    have e := rd1_some h
    refine ⟨n, q, rfl, ?_⟩
    unfold rs1
    simp only []
    rw [e, if_neg (by simp)]
    simp
theorem rs1_bad (s : ByteArray) (a : Nat) : rs1 s (a, true) = (0, (a, true)) := by
  unfold rs1
  rw [if_pos (.inl rfl)]
theorem rs1_le {s : ByteArray} {σ : Nat × Bool} (h : σ.1 ≤ s.size) : (rs1 s σ).2.1 ≤ s.size := by
  obtain ⟨a, b⟩ := σ
  cases b
  · rcases rs1_of s a with ⟨n, q, h1, h2⟩ | ⟨_, h2⟩
    · rw [h2]; exact rd1_le h1
    · rw [h2]; exact h
  · rw [rs1_bad]; exact h
theorem rsAc_le {s : ByteArray} {σ : Nat × Bool} (h : σ.1 ≤ s.size) : (rsAc s σ).2.1 ≤ s.size := rs1_le (rs1_le (rs1_le (rs1_le (rs1_le h))))
theorem rsK_le {s : ByteArray} {σ : Nat × Bool} (h : σ.1 ≤ s.size) (k : Nat) : (rsK s σ k).2.1 ≤ s.size := by
  induction k with
  | zero => exact h
  | succ k ih => exact rsAc_le ih
/-- How the specification's loop ends. -/
theorem rs_end {s : ByteArray} (h : uC s = 0) (k : Nat) (hk : ∀ j, j < k → (j : Int) < (rs1 (uT s) (0, false)).1 ∧ (rsK (uT s) (rs1 (uT s) (0, false)).2 j).2.2 = false) (he : ¬ ((k : Int) < (rs1 (uT s) (0, false)).1 ∧ k ≤ 32 ∧ (rsK (uT s) (rs1 (uT s) (0, false)).2 k).2.2 = false)) :
    ((rsK (uT s) (rs1 (uT s) (0, false)).2 k).2.2 = true ∧ nfO s = ([], 3)) ∨ ((rsK (uT s) (rs1 (uT s) (0, false)).2 k).2.2 = false ∧ nbT (rsK (uT s) (rs1 (uT s) (0, false)).2 k).1 = s ∧ nfO s = ((rsK (uT s) (rs1 (uT s) (0, false)).2 k).1, 0)) ∨ ((rsK (uT s) (rs1 (uT s) (0, false)).2 k).2.2 = false ∧ nbT (rsK (uT s) (rs1 (uT s) (0, false)).2 k).1 ≠ s ∧ nfO s = ([], 3)) := by
  cases hr : rdNb (uT s) with
  | none =>
    have hn := nfO_none h hr
    cases hb : (rsK (uT s) (rs1 (uT s) (0, false)).2 k).2.2
    · exact .inr (.inr ⟨rfl, (fun e => by rw [nbT_iff h, hr] at e; cases e), hn⟩)
    · exact .inl ⟨rfl, hn⟩
  | some l =>
    have hs := nfO_some h hr
    obtain ⟨h1, h2⟩ := (rdNb_iff _ _).1 hr
    obtain ⟨hm, hall⟩ := rs_all h1 h2
    have hl := aces_len h1
    have hkl : k ≤ l.length := by
      cases k with
      | zero => omega
      | succ k => have := (hk k (by omega)).1; rw [hm] at this; omega
    obtain ⟨e1, e2⟩ := hall k hkl
    have hke : k = l.length := by
      apply Classical.byContradiction
      intro hne
      exact he ⟨by rw [hm]; omega, by omega, e2⟩
    subst hke
    rw [List.take_length] at e1
    refine .inr (.inl ⟨e2, ?_, ?_⟩)
    · rw [e1, nbT_iff h]; exact hr
    · rw [e1]; exact hs
end Go.Proofs.Ytddkmlkfphmdoab
