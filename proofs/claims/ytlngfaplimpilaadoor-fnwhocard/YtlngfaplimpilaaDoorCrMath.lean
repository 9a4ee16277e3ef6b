/- CredRead: what the two sides read is the same. -/
import Derived.Test.YtlngfaplimpilaaDoorRdGroups
namespace Go.Proofs.YtlngfaplimpilaaDoor
open Go.RowKit Go.PlainAid
set_option linter.unusedVariables false
theorem rises_idAt {f : Nat → Int} {n : Nat} (h : risesB f n = true) : ∀ k, k < n → inR 0 9999 (f k) = true := by
  induction n with
  | zero => intro k hk; omega
  | succ n ih =>
    intro k hk
    simp only [risesB, Bool.and_eq_true, okG] at h
    by_cases e : k = n
    · subst e; exact h.2.1
    · exact ih h.1 k (by omega)
/-- The groups that the specification reads. -/
def gS (g : List UInt8) : List Int := if g = [] then [] else gv ((spl 44 g).take 9)
theorem at_gv (ps : List (List UInt8)) {k : Nat} (h : k < ps.length) : atN (gv ps) k = numI ps[k] := by simp [atN, gv, h]
/-- Numbers joined are the pieces joined, where each piece is its number's digits. -/
theorem jn_unspl (f : Nat → Int) : ∀ (n : Nat) (ps : List (List UInt8)), ps.length = n → (∀ k (h : k < ps.length), Lib.decDigits (f k).toNat = ps[k]) → jn f n = unspl 44 ps := by
  intro n
  induction n with
  | zero =>
    intro ps hl _
    rw [List.eq_nil_of_length_eq_zero hl]
    rfl
  | succ n ih =>
    intro ps hl h
    have hne : ps ≠ [] := fun e => by rw [e] at hl; simp at hl
    obtain ⟨qs, x, rfl⟩ : ∃ qs x, ps = qs ++ [x] := ⟨ps.dropLast, ps.getLast hne, (List.dropLast_concat_getLast hne).symm⟩
    have hq : qs.length = n := by simp at hl; omega
    have e1 := ih qs hq (fun k hk => by
      have := h k (by simp; omega)
      rwa [List.getElem_append_left hk] at this)
    have e2 : Lib.decDigits (f n).toNat = x := by
      have := h n (by simp; omega)
      rw [this]
      simp [hq]
    have e3 : ∀ (qs : List (List UInt8)), unspl 44 (qs ++ [x]) = unspl 44 qs ++ (if qs.length = 0 then [] else [44]) ++ x := by
      intro qs
      induction qs with
      | nil => simp [unspl]
      | cons y o ih2 =>
        cases o with
        | nil => simp [unspl]
        | cons y2 o => simpa [unspl] using ih2
    rw [jn, e1, e2, e3, hq]
/-- Three pieces: either both sides take them, and the text told is the text read, or neither does. -/
theorem cred_key (a b g : List UInt8) (r : Bool) :
    (credB (numI a) (numI b) (gS g).length (atN (gS g)) = true ∧ rdI a = some (numI a).toNat ∧ rdI b = some (numI b).toNat ∧ 0 ≤ numI a ∧ 0 ≤ numI b ∧ rdG g = some (gS g) ∧ (credT (numI a) (numI b) (gS g).length (atN (gS g)) r).data.toList = unspl 58 [a, b, g] ++ (if r then [42] else [])) ∨
    (credB (numI a) (numI b) (gS g).length (atN (gS g)) = false ∧ (rdI a = none ∨ rdI b = none ∨ rdG g = none)) := by
  cases hc : credB (numI a) (numI b) (gS g).length (atN (gS g))
  · right
    refine ⟨rfl, ?_⟩
    rcases num_id a with ⟨a1, a2, _⟩ | ⟨a1, a2⟩
    · rcases num_id b with ⟨b1, b2, _⟩ | ⟨b1, b2⟩
      · right; right
        have hg : grB (gS g).length (atN (gS g)) = false := by
          rw [credB, a1, b1] at hc
          simpa using hc
        by_cases h0 : g = []
        · rw [gS, if_pos h0] at hg
          simp [grB, risesB] at hg
        · rw [gS, if_neg h0] at hg
          rw [rdG, if_neg h0, if_neg]
          rintro ⟨h1, h2⟩
          have h3 : (gv (spl 44 g)).length ≤ 8 := by
            rw [grB, Bool.and_eq_true] at h2
            exact of_decide_eq_true h2.1
          have h4 : (spl 44 g).take 9 = spl 44 g := List.take_of_length_le (by simp [gv] at h3; omega)
          rw [h4, h2] at hg
          cases hg
      · exact .inr (.inl b2)
    · exact .inl a2
  · left
    have hc2 := hc
    rw [credB, Bool.and_eq_true, Bool.and_eq_true] at hc2
    obtain ⟨a1, b1, hg⟩ := hc2
    obtain ⟨_, a2, a3⟩ := (num_id a).resolve_right (fun h => by rw [a1] at h; cases h.1)
    obtain ⟨_, b2, b3⟩ := (num_id b).resolve_right (fun h => by rw [b1] at h; cases h.1)
    have hG : rdG g = some (gS g) ∧ jn (atN (gS g)) (gS g).length = g := by
      by_cases h0 : g = []
      · rw [gS, if_pos h0, rdG, if_pos h0]
        exact ⟨rfl, h0.symm⟩
      · rw [gS, if_neg h0] at hg ⊢
        have h3 : (gv ((spl 44 g).take 9)).length ≤ 8 ∧ risesB (atN (gv ((spl 44 g).take 9))) (gv ((spl 44 g).take 9)).length = true := by
          rw [grB, Bool.and_eq_true] at hg
          exact ⟨of_decide_eq_true hg.1, hg.2⟩
        have h4 : (spl 44 g).take 9 = spl 44 g := List.take_of_length_le (by have := h3.1; simp [gv] at this; omega)
        rw [h4] at hg h3 ⊢
        have hlen : (gv (spl 44 g)).length = (spl 44 g).length := by simp [gv]
        have hat : ∀ k (h : k < (spl 44 g).length), rdI (spl 44 g)[k] ≠ none ∧ Lib.decDigits (atN (gv (spl 44 g)) k).toNat = (spl 44 g)[k] := by
          intro k hk
          have h5 := rises_idAt h3.2 k (by omega)
          rw [at_gv _ hk] at h5 ⊢
          rcases num_id (spl 44 g)[k] with ⟨_, q2, q3⟩ | ⟨q4, _⟩
          · exact ⟨by rw [q2]; simp, q3⟩
          · rw [h5] at q4; cases q4
        refine ⟨?_, ?_⟩
        · rw [rdG, if_neg h0, if_pos]
          refine ⟨fun p hp => ?_, hg⟩
          obtain ⟨j, hj, rfl⟩ := List.mem_iff_getElem.1 hp
          exact (hat j hj).1
        · rw [jn_unspl _ _ (spl 44 g) hlen.symm (fun k hk => (hat k hk).2), unspl_spl]
    refine ⟨rfl, a2, b2, (inR_iff.1 a1).1, (inR_iff.1 b1).1, hG.1, ?_⟩
    rw [credT, if_pos hc]
    have hpre : ∀ x : ByteArray, (preT (numI a).toNat (numI b).toNat ++ jnT (atN (gS g)) (gS g).length ++ x).data.toList = a ++ 58 :: (b ++ 58 :: g) ++ x.data.toList := by
      intro x
      simp only [preT, jnT, decT, ByteArray.data_append, Array.toList_append, a3, b3, hG.2]
      simp
    cases r
    · have := hpre ⟨#[]⟩
      simp only [ByteArray.data_append, Array.toList_append] at this
      simpa [unspl, ByteArray.data_append] using this
    · have := hpre ⟨#[42]⟩
      simpa [unspl] using this
end Go.Proofs.YtlngfaplimpilaaDoor
