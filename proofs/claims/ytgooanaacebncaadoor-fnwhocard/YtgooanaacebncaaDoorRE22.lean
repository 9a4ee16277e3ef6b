/- Laid together: CredBack. -/
import Derived.Test.YtgooanaacebncaaDoorRE20
/- The text of a right Cred is read back as that Cred. -/
namespace Go.Proofs.YtgooanaacebncaaDoor
open Go.RowKit Go.PlainAid
set_option linter.unusedVariables false
/-- The pieces of joined numbers. -/
theorem spl_jn (f : Nat → Int) : ∀ n, spl 44 (jn f (n + 1)) = (List.range (n + 1)).map fun i => Lib.decDigits (f i).toNat := by
  intro n
  induction n with
  | zero =>
    have e : jn f 1 = Lib.decDigits (f 0).toNat := by simp [jn]
    rw [e, spl_none (dec_no (by decide))]
    rfl
  | succ n ih =>
    have e : jn f (n + 2) = jn f (n + 1) ++ 44 :: Lib.decDigits (f (n + 1)).toNat := by
      rw [jn]
      simp
    rw [e, spl_last (dec_no (by decide)), ih, List.range_succ (n := n + 1)]
    simp
theorem jn_chars (f : Nat → Int) : ∀ n x, x ∈ jn f n → dgB x = true ∨ x = 44 := by
  intro n
  induction n with
  | zero => intro x hx; simp [jn] at hx
  | succ n ih =>
    intro x hx
    rw [jn] at hx
    rcases List.mem_append.1 hx with hx | hx
    · rcases List.mem_append.1 hx with hx | hx
      · exact ih x hx
      · split at hx
        · cases hx
        · right; simpa using hx
    · left; exact (dec_right _ _ (Nat.le_refl _)).1 x hx
theorem star_snoc (q : List UInt8) (x : UInt8) : starC (q ++ [x]) = decide (x = 42) := by
  rw [starC, Lib.hasSuffix]
  by_cases e : x = 42
  · subst e
    rw [decide_eq_true rfl, List.isSuffixOf_iff_suffix]
    exact ⟨q, rfl⟩
  · rw [decide_eq_false e]
    cases hh : [42].isSuffixOf (q ++ [x])
    · rfl
    · rw [List.isSuffixOf_iff_suffix] at hh
      obtain ⟨t, ht⟩ := hh
      have := List.append_inj_right' ht rfl
      simp at this
      exact absurd this.symm e
/-- The star, of a text that holds none but perhaps at its end. -/
theorem star_end {q : List UInt8} (hq : q ≠ []) (h : (42 : UInt8) ∉ q) (r : Bool) : starC (q ++ (if r then [42] else [])) = r ∧ restC (q ++ (if r then [42] else [])) = q := by
  cases r
  · simp only [Bool.false_eq_true, if_false, List.append_nil]
    obtain ⟨p, x, rfl⟩ : ∃ p x, q = p ++ [x] := ⟨q.dropLast, q.getLast hq, (List.dropLast_concat_getLast hq).symm⟩
    have hx : ¬ x = 42 := fun e => h (by simp [e])
    have hs : starC (p ++ [x]) = false := by rw [star_snoc, decide_eq_false hx]
    refine ⟨hs, ?_⟩
    have hs2 : Lib.hasSuffix (p ++ [x]) [42] = false := hs
    rw [restC, Lib.trimSuffix, if_neg (by rw [hs2]; simp)]
  · simp only [if_true]
    have hs : starC (q ++ [42]) = true := by rw [star_snoc]; rfl
    refine ⟨hs, ?_⟩
    have hs2 : Lib.hasSuffix (q ++ [42]) [42] = true := hs
    rw [restC, Lib.trimSuffix, if_pos hs2]
    simp
theorem cred_back (u v : Int) (l : List Int) (r : Bool) (h : credB u v l.length (atN l) = true) : CrO (credT u v l.length (atN l) r).data.toList u v l r 0 := by
  have hc := h
  rw [credB, Bool.and_eq_true, Bool.and_eq_true] at hc
  obtain ⟨h1, h2, h3⟩ := hc
  have h3' := h3
  rw [grB, Bool.and_eq_true] at h3'
  have hn := of_decide_eq_true h3'.1
  have a1 := inR_iff.1 h1
  have a2 := inR_iff.1 h2
  have hat : ∀ i, i < l.length → 0 ≤ atN l i ∧ atN l i ≤ 9999 := fun i hi => inR_iff.1 (rises_idAt h3'.2 i hi)
  have hT : (credT u v l.length (atN l) r).data.toList = (Lib.decDigits u.toNat ++ 58 :: (Lib.decDigits v.toNat ++ 58 :: jn (atN l) l.length)) ++ (if r then [42] else []) := by
    rw [credT, if_pos h]
    cases r <;> simp [preT, jnT, decT, ByteArray.data_append]
  have hj : ∀ c : UInt8, dgB c = false → c ≠ 44 → c ∉ jn (atN l) l.length := fun c hc hne hm => by
    rcases jn_chars _ _ _ hm with h | h
    · rw [hc] at h; cases h
    · exact hne h
  have hstar : (42 : UInt8) ∉ Lib.decDigits u.toNat ++ 58 :: (Lib.decDigits v.toNat ++ 58 :: jn (atN l) l.length) := by
    intro hm
    rcases List.mem_append.1 hm with hm | hm
    · exact dec_no (by decide) hm
    · rcases List.mem_cons.1 hm with hm | hm
      · exact absurd hm (by decide)
      · rcases List.mem_append.1 hm with hm | hm
        · exact dec_no (by decide) hm
        · rcases List.mem_cons.1 hm with hm | hm
          · exact absurd hm (by decide)
          · exact hj 42 (by decide) (by decide) hm
  obtain ⟨s1, s2⟩ := star_end (q := Lib.decDigits u.toNat ++ 58 :: (Lib.decDigits v.toNat ++ 58 :: jn (atN l) l.length)) (by simp) hstar r
  rw [← hT] at s1 s2
  have hsp : spl 58 (restC (credT u v l.length (atN l) r).data.toList) = [Lib.decDigits u.toNat, Lib.decDigits v.toNat, jn (atN l) l.length] := by
    rw [s2, spl_first (dec_no (by decide)), spl_first (dec_no (by decide)), spl_none (hj 58 (by decide) (by decide))]
  have hG : rdG (jn (atN l) l.length) = some l := by
    cases hl : l.length with
    | zero =>
      have : l = [] := List.eq_nil_of_length_eq_zero hl
      rw [this]
      rfl
    | succ n =>
      have hsl := spl_jn (atN l) n
      have hne : jn (atN l) (n + 1) ≠ [] := fun e => by
        have := hsl
        rw [e] at this
        have h5 := congrArg (fun q => q.headD [] ) this
        simp [spl, splS] at h5
        have h6 := (dec_right _ _ (Nat.le_refl (atN l 0).toNat)).2.2.2
        rw [List.range_succ_eq_map] at h5
        simp at h5
        exact h6 h5
      have hgv : gv (spl 44 (jn (atN l) (n + 1))) = l := by
        rw [hsl]
        apply List.ext_getElem
        · simp [gv, hl]
        · intro i q1 q2
          have hi := hat i q2
          have := (dec_read (n := (atN l i).toNat) (by omega)).2
          simp only [gv, List.getElem_map, List.getElem_range]
          rw [this, Int.toNat_of_nonneg hi.1]
          simp [atN, q2]
      rw [rdG, if_neg hne, if_pos, hgv]
      rw [hgv]
      refine ⟨fun p hp => ?_, h3⟩
      rw [hsl] at hp
      obtain ⟨i, hi, rfl⟩ := List.mem_map.1 hp
      have hi2 := hat i (by rw [hl]; exact List.mem_range.1 hi)
      rw [(dec_read (n := (atN l i).toNat) (by omega)).1]
      simp
  have hlen : (credT u v l.length (atN l) r).data.toList.length ≤ 8000 := by
    have p1 := preT_size (u := u.toNat) (g := v.toNat) (by omega) (by omega)
    have p2 := jnT_size (f := atN l) (n := l.length) hat (Nat.le_refl _)
    have p3 : (⟨#[42]⟩ : ByteArray).size = 1 := rfl
    rw [← Lib.size_eq, credT, if_pos h]
    cases r
    · simp only [Bool.false_eq_true, if_false, ByteArray.size_append]
      omega
    · simp only [if_true, ByteArray.size_append]
      omega
  have := CrO.yes hlen u.toNat v.toNat l (.yes _ _ _ _ _ _ hsp (dec_read (by omega)).1 (dec_read (by omega)).1 hG)
  rwa [s1, Int.toNat_of_nonneg a1.1, Int.toNat_of_nonneg a2.1] at this
end Go.Proofs.YtgooanaacebncaaDoor
