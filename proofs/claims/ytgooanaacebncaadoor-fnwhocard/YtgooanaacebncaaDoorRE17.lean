/- Laid together: ReadM, DecRd. -/
import Derived.Test.YtgooanaacebncaaDoorRE15
import Derived.Test.YtgooanaacebncaaDoorRE16
/- Texts of ids cut and read: what is read is told by just that text. -/
namespace Go.Proofs.YtgooanaacebncaaDoor
open Go.RowKit Go.PlainAid
set_option linter.unusedVariables false
/-- The pieces, put together again. -/
def unspl (c : UInt8) : List (List UInt8) → List UInt8
  | [] => []
  | [x] => x
  | x :: y :: r => x ++ c :: unspl c (y :: r)
theorem unspl_snoc (c : UInt8) (o : List (List UInt8)) (z : List UInt8) (x : UInt8) : unspl c (o ++ [z ++ [x]]) = unspl c (o ++ [z]) ++ [x] := by
  induction o with
  | nil => rfl
  | cons y o ih =>
    cases o with
    | nil => simp [unspl]
    | cons y2 o => simpa [unspl] using ih
theorem unspl_more (c : UInt8) (o : List (List UInt8)) (z : List UInt8) : unspl c (o ++ [z] ++ [[]]) = unspl c (o ++ [z]) ++ [c] := by
  induction o with
  | nil => simp [unspl]
  | cons y o ih =>
    cases o with
    | nil => simp [unspl]
    | cons y2 o => simpa [unspl] using ih
theorem unspl_fold (c : UInt8) (l : List UInt8) : ∀ o z, unspl c ((l.foldl (splF c) (o, z)).1 ++ [(l.foldl (splF c) (o, z)).2]) = unspl c (o ++ [z]) ++ l := by
  induction l with
  | nil => intro o z; simp
  | cons x l ih =>
    intro o z
    simp only [List.foldl_cons]
    by_cases h : x = c
    · have e : splF c (o, z) x = (o ++ [z], []) := by simp [splF, h]
      rw [e, ih, unspl_more, h]
      simp
    · have e : splF c (o, z) x = (o, z ++ [x]) := by simp [splF, h]
      rw [e, ih, unspl_snoc]
      simp
theorem unspl_spl (c : UInt8) (l : List UInt8) : unspl c (spl c l) = l := by
  have := unspl_fold c l [] []
  simpa [spl, splS, unspl] using this
/-- Digits that are read are the digits of what is read. -/
theorem dec_back {m : Nat} : ∀ (n : Nat) (l : List UInt8), l.length = n → okD m l = true → Lib.decDigits (valD l) = l := by
  intro n
  induction n with
  | zero =>
    intro l hl h
    have := (okD_iff.1 h).1
    omega
  | succ n ih =>
    intro l hl h
    obtain ⟨h1, h2, h3, h4⟩ := okD_iff.1 h
    have hne : l ≠ [] := fun e => by rw [e] at hl; simp at hl
    obtain ⟨l', x, rfl⟩ : ∃ l' x, l = l' ++ [x] := ⟨l.dropLast, l.getLast hne, (List.dropLast_concat_getLast hne).symm⟩
    have hx := dgB_iff.1 (h4 x (by simp))
    have hxe : UInt8.ofNat (48 + (x.toNat - 48)) = x := by
      have : 48 + (x.toNat - 48) = x.toNat := by omega
      rw [this, UInt8.ofNat_toNat]
    by_cases h0 : l' = []
    · subst h0
      have hv : valD ([] ++ [x]) = x.toNat - 48 := by simp [valD]
      rw [hv, dec_one (by omega), hxe]
      rfl
    · have hl' : 1 ≤ l'.length := by
        cases l' with
        | nil => exact absurd rfl h0
        | cons y t => simp
      have hhd : (l' ++ [x]).headD 0 = l'.headD 0 := by
        cases l' with
        | nil => exact absurd rfl h0
        | cons y t => rfl
      have hnz : ¬ l'.headD 0 = 48 := fun e => h3 ⟨by simp; omega, by rw [hhd]; exact e⟩
      have hok : okD m l' = true := okD_iff.2 ⟨hl', by simp at h2; omega, fun e => hnz e.2, fun y hy => h4 y (by simp [hy])⟩
      have hr := ih l' (by simp at hl; omega) hok
      have hpos : 1 ≤ valD l' := by
        cases hv : valD l' with
        | zero =>
          rw [hv, dec_one (by omega)] at hr
          rw [← hr] at hnz
          exact absurd rfl hnz
        | succ k => omega
      rw [valD_snoc, dec_more (by omega)]
      have e1 : (10 * valD l' + (x.toNat - 48)) / 10 = valD l' := by omega
      have e2 : (10 * valD l' + (x.toNat - 48)) % 10 = x.toNat - 48 := by omega
      rw [e1, e2, hr, hxe]
theorem okD_less {l : List UInt8} (h : okD 9 l = true) (hv : valD l ≤ 9999) : okD 4 l = true := by
  obtain ⟨h1, h2, h3, h4⟩ := okD_iff.1 h
  have hb := dec_back l.length l rfl h
  have := (dec_len hv).2
  rw [hb] at this
  exact okD_iff.2 ⟨h1, this, h3, h4⟩
theorem okD_more {l : List UInt8} (h : okD 4 l = true) : okD 9 l = true ∧ valD l ≤ 9999 := by
  obtain ⟨h1, h2, h3, h4⟩ := okD_iff.1 h
  refine ⟨okD_iff.2 ⟨h1, by omega, h3, h4⟩, ?_⟩
  have h5 := valD_lt h4
  have h6 := Nat.pow_le_pow_right (n := 10) (by decide) h2
  have h7 : (10 : Nat) ^ 4 = 10000 := by decide
  omega
/-- A number that is an id is read as one, and the other way round. -/
theorem num_id (l : List UInt8) : (inR 0 9999 (numI l) = true ∧ rdI l = some (numI l).toNat ∧ Lib.decDigits (numI l).toNat = l) ∨ (inR 0 9999 (numI l) = false ∧ rdI l = none) := by
  by_cases h4 : okD 4 l = true
  · obtain ⟨h9, hv⟩ := okD_more h4
    have hn : numI l = (valD l : Nat) := by rw [numI, h9]; rfl
    left
    rw [hn, Int.toNat_natCast]
    exact ⟨inR_yes (by omega) (by omega), by rw [rdI, h4]; rfl, dec_back l.length l rfl h9⟩
  · right
    have hr : rdI l = none := by
      rw [rdI, if_neg h4]
    refine ⟨?_, hr⟩
    apply inR_no
    rintro ⟨ha, hb⟩
    by_cases h9 : okD 9 l = true
    · have hn : numI l = (valD l : Nat) := by rw [numI, h9]; rfl
      rw [hn] at hb
      exact h4 (okD_less h9 (by omega))
    · have hn : numI l = -1 := by rw [numI, if_neg h9]
      rw [hn] at ha
      omega
/-- Digits of a number: digits alone, none ahead that is 0, and the number again. -/
theorem dec_right : ∀ (m n : Nat), n ≤ m → (∀ x ∈ Lib.decDigits n, dgB x = true) ∧ valD (Lib.decDigits n) = n ∧ (0 < n → (Lib.decDigits n).headD 0 ≠ 48) ∧ Lib.decDigits n ≠ [] := by
  intro m
  induction m with
  | zero =>
    intro n hn
    have : n = 0 := by omega
    subst this
    rw [dec_one (by omega)]
    exact ⟨by decide, by decide, by omega, by decide⟩
  | succ m ih =>
    intro n hn
    have hd : ∀ k, k < 10 → dgB (UInt8.ofNat (48 + k)) = true ∧ (UInt8.ofNat (48 + k)).toNat - 48 = k ∧ (0 < k → UInt8.ofNat (48 + k) ≠ 48) := by decide
    by_cases h : n < 10
    · rw [dec_one h]
      obtain ⟨h1, h2, h3⟩ := hd n h
      refine ⟨fun x hx => ?_, ?_, fun h0 => h3 h0, by simp⟩
      · rw [List.mem_singleton.1 hx]; exact h1
      · simp only [valD, List.foldl_cons, List.foldl_nil]
        omega
    · rw [dec_more h]
      obtain ⟨i1, i2, i3, i4⟩ := ih (n / 10) (by omega)
      obtain ⟨h1, h2, _⟩ := hd (n % 10) (by omega)
      refine ⟨fun x hx => ?_, ?_, fun _ => ?_, by simp⟩
      · rcases List.mem_append.1 hx with hx | hx
        · exact i1 x hx
        · rw [List.mem_singleton.1 hx]; exact h1
      · rw [valD_snoc, i2, h2]
        omega
      · cases e : Lib.decDigits (n / 10) with
        | nil => exact absurd e i4
        | cons y t =>
          have := i3 (by omega)
          rw [e] at this
          exact this
theorem dec_read {n : Nat} (h : n ≤ 9999) : rdI (Lib.decDigits n) = some n ∧ numI (Lib.decDigits n) = n := by
  obtain ⟨h1, h2, h3, h4⟩ := dec_right n n (Nat.le_refl _)
  have hl := dec_len h
  have hok : okD 4 (Lib.decDigits n) = true := okD_iff.2 ⟨hl.1, hl.2, fun ⟨q1, q2⟩ => by
    by_cases h0 : 0 < n
    · exact h3 h0 q2
    · have : n = 0 := by omega
      subst this
      rw [dec_one (by omega)] at q1
      simp at q1, h1⟩
  refine ⟨by rw [rdI, if_pos hok, h2], ?_⟩
  rw [numI, if_pos (okD_more hok).1, h2]
theorem dec_no {n : Nat} {c : UInt8} (hc : dgB c = false) : c ∉ Lib.decDigits n := fun hm => by
  rw [(dec_right n n (Nat.le_refl _)).1 c hm] at hc
  cases hc
theorem spl_last {c : UInt8} {x y : List UInt8} (h : c ∉ y) : spl c (x ++ c :: y) = spl c x ++ [y] := by
  unfold spl splS
  rw [List.foldl_append, List.foldl_cons]
  generalize x.foldl (splF c) ([], []) = s
  have e : splF c s c = (s.1 ++ [s.2], []) := by simp [splF]
  rw [e, splF_fold, splF_none c y h]
  simp
end Go.Proofs.YtgooanaacebncaaDoor
