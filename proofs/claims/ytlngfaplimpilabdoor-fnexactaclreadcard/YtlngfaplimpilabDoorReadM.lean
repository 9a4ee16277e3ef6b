/- Texts of ids cut and read: what is read is told by just that text. -/
import Derived.Test.YtlngfaplimpilabDoorSplitM
import Derived.Test.YtlngfaplimpilabDoorNumM
namespace Go.Proofs.YtlngfaplimpilabDoor
open Go.RowKit Go.PlainAid
set_option linter.unusedVariables false
theorem text_of (s : ByteArray) : (⟨s.data.toList.toArray⟩ : ByteArray) = s := by
  apply ByteArray.ext
  simp
theorem mem_take_idx {l : List UInt8} {c : UInt8} {i : Nat} (h : ∀ k, k < i → l[k]? ≠ some c) : c ∉ l.take i := by
  intro hm
  obtain ⟨k, hk, he⟩ := List.mem_iff_getElem.1 hm
  have hk2 : k < i := by simp at hk; omega
  apply h k hk2
  rw [← he, List.getElem_take, List.getElem?_eq_getElem]
theorem not_mem_idx {l : List UInt8} {c : UInt8} (h : ∀ k : Nat, l[k]? ≠ some c) : c ∉ l := by
  intro hm
  obtain ⟨k, hk, he⟩ := List.mem_iff_getElem.1 hm
  apply h k
  rw [List.getElem?_eq_getElem hk, he]
/-- The library's cut, by one byte, is the same. -/
theorem splitB_spl (c : UInt8) : ∀ (n : Nat) (s : ByteArray), s.size ≤ n → Lib.splitB ⟨#[c]⟩ 0 (Lib.countB s ⟨#[c]⟩) s = bts (spl c s.data.toList) ∧ Lib.countB s ⟨#[c]⟩ + 1 = (spl c s.data.toList).length := by
  intro n
  induction n with
  | zero =>
    intro s hs
    have hl : s.data.toList.length = s.size := (Lib.size_eq s).symm
    have hnil : s.data.toList = [] := List.eq_nil_of_length_eq_zero (by omega)
    have hm : Lib.indexB s ⟨#[c]⟩ = -1 := by
      show Lib.index s.data.toList [c] = -1
      rw [Lib.index_one, hnil]
      rfl
    rw [Lib.countB_miss _ _ hm, Lib.splitB_zero, hnil]
    refine ⟨?_, rfl⟩
    have := text_of s
    rw [hnil] at this
    simp [bts, spl, splS]
    exact this.symm
  | succ n ih =>
    intro s hs
    have hl : s.data.toList.length = s.size := (Lib.size_eq s).symm
    have hone : Lib.indexB s ⟨#[c]⟩ = Lib.indexByte s.data.toList c := Lib.index_one _ _
    rcases Lib.indexB_cases s ⟨#[c]⟩ with hm | ⟨i, hi, hb⟩
    · rw [Lib.countB_miss _ _ hm, Lib.splitB_zero]
      have hno : c ∉ s.data.toList := not_mem_idx (Lib.indexByte_none (by rw [← hone]; exact hm))
      rw [spl_none hno]
      refine ⟨?_, rfl⟩
      simp [bts]
    · have hz : (⟨#[c]⟩ : ByteArray).size = 1 := rfl
      rw [hz] at hb
      obtain ⟨h1, h2⟩ := Lib.indexByte_some (l := s.data.toList) (c := c) (o := i) (by rw [← hone]; exact hi)
      have hil : i < s.data.toList.length := by omega
      have hx : s.data.toList[i] = c := by
        rw [List.getElem?_eq_getElem hil] at h1
        exact Option.some.inj h1
      have hdec : s.data.toList = s.data.toList.take i ++ c :: s.data.toList.drop (i + 1) := by
        rw [← hx, ← List.drop_eq_getElem_cons hil, List.take_append_drop]
      have hrest : (s.extract (i + 1) s.size).data.toList = s.data.toList.drop (i + 1) := by
        rw [cut_text, ← hl, List.take_length]
      have hfirst : s.extract 0 (i + 0) = ⟨(s.data.toList.take i).toArray⟩ := by
        rw [cut_text]
        simp
      have hsz : (s.extract (i + 1) s.size).size ≤ n := by
        rw [ByteArray.size_extract]
        omega
      obtain ⟨e1, e2⟩ := ih _ hsz
      rw [hrest] at e1 e2
      have hc := Lib.countB_hit s ⟨#[c]⟩ i (by rw [hz]; omega) hi
      rw [hz] at hc
      have hspl : spl c s.data.toList = s.data.toList.take i :: spl c (s.data.toList.drop (i + 1)) := by
        have := spl_first (c := c) (a := s.data.toList.take i) (b := s.data.toList.drop (i + 1)) (mem_take_idx h2)
        rwa [← hdec] at this
      rw [hc, Nat.add_comm 1, Lib.splitB_hit _ _ _ _ _ hi, hz, e1, hfirst, hspl]
      refine ⟨by simp [bts], ?_⟩
      simp
      omega
/-- The pieces, put together again. -/
def unspl (c : UInt8) : List (List UInt8) → List UInt8
  | [] => []
  | [x] => x
  | x :: y :: r => x ++ c :: unspl c (y :: r)
theorem unspl_snoc (c : UInt8) (o : List (List UInt8)) (z : List UInt8) (x : UInt8) : unspl c (o ++ [z ++ [x]]) = unspl c (o ++ [z]) ++ [x] := by
  induction o with
  | nil => rfl
  | cons y o ih =>
    cases o with
    | nil => simp [unspl]
    | cons y2 o => simpa [unspl] using ih
theorem unspl_more (c : UInt8) (o : List (List UInt8)) (z : List UInt8) : unspl c (o ++ [z] ++ [[]]) = unspl c (o ++ [z]) ++ [c] := by
  induction o with
  | nil => simp [unspl]
  | cons y o ih =>
    cases o with
    | nil => simp [unspl]
    | cons y2 o => simpa [unspl] using ih
theorem unspl_fold (c : UInt8) (l : List UInt8) : ∀ o z, unspl c ((l.foldl (splF c) (o, z)).1 ++ [(l.foldl (splF c) (o, z)).2]) = unspl c (o ++ [z]) ++ l := by
  induction l with
  | nil => intro o z; simp
  | cons x l ih =>
    intro o z
    simp only [List.foldl_cons]
    by_cases h : x = c
    · have e : splF c (o, z) x = (o ++ [z], []) := by simp [splF, h]
      rw [e, ih, unspl_more, h]
      simp
    · have e : splF c (o, z) x = (o, z ++ [x]) := by simp [splF, h]
      rw [e, ih, unspl_snoc]
      simp
theorem unspl_spl (c : UInt8) (l : List UInt8) : unspl c (spl c l) = l := by
  have := unspl_fold c l [] []
  simpa [spl, splS, unspl] using this
/-- Digits that are read are the digits of what is read. -/
theorem dec_back {m : Nat} : ∀ (n : Nat) (l : List UInt8), l.length = n → okD m l = true → Lib.decDigits (valD l) = l := by
  intro n
  induction n with
  | zero =>
    intro l hl h
    have := (okD_iff.1 h).1
    omega
  | succ n ih =>
    intro l hl h
    obtain ⟨h1, h2, h3, h4⟩ := okD_iff.1 h
    have hne : l ≠ [] := fun e => by rw [e] at hl; simp at hl
    obtain ⟨l', x, rfl⟩ : ∃ l' x, l = l' ++ [x] := ⟨l.dropLast, l.getLast hne, (List.dropLast_concat_getLast hne).symm⟩
    have hx := dgB_iff.1 (h4 x (by simp))
    have hxe : UInt8.ofNat (48 + (x.toNat - 48)) = x := by
      have : 48 + (x.toNat - 48) = x.toNat := by omega
      rw [this, UInt8.ofNat_toNat]
    by_cases h0 : l' = []
    · subst h0
      have hv : valD ([] ++ [x]) = x.toNat - 48 := by simp [valD]
      rw [hv, dec_one (by omega), hxe]
      rfl
    · have hl' : 1 ≤ l'.length := by
        cases l' with
        | nil => exact absurd rfl h0
        | cons y t => simp
      have hhd : (l' ++ [x]).headD 0 = l'.headD 0 := by
        cases l' with
        | nil => exact absurd rfl h0
        | cons y t => rfl
      have hnz : ¬ l'.headD 0 = 48 := fun e => h3 ⟨by simp; omega, by rw [hhd]; exact e⟩
      have hok : okD m l' = true := okD_iff.2 ⟨hl', by simp at h2; omega, fun e => hnz e.2, fun y hy => h4 y (by simp [hy])⟩
      have hr := ih l' (by simp at hl; omega) hok
      have hpos : 1 ≤ valD l' := by
        cases hv : valD l' with
        | zero =>
          rw [hv, dec_one (by omega)] at hr
          rw [← hr] at hnz
          exact absurd rfl hnz
        | succ k => omega
      rw [valD_snoc, dec_more (by omega)]
      have e1 : (10 * valD l' + (x.toNat - 48)) / 10 = valD l' := by omega
      have e2 : (10 * valD l' + (x.toNat - 48)) % 10 = x.toNat - 48 := by omega
      rw [e1, e2, hr, hxe]
theorem okD_less {l : List UInt8} (h : okD 9 l = true) (hv : valD l ≤ 9999) : okD 4 l = true := by
  obtain ⟨h1, h2, h3, h4⟩ := okD_iff.1 h
  have hb := dec_back l.length l rfl h
  have := (dec_len hv).2
  rw [hb] at this
  exact okD_iff.2 ⟨h1, this, h3, h4⟩
theorem okD_more {l : List UInt8} (h : okD 4 l = true) : okD 9 l = true ∧ valD l ≤ 9999 := by
  obtain ⟨h1, h2, h3, h4⟩ := okD_iff.1 h
  refine ⟨okD_iff.2 ⟨h1, by omega, h3, h4⟩, ?_⟩
  have h5 := valD_lt h4
  have h6 := Nat.pow_le_pow_right (n := 10) (by decide) h2
  have h7 : (10 : Nat) ^ 4 = 10000 := by decide
  omega
/-- A number that is an id is read as one, and the other way round. -/
theorem num_id (l : List UInt8) : (inR 0 9999 (numI l) = true ∧ rdI l = some (numI l).toNat ∧ Lib.decDigits (numI l).toNat = l) ∨ (inR 0 9999 (numI l) = false ∧ rdI l = none) := by
  by_cases h4 : okD 4 l = true
  · obtain ⟨h9, hv⟩ := okD_more h4
    have hn : numI l = (valD l : Nat) := by rw [numI, h9]; rfl
    left
    rw [hn, Int.toNat_natCast]
    exact ⟨inR_yes (by omega) (by omega), by rw [rdI, h4]; rfl, dec_back l.length l rfl h9⟩
  · right
    have hr : rdI l = none := by
      rw [rdI, if_neg h4]
    refine ⟨?_, hr⟩
    apply inR_no
    rintro ⟨ha, hb⟩
    by_cases h9 : okD 9 l = true
    · have hn : numI l = (valD l : Nat) := by rw [numI, h9]; rfl
      rw [hn] at hb
      exact h4 (okD_less h9 (by omega))
    · have hn : numI l = -1 := by rw [numI, if_neg h9]
      rw [hn] at ha
      omega
end Go.Proofs.YtlngfaplimpilabDoor
