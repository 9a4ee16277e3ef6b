/- Laid together: SplitM, SplB. -/
import Derived.Test.YtgooanaacebncaaDoorRE14
import Derived.Test.YtgooanaacebncaaDoorRE7
/- A text cut at a byte: spec.l01Split. -/
namespace Go.Proofs.YtgooanaacebncaaDoor
open Go.RowKit Go.PlainAid Go.Deep
set_option linter.unusedVariables false
/-- One more byte: the pieces that are done, and the one that is open. -/
def splF (c : UInt8) (s : List (List UInt8) × List UInt8) (x : UInt8) : List (List UInt8) × List UInt8 := if x = c then (s.1 ++ [s.2], []) else (s.1, s.2 ++ [x])
def splS (c : UInt8) (l : List UInt8) : List (List UInt8) × List UInt8 := l.foldl (splF c) ([], [])
/-- The pieces of a text. -/
def spl (c : UInt8) (l : List UInt8) : List (List UInt8) := (splS c l).1 ++ [(splS c l).2]
theorem splS_snoc (c : UInt8) (l : List UInt8) (x : UInt8) : splS c (l ++ [x]) = splF c (splS c l) x := by simp [splS]
theorem splF_len (c : UInt8) (l : List UInt8) : ∀ s : List (List UInt8) × List UInt8, (l.foldl (splF c) s).1.length ≤ s.1.length + l.length := by
  induction l with
  | nil => intro s; simp
  | cons x l ih =>
    intro s
    have h1 := ih (splF c s x)
    have h2 : (splF c s x).1.length ≤ s.1.length + 1 := by
      unfold splF
      split <;> simp
    simp only [List.foldl_cons, List.length_cons]
    omega
theorem splS_len (c : UInt8) (l : List UInt8) : (splS c l).1.length ≤ l.length := by
  have := splF_len c l ([], [])
  simpa [splS] using this
theorem splF_fold (c : UInt8) (l : List UInt8) : ∀ (o : List (List UInt8)) (z : List UInt8), l.foldl (splF c) (o, z) = (o ++ (l.foldl (splF c) ([], z)).1, (l.foldl (splF c) ([], z)).2) := by
  induction l with
  | nil => intro o z; simp
  | cons x l ih =>
    intro o z
    simp only [List.foldl_cons, splF]
    by_cases h : x = c
    · simp only [h, if_pos]
      rw [ih (o ++ [z]) [], ih ([] ++ [z]) []]
      simp
    · simp only [h, if_false]
      exact ih o (z ++ [x])
theorem splF_none (c : UInt8) (a : List UInt8) (h : c ∉ a) : ∀ (z : List UInt8), a.foldl (splF c) ([], z) = ([], z ++ a) := by
  induction a with
  | nil => intro z; simp
  | cons x a ih =>
    intro z
    have hx : ¬ x = c := fun e => h (by simp [e])
    simp only [List.foldl_cons, splF, hx, if_false]
    rw [ih (fun e => h (by simp [e]))]
    simp
theorem spl_none {c : UInt8} {a : List UInt8} (h : c ∉ a) : spl c a = [a] := by
  unfold spl splS
  rw [splF_none c a h]
  simp
theorem spl_first {c : UInt8} {a b : List UInt8} (h : c ∉ a) : spl c (a ++ c :: b) = a :: spl c b := by
  unfold spl splS
  rw [List.foldl_append, splF_none c a h, List.nil_append, List.foldl_cons]
  have e : splF c ([], a) c = ([a], []) := by simp [splF]
  rw [e, splF_fold]
  simp
theorem spl_len (c : UInt8) (l : List UInt8) : (spl c l).length ≤ l.length + 1 := by
  have := splS_len c l
  simp [spl]
  omega
/-- Texts of lists of bytes. -/
def bts (l : List (List UInt8)) : List ByteArray := l.map fun x => ⟨x.toArray⟩
theorem bts_snoc (l : List (List UInt8)) (x : List UInt8) : bts (l ++ [x]) = bts l ++ [⟨x.toArray⟩] := by simp [bts]
theorem bts_len (l : List (List UInt8)) : (bts l).length = l.length := by simp [bts]
theorem cut_text (s : ByteArray) (i j : Nat) : s.extract i j = ⟨((s.data.toList.take j).drop i).toArray⟩ := by
  apply ByteArray.ext
  rw [ByteArray.data_extract]
  apply Array.toList_inj.1
  simp [Array.toList_extract, List.drop_take]
theorem take_next {l : List UInt8} {i : Nat} (h : i < l.length) : l.take (i + 1) = l.take i ++ [l[i]] := by rw [List.take_append_getElem]
/-- What the loop holds at place i. -/
def splAt (c : UInt8) (l : List UInt8) (i fr : Nat) (o : List (List UInt8)) : Prop := splS c (l.take i) = (o, (l.take i).drop fr) ∧ fr ≤ i
theorem splAt_hit {c : UInt8} {l : List UInt8} {i fr : Nat} {o : List (List UInt8)} (h : splAt c l i fr o) (hi : i < l.length) (hx : l[i] = c) : splAt c l (i + 1) (i + 1) (o ++ [(l.take i).drop fr]) := by
  refine ⟨?_, Nat.le_refl _⟩
  rw [take_next hi, splS_snoc, h.1, splF, if_pos hx]
  have e : (l.take i ++ [l[i]]).drop (i + 1) = [] := by
    apply List.drop_eq_nil_of_le
    simp
    omega
  rw [e]
theorem splAt_miss {c : UInt8} {l : List UInt8} {i fr : Nat} {o : List (List UInt8)} (h : splAt c l i fr o) (hi : i < l.length) (hx : ¬ l[i] = c) : splAt c l (i + 1) fr o := by
  have hf := h.2
  refine ⟨?_, by omega⟩
  rw [take_next hi, splS_snoc, h.1, splF, if_neg hx]
  have e : (l.take i ++ [l[i]]).drop fr = (l.take i).drop fr ++ [l[i]] := by
    apply List.drop_append_of_le_length
    simp
    omega
  rw [e]
theorem splAt_end {c : UInt8} {l : List UInt8} {fr : Nat} {o : List (List UInt8)} (h : splAt c l l.length fr o) : o ++ [l.drop fr] = spl c l := by
  have h1 := h.1
  rw [List.take_length] at h1
  rw [spl, h1]
set_option maxRecDepth 100000 in
set_option maxHeartbeats 4000000 in
/-- spec.l01Split. -/
theorem sSplit_any (s : ByteArray) (c : UInt8) (hs : s.size ≤ 100000000) (w : World) :
    Calls Tryd.prog 50 #[.string s, .int .u8 (c.toNat : Int)] w fun e w' => ∃ v, e = .returned v ∧ w'.ownsRow w.heap.size 9 1 v (bts (spl c s.data.toList)).length (tv (bts (spl c s.data.toList))) ∧ Below w.heap.size w w' := by
  have hl : s.data.toList.length = s.size := (Lib.size_eq s).symm
  have hO : Hid ((w.alloc (.cells #[] 9)).ownsRow w.heap.size 9 1 (.slice (some ⟨w.heap.size, 0, none⟩) 0 0) (bts []).length (tv (bts []))) := World.ownsRow_made w #[] 0 (Nat.le_refl _) (by unfold maxLen; omega) rfl
  have hB0 : Hid (Below w.heap.size w (w.alloc (.cells #[] 9))) := bel_alloc _ _
  have HL : Hid (s.data.toList.length = s.size) := hl
  clear hl
  go_enter Tryd.func50, Tryd.ntmps50
  go_wp2
  go_loopw [5, 6, 7] (fun v f i wr => ∃ (k fr : Nat) (o : List (List UInt8)), k ≤ s.size ∧ fr ≤ k ∧ f = .int .i64 fr ∧ i = .int .i64 k ∧ Hid (splAt c s.data.toList k fr o) ∧ Hid (o.length ≤ k) ∧ Hid (wr.ownsRow w.heap.size 9 1 v (bts o).length (tv (bts o))) ∧ Hid (Below w.heap.size w wr)) (fun _ _ i _ => s.size - (intOf i).toNat)
  case atStart => exact ⟨0, 0, [], Nat.zero_le _, Nat.le_refl _, rfl, rfl, ⟨rfl, Nat.le_refl _⟩, Nat.le_refl _, hO, hB0⟩
  case round =>
    obtain ⟨k, fr, o, hk, hfr, rfl, rfl, hA, hol, hOw, hB⟩ := hrel
    by_cases hlt : k < s.size
    · have hlt' : (k : Int) < (s.size : Int) := by omega
      have hix : s.data.toList[k]'(by rw [HL.out]; exact hlt) = s[k] := rfl
      by_cases hx : s[k] = c
      · have hA2 : Hid (splAt c s.data.toList (k + 1) (k + 1) (o ++ [(s.data.toList.take k).drop fr])) := splAt_hit hA.out (by rw [HL.out]; exact hlt) (hix.trans hx)
        have heq : (((s[k]).toNat : Int) == (c.toNat : Int)) = true := by rw [hx]; simp
        have hcut : s.extract fr k = ⟨((s.data.toList.take k).drop fr).toArray⟩ := cut_text s fr k
        obtain ⟨v2, w2, hr, hO2, hB2⟩ := append_text w wr u5 (bts o) hOw.out hB.out (s.extract fr k) (by rw [bts_len]; have := hol.out; omega)
        have HO2 : Hid (w2.ownsRow w.heap.size 9 1 v2 (bts (o ++ [(s.data.toList.take k).drop fr])).length (tv (bts (o ++ [(s.data.toList.take k).drop fr])))) := (by show World.ownsRow _ _ _ _ _ _ _; rw [bts_snoc, ← hcut]; exact hO2)
        have HB2 : Hid (Below w.heap.size w w2) := hB2
        have hol2 : Hid ((o ++ [(s.data.toList.take k).drop fr]).length ≤ k + 1) := (by show _ ≤ _; have := hol.out; simp; omega)
        have hfk : (fr : Int) ≤ (k : Int) := by omega
        clear hcut hO2 hB2 hOw hB hA hix hol hx
        go_wp2_with (at_builtin; refine wpList_append_runT _ rfl (.tmp 20) (.tmp 25) 64 64 rfl _ _ _ _ rfl rfl hr ?_)
        go_roundw
        case rel => exact ⟨k + 1, k + 1, _, by omega, Nat.le_refl _, by go_num, by go_num, hA2, hol2, HO2, HB2⟩
        case measure => simp [intOf]; omega
      · have hA2 : Hid (splAt c s.data.toList (k + 1) fr o) := splAt_miss hA.out (by rw [HL.out]; exact hlt) (fun e => hx (hix.symm.trans e))
        have hne : (((s[k]).toNat : Int) == (c.toNat : Int)) = false := by
          cases e : (((s[k]).toNat : Int) == (c.toNat : Int))
          · rfl
          · exact absurd (UInt8.toNat_inj.1 (by have := beq_iff_eq.1 e; omega)) hx
        have hol2 : Hid (o.length ≤ k + 1) := Nat.le_succ_of_le hol.out
        clear hA hix hol hx
        go_wp2
        go_roundw
        case rel => exact ⟨k + 1, fr, o, by omega, by omega, rfl, by go_num, hA2, hol2, hOw, hB⟩
        case measure => simp [intOf]; omega
    · have : k = s.size := by omega
      subst this
      have hE : o ++ [s.data.toList.drop fr] = spl c s.data.toList := splAt_end (by rw [HL.out]; exact hA.out)
      have hcut : s.extract fr s.size = ⟨(s.data.toList.drop fr).toArray⟩ := by
        rw [cut_text, ← HL.out, List.take_length]
      obtain ⟨v2, w2, hr, hO2, hB2⟩ := append_text w wr u5 (bts o) hOw.out hB.out (s.extract fr s.size) (by rw [bts_len]; have := hol.out; omega)
      have HO2 : Hid (w2.ownsRow w.heap.size 9 1 v2 (bts (spl c s.data.toList)).length (tv (bts (spl c s.data.toList)))) := (by show World.ownsRow _ _ _ _ _ _ _; rw [← hE, bts_snoc, ← hcut]; exact hO2)
      have HB2 : Hid (Below w.heap.size w w2) := hB2
      have hfk : (fr : Int) ≤ (s.size : Int) := by omega
      clear hcut hO2 hB2 hOw hB hA hE hol
      go_wp2_with (at_builtin; refine wpList_append_runT _ rfl (.tmp 29) (.tmp 33) 64 64 rfl _ _ _ _ rfl rfl hr ?_)
      go_ret
      exact ⟨_, rfl, HO2.out, HB2.out⟩
end Go.Proofs.YtgooanaacebncaaDoor
/- The library's cut of a text by one byte is the pieces of it. -/
namespace Go.Proofs.YtgooanaacebncaaDoor
open Go.RowKit Go.PlainAid
set_option linter.unusedVariables false
theorem text_of (s : ByteArray) : (⟨s.data.toList.toArray⟩ : ByteArray) = s := by
  apply ByteArray.ext
  simp
theorem mem_take_idx {l : List UInt8} {c : UInt8} {i : Nat} (h : ∀ k, k < i → l[k]? ≠ some c) : c ∉ l.take i := by
  intro hm
  obtain ⟨k, hk, he⟩ := List.mem_iff_getElem.1 hm
  have hk2 : k < i := by simp at hk; omega
  apply h k hk2
  rw [← he, List.getElem_take, List.getElem?_eq_getElem]
theorem not_mem_idx {l : List UInt8} {c : UInt8} (h : ∀ k : Nat, l[k]? ≠ some c) : c ∉ l := by
  intro hm
  obtain ⟨k, hk, he⟩ := List.mem_iff_getElem.1 hm
  apply h k
  rw [List.getElem?_eq_getElem hk, he]
/-- The library's cut, by one byte, is the same. -/
theorem splitB_spl (c : UInt8) : ∀ (n : Nat) (s : ByteArray), s.size ≤ n → Lib.splitB ⟨#[c]⟩ 0 (Lib.countB s ⟨#[c]⟩) s = bts (spl c s.data.toList) ∧ Lib.countB s ⟨#[c]⟩ + 1 = (spl c s.data.toList).length := by
  intro n
  induction n with
  | zero =>
    intro s hs
    have hl : s.data.toList.length = s.size := (Lib.size_eq s).symm
    have hnil : s.data.toList = [] := List.eq_nil_of_length_eq_zero (by omega)
    have hm : Lib.indexB s ⟨#[c]⟩ = -1 := by
      show Lib.index s.data.toList [c] = -1
      rw [Lib.index_one, hnil]
      rfl
    rw [Lib.countB_miss _ _ hm, Lib.splitB_zero, hnil]
    refine ⟨?_, rfl⟩
    have := text_of s
    rw [hnil] at this
    simp [bts, spl, splS]
    exact this.symm
  | succ n ih =>
    intro s hs
    have hl : s.data.toList.length = s.size := (Lib.size_eq s).symm
    have hone : Lib.indexB s ⟨#[c]⟩ = Lib.indexByte s.data.toList c := Lib.index_one _ _
    rcases Lib.indexB_cases s ⟨#[c]⟩ with hm | ⟨i, hi, hb⟩
    · rw [Lib.countB_miss _ _ hm, Lib.splitB_zero]
      have hno : c ∉ s.data.toList := not_mem_idx (Lib.indexByte_none (by rw [← hone]; exact hm))
      rw [spl_none hno]
      refine ⟨?_, rfl⟩
      simp [bts]
    · have hz : (⟨#[c]⟩ : ByteArray).size = 1 := rfl
      rw [hz] at hb
      obtain ⟨h1, h2⟩ := Lib.indexByte_some (l := s.data.toList) (c := c) (o := i) (by rw [← hone]; exact hi)
      have hil : i < s.data.toList.length := by omega
      have hx : s.data.toList[i] = c := by
        rw [List.getElem?_eq_getElem hil] at h1
        exact Option.some.inj h1
      have hdec : s.data.toList = s.data.toList.take i ++ c :: s.data.toList.drop (i + 1) := by
        rw [← hx, ← List.drop_eq_getElem_cons hil, List.take_append_drop]
      have hrest : (s.extract (i + 1) s.size).data.toList = s.data.toList.drop (i + 1) := by
        rw [cut_text, ← hl, List.take_length]
      have hfirst : s.extract 0 (i + 0) = ⟨(s.data.toList.take i).toArray⟩ := by
        rw [cut_text]
        simp
      have hsz : (s.extract (i + 1) s.size).size ≤ n := by
        rw [ByteArray.size_extract]
        omega
      obtain ⟨e1, e2⟩ := ih _ hsz
      rw [hrest] at e1 e2
      have hc := Lib.countB_hit s ⟨#[c]⟩ i (by rw [hz]; omega) hi
      rw [hz] at hc
      have hspl : spl c s.data.toList = s.data.toList.take i :: spl c (s.data.toList.drop (i + 1)) := by
        have := spl_first (c := c) (a := s.data.toList.take i) (b := s.data.toList.drop (i + 1)) (mem_take_idx h2)
        rwa [← hdec] at this
      rw [hc, Nat.add_comm 1, Lib.splitB_hit _ _ _ _ _ hi, hz, e1, hfirst, hspl]
      refine ⟨by simp [bts], ?_⟩
      simp
      omega
end Go.Proofs.YtgooanaacebncaaDoor
