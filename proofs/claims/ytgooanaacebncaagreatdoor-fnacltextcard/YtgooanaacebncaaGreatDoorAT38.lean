/- Laid together: AclTextM. -/
import Derived.Test.YtgooanaacebncaaGreatDoorAT37
import Derived.Test.YtgooanaacebncaaGreatDoorAT36
/- The mathematics of FnAclText: a list of names comes back from its text and from its bytes; what is read of a text is told by just that text. -/
namespace Go.Proofs.YtgooanaacebncaaGreatDoor
open Go.RowKit Go.PlainAid
set_option linter.unusedVariables false
def Al.A (a : Al) : Ans := ⟨a.u, a.g, a.o, a.us, a.gs, a.r, a.m, 0⟩
theorem bytes_ext {s t : ByteArray} (h : s.data.toList = t.data.toList) : s = t := by
  apply ByteArray.ext
  apply Array.toList_inj.1
  exact h
theorem size_list (s : ByteArray) : s.size = s.data.toList.length := Lib.size_eq s
theorem text_no {A : Al} (h : A.B = false) : A.T = ⟨#[]⟩ := by
  have h2 : aclB A.u A.g A.o A.us A.gs A.r A.m = false := h
  rw [Al.T, aclT, h2]
  rfl
theorem text_yes {A : Al} (h : A.B = true) (hz : A.T.size ≤ 8000) : aclO A.T.data.toList = A.A ∧ A.T ≠ ⟨#[]⟩ := by
  have hs := acl_text h
  have hb := acl_back h
  have hr : rdA A.T.data.toList = A := by rw [rdA, hs]; exact hb.1
  have h8 : ¬ 8000 < A.T.data.toList.length := by rw [← size_list]; omega
  refine ⟨?_, fun e => ?_⟩
  · rw [aclO, if_neg h8, if_pos ⟨by rw [hs]; exact fun p hp => (hb.2.1 p hp).1, by rw [hr]⟩, hr]
    rfl
  · rw [e] at hs
    have h3 : spl 44 ([] : List UInt8) = [[]] := rfl
    have h4 : spl 44 (⟨#[]⟩ : ByteArray).data.toList = [[]] := h3
    rw [h4] at hs
    have := (hb.2.1 [] (by rw [← hs]; simp)).1
    revert this
    decide
theorem read_back {s : ByteArray} (h : (aclO s.data.toList).code = 0) : ∃ A : Al, A.B = true ∧ aclO s.data.toList = A.A ∧ A.T = s := by
  by_cases h8 : 8000 < s.data.toList.length
  · rw [aclO_long h8] at h; cases h
  rcases acl_key s.data.toList with ⟨a, h1, h2, h3, h4, h5, h6⟩ | ⟨h1, h2⟩
  · refine ⟨a, h1, ?_, bytes_ext h2⟩
    rw [aclO, if_neg h8, if_pos ⟨h3, by rw [h4]; exact h2⟩, h4]
    rfl
  · rw [aclO, if_neg h8, if_neg h1] at h; cases h
theorem byt_no {A : Al} (h : A.B = false) : alT A = ⟨#[]⟩ := by
  apply bytes_ext
  rw [alT_Y, Al.Y, h]
  rfl
theorem byt_yes {A : Al} (h : A.B = true) : afO (alT A) = A.A ∧ alT A ≠ ⟨#[]⟩ := by
  have hY : A.Y = (alT A).data.toList := (alT_Y A).symm
  have hl := Y_len A
  have hz : (alT A).size = A.Y.length := by rw [size_list, alT_Y]
  have hyc : A.Y = 2 :: flE A.E := by rw [Al.Y, if_pos h]
  have h3 := hY
  rw [hyc] at h3
  have hl3 := congrArg List.length h3
  rw [List.length_cons, flE_len] at hl3
  have hzs : (alT A).size = 4 * A.E.length + 1 := by rw [size_list]; omega
  have hn : nE (alT A) = A.E.length := by unfold nE; omega
  have hf := fB_E h3.symm (E_ok h) A.E.length (Nat.le_refl _)
  rw [List.take_length, E_back h] at hf
  have hb0 : byte (alT A) 0 = 2 := byte_at (x := 2) (by rw [← h3]; rfl)
  refine ⟨?_, fun e => ?_⟩
  · rw [afO, if_neg (by omega), if_neg (by omega), if_neg (by simpa using hb0), hn, hf, if_pos hY]
    rfl
  · rw [e] at hzs
    have : (⟨#[]⟩ : ByteArray).size = 0 := rfl
    omega
theorem from_back {s : ByteArray} (h : (afO s).code = 0) : ∃ A : Al, A.B = true ∧ afO s = A.A ∧ alT A = s := by
  by_cases h8 : 8000 < s.size
  · rw [afO, if_pos h8] at h; cases h
  by_cases h0 : s.size = 0
  · rw [afO, if_neg h8, if_pos h0] at h; cases h
  by_cases h2 : byte s 0 = 2
  · rcases acl_bkey s with ⟨a, h1, h3, h4, h5⟩ | hk
    · refine ⟨a, h1, ?_, alT_eq.2 h3⟩
      rw [afO, if_neg h8, if_neg h0, if_neg (by simpa using h2), h4, if_pos h3]
      rfl
    · have hne : s.data.toList ≠ [] := by
        intro e
        have := size_list s
        rw [e] at this
        exact h0 this
      rw [afO, if_neg h8, if_neg h0, if_neg (by simpa using h2), if_neg (fun e => hne (hk _ e))] at h
      cases h
  · rw [afO, if_neg h8, if_neg h0, if_pos h2] at h; cases h
theorem aclO_small (t : List UInt8) : (aclO t).us.length ≤ 1048576 ∧ (aclO t).gs.length ≤ 1048576 := by
  by_cases h : (aclO t).code = 0
  · obtain ⟨A, hB, e, _⟩ := read_back (s := ⟨t.toArray⟩) (by simpa using h)
    have e2 : aclO t = A.A := by simpa using e
    rw [e2]
    have hB' : aclB A.u A.g A.o A.us A.gs A.r A.m = true := hB
    obtain ⟨_, _, _, _, n1, n2⟩ := aclB_parts hB'
    have l1 := nm_len n1
    have l2 := nm_len n2
    exact ⟨by show A.us.length ≤ 1048576; omega, by show A.gs.length ≤ 1048576; omega⟩
  · unfold aclO at h ⊢
    split
    · exact ⟨Nat.zero_le _, Nat.zero_le _⟩
    · split
      · rename_i h1 h2
        rw [if_neg h1, if_pos h2] at h
        exact absurd rfl h
      · exact ⟨Nat.zero_le _, Nat.zero_le _⟩
theorem afO_small (s : ByteArray) : (afO s).us.length ≤ 1048576 ∧ (afO s).gs.length ≤ 1048576 := by
  by_cases h : (afO s).code = 0
  · obtain ⟨A, hB, e, _⟩ := from_back h
    rw [e]
    have hB' : aclB A.u A.g A.o A.us A.gs A.r A.m = true := hB
    obtain ⟨_, _, _, _, n1, n2⟩ := aclB_parts hB'
    have l1 := nm_len n1
    have l2 := nm_len n2
    exact ⟨by show A.us.length ≤ 1048576; omega, by show A.gs.length ≤ 1048576; omega⟩
  · unfold afO at h ⊢
    split
    · exact ⟨Nat.zero_le _, Nat.zero_le _⟩
    · split
      · exact ⟨Nat.zero_le _, Nat.zero_le _⟩
      · split
        · exact ⟨Nat.zero_le _, Nat.zero_le _⟩
        · split
          · rename_i h1 h2 h3 h4
            rw [if_neg h1, if_neg h2, if_neg h3, if_pos h4] at h
            exact absurd rfl h
          · exact ⟨Nat.zero_le _, Nat.zero_le _⟩
end Go.Proofs.YtgooanaacebncaaGreatDoor
