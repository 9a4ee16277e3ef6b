/- The contract of impl.Unseal: the text whose seal it is, or a code. -/
import Derived.Test.YtdmdnhfoeokfeaaSealWalks
namespace Go.Proofs.Ytdmdnhfoeokfeaa
open Go.RowKit Go.PlainAid
set_option linter.unusedVariables false
/-- All but the last four bytes. -/
def bodyOf (s : ByteArray) : ByteArray := s.extract 0 (s.size - 4)
/-- The last four. -/
def tailOf (s : ByteArray) : ByteArray := s.extract (s.size - 4) s.size
theorem body_size {s : ByteArray} (h : 4 ≤ s.size) : (bodyOf s).size = s.size - 4 := by simp [bodyOf]
theorem body_tail {s : ByteArray} (h : 4 ≤ s.size) : bodyOf s ++ tailOf s = s := by
  have h2 : s.data.size = s.size := rfl
  apply ByteArray.ext
  apply Array.toList_inj.1
  simp [bodyOf, tailOf]
/-- The sum is right: said by the text as a whole, and by its tail. -/
theorem sum_iff {s : ByteArray} (h : 4 ≤ s.size) : sealOf (bodyOf s) = s ↔ (⟨(fourOf (crcOf (bodyOf s) 0)).toArray⟩ : ByteArray) = tailOf s := by
  constructor
  · intro e
    have e2 : bodyOf s ++ ⟨(fourOf (crcOf (bodyOf s) 0)).toArray⟩ = bodyOf s ++ tailOf s := by rw [body_tail h]; exact e
    exact (ByteArray.append_right_inj (bodyOf s)).1 e2
  · intro e
    rw [sealOf, e, body_tail h]
theorem slice_body {s : ByteArray} (h : 4 ≤ s.size) (w : World) : (Instr.slice 9 (.string s) none (some (.int .i64 ((s.size : Int) - 4))) none).run Try.prog w = .ok (.string (bodyOf s)) w := by
  rw [run_slice_string_h (P := Try.prog) w 9 s Try.underlying9 .i64 ((s.size : Int) - 4) (by omega) (by omega)]
  have e : ((s.size : Int) - 4).toNat = s.size - 4 := by omega
  rw [e]
  rfl
theorem below_size {W : World} {o : Obj} {w1 : World} (hb : Below (W.alloc o).heap.size (W.alloc o) w1) : W.heap.size < w1.heap.size := by
  have := hb.size
  simp at this
  omega
theorem below_over {W : World} {c : Array Value} {t : TypeId} {w1 : World} (hb : Below (W.alloc (.cells c t)).heap.size (W.alloc (.cells c t)) w1) : Below W.heap.size W w1 :=
  ((Below.refl _ _).alloc (Nat.le_refl _) _).trans (hb.mono (by simp))
theorem below_then {w w1 w2 : World} (h1 : Below w.heap.size w w1) (h2 : Below w1.heap.size w1 w2) : Below w.heap.size w w2 := h1.trans (h2.mono h1.size)
theorem below_set3 {B b o1 o2 o3 : Nat} {W w1 : World} {x y z : Value} (hb : Below B W w1) (h : B ≤ b := by exact Nat.le_refl _) : Below B W (((w1.setCell ⟨b, o1, none⟩ x).setCell ⟨b, o2, none⟩ y).setCell ⟨b, o3, none⟩ z) :=
  ((hb.setCell h _).setCell h _).setCell h _
/-- An answer of type TextOut. -/
def textV (t : ByteArray) (at_ code : Int) : Value := .agg #[.string t, .int .i64 at_, .int .i64 code]
set_option maxHeartbeats 1000000 in
/-- impl.Unseal, long enough and not too long. -/
theorem iUnseal_in (s : ByteArray) (h4 : 4 ≤ s.size) (hs : s.size ≤ 8000) (w : World) :
    Calls Try.prog 8 #[.string s] w fun e w' => e = .returned (if sealOf (bodyOf s) = s then textV (bodyOf s) 0 0 else textV ⟨#[]⟩ 0 5) ∧ Below w.heap.size w w' := by
  have hz : (bodyOf s).size ≤ 7996 := by rw [body_size h4]; omega
  have hsb := slice_body h4
  by_cases hsum : sealOf (bodyOf s) = s
  · have hT := str_eq hsum
    rw [if_pos hsum]
    clear hsum
    go_enter Try.func8, Try.ntmps8
    go_wp2_with (first | (go_at_call 5; refine (iSeal_yes _ hz _).mono ?_; rintro e w1 ⟨rfl, hb⟩; obtain ⟨hc, hf⟩ := bcell hb; have hz1 := below_size hb) | (go_at_call 17; refine (join_one _ _ (by omega)).mono ?_; rintro e w2 ⟨rfl, hb2⟩; obtain ⟨hc2, hf2⟩ := bcell hb2))
    exact bodyPost_ret (v := textV (bodyOf s) 0 0) (by simp [results, Try.results8, go_sem, hc, hc2, hz1, textV]) rfl ⟨rfl, below_set3 (below_over (hb.trans (hb2.mono hb.size)))⟩
  · have hT := str_ne hsum
    rw [if_neg hsum]
    clear hsum
    go_enter Try.func8, Try.ntmps8
    go_wp2_with (first | (go_at_call 5; refine (iSeal_yes _ hz _).mono ?_; rintro e w1 ⟨rfl, hb⟩; obtain ⟨hc, hf⟩ := bcell hb; have hz1 := below_size hb))
    exact bodyPost_ret (v := textV ⟨#[]⟩ 0 5) (by simp [results, Try.results8, go_sem, hc, textV]) rfl ⟨rfl, below_set3 (below_over hb)⟩
theorem iUnseal_short (s : ByteArray) (h4 : (s.size : Int) < 4) (w : World) :
    Calls Try.prog 8 #[.string s] w fun e w' => e = .returned (textV ⟨#[]⟩ 0 4) ∧ Below w.heap.size w w' := by
  go_enter Try.func8, Try.ntmps8
  go_wp2
  exact bodyPost_ret (v := textV ⟨#[]⟩ 0 4) (by simp [results, Try.results8, go_sem, textV]) rfl ⟨rfl, (Below.refl _ _).alloc (Nat.le_refl _) _⟩
theorem iUnseal_long (s : ByteArray) (h4 : 8000 < (s.size : Int)) (hs : s.size ≤ maxLen) (w : World) :
    Calls Try.prog 8 #[.string s] w fun e w' => e = .returned (textV ⟨#[]⟩ 0 2) ∧ Below w.heap.size w w' := by
  unfold maxLen at hs
  go_enter Try.func8, Try.ntmps8
  go_wp2
  exact bodyPost_ret (v := textV ⟨#[]⟩ 0 2) (by simp [results, Try.results8, go_sem, textV]) rfl ⟨rfl, (Below.refl _ _).alloc (Nat.le_refl _) _⟩
/-- What Unseal comes to. -/
def unsT (s : ByteArray) : ByteArray := if 4 ≤ s.size ∧ s.size ≤ 8000 ∧ sealOf (bodyOf s) = s then bodyOf s else ⟨#[]⟩
def unsC (s : ByteArray) : Int := if 8000 < s.size then 2 else if s.size < 4 then 4 else if sealOf (bodyOf s) = s then 0 else 5
theorem iUnseal_any (s : ByteArray) (hs : s.size ≤ maxLen) (w : World) :
    Calls Try.prog 8 #[.string s] w fun e w' => e = .returned (.agg #[.string (unsT s), .int .i64 0, .int .i64 (unsC s)]) ∧ Below w.heap.size w w' := by
  by_cases h1 : 8000 < s.size
  · have e1 : unsT s = ⟨#[]⟩ := by unfold unsT; rw [if_neg (by omega)]
    have e2 : unsC s = 2 := by unfold unsC; rw [if_pos h1]
    rw [e1, e2]; exact iUnseal_long s (by omega) hs w
  · by_cases h2 : s.size < 4
    · have e1 : unsT s = ⟨#[]⟩ := by unfold unsT; rw [if_neg (by omega)]
      have e2 : unsC s = 4 := by unfold unsC; rw [if_neg h1, if_pos h2]
      rw [e1, e2]; exact iUnseal_short s (by omega) w
    · have h := iUnseal_in s (by omega) (by omega) w
      by_cases hsum : sealOf (bodyOf s) = s
      · have e1 : unsT s = bodyOf s := by unfold unsT; rw [if_pos ⟨by omega, by omega, hsum⟩]
        have e2 : unsC s = 0 := by unfold unsC; rw [if_neg h1, if_neg h2, if_pos hsum]
        rw [if_pos hsum] at h
        rw [e1, e2]; exact h
      · have e1 : unsT s = ⟨#[]⟩ := by unfold unsT; rw [if_neg (fun h => hsum h.2.2)]
        have e2 : unsC s = 5 := by unfold unsC; rw [if_neg h1, if_neg h2, if_neg hsum]
        rw [if_neg hsum] at h
        rw [e1, e2]; exact h
end Go.Proofs.Ytdmdnhfoeokfeaa
