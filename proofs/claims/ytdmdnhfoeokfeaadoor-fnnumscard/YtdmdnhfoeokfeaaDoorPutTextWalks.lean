/- The contracts of spec.PutText and impl.PutText: the bytes of the length, and the text. -/
import Derived.Test.YtdmdnhfoeokfeaaDoorPutNumWalks
import Derived.Test.YtdmdnhfoeokfeaaDoorJoin2
namespace Go.Proofs.YtdmdnhfoeokfeaaDoor
open Go.RowKit Go.PlainAid
set_option linter.unusedVariables false
/-- The bytes of a number, as a text. -/
def numT (n : Int) : ByteArray := ⟨(enc (foldN n)).toArray⟩
theorem numT_size {n : Int} (h1 : -9223372036854775808 ≤ n) (h2 : n ≤ 9223372036854775807) : (numT n).size ≤ 10 := by
  have := enc_ten (fold_le h1 h2)
  simpa [numT, ByteArray.size] using this
theorem sPutNum_t (n : Int) (h1 : -9223372036854775808 ≤ n) (h2 : n ≤ 9223372036854775807) (w : World) :
    Calls Tryd.prog 6 #[.int .i64 n] w fun e w' => e = .returned (.string (numT n)) ∧ Below w.heap.size w w' := sPutNum_any n h1 h2 w
theorem iPutNum_t (n : Int) (h1 : -9223372036854775808 ≤ n) (h2 : n ≤ 9223372036854775807) (w : World) :
    Calls Tryd.prog 5 #[.int .i64 n] w fun e w' => e = .returned (.string (numT n)) ∧ Below w.heap.size w w' := iPutNum_any n h1 h2 w
set_option maxHeartbeats 400000 in
theorem sPutText_yes (s : ByteArray) (hs : s.size ≤ 8000) (w : World) :
    Calls Tryd.prog 10 #[.string s] w fun e w' => e = .returned (.string (numT s.size ++ s)) ∧ Below w.heap.size w w' := by
  have hl : (numT s.size).size ≤ 10 := numT_size (by omega) (by omega)
  go_enter Tryd.func10, Tryd.ntmps10
  go_wp2_with (go_at_call 6; refine (sPutNum_t _ (by omega) (by omega) _).mono ?_; rintro e w1 ⟨rfl, hb⟩)
  go_ret
  exact ⟨rfl, hb⟩
set_option maxHeartbeats 400000 in
theorem iPutText_yes (s : ByteArray) (hs : s.size ≤ 8000) (w : World) :
    Calls Tryd.prog 9 #[.string s] w fun e w' => e = .returned (.string (numT s.size ++ s)) ∧ Below w.heap.size w w' := by
  have hl : (numT s.size).size ≤ 10 := numT_size (by omega) (by omega)
  go_enter Tryd.func9, Tryd.ntmps9
  go_wp2_with (first | (go_at_call 5; refine (iPutNum_t _ (by omega) (by omega) _).mono ?_; rintro e w1 ⟨rfl, hb⟩) | (go_at_call 20; refine (join_two _ _ _ (by omega)).mono ?_; rintro e w2 ⟨rfl, hb2⟩))
  go_ret
  exact ⟨rfl, hb.trans (hb2.mono hb.size)⟩
theorem sPutText_no (s : ByteArray) (h : 8000 < (s.size : Int)) (hs : s.size ≤ maxLen) (w : World) :
    Calls Tryd.prog 10 #[.string s] w fun e w' => e = .returned (.string ⟨#[]⟩) ∧ Below w.heap.size w w' := by
  unfold maxLen at hs
  go_enter Tryd.func10, Tryd.ntmps10
  go_wp2
  go_ret
  exact ⟨rfl, Below.refl _ _⟩
theorem iPutText_no (s : ByteArray) (h : 8000 < (s.size : Int)) (hs : s.size ≤ maxLen) (w : World) :
    Calls Tryd.prog 9 #[.string s] w fun e w' => e = .returned (.string ⟨#[]⟩) ∧ Below w.heap.size w w' := by
  unfold maxLen at hs
  go_enter Tryd.func9, Tryd.ntmps9
  go_wp2
  go_ret
  exact ⟨rfl, Below.refl _ _⟩
end Go.Proofs.YtdmdnhfoeokfeaaDoor
