/- impl.withNamed, spec.l03Put: an entry put in its place. -/
import Derived.Test.YtgojbilbkfilgaaSDrop
namespace Go.Proofs.Ytgojbilbkfilgaa
open Go.RowKit Go.PlainAid Go.Deep
set_option linter.unusedVariables false
/-- The list with an entry in its place. -/
def putL (l : List (Int × Int)) (id bt : Int) : List (Int × Int) := l.take (plc l id) ++ [(id, bt)] ++ l.drop (plc l id + (if fnd l id then 1 else 0))
def putN (l : List (Int × Int)) (id : Int) : Nat := l.length + 1 - (if fnd l id then 1 else 0)
theorem putL_len (l : List (Int × Int)) (id bt : Int) : (putL l id bt).length = putN l id := by
  have h := plc_le l id
  unfold putL putN
  cases hf : fnd l id
  · simp; omega
  · have := fnd_lt hf
    simp; omega
/-- What is there already is put in: the list is as it was. -/
theorem putL_same {l : List (Int × Int)} {id bt : Int} (hf : fnd l id = true) (hb : btAt l (plc l id) = bt) : putL l id bt = l := by
  have hlt := fnd_lt hf
  have hi : idAt l (plc l id) = id := by
    unfold fnd at hf
    simp at hf
    exact hf.2
  have he : (id, bt) = l[plc l id] := by
    rw [idAt_get hlt] at hi
    rw [btAt_get hlt] at hb
    exact Prod.ext hi.symm hb.symm
  unfold putL
  rw [hf, he]
  simp only [if_pos]
  rw [List.append_assoc, List.singleton_append, ← List.drop_eq_getElem_cons hlt, List.take_append_drop]
set_option maxRecDepth 100000 in
set_option maxHeartbeats 4000000 in
/-- impl.spliced of a list that is empty. -/
theorem spliced_zero (a : Option Addr) (cap : Nat) (ai : Option Addr) (li ci : Nat) (ins : List (Int × Int)) (hli : li ≤ 1000) (w : World) (hi : Prs ai li ins w) :
    Calls Try.prog 118 #[.slice a 0 cap, .int .i64 0, .int .i64 0, .slice ai li ci] w fun e w' => ∃ a c, e = .returned (.slice a li c) ∧ Own a li ins w' ∧ (∀ Ad, a = some Ad → w.heap.size ≤ Ad.block ∧ Ad.block < w'.heap.size) ∧ Below w.heap.size w w' := by
  have HI : Hid (Prs ai li ins w) := hi
  have k1 : (0 : Int) ≤ (cap : Int) := by omega
  clear hi
  cases a with
  | none =>
    go_enter Try.func118, Try.ntmps118
    go_wp2_with fail
    all_goals (
      refine (concat_tri w w.heap.size rfl 23 3 _ 0 _ [] ai li ci ins _ 0 _ [] (by omega) ⟨rfl, fun h => absurd h (by omega)⟩ HI.out ⟨rfl, fun h => absurd h (by omega)⟩).mono ?_
      rintro e w1 ⟨a, c, rfl, hca, ho, hin, hbl⟩
      have R : Hid (Own a li ins w1 ∧ (∀ Ad, a = some Ad → w.heap.size ≤ Ad.block ∧ Ad.block < w1.heap.size) ∧ Below w.heap.size w w1) := ⟨by simpa using ho, hin, hbl⟩
      clear ho hin hbl HI hca
      simp only [Nat.zero_add, Nat.add_zero]
      go_wp2
      go_ret
      exact ⟨a, c, rfl, R.out⟩)
  | some A =>
    go_enter Try.func118, Try.ntmps118
    go_wp2_with fail
    all_goals (
      refine (concat_tri w w.heap.size rfl 23 3 _ 0 _ [] ai li ci ins _ 0 _ [] (by omega) ⟨rfl, fun h => absurd h (by omega)⟩ HI.out ⟨rfl, fun h => absurd h (by omega)⟩).mono ?_
      rintro e w1 ⟨a, c, rfl, hca, ho, hin, hbl⟩
      have R : Hid (Own a li ins w1 ∧ (∀ Ad, a = some Ad → w.heap.size ≤ Ad.block ∧ Ad.block < w1.heap.size) ∧ Below w.heap.size w w1) := ⟨by simpa using ho, hin, hbl⟩
      clear ho hin hbl HI hca
      simp only [Nat.zero_add, Nat.add_zero]
      go_wp2
      go_ret
      exact ⟨a, c, rfl, R.out⟩)
end Go.Proofs.Ytgojbilbkfilgaa
