/- An answer with a list in order: two cells that may be written. -/
import Derived.Test.YtddkmlkfphmdoaaDoorAnsL
import Derived.Test.YtddkmlkfphmdoaaDoorAceCat
namespace Go.Proofs.YtddkmlkfphmdoaaDoor
open Go.RowKit Go.PlainAid Go.Deep
set_option linter.unusedVariables false
def AnsP (p : List Ac × Int) (w : World) (e : Ending) (w' : World) : Prop := AnsN p.1 p.2 w e w'
theorem ansP_ill {p : List Ac × Int} {c : Int} (h : p = ([], c)) {w w' : World} (hb : Below w.heap.size w w') : AnsP p w (.returned (.agg #[.slice none 0 0, .int .i64 c])) w' := by
  subst h
  exact ⟨none, 0, rfl, newA_nil hb⟩
theorem ansP_of {p : List Ac × Int} {xs : List Ac} {c : Int} (h : p = (xs, c)) {n : Nat} (hn : xs.length = n) {w w' : World} {a : Option Addr} {cp : Nat} (hN : NewA w w' a n xs) : AnsP p w (.returned (.agg #[.slice a n cp, .int .i64 c])) w' := by
  subst h
  subst hn
  exact ⟨a, cp, rfl, hN⟩
/-- Two cells that may be written: an empty answer. -/
structure Wr2 (w : World) (b : Nat) : Prop where
  lt : b < w.heap.size
  c0 : w.cell? ⟨b, 0, none⟩ = some (.slice none 0 0)
  c1 : w.cell? ⟨b, 1, none⟩ = some (.int .i64 0)
  z : ∀ o, w.frozen? ⟨b, o, none⟩ = false
theorem Wr2.below {w w' : World} {b : Nat} (h : Wr2 w b) (hb : Below w.heap.size w w') : Wr2 w' b := by
  have hc := fun o => hb.cell (p := ⟨b, o, none⟩) h.lt
  exact ⟨Nat.lt_of_lt_of_le h.lt hb.size, (hc 0).trans h.c0, (hc 1).trans h.c1, fun o => (hb.frozen (p := ⟨b, o, none⟩) h.lt).trans (h.z o)⟩
theorem wr2_new (w : World) (t : TypeId) : Wr2 (w.alloc (.cells #[.slice none 0 0, .int .i64 0] t)) w.heap.size := by
  have hb : (w.alloc (.cells #[.slice none 0 0, .int .i64 0] t)).heap[w.heap.size]? = some (.cells #[.slice none 0 0, .int .i64 0] t) := by
    rw [World.alloc]
    exact Array.getElem?_push_size
  refine ⟨by simp, ?_, ?_, fun o => ?_⟩
  · simp only [World.cell?, hb]; rfl
  · simp only [World.cell?, hb]; rfl
  · unfold World.frozen?
    simp only [hb]
    simp
theorem sIll5_any (c : Int) (w : World) :
    Calls Tryd.prog 13 #[.int .i64 c] w fun e w' => e = .returned (.agg #[.slice none 0 0, .int .i64 c]) ∧ Below w.heap.size w w' := by
  go_enter Tryd.func13, Tryd.ntmps13
  go_wp2
  exact bodyPost_ret (v := .agg #[.slice none 0 0, .int .i64 c]) (by simp [results, Tryd.results13, go_sem]) rfl ⟨rfl, bel_alloc _ _⟩
end Go.Proofs.YtddkmlkfphmdoaaDoor
