/- modeAces of the program. -/
import Derived.Test.YtddkmlkfphmdoaaDoorChmodN2
import Derived.Test.YtddkmlkfphmdoaaDoorAceConcat
import Derived.Test.YtddkmlkfphmdoaaDoorAclOfWalks
namespace Go.Proofs.YtddkmlkfphmdoaaDoor
open Go.RowKit Go.PlainAid Go.Deep
set_option linter.unusedVariables false
/-- The owner's two. -/
def ownL (u : Int) : List Ac := [⟨true, 1, 0, 0, bits .or .i64 (bits .or .i64 (bitsZ u) 32) 64⟩, ⟨false, 1, 0, 0, bitsZ (7 - u)⟩]
/-- The last three. -/
def rstL (g o : Int) : List Ac := [⟨true, 2, 0, 0, bitsZ g⟩, ⟨false, 2, 0, 0, bitsZ (7 - g)⟩, ⟨true, 3, 0, 0, bits .or .i64 (bitsZ o) 32⟩]
/-- modeAces. -/
def moL (l : List Ac) (u g o : Int) : List Ac := hdTo l l.length ++ ownL u ++ (fltP nmdB l l.length).map (ctA g) ++ rstL g o
theorem acs_two (w : World) (x y : Ac) (t : TypeId) : Acs (some ⟨w.heap.size, 0, none⟩) 2 [x, y] (w.alloc (.cells #[.bool x.al, .int .i64 x.wh, .int .i64 x.id, .int .i64 x.fl, .int .i64 x.ma, .bool y.al, .int .i64 y.wh, .int .i64 y.id, .int .i64 y.fl, .int .i64 y.ma] t)) := by
  refine ⟨rfl, fun _ => ⟨w.heap.size, 0, rfl, by simp, fun i hi => ?_⟩⟩
  have hb : (w.alloc (.cells #[.bool x.al, .int .i64 x.wh, .int .i64 x.id, .int .i64 x.fl, .int .i64 x.ma, .bool y.al, .int .i64 y.wh, .int .i64 y.id, .int .i64 y.fl, .int .i64 y.ma] t)).heap[w.heap.size]? = some (.cells #[.bool x.al, .int .i64 x.wh, .int .i64 x.id, .int .i64 x.fl, .int .i64 x.ma, .bool y.al, .int .i64 y.wh, .int .i64 y.id, .int .i64 y.fl, .int .i64 y.ma] t) := World.alloc_heap_new w _
  rcases (by omega : i = 0 ∨ i = 1) with rfl | rfl <;> refine ⟨?_, ?_, ?_, ?_, ?_⟩ <;> (simp only [World.cell?, hb]; rfl)
theorem acs_three (w : World) (x y z : Ac) (t : TypeId) : Acs (some ⟨w.heap.size, 0, none⟩) 3 [x, y, z] (w.alloc (.cells #[.bool x.al, .int .i64 x.wh, .int .i64 x.id, .int .i64 x.fl, .int .i64 x.ma, .bool y.al, .int .i64 y.wh, .int .i64 y.id, .int .i64 y.fl, .int .i64 y.ma, .bool z.al, .int .i64 z.wh, .int .i64 z.id, .int .i64 z.fl, .int .i64 z.ma] t)) := by
  refine ⟨rfl, fun _ => ⟨w.heap.size, 0, rfl, by simp, fun i hi => ?_⟩⟩
  have hb : (w.alloc (.cells #[.bool x.al, .int .i64 x.wh, .int .i64 x.id, .int .i64 x.fl, .int .i64 x.ma, .bool y.al, .int .i64 y.wh, .int .i64 y.id, .int .i64 y.fl, .int .i64 y.ma, .bool z.al, .int .i64 z.wh, .int .i64 z.id, .int .i64 z.fl, .int .i64 z.ma] t)).heap[w.heap.size]? = some (.cells #[.bool x.al, .int .i64 x.wh, .int .i64 x.id, .int .i64 x.fl, .int .i64 x.ma, .bool y.al, .int .i64 y.wh, .int .i64 y.id, .int .i64 y.fl, .int .i64 y.ma, .bool z.al, .int .i64 z.wh, .int .i64 z.id, .int .i64 z.fl, .int .i64 z.ma] t) := World.alloc_heap_new w _
  rcases (by omega : i = 0 ∨ i = 1 ∨ i = 2) with rfl | rfl | rfl <;> refine ⟨?_, ?_, ?_, ?_, ?_⟩ <;> (simp only [World.cell?, hb]; rfl)
theorem four_new (w : World) (a b c d : Value) (t : TypeId) : (w.alloc (.cells #[a, b, c, d] t)).cell? ⟨w.heap.size, 0, none⟩ = some a ∧ (w.alloc (.cells #[a, b, c, d] t)).cell? ⟨w.heap.size, 1, none⟩ = some b ∧ (w.alloc (.cells #[a, b, c, d] t)).cell? ⟨w.heap.size, 2, none⟩ = some c ∧ (w.alloc (.cells #[a, b, c, d] t)).cell? ⟨w.heap.size, 3, none⟩ = some d := by
  have hb : (w.alloc (.cells #[a, b, c, d] t)).heap[w.heap.size]? = some (.cells #[a, b, c, d] t) := World.alloc_heap_new w _
  refine ⟨?_, ?_, ?_, ?_⟩ <;> (simp only [World.cell?, hb]; rfl)
theorem fltP_length_le (p : Ac → Bool) (l : List Ac) (k : Nat) : (fltP p l k).length ≤ k := fltP_len p l k
/-- slices.Concat of four lists. -/
theorem concat_four (w : World) (a0 a1 a2 a3 : Option Addr) (n0 n1 n2 n3 c0 c1 c2 c3 : Nat) (l0 l1 l2 l3 : List Ac) (h0 : Acs a0 n0 l0 w) (h1 : Acs a1 n1 l1 w) (h2 : Acs a2 n2 l2 w) (h3 : Acs a3 n3 l3 w) (hs : n0 + n1 + n2 + n3 ≤ 100000) (t : TypeId) :
    Calls Tryd.prog 35 #[.slice (some ⟨w.heap.size, 0, none⟩) 4 4] (w.alloc (.cells #[.slice a0 n0 c0, .slice a1 n1 c1, .slice a2 n2 c2, .slice a3 n3 c3] t)) fun e w' => ∃ a c, e = .returned (.slice a (l0 ++ l1 ++ l2 ++ l3).length c) ∧ (l0 ++ l1 ++ l2 ++ l3).length ≤ c ∧ OwnA a (l0 ++ l1 ++ l2 ++ l3).length (l0 ++ l1 ++ l2 ++ l3) w' ∧ (∀ Ad, a = some Ad → w.heap.size ≤ Ad.block ∧ Ad.block < w'.heap.size) ∧ Below w.heap.size w w' := by
  have hb := bel_alloc w (.cells #[.slice a0 n0 c0, .slice a1 n1 c1, .slice a2 n2 c2, .slice a3 n3 c3] t)
  obtain ⟨q0, q1, q2, q3⟩ := four_new w (.slice a0 n0 c0) (.slice a1 n1 c1) (.slice a2 n2 c2) (.slice a3 n3 c3) t
  have hz : (w.alloc (.cells #[.slice a0 n0 c0, .slice a1 n1 c1, .slice a2 n2 c2, .slice a3 n3 c3] t)).heap.size = w.heap.size + 1 := by simp
  have e0 := h0.1
  have e1 := h1.1
  have e2 := h2.1
  have e3 := h3.1
  have hcat : catA (fun j => match j with | 0 => l0 | 1 => l1 | 2 => l2 | _ => l3) 4 = l0 ++ l1 ++ l2 ++ l3 := by simp [catA]
  have := concat_anyA w.heap.size 4 4 (fun j => match j with | 0 => a0 | 1 => a1 | 2 => a2 | _ => a3) (fun j => match j with | 0 => c0 | 1 => c1 | 2 => c2 | _ => c3) (fun j => match j with | 0 => l0 | 1 => l1 | 2 => l2 | _ => l3) (by omega) (by rw [hcat]; simp; omega) _ (by rw [hz]; omega) (fun j hj => by
    rcases (by omega : j = 0 ∨ j = 1 ∨ j = 2 ∨ j = 3) with rfl | rfl | rfl | rfl
    · exact ⟨by show _ = some (Value.slice a0 l0.length c0); rw [q0, e0], by show Acs a0 l0.length l0 _; rw [e0]; exact h0.below hb⟩
    · exact ⟨by show _ = some (Value.slice a1 l1.length c1); rw [q1, e1], by show Acs a1 l1.length l1 _; rw [e1]; exact h1.below hb⟩
    · exact ⟨by show _ = some (Value.slice a2 l2.length c2); rw [q2, e2], by show Acs a2 l2.length l2 _; rw [e2]; exact h2.below hb⟩
    · exact ⟨by show _ = some (Value.slice a3 l3.length c3); rw [q3, e3], by show Acs a3 l3.length l3 _; rw [e3]; exact h3.below hb⟩)
  rw [hcat] at this
  refine this.mono ?_
  rintro e w' ⟨a, c, rfl, g1, g2, g3, g4⟩
  exact ⟨a, c, rfl, g1, g2, fun Ad e => ⟨by have := (g3 Ad e).1; omega, (g3 Ad e).2⟩, Below.on hb g4⟩
end Go.Proofs.YtddkmlkfphmdoaaDoor
