/- An ace read of bytes by the program: readAceBytes. -/
import Derived.Test.YtddkmlkfphmdoabNfM
import Derived.Test.YtddkmlkfphmdoabReadNum
import Derived.LoopN
import Derived.Deep.RegionLaw
import Derived.Deep.Cut
import Derived.BigRegion
namespace Go.Proofs.Ytddkmlkfphmdoab
open Go.RowKit Go.PlainAid Go.Deep
set_option linter.unusedVariables false
theorem readNum_some {s : ByteArray} {p q : Nat} {n : Int} (hs : s.size ≤ 8000) (hp : p ≤ 8000) (h : rd1 s p = some (n, q)) (w : World) :
    Calls Try.prog 26 #[.string s, .int .i64 (p : Int)] w fun e w' => e = .returned (.tuple #[.int .i64 n, .int .i64 (q : Int), .nilIface]) ∧ w' = w := by
  have h1 := readNum_in s p hs (by omega) w
  rw [rd1_some h] at h1
  exact h1
theorem readNum_none {s : ByteArray} {p : Nat} (hs : s.size ≤ 8000) (hp : p ≤ 8000) (h : rd1 s p = none) : ∃ c : Int, ∀ w : World,
    Calls Try.prog 26 #[.string s, .int .i64 (p : Int)] w fun e w' => e = .returned (.tuple #[.int .i64 0, .int .i64 0, .iface 67 (.agg #[.int .i64 c])]) ∧ w' = w := by
  obtain ⟨c, hc, e⟩ := rd1_none h
  refine ⟨c, fun w => ?_⟩
  have h1 := readNum_in s p hs (by omega) w
  rw [e, readV, errV_no hc] at h1
  exact h1
theorem step_skip {P : Program} {ops : Array Oper} {o : Oper} {a : Act} {w : World} {K : Act → World → Prop} {Q : Exit → Act → World → Prop} {E : Prop} (hw : Region.wanted o (yielded ops a.tmps) = false) (h : E) : if Region.wanted o (yielded ops a.tmps) = true then Oper.wp P o a w K Q else E := by
  rw [hw, if_neg (by decide)]
  exact h
/-- What readAceBytes ends in. -/
def AceB (s : ByteArray) (p : Nat) (w : World) (e : Ending) (w' : World) : Prop := Below w.heap.size w w' ∧ ((rdAc s p = none ∧ ∃ (x : Ac) (q : Int), e = .returned (.tuple #[.agg #[.bool x.al, .int .i64 x.wh, .int .i64 x.id, .int .i64 x.fl, .int .i64 x.ma], .int .i64 q, .bool false])) ∨ ∃ (x : Ac) (q : Nat), rdAc s p = some (x, q) ∧ q ≤ s.size ∧ e = .returned (.tuple #[.agg #[.bool x.al, .int .i64 x.wh, .int .i64 x.id, .int .i64 x.fl, .int .i64 x.ma], .int .i64 (q : Int), .bool true]))
theorem rdAc_le {s : ByteArray} {p q : Nat} {x : Ac} (h : rdAc s p = some (x, q)) : q ≤ s.size := by
  obtain ⟨_, h2, h3⟩ := rdAc_of h
  have := h2.1
  omega
theorem ace_ill {s : ByteArray} {p : Nat} {w w' : World} (h : rdAc s p = none) (hb : Below w.heap.size w w') : AceB s p w (.returned (.tuple #[.agg #[.bool false, .int .i64 0, .int .i64 0, .int .i64 0, .int .i64 0], .int .i64 0, .bool false])) w' := ⟨hb, .inl ⟨h, acZ, 0, rfl⟩⟩
/-- Five cells that may be written. -/
structure W5 (w : World) (b : Nat) (v0 v1 v2 v3 v4 : Value) : Prop where
  lt : b < w.heap.size
  c0 : w.cell? ⟨b, 0, none⟩ = some v0
  c1 : w.cell? ⟨b, 1, none⟩ = some v1
  c2 : w.cell? ⟨b, 2, none⟩ = some v2
  c3 : w.cell? ⟨b, 3, none⟩ = some v3
  c4 : w.cell? ⟨b, 4, none⟩ = some v4
  z : ∀ o, w.frozen? ⟨b, o, none⟩ = false
theorem W5.keep {w w' : World} {b : Nat} {v0 v1 v2 v3 v4 : Value} (h : W5 w b v0 v1 v2 v3 v4) (hs : w.heap.size ≤ w'.heap.size) (hk : w'.heap[b]? = w.heap[b]?) : W5 w' b v0 v1 v2 v3 v4 := by
  have hc : ∀ o, w'.cell? ⟨b, o, none⟩ = w.cell? ⟨b, o, none⟩ := fun o => World.cell?_of_block (a := ⟨b, o, none⟩) hk
  exact ⟨Nat.lt_of_lt_of_le h.lt hs, (hc 0).trans h.c0, (hc 1).trans h.c1, (hc 2).trans h.c2, (hc 3).trans h.c3, (hc 4).trans h.c4, fun o => (World.frozen?_of_block (a := ⟨b, o, none⟩) hk).trans (h.z o)⟩
theorem W5.below {w w' : World} {b : Nat} {v0 v1 v2 v3 v4 : Value} (h : W5 w b v0 v1 v2 v3 v4) (hb : Below w.heap.size w w') : W5 w' b v0 v1 v2 v3 v4 := h.keep hb.size (hb.block b h.lt)
theorem w5_new (w : World) (v0 v1 v2 v3 v4 : Value) (t : TypeId) : W5 (w.alloc (.cells #[v0, v1, v2, v3, v4] t)) w.heap.size v0 v1 v2 v3 v4 := by
  have hb : (w.alloc (.cells #[v0, v1, v2, v3, v4] t)).heap[w.heap.size]? = some (.cells #[v0, v1, v2, v3, v4] t) := by
    rw [World.alloc]
    exact Array.getElem?_push_size
  refine ⟨by simp, ?_, ?_, ?_, ?_, ?_, fun o => ?_⟩
  · simp only [World.cell?, hb]; rfl
  · simp only [World.cell?, hb]; rfl
  · simp only [World.cell?, hb]; rfl
  · simp only [World.cell?, hb]; rfl
  · simp only [World.cell?, hb]; rfl
  · unfold World.frozen?
    simp only [hb]
    simp
theorem W5.all {w : World} {b : Nat} {v0 v1 v2 v3 v4 : Value} (h : W5 w b v0 v1 v2 v3 v4) (u0 u1 u2 u3 u4 : Value) : W5 (((((w.setCell ⟨b, 0, none⟩ u0).setCell ⟨b, 1, none⟩ u1).setCell ⟨b, 2, none⟩ u2).setCell ⟨b, 3, none⟩ u3).setCell ⟨b, 4, none⟩ u4) b u0 u1 u2 u3 u4 := by
  obtain ⟨hl, c0, c1, c2, c3, c4, hz⟩ := h
  refine ⟨by simpa using hl, ?_, ?_, ?_, ?_, ?_, fun o => by simp only [World.frozen?_setCell]; exact hz o⟩ <;> simp [go_sem, *]
end Go.Proofs.Ytddkmlkfphmdoab
