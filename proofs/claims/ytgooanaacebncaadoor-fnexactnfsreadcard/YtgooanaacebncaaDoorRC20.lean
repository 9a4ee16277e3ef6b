/- Laid together: AceRd. -/
import Derived.Test.YtgooanaacebncaaDoorRC19
/- AceRead of both sides. -/
namespace Go.Proofs.YtgooanaacebncaaDoor
open Go.RowKit Go.PlainAid Go.Deep
set_option linter.unusedVariables false
/-- Six cells that may be written, all zero. -/
structure Wr6 (w : World) (b : Nat) : Prop where
  lt : b < w.heap.size
  c0 : w.cell? ⟨b, 0, none⟩ = some (.bool false)
  c1 : w.cell? ⟨b, 1, none⟩ = some (.int .i64 0)
  c2 : w.cell? ⟨b, 2, none⟩ = some (.int .i64 0)
  c3 : w.cell? ⟨b, 3, none⟩ = some (.int .i64 0)
  c4 : w.cell? ⟨b, 4, none⟩ = some (.int .i64 0)
  c5 : w.cell? ⟨b, 5, none⟩ = some (.int .i64 0)
  z : ∀ o, w.frozen? ⟨b, o, none⟩ = false
theorem Wr6.below {w w' : World} {b : Nat} (h : Wr6 w b) (hb : Below w.heap.size w w') : Wr6 w' b := by
  have hc := fun o => hb.cell (p := ⟨b, o, none⟩) h.lt
  exact ⟨Nat.lt_of_lt_of_le h.lt hb.size, (hc 0).trans h.c0, (hc 1).trans h.c1, (hc 2).trans h.c2, (hc 3).trans h.c3, (hc 4).trans h.c4, (hc 5).trans h.c5, fun o => (hb.frozen (p := ⟨b, o, none⟩) h.lt).trans (h.z o)⟩
/-- impl.readAce. -/
theorem iReadA_any (s : ByteArray) (m : Int) (hs : s.size ≤ 8000) (w : World) (hm : w.cell? ⟨1, 0, none⟩ = some (.int .i64 m)) :
    Calls Tryd.prog 66 #[.string s] w (AceEnd s.data.toList w) := by
  by_cases h4 : (spl 58 s.data.toList).length = 4
  · match e : spl 58 s.data.toList, h4 with
    | [a, b, c, d], _ => exact iReadA_four s ⟨a.toArray⟩ ⟨b.toArray⟩ ⟨c.toArray⟩ ⟨d.toArray⟩ m hs (by rw [e]) w hm
  · exact iReadA_not s m hs h4 w hm
end Go.Proofs.YtgooanaacebncaaDoor
