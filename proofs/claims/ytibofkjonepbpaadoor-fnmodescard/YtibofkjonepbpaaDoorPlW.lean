/- The variable impl.places, its cells. -/
import Derived.WalkKit
import Derived.Below
namespace Go.Proofs.YtibofkjonepbpaaDoor
open Go.RowKit
/-- The variable impl.places holds what its text lays. -/
structure PlW (w : World) : Prop where
  lt : 0 < w.heap.size
  c0 : w.cell? ⟨0, 0, none⟩ = some (.int .i64 6)
  c1 : w.cell? ⟨0, 1, none⟩ = some (.int .i64 2048)
  c2 : w.cell? ⟨0, 2, none⟩ = some (.int .u8 115)
  c3 : w.cell? ⟨0, 3, none⟩ = some (.int .u8 83)
  c4 : w.cell? ⟨0, 4, none⟩ = some (.int .i64 3)
  c5 : w.cell? ⟨0, 5, none⟩ = some (.int .i64 1024)
  c6 : w.cell? ⟨0, 6, none⟩ = some (.int .u8 115)
  c7 : w.cell? ⟨0, 7, none⟩ = some (.int .u8 83)
  c8 : w.cell? ⟨0, 8, none⟩ = some (.int .i64 0)
  c9 : w.cell? ⟨0, 9, none⟩ = some (.int .i64 512)
  c10 : w.cell? ⟨0, 10, none⟩ = some (.int .u8 116)
  c11 : w.cell? ⟨0, 11, none⟩ = some (.int .u8 84)
theorem PlW.below {w w' : World} (h : PlW w) (hb : Below w.heap.size w w') : PlW w' :=
  ⟨Nat.lt_of_lt_of_le h.lt hb.size, (hb.cell (p := ⟨0, 0, none⟩) h.lt).trans h.c0, (hb.cell (p := ⟨0, 1, none⟩) h.lt).trans h.c1, (hb.cell (p := ⟨0, 2, none⟩) h.lt).trans h.c2, (hb.cell (p := ⟨0, 3, none⟩) h.lt).trans h.c3, (hb.cell (p := ⟨0, 4, none⟩) h.lt).trans h.c4, (hb.cell (p := ⟨0, 5, none⟩) h.lt).trans h.c5, (hb.cell (p := ⟨0, 6, none⟩) h.lt).trans h.c6, (hb.cell (p := ⟨0, 7, none⟩) h.lt).trans h.c7, (hb.cell (p := ⟨0, 8, none⟩) h.lt).trans h.c8, (hb.cell (p := ⟨0, 9, none⟩) h.lt).trans h.c9, (hb.cell (p := ⟨0, 10, none⟩) h.lt).trans h.c10, (hb.cell (p := ⟨0, 11, none⟩) h.lt).trans h.c11⟩
end Go.Proofs.YtibofkjonepbpaaDoor
