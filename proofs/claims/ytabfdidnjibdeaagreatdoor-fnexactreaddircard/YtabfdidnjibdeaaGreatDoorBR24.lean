/- Laid together: AnsR, Ans, Remask. -/
import Derived.Test.YtabfdidnjibdeaaGreatDoorBR11
namespace Go.Proofs.YtabfdidnjibdeaaGreatDoor
open Go.RowKit Go.PlainAid Go.Deep
set_option linter.unusedVariables false
structure Box8 (w:World) (B:Nat) (v0 v1 v2 v3 v4 v5 v6 v7:Value):Prop where
  lt:B<w.heap.size
  c0:w.cell? ⟨B,0,none⟩=some v0
  c1:w.cell? ⟨B,1,none⟩=some v1
  c2:w.cell? ⟨B,2,none⟩=some v2
  c3:w.cell? ⟨B,3,none⟩=some v3
  c4:w.cell? ⟨B,4,none⟩=some v4
  c5:w.cell? ⟨B,5,none⟩=some v5
  c6:w.cell? ⟨B,6,none⟩=some v6
  c7:w.cell? ⟨B,7,none⟩=some v7
theorem Box8.keep {w w':World}{B:Nat}{v0 v1 v2 v3 v4 v5 v6 v7:Value}(h:Box8 w B v0 v1 v2 v3 v4 v5 v6 v7)(hlt:B<w'.heap.size)(hc:∀ o,w'.cell? ⟨B,o,none⟩=w.cell? ⟨B,o,none⟩):Box8 w' B v0 v1 v2 v3 v4 v5 v6 v7 :=
  ⟨hlt,(hc 0).trans h.c0,(hc 1).trans h.c1,(hc 2).trans h.c2,(hc 3).trans h.c3,(hc 4).trans h.c4,(hc 5).trans h.c5,(hc 6).trans h.c6,(hc 7).trans h.c7⟩
theorem Box8.below {w w':World}{B:Nat}{v0 v1 v2 v3 v4 v5 v6 v7:Value}(h:Box8 w B v0 v1 v2 v3 v4 v5 v6 v7)(hb:Below w.heap.size w w'):Box8 w' B v0 v1 v2 v3 v4 v5 v6 v7 :=
  h.keep (Nat.lt_of_lt_of_le h.lt hb.size) (fun o=>hb.cell (p:=⟨B,o,none⟩) h.lt)
end Go.Proofs.YtabfdidnjibdeaaGreatDoor
