/- laws.toAcl, laws.szAcl: a copy of a list of names; its size. -/
import Derived.Test.YtgodbelcddgdmaaNamedTo
namespace Go.Proofs.Ytgodbelcddgdmaa
open Go.RowKit Go.PlainAid
set_option linter.unusedVariables false
theorem Own.set {a : Option Addr} {len : Nat} {l : List (Int × Int)} {w : World} {b o : Nat} {v : Value} (h : Own a len l w) (hne : ∀ B, a = some ⟨B, 0, none⟩ → b ≠ B) : Own a len l (w.setCell ⟨b, o, none⟩ v) := by
  refine ⟨h.1, fun h0 => ?_⟩
  obtain ⟨B, ha, hlt, hp⟩ := h.2 h0
  have hn := hne B ha
  refine ⟨B, ha, by simpa using hlt, fun i hi => ?_⟩
  have h1 := hp i hi
  rw [World.frozen?_setCell, World.frozen?_setCell]
  refine ⟨⟨?_, ?_⟩, h1.2⟩
  · rw [← h1.1.1]
    exact World.cell?_setCell_other _ _ _ _ (by intro h; have h2 := congrArg Addr.block h; simp only at h2; omega)
  · rw [← h1.1.2]
    exact World.cell?_setCell_other _ _ _ _ (by intro h; have h2 := congrArg Addr.block h; simp only at h2; omega)
theorem bl3N_size {w : World} {o1 o2 o3 : Obj} : (((w.alloc o1).alloc o2).alloc o3).heap.size = w.heap.size + 1 + 1 + 1 := by simp
end Go.Proofs.Ytgodbelcddgdmaa
