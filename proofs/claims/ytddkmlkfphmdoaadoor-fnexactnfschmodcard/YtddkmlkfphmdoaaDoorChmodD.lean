/- slices.IndexFunc and slices.DeleteFunc at a list of aces and impl.saysNothing. -/
import Derived.Test.YtddkmlkfphmdoaaDoorAceCat
import Derived.Test.YtddkmlkfphmdoaaDoorAceTo
import Derived.Test.YtddkmlkfphmdoaaDoorWhoIs
import Derived.Lib.SliceRun
namespace Go.Proofs.YtddkmlkfphmdoaaDoor
open Go.RowKit Go.PlainAid Go.Deep
set_option linter.unusedVariables false
/-- Those of the first k that say something. -/
def kpA (l : List Ac) : Nat → List Ac
  | 0 => []
  | k + 1 => if (acAt l k).ma = 0 then kpA l k else kpA l k ++ [acAt l k]
theorem kpA_len (l : List Ac) (k : Nat) : (kpA l k).length ≤ k := by
  induction k with
  | zero => exact Nat.le_refl _
  | succ k ih =>
    simp only [kpA]
    split
    · omega
    · simp; omega
theorem acAt_app {xs : List Ac} {x : Ac} {t : Nat} (h : t < xs.length) : acAt (xs ++ [x]) t = acAt xs t := by
  rw [acAt_get (by simp; omega), acAt_get h, List.getElem_append_left h]
theorem acAt_last (xs : List Ac) (x : Ac) : acAt (xs ++ [x]) xs.length = x := by
  rw [acAt_get (by simp)]
  simp
theorem kpA_all {l : List Ac} {k : Nat} (h : ∀ i, i < k → (acAt l i).ma ≠ 0) : (kpA l k).length = k ∧ ∀ t, t < k → acAt (kpA l k) t = acAt l t := by
  induction k with
  | zero => exact ⟨rfl, fun t ht => by omega⟩
  | succ k ih =>
    obtain ⟨h1, h2⟩ := ih (fun i hi => h i (by omega))
    simp only [kpA]
    rw [if_neg (h k (by omega))]
    refine ⟨by simp [h1], fun t ht => ?_⟩
    by_cases e : t < k
    · rw [acAt_app (by omega)]
      exact h2 t e
    · have : t = (kpA l k).length := by omega
      rw [this, acAt_last, h1]
theorem bl_setCs {B b : Nat} {a : World} (hb : B ≤ b) : ∀ (vs : List Value) (o : Nat) (w : World), Below B a w → Below B a (w.setCells b o vs)
  | [], _, _, h => h
  | v :: r, o, w, h => bl_setCs hb r (o + 1) (w.setCell ⟨b, o, none⟩ v) (bl_setA h hb)
theorem sz_setCs (b : Nat) : ∀ (vs : List Value) (o : Nat) (w : World), (w.setCells b o vs).heap.size = w.heap.size
  | [], _, _ => rfl
  | v :: r, o, w => (sz_setCs b r (o + 1) (w.setCell ⟨b, o, none⟩ v)).trans (by simp)
set_option maxHeartbeats 1000000 in
theorem saysN_any (x : Ac) (w : World) :
    Calls Tryd.prog 22 #[.agg #[.bool x.al, .int .i64 x.wh, .int .i64 x.id, .int .i64 x.fl, .int .i64 x.ma]] w fun e w' => e = .returned (.bool (decide (x.ma = 0))) ∧ Below w.heap.size w w' := by
  go_enter Tryd.func22, Tryd.ntmps22
  go_wp2
  go_ret
  exact ⟨ret_boolW rfl, (Below.refl _ _).alloc (Nat.le_refl _) _⟩
/-- clear of some aces. -/
theorem run_clearA (w : World) (ty : TypeId) (b o n c : Nat) (hn : 0 < n) (hc : ∀ j, j < n * 5 → (w.cell? ⟨b, o + j, none⟩).isSome = true) (hf : ∀ j, j < n * 5 → w.frozen? ⟨b, o + j, none⟩ = false) :
    (Builtin.clear_ #[24] ty #[.slice (some ⟨b, o, none⟩) n c]).run Tryd.prog w = .ok (.tuple #[]) (w.setCells b o (Builtin.zeroCells #[.bool false, .int .i64 0, .int .i64 0, .int .i64 0, .int .i64 0] n).toList) := by
  have hlen : (Builtin.zeroCells #[Value.bool false, .int .i64 0, .int .i64 0, .int .i64 0, .int .i64 0] n).toList.length = n * 5 := by simp [Builtin.zeroCells]
  have hst := run_storeCells_cells (P := Tryd.prog) b o (Builtin.zeroCells #[Value.bool false, .int .i64 0, .int .i64 0, .int .i64 0, .int .i64 0] n).toList 0 w (by rw [hlen]; simpa using hc) (by rw [hlen]; simpa using hf) (by
    intro v hv
    simp only [Builtin.zeroCells, Array.toList_map, List.mem_map] at hv
    obtain ⟨i, _, rfl⟩ := hv
    have h5 : i % 5 = 0 ∨ i % 5 = 1 ∨ i % 5 = 2 ∨ i % 5 = 3 ∨ i % 5 = 4 := by omega
    show ((#[Value.bool false, .int .i64 0, .int .i64 0, .int .i64 0, .int .i64 0] : Array Value)[i % 5]!).oneCell' = true
    rcases h5 with h | h | h | h | h <;> rw [h] <;> rfl)
  simp only [Nat.add_zero] at hst
  obtain ⟨m, rfl⟩ : ∃ m, n = m + 1 := ⟨n - 1, by omega⟩
  simp [Builtin.clear_, run_underlying Tryd.underlying24, Value.cells, hst]
end Go.Proofs.YtddkmlkfphmdoaaDoor
