/- Laid together: ChmodD, ChmodD2. -/
import Derived.Test.YtfhhaencigmpoaaDoorDf11
import Derived.Test.YtfhhaencigmpoaaDoorDf5
import Derived.Test.YtfhhaencigmpoaaDoorDf3
import Derived.Lib.SliceRun
/- slices.IndexFunc and slices.DeleteFunc at a list of aces and impl.saysNothing. -/
namespace Go.Proofs.YtfhhaencigmpoaaDoor
open Go.RowKit Go.PlainAid Go.Deep
set_option linter.unusedVariables false
/-- Those of the first k that say something. -/
def kpA (l : List Ac) : Nat → List Ac
  | 0 => []
  | k + 1 => if (acAt l k).ma = 0 then kpA l k else kpA l k ++ [acAt l k]
theorem kpA_len (l : List Ac) (k : Nat) : (kpA l k).length ≤ k := by
  induction k with
  | zero => exact Nat.le_refl _
  | succ k ih =>
    simp only [kpA]
    split
    · omega
    · simp; omega
theorem acAt_app {xs : List Ac} {x : Ac} {t : Nat} (h : t < xs.length) : acAt (xs ++ [x]) t = acAt xs t := by
  rw [acAt_get (by simp; omega), acAt_get h, List.getElem_append_left h]
theorem acAt_last (xs : List Ac) (x : Ac) : acAt (xs ++ [x]) xs.length = x := by
  rw [acAt_get (by simp)]
  simp
theorem kpA_all {l : List Ac} {k : Nat} (h : ∀ i, i < k → (acAt l i).ma ≠ 0) : (kpA l k).length = k ∧ ∀ t, t < k → acAt (kpA l k) t = acAt l t := by
  induction k with
  | zero => exact ⟨rfl, fun t ht => by omega⟩
  | succ k ih =>
    obtain ⟨h1, h2⟩ := ih (fun i hi => h i (by omega))
    simp only [kpA]
    rw [if_neg (h k (by omega))]
    refine ⟨by simp [h1], fun t ht => ?_⟩
    by_cases e : t < k
    · rw [acAt_app (by omega)]
      exact h2 t e
    · have : t = (kpA l k).length := by omega
      rw [this, acAt_last, h1]
theorem bl_setCs {B b : Nat} {a : World} (hb : B ≤ b) : ∀ (vs : List Value) (o : Nat) (w : World), Below B a w → Below B a (w.setCells b o vs)
  | [], _, _, h => h
  | v :: r, o, w, h => bl_setCs hb r (o + 1) (w.setCell ⟨b, o, none⟩ v) (bl_setA h hb)
theorem sz_setCs (b : Nat) : ∀ (vs : List Value) (o : Nat) (w : World), (w.setCells b o vs).heap.size = w.heap.size
  | [], _, _ => rfl
  | v :: r, o, w => (sz_setCs b r (o + 1) (w.setCell ⟨b, o, none⟩ v)).trans (by simp)
set_option maxHeartbeats 1000000 in
theorem saysN_any (x : Ac) (w : World) :
    Calls Tryd.prog 41 #[.agg #[.bool x.al, .int .i64 x.wh, .int .i64 x.id, .int .i64 x.fl, .int .i64 x.ma]] w fun e w' => e = .returned (.bool (decide (x.ma = 0))) ∧ Below w.heap.size w w' := by
  go_enter Tryd.func41, Tryd.ntmps41
  go_wp2
  go_ret
  exact ⟨ret_boolW rfl, (Below.refl _ _).alloc (Nat.le_refl _) _⟩
/-- clear of some aces. -/
theorem run_clearA (w : World) (ty : TypeId) (b o n c : Nat) (hn : 0 < n) (hc : ∀ j, j < n * 5 → (w.cell? ⟨b, o + j, none⟩).isSome = true) (hf : ∀ j, j < n * 5 → w.frozen? ⟨b, o + j, none⟩ = false) :
    (Builtin.clear_ #[26] ty #[.slice (some ⟨b, o, none⟩) n c]).run Tryd.prog w = .ok (.tuple #[]) (w.setCells b o (Builtin.zeroCells #[.bool false, .int .i64 0, .int .i64 0, .int .i64 0, .int .i64 0] n).toList) := by
  have hlen : (Builtin.zeroCells #[Value.bool false, .int .i64 0, .int .i64 0, .int .i64 0, .int .i64 0] n).toList.length = n * 5 := by simp [Builtin.zeroCells]
  have hst := run_storeCells_cells (P := Tryd.prog) b o (Builtin.zeroCells #[Value.bool false, .int .i64 0, .int .i64 0, .int .i64 0, .int .i64 0] n).toList 0 w (by rw [hlen]; simpa using hc) (by rw [hlen]; simpa using hf) (by
    intro v hv
    simp only [Builtin.zeroCells, Array.toList_map, List.mem_map] at hv
    obtain ⟨i, _, rfl⟩ := hv
    have h5 : i % 5 = 0 ∨ i % 5 = 1 ∨ i % 5 = 2 ∨ i % 5 = 3 ∨ i % 5 = 4 := by omega
    show ((#[Value.bool false, .int .i64 0, .int .i64 0, .int .i64 0, .int .i64 0] : Array Value)[i % 5]!).oneCell' = true
    rcases h5 with h | h | h | h | h <;> rw [h] <;> rfl)
  simp only [Nat.add_zero] at hst
  obtain ⟨m, rfl⟩ : ∃ m, n = m + 1 := ⟨n - 1, by omega⟩
  simp [Builtin.clear_, run_underlying Tryd.underlying26, Value.cells, hst]
end Go.Proofs.YtfhhaencigmpoaaDoor
/- slices.IndexFunc and slices.DeleteFunc at a list of aces and impl.saysNothing. -/
namespace Go.Proofs.YtfhhaencigmpoaaDoor
open Go.RowKit Go.PlainAid Go.Deep
set_option linter.unusedVariables false
set_option maxRecDepth 100000 in
set_option maxHeartbeats 4000000 in
/-- slices.IndexFunc. -/
theorem indexFn_any (B len cap : Nat) (l : List Ac) (hl : len ≤ 1000) (w : World) (hlt : B < w.heap.size) (hA : AHold w B (acAt l) len) :
    Calls Tryd.prog 78 #[.slice (some ⟨B, 0, none⟩) len cap, .func (.func 41) #[] #[]] w fun e w' => ((e = .returned (.int .i64 (-1)) ∧ ∀ i, i < len → (acAt l i).ma ≠ 0) ∨ ∃ k : Nat, k < len ∧ e = .returned (.int .i64 k) ∧ (acAt l k).ma = 0 ∧ ∀ i, i < k → (acAt l i).ma ≠ 0) ∧ Below w.heap.size w w' := by
  have HA : Hid (AHold w B (acAt l) len) := hA
  have HS : Hid (∀ (x : Ac) (w : World), Calls Tryd.prog 41 #[.agg #[.bool x.al, .int .i64 x.wh, .int .i64 x.id, .int .i64 x.fl, .int .i64 x.ma]] w fun e w' => e = .returned (.bool (decide (x.ma = 0))) ∧ Below w.heap.size w w') := saysN_any
  clear hA
  go_enter Tryd.func78, Tryd.ntmps78
  go_wp2
  go_loopw [5, 8] (fun _ i wr => ∃ k : Nat, k ≤ len ∧ i = .int .i64 k ∧ Hid (∀ t, t < k → (acAt l t).ma ≠ 0) ∧ Hid (Below w.heap.size w wr)) (fun _ i _ => len - (intOf i).toNat)
  case atStart => exact ⟨0, Nat.zero_le _, rfl, fun t ht => absurd ht (by omega), Below.refl _ _⟩
  case round =>
    obtain ⟨k, hk, rfl, hne, hB⟩ := hrel
    by_cases hlt2 : k < len
    · have hlt' : (k : Int) < (len : Int) := by omega
      obtain ⟨c0, c1, c2, c3, c4⟩ := (HA.out k hlt2).1.keep (fun j => hB.out.cell (p := ⟨B, j, none⟩) hlt)
      have HN : Hid (∀ y : Ac, y = acAt l k → y.ma ≠ 0 → ∀ t, t < k + 1 → (acAt l t).ma ≠ 0) := (fun y hy h0 t ht => by
        by_cases e : t = k
        · rw [e, ← hy]; exact h0
        · exact hne.out t (by omega))
      have hx : Hid (∀ y : Ac, y = acAt l k → y.ma = 0 → (acAt l k).ma = 0) := (fun y hy h0 => by rw [← hy]; exact h0)
      generalize hy : acAt l k = x at c0 c1 c2 c3 c4
      have HY : Hid (x = acAt l k) := hy.symm
      clear hy
      go_wp2_with fail
      refine (HS.out x _).mono ?_
      rintro e w1 ⟨rfl, hb1⟩
      have hB1 : Hid (Below w.heap.size w w1) := Below.on hB.out hb1
      clear hb1 hB c0 c1 c2 c3 c4
      by_cases hz : x.ma = 0
      · have hzd : decide (x.ma = 0) = true := by simpa using hz
        have HZ : Hid ((acAt l k).ma = 0) := hx.out x HY.out hz
        clear hx HN hz
        go_wp2
        go_ret
        exact ⟨.inr ⟨k, hlt2, rfl, HZ.out, hne.out⟩, hB1.out⟩
      · have hzd : decide (x.ma = 0) = false := by simpa using hz
        have HZ : Hid (∀ t, t < k + 1 → (acAt l t).ma ≠ 0) := HN.out x HY.out hz
        clear hx HN hz hne
        go_wp2
        go_roundw
        case rel => exact ⟨k + 1, by omega, by go_num, HZ, hB1⟩
        case measure => simp [intOf]; omega
    · have : k = len := by omega
      subst this
      go_wp2
      go_ret
      exact ⟨.inl ⟨rfl, hne.out⟩, hB.out⟩
end Go.Proofs.YtfhhaencigmpoaaDoor
