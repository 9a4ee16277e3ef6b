/- slices.IndexFunc and slices.DeleteFunc at a list of aces and impl.saysNothing. -/
import Derived.Test.YtddkmlkfphmdoaaDoorChmodD
namespace Go.Proofs.YtddkmlkfphmdoaaDoor
open Go.RowKit Go.PlainAid Go.Deep
set_option linter.unusedVariables false
set_option maxRecDepth 100000 in
set_option maxHeartbeats 4000000 in
/-- slices.IndexFunc. -/
theorem indexFn_any (B len cap : Nat) (l : List Ac) (hl : len ≤ 1000) (w : World) (hlt : B < w.heap.size) (hA : AHold w B (acAt l) len) :
    Calls Tryd.prog 32 #[.slice (some ⟨B, 0, none⟩) len cap, .func (.func 22) #[] #[]] w fun e w' => ((e = .returned (.int .i64 (-1)) ∧ ∀ i, i < len → (acAt l i).ma ≠ 0) ∨ ∃ k : Nat, k < len ∧ e = .returned (.int .i64 k) ∧ (acAt l k).ma = 0 ∧ ∀ i, i < k → (acAt l i).ma ≠ 0) ∧ Below w.heap.size w w' := by
  have HA : Hid (AHold w B (acAt l) len) := hA
  have HS : Hid (∀ (x : Ac) (w : World), Calls Tryd.prog 22 #[.agg #[.bool x.al, .int .i64 x.wh, .int .i64 x.id, .int .i64 x.fl, .int .i64 x.ma]] w fun e w' => e = .returned (.bool (decide (x.ma = 0))) ∧ Below w.heap.size w w') := saysN_any
  clear hA
  go_enter Tryd.func32, Tryd.ntmps32
  go_wp2
  go_loopw [5, 8] (fun _ i wr => ∃ k : Nat, k ≤ len ∧ i = .int .i64 k ∧ Hid (∀ t, t < k → (acAt l t).ma ≠ 0) ∧ Hid (Below w.heap.size w wr)) (fun _ i _ => len - (intOf i).toNat)
  case atStart => exact ⟨0, Nat.zero_le _, rfl, fun t ht => absurd ht (by omega), Below.refl _ _⟩
  case round =>
    obtain ⟨k, hk, rfl, hne, hB⟩ := hrel
    by_cases hlt2 : k < len
    · have hlt' : (k : Int) < (len : Int) := by omega
      obtain ⟨c0, c1, c2, c3, c4⟩ := (HA.out k hlt2).1.keep (fun j => hB.out.cell (p := ⟨B, j, none⟩) hlt)
      have HN : Hid (∀ y : Ac, y = acAt l k → y.ma ≠ 0 → ∀ t, t < k + 1 → (acAt l t).ma ≠ 0) := (fun y hy h0 t ht => by
        by_cases e : t = k
        · rw [e, ← hy]; exact h0
        · exact hne.out t (by omega))
      have hx : Hid (∀ y : Ac, y = acAt l k → y.ma = 0 → (acAt l k).ma = 0) := (fun y hy h0 => by rw [← hy]; exact h0)
      generalize hy : acAt l k = x at c0 c1 c2 c3 c4
      have HY : Hid (x = acAt l k) := hy.symm
      clear hy
      go_wp2_with fail
      refine (HS.out x _).mono ?_
      rintro e w1 ⟨rfl, hb1⟩
      have hB1 : Hid (Below w.heap.size w w1) := Below.on hB.out hb1
      clear hb1 hB c0 c1 c2 c3 c4
      by_cases hz : x.ma = 0
      · have hzd : decide (x.ma = 0) = true := by simpa using hz
        have HZ : Hid ((acAt l k).ma = 0) := hx.out x HY.out hz
        clear hx HN hz
        go_wp2
        go_ret
        exact ⟨.inr ⟨k, hlt2, rfl, HZ.out, hne.out⟩, hB1.out⟩
      · have hzd : decide (x.ma = 0) = false := by simpa using hz
        have HZ : Hid (∀ t, t < k + 1 → (acAt l t).ma ≠ 0) := HN.out x HY.out hz
        clear hx HN hz hne
        go_wp2
        go_roundw
        case rel => exact ⟨k + 1, by omega, by go_num, HZ, hB1⟩
        case measure => simp [intOf]; omega
    · have : k = len := by omega
      subst this
      go_wp2
      go_ret
      exact ⟨.inl ⟨rfl, hne.out⟩, hB.out⟩
end Go.Proofs.YtddkmlkfphmdoaaDoor
