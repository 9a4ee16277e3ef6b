/- Laid together: MaskOf. -/
import Derived.Test.YtgooanaacebncaaGreatDoorAT9
/- MaskOf, the program's and the specification's: the bits in Group, or in one of Users or Groups. -/
namespace Go.Proofs.YtgooanaacebncaaGreatDoor
open Go.RowKit Go.PlainAid Go.Deep
set_option linter.unusedVariables false
/-- Of two things the first, or the second. -/
def two {α : Type} (x y : α) (j : Nat) : α := if j = 0 then x else y
set_option maxRecDepth 100000 in
set_option maxHeartbeats 4000000 in
/-- spec.l03Mask. -/
theorem sMask_any (u g o : Int) (au : Option Addr) (lu cu : Nat) (ag : Option Addr) (lg cg : Nat) (r : Bool) (m : Int) (us gs : List (Int × Int)) (w : World) (hu : Prs au lu us w) (hg : Prs ag lg gs w) (g0 : 0 ≤ g) (g1 : g ≤ 7) (bu : ∀ k, k < us.length → 0 ≤ btAt us k ∧ btAt us k ≤ 7) (bg : ∀ k, k < gs.length → 0 ≤ btAt gs k ∧ btAt gs k ≤ 7) (hN : lu + lg ≤ 1000000) :
    Calls Tryz.prog 82 #[.agg #[.int .i64 u, .int .i64 g, .int .i64 o, .slice au lu cu, .slice ag lg cg, .bool r, .int .i64 m]] w fun e w' => e = .returned (.int .i64 (maskL g us gs)) ∧ Below w.heap.size w w' := by
  obtain ⟨e1, hu⟩ := hu
  obtain ⟨e2, hg⟩ := hg
  have HU : Hid (0 < lu → ∃ b off, au = some ⟨b, off, none⟩ ∧ b < w.heap.size ∧ ∀ i, i < lu → w.cell? ⟨b, off + i * 2, none⟩ = some (.int .i64 (idAt us i)) ∧ w.cell? ⟨b, off + i * 2 + 1, none⟩ = some (.int .i64 (btAt us i))) := hu
  have HG : Hid (0 < lg → ∃ b off, ag = some ⟨b, off, none⟩ ∧ b < w.heap.size ∧ ∀ i, i < lg → w.cell? ⟨b, off + i * 2, none⟩ = some (.int .i64 (idAt gs i)) ∧ w.cell? ⟨b, off + i * 2 + 1, none⟩ = some (.int .i64 (btAt gs i))) := hg
  have BU : Hid (∀ k, k < lu → 0 ≤ btAt us k ∧ btAt us k ≤ 7) := (by show ∀ k, _; rw [← e1]; exact bu)
  have BG : Hid (∀ k, k < lg → 0 ≤ btAt gs k ∧ btAt gs k ≤ 7) := (by show ∀ k, _; rw [← e2]; exact bg)
  have TU : Hid (∀ k, k ≤ lu → 0 ≤ orTo g us k ∧ orTo g us k ≤ 7) := (by show ∀ k, _; rw [← e1]; exact orTo_in g0 g1 bu)
  have TG : Hid (∀ k, k ≤ lg → 0 ≤ orTo (orTo g us lu) gs k ∧ orTo (orTo g us lu) gs k ≤ 7) := (by
    obtain ⟨t0, t1⟩ := TU.out lu (Nat.le_refl _)
    show ∀ k, _
    rw [← e2]
    exact orTo_in t0 t1 bg)
  have BE : Hid (orTo (orTo g us lu) gs lg = maskL g us gs) := (by show _ = _; rw [← e1, ← e2]; rfl)
  clear hu hg bu bg e1 e2
  generalize maskL g us gs = mm at BE ⊢
  go_enter Tryz.func82, Tryz.ntmps82
  obtain ⟨xl, x0, x1, x2, x3, x4, x5, x6⟩ := box7_new w (.int .i64 u) (.int .i64 g) (.int .i64 o) (.slice au lu cu) (.slice ag lg cg) (.bool r) (.int .i64 m) 25
  have hW1 : Hid (Below w.heap.size w (w.alloc (.cells #[.int .i64 u, .int .i64 g, .int .i64 o, .slice au lu cu, .slice ag lg cg, .bool r, .int .i64 m] 25))) := bel_alloc _ _
  go_wp2
  generalize w.alloc (.cells #[.int .i64 u, .int .i64 g, .int .i64 o, .slice au lu cu, .slice ag lg cg, .bool r, .int .i64 m] 25) = w1 at xl x0 x1 x2 x3 x4 x5 x6 hW1 ⊢
  go_loop [3, 4] (fun s i => ∃ k : Nat, k ≤ lu ∧ i = .int .i64 k ∧ s = .int .i64 (orTo g us k)) (fun _ i => lu - (intOf i).toNat)
  case atStart => exact ⟨0, Nat.zero_le _, rfl, rfl⟩
  case round =>
    obtain ⟨k, hk, rfl, rfl⟩ := hrel
    by_cases hlt : k < lu
    · have hlt' : (k : Int) < (lu : Int) := by omega
      obtain ⟨b, off, rfl, hb, hc⟩ := HU.out (by omega)
      have c1 : w1.cell? ⟨b, off + k * 2 + 1, none⟩ = some (.int .i64 (btAt us k)) := (hW1.out.cell (p := ⟨b, off + k * 2 + 1, none⟩) hb).trans (hc k hlt).2
      obtain ⟨o0, o1⟩ := TU.out k hk
      obtain ⟨b0, b1⟩ := BU.out k hlt
      clear hc
      go_wp2_with fail
      refine (sEither_any (orTo g us k) (btAt us k) o0 (by omega) b0 (by omega) _).mono ?_
      rintro e w2 ⟨rfl, rfl⟩
      go_wp2
      go_round
      case rel => exact ⟨k + 1, by omega, by go_num, rfl⟩
      case measure => simp [intOf]; omega
    · have : k = lu := by omega
      subst this
      go_wp2
      go_loop [3, 5] (fun s i => ∃ j : Nat, j ≤ lg ∧ i = .int .i64 j ∧ s = .int .i64 (orTo (orTo g us k) gs j)) (fun _ i => lg - (intOf i).toNat)
      case atStart => exact ⟨0, Nat.zero_le _, rfl, rfl⟩
      case round =>
        obtain ⟨j, hj, rfl, rfl⟩ := hrel
        by_cases hlt2 : j < lg
        · have hlt' : (j : Int) < (lg : Int) := by omega
          obtain ⟨b, off, rfl, hb, hc⟩ := HG.out (by omega)
          have c1 : w1.cell? ⟨b, off + j * 2 + 1, none⟩ = some (.int .i64 (btAt gs j)) := (hW1.out.cell (p := ⟨b, off + j * 2 + 1, none⟩) hb).trans (hc j hlt2).2
          obtain ⟨o0, o1⟩ := TG.out j hj
          obtain ⟨b0, b1⟩ := BG.out j hlt2
          clear hc
          go_wp2_with fail
          refine (sEither_any (orTo (orTo g us k) gs j) (btAt gs j) o0 (by omega) b0 (by omega) _).mono ?_
          rintro e w2 ⟨rfl, rfl⟩
          go_wp2
          go_round
          case rel => exact ⟨j + 1, by omega, by go_num, rfl⟩
          case measure => simp [intOf]; omega
        · have : j = lg := by omega
          subst this
          go_wp2
          go_ret
          exact ⟨ret_intM BE.out, hW1.out⟩
end Go.Proofs.YtgooanaacebncaaGreatDoor
