/- Laid together: LwCred. -/
import Derived.Test.YtgooanaacebncaaDoorRE12
/- laws.lwNums, laws.lwCred of two that hold the same. -/
namespace Go.Proofs.YtgooanaacebncaaDoor
open Go.RowKit Go.PlainAid
set_option linter.unusedVariables false
set_option maxHeartbeats 2000000 in
theorem lwNums_none (a a2 : Option Addr) (cap cap2 : Nat) (w : World) :
    Calls Tryd.prog 52 #[.slice a 0 cap, .slice a2 0 cap2] w fun e w' => e = .returned (.bool true) ∧ Below w.heap.size w w' := by
  go_enter Tryd.func52, Tryd.ntmps52
  go_wp2
  go_rounds 1
  go_ret
  exact ⟨rfl, Below.refl _ _⟩
set_option maxHeartbeats 2000000 in
theorem lwNums_some (b off b2 off2 len cap cap2 : Nat) (f : Nat → Int) (hl : len ≤ 1048576) (w : World) (hb : b < w.heap.size) (hb2 : b2 < w.heap.size) (hc : Hid (∀ i, i < len → w.cell? ⟨b, off + i, none⟩ = some (.int .i64 (f i)))) (hc2 : Hid (∀ i, i < len → w.cell? ⟨b2, off2 + i, none⟩ = some (.int .i64 (f i)))) :
    Calls Tryd.prog 52 #[.slice (some ⟨b, off, none⟩) len cap, .slice (some ⟨b2, off2, none⟩) len cap2] w fun e w' => e = .returned (.bool true) ∧ Below w.heap.size w w' := by
  go_enter Tryd.func52, Tryd.ntmps52
  go_wp2
  go_loopw [5] (fun i wr => ∃ (k n : Nat), k ≤ len ∧ i = .int .i64 k ∧ wr = w.drewN n) (fun i _ => len - (intOf i).toNat)
  case atStart => exact ⟨0, 0, Nat.zero_le _, rfl, rfl⟩
  case round =>
    obtain ⟨k, n, hk, rfl, rfl⟩ := hrel
    by_cases hlt : k < len
    · have g0 : (w.drewN n).cell? ⟨b, off + k, none⟩ = some (.int .i64 (f k)) := hc.out k hlt
      have g1 : (w.drewN n).cell? ⟨b2, off2 + k, none⟩ = some (.int .i64 (f k)) := hc2.out k hlt
      have hlt' : (k : Int) < (len : Int) := by omega
      have hB : Hid (Below w.heap.size w (w.drewN n)) := below_drewN (Below.refl _ _) n
      generalize hW : w.drewN n = W at g0 g1 hB ⊢
      go_wp2
      go_quiet (fail)
      go_wp2
      go_roundw
      case rel =>
        rename_i nq
        exact ⟨k + 1, n + nq, by omega, by go_num, by rw [← hW]; simp⟩
      case measure => simp [intOf]; omega
    · have : k = len := by omega
      subst this
      go_wp2
      go_ret
      exact ⟨rfl, below_drewN (Below.refl _ _) n⟩
/-- laws.lwNums of two lists that hold the same. -/
theorem lwNums_any (a a2 : Option Addr) (len cap cap2 : Nat) (f : Nat → Int) (hl : len ≤ 1048576) (w : World) (h1 : Ints a len f w) (h2 : Ints a2 len f w) :
    Calls Tryd.prog 52 #[.slice a len cap, .slice a2 len cap2] w fun e w' => e = .returned (.bool true) ∧ Below w.heap.size w w' := by
  by_cases h0 : len = 0
  · subst h0
    exact lwNums_none a a2 cap cap2 w
  · obtain ⟨b, off, rfl, hb, hc⟩ := h1 (by omega)
    obtain ⟨b2, off2, rfl, hb2, hc2⟩ := h2 (by omega)
    exact lwNums_some b off b2 off2 len cap cap2 f hl w hb hb2 hc hc2
set_option maxHeartbeats 4000000 in
theorem lwCred_any (u g : Int) (a a2 : Option Addr) (len cap cap2 : Nat) (r : Bool) (f : Nat → Int) (hl : len ≤ 1048576) (w : World) (h1 : Ints a len f w) (h2 : Ints a2 len f w) :
    Calls Tryd.prog 17 #[.agg #[.int .i64 u, .int .i64 g, .slice a len cap, .bool r], .agg #[.int .i64 u, .int .i64 g, .slice a2 len cap2, .bool r]] w fun e w' => e = .returned (.bool true) ∧ Below w.heap.size w w' := by
  have hc : Hid (∀ w', Below w.heap.size w w' → Calls Tryd.prog 52 #[.slice a len cap, .slice a2 len cap2] w' fun e w'' => e = .returned (.bool true) ∧ Below w'.heap.size w' w'') := (fun w' hb => lwNums_any a a2 len cap cap2 f hl w' (h1.below hb) (h2.below hb))
  clear h1 h2 hl
  go_enter Tryd.func17, Tryd.ntmps17
  have hbA := bel_allocD w (.cells #[.int .i64 u, .int .i64 g, .slice a len cap, .bool r] 25)
  have hbB := bel_allocD (w.alloc (.cells #[.int .i64 u, .int .i64 g, .slice a len cap, .bool r] 25)) (.cells #[.int .i64 u, .int .i64 g, .slice a2 len cap2, .bool r] 25)
  have hbAB := hbA.trans (hbB.mono hbA.size)
  have hX := (fr4_new w (.int .i64 u) (.int .i64 g) (.slice a len cap) (.bool r) 25).below hbB
  have hY := fr4_new (w.alloc (.cells #[.int .i64 u, .int .i64 g, .slice a len cap, .bool r] 25)) (.int .i64 u) (.int .i64 g) (.slice a2 len cap2) (.bool r) 25
  have eY : (w.alloc (.cells #[.int .i64 u, .int .i64 g, .slice a len cap, .bool r] 25)).heap.size = w.heap.size + 1 := by simp
  rw [eY] at hY
  go_wp2_with fail
  refine (hc.out _ hbAB).mono ?_
  rintro e w1 ⟨rfl, hb1⟩
  have x3 := (hX.below hb1).c3
  have y3 := (hY.below hb1).c3
  have HB : Hid (Below w.heap.size w w1) := hbAB.trans (hb1.mono hbAB.size)
  clear hc hbA hbB hbAB hX hY eY hb1
  go_wp2
  go_ret
  exact ⟨rfl, HB.out⟩
end Go.Proofs.YtgooanaacebncaaDoor
