/- slices.Grow and slices.Concat at lists of pairs. -/
import Derived.Test.YtgojbilbkfilgaaCatMath
namespace Go.Proofs.Ytgojbilbkfilgaa
open Go.RowKit Go.PlainAid Go.Deep
set_option linter.unusedVariables false
theorem infoNamedC : (Try.prog.info? 69).map (fun i => (i.zero, i.size, i.bytes)) = some (some (.agg #[.int .i64 0, .int .i64 0]), 2, 16) := by kernel_rfl
set_option maxRecDepth 100000 in
/-- append of n zero values onto nil. -/
theorem append_zeros (n : Nat) (h0 : 0 < n) (h1 : n ≤ 1000000) (ty : TypeId) (w : World) :
    ∃ c w', (Builtin.append_ #[23, 3] ty #[.slice none 0 0, .int .i64 n]).run Try.prog w = .ok (.slice (some ⟨w.heap.size, 0, none⟩) n c) w' ∧ n ≤ c ∧ w'.ownsRow w.heap.size 69 2 (.slice (some ⟨w.heap.size, 0, none⟩) 0 c) 0 [] ∧ Below w.heap.size w w' := by
  obtain ⟨i, hi, hzz⟩ := Option.map_eq_some_iff.1 infoNamedC
  simp only [Prod.mk.injEq] at hzz
  obtain ⟨hz, hs, hb⟩ := hzz
  have hr := Go.Lib.run_append_nil_zeros (P := Try.prog) w 23 3 ty 69 i _ .i64 .i64 Try.underlying23 Try.underlying3 hi hz n h0 (by omega) (by omega) (by rw [hb]; omega)
  have hge := grownCap_ge w n 0 69
  have hcm : grownCap w n 0 69 ≤ maxLen := grownCap_le_maxLen w n 0 69 (by unfold maxLen; omega)
  refine ⟨_, _, hr, hge, ?_, ?_⟩
  · refine World.ownsRow_made w.drew _ _ (Nat.le_refl _) hcm ?_
    simp only [Array.size_append, size_zeroCells]
    rw [← Nat.add_mul]
    congr 1
    omega
  · exact Below.trans (b := w.drew) ⟨rfl, rfl, rfl, Nat.le_refl _, fun _ _ => rfl⟩ (bel_alloc w.drew _)
set_option maxRecDepth 100000 in
set_option maxHeartbeats 2000000 in
theorem grow_nil (n : Nat) (h1 : n ≤ 1000000) (w : World) :
    Calls Try.prog 135 #[.slice none 0 0, .int .i64 n] w fun e w' => ∃ v, e = .returned v ∧ w'.ownsRow w.heap.size 69 2 v 0 [] ∧ Below w.heap.size w w' := by
  have d0 : decide ((n : Int) < 0) = false := decide_eq_false (by omega)
  by_cases h0 : n = 0
  · subst h0
    go_enter Try.func135, Try.ntmps135
    go_wp2
    go_ret
    exact ⟨_, rfl, World.ownsRow_nil _ _ _ _, Below.refl _ _⟩
  · have hp : 0 < (n : Int) := by omega
    obtain ⟨c, w1, hr, hnc, hown, hbel⟩ := append_zeros n (by omega) h1 23 w
    have hc0 : (0 : Int) ≤ (c : Int) := by omega
    have HO : Hid (w1.ownsRow w.heap.size 69 2 (.slice (some ⟨w.heap.size, 0, none⟩) 0 c) 0 []) := hown
    have HB : Hid (Below w.heap.size w w1) := hbel
    clear h0 hown hbel
    go_enter Try.func135, Try.ntmps135
    go_wp2_with (at_builtin; refine wpList_append_run _ rfl (.tmp 20) (.tmp 21) 23 3 rfl _ _ _ _ rfl rfl hr ?_)
    go_ret
    exact ⟨_, rfl, HO.out, HB.out⟩
theorem own_cap {w : World} {B : Nat} {t : TypeId} {a : Option Addr} {n c : Nat} {xs : List Value} (h : w.ownsRow B t 2 (.slice a n c) n xs) : n ≤ c := by
  obtain ⟨_, ⟨h, hn⟩ | ⟨g, cap, cur, h, _, _, hc, _⟩⟩ := h
  · omega
  · cases h
    exact hc
/-- The first k lists, one behind the other. -/
def cat (ls : Nat → List (Int × Int)) : Nat → List (Int × Int)
  | 0 => []
  | k + 1 => cat ls k ++ ls k
theorem cat_mono (ls : Nat → List (Int × Int)) {j k : Nat} (h : j ≤ k) : (cat ls j).length ≤ (cat ls k).length := by
  induction k with
  | zero => have : j = 0 := by omega
            subst this; exact Nat.le_refl _
  | succ k ih =>
    by_cases e : j = k + 1
    · subst e; exact Nat.le_refl _
    · have := ih (by omega)
      simp only [cat, List.length_append]
      omega
set_option maxRecDepth 100000 in
set_option maxHeartbeats 4000000 in
/-- slices.Concat of n lists that lie in a row. -/
theorem concat_any (A n : Nat) (cap : Nat) (ads : Nat → Option Addr) (cs : Nat → Nat) (ls : Nat → List (Int × Int)) (hn : n ≤ 1000) (hN : (cat ls n).length ≤ 1000000) (w : World) (hA : A < w.heap.size)
    (hc : ∀ j, j < n → w.cell? ⟨A, j, none⟩ = some (.slice (ads j) (ls j).length (cs j)) ∧ Prs (ads j) (ls j).length (ls j) w) :
    Calls Try.prog 119 #[.slice (some ⟨A, 0, none⟩) n cap] w fun e w' => ∃ a c, e = .returned (.slice a (cat ls n).length c) ∧ (cat ls n).length ≤ c ∧ Own a (cat ls n).length (cat ls n) w' ∧ (∀ Ad, a = some Ad → w.heap.size ≤ Ad.block ∧ Ad.block < w'.heap.size) ∧ Below w.heap.size w w' := by
  have HC : Hid (∀ j, j < n → w.cell? ⟨A, j, none⟩ = some (.slice (ads j) (ls j).length (cs j)) ∧ Prs (ads j) (ls j).length (ls j) w) := hc
  have HM : Hid (∀ k, k ≤ n → (cat ls k).length ≤ 1000000) := (fun k hk => Nat.le_trans (cat_mono ls hk) hN)
  clear hc
  go_enter Try.func119, Try.ntmps119
  go_wp2
  go_loop [3, 11] (fun s i => ∃ k : Nat, k ≤ n ∧ i = .int .i64 k ∧ s = .int .i64 ((cat ls k).length : Nat)) (fun _ i => n - (intOf i).toNat)
  case atStart => exact ⟨0, Nat.zero_le _, rfl, rfl⟩
  case round =>
    obtain ⟨k, hk, rfl, rfl⟩ := hrel
    by_cases hlt : k < n
    · have hlt' : (k : Int) < (n : Int) := by omega
      obtain ⟨g0, _⟩ := HC.out k hlt
      have hm := HM.out k hk
      have hm1 := HM.out (k + 1) hlt
      have el : (cat ls (k + 1)).length = (cat ls k).length + (ls k).length := by simp [cat]
      have EL : Hid ((cat ls (k + 1)).length = (cat ls k).length + (ls k).length) := el
      have hsum : ((cat ls k).length : Int) + ((ls k).length : Int) ≤ 1000000 := by omega
      have d1 : decide (((cat ls k).length : Int) + ((ls k).length : Int) < 0) = false := decide_eq_false (by omega)
      clear el hm1
      go_wp2
      go_round
      case rel => exact ⟨k + 1, by omega, by go_num, by rw [EL.out]; go_num⟩
      case measure => simp [intOf]; omega
    · have : k = n := by omega
      subst this
      have hm := HM.out k hk
      go_wp2_with fail
      refine (grow_nil (cat ls k).length hm _).mono ?_
      rintro e w1 ⟨v, rfl, hown, hb1⟩
      have HO : Hid (w1.ownsRow w.heap.size 69 2 v 0 []) := hown
      have HB1 : Hid (Below w.heap.size w w1) := hb1
      clear hown hb1
      go_wp2
      go_loopw [6, 27] (fun v i wr => ∃ j : Nat, j ≤ k ∧ i = .int .i64 j ∧ Hid (wr.ownsRow w.heap.size 69 2 v (cat ls j).length (pc (cat ls j))) ∧ Hid (Below w.heap.size w wr)) (fun _ i _ => k - (intOf i).toNat)
      case atStart => exact ⟨0, Nat.zero_le _, rfl, HO, HB1⟩
      case round =>
        obtain ⟨j, hj, rfl, hO, hB⟩ := hrel
        by_cases hlt2 : j < k
        · have hlt' : (j : Int) < (k : Int) := by omega
          obtain ⟨g0, hp⟩ := HC.out j hlt2
          have g1 : wr.cell? ⟨A, j, none⟩ = some (.slice (ads j) (ls j).length (cs j)) := (hB.out.cell (p := ⟨A, j, none⟩) hA).trans g0
          have hm1 := HM.out (j + 1) hlt2
          have el : (cat ls (j + 1)).length = (cat ls j).length + (ls j).length := by simp [cat]
          obtain ⟨v2, w2, hr, hO2, hg2⟩ := run_append_prs (P := Try.prog) wr w.heap.size 23 23 69 Try.underlying23 infoNamedC u6 (cat ls j) hO.out (ads j) (ls j).length (cs j) (ls j) (hp.below hB.out) (by omega) hB.out.size
          have HO2 : Hid (w2.ownsRow w.heap.size 69 2 v2 (cat ls (j + 1)).length (pc (cat ls (j + 1)))) := hO2
          have HB2 : Hid (Below w.heap.size w w2) := hB.out.grown hg2 hB.out.size (own_blockN hO.out)
          clear el hm1 hO2 hg2 g0 hp hO hB HO HB1
          go_wp2_with (at_builtin; refine wpList_append_run _ rfl (.tmp 31) (.tmp 32) 23 23 rfl _ _ _ _ rfl rfl hr ?_)
          go_roundw
          case rel => exact ⟨j + 1, by omega, by go_num, HO2, HB2⟩
          case measure => simp [intOf]; omega
        · have : j = k := by omega
          subst this
          go_wp2
          go_ret
          obtain ⟨a, c, rfl, h1, h2⟩ := own_of_row hO.out
          exact ⟨a, c, rfl, own_cap hO.out, h1, h2, hB.out⟩
end Go.Proofs.Ytgojbilbkfilgaa
