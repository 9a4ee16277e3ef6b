/- laws.eqTreeOut, markTreeOut, heldTreeOut. -/
import Derived.Test.YtgodbelcddgdmaaMkH
import Derived.Test.YtgodbelcddgdmaaTreeEq
namespace Go.Proofs.Ytgodbelcddgdmaa
open Go.RowKit Go.PlainAid Go.Deep
set_option linter.unusedVariables false
set_option maxHeartbeats 4000000 in
theorem markTO_any (lo hi : Nat) (a : Option Addr) (len cap k : Nat) (now nd cd : Int) (F0 : Nat → Nd) (Y : Nat → Na) (h0 : 0 < k) (hk : kAt k F0 len ≤ 300000000) (hl : len ≤ 1048576) (hf : ∀ i, i < len → NdFit 1048576 (F0 i)) (w : World) (ho : OwnX w lo hi a F0 Y len) :
    Calls Try.prog 8 #[.agg #[.slice a len cap, .int .i64 now, .int .i64 nd, .int .i64 cd], .int .i64 k] w fun e w' => e = .returned (.int .i64 (kAt k F0 len : Nat)) ∧ OwnX w' lo hi a (mkRow k F0) Y len ∧ Btw lo hi w w' := by
  have HC : Hid (∀ w', Below w.heap.size w w' → Calls Try.prog 13 #[.agg #[.slice a len cap, .int .i64 now], .int .i64 k] w' fun e w'' => e = .returned (.int .i64 (kAt k F0 len : Nat)) ∧ OwnX w'' lo hi a (mkRow k F0) Y len ∧ Btw lo hi w' w'') := (fun w' hb => markTreeX_any lo hi a len cap k now F0 Y h0 hk hl hf w' (ho.below hb))
  clear ho hf hk
  go_enter Try.func8, Try.ntmps8
  go_wp2_with fail
  refine (HC.out _ (bel_alloc _ _)).mono ?_
  rintro e w1 ⟨rfl, ho, hb⟩
  have hO1 : Hid (OwnX w1 lo hi a (mkRow k F0) Y len) := ho
  have hB1 : Hid (Btw lo hi w w1) := (Btw.of (bel_alloc _ _)).trans hb
  clear ho hb
  go_wp2
  go_ret
  exact ⟨rfl, hO1.out, hB1.out⟩
set_option maxHeartbeats 4000000 in
theorem heldTO_any (lo hi : Nat) (a : Option Addr) (len cap k : Nat) (now nd cd : Int) (F0 : Nat → Nd) (Y : Nat → Na) (h0 : 0 < k) (hk : kAt k F0 len ≤ 300000000) (hl : len ≤ 1048576) (hf : ∀ i, i < len → NdFit 1048576 (F0 i)) (w : World) (ho : OwnX w lo hi a (mkRow k F0) Y len) :
    Calls Try.prog 9 #[.agg #[.slice a len cap, .int .i64 now, .int .i64 nd, .int .i64 cd], .int .i64 k] w fun e w' => e = .returned (.int .i64 (kAt k F0 len : Nat)) ∧ Below w.heap.size w w' := by
  have HC : Hid (∀ w', Below w.heap.size w w' → Calls Try.prog 14 #[.agg #[.slice a len cap, .int .i64 now], .int .i64 k] w' fun e w'' => e = .returned (.int .i64 (kAt k F0 len : Nat)) ∧ Below w'.heap.size w' w'') := (fun w' hb => heldTreeX_any lo hi a len cap k now F0 Y h0 hk hl hf w' (ho.below hb))
  have hn : ¬ ((kAt k F0 len : Nat) : Int) < 0 := by omega
  clear ho hf hk
  go_enter Try.func9, Try.ntmps9
  go_wp2_with fail
  refine (HC.out _ (bel_alloc _ _)).mono ?_
  rintro e w1 ⟨rfl, hb⟩
  have hB1 : Hid (Below w.heap.size w w1) := Below.on (bel_alloc _ _) hb
  clear hb
  go_wp2
  go_ret
  exact ⟨rfl, hB1.out⟩
set_option maxHeartbeats 4000000 in
theorem eqTO_any (a a2 : Option Addr) (len cap cap2 : Nat) (l : List Nd) (now nd cd : Int) (hl : len ≤ 1048576) (hf : ∀ i, i < len → NdFit 1048576 (ndAt l i)) (w : World) (h1 : Nds a len l w) (h2 : Nds a2 len l w) :
    Calls Try.prog 7 #[.agg #[.slice a len cap, .int .i64 now, .int .i64 nd, .int .i64 cd], .agg #[.slice a2 len cap2, .int .i64 now, .int .i64 nd, .int .i64 cd]] w fun e w' => e = .returned (.bool true) ∧ Below w.heap.size w w' := by
  have HC : Hid (∀ w', Below w.heap.size w w' → Calls Try.prog 12 #[.agg #[.slice a len cap, .int .i64 now], .agg #[.slice a2 len cap2, .int .i64 now]] w' fun e w'' => e = .returned (.bool true) ∧ Below w'.heap.size w' w'') := (fun w' hb => eqTree_any a a2 len cap cap2 l now hl hf w' (h1.below hb) (h2.below hb))
  have HX : Hid (BoxR ((w.alloc (.cells #[.slice a len cap, .int .i64 now, .int .i64 nd, .int .i64 cd] 26)).alloc (.cells #[.slice a2 len cap2, .int .i64 now, .int .i64 nd, .int .i64 cd] 26)) w.heap.size [.slice a len cap, .int .i64 now, .int .i64 nd, .int .i64 cd]) := (boxR_new w [.slice a len cap, .int .i64 now, .int .i64 nd, .int .i64 cd] 26).below (bel_alloc _ _)
  have HZ : Hid (BoxR ((w.alloc (.cells #[.slice a len cap, .int .i64 now, .int .i64 nd, .int .i64 cd] 26)).alloc (.cells #[.slice a2 len cap2, .int .i64 now, .int .i64 nd, .int .i64 cd] 26)) (w.heap.size + 1) [.slice a2 len cap2, .int .i64 now, .int .i64 nd, .int .i64 cd]) := (by
    have h := boxR_new (w.alloc (.cells #[.slice a len cap, .int .i64 now, .int .i64 nd, .int .i64 cd] 26)) [.slice a2 len cap2, .int .i64 now, .int .i64 nd, .int .i64 cd] 26
    simp only [World.size_alloc] at h
    exact h)
  have HB : Hid (Below w.heap.size w ((w.alloc (.cells #[.slice a len cap, .int .i64 now, .int .i64 nd, .int .i64 cd] 26)).alloc (.cells #[.slice a2 len cap2, .int .i64 now, .int .i64 nd, .int .i64 cd] 26))) := bl2T _ _ _
  clear h1 h2 hf
  go_enter Try.func7, Try.ntmps7
  go_upto_region 1 with fail
  generalize ((w.alloc (.cells #[.slice a len cap, .int .i64 now, .int .i64 nd, .int .i64 cd] 26)).alloc (.cells #[.slice a2 len cap2, .int .i64 now, .int .i64 nd, .int .i64 cd] 26)) = w0 at HX HZ HB ⊢
  obtain ⟨X, hX⟩ : ∃ X, X = w.heap.size := ⟨_, rfl⟩
  rw [← hX] at HX HZ ⊢
  clear hX
  have x0 : w0.cell? ⟨X, 0, none⟩ = some (.slice a len cap) := HX.out.at0 0 _ rfl
  have x1 : w0.cell? ⟨X, 1, none⟩ = some (.int .i64 now) := HX.out.at0 1 _ rfl
  have z0 : w0.cell? ⟨X + 1, 0, none⟩ = some (.slice a2 len cap2) := HZ.out.at0 0 _ rfl
  have z1 : w0.cell? ⟨X + 1, 1, none⟩ = some (.int .i64 now) := HZ.out.at0 1 _ rfl
  go_wp2_with fail
  refine (HC.out _ HB.out).mono ?_
  rintro e w1 ⟨rfl, hb⟩
  have HB1 : Hid (Below w.heap.size w w1) := Below.on HB.out hb
  have x2 : w1.cell? ⟨X, 2, none⟩ = some (.int .i64 nd) := (HX.out.below hb).at0 2 _ rfl
  have x3 : w1.cell? ⟨X, 3, none⟩ = some (.int .i64 cd) := (HX.out.below hb).at0 3 _ rfl
  have z2 : w1.cell? ⟨X + 1, 2, none⟩ = some (.int .i64 nd) := (HZ.out.below hb).at0 2 _ rfl
  have z3 : w1.cell? ⟨X + 1, 3, none⟩ = some (.int .i64 cd) := (HZ.out.below hb).at0 3 _ rfl
  have q1 : (nd != nd) = false := by simp
  have q2 : (cd != cd) = false := by simp
  clear hb x0 x1 z0 z1
  go_wp2
  go_ret
  exact ⟨rfl, HB1.out⟩
end Go.Proofs.Ytgodbelcddgdmaa
