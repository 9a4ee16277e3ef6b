/- The laws FnExactTreeNew, FnExactDeskTree. -/
import Derived.Test.YtgodbelcddgdmaaTnW
import Derived.Test.YtgodbelcddgdmaaTrOut
namespace Go.Proofs.Ytgodbelcddgdmaa
open Go.RowKit Go.PlainAid Go.Deep
set_option linter.unusedVariables false
def tnX (o g m : Int) : List Nd := if tnO o g m then tnL o g m else []
theorem tn_fit (o g m : Int) (i : Nat) : NdFit 1048576 (tnF o g m i) := by
  unfold tnF
  split
  · exact ⟨Nat.zero_le _, Nat.zero_le _, Nat.zero_le _, Nat.zero_le _, Nat.zero_le _, Nat.zero_le _, fun i h => absurd h (Nat.not_lt_zero i)⟩
  · exact ⟨Nat.zero_le _, Nat.zero_le _, Nat.zero_le _, Nat.zero_le _, Nat.zero_le _, Nat.zero_le _, fun i h => absurd h (Nat.not_lt_zero i)⟩
theorem tn_cnt (o g m : Int) (i : Nat) : cntMk (tnF o g m i) = 19 := by
  have h := tn_ln o g m i
  have h0 := h 0
  have h1 := h 1
  have h2 := h 2
  have h3 := h 3
  have h4 := h 4
  simp only [lnAt] at h0 h1 h2 h3 h4
  unfold cntMk
  rw [h0, h1, h2, h3, h4]
theorem tn_kAt (o g m : Int) : ∀ n, kAt 1 (tnF o g m) n = 1 + 19 * n
  | 0 => rfl
  | n + 1 => by rw [kAt, tn_kAt o g m n, tn_cnt]; omega
theorem tn_nds {w : World} {lo hi : Nat} {a : Option Addr} {o g m : Int} (h : OwnX w lo hi a (tnF o g m) (fun _ => naZ) (if tnO o g m then 12 else 0)) : Nds a (if tnO o g m then 12 else 0) (tnX o g m) w := by
  cases e : tnO o g m
  · rw [tnX, e]; exact nds_nil _ _
  · rw [e] at h
    rw [tnX, e]
    rw [← tn_at] at h
    exact h.nds rfl
theorem tnX_fit (o g m : Int) (i : Nat) (hi : i < if tnO o g m then 12 else 0) : NdFit 1048576 (ndAt (tnX o g m) i) := by
  cases e : tnO o g m
  · rw [e] at hi; exact absurd hi (Nat.not_lt_zero i)
  · rw [tnX, e]
    simp only [if_true]
    rw [tn_at]
    exact tn_fit o g m i
set_option maxRecDepth 20000 in
set_option maxHeartbeats 8000000 in
theorem treeNew_any (o g m : Int) (w : World) :
    Calls Try.prog 3 #[.int .i64 o, .int .i64 g, .int .i64 m] w fun e w' => e = .returned (.bool true) ∧ Below w.heap.size w w' := by
  have HSp : Hid (∀ w, Calls Try.prog 5 #[.int .i64 o, .int .i64 g, .int .i64 m] w fun e w' => ∃ (a : Option Addr) (c : Nat) (lo hi : Nat), e = .returned (.agg #[.slice a (if tnO o g m then 12 else 0) c, .int .i64 0, .int .i64 (if tnO o g m then 1 else 0), .int .i64 (if tnO o g m then 0 else 1)]) ∧ OwnX w' lo hi a (tnF o g m) (fun _ => naZ) (if tnO o g m then 12 else 0) ∧ w.heap.size ≤ lo ∧ hi ≤ w'.heap.size ∧ Below w.heap.size w w') := (fun w => (sTreeNew_any o g m w).mono (fun e w' h => (by obtain ⟨⟨a, lo, hi, he, ho, h1, h2⟩, hb⟩ := h; exact ⟨a, _, lo, hi, he, ho, h1, h2, hb⟩)))
  have HIm : Hid (∀ w, Calls Try.prog 6 #[.int .i64 o, .int .i64 g, .int .i64 m] w fun e w' => ∃ (a : Option Addr) (c : Nat) (lo hi : Nat), e = .returned (.agg #[.slice a (if tnO o g m then 12 else 0) c, .int .i64 0, .int .i64 (if tnO o g m then 1 else 0), .int .i64 (if tnO o g m then 0 else 1)]) ∧ OwnX w' lo hi a (tnF o g m) (fun _ => naZ) (if tnO o g m then 12 else 0) ∧ w.heap.size ≤ lo ∧ hi ≤ w'.heap.size ∧ Below w.heap.size w w') := (fun w => (iTreeNew_any o g m w).mono (fun e w' h => (by obtain ⟨⟨a, lo, hi, he, ho, h1, h2⟩, hb⟩ := h; exact ⟨a, _, lo, hi, he, ho, h1, h2, hb⟩)))
  have HNd : Hid (∀ (w : World) (lo hi : Nat) (a : Option Addr), OwnX w lo hi a (tnF o g m) (fun _ => naZ) (if tnO o g m then 12 else 0) → Nds a (if tnO o g m then 12 else 0) (tnX o g m) w) := (fun w lo hi a h => tn_nds h)
  have HFx : Hid (∀ i, i < (if tnO o g m then 12 else 0) → NdFit 1048576 (ndAt (tnX o g m) i)) := (fun i hi => tnX_fit o g m i hi)
  have HFf : Hid (∀ i, NdFit 1048576 (tnF o g m i)) := (fun i => tn_fit o g m i)
  have HKb : Hid (kAt 1 (tnF o g m) (if tnO o g m then 12 else 0) ≤ 300000000) := (by show _ ≤ _; rw [tn_kAt]; split <;> decide)
  have hN : (if tnO o g m then 12 else 0) ≤ 1048576 := by split <;> decide
  generalize (if tnO o g m then (1 : Int) else 0) = nd at HSp HIm
  generalize (if tnO o g m then (0 : Int) else 1) = cd at HSp HIm
  generalize (if tnO o g m then 12 else 0) = N at HSp HIm HNd HFx HKb hN
  generalize tnX o g m = L at HNd HFx
  generalize tnF o g m = F at HSp HIm HNd HFf HKb
  generalize (fun _ => naZ : Nat → Na) = Y at HSp HIm HNd
  have hone : ((1 : Nat) : Int) = 1 := rfl
  go_enter Try.func3, Try.ntmps3
  go_wp2_with fail
  refine (HSp.out _).mono ?_
  rintro e w1 ⟨a0, c0, lo0, hi0, rfl, hO0, hlo0, hhi0, hb1⟩
  have HN0 : Hid (w.heap.size ≤ w1.heap.size ∧ hi0 ≤ w1.heap.size ∧ w.heap.size ≤ lo0) := ⟨hb1.size, hhi0, hlo0⟩
  have hb2 := bel_alloc w1 (.cells #[.slice a0 N c0, .int .i64 0, .int .i64 nd, .int .i64 cd] 26)
  have HX : Hid (BoxR (w1.alloc (.cells #[.slice a0 N c0, .int .i64 0, .int .i64 nd, .int .i64 cd] 26)) w1.heap.size [.slice a0 N c0, .int .i64 0, .int .i64 nd, .int .i64 cd]) := boxR_new _ _ _
  have HA : Hid (OwnX (w1.alloc (.cells #[.slice a0 N c0, .int .i64 0, .int .i64 nd, .int .i64 cd] 26)) lo0 hi0 a0 F Y N) := hO0.below hb2
  have HW : Hid (Below w.heap.size w (w1.alloc (.cells #[.slice a0 N c0, .int .i64 0, .int .i64 nd, .int .i64 cd] 26))) := Below.on hb1 hb2
  clear hb1 hb2 hO0 hlo0 hhi0
  go_wp2_with fail
  refine (HIm.out _).mono ?_
  rintro e w3 ⟨a1, c1, lo1, hi1, rfl, hO1, hlo1, hhi1, hb3⟩
  have hb4 := bel_alloc w3 (.cells #[.slice a1 N c1, .int .i64 0, .int .i64 nd, .int .i64 cd] 26)
  replace HX : Hid (BoxR (w3.alloc (.cells #[.slice a1 N c1, .int .i64 0, .int .i64 nd, .int .i64 cd] 26)) w1.heap.size [.slice a0 N c0, .int .i64 0, .int .i64 nd, .int .i64 cd]) := (HX.out.below hb3).below hb4
  have HU : Hid (BoxR (w3.alloc (.cells #[.slice a1 N c1, .int .i64 0, .int .i64 nd, .int .i64 cd] 26)) w3.heap.size [.slice a1 N c1, .int .i64 0, .int .i64 nd, .int .i64 cd]) := boxR_new _ _ _
  replace HA : Hid (OwnX (w3.alloc (.cells #[.slice a1 N c1, .int .i64 0, .int .i64 nd, .int .i64 cd] 26)) lo0 hi0 a0 F Y N) := (HA.out.below hb3).below hb4
  have HG : Hid (OwnX (w3.alloc (.cells #[.slice a1 N c1, .int .i64 0, .int .i64 nd, .int .i64 cd] 26)) lo1 hi1 a1 F Y N) := hO1.below hb4
  replace HW : Hid (Below w.heap.size w (w3.alloc (.cells #[.slice a1 N c1, .int .i64 0, .int .i64 nd, .int .i64 cd] 26))) := Below.on (Below.on HW.out hb3) hb4
  have hz2 : (w1.alloc (.cells #[.slice a0 N c0, .int .i64 0, .int .i64 nd, .int .i64 cd] 26)).heap.size = w1.heap.size + 1 := by simp
  have HN1 : Hid (w1.heap.size < lo1 ∧ hi1 ≤ w3.heap.size) := ⟨by rw [hz2] at hlo1; omega, hhi1⟩
  clear hb3 hb4 hO1 hlo1 hhi1 hz2
  go_upto_region 3 with fail
  generalize w3.alloc (.cells #[.slice a1 N c1, .int .i64 0, .int .i64 nd, .int .i64 cd] 26) = w4 at HX HU HA HG HW ⊢
  generalize w3.heap.size = X1 at HU HN1 ⊢
  generalize w1.heap.size = X0 at HX HN0 HN1 ⊢
  have x0 : w4.cell? ⟨X0, 0, none⟩ = some (.slice a0 N c0) := HX.out.at0 0 _ rfl
  have x1 : w4.cell? ⟨X0, 1, none⟩ = some (.int .i64 0) := HX.out.at0 1 _ rfl
  have x2 : w4.cell? ⟨X0, 2, none⟩ = some (.int .i64 nd) := HX.out.at0 2 _ rfl
  have x3 : w4.cell? ⟨X0, 3, none⟩ = some (.int .i64 cd) := HX.out.at0 3 _ rfl
  have q0 : w4.cell? ⟨X1, 0, none⟩ = some (.slice a1 N c1) := HU.out.at0 0 _ rfl
  have q1 : w4.cell? ⟨X1, 1, none⟩ = some (.int .i64 0) := HU.out.at0 1 _ rfl
  have q2 : w4.cell? ⟨X1, 2, none⟩ = some (.int .i64 nd) := HU.out.at0 2 _ rfl
  have q3 : w4.cell? ⟨X1, 3, none⟩ = some (.int .i64 cd) := HU.out.at0 3 _ rfl
  go_wp2_with fail
  refine (eqTO_any a1 a0 N c1 c0 L 0 nd cd hN HFx.out w4 (HNd.out _ _ _ _ HG.out) (HNd.out _ _ _ _ HA.out)).mono ?_
  rintro e w5 ⟨rfl, hb⟩
  replace HX : Hid (BoxR w5 X0 [.slice a0 N c0, .int .i64 0, .int .i64 nd, .int .i64 cd]) := HX.out.below hb
  replace HU : Hid (BoxR w5 X1 [.slice a1 N c1, .int .i64 0, .int .i64 nd, .int .i64 cd]) := HU.out.below hb
  replace HA : Hid (OwnX w5 lo0 hi0 a0 F Y N) := HA.out.below hb
  replace HG : Hid (OwnX w5 lo1 hi1 a1 F Y N) := HG.out.below hb
  replace HW : Hid (Below w.heap.size w w5) := Below.on HW.out hb
  clear hb x0 x1 x2 x3 q0 q1 q2 q3
  have q0 : w5.cell? ⟨X1, 0, none⟩ = some (.slice a1 N c1) := HU.out.at0 0 _ rfl
  have q1 : w5.cell? ⟨X1, 1, none⟩ = some (.int .i64 0) := HU.out.at0 1 _ rfl
  have q2 : w5.cell? ⟨X1, 2, none⟩ = some (.int .i64 nd) := HU.out.at0 2 _ rfl
  have q3 : w5.cell? ⟨X1, 3, none⟩ = some (.int .i64 cd) := HU.out.at0 3 _ rfl
  go_wp2_with fail
  refine (markTO_any lo1 hi1 a1 N c1 1 0 nd cd F Y (by decide) HKb.out hN (fun i _ => HFf.out i) w5 HG.out).mono ?_
  rintro e w6 ⟨rfl, hO6, hb⟩
  replace HX : Hid (BoxR w6 X0 [.slice a0 N c0, .int .i64 0, .int .i64 nd, .int .i64 cd]) := HX.out.btw hb (by have := HN1.out; omega)
  replace HU : Hid (BoxR w6 X1 [.slice a1 N c1, .int .i64 0, .int .i64 nd, .int .i64 cd]) := HU.out.btw hb (by have := HN1.out; omega)
  replace HA : Hid (OwnX w6 lo0 hi0 a0 F Y N) := HA.out.btw hb (by have := HN0.out; have := HN1.out; omega)
  replace HG : Hid (OwnX w6 lo1 hi1 a1 (mkRow 1 F) Y N) := hO6
  replace HW : Hid (Below w.heap.size w w6) := HW.out.trans (hb.below _ HW.out.size (by have := HN0.out; have := HN1.out; omega))
  clear hb hO6 q0 q1 q2 q3
  have q0 : w6.cell? ⟨X1, 0, none⟩ = some (.slice a1 N c1) := HU.out.at0 0 _ rfl
  have q1 : w6.cell? ⟨X1, 1, none⟩ = some (.int .i64 0) := HU.out.at0 1 _ rfl
  have q2 : w6.cell? ⟨X1, 2, none⟩ = some (.int .i64 nd) := HU.out.at0 2 _ rfl
  have q3 : w6.cell? ⟨X1, 3, none⟩ = some (.int .i64 cd) := HU.out.at0 3 _ rfl
  obtain ⟨M, hM⟩ : ∃ M, M = kAt 1 F N := ⟨_, rfl⟩
  have HMk : Hid (M = kAt 1 F N) := hM
  rw [← hM]
  clear hM
  have hMn : ¬ ((M : Nat) : Int) < 0 := by omega
  have hMM : ((M : Nat) : Int) != ((M : Nat) : Int) ↔ False := by simp
  go_wp2_with fail
  refine (heldTO_any lo1 hi1 a1 N c1 1 0 nd cd F Y (by decide) HKb.out hN (fun i _ => HFf.out i) w6 HG.out).mono ?_
  rintro e w7 ⟨rfl, hb⟩
  rw [← HMk.out]
  replace HX : Hid (BoxR w7 X0 [.slice a0 N c0, .int .i64 0, .int .i64 nd, .int .i64 cd]) := HX.out.below hb
  replace HU : Hid (BoxR w7 X1 [.slice a1 N c1, .int .i64 0, .int .i64 nd, .int .i64 cd]) := HU.out.below hb
  replace HA : Hid (OwnX w7 lo0 hi0 a0 F Y N) := HA.out.below hb
  replace HG : Hid (OwnX w7 lo1 hi1 a1 (mkRow 1 F) Y N) := HG.out.below hb
  replace HW : Hid (Below w.heap.size w w7) := Below.on HW.out hb
  clear hb q0 q1 q2 q3
  go_wp2_with fail
  refine (HIm.out _).mono ?_
  rintro e w8 ⟨a2, c2, lo2, hi2, rfl, hO2, hlo2, hhi2, hb3⟩
  have hb4 := bel_alloc w8 (.cells #[.slice a2 N c2, .int .i64 0, .int .i64 nd, .int .i64 cd] 26)
  replace HX : Hid (BoxR (w8.alloc (.cells #[.slice a2 N c2, .int .i64 0, .int .i64 nd, .int .i64 cd] 26)) X0 [.slice a0 N c0, .int .i64 0, .int .i64 nd, .int .i64 cd]) := (HX.out.below hb3).below hb4
  replace HU : Hid (BoxR (w8.alloc (.cells #[.slice a2 N c2, .int .i64 0, .int .i64 nd, .int .i64 cd] 26)) X1 [.slice a1 N c1, .int .i64 0, .int .i64 nd, .int .i64 cd]) := (HU.out.below hb3).below hb4
  have HV : Hid (BoxR (w8.alloc (.cells #[.slice a2 N c2, .int .i64 0, .int .i64 nd, .int .i64 cd] 26)) w8.heap.size [.slice a2 N c2, .int .i64 0, .int .i64 nd, .int .i64 cd]) := boxR_new _ _ _
  replace HA : Hid (OwnX (w8.alloc (.cells #[.slice a2 N c2, .int .i64 0, .int .i64 nd, .int .i64 cd] 26)) lo0 hi0 a0 F Y N) := (HA.out.below hb3).below hb4
  replace HG : Hid (OwnX (w8.alloc (.cells #[.slice a2 N c2, .int .i64 0, .int .i64 nd, .int .i64 cd] 26)) lo1 hi1 a1 (mkRow 1 F) Y N) := (HG.out.below hb3).below hb4
  have HH : Hid (OwnX (w8.alloc (.cells #[.slice a2 N c2, .int .i64 0, .int .i64 nd, .int .i64 cd] 26)) lo2 hi2 a2 F Y N) := hO2.below hb4
  replace HW : Hid (Below w.heap.size w (w8.alloc (.cells #[.slice a2 N c2, .int .i64 0, .int .i64 nd, .int .i64 cd] 26))) := Below.on (Below.on HW.out hb3) hb4
  clear hb3 hb4 hO2 hlo2 hhi2
  go_upto_region 14 with fail
  generalize w8.alloc (.cells #[.slice a2 N c2, .int .i64 0, .int .i64 nd, .int .i64 cd] 26) = w9 at HX HU HV HA HG HH HW ⊢
  generalize w8.heap.size = X2 at HV ⊢
  have x0 : w9.cell? ⟨X0, 0, none⟩ = some (.slice a0 N c0) := HX.out.at0 0 _ rfl
  have x1 : w9.cell? ⟨X0, 1, none⟩ = some (.int .i64 0) := HX.out.at0 1 _ rfl
  have x2 : w9.cell? ⟨X0, 2, none⟩ = some (.int .i64 nd) := HX.out.at0 2 _ rfl
  have x3 : w9.cell? ⟨X0, 3, none⟩ = some (.int .i64 cd) := HX.out.at0 3 _ rfl
  have p0 : w9.cell? ⟨X2, 0, none⟩ = some (.slice a2 N c2) := HV.out.at0 0 _ rfl
  have p1 : w9.cell? ⟨X2, 1, none⟩ = some (.int .i64 0) := HV.out.at0 1 _ rfl
  have p2 : w9.cell? ⟨X2, 2, none⟩ = some (.int .i64 nd) := HV.out.at0 2 _ rfl
  have p3 : w9.cell? ⟨X2, 3, none⟩ = some (.int .i64 cd) := HV.out.at0 3 _ rfl
  go_wp2_with fail
  refine (eqTO_any a2 a0 N c2 c0 L 0 nd cd hN HFx.out w9 (HNd.out _ _ _ _ HH.out) (HNd.out _ _ _ _ HA.out)).mono ?_
  rintro e w10 ⟨rfl, hb⟩
  replace HU : Hid (BoxR w10 X1 [.slice a1 N c1, .int .i64 0, .int .i64 nd, .int .i64 cd]) := HU.out.below hb
  replace HG : Hid (OwnX w10 lo1 hi1 a1 (mkRow 1 F) Y N) := HG.out.below hb
  replace HW : Hid (Below w.heap.size w w10) := Below.on HW.out hb
  clear hb x0 x1 x2 x3 p0 p1 p2 p3
  have q0 : w10.cell? ⟨X1, 0, none⟩ = some (.slice a1 N c1) := HU.out.at0 0 _ rfl
  have q1 : w10.cell? ⟨X1, 1, none⟩ = some (.int .i64 0) := HU.out.at0 1 _ rfl
  have q2 : w10.cell? ⟨X1, 2, none⟩ = some (.int .i64 nd) := HU.out.at0 2 _ rfl
  have q3 : w10.cell? ⟨X1, 3, none⟩ = some (.int .i64 cd) := HU.out.at0 3 _ rfl
  go_wp2_with fail
  refine (heldTO_any lo1 hi1 a1 N c1 1 0 nd cd F Y (by decide) HKb.out hN (fun i _ => HFf.out i) w10 HG.out).mono ?_
  rintro e w11 ⟨rfl, hb⟩
  rw [← HMk.out]
  replace HW : Hid (Below w.heap.size w w11) := Below.on HW.out hb
  clear hb q0 q1 q2 q3
  go_wp2
  go_ret
  exact ⟨rfl, HW.out⟩
theorem fldO0 (v0 v1 v2 v3 : Value) (w : World) : (Instr.field 26 (.agg #[v0, v1, v2, v3]) 0).run Try.prog w = .ok (.agg #[v0, v1]) w := by kernel_rfl
attribute [local go_sem] fldO0
theorem tnO_desk : tnO 0 0 493 = true := by decide
set_option maxHeartbeats 4000000 in
theorem sDeskTree_any (w : World) :
    Calls Try.prog 10 #[] w fun e w' => ∃ (a : Option Addr) (c : Nat) (lo hi : Nat), e = .returned (.agg #[.slice a 12 c, .int .i64 0]) ∧ OwnX w' lo hi a (tnF 0 0 493) (fun _ => naZ) 12 ∧ w.heap.size ≤ lo ∧ hi ≤ w'.heap.size ∧ Below w.heap.size w w' := by
  have HB : Hid (Below w.heap.size w (w.alloc (.cells #[.slice none 0 0, .int .i64 0] 24))) := bel_alloc _ _
  have HX : Hid (BoxW (w.alloc (.cells #[.slice none 0 0, .int .i64 0] 24)) w.heap.size [.slice none 0 0, .int .i64 0]) := boxW_new w [.slice none 0 0, .int .i64 0] 24
  have HS : Hid ((w.alloc (.cells #[.slice none 0 0, .int .i64 0] 24)).heap.size = w.heap.size + 1) := (by show _ = _; simp)
  go_enter Try.func10, Try.ntmps10
  go_upto_region 1 with fail
  generalize w.alloc (.cells #[.slice none 0 0, .int .i64 0] 24) = w0 at HB HX HS ⊢
  obtain ⟨X, hX⟩ : ∃ X, X = w.heap.size := ⟨_, rfl⟩
  have HXw : Hid (X = w.heap.size) := hX
  rw [← hX] at HX HS ⊢
  clear hX
  go_wp2_with fail
  refine (sTreeNew_any 0 0 493 w0).mono ?_
  rintro e w1 ⟨⟨a, lo, hi, he, ho, hlo, hhi⟩, hb⟩
  rw [tnO_desk] at he ho
  simp only [if_true] at he ho
  subst he
  have HO : Hid (OwnX w1 lo hi a (tnF 0 0 493) (fun _ => naZ) 12) := ho
  have HB1 : Hid (Below w.heap.size w w1) := Below.on HB.out hb
  have HX1 : Hid (BoxW w1 X [.slice none 0 0, .int .i64 0]) := HX.out.below hb
  have HL : Hid (X < lo ∧ hi ≤ w1.heap.size) := ⟨by have := HS.out; omega, hhi⟩
  clear hb ho hlo hhi HB HX HS
  have x0 : w1.cell? ⟨X, 0, none⟩ = some (.slice none 0 0) := HX1.out.at0 0 _ rfl
  have x1 : w1.cell? ⟨X, 1, none⟩ = some (.int .i64 0) := HX1.out.at0 1 _ rfl
  have fz : ∀ k, w1.frozen? ⟨X, k, none⟩ = false := HX1.out.frz
  go_wp2
  refine bodyPost_ret (v := .agg #[.slice a 12 12, .int .i64 0]) (by simp [results, Try.results10, go_sem, x0, x1]) rfl ⟨a, 12, lo, hi, rfl, ?_, by have := HXw.out; have := HL.out.1; omega, by simpa using HL.out.2, bl_setT (bl_setT HB1.out (by have := HXw.out; omega)) (by have := HXw.out; omega)⟩
  have hs := (((Btw.refl X (X + 1) w1).set (o := 0) (v := .slice a 12 12) (Nat.le_refl _) (Nat.lt_succ_self _)).set (o := 1) (v := .int .i64 0) (Nat.le_refl _) (Nat.lt_succ_self _))
  exact HO.out.btw hs (by have := HL.out.1; omega)
set_option maxHeartbeats 4000000 in
theorem iDeskTree_any (w : World) :
    Calls Try.prog 11 #[] w fun e w' => ∃ (a : Option Addr) (c : Nat) (lo hi : Nat), e = .returned (.agg #[.slice a 12 c, .int .i64 0]) ∧ OwnX w' lo hi a (tnF 0 0 493) (fun _ => naZ) 12 ∧ w.heap.size ≤ lo ∧ hi ≤ w'.heap.size ∧ Below w.heap.size w w' := by
  have HB : Hid (Below w.heap.size w (w.alloc (.cells #[.slice none 0 0, .int .i64 0] 24))) := bel_alloc _ _
  have HX : Hid (BoxW (w.alloc (.cells #[.slice none 0 0, .int .i64 0] 24)) w.heap.size [.slice none 0 0, .int .i64 0]) := boxW_new w [.slice none 0 0, .int .i64 0] 24
  have HS : Hid ((w.alloc (.cells #[.slice none 0 0, .int .i64 0] 24)).heap.size = w.heap.size + 1) := (by show _ = _; simp)
  go_enter Try.func11, Try.ntmps11
  go_upto_region 1 with fail
  generalize w.alloc (.cells #[.slice none 0 0, .int .i64 0] 24) = w0 at HB HX HS ⊢
  obtain ⟨X, hX⟩ : ∃ X, X = w.heap.size := ⟨_, rfl⟩
  have HXw : Hid (X = w.heap.size) := hX
  rw [← hX] at HX HS ⊢
  clear hX
  go_wp2_with fail
  refine (iTreeNew_any 0 0 493 w0).mono ?_
  rintro e w1 ⟨⟨a, lo, hi, he, ho, hlo, hhi⟩, hb⟩
  rw [tnO_desk] at he ho
  simp only [if_true] at he ho
  subst he
  have HO : Hid (OwnX w1 lo hi a (tnF 0 0 493) (fun _ => naZ) 12) := ho
  have HB1 : Hid (Below w.heap.size w w1) := Below.on HB.out hb
  have HX1 : Hid (BoxW w1 X [.slice none 0 0, .int .i64 0]) := HX.out.below hb
  have HL : Hid (X < lo ∧ hi ≤ w1.heap.size) := ⟨by have := HS.out; omega, hhi⟩
  clear hb ho hlo hhi HB HX HS
  have x0 : w1.cell? ⟨X, 0, none⟩ = some (.slice none 0 0) := HX1.out.at0 0 _ rfl
  have x1 : w1.cell? ⟨X, 1, none⟩ = some (.int .i64 0) := HX1.out.at0 1 _ rfl
  have fz : ∀ k, w1.frozen? ⟨X, k, none⟩ = false := HX1.out.frz
  go_wp2
  refine bodyPost_ret (v := .agg #[.slice a 12 12, .int .i64 0]) (by simp [results, Try.results11, go_sem, x0, x1]) rfl ⟨a, 12, lo, hi, rfl, ?_, by have := HXw.out; have := HL.out.1; omega, by simpa using HL.out.2, bl_setT (bl_setT HB1.out (by have := HXw.out; omega)) (by have := HXw.out; omega)⟩
  have hs := (((Btw.refl X (X + 1) w1).set (o := 0) (v := .slice a 12 12) (Nat.le_refl _) (Nat.lt_succ_self _)).set (o := 1) (v := .int .i64 0) (Nat.le_refl _) (Nat.lt_succ_self _))
  exact HO.out.btw hs (by have := HL.out.1; omega)
set_option maxRecDepth 20000 in
set_option maxHeartbeats 8000000 in
theorem deskTree_any (w : World) :
    Calls Try.prog 4 #[] w fun e w' => e = .returned (.bool true) ∧ Below w.heap.size w w' := by
  have HSp : Hid (∀ w, Calls Try.prog 10 #[] w fun e w' => ∃ (a : Option Addr) (c : Nat) (lo hi : Nat), e = .returned (.agg #[.slice a 12 c, .int .i64 0]) ∧ OwnX w' lo hi a (tnF 0 0 493) (fun _ => naZ) 12 ∧ w.heap.size ≤ lo ∧ hi ≤ w'.heap.size ∧ Below w.heap.size w w') := (fun w => sDeskTree_any w)
  have HIm : Hid (∀ w, Calls Try.prog 11 #[] w fun e w' => ∃ (a : Option Addr) (c : Nat) (lo hi : Nat), e = .returned (.agg #[.slice a 12 c, .int .i64 0]) ∧ OwnX w' lo hi a (tnF 0 0 493) (fun _ => naZ) 12 ∧ w.heap.size ≤ lo ∧ hi ≤ w'.heap.size ∧ Below w.heap.size w w') := (fun w => iDeskTree_any w)
  have HNd : Hid (∀ (w : World) (lo hi : Nat) (a : Option Addr), OwnX w lo hi a (tnF 0 0 493) (fun _ => naZ) 12 → Nds a 12 (tnL 0 0 493) w) := (fun w lo hi a h => (by rw [← tn_at] at h; exact h.nds rfl))
  have HFx : Hid (∀ i, i < 12 → NdFit 1048576 (ndAt (tnL 0 0 493) i)) := (fun i hi => by rw [tn_at]; exact tn_fit 0 0 493 i)
  have HFf : Hid (∀ i, NdFit 1048576 (tnF 0 0 493 i)) := (fun i => tn_fit 0 0 493 i)
  have HKb : Hid (kAt 1 (tnF 0 0 493) 12 ≤ 300000000) := (by show _ ≤ _; rw [tn_kAt]; decide)
  obtain ⟨N, hNe⟩ : ∃ N : Nat, N = 12 := ⟨_, rfl⟩
  rw [← hNe] at HSp HIm HNd HFx HKb
  have hN : N ≤ 1048576 := by rw [hNe]; decide
  clear hNe
  generalize tnL 0 0 493 = L at HNd HFx
  generalize tnF 0 0 493 = F at HSp HIm HNd HFf HKb
  generalize (fun _ => naZ : Nat → Na) = Y at HSp HIm HNd
  have hone : ((1 : Nat) : Int) = 1 := rfl
  go_enter Try.func4, Try.ntmps4
  go_wp2_with fail
  refine (HSp.out _).mono ?_
  rintro e w1 ⟨a0, c0, lo0, hi0, rfl, hO0, hlo0, hhi0, hb1⟩
  have HN0 : Hid (w.heap.size ≤ w1.heap.size ∧ hi0 ≤ w1.heap.size ∧ w.heap.size ≤ lo0) := ⟨hb1.size, hhi0, hlo0⟩
  have hb2 := bel_alloc w1 (.cells #[.slice a0 N c0, .int .i64 0] 24)
  have HX : Hid (BoxR (w1.alloc (.cells #[.slice a0 N c0, .int .i64 0] 24)) w1.heap.size [.slice a0 N c0, .int .i64 0]) := boxR_new _ _ _
  have HA : Hid (OwnX (w1.alloc (.cells #[.slice a0 N c0, .int .i64 0] 24)) lo0 hi0 a0 F Y N) := hO0.below hb2
  have HW : Hid (Below w.heap.size w (w1.alloc (.cells #[.slice a0 N c0, .int .i64 0] 24))) := Below.on hb1 hb2
  clear hb1 hb2 hO0 hlo0 hhi0
  go_wp2_with fail
  refine (HIm.out _).mono ?_
  rintro e w3 ⟨a1, c1, lo1, hi1, rfl, hO1, hlo1, hhi1, hb3⟩
  have hb4 := bel_alloc w3 (.cells #[.slice a1 N c1, .int .i64 0] 24)
  replace HX : Hid (BoxR (w3.alloc (.cells #[.slice a1 N c1, .int .i64 0] 24)) w1.heap.size [.slice a0 N c0, .int .i64 0]) := (HX.out.below hb3).below hb4
  have HU : Hid (BoxR (w3.alloc (.cells #[.slice a1 N c1, .int .i64 0] 24)) w3.heap.size [.slice a1 N c1, .int .i64 0]) := boxR_new _ _ _
  replace HA : Hid (OwnX (w3.alloc (.cells #[.slice a1 N c1, .int .i64 0] 24)) lo0 hi0 a0 F Y N) := (HA.out.below hb3).below hb4
  have HG : Hid (OwnX (w3.alloc (.cells #[.slice a1 N c1, .int .i64 0] 24)) lo1 hi1 a1 F Y N) := hO1.below hb4
  replace HW : Hid (Below w.heap.size w (w3.alloc (.cells #[.slice a1 N c1, .int .i64 0] 24))) := Below.on (Below.on HW.out hb3) hb4
  have hz2 : (w1.alloc (.cells #[.slice a0 N c0, .int .i64 0] 24)).heap.size = w1.heap.size + 1 := by simp
  have HN1 : Hid (w1.heap.size < lo1 ∧ hi1 ≤ w3.heap.size) := ⟨by rw [hz2] at hlo1; omega, hhi1⟩
  clear hb3 hb4 hO1 hlo1 hhi1 hz2
  go_upto_region 3 with fail
  generalize w3.alloc (.cells #[.slice a1 N c1, .int .i64 0] 24) = w4 at HX HU HA HG HW ⊢
  generalize w3.heap.size = X1 at HU HN1 ⊢
  generalize w1.heap.size = X0 at HX HN0 HN1 ⊢
  have x0 : w4.cell? ⟨X0, 0, none⟩ = some (.slice a0 N c0) := HX.out.at0 0 _ rfl
  have x1 : w4.cell? ⟨X0, 1, none⟩ = some (.int .i64 0) := HX.out.at0 1 _ rfl
  have q0 : w4.cell? ⟨X1, 0, none⟩ = some (.slice a1 N c1) := HU.out.at0 0 _ rfl
  have q1 : w4.cell? ⟨X1, 1, none⟩ = some (.int .i64 0) := HU.out.at0 1 _ rfl
  go_wp2_with fail
  refine (eqTree_any a1 a0 N c1 c0 L 0 hN HFx.out w4 (HNd.out _ _ _ _ HG.out) (HNd.out _ _ _ _ HA.out)).mono ?_
  rintro e w5 ⟨rfl, hb⟩
  replace HX : Hid (BoxR w5 X0 [.slice a0 N c0, .int .i64 0]) := HX.out.below hb
  replace HU : Hid (BoxR w5 X1 [.slice a1 N c1, .int .i64 0]) := HU.out.below hb
  replace HA : Hid (OwnX w5 lo0 hi0 a0 F Y N) := HA.out.below hb
  replace HG : Hid (OwnX w5 lo1 hi1 a1 F Y N) := HG.out.below hb
  replace HW : Hid (Below w.heap.size w w5) := Below.on HW.out hb
  clear hb x0 x1 q0 q1
  have q0 : w5.cell? ⟨X1, 0, none⟩ = some (.slice a1 N c1) := HU.out.at0 0 _ rfl
  have q1 : w5.cell? ⟨X1, 1, none⟩ = some (.int .i64 0) := HU.out.at0 1 _ rfl
  go_wp2_with fail
  refine (markTreeX_any lo1 hi1 a1 N c1 1 0 F Y (by decide) HKb.out hN (fun i _ => HFf.out i) w5 HG.out).mono ?_
  rintro e w6 ⟨rfl, hO6, hb⟩
  replace HX : Hid (BoxR w6 X0 [.slice a0 N c0, .int .i64 0]) := HX.out.btw hb (by have := HN1.out; omega)
  replace HU : Hid (BoxR w6 X1 [.slice a1 N c1, .int .i64 0]) := HU.out.btw hb (by have := HN1.out; omega)
  replace HA : Hid (OwnX w6 lo0 hi0 a0 F Y N) := HA.out.btw hb (by have := HN0.out; have := HN1.out; omega)
  replace HG : Hid (OwnX w6 lo1 hi1 a1 (mkRow 1 F) Y N) := hO6
  replace HW : Hid (Below w.heap.size w w6) := HW.out.trans (hb.below _ HW.out.size (by have := HN0.out; have := HN1.out; omega))
  clear hb hO6 q0 q1
  have q0 : w6.cell? ⟨X1, 0, none⟩ = some (.slice a1 N c1) := HU.out.at0 0 _ rfl
  have q1 : w6.cell? ⟨X1, 1, none⟩ = some (.int .i64 0) := HU.out.at0 1 _ rfl
  obtain ⟨M, hM⟩ : ∃ M, M = kAt 1 F N := ⟨_, rfl⟩
  have HMk : Hid (M = kAt 1 F N) := hM
  rw [← hM]
  clear hM
  have hMn : ¬ ((M : Nat) : Int) < 0 := by omega
  have hMM : ((M : Nat) : Int) != ((M : Nat) : Int) ↔ False := by simp
  go_wp2_with fail
  refine (heldTreeX_any lo1 hi1 a1 N c1 1 0 F Y (by decide) HKb.out hN (fun i _ => HFf.out i) w6 HG.out).mono ?_
  rintro e w7 ⟨rfl, hb⟩
  rw [← HMk.out]
  replace HX : Hid (BoxR w7 X0 [.slice a0 N c0, .int .i64 0]) := HX.out.below hb
  replace HU : Hid (BoxR w7 X1 [.slice a1 N c1, .int .i64 0]) := HU.out.below hb
  replace HA : Hid (OwnX w7 lo0 hi0 a0 F Y N) := HA.out.below hb
  replace HG : Hid (OwnX w7 lo1 hi1 a1 (mkRow 1 F) Y N) := HG.out.below hb
  replace HW : Hid (Below w.heap.size w w7) := Below.on HW.out hb
  clear hb q0 q1
  go_wp2_with fail
  refine (HIm.out _).mono ?_
  rintro e w8 ⟨a2, c2, lo2, hi2, rfl, hO2, hlo2, hhi2, hb3⟩
  have hb4 := bel_alloc w8 (.cells #[.slice a2 N c2, .int .i64 0] 24)
  replace HX : Hid (BoxR (w8.alloc (.cells #[.slice a2 N c2, .int .i64 0] 24)) X0 [.slice a0 N c0, .int .i64 0]) := (HX.out.below hb3).below hb4
  replace HU : Hid (BoxR (w8.alloc (.cells #[.slice a2 N c2, .int .i64 0] 24)) X1 [.slice a1 N c1, .int .i64 0]) := (HU.out.below hb3).below hb4
  have HV : Hid (BoxR (w8.alloc (.cells #[.slice a2 N c2, .int .i64 0] 24)) w8.heap.size [.slice a2 N c2, .int .i64 0]) := boxR_new _ _ _
  replace HA : Hid (OwnX (w8.alloc (.cells #[.slice a2 N c2, .int .i64 0] 24)) lo0 hi0 a0 F Y N) := (HA.out.below hb3).below hb4
  replace HG : Hid (OwnX (w8.alloc (.cells #[.slice a2 N c2, .int .i64 0] 24)) lo1 hi1 a1 (mkRow 1 F) Y N) := (HG.out.below hb3).below hb4
  have HH : Hid (OwnX (w8.alloc (.cells #[.slice a2 N c2, .int .i64 0] 24)) lo2 hi2 a2 F Y N) := hO2.below hb4
  replace HW : Hid (Below w.heap.size w (w8.alloc (.cells #[.slice a2 N c2, .int .i64 0] 24))) := Below.on (Below.on HW.out hb3) hb4
  clear hb3 hb4 hO2 hlo2 hhi2
  go_upto_region 14 with fail
  generalize w8.alloc (.cells #[.slice a2 N c2, .int .i64 0] 24) = w9 at HX HU HV HA HG HH HW ⊢
  generalize w8.heap.size = X2 at HV ⊢
  have x0 : w9.cell? ⟨X0, 0, none⟩ = some (.slice a0 N c0) := HX.out.at0 0 _ rfl
  have x1 : w9.cell? ⟨X0, 1, none⟩ = some (.int .i64 0) := HX.out.at0 1 _ rfl
  have p0 : w9.cell? ⟨X2, 0, none⟩ = some (.slice a2 N c2) := HV.out.at0 0 _ rfl
  have p1 : w9.cell? ⟨X2, 1, none⟩ = some (.int .i64 0) := HV.out.at0 1 _ rfl
  go_wp2_with fail
  refine (eqTree_any a2 a0 N c2 c0 L 0 hN HFx.out w9 (HNd.out _ _ _ _ HH.out) (HNd.out _ _ _ _ HA.out)).mono ?_
  rintro e w10 ⟨rfl, hb⟩
  replace HU : Hid (BoxR w10 X1 [.slice a1 N c1, .int .i64 0]) := HU.out.below hb
  replace HG : Hid (OwnX w10 lo1 hi1 a1 (mkRow 1 F) Y N) := HG.out.below hb
  replace HW : Hid (Below w.heap.size w w10) := Below.on HW.out hb
  clear hb x0 x1 p0 p1
  have q0 : w10.cell? ⟨X1, 0, none⟩ = some (.slice a1 N c1) := HU.out.at0 0 _ rfl
  have q1 : w10.cell? ⟨X1, 1, none⟩ = some (.int .i64 0) := HU.out.at0 1 _ rfl
  go_wp2_with fail
  refine (heldTreeX_any lo1 hi1 a1 N c1 1 0 F Y (by decide) HKb.out hN (fun i _ => HFf.out i) w10 HG.out).mono ?_
  rintro e w11 ⟨rfl, hb⟩
  rw [← HMk.out]
  replace HW : Hid (Below w.heap.size w w11) := Below.on HW.out hb
  clear hb q0 q1
  go_wp2
  go_ret
  exact ⟨rfl, HW.out⟩
end Go.Proofs.Ytgodbelcddgdmaa
