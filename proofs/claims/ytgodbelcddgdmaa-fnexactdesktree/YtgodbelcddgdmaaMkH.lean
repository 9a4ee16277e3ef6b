/- laws.heldNodeS, heldTree: a tree that was written over is read again; no node. -/
import Derived.Test.YtgodbelcddgdmaaMkN
import Derived.Lib.QuietBelow
import Derived.BigQuiet
import Derived.Deep.Cut
namespace Go.Proofs.Ytgodbelcddgdmaa
open Go.RowKit Go.PlainAid Go.Deep
set_option linter.unusedVariables false
set_option linter.unusedSimpArgs false
theorem heldP_any (a : Option Addr) (len cap K M : Nat) (hM : M = K + 2 * len) (h1 : K ≤ 400000000) (hl : len ≤ 1048576) (w : World) (ho : Own a len (marks (K : Int) len) w) :
    Calls Try.prog 31 #[.slice a len cap, .int .i64 (K : Nat)] w fun e w' => e = .returned (.int .i64 (M : Nat)) ∧ Below w.heap.size w w' := by
  refine (heldNamedS_any a len cap K (by omega) (by omega) hl w ho).mono ?_
  rintro e w' ⟨rfl, rfl⟩
  have e : (K : Int) + 2 * (len : Int) = (M : Int) := by omega
  exact ⟨by rw [e], Below.refl _ _⟩
theorem heldE_any (a : Option Addr) (len cap K M : Nat) (hM : M = K + 2 * len) (h0 : 0 < K) (h1 : K ≤ 400000000) (hl : len ≤ 1048576) (w : World) (ho : OwnE a len (marksE K len) w) :
    Calls Try.prog 32 #[.slice a len cap, .int .i64 (K : Nat)] w fun e w' => e = .returned (.int .i64 (M : Nat)) ∧ Below w.heap.size w w' := by
  refine (heldEntryS_any a len cap K h0 (by omega) hl w ho).mono ?_
  rintro e w' ⟨rfl, hb⟩
  have e : (K : Int) + 2 * (len : Int) = (M : Int) := by omega
  exact ⟨by rw [e], hb⟩
set_option maxRecDepth 20000 in
set_option maxHeartbeats 2000000 in
theorem markNodeS_none (a : Option Addr) (cap : Nat) (k : Int) (w : World) :
    Calls Try.prog 23 #[.slice a 0 cap, .int .i64 k] w fun e w' => e = .returned (.int .i64 k) ∧ w' = w := by
  go_enter Try.func23, Try.ntmps23
  go_wp2
  go_rounds 1
  go_ret
  exact ⟨rfl, rfl⟩
set_option maxRecDepth 20000 in
set_option maxHeartbeats 2000000 in
theorem heldNodeS_none (a : Option Addr) (cap : Nat) (k : Int) (w : World) :
    Calls Try.prog 24 #[.slice a 0 cap, .int .i64 k] w fun e w' => e = .returned (.int .i64 k) ∧ w' = w := by
  go_enter Try.func24, Try.ntmps24
  go_wp2
  go_rounds 1
  go_ret
  exact ⟨rfl, rfl⟩
set_option maxRecDepth 20000 in
set_option maxHeartbeats 16000000 in
theorem heldNodeS_any (lo hi B len cap k : Nat) (F0 : Nat → Nd) (Y : Nat → Na) (h0 : 0 < k) (hk : kAt k F0 len ≤ 300000000) (hl : len ≤ 1048576) (hf : ∀ i, i < len → NdFit 1048576 (F0 i)) (w : World) (ho : OwnT w lo hi B (mkRow k F0) Y len) :
    Calls Try.prog 24 #[.slice (some ⟨B, 0, none⟩) len cap, .int .i64 k] w fun e w' => e = .returned (.int .i64 (kAt k F0 len : Nat)) ∧ Below w.heap.size w w' := by
  have HO : Hid (OwnT w lo hi B (mkRow k F0) Y len) := ho
  have HF : Hid (∀ i, i < len → NdFit 1048576 (F0 i)) := hf
  have HK : Hid (kAt k F0 len ≤ 300000000) := hk
  clear ho hf hk
  go_enter Try.func24, Try.ntmps24
  go_wp2
  go_loopw [5, 1] (fun i q wr => ∃ (j : Nat), j ≤ len ∧ i = .int .i64 j ∧ q = .int .i64 (kAt k F0 j : Nat) ∧ Hid (Below w.heap.size w wr)) (fun i _ _ => len - (intOf i).toNat)
  case atStart => exact ⟨0, Nat.zero_le _, rfl, rfl, Below.refl _ _⟩
  case round =>
    obtain ⟨j, hj, rfl, rfl, hB⟩ := hrel
    by_cases hlt : j < len
    · have hlt' : (j : Int) < (len : Int) := by omega
      have hj0 : (0 : Int) ≤ (j : Int) := by omega
      have hKb : kAt k F0 j + cntMk (F0 j) ≤ 300000000 := kAt_le HK.out hlt
      have hK0 : 0 < kAt k F0 j := kAt_pos h0 j
      have hfit : NdFit 1048576 (F0 j) := HF.out j hlt
      have HCk : Hid (kAt k F0 (j + 1) = kAt k F0 j + cntMk (F0 j)) := rfl
      have HT : Hid (OwnT wr lo hi B (mkRow k F0) Y len) := HO.out.below hB.out
      have HR : Hid (N24 wr B (j * 24) (mkNd (F0 j) (kAt k F0 j)) (Y j)) := HT.out.row.at' j hlt
      have HN : Hid (NdOwn wr (mkNd (F0 j) (kAt k F0 j)) (Y j)) := HT.out.own j hlt
      have HBl : Hid (B < wr.heap.size) := HT.out.lt
      clear HT HF HK HO
      generalize kAt k F0 j = K at hKb hK0 HCk HR HN ⊢
      generalize F0 j = x at hKb hfit HCk HR HN
      have HCn : Hid (mk5 x K + 1 = K + cntMk x) := mk5_cnt x K
      have HM1 : Hid (mk1 x K = K + 7 + 2 * x.A.us.length) := rfl
      have HM2 : Hid (mk2 x K = mk1 x K + 2 * x.A.gs.length) := rfl
      have HM3 : Hid (mk3 x K = mk2 x K + 6 + 2 * x.D.us.length) := rfl
      have HM4 : Hid (mk4 x K = mk3 x K + 2 * x.D.gs.length) := rfl
      have HM5 : Hid (mk5 x K = mk4 x K + 5 + 2 * x.ns.length) := rfl
      have E0 : Hid (wr.cell? ⟨B, j * 24, none⟩ = some (.int .i64 ((K : Int)))) := (by have h := N24.c0 HR.out; exact h)
      have E1 : Hid (wr.cell? ⟨B, j * 24 + 1, none⟩ = some (.int .i64 ((K : Int) + 1))) := (by have h := N24.c1 HR.out; exact h)
      have E2 : Hid (wr.cell? ⟨B, j * 24 + 2, none⟩ = some (.int .i64 ((K : Int) + 1 + 1))) := (by have h := N24.c2 HR.out; rw [show ((K : Int) + 1 + 1) = (K : Int) + 2 by omega]; exact h)
      have E3 : Hid (wr.cell? ⟨B, j * 24 + 3, none⟩ = some (.int .i64 ((K : Int) + 1 + 1 + 1))) := (by have h := N24.c3 HR.out; rw [show ((K : Int) + 1 + 1 + 1) = (K : Int) + 3 by omega]; exact h)
      have E4 : Hid (wr.cell? ⟨B, j * 24 + 4, none⟩ = some (.int .i64 ((K : Int) + 1 + 1 + 1 + 1))) := (by have h := N24.c4 HR.out; rw [show ((K : Int) + 1 + 1 + 1 + 1) = (K : Int) + 4 by omega]; exact h)
      have E5 : Hid (wr.cell? ⟨B, j * 24 + 4 + 1, none⟩ = some (.int .i64 ((K : Int) + 1 + 1 + 1 + 1 + 1))) := (by have h := N24.c5 HR.out; rw [show ((K : Int) + 1 + 1 + 1 + 1 + 1) = (K : Int) + 5 by omega]; exact h)
      have E6 : Hid (wr.cell? ⟨B, j * 24 + 4 + 2, none⟩ = some (.int .i64 ((K : Int) + 1 + 1 + 1 + 1 + 1 + 1))) := (by have h := N24.c6 HR.out; rw [show ((K : Int) + 1 + 1 + 1 + 1 + 1 + 1) = (K : Int) + 6 by omega]; exact h)
      have E7 : Hid (wr.cell? ⟨B, j * 24 + 4 + 3, none⟩ = some (.slice (Y j).aU x.A.us.length (Y j).cU)) := (by have h := N24.c7 HR.out; simp only [mkNd, marks_len, marksE_len] at h; exact h)
      have E8 : Hid (wr.cell? ⟨B, j * 24 + 4 + 4, none⟩ = some (.slice (Y j).aG x.A.gs.length (Y j).cG)) := (by have h := N24.c8 HR.out; simp only [mkNd, marks_len, marksE_len] at h; exact h)
      have E9 : Hid (wr.cell? ⟨B, j * 24 + 4 + 5, none⟩ = some (.bool ((((mk2 x K) : Int)) % 3 == 0))) := (by have h := N24.c9 HR.out; rw [show ((((mk2 x K) : Int)) % 3 == 0) = (((mk2 x K) + 0) % 3 == 0) from (by rw [show (((mk2 x K) : Int)) = (((mk2 x K) + 0 : Nat) : Int) by omega]; exact rem3 _)]; exact h)
      have E10 : Hid (wr.cell? ⟨B, j * 24 + 4 + 6, none⟩ = some (.int .i64 (((mk2 x K) : Int) + 1))) := (by have h := N24.c10 HR.out; exact h)
      have E11 : Hid (wr.cell? ⟨B, j * 24 + 11, none⟩ = some (.bool ((((mk2 x K) : Int) + 1 + 1) % 3 == 0))) := (by have h := N24.c11 HR.out; rw [show ((((mk2 x K) : Int) + 1 + 1) % 3 == 0) = (((mk2 x K) + 2) % 3 == 0) from (by rw [show (((mk2 x K) : Int) + 1 + 1) = (((mk2 x K) + 2 : Nat) : Int) by omega]; exact rem3 _)]; exact h)
      have E12 : Hid (wr.cell? ⟨B, j * 24 + 12, none⟩ = some (.int .i64 (((mk2 x K) : Int) + 1 + 1 + 1))) := (by have h := N24.c12 HR.out; rw [show (((mk2 x K) : Int) + 1 + 1 + 1) = ((mk2 x K) : Int) + 3 by omega]; exact h)
      have E13 : Hid (wr.cell? ⟨B, j * 24 + 12 + 1, none⟩ = some (.int .i64 (((mk2 x K) : Int) + 1 + 1 + 1 + 1))) := (by have h := N24.c13 HR.out; rw [show (((mk2 x K) : Int) + 1 + 1 + 1 + 1) = ((mk2 x K) : Int) + 4 by omega]; exact h)
      have E14 : Hid (wr.cell? ⟨B, j * 24 + 12 + 2, none⟩ = some (.int .i64 (((mk2 x K) : Int) + 1 + 1 + 1 + 1 + 1))) := (by have h := N24.c14 HR.out; rw [show (((mk2 x K) : Int) + 1 + 1 + 1 + 1 + 1) = ((mk2 x K) : Int) + 5 by omega]; exact h)
      have E15 : Hid (wr.cell? ⟨B, j * 24 + 12 + 3, none⟩ = some (.slice (Y j).dU x.D.us.length (Y j).eU)) := (by have h := N24.c15 HR.out; simp only [mkNd, marks_len, marksE_len] at h; exact h)
      have E16 : Hid (wr.cell? ⟨B, j * 24 + 12 + 4, none⟩ = some (.slice (Y j).dG x.D.gs.length (Y j).eG)) := (by have h := N24.c16 HR.out; simp only [mkNd, marks_len, marksE_len] at h; exact h)
      have E17 : Hid (wr.cell? ⟨B, j * 24 + 12 + 5, none⟩ = some (.bool ((((mk4 x K) : Int)) % 3 == 0))) := (by have h := N24.c17 HR.out; rw [show ((((mk4 x K) : Int)) % 3 == 0) = (((mk4 x K) + 0) % 3 == 0) from (by rw [show (((mk4 x K) : Int)) = (((mk4 x K) + 0 : Nat) : Int) by omega]; exact rem3 _)]; exact h)
      have E18 : Hid (wr.cell? ⟨B, j * 24 + 12 + 6, none⟩ = some (.int .i64 (((mk4 x K) : Int) + 1))) := (by have h := N24.c18 HR.out; exact h)
      have E19 : Hid (wr.cell? ⟨B, j * 24 + 19, none⟩ = some (.int .i64 (((mk4 x K) : Int) + 1 + 1))) := (by have h := N24.c19 HR.out; rw [show (((mk4 x K) : Int) + 1 + 1) = ((mk4 x K) : Int) + 2 by omega]; exact h)
      have E20 : Hid (wr.cell? ⟨B, j * 24 + 20, none⟩ = some (.int .i64 (((mk4 x K) : Int) + 1 + 1 + 1))) := (by have h := N24.c20 HR.out; rw [show (((mk4 x K) : Int) + 1 + 1 + 1) = ((mk4 x K) : Int) + 3 by omega]; exact h)
      have E21 : Hid (wr.cell? ⟨B, j * 24 + 21, none⟩ = some (.string (mkT (mk4 x K + 4)))) := (by have h := N24.c21 HR.out; exact h)
      have E22 : Hid (wr.cell? ⟨B, j * 24 + 22, none⟩ = some (.slice (Y j).nA x.ns.length (Y j).nC)) := (by have h := N24.c22 HR.out; simp only [mkNd, marks_len, marksE_len] at h; exact h)
      have E23 : Hid (wr.cell? ⟨B, j * 24 + 23, none⟩ = some (.int .i64 (((mk5 x K) : Int)))) := (by have h := N24.c23 HR.out; exact h)
      have hu := HN.out.aU
      have hg := HN.out.aG
      have hdu := HN.out.dU
      have hdg := HN.out.dG
      have hna := HN.out.nA
      simp only [mkNd, marks_len, marksE_len] at hu hg hdu hdg hna
      have e7 : (K : Int) + 7 = ((K + 7 : Nat) : Int) := by omega
      have e6 : ((mk2 x K : Nat) : Int) + 6 = ((mk2 x K + 6 : Nat) : Int) := by omega
      rw [e7] at hu
      rw [e6] at hdu
      clear e7 e6
      have HOu : Hid (Own (Y j).aU x.A.us.length (marks ((K + 7 : Nat) : Int) x.A.us.length) wr) := hu
      have HOg : Hid (Own (Y j).aG x.A.gs.length (marks ((mk1 x K : Nat) : Int) x.A.gs.length) wr) := hg
      have HOdu : Hid (Own (Y j).dU x.D.us.length (marks ((mk2 x K + 6 : Nat) : Int) x.D.us.length) wr) := hdu
      have HOdg : Hid (Own (Y j).dG x.D.gs.length (marks ((mk3 x K : Nat) : Int) x.D.gs.length) wr) := hdg
      have HOn : Hid (OwnE (Y j).nA x.ns.length (marksE (mk4 x K + 5) x.ns.length) wr) := hna
      clear hu hg hdu hdg hna HR HN
      generalize mk1 x K = M1 at HM1 HM2 E0 E1 E2 E3 E4 E5 E6 E7 E8 E9 E10 E11 E12 E13 E14 E15 E16 E17 E18 E19 E20 E21 E22 E23 HOu HOg HOdu HOdg HOn
      generalize mk2 x K = M2 at HM2 HM3 E0 E1 E2 E3 E4 E5 E6 E7 E8 E9 E10 E11 E12 E13 E14 E15 E16 E17 E18 E19 E20 E21 E22 E23 HOu HOg HOdu HOdg HOn
      generalize mk3 x K = M3 at HM3 HM4 E0 E1 E2 E3 E4 E5 E6 E7 E8 E9 E10 E11 E12 E13 E14 E15 E16 E17 E18 E19 E20 E21 E22 E23 HOu HOg HOdu HOdg HOn
      generalize mk4 x K = M4 at HM4 HM5 E0 E1 E2 E3 E4 E5 E6 E7 E8 E9 E10 E11 E12 E13 E14 E15 E16 E17 E18 E19 E20 E21 E22 E23 HOu HOg HOdu HOdg HOn
      generalize mk5 x K = M5 at HM5 HCn E0 E1 E2 E3 E4 E5 E6 E7 E8 E9 E10 E11 E12 E13 E14 E15 E16 E17 E18 E19 E20 E21 E22 E23 HOu HOg HOdu HOdg HOn
      have HQ : Hid (M1 ≤ 300000000 ∧ M2 + 6 ≤ 300000000 ∧ M3 ≤ 300000000 ∧ M4 + 5 ≤ 300000000 ∧ M5 + 1 ≤ 300000000) := (by
        have := HCn.out; have := HM1.out; have := HM2.out; have := HM3.out; have := HM4.out; have := HM5.out
        show _ ∧ _ ∧ _ ∧ _ ∧ _
        omega)
      have hKm : K + 7 ≤ 300000000 := by have := HQ.out; have := HM1.out; omega
      clear hKb
      have e0 := E0.out
      have e1 := E1.out
      have e2 := E2.out
      have e3 := E3.out
      have e4 := E4.out
      have e5 := E5.out
      have e6 := E6.out
      have e7 := E7.out
      have n0 : (((K : Int)) != ((K : Int))) = false := by simp
      have n1 : (((K : Int) + 1) != ((K : Int) + 1)) = false := by simp
      have n2 : (((K : Int) + 1 + 1) != ((K : Int) + 1 + 1)) = false := by simp
      have n3 : (((K : Int) + 1 + 1 + 1) != ((K : Int) + 1 + 1 + 1)) = false := by simp
      have n4 : (((K : Int) + 1 + 1 + 1 + 1) != ((K : Int) + 1 + 1 + 1 + 1)) = false := by simp
      have n5 : (((K : Int) + 1 + 1 + 1 + 1 + 1) != ((K : Int) + 1 + 1 + 1 + 1 + 1)) = false := by simp
      have n6 : (((K : Int) + 1 + 1 + 1 + 1 + 1 + 1) != ((K : Int) + 1 + 1 + 1 + 1 + 1 + 1)) = false := by simp
      go_wp2_with fail
      have hz : (K : Int) + 1 + 1 + 1 + 1 + 1 + 1 + 1 = ((K + 7 : Nat) : Int) := by omega
      rw [hz]
      clear hz
      refine (heldP_any _ _ _ (K + 7) M1 (by have := HM1.out; omega) (by omega) hfit.au _ HOu.out).mono ?_
      rintro e w1 ⟨rfl, hb⟩
      replace hB : Hid (Below w.heap.size w w1) := Below.on hB.out hb
      replace E8 : Hid (w1.cell? ⟨B, j * 24 + 4 + 4, none⟩ = some (.slice (Y j).aG x.A.gs.length (Y j).cG)) := (hb.cell (p := ⟨B, j * 24 + 4 + 4, none⟩) HBl.out).trans E8.out
      replace E9 : Hid (w1.cell? ⟨B, j * 24 + 4 + 5, none⟩ = some (.bool (((M2 : Int)) % 3 == 0))) := (hb.cell (p := ⟨B, j * 24 + 4 + 5, none⟩) HBl.out).trans E9.out
      replace E10 : Hid (w1.cell? ⟨B, j * 24 + 4 + 6, none⟩ = some (.int .i64 ((M2 : Int) + 1))) := (hb.cell (p := ⟨B, j * 24 + 4 + 6, none⟩) HBl.out).trans E10.out
      replace E11 : Hid (w1.cell? ⟨B, j * 24 + 11, none⟩ = some (.bool (((M2 : Int) + 1 + 1) % 3 == 0))) := (hb.cell (p := ⟨B, j * 24 + 11, none⟩) HBl.out).trans E11.out
      replace E12 : Hid (w1.cell? ⟨B, j * 24 + 12, none⟩ = some (.int .i64 ((M2 : Int) + 1 + 1 + 1))) := (hb.cell (p := ⟨B, j * 24 + 12, none⟩) HBl.out).trans E12.out
      replace E13 : Hid (w1.cell? ⟨B, j * 24 + 12 + 1, none⟩ = some (.int .i64 ((M2 : Int) + 1 + 1 + 1 + 1))) := (hb.cell (p := ⟨B, j * 24 + 12 + 1, none⟩) HBl.out).trans E13.out
      replace E14 : Hid (w1.cell? ⟨B, j * 24 + 12 + 2, none⟩ = some (.int .i64 ((M2 : Int) + 1 + 1 + 1 + 1 + 1))) := (hb.cell (p := ⟨B, j * 24 + 12 + 2, none⟩) HBl.out).trans E14.out
      replace E15 : Hid (w1.cell? ⟨B, j * 24 + 12 + 3, none⟩ = some (.slice (Y j).dU x.D.us.length (Y j).eU)) := (hb.cell (p := ⟨B, j * 24 + 12 + 3, none⟩) HBl.out).trans E15.out
      replace E16 : Hid (w1.cell? ⟨B, j * 24 + 12 + 4, none⟩ = some (.slice (Y j).dG x.D.gs.length (Y j).eG)) := (hb.cell (p := ⟨B, j * 24 + 12 + 4, none⟩) HBl.out).trans E16.out
      replace E17 : Hid (w1.cell? ⟨B, j * 24 + 12 + 5, none⟩ = some (.bool (((M4 : Int)) % 3 == 0))) := (hb.cell (p := ⟨B, j * 24 + 12 + 5, none⟩) HBl.out).trans E17.out
      replace E18 : Hid (w1.cell? ⟨B, j * 24 + 12 + 6, none⟩ = some (.int .i64 ((M4 : Int) + 1))) := (hb.cell (p := ⟨B, j * 24 + 12 + 6, none⟩) HBl.out).trans E18.out
      replace E19 : Hid (w1.cell? ⟨B, j * 24 + 19, none⟩ = some (.int .i64 ((M4 : Int) + 1 + 1))) := (hb.cell (p := ⟨B, j * 24 + 19, none⟩) HBl.out).trans E19.out
      replace E20 : Hid (w1.cell? ⟨B, j * 24 + 20, none⟩ = some (.int .i64 ((M4 : Int) + 1 + 1 + 1))) := (hb.cell (p := ⟨B, j * 24 + 20, none⟩) HBl.out).trans E20.out
      replace E21 : Hid (w1.cell? ⟨B, j * 24 + 21, none⟩ = some (.string (mkT (M4 + 4)))) := (hb.cell (p := ⟨B, j * 24 + 21, none⟩) HBl.out).trans E21.out
      replace E22 : Hid (w1.cell? ⟨B, j * 24 + 22, none⟩ = some (.slice (Y j).nA x.ns.length (Y j).nC)) := (hb.cell (p := ⟨B, j * 24 + 22, none⟩) HBl.out).trans E22.out
      replace E23 : Hid (w1.cell? ⟨B, j * 24 + 23, none⟩ = some (.int .i64 ((M5 : Int)))) := (hb.cell (p := ⟨B, j * 24 + 23, none⟩) HBl.out).trans E23.out
      replace HOg : Hid (Own (Y j).aG x.A.gs.length (marks ((M1 : Nat) : Int) x.A.gs.length) w1) := HOg.out.below hb
      replace HOdu : Hid (Own (Y j).dU x.D.us.length (marks ((M2 + 6 : Nat) : Int) x.D.us.length) w1) := HOdu.out.below hb
      replace HOdg : Hid (Own (Y j).dG x.D.gs.length (marks ((M3 : Nat) : Int) x.D.gs.length) w1) := HOdg.out.below hb
      replace HOn : Hid (OwnE (Y j).nA x.ns.length (marksE (M4 + 5) x.ns.length) w1) := HOn.out.below hb
      replace HBl : Hid (B < w1.heap.size) := Nat.lt_of_lt_of_le HBl.out hb.size
      clear hb e0 e1 e2 e3 e4 e5 e6 e7 n0 n1 n2 n3 n4 n5 n6
      clear HOu
      have e8 := E8.out
      have hm1 : ¬ ((M1 : Nat) : Int) < 0 := by omega
      go_wp2_with fail
      refine (heldP_any _ _ _ M1 M2 (by have := HM2.out; omega) (by have := HQ.out; omega) hfit.ag _ HOg.out).mono ?_
      rintro e w2 ⟨rfl, hb⟩
      replace hB : Hid (Below w.heap.size w w2) := Below.on hB.out hb
      replace E9 : Hid (w2.cell? ⟨B, j * 24 + 4 + 5, none⟩ = some (.bool (((M2 : Int)) % 3 == 0))) := (hb.cell (p := ⟨B, j * 24 + 4 + 5, none⟩) HBl.out).trans E9.out
      replace E10 : Hid (w2.cell? ⟨B, j * 24 + 4 + 6, none⟩ = some (.int .i64 ((M2 : Int) + 1))) := (hb.cell (p := ⟨B, j * 24 + 4 + 6, none⟩) HBl.out).trans E10.out
      replace E11 : Hid (w2.cell? ⟨B, j * 24 + 11, none⟩ = some (.bool (((M2 : Int) + 1 + 1) % 3 == 0))) := (hb.cell (p := ⟨B, j * 24 + 11, none⟩) HBl.out).trans E11.out
      replace E12 : Hid (w2.cell? ⟨B, j * 24 + 12, none⟩ = some (.int .i64 ((M2 : Int) + 1 + 1 + 1))) := (hb.cell (p := ⟨B, j * 24 + 12, none⟩) HBl.out).trans E12.out
      replace E13 : Hid (w2.cell? ⟨B, j * 24 + 12 + 1, none⟩ = some (.int .i64 ((M2 : Int) + 1 + 1 + 1 + 1))) := (hb.cell (p := ⟨B, j * 24 + 12 + 1, none⟩) HBl.out).trans E13.out
      replace E14 : Hid (w2.cell? ⟨B, j * 24 + 12 + 2, none⟩ = some (.int .i64 ((M2 : Int) + 1 + 1 + 1 + 1 + 1))) := (hb.cell (p := ⟨B, j * 24 + 12 + 2, none⟩) HBl.out).trans E14.out
      replace E15 : Hid (w2.cell? ⟨B, j * 24 + 12 + 3, none⟩ = some (.slice (Y j).dU x.D.us.length (Y j).eU)) := (hb.cell (p := ⟨B, j * 24 + 12 + 3, none⟩) HBl.out).trans E15.out
      replace E16 : Hid (w2.cell? ⟨B, j * 24 + 12 + 4, none⟩ = some (.slice (Y j).dG x.D.gs.length (Y j).eG)) := (hb.cell (p := ⟨B, j * 24 + 12 + 4, none⟩) HBl.out).trans E16.out
      replace E17 : Hid (w2.cell? ⟨B, j * 24 + 12 + 5, none⟩ = some (.bool (((M4 : Int)) % 3 == 0))) := (hb.cell (p := ⟨B, j * 24 + 12 + 5, none⟩) HBl.out).trans E17.out
      replace E18 : Hid (w2.cell? ⟨B, j * 24 + 12 + 6, none⟩ = some (.int .i64 ((M4 : Int) + 1))) := (hb.cell (p := ⟨B, j * 24 + 12 + 6, none⟩) HBl.out).trans E18.out
      replace E19 : Hid (w2.cell? ⟨B, j * 24 + 19, none⟩ = some (.int .i64 ((M4 : Int) + 1 + 1))) := (hb.cell (p := ⟨B, j * 24 + 19, none⟩) HBl.out).trans E19.out
      replace E20 : Hid (w2.cell? ⟨B, j * 24 + 20, none⟩ = some (.int .i64 ((M4 : Int) + 1 + 1 + 1))) := (hb.cell (p := ⟨B, j * 24 + 20, none⟩) HBl.out).trans E20.out
      replace E21 : Hid (w2.cell? ⟨B, j * 24 + 21, none⟩ = some (.string (mkT (M4 + 4)))) := (hb.cell (p := ⟨B, j * 24 + 21, none⟩) HBl.out).trans E21.out
      replace E22 : Hid (w2.cell? ⟨B, j * 24 + 22, none⟩ = some (.slice (Y j).nA x.ns.length (Y j).nC)) := (hb.cell (p := ⟨B, j * 24 + 22, none⟩) HBl.out).trans E22.out
      replace E23 : Hid (w2.cell? ⟨B, j * 24 + 23, none⟩ = some (.int .i64 ((M5 : Int)))) := (hb.cell (p := ⟨B, j * 24 + 23, none⟩) HBl.out).trans E23.out
      replace HOdu : Hid (Own (Y j).dU x.D.us.length (marks ((M2 + 6 : Nat) : Int) x.D.us.length) w2) := HOdu.out.below hb
      replace HOdg : Hid (Own (Y j).dG x.D.gs.length (marks ((M3 : Nat) : Int) x.D.gs.length) w2) := HOdg.out.below hb
      replace HOn : Hid (OwnE (Y j).nA x.ns.length (marksE (M4 + 5) x.ns.length) w2) := HOn.out.below hb
      replace HBl : Hid (B < w2.heap.size) := Nat.lt_of_lt_of_le HBl.out hb.size
      clear hb e8 hm1
      clear HOg
      have e9 := E9.out
      have e10 := E10.out
      have e11 := E11.out
      have e12 := E12.out
      have e13 := E13.out
      have e14 := E14.out
      have e15 := E15.out
      have n9 : ((((M2 : Int)) % 3 == 0) != (((M2 : Int)) % 3 == 0)) = false := by simp
      have n10 : (((M2 : Int) + 1) != ((M2 : Int) + 1)) = false := by simp
      have n11 : ((((M2 : Int) + 1 + 1) % 3 == 0) != (((M2 : Int) + 1 + 1) % 3 == 0)) = false := by simp
      have n12 : (((M2 : Int) + 1 + 1 + 1) != ((M2 : Int) + 1 + 1 + 1)) = false := by simp
      have n13 : (((M2 : Int) + 1 + 1 + 1 + 1) != ((M2 : Int) + 1 + 1 + 1 + 1)) = false := by simp
      have n14 : (((M2 : Int) + 1 + 1 + 1 + 1 + 1) != ((M2 : Int) + 1 + 1 + 1 + 1 + 1)) = false := by simp
      have hm2 : M2 + 6 ≤ 300000000 := HQ.out.2.1
      have hm2n : ¬ ((M2 : Nat) : Int) < 0 := by omega
      go_wp2_with fail
      have hz : (M2 : Int) + 1 + 1 + 1 + 1 + 1 + 1 = ((M2 + 6 : Nat) : Int) := by omega
      rw [hz]
      clear hz
      refine (heldP_any _ _ _ (M2 + 6) M3 (by have := HM3.out; omega) (by omega) hfit.du _ HOdu.out).mono ?_
      rintro e w3 ⟨rfl, hb⟩
      replace hB : Hid (Below w.heap.size w w3) := Below.on hB.out hb
      replace E16 : Hid (w3.cell? ⟨B, j * 24 + 12 + 4, none⟩ = some (.slice (Y j).dG x.D.gs.length (Y j).eG)) := (hb.cell (p := ⟨B, j * 24 + 12 + 4, none⟩) HBl.out).trans E16.out
      replace E17 : Hid (w3.cell? ⟨B, j * 24 + 12 + 5, none⟩ = some (.bool (((M4 : Int)) % 3 == 0))) := (hb.cell (p := ⟨B, j * 24 + 12 + 5, none⟩) HBl.out).trans E17.out
      replace E18 : Hid (w3.cell? ⟨B, j * 24 + 12 + 6, none⟩ = some (.int .i64 ((M4 : Int) + 1))) := (hb.cell (p := ⟨B, j * 24 + 12 + 6, none⟩) HBl.out).trans E18.out
      replace E19 : Hid (w3.cell? ⟨B, j * 24 + 19, none⟩ = some (.int .i64 ((M4 : Int) + 1 + 1))) := (hb.cell (p := ⟨B, j * 24 + 19, none⟩) HBl.out).trans E19.out
      replace E20 : Hid (w3.cell? ⟨B, j * 24 + 20, none⟩ = some (.int .i64 ((M4 : Int) + 1 + 1 + 1))) := (hb.cell (p := ⟨B, j * 24 + 20, none⟩) HBl.out).trans E20.out
      replace E21 : Hid (w3.cell? ⟨B, j * 24 + 21, none⟩ = some (.string (mkT (M4 + 4)))) := (hb.cell (p := ⟨B, j * 24 + 21, none⟩) HBl.out).trans E21.out
      replace E22 : Hid (w3.cell? ⟨B, j * 24 + 22, none⟩ = some (.slice (Y j).nA x.ns.length (Y j).nC)) := (hb.cell (p := ⟨B, j * 24 + 22, none⟩) HBl.out).trans E22.out
      replace E23 : Hid (w3.cell? ⟨B, j * 24 + 23, none⟩ = some (.int .i64 ((M5 : Int)))) := (hb.cell (p := ⟨B, j * 24 + 23, none⟩) HBl.out).trans E23.out
      replace HOdg : Hid (Own (Y j).dG x.D.gs.length (marks ((M3 : Nat) : Int) x.D.gs.length) w3) := HOdg.out.below hb
      replace HOn : Hid (OwnE (Y j).nA x.ns.length (marksE (M4 + 5) x.ns.length) w3) := HOn.out.below hb
      replace HBl : Hid (B < w3.heap.size) := Nat.lt_of_lt_of_le HBl.out hb.size
      clear hb e9 e10 e11 e12 e13 e14 e15 n9 n10 n11 n12 n13 n14 hm2n
      clear HOdu
      have e16 := E16.out
      have hm3 : ¬ ((M3 : Nat) : Int) < 0 := by omega
      go_wp2_with fail
      refine (heldP_any _ _ _ M3 M4 (by have := HM4.out; omega) (by have := HQ.out; omega) hfit.dg _ HOdg.out).mono ?_
      rintro e w4 ⟨rfl, hb⟩
      replace hB : Hid (Below w.heap.size w w4) := Below.on hB.out hb
      replace E17 : Hid (w4.cell? ⟨B, j * 24 + 12 + 5, none⟩ = some (.bool (((M4 : Int)) % 3 == 0))) := (hb.cell (p := ⟨B, j * 24 + 12 + 5, none⟩) HBl.out).trans E17.out
      replace E18 : Hid (w4.cell? ⟨B, j * 24 + 12 + 6, none⟩ = some (.int .i64 ((M4 : Int) + 1))) := (hb.cell (p := ⟨B, j * 24 + 12 + 6, none⟩) HBl.out).trans E18.out
      replace E19 : Hid (w4.cell? ⟨B, j * 24 + 19, none⟩ = some (.int .i64 ((M4 : Int) + 1 + 1))) := (hb.cell (p := ⟨B, j * 24 + 19, none⟩) HBl.out).trans E19.out
      replace E20 : Hid (w4.cell? ⟨B, j * 24 + 20, none⟩ = some (.int .i64 ((M4 : Int) + 1 + 1 + 1))) := (hb.cell (p := ⟨B, j * 24 + 20, none⟩) HBl.out).trans E20.out
      replace E21 : Hid (w4.cell? ⟨B, j * 24 + 21, none⟩ = some (.string (mkT (M4 + 4)))) := (hb.cell (p := ⟨B, j * 24 + 21, none⟩) HBl.out).trans E21.out
      replace E22 : Hid (w4.cell? ⟨B, j * 24 + 22, none⟩ = some (.slice (Y j).nA x.ns.length (Y j).nC)) := (hb.cell (p := ⟨B, j * 24 + 22, none⟩) HBl.out).trans E22.out
      replace E23 : Hid (w4.cell? ⟨B, j * 24 + 23, none⟩ = some (.int .i64 ((M5 : Int)))) := (hb.cell (p := ⟨B, j * 24 + 23, none⟩) HBl.out).trans E23.out
      replace HOn : Hid (OwnE (Y j).nA x.ns.length (marksE (M4 + 5) x.ns.length) w4) := HOn.out.below hb
      replace HBl : Hid (B < w4.heap.size) := Nat.lt_of_lt_of_le HBl.out hb.size
      clear hb e16 hm3
      clear HOdg
      have e17 := E17.out
      have e18 := E18.out
      have e19 := E19.out
      have e20 := E20.out
      have n17 : ((((M4 : Int)) % 3 == 0) != (((M4 : Int)) % 3 == 0)) = false := by simp
      have n18 : (((M4 : Int) + 1) != ((M4 : Int) + 1)) = false := by simp
      have n19 : (((M4 : Int) + 1 + 1) != ((M4 : Int) + 1 + 1)) = false := by simp
      have n20 : (((M4 : Int) + 1 + 1 + 1) != ((M4 : Int) + 1 + 1 + 1)) = false := by simp
      have hm4 : M4 + 5 ≤ 300000000 := HQ.out.2.2.2.1
      have hm4n : ¬ ((M4 : Nat) : Int) < 0 := by omega
      go_upto_region 67 with fail
      have hz : (M4 : Int) + 1 + 1 + 1 + 1 = ((M4 + 4 : Nat) : Int) := by omega
      rw [hz]
      clear hz n17 n18 n19 n20 hm4n e17 e18 e19 e20
      have HM : Hid (∀ w, Calls Try.prog 29 #[.int .i64 ((M4 + 4 : Nat) : Int)] w fun e w' => e = .returned (.string (mkT (M4 + 4))) ∧ Below w.heap.size w w') := (fun w => markText_any (M4 + 4) (by omega) (by omega) w)
      have g0 : ∀ d os, (Go.Sort.grow (redrawn w4 d) os).cell? ⟨B, j * 24 + 21, none⟩ = some (.string (mkT (M4 + 4))) := fun d os => cell_regrown E21.out d os
      have cA : ∀ d os, Calls Try.prog 29 #[.int .i64 ((M4 + 4 : Nat) : Int)] (Go.Sort.grow (redrawn w4 d) os) fun e w'' => e = .returned (.string (mkT (M4 + 4))) ∧ ∃ p : Regrown, w'' = Go.Sort.grow (redrawn w4 p.d) p.os := fun d os => Calls.regrown_of (HM.out _)
      have hmm : ((mkT (M4 + 4)).toList != (mkT (M4 + 4)).toList) = false := by simp
      generalize mkT (M4 + 4) = mt at g0 cA hmm
      clear HM E21
      refine wp_region_quiet_below (by kernel_rfl) (by kernel_rfl) ?_
      repeat (go_big_quiet_step (exact cA _ _))
      refine wpQuiet_nil ?_
      intro _ hw'
      obtain ⟨⟨dq, osq⟩, hw''⟩ := hw'
      subst hw''
      have hb : Below w4.heap.size w4 (Go.Sort.grow (redrawn w4 dq) osq) := below_regrown w4 dq osq
      replace hB : Hid (Below w.heap.size w (Go.Sort.grow (redrawn w4 dq) osq)) := Below.on hB.out hb
      replace E22 : Hid ((Go.Sort.grow (redrawn w4 dq) osq).cell? ⟨B, j * 24 + 22, none⟩ = some (.slice (Y j).nA x.ns.length (Y j).nC)) := (hb.cell (p := ⟨B, j * 24 + 22, none⟩) HBl.out).trans E22.out
      replace E23 : Hid ((Go.Sort.grow (redrawn w4 dq) osq).cell? ⟨B, j * 24 + 23, none⟩ = some (.int .i64 ((M5 : Int)))) := (hb.cell (p := ⟨B, j * 24 + 23, none⟩) HBl.out).trans E23.out
      replace HOn : Hid (OwnE (Y j).nA x.ns.length (marksE (M4 + 5) x.ns.length) (Go.Sort.grow (redrawn w4 dq) osq)) := HOn.out.below hb
      replace HBl : Hid (B < (Go.Sort.grow (redrawn w4 dq) osq).heap.size) := Nat.lt_of_lt_of_le HBl.out hb.size
      clear hb g0 cA
      generalize Go.Sort.grow (redrawn w4 dq) osq = w5 at hB E22 E23 HOn HBl ⊢
      have e22 := E22.out
      go_wp2_with fail
      try (have hz : ((M4 + 4 : Nat) : Int) + 1 = ((M4 + 5 : Nat) : Int) := by omega)
      first | (rw [show (M4 : Int) + 4 + 1 = ((M4 + 5 : Nat) : Int) by omega]) | (rw [hz])
      clear hz
      refine (heldE_any _ _ _ (M4 + 5) M5 (by have := HM5.out; omega) (by omega) (by omega) hfit.nl _ HOn.out).mono ?_
      rintro e w6 ⟨rfl, hb⟩
      replace hB : Hid (Below w.heap.size w w6) := Below.on hB.out hb
      replace E23 : Hid (w6.cell? ⟨B, j * 24 + 23, none⟩ = some (.int .i64 ((M5 : Int)))) := (hb.cell (p := ⟨B, j * 24 + 23, none⟩) HBl.out).trans E23.out
      replace HBl : Hid (B < w6.heap.size) := Nat.lt_of_lt_of_le HBl.out hb.size
      clear hb e22 
      have e23 := E23.out
      have hm5 : M5 + 1 ≤ 300000000 := HQ.out.2.2.2.2
      have hm5n : ¬ ((M5 : Nat) : Int) < 0 := by omega
      have n23 : ((M5 : Int) != (M5 : Int)) = false := by simp
      have HCk2 : Hid (kAt k F0 (j + 1) = M5 + 1) := (by show _ = _; rw [HCk.out]; exact HCn.out.symm)
      go_wp2
      go_roundw
      case rel => exact ⟨j + 1, by omega, by go_num, by rw [HCk2.out]; go_num, hB⟩
      case measure => simp [intOf]; omega
    · have : j = len := by omega
      subst this
      go_wp2
      go_ret
      exact ⟨rfl, hB.out⟩
/-- What a tree's nodes are, none among them. -/
def OwnX (w : World) (lo hi : Nat) (a : Option Addr) (F : Nat → Nd) (Y : Nat → Na) (n : Nat) : Prop := n = 0 ∨ ∃ B, a = some ⟨B, 0, none⟩ ∧ OwnT w lo hi B F Y n
theorem OwnX.below {w w' : World} {lo hi n : Nat} {a : Option Addr} {F : Nat → Nd} {Y : Nat → Na} (h : OwnX w lo hi a F Y n) (hb : Below w.heap.size w w') : OwnX w' lo hi a F Y n := h.imp id (fun ⟨B, e, ho⟩ => ⟨B, e, ho.below hb⟩)
theorem OwnX.btw {w w' : World} {lo hi lo2 hi2 n : Nat} {a : Option Addr} {F : Nat → Nd} {Y : Nat → Na} (h : OwnX w lo hi a F Y n) (hb : Btw lo2 hi2 w w') (hd : hi ≤ lo2 ∨ hi2 ≤ lo) : OwnX w' lo hi a F Y n := h.imp id (fun ⟨B, e, ho⟩ => ⟨B, e, ho.btw hb hd⟩)
theorem OwnX.nds {w : World} {lo hi n : Nat} {a : Option Addr} {l : List Nd} {Y : Nat → Na} (h : OwnX w lo hi a (ndAt l) Y n) (hl : l.length = n) : Nds a n l w := by
  rcases h with rfl | ⟨B, rfl, ho⟩
  · exact ⟨hl, fun h => absurd h (by omega)⟩
  · exact ho.nds hl
theorem markNodeX_any (lo hi : Nat) (a : Option Addr) (len cap k : Nat) (F0 : Nat → Nd) (Y : Nat → Na) (h0 : 0 < k) (hk : kAt k F0 len ≤ 300000000) (hl : len ≤ 1048576) (hf : ∀ i, i < len → NdFit 1048576 (F0 i)) (w : World) (ho : OwnX w lo hi a F0 Y len) :
    Calls Try.prog 23 #[.slice a len cap, .int .i64 k] w fun e w' => e = .returned (.int .i64 (kAt k F0 len : Nat)) ∧ OwnX w' lo hi a (mkRow k F0) Y len ∧ Btw lo hi w w' := by
  rcases ho with rfl | ⟨B, rfl, ho⟩
  · refine (markNodeS_none a cap k w).mono ?_
    rintro e w' ⟨rfl, rfl⟩
    exact ⟨rfl, .inl rfl, Btw.refl _ _ _⟩
  · refine (markNodeS_any lo hi B len cap k F0 Y h0 hk hl hf w ho).mono ?_
    rintro e w' ⟨rfl, q1, q2⟩
    exact ⟨rfl, .inr ⟨B, rfl, q1⟩, q2⟩
theorem heldNodeX_any (lo hi : Nat) (a : Option Addr) (len cap k : Nat) (F0 : Nat → Nd) (Y : Nat → Na) (h0 : 0 < k) (hk : kAt k F0 len ≤ 300000000) (hl : len ≤ 1048576) (hf : ∀ i, i < len → NdFit 1048576 (F0 i)) (w : World) (ho : OwnX w lo hi a (mkRow k F0) Y len) :
    Calls Try.prog 24 #[.slice a len cap, .int .i64 k] w fun e w' => e = .returned (.int .i64 (kAt k F0 len : Nat)) ∧ Below w.heap.size w w' := by
  rcases ho with rfl | ⟨B, rfl, ho⟩
  · refine (heldNodeS_none a cap k w).mono ?_
    rintro e w' ⟨rfl, rfl⟩
    exact ⟨rfl, Below.refl _ _⟩
  · exact heldNodeS_any lo hi B len cap k F0 Y h0 hk hl hf w ho
set_option maxHeartbeats 4000000 in
theorem markTreeX_any (lo hi : Nat) (a : Option Addr) (len cap k : Nat) (now : Int) (F0 : Nat → Nd) (Y : Nat → Na) (h0 : 0 < k) (hk : kAt k F0 len ≤ 300000000) (hl : len ≤ 1048576) (hf : ∀ i, i < len → NdFit 1048576 (F0 i)) (w : World) (ho : OwnX w lo hi a F0 Y len) :
    Calls Try.prog 13 #[.agg #[.slice a len cap, .int .i64 now], .int .i64 k] w fun e w' => e = .returned (.int .i64 (kAt k F0 len : Nat)) ∧ OwnX w' lo hi a (mkRow k F0) Y len ∧ Btw lo hi w w' := by
  have HC : Hid (∀ w', Below w.heap.size w w' → Calls Try.prog 23 #[.slice a len cap, .int .i64 k] w' fun e w'' => e = .returned (.int .i64 (kAt k F0 len : Nat)) ∧ OwnX w'' lo hi a (mkRow k F0) Y len ∧ Btw lo hi w' w'') := (fun w' hb => markNodeX_any lo hi a len cap k F0 Y h0 hk hl hf w' (ho.below hb))
  clear ho hf hk
  go_enter Try.func13, Try.ntmps13
  go_wp2_with fail
  refine (HC.out _ (bel_alloc _ _)).mono ?_
  rintro e w1 ⟨rfl, ho, hb⟩
  have hO1 : Hid (OwnX w1 lo hi a (mkRow k F0) Y len) := ho
  have hB1 : Hid (Btw lo hi w w1) := (Btw.of (bel_alloc _ _)).trans hb
  clear ho hb
  go_wp2
  go_ret
  exact ⟨rfl, hO1.out, hB1.out⟩
set_option maxHeartbeats 4000000 in
theorem heldTreeX_any (lo hi : Nat) (a : Option Addr) (len cap k : Nat) (now : Int) (F0 : Nat → Nd) (Y : Nat → Na) (h0 : 0 < k) (hk : kAt k F0 len ≤ 300000000) (hl : len ≤ 1048576) (hf : ∀ i, i < len → NdFit 1048576 (F0 i)) (w : World) (ho : OwnX w lo hi a (mkRow k F0) Y len) :
    Calls Try.prog 14 #[.agg #[.slice a len cap, .int .i64 now], .int .i64 k] w fun e w' => e = .returned (.int .i64 (kAt k F0 len : Nat)) ∧ Below w.heap.size w w' := by
  have HC : Hid (∀ w', Below w.heap.size w w' → Calls Try.prog 24 #[.slice a len cap, .int .i64 k] w' fun e w'' => e = .returned (.int .i64 (kAt k F0 len : Nat)) ∧ Below w'.heap.size w' w'') := (fun w' hb => heldNodeX_any lo hi a len cap k F0 Y h0 hk hl hf w' (ho.below hb))
  have hn : ¬ ((kAt k F0 len : Nat) : Int) < 0 := by omega
  clear ho hf hk
  go_enter Try.func14, Try.ntmps14
  go_wp2_with fail
  refine (HC.out _ (bel_alloc _ _)).mono ?_
  rintro e w1 ⟨rfl, hb⟩
  have hB1 : Hid (Below w.heap.size w w1) := Below.on (bel_alloc _ _) hb
  clear hb
  go_wp2
  go_ret
  exact ⟨rfl, hB1.out⟩
end Go.Proofs.Ytgodbelcddgdmaa
