/- Laid together: MkN, NofLaw. -/
import Derived.Test.YtgodbelcddgdmaaGreatNF27
import Derived.Test.YtgodbelcddgdmaaGreatNF29
import Derived.Test.YtgodbelcddgdmaaGreatNF30
/- laws.markNodeS, markTree: a tree is written over. -/
namespace Go.Proofs.YtgodbelcddgdmaaGreat
open Go.RowKit Go.PlainAid Go.Deep
set_option linter.unusedVariables false
section
variable {w : World} {lo hi B n j : Nat} {F : Nat → Nd} {Y : Nat → Na} {x : Nd}
theorem OwnU.mk_us (h : OwnU w lo hi B F Y n j x) (hj : j < n) (K M : Nat) (hK : K ≤ 400000000) (hl : x.A.us.length ≤ 1048576) (hM : M = K + 2 * x.A.us.length) :
    Calls Tryz.prog 45 #[.slice (Y j).aU x.A.us.length (Y j).cU, .int .i64 (K : Nat)] w fun e w' => e = .returned (.int .i64 (M : Nat)) ∧ OwnU w' lo hi B F Y n j { x with A := { x.A with us := marks (K : Int) x.A.us.length } } ∧ Btw lo hi w w' := by
  refine (markP_any _ _ _ K _ (by omega) hl w (h.nd hj).aU).mono ?_
  rintro e w' ⟨rfl, ho, hb⟩
  refine ⟨?_, h.us hj _ (marks_len _ _) hb ho, hb.btw (h.rngIf hj 0 (by omega))⟩
  have e : (K : Int) + 2 * (x.A.us.length : Int) = (M : Int) := by omega
  rw [e]
theorem OwnU.mk_gs (h : OwnU w lo hi B F Y n j x) (hj : j < n) (K M : Nat) (hK : K ≤ 400000000) (hl : x.A.gs.length ≤ 1048576) (hM : M = K + 2 * x.A.gs.length) :
    Calls Tryz.prog 45 #[.slice (Y j).aG x.A.gs.length (Y j).cG, .int .i64 (K : Nat)] w fun e w' => e = .returned (.int .i64 (M : Nat)) ∧ OwnU w' lo hi B F Y n j { x with A := { x.A with gs := marks (K : Int) x.A.gs.length } } ∧ Btw lo hi w w' := by
  refine (markP_any _ _ _ K _ (by omega) hl w (h.nd hj).aG).mono ?_
  rintro e w' ⟨rfl, ho, hb⟩
  refine ⟨?_, h.gs hj _ (marks_len _ _) hb ho, hb.btw (h.rngIf hj 1 (by omega))⟩
  have e : (K : Int) + 2 * (x.A.gs.length : Int) = (M : Int) := by omega
  rw [e]
theorem OwnU.mk_dus (h : OwnU w lo hi B F Y n j x) (hj : j < n) (K M : Nat) (hK : K ≤ 400000000) (hl : x.D.us.length ≤ 1048576) (hM : M = K + 2 * x.D.us.length) :
    Calls Tryz.prog 45 #[.slice (Y j).dU x.D.us.length (Y j).eU, .int .i64 (K : Nat)] w fun e w' => e = .returned (.int .i64 (M : Nat)) ∧ OwnU w' lo hi B F Y n j { x with D := { x.D with us := marks (K : Int) x.D.us.length } } ∧ Btw lo hi w w' := by
  refine (markP_any _ _ _ K _ (by omega) hl w (h.nd hj).dU).mono ?_
  rintro e w' ⟨rfl, ho, hb⟩
  refine ⟨?_, h.dus hj _ (marks_len _ _) hb ho, hb.btw (h.rngIf hj 2 (by omega))⟩
  have e : (K : Int) + 2 * (x.D.us.length : Int) = (M : Int) := by omega
  rw [e]
theorem OwnU.mk_dgs (h : OwnU w lo hi B F Y n j x) (hj : j < n) (K M : Nat) (hK : K ≤ 400000000) (hl : x.D.gs.length ≤ 1048576) (hM : M = K + 2 * x.D.gs.length) :
    Calls Tryz.prog 45 #[.slice (Y j).dG x.D.gs.length (Y j).eG, .int .i64 (K : Nat)] w fun e w' => e = .returned (.int .i64 (M : Nat)) ∧ OwnU w' lo hi B F Y n j { x with D := { x.D with gs := marks (K : Int) x.D.gs.length } } ∧ Btw lo hi w w' := by
  refine (markP_any _ _ _ K _ (by omega) hl w (h.nd hj).dG).mono ?_
  rintro e w' ⟨rfl, ho, hb⟩
  refine ⟨?_, h.dgs hj _ (marks_len _ _) hb ho, hb.btw (h.rngIf hj 3 (by omega))⟩
  have e : (K : Int) + 2 * (x.D.gs.length : Int) = (M : Int) := by omega
  rw [e]
theorem OwnU.mk_ns (h : OwnU w lo hi B F Y n j x) (hj : j < n) (K M : Nat) (h0 : 0 < K) (hK : K ≤ 400000000) (hl : x.ns.length ≤ 1048576) (hM : M = K + 2 * x.ns.length) :
    Calls Tryz.prog 26 #[.slice (Y j).nA x.ns.length (Y j).nC, .int .i64 (K : Nat)] w fun e w' => e = .returned (.int .i64 (M : Nat)) ∧ OwnU w' lo hi B F Y n j { x with ns := marksE K x.ns.length } ∧ Btw lo hi w w' := by
  refine (markEntryS_any _ _ _ K _ h0 (by omega) hl w (h.nd hj).nA).mono ?_
  rintro e w' ⟨rfl, ho, hb⟩
  refine ⟨?_, h.names hj _ (marksE_len _ _) hb ho, hb.btw (h.rngIf hj 4 (by omega))⟩
  have e : (K : Int) + 2 * (x.ns.length : Int) = (M : Int) := by omega
  rw [e]
end
theorem rem3 (K : Nat) : ((K : Int) % 3 == 0) = (K % 3 == 0) := by
  have e : (K : Int) % 3 = ((K % 3 : Nat) : Int) := by omega
  rw [e]
  by_cases h : K % 3 = 0
  · rw [h]; rfl
  · have e1 : (K % 3 == 0) = false := by simpa using h
    have h2 : ¬ ((K % 3 : Nat) : Int) = 0 := by omega
    have e2 : (((K % 3 : Nat) : Int) == 0) = false := by simpa using h2
    rw [e1, e2]
set_option maxRecDepth 20000 in
set_option maxHeartbeats 16000000 in
theorem markNodeS_any (lo hi B len cap k : Nat) (F0 : Nat → Nd) (Y : Nat → Na) (h0 : 0 < k) (hk : kAt k F0 len ≤ 300000000) (hl : len ≤ 1048576) (hf : ∀ i, i < len → NdFit 1048576 (F0 i)) (w : World) (ho : OwnT w lo hi B F0 Y len) :
    Calls Tryz.prog 24 #[.slice (some ⟨B, 0, none⟩) len cap, .int .i64 k] w fun e w' => e = .returned (.int .i64 (kAt k F0 len : Nat)) ∧ OwnT w' lo hi B (mkRow k F0) Y len ∧ Btw lo hi w w' := by
  have HO : Hid (OwnT w lo hi B F0 Y len) := ho
  have HF : Hid (∀ i, i < len → NdFit 1048576 (F0 i)) := hf
  have HK : Hid (kAt k F0 len ≤ 300000000) := hk
  clear ho hf hk
  go_enter Tryz.func24, Tryz.ntmps24
  go_wp2
  go_loopw [5, 1] (fun i q wr => ∃ (j : Nat) (F : Nat → Nd), j ≤ len ∧ i = .int .i64 j ∧ q = .int .i64 (kAt k F0 j : Nat) ∧ Hid (OwnT wr lo hi B F Y len) ∧ Hid (∀ t, t < j → F t = mkRow k F0 t) ∧ Hid (∀ t, j ≤ t → F t = F0 t) ∧ Hid (Btw lo hi w wr)) (fun i _ _ => len - (intOf i).toNat)
  case atStart => exact ⟨0, F0, Nat.zero_le _, rfl, rfl, HO, fun t ht => absurd ht (by omega), fun t _ => rfl, Btw.refl _ _ _⟩
  case round =>
    obtain ⟨j, F, hj, rfl, rfl, hH, hg, hg2, hB⟩ := hrel
    by_cases hlt : j < len
    · have hlt' : (j : Int) < (len : Int) := by omega
      have hj0 : (0 : Int) ≤ (j : Int) := by omega
      have hx : F j = F0 j := hg2.out j (Nat.le_refl _)
      have hKb : kAt k F0 j + cntMk (F j) ≤ 300000000 := by rw [hx]; exact kAt_le HK.out hlt
      have hK0 : 0 < kAt k F0 j := kAt_pos h0 j
      have hfit : NdFit 1048576 (F j) := by rw [hx]; exact HF.out j hlt
      have HRel : Hid (kAt k F0 (j + 1) = kAt k F0 j + cntMk (F j) ∧ mkRow k F0 j = mkNd (F j) (kAt k F0 j)) := (by show _ ∧ _; rw [mkRow, hx]; exact ⟨rfl, rfl⟩)
      clear hx
      have HU : Hid (OwnU wr lo hi B F Y len j (F j)) := hH.out.ownU j
      obtain ⟨x, hx⟩ : ∃ x, x = F j := ⟨_, rfl⟩
      rw [← hx] at hKb hfit HRel HU
      clear hx
      obtain ⟨K, hKe⟩ : ∃ K, K = kAt k F0 j := ⟨_, rfl⟩
      rw [← hKe] at hKb hK0 HRel ⊢
      have HHg : Hid (∀ t, t < j → F t = mkRow k F0 t) := hg
      have HHg2 : Hid (∀ t, j ≤ t → F t = F0 t) := hg2
      have HCn : Hid (mk5 x K + 1 = K + cntMk x) := mk5_cnt x K
      have HM1 : Hid (mk1 x K = K + 7 + 2 * x.A.us.length) := rfl
      have HM2 : Hid (mk2 x K = mk1 x K + 2 * x.A.gs.length) := rfl
      have HM3 : Hid (mk3 x K = mk2 x K + 6 + 2 * x.D.us.length) := rfl
      have HM4 : Hid (mk4 x K = mk3 x K + 2 * x.D.gs.length) := rfl
      have HM5 : Hid (mk5 x K = mk4 x K + 5 + 2 * x.ns.length) := rfl
      have HX : Hid (mkNd x K = ⟨K, (K : Int) + 1, (K : Int) + 2, (K : Int) + 3, ⟨(K : Int) + 4, (K : Int) + 5, (K : Int) + 6, marks ((K : Int) + 7) x.A.us.length, marks ((mk1 x K) : Nat) x.A.gs.length, ((mk2 x K) % 3 == 0), ((mk2 x K) : Int) + 1⟩, (((mk2 x K) + 2) % 3 == 0), ⟨((mk2 x K) : Int) + 3, ((mk2 x K) : Int) + 4, ((mk2 x K) : Int) + 5, marks (((mk2 x K) : Int) + 6) x.D.us.length, marks ((mk3 x K) : Nat) x.D.gs.length, ((mk4 x K) % 3 == 0), ((mk4 x K) : Int) + 1⟩, ((mk4 x K) : Int) + 2, ((mk4 x K) : Int) + 3, mkT ((mk4 x K) + 4), marksE ((mk4 x K) + 5) x.ns.length, ((mk5 x K) : Nat)⟩) := rfl
      generalize mk1 x K = M1 at HM1 HM2 HX
      generalize mk2 x K = M2 at HM2 HM3 HX
      generalize mk3 x K = M3 at HM3 HM4 HX
      generalize mk4 x K = M4 at HM4 HM5 HX
      generalize mk5 x K = M5 at HM5 HX HCn
      have HQ : Hid (M1 ≤ 300000000 ∧ M2 + 6 ≤ 300000000 ∧ M3 ≤ 300000000 ∧ M4 + 5 ≤ 300000000 ∧ M5 + 1 ≤ 300000000) := (by
        have := HCn.out; have := HM1.out; have := HM2.out; have := HM3.out; have := HM4.out; have := HM5.out
        show _ ∧ _ ∧ _ ∧ _ ∧ _
        omega)
      clear hH hg hg2 hKe HF HO HK hKb
      have hKm : K + 7 ≤ 300000000 := by have := HQ.out; have := HM1.out; omega
      have HIn : Hid (lo ≤ B ∧ B < hi) := HU.out.inB
      have e0 : wr.cell? ⟨B, j * 24, none⟩ = some (.int .i64 (x.k)) := (by have h := N24.c0 (HU.out.row hlt); exact h)
      have e1 : wr.cell? ⟨B, j * 24 + 1, none⟩ = some (.int .i64 (x.ow)) := (by have h := N24.c1 (HU.out.row hlt); exact h)
      have e2 : wr.cell? ⟨B, j * 24 + 2, none⟩ = some (.int .i64 (x.gr)) := (by have h := N24.c2 (HU.out.row hlt); exact h)
      have e3 : wr.cell? ⟨B, j * 24 + 3, none⟩ = some (.int .i64 (x.ex)) := (by have h := N24.c3 (HU.out.row hlt); exact h)
      have e4 : wr.cell? ⟨B, j * 24 + 4, none⟩ = some (.int .i64 (x.A.u)) := (by have h := N24.c4 (HU.out.row hlt); exact h)
      have e5 : wr.cell? ⟨B, j * 24 + 4 + 1, none⟩ = some (.int .i64 (x.A.g)) := (by have h := N24.c5 (HU.out.row hlt); exact h)
      have e6 : wr.cell? ⟨B, j * 24 + 4 + 2, none⟩ = some (.int .i64 (x.A.o)) := (by have h := N24.c6 (HU.out.row hlt); exact h)
      have e7 : wr.cell? ⟨B, j * 24 + 4 + 3, none⟩ = some (.slice (Y j).aU x.A.us.length (Y j).cU) := (by have h := N24.c7 (HU.out.row hlt); exact h)
      have fz := HU.out.frz
      have HUn : Hid (OwnU (((((((wr.setCell ⟨B, j * 24, none⟩ (.int .i64 ((K : Int)))).setCell ⟨B, j * 24 + 1, none⟩ (.int .i64 ((K : Int) + 1))).setCell ⟨B, j * 24 + 2, none⟩ (.int .i64 ((K : Int) + 1 + 1))).setCell ⟨B, j * 24 + 3, none⟩ (.int .i64 ((K : Int) + 1 + 1 + 1))).setCell ⟨B, j * 24 + 4, none⟩ (.int .i64 ((K : Int) + 1 + 1 + 1 + 1))).setCell ⟨B, j * 24 + 4 + 1, none⟩ (.int .i64 ((K : Int) + 1 + 1 + 1 + 1 + 1))).setCell ⟨B, j * 24 + 4 + 2, none⟩ (.int .i64 ((K : Int) + 1 + 1 + 1 + 1 + 1 + 1))) lo hi B F Y len j ⟨(K : Int), (K : Int) + 1, (K : Int) + 1 + 1, (K : Int) + 1 + 1 + 1, ⟨(K : Int) + 1 + 1 + 1 + 1, (K : Int) + 1 + 1 + 1 + 1 + 1, (K : Int) + 1 + 1 + 1 + 1 + 1 + 1, x.A.us, x.A.gs, x.A.r, x.A.m⟩, x.sh, ⟨x.D.u, x.D.g, x.D.o, x.D.us, x.D.gs, x.D.r, x.D.m⟩, x.li, x.up, x.bo, x.ns, x.ti⟩) := (((((((HU.out.cell hlt 0 (by omega) (.int .i64 ((K : Int))) ⟨(K : Int), x.ow, x.gr, x.ex, ⟨x.A.u, x.A.g, x.A.o, x.A.us, x.A.gs, x.A.r, x.A.m⟩, x.sh, ⟨x.D.u, x.D.g, x.D.o, x.D.us, x.D.gs, x.D.r, x.D.m⟩, x.li, x.up, x.bo, x.ns, x.ti⟩ rfl rfl rfl rfl rfl rfl).cell hlt 1 (by omega) (.int .i64 ((K : Int) + 1)) ⟨(K : Int), (K : Int) + 1, x.gr, x.ex, ⟨x.A.u, x.A.g, x.A.o, x.A.us, x.A.gs, x.A.r, x.A.m⟩, x.sh, ⟨x.D.u, x.D.g, x.D.o, x.D.us, x.D.gs, x.D.r, x.D.m⟩, x.li, x.up, x.bo, x.ns, x.ti⟩ rfl rfl rfl rfl rfl rfl).cell hlt 2 (by omega) (.int .i64 ((K : Int) + 1 + 1)) ⟨(K : Int), (K : Int) + 1, (K : Int) + 1 + 1, x.ex, ⟨x.A.u, x.A.g, x.A.o, x.A.us, x.A.gs, x.A.r, x.A.m⟩, x.sh, ⟨x.D.u, x.D.g, x.D.o, x.D.us, x.D.gs, x.D.r, x.D.m⟩, x.li, x.up, x.bo, x.ns, x.ti⟩ rfl rfl rfl rfl rfl rfl).cell hlt 3 (by omega) (.int .i64 ((K : Int) + 1 + 1 + 1)) ⟨(K : Int), (K : Int) + 1, (K : Int) + 1 + 1, (K : Int) + 1 + 1 + 1, ⟨x.A.u, x.A.g, x.A.o, x.A.us, x.A.gs, x.A.r, x.A.m⟩, x.sh, ⟨x.D.u, x.D.g, x.D.o, x.D.us, x.D.gs, x.D.r, x.D.m⟩, x.li, x.up, x.bo, x.ns, x.ti⟩ rfl rfl rfl rfl rfl rfl).cell hlt 4 (by omega) (.int .i64 ((K : Int) + 1 + 1 + 1 + 1)) ⟨(K : Int), (K : Int) + 1, (K : Int) + 1 + 1, (K : Int) + 1 + 1 + 1, ⟨(K : Int) + 1 + 1 + 1 + 1, x.A.g, x.A.o, x.A.us, x.A.gs, x.A.r, x.A.m⟩, x.sh, ⟨x.D.u, x.D.g, x.D.o, x.D.us, x.D.gs, x.D.r, x.D.m⟩, x.li, x.up, x.bo, x.ns, x.ti⟩ rfl rfl rfl rfl rfl rfl).cell hlt 5 (by omega) (.int .i64 ((K : Int) + 1 + 1 + 1 + 1 + 1)) ⟨(K : Int), (K : Int) + 1, (K : Int) + 1 + 1, (K : Int) + 1 + 1 + 1, ⟨(K : Int) + 1 + 1 + 1 + 1, (K : Int) + 1 + 1 + 1 + 1 + 1, x.A.o, x.A.us, x.A.gs, x.A.r, x.A.m⟩, x.sh, ⟨x.D.u, x.D.g, x.D.o, x.D.us, x.D.gs, x.D.r, x.D.m⟩, x.li, x.up, x.bo, x.ns, x.ti⟩ rfl rfl rfl rfl rfl rfl).cell hlt 6 (by omega) (.int .i64 ((K : Int) + 1 + 1 + 1 + 1 + 1 + 1)) ⟨(K : Int), (K : Int) + 1, (K : Int) + 1 + 1, (K : Int) + 1 + 1 + 1, ⟨(K : Int) + 1 + 1 + 1 + 1, (K : Int) + 1 + 1 + 1 + 1 + 1, (K : Int) + 1 + 1 + 1 + 1 + 1 + 1, x.A.us, x.A.gs, x.A.r, x.A.m⟩, x.sh, ⟨x.D.u, x.D.g, x.D.o, x.D.us, x.D.gs, x.D.r, x.D.m⟩, x.li, x.up, x.bo, x.ns, x.ti⟩ rfl rfl rfl rfl rfl rfl)
      have hBn : Hid (Btw lo hi w (((((((wr.setCell ⟨B, j * 24, none⟩ (.int .i64 ((K : Int)))).setCell ⟨B, j * 24 + 1, none⟩ (.int .i64 ((K : Int) + 1))).setCell ⟨B, j * 24 + 2, none⟩ (.int .i64 ((K : Int) + 1 + 1))).setCell ⟨B, j * 24 + 3, none⟩ (.int .i64 ((K : Int) + 1 + 1 + 1))).setCell ⟨B, j * 24 + 4, none⟩ (.int .i64 ((K : Int) + 1 + 1 + 1 + 1))).setCell ⟨B, j * 24 + 4 + 1, none⟩ (.int .i64 ((K : Int) + 1 + 1 + 1 + 1 + 1))).setCell ⟨B, j * 24 + 4 + 2, none⟩ (.int .i64 ((K : Int) + 1 + 1 + 1 + 1 + 1 + 1)))) := (((((((hB.out.set HIn.out.1 HIn.out.2).set HIn.out.1 HIn.out.2).set HIn.out.1 HIn.out.2).set HIn.out.1 HIn.out.2).set HIn.out.1 HIn.out.2).set HIn.out.1 HIn.out.2).set HIn.out.1 HIn.out.2)
      clear HU hB
      go_wp2_with fail
      generalize (((((((wr.setCell ⟨B, j * 24, none⟩ (.int .i64 ((K : Int)))).setCell ⟨B, j * 24 + 1, none⟩ (.int .i64 ((K : Int) + 1))).setCell ⟨B, j * 24 + 2, none⟩ (.int .i64 ((K : Int) + 1 + 1))).setCell ⟨B, j * 24 + 3, none⟩ (.int .i64 ((K : Int) + 1 + 1 + 1))).setCell ⟨B, j * 24 + 4, none⟩ (.int .i64 ((K : Int) + 1 + 1 + 1 + 1))).setCell ⟨B, j * 24 + 4 + 1, none⟩ (.int .i64 ((K : Int) + 1 + 1 + 1 + 1 + 1))).setCell ⟨B, j * 24 + 4 + 2, none⟩ (.int .i64 ((K : Int) + 1 + 1 + 1 + 1 + 1 + 1))) = wA at HUn hBn ⊢
      clear fz e0 e1 e2 e3 e4 e5 e6 e7
      have hz : (K : Int) + 1 + 1 + 1 + 1 + 1 + 1 + 1 = ((K + 7 : Nat) : Int) := by omega
      rw [hz]
      clear hz
      refine (HUn.out.mk_us hlt (K + 7) M1 (by have := HQ.out; omega) (by exact hfit.au) (by have := HM1.out; omega)).mono ?_
      rintro e w1 ⟨rfl, hu, hb⟩
      have HU : Hid (OwnU w1 lo hi B F Y len j ⟨(K : Int), (K : Int) + 1, (K : Int) + 1 + 1, (K : Int) + 1 + 1 + 1, ⟨(K : Int) + 1 + 1 + 1 + 1, (K : Int) + 1 + 1 + 1 + 1 + 1, (K : Int) + 1 + 1 + 1 + 1 + 1 + 1, marks ((K + 7 : Nat) : Int) x.A.us.length, x.A.gs, x.A.r, x.A.m⟩, x.sh, ⟨x.D.u, x.D.g, x.D.o, x.D.us, x.D.gs, x.D.r, x.D.m⟩, x.li, x.up, x.bo, x.ns, x.ti⟩) := hu
      have hB : Hid (Btw lo hi w w1) := hBn.out.trans hb
      clear HUn hBn hu hb
      have e8 : w1.cell? ⟨B, j * 24 + 4 + 4, none⟩ = some (.slice (Y j).aG x.A.gs.length (Y j).cG) := (by have h := N24.c8 (HU.out.row hlt); exact h)
      go_wp2_with fail
      have HUn := HU
      have hBn := hB
      clear HU hB e8
      refine (HUn.out.mk_gs hlt M1 M2 (by have := HQ.out; omega) (by exact hfit.ag) (by have := HM2.out; omega)).mono ?_
      rintro e w2 ⟨rfl, hu, hb⟩
      have HU : Hid (OwnU w2 lo hi B F Y len j ⟨(K : Int), (K : Int) + 1, (K : Int) + 1 + 1, (K : Int) + 1 + 1 + 1, ⟨(K : Int) + 1 + 1 + 1 + 1, (K : Int) + 1 + 1 + 1 + 1 + 1, (K : Int) + 1 + 1 + 1 + 1 + 1 + 1, marks ((K + 7 : Nat) : Int) x.A.us.length, marks ((M1 : Nat) : Int) x.A.gs.length, x.A.r, x.A.m⟩, x.sh, ⟨x.D.u, x.D.g, x.D.o, x.D.us, x.D.gs, x.D.r, x.D.m⟩, x.li, x.up, x.bo, x.ns, x.ti⟩) := hu
      have hB : Hid (Btw lo hi w w2) := hBn.out.trans hb
      clear HUn hBn hu hb
      have hM2 : M2 + 6 ≤ 300000000 := HQ.out.2.1
      have e9 : w2.cell? ⟨B, j * 24 + 4 + 5, none⟩ = some (.bool (x.A.r)) := (by have h := N24.c9 (HU.out.row hlt); exact h)
      have e10 : w2.cell? ⟨B, j * 24 + 4 + 6, none⟩ = some (.int .i64 (x.A.m)) := (by have h := N24.c10 (HU.out.row hlt); exact h)
      have e11 : w2.cell? ⟨B, j * 24 + 11, none⟩ = some (.bool (x.sh)) := (by have h := N24.c11 (HU.out.row hlt); exact h)
      have e12 : w2.cell? ⟨B, j * 24 + 12, none⟩ = some (.int .i64 (x.D.u)) := (by have h := N24.c12 (HU.out.row hlt); exact h)
      have e13 : w2.cell? ⟨B, j * 24 + 12 + 1, none⟩ = some (.int .i64 (x.D.g)) := (by have h := N24.c13 (HU.out.row hlt); exact h)
      have e14 : w2.cell? ⟨B, j * 24 + 12 + 2, none⟩ = some (.int .i64 (x.D.o)) := (by have h := N24.c14 (HU.out.row hlt); exact h)
      have e15 : w2.cell? ⟨B, j * 24 + 12 + 3, none⟩ = some (.slice (Y j).dU x.D.us.length (Y j).eU) := (by have h := N24.c15 (HU.out.row hlt); exact h)
      have fz := HU.out.frz
      have HUn : Hid (OwnU ((((((w2.setCell ⟨B, j * 24 + 4 + 5, none⟩ (.bool (((M2 : Int)) % 3 == 0))).setCell ⟨B, j * 24 + 4 + 6, none⟩ (.int .i64 ((M2 : Int) + 1))).setCell ⟨B, j * 24 + 11, none⟩ (.bool (((M2 : Int) + 1 + 1) % 3 == 0))).setCell ⟨B, j * 24 + 12, none⟩ (.int .i64 ((M2 : Int) + 1 + 1 + 1))).setCell ⟨B, j * 24 + 12 + 1, none⟩ (.int .i64 ((M2 : Int) + 1 + 1 + 1 + 1))).setCell ⟨B, j * 24 + 12 + 2, none⟩ (.int .i64 ((M2 : Int) + 1 + 1 + 1 + 1 + 1))) lo hi B F Y len j ⟨(K : Int), (K : Int) + 1, (K : Int) + 1 + 1, (K : Int) + 1 + 1 + 1, ⟨(K : Int) + 1 + 1 + 1 + 1, (K : Int) + 1 + 1 + 1 + 1 + 1, (K : Int) + 1 + 1 + 1 + 1 + 1 + 1, marks ((K + 7 : Nat) : Int) x.A.us.length, marks ((M1 : Nat) : Int) x.A.gs.length, (((M2 : Int)) % 3 == 0), (M2 : Int) + 1⟩, (((M2 : Int) + 1 + 1) % 3 == 0), ⟨(M2 : Int) + 1 + 1 + 1, (M2 : Int) + 1 + 1 + 1 + 1, (M2 : Int) + 1 + 1 + 1 + 1 + 1, x.D.us, x.D.gs, x.D.r, x.D.m⟩, x.li, x.up, x.bo, x.ns, x.ti⟩) := ((((((HU.out.cell hlt 9 (by omega) (.bool (((M2 : Int)) % 3 == 0)) ⟨(K : Int), (K : Int) + 1, (K : Int) + 1 + 1, (K : Int) + 1 + 1 + 1, ⟨(K : Int) + 1 + 1 + 1 + 1, (K : Int) + 1 + 1 + 1 + 1 + 1, (K : Int) + 1 + 1 + 1 + 1 + 1 + 1, marks ((K + 7 : Nat) : Int) x.A.us.length, marks ((M1 : Nat) : Int) x.A.gs.length, (((M2 : Int)) % 3 == 0), x.A.m⟩, x.sh, ⟨x.D.u, x.D.g, x.D.o, x.D.us, x.D.gs, x.D.r, x.D.m⟩, x.li, x.up, x.bo, x.ns, x.ti⟩ rfl rfl rfl rfl rfl rfl).cell hlt 10 (by omega) (.int .i64 ((M2 : Int) + 1)) ⟨(K : Int), (K : Int) + 1, (K : Int) + 1 + 1, (K : Int) + 1 + 1 + 1, ⟨(K : Int) + 1 + 1 + 1 + 1, (K : Int) + 1 + 1 + 1 + 1 + 1, (K : Int) + 1 + 1 + 1 + 1 + 1 + 1, marks ((K + 7 : Nat) : Int) x.A.us.length, marks ((M1 : Nat) : Int) x.A.gs.length, (((M2 : Int)) % 3 == 0), (M2 : Int) + 1⟩, x.sh, ⟨x.D.u, x.D.g, x.D.o, x.D.us, x.D.gs, x.D.r, x.D.m⟩, x.li, x.up, x.bo, x.ns, x.ti⟩ rfl rfl rfl rfl rfl rfl).cell hlt 11 (by omega) (.bool (((M2 : Int) + 1 + 1) % 3 == 0)) ⟨(K : Int), (K : Int) + 1, (K : Int) + 1 + 1, (K : Int) + 1 + 1 + 1, ⟨(K : Int) + 1 + 1 + 1 + 1, (K : Int) + 1 + 1 + 1 + 1 + 1, (K : Int) + 1 + 1 + 1 + 1 + 1 + 1, marks ((K + 7 : Nat) : Int) x.A.us.length, marks ((M1 : Nat) : Int) x.A.gs.length, (((M2 : Int)) % 3 == 0), (M2 : Int) + 1⟩, (((M2 : Int) + 1 + 1) % 3 == 0), ⟨x.D.u, x.D.g, x.D.o, x.D.us, x.D.gs, x.D.r, x.D.m⟩, x.li, x.up, x.bo, x.ns, x.ti⟩ rfl rfl rfl rfl rfl rfl).cell hlt 12 (by omega) (.int .i64 ((M2 : Int) + 1 + 1 + 1)) ⟨(K : Int), (K : Int) + 1, (K : Int) + 1 + 1, (K : Int) + 1 + 1 + 1, ⟨(K : Int) + 1 + 1 + 1 + 1, (K : Int) + 1 + 1 + 1 + 1 + 1, (K : Int) + 1 + 1 + 1 + 1 + 1 + 1, marks ((K + 7 : Nat) : Int) x.A.us.length, marks ((M1 : Nat) : Int) x.A.gs.length, (((M2 : Int)) % 3 == 0), (M2 : Int) + 1⟩, (((M2 : Int) + 1 + 1) % 3 == 0), ⟨(M2 : Int) + 1 + 1 + 1, x.D.g, x.D.o, x.D.us, x.D.gs, x.D.r, x.D.m⟩, x.li, x.up, x.bo, x.ns, x.ti⟩ rfl rfl rfl rfl rfl rfl).cell hlt 13 (by omega) (.int .i64 ((M2 : Int) + 1 + 1 + 1 + 1)) ⟨(K : Int), (K : Int) + 1, (K : Int) + 1 + 1, (K : Int) + 1 + 1 + 1, ⟨(K : Int) + 1 + 1 + 1 + 1, (K : Int) + 1 + 1 + 1 + 1 + 1, (K : Int) + 1 + 1 + 1 + 1 + 1 + 1, marks ((K + 7 : Nat) : Int) x.A.us.length, marks ((M1 : Nat) : Int) x.A.gs.length, (((M2 : Int)) % 3 == 0), (M2 : Int) + 1⟩, (((M2 : Int) + 1 + 1) % 3 == 0), ⟨(M2 : Int) + 1 + 1 + 1, (M2 : Int) + 1 + 1 + 1 + 1, x.D.o, x.D.us, x.D.gs, x.D.r, x.D.m⟩, x.li, x.up, x.bo, x.ns, x.ti⟩ rfl rfl rfl rfl rfl rfl).cell hlt 14 (by omega) (.int .i64 ((M2 : Int) + 1 + 1 + 1 + 1 + 1)) ⟨(K : Int), (K : Int) + 1, (K : Int) + 1 + 1, (K : Int) + 1 + 1 + 1, ⟨(K : Int) + 1 + 1 + 1 + 1, (K : Int) + 1 + 1 + 1 + 1 + 1, (K : Int) + 1 + 1 + 1 + 1 + 1 + 1, marks ((K + 7 : Nat) : Int) x.A.us.length, marks ((M1 : Nat) : Int) x.A.gs.length, (((M2 : Int)) % 3 == 0), (M2 : Int) + 1⟩, (((M2 : Int) + 1 + 1) % 3 == 0), ⟨(M2 : Int) + 1 + 1 + 1, (M2 : Int) + 1 + 1 + 1 + 1, (M2 : Int) + 1 + 1 + 1 + 1 + 1, x.D.us, x.D.gs, x.D.r, x.D.m⟩, x.li, x.up, x.bo, x.ns, x.ti⟩ rfl rfl rfl rfl rfl rfl)
      have hBn : Hid (Btw lo hi w ((((((w2.setCell ⟨B, j * 24 + 4 + 5, none⟩ (.bool (((M2 : Int)) % 3 == 0))).setCell ⟨B, j * 24 + 4 + 6, none⟩ (.int .i64 ((M2 : Int) + 1))).setCell ⟨B, j * 24 + 11, none⟩ (.bool (((M2 : Int) + 1 + 1) % 3 == 0))).setCell ⟨B, j * 24 + 12, none⟩ (.int .i64 ((M2 : Int) + 1 + 1 + 1))).setCell ⟨B, j * 24 + 12 + 1, none⟩ (.int .i64 ((M2 : Int) + 1 + 1 + 1 + 1))).setCell ⟨B, j * 24 + 12 + 2, none⟩ (.int .i64 ((M2 : Int) + 1 + 1 + 1 + 1 + 1)))) := ((((((hB.out.set HIn.out.1 HIn.out.2).set HIn.out.1 HIn.out.2).set HIn.out.1 HIn.out.2).set HIn.out.1 HIn.out.2).set HIn.out.1 HIn.out.2).set HIn.out.1 HIn.out.2)
      clear HU hB
      go_wp2_with fail
      generalize ((((((w2.setCell ⟨B, j * 24 + 4 + 5, none⟩ (.bool (((M2 : Int)) % 3 == 0))).setCell ⟨B, j * 24 + 4 + 6, none⟩ (.int .i64 ((M2 : Int) + 1))).setCell ⟨B, j * 24 + 11, none⟩ (.bool (((M2 : Int) + 1 + 1) % 3 == 0))).setCell ⟨B, j * 24 + 12, none⟩ (.int .i64 ((M2 : Int) + 1 + 1 + 1))).setCell ⟨B, j * 24 + 12 + 1, none⟩ (.int .i64 ((M2 : Int) + 1 + 1 + 1 + 1))).setCell ⟨B, j * 24 + 12 + 2, none⟩ (.int .i64 ((M2 : Int) + 1 + 1 + 1 + 1 + 1))) = wB at HUn hBn ⊢
      clear fz e9 e10 e11 e12 e13 e14 e15
      have hz : (M2 : Int) + 1 + 1 + 1 + 1 + 1 + 1 = ((M2 + 6 : Nat) : Int) := by omega
      rw [hz]
      clear hz
      refine (HUn.out.mk_dus hlt (M2 + 6) M3 (by have := HQ.out; omega) (by exact hfit.du) (by have := HM3.out; omega)).mono ?_
      rintro e w3 ⟨rfl, hu, hb⟩
      have HU : Hid (OwnU w3 lo hi B F Y len j ⟨(K : Int), (K : Int) + 1, (K : Int) + 1 + 1, (K : Int) + 1 + 1 + 1, ⟨(K : Int) + 1 + 1 + 1 + 1, (K : Int) + 1 + 1 + 1 + 1 + 1, (K : Int) + 1 + 1 + 1 + 1 + 1 + 1, marks ((K + 7 : Nat) : Int) x.A.us.length, marks ((M1 : Nat) : Int) x.A.gs.length, (((M2 : Int)) % 3 == 0), (M2 : Int) + 1⟩, (((M2 : Int) + 1 + 1) % 3 == 0), ⟨(M2 : Int) + 1 + 1 + 1, (M2 : Int) + 1 + 1 + 1 + 1, (M2 : Int) + 1 + 1 + 1 + 1 + 1, marks ((M2 + 6 : Nat) : Int) x.D.us.length, x.D.gs, x.D.r, x.D.m⟩, x.li, x.up, x.bo, x.ns, x.ti⟩) := hu
      have hB : Hid (Btw lo hi w w3) := hBn.out.trans hb
      clear HUn hBn hu hb
      have e16 : w3.cell? ⟨B, j * 24 + 12 + 4, none⟩ = some (.slice (Y j).dG x.D.gs.length (Y j).eG) := (by have h := N24.c16 (HU.out.row hlt); exact h)
      go_wp2_with fail
      have HUn := HU
      have hBn := hB
      clear HU hB e16
      refine (HUn.out.mk_dgs hlt M3 M4 (by have := HQ.out; omega) (by exact hfit.dg) (by have := HM4.out; omega)).mono ?_
      rintro e w4 ⟨rfl, hu, hb⟩
      have HU : Hid (OwnU w4 lo hi B F Y len j ⟨(K : Int), (K : Int) + 1, (K : Int) + 1 + 1, (K : Int) + 1 + 1 + 1, ⟨(K : Int) + 1 + 1 + 1 + 1, (K : Int) + 1 + 1 + 1 + 1 + 1, (K : Int) + 1 + 1 + 1 + 1 + 1 + 1, marks ((K + 7 : Nat) : Int) x.A.us.length, marks ((M1 : Nat) : Int) x.A.gs.length, (((M2 : Int)) % 3 == 0), (M2 : Int) + 1⟩, (((M2 : Int) + 1 + 1) % 3 == 0), ⟨(M2 : Int) + 1 + 1 + 1, (M2 : Int) + 1 + 1 + 1 + 1, (M2 : Int) + 1 + 1 + 1 + 1 + 1, marks ((M2 + 6 : Nat) : Int) x.D.us.length, marks ((M3 : Nat) : Int) x.D.gs.length, x.D.r, x.D.m⟩, x.li, x.up, x.bo, x.ns, x.ti⟩) := hu
      have hB : Hid (Btw lo hi w w4) := hBn.out.trans hb
      clear HUn hBn hu hb
      have hM4 : M4 + 5 ≤ 300000000 := HQ.out.2.2.2.1
      have e17 : w4.cell? ⟨B, j * 24 + 12 + 5, none⟩ = some (.bool (x.D.r)) := (by have h := N24.c17 (HU.out.row hlt); exact h)
      have e18 : w4.cell? ⟨B, j * 24 + 12 + 6, none⟩ = some (.int .i64 (x.D.m)) := (by have h := N24.c18 (HU.out.row hlt); exact h)
      have e19 : w4.cell? ⟨B, j * 24 + 19, none⟩ = some (.int .i64 (x.li)) := (by have h := N24.c19 (HU.out.row hlt); exact h)
      have e20 : w4.cell? ⟨B, j * 24 + 20, none⟩ = some (.int .i64 (x.up)) := (by have h := N24.c20 (HU.out.row hlt); exact h)
      have fz := HU.out.frz
      have HUn : Hid (OwnU ((((w4.setCell ⟨B, j * 24 + 12 + 5, none⟩ (.bool (((M4 : Int)) % 3 == 0))).setCell ⟨B, j * 24 + 12 + 6, none⟩ (.int .i64 ((M4 : Int) + 1))).setCell ⟨B, j * 24 + 19, none⟩ (.int .i64 ((M4 : Int) + 1 + 1))).setCell ⟨B, j * 24 + 20, none⟩ (.int .i64 ((M4 : Int) + 1 + 1 + 1))) lo hi B F Y len j ⟨(K : Int), (K : Int) + 1, (K : Int) + 1 + 1, (K : Int) + 1 + 1 + 1, ⟨(K : Int) + 1 + 1 + 1 + 1, (K : Int) + 1 + 1 + 1 + 1 + 1, (K : Int) + 1 + 1 + 1 + 1 + 1 + 1, marks ((K + 7 : Nat) : Int) x.A.us.length, marks ((M1 : Nat) : Int) x.A.gs.length, (((M2 : Int)) % 3 == 0), (M2 : Int) + 1⟩, (((M2 : Int) + 1 + 1) % 3 == 0), ⟨(M2 : Int) + 1 + 1 + 1, (M2 : Int) + 1 + 1 + 1 + 1, (M2 : Int) + 1 + 1 + 1 + 1 + 1, marks ((M2 + 6 : Nat) : Int) x.D.us.length, marks ((M3 : Nat) : Int) x.D.gs.length, (((M4 : Int)) % 3 == 0), (M4 : Int) + 1⟩, (M4 : Int) + 1 + 1, (M4 : Int) + 1 + 1 + 1, x.bo, x.ns, x.ti⟩) := ((((HU.out.cell hlt 17 (by omega) (.bool (((M4 : Int)) % 3 == 0)) ⟨(K : Int), (K : Int) + 1, (K : Int) + 1 + 1, (K : Int) + 1 + 1 + 1, ⟨(K : Int) + 1 + 1 + 1 + 1, (K : Int) + 1 + 1 + 1 + 1 + 1, (K : Int) + 1 + 1 + 1 + 1 + 1 + 1, marks ((K + 7 : Nat) : Int) x.A.us.length, marks ((M1 : Nat) : Int) x.A.gs.length, (((M2 : Int)) % 3 == 0), (M2 : Int) + 1⟩, (((M2 : Int) + 1 + 1) % 3 == 0), ⟨(M2 : Int) + 1 + 1 + 1, (M2 : Int) + 1 + 1 + 1 + 1, (M2 : Int) + 1 + 1 + 1 + 1 + 1, marks ((M2 + 6 : Nat) : Int) x.D.us.length, marks ((M3 : Nat) : Int) x.D.gs.length, (((M4 : Int)) % 3 == 0), x.D.m⟩, x.li, x.up, x.bo, x.ns, x.ti⟩ rfl rfl rfl rfl rfl rfl).cell hlt 18 (by omega) (.int .i64 ((M4 : Int) + 1)) ⟨(K : Int), (K : Int) + 1, (K : Int) + 1 + 1, (K : Int) + 1 + 1 + 1, ⟨(K : Int) + 1 + 1 + 1 + 1, (K : Int) + 1 + 1 + 1 + 1 + 1, (K : Int) + 1 + 1 + 1 + 1 + 1 + 1, marks ((K + 7 : Nat) : Int) x.A.us.length, marks ((M1 : Nat) : Int) x.A.gs.length, (((M2 : Int)) % 3 == 0), (M2 : Int) + 1⟩, (((M2 : Int) + 1 + 1) % 3 == 0), ⟨(M2 : Int) + 1 + 1 + 1, (M2 : Int) + 1 + 1 + 1 + 1, (M2 : Int) + 1 + 1 + 1 + 1 + 1, marks ((M2 + 6 : Nat) : Int) x.D.us.length, marks ((M3 : Nat) : Int) x.D.gs.length, (((M4 : Int)) % 3 == 0), (M4 : Int) + 1⟩, x.li, x.up, x.bo, x.ns, x.ti⟩ rfl rfl rfl rfl rfl rfl).cell hlt 19 (by omega) (.int .i64 ((M4 : Int) + 1 + 1)) ⟨(K : Int), (K : Int) + 1, (K : Int) + 1 + 1, (K : Int) + 1 + 1 + 1, ⟨(K : Int) + 1 + 1 + 1 + 1, (K : Int) + 1 + 1 + 1 + 1 + 1, (K : Int) + 1 + 1 + 1 + 1 + 1 + 1, marks ((K + 7 : Nat) : Int) x.A.us.length, marks ((M1 : Nat) : Int) x.A.gs.length, (((M2 : Int)) % 3 == 0), (M2 : Int) + 1⟩, (((M2 : Int) + 1 + 1) % 3 == 0), ⟨(M2 : Int) + 1 + 1 + 1, (M2 : Int) + 1 + 1 + 1 + 1, (M2 : Int) + 1 + 1 + 1 + 1 + 1, marks ((M2 + 6 : Nat) : Int) x.D.us.length, marks ((M3 : Nat) : Int) x.D.gs.length, (((M4 : Int)) % 3 == 0), (M4 : Int) + 1⟩, (M4 : Int) + 1 + 1, x.up, x.bo, x.ns, x.ti⟩ rfl rfl rfl rfl rfl rfl).cell hlt 20 (by omega) (.int .i64 ((M4 : Int) + 1 + 1 + 1)) ⟨(K : Int), (K : Int) + 1, (K : Int) + 1 + 1, (K : Int) + 1 + 1 + 1, ⟨(K : Int) + 1 + 1 + 1 + 1, (K : Int) + 1 + 1 + 1 + 1 + 1, (K : Int) + 1 + 1 + 1 + 1 + 1 + 1, marks ((K + 7 : Nat) : Int) x.A.us.length, marks ((M1 : Nat) : Int) x.A.gs.length, (((M2 : Int)) % 3 == 0), (M2 : Int) + 1⟩, (((M2 : Int) + 1 + 1) % 3 == 0), ⟨(M2 : Int) + 1 + 1 + 1, (M2 : Int) + 1 + 1 + 1 + 1, (M2 : Int) + 1 + 1 + 1 + 1 + 1, marks ((M2 + 6 : Nat) : Int) x.D.us.length, marks ((M3 : Nat) : Int) x.D.gs.length, (((M4 : Int)) % 3 == 0), (M4 : Int) + 1⟩, (M4 : Int) + 1 + 1, (M4 : Int) + 1 + 1 + 1, x.bo, x.ns, x.ti⟩ rfl rfl rfl rfl rfl rfl)
      have hBn : Hid (Btw lo hi w ((((w4.setCell ⟨B, j * 24 + 12 + 5, none⟩ (.bool (((M4 : Int)) % 3 == 0))).setCell ⟨B, j * 24 + 12 + 6, none⟩ (.int .i64 ((M4 : Int) + 1))).setCell ⟨B, j * 24 + 19, none⟩ (.int .i64 ((M4 : Int) + 1 + 1))).setCell ⟨B, j * 24 + 20, none⟩ (.int .i64 ((M4 : Int) + 1 + 1 + 1)))) := ((((hB.out.set HIn.out.1 HIn.out.2).set HIn.out.1 HIn.out.2).set HIn.out.1 HIn.out.2).set HIn.out.1 HIn.out.2)
      clear HU hB
      go_wp2_with fail
      generalize ((((w4.setCell ⟨B, j * 24 + 12 + 5, none⟩ (.bool (((M4 : Int)) % 3 == 0))).setCell ⟨B, j * 24 + 12 + 6, none⟩ (.int .i64 ((M4 : Int) + 1))).setCell ⟨B, j * 24 + 19, none⟩ (.int .i64 ((M4 : Int) + 1 + 1))).setCell ⟨B, j * 24 + 20, none⟩ (.int .i64 ((M4 : Int) + 1 + 1 + 1))) = wC at HUn hBn ⊢
      clear fz e17 e18 e19 e20
      have hz : (M4 : Int) + 1 + 1 + 1 + 1 = ((M4 + 4 : Nat) : Int) := by omega
      rw [hz]
      clear hz
      refine (markText_any (M4 + 4) (by omega) (by omega) _).mono ?_
      rintro e w5 ⟨rfl, hb⟩
      have HU : Hid (OwnU w5 lo hi B F Y len j ⟨(K : Int), (K : Int) + 1, (K : Int) + 1 + 1, (K : Int) + 1 + 1 + 1, ⟨(K : Int) + 1 + 1 + 1 + 1, (K : Int) + 1 + 1 + 1 + 1 + 1, (K : Int) + 1 + 1 + 1 + 1 + 1 + 1, marks ((K + 7 : Nat) : Int) x.A.us.length, marks ((M1 : Nat) : Int) x.A.gs.length, (((M2 : Int)) % 3 == 0), (M2 : Int) + 1⟩, (((M2 : Int) + 1 + 1) % 3 == 0), ⟨(M2 : Int) + 1 + 1 + 1, (M2 : Int) + 1 + 1 + 1 + 1, (M2 : Int) + 1 + 1 + 1 + 1 + 1, marks ((M2 + 6 : Nat) : Int) x.D.us.length, marks ((M3 : Nat) : Int) x.D.gs.length, (((M4 : Int)) % 3 == 0), (M4 : Int) + 1⟩, (M4 : Int) + 1 + 1, (M4 : Int) + 1 + 1 + 1, x.bo, x.ns, x.ti⟩) := HUn.out.below hb
      have hB : Hid (Btw lo hi w w5) := hBn.out.on hb
      clear HUn hBn hb
      have e21 : w5.cell? ⟨B, j * 24 + 21, none⟩ = some (.string (x.bo)) := (by have h := N24.c21 (HU.out.row hlt); exact h)
      have e22 : w5.cell? ⟨B, j * 24 + 22, none⟩ = some (.slice (Y j).nA x.ns.length (Y j).nC) := (by have h := N24.c22 (HU.out.row hlt); exact h)
      have fz := HU.out.frz
      have HUn : Hid (OwnU (w5.setCell ⟨B, j * 24 + 21, none⟩ (.string (mkT (M4 + 4)))) lo hi B F Y len j ⟨(K : Int), (K : Int) + 1, (K : Int) + 1 + 1, (K : Int) + 1 + 1 + 1, ⟨(K : Int) + 1 + 1 + 1 + 1, (K : Int) + 1 + 1 + 1 + 1 + 1, (K : Int) + 1 + 1 + 1 + 1 + 1 + 1, marks ((K + 7 : Nat) : Int) x.A.us.length, marks ((M1 : Nat) : Int) x.A.gs.length, (((M2 : Int)) % 3 == 0), (M2 : Int) + 1⟩, (((M2 : Int) + 1 + 1) % 3 == 0), ⟨(M2 : Int) + 1 + 1 + 1, (M2 : Int) + 1 + 1 + 1 + 1, (M2 : Int) + 1 + 1 + 1 + 1 + 1, marks ((M2 + 6 : Nat) : Int) x.D.us.length, marks ((M3 : Nat) : Int) x.D.gs.length, (((M4 : Int)) % 3 == 0), (M4 : Int) + 1⟩, (M4 : Int) + 1 + 1, (M4 : Int) + 1 + 1 + 1, mkT (M4 + 4), x.ns, x.ti⟩) := HU.out.cell hlt 21 (by omega) (.string (mkT (M4 + 4))) _ rfl rfl rfl rfl rfl rfl
      have hBn : Hid (Btw lo hi w (w5.setCell ⟨B, j * 24 + 21, none⟩ (.string (mkT (M4 + 4))))) := hB.out.set HIn.out.1 HIn.out.2
      clear HU hB
      go_wp2_with fail
      generalize (w5.setCell ⟨B, j * 24 + 21, none⟩ (.string (mkT (M4 + 4)))) = wD at HUn hBn ⊢
      clear fz e21 e22
      have hz : (M4 : Int) + 4 + 1 = ((M4 + 5 : Nat) : Int) := by omega
      rw [hz]
      clear hz
      refine (HUn.out.mk_ns hlt (M4 + 5) M5 (by omega) (by have := HQ.out; omega) (by exact hfit.nl) (by have := HM5.out; omega)).mono ?_
      rintro e w6 ⟨rfl, hu, hb⟩
      have HU : Hid (OwnU w6 lo hi B F Y len j ⟨(K : Int), (K : Int) + 1, (K : Int) + 1 + 1, (K : Int) + 1 + 1 + 1, ⟨(K : Int) + 1 + 1 + 1 + 1, (K : Int) + 1 + 1 + 1 + 1 + 1, (K : Int) + 1 + 1 + 1 + 1 + 1 + 1, marks ((K + 7 : Nat) : Int) x.A.us.length, marks ((M1 : Nat) : Int) x.A.gs.length, (((M2 : Int)) % 3 == 0), (M2 : Int) + 1⟩, (((M2 : Int) + 1 + 1) % 3 == 0), ⟨(M2 : Int) + 1 + 1 + 1, (M2 : Int) + 1 + 1 + 1 + 1, (M2 : Int) + 1 + 1 + 1 + 1 + 1, marks ((M2 + 6 : Nat) : Int) x.D.us.length, marks ((M3 : Nat) : Int) x.D.gs.length, (((M4 : Int)) % 3 == 0), (M4 : Int) + 1⟩, (M4 : Int) + 1 + 1, (M4 : Int) + 1 + 1 + 1, mkT (M4 + 4), marksE (M4 + 5) x.ns.length, x.ti⟩) := hu
      have hB : Hid (Btw lo hi w w6) := hBn.out.trans hb
      clear HUn hBn hu hb
      have hM5 : M5 + 1 ≤ 300000000 := HQ.out.2.2.2.2
      have e23 : w6.cell? ⟨B, j * 24 + 23, none⟩ = some (.int .i64 (x.ti)) := (by have h := N24.c23 (HU.out.row hlt); exact h)
      have fz := HU.out.frz
      have HUn : Hid (OwnU (w6.setCell ⟨B, j * 24 + 23, none⟩ (.int .i64 (M5 : Int))) lo hi B F Y len j ⟨(K : Int), (K : Int) + 1, (K : Int) + 1 + 1, (K : Int) + 1 + 1 + 1, ⟨(K : Int) + 1 + 1 + 1 + 1, (K : Int) + 1 + 1 + 1 + 1 + 1, (K : Int) + 1 + 1 + 1 + 1 + 1 + 1, marks ((K + 7 : Nat) : Int) x.A.us.length, marks ((M1 : Nat) : Int) x.A.gs.length, (((M2 : Int)) % 3 == 0), (M2 : Int) + 1⟩, (((M2 : Int) + 1 + 1) % 3 == 0), ⟨(M2 : Int) + 1 + 1 + 1, (M2 : Int) + 1 + 1 + 1 + 1, (M2 : Int) + 1 + 1 + 1 + 1 + 1, marks ((M2 + 6 : Nat) : Int) x.D.us.length, marks ((M3 : Nat) : Int) x.D.gs.length, (((M4 : Int)) % 3 == 0), (M4 : Int) + 1⟩, (M4 : Int) + 1 + 1, (M4 : Int) + 1 + 1 + 1, mkT (M4 + 4), marksE (M4 + 5) x.ns.length, (M5 : Int)⟩) := HU.out.cell hlt 23 (by omega) (.int .i64 (M5 : Int)) _ rfl rfl rfl rfl rfl rfl
      have hBn : Hid (Btw lo hi w (w6.setCell ⟨B, j * 24 + 23, none⟩ (.int .i64 (M5 : Int)))) := hB.out.set HIn.out.1 HIn.out.2
      have HEq : Hid (mkNd x K = ⟨(K : Int), (K : Int) + 1, (K : Int) + 1 + 1, (K : Int) + 1 + 1 + 1, ⟨(K : Int) + 1 + 1 + 1 + 1, (K : Int) + 1 + 1 + 1 + 1 + 1, (K : Int) + 1 + 1 + 1 + 1 + 1 + 1, marks ((K + 7 : Nat) : Int) x.A.us.length, marks ((M1 : Nat) : Int) x.A.gs.length, (((M2 : Int)) % 3 == 0), (M2 : Int) + 1⟩, (((M2 : Int) + 1 + 1) % 3 == 0), ⟨(M2 : Int) + 1 + 1 + 1, (M2 : Int) + 1 + 1 + 1 + 1, (M2 : Int) + 1 + 1 + 1 + 1 + 1, marks ((M2 + 6 : Nat) : Int) x.D.us.length, marks ((M3 : Nat) : Int) x.D.gs.length, (((M4 : Int)) % 3 == 0), (M4 : Int) + 1⟩, (M4 : Int) + 1 + 1, (M4 : Int) + 1 + 1 + 1, mkT (M4 + 4), marksE (M4 + 5) x.ns.length, (M5 : Int)⟩) := (by
        show _ = _
        rw [HX.out]
        have r1 : ((M2 : Int) % 3 == 0) = (M2 % 3 == 0) := rem3 M2
        have r2 : ((M2 : Int) + 1 + 1) % 3 = ((M2 + 2 : Nat) : Int) % 3 := by congr 1
        have r3 : (((M2 : Int) + 1 + 1) % 3 == 0) = ((M2 + 2) % 3 == 0) := by rw [r2]; exact rem3 (M2 + 2)
        have r4 : ((M4 : Int) % 3 == 0) = (M4 % 3 == 0) := rem3 M4
        rw [r1, r3, r4]
        have q : ∀ a : Int, a + 1 + 1 = a + 2 := fun a => by omega
        have q3 : ∀ a : Int, a + 2 + 1 = a + 3 := fun a => by omega
        have q4 : ∀ a : Int, a + 3 + 1 = a + 4 := fun a => by omega
        have q5 : ∀ a : Int, a + 4 + 1 = a + 5 := fun a => by omega
        have q6 : ∀ a : Int, a + 5 + 1 = a + 6 := fun a => by omega
        simp only [q, q3, q4, q5, q6, Int.natCast_add]
        rfl)
      clear HU hB HX
      have HT2 : Hid (OwnT (w6.setCell ⟨B, j * 24 + 23, none⟩ (.int .i64 (M5 : Int))) lo hi B (updN F j (mkNd x K)) Y len) := (by rw [HEq.out]; exact HUn.out.own)
      have hg3 : Hid (∀ t, t < j + 1 → updN F j (mkNd x K) t = mkRow k F0 t) := (fun t ht => by
        by_cases e : t = j
        · rw [e, updN_at]; exact HRel.out.2.symm
        · rw [updN_ne _ e]; exact HHg.out t (by omega))
      have hg4 : Hid (∀ t, j + 1 ≤ t → updN F j (mkNd x K) t = F0 t) := (fun t ht => by rw [updN_ne _ (by omega)]; exact HHg2.out t (by omega))
      have HCk : Hid (kAt k F0 (j + 1) = M5 + 1) := (by show _ = _; rw [HRel.out.1]; exact HCn.out.symm)
      clear HUn HEq HHg HHg2 HRel
      go_wp2
      go_roundw
      case rel => exact ⟨j + 1, _, by omega, by go_num, by rw [HCk.out]; go_num, HT2, hg3, hg4, hBn⟩
      case measure => simp [intOf]; omega
    · have : j = len := by omega
      subst this
      go_wp2
      go_ret
      refine ⟨rfl, ?_, hB.out⟩
      have hh := hH.out
      refine ⟨hh.lt, hh.inB, ⟨fun i hi' => ?_, hh.row.frz⟩, fun i hi' => ?_, fun i t A hi' => ?_, fun i i' t t' A A' hi1 hi2 => ?_⟩
      · rw [← hg.out i hi']; exact hh.row.at' i hi'
      · rw [← hg.out i hi']; exact hh.own i hi'
      · rw [← hg.out i hi']; exact hh.rng i t A hi'
      · rw [← hg.out i hi1, ← hg.out i' hi2]; exact hh.inj i i' t t' A A' hi1 hi2
set_option maxHeartbeats 4000000 in
theorem markTree_any (lo hi B len cap k : Nat) (now : Int) (F0 : Nat → Nd) (Y : Nat → Na) (h0 : 0 < k) (hk : kAt k F0 len ≤ 300000000) (hl : len ≤ 1048576) (hf : ∀ i, i < len → NdFit 1048576 (F0 i)) (w : World) (ho : OwnT w lo hi B F0 Y len) :
    Calls Tryz.prog 10 #[.agg #[.slice (some ⟨B, 0, none⟩) len cap, .int .i64 now], .int .i64 k] w fun e w' => e = .returned (.int .i64 (kAt k F0 len : Nat)) ∧ OwnT w' lo hi B (mkRow k F0) Y len ∧ Btw lo hi w w' := by
  have HO : Hid (OwnT w lo hi B F0 Y len) := ho
  have HF : Hid (∀ i, i < len → NdFit 1048576 (F0 i)) := hf
  have HK : Hid (kAt k F0 len ≤ 300000000) := hk
  clear ho hf hk
  go_enter Tryz.func10, Tryz.ntmps10
  go_wp2_with fail
  refine (markNodeS_any lo hi B len cap k F0 Y h0 HK.out hl HF.out _ (HO.out.below (bel_alloc _ _))).mono ?_
  rintro e w1 ⟨rfl, ho, hb⟩
  have hO1 : Hid (OwnT w1 lo hi B (mkRow k F0) Y len) := ho
  have hB1 : Hid (Btw lo hi w w1) := (Btw.of (bel_alloc _ _)).trans hb
  clear ho hb
  go_wp2
  go_ret
  exact ⟨rfl, hO1.out, hB1.out⟩
theorem wpList_load_midW {P : Program} {ops : Array Oper} {rest : List Oper} {op : Oper} {a : Act} {w : World} {Q : Exit → Act → World → Prop} (hw : Region.wanted op (yielded ops a.tmps) = true) (ty : TypeId) (x : Operand) (ho : op.op = .load ty x)
    (b o : Nat) (hx : a.eval x = .pointer (some ⟨b, o, none⟩)) (cs : List Value) (d : TypeDesc) (hc : w.rangeAt b o cs)
    (hu : P.underlying ty = some d) (hd : d.isRow = true) (hi : (P.info? ty).map (·.size) = some cs.length)
    (h : wpList P ops Q rest (a.put op.dst (.agg cs.toArray)) w) : wpList P ops Q (op :: rest) a w :=
  wpList_step fun K hK => by
    rw [if_pos hw]
    exact wp_load_mid ty x ho b o hx cs d hc hu hd hi (hK _ _ h)
set_option maxRecDepth 20000 in
set_option maxHeartbeats 16000000 in
theorem nodeOf_any (a : Option Addr) (len cap : Nat) (l : List Nd) (now n : Int) (hm : len ≤ 9223372036854775807) (hf : ∀ i, i < len → NdFit 9223372036854775807 (ndAt l i)) (w : World) (hi : Nds a len l w) :
    Calls Tryz.prog 3 #[.agg #[.slice a len cap, .int .i64 now], .int .i64 n] w fun e w' => e = .returned (.bool true) ∧ Below w.heap.size w w' := by
  have HI0 : Hid (Nds a len l w) := hi
  have HF0 : Hid (∀ i, i < len → NdFit 9223372036854775807 (ndAt l i)) := hf
  clear hi hf
  have HB : Hid (Below w.heap.size w (w.alloc (.cells #[.slice a len cap, .int .i64 now] 24))) := bel_alloc _ _
  have HL0 : Hid (BoxR (w.alloc (.cells #[.slice a len cap, .int .i64 now] 24)) w.heap.size [.slice a len cap, .int .i64 now]) := boxR_new w [.slice a len cap, .int .i64 now] 24
  go_enter Tryz.func3, Tryz.ntmps3
  go_upto_region 1 with fail
  generalize (w.alloc (.cells #[.slice a len cap, .int .i64 now] 24)) = w0 at HB HL0 ⊢
  obtain ⟨X, hX⟩ : ∃ X, X = w.heap.size := ⟨_, rfl⟩
  have HXw : Hid (X = w.heap.size) := hX
  rw [← hX] at HL0 ⊢
  clear hX
  have t0_0 : w0.cell? ⟨X, 0, none⟩ = some (.slice a len cap) := HL0.out.at0 0 _ rfl
  have t0_1 : w0.cell? ⟨X, 1, none⟩ = some (.int .i64 now) := HL0.out.at0 1 _ rfl
  go_wp2_with fail
  refine (szTreeW_any a len cap l now 1048576 (by omega) (by omega) hm HF0.out _ (HI0.out.below HB.out)).mono ?_
  rintro e w1 ⟨⟨v0, rfl, hv⟩, hb⟩
  replace HB : Hid (Below w.heap.size w w1) := Below.on HB.out hb
  replace HL0 : Hid (BoxR w1 X [.slice a len cap, .int .i64 now]) := HL0.out.below hb
  replace t0_0 : w1.cell? ⟨X, 0, none⟩ = some (.slice a len cap) := HL0.out.at0 0 _ rfl
  replace t0_1 : w1.cell? ⟨X, 1, none⟩ = some (.int .i64 now) := HL0.out.at0 1 _ rfl
  clear hb
  rcases hv with rfl | ⟨v00, v01, hl0, hsm⟩
  · go_wp2
    go_ret
    exact ⟨rfl, HB.out⟩
  have d0 : decide (v0 < 0) = false := by simp; omega
  have HS0 : Hid (∀ i, i < len → NdFit 1048576 (ndAt l i)) := hsm
  have HWt : Hid (len + wtS l len ≤ 1048576) := (by show _ ≤ _; omega)
  clear hsm HF0 v01
  have HFn : Hid (NdFit 1048576 (nofN l now n)) := nof_fit (by rw [HI0.out.1]; exact HS0.out)
  have HWn : Hid (1 + 2 * wtN (nofN l now n) ≤ 3000000) := nof_wt HI0.out.1 HWt.out
  have HSq : Hid (∀ (V : World) (B0 : Nat), Nds (some ⟨B0, 0, none⟩) len l V → Calls Tryz.prog 5 #[.agg #[.slice (some ⟨B0, 0, none⟩) len len, .int .i64 now], .int .i64 n] V fun e w' => ∃ y', e = .returned (.agg (ndV (nofN l now n) y').toArray) ∧ NdIn w' (nofN l now n) y' ∧ Below V.heap.size V w') := (fun V B0 h0 => sNodeOf_any _ len len l now n hm HS0.out V h0)
  have HIq : Hid (∀ (V : World) (B0 : Nat), Nds (some ⟨B0, 0, none⟩) len l V → Calls Tryz.prog 7 #[.agg #[.slice (some ⟨B0, 0, none⟩) len len, .int .i64 now], .int .i64 n] V fun e w' => ∃ y', e = .returned (.agg (ndV (nofN l now n) y').toArray) ∧ NdOwn w' (nofN l now n) y' ∧ LsU V.heap.size w'.heap.size y' ∧ Below V.heap.size V w') := (fun V B0 h0 => iNodeOf_any _ len len l now n hm HS0.out V h0)
  generalize nofN l now n = x at HFn HWn HSq HIq
  go_wp2_with fail
  refine (toTreeO_any a len cap l now hl0 HS0.out _ (HI0.out.below HB.out)).mono ?_
  rintro e w2 ⟨E, Ys, rfl, hO, -, hb⟩
  have hN := hO.nds HI0.out.1
  replace HB : Hid (Below w.heap.size w w2) := Below.on HB.out hb
  replace HL0 : Hid (BoxR w2 X [.slice a len cap, .int .i64 now]) := HL0.out.below hb
  replace t0_0 : w2.cell? ⟨X, 0, none⟩ = some (.slice a len cap) := HL0.out.at0 0 _ rfl
  replace t0_1 : w2.cell? ⟨X, 1, none⟩ = some (.int .i64 now) := HL0.out.at0 1 _ rfl
  clear hb hO t0_0 t0_1
  go_wp2_with fail
  refine (HSq.out _ _ hN).mono ?_
  rintro e w3 ⟨yS, rfl, hS, hb⟩
  replace HB : Hid (Below w.heap.size w w3) := Below.on HB.out hb
  replace HL0 : Hid (BoxR w3 X [.slice a len cap, .int .i64 now]) := HL0.out.below hb
  clear hb hN
  have hbS : Below w3.heap.size w3 ((w3.alloc (.cells #[.int .i64 0, .int .i64 0, .int .i64 0, .int .i64 0, .int .i64 0, .int .i64 0, .int .i64 0, .slice none 0 0, .slice none 0 0, .bool false, .int .i64 0, .bool false, .int .i64 0, .int .i64 0, .int .i64 0, .slice none 0 0, .slice none 0 0, .bool false, .int .i64 0, .int .i64 0, .int .i64 0, .string ⟨#[]⟩, .slice none 0 0, .int .i64 0] 31)).setCells w3.heap.size 0 (ndV x yS)) := bl_setsT (Nat.le_refl _) _ _ (bel_alloc _ _)
  have HZ : Hid (BoxR ((w3.alloc (.cells #[.int .i64 0, .int .i64 0, .int .i64 0, .int .i64 0, .int .i64 0, .int .i64 0, .int .i64 0, .slice none 0 0, .slice none 0 0, .bool false, .int .i64 0, .bool false, .int .i64 0, .int .i64 0, .int .i64 0, .slice none 0 0, .slice none 0 0, .bool false, .int .i64 0, .int .i64 0, .int .i64 0, .string ⟨#[]⟩, .slice none 0 0, .int .i64 0] 31)).setCells w3.heap.size 0 (ndV x yS)) w3.heap.size (ndV x yS)) := ⟨by rw [size_setCellsT]; simp, World.rangeAt_setCells_same _ _ _ _ ((boxW_new w3 [.int .i64 0, .int .i64 0, .int .i64 0, .int .i64 0, .int .i64 0, .int .i64 0, .int .i64 0, .slice none 0 0, .slice none 0 0, .bool false, .int .i64 0, .bool false, .int .i64 0, .int .i64 0, .int .i64 0, .slice none 0 0, .slice none 0 0, .bool false, .int .i64 0, .int .i64 0, .int .i64 0, .string ⟨#[]⟩, .slice none 0 0, .int .i64 0] 31).there 0 24 (by simp))⟩
  have HVs : Hid (NdIn ((w3.alloc (.cells #[.int .i64 0, .int .i64 0, .int .i64 0, .int .i64 0, .int .i64 0, .int .i64 0, .int .i64 0, .slice none 0 0, .slice none 0 0, .bool false, .int .i64 0, .bool false, .int .i64 0, .int .i64 0, .int .i64 0, .slice none 0 0, .slice none 0 0, .bool false, .int .i64 0, .int .i64 0, .int .i64 0, .string ⟨#[]⟩, .slice none 0 0, .int .i64 0] 31)).setCells w3.heap.size 0 (ndV x yS)) x yS) := hS.below hbS
  have HB2 : Hid (Below w.heap.size w ((w3.alloc (.cells #[.int .i64 0, .int .i64 0, .int .i64 0, .int .i64 0, .int .i64 0, .int .i64 0, .int .i64 0, .slice none 0 0, .slice none 0 0, .bool false, .int .i64 0, .bool false, .int .i64 0, .int .i64 0, .int .i64 0, .slice none 0 0, .slice none 0 0, .bool false, .int .i64 0, .int .i64 0, .int .i64 0, .string ⟨#[]⟩, .slice none 0 0, .int .i64 0] 31)).setCells w3.heap.size 0 (ndV x yS))) := Below.on HB.out hbS
  have HL2 : Hid (BoxR ((w3.alloc (.cells #[.int .i64 0, .int .i64 0, .int .i64 0, .int .i64 0, .int .i64 0, .int .i64 0, .int .i64 0, .slice none 0 0, .slice none 0 0, .bool false, .int .i64 0, .bool false, .int .i64 0, .int .i64 0, .int .i64 0, .slice none 0 0, .slice none 0 0, .bool false, .int .i64 0, .int .i64 0, .int .i64 0, .string ⟨#[]⟩, .slice none 0 0, .int .i64 0] 31)).setCells w3.heap.size 0 (ndV x yS)) X [.slice a len cap, .int .i64 now]) := HL0.out.below hbS
  have k0 : ((w3.alloc (.cells #[.int .i64 0, .int .i64 0, .int .i64 0, .int .i64 0, .int .i64 0, .int .i64 0, .int .i64 0, .slice none 0 0, .slice none 0 0, .bool false, .int .i64 0, .bool false, .int .i64 0, .int .i64 0, .int .i64 0, .slice none 0 0, .slice none 0 0, .bool false, .int .i64 0, .int .i64 0, .int .i64 0, .string ⟨#[]⟩, .slice none 0 0, .int .i64 0] 31)).setCells w3.heap.size 0 (ndV x yS)).cell? ⟨X, 0, none⟩ = some (.slice a len cap) := HL2.out.at0 0 _ rfl
  have k1 : ((w3.alloc (.cells #[.int .i64 0, .int .i64 0, .int .i64 0, .int .i64 0, .int .i64 0, .int .i64 0, .int .i64 0, .slice none 0 0, .slice none 0 0, .bool false, .int .i64 0, .bool false, .int .i64 0, .int .i64 0, .int .i64 0, .slice none 0 0, .slice none 0 0, .bool false, .int .i64 0, .int .i64 0, .int .i64 0, .string ⟨#[]⟩, .slice none 0 0, .int .i64 0] 31)).setCells w3.heap.size 0 (ndV x yS)).cell? ⟨X, 1, none⟩ = some (.int .i64 now) := HL2.out.at0 1 _ rfl
  clear hbS HB HL0 HSq hS
  go_upto_region 6 with (refine wpList_store_list (by rfl) 31 _ _ (by rfl) w3.heap.size 0 (ndV x yS) (by rfl) (by rfl) ((boxW_new w3 [.int .i64 0, .int .i64 0, .int .i64 0, .int .i64 0, .int .i64 0, .int .i64 0, .int .i64 0, .slice none 0 0, .slice none 0 0, .bool false, .int .i64 0, .bool false, .int .i64 0, .int .i64 0, .int .i64 0, .slice none 0 0, .slice none 0 0, .bool false, .int .i64 0, .int .i64 0, .int .i64 0, .string ⟨#[]⟩, .slice none 0 0, .int .i64 0] 31).there 0 24 (by simp)) (by kernel_rfl) (ndV_ones _ _) ?_)
  simp only [Act.put]
  generalize ((w3.alloc (.cells #[.int .i64 0, .int .i64 0, .int .i64 0, .int .i64 0, .int .i64 0, .int .i64 0, .int .i64 0, .slice none 0 0, .slice none 0 0, .bool false, .int .i64 0, .bool false, .int .i64 0, .int .i64 0, .int .i64 0, .slice none 0 0, .slice none 0 0, .bool false, .int .i64 0, .int .i64 0, .int .i64 0, .string ⟨#[]⟩, .slice none 0 0, .int .i64 0] 31)).setCells w3.heap.size 0 (ndV x yS)) = wS at HZ HVs HB2 HL2 k0 k1 ⊢
  generalize w3.heap.size = Z at HZ ⊢
  clear w3
  have HQ : Hid (Below wS.heap.size wS wS) := Below.refl _ _
  have HBq : Hid (∀ W, Below wS.heap.size wS W → Below w.heap.size w W) := (fun W h => Below.on HB2.out h)
  have HLq : Hid (∀ W, Below wS.heap.size wS W → BoxR W X [.slice a len cap, .int .i64 now]) := (fun W h => HL2.out.below h)
  have HVq : Hid (∀ W, Below wS.heap.size wS W → NdIn W x yS) := (fun W h => HVs.out.below h)
  have HZq : Hid (∀ W, Below wS.heap.size wS W → BoxR W Z (ndV x yS)) := (fun W h => HZ.out.below h)
  clear HB2 HL2 HVs HZ
  go_wp2_with fail
  refine (toTreeO_any a len cap l now hl0 HS0.out _ (HI0.out.below (HBq.out _ HQ.out))).mono ?_
  rintro e w4 ⟨E0, Y, rfl, hO, hgE, hb⟩
  replace HQ : Hid (Below wS.heap.size wS w4) := Below.on HQ.out hb
  have HP0 : Hid (OwnT w4 E0 w4.heap.size E0 (ndAt l) Y len) := hO
  have HN1 : Hid (wS.heap.size ≤ E0 ∧ E0 < w4.heap.size) := ⟨hgE, hO.lt⟩
  clear hb hO hgE k0 k1
  have hbN : Below w4.heap.size w4 (w4.alloc (.cells #[.slice (some ⟨E0, 0, none⟩) len len, .int .i64 now] 35)) := bel_alloc _ _
  have HY0 : Hid (BoxR (w4.alloc (.cells #[.slice (some ⟨E0, 0, none⟩) len len, .int .i64 now] 35)) w4.heap.size [.slice (some ⟨E0, 0, none⟩) len len, .int .i64 now]) := boxR_new _ _ _
  replace HQ : Hid (Below wS.heap.size wS (w4.alloc (.cells #[.slice (some ⟨E0, 0, none⟩) len len, .int .i64 now] 35))) := Below.on HQ.out hbN
  replace HP0 : Hid (OwnT (w4.alloc (.cells #[.slice (some ⟨E0, 0, none⟩) len len, .int .i64 now] 35)) E0 w4.heap.size E0 (ndAt l) Y len) := HP0.out.below hbN
  clear hbN
  go_upto_region 7 with fail
  generalize (w4.alloc (.cells #[.slice (some ⟨E0, 0, none⟩) len len, .int .i64 now] 35)) = w5 at HQ HY0 HP0 ⊢
  generalize w4.heap.size = Y0 at HY0 HP0 HN1 ⊢
  clear w4
  have y0_0 : w5.cell? ⟨Y0, 0, none⟩ = some (.slice (some ⟨E0, 0, none⟩) len len) := HY0.out.at0 0 _ rfl
  have y0_1 : w5.cell? ⟨Y0, 1, none⟩ = some (.int .i64 now) := HY0.out.at0 1 _ rfl
  go_wp2_with fail
  refine (HIq.out _ _ (HP0.out.nds HI0.out.1)).mono ?_
  rintro e w6 ⟨yG, rfl, hG, hU, hb⟩
  have hY0l : Y0 < w5.heap.size := HY0.out.lt
  have hs6 := hb.size
  replace HQ : Hid (Below wS.heap.size wS w6) := Below.on HQ.out hb
  replace HY0 : Hid (BoxR w6 Y0 [.slice (some ⟨E0, 0, none⟩) len len, .int .i64 now]) := HY0.out.below hb
  replace HP0 : Hid (OwnT w6 E0 Y0 E0 (ndAt l) Y len) := HP0.out.below hb
  clear hb y0_0 y0_1
  have hbS : Below w6.heap.size w6 ((w6.alloc (.cells #[.int .i64 0, .int .i64 0, .int .i64 0, .int .i64 0, .int .i64 0, .int .i64 0, .int .i64 0, .slice none 0 0, .slice none 0 0, .bool false, .int .i64 0, .bool false, .int .i64 0, .int .i64 0, .int .i64 0, .slice none 0 0, .slice none 0 0, .bool false, .int .i64 0, .int .i64 0, .int .i64 0, .string ⟨#[]⟩, .slice none 0 0, .int .i64 0] 31)).setCells w6.heap.size 0 (ndV x yG)) := bl_setsT (Nat.le_refl _) _ _ (bel_alloc _ _)
  have HZg : Hid (BoxR ((w6.alloc (.cells #[.int .i64 0, .int .i64 0, .int .i64 0, .int .i64 0, .int .i64 0, .int .i64 0, .int .i64 0, .slice none 0 0, .slice none 0 0, .bool false, .int .i64 0, .bool false, .int .i64 0, .int .i64 0, .int .i64 0, .slice none 0 0, .slice none 0 0, .bool false, .int .i64 0, .int .i64 0, .int .i64 0, .string ⟨#[]⟩, .slice none 0 0, .int .i64 0] 31)).setCells w6.heap.size 0 (ndV x yG)) w6.heap.size (ndV x yG)) := ⟨by rw [size_setCellsT]; simp, World.rangeAt_setCells_same _ _ _ _ ((boxW_new w6 [.int .i64 0, .int .i64 0, .int .i64 0, .int .i64 0, .int .i64 0, .int .i64 0, .int .i64 0, .slice none 0 0, .slice none 0 0, .bool false, .int .i64 0, .bool false, .int .i64 0, .int .i64 0, .int .i64 0, .slice none 0 0, .slice none 0 0, .bool false, .int .i64 0, .int .i64 0, .int .i64 0, .string ⟨#[]⟩, .slice none 0 0, .int .i64 0] 31).there 0 24 (by simp))⟩
  have HG : Hid (NdOwn ((w6.alloc (.cells #[.int .i64 0, .int .i64 0, .int .i64 0, .int .i64 0, .int .i64 0, .int .i64 0, .int .i64 0, .slice none 0 0, .slice none 0 0, .bool false, .int .i64 0, .bool false, .int .i64 0, .int .i64 0, .int .i64 0, .slice none 0 0, .slice none 0 0, .bool false, .int .i64 0, .int .i64 0, .int .i64 0, .string ⟨#[]⟩, .slice none 0 0, .int .i64 0] 31)).setCells w6.heap.size 0 (ndV x yG)) x yG) := hG.below hbS
  replace HQ : Hid (Below wS.heap.size wS ((w6.alloc (.cells #[.int .i64 0, .int .i64 0, .int .i64 0, .int .i64 0, .int .i64 0, .int .i64 0, .int .i64 0, .slice none 0 0, .slice none 0 0, .bool false, .int .i64 0, .bool false, .int .i64 0, .int .i64 0, .int .i64 0, .slice none 0 0, .slice none 0 0, .bool false, .int .i64 0, .int .i64 0, .int .i64 0, .string ⟨#[]⟩, .slice none 0 0, .int .i64 0] 31)).setCells w6.heap.size 0 (ndV x yG))) := Below.on HQ.out hbS
  replace HY0 : Hid (BoxR ((w6.alloc (.cells #[.int .i64 0, .int .i64 0, .int .i64 0, .int .i64 0, .int .i64 0, .int .i64 0, .int .i64 0, .slice none 0 0, .slice none 0 0, .bool false, .int .i64 0, .bool false, .int .i64 0, .int .i64 0, .int .i64 0, .slice none 0 0, .slice none 0 0, .bool false, .int .i64 0, .int .i64 0, .int .i64 0, .string ⟨#[]⟩, .slice none 0 0, .int .i64 0] 31)).setCells w6.heap.size 0 (ndV x yG)) Y0 [.slice (some ⟨E0, 0, none⟩) len len, .int .i64 now]) := HY0.out.below hbS
  replace HP0 : Hid (OwnT ((w6.alloc (.cells #[.int .i64 0, .int .i64 0, .int .i64 0, .int .i64 0, .int .i64 0, .int .i64 0, .int .i64 0, .slice none 0 0, .slice none 0 0, .bool false, .int .i64 0, .bool false, .int .i64 0, .int .i64 0, .int .i64 0, .slice none 0 0, .slice none 0 0, .bool false, .int .i64 0, .int .i64 0, .int .i64 0, .string ⟨#[]⟩, .slice none 0 0, .int .i64 0] 31)).setCells w6.heap.size 0 (ndV x yG)) E0 Y0 E0 (ndAt l) Y len) := HP0.out.below hbS
  have HU : Hid (LsU w5.heap.size w6.heap.size yG) := hU
  have HN3 : Hid (Y0 < w5.heap.size ∧ w5.heap.size ≤ w6.heap.size) := ⟨hY0l, hs6⟩
  clear hG hU hbS hY0l hs6
  go_upto_region 8 with (refine wpList_store_list (by rfl) 31 _ _ (by rfl) w6.heap.size 0 (ndV x yG) (by rfl) (by rfl) ((boxW_new w6 [.int .i64 0, .int .i64 0, .int .i64 0, .int .i64 0, .int .i64 0, .int .i64 0, .int .i64 0, .slice none 0 0, .slice none 0 0, .bool false, .int .i64 0, .bool false, .int .i64 0, .int .i64 0, .int .i64 0, .slice none 0 0, .slice none 0 0, .bool false, .int .i64 0, .int .i64 0, .int .i64 0, .string ⟨#[]⟩, .slice none 0 0, .int .i64 0] 31).there 0 24 (by simp)) (by kernel_rfl) (ndV_ones _ _) ?_)
  simp only [Act.put]
  generalize ((w6.alloc (.cells #[.int .i64 0, .int .i64 0, .int .i64 0, .int .i64 0, .int .i64 0, .int .i64 0, .int .i64 0, .slice none 0 0, .slice none 0 0, .bool false, .int .i64 0, .bool false, .int .i64 0, .int .i64 0, .int .i64 0, .slice none 0 0, .slice none 0 0, .bool false, .int .i64 0, .int .i64 0, .int .i64 0, .string ⟨#[]⟩, .slice none 0 0, .int .i64 0] 31)).setCells w6.heap.size 0 (ndV x yG)) = w7 at HQ HY0 HP0 HG HZg ⊢
  generalize w6.heap.size = U at HZg HU HN3 ⊢
  generalize w5.heap.size = S1 at HU HN3
  clear w6 w5
  go_upto_region 10 with (first | (go_at_call 8; refine (eqNode_any x yG yS HFn.out _ HG.out.ndIn (HVq.out _ HQ.out)).mono ?_; rintro e w8 ⟨rfl, hb⟩; replace HQ : Hid (Below wS.heap.size wS w8) := Below.on HQ.out hb; replace HY0 : Hid (BoxR w8 Y0 [.slice (some ⟨E0, 0, none⟩) len len, .int .i64 now]) := HY0.out.below hb; replace HP0 : Hid (OwnT w8 E0 Y0 E0 (ndAt l) Y len) := HP0.out.below hb; replace HG : Hid (NdOwn w8 x yG) := HG.out.below hb; replace HZg : Hid (BoxR w8 U (ndV x yG)) := HZg.out.below hb; clear hb) | (refine wpList_load_mid (by rfl) 31 _ (by rfl) _ _ (by rfl) _ _ HZg.out.at0 Tryz.underlying31 rfl (by kernel_rfl) ?_) | (refine wpList_load_mid (by rfl) 31 _ (by rfl) _ _ (by rfl) _ _ (HZq.out _ HQ.out).at0 Tryz.underlying31 rfl (by kernel_rfl) ?_))
  have t0_0 : w8.cell? ⟨X, 0, none⟩ = some (.slice a len cap) := (HLq.out _ HQ.out).at0 0 _ rfl
  have t0_1 : w8.cell? ⟨X, 1, none⟩ = some (.int .i64 now) := (HLq.out _ HQ.out).at0 1 _ rfl
  have y0_0 : w8.cell? ⟨Y0, 0, none⟩ = some (.slice (some ⟨E0, 0, none⟩) len len) := HY0.out.at0 0 _ rfl
  have y0_1 : w8.cell? ⟨Y0, 1, none⟩ = some (.int .i64 now) := HY0.out.at0 1 _ rfl
  go_cut [35] (fun t wx => t = .bool false ∧ Hid (Below wS.heap.size wS wx) ∧ Hid (BoxR wx Y0 [.slice (some ⟨E0, 0, none⟩) len len, .int .i64 now]) ∧ Hid (OwnT wx E0 Y0 E0 (ndAt l) Y len) ∧ Hid (NdOwn wx x yG) ∧ Hid (BoxR wx U (ndV x yG)))
  case first =>
    go_region_held3 (fun w' => w'.cell? ⟨Y0, 0, none⟩ = some (.slice (some ⟨E0, 0, none⟩) len len) ∧ w'.cell? ⟨Y0, 1, none⟩ = some (.int .i64 now) ∧ w'.cell? ⟨X, 0, none⟩ = some (.slice a len cap) ∧ w'.cell? ⟨X, 1, none⟩ = some (.int .i64 now)) (go_keep)
      (first
        | (go_at_call 9; refine Calls.mono (eqTree_any _ _ len len len l now hl0 HS0.out _ (HP0.out.nds HI0.out.1) HC2.out) ?_; rintro e w9 ⟨rfl, hb⟩; replace HQ : Hid (Below wS.heap.size wS w9) := Below.on HQ.out hb; replace HY0 : Hid (BoxR w9 Y0 [.slice (some ⟨E0, 0, none⟩) len len, .int .i64 now]) := HY0.out.below hb; replace HP0 : Hid (OwnT w9 E0 Y0 E0 (ndAt l) Y len) := HP0.out.below hb; replace HG : Hid (NdOwn w9 x yG) := HG.out.below hb; replace HZg : Hid (BoxR w9 U (ndV x yG)) := HZg.out.below hb; replace t0_0 : w9.cell? ⟨X, 0, none⟩ = some (.slice a len cap) := (HLq.out _ HQ.out).at0 0 _ rfl; replace t0_1 : w9.cell? ⟨X, 1, none⟩ = some (.int .i64 now) := (HLq.out _ HQ.out).at0 1 _ rfl; replace y0_0 : w9.cell? ⟨Y0, 0, none⟩ = some (.slice (some ⟨E0, 0, none⟩) len len) := HY0.out.at0 0 _ rfl; replace y0_1 : w9.cell? ⟨Y0, 1, none⟩ = some (.int .i64 now) := HY0.out.at0 1 _ rfl; clear hb HC2)
        | (go_at_call 6; refine Calls.mono (toTreeO_any a len cap l now hl0 HS0.out _ ?hs) ?_; (case hs => (first | exact HI0.out.below (HBq.out _ HQ.out) | exact HI0.out.below (below_drewT (HBq.out _ HQ.out)))); rintro e w7 ⟨Q, YQ, rfl, hO, hgQ, hb7⟩; replace HQ : Hid (Below wS.heap.size wS w7) := Below.on HQ.out ⟨hb7.os, hb7.tape, hb7.output, hb7.size, hb7.block⟩; replace HY0 : Hid (BoxR w7 Y0 [.slice (some ⟨E0, 0, none⟩) len len, .int .i64 now]) := HY0.out.below ⟨hb7.os, hb7.tape, hb7.output, hb7.size, hb7.block⟩; replace HP0 : Hid (OwnT w7 E0 Y0 E0 (ndAt l) Y len) := HP0.out.below ⟨hb7.os, hb7.tape, hb7.output, hb7.size, hb7.block⟩; replace HG : Hid (NdOwn w7 x yG) := HG.out.below ⟨hb7.os, hb7.tape, hb7.output, hb7.size, hb7.block⟩; replace HZg : Hid (BoxR w7 U (ndV x yG)) := HZg.out.below ⟨hb7.os, hb7.tape, hb7.output, hb7.size, hb7.block⟩; replace t0_0 : w7.cell? ⟨X, 0, none⟩ = some (.slice a len cap) := (HLq.out _ HQ.out).at0 0 _ rfl; replace t0_1 : w7.cell? ⟨X, 1, none⟩ = some (.int .i64 now) := (HLq.out _ HQ.out).at0 1 _ rfl; replace y0_0 : w7.cell? ⟨Y0, 0, none⟩ = some (.slice (some ⟨E0, 0, none⟩) len len) := HY0.out.at0 0 _ rfl; replace y0_1 : w7.cell? ⟨Y0, 1, none⟩ = some (.int .i64 now) := HY0.out.at0 1 _ rfl; have HC2 : Hid (Nds (some ⟨Q, 0, none⟩) len l w7) := hO.nds HI0.out.1; clear hO hb7))
    all_goals go_wp2
    all_goals go_meet
    all_goals exact ⟨rfl, HQ, HY0, HP0, HG, HZg⟩
  case rest =>
  obtain ⟨rfl, HQx, HY0x, HP0x, HGx, HZgx⟩ := hcut
  obtain ⟨wq, hwq⟩ : ∃ wq, wq = wc := ⟨_, rfl⟩
  subst hwq
  clear HQ HY0 HP0 HG HZg t0_0 t0_1 y0_0 y0_1
  have HQ : Hid (Below wS.heap.size wS wq) := HQx
  have HY0 : Hid (BoxR wq Y0 [.slice (some ⟨E0, 0, none⟩) len len, .int .i64 now]) := HY0x
  have HP0 : Hid (OwnT wq E0 Y0 E0 (ndAt l) Y len) := HP0x
  have HG : Hid (NdOwn wq x yG) := HGx
  have HZg : Hid (BoxR wq U (ndV x yG)) := HZgx
  clear HQx HY0x HP0x HGx HZgx
  have y0_0 : wq.cell? ⟨Y0, 0, none⟩ = some (.slice (some ⟨E0, 0, none⟩) len len) := HY0.out.at0 0 _ rfl
  have y0_1 : wq.cell? ⟨Y0, 1, none⟩ = some (.int .i64 now) := HY0.out.at0 1 _ rfl
  have HKb : Hid (kAt 1 (ndAt l) len ≤ 30000000) := (by show _ ≤ _; rw [kAt_wt]; have := HWt.out; omega)
  have hone : ((1 : Nat) : Int) = 1 := rfl
  go_upto_region 13 with fail
  go_wp2_with fail
  refine (markTree_any E0 Y0 E0 len len 1 now (ndAt l) Y (by decide) (by have := HKb.out; omega) hl0 HS0.out _ HP0.out).mono ?_
  rintro e w8 ⟨rfl, -, hb⟩
  clear y0_0 y0_1 HY0 HP0
  replace HQ : Hid (Below wS.heap.size wS w8) := HQ.out.trans (hb.below _ HQ.out.size HN1.out.1)
  replace HG : Hid (NdOwn w8 x yG) := HG.out.btwN hb (fun j A hj e => by have := HU.out.rng j A hj e; have := HN3.out; omega)
  replace HZg : Hid (BoxR w8 U (ndV x yG)) := HZg.out.btw hb (by have := HN3.out; omega)
  clear hb
  obtain ⟨K, hK⟩ : ∃ K, K = kAt 1 (ndAt l) len := ⟨_, rfl⟩
  rw [← hK] at HKb ⊢
  have hKb : K ≤ 30000000 := HKb.out
  clear hK HKb
  have hk0 : decide ((K : Int) < 0) = false := by first | (simp; done) | (simp; omega)
  go_upto_region 16 with (first | (go_at_call 8; refine (eqNode_any x yG yS HFn.out _ HG.out.ndIn (HVq.out _ HQ.out)).mono ?_; rintro e wb ⟨rfl, hb⟩; replace HQ : Hid (Below wS.heap.size wS wb) := Below.on HQ.out hb; replace HG : Hid (NdOwn wb x yG) := HG.out.below hb; replace HZg : Hid (BoxR wb U (ndV x yG)) := HZg.out.below hb; clear hb) | (refine wpList_load_midW (by rfl) 31 _ (by rfl) _ _ (by rfl) _ _ HZg.out.at0 Tryz.underlying31 rfl (by kernel_rfl) ?_) | (refine wpList_load_midW (by rfl) 31 _ (by rfl) _ _ (by rfl) _ _ (HZq.out _ HQ.out).at0 Tryz.underlying31 rfl (by kernel_rfl) ?_))
  obtain ⟨M, hM0⟩ : ∃ M : Nat, M = 1 + 2 * wtN x := ⟨_, rfl⟩
  have hM : Hid (M = 1 + 2 * wtN x) := hM0
  have hMb : M ≤ 3000000 := by have := HWn.out; omega
  clear hM0 hk0
  have hm0 : decide ((M : Int) < 0) = false := by first | (simp; done) | (simp; omega)
  go_upto_region 19 with (first | (go_at_call 11; refine (markNode_any S1 U x yG 1 (by decide) (by have := HWn.out; omega) HFn.out _ HG.out HU.out (Nat.le_of_lt HZg.out.lt)).mono ?_; rintro e wm ⟨rfl, hG2, hb⟩; replace HQ : Hid (Below wS.heap.size wS wm) := HQ.out.trans (hb.below _ HQ.out.size (by have := HN1.out; have := HN3.out; omega)); replace HZg : Hid (BoxR wm U (ndV x yG)) := HZg.out.btw hb (.inr (Nat.le_refl _)); replace HG : Hid (NdOwn wm (mkL x 1) yG) := hG2; clear hb hG2; try rw [← hM.out]) | (refine wpList_load_mid (by rfl) 31 _ (by rfl) _ _ (by rfl) _ _ HZg.out.at0 Tryz.underlying31 rfl (by kernel_rfl) ?_))
  go_upto_region 24 with (first | (go_at_call 12; refine (heldNode_any x yG 1 (by decide) (by have := HWn.out; omega) HFn.out _ HG.out).mono ?_; rintro e wh ⟨rfl, hb⟩; replace HQ : Hid (Below wS.heap.size wS wh) := Below.on HQ.out hb; replace HG : Hid (NdOwn wh (mkL x 1) yG) := HG.out.below hb; replace HZg : Hid (BoxR wh U (ndV x yG)) := HZg.out.below hb; clear hb; try rw [← hM.out]) | (refine wpList_load_mid (by rfl) 31 _ (by rfl) _ _ (by rfl) _ _ HZg.out.at0 Tryz.underlying31 rfl (by kernel_rfl) ?_))
  have t0_0 : wh.cell? ⟨X, 0, none⟩ = some (.slice a len cap) := (HLq.out _ HQ.out).at0 0 _ rfl
  have t0_1 : wh.cell? ⟨X, 1, none⟩ = some (.int .i64 now) := (HLq.out _ HQ.out).at0 1 _ rfl
  go_wp2_with fail
  refine (toTreeO_any a len cap l now hl0 HS0.out _ (HI0.out.below (HBq.out _ HQ.out))).mono ?_
  rintro e w5 ⟨E2, Y2, rfl, hO, -, hb⟩
  have hN := hO.nds HI0.out.1
  replace HQ : Hid (Below wS.heap.size wS w5) := Below.on HQ.out hb
  replace HG : Hid (NdOwn w5 (mkL x 1) yG) := HG.out.below hb
  replace HZg : Hid (BoxR w5 U (ndV x yG)) := HZg.out.below hb
  clear hb hO t0_0 t0_1
  go_wp2_with fail
  refine (HIq.out _ _ hN).mono ?_
  rintro e w6 ⟨yH, rfl, hG, -, hb⟩
  replace HQ : Hid (Below wS.heap.size wS w6) := Below.on HQ.out hb
  replace HG : Hid (NdOwn w6 (mkL x 1) yG) := HG.out.below hb
  replace HZg : Hid (BoxR w6 U (ndV x yG)) := HZg.out.below hb
  clear hb hN
  have hbS : Below w6.heap.size w6 ((w6.alloc (.cells #[.int .i64 0, .int .i64 0, .int .i64 0, .int .i64 0, .int .i64 0, .int .i64 0, .int .i64 0, .slice none 0 0, .slice none 0 0, .bool false, .int .i64 0, .bool false, .int .i64 0, .int .i64 0, .int .i64 0, .slice none 0 0, .slice none 0 0, .bool false, .int .i64 0, .int .i64 0, .int .i64 0, .string ⟨#[]⟩, .slice none 0 0, .int .i64 0] 31)).setCells w6.heap.size 0 (ndV x yH)) := bl_setsT (Nat.le_refl _) _ _ (bel_alloc _ _)
  have HZh : Hid (BoxR ((w6.alloc (.cells #[.int .i64 0, .int .i64 0, .int .i64 0, .int .i64 0, .int .i64 0, .int .i64 0, .int .i64 0, .slice none 0 0, .slice none 0 0, .bool false, .int .i64 0, .bool false, .int .i64 0, .int .i64 0, .int .i64 0, .slice none 0 0, .slice none 0 0, .bool false, .int .i64 0, .int .i64 0, .int .i64 0, .string ⟨#[]⟩, .slice none 0 0, .int .i64 0] 31)).setCells w6.heap.size 0 (ndV x yH)) w6.heap.size (ndV x yH)) := ⟨by rw [size_setCellsT]; simp, World.rangeAt_setCells_same _ _ _ _ ((boxW_new w6 [.int .i64 0, .int .i64 0, .int .i64 0, .int .i64 0, .int .i64 0, .int .i64 0, .int .i64 0, .slice none 0 0, .slice none 0 0, .bool false, .int .i64 0, .bool false, .int .i64 0, .int .i64 0, .int .i64 0, .slice none 0 0, .slice none 0 0, .bool false, .int .i64 0, .int .i64 0, .int .i64 0, .string ⟨#[]⟩, .slice none 0 0, .int .i64 0] 31).there 0 24 (by simp))⟩
  have HH : Hid (NdOwn ((w6.alloc (.cells #[.int .i64 0, .int .i64 0, .int .i64 0, .int .i64 0, .int .i64 0, .int .i64 0, .int .i64 0, .slice none 0 0, .slice none 0 0, .bool false, .int .i64 0, .bool false, .int .i64 0, .int .i64 0, .int .i64 0, .slice none 0 0, .slice none 0 0, .bool false, .int .i64 0, .int .i64 0, .int .i64 0, .string ⟨#[]⟩, .slice none 0 0, .int .i64 0] 31)).setCells w6.heap.size 0 (ndV x yH)) x yH) := hG.below hbS
  replace HQ : Hid (Below wS.heap.size wS ((w6.alloc (.cells #[.int .i64 0, .int .i64 0, .int .i64 0, .int .i64 0, .int .i64 0, .int .i64 0, .int .i64 0, .slice none 0 0, .slice none 0 0, .bool false, .int .i64 0, .bool false, .int .i64 0, .int .i64 0, .int .i64 0, .slice none 0 0, .slice none 0 0, .bool false, .int .i64 0, .int .i64 0, .int .i64 0, .string ⟨#[]⟩, .slice none 0 0, .int .i64 0] 31)).setCells w6.heap.size 0 (ndV x yH))) := Below.on HQ.out hbS
  replace HG : Hid (NdOwn ((w6.alloc (.cells #[.int .i64 0, .int .i64 0, .int .i64 0, .int .i64 0, .int .i64 0, .int .i64 0, .int .i64 0, .slice none 0 0, .slice none 0 0, .bool false, .int .i64 0, .bool false, .int .i64 0, .int .i64 0, .int .i64 0, .slice none 0 0, .slice none 0 0, .bool false, .int .i64 0, .int .i64 0, .int .i64 0, .string ⟨#[]⟩, .slice none 0 0, .int .i64 0] 31)).setCells w6.heap.size 0 (ndV x yH)) (mkL x 1) yG) := HG.out.below hbS
  replace HZg : Hid (BoxR ((w6.alloc (.cells #[.int .i64 0, .int .i64 0, .int .i64 0, .int .i64 0, .int .i64 0, .int .i64 0, .int .i64 0, .slice none 0 0, .slice none 0 0, .bool false, .int .i64 0, .bool false, .int .i64 0, .int .i64 0, .int .i64 0, .slice none 0 0, .slice none 0 0, .bool false, .int .i64 0, .int .i64 0, .int .i64 0, .string ⟨#[]⟩, .slice none 0 0, .int .i64 0] 31)).setCells w6.heap.size 0 (ndV x yH)) U (ndV x yG)) := HZg.out.below hbS
  clear hG hbS
  go_upto_region 25 with (refine wpList_store_list (by rfl) 31 _ _ (by rfl) w6.heap.size 0 (ndV x yH) (by rfl) (by rfl) ((boxW_new w6 [.int .i64 0, .int .i64 0, .int .i64 0, .int .i64 0, .int .i64 0, .int .i64 0, .int .i64 0, .slice none 0 0, .slice none 0 0, .bool false, .int .i64 0, .bool false, .int .i64 0, .int .i64 0, .int .i64 0, .slice none 0 0, .slice none 0 0, .bool false, .int .i64 0, .int .i64 0, .int .i64 0, .string ⟨#[]⟩, .slice none 0 0, .int .i64 0] 31).there 0 24 (by simp)) (by kernel_rfl) (ndV_ones _ _) ?_)
  simp only [Act.put]
  generalize ((w6.alloc (.cells #[.int .i64 0, .int .i64 0, .int .i64 0, .int .i64 0, .int .i64 0, .int .i64 0, .int .i64 0, .slice none 0 0, .slice none 0 0, .bool false, .int .i64 0, .bool false, .int .i64 0, .int .i64 0, .int .i64 0, .slice none 0 0, .slice none 0 0, .bool false, .int .i64 0, .int .i64 0, .int .i64 0, .string ⟨#[]⟩, .slice none 0 0, .int .i64 0] 31)).setCells w6.heap.size 0 (ndV x yH)) = w7 at HQ HG HZg HH HZh ⊢
  generalize w6.heap.size = Uh at HZh ⊢
  clear w6 w5
  go_upto_region 27 with (first | (go_at_call 8; refine (eqNode_any x yH yS HFn.out _ HH.out.ndIn (HVq.out _ HQ.out)).mono ?_; rintro e wk ⟨rfl, hb⟩; replace HQ : Hid (Below wS.heap.size wS wk) := Below.on HQ.out hb; replace HG : Hid (NdOwn wk (mkL x 1) yG) := HG.out.below hb; replace HZg : Hid (BoxR wk U (ndV x yG)) := HZg.out.below hb; clear hb HH HZh) | (refine wpList_load_mid (by rfl) 31 _ (by rfl) _ _ (by rfl) _ _ HZh.out.at0 Tryz.underlying31 rfl (by kernel_rfl) ?_) | (refine wpList_load_mid (by rfl) 31 _ (by rfl) _ _ (by rfl) _ _ (HZq.out _ HQ.out).at0 Tryz.underlying31 rfl (by kernel_rfl) ?_))
  go_wp2_with (first | (go_at_call 12; refine (heldNode_any x yG 1 (by decide) (by have := HWn.out; omega) HFn.out _ HG.out).mono ?_; rintro e wl ⟨rfl, hb⟩; replace HQ : Hid (Below wS.heap.size wS wl) := Below.on HQ.out hb; replace HG : Hid (NdOwn wl (mkL x 1) yG) := HG.out.below hb; replace HZg : Hid (BoxR wl U (ndV x yG)) := HZg.out.below hb; clear hb; try rw [← hM.out]) | (refine wpList_load_mid (by rfl) 31 _ (by rfl) _ _ (by rfl) _ _ HZg.out.at0 Tryz.underlying31 rfl (by kernel_rfl) ?_))
  go_ret
  exact ⟨rfl, HBq.out _ HQ.out⟩
end Go.Proofs.YtgodbelcddgdmaaGreat
