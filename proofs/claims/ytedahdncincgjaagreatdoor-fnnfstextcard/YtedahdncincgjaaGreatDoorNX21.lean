/- Laid together: PutSR, PutUserR, PutGroupR, DrawAcl2. -/
import Derived.Test.YtedahdncincgjaaGreatDoorNX20
import Derived.Deep.RegionLaw
import Derived.Deep.DeepCutAuto
/- spec.l03Put, with the room behind its answer. -/
namespace Go.Proofs.YtedahdncincgjaaGreatDoor
open Go.RowKit Go.PlainAid Go.Deep
set_option linter.unusedVariables false
/-- The last append. -/
theorem put_threeR (W w2 : World) (nq : Nat) (a2 : Option Addr) (n c2 : Nat) (acc : List (Int × Int)) (hO : w2.ownsRow W.heap.size 116 2 (.slice a2 n c2) acc.length (pc acc)) (hb : Below W.heap.size W w2) (a : Option Addr) (len cap : Nat) (l : List (Int × Int)) (hp : Prs a len l w2) (hsm : acc.length + len ≤ 100000) (N : Nat) (hN : (acc ++ l).length = N) :
    ∃ a3 c3 w3, (Builtin.append_ #[81, 81] 81 #[.slice a2 n c2, .slice a len cap]).run Tryz.prog (w2.drewN nq) = .ok (.slice a3 N c3) w3 ∧ OwnR a3 c3 N (acc ++ l) w3 ∧ (∀ Ad, a3 = some Ad → W.heap.size ≤ Ad.block ∧ Ad.block < w3.heap.size) ∧ Below W.heap.size W w3 := by
  subst hN
  obtain ⟨a3, c3, w3, hr3, hO3, hb3⟩ := append_own W (w2.drewN nq) a2 c2 acc n (owns_drewN hO nq) a len cap l (hp.below (below_drewM (Below.refl _ _) nq)) (by omega) (below_drewM hb nq)
  obtain ⟨x, y, e, h1, h2⟩ := own_of_row hO3
  cases e
  exact ⟨a3, c3, w3, hr3, ⟨h1, room_of_row hO3, own_cap hO3⟩, h2, hb3⟩
set_option maxRecDepth 100000 in
set_option maxHeartbeats 4000000 in
/-- spec.l03Put of a list that is not empty. -/
theorem sPutR_some (b off cap : Nat) (l : List (Int × Int)) (len : Nat) (hln : l.length = len) (h0 : 0 < len) (id bt : Int) (hcap : len ≤ cap) (hm : len ≤ 1000) (w : World) (hlt : b < w.heap.size) (hc : ∀ i, i < l.length → w.cell? ⟨b, off + i * 2, none⟩ = some (.int .i64 (idAt l i)) ∧ w.cell? ⟨b, off + i * 2 + 1, none⟩ = some (.int .i64 (btAt l i))) :
    Calls Tryz.prog 112 #[.slice (some ⟨b, off, none⟩) len cap, .agg #[.int .i64 id, .int .i64 bt]] w fun e w' => ∃ a' c', e = .returned (.slice a' (putN l id) c') ∧ OwnR a' c' (putN l id) (putL l id bt) w' ∧ (∀ Ad, a' = some Ad → w.heap.size ≤ Ad.block ∧ Ad.block < w'.heap.size) ∧ Below w.heap.size w w' := by
  have HC : Hid (∀ i, i < len → w.cell? ⟨b, off + i * 2, none⟩ = some (.int .i64 (idAt l i)) ∧ w.cell? ⟨b, off + i * 2 + 1, none⟩ = some (.int .i64 (btAt l i))) := (by show ∀ i, _; rw [← hln]; exact hc)
  have HP : Hid (∀ k, k < len → (∀ j, j < k → idAt l j < id) → id ≤ idAt l k → plc l id = k ∧ fnd l id = decide (idAt l k = id)) := (fun k hk h1 h2 => ⟨plc_at (by omega) h1 h2, fnd_at (by omega) (plc_at (by omega) h1 h2)⟩)
  have HE : Hid ((∀ j, j < len → idAt l j < id) → plc l id = len ∧ fnd l id = false) := (fun h => ⟨by rw [plc_none (by rw [hln]; exact h), hln], fnd_none (plc_none (by rw [hln]; exact h))⟩)
  have HH : Hid (∀ n, n ≤ len → Prs (some ⟨b, off, none⟩) n (l.take n) w) := (fun n hn => prs_take (by omega) hlt hc)
  have HT : Hid (∀ n, n ≤ len → Prs (some ⟨b, off + n * 2, none⟩) (len - n) (l.drop n) w) := (fun n hn => by rw [← hln]; exact prs_drop (by omega) hlt hc)
  have HLN : Hid (l.length = len) := hln
  clear hc hln
  obtain ⟨n0, n1⟩ := pair_new w (.int .i64 id) (.int .i64 bt) 116
  have hB0 := bel_alloc w (.cells #[.int .i64 id, .int .i64 bt] 116)
  go_enter Tryz.func112, Tryz.ntmps112
  go_wp2
  have HB0 : Hid (Below w.heap.size w (w.alloc (.cells #[.int .i64 id, .int .i64 bt] 116))) := hB0
  have hs0 : w.heap.size < (w.alloc (.cells #[.int .i64 id, .int .i64 bt] 116)).heap.size := by simp
  clear hB0
  generalize w.alloc (.cells #[.int .i64 id, .int .i64 bt] 116) = w0 at n0 n1 HB0 hs0 ⊢
  go_loopw [5] (fun i wr => ∃ (k n : Nat), k ≤ len ∧ i = .int .i64 k ∧ wr = w0.drewN n ∧ Hid (∀ j, j < k → idAt l j < id)) (fun i _ => len - (intOf i).toNat)
  case atStart => exact ⟨0, 0, Nat.zero_le _, rfl, rfl, fun j hj => absurd hj (by omega)⟩
  case round =>
    obtain ⟨k, n, hk, rfl, rfl, hto⟩ := hrel
    have HBn : Hid (Below w.heap.size w (w0.drewN n)) := below_drewM HB0.out n
    have m0 : (w0.drewN n).cell? ⟨w.heap.size, 0, none⟩ = some (.int .i64 id) := n0
    have m1 : (w0.drewN n).cell? ⟨w.heap.size, 1, none⟩ = some (.int .i64 bt) := n1
    generalize hW : w0.drewN n = W at HBn m0 m1 ⊢
    by_cases hlt2 : k < len
    · have hlt' : (k : Int) < (len : Int) := by omega
      have g0 : W.cell? ⟨b, off + k * 2, none⟩ = some (.int .i64 (idAt l k)) := (HBn.out.cell (p := ⟨b, off + k * 2, none⟩) hlt).trans (HC.out k hlt2).1
      by_cases hup : idAt l k < id
      · have hto2 : Hid (∀ j, j < k + 1 → idAt l j < id) := (fun j hj => by
          by_cases e : j = k
          · subst e; exact hup
          · exact hto.out j (by omega))
        go_wp2
        go_quiet (fail)
        go_wp2
        go_roundw
        case rel =>
          rename_i nq
          exact ⟨k + 1, n + nq, by omega, by go_num, by rw [← hW]; simp, hto2⟩
        case measure => simp [intOf]; omega
      · have hd : decide (idAt l k < id) = false := decide_eq_false hup
        obtain ⟨pe, fe⟩ := HP.out k hlt2 hto.out (by omega)
        have PE : Hid (plc l id = k) := pe
        clear pe hto
        go_wp2
        go_quiet (fail)
        have HBq : Hid (Below w.heap.size w (W.drewN nq)) := below_drewM HBn.out nq
        have mm0 : (W.drewN nq).cell? ⟨w.heap.size, 0, none⟩ = some (.int .i64 id) := m0
        have mm1 : (W.drewN nq).cell? ⟨w.heap.size, 1, none⟩ = some (.int .i64 bt) := m1
        have hszq : (W.drewN nq).heap.size = W.heap.size := by simp
        have hsW : w.heap.size < (W.drewN nq).heap.size := by rw [hszq, ← hW]; simpa using hs0
        clear hW g0 m0 m1 HBn hszq
        generalize W.drewN nq = V at HBq mm0 mm1 hsW ⊢
        obtain ⟨a1, c1, w1, hr1, hb1, a2, c2, w2, hr2, hO2, hb2⟩ := put_two V V.heap.size rfl (some ⟨b, off, none⟩) k cap (l.take k) ((HH.out k (by omega)).below HBq.out) (by omega) id bt
        have q0 : w1.cell? ⟨w.heap.size, 0, none⟩ = some (.int .i64 id) := (hb1.cell (p := ⟨w.heap.size, 0, none⟩) hsW).trans mm0
        have q1 : w1.cell? ⟨w.heap.size, 1, none⟩ = some (.int .i64 bt) := (hb1.cell (p := ⟨w.heap.size, 1, none⟩) hsW).trans mm1
        have r0 : w2.cell? ⟨w.heap.size, 0, none⟩ = some (.int .i64 id) := (hb2.cell (p := ⟨w.heap.size, 0, none⟩) hsW).trans mm0
        have hbl : b < V.heap.size := Nat.lt_of_lt_of_le hlt HBq.out.size
        have s0 : w2.cell? ⟨b, off + k * 2, none⟩ = some (.int .i64 (idAt l k)) := ((hb2.cell (p := ⟨b, off + k * 2, none⟩) hbl).trans (HBq.out.cell (p := ⟨b, off + k * 2, none⟩) hlt)).trans (HC.out k hlt2).1
        have kc : (k : Int) ≤ (cap : Int) := by omega
        have HO2 : Hid (w2.ownsRow V.heap.size 116 2 (.slice a2 (k + 1) c2) (l.take k ++ [(id, bt)]).length (pc (l.take k ++ [(id, bt)]))) := hO2
        have HB2 : Hid (Below V.heap.size V w2) := hb2
        clear hO2 hb2 hb1 hbl mm0 mm1
        go_wp2_with (at_builtin; first | refine wpList_append_run _ rfl (.tmp 23) (.tmp 26) 81 81 rfl _ _ _ _ rfl rfl hr1 ?_ | refine wpList_append_run _ rfl (.tmp 28) (.tmp 30) 81 81 rfl _ _ _ _ rfl rfl hr2 ?_)
        by_cases heq : idAt l k = id
        · have ed : (idAt l k == id) = true := by simp [heq]
          have PL : Hid (putL l id bt = l.take k ++ [(id, bt)] ++ l.drop (k + 1)) := (by show _ = _; rw [putL, PE.out, fe]; simp [heq])
          clear heq fe PE
          go_wp2
          go_quiet (fail)
          by_cases hq : cap = k + 1
          · subst hq
            obtain rfl : len = k + 1 := by omega
            obtain ⟨a3, c3, w3, hr3, hO3, hin3, hb3⟩ := put_threeR V w2 nq a2 (k + 1) c2 (l.take k ++ [(id, bt)]) HO2.out HB2.out (some ⟨b, off, none⟩) (k + 1 - (k + 1)) 0 (l.drop (k + 1)) ⟨(HT.out (k + 1) (by omega)).1, fun h => absurd h (by omega)⟩ (by have := HLN.out; simp; omega) (putN l id) (by rw [← PL.out]; exact putL_len l id bt)
            rw [← PL.out] at hO3
            have R : Hid (OwnR a3 c3 (putN l id) (putL l id bt) w3 ∧ (∀ Ad, a3 = some Ad → w.heap.size ≤ Ad.block ∧ Ad.block < w3.heap.size) ∧ Below w.heap.size w w3) := ⟨hO3, fun Ad e => ⟨Nat.le_trans HBq.out.size (hin3 Ad e).1, (hin3 Ad e).2⟩, Below.on HBq.out hb3⟩
            simp only [Nat.sub_self] at hr3
            clear hO3 hin3 hb3 HO2 HB2 HBq PL q0 q1 r0 s0
            go_wp2_with (at_builtin; refine wpList_append_run _ rfl (.tmp 48) (.tmp 51) 81 81 rfl _ _ _ _ rfl rfl hr3 ?_)
            go_ret
            exact ⟨a3, c3, rfl, R.out⟩
          · have k4 : (k : Int) + 1 < (cap : Int) := by omega
            obtain ⟨a3, c3, w3, hr3, hO3, hin3, hb3⟩ := put_threeR V w2 nq a2 (k + 1) c2 (l.take k ++ [(id, bt)]) HO2.out HB2.out (some ⟨b, off + (k + 1) * 2, none⟩) (len - (k + 1)) (cap - (k + 1)) (l.drop (k + 1)) (((HT.out (k + 1) (by omega)).below HBq.out).below HB2.out) (by have := HLN.out; simp; omega) (putN l id) (by rw [← PL.out]; exact putL_len l id bt)
            rw [← PL.out] at hO3
            have R : Hid (OwnR a3 c3 (putN l id) (putL l id bt) w3 ∧ (∀ Ad, a3 = some Ad → w.heap.size ≤ Ad.block ∧ Ad.block < w3.heap.size) ∧ Below w.heap.size w w3) := ⟨hO3, fun Ad e => ⟨Nat.le_trans HBq.out.size (hin3 Ad e).1, (hin3 Ad e).2⟩, Below.on HBq.out hb3⟩
            clear hO3 hin3 hb3 HO2 HB2 HBq PL q0 q1 r0 s0
            go_wp2_with (at_builtin; refine wpList_append_run _ rfl (.tmp 48) (.tmp 51) 81 81 rfl _ _ _ _ rfl rfl hr3 ?_)
            go_ret
            exact ⟨a3, c3, rfl, R.out⟩
        · have ed : (idAt l k == id) = false := by simp [heq]
          have PL : Hid (putL l id bt = l.take k ++ [(id, bt)] ++ l.drop k) := (by show _ = _; rw [putL, PE.out, fe]; simp [heq])
          have k4 : (k : Int) < (cap : Int) := by omega
          clear heq fe PE
          go_wp2
          go_quiet (fail)
          obtain ⟨a3, c3, w3, hr3, hO3, hin3, hb3⟩ := put_threeR V w2 nq a2 (k + 1) c2 (l.take k ++ [(id, bt)]) HO2.out HB2.out (some ⟨b, off + k * 2, none⟩) (len - (k)) (cap - (k)) (l.drop (k)) (((HT.out (k) (by omega)).below HBq.out).below HB2.out) (by have := HLN.out; simp; omega) (putN l id) (by rw [← PL.out]; exact putL_len l id bt)
          rw [← PL.out] at hO3
          have R : Hid (OwnR a3 c3 (putN l id) (putL l id bt) w3 ∧ (∀ Ad, a3 = some Ad → w.heap.size ≤ Ad.block ∧ Ad.block < w3.heap.size) ∧ Below w.heap.size w w3) := ⟨hO3, fun Ad e => ⟨Nat.le_trans HBq.out.size (hin3 Ad e).1, (hin3 Ad e).2⟩, Below.on HBq.out hb3⟩
          clear hO3 hin3 hb3 HO2 HB2 HBq PL q0 q1 r0 s0
          go_wp2_with (at_builtin; refine wpList_append_run _ rfl (.tmp 48) (.tmp 51) 81 81 rfl _ _ _ _ rfl rfl hr3 ?_)
          go_ret
          exact ⟨a3, c3, rfl, R.out⟩
    · have hke : k = len := by omega
      subst hke
      obtain ⟨pe, fe⟩ := HE.out hto.out
      have PL : Hid (putL l id bt = l.take k ++ [(id, bt)] ++ l.drop k) := (by show _ = _; rw [putL, pe, fe]; simp)
      have dlt : decide ((k : Int) < (k : Int)) = false := decide_eq_false (by omega)
      clear pe fe hto
      go_wp2
      go_quiet (fail)
      have HBq : Hid (Below w.heap.size w (W.drewN nq)) := below_drewM HBn.out nq
      have mm0 : (W.drewN nq).cell? ⟨w.heap.size, 0, none⟩ = some (.int .i64 id) := m0
      have mm1 : (W.drewN nq).cell? ⟨w.heap.size, 1, none⟩ = some (.int .i64 bt) := m1
      have hszq : (W.drewN nq).heap.size = W.heap.size := by simp
      have hsW : w.heap.size < (W.drewN nq).heap.size := by rw [hszq, ← hW]; simpa using hs0
      clear hW m0 m1 HBn hszq
      generalize W.drewN nq = V at HBq mm0 mm1 hsW ⊢
      obtain ⟨a1, c1, w1, hr1, hb1, a2, c2, w2, hr2, hO2, hb2⟩ := put_two V V.heap.size rfl (some ⟨b, off, none⟩) k cap (l.take k) ((HH.out k (by omega)).below HBq.out) (by omega) id bt
      have q0 : w1.cell? ⟨w.heap.size, 0, none⟩ = some (.int .i64 id) := (hb1.cell (p := ⟨w.heap.size, 0, none⟩) hsW).trans mm0
      have q1 : w1.cell? ⟨w.heap.size, 1, none⟩ = some (.int .i64 bt) := (hb1.cell (p := ⟨w.heap.size, 1, none⟩) hsW).trans mm1
      have r0 : w2.cell? ⟨w.heap.size, 0, none⟩ = some (.int .i64 id) := (hb2.cell (p := ⟨w.heap.size, 0, none⟩) hsW).trans mm0
      have kc : (k : Int) ≤ (cap : Int) := by omega
      have HO2 : Hid (w2.ownsRow V.heap.size 116 2 (.slice a2 (k + 1) c2) (l.take k ++ [(id, bt)]).length (pc (l.take k ++ [(id, bt)]))) := hO2
      have HB2 : Hid (Below V.heap.size V w2) := hb2
      clear hO2 hb2 hb1 mm0 mm1
      by_cases hq : cap = k
      · have hq2 : k = cap := hq.symm
        subst hq2
        go_wp2_with (at_builtin; first | refine wpList_append_run _ rfl (.tmp 23) (.tmp 26) 81 81 rfl _ _ _ _ rfl rfl hr1 ?_ | refine wpList_append_run _ rfl (.tmp 28) (.tmp 30) 81 81 rfl _ _ _ _ rfl rfl hr2 ?_)
        go_quiet (fail)
        obtain ⟨a3, c3, w3, hr3, hO3, hin3, hb3⟩ := put_threeR V w2 nq a2 (k + 1) c2 (l.take k ++ [(id, bt)]) HO2.out HB2.out (some ⟨b, off, none⟩) (k - k) 0 (l.drop k) ⟨(HT.out k (by omega)).1, fun h => absurd h (by omega)⟩ (by have := HLN.out; simp; omega) (putN l id) (by rw [← PL.out]; exact putL_len l id bt)
        rw [← PL.out] at hO3
        have R : Hid (OwnR a3 c3 (putN l id) (putL l id bt) w3 ∧ (∀ Ad, a3 = some Ad → w.heap.size ≤ Ad.block ∧ Ad.block < w3.heap.size) ∧ Below w.heap.size w w3) := ⟨hO3, fun Ad e => ⟨Nat.le_trans HBq.out.size (hin3 Ad e).1, (hin3 Ad e).2⟩, Below.on HBq.out hb3⟩
        simp only [Nat.sub_self] at hr3
        clear hO3 hin3 hb3 HO2 HB2 HBq PL q0 q1 r0
        go_wp2_with (at_builtin; refine wpList_append_run _ rfl (.tmp 48) (.tmp 51) 81 81 rfl _ _ _ _ rfl rfl hr3 ?_)
        go_ret
        exact ⟨a3, c3, rfl, R.out⟩
      · have k4 : (k : Int) < (cap : Int) := by omega
        go_wp2_with (at_builtin; first | refine wpList_append_run _ rfl (.tmp 23) (.tmp 26) 81 81 rfl _ _ _ _ rfl rfl hr1 ?_ | refine wpList_append_run _ rfl (.tmp 28) (.tmp 30) 81 81 rfl _ _ _ _ rfl rfl hr2 ?_)
        go_quiet (fail)
        obtain ⟨a3, c3, w3, hr3, hO3, hin3, hb3⟩ := put_threeR V w2 nq a2 (k + 1) c2 (l.take k ++ [(id, bt)]) HO2.out HB2.out (some ⟨b, off + k * 2, none⟩) (k - k) (cap - k) (l.drop k) (((HT.out k (by omega)).below HBq.out).below HB2.out) (by have := HLN.out; simp; omega) (putN l id) (by rw [← PL.out]; exact putL_len l id bt)
        rw [← PL.out] at hO3
        have R : Hid (OwnR a3 c3 (putN l id) (putL l id bt) w3 ∧ (∀ Ad, a3 = some Ad → w.heap.size ≤ Ad.block ∧ Ad.block < w3.heap.size) ∧ Below w.heap.size w w3) := ⟨hO3, fun Ad e => ⟨Nat.le_trans HBq.out.size (hin3 Ad e).1, (hin3 Ad e).2⟩, Below.on HBq.out hb3⟩
        simp only [Nat.sub_self] at hr3
        clear hO3 hin3 hb3 HO2 HB2 HBq PL q0 q1 r0
        go_wp2_with (at_builtin; refine wpList_append_run _ rfl (.tmp 48) (.tmp 51) 81 81 rfl _ _ _ _ rfl rfl hr3 ?_)
        go_ret
        exact ⟨a3, c3, rfl, R.out⟩
set_option maxRecDepth 100000 in
set_option maxHeartbeats 4000000 in
/-- spec.l03Put of a list that is empty. -/
theorem sPutR_zero (a : Option Addr) (cap : Nat) (id bt : Int) (w : World) :
    Calls Tryz.prog 112 #[.slice a 0 cap, .agg #[.int .i64 id, .int .i64 bt]] w fun e w' => ∃ a' c', e = .returned (.slice a' 1 c') ∧ OwnR a' c' 1 [(id, bt)] w' ∧ (∀ Ad, a' = some Ad → w.heap.size ≤ Ad.block ∧ Ad.block < w'.heap.size) ∧ Below w.heap.size w w' := by
  obtain ⟨n0, n1⟩ := pair_new w (.int .i64 id) (.int .i64 bt) 116
  have hB0 : Hid (Below w.heap.size w (w.alloc (.cells #[.int .i64 id, .int .i64 bt] 116))) := bel_alloc _ _
  have hs0 : w.heap.size < (w.alloc (.cells #[.int .i64 id, .int .i64 bt] 116)).heap.size := by simp
  have kc : (0 : Int) ≤ (cap : Int) := by omega
  cases a with
  | none =>
    go_enter Tryz.func112, Tryz.ntmps112
    go_wp2
    refine wp_loop_rounds 1 ?_
    rw [rounds_succ]
    go_wp2
    generalize w.alloc (.cells #[.int .i64 id, .int .i64 bt] 116) = W at n0 n1 hB0 hs0 ⊢
    go_quiet (fail)
    have HBq : Hid (Below w.heap.size w (W.drewN nq)) := below_drewM hB0.out nq
    have mm0 : (W.drewN nq).cell? ⟨w.heap.size, 0, none⟩ = some (.int .i64 id) := n0
    have mm1 : (W.drewN nq).cell? ⟨w.heap.size, 1, none⟩ = some (.int .i64 bt) := n1
    have hszq : (W.drewN nq).heap.size = W.heap.size := by simp
    have hsW : w.heap.size < (W.drewN nq).heap.size := by rw [hszq]; exact hs0
    clear n0 n1 hB0 hszq hs0
    generalize W.drewN nq = V at HBq mm0 mm1 hsW ⊢
    obtain ⟨a1, c1, w1, hr1, hb1, a2, c2, w2, hr2, hO2, hb2⟩ := put_two V V.heap.size rfl none 0 cap [] ⟨rfl, fun h => absurd h (by omega)⟩ (by omega) id bt
    have q0 : w1.cell? ⟨w.heap.size, 0, none⟩ = some (.int .i64 id) := (hb1.cell (p := ⟨w.heap.size, 0, none⟩) hsW).trans mm0
    have q1 : w1.cell? ⟨w.heap.size, 1, none⟩ = some (.int .i64 bt) := (hb1.cell (p := ⟨w.heap.size, 1, none⟩) hsW).trans mm1
    have r0 : w2.cell? ⟨w.heap.size, 0, none⟩ = some (.int .i64 id) := (hb2.cell (p := ⟨w.heap.size, 0, none⟩) hsW).trans mm0
    have HO2 : Hid (w2.ownsRow V.heap.size 116 2 (.slice a2 (0 + 1) c2) ([] ++ [(id, bt)]).length (pc ([] ++ [(id, bt)]))) := hO2
    have HB2 : Hid (Below V.heap.size V w2) := hb2
    clear hO2 hb2 hb1 mm0 mm1
    simp only [Nat.zero_add] at hr2
    go_wp2_with (at_builtin; first | refine wpList_append_run _ rfl (.tmp 23) (.tmp 26) 81 81 rfl _ _ _ _ rfl rfl hr1 ?_ | refine wpList_append_run _ rfl (.tmp 28) (.tmp 30) 81 81 rfl _ _ _ _ rfl rfl hr2 ?_)
    go_quiet (fail)
    obtain ⟨a3, c3, w3, hr3, hO3, hin3, hb3⟩ := put_threeR V w2 nq a2 (0 + 1) c2 ([] ++ [(id, bt)]) HO2.out HB2.out none 0 cap [] ⟨rfl, fun h => absurd h (by omega)⟩ (by simp) 1 (by simp)
    have R : Hid (OwnR a3 c3 1 [(id, bt)] w3 ∧ (∀ Ad, a3 = some Ad → w.heap.size ≤ Ad.block ∧ Ad.block < w3.heap.size) ∧ Below w.heap.size w w3) := ⟨by simpa using hO3, fun Ad e => ⟨Nat.le_trans HBq.out.size (hin3 Ad e).1, (hin3 Ad e).2⟩, Below.on HBq.out hb3⟩
    clear hO3 hin3 hb3 HO2 HB2 HBq q0 q1 r0
    simp only [Nat.zero_add] at hr3
    go_wp2_with (at_builtin; refine wpList_append_run _ rfl (.tmp 48) (.tmp 51) 81 81 rfl _ _ _ _ rfl rfl hr3 ?_)
    all_goals (
      go_ret
      exact ⟨a3, c3, rfl, R.out⟩)
  | some A =>
    go_enter Tryz.func112, Tryz.ntmps112
    go_wp2
    refine wp_loop_rounds 1 ?_
    rw [rounds_succ]
    go_wp2
    generalize w.alloc (.cells #[.int .i64 id, .int .i64 bt] 116) = W at n0 n1 hB0 hs0 ⊢
    go_quiet (fail)
    have HBq : Hid (Below w.heap.size w (W.drewN nq)) := below_drewM hB0.out nq
    have mm0 : (W.drewN nq).cell? ⟨w.heap.size, 0, none⟩ = some (.int .i64 id) := n0
    have mm1 : (W.drewN nq).cell? ⟨w.heap.size, 1, none⟩ = some (.int .i64 bt) := n1
    have hszq : (W.drewN nq).heap.size = W.heap.size := by simp
    have hsW : w.heap.size < (W.drewN nq).heap.size := by rw [hszq]; exact hs0
    clear n0 n1 hB0 hszq hs0
    generalize W.drewN nq = V at HBq mm0 mm1 hsW ⊢
    obtain ⟨a1, c1, w1, hr1, hb1, a2, c2, w2, hr2, hO2, hb2⟩ := put_two V V.heap.size rfl (some A) 0 cap [] ⟨rfl, fun h => absurd h (by omega)⟩ (by omega) id bt
    have q0 : w1.cell? ⟨w.heap.size, 0, none⟩ = some (.int .i64 id) := (hb1.cell (p := ⟨w.heap.size, 0, none⟩) hsW).trans mm0
    have q1 : w1.cell? ⟨w.heap.size, 1, none⟩ = some (.int .i64 bt) := (hb1.cell (p := ⟨w.heap.size, 1, none⟩) hsW).trans mm1
    have r0 : w2.cell? ⟨w.heap.size, 0, none⟩ = some (.int .i64 id) := (hb2.cell (p := ⟨w.heap.size, 0, none⟩) hsW).trans mm0
    have HO2 : Hid (w2.ownsRow V.heap.size 116 2 (.slice a2 (0 + 1) c2) ([] ++ [(id, bt)]).length (pc ([] ++ [(id, bt)]))) := hO2
    have HB2 : Hid (Below V.heap.size V w2) := hb2
    clear hO2 hb2 hb1 mm0 mm1
    simp only [Nat.zero_add] at hr2
    go_wp2_with (at_builtin; first | refine wpList_append_run _ rfl (.tmp 23) (.tmp 26) 81 81 rfl _ _ _ _ rfl rfl hr1 ?_ | refine wpList_append_run _ rfl (.tmp 28) (.tmp 30) 81 81 rfl _ _ _ _ rfl rfl hr2 ?_)
    go_quiet (fail)
    obtain ⟨a3, c3, w3, hr3, hO3, hin3, hb3⟩ := put_threeR V w2 nq a2 (0 + 1) c2 ([] ++ [(id, bt)]) HO2.out HB2.out (some A) 0 cap [] ⟨rfl, fun h => absurd h (by omega)⟩ (by simp) 1 (by simp)
    have R : Hid (OwnR a3 c3 1 [(id, bt)] w3 ∧ (∀ Ad, a3 = some Ad → w.heap.size ≤ Ad.block ∧ Ad.block < w3.heap.size) ∧ Below w.heap.size w w3) := ⟨by simpa using hO3, fun Ad e => ⟨Nat.le_trans HBq.out.size (hin3 Ad e).1, (hin3 Ad e).2⟩, Below.on HBq.out hb3⟩
    clear hO3 hin3 hb3 HO2 HB2 HBq q0 q1 r0
    simp only [Nat.zero_add] at hr3
    go_wp2_with (at_builtin; refine wpList_append_run _ rfl (.tmp 48) (.tmp 51) 81 81 rfl _ _ _ _ rfl rfl hr3 ?_)
    all_goals (
      go_ret
      exact ⟨a3, c3, rfl, R.out⟩)
/-- spec.l03Put. -/
theorem sPutR_any (a : Option Addr) (len cap : Nat) (l : List (Int × Int)) (id bt : Int) (hcap : len ≤ cap) (hm : len ≤ 1000) (w : World) (hp : Prs a len l w) :
    Calls Tryz.prog 112 #[.slice a len cap, .agg #[.int .i64 id, .int .i64 bt]] w fun e w' => ∃ a' c', e = .returned (.slice a' (putN l id) c') ∧ OwnR a' c' (putN l id) (putL l id bt) w' ∧ (∀ Ad, a' = some Ad → w.heap.size ≤ Ad.block ∧ Ad.block < w'.heap.size) ∧ Below w.heap.size w w' := by
  obtain ⟨hln, hp⟩ := hp
  by_cases h0 : 0 < len
  · obtain ⟨b, off, rfl, hlt, hc⟩ := hp h0
    exact sPutR_some b off cap l len hln h0 id bt hcap hm w hlt (by rw [hln]; exact hc)
  · have e0 : len = 0 := by omega
    have el : l = [] := List.eq_nil_of_length_eq_zero (by rw [hln]; exact e0)
    subst e0 el
    have e1 : putN [] id = 1 := by simp [putN, fnd]
    have e2 : putL [] id bt = [(id, bt)] := by simp [putL]
    rw [e1, e2]
    exact sPutR_zero a cap id bt w
set_option maxRecDepth 100000 in
set_option maxHeartbeats 8000000 in
/-- spec.PutUser. -/
theorem sPutUserR_any (u g o : Int) (au : Option Addr) (lu cu : Nat) (ag : Option Addr) (lg cg : Nat) (r : Bool) (m : Int) (us gs : List (Int × Int)) (id bt : Int) (hlu : lu ≤ 1048576) (hlg : lg ≤ 1048576) (w : World) (hu : Prs au lu us w) (hg : Prs ag lg gs w) :
    Calls Tryz.prog 90 #[.agg #[.int .i64 u, .int .i64 g, .int .i64 o, .slice au lu cu, .slice ag lg cg, .bool r, .int .i64 m], .int .i64 id, .int .i64 bt] w (AnswersC (putUA u g o us gs r m id bt) w) := by
  have e1 := hu.1
  have e2 := hg.1
  have hc : Hid (∀ w', Below w.heap.size w w' → Calls Tryz.prog 87 #[.agg #[.int .i64 u, .int .i64 g, .int .i64 o, .slice au lu cu, .slice ag lg cg, .bool r, .int .i64 m]] w' fun e w'' => e = .returned (.bool (aclB u g o us gs r m)) ∧ Below w'.heap.size w' w'') := (fun w' hb => sAclRight_any u g o au lu cu ag lg cg r m us gs hlu hlg w' (hu.below hb) (hg.below hb))
  have hown : Hid (aclB u g o us gs r m = true → ∀ w', Below w.heap.size w w' → Calls Tryz.prog 111 #[.agg #[.int .i64 u, .int .i64 g, .int .i64 o, .slice au lu cu, .slice ag lg cg, .bool r, .int .i64 m]] w' fun e w'' => ∃ a1 c1 a2 c2, e = .returned (.agg #[.int .i64 u, .int .i64 g, .int .i64 o, .slice a1 lu c1, .slice a2 lg c2, .bool r, .int .i64 m]) ∧ NewC w' w'' a1 c1 lu us a2 c2 lg gs) := (fun h w' hb => by
    obtain ⟨_, _, _, _, m1, m2⟩ := aclB_parts h
    have l1 := nm_len m1
    have l2 := nm_len m2
    exact sCopyR_any u g o au lu cu ag lg cg r m us gs w' (hu.below hb) (hg.below hb) (by omega) (by omega))
  have hwn : Hid (aclB u g o us gs r m = true → ∀ a c w', Prs a lu us w' → lu ≤ c → Calls Tryz.prog 112 #[.slice a lu c, .agg #[.int .i64 id, .int .i64 bt]] w' fun e w'' => ∃ a' c', e = .returned (.slice a' (putN us id) c') ∧ OwnR a' c' (putN us id) (putL us id bt) w'' ∧ (∀ Ad, a' = some Ad → w'.heap.size ≤ Ad.block ∧ Ad.block < w''.heap.size) ∧ Below w'.heap.size w' w'') := (fun h a c w' hp hcp => by
    obtain ⟨_, _, _, _, m1, m2⟩ := aclB_parts h
    have l1 := nm_len m1
    have l2 := nm_len m2
    exact sPutR_any a lu c us id bt hcp (by omega) w' hp)
  have hrm : Hid (aclB u g o us gs r m = true → inR 0 7 bt = true → putN us id ≤ 6 → ∀ a3 c3 a2 c2 w', Prs a3 (putN us id) (putL us id bt) w' → Prs a2 lg gs w' → Calls Tryz.prog 113 #[.agg #[.int .i64 u, .int .i64 g, .int .i64 o, .slice a3 (putN us id) c3, .slice a2 lg c2, .bool r, .int .i64 m]] w' fun e w'' => e = .returned (.agg #[.int .i64 u, .int .i64 g, .int .i64 o, .slice a3 (putN us id) c3, .slice a2 lg c2, .bool (hnB (putL us id bt) gs), .int .i64 (mkB g (putL us id bt) gs), .int .i64 0]) ∧ Below w'.heap.size w' w'') := (fun h hbt h6 a3 c3 a2 c2 w' h1 h2 => by
    obtain ⟨_, ⟨g0, g1⟩, _, _, m1, m2⟩ := aclB_parts h
    have l1 := nm_len m1
    have l2 := nm_len m2
    exact sNew_any u g o _ _ _ _ _ _ r m (putL us id bt) gs w' h1 h2 g0 g1 (bnd_putPutUser (nm_bt m1) (inR_iff.1 hbt)) (nm_bt m2) (by omega))
  have HPL : Hid ((putL us id bt).length = (putN us id)) := putL_len us id bt
  have E1 : Hid (us.length = lu ∧ gs.length = lg) := ⟨e1, e2⟩
  clear hu hg e1 e2
  go_enter Tryz.func90, Tryz.ntmps90
  go_wp2_with fail
  refine (hc.out _ (bl2N _ _ _)).mono ?_
  rintro e w1 ⟨rfl, hb⟩
  have hW1 : Hid (Below w.heap.size w w1) := (bl2N _ _ _).trans (hb.mono (by simp; omega))
  have hX := ((box7_new w (.int .i64 u) (.int .i64 g) (.int .i64 o) (.slice au lu cu) (.slice ag lg cg) (.bool r) (.int .i64 m) 83).below (bel_alloc _ (.cells #[.int .i64 0, .int .i64 0, .int .i64 0, .slice none 0 0, .slice none 0 0, .bool false, .int .i64 0, .int .i64 0] 112))).below hb
  have eA : (w.alloc (.cells #[.int .i64 u, .int .i64 g, .int .i64 o, .slice au lu cu, .slice ag lg cg, .bool r, .int .i64 m] 83)).heap.size = w.heap.size + 1 := by simp
  have hY := (box8_new (w.alloc (.cells #[.int .i64 u, .int .i64 g, .int .i64 o, .slice au lu cu, .slice ag lg cg, .bool r, .int .i64 m] 83)) (.int .i64 0) (.int .i64 0) (.int .i64 0) (.slice none 0 0) (.slice none 0 0) (.bool false) (.int .i64 0) (.int .i64 0) 112).below hb
  have fr1 : ∀ o2, w1.frozen? ⟨w.heap.size + 1, o2, none⟩ = false := fun o2 => by
    have h1 := froz_new (w.alloc (.cells #[.int .i64 u, .int .i64 g, .int .i64 o, .slice au lu cu, .slice ag lg cg, .bool r, .int .i64 m] 83)) #[.int .i64 0, .int .i64 0, .int .i64 0, .slice none 0 0, .slice none 0 0, .bool false, .int .i64 0, .int .i64 0] 112 o2
    rw [eA] at h1
    rw [hb.frozen (p := ⟨w.heap.size + 1, o2, none⟩) (by simp)]
    exact h1
  rw [eA] at hY
  clear hb hc eA
  cases h : aclB u g o us gs r m
  · have hno : Hid (putUA u g o us gs r m id bt = illA 1) := putUA_no (by simp [h])
    clear h hown hwn hrm hX
    go_wp2_with fail
    refine (sIll_any 1 _).mono ?_
    rintro e wz ⟨rfl, hbz⟩
    obtain ⟨yl, y0, y1, y2, y3, y4, y5, y6, y7⟩ := hY.below hbz
    have frz : ∀ o2, wz.frozen? ⟨w.heap.size + 1, o2, none⟩ = false := fun o2 => (hbz.frozen (p := (⟨w.heap.size + 1, o2, none⟩ : Addr)) hY.lt).trans (fr1 o2)
    have hWz : Hid (Below w.heap.size w wz) := Below.on hW1.out hbz
    clear hbz hY
    go_wp2
    refine bodyPost_ret (v := .agg #[.int .i64 0, .int .i64 0, .int .i64 0, .slice none 0 0, .slice none 0 0, .bool false, .int .i64 0, .int .i64 1]) (by simp [results, Tryz.results90, go_sem, y0, y1, y2, y3, y4, y5, y6, y7]) rfl (answersC_ill hno.out ?_)
    iterate 8 (refine bl_setN ?_ (by omega))
    exact hWz.out
  cases hn : inR 0 9999 id
  · have hno : Hid (putUA u g o us gs r m id bt = illA 1) := putUA_no (by simp [hn])
    clear h hown hwn hrm hX
    go_wp2_with (first | (go_at_call 74; refine (sId_any _ _).mono ?_; rintro e w' ⟨rfl, rfl⟩) | (go_at_call 103; refine (sBits_any _ _).mono ?_; rintro e w' ⟨rfl, rfl⟩))
    refine (sIll_any 1 _).mono ?_
    rintro e wz ⟨rfl, hbz⟩
    obtain ⟨yl, y0, y1, y2, y3, y4, y5, y6, y7⟩ := hY.below hbz
    have frz : ∀ o2, wz.frozen? ⟨w.heap.size + 1, o2, none⟩ = false := fun o2 => (hbz.frozen (p := (⟨w.heap.size + 1, o2, none⟩ : Addr)) hY.lt).trans (fr1 o2)
    have hWz : Hid (Below w.heap.size w wz) := Below.on hW1.out hbz
    clear hbz hY
    go_wp2
    refine bodyPost_ret (v := .agg #[.int .i64 0, .int .i64 0, .int .i64 0, .slice none 0 0, .slice none 0 0, .bool false, .int .i64 0, .int .i64 1]) (by simp [results, Tryz.results90, go_sem, y0, y1, y2, y3, y4, y5, y6, y7]) rfl (answersC_ill hno.out ?_)
    iterate 8 (refine bl_setN ?_ (by omega))
    exact hWz.out
  cases hn2 : inR 0 7 bt
  · have hno : Hid (putUA u g o us gs r m id bt = illA 1) := putUA_no (by simp [hn2])
    clear h hown hwn hrm hX
    go_wp2_with (first | (go_at_call 74; refine (sId_any _ _).mono ?_; rintro e w' ⟨rfl, rfl⟩) | (go_at_call 103; refine (sBits_any _ _).mono ?_; rintro e w' ⟨rfl, rfl⟩))
    refine (sIll_any 1 _).mono ?_
    rintro e wz ⟨rfl, hbz⟩
    obtain ⟨yl, y0, y1, y2, y3, y4, y5, y6, y7⟩ := hY.below hbz
    have frz : ∀ o2, wz.frozen? ⟨w.heap.size + 1, o2, none⟩ = false := fun o2 => (hbz.frozen (p := (⟨w.heap.size + 1, o2, none⟩ : Addr)) hY.lt).trans (fr1 o2)
    have hWz : Hid (Below w.heap.size w wz) := Below.on hW1.out hbz
    clear hbz hY
    go_wp2
    refine bodyPost_ret (v := .agg #[.int .i64 0, .int .i64 0, .int .i64 0, .slice none 0 0, .slice none 0 0, .bool false, .int .i64 0, .int .i64 1]) (by simp [results, Tryz.results90, go_sem, y0, y1, y2, y3, y4, y5, y6, y7]) rfl (answersC_ill hno.out ?_)
    iterate 8 (refine bl_setN ?_ (by omega))
    exact hWz.out
  have hown2 : Hid (∀ w', Below w.heap.size w w' → Calls Tryz.prog 111 #[.agg #[.int .i64 u, .int .i64 g, .int .i64 o, .slice au lu cu, .slice ag lg cg, .bool r, .int .i64 m]] w' fun e w'' => ∃ a1 c1 a2 c2, e = .returned (.agg #[.int .i64 u, .int .i64 g, .int .i64 o, .slice a1 lu c1, .slice a2 lg c2, .bool r, .int .i64 m]) ∧ NewC w' w'' a1 c1 lu us a2 c2 lg gs) := hown.out h
  have hwn2 := hwn.out h
  have hrm2 := hrm.out h hn2
  have HWN : Hid _ := hwn2
  have HRM : Hid (putN us id ≤ 6 → _) := hrm2
  have HH : Hid (aclB u g o us gs r m = true ∧ inR 0 9999 id = true ∧ inR 0 7 bt = true) := ⟨h, hn, hn2⟩
  obtain ⟨xl, x0, x1, x2, x3, x4, x5, x6⟩ := hX
  clear h hown hwn hrm hwn2 hrm2
  go_wp2_with (first | (go_at_call 74; refine (sId_any _ _).mono ?_; rintro e w' ⟨rfl, rfl⟩) | (go_at_call 103; refine (sBits_any _ _).mono ?_; rintro e w' ⟨rfl, rfl⟩))
  refine (hown2.out _ hW1.out).mono ?_
  rintro e w2 ⟨a1, c1, a2, c2, rfl, hNC⟩
  have hN := hNC.new
  have hcp1 := hNC.ru.2
  have hcp2 := hNC.rg.2
  have hRo : Room w2 a2 c2 := hNC.rg.1
  have hbA := bel_alloc w2 (.cells #[.int .i64 u, .int .i64 g, .int .i64 o, .slice a1 lu c1, .slice a2 lg c2, .bool r, .int .i64 m] 83)
  have hO2 := box7_new w2 (.int .i64 u) (.int .i64 g) (.int .i64 o) (.slice a1 lu c1) (.slice a2 lg c2) (.bool r) (.int .i64 m) 83
  have hY2 := (hY.below hN.bel).below hbA
  have hYl2 : w.heap.size + 1 < w2.heap.size := (hY.below hN.bel).lt
  have HF : Hid ((∀ o2, (w2.alloc (.cells #[.int .i64 u, .int .i64 g, .int .i64 o, .slice a1 lu c1, .slice a2 lg c2, .bool r, .int .i64 m] 83)).frozen? ⟨w.heap.size + 1, o2, none⟩ = false) ∧ (∀ o2, (w2.alloc (.cells #[.int .i64 u, .int .i64 g, .int .i64 o, .slice a1 lu c1, .slice a2 lg c2, .bool r, .int .i64 m] 83)).frozen? ⟨w2.heap.size, o2, none⟩ = false)) := ⟨fun o2 => ((hbA.frozen (p := (⟨w.heap.size + 1, o2, none⟩ : Addr)) hYl2).trans (hN.bel.frozen (p := (⟨w.heap.size + 1, o2, none⟩ : Addr)) hY.lt)).trans (fr1 o2), fun o2 => froz_new w2 #[.int .i64 u, .int .i64 g, .int .i64 o, .slice a1 lu c1, .slice a2 lg c2, .bool r, .int .i64 m] 83 o2⟩
  have HN : Hid (New w (w2.alloc (.cells #[.int .i64 u, .int .i64 g, .int .i64 o, .slice a1 lu c1, .slice a2 lg c2, .bool r, .int .i64 m] 83)) a1 lu us a2 lg gs) := (hN.pre hW1.out).on hbA
  have HX1 : Hid ((∀ A, a1 = some A → w.heap.size + 1 < A.block ∧ A.block < w2.heap.size) ∧ (∀ A, a2 = some A → w.heap.size + 1 < A.block ∧ A.block < w2.heap.size)) := ⟨fun A e => ⟨by have := (hN.iu A e).1; have h2 := hY.lt; omega, (hN.iu A e).2⟩, fun A e => ⟨by have := (hN.ig A e).1; have h2 := hY.lt; omega, (hN.ig A e).2⟩⟩
  have HC : Hid (lu ≤ c1 ∧ lg ≤ c2) := ⟨hcp1, hcp2⟩
  have hRA := hRo.below hbA
  clear hNC hRo hN hcp1 hcp2 hown2 xl x0 x1 x2 x3 x4 x5 x6 hY fr1 hbA
  go_wp2_with fail
  refine (HWN.out a1 c1 _ HN.out.ou.prs HC.out.1).mono ?_
  rintro e w5 ⟨a3, c3, rfl, hJR, hin, hb5⟩
  have hJ := hJR.1
  have hO5 := hO2.below hb5
  have hY5 := hY2.below hb5
  have pl := hO2.lt
  have fr5 : ∀ o2, w5.frozen? ⟨w.heap.size + 1, o2, none⟩ = false := fun o2 => (hb5.frozen (p := (⟨w.heap.size + 1, o2, none⟩ : Addr)) hY2.lt).trans (HF.out.1 o2)
  have fo5 : ∀ o2, w5.frozen? ⟨w2.heap.size, o2, none⟩ = false := fun o2 => (hb5.frozen (p := (⟨w2.heap.size, o2, none⟩ : Addr)) hO2.lt).trans (HF.out.2 o2)
  have hin2 : ∀ A, a3 = some A → w2.heap.size < A.block ∧ A.block < w5.heap.size := fun A e => ⟨by have := (hin A e).1; omega, (hin A e).2⟩
  have hN5 := HN.out.on hb5
  have hJ6 := hJ.set (b := w2.heap.size) (o := 3) (v := .slice a3 (putN us id) c3) (fun B e => by have := (hin2 _ e).1; simp only at this; omega)
  have hoth6 := hN5.og.set (b := w2.heap.size) (o := 3) (v := .slice a3 (putN us id) c3) (fun B e => by have := HX1.out.2 _ e; simp only at this; omega)
  have hW6 : Hid (Below w.heap.size w (w5.setCell ⟨w2.heap.size, 3, none⟩ (.slice a3 (putN us id) c3))) := bl_setN hN5.bel (by omega)
  have hY6 := hY5.other (b := w2.heap.size) (o := 3) (v := .slice a3 (putN us id) c3) (by omega)
  have hO6 := hO5.set3 (v := .slice a3 (putN us id) c3)
  have fr6 : ∀ o2, (w5.setCell ⟨w2.heap.size, 3, none⟩ (.slice a3 (putN us id) c3)).frozen? ⟨w.heap.size + 1, o2, none⟩ = false := fun o2 => by rw [World.frozen?_setCell]; exact fr5 o2
  have HN6 : Hid (NewC w (w5.setCell ⟨w2.heap.size, 3, none⟩ (.slice a3 (putN us id) c3)) a3 c3 (putN us id) (putL us id bt) a2 c2 lg gs) := ⟨⟨hJ6, hoth6, fun A e => ⟨by have := (hin2 A e).1; omega, by simpa using (hin2 A e).2⟩, fun A e => ⟨(hN5.ig A e).1, by simpa using (hN5.ig A e).2⟩, fun A A2 e e2 => by have h1 := (hin2 A e).1; have h2 := (HX1.out.2 A2 e2).2; omega, hW6.out⟩, ⟨hJR.2.1.set (fun A e => by have := (hin2 A e).1; omega), hJR.2.2⟩, ⟨(hRA.below hb5).set (fun A e => by have := HX1.out.2 A e; omega), HC.out.2⟩⟩
  have M1 : Hid (∀ A, a3 = some A → w.heap.size + 1 ≠ A.block) := (fun A e => by have := (hin2 A e).1; omega)
  have M2 : Hid (∀ A, a2 = some A → w.heap.size + 1 ≠ A.block) := (fun A e => by have := (HX1.out.2 A e).1; omega)
  have HJ : Hid (Prs a3 (putN us id) (putL us id bt) (w5.setCell ⟨w2.heap.size, 3, none⟩ (.slice a3 (putN us id) c3)) ∧ Prs a2 lg gs (w5.setCell ⟨w2.heap.size, 3, none⟩ (.slice a3 (putN us id) c3))) := ⟨hJ6.prs, hoth6.prs⟩
  obtain ⟨gl, g0, g1, g2, g3, g4, g5, g6⟩ := hO5
  obtain ⟨ql, q0, q1, q2, q3, q4, q5, q6⟩ := hO6
  clear hJR hRA hJ hJ6 hoth6 hin hin2 hb5 hN5 HN HWN HX1 HC hO2 hY2 HF hY5 fr5
  by_cases h6 : putN us id ≤ 6
  · have hyes : Hid (putUA u g o us gs r m id bt = ⟨u, g, o, (putL us id bt), gs, hnB (putL us id bt) gs, mkB g (putL us id bt) gs, 0⟩) := putUA_yes HH.out h6
    have hrm3 := HRM.out h6
    have HRM3 : Hid _ := hrm3
    have HPL2 : Hid ((putL us id bt).length = (putN us id)) := HPL
    have d6 : decide (6 < (((putN us id) : Nat) : Int)) = false := decide_eq_false (by omega)
    clear HRM hrm3 HH HPL h6
    generalize putL us id bt = pp at hyes HRM3 HPL2 HN6 HJ ⊢
    generalize putN us id = nn at hyes HRM3 HPL2 HN6 HJ hW6 hY6 fr6 d6 ql q0 q1 q2 q3 q4 q5 q6 ⊢
    go_wp2_with fail
    refine (HRM3.out a3 c3 a2 c2 _ HJ.out.1 HJ.out.2).mono ?_
    rintro e w7 ⟨rfl, hb7⟩
    obtain ⟨yl, y0, y1, y2, y3, y4, y5, y6, y7⟩ := hY6.below hb7
    have fr7 : ∀ o2, w7.frozen? ⟨w.heap.size + 1, o2, none⟩ = false := fun o2 => (hb7.frozen (p := (⟨w.heap.size + 1, o2, none⟩ : Addr)) hY6.lt).trans (fr6 o2)
    have HN7 : Hid (NewC w w7 a3 c3 nn pp a2 c2 lg gs) := HN6.out.on hb7
    clear hb7 hY6 fr6 HN6 HRM3 HJ ql q0 q1 q2 q3 q4 q5 q6 gl g0 g1 g2 g3 g4 g5 g6 fo5
    generalize hnB pp gs = hh at hyes ⊢
    generalize mkB g pp gs = mm at hyes ⊢
    go_wp2
    refine bodyPost_ret (v := .agg #[.int .i64 u, .int .i64 g, .int .i64 o, .slice a3 nn c3, .slice a2 lg c2, .bool hh, .int .i64 mm, .int .i64 0]) (by simp [results, Tryz.results90, go_sem, y0, y1, y2, y3, y4, y5, y6, y7]) rfl (answersC_of hyes.out HPL2.out E1.out.2 ?_)
    iterate 8 (refine NewC.set ?_ (by omega) (fun A e => M1.out A e) (fun A e => M2.out A e))
    exact HN7.out
  · have hno : Hid (putUA u g o us gs r m id bt = illA 9) := putUA_full HH.out h6
    have d6 : 6 < (((putN us id) : Nat) : Int) := by omega
    clear HH HPL h6 HN6 HJ
    generalize putN us id = nn at d6 hW6 hY6 fr6 ql q0 q1 q2 q3 q4 q5 q6 HRM ⊢
    clear HRM
    go_wp2_with fail
    refine (sIll_any 9 _).mono ?_
    rintro e wz ⟨rfl, hbz⟩
    obtain ⟨yl, y0, y1, y2, y3, y4, y5, y6, y7⟩ := hY6.below hbz
    have frz : ∀ o2, wz.frozen? ⟨w.heap.size + 1, o2, none⟩ = false := fun o2 => (hbz.frozen (p := (⟨w.heap.size + 1, o2, none⟩ : Addr)) hY6.lt).trans (fr6 o2)
    have hWz : Hid (Below w.heap.size w wz) := Below.on hW6.out hbz
    clear hbz hY6
    go_wp2
    refine bodyPost_ret (v := .agg #[.int .i64 0, .int .i64 0, .int .i64 0, .slice none 0 0, .slice none 0 0, .bool false, .int .i64 0, .int .i64 9]) (by simp [results, Tryz.results90, go_sem, y0, y1, y2, y3, y4, y5, y6, y7]) rfl (answersC_ill hno.out ?_)
    iterate 8 (refine bl_setN ?_ (by omega))
    exact hWz.out
set_option maxRecDepth 100000 in
set_option maxHeartbeats 8000000 in
/-- spec.PutGroup. -/
theorem sPutGroupR_any (u g o : Int) (au : Option Addr) (lu cu : Nat) (ag : Option Addr) (lg cg : Nat) (r : Bool) (m : Int) (us gs : List (Int × Int)) (id bt : Int) (hlu : lu ≤ 1048576) (hlg : lg ≤ 1048576) (w : World) (hu : Prs au lu us w) (hg : Prs ag lg gs w) :
    Calls Tryz.prog 91 #[.agg #[.int .i64 u, .int .i64 g, .int .i64 o, .slice au lu cu, .slice ag lg cg, .bool r, .int .i64 m], .int .i64 id, .int .i64 bt] w (AnswersC (putGA u g o us gs r m id bt) w) := by
  have e1 := hu.1
  have e2 := hg.1
  have hc : Hid (∀ w', Below w.heap.size w w' → Calls Tryz.prog 87 #[.agg #[.int .i64 u, .int .i64 g, .int .i64 o, .slice au lu cu, .slice ag lg cg, .bool r, .int .i64 m]] w' fun e w'' => e = .returned (.bool (aclB u g o us gs r m)) ∧ Below w'.heap.size w' w'') := (fun w' hb => sAclRight_any u g o au lu cu ag lg cg r m us gs hlu hlg w' (hu.below hb) (hg.below hb))
  have hown : Hid (aclB u g o us gs r m = true → ∀ w', Below w.heap.size w w' → Calls Tryz.prog 111 #[.agg #[.int .i64 u, .int .i64 g, .int .i64 o, .slice au lu cu, .slice ag lg cg, .bool r, .int .i64 m]] w' fun e w'' => ∃ a1 c1 a2 c2, e = .returned (.agg #[.int .i64 u, .int .i64 g, .int .i64 o, .slice a1 lu c1, .slice a2 lg c2, .bool r, .int .i64 m]) ∧ NewC w' w'' a1 c1 lu us a2 c2 lg gs) := (fun h w' hb => by
    obtain ⟨_, _, _, _, m1, m2⟩ := aclB_parts h
    have l1 := nm_len m1
    have l2 := nm_len m2
    exact sCopyR_any u g o au lu cu ag lg cg r m us gs w' (hu.below hb) (hg.below hb) (by omega) (by omega))
  have hwn : Hid (aclB u g o us gs r m = true → ∀ a c w', Prs a lg gs w' → lg ≤ c → Calls Tryz.prog 112 #[.slice a lg c, .agg #[.int .i64 id, .int .i64 bt]] w' fun e w'' => ∃ a' c', e = .returned (.slice a' (putN gs id) c') ∧ OwnR a' c' (putN gs id) (putL gs id bt) w'' ∧ (∀ Ad, a' = some Ad → w'.heap.size ≤ Ad.block ∧ Ad.block < w''.heap.size) ∧ Below w'.heap.size w' w'') := (fun h a c w' hp hcp => by
    obtain ⟨_, _, _, _, m1, m2⟩ := aclB_parts h
    have l1 := nm_len m1
    have l2 := nm_len m2
    exact sPutR_any a lg c gs id bt hcp (by omega) w' hp)
  have hrm : Hid (aclB u g o us gs r m = true → inR 0 7 bt = true → putN gs id ≤ 6 → ∀ a3 c3 a1 c1 w', Prs a3 (putN gs id) (putL gs id bt) w' → Prs a1 lu us w' → Calls Tryz.prog 113 #[.agg #[.int .i64 u, .int .i64 g, .int .i64 o, .slice a1 lu c1, .slice a3 (putN gs id) c3, .bool r, .int .i64 m]] w' fun e w'' => e = .returned (.agg #[.int .i64 u, .int .i64 g, .int .i64 o, .slice a1 lu c1, .slice a3 (putN gs id) c3, .bool (hnB us (putL gs id bt)), .int .i64 (mkB g us (putL gs id bt)), .int .i64 0]) ∧ Below w'.heap.size w' w'') := (fun h hbt h6 a3 c3 a1 c1 w' h1 h2 => by
    obtain ⟨_, ⟨g0, g1⟩, _, _, m1, m2⟩ := aclB_parts h
    have l1 := nm_len m1
    have l2 := nm_len m2
    exact sNew_any u g o _ _ _ _ _ _ r m us (putL gs id bt) w' h2 h1 g0 g1 (nm_bt m1) (bnd_putPutGroup (nm_bt m2) (inR_iff.1 hbt)) (by omega))
  have HPL : Hid ((putL gs id bt).length = (putN gs id)) := putL_len gs id bt
  have E1 : Hid (us.length = lu ∧ gs.length = lg) := ⟨e1, e2⟩
  clear hu hg e1 e2
  go_enter Tryz.func91, Tryz.ntmps91
  go_wp2_with fail
  refine (hc.out _ (bl2N _ _ _)).mono ?_
  rintro e w1 ⟨rfl, hb⟩
  have hW1 : Hid (Below w.heap.size w w1) := (bl2N _ _ _).trans (hb.mono (by simp; omega))
  have hX := ((box7_new w (.int .i64 u) (.int .i64 g) (.int .i64 o) (.slice au lu cu) (.slice ag lg cg) (.bool r) (.int .i64 m) 83).below (bel_alloc _ (.cells #[.int .i64 0, .int .i64 0, .int .i64 0, .slice none 0 0, .slice none 0 0, .bool false, .int .i64 0, .int .i64 0] 112))).below hb
  have eA : (w.alloc (.cells #[.int .i64 u, .int .i64 g, .int .i64 o, .slice au lu cu, .slice ag lg cg, .bool r, .int .i64 m] 83)).heap.size = w.heap.size + 1 := by simp
  have hY := (box8_new (w.alloc (.cells #[.int .i64 u, .int .i64 g, .int .i64 o, .slice au lu cu, .slice ag lg cg, .bool r, .int .i64 m] 83)) (.int .i64 0) (.int .i64 0) (.int .i64 0) (.slice none 0 0) (.slice none 0 0) (.bool false) (.int .i64 0) (.int .i64 0) 112).below hb
  have fr1 : ∀ o2, w1.frozen? ⟨w.heap.size + 1, o2, none⟩ = false := fun o2 => by
    have h1 := froz_new (w.alloc (.cells #[.int .i64 u, .int .i64 g, .int .i64 o, .slice au lu cu, .slice ag lg cg, .bool r, .int .i64 m] 83)) #[.int .i64 0, .int .i64 0, .int .i64 0, .slice none 0 0, .slice none 0 0, .bool false, .int .i64 0, .int .i64 0] 112 o2
    rw [eA] at h1
    rw [hb.frozen (p := ⟨w.heap.size + 1, o2, none⟩) (by simp)]
    exact h1
  rw [eA] at hY
  clear hb hc eA
  cases h : aclB u g o us gs r m
  · have hno : Hid (putGA u g o us gs r m id bt = illA 1) := putGA_no (by simp [h])
    clear h hown hwn hrm hX
    go_wp2_with fail
    refine (sIll_any 1 _).mono ?_
    rintro e wz ⟨rfl, hbz⟩
    obtain ⟨yl, y0, y1, y2, y3, y4, y5, y6, y7⟩ := hY.below hbz
    have frz : ∀ o2, wz.frozen? ⟨w.heap.size + 1, o2, none⟩ = false := fun o2 => (hbz.frozen (p := (⟨w.heap.size + 1, o2, none⟩ : Addr)) hY.lt).trans (fr1 o2)
    have hWz : Hid (Below w.heap.size w wz) := Below.on hW1.out hbz
    clear hbz hY
    go_wp2
    refine bodyPost_ret (v := .agg #[.int .i64 0, .int .i64 0, .int .i64 0, .slice none 0 0, .slice none 0 0, .bool false, .int .i64 0, .int .i64 1]) (by simp [results, Tryz.results91, go_sem, y0, y1, y2, y3, y4, y5, y6, y7]) rfl (answersC_ill hno.out ?_)
    iterate 8 (refine bl_setN ?_ (by omega))
    exact hWz.out
  cases hn : inR 0 9999 id
  · have hno : Hid (putGA u g o us gs r m id bt = illA 1) := putGA_no (by simp [hn])
    clear h hown hwn hrm hX
    go_wp2_with (first | (go_at_call 74; refine (sId_any _ _).mono ?_; rintro e w' ⟨rfl, rfl⟩) | (go_at_call 103; refine (sBits_any _ _).mono ?_; rintro e w' ⟨rfl, rfl⟩))
    refine (sIll_any 1 _).mono ?_
    rintro e wz ⟨rfl, hbz⟩
    obtain ⟨yl, y0, y1, y2, y3, y4, y5, y6, y7⟩ := hY.below hbz
    have frz : ∀ o2, wz.frozen? ⟨w.heap.size + 1, o2, none⟩ = false := fun o2 => (hbz.frozen (p := (⟨w.heap.size + 1, o2, none⟩ : Addr)) hY.lt).trans (fr1 o2)
    have hWz : Hid (Below w.heap.size w wz) := Below.on hW1.out hbz
    clear hbz hY
    go_wp2
    refine bodyPost_ret (v := .agg #[.int .i64 0, .int .i64 0, .int .i64 0, .slice none 0 0, .slice none 0 0, .bool false, .int .i64 0, .int .i64 1]) (by simp [results, Tryz.results91, go_sem, y0, y1, y2, y3, y4, y5, y6, y7]) rfl (answersC_ill hno.out ?_)
    iterate 8 (refine bl_setN ?_ (by omega))
    exact hWz.out
  cases hn2 : inR 0 7 bt
  · have hno : Hid (putGA u g o us gs r m id bt = illA 1) := putGA_no (by simp [hn2])
    clear h hown hwn hrm hX
    go_wp2_with (first | (go_at_call 74; refine (sId_any _ _).mono ?_; rintro e w' ⟨rfl, rfl⟩) | (go_at_call 103; refine (sBits_any _ _).mono ?_; rintro e w' ⟨rfl, rfl⟩))
    refine (sIll_any 1 _).mono ?_
    rintro e wz ⟨rfl, hbz⟩
    obtain ⟨yl, y0, y1, y2, y3, y4, y5, y6, y7⟩ := hY.below hbz
    have frz : ∀ o2, wz.frozen? ⟨w.heap.size + 1, o2, none⟩ = false := fun o2 => (hbz.frozen (p := (⟨w.heap.size + 1, o2, none⟩ : Addr)) hY.lt).trans (fr1 o2)
    have hWz : Hid (Below w.heap.size w wz) := Below.on hW1.out hbz
    clear hbz hY
    go_wp2
    refine bodyPost_ret (v := .agg #[.int .i64 0, .int .i64 0, .int .i64 0, .slice none 0 0, .slice none 0 0, .bool false, .int .i64 0, .int .i64 1]) (by simp [results, Tryz.results91, go_sem, y0, y1, y2, y3, y4, y5, y6, y7]) rfl (answersC_ill hno.out ?_)
    iterate 8 (refine bl_setN ?_ (by omega))
    exact hWz.out
  have hown2 : Hid (∀ w', Below w.heap.size w w' → Calls Tryz.prog 111 #[.agg #[.int .i64 u, .int .i64 g, .int .i64 o, .slice au lu cu, .slice ag lg cg, .bool r, .int .i64 m]] w' fun e w'' => ∃ a1 c1 a2 c2, e = .returned (.agg #[.int .i64 u, .int .i64 g, .int .i64 o, .slice a1 lu c1, .slice a2 lg c2, .bool r, .int .i64 m]) ∧ NewC w' w'' a1 c1 lu us a2 c2 lg gs) := hown.out h
  have hwn2 := hwn.out h
  have hrm2 := hrm.out h hn2
  have HWN : Hid _ := hwn2
  have HRM : Hid (putN gs id ≤ 6 → _) := hrm2
  have HH : Hid (aclB u g o us gs r m = true ∧ inR 0 9999 id = true ∧ inR 0 7 bt = true) := ⟨h, hn, hn2⟩
  obtain ⟨xl, x0, x1, x2, x3, x4, x5, x6⟩ := hX
  clear h hown hwn hrm hwn2 hrm2
  go_wp2_with (first | (go_at_call 74; refine (sId_any _ _).mono ?_; rintro e w' ⟨rfl, rfl⟩) | (go_at_call 103; refine (sBits_any _ _).mono ?_; rintro e w' ⟨rfl, rfl⟩))
  refine (hown2.out _ hW1.out).mono ?_
  rintro e w2 ⟨a1, c1, a2, c2, rfl, hNC⟩
  have hN := hNC.new
  have hcp1 := hNC.ru.2
  have hcp2 := hNC.rg.2
  have hRo : Room w2 a1 c1 := hNC.ru.1
  have hbA := bel_alloc w2 (.cells #[.int .i64 u, .int .i64 g, .int .i64 o, .slice a1 lu c1, .slice a2 lg c2, .bool r, .int .i64 m] 83)
  have hO2 := box7_new w2 (.int .i64 u) (.int .i64 g) (.int .i64 o) (.slice a1 lu c1) (.slice a2 lg c2) (.bool r) (.int .i64 m) 83
  have hY2 := (hY.below hN.bel).below hbA
  have hYl2 : w.heap.size + 1 < w2.heap.size := (hY.below hN.bel).lt
  have HF : Hid ((∀ o2, (w2.alloc (.cells #[.int .i64 u, .int .i64 g, .int .i64 o, .slice a1 lu c1, .slice a2 lg c2, .bool r, .int .i64 m] 83)).frozen? ⟨w.heap.size + 1, o2, none⟩ = false) ∧ (∀ o2, (w2.alloc (.cells #[.int .i64 u, .int .i64 g, .int .i64 o, .slice a1 lu c1, .slice a2 lg c2, .bool r, .int .i64 m] 83)).frozen? ⟨w2.heap.size, o2, none⟩ = false)) := ⟨fun o2 => ((hbA.frozen (p := (⟨w.heap.size + 1, o2, none⟩ : Addr)) hYl2).trans (hN.bel.frozen (p := (⟨w.heap.size + 1, o2, none⟩ : Addr)) hY.lt)).trans (fr1 o2), fun o2 => froz_new w2 #[.int .i64 u, .int .i64 g, .int .i64 o, .slice a1 lu c1, .slice a2 lg c2, .bool r, .int .i64 m] 83 o2⟩
  have HN : Hid (New w (w2.alloc (.cells #[.int .i64 u, .int .i64 g, .int .i64 o, .slice a1 lu c1, .slice a2 lg c2, .bool r, .int .i64 m] 83)) a1 lu us a2 lg gs) := (hN.pre hW1.out).on hbA
  have HX1 : Hid ((∀ A, a1 = some A → w.heap.size + 1 < A.block ∧ A.block < w2.heap.size) ∧ (∀ A, a2 = some A → w.heap.size + 1 < A.block ∧ A.block < w2.heap.size)) := ⟨fun A e => ⟨by have := (hN.iu A e).1; have h2 := hY.lt; omega, (hN.iu A e).2⟩, fun A e => ⟨by have := (hN.ig A e).1; have h2 := hY.lt; omega, (hN.ig A e).2⟩⟩
  have HC : Hid (lu ≤ c1 ∧ lg ≤ c2) := ⟨hcp1, hcp2⟩
  have hRA := hRo.below hbA
  clear hNC hRo hN hcp1 hcp2 hown2 xl x0 x1 x2 x3 x4 x5 x6 hY fr1 hbA
  go_wp2_with fail
  refine (HWN.out a2 c2 _ HN.out.og.prs HC.out.2).mono ?_
  rintro e w5 ⟨a3, c3, rfl, hJR, hin, hb5⟩
  have hJ := hJR.1
  have hO5 := hO2.below hb5
  have hY5 := hY2.below hb5
  have pl := hO2.lt
  have fr5 : ∀ o2, w5.frozen? ⟨w.heap.size + 1, o2, none⟩ = false := fun o2 => (hb5.frozen (p := (⟨w.heap.size + 1, o2, none⟩ : Addr)) hY2.lt).trans (HF.out.1 o2)
  have fo5 : ∀ o2, w5.frozen? ⟨w2.heap.size, o2, none⟩ = false := fun o2 => (hb5.frozen (p := (⟨w2.heap.size, o2, none⟩ : Addr)) hO2.lt).trans (HF.out.2 o2)
  have hin2 : ∀ A, a3 = some A → w2.heap.size < A.block ∧ A.block < w5.heap.size := fun A e => ⟨by have := (hin A e).1; omega, (hin A e).2⟩
  have hN5 := HN.out.on hb5
  have hJ6 := hJ.set (b := w2.heap.size) (o := 4) (v := .slice a3 (putN gs id) c3) (fun B e => by have := (hin2 _ e).1; simp only at this; omega)
  have hoth6 := hN5.ou.set (b := w2.heap.size) (o := 4) (v := .slice a3 (putN gs id) c3) (fun B e => by have := HX1.out.1 _ e; simp only at this; omega)
  have hW6 : Hid (Below w.heap.size w (w5.setCell ⟨w2.heap.size, 4, none⟩ (.slice a3 (putN gs id) c3))) := bl_setN hN5.bel (by omega)
  have hY6 := hY5.other (b := w2.heap.size) (o := 4) (v := .slice a3 (putN gs id) c3) (by omega)
  have hO6 := hO5.set4 (v := .slice a3 (putN gs id) c3)
  have fr6 : ∀ o2, (w5.setCell ⟨w2.heap.size, 4, none⟩ (.slice a3 (putN gs id) c3)).frozen? ⟨w.heap.size + 1, o2, none⟩ = false := fun o2 => by rw [World.frozen?_setCell]; exact fr5 o2
  have HN6 : Hid (NewC w (w5.setCell ⟨w2.heap.size, 4, none⟩ (.slice a3 (putN gs id) c3)) a1 c1 lu us a3 c3 (putN gs id) (putL gs id bt)) := ⟨⟨hoth6, hJ6, fun A e => ⟨(hN5.iu A e).1, by simpa using (hN5.iu A e).2⟩, fun A e => ⟨by have := (hin2 A e).1; omega, by simpa using (hin2 A e).2⟩, fun A A2 e e2 => by have h1 := (HX1.out.1 A e).2; have h2 := (hin2 A2 e2).1; omega, hW6.out⟩, ⟨(hRA.below hb5).set (fun A e => by have := HX1.out.1 A e; omega), HC.out.1⟩, ⟨hJR.2.1.set (fun A e => by have := (hin2 A e).1; omega), hJR.2.2⟩⟩
  have M1 : Hid (∀ A, a1 = some A → w.heap.size + 1 ≠ A.block) := (fun A e => by have := (HX1.out.1 A e).1; omega)
  have M2 : Hid (∀ A, a3 = some A → w.heap.size + 1 ≠ A.block) := (fun A e => by have := (hin2 A e).1; omega)
  have HJ : Hid (Prs a3 (putN gs id) (putL gs id bt) (w5.setCell ⟨w2.heap.size, 4, none⟩ (.slice a3 (putN gs id) c3)) ∧ Prs a1 lu us (w5.setCell ⟨w2.heap.size, 4, none⟩ (.slice a3 (putN gs id) c3))) := ⟨hJ6.prs, hoth6.prs⟩
  obtain ⟨gl, g0, g1, g2, g3, g4, g5, g6⟩ := hO5
  obtain ⟨ql, q0, q1, q2, q3, q4, q5, q6⟩ := hO6
  clear hJR hRA hJ hJ6 hoth6 hin hin2 hb5 hN5 HN HWN HX1 HC hO2 hY2 HF hY5 fr5
  by_cases h6 : putN gs id ≤ 6
  · have hyes : Hid (putGA u g o us gs r m id bt = ⟨u, g, o, us, (putL gs id bt), hnB us (putL gs id bt), mkB g us (putL gs id bt), 0⟩) := putGA_yes HH.out h6
    have hrm3 := HRM.out h6
    have HRM3 : Hid _ := hrm3
    have HPL2 : Hid ((putL gs id bt).length = (putN gs id)) := HPL
    have d6 : decide (6 < (((putN gs id) : Nat) : Int)) = false := decide_eq_false (by omega)
    clear HRM hrm3 HH HPL h6
    generalize putL gs id bt = pp at hyes HRM3 HPL2 HN6 HJ ⊢
    generalize putN gs id = nn at hyes HRM3 HPL2 HN6 HJ hW6 hY6 fr6 d6 ql q0 q1 q2 q3 q4 q5 q6 ⊢
    go_wp2_with fail
    refine (HRM3.out a3 c3 a1 c1 _ HJ.out.1 HJ.out.2).mono ?_
    rintro e w7 ⟨rfl, hb7⟩
    obtain ⟨yl, y0, y1, y2, y3, y4, y5, y6, y7⟩ := hY6.below hb7
    have fr7 : ∀ o2, w7.frozen? ⟨w.heap.size + 1, o2, none⟩ = false := fun o2 => (hb7.frozen (p := (⟨w.heap.size + 1, o2, none⟩ : Addr)) hY6.lt).trans (fr6 o2)
    have HN7 : Hid (NewC w w7 a1 c1 lu us a3 c3 nn pp) := HN6.out.on hb7
    clear hb7 hY6 fr6 HN6 HRM3 HJ ql q0 q1 q2 q3 q4 q5 q6 gl g0 g1 g2 g3 g4 g5 g6 fo5
    generalize hnB us pp = hh at hyes ⊢
    generalize mkB g us pp = mm at hyes ⊢
    go_wp2
    refine bodyPost_ret (v := .agg #[.int .i64 u, .int .i64 g, .int .i64 o, .slice a1 lu c1, .slice a3 nn c3, .bool hh, .int .i64 mm, .int .i64 0]) (by simp [results, Tryz.results91, go_sem, y0, y1, y2, y3, y4, y5, y6, y7]) rfl (answersC_of hyes.out E1.out.1 HPL2.out ?_)
    iterate 8 (refine NewC.set ?_ (by omega) (fun A e => M1.out A e) (fun A e => M2.out A e))
    exact HN7.out
  · have hno : Hid (putGA u g o us gs r m id bt = illA 9) := putGA_full HH.out h6
    have d6 : 6 < (((putN gs id) : Nat) : Int) := by omega
    clear HH HPL h6 HN6 HJ
    generalize putN gs id = nn at d6 hW6 hY6 fr6 ql q0 q1 q2 q3 q4 q5 q6 HRM ⊢
    clear HRM
    go_wp2_with fail
    refine (sIll_any 9 _).mono ?_
    rintro e wz ⟨rfl, hbz⟩
    obtain ⟨yl, y0, y1, y2, y3, y4, y5, y6, y7⟩ := hY6.below hbz
    have frz : ∀ o2, wz.frozen? ⟨w.heap.size + 1, o2, none⟩ = false := fun o2 => (hbz.frozen (p := (⟨w.heap.size + 1, o2, none⟩ : Addr)) hY6.lt).trans (fr6 o2)
    have hWz : Hid (Below w.heap.size w wz) := Below.on hW6.out hbz
    clear hbz hY6
    go_wp2
    refine bodyPost_ret (v := .agg #[.int .i64 0, .int .i64 0, .int .i64 0, .slice none 0 0, .slice none 0 0, .bool false, .int .i64 0, .int .i64 9]) (by simp [results, Tryz.results91, go_sem, y0, y1, y2, y3, y4, y5, y6, y7]) rfl (answersC_ill hno.out ?_)
    iterate 8 (refine bl_setN ?_ (by omega))
    exact hWz.out
theorem fldAcl0 (v0 v1 v2 v3 v4 v5 v6 v7 : Value) (w : World) : (Instr.field 112 (.agg #[v0, v1, v2, v3, v4, v5, v6, v7]) 0).run Tryz.prog w = .ok (.agg #[v0, v1, v2, v3, v4, v5, v6]) w := by kernel_rfl
attribute [local go_sem] fldAcl0
set_option maxRecDepth 100000 in
set_option maxHeartbeats 8000000 in
theorem drAcl_any (a : Option Addr) (len cap : Nat) (g : Nat → Int) (p : Nat) (w : World) (hs : Src a len cap g p w) :
    Calls Tryz.prog 64 #[.pointer (some ⟨p, 0, none⟩)] w fun e w' => ∃ (A : Al) (aU : Option Addr) (cU : Nat) (aG : Option Addr) (cG : Nat), e = .returned (.agg #[.int .i64 A.u, .int .i64 A.g, .int .i64 A.o, .slice aU A.us.length cU, .slice aG A.gs.length cG, .bool A.r, .int .i64 A.m]) ∧ Src a len cap g p w' ∧ Ownp p w w' ∧ (∃ X R, RwA w w' X R aU cU A.us ∧ RwA w w' X R aG cG A.gs) ∧ (∀ A1 A2, aU = some A1 → aG = some A2 → A1.block ≠ A2.block) ∧ A.us.length ≤ 7 ∧ A.gs.length ≤ 6 := by
  have hp := hs.pos
  go_enter Tryz.func64, Tryz.ntmps64
  go_wp2_with fail
  refine (n_any a len cap g _ _ (by decide) _ (src_alloc hs _)).mono ?_
  rintro e w2 ⟨n, rfl, n0, n1, hs2, ho2⟩
  go_wp2_with fail
  refine (sAclOf_any n _).mono ?_
  rintro e w3 ⟨rfl, hb3⟩
  have hDA : Hid (DA a len cap g p w3.heap.size w.heap.size w (w3.alloc (.cells #[.int .i64 (mU n), .int .i64 (mG n), .int .i64 (mO n), .slice none 0 0, .slice none 0 0, .bool false, .int .i64 0] 83)) ⟨mU n, mG n, mO n, [], [], false, 0⟩ none 0 none 0) := (by
    have hz : (w.alloc (.cells #[.int .i64 0, .int .i64 0, .int .i64 0, .slice none 0 0, .slice none 0 0, .bool false, .int .i64 0] 83)).heap.size = w.heap.size + 1 := by simp
    have hz2 : w.heap.size < w2.heap.size := by have := ho2.size; omega
    have hr0 := box7_new w (.int .i64 0) (.int .i64 0) (.int .i64 0) (.slice none 0 0) (.slice none 0 0) (.bool false) (.int .i64 0) 83
    have hr2 := hr0.keep hz2 (fun o => ho2.cell (by omega) (by omega))
    have hf0 : ∀ o, (w.alloc (.cells #[.int .i64 0, .int .i64 0, .int .i64 0, .slice none 0 0, .slice none 0 0, .bool false, .int .i64 0] 83)).frozen? ⟨w.heap.size, o, none⟩ = false := fun o => froz_new w _ _ o
    have hf2 : ∀ o, w2.frozen? ⟨w.heap.size, o, none⟩ = false := fun o => (OwnpA.frozen ho2 (by omega) (by omega)).trans (hf0 o)
    have hb4 := bel_alloc w3 (.cells #[.int .i64 (mU n), .int .i64 (mG n), .int .i64 (mO n), .slice none 0 0, .slice none 0 0, .bool false, .int .i64 0] 83)
    have hs3 : Src a len cap g p w3 := hs2.kept (fun k hk => hb3.block k (by have := hs2.pos; omega))
    have ho3 : Ownp p w w3 := (((Ownp.refl p w).alloc _).trans ho2).trans ⟨hb3.os, hb3.tape, hb3.output, hb3.size, fun k hk _ => hb3.block k hk⟩
    refine ⟨src_alloc hs3 _, ho3.alloc _, box7_new w3 _ _ _ _ _ _ _ _, (hr2.below hb3).below hb4, fun o => froz_new w3 _ _ o, fun o => (hb4.frozen (p := ⟨w.heap.size, o, none⟩) (hr2.below hb3).lt).trans ((hb3.frozen (p := ⟨w.heap.size, o, none⟩) hz2).trans (hf2 o)), Nat.lt_of_lt_of_le hz2 hb3.size, Nat.le_refl _, hp, ⟨⟨rfl, fun h => absurd h (by simp)⟩, room_nil _, Nat.le_refl _, fun A e => by cases e⟩, ⟨⟨rfl, fun h => absurd h (by simp)⟩, room_nil _, Nat.le_refl _, fun A e => by cases e⟩, fun A1 A2 e => by cases e⟩)
  have hAG : Hid (AG 5 ⟨mU n, mG n, mO n, [], [], false, 0⟩) := ag_of 5 n0 (by omega)
  clear hb3 ho2 hs2
  go_wp2_with fail
  generalize (w3.alloc (.cells #[.int .i64 (mU n), .int .i64 (mG n), .int .i64 (mO n), .slice none 0 0, .slice none 0 0, .bool false, .int .i64 0] 83)) = w4 at hDA ⊢
  generalize w3.heap.size = X at hDA ⊢
  refine (n_any a len cap g _ _ (by decide) _ hDA.out.src).mono ?_
  rintro e w5 ⟨k0, rfl, k1, k2, hs5, ho5⟩
  have hD5 : Hid _ := hDA.out.call hs5 ho5
  clear hs5 ho5 hDA
  generalize (⟨mU n, mG n, mO n, [], [], false, 0⟩ : Al) = A0 at hD5 hAG
  obtain ⟨kk, rfl⟩ := Int.eq_ofNat_of_zero_le k1
  have hkk : kk ≤ 6 := by omega
  clear n0 n1 k1 k2
  go_wp2
  go_loopw [4, 5] (fun k _ wr => ∃ (j : Nat) (A : Al) (aU : Option Addr) (cU : Nat) (aG : Option Addr) (cG : Nat), j ≤ 6 ∧ k = .int .i64 j ∧ Hid (DA a len cap g p X w.heap.size w wr A aU cU aG cG) ∧ Hid (AG 5 A)) (fun k _ _ => (intOf k).toNat)
  case atStart => exact ⟨kk, A0, none, 0, none, 0, hkk, rfl, hD5, hAG⟩
  case round =>
    obtain ⟨j, A, aU, cU, aG, cG, hj, rfl, hD, hG⟩ := hrel
    clear hD5 hAG hkk
    have hal := ag_len hG.out
    by_cases h0 : 0 < j
    · have h0' : (0 : Int) < (j : Int) := by omega
      obtain ⟨xl, x0, x1, x2, x3, x4, x5, x6⟩ := hD.out.x
      have HLN : Hid (A.us.length ≤ 1048576 ∧ A.gs.length ≤ 1048576) := ⟨by omega, by omega⟩
      have HPU : Hid (∀ (i b : Int) (W : World), Prs aU A.us.length A.us W → Prs aG A.gs.length A.gs W → Calls Tryz.prog 90 #[.agg #[.int .i64 A.u, .int .i64 A.g, .int .i64 A.o, .slice aU A.us.length cU, .slice aG A.gs.length cG, .bool A.r, .int .i64 A.m], .int .i64 i, .int .i64 b] W fun e w' => ∃ (x : Ans) (a1 : Option Addr) (c1 : Nat) (a2 : Option Addr) (c2 : Nat), Hid (x = putUA A.u A.g A.o A.us A.gs A.r A.m i b) ∧ e = .returned (.agg #[.int .i64 x.u, .int .i64 x.g, .int .i64 x.o, .slice a1 x.us.length c1, .slice a2 x.gs.length c2, .bool x.r, .int .i64 x.m, .int .i64 x.code]) ∧ NewC W w' a1 c1 x.us.length x.us a2 c2 x.gs.length x.gs) := (fun i b W h1 h2 => (sPutUserR_any A.u A.g A.o aU _ cU aG _ cG A.r A.m A.us A.gs i b HLN.out.1 HLN.out.2 W h1 h2).mono (fun e w' ⟨a1, c1, a2, c2, he, hN⟩ => ⟨_, a1, c1, a2, c2, rfl, he, hN⟩))
      clear hal
      go_upto_region 5 with fail
      go_cut [5] from 12 to 34 (fun y wx => ∃ (Y : Nat) (x : Ans) (a1 : Option Addr) (c1 : Nat) (a2 : Option Addr) (c2 : Nat), y = .pointer (some ⟨Y, 0, none⟩) ∧ Hid (DY a len cap g p X w.heap.size w wx A aU cU aG cG Y x a1 c1 a2 c2))
      case first =>
        go_region_held3 (fun w' => w'.cell? ⟨X, 0, none⟩ = some (.int .i64 A.u) ∧ w'.cell? ⟨X, 1, none⟩ = some (.int .i64 A.g) ∧ w'.cell? ⟨X, 2, none⟩ = some (.int .i64 A.o) ∧ w'.cell? ⟨X, 3, none⟩ = some (.slice aU A.us.length cU) ∧ w'.cell? ⟨X, 4, none⟩ = some (.slice aG A.gs.length cG) ∧ w'.cell? ⟨X, 5, none⟩ = some (.bool A.r) ∧ w'.cell? ⟨X, 6, none⟩ = some (.int .i64 A.m)) (go_keep)
          (first
            | (go_at_call 90; refine Calls.mono (HPU.out _ _ _ ?hs ?ht) ?_; (case hs => (first | exact hZb.out.da.prsU | exact hZb.out.da.drew.prsU)); (case ht => (first | exact hZb.out.da.prsG | exact hZb.out.da.drew.prsG)); rintro e wc ⟨xx, a1, c1, a2, c2, hxx, rfl, hN⟩; have hZc : Hid (DZ a len cap g p X w.heap.size w wc A aU cU aG cG _) := hZb.out.below ⟨hN.new.bel.os, hN.new.bel.tape, hN.new.bel.output, hN.new.bel.size, hN.new.bel.block⟩; obtain ⟨_, yc0, yc1, yc2, yc3, yc4, yc5, yc6⟩ := hZc.out.da.x; obtain ⟨u0, u1, u2, u3, u4, u5, u6, u7, _, zc0, zc1, zc2, zc3, zc4, zc5, zc6, zc7⟩ := hZc.out.y; have fzc := hZc.out.fy; have nzc := Nat.ne_of_lt hZc.out.xy; have nzd := (Nat.ne_of_lt hZc.out.xy).symm; have hNc : NewC wb wc a1 c1 xx.us.length xx.us a2 c2 xx.gs.length xx.gs := ⟨⟨hN.new.ou, hN.new.og, hN.new.iu, hN.new.ig, hN.new.ne, ⟨hN.new.bel.os, hN.new.bel.tape, hN.new.bel.output, hN.new.bel.size, hN.new.bel.block⟩⟩, hN.ru, hN.rg⟩; have HGD : Hid (xx.code = 0 → AG 5 (ansAl xx)) := putU_hid hG.out (by omega) hxx; have hFc : Hid (DY a len cap g p X w.heap.size w (set8A wc _ (.int .i64 xx.u) (.int .i64 xx.g) (.int .i64 xx.o) (.slice a1 xx.us.length c1) (.slice a2 xx.gs.length c2) (.bool xx.r) (.int .i64 xx.m) (.int .i64 xx.code)) A aU cU aG cG _ xx a1 c1 a2 c2) := DZ.fill hZb.out hNc HGD.out)
            | (go_at_call 90; refine Calls.mono (HPU.out _ _ _ ?hs ?ht) ?_; (case hs => (first | exact (hDb.out.below (bel_alloc _ _)).prsU | exact (hDb.out.below (bel_alloc _ _)).drew.prsU | exact (hDb.out.drew.below (bel_alloc _ _)).prsU)); (case ht => (first | exact (hDb.out.below (bel_alloc _ _)).prsG | exact (hDb.out.below (bel_alloc _ _)).drew.prsG | exact (hDb.out.drew.below (bel_alloc _ _)).prsG)); rintro e wc ⟨xx, a1, c1, a2, c2, hxx, rfl, hN⟩; have hZc : Hid (DZ a len cap g p X w.heap.size w wc A aU cU aG cG wb.heap.size) := (DZ.new hDb.out _ _ _ _ _ _ _ _ _).below ⟨hN.new.bel.os, hN.new.bel.tape, hN.new.bel.output, hN.new.bel.size, hN.new.bel.block⟩; obtain ⟨_, yc0, yc1, yc2, yc3, yc4, yc5, yc6⟩ := hZc.out.da.x; obtain ⟨u0, u1, u2, u3, u4, u5, u6, u7, _, zc0, zc1, zc2, zc3, zc4, zc5, zc6, zc7⟩ := hZc.out.y; have fzc := hZc.out.fy; have nzc := Nat.ne_of_lt hZc.out.xy; have nzd := (Nat.ne_of_lt hZc.out.xy).symm; have hNc : NewC (wb.alloc (.cells #[.int .i64 0, .int .i64 0, .int .i64 0, .slice none 0 0, .slice none 0 0, .bool false, .int .i64 0, .int .i64 0] 112)) wc a1 c1 xx.us.length xx.us a2 c2 xx.gs.length xx.gs := ⟨⟨hN.new.ou, hN.new.og, hN.new.iu, hN.new.ig, hN.new.ne, ⟨hN.new.bel.os, hN.new.bel.tape, hN.new.bel.output, hN.new.bel.size, hN.new.bel.block⟩⟩, hN.ru, hN.rg⟩; have HGD : Hid (xx.code = 0 → AG 5 (ansAl xx)) := putU_hid hG.out (by omega) hxx; have hFc : Hid (DY a len cap g p X w.heap.size w (set8A wc wb.heap.size (.int .i64 xx.u) (.int .i64 xx.g) (.int .i64 xx.o) (.slice a1 xx.us.length c1) (.slice a2 xx.gs.length c2) (.bool xx.r) (.int .i64 xx.m) (.int .i64 xx.code)) A aU cU aG cG wb.heap.size xx a1 c1 a2 c2) := DZ.fill (DZ.new hDb.out _ _ _ _ _ _ _ _ _) hNc HGD.out)
            | (go_at_call 90; refine Calls.mono (HPU.out _ _ _ ?hs ?ht) ?_; (case hs => (first | exact hDb.out.prsU | exact hDb.out.drew.prsU)); (case ht => (first | exact hDb.out.prsG | exact hDb.out.drew.prsG)); rintro e wc ⟨xx, a1, c1, a2, c2, hxx, rfl, hN⟩; have hDc : Hid (DA a len cap g p X w.heap.size w wc A aU cU aG cG) := hDb.out.below ⟨hN.new.bel.os, hN.new.bel.tape, hN.new.bel.output, hN.new.bel.size, hN.new.bel.block⟩; obtain ⟨_, yc0, yc1, yc2, yc3, yc4, yc5, yc6⟩ := hDc.out.x; have hNc : NewC wb wc a1 c1 xx.us.length xx.us a2 c2 xx.gs.length xx.gs := ⟨⟨hN.new.ou, hN.new.og, hN.new.iu, hN.new.ig, hN.new.ne, ⟨hN.new.bel.os, hN.new.bel.tape, hN.new.bel.output, hN.new.bel.size, hN.new.bel.block⟩⟩, hN.ru, hN.rg⟩; have HGD : Hid (xx.code = 0 → AG 5 (ansAl xx)) := putU_hid hG.out (by omega) hxx; have hFc : Hid (DY a len cap g p X w.heap.size w (wc.alloc (.cells #[.int .i64 xx.u, .int .i64 xx.g, .int .i64 xx.o, .slice a1 xx.us.length c1, .slice a2 xx.gs.length c2, .bool xx.r, .int .i64 xx.m, .int .i64 xx.code] 112)) A aU cU aG cG wc.heap.size xx a1 c1 a2 c2) := DA.fill 112 hDb.out hNc HGD.out)
            | (go_at_call 30; refine Calls.mono (n_any a len cap g p _ (by decide) _ ?hs) ?_; (case hs => (first | exact hZa.out.da.src | exact hZa.out.da.drew.src)); rintro e wb ⟨rb, rfl, rb0, rb1, hsb, hob⟩; have hZb : Hid (DZ a len cap g p X w.heap.size w wb A aU cU aG cG _) := hZa.out.call hsb ⟨hob.os, hob.tape, hob.output, hob.size, hob.block⟩; obtain ⟨_, yb0, yb1, yb2, yb3, yb4, yb5, yb6⟩ := hZb.out.da.x)
            | (go_at_call 30; refine Calls.mono (n_any a len cap g p _ (by decide) _ ?hs) ?_; (case hs => (first | exact (hDa.out.below (bel_alloc _ _)).src | exact (hDa.out.below (bel_alloc _ _)).drew.src | exact (hDa.out.drew.below (bel_alloc _ _)).src)); rintro e wb ⟨rb, rfl, rb0, rb1, hsb, hob⟩; have hZb : Hid (DZ a len cap g p X w.heap.size w wb A aU cU aG cG wa.heap.size) := (DZ.new hDa.out _ _ _ _ _ _ _ _ _).call hsb ⟨hob.os, hob.tape, hob.output, hob.size, hob.block⟩; obtain ⟨_, yb0, yb1, yb2, yb3, yb4, yb5, yb6⟩ := hZb.out.da.x)
            | (go_at_call 30; refine Calls.mono (n_any a len cap g p _ (by decide) _ ?hs) ?_; (case hs => (first | exact hDa.out.src | exact hDa.out.drew.src)); rintro e wb ⟨rb, rfl, rb0, rb1, hsb, hob⟩; have hDb : Hid (DA a len cap g p X w.heap.size w wb A aU cU aG cG) := hDa.out.call hsb ⟨hob.os, hob.tape, hob.output, hob.size, hob.block⟩; obtain ⟨_, yb0, yb1, yb2, yb3, yb4, yb5, yb6⟩ := hDb.out.x)
            | (go_at_call 30; refine Calls.mono (n_any a len cap g p _ (by decide) _ ?hs) ?_; (case hs => (first | exact (hD.out.below (bel_alloc _ _)).src | exact (hD.out.below (bel_alloc _ _)).drew.src | exact (hD.out.drew.below (bel_alloc _ _)).src)); rintro e wa ⟨ra, rfl, ra0, ra1, hsa, hoa⟩; have hZa : Hid (DZ a len cap g p X w.heap.size w wa A aU cU aG cG wr.heap.size) := (DZ.new hD.out _ _ _ _ _ _ _ _ _).call hsa ⟨hoa.os, hoa.tape, hoa.output, hoa.size, hoa.block⟩; obtain ⟨_, ya0, ya1, ya2, ya3, ya4, ya5, ya6⟩ := hZa.out.da.x)
            | (go_at_call 30; refine Calls.mono (n_any a len cap g p _ (by decide) _ ?hs) ?_; (case hs => (first | exact hD.out.src | exact hD.out.drew.src)); rintro e wa ⟨ra, rfl, ra0, ra1, hsa, hoa⟩; have hDa : Hid (DA a len cap g p X w.heap.size w wa A aU cU aG cG) := hD.out.call hsa ⟨hoa.os, hoa.tape, hoa.output, hoa.size, hoa.block⟩; obtain ⟨_, ya0, ya1, ya2, ya3, ya4, ya5, ya6⟩ := hDa.out.x))
        all_goals
          go_wp2_with fail
          go_meet
          exact ⟨_, xx, a1, c1, a2, c2, rfl, hFc⟩
      case rest =>
      obtain ⟨Y, y0, b1, d1, b2, d2, rfl, hY0⟩ := hcut
      obtain ⟨wy, hwy⟩ : ∃ wy, wy = wc := ⟨_, rfl⟩
      subst hwy
      clear x0 x1 x2 x3 x4 x5 x6 xl hD HPU
      go_wp2_with fail
      refine (one_any a len cap g _ _ (by decide) _ hY0.out.dz.da.src).mono ?_
      rintro e wz ⟨r, rfl, hsz, hoz⟩
      have hY1 : Hid (DY a len cap g p X w.heap.size w wz A aU cU aG cG Y y0 b1 d1 b2 d2) := hY0.out.call hsz hoz
      clear hsz hoz hY0
      go_upto_if 23 with fail
      go_cut [] (fun wx => ∃ (x : Ans) (a1 : Option Addr) (c1 : Nat) (a2 : Option Addr) (c2 : Nat), Hid (DY a len cap g p X w.heap.size w wx A aU cU aG cG Y x a1 c1 a2 c2))
      case first =>
        cases r
        · go_wp2
          go_meet
          exact ⟨_, _, _, _, _, hY1⟩
        · have HLN2 : Hid (A.us.length ≤ 1048576 ∧ A.gs.length ≤ 1048576) := HLN
          have HPG : Hid (∀ (i b : Int) (W : World), Prs aU A.us.length A.us W → Prs aG A.gs.length A.gs W → Calls Tryz.prog 91 #[.agg #[.int .i64 A.u, .int .i64 A.g, .int .i64 A.o, .slice aU A.us.length cU, .slice aG A.gs.length cG, .bool A.r, .int .i64 A.m], .int .i64 i, .int .i64 b] W fun e w' => ∃ (x : Ans) (a1 : Option Addr) (c1 : Nat) (a2 : Option Addr) (c2 : Nat), Hid (x = putGA A.u A.g A.o A.us A.gs A.r A.m i b) ∧ e = .returned (.agg #[.int .i64 x.u, .int .i64 x.g, .int .i64 x.o, .slice a1 x.us.length c1, .slice a2 x.gs.length c2, .bool x.r, .int .i64 x.m, .int .i64 x.code]) ∧ NewC W w' a1 c1 x.us.length x.us a2 c2 x.gs.length x.gs) := (fun i b W h1 h2 => (sPutGroupR_any A.u A.g A.o aU _ cU aG _ cG A.r A.m A.us A.gs i b HLN.out.1 HLN.out.2 W h1 h2).mono (fun e w' ⟨a1, c1, a2, c2, he, hN⟩ => ⟨_, a1, c1, a2, c2, rfl, he, hN⟩))
          have hZ0 : Hid (DZ a len cap g p X w.heap.size w wz A aU cU aG cG Y) := hY1.out.dz
          obtain ⟨xl, x0, x1, x2, x3, x4, x5, x6⟩ := hZ0.out.da.x
          clear hY1
          go_upto_region 7 with fail
          go_region_held3 (fun w' => w'.cell? ⟨X, 0, none⟩ = some (.int .i64 A.u) ∧ w'.cell? ⟨X, 1, none⟩ = some (.int .i64 A.g) ∧ w'.cell? ⟨X, 2, none⟩ = some (.int .i64 A.o) ∧ w'.cell? ⟨X, 3, none⟩ = some (.slice aU A.us.length cU) ∧ w'.cell? ⟨X, 4, none⟩ = some (.slice aG A.gs.length cG) ∧ w'.cell? ⟨X, 5, none⟩ = some (.bool A.r) ∧ w'.cell? ⟨X, 6, none⟩ = some (.int .i64 A.m)) (go_keep)
            (first
              | (go_at_call 91; refine Calls.mono (HPG.out _ _ _ ?hs ?ht) ?_; (case hs => (first | exact hZb.out.da.prsU | exact hZb.out.da.drew.prsU)); (case ht => (first | exact hZb.out.da.prsG | exact hZb.out.da.drew.prsG)); rintro e wc ⟨xx, a1, c1, a2, c2, hxx, rfl, hN⟩; have hZc : Hid (DZ a len cap g p X w.heap.size w wc A aU cU aG cG Y) := hZb.out.below ⟨hN.new.bel.os, hN.new.bel.tape, hN.new.bel.output, hN.new.bel.size, hN.new.bel.block⟩; obtain ⟨_, yc0, yc1, yc2, yc3, yc4, yc5, yc6⟩ := hZc.out.da.x; obtain ⟨u0, u1, u2, u3, u4, u5, u6, u7, _, zc0, zc1, zc2, zc3, zc4, zc5, zc6, zc7⟩ := hZc.out.y; have fzc := hZc.out.fy; have nzc := Nat.ne_of_lt hZc.out.xy; have nzd := (Nat.ne_of_lt hZc.out.xy).symm; have hNc : NewC wb wc a1 c1 xx.us.length xx.us a2 c2 xx.gs.length xx.gs := ⟨⟨hN.new.ou, hN.new.og, hN.new.iu, hN.new.ig, hN.new.ne, ⟨hN.new.bel.os, hN.new.bel.tape, hN.new.bel.output, hN.new.bel.size, hN.new.bel.block⟩⟩, hN.ru, hN.rg⟩; have HGD : Hid (xx.code = 0 → AG 5 (ansAl xx)) := putG_hid hG.out hxx; have hFc : Hid (DY a len cap g p X w.heap.size w (set8A wc Y (.int .i64 xx.u) (.int .i64 xx.g) (.int .i64 xx.o) (.slice a1 xx.us.length c1) (.slice a2 xx.gs.length c2) (.bool xx.r) (.int .i64 xx.m) (.int .i64 xx.code)) A aU cU aG cG Y xx a1 c1 a2 c2) := DZ.fill hZb.out hNc HGD.out)
              | (go_at_call 30; refine Calls.mono (n_any a len cap g p _ (by decide) _ ?hs) ?_; (case hs => (first | exact hZa.out.da.src | exact hZa.out.da.drew.src)); rintro e wb ⟨rb, rfl, rb0, rb1, hsb, hob⟩; have hZb : Hid (DZ a len cap g p X w.heap.size w wb A aU cU aG cG Y) := hZa.out.call hsb ⟨hob.os, hob.tape, hob.output, hob.size, hob.block⟩; obtain ⟨_, yb0, yb1, yb2, yb3, yb4, yb5, yb6⟩ := hZb.out.da.x)
              | (go_at_call 30; refine Calls.mono (n_any a len cap g p _ (by decide) _ ?hs) ?_; (case hs => (first | exact hZ0.out.da.src | exact hZ0.out.da.drew.src)); rintro e wa ⟨ra, rfl, ra0, ra1, hsa, hoa⟩; have hZa : Hid (DZ a len cap g p X w.heap.size w wa A aU cU aG cG Y) := hZ0.out.call hsa ⟨hoa.os, hoa.tape, hoa.output, hoa.size, hoa.block⟩; obtain ⟨_, ya0, ya1, ya2, ya3, ya4, ya5, ya6⟩ := hZa.out.da.x))
          go_wp2_with fail
          go_meet
          exact ⟨xx, a1, c1, a2, c2, hFc⟩
      case rest =>
      obtain ⟨x, a1, c1, a2, c2, hY2⟩ := hcut
      obtain ⟨wv, hwv⟩ : ∃ wv, wv = wc := ⟨_, rfl⟩
      subst hwv
      clear hY1
      obtain ⟨_, e0, e1, e2, e3, e4, e5, e6, e7⟩ := hY2.out.y
      obtain ⟨xl, x0, x1, x2, x3, x4, x5, x6⟩ := hY2.out.dz.da.x
      have fx := hY2.out.dz.da.fx
      have nxy := Nat.ne_of_lt hY2.out.dz.xy
      have nyx := (Nat.ne_of_lt hY2.out.dz.xy).symm
      by_cases hcode : x.code = 0
      · have HP : Hid (DA a len cap g p X w.heap.size w (set7A wv X (.int .i64 x.u) (.int .i64 x.g) (.int .i64 x.o) (.slice a1 x.us.length c1) (.slice a2 x.gs.length c2) (.bool x.r) (.int .i64 x.m)) (ansAl x) a1 c1 a2 c2) := DA.putR (A' := ansAl x) hY2.out.dz.da hY2.out.ru hY2.out.rg hY2.out.ne
        have HG2 : Hid (AG 5 (ansAl x)) := hY2.out.good hcode
        rw [hcode] at e7
        clear hcode hY2 hG HLN
        go_wp2
        go_roundw
        case rel => exact ⟨j - 1, ansAl x, a1, c1, a2, c2, by omega, by go_num, HP, HG2⟩
        case measure => simp [intOf]; omega
      · have HP : Hid (DA a len cap g p X w.heap.size w wv A aU cU aG cG) := hY2.out.dz.da
        have hcz : (x.code == 0) = false := by simpa using hcode
        have hcz2 : decide (x.code = 0) = false := by simpa using hcode
        clear hY2 HLN x0 x1 x2 x3 x4 x5 x6
        go_wp2
        go_roundw
        case rel => exact ⟨j - 1, A, aU, cU, aG, cG, by omega, by go_num, HP, hG⟩
        case measure => simp [intOf]; omega
    · have hj0 : j = 0 := by omega
      subst hj0
      clear h0 hal hj
      go_wp2_with fail
      refine (one_any a len cap g _ _ (by decide) _ hD.out.src).mono ?_
      rintro e w6 ⟨q, rfl, hs6, ho6⟩
      have hD6 : Hid (DA a len cap g p X w.heap.size w w6 A aU cU aG cG) := hD.out.call hs6 ho6
      clear hs6 ho6 hD
      go_upto_if 36 with fail
      go_cut [] (fun wx => ∃ (A : Al) (aU : Option Addr) (cU : Nat) (aG : Option Addr) (cG : Nat), Hid (DA a len cap g p X w.heap.size w wx A aU cU aG cG) ∧ Hid (AG 5 A))
      case first =>
        cases q
        · go_wp2
          go_meet
          exact ⟨_, _, _, _, _, hD6, hG⟩
        · have hal := ag_len hG.out
          have HLN : Hid (A.us.length ≤ 1048576 ∧ A.gs.length ≤ 1048576) := ⟨by omega, by omega⟩
          have HSM : Hid (∀ (b : Int) (W : World), Prs aU A.us.length A.us W → Prs aG A.gs.length A.gs W → Calls Tryz.prog 92 #[.agg #[.int .i64 A.u, .int .i64 A.g, .int .i64 A.o, .slice aU A.us.length cU, .slice aG A.gs.length cG, .bool A.r, .int .i64 A.m], .int .i64 b] W fun e w' => ∃ (x : Ans) (a1 : Option Addr) (c1 : Nat) (a2 : Option Addr) (c2 : Nat), Hid (x = setMaskA A.u A.g A.o A.us A.gs A.r A.m b) ∧ e = .returned (.agg #[.int .i64 x.u, .int .i64 x.g, .int .i64 x.o, .slice a1 x.us.length c1, .slice a2 x.gs.length c2, .bool x.r, .int .i64 x.m, .int .i64 x.code]) ∧ NewC W w' a1 c1 x.us.length x.us a2 c2 x.gs.length x.gs) := (fun b W h1 h2 => (sSetMaskR_any A.u A.g A.o aU _ cU aG _ cG A.r A.m A.us A.gs b HLN.out.1 HLN.out.2 W h1 h2).mono (fun e w' ⟨a1, c1, a2, c2, he, hN⟩ => ⟨_, a1, c1, a2, c2, rfl, he, hN⟩))
          obtain ⟨xl, x0, x1, x2, x3, x4, x5, x6⟩ := hD6.out.x
          clear hal
          go_upto_region 11 with fail
          go_region_with
            (first
              | (go_at_call 92; refine Calls.mono (HSM.out _ _ ?hs ?ht) ?_; (case hs => (first | exact hDa.out.prsU | exact hDa.out.drew.prsU)); (case ht => (first | exact hDa.out.prsG | exact hDa.out.drew.prsG)); rintro e wc ⟨xx, a1, c1, a2, c2, hxx, rfl, hN⟩; have hDc : Hid (DA a len cap g p X w.heap.size w wc A aU cU aG cG) := hDa.out.below ⟨hN.new.bel.os, hN.new.bel.tape, hN.new.bel.output, hN.new.bel.size, hN.new.bel.block⟩; obtain ⟨_, yc0, yc1, yc2, yc3, yc4, yc5, yc6⟩ := hDc.out.x; have fxc := hDc.out.fx; have hNc : NewC wa wc a1 c1 xx.us.length xx.us a2 c2 xx.gs.length xx.gs := ⟨⟨hN.new.ou, hN.new.og, hN.new.iu, hN.new.ig, hN.new.ne, ⟨hN.new.bel.os, hN.new.bel.tape, hN.new.bel.output, hN.new.bel.size, hN.new.bel.block⟩⟩, hN.ru, hN.rg⟩; have HGD : Hid (AG 5 (ansAl xx)) := setM_hid hG.out ra0 (by omega) hxx; have hFc : Hid (DA a len cap g p X w.heap.size w (set7A wc X (.int .i64 xx.u) (.int .i64 xx.g) (.int .i64 xx.o) (.slice a1 xx.us.length c1) (.slice a2 xx.gs.length c2) (.bool xx.r) (.int .i64 xx.m)) (ansAl xx) a1 c1 a2 c2) := DA.put (A' := ansAl xx) hDc.out hNc hDa.out.x.lt hDa.out.own.size)
              | (go_at_call 30; refine Calls.mono (n_any a len cap g p _ (by decide) _ ?hs) ?_; (case hs => (first | exact hD6.out.src | exact hD6.out.drew.src)); rintro e wa ⟨ra, rfl, ra0, ra1, hsa, hoa⟩; have hDa : Hid (DA a len cap g p X w.heap.size w wa A aU cU aG cG) := hD6.out.call hsa ⟨hoa.os, hoa.tape, hoa.output, hoa.size, hoa.block⟩; obtain ⟨_, ya0, ya1, ya2, ya3, ya4, ya5, ya6⟩ := hDa.out.x))
          all_goals
            go_wp2_with fail
            go_meet
            exact ⟨ansAl xx, a1, c1, a2, c2, hFc, HGD⟩
      case rest =>
      clear hD6 hG
      clear A aU cU aG cG
      obtain ⟨A, aU, cU, aG, cG, hD, hG⟩ := hcut
      obtain ⟨wy, hwy⟩ : ∃ wy, wy = wc := ⟨_, rfl⟩
      subst hwy
      go_wp2_with fail
      refine (one_any a len cap g _ _ (by decide) _ hD.out.src).mono ?_
      rintro e w6 ⟨q, rfl, hs6, ho6⟩
      have hD6 : Hid (DA a len cap g p X w.heap.size w w6 A aU cU aG cG) := hD.out.call hs6 ho6
      clear hs6 ho6 hD
      go_upto_if 43 with fail
      go_cut [6] (fun _ wx => ∃ (A : Al) (aU : Option Addr) (cU : Nat) (aG : Option Addr) (cG : Nat), Hid (DA a len cap g p X w.heap.size w wx A aU cU aG cG) ∧ Hid (A.us.length ≤ 6 ∧ A.gs.length ≤ 6))
      case first =>
        cases q
        · go_wp2
          go_meet
          exact ⟨_, _, _, _, _, hD6, ag_len hG.out⟩
        · have HG20 : Hid (AG 20 A) := ⟨hG.out.1, fun x hx => by have := hG.out.2 x hx; omega⟩
          clear hG
          go_wp2
          go_loopw [6] (fun i wr => ∃ (j : Nat) (A : Al) (aU : Option Addr) (cU : Nat) (aG : Option Addr) (cG : Nat), i = .int .i64 (20 + (j : Int)) ∧ Hid (j ≤ A.us.length ∧ A.us.length ≤ 6) ∧ Hid (DA a len cap g p X w.heap.size w wr A aU cU aG cG) ∧ Hid (AG (20 + (j : Int)) A)) (fun i _ => (26 - intOf i).toNat)
          case atStart => exact ⟨0, A, aU, cU, aG, cG, rfl, ⟨Nat.zero_le _, (ag_len HG20.out).1⟩, hD6, HG20⟩
          case round =>
            clear hD6 HG20
            clear A aU cU aG cG
            obtain ⟨j, A, aU, cU, aG, cG, rfl, hjl, hD, hG⟩ := hrel
            obtain ⟨hj1, hj2⟩ := hjl.out
            obtain ⟨xl, x0, x1, x2, x3, x4, x5, x6⟩ := hD.out.x
            have hal := (ag_len hG.out).2
            by_cases hlt : A.us.length < 6
            · have hlt' : (A.us.length : Int) < 6 := by omega
              have HLN : Hid (A.us.length ≤ 1048576 ∧ A.gs.length ≤ 1048576) := ⟨by omega, by omega⟩
              have HPL : Hid (_ ∧ _) := putU_last hG.out (by omega) (by omega) hlt
              have HPU : Hid (∀ (W : World), Prs aU A.us.length A.us W → Prs aG A.gs.length A.gs W → Calls Tryz.prog 90 #[.agg #[.int .i64 A.u, .int .i64 A.g, .int .i64 A.o, .slice aU A.us.length cU, .slice aG A.gs.length cG, .bool A.r, .int .i64 A.m], .int .i64 (20 + (j : Int)), .int .i64 7] W fun e w' => ∃ (x : Ans) (a1 : Option Addr) (c1 : Nat) (a2 : Option Addr) (c2 : Nat), Hid (AG (20 + (j : Int) + 1) (ansAl x) ∧ x.us.length = A.us.length + 1) ∧ e = .returned (.agg #[.int .i64 x.u, .int .i64 x.g, .int .i64 x.o, .slice a1 x.us.length c1, .slice a2 x.gs.length c2, .bool x.r, .int .i64 x.m, .int .i64 x.code]) ∧ NewC W w' a1 c1 x.us.length x.us a2 c2 x.gs.length x.gs) := (fun W h1 h2 => (sPutUserR_any A.u A.g A.o aU _ cU aG _ cG A.r A.m A.us A.gs _ _ HLN.out.1 HLN.out.2 W h1 h2).mono (fun e w' ⟨a1, c1, a2, c2, he, hN⟩ => ⟨_, a1, c1, a2, c2, HPL.out, he, hN⟩))
              clear HPL hG hal hlt hjl
              go_wp2_with fail
              refine (HPU.out _ hD.out.prsU hD.out.prsG).mono ?_
              rintro e w7 ⟨xx, a1, c1, a2, c2, hxx, rfl, hN⟩
              have hD7 : Hid (DA a len cap g p X w.heap.size w w7 A aU cU aG cG) := hD.out.below hN.new.bel
              have hF7 : Hid (DA a len cap g p X w.heap.size w (set7A w7 X (.int .i64 xx.u) (.int .i64 xx.g) (.int .i64 xx.o) (.slice a1 xx.us.length c1) (.slice a2 xx.gs.length c2) (.bool xx.r) (.int .i64 xx.m)) (ansAl xx) a1 c1 a2 c2) := DA.put (A' := ansAl xx) hD7.out hN hD.out.x.lt hD.out.own.size
              have fx7 := hD7.out.fx
              clear x0 x1 x2 x3 x4 x5 x6 xl hN HPU HLN hD
              obtain ⟨xl, x0, x1, x2, x3, x4, x5, x6⟩ := hD7.out.x
              clear hD7
              go_wp2
              go_roundw
              case rel => exact ⟨j + 1, ansAl xx, a1, c1, a2, c2, by go_num, (by have h := hxx.out.2; exact ⟨by show j + 1 ≤ xx.us.length; omega, by show xx.us.length ≤ 6; omega⟩), hF7, (by have h := hxx.out.1; rw [show ((20 : Int) + ((j + 1 : Nat) : Int)) = 20 + (j : Int) + 1 by omega]; exact h)⟩
              case measure => simp [intOf]; omega
            · have hge : ¬ (A.us.length : Int) < 6 := by omega
              go_wp2
              go_meet
              exact ⟨_, _, _, _, _, hD, ⟨hj2, hal⟩⟩
      case rest =>
      clear hD6 hG
      clear A aU cU aG cG
      obtain ⟨A, aU, cU, aG, cG, hD, hL⟩ := hcut
      obtain ⟨wz, hwz⟩ : ∃ wz, wz = wc := ⟨_, rfl⟩
      subst hwz
      go_wp2_with fail
      refine (one_any a len cap g _ _ (by decide) _ hD.out.src).mono ?_
      rintro e w6 ⟨q, rfl, hs6, ho6⟩
      have hD6 : Hid (DA a len cap g p X w.heap.size w w6 A aU cU aG cG) := hD.out.call hs6 ho6
      clear hs6 ho6 hD
      go_upto_if 55 with fail
      go_cut [] (fun wx => ∃ (A : Al) (aU : Option Addr) (cU : Nat) (aG : Option Addr) (cG : Nat), Hid (DA a len cap g p X w.heap.size w wx A aU cU aG cG) ∧ Hid (A.us.length ≤ 7 ∧ A.gs.length ≤ 6))
      case first =>
        cases q
        · go_wp2
          go_meet
          exact ⟨_, _, _, _, _, hD6, ⟨by have := hL.out.1; omega, hL.out.2⟩⟩
        · obtain ⟨hL1, hL2⟩ := hL.out
          go_wp2_with fail
          refine (n_any a len cap g _ _ (by decide) _ hD6.out.src).mono ?_
          rintro e wn ⟨r4, rfl, r40, r41, hsn, hon⟩
          have hDn : Hid (DA a len cap g p X w.heap.size w wn A aU cU aG cG) := hD6.out.call hsn hon
          have hr4 : r4 = 0 ∨ r4 = 1 ∨ r4 = 2 ∨ r4 = 3 := by omega
          clear hsn hon hD6 r40 r41
          obtain ⟨xl, x0, x1, x2, x3, x4, x5, x6⟩ := hDn.out.x
          have fx := hDn.out.fx
          rcases hr4 with rfl | rfl | rfl | rfl
          · go_wp2
            go_meet
            exact ⟨_, _, _, _, _, hDn.out.set5 _, ⟨by show A.us.length ≤ 7; omega, hL2⟩⟩
          · go_wp2_with fail
            refine (drBits_any a len cap g _ _ hDn.out.src).mono ?_
            rintro e wm ⟨rb, rfl, _, _, hsm, hom⟩
            have hDm : Hid (DA a len cap g p X w.heap.size w wm A aU cU aG cG) := hDn.out.call hsm hom
            clear x0 x1 x2 x3 x4 x5 x6 xl fx hsm hom hDn
            obtain ⟨xl, x0, x1, x2, x3, x4, x5, x6⟩ := hDm.out.x
            have fx := hDm.out.fx
            go_wp2
            go_meet
            exact ⟨_, _, _, _, _, hDm.out.set6 rb, ⟨by show A.us.length ≤ 7; omega, hL2⟩⟩
          · go_upto_region 25 with fail
            go_region_law
              (first
                | (refine step_append_run rfl (.tmp 75) (.tmp 81) 81 rfl (.slice aU A.us.length cU) (.slice (some ⟨wb.heap.size, 0, none⟩) 1 1) (.slice a5 (A.us.length + 1) c5) w5 (by simp [Act.eval]) (by simp [Act.eval]) HRR.out ?_)
                | (go_simp; go_at_call 93; refine Calls.mono (drBits_any a len cap g p _ ?hs) ?_; (case hs => (first | exact hDa.out.src | exact hDa.out.drew.src)); rintro e wb ⟨rb, rfl, _, _, hsb, hob⟩; have hDb : Hid (DA a len cap g p X w.heap.size w wb A aU cU aG cG) := hDa.out.call hsb ⟨hob.os, hob.tape, hob.output, hob.size, hob.block⟩; obtain ⟨_, yb0, yb1, yb2, yb3, yb4, yb5, yb6⟩ := hDb.out.x; obtain ⟨a5, c5, w5, hrr5, hx5, hf5, hd5⟩ := DA.app hDb.out ra rb (by omega); have HRR : Hid _ := hrr5; have HDD : Hid _ := hd5; clear hrr5 hd5; obtain ⟨_, z50, z51, z52, z53, z54, z55, z56⟩ := hx5)
                | (go_simp; go_at_call 55; refine Calls.mono (drId_any a len cap g p _ ?hs) ?_; (case hs => (first | exact hDn.out.src | exact hDn.out.drew.src)); rintro e wa ⟨ra, rfl, _, _, hsa, hoa⟩; have hDa : Hid (DA a len cap g p X w.heap.size w wa A aU cU aG cG) := hDn.out.call hsa ⟨hoa.os, hoa.tape, hoa.output, hoa.size, hoa.block⟩; obtain ⟨_, ya0, ya1, ya2, ya3, ya4, ya5, ya6⟩ := hDa.out.x))
            all_goals
              go_wp2_with fail
              go_meet
              exact ⟨_, a5, c5, aG, cG, HDD, ⟨by show (A.us ++ _).length ≤ 7; simp; omega, hL2⟩⟩
          · go_wp2_with fail
            refine (drBits_any a len cap g _ _ hDn.out.src).mono ?_
            rintro e wm ⟨rb, rfl, _, _, hsm, hom⟩
            have hDm : Hid (DA a len cap g p X w.heap.size w wm A aU cU aG cG) := hDn.out.call hsm hom
            clear x0 x1 x2 x3 x4 x5 x6 xl fx hsm hom hDn
            obtain ⟨xl, x0, x1, x2, x3, x4, x5, x6⟩ := hDm.out.x
            have fx := hDm.out.fx
            go_wp2
            go_meet
            exact ⟨_, _, _, _, _, hDm.out.set2 rb, ⟨by show A.us.length ≤ 7; omega, hL2⟩⟩
      case rest =>
      clear hD6 hL
      clear A aU cU aG cG
      obtain ⟨A, aU, cU, aG, cG, hD, hL⟩ := hcut
      obtain ⟨wt, hwt⟩ : ∃ wt, wt = wc := ⟨_, rfl⟩
      subst hwt
      obtain ⟨xl, x0, x1, x2, x3, x4, x5, x6⟩ := hD.out.x
      obtain ⟨ul, u0, u1, u2, u3, u4, u5, u6⟩ := hD.out.r
      have fr := hD.out.fr
      go_wp2
      refine bodyPost_ret (v := .agg #[.int .i64 A.u, .int .i64 A.g, .int .i64 A.o, .slice aU A.us.length cU, .slice aG A.gs.length cG, .bool A.r, .int .i64 A.m]) (by simp [results, Tryz.results64, go_sem, u0, u1, u2, u3, u4, u5, u6]) rfl ?_
      exact ⟨A, aU, cU, aG, cG, rfl, DA.done hD.out hL.out.1 hL.out.2⟩
end Go.Proofs.YtedahdncincgjaaGreatDoor
