/- Laid together: PutS, PutSR. -/
import Derived.Test.YtgooanaacebncaaGreatDoorAT15
/- spec.l03Put: an entry put in its place. -/
namespace Go.Proofs.YtgooanaacebncaaGreatDoor
open Go.RowKit Go.PlainAid Go.Deep
set_option linter.unusedVariables false
theorem prs_one2 (w : World) (x y : Int) (t : TypeId) : Prs (some ⟨w.heap.size, 0, none⟩) 1 [(x, y)] (w.alloc (.cells #[.int .i64 x, .int .i64 y] t)) := by
  obtain ⟨h0, h1⟩ := pair_new w (.int .i64 x) (.int .i64 y) t
  refine ⟨rfl, fun _ => ⟨w.heap.size, 0, rfl, by simp, fun i hi => ?_⟩⟩
  have : i = 0 := by omega
  subst this
  exact ⟨h0, h1⟩
/-- The first two appends. -/
theorem put_two (W : World) (X : Nat) (hX : X = W.heap.size) (a : Option Addr) (k cap : Nat) (lk : List (Int × Int)) (hp : Prs a k lk W) (hk : k ≤ 1000) (id bt : Int) :
    ∃ a1 c1 w1, (Builtin.append_ #[23, 23] 23 #[.slice (some ⟨X, 0, none⟩) 0 0, .slice a k cap]).run Tryz.prog (W.alloc (.cells #[] 45)) = .ok (.slice a1 k c1) w1 ∧ Below W.heap.size W w1 ∧
      ∃ a2 c2 w2, (Builtin.append_ #[23, 23] 23 #[.slice a1 k c1, .slice (some ⟨w1.heap.size, 0, none⟩) 1 1]).run Tryz.prog (w1.alloc (.cells #[.int .i64 id, .int .i64 bt] 45)) = .ok (.slice a2 (k + 1) c2) w2 ∧ w2.ownsRow W.heap.size 45 2 (.slice a2 (k + 1) c2) (lk ++ [(id, bt)]).length (pc (lk ++ [(id, bt)])) ∧ Below W.heap.size W w2 := by
  subst hX
  have ho := own_start2 W W.heap.size rfl 45
  have hb0 := bel_alloc W (.cells #[] 45)
  obtain ⟨a1, c1, w1, hr1, hO1, hb1⟩ := append_own W (W.alloc (.cells #[] 45)) _ 0 [] 0 ho a k cap lk (hp.below hb0) (by simp; omega) hb0
  rw [List.nil_append] at hr1 hO1
  rw [hp.1] at hr1
  have hO1k := hO1
  rw [hp.1] at hO1k
  have hba := bel_alloc w1 (.cells #[.int .i64 id, .int .i64 bt] 45)
  have hO1a := hO1.alloc (.cells #[.int .i64 id, .int .i64 bt] 45)
  rw [hp.1] at hO1a
  have hO1b : (w1.alloc (.cells #[.int .i64 id, .int .i64 bt] 45)).ownsRow W.heap.size 45 2 (.slice a1 k c1) lk.length (pc lk) := by rw [hp.1]; exact hO1a
  obtain ⟨a2, c2, w2, hr2, hO2, hb2⟩ := append_own W (w1.alloc (.cells #[.int .i64 id, .int .i64 bt] 45)) a1 c1 lk k hO1b (some ⟨w1.heap.size, 0, none⟩) 1 1 [(id, bt)] (prs_one2 w1 id bt _) (by rw [hp.1]; omega) (Below.on hb1 hba)
  have el : (lk ++ [(id, bt)]).length = k + 1 := by simp [hp.1]
  rw [el] at hr2
  have hO2' := hO2
  rw [el] at hO2'
  refine ⟨a1, c1, w1, hr1, hb1, a2, c2, w2, hr2, ?_, hb2⟩
  rw [el]
  exact hO2'
theorem owns_drewN {w : World} {B : Nat} {t : TypeId} {v : Value} {n : Nat} {xs : List Value} (h : w.ownsRow B t 2 v n xs) (nq : Nat) : (w.drewN nq).ownsRow B t 2 v n xs := by
  have e : (w.drewN nq).heap = w.heap := by simp
  unfold World.ownsRow at h ⊢
  rw [e]
  exact h
/-- The last append. -/
theorem put_threeR (W w2 : World) (nq : Nat) (a2 : Option Addr) (n c2 : Nat) (acc : List (Int × Int)) (hO : w2.ownsRow W.heap.size 45 2 (.slice a2 n c2) acc.length (pc acc)) (hb : Below W.heap.size W w2) (a : Option Addr) (len cap : Nat) (l : List (Int × Int)) (hp : Prs a len l w2) (hsm : acc.length + len ≤ 100000) (N : Nat) (hN : (acc ++ l).length = N) :
    ∃ a3 c3 w3, (Builtin.append_ #[23, 23] 23 #[.slice a2 n c2, .slice a len cap]).run Tryz.prog (w2.drewN nq) = .ok (.slice a3 N c3) w3 ∧ OwnR a3 c3 N (acc ++ l) w3 ∧ (∀ Ad, a3 = some Ad → W.heap.size ≤ Ad.block ∧ Ad.block < w3.heap.size) ∧ Below W.heap.size W w3 := by
  subst hN
  obtain ⟨a3, c3, w3, hr3, hO3, hb3⟩ := append_own W (w2.drewN nq) a2 c2 acc n (owns_drewN hO nq) a len cap l (hp.below (below_drewM (Below.refl _ _) nq)) (by omega) (below_drewM hb nq)
  obtain ⟨x, y, e, h1, h2⟩ := own_of_row hO3
  cases e
  exact ⟨a3, c3, w3, hr3, ⟨h1, room_of_row hO3, own_cap hO3⟩, h2, hb3⟩
set_option maxRecDepth 100000 in
set_option maxHeartbeats 4000000 in
/-- spec.l03Put of a list that is not empty. -/
theorem sPutR_some (b off cap : Nat) (l : List (Int × Int)) (len : Nat) (hln : l.length = len) (h0 : 0 < len) (id bt : Int) (hcap : len ≤ cap) (hm : len ≤ 1000) (w : World) (hlt : b < w.heap.size) (hc : ∀ i, i < l.length → w.cell? ⟨b, off + i * 2, none⟩ = some (.int .i64 (idAt l i)) ∧ w.cell? ⟨b, off + i * 2 + 1, none⟩ = some (.int .i64 (btAt l i))) :
    Calls Tryz.prog 69 #[.slice (some ⟨b, off, none⟩) len cap, .agg #[.int .i64 id, .int .i64 bt]] w fun e w' => ∃ a' c', e = .returned (.slice a' (putN l id) c') ∧ OwnR a' c' (putN l id) (putL l id bt) w' ∧ (∀ Ad, a' = some Ad → w.heap.size ≤ Ad.block ∧ Ad.block < w'.heap.size) ∧ Below w.heap.size w w' := by
  have HC : Hid (∀ i, i < len → w.cell? ⟨b, off + i * 2, none⟩ = some (.int .i64 (idAt l i)) ∧ w.cell? ⟨b, off + i * 2 + 1, none⟩ = some (.int .i64 (btAt l i))) := (by show ∀ i, _; rw [← hln]; exact hc)
  have HP : Hid (∀ k, k < len → (∀ j, j < k → idAt l j < id) → id ≤ idAt l k → plc l id = k ∧ fnd l id = decide (idAt l k = id)) := (fun k hk h1 h2 => ⟨plc_at (by omega) h1 h2, fnd_at (by omega) (plc_at (by omega) h1 h2)⟩)
  have HE : Hid ((∀ j, j < len → idAt l j < id) → plc l id = len ∧ fnd l id = false) := (fun h => ⟨by rw [plc_none (by rw [hln]; exact h), hln], fnd_none (plc_none (by rw [hln]; exact h))⟩)
  have HH : Hid (∀ n, n ≤ len → Prs (some ⟨b, off, none⟩) n (l.take n) w) := (fun n hn => prs_take (by omega) hlt hc)
  have HT : Hid (∀ n, n ≤ len → Prs (some ⟨b, off + n * 2, none⟩) (len - n) (l.drop n) w) := (fun n hn => by rw [← hln]; exact prs_drop (by omega) hlt hc)
  have HLN : Hid (l.length = len) := hln
  clear hc hln
  obtain ⟨n0, n1⟩ := pair_new w (.int .i64 id) (.int .i64 bt) 45
  have hB0 := bel_alloc w (.cells #[.int .i64 id, .int .i64 bt] 45)
  go_enter Tryz.func69, Tryz.ntmps69
  go_wp2
  have HB0 : Hid (Below w.heap.size w (w.alloc (.cells #[.int .i64 id, .int .i64 bt] 45))) := hB0
  have hs0 : w.heap.size < (w.alloc (.cells #[.int .i64 id, .int .i64 bt] 45)).heap.size := by simp
  clear hB0
  generalize w.alloc (.cells #[.int .i64 id, .int .i64 bt] 45) = w0 at n0 n1 HB0 hs0 ⊢
  go_loopw [5] (fun i wr => ∃ (k n : Nat), k ≤ len ∧ i = .int .i64 k ∧ wr = w0.drewN n ∧ Hid (∀ j, j < k → idAt l j < id)) (fun i _ => len - (intOf i).toNat)
  case atStart => exact ⟨0, 0, Nat.zero_le _, rfl, rfl, fun j hj => absurd hj (by omega)⟩
  case round =>
    obtain ⟨k, n, hk, rfl, rfl, hto⟩ := hrel
    have HBn : Hid (Below w.heap.size w (w0.drewN n)) := below_drewM HB0.out n
    have m0 : (w0.drewN n).cell? ⟨w.heap.size, 0, none⟩ = some (.int .i64 id) := n0
    have m1 : (w0.drewN n).cell? ⟨w.heap.size, 1, none⟩ = some (.int .i64 bt) := n1
    generalize hW : w0.drewN n = W at HBn m0 m1 ⊢
    by_cases hlt2 : k < len
    · have hlt' : (k : Int) < (len : Int) := by omega
      have g0 : W.cell? ⟨b, off + k * 2, none⟩ = some (.int .i64 (idAt l k)) := (HBn.out.cell (p := ⟨b, off + k * 2, none⟩) hlt).trans (HC.out k hlt2).1
      by_cases hup : idAt l k < id
      · have hto2 : Hid (∀ j, j < k + 1 → idAt l j < id) := (fun j hj => by
          by_cases e : j = k
          · subst e; exact hup
          · exact hto.out j (by omega))
        go_wp2
        go_quiet (fail)
        go_wp2
        go_roundw
        case rel =>
          rename_i nq
          exact ⟨k + 1, n + nq, by omega, by go_num, by rw [← hW]; simp, hto2⟩
        case measure => simp [intOf]; omega
      · have hd : decide (idAt l k < id) = false := decide_eq_false hup
        obtain ⟨pe, fe⟩ := HP.out k hlt2 hto.out (by omega)
        have PE : Hid (plc l id = k) := pe
        clear pe hto
        go_wp2
        go_quiet (fail)
        have HBq : Hid (Below w.heap.size w (W.drewN nq)) := below_drewM HBn.out nq
        have mm0 : (W.drewN nq).cell? ⟨w.heap.size, 0, none⟩ = some (.int .i64 id) := m0
        have mm1 : (W.drewN nq).cell? ⟨w.heap.size, 1, none⟩ = some (.int .i64 bt) := m1
        have hszq : (W.drewN nq).heap.size = W.heap.size := by simp
        have hsW : w.heap.size < (W.drewN nq).heap.size := by rw [hszq, ← hW]; simpa using hs0
        clear hW g0 m0 m1 HBn hszq
        generalize W.drewN nq = V at HBq mm0 mm1 hsW ⊢
        obtain ⟨a1, c1, w1, hr1, hb1, a2, c2, w2, hr2, hO2, hb2⟩ := put_two V V.heap.size rfl (some ⟨b, off, none⟩) k cap (l.take k) ((HH.out k (by omega)).below HBq.out) (by omega) id bt
        have q0 : w1.cell? ⟨w.heap.size, 0, none⟩ = some (.int .i64 id) := (hb1.cell (p := ⟨w.heap.size, 0, none⟩) hsW).trans mm0
        have q1 : w1.cell? ⟨w.heap.size, 1, none⟩ = some (.int .i64 bt) := (hb1.cell (p := ⟨w.heap.size, 1, none⟩) hsW).trans mm1
        have r0 : w2.cell? ⟨w.heap.size, 0, none⟩ = some (.int .i64 id) := (hb2.cell (p := ⟨w.heap.size, 0, none⟩) hsW).trans mm0
        have hbl : b < V.heap.size := Nat.lt_of_lt_of_le hlt HBq.out.size
        have s0 : w2.cell? ⟨b, off + k * 2, none⟩ = some (.int .i64 (idAt l k)) := ((hb2.cell (p := ⟨b, off + k * 2, none⟩) hbl).trans (HBq.out.cell (p := ⟨b, off + k * 2, none⟩) hlt)).trans (HC.out k hlt2).1
        have kc : (k : Int) ≤ (cap : Int) := by omega
        have HO2 : Hid (w2.ownsRow V.heap.size 45 2 (.slice a2 (k + 1) c2) (l.take k ++ [(id, bt)]).length (pc (l.take k ++ [(id, bt)]))) := hO2
        have HB2 : Hid (Below V.heap.size V w2) := hb2
        clear hO2 hb2 hb1 hbl mm0 mm1
        go_wp2_with (at_builtin; first | refine wpList_append_run _ rfl (.tmp 23) (.tmp 26) 23 23 rfl _ _ _ _ rfl rfl hr1 ?_ | refine wpList_append_run _ rfl (.tmp 28) (.tmp 30) 23 23 rfl _ _ _ _ rfl rfl hr2 ?_)
        by_cases heq : idAt l k = id
        · have ed : (idAt l k == id) = true := by simp [heq]
          have PL : Hid (putL l id bt = l.take k ++ [(id, bt)] ++ l.drop (k + 1)) := (by show _ = _; rw [putL, PE.out, fe]; simp [heq])
          clear heq fe PE
          go_wp2
          go_quiet (fail)
          by_cases hq : cap = k + 1
          · subst hq
            obtain rfl : len = k + 1 := by omega
            obtain ⟨a3, c3, w3, hr3, hO3, hin3, hb3⟩ := put_threeR V w2 nq a2 (k + 1) c2 (l.take k ++ [(id, bt)]) HO2.out HB2.out (some ⟨b, off, none⟩) (k + 1 - (k + 1)) 0 (l.drop (k + 1)) ⟨(HT.out (k + 1) (by omega)).1, fun h => absurd h (by omega)⟩ (by have := HLN.out; simp; omega) (putN l id) (by rw [← PL.out]; exact putL_len l id bt)
            rw [← PL.out] at hO3
            have R : Hid (OwnR a3 c3 (putN l id) (putL l id bt) w3 ∧ (∀ Ad, a3 = some Ad → w.heap.size ≤ Ad.block ∧ Ad.block < w3.heap.size) ∧ Below w.heap.size w w3) := ⟨hO3, fun Ad e => ⟨Nat.le_trans HBq.out.size (hin3 Ad e).1, (hin3 Ad e).2⟩, Below.on HBq.out hb3⟩
            simp only [Nat.sub_self] at hr3
            clear hO3 hin3 hb3 HO2 HB2 HBq PL q0 q1 r0 s0
            go_wp2_with (at_builtin; refine wpList_append_run _ rfl (.tmp 48) (.tmp 51) 23 23 rfl _ _ _ _ rfl rfl hr3 ?_)
            go_ret
            exact ⟨a3, c3, rfl, R.out⟩
          · have k4 : (k : Int) + 1 < (cap : Int) := by omega
            obtain ⟨a3, c3, w3, hr3, hO3, hin3, hb3⟩ := put_threeR V w2 nq a2 (k + 1) c2 (l.take k ++ [(id, bt)]) HO2.out HB2.out (some ⟨b, off + (k + 1) * 2, none⟩) (len - (k + 1)) (cap - (k + 1)) (l.drop (k + 1)) (((HT.out (k + 1) (by omega)).below HBq.out).below HB2.out) (by have := HLN.out; simp; omega) (putN l id) (by rw [← PL.out]; exact putL_len l id bt)
            rw [← PL.out] at hO3
            have R : Hid (OwnR a3 c3 (putN l id) (putL l id bt) w3 ∧ (∀ Ad, a3 = some Ad → w.heap.size ≤ Ad.block ∧ Ad.block < w3.heap.size) ∧ Below w.heap.size w w3) := ⟨hO3, fun Ad e => ⟨Nat.le_trans HBq.out.size (hin3 Ad e).1, (hin3 Ad e).2⟩, Below.on HBq.out hb3⟩
            clear hO3 hin3 hb3 HO2 HB2 HBq PL q0 q1 r0 s0
            go_wp2_with (at_builtin; refine wpList_append_run _ rfl (.tmp 48) (.tmp 51) 23 23 rfl _ _ _ _ rfl rfl hr3 ?_)
            go_ret
            exact ⟨a3, c3, rfl, R.out⟩
        · have ed : (idAt l k == id) = false := by simp [heq]
          have PL : Hid (putL l id bt = l.take k ++ [(id, bt)] ++ l.drop k) := (by show _ = _; rw [putL, PE.out, fe]; simp [heq])
          have k4 : (k : Int) < (cap : Int) := by omega
          clear heq fe PE
          go_wp2
          go_quiet (fail)
          obtain ⟨a3, c3, w3, hr3, hO3, hin3, hb3⟩ := put_threeR V w2 nq a2 (k + 1) c2 (l.take k ++ [(id, bt)]) HO2.out HB2.out (some ⟨b, off + k * 2, none⟩) (len - (k)) (cap - (k)) (l.drop (k)) (((HT.out (k) (by omega)).below HBq.out).below HB2.out) (by have := HLN.out; simp; omega) (putN l id) (by rw [← PL.out]; exact putL_len l id bt)
          rw [← PL.out] at hO3
          have R : Hid (OwnR a3 c3 (putN l id) (putL l id bt) w3 ∧ (∀ Ad, a3 = some Ad → w.heap.size ≤ Ad.block ∧ Ad.block < w3.heap.size) ∧ Below w.heap.size w w3) := ⟨hO3, fun Ad e => ⟨Nat.le_trans HBq.out.size (hin3 Ad e).1, (hin3 Ad e).2⟩, Below.on HBq.out hb3⟩
          clear hO3 hin3 hb3 HO2 HB2 HBq PL q0 q1 r0 s0
          go_wp2_with (at_builtin; refine wpList_append_run _ rfl (.tmp 48) (.tmp 51) 23 23 rfl _ _ _ _ rfl rfl hr3 ?_)
          go_ret
          exact ⟨a3, c3, rfl, R.out⟩
    · have hke : k = len := by omega
      subst hke
      obtain ⟨pe, fe⟩ := HE.out hto.out
      have PL : Hid (putL l id bt = l.take k ++ [(id, bt)] ++ l.drop k) := (by show _ = _; rw [putL, pe, fe]; simp)
      have dlt : decide ((k : Int) < (k : Int)) = false := decide_eq_false (by omega)
      clear pe fe hto
      go_wp2
      go_quiet (fail)
      have HBq : Hid (Below w.heap.size w (W.drewN nq)) := below_drewM HBn.out nq
      have mm0 : (W.drewN nq).cell? ⟨w.heap.size, 0, none⟩ = some (.int .i64 id) := m0
      have mm1 : (W.drewN nq).cell? ⟨w.heap.size, 1, none⟩ = some (.int .i64 bt) := m1
      have hszq : (W.drewN nq).heap.size = W.heap.size := by simp
      have hsW : w.heap.size < (W.drewN nq).heap.size := by rw [hszq, ← hW]; simpa using hs0
      clear hW m0 m1 HBn hszq
      generalize W.drewN nq = V at HBq mm0 mm1 hsW ⊢
      obtain ⟨a1, c1, w1, hr1, hb1, a2, c2, w2, hr2, hO2, hb2⟩ := put_two V V.heap.size rfl (some ⟨b, off, none⟩) k cap (l.take k) ((HH.out k (by omega)).below HBq.out) (by omega) id bt
      have q0 : w1.cell? ⟨w.heap.size, 0, none⟩ = some (.int .i64 id) := (hb1.cell (p := ⟨w.heap.size, 0, none⟩) hsW).trans mm0
      have q1 : w1.cell? ⟨w.heap.size, 1, none⟩ = some (.int .i64 bt) := (hb1.cell (p := ⟨w.heap.size, 1, none⟩) hsW).trans mm1
      have r0 : w2.cell? ⟨w.heap.size, 0, none⟩ = some (.int .i64 id) := (hb2.cell (p := ⟨w.heap.size, 0, none⟩) hsW).trans mm0
      have kc : (k : Int) ≤ (cap : Int) := by omega
      have HO2 : Hid (w2.ownsRow V.heap.size 45 2 (.slice a2 (k + 1) c2) (l.take k ++ [(id, bt)]).length (pc (l.take k ++ [(id, bt)]))) := hO2
      have HB2 : Hid (Below V.heap.size V w2) := hb2
      clear hO2 hb2 hb1 mm0 mm1
      by_cases hq : cap = k
      · have hq2 : k = cap := hq.symm
        subst hq2
        go_wp2_with (at_builtin; first | refine wpList_append_run _ rfl (.tmp 23) (.tmp 26) 23 23 rfl _ _ _ _ rfl rfl hr1 ?_ | refine wpList_append_run _ rfl (.tmp 28) (.tmp 30) 23 23 rfl _ _ _ _ rfl rfl hr2 ?_)
        go_quiet (fail)
        obtain ⟨a3, c3, w3, hr3, hO3, hin3, hb3⟩ := put_threeR V w2 nq a2 (k + 1) c2 (l.take k ++ [(id, bt)]) HO2.out HB2.out (some ⟨b, off, none⟩) (k - k) 0 (l.drop k) ⟨(HT.out k (by omega)).1, fun h => absurd h (by omega)⟩ (by have := HLN.out; simp; omega) (putN l id) (by rw [← PL.out]; exact putL_len l id bt)
        rw [← PL.out] at hO3
        have R : Hid (OwnR a3 c3 (putN l id) (putL l id bt) w3 ∧ (∀ Ad, a3 = some Ad → w.heap.size ≤ Ad.block ∧ Ad.block < w3.heap.size) ∧ Below w.heap.size w w3) := ⟨hO3, fun Ad e => ⟨Nat.le_trans HBq.out.size (hin3 Ad e).1, (hin3 Ad e).2⟩, Below.on HBq.out hb3⟩
        simp only [Nat.sub_self] at hr3
        clear hO3 hin3 hb3 HO2 HB2 HBq PL q0 q1 r0
        go_wp2_with (at_builtin; refine wpList_append_run _ rfl (.tmp 48) (.tmp 51) 23 23 rfl _ _ _ _ rfl rfl hr3 ?_)
        go_ret
        exact ⟨a3, c3, rfl, R.out⟩
      · have k4 : (k : Int) < (cap : Int) := by omega
        go_wp2_with (at_builtin; first | refine wpList_append_run _ rfl (.tmp 23) (.tmp 26) 23 23 rfl _ _ _ _ rfl rfl hr1 ?_ | refine wpList_append_run _ rfl (.tmp 28) (.tmp 30) 23 23 rfl _ _ _ _ rfl rfl hr2 ?_)
        go_quiet (fail)
        obtain ⟨a3, c3, w3, hr3, hO3, hin3, hb3⟩ := put_threeR V w2 nq a2 (k + 1) c2 (l.take k ++ [(id, bt)]) HO2.out HB2.out (some ⟨b, off + k * 2, none⟩) (k - k) (cap - k) (l.drop k) (((HT.out k (by omega)).below HBq.out).below HB2.out) (by have := HLN.out; simp; omega) (putN l id) (by rw [← PL.out]; exact putL_len l id bt)
        rw [← PL.out] at hO3
        have R : Hid (OwnR a3 c3 (putN l id) (putL l id bt) w3 ∧ (∀ Ad, a3 = some Ad → w.heap.size ≤ Ad.block ∧ Ad.block < w3.heap.size) ∧ Below w.heap.size w w3) := ⟨hO3, fun Ad e => ⟨Nat.le_trans HBq.out.size (hin3 Ad e).1, (hin3 Ad e).2⟩, Below.on HBq.out hb3⟩
        simp only [Nat.sub_self] at hr3
        clear hO3 hin3 hb3 HO2 HB2 HBq PL q0 q1 r0
        go_wp2_with (at_builtin; refine wpList_append_run _ rfl (.tmp 48) (.tmp 51) 23 23 rfl _ _ _ _ rfl rfl hr3 ?_)
        go_ret
        exact ⟨a3, c3, rfl, R.out⟩
set_option maxRecDepth 100000 in
set_option maxHeartbeats 4000000 in
/-- spec.l03Put of a list that is empty. -/
theorem sPutR_zero (a : Option Addr) (cap : Nat) (id bt : Int) (w : World) :
    Calls Tryz.prog 69 #[.slice a 0 cap, .agg #[.int .i64 id, .int .i64 bt]] w fun e w' => ∃ a' c', e = .returned (.slice a' 1 c') ∧ OwnR a' c' 1 [(id, bt)] w' ∧ (∀ Ad, a' = some Ad → w.heap.size ≤ Ad.block ∧ Ad.block < w'.heap.size) ∧ Below w.heap.size w w' := by
  obtain ⟨n0, n1⟩ := pair_new w (.int .i64 id) (.int .i64 bt) 45
  have hB0 : Hid (Below w.heap.size w (w.alloc (.cells #[.int .i64 id, .int .i64 bt] 45))) := bel_alloc _ _
  have hs0 : w.heap.size < (w.alloc (.cells #[.int .i64 id, .int .i64 bt] 45)).heap.size := by simp
  have kc : (0 : Int) ≤ (cap : Int) := by omega
  cases a with
  | none =>
    go_enter Tryz.func69, Tryz.ntmps69
    go_wp2
    refine wp_loop_rounds 1 ?_
    rw [rounds_succ]
    go_wp2
    generalize w.alloc (.cells #[.int .i64 id, .int .i64 bt] 45) = W at n0 n1 hB0 hs0 ⊢
    go_quiet (fail)
    have HBq : Hid (Below w.heap.size w (W.drewN nq)) := below_drewM hB0.out nq
    have mm0 : (W.drewN nq).cell? ⟨w.heap.size, 0, none⟩ = some (.int .i64 id) := n0
    have mm1 : (W.drewN nq).cell? ⟨w.heap.size, 1, none⟩ = some (.int .i64 bt) := n1
    have hszq : (W.drewN nq).heap.size = W.heap.size := by simp
    have hsW : w.heap.size < (W.drewN nq).heap.size := by rw [hszq]; exact hs0
    clear n0 n1 hB0 hszq hs0
    generalize W.drewN nq = V at HBq mm0 mm1 hsW ⊢
    obtain ⟨a1, c1, w1, hr1, hb1, a2, c2, w2, hr2, hO2, hb2⟩ := put_two V V.heap.size rfl none 0 cap [] ⟨rfl, fun h => absurd h (by omega)⟩ (by omega) id bt
    have q0 : w1.cell? ⟨w.heap.size, 0, none⟩ = some (.int .i64 id) := (hb1.cell (p := ⟨w.heap.size, 0, none⟩) hsW).trans mm0
    have q1 : w1.cell? ⟨w.heap.size, 1, none⟩ = some (.int .i64 bt) := (hb1.cell (p := ⟨w.heap.size, 1, none⟩) hsW).trans mm1
    have r0 : w2.cell? ⟨w.heap.size, 0, none⟩ = some (.int .i64 id) := (hb2.cell (p := ⟨w.heap.size, 0, none⟩) hsW).trans mm0
    have HO2 : Hid (w2.ownsRow V.heap.size 45 2 (.slice a2 (0 + 1) c2) ([] ++ [(id, bt)]).length (pc ([] ++ [(id, bt)]))) := hO2
    have HB2 : Hid (Below V.heap.size V w2) := hb2
    clear hO2 hb2 hb1 mm0 mm1
    simp only [Nat.zero_add] at hr2
    go_wp2_with (at_builtin; first | refine wpList_append_run _ rfl (.tmp 23) (.tmp 26) 23 23 rfl _ _ _ _ rfl rfl hr1 ?_ | refine wpList_append_run _ rfl (.tmp 28) (.tmp 30) 23 23 rfl _ _ _ _ rfl rfl hr2 ?_)
    go_quiet (fail)
    obtain ⟨a3, c3, w3, hr3, hO3, hin3, hb3⟩ := put_threeR V w2 nq a2 (0 + 1) c2 ([] ++ [(id, bt)]) HO2.out HB2.out none 0 cap [] ⟨rfl, fun h => absurd h (by omega)⟩ (by simp) 1 (by simp)
    have R : Hid (OwnR a3 c3 1 [(id, bt)] w3 ∧ (∀ Ad, a3 = some Ad → w.heap.size ≤ Ad.block ∧ Ad.block < w3.heap.size) ∧ Below w.heap.size w w3) := ⟨by simpa using hO3, fun Ad e => ⟨Nat.le_trans HBq.out.size (hin3 Ad e).1, (hin3 Ad e).2⟩, Below.on HBq.out hb3⟩
    clear hO3 hin3 hb3 HO2 HB2 HBq q0 q1 r0
    simp only [Nat.zero_add] at hr3
    go_wp2_with (at_builtin; refine wpList_append_run _ rfl (.tmp 48) (.tmp 51) 23 23 rfl _ _ _ _ rfl rfl hr3 ?_)
    all_goals (
      go_ret
      exact ⟨a3, c3, rfl, R.out⟩)
  | some A =>
    go_enter Tryz.func69, Tryz.ntmps69
    go_wp2
    refine wp_loop_rounds 1 ?_
    rw [rounds_succ]
    go_wp2
    generalize w.alloc (.cells #[.int .i64 id, .int .i64 bt] 45) = W at n0 n1 hB0 hs0 ⊢
    go_quiet (fail)
    have HBq : Hid (Below w.heap.size w (W.drewN nq)) := below_drewM hB0.out nq
    have mm0 : (W.drewN nq).cell? ⟨w.heap.size, 0, none⟩ = some (.int .i64 id) := n0
    have mm1 : (W.drewN nq).cell? ⟨w.heap.size, 1, none⟩ = some (.int .i64 bt) := n1
    have hszq : (W.drewN nq).heap.size = W.heap.size := by simp
    have hsW : w.heap.size < (W.drewN nq).heap.size := by rw [hszq]; exact hs0
    clear n0 n1 hB0 hszq hs0
    generalize W.drewN nq = V at HBq mm0 mm1 hsW ⊢
    obtain ⟨a1, c1, w1, hr1, hb1, a2, c2, w2, hr2, hO2, hb2⟩ := put_two V V.heap.size rfl (some A) 0 cap [] ⟨rfl, fun h => absurd h (by omega)⟩ (by omega) id bt
    have q0 : w1.cell? ⟨w.heap.size, 0, none⟩ = some (.int .i64 id) := (hb1.cell (p := ⟨w.heap.size, 0, none⟩) hsW).trans mm0
    have q1 : w1.cell? ⟨w.heap.size, 1, none⟩ = some (.int .i64 bt) := (hb1.cell (p := ⟨w.heap.size, 1, none⟩) hsW).trans mm1
    have r0 : w2.cell? ⟨w.heap.size, 0, none⟩ = some (.int .i64 id) := (hb2.cell (p := ⟨w.heap.size, 0, none⟩) hsW).trans mm0
    have HO2 : Hid (w2.ownsRow V.heap.size 45 2 (.slice a2 (0 + 1) c2) ([] ++ [(id, bt)]).length (pc ([] ++ [(id, bt)]))) := hO2
    have HB2 : Hid (Below V.heap.size V w2) := hb2
    clear hO2 hb2 hb1 mm0 mm1
    simp only [Nat.zero_add] at hr2
    go_wp2_with (at_builtin; first | refine wpList_append_run _ rfl (.tmp 23) (.tmp 26) 23 23 rfl _ _ _ _ rfl rfl hr1 ?_ | refine wpList_append_run _ rfl (.tmp 28) (.tmp 30) 23 23 rfl _ _ _ _ rfl rfl hr2 ?_)
    go_quiet (fail)
    obtain ⟨a3, c3, w3, hr3, hO3, hin3, hb3⟩ := put_threeR V w2 nq a2 (0 + 1) c2 ([] ++ [(id, bt)]) HO2.out HB2.out (some A) 0 cap [] ⟨rfl, fun h => absurd h (by omega)⟩ (by simp) 1 (by simp)
    have R : Hid (OwnR a3 c3 1 [(id, bt)] w3 ∧ (∀ Ad, a3 = some Ad → w.heap.size ≤ Ad.block ∧ Ad.block < w3.heap.size) ∧ Below w.heap.size w w3) := ⟨by simpa using hO3, fun Ad e => ⟨Nat.le_trans HBq.out.size (hin3 Ad e).1, (hin3 Ad e).2⟩, Below.on HBq.out hb3⟩
    clear hO3 hin3 hb3 HO2 HB2 HBq q0 q1 r0
    simp only [Nat.zero_add] at hr3
    go_wp2_with (at_builtin; refine wpList_append_run _ rfl (.tmp 48) (.tmp 51) 23 23 rfl _ _ _ _ rfl rfl hr3 ?_)
    all_goals (
      go_ret
      exact ⟨a3, c3, rfl, R.out⟩)
/-- spec.l03Put. -/
theorem sPutR_any (a : Option Addr) (len cap : Nat) (l : List (Int × Int)) (id bt : Int) (hcap : len ≤ cap) (hm : len ≤ 1000) (w : World) (hp : Prs a len l w) :
    Calls Tryz.prog 69 #[.slice a len cap, .agg #[.int .i64 id, .int .i64 bt]] w fun e w' => ∃ a' c', e = .returned (.slice a' (putN l id) c') ∧ OwnR a' c' (putN l id) (putL l id bt) w' ∧ (∀ Ad, a' = some Ad → w.heap.size ≤ Ad.block ∧ Ad.block < w'.heap.size) ∧ Below w.heap.size w w' := by
  obtain ⟨hln, hp⟩ := hp
  by_cases h0 : 0 < len
  · obtain ⟨b, off, rfl, hlt, hc⟩ := hp h0
    exact sPutR_some b off cap l len hln h0 id bt hcap hm w hlt (by rw [hln]; exact hc)
  · have e0 : len = 0 := by omega
    have el : l = [] := List.eq_nil_of_length_eq_zero (by rw [hln]; exact e0)
    subst e0 el
    have e1 : putN [] id = 1 := by simp [putN, fnd]
    have e2 : putL [] id bt = [(id, bt)] := by simp [putL]
    rw [e1, e2]
    exact sPutR_zero a cap id bt w
end Go.Proofs.YtgooanaacebncaaGreatDoor
