/- NfsTrim, the program's. -/
import Derived.Test.YtklaebcdbbgooabSaid
import Derived.Test.YtklaebcdbbgooabNfsBorn
import Derived.Test.YtklaebcdbbgooabAceSplice
import Derived.Deep.RegionWith
import Derived.Deep.RegionHeld3
namespace Go.Proofs.Ytklaebcdbbgooab
open Go.RowKit Go.PlainAid Go.Deep
set_option linter.unusedVariables false
/-- What an ace at a place has left. -/
def trimM (l : List Ac) (k : Nat) : Int := if (acAt l k).fl % 4 = 0 then bits .andNot .i64 (acAt l k).ma (saidI (fltP (likeB (acAt l k)) l k)) else (acAt l k).ma
def trimX (x : Ac) (m : Int) : Ac := ⟨x.al, x.wh, x.id, x.fl, m⟩
def trimO (l : List Ac) (k : Nat) : List Ac := if trimM l k = 0 then [] else [trimX (acAt l k) (trimM l k)]
def trimP (l : List Ac) : Nat → List Ac
  | 0 => []
  | k + 1 => trimP l k ++ trimO l k
/-- NfsTrim. -/
def trimL (l : List Ac) : List Ac := if acesB l then trimP l l.length else []
theorem trimP_len (l : List Ac) (k : Nat) : (trimP l k).length ≤ k := by
  induction k with
  | zero => exact Nat.le_refl _
  | succ k ih =>
    have : (trimO l k).length ≤ 1 := by unfold trimO; split <;> simp
    simp only [trimP, List.length_append]
    omega
theorem trimL_len (l : List Ac) : (trimL l).length ≤ 32 := by
  unfold trimL
  split
  · rename_i h
    have := trimP_len l l.length
    have h2 := aces_len h
    omega
  · simp
theorem trimP_yes {l : List Ac} {k : Nat} (h : ¬ trimM l k = 0) : trimP l (k + 1) = trimP l k ++ [trimX (acAt l k) (trimM l k)] := by simp [trimP, trimO, h]
theorem trimP_no {l : List Ac} {k : Nat} (h : trimM l k = 0) : trimP l (k + 1) = trimP l k := by simp [trimP, trimO, h]
theorem fltP_take (p : Ac → Bool) (l : List Ac) (n k : Nat) (h : k ≤ n) : fltP p (l.take n) k = fltP p l k := by
  induction k with
  | zero => rfl
  | succ k ih => simp only [fltP, ih (by omega), acAt_take (show k < n by omega)]
set_option maxHeartbeats 1000000 in
theorem saysNothing_any (x : Ac) (w : World) :
    Calls Try.prog 36 #[.agg #[.bool x.al, .int .i64 x.wh, .int .i64 x.id, .int .i64 x.fl, .int .i64 x.ma]] w fun e w' => e = .returned (.bool (decide (x.ma = 0))) ∧ Below w.heap.size w w' := by
  go_enter Try.func36, Try.ntmps36
  go_wp2
  go_ret
  exact ⟨ret_boolW rfl, bel_alloc _ _⟩
set_option maxRecDepth 100000 in
set_option maxHeartbeats 8000000 in
theorem iNfsTrim_some (b off cap : Nat) (l : List Ac) (hcap : l.length ≤ cap) (ha : acesB l = true) (w : World) (hb : b < w.heap.size) (hc : ∀ i, i < l.length → Five w b (off + i * 5) (acAt l i)) :
    Calls Try.prog 23 #[.slice (some ⟨b, off, none⟩) l.length cap] w (AnsL (trimP l l.length) w) := by
  have hR : Hid (Calls Try.prog 25 #[.slice (some ⟨b, off, none⟩) l.length cap] w fun e w' => e = .returned (.bool true) ∧ Below w.heap.size w w') := (by
    have := iNfsRight_any (some ⟨b, off, none⟩) l.length cap l w ⟨rfl, fun _ => ⟨b, off, rfl, hb, hc⟩⟩
    rwa [ha] at this)
  have HC : Hid (∀ i, i < l.length → Five w b (off + i * 5) (acAt l i)) := hc
  have HF : Hid (∀ i, i < l.length → 0 ≤ (acAt l i).fl ∧ (acAt l i).fl ≤ 15) := (fun i hi => (aceB_iff.1 (aces_at ha hi)).2.2.2.1.1)
  have hl := aces_len ha
  have hSA : Hid (∀ k x w', k < l.length → Below w.heap.size w w' → Calls Try.prog 35 #[.slice (some ⟨b, off, none⟩) k cap, .agg #[.bool x.al, .int .i64 x.wh, .int .i64 x.id, .int .i64 x.fl, .int .i64 x.ma]] w' fun e w'' => e = .returned (.int .i64 (saidI (fltP (likeB x) l k))) ∧ Below w'.heap.size w' w'') := (fun k x w' hk hbw => by
    have hA := (acs_take (n := k) (by omega) hb hc).below hbw
    have := saidAhead_any (some ⟨b, off, none⟩) k cap (l.take k) x (by omega) (fun i hi => by rw [acAt_take hi]; exact HF.out i (by omega)) w' hA
    rwa [fltP_take _ _ _ _ (Nat.le_refl _)] at this)
  clear hc ha
  have hcapI : (l.length : Int) ≤ (cap : Int) := by omega
  generalize hlen : l.length = len at hl HC HF hR hSA hcap hcapI ⊢
  clear hlen
  go_enter Try.func23, Try.ntmps23
  go_wp2_with fail
  refine hR.out.mono ?_
  rintro e w0 ⟨rfl, hb0⟩
  have hB0 : Hid (Below w.heap.size w w0) := hb0
  clear hb0 hR
  go_wp2
  go_loopw [3, 11] (fun v i wr => ∃ k : Nat, k ≤ len ∧ i = .int .i64 k ∧ Hid (wr.ownsRow w.heap.size 35 5 v (trimP l k).length (pcA (trimP l k))) ∧ Hid (Below w.heap.size w wr)) (fun _ i _ => len - (intOf i).toNat)
  case atStart => exact ⟨0, Nat.zero_le _, rfl, World.ownsRow_nil _ _ _ _, hB0⟩
  case round =>
    obtain ⟨k, hk, rfl, hO, hB⟩ := hrel
    by_cases hlt : k < len
    · have hlt' : (k : Int) < (len : Int) := by omega
      have hkc : (k : Int) ≤ (cap : Int) := by omega
      obtain ⟨g0, g1, g2, g3, g4⟩ := (HC.out k hlt).keep (fun j => hB.out.cell (p := ⟨b, j, none⟩) hb)
      obtain ⟨f0, f1⟩ := HF.out k hlt
      have HN : Hid (trimM l k = 0 → ∀ (w' : World) (v : Value), w'.ownsRow w.heap.size 35 5 v (trimP l k).length (pcA (trimP l k)) → w'.ownsRow w.heap.size 35 5 v (trimP l (k + 1)).length (pcA (trimP l (k + 1)))) := (fun h w' v h2 => by rw [trimP_no h]; exact h2)
      have HY : Hid (¬ trimM l k = 0 → ∀ (w' : World) (v : Value), w'.ownsRow w.heap.size 35 5 v (trimP l k ++ [trimX (acAt l k) (trimM l k)]).length (pcA (trimP l k ++ [trimX (acAt l k) (trimM l k)])) → w'.ownsRow w.heap.size 35 5 v (trimP l (k + 1)).length (pcA (trimP l (k + 1)))) := (fun h w' v h2 => by rw [trimP_yes h]; exact h2)
      have hP := trimP_len l k
      have HM : Hid (trimM l k = if (acAt l k).fl % 4 = 0 then bits .andNot .i64 (acAt l k).ma (saidI (fltP (likeB (acAt l k)) l k)) else (acAt l k).ma) := rfl
      have hS1 : Hid (∀ w', Below w.heap.size w w' → Calls Try.prog 35 #[.slice (some ⟨b, off, none⟩) k cap, .agg #[.bool (acAt l k).al, .int .i64 (acAt l k).wh, .int .i64 (acAt l k).id, .int .i64 (acAt l k).fl, .int .i64 (acAt l k).ma]] w' fun e w'' => e = .returned (.int .i64 (saidI (fltP (likeB (acAt l k)) l k))) ∧ Below w'.heap.size w' w'') := (fun w' hbw => hSA.out k _ w' hlt hbw)
      generalize saidI (fltP (likeB (acAt l k)) l k) = sd at HM hS1
      generalize trimM l k = tm at HN HY HM
      generalize trimP l k = acc at hO HN HY hP
      generalize acAt l k = x at g0 g1 g2 g3 g4 f0 f1 HN HY HM hS1
      have ea := and3 f0 f1
      have hbA := bel_alloc wr (.cells #[.bool x.al, .int .i64 x.wh, .int .i64 x.id, .int .i64 x.fl, .int .i64 x.ma] 35)
      have hF := five_new wr x 35
      clear HC HF f0 f1 hSA
      by_cases h4 : x.fl % 4 = 0
      · have HM2 : Hid (tm = bits .andNot .i64 x.ma sd) := (by show _ = _; rw [HM.out, if_pos h4])
        have hBA : Hid (Below w.heap.size w (wr.alloc (.cells #[.bool x.al, .int .i64 x.wh, .int .i64 x.id, .int .i64 x.fl, .int .i64 x.ma] 35))) := Below.on hB.out hbA
        have hOA : Hid (∀ W2, Below wr.heap.size wr W2 → W2.ownsRow w.heap.size 35 5 u3 acc.length (pcA acc)) := (fun W2 h => rowA_below hO.out h)
        have hbW : Hid (Below wr.heap.size wr (wr.alloc (.cells #[.bool x.al, .int .i64 x.wh, .int .i64 x.id, .int .i64 x.fl, .int .i64 x.ma] 35))) := hbA
        have hBT : Hid (∀ W2, Below wr.heap.size wr W2 → Below w.heap.size w W2) := (fun W2 h => Below.on hB.out h)
        have hQ : Hid (Five (wr.alloc (.cells #[.bool x.al, .int .i64 x.wh, .int .i64 x.id, .int .i64 x.fl, .int .i64 x.ma] 35)) wr.heap.size 0 x) := hF
        have hqz : Hid ((wr.alloc (.cells #[.bool x.al, .int .i64 x.wh, .int .i64 x.id, .int .i64 x.fl, .int .i64 x.ma] 35)).heap.size = wr.heap.size + 1) := (by show _ = _; simp)
        have hqf : Hid ((wr.alloc (.cells #[.bool x.al, .int .i64 x.wh, .int .i64 x.id, .int .i64 x.fl, .int .i64 x.ma] 35)).frozen? ⟨wr.heap.size, 4, none⟩ = false) := (by show _ = _; simp [go_sem])
        have hwz : Hid (w.heap.size ≤ wr.heap.size) := hB.out.size
        clear hF hbA HM hO hB
        go_wp2_with fail
        generalize (wr.alloc (.cells #[.bool x.al, .int .i64 x.wh, .int .i64 x.id, .int .i64 x.fl, .int .i64 x.ma] 35)) = W at hBA hbW hQ hqz hqf ⊢
        generalize wr.heap.size = X at hQ hqz hqf hwz hOA hbW hBT ⊢
        obtain ⟨c0, c1, c2, c3, c4⟩ := hQ.out
        simp only [Nat.zero_add] at c1 c2 c3 c4
        have cf := hqf.out
        clear g0 g1 g2 g3 g4
        go_region_with (go_at_call 35; refine (hS1.out _ (below_drewA hBA.out)).mono ?_; rintro e w1 ⟨rfl, hb1⟩; have hB1 : Hid (Below W.heap.size W w1) := below_drewZ hb1; obtain ⟨d0, d1, d2, d3, d4⟩ := hQ.out.below (by rw [hqz.out]; omega) hB1.out; simp only [Nat.zero_add] at d1 d2 d3 d4; have df := (hB1.out.frozen (p := ⟨X, 4, none⟩) (by rw [hqz.out]; show X < _; omega)).trans hqf.out)
        all_goals (
          rw [← HM2.out]
          have hbW1 : Below X wr w1 := hbW.out.trans (hB1.out.mono (by rw [hqz.out]; omega))
          have hbW2 : Below X wr (w1.setCell ⟨X, 4, none⟩ (.int .i64 tm)) := bl_setA hbW1 (Nat.le_refl _)
          have hF2 : Five (w1.setCell ⟨X, 4, none⟩ (.int .i64 tm)) X 0 (trimX x tm) := ⟨by simp [go_sem, d0, trimX], by simp [go_sem, d1, trimX], by simp [go_sem, d2, trimX], by simp [go_sem, d3, trimX], by simp [go_sem, d4, trimX]⟩
          have hX2 : X < (w1.setCell ⟨X, 4, none⟩ (.int .i64 tm)).heap.size := block_lt_of_cell hF2.c0
          have HO2 : Hid ((w1.setCell ⟨X, 4, none⟩ (.int .i64 tm)).ownsRow w.heap.size 35 5 u3 acc.length (pcA acc)) := hOA.out _ hbW2
          have HB2 : Hid (Below w.heap.size w (w1.setCell ⟨X, 4, none⟩ (.int .i64 tm))) := hBT.out _ hbW2
          clear hbW1 hbW2 hOA hBT hbW hB1 hb1 d0 d1 d2 d3 d4 df c0 c1 c2 c3 c4 cf hQ hqf hqz hBA hS1 HM2 ea
          generalize w1.setCell ⟨X, 4, none⟩ (.int .i64 tm) = w2 at hF2 hX2 HO2 HB2 ⊢
          obtain ⟨e0, e1, e2, e3, e4⟩ := hF2
          simp only [Nat.zero_add, trimX] at e0 e1 e2 e3 e4
          go_wp2_with fail
          refine (saysNothing_any (trimX x tm) _).mono ?_
          rintro e w3 ⟨rfl, hb3⟩
          have hF3 : Five w3 X 0 (trimX x tm) := (Five.mk (by simpa [trimX] using e0) (by simpa [trimX] using e1) (by simpa [trimX] using e2) (by simpa [trimX] using e3) (by simpa [trimX] using e4) : Five w2 X 0 (trimX x tm)).below hX2 hb3
          obtain ⟨m0, m1, m2, m3, m4⟩ := hF3
          simp only [Nat.zero_add, trimX] at m0 m1 m2 m3 m4
          have HO3 : Hid (w3.ownsRow w.heap.size 35 5 u3 acc.length (pcA acc)) := rowA_below HO2.out hb3
          have HB3 : Hid (Below w.heap.size w w3) := Below.on HB2.out hb3
          clear hb3 e0 e1 e2 e3 e4 HO2 HB2 hX2
          by_cases hz : tm = 0
          · have HO4 : Hid (w3.ownsRow w.heap.size 35 5 u3 (trimP l (k + 1)).length (pcA (trimP l (k + 1)))) := HN.out hz _ _ HO3.out
            have hzd : decide (tm = 0) = true := by simpa using hz
            have hzd : decide ((trimX x tm).ma = 0) = true := hzd
            clear HN HY HO3 hz
            go_wp2
            go_roundw
            case rel => exact ⟨k + 1, by omega, by go_num, HO4, HB3⟩
            case measure => simp [intOf]; omega
          · obtain ⟨v4, w4, hr, hO4, hB4⟩ := append_one (P := Try.prog) w w3 24 24 35 Try.underlying24 infoAce u3 acc HO3.out HB3.out (trimX x tm) (by omega)
            simp only [trimX] at hr
            have HO4 : Hid (w4.ownsRow w.heap.size 35 5 v4 (trimP l (k + 1)).length (pcA (trimP l (k + 1)))) := HY.out hz _ _ hO4
            have HB4 : Hid (Below w.heap.size w w4) := hB4
            have hzd : decide (tm = 0) = false := by simpa using hz
            have hzd : decide ((trimX x tm).ma = 0) = false := hzd
            clear HN HY HO3 hz hO4 hB4 HB3
            go_wp2_with (at_builtin; refine wpList_append_runA _ rfl (.tmp 32) (.tmp 34) 24 24 rfl _ _ _ _ rfl rfl hr ?_)
            go_roundw
            case rel => exact ⟨k + 1, by omega, by go_num, HO4, HB4⟩
            case measure => simp [intOf]; omega)
      · have HM2 : Hid (tm = x.ma) := (by show _ = _; rw [HM.out, if_neg h4])
        have h4' : (x.fl % 4 == 0) = false := by simpa using h4
        have hBA : Hid (Below w.heap.size w (wr.alloc (.cells #[.bool x.al, .int .i64 x.wh, .int .i64 x.id, .int .i64 x.fl, .int .i64 x.ma] 35))) := Below.on hB.out hbA
        have hOA : Hid ((wr.alloc (.cells #[.bool x.al, .int .i64 x.wh, .int .i64 x.id, .int .i64 x.fl, .int .i64 x.ma] 35)).ownsRow w.heap.size 35 5 u3 acc.length (pcA acc)) := rowA_below hO.out hbA
        have e0 : tm = x.ma := HM2.out
        subst e0
        have hX2 : wr.heap.size < (wr.alloc (.cells #[.bool x.al, .int .i64 x.wh, .int .i64 x.id, .int .i64 x.fl, .int .i64 x.ma] 35)).heap.size := by simp
        have HO2 := hOA
        have HB2 := hBA
        clear hbA HM hO hB HM2 hOA hBA hS1
        go_wp2_with fail
        generalize (wr.alloc (.cells #[.bool x.al, .int .i64 x.wh, .int .i64 x.id, .int .i64 x.fl, .int .i64 x.ma] 35)) = w2 at hF hX2 HO2 HB2 ⊢
        generalize wr.heap.size = X at hF hX2 ⊢
        obtain ⟨e0, e1, e2, e3, e4⟩ := hF
        simp only [Nat.zero_add] at e1 e2 e3 e4
        clear g0 g1 g2 g3 g4 h4 h4' ea
        go_wp2_with fail
        refine (saysNothing_any x _).mono ?_
        rintro e w3 ⟨rfl, hb3⟩
        have hF3 : Five w3 X 0 x := (Five.mk e0 (by simpa using e1) (by simpa using e2) (by simpa using e3) (by simpa using e4) : Five w2 X 0 x).below hX2 hb3
        obtain ⟨m0, m1, m2, m3, m4⟩ := hF3
        simp only [Nat.zero_add] at m1 m2 m3 m4
        have HO3 : Hid (w3.ownsRow w.heap.size 35 5 u3 acc.length (pcA acc)) := rowA_below HO2.out hb3
        have HB3 : Hid (Below w.heap.size w w3) := Below.on HB2.out hb3
        clear hb3 e0 e1 e2 e3 e4 HO2 HB2 hX2
        by_cases hz : x.ma = 0
        · have HO4 : Hid (w3.ownsRow w.heap.size 35 5 u3 (trimP l (k + 1)).length (pcA (trimP l (k + 1)))) := HN.out hz _ _ HO3.out
          have hzd : decide (x.ma = 0) = true := by simpa using hz
          clear HN HY HO3 hz
          go_wp2
          go_roundw
          case rel => exact ⟨k + 1, by omega, by go_num, HO4, HB3⟩
          case measure => simp [intOf]; omega
        · obtain ⟨v4, w4, hr, hO4, hB4⟩ := append_one (P := Try.prog) w w3 24 24 35 Try.underlying24 infoAce u3 acc HO3.out HB3.out x (by omega)
          have HO4 : Hid (w4.ownsRow w.heap.size 35 5 v4 (trimP l (k + 1)).length (pcA (trimP l (k + 1)))) := HY.out hz _ _ hO4
          have HB4 : Hid (Below w.heap.size w w4) := hB4
          have hzd : decide (x.ma = 0) = false := by simpa using hz
          clear HN HY HO3 hz hO4 hB4 HB3
          go_wp2_with (at_builtin; refine wpList_append_runA _ rfl (.tmp 32) (.tmp 34) 24 24 rfl _ _ _ _ rfl rfl hr ?_)
          go_roundw
          case rel => exact ⟨k + 1, by omega, by go_num, HO4, HB4⟩
          case measure => simp [intOf]; omega
    · have : k = len := by omega
      subst this
      go_wp2
      go_ret
      exact ansL_row hO.out hB.out
set_option maxHeartbeats 2000000 in
theorem iNfsTrim_no (a : Option Addr) (len cap : Nat) (l : List Ac) (ha : acesB l = false) (w : World) (hi : Acs a len l w) :
    Calls Try.prog 23 #[.slice a len cap] w (AnsL [] w) := by
  have hR : Hid (Calls Try.prog 25 #[.slice a len cap] w fun e w' => e = .returned (.bool false) ∧ Below w.heap.size w w') := (by
    have := iNfsRight_any a len cap l w hi
    rwa [ha] at this)
  clear hi ha
  go_enter Try.func23, Try.ntmps23
  go_wp2_with fail
  refine hR.out.mono ?_
  rintro e w0 ⟨rfl, hb0⟩
  have hB0 : Hid (Below w.heap.size w w0) := hb0
  clear hb0 hR
  go_wp2
  go_ret
  exact ansL_nil rfl (fun A e => by cases e) hB0.out
set_option maxHeartbeats 2000000 in
theorem iNfsTrim_none (a : Option Addr) (cap : Nat) (w : World) :
    Calls Try.prog 23 #[.slice a 0 cap] w (AnsL [] w) := by
  have hR : Hid (Calls Try.prog 25 #[.slice a 0 cap] w fun e w' => e = .returned (.bool true) ∧ w' = w) := iNfsRight_none a cap w
  go_enter Try.func23, Try.ntmps23
  go_wp2_with (go_at_call 25; refine hR.out.mono ?_; rintro e w ⟨rfl, rfl⟩)
  go_rounds 1
  go_ret
  exact ansL_nil rfl (fun A e => by cases e) (Below.refl _ _)
/-- impl.NfsTrim. -/
theorem iNfsTrim_any (a : Option Addr) (len cap : Nat) (l : List Ac) (hcap : len ≤ cap) (w : World) (hi : Acs a len l w) :
    Calls Try.prog 23 #[.slice a len cap] w (AnsL (trimL l) w) := by
  cases ha : acesB l
  · have e : trimL l = [] := by simp [trimL, ha]
    rw [e]
    exact iNfsTrim_no a len cap l ha w hi
  · have e : trimL l = trimP l l.length := by simp [trimL, ha]
    rw [e]
    obtain ⟨hln, hp⟩ := hi
    subst hln
    by_cases h0 : l.length = 0
    · rw [h0]
      exact iNfsTrim_none a cap w
    · obtain ⟨b, off, rfl, hlt, hc⟩ := hp (by omega)
      exact iNfsTrim_some b off cap l hcap ha w hlt hc
end Go.Proofs.Ytklaebcdbbgooab
