/- Laid together: AceConcat, AceSplice, NfsTrim. -/
import Derived.Test.YtgojbilbkfilgaaTr30
import Derived.Test.YtgojbilbkfilgaaTr38
import Derived.Test.YtgojbilbkfilgaaTr34
import Derived.Deep.RegionWith
import Derived.Deep.RegionHeld3
/- slices.Grow and slices.Concat at lists of aces. -/
namespace Go.Proofs.Ytgojbilbkfilgaa
open Go.RowKit Go.PlainAid Go.Deep
set_option linter.unusedVariables false
set_option maxRecDepth 100000 in
/-- append of n zero values onto nil. -/
theorem append_zerosA (n : Nat) (h0 : 0 < n) (h1 : n ≤ 1000000) (ty : TypeId) (w : World) :
    ∃ c w', (Builtin.append_ #[49, 3] ty #[.slice none 0 0, .int .i64 n]).run Try.prog w = .ok (.slice (some ⟨w.heap.size, 0, none⟩) n c) w' ∧ n ≤ c ∧ w'.ownsRow w.heap.size 61 5 (.slice (some ⟨w.heap.size, 0, none⟩) 0 c) 0 [] ∧ Below w.heap.size w w' := by
  obtain ⟨i, hi, hzz⟩ := Option.map_eq_some_iff.1 infoAce
  simp only [Prod.mk.injEq] at hzz
  obtain ⟨hz, hs, hb⟩ := hzz
  have hr := Go.Lib.run_append_nil_zeros (P := Try.prog) w 49 3 ty 61 i _ .i64 .i64 Try.underlying49 Try.underlying3 hi hz n h0 (by omega) (by omega) (by rw [hb]; omega)
  have hge := grownCap_ge w n 0 61
  have hcm : grownCap w n 0 61 ≤ maxLen := grownCap_le_maxLen w n 0 61 (by unfold maxLen; omega)
  refine ⟨_, _, hr, hge, ?_, ?_⟩
  · refine World.ownsRow_made w.drew _ _ (Nat.le_refl _) hcm ?_
    simp only [Array.size_append, size_zeroCells]
    rw [← Nat.add_mul]
    congr 1
    omega
  · exact Below.trans (b := w.drew) ⟨rfl, rfl, rfl, Nat.le_refl _, fun _ _ => rfl⟩ (bel_alloc w.drew _)
theorem own_capA {w : World} {B : Nat} {t : TypeId} {a : Option Addr} {n c : Nat} {xs : List Value} (h : w.ownsRow B t 5 (.slice a n c) n xs) : n ≤ c := by
  obtain ⟨_, ⟨h, hn⟩ | ⟨g, cap, cur, h, _, _, hc, _⟩⟩ := h
  · omega
  · cases h
    exact hc
/-- The first k lists, one behind the other. -/
def catA (ls : Nat → List Ac) : Nat → List Ac
  | 0 => []
  | k + 1 => catA ls k ++ ls k
theorem cat_monoA (ls : Nat → List Ac) {j k : Nat} (h : j ≤ k) : (catA ls j).length ≤ (catA ls k).length := by
  induction k with
  | zero => have : j = 0 := by omega
            subst this; exact Nat.le_refl _
  | succ k ih =>
    by_cases e : j = k + 1
    · subst e; exact Nat.le_refl _
    · have := ih (by omega)
      simp only [catA, List.length_append]
      omega
end Go.Proofs.Ytgojbilbkfilgaa
/- impl.spliced at lists of aces. -/
namespace Go.Proofs.Ytgojbilbkfilgaa
open Go.RowKit Go.PlainAid Go.Deep
set_option linter.unusedVariables false
/-- Of three things one. -/
def triA {α : Type} (x y z : α) (j : Nat) : α := if j = 0 then x else if j = 1 then y else z
theorem cat_triA (p q s : List Ac) : catA (triA p q s) 3 = p ++ q ++ s := by simp [catA, triA]
theorem row3_newA (w : World) (v0 v1 v2 : Value) (t : TypeId) : (w.alloc (.cells #[v0, v1, v2] t)).cell? ⟨w.heap.size, 0, none⟩ = some v0 ∧ (w.alloc (.cells #[v0, v1, v2] t)).cell? ⟨w.heap.size, 1, none⟩ = some v1 ∧ (w.alloc (.cells #[v0, v1, v2] t)).cell? ⟨w.heap.size, 2, none⟩ = some v2 := by
  have hb : (w.alloc (.cells #[v0, v1, v2] t)).heap[w.heap.size]? = some (.cells #[v0, v1, v2] t) := by
    rw [World.alloc]
    exact Array.getElem?_push_size
  refine ⟨?_, ?_, ?_⟩ <;> (simp only [World.cell?, hb]; rfl)
theorem acAt_take {l : List Ac} {n i : Nat} (h : i < n) : acAt (l.take n) i = acAt l i := by
  unfold acAt
  simp [List.getD, List.getElem?_take_of_lt h]
theorem acAt_drop {l : List Ac} {n i : Nat} : acAt (l.drop n) i = acAt l (n + i) := by
  unfold acAt
  simp [List.getD, List.getElem?_drop]
/-- A slice's head, and its tail. -/
theorem acs_take {b off : Nat} {l : List Ac} {w : World} {n : Nat} (hn : n ≤ l.length) (hlt : b < w.heap.size) (hc : ∀ i, i < l.length → Five w b (off + i * 5) (acAt l i)) : Acs (some ⟨b, off, none⟩) n (l.take n) w := by
  refine ⟨by simp; omega, fun _ => ⟨b, off, rfl, hlt, fun i hi => ?_⟩⟩
  rw [acAt_take hi]
  exact hc i (by omega)
theorem acs_drop {b off : Nat} {l : List Ac} {w : World} {n : Nat} (hn : n ≤ l.length) (hlt : b < w.heap.size) (hc : ∀ i, i < l.length → Five w b (off + i * 5) (acAt l i)) : Acs (some ⟨b, off + n * 5, none⟩) (l.length - n) (l.drop n) w := by
  refine ⟨by simp, fun _ => ⟨b, off + n * 5, rfl, hlt, fun i hi => ?_⟩⟩
  rw [acAt_drop]
  have := hc (n + i) (by omega)
  have e1 : off + (n + i) * 5 = off + n * 5 + i * 5 := by omega
  rw [e1] at this
  exact this
end Go.Proofs.Ytgojbilbkfilgaa
/- NfsTrim, the program's. -/
namespace Go.Proofs.Ytgojbilbkfilgaa
open Go.RowKit Go.PlainAid Go.Deep
set_option linter.unusedVariables false
/-- What an ace at a place has left. -/
def trimM (l : List Ac) (k : Nat) : Int := if (acAt l k).fl % 4 = 0 then bits .andNot .i64 (acAt l k).ma (saidI (fltP (likeB (acAt l k)) l k)) else (acAt l k).ma
def trimX (x : Ac) (m : Int) : Ac := ⟨x.al, x.wh, x.id, x.fl, m⟩
def trimO (l : List Ac) (k : Nat) : List Ac := if trimM l k = 0 then [] else [trimX (acAt l k) (trimM l k)]
def trimP (l : List Ac) : Nat → List Ac
  | 0 => []
  | k + 1 => trimP l k ++ trimO l k
/-- NfsTrim. -/
def trimL (l : List Ac) : List Ac := if acesB l then trimP l l.length else []
theorem trimP_len (l : List Ac) (k : Nat) : (trimP l k).length ≤ k := by
  induction k with
  | zero => exact Nat.le_refl _
  | succ k ih =>
    have : (trimO l k).length ≤ 1 := by unfold trimO; split <;> simp
    simp only [trimP, List.length_append]
    omega
theorem trimL_len (l : List Ac) : (trimL l).length ≤ 32 := by
  unfold trimL
  split
  · rename_i h
    have := trimP_len l l.length
    have h2 := aces_len h
    omega
  · simp
theorem trimP_yes {l : List Ac} {k : Nat} (h : ¬ trimM l k = 0) : trimP l (k + 1) = trimP l k ++ [trimX (acAt l k) (trimM l k)] := by simp [trimP, trimO, h]
theorem trimP_no {l : List Ac} {k : Nat} (h : trimM l k = 0) : trimP l (k + 1) = trimP l k := by simp [trimP, trimO, h]
theorem fltP_take (p : Ac → Bool) (l : List Ac) (n k : Nat) (h : k ≤ n) : fltP p (l.take n) k = fltP p l k := by
  induction k with
  | zero => rfl
  | succ k ih => simp only [fltP, ih (by omega), acAt_take (show k < n by omega)]
/-- As AnsL, with the room behind the list. -/
def AnsLR (xs : List Ac) (w : World) (e : Ending) (w' : World) : Prop := ∃ a c, e = .returned (.slice a xs.length c) ∧ xs.length ≤ c ∧ NewA w w' a xs.length xs
theorem AnsLR.ans {xs : List Ac} {w w' : World} {e : Ending} (h : AnsLR xs w e w') : AnsL xs w e w' := by
  obtain ⟨a, c, he, _, hN⟩ := h
  exact ⟨a, c, he, hN⟩
theorem ansLR_row {xs : List Ac} {w w' : World} {t : TypeId} {v : Value} (h : w'.ownsRow w.heap.size t 5 v xs.length (pcA xs)) (hb : Below w.heap.size w w') : AnsLR xs w (.returned v) w' := by
  have hc : ∀ a c, v = .slice a xs.length c → xs.length ≤ c := fun a c e => by
    subst e
    obtain ⟨_, ⟨h1, hn⟩ | ⟨g1, cap1, cur1, h1, _, _, hc1, _, _, _⟩⟩ := h
    · omega
    · cases h1; exact hc1
  obtain ⟨a, c, rfl, ho, hin⟩ := ownA_of_row h
  exact ⟨a, c, rfl, hc a c rfl, ho, hin, hb⟩
theorem ansLR_nil {w w' : World} {a : Option Addr} {c : Nat} (hin : ∀ A, a = some A → w.heap.size ≤ A.block ∧ A.block < w'.heap.size) (hb : Below w.heap.size w w') : AnsLR [] w (.returned (.slice a 0 c)) w' := by
  obtain ⟨a', c', he, hN⟩ := ansL_nil (xs := []) rfl (a := a) (c := c) hin hb
  exact ⟨a', c', he, Nat.zero_le _, hN⟩
set_option maxHeartbeats 1000000 in
theorem saysNothing_any (x : Ac) (w : World) :
    Calls Try.prog 106 #[.agg #[.bool x.al, .int .i64 x.wh, .int .i64 x.id, .int .i64 x.fl, .int .i64 x.ma]] w fun e w' => e = .returned (.bool (decide (x.ma = 0))) ∧ Below w.heap.size w w' := by
  go_enter Try.func106, Try.ntmps106
  go_wp2
  go_ret
  exact ⟨ret_boolW rfl, bel_alloc _ _⟩
set_option maxRecDepth 100000 in
set_option maxHeartbeats 8000000 in
theorem iNfsTrim_some (b off cap : Nat) (l : List Ac) (hcap : l.length ≤ cap) (ha : acesB l = true) (w : World) (hb : b < w.heap.size) (hc : ∀ i, i < l.length → Five w b (off + i * 5) (acAt l i)) :
    Calls Try.prog 49 #[.slice (some ⟨b, off, none⟩) l.length cap] w (AnsLR (trimP l l.length) w) := by
  have hR : Hid (Calls Try.prog 58 #[.slice (some ⟨b, off, none⟩) l.length cap] w fun e w' => e = .returned (.bool true) ∧ Below w.heap.size w w') := (by
    have := iNfsRight_any (some ⟨b, off, none⟩) l.length cap l w ⟨rfl, fun _ => ⟨b, off, rfl, hb, hc⟩⟩
    rwa [ha] at this)
  have HC : Hid (∀ i, i < l.length → Five w b (off + i * 5) (acAt l i)) := hc
  have HF : Hid (∀ i, i < l.length → 0 ≤ (acAt l i).fl ∧ (acAt l i).fl ≤ 15) := (fun i hi => (aceB_iff.1 (aces_at ha hi)).2.2.2.1.1)
  have hl := aces_len ha
  have hSA : Hid (∀ k x w', k < l.length → Below w.heap.size w w' → Calls Try.prog 105 #[.slice (some ⟨b, off, none⟩) k cap, .agg #[.bool x.al, .int .i64 x.wh, .int .i64 x.id, .int .i64 x.fl, .int .i64 x.ma]] w' fun e w'' => e = .returned (.int .i64 (saidI (fltP (likeB x) l k))) ∧ Below w'.heap.size w' w'') := (fun k x w' hk hbw => by
    have hA := (acs_take (n := k) (by omega) hb hc).below hbw
    have := saidAhead_any (some ⟨b, off, none⟩) k cap (l.take k) x (by omega) (fun i hi => by rw [acAt_take hi]; exact HF.out i (by omega)) w' hA
    rwa [fltP_take _ _ _ _ (Nat.le_refl _)] at this)
  clear hc ha
  have hcapI : (l.length : Int) ≤ (cap : Int) := by omega
  generalize hlen : l.length = len at hl HC HF hR hSA hcap hcapI ⊢
  clear hlen
  go_enter Try.func49, Try.ntmps49
  go_wp2_with fail
  refine hR.out.mono ?_
  rintro e w0 ⟨rfl, hb0⟩
  have hB0 : Hid (Below w.heap.size w w0) := hb0
  clear hb0 hR
  go_wp2
  go_loopw [3, 11] (fun v i wr => ∃ k : Nat, k ≤ len ∧ i = .int .i64 k ∧ Hid (wr.ownsRow w.heap.size 61 5 v (trimP l k).length (pcA (trimP l k))) ∧ Hid (Below w.heap.size w wr)) (fun _ i _ => len - (intOf i).toNat)
  case atStart => exact ⟨0, Nat.zero_le _, rfl, World.ownsRow_nil _ _ _ _, hB0⟩
  case round =>
    obtain ⟨k, hk, rfl, hO, hB⟩ := hrel
    by_cases hlt : k < len
    · have hlt' : (k : Int) < (len : Int) := by omega
      have hkc : (k : Int) ≤ (cap : Int) := by omega
      obtain ⟨g0, g1, g2, g3, g4⟩ := (HC.out k hlt).keep (fun j => hB.out.cell (p := ⟨b, j, none⟩) hb)
      obtain ⟨f0, f1⟩ := HF.out k hlt
      have HN : Hid (trimM l k = 0 → ∀ (w' : World) (v : Value), w'.ownsRow w.heap.size 61 5 v (trimP l k).length (pcA (trimP l k)) → w'.ownsRow w.heap.size 61 5 v (trimP l (k + 1)).length (pcA (trimP l (k + 1)))) := (fun h w' v h2 => by rw [trimP_no h]; exact h2)
      have HY : Hid (¬ trimM l k = 0 → ∀ (w' : World) (v : Value), w'.ownsRow w.heap.size 61 5 v (trimP l k ++ [trimX (acAt l k) (trimM l k)]).length (pcA (trimP l k ++ [trimX (acAt l k) (trimM l k)])) → w'.ownsRow w.heap.size 61 5 v (trimP l (k + 1)).length (pcA (trimP l (k + 1)))) := (fun h w' v h2 => by rw [trimP_yes h]; exact h2)
      have hP := trimP_len l k
      have HM : Hid (trimM l k = if (acAt l k).fl % 4 = 0 then bits .andNot .i64 (acAt l k).ma (saidI (fltP (likeB (acAt l k)) l k)) else (acAt l k).ma) := rfl
      have hS1 : Hid (∀ w', Below w.heap.size w w' → Calls Try.prog 105 #[.slice (some ⟨b, off, none⟩) k cap, .agg #[.bool (acAt l k).al, .int .i64 (acAt l k).wh, .int .i64 (acAt l k).id, .int .i64 (acAt l k).fl, .int .i64 (acAt l k).ma]] w' fun e w'' => e = .returned (.int .i64 (saidI (fltP (likeB (acAt l k)) l k))) ∧ Below w'.heap.size w' w'') := (fun w' hbw => hSA.out k _ w' hlt hbw)
      generalize saidI (fltP (likeB (acAt l k)) l k) = sd at HM hS1
      generalize trimM l k = tm at HN HY HM
      generalize trimP l k = acc at hO HN HY hP
      generalize acAt l k = x at g0 g1 g2 g3 g4 f0 f1 HN HY HM hS1
      have ea := and3 f0 f1
      have hbA := bel_alloc wr (.cells #[.bool x.al, .int .i64 x.wh, .int .i64 x.id, .int .i64 x.fl, .int .i64 x.ma] 61)
      have hF := five_new wr x 61
      clear HC HF f0 f1 hSA
      by_cases h4 : x.fl % 4 = 0
      · have HM2 : Hid (tm = bits .andNot .i64 x.ma sd) := (by show _ = _; rw [HM.out, if_pos h4])
        have hBA : Hid (Below w.heap.size w (wr.alloc (.cells #[.bool x.al, .int .i64 x.wh, .int .i64 x.id, .int .i64 x.fl, .int .i64 x.ma] 61))) := Below.on hB.out hbA
        have hOA : Hid (∀ W2, Below wr.heap.size wr W2 → W2.ownsRow w.heap.size 61 5 u3 acc.length (pcA acc)) := (fun W2 h => rowA_below hO.out h)
        have hbW : Hid (Below wr.heap.size wr (wr.alloc (.cells #[.bool x.al, .int .i64 x.wh, .int .i64 x.id, .int .i64 x.fl, .int .i64 x.ma] 61))) := hbA
        have hBT : Hid (∀ W2, Below wr.heap.size wr W2 → Below w.heap.size w W2) := (fun W2 h => Below.on hB.out h)
        have hQ : Hid (Five (wr.alloc (.cells #[.bool x.al, .int .i64 x.wh, .int .i64 x.id, .int .i64 x.fl, .int .i64 x.ma] 61)) wr.heap.size 0 x) := hF
        have hqz : Hid ((wr.alloc (.cells #[.bool x.al, .int .i64 x.wh, .int .i64 x.id, .int .i64 x.fl, .int .i64 x.ma] 61)).heap.size = wr.heap.size + 1) := (by show _ = _; simp)
        have hqf : Hid ((wr.alloc (.cells #[.bool x.al, .int .i64 x.wh, .int .i64 x.id, .int .i64 x.fl, .int .i64 x.ma] 61)).frozen? ⟨wr.heap.size, 4, none⟩ = false) := (by show _ = _; simp [go_sem])
        have hwz : Hid (w.heap.size ≤ wr.heap.size) := hB.out.size
        clear hF hbA HM hO hB
        go_wp2_with fail
        generalize (wr.alloc (.cells #[.bool x.al, .int .i64 x.wh, .int .i64 x.id, .int .i64 x.fl, .int .i64 x.ma] 61)) = W at hBA hbW hQ hqz hqf ⊢
        generalize wr.heap.size = X at hQ hqz hqf hwz hOA hbW hBT ⊢
        obtain ⟨c0, c1, c2, c3, c4⟩ := hQ.out
        simp only [Nat.zero_add] at c1 c2 c3 c4
        have cf := hqf.out
        clear g0 g1 g2 g3 g4
        go_region_with (go_at_call 105; refine (hS1.out _ (below_drewA hBA.out)).mono ?_; rintro e w1 ⟨rfl, hb1⟩; have hB1 : Hid (Below W.heap.size W w1) := below_drewZ hb1; obtain ⟨d0, d1, d2, d3, d4⟩ := hQ.out.below (by rw [hqz.out]; omega) hB1.out; simp only [Nat.zero_add] at d1 d2 d3 d4; have df := (hB1.out.frozen (p := ⟨X, 4, none⟩) (by rw [hqz.out]; show X < _; omega)).trans hqf.out)
        all_goals (
          rw [← HM2.out]
          have hbW1 : Below X wr w1 := hbW.out.trans (hB1.out.mono (by rw [hqz.out]; omega))
          have hbW2 : Below X wr (w1.setCell ⟨X, 4, none⟩ (.int .i64 tm)) := bl_setA hbW1 (Nat.le_refl _)
          have hF2 : Five (w1.setCell ⟨X, 4, none⟩ (.int .i64 tm)) X 0 (trimX x tm) := ⟨by simp [go_sem, d0, trimX], by simp [go_sem, d1, trimX], by simp [go_sem, d2, trimX], by simp [go_sem, d3, trimX], by simp [go_sem, d4, trimX]⟩
          have hX2 : X < (w1.setCell ⟨X, 4, none⟩ (.int .i64 tm)).heap.size := block_lt_of_cell hF2.c0
          have HO2 : Hid ((w1.setCell ⟨X, 4, none⟩ (.int .i64 tm)).ownsRow w.heap.size 61 5 u3 acc.length (pcA acc)) := hOA.out _ hbW2
          have HB2 : Hid (Below w.heap.size w (w1.setCell ⟨X, 4, none⟩ (.int .i64 tm))) := hBT.out _ hbW2
          clear hbW1 hbW2 hOA hBT hbW hB1 hb1 d0 d1 d2 d3 d4 df c0 c1 c2 c3 c4 cf hQ hqf hqz hBA hS1 HM2 ea
          generalize w1.setCell ⟨X, 4, none⟩ (.int .i64 tm) = w2 at hF2 hX2 HO2 HB2 ⊢
          obtain ⟨e0, e1, e2, e3, e4⟩ := hF2
          simp only [Nat.zero_add, trimX] at e0 e1 e2 e3 e4
          go_wp2_with fail
          refine (saysNothing_any (trimX x tm) _).mono ?_
          rintro e w3 ⟨rfl, hb3⟩
          have hF3 : Five w3 X 0 (trimX x tm) := (Five.mk (by simpa [trimX] using e0) (by simpa [trimX] using e1) (by simpa [trimX] using e2) (by simpa [trimX] using e3) (by simpa [trimX] using e4) : Five w2 X 0 (trimX x tm)).below hX2 hb3
          obtain ⟨m0, m1, m2, m3, m4⟩ := hF3
          simp only [Nat.zero_add, trimX] at m0 m1 m2 m3 m4
          have HO3 : Hid (w3.ownsRow w.heap.size 61 5 u3 acc.length (pcA acc)) := rowA_below HO2.out hb3
          have HB3 : Hid (Below w.heap.size w w3) := Below.on HB2.out hb3
          clear hb3 e0 e1 e2 e3 e4 HO2 HB2 hX2
          by_cases hz : tm = 0
          · have HO4 : Hid (w3.ownsRow w.heap.size 61 5 u3 (trimP l (k + 1)).length (pcA (trimP l (k + 1)))) := HN.out hz _ _ HO3.out
            have hzd : decide (tm = 0) = true := by simpa using hz
            have hzd : decide ((trimX x tm).ma = 0) = true := hzd
            clear HN HY HO3 hz
            go_wp2
            go_roundw
            case rel => exact ⟨k + 1, by omega, by go_num, HO4, HB3⟩
            case measure => simp [intOf]; omega
          · obtain ⟨v4, w4, hr, hO4, hB4⟩ := append_one (P := Try.prog) w w3 49 49 61 Try.underlying49 infoAce u3 acc HO3.out HB3.out (trimX x tm) (by omega)
            simp only [trimX] at hr
            have HO4 : Hid (w4.ownsRow w.heap.size 61 5 v4 (trimP l (k + 1)).length (pcA (trimP l (k + 1)))) := HY.out hz _ _ hO4
            have HB4 : Hid (Below w.heap.size w w4) := hB4
            have hzd : decide (tm = 0) = false := by simpa using hz
            have hzd : decide ((trimX x tm).ma = 0) = false := hzd
            clear HN HY HO3 hz hO4 hB4 HB3
            go_wp2_with (at_builtin; refine wpList_append_runA _ rfl (.tmp 32) (.tmp 34) 49 49 rfl _ _ _ _ rfl rfl hr ?_)
            go_roundw
            case rel => exact ⟨k + 1, by omega, by go_num, HO4, HB4⟩
            case measure => simp [intOf]; omega)
      · have HM2 : Hid (tm = x.ma) := (by show _ = _; rw [HM.out, if_neg h4])
        have h4' : (x.fl % 4 == 0) = false := by simpa using h4
        have hBA : Hid (Below w.heap.size w (wr.alloc (.cells #[.bool x.al, .int .i64 x.wh, .int .i64 x.id, .int .i64 x.fl, .int .i64 x.ma] 61))) := Below.on hB.out hbA
        have hOA : Hid ((wr.alloc (.cells #[.bool x.al, .int .i64 x.wh, .int .i64 x.id, .int .i64 x.fl, .int .i64 x.ma] 61)).ownsRow w.heap.size 61 5 u3 acc.length (pcA acc)) := rowA_below hO.out hbA
        have e0 : tm = x.ma := HM2.out
        subst e0
        have hX2 : wr.heap.size < (wr.alloc (.cells #[.bool x.al, .int .i64 x.wh, .int .i64 x.id, .int .i64 x.fl, .int .i64 x.ma] 61)).heap.size := by simp
        have HO2 := hOA
        have HB2 := hBA
        clear hbA HM hO hB HM2 hOA hBA hS1
        go_wp2_with fail
        generalize (wr.alloc (.cells #[.bool x.al, .int .i64 x.wh, .int .i64 x.id, .int .i64 x.fl, .int .i64 x.ma] 61)) = w2 at hF hX2 HO2 HB2 ⊢
        generalize wr.heap.size = X at hF hX2 ⊢
        obtain ⟨e0, e1, e2, e3, e4⟩ := hF
        simp only [Nat.zero_add] at e1 e2 e3 e4
        clear g0 g1 g2 g3 g4 h4 h4' ea
        go_wp2_with fail
        refine (saysNothing_any x _).mono ?_
        rintro e w3 ⟨rfl, hb3⟩
        have hF3 : Five w3 X 0 x := (Five.mk e0 (by simpa using e1) (by simpa using e2) (by simpa using e3) (by simpa using e4) : Five w2 X 0 x).below hX2 hb3
        obtain ⟨m0, m1, m2, m3, m4⟩ := hF3
        simp only [Nat.zero_add] at m1 m2 m3 m4
        have HO3 : Hid (w3.ownsRow w.heap.size 61 5 u3 acc.length (pcA acc)) := rowA_below HO2.out hb3
        have HB3 : Hid (Below w.heap.size w w3) := Below.on HB2.out hb3
        clear hb3 e0 e1 e2 e3 e4 HO2 HB2 hX2
        by_cases hz : x.ma = 0
        · have HO4 : Hid (w3.ownsRow w.heap.size 61 5 u3 (trimP l (k + 1)).length (pcA (trimP l (k + 1)))) := HN.out hz _ _ HO3.out
          have hzd : decide (x.ma = 0) = true := by simpa using hz
          clear HN HY HO3 hz
          go_wp2
          go_roundw
          case rel => exact ⟨k + 1, by omega, by go_num, HO4, HB3⟩
          case measure => simp [intOf]; omega
        · obtain ⟨v4, w4, hr, hO4, hB4⟩ := append_one (P := Try.prog) w w3 49 49 61 Try.underlying49 infoAce u3 acc HO3.out HB3.out x (by omega)
          have HO4 : Hid (w4.ownsRow w.heap.size 61 5 v4 (trimP l (k + 1)).length (pcA (trimP l (k + 1)))) := HY.out hz _ _ hO4
          have HB4 : Hid (Below w.heap.size w w4) := hB4
          have hzd : decide (x.ma = 0) = false := by simpa using hz
          clear HN HY HO3 hz hO4 hB4 HB3
          go_wp2_with (at_builtin; refine wpList_append_runA _ rfl (.tmp 32) (.tmp 34) 49 49 rfl _ _ _ _ rfl rfl hr ?_)
          go_roundw
          case rel => exact ⟨k + 1, by omega, by go_num, HO4, HB4⟩
          case measure => simp [intOf]; omega
    · have : k = len := by omega
      subst this
      go_wp2
      go_ret
      exact ansLR_row hO.out hB.out
set_option maxHeartbeats 2000000 in
theorem iNfsTrim_no (a : Option Addr) (len cap : Nat) (l : List Ac) (ha : acesB l = false) (w : World) (hi : Acs a len l w) :
    Calls Try.prog 49 #[.slice a len cap] w (AnsLR [] w) := by
  have hR : Hid (Calls Try.prog 58 #[.slice a len cap] w fun e w' => e = .returned (.bool false) ∧ Below w.heap.size w w') := (by
    have := iNfsRight_any a len cap l w hi
    rwa [ha] at this)
  clear hi ha
  go_enter Try.func49, Try.ntmps49
  go_wp2_with fail
  refine hR.out.mono ?_
  rintro e w0 ⟨rfl, hb0⟩
  have hB0 : Hid (Below w.heap.size w w0) := hb0
  clear hb0 hR
  go_wp2
  go_ret
  exact ansLR_nil (fun A e => by cases e) hB0.out
set_option maxHeartbeats 2000000 in
theorem iNfsTrim_none (a : Option Addr) (cap : Nat) (w : World) :
    Calls Try.prog 49 #[.slice a 0 cap] w (AnsLR [] w) := by
  have hR : Hid (Calls Try.prog 58 #[.slice a 0 cap] w fun e w' => e = .returned (.bool true) ∧ w' = w) := iNfsRight_none a cap w
  go_enter Try.func49, Try.ntmps49
  go_wp2_with (go_at_call 58; refine hR.out.mono ?_; rintro e w ⟨rfl, rfl⟩)
  go_rounds 1
  go_ret
  exact ansLR_nil (fun A e => by cases e) (Below.refl _ _)
/-- impl.NfsTrim. -/
theorem iNfsTrim_anyR (a : Option Addr) (len cap : Nat) (l : List Ac) (hcap : len ≤ cap) (w : World) (hi : Acs a len l w) :
    Calls Try.prog 49 #[.slice a len cap] w (AnsLR (trimL l) w) := by
  cases ha : acesB l
  · have e : trimL l = [] := by simp [trimL, ha]
    rw [e]
    exact iNfsTrim_no a len cap l ha w hi
  · have e : trimL l = trimP l l.length := by simp [trimL, ha]
    rw [e]
    obtain ⟨hln, hp⟩ := hi
    subst hln
    by_cases h0 : l.length = 0
    · rw [h0]
      exact iNfsTrim_none a cap w
    · obtain ⟨b, off, rfl, hlt, hc⟩ := hp (by omega)
      exact iNfsTrim_some b off cap l hcap ha w hlt hc
theorem iNfsTrim_any (a : Option Addr) (len cap : Nat) (l : List Ac) (hcap : len ≤ cap) (w : World) (hi : Acs a len l w) :
    Calls Try.prog 49 #[.slice a len cap] w (AnsL (trimL l) w) := (iNfsTrim_anyR a len cap l hcap w hi).mono (fun e w' h => h.ans)
end Go.Proofs.Ytgojbilbkfilgaa
