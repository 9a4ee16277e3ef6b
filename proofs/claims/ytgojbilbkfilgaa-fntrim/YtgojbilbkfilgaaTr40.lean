/- Laid together: NfsTrimS. -/
import Derived.Test.YtgojbilbkfilgaaTr39
import Derived.Test.YtgojbilbkfilgaaTr10
/- NfsTrim, the specification's. -/
namespace Go.Proofs.Ytgojbilbkfilgaa
open Go.RowKit Go.PlainAid Go.Deep
set_option linter.unusedVariables false
/-- What several say, as a plain number. -/
def saidN (l : List Ac) : Nat := l.foldl (fun s x => s ||| x.ma.toNat) 0
theorem saidN_snoc (l : List Ac) (x : Ac) : saidN (l ++ [x]) = saidN l ||| x.ma.toNat := by simp [saidN]
theorem said_fltP {l : List Ac} (hm : ∀ i, i < l.length → 0 ≤ (acAt l i).ma ∧ (acAt l i).ma ≤ 255) (p : Ac → Bool) : ∀ k, k ≤ l.length → saidI (fltP p l k) = ((saidN (fltP p l k) : Nat) : Int) ∧ saidN (fltP p l k) ≤ 255 := by
  intro k
  induction k with
  | zero => intro _; exact ⟨rfl, by simp [fltP, saidN]⟩
  | succ k ih =>
    intro hk
    obtain ⟨e, hle⟩ := ih (by omega)
    cases h : (hldB (acAt l k) && p (acAt l k))
    · rw [fltP_no h]
      exact ⟨e, hle⟩
    · rw [fltP_yes h, saidI_snoc, saidN_snoc, e]
      obtain ⟨m0, m1⟩ := hm k (by omega)
      obtain ⟨m, hmm⟩ := Int.eq_ofNat_of_zero_le m0
      rw [hmm]
      have hm2 : m ≤ 255 := by omega
      refine ⟨?_, or_le hle (by simpa using hm2)⟩
      have := i64_or_nat (saidN (fltP p l k)) m (by omega) (by omega)
      simpa using this
/-- The mask that the first j leave of an ace. -/
def leftN (l : List Ac) (x : Ac) (j : Nat) : Nat := rmN x.ma.toNat (saidN (fltP (likeB x) l j))
theorem leftN_zero (l : List Ac) (x : Ac) : leftN l x 0 = x.ma.toNat := rm_zero _
theorem leftN_yes {l : List Ac} {x : Ac} {j : Nat} (h : (hldB (acAt l j) && likeB x (acAt l j)) = true) : leftN l x (j + 1) = rmN (leftN l x j) (acAt l j).ma.toNat := by
  unfold leftN
  rw [fltP_yes h, saidN_snoc, rm_rm]
theorem leftN_no {l : List Ac} {x : Ac} {j : Nat} (h : (hldB (acAt l j) && likeB x (acAt l j)) = false) : leftN l x (j + 1) = leftN l x j := by
  unfold leftN
  rw [fltP_no h]
theorem leftN_le (l : List Ac) (x : Ac) (j : Nat) : leftN l x j ≤ x.ma.toNat := rm_le _ _
theorem trimM_zero {l : List Ac} {k : Nat} (hm : ∀ i, i < l.length → 0 ≤ (acAt l i).ma ∧ (acAt l i).ma ≤ 255) (hk : k < l.length) (h : (acAt l k).fl = 0) : trimM l k = ((leftN l (acAt l k) k : Nat) : Int) := by
  obtain ⟨e, hle⟩ := said_fltP hm (likeB (acAt l k)) k (by omega)
  obtain ⟨m0, m1⟩ := hm k hk
  unfold trimM leftN
  rw [if_pos (by rw [h]; rfl), e]
  generalize saidN (fltP (likeB (acAt l k)) l k) = s at hle
  obtain ⟨m, hmm⟩ := Int.eq_ofNat_of_zero_le m0
  rw [hmm]
  have := andNot_nat m s (by omega) (by omega)
  simpa using this
theorem trimM_some {l : List Ac} {k : Nat} (h : ¬ (acAt l k).fl % 4 = 0) : trimM l k = (acAt l k).ma := by rw [trimM, if_neg h]
theorem wrap_small {n : Nat} (h : n ≤ 255) : IntKind.i64.wrap (n : Int) = (n : Int) := by
  rw [IntKind.wrap_i64]
  omega
set_option maxHeartbeats 1000000 in
theorem sl04Holds_any (x : Ac) (w : World) :
    Calls Try.prog 107 #[.agg #[.bool x.al, .int .i64 x.wh, .int .i64 x.id, .int .i64 x.fl, .int .i64 x.ma]] w fun e w' => e = .returned (.bool (hldB x)) ∧ Below w.heap.size w w' := by
  go_enter Try.func107, Try.ntmps107
  go_wp2
  go_ret
  exact ⟨ret_boolW rfl, bel_alloc _ _⟩
set_option maxRecDepth 100000 in
set_option maxHeartbeats 8000000 in
theorem sNfsTrim_some (b off cap : Nat) (l : List Ac) (ha : acesB l = true) (w : World) (hb : b < w.heap.size) (hc : ∀ i, i < l.length → Five w b (off + i * 5) (acAt l i)) :
    Calls Try.prog 52 #[.slice (some ⟨b, off, none⟩) l.length cap] w (AnsL (trimP l l.length) w) := by
  have hl := aces_len ha
  have hb1 := bel_alloc w (.cells #[] 61)
  have hR : Hid (Calls Try.prog 53 #[.slice (some ⟨b, off, none⟩) l.length cap] (w.alloc (.cells #[] 61)) fun e w' => e = .returned (.bool true) ∧ Below w.heap.size w w' ∧ w'.ownsRow w.heap.size 61 5 (.slice (some ⟨w.heap.size, 0, none⟩) 0 0) ([] : List Ac).length (pcA [])) := (by
    have hA : Acs (some ⟨b, off, none⟩) l.length l w := ⟨rfl, fun _ => ⟨b, off, rfl, hb, hc⟩⟩
    have := sNfsRight_any (some ⟨b, off, none⟩) l.length cap l (by omega) (w.alloc (.cells #[] 61)) (hA.below hb1)
    rw [ha] at this
    exact this.mono (fun e w' ⟨h1, h2⟩ => ⟨h1, Below.on hb1 h2, rowA_below (rowA_start w _ rfl _) h2⟩))
  have HC : Hid (∀ i, i < l.length → Five w b (off + i * 5) (acAt l i)) := hc
  have HR : Hid (∀ i, i < l.length → aceB (acAt l i) = true) := (fun i hi => aces_at ha hi)
  have HMA : Hid (∀ i, i < l.length → 0 ≤ (acAt l i).ma ∧ (acAt l i).ma ≤ 255) := (fun i hi => by have := (aceB_iff.1 (aces_at ha hi)).2.2.2.2; omega)
  have HTZ : Hid (∀ k, k < l.length → (acAt l k).fl = 0 → trimM l k = ((leftN l (acAt l k) k : Nat) : Int)) := (fun k hk h => trimM_zero HMA.out hk h)
  clear hc ha hb1
  generalize hlen : l.length = len at hl HC HR HMA HTZ hR ⊢
  clear hlen
  go_enter Try.func52, Try.ntmps52
  go_wp2_with fail
  refine hR.out.mono ?_
  rintro e w0 ⟨rfl, hb0, ho0⟩
  have hB0 : Hid (Below w.heap.size w w0) := hb0
  have hO0 : Hid (w0.ownsRow w.heap.size 61 5 (.slice (some ⟨w.heap.size, 0, none⟩) 0 0) ([] : List Ac).length (pcA [])) := ho0
  clear hb0 hR ho0
  go_wp2
  go_loopw [3, 4] (fun v i wr => ∃ k : Nat, k ≤ len ∧ i = .int .i64 k ∧ Hid (wr.ownsRow w.heap.size 61 5 v (trimP l k).length (pcA (trimP l k))) ∧ Hid (Below w.heap.size w wr)) (fun _ i _ => len - (intOf i).toNat)
  case atStart => exact ⟨0, Nat.zero_le _, rfl, hO0, hB0⟩
  case round =>
    obtain ⟨k, hk, rfl, hO, hB⟩ := hrel
    by_cases hlt : k < len
    · have hlt' : (k : Int) < (len : Int) := by omega
      obtain ⟨g0, g1, g2, g3, g4⟩ := (HC.out k hlt).keep (fun j => hB.out.cell (p := ⟨b, j, none⟩) hb)
      have hri := aceB_iff.1 (HR.out k hlt)
      have HN : Hid (trimM l k = 0 → ∀ (w' : World) (v : Value), w'.ownsRow w.heap.size 61 5 v (trimP l k).length (pcA (trimP l k)) → w'.ownsRow w.heap.size 61 5 v (trimP l (k + 1)).length (pcA (trimP l (k + 1)))) := (fun h w' v h2 => by rw [trimP_no h]; exact h2)
      have HY : Hid (¬ trimM l k = 0 → ∀ (w' : World) (v : Value), w'.ownsRow w.heap.size 61 5 v (trimP l k ++ [trimX (acAt l k) (trimM l k)]).length (pcA (trimP l k ++ [trimX (acAt l k) (trimM l k)])) → w'.ownsRow w.heap.size 61 5 v (trimP l (k + 1)).length (pcA (trimP l (k + 1)))) := (fun h w' v h2 => by rw [trimP_yes h]; exact h2)
      have hP := trimP_len l k
      have HT1 : Hid ((acAt l k).fl = 0 → trimM l k = ((leftN l (acAt l k) k : Nat) : Int)) := HTZ.out k hlt
      have HT2 : Hid (¬ (acAt l k).fl % 4 = 0 → trimM l k = (acAt l k).ma) := trimM_some
      generalize trimM l k = tm at HN HY HT1 HT2
      generalize trimP l k = acc at hO HN HY hP
      have HLZ : Hid (leftN l (acAt l k) 0 = (acAt l k).ma.toNat) := leftN_zero _ _
      generalize hxk : acAt l k = x at g0 g1 g2 g3 g4 hri HN HY HT1 HT2 HLZ
      clear hxk
      have hbA := bel_alloc wr (.cells #[.bool x.al, .int .i64 x.wh, .int .i64 x.id, .int .i64 x.fl, .int .i64 x.ma] 61)
      have hF := five_new wr x 61
      have hFz : (wr.alloc (.cells #[.bool x.al, .int .i64 x.wh, .int .i64 x.id, .int .i64 x.fl, .int .i64 x.ma] 61)).frozen? ⟨wr.heap.size, 4, none⟩ = false := by simp [go_sem]
      have hOA : Hid (∀ W2, Below wr.heap.size wr W2 → W2.ownsRow w.heap.size 61 5 u3 acc.length (pcA acc)) := (fun W2 h => rowA_below hO.out h)
      have hBT : Hid (∀ W2, Below wr.heap.size wr W2 → Below w.heap.size w W2) := (fun W2 h => Below.on hB.out h)
      have hLST : Hid (∀ W2 j, Below wr.heap.size wr W2 → j < len → Five W2 b (off + j * 5) (acAt l j)) := (fun W2 j h hj => (HC.out j hj).below hb (hBT.out W2 h))
      have hwz : Hid (w.heap.size ≤ wr.heap.size) := hB.out.size
      have hzA : (wr.alloc (.cells #[.bool x.al, .int .i64 x.wh, .int .i64 x.id, .int .i64 x.fl, .int .i64 x.ma] 61)).heap.size = wr.heap.size + 1 := by simp
      clear hO hB HC HTZ
      have tail : ∀ (W2 : World) (t6 : Value), True := fun _ _ => trivial
      clear tail
      go_wp2_with fail
      generalize (wr.alloc (.cells #[.bool x.al, .int .i64 x.wh, .int .i64 x.id, .int .i64 x.fl, .int .i64 x.ma] 61)) = W at hbA hF hFz hzA ⊢
      generalize wr.heap.size = X at hbA hF hFz hOA hBT hLST hwz hzA ⊢
      obtain ⟨wo, hwo⟩ : ∃ wo, wo = wr := ⟨_, rfl⟩
      subst hwo
      obtain ⟨_, _, _, ⟨⟨x0, x1⟩, x2⟩, x3, x4⟩ := hri
      by_cases hf0 : x.fl = 0
      · have HTM0 : Hid (tm = ((leftN l x k : Nat) : Int)) := HT1.out hf0
        clear HT1 HT2 x2
        have hF0 : Five W X 0 (trimX x ((leftN l x 0 : Nat) : Int)) := by
          rw [HLZ.out]
          obtain ⟨a0, a1, a2, a3, a4⟩ := hF
          exact ⟨a0, a1, a2, a3, by rw [a4]; congr 2; show x.ma = ((x.ma.toNat : Nat) : Int); omega⟩
        have hf0' : (x.fl == 0) = true := by rw [hf0]; rfl
        clear hf0
        have hll : ∀ j, leftN l x j ≤ 255 := fun j => by have := leftN_le l x j; omega
        have HLL : Hid (∀ j, leftN l x j ≤ 255) := hll
        clear hll
        go_loopw [6] (fun i wr => ∃ j : Nat, j ≤ k ∧ i = .int .i64 j ∧ Hid (Five wr X 0 (trimX x ((leftN l x j : Nat) : Int)) ∧ wr.frozen? ⟨X, 4, none⟩ = false) ∧ Hid (Below X wo wr)) (fun i _ => k - (intOf i).toNat)
        case atStart => exact ⟨0, Nat.zero_le _, rfl, ⟨hF0, hFz⟩, hbA⟩
        case round =>
          obtain ⟨j, hj, rfl, hQ, hBq⟩ := hrel
          obtain ⟨⟨e0, e1, e2, e3, e4⟩, ef⟩ := hQ.out
          simp only [Nat.zero_add, trimX] at e0 e1 e2 e3 e4
          have hXq : X < wr.heap.size := block_lt_of_cell e0
          by_cases hjk : j < k
          · have hjk' : (j : Int) < (k : Int) := by omega
            have hjl : (j : Int) < (len : Int) := by omega
            obtain ⟨g0, g1, g2, g3, g4⟩ := hLST.out wr j hBq.out (by omega)
            obtain ⟨y0, y1⟩ := HMA.out j (by omega)
            have HLY : Hid ((hldB (acAt l j) && likeB x (acAt l j)) = true → leftN l x (j + 1) = rmN (leftN l x j) (acAt l j).ma.toNat) := leftN_yes
            have HLN : Hid ((hldB (acAt l j) && likeB x (acAt l j)) = false → leftN l x (j + 1) = leftN l x j) := leftN_no
            have hcl := HLL.out j
            generalize leftN l x j = cur at e4 HLY HLN hcl hQ
            generalize acAt l j = y at g0 g1 g2 g3 g4 y0 y1 HLY HLN
            obtain ⟨yn, hyn⟩ := Int.eq_ofNat_of_zero_le y0
            have hyt : Hid (y.ma.toNat = yn) := (by show _ = _; omega)
            have HYN : Hid (y.ma = (yn : Int)) := hyn
            have hyb : yn ≤ 255 := by omega
            clear hyn y0 y1
            have hFy := five_new wr y 61
            have hby := bel_alloc wr (.cells #[.bool y.al, .int .i64 y.wh, .int .i64 y.id, .int .i64 y.fl, .int .i64 y.ma] 61)
            have hzy : (wr.alloc (.cells #[.bool y.al, .int .i64 y.wh, .int .i64 y.id, .int .i64 y.fl, .int .i64 y.ma] 61)).heap.size = wr.heap.size + 1 := by simp
            go_wp2_with fail
            refine (sl04Holds_any y _).mono ?_
            rintro e w5 ⟨rfl, hb5⟩
            have hF5 := hFy.below (by rw [hzy]; omega) hb5
            have hbq5 := Below.on hby hb5
            have hQ5 : Five w5 X 0 (trimX x (cur : Int)) := hQ.out.1.below hXq hbq5
            have hf5 : w5.frozen? ⟨X, 4, none⟩ = false := (hbq5.frozen (p := ⟨X, 4, none⟩) hXq).trans hQ.out.2
            have HB5 : Hid (Below X wo w5) := hBq.out.trans (hbq5.mono (by omega))
            have hY5 : X ≠ wr.heap.size := by omega
            generalize wr.heap.size = Y at hF5 hY5 ⊢
            clear hFy hby hzy hb5 hbq5 e0 e1 e2 e3 e4 ef g0 g1 g2 g3 g4 hXq
            obtain ⟨a0, a1, a2, a3, a4⟩ := hF5
            obtain ⟨e0, e1, e2, e3, e4⟩ := hQ5
            simp only [Nat.zero_add, trimX] at a1 a2 a3 a4 e0 e1 e2 e3 e4
            rw [HYN.out] at a4
            have HNO : Hid ((hldB y && likeB x y) = false → Five w5 X 0 (trimX x ((leftN l x (j + 1) : Nat) : Int)) ∧ w5.frozen? ⟨X, 4, none⟩ = false) := (fun h => by rw [HLN.out h]; exact ⟨⟨e0, e1, e2, e3, e4⟩, hf5⟩)
            have hcond : Hid (likeB x y = ((y.wh == 3) || ((y.wh == x.wh) && (y.id == x.id)))) := rfl
            have KEEP : True := trivial
            cases hh : hldB y
            · have HQ6 := HNO.out (by rw [hh]; rfl)
              have HQ7 : Hid (Five w5 X 0 (trimX x ((leftN l x (j + 1) : Nat) : Int)) ∧ w5.frozen? ⟨X, 4, none⟩ = false) := HQ6
              clear HNO HQ6 HLY HLN hcond
              go_wp2
              go_roundw
              case rel => exact ⟨j + 1, by omega, by go_num, HQ7, HB5⟩
              case measure => simp [intOf]; omega
            · have fin : Hid (likeB x y = true → ∃ nx : Nat, nx ≤ 255 ∧ ((cur : Int) - ((cur &&& yn : Nat) : Int) = (nx : Int)) ∧ Five (w5.setCell ⟨X, 4, none⟩ (.int .i64 (nx : Int))) X 0 (trimX x ((leftN l x (j + 1) : Nat) : Int)) ∧ (w5.setCell ⟨X, 4, none⟩ (.int .i64 (nx : Int))).frozen? ⟨X, 4, none⟩ = false ∧ Below X wo (w5.setCell ⟨X, 4, none⟩ (.int .i64 (nx : Int)))) := (fun h => by
                refine ⟨rmN cur yn, Nat.le_trans (rm_le _ _) hcl, ?_, ?_, ?_, bl_setA HB5.out (Nat.le_refl _)⟩
                · have h1 := rm_sub (m := cur) (s := yn) (by omega)
                  have h2 : cur &&& yn ≤ cur := Nat.and_le_left
                  omega
                · rw [HLY.out (by rw [hh, h]; rfl), hyt.out]
                  exact ⟨by simp [go_sem, e0, trimX], by simp [go_sem, e1, trimX], by simp [go_sem, e2, trimX], by simp [go_sem, e3, trimX], by simp [go_sem, e4, trimX]⟩
                · rw [World.frozen?_setCell]; exact hf5)
              have hBth : Hid (∀ w, Calls Try.prog 108 #[.int .i64 cur, .int .i64 yn] w fun e w' => e = .returned (.int .i64 ((cur &&& yn : Nat) : Int)) ∧ w' = w) := sBoth_nat cur yn (by omega) (by omega)
              clear HLY HLN HLL hcl hyt HYN
              have stepYes : True := trivial
              cases h3 : (y.wh == 3)
              · cases h4 : (y.wh == x.wh)
                · have HQ7 : Hid (Five w5 X 0 (trimX x ((leftN l x (j + 1) : Nat) : Int)) ∧ w5.frozen? ⟨X, 4, none⟩ = false) := HNO.out (by rw [hh, hcond.out, h3, h4]; rfl)
                  clear HNO hcond fin
                  go_wp2
                  go_roundw
                  case rel => exact ⟨j + 1, by omega, by go_num, HQ7, HB5⟩
                  case measure => simp [intOf]; omega
                · cases h5 : (y.id == x.id)
                  · have HQ7 : Hid (Five w5 X 0 (trimX x ((leftN l x (j + 1) : Nat) : Int)) ∧ w5.frozen? ⟨X, 4, none⟩ = false) := HNO.out (by rw [hh, hcond.out, h3, h4, h5]; rfl)
                    clear HNO hcond fin
                    go_wp2
                    go_roundw
                    case rel => exact ⟨j + 1, by omega, by go_num, HQ7, HB5⟩
                    case measure => simp [intOf]; omega
                  · obtain ⟨nx, hnx9, hnx, hq1, hq2, hq3⟩ := fin.out (by rw [hcond.out, h3, h4, h5]; rfl)
                    have HQ7 : Hid (Five (w5.setCell ⟨X, 4, none⟩ (.int .i64 (nx : Int))) X 0 (trimX x ((leftN l x (j + 1) : Nat) : Int)) ∧ (w5.setCell ⟨X, 4, none⟩ (.int .i64 (nx : Int))).frozen? ⟨X, 4, none⟩ = false) := ⟨hq1, hq2⟩
                    have HB7 : Hid (Below X wo (w5.setCell ⟨X, 4, none⟩ (.int .i64 (nx : Int)))) := hq3
                    clear HNO hcond fin hq1 hq2 hq3
                    have hwrp : IntKind.i64.wrap (nx : Int) = (nx : Int) := wrap_small (by omega)
                    have HQ8 : Hid (Five (w5.setCell ⟨X, 4, none⟩ (.int .i64 (nx : Int))).drew X 0 (trimX x ((leftN l x (j + 1) : Nat) : Int)) ∧ (w5.setCell ⟨X, 4, none⟩ (.int .i64 (nx : Int))).drew.frozen? ⟨X, 4, none⟩ = false) := ⟨HQ7.out.1.keep (fun _ => rfl), HQ7.out.2⟩
                    have HB8 : Hid (Below X wo (w5.setCell ⟨X, 4, none⟩ (.int .i64 (nx : Int))).drew) := below_drewA HB7.out
                    clear HQ7 HB7
                    go_wp2_with fail
                    go_region_with (go_at_call 108; refine (hBth.out _).mono ?_; rintro e w6 ⟨rfl, h6⟩; subst h6)
                    all_goals (
                      generalize (w5.setCell ⟨X, 4, none⟩ (.int .i64 (nx : Int))).drew = w7 at HQ8 HB8 ⊢
                      clear a0 a1 a2 a3 a4 e0 e1 e2 e3 e4 hf5
                      go_wp2
                      go_roundw
                      case rel => exact ⟨j + 1, by omega, by go_num, HQ8, HB8⟩
                      case measure => simp [intOf]; omega)
              · obtain ⟨nx, hnx9, hnx, hq1, hq2, hq3⟩ := fin.out (by rw [hcond.out, h3]; rfl)
                have HQ7 : Hid (Five (w5.setCell ⟨X, 4, none⟩ (.int .i64 (nx : Int))) X 0 (trimX x ((leftN l x (j + 1) : Nat) : Int)) ∧ (w5.setCell ⟨X, 4, none⟩ (.int .i64 (nx : Int))).frozen? ⟨X, 4, none⟩ = false) := ⟨hq1, hq2⟩
                have HB7 : Hid (Below X wo (w5.setCell ⟨X, 4, none⟩ (.int .i64 (nx : Int)))) := hq3
                clear HNO hcond fin hq1 hq2 hq3
                have hwrp : IntKind.i64.wrap (nx : Int) = (nx : Int) := wrap_small (by omega)
                have HQ8 : Hid (Five (w5.setCell ⟨X, 4, none⟩ (.int .i64 (nx : Int))).drew X 0 (trimX x ((leftN l x (j + 1) : Nat) : Int)) ∧ (w5.setCell ⟨X, 4, none⟩ (.int .i64 (nx : Int))).drew.frozen? ⟨X, 4, none⟩ = false) := ⟨HQ7.out.1.keep (fun _ => rfl), HQ7.out.2⟩
                have HB8 : Hid (Below X wo (w5.setCell ⟨X, 4, none⟩ (.int .i64 (nx : Int))).drew) := below_drewA HB7.out
                clear HQ7 HB7
                go_wp2_with fail
                go_region_with (go_at_call 108; refine (hBth.out _).mono ?_; rintro e w6 ⟨rfl, h6⟩; subst h6)
                all_goals (
                  generalize (w5.setCell ⟨X, 4, none⟩ (.int .i64 (nx : Int))).drew = w7 at HQ8 HB8 ⊢
                  clear a0 a1 a2 a3 a4 e0 e1 e2 e3 e4 hf5
                  go_wp2
                  go_roundw
                  case rel => exact ⟨j + 1, by omega, by go_num, HQ8, HB8⟩
                  case measure => simp [intOf]; omega)
          · have : j = k := by omega
            subst this
            have HTM : Hid (tm = ((leftN l x j : Nat) : Int)) := HTM0
            have HO2 : Hid (wr.ownsRow w.heap.size 61 5 u3 acc.length (pcA acc)) := hOA.out _ hBq.out
            have HB2 : Hid (Below w.heap.size w wr) := hBT.out _ hBq.out
            clear HTM0 hOA hBT hLST HMA HR hQ hBq HLL hf0'
            generalize hcur : leftN l x j = cur at e4 HTM
            clear hcur
            by_cases hz : (cur : Int) = 0
            · have HO4 : Hid (wr.ownsRow w.heap.size 61 5 u3 (trimP l (j + 1)).length (pcA (trimP l (j + 1)))) := HN.out (HTM.out.trans hz) _ _ HO2.out
              have hzd : ¬ 0 < (cur : Int) := by omega
              clear HN HY HO2 HTM
              go_wp2
              go_roundw
              case rel => exact ⟨j + 1, by omega, by go_num, HO4, HB2⟩
              case measure => simp [intOf]; omega
            · obtain ⟨v4, w4, hr, hO4, hB4⟩ := append_one (P := Try.prog) w wr 49 49 61 Try.underlying49 infoAce u3 acc HO2.out HB2.out (trimX x ((cur : Int))) (by omega)
              simp only [trimX] at hr
              have HO4 : Hid (w4.ownsRow w.heap.size 61 5 v4 (trimP l (j + 1)).length (pcA (trimP l (j + 1)))) := HY.out (by rw [HTM.out]; exact hz) _ _ (by rw [HTM.out]; exact hO4)
              have HB4 : Hid (Below w.heap.size w w4) := hB4
              have hzd : 0 < (cur : Int) := by omega
              clear HN HY HO2 HTM hO4 hB4 HB2 hz
              go_wp2_with (at_builtin; refine wpList_append_runA _ rfl (.tmp 70) (.tmp 72) 49 49 rfl _ _ _ _ rfl rfl hr ?_)
              go_roundw
              case rel => exact ⟨j + 1, by omega, by go_num, HO4, HB4⟩
              case measure => simp [intOf]; omega
      · have h4 : ¬ x.fl % 4 = 0 := by omega
        have HTM : Hid (tm = x.ma) := HT2.out h4
        have hf0' : (x.fl == 0) = false := by simpa using hf0
        clear HT1 HT2 hLST HMA HR HLZ hf0 h4
        go_loopw [6] (fun i wr => i = .int .i64 0 ∧ Hid (Five wr X 0 x) ∧ Hid (Below X wo wr)) (fun _ _ => 0)
        case atStart => exact ⟨rfl, hF, hbA⟩
        case round =>
          obtain ⟨rfl, hQ, hBq⟩ := hrel
          have HO2 : Hid (wr.ownsRow w.heap.size 61 5 u3 acc.length (pcA acc)) := hOA.out _ hBq.out
          have HB2 : Hid (Below w.heap.size w wr) := hBT.out _ hBq.out
          obtain ⟨e0, e1, e2, e3, e4⟩ := hQ.out
          simp only [Nat.zero_add] at e1 e2 e3 e4
          clear hOA hBT hbA hQ hBq hF hFz
          by_cases hk0 : k = 0
          · subst hk0
            have hz : ¬ x.ma = 0 := by omega
            obtain ⟨v4, w4, hr, hO4, hB4⟩ := append_one (P := Try.prog) w wr 49 49 61 Try.underlying49 infoAce u3 acc HO2.out HB2.out (trimX x (x.ma)) (by omega)
            simp only [trimX] at hr
            have HO4 : Hid (w4.ownsRow w.heap.size 61 5 v4 (trimP l (0 + 1)).length (pcA (trimP l (0 + 1)))) := HY.out (by rw [HTM.out]; exact hz) _ _ (by rw [HTM.out]; exact hO4)
            have HB4 : Hid (Below w.heap.size w w4) := hB4
            have hzd : 0 < x.ma := by omega
            clear HN HY HO2 HTM hO4 hB4 HB2 hz
            go_wp2_with (at_builtin; refine wpList_append_runA _ rfl (.tmp 70) (.tmp 72) 49 49 rfl _ _ _ _ rfl rfl hr ?_)
            go_roundw
            case rel => exact ⟨0 + 1, by omega, by go_num, HO4, HB4⟩
            case measure => simp [intOf]; omega
          · have hk1 : (0 : Int) < (k : Int) := by omega
            have hz : ¬ x.ma = 0 := by omega
            obtain ⟨v4, w4, hr, hO4, hB4⟩ := append_one (P := Try.prog) w wr 49 49 61 Try.underlying49 infoAce u3 acc HO2.out HB2.out (trimX x (x.ma)) (by omega)
            simp only [trimX] at hr
            have HO4 : Hid (w4.ownsRow w.heap.size 61 5 v4 (trimP l (k + 1)).length (pcA (trimP l (k + 1)))) := HY.out (by rw [HTM.out]; exact hz) _ _ (by rw [HTM.out]; exact hO4)
            have HB4 : Hid (Below w.heap.size w w4) := hB4
            have hzd : 0 < x.ma := by omega
            clear HN HY HO2 HTM hO4 hB4 HB2 hz
            go_wp2_with (at_builtin; refine wpList_append_runA _ rfl (.tmp 70) (.tmp 72) 49 49 rfl _ _ _ _ rfl rfl hr ?_)
            go_roundw
            case rel => exact ⟨k + 1, by omega, by go_num, HO4, HB4⟩
            case measure => simp [intOf]; omega
    · have : k = len := by omega
      subst this
      go_wp2
      go_ret
      exact ansL_row hO.out hB.out
set_option maxHeartbeats 2000000 in
theorem sNfsTrim_no (a : Option Addr) (len cap : Nat) (l : List Ac) (hl : len ≤ 1048576) (ha : acesB l = false) (w : World) (hi : Acs a len l w) :
    Calls Try.prog 52 #[.slice a len cap] w (AnsL [] w) := by
  have hb1 := bel_alloc w (.cells #[] 61)
  have hR : Hid (Calls Try.prog 53 #[.slice a len cap] (w.alloc (.cells #[] 61)) fun e w' => e = .returned (.bool false) ∧ Below w.heap.size w w' ∧ w.heap.size < w'.heap.size) := (by
    have := sNfsRight_any a len cap l hl (w.alloc (.cells #[] 61)) (hi.below hb1)
    rw [ha] at this
    exact this.mono (fun e w' ⟨h1, h2⟩ => ⟨h1, Below.on hb1 h2, by have := h2.size; simp at this; omega⟩))
  clear hi ha hb1
  go_enter Try.func52, Try.ntmps52
  go_wp2_with fail
  refine hR.out.mono ?_
  rintro e w0 ⟨rfl, hb0, hz0⟩
  have hB0 : Hid (Below w.heap.size w w0) := hb0
  have hZ0 : Hid (w.heap.size < w0.heap.size) := hz0
  clear hb0 hR hz0
  go_wp2
  go_ret
  exact ansL_nil rfl (fun A e => by cases e; exact ⟨Nat.le_refl _, hZ0.out⟩) hB0.out
set_option maxHeartbeats 2000000 in
theorem sNfsTrim_none (a : Option Addr) (cap : Nat) (w : World) :
    Calls Try.prog 52 #[.slice a 0 cap] w (AnsL [] w) := by
  have hR : Hid (∀ w, Calls Try.prog 53 #[.slice a 0 cap] w fun e w' => e = .returned (.bool true) ∧ w' = w) := sNfsRight_none a cap
  go_enter Try.func52, Try.ntmps52
  go_wp2_with (go_at_call 53; refine (hR.out _).mono ?_; rintro e w0 ⟨rfl, rfl⟩)
  go_rounds 1
  go_ret
  exact ansL_nil rfl (fun A e => by cases e; simp) (bel_alloc _ _)
/-- spec.NfsTrim. -/
theorem sNfsTrim_any (a : Option Addr) (len cap : Nat) (l : List Ac) (hl : len ≤ 1048576) (w : World) (hi : Acs a len l w) :
    Calls Try.prog 52 #[.slice a len cap] w (AnsL (trimL l) w) := by
  cases ha : acesB l
  · have e : trimL l = [] := by simp [trimL, ha]
    rw [e]
    exact sNfsTrim_no a len cap l hl ha w hi
  · have e : trimL l = trimP l l.length := by simp [trimL, ha]
    rw [e]
    obtain ⟨hln, hp⟩ := hi
    subst hln
    by_cases h0 : l.length = 0
    · rw [h0]
      exact sNfsTrim_none a cap w
    · obtain ⟨b, off, rfl, hlt, hc⟩ := hp (by omega)
      exact sNfsTrim_some b off cap l ha w hlt hc
end Go.Proofs.Ytgojbilbkfilgaa
