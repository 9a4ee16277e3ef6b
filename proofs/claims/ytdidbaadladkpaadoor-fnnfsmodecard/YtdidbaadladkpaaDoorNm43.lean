/- Laid together: ChmodS3. -/
import Derived.Test.YtdidbaadladkpaaDoorNm31
import Derived.Deep.RegionHeld3
/- l04Chmod of the specification. -/
namespace Go.Proofs.YtdidbaadladkpaaDoor
open Go.RowKit Go.PlainAid Go.Deep
set_option linter.unusedVariables false
theorem frozen_newA (w : World) (c : Array Value) (t : TypeId) (o : Nat) : (w.alloc (.cells c t)).frozen? ⟨w.heap.size, o, none⟩ = false := by
  have hb : (w.alloc (.cells c t)).heap[w.heap.size]? = some (.cells c t) := by
    rw [World.alloc]
    exact Array.getElem?_push_size
  unfold World.frozen?
  simp only [hb]
  simp
set_option maxRecDepth 100000 in
set_option maxHeartbeats 4000000 in
/-- spec.l04Chmod. -/
theorem sChmodL_any (a : Option Addr) (len cap : Nat) (l : List Ac) (hb : acesB l = true) (mo : Int) (m0 : 0 ≤ mo) (m1 : mo ≤ 4095) (w : World) (hi : Acs a len l w) :
    Calls Tryd.prog 69 #[.slice a len cap, .int .i64 mo] w fun e w' => ∃ a' c', e = .returned (.slice a' (chL l (mo / 64 % 8) (mo / 8 % 8) (mo % 8)).length c') ∧ RowO w w' a' c' (chL l (mo / 64 % 8) (mo / 8 % 8) (mo % 8)) := by
  have hln : len ≤ 32 := by rw [← hi.1]; exact aces_len hb
  have u0 : 0 ≤ mo / 64 % 8 := by omega
  have u1 : mo / 64 % 8 ≤ 7 := by omega
  have g0 : 0 ≤ mo / 8 % 8 := by omega
  have g1 : mo / 8 % 8 ≤ 7 := by omega
  have o0 : 0 ≤ mo % 8 := by omega
  have o1 : mo % 8 ≤ 7 := by omega
  have HC : Hid (chL l (mo / 64 % 8) (mo / 8 % 8) (mo % 8) = moreA (moreA (moreA (nmAc (chOwn l (mo / 64 % 8)) l (mo / 8 % 8) len) true 2 0 (nb (mo / 8 % 8))) false 2 0 (nb (7 - mo / 8 % 8))) true 3 0 (nb (mo % 8) + 32)) := (by show _ = _; rw [chL, hi.1])
  have HW : Hid (chOwn l (mo / 64 % 8) = moreA (moreA (hdTo l len) true 1 0 (nb (mo / 64 % 8) + 32 + 64)) false 1 0 (nb (7 - mo / 64 % 8))) := (by show _ = _; rw [chOwn, hi.1])
  have HRG : Hid (∀ k, k < len → (0 ≤ (acAt l k).fl ∧ (acAt l k).fl ≤ 15) ∧ (1 ≤ (acAt l k).ma ∧ (acAt l k).ma ≤ 255)) := (fun k hk => ace_range hb (by rw [hi.1]; exact hk))
  have HHL : Hid (∀ k, (hdTo l k).length ≤ k) := hd_len l
  have HNL : Hid (∀ base g k, (nmAc base l g k).length ≤ base.length + k) := (fun base g k => nm_lenA base l g k)
  have HI : Hid (Acs a len l w) := hi
  have HB4 : Hid (∀ (b : Int) (h0 : 0 ≤ b) (h1 : b ≤ 7) (w : World), Calls Tryd.prog 48 #[.int .i64 b] w fun e w' => e = .returned (.int .i64 (nb b)) ∧ w' = w) := l04Bits_any
  have nu := nb_range u0 u1
  have nu7 := nb_range (b := 7 - mo / 64 % 8) (by omega) (by omega)
  have ng := nb_range g0 g1
  have ng7 := nb_range (b := 7 - mo / 8 % 8) (by omega) (by omega)
  have no := nb_range o0 o1
  generalize chL l (mo / 64 % 8) (mo / 8 % 8) (mo % 8) = CL at HC ⊢
  have hR0 : Hid (RowO w (w.alloc (.cells #[] 33)) (some ⟨w.heap.size, 0, none⟩) 0 (hdTo l 0)) := ⟨rowA_start w _ rfl _, bel_alloc _ _⟩
  clear hb hi
  go_enter Tryd.func69, Tryd.ntmps69
  go_wp2
  go_loopw [7, 8] (fun v i wr => ∃ (k : Nat) (ra : Option Addr) (rc : Nat), k ≤ len ∧ i = .int .i64 k ∧ v = .slice ra (hdTo l k).length rc ∧ Hid (RowO w wr ra rc (hdTo l k))) (fun _ i _ => len - (intOf i).toNat)
  case atStart => exact ⟨0, _, 0, Nat.zero_le _, rfl, rfl, hR0⟩
  case round =>
    obtain ⟨k, ra, rc, hk, rfl, rfl, hR⟩ := hrel
    have hhl := HHL.out k
    by_cases hlt : k < len
    · have hlt' : (k : Int) < (len : Int) := by omega
      obtain ⟨b, off, rfl, hbl, hcl⟩ := HI.out.2 (by omega)
      obtain ⟨c0, c1, c2, c3, c4⟩ := (hcl k hlt).keep (fun j => hR.out.2.cell (p := ⟨b, j, none⟩) hbl)
      obtain ⟨⟨f0, f1⟩, _⟩ := HRG.out k hlt
      by_cases hf : 0 < (acAt l k).fl % 4
      · have HN : Hid (hdTo l (k + 1) = hdTo l k ++ [hnd (acAt l k)]) := (by show _ = _; rw [hdTo, if_pos hf])
        generalize acAt l k = x at c0 c1 c2 c3 c4 f0 f1 hf HN
        have hR2 : RowO w (wr.alloc (.cells #[.bool x.al, .int .i64 x.wh, .int .i64 x.id, .int .i64 (x.fl % 8 + 8), .int .i64 x.ma] 33)) ra rc (hdTo l k) := hR.out.below (bel_alloc _ _)
        obtain ⟨a', c', w4, hr, hR4⟩ := append_row hR2 (by omega) (hnd x)
        rw [← HN.out] at hr hR4
        have ez : (wr.alloc (.cells #[.bool x.al, .int .i64 x.wh, .int .i64 x.id, .int .i64 (x.fl % 8 + 8), .int .i64 x.ma] 33)).heap.size = wr.heap.size + 1 := by simp
        rw [ez] at hr
        simp only [hnd] at hr
        have HR4 : Hid (RowO w w4 a' c' (hdTo l (k + 1))) := hR4
        clear hR4 hR2 ez hR hcl
        go_wp2_with (at_builtin; refine wpList_append_runA _ rfl (.tmp 38) (.tmp 40) 23 23 rfl _ _ _ _ rfl rfl hr ?_)
        go_roundw
        case rel => exact ⟨k + 1, a', c', by omega, by go_num, rfl, HR4⟩
        case measure => simp [intOf]; omega
      · have HN : Hid (hdTo l (k + 1) = hdTo l k) := (by show _ = _; rw [hdTo, if_neg hf])
        have hR2 : Hid (RowO w (wr.alloc (.cells #[.bool (acAt l k).al, .int .i64 (acAt l k).wh, .int .i64 (acAt l k).id, .int .i64 (acAt l k).fl, .int .i64 (acAt l k).ma] 33)) ra rc (hdTo l (k + 1))) := (by rw [HN.out]; exact hR.out.below (bel_alloc _ _))
        generalize acAt l k = x at c0 c1 c2 c3 c4 f0 f1 hf hR2
        have hf0 : x.fl % 4 = 0 := by omega
        clear hcl hf
        go_wp2
        go_roundw
        case rel => exact ⟨k + 1, ra, rc, by omega, by go_num, by rw [HN.out], hR2⟩
        case measure => simp [intOf]; omega
    · have hke : k = len := by omega
      subst hke
      have l0 := HHL.out k
      have l1 := more_len (hdTo l k) true 1 0 (nb (mo / 64 % 8) + 32 + 64)
      have l2 := more_len (moreA (hdTo l k) true 1 0 (nb (mo / 64 % 8) + 32 + 64)) false 1 0 (nb (7 - mo / 64 % 8))
      have HB5 : Hid (∀ w : World, Calls Tryd.prog 48 #[.int .i64 (mo / 64 % 8)] w fun e w' => e = .returned (.int .i64 (nb (mo / 64 % 8))) ∧ w' = w) := HB4.out _ u0 u1
      have HB6 : Hid (∀ w : World, Calls Tryd.prog 48 #[.int .i64 (7 - mo / 64 % 8)] w fun e w' => e = .returned (.int .i64 (nb (7 - mo / 64 % 8))) ∧ w' = w) := HB4.out _ (by omega) (by omega)
      have HB7 : Hid (∀ w : World, Calls Tryd.prog 48 #[.int .i64 (mo / 8 % 8)] w fun e w' => e = .returned (.int .i64 (nb (mo / 8 % 8))) ∧ w' = w) := HB4.out _ g0 g1
      have HB8 : Hid (∀ w : World, Calls Tryd.prog 48 #[.int .i64 (7 - mo / 8 % 8)] w fun e w' => e = .returned (.int .i64 (nb (7 - mo / 8 % 8))) ∧ w' = w) := HB4.out _ (by omega) (by omega)
      have HB9 : Hid (∀ w : World, Calls Tryd.prog 48 #[.int .i64 (mo % 8)] w fun e w' => e = .returned (.int .i64 (nb (mo % 8))) ∧ w' = w) := HB4.out _ o0 o1
      clear HB4 hR0
      go_wp2_with fail
      refine (HB5.out _).mono ?_
      rintro e w1 ⟨rfl, rfl⟩
      go_wp2_with fail
      refine (more_row hR.out (by omega) true 1 0 (nb (mo / 64 % 8) + 32 + 64)).mono ?_
      rintro e w2 ⟨ra2, rc2, rfl, hR2⟩
      have HR2 : Hid _ := hR2
      clear hR2
      go_wp2_with fail
      refine (HB6.out _).mono ?_
      rintro e w3 ⟨rfl, rfl⟩
      go_wp2_with fail
      refine (more_row HR2.out (by omega) false 1 0 (nb (7 - mo / 64 % 8))).mono ?_
      rintro e w4 ⟨ra4, rc4, rfl, hR4⟩
      rw [← HW.out] at hR4 l2 ⊢
      have HR4 : Hid (RowO w w4 ra4 rc4 (nmAc (chOwn l (mo / 64 % 8)) l (mo / 8 % 8) 0)) := hR4
      have l3 : (chOwn l (mo / 64 % 8)).length ≤ 34 := by omega
      clear hR4 HR2 HB5 HB6 hR l0 l1 l2 HW HHL
      go_wp2
      go_loopw [7, 10] (fun v i wr => ∃ (j : Nat) (ra : Option Addr) (rc : Nat), j ≤ k ∧ i = .int .i64 j ∧ v = .slice ra (nmAc (chOwn l (mo / 64 % 8)) l (mo / 8 % 8) j).length rc ∧ Hid (RowO w wr ra rc (nmAc (chOwn l (mo / 64 % 8)) l (mo / 8 % 8) j))) (fun _ i _ => k - (intOf i).toNat)
      case atStart => exact ⟨0, ra4, rc4, Nat.zero_le _, rfl, rfl, HR4⟩
      case round =>
        obtain ⟨j, rb, rd, hj, rfl, rfl, hR⟩ := hrel
        have hnl := HNL.out (chOwn l (mo / 64 % 8)) (mo / 8 % 8) j
        by_cases hlt2 : j < k
        · have hlt2' : (j : Int) < (k : Int) := by omega
          obtain ⟨b, off, rfl, hbl, hcl⟩ := HI.out.2 (by omega)
          obtain ⟨c0, c1, c2, c3, c4⟩ := (hcl j hlt2).keep (fun i => hR.out.2.cell (p := ⟨b, i, none⟩) hbl)
          obtain ⟨_, n0, n1⟩ := HRG.out j hlt2
          have hH : Hid (∀ w, Calls Tryd.prog 80 #[.agg #[.bool (acAt l j).al, .int .i64 (acAt l j).wh, .int .i64 (acAt l j).id, .int .i64 (acAt l j).fl, .int .i64 (acAt l j).ma]] w fun e w' => e = .returned (.bool (hldB (acAt l j))) ∧ Below w.heap.size w w') := sl04HoldsG (acAt l j)
          have HN : Hid (nmAc (chOwn l (mo / 64 % 8)) l (mo / 8 % 8) (j + 1) = if hldB (acAt l j) = true ∧ 4 ≤ (acAt l j).wh then moreA (nmAc (chOwn l (mo / 64 % 8)) l (mo / 8 % 8) j) (acAt l j).al (acAt l j).wh (acAt l j).id (cutM (acAt l j) (mo / 8 % 8)) else nmAc (chOwn l (mo / 64 % 8)) l (mo / 8 % 8) j) := rfl
          generalize acAt l j = x at c0 c1 c2 c3 c4 hH HN n0 n1
          have hR5 : Hid (RowO w (wr.alloc (.cells #[.bool x.al, .int .i64 x.wh, .int .i64 x.id, .int .i64 x.fl, .int .i64 x.ma] 33)) rb rd (nmAc (chOwn l (mo / 64 % 8)) l (mo / 8 % 8) j)) := hR.out.below (bel_alloc _ _)
          have hF5 : Hid (Five (wr.alloc (.cells #[.bool x.al, .int .i64 x.wh, .int .i64 x.id, .int .i64 x.fl, .int .i64 x.ma] 33)) wr.heap.size 0 x) := five_new wr x _
          have hXw : Hid (w.heap.size ≤ wr.heap.size ∧ ∀ A, rb = some A → A.block ≠ wr.heap.size) := ⟨hR.out.2.size, fun A e => by have := hR.out.low A e; omega⟩
          go_wp2_with fail
          refine (hH.out _).mono ?_
          rintro e w5 ⟨rfl, hb5⟩
          have hR6 : Hid (RowO w w5 rb rd (nmAc (chOwn l (mo / 64 % 8)) l (mo / 8 % 8) j)) := hR5.out.below hb5
          have hF6 : Hid (Five w5 wr.heap.size 0 x) := hF5.out.below (by simp) hb5
          have HZ4 : Hid (w5.frozen? ⟨wr.heap.size, 4, none⟩ = false) := (by
            show _ = _
            rw [hb5.frozen (p := ⟨wr.heap.size, 4, none⟩) (by simp)]
            exact frozen_newA wr _ _ 4)
          clear c0 c1 c2 c3 c4 hb5 hR5 hF5 hR hcl hH
          obtain ⟨c0, c1, c2, c3, c4⟩ := hF6.out
          simp only [Nat.zero_add] at c0 c1 c2 c3 c4
          cases hh : hldB x
          · have HN2 : Hid (nmAc (chOwn l (mo / 64 % 8)) l (mo / 8 % 8) (j + 1) = nmAc (chOwn l (mo / 64 % 8)) l (mo / 8 % 8) j) := (by show _ = _; rw [HN.out, if_neg (fun h => by rw [hh] at h; cases h.1)])
            clear HN hh
            go_wp2
            go_roundw
            case rel => exact ⟨j + 1, rb, rd, by omega, by go_num, by rw [HN2.out], by rw [HN2.out]; exact hR6⟩
            case measure => simp [intOf]; omega
          · by_cases hw : x.wh < 4
            · have HN2 : Hid (nmAc (chOwn l (mo / 64 % 8)) l (mo / 8 % 8) (j + 1) = nmAc (chOwn l (mo / 64 % 8)) l (mo / 8 % 8) j) := (by show _ = _; rw [HN.out, if_neg (fun h => by have := h.2; omega)])
              clear HN hh
              go_wp2
              go_roundw
              case rel => exact ⟨j + 1, rb, rd, by omega, by go_num, by rw [HN2.out], by rw [HN2.out]; exact hR6⟩
              case measure => simp [intOf]; omega
            · have HN2 : Hid (nmAc (chOwn l (mo / 64 % 8)) l (mo / 8 % 8) (j + 1) = moreA (nmAc (chOwn l (mo / 64 % 8)) l (mo / 8 % 8) j) x.al x.wh x.id (cutM x (mo / 8 % 8))) := (by show _ = _; rw [HN.out, if_pos ⟨hh, by omega⟩])
              clear HN hh
              cases hal : x.al
              · rw [hal] at c0 HN2
                have hcm : cutM x (mo / 8 % 8) = x.ma := by rw [cutM, hal]; rfl
                rw [hcm] at HN2
                clear hcm hal
                go_wp2_with fail
                refine (more_row hR6.out (by omega) false x.wh x.id x.ma).mono ?_
                rintro e w6 ⟨ra6, rc6, rfl, hR7⟩
                rw [← HN2.out] at hR7 ⊢
                have HR7 : Hid _ := hR7
                clear hR7 c0 c1 c2 c3 c4
                go_wp2
                go_roundw
                case rel => exact ⟨j + 1, ra6, rc6, by omega, by go_num, rfl, HR7⟩
                case measure => simp [intOf]; omega
              · rw [hal] at c0 HN2
                have hcm : cutM x (mo / 8 % 8) = x.ma - andI x.ma (nb (7 - mo / 8 % 8)) := by rw [cutM, hal]; rfl
                rw [hcm] at HN2
                clear hcm hal
                have HBo : Hid (∀ w : World, Calls Tryd.prog 89 #[.int .i64 x.ma, .int .i64 (nb (7 - mo / 8 % 8))] w fun e w' => e = .returned (.int .i64 (andI x.ma (nb (7 - mo / 8 % 8)))) ∧ w' = w) := (fun w => sBoth_any _ _ (by omega) (by omega) (by omega) (by omega) w)
                have hla := andI_range x.ma (nb (7 - mo / 8 % 8)) (by omega)
                have HJK : Hid (j < k ∧ (nmAc (chOwn l (mo / 64 % 8)) l (mo / 8 % 8) j).length ≤ 1000000 ∧ k ≤ 32) := ⟨hlt2, by omega, by omega⟩
                clear HC HNL HRG HI HB7 HB9 hlt2 hlt2' hbl hnl hj u0 u1 o0 o1 nu nu7 ng ng7 no l3 HR4 hln m0 m1
                generalize nb (7 - mo / 8 % 8) = NB at HB8 HBo hla HN2
                generalize andI x.ma NB = AM at HBo hla HN2
                have hz4 : w5.frozen? ⟨wr.heap.size, 4, none⟩ = false := HZ4.out
                go_upto_region 19 with fail
                clear hw
                have HB8b : Hid (∀ b : Int, b = 7 - mo / 8 % 8 → ∀ w : World, Calls Tryd.prog 48 #[.int .i64 b] w fun e w' => e = .returned (.int .i64 NB) ∧ w' = w) := (fun b hb w => by rw [hb]; exact HB8.out w)
                clear HB8
                have hwr : IntKind.i64.wrap (x.ma - AM) = x.ma - AM := by rw [IntKind.wrap_i64]; omega
                go_region_law (first | (go_simp; go_at_call 48; refine (HB8b.out _ (by first | rfl | (rw [IntKind.wrap_i64]; omega) | (unfold wrap64; omega)) _).mono ?_; rintro e wq ⟨rfl, rfl⟩) | (go_simp; go_at_call 89; refine (HBo.out _).mono ?_; rintro e wq2 ⟨rfl, rfl⟩))
                all_goals
                  have HRN : Hid (RowO w ((w5.setCell ⟨wr.heap.size, 4, none⟩ (.int .i64 (x.ma - AM))).drew) rb rd (nmAc (chOwn l (mo / 64 % 8)) l (mo / 8 % 8) j)) := (hR6.out.set hXw.out.1 hXw.out.2).drew
                  have HF : Hid (((w5.setCell ⟨wr.heap.size, 4, none⟩ (.int .i64 (x.ma - AM))).drew).cell? ⟨wr.heap.size, 0, none⟩ = some (.bool true) ∧ ((w5.setCell ⟨wr.heap.size, 4, none⟩ (.int .i64 (x.ma - AM))).drew).cell? ⟨wr.heap.size, 1, none⟩ = some (.int .i64 x.wh) ∧ ((w5.setCell ⟨wr.heap.size, 4, none⟩ (.int .i64 (x.ma - AM))).drew).cell? ⟨wr.heap.size, 2, none⟩ = some (.int .i64 x.id) ∧ ((w5.setCell ⟨wr.heap.size, 4, none⟩ (.int .i64 (x.ma - AM))).drew).cell? ⟨wr.heap.size, 4, none⟩ = some (.int .i64 (x.ma - AM))) := (by
                    refine ⟨?_, ?_, ?_, ?_⟩ <;> simp [go_sem, c0, c1, c2, c4])
                  generalize (w5.setCell ⟨wr.heap.size, 4, none⟩ (.int .i64 (x.ma - AM))).drew = w9 at HRN HF ⊢
                  clear c0 c1 c2 c3 c4 hz4 hF6 HZ4 hR6 HB8b HBo hla hwr
                  obtain ⟨c0, c1, c2, c4⟩ := HF.out
                  go_wp2_with fail
                  refine (more_row HRN.out HJK.out.2.1 true x.wh x.id (x.ma - AM)).mono ?_
                  rintro e w6 ⟨ra6, rc6, rfl, hR7⟩
                  rw [← HN2.out] at hR7 ⊢
                  have HR7 : Hid _ := hR7
                  clear hR7 c0 c1 c2 c4
                  have hjk := HJK.out.1
                  have hk32 := HJK.out.2.2
                  go_wp2
                  go_roundw
                  case rel => exact ⟨j + 1, ra6, rc6, by omega, by go_num, rfl, HR7⟩
                  case measure => simp [intOf]; omega
        · have hje : j = k := by omega
          subst hje
          have hR9 := hR.out
          rw [show j = j from rfl] at hR9
          generalize hNA : nmAc (chOwn l (mo / 64 % 8)) l (mo / 8 % 8) j = NA at hR9 HC hnl ⊢
          have HR9 : Hid (RowO w wr rb rd NA) := hR9
          have l4 := more_len NA true 2 0 (nb (mo / 8 % 8))
          have l5 := more_len (moreA NA true 2 0 (nb (mo / 8 % 8))) false 2 0 (nb (7 - mo / 8 % 8))
          clear hR9 hR HR4
          go_wp2_with fail
          refine (HB7.out _).mono ?_
          rintro e w1 ⟨rfl, rfl⟩
          go_wp2_with fail
          refine (more_row HR9.out (by omega) true 2 0 (nb (mo / 8 % 8))).mono ?_
          rintro e w2 ⟨ra2, rc2, rfl, hR2⟩
          have HR2 : Hid _ := hR2
          clear hR2
          go_wp2_with fail
          refine (HB8.out _).mono ?_
          rintro e w3 ⟨rfl, rfl⟩
          go_wp2_with fail
          refine (more_row HR2.out (by omega) false 2 0 (nb (7 - mo / 8 % 8))).mono ?_
          rintro e w4 ⟨ra5, rc5, rfl, hR5⟩
          have HR5 : Hid _ := hR5
          clear hR5
          go_wp2_with fail
          refine (HB9.out _).mono ?_
          rintro e w5 ⟨rfl, rfl⟩
          go_wp2_with fail
          refine (more_row HR5.out (by omega) true 3 0 (nb (mo % 8) + 32)).mono ?_
          rintro e w6 ⟨ra6, rc6, rfl, hR6⟩
          rw [← HC.out] at hR6 ⊢
          have HR6 : Hid (RowO w w6 ra6 rc6 CL) := hR6
          clear hR6
          go_wp2
          go_ret
          exact ⟨ra6, rc6, rfl, HR6.out⟩
end Go.Proofs.YtdidbaadladkpaaDoor
