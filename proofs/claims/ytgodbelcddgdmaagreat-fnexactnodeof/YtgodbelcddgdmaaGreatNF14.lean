/- Laid together: TrS2, TrS3, TrS4. -/
import Derived.Test.YtgodbelcddgdmaaGreatNF6
/- The specification's functions over a tree: l08Zero, l08There, l08IsDir, l08Count, l08Holds, l08Rooted. -/
namespace Go.Proofs.YtgodbelcddgdmaaGreat
open Go.RowKit Go.PlainAid
set_option linter.unusedVariables false
set_option maxRecDepth 20000 in
set_option maxHeartbeats 8000000 in
theorem sZero_any (x : Nd) (y : Na) (w : World) :
    Calls Tryz.prog 31 #[.agg (ndV x y).toArray] w fun e w' => e = .returned (.bool x.zero) ∧ Below w.heap.size w w' := by
  have HE : Hid (x.zero = (x.bare && (x.ow == 0 && (x.gr == 0 && (x.ex == 0 && (x.A.E && (x.li == 0 && ((x.bo.toList == []) && x.ti == 0)))))))) := rfl
  have HB : Hid (Below w.heap.size w (w.alloc (.cells (ndV x y).toArray 31))) := bel_alloc _ _
  have HX : Hid (BoxR (w.alloc (.cells (ndV x y).toArray 31)) w.heap.size (ndV x y)) := boxR_new _ _ _
  go_enter Tryz.func31, Tryz.ntmps31
  go_upto_region 1 with fail
  generalize (w.alloc (.cells (ndV x y).toArray 31)) = w0 at HB HX ⊢
  obtain ⟨X, hX⟩ : ∃ X, X = w.heap.size := ⟨_, rfl⟩
  rw [← hX] at HX ⊢
  clear hX
  go_wp2_with (first
    | (refine wpList_load_mid (by rfl) 31 _ (by rfl) _ _ (by rfl) _ _ HX.out.at0 Tryz.underlying31 rfl (by kernel_rfl) ?_)
    | (go_at_call 50; refine (sBare_any x y _).mono ?_; rintro e w1 ⟨rfl, hb⟩; have HB1 : Hid (Below w.heap.size w w1) := Below.on HB.out hb; have HX1 : Hid (BoxR w1 X (ndV x y)) := HX.out.below hb; clear hb; have e1 := N24.c1 HX1.out.at0; have e2 := N24.c2 HX1.out.at0; have e3 := N24.c3 HX1.out.at0; have e19 := N24.c19 HX1.out.at0; have e21 := N24.c21 HX1.out.at0; have e23 := N24.c23 HX1.out.at0; obtain ⟨c4, c5, c6, c7, c8, c9, c10⟩ := N24.lA HX1.out.at0; simp only [Nat.zero_add] at e1 e2 e3 c4 c5 c6 c7 c8 c9 c10 e19 e21 e23)
    | (go_at_call 51; refine (sEmpty_any x.A _ _ _ _ _).mono ?_; rintro e w2 ⟨rfl, hb⟩; have HB2 : Hid (Below w.heap.size w w2) := Below.on HB1.out hb; have HX2 : Hid (BoxR w2 X (ndV x y)) := HX1.out.below hb; clear hb e1 e2 e3 c4 c5 c6 c7 c8 c9 c10 e19 e21 e23; have e19 := N24.c19 HX2.out.at0; have e21 := N24.c21 HX2.out.at0; have e23 := N24.c23 HX2.out.at0; simp only [Nat.zero_add] at e19 e21 e23))
  all_goals go_ret
  all_goals (refine ⟨ret_boolW ?_, ?_⟩; (rw [HE.out]; simp [*]); (first | exact HB2.out | exact HB1.out))
set_option maxHeartbeats 4000000 in
theorem sThere_any (a : Option Addr) (len cap : Nat) (l : List Nd) (now : Int) (n : Int) (hl : len ≤ 1048576) (w : World) (hi : Nds a len l w) :
    Calls Tryz.prog 15 #[.agg #[.slice a len cap, .int .i64 now], .int .i64 n] w fun e w' => e = .returned (.bool (thB l n)) ∧ Below w.heap.size w w' := by
  have hll := hi.1
  cases h : inR 1 len n
  · have HE : Hid (thB l n = false) := thB_off (by rw [hll]; exact h)
    clear hi hll
    have HB : Hid (Below w.heap.size w (w.alloc (.cells #[.slice a len cap, .int .i64 now] 35))) := bel_alloc _ _
    have HX : Hid (BoxR (w.alloc (.cells #[.slice a len cap, .int .i64 now] 35)) w.heap.size [.slice a len cap, .int .i64 now]) := boxR_new _ _ _
    go_enter Tryz.func15, Tryz.ntmps15
    go_upto_region 1 with fail
    generalize (w.alloc (.cells #[.slice a len cap, .int .i64 now] 35)) = w0 at HB HX ⊢
    obtain ⟨X, hX⟩ : ∃ X, X = w.heap.size := ⟨_, rfl⟩
    rw [← hX] at HX ⊢
    clear hX
    have t0 : w0.cell? ⟨X, 0, none⟩ = some (.slice a len cap) := HX.out.at0 0 _ rfl
    have t1 : w0.cell? ⟨X, 1, none⟩ = some (.int .i64 now) := HX.out.at0 1 _ rfl
    go_wp2_with (go_at_call 33; refine (sIs_any _ _ _ _).mono ?_; rintro e w' ⟨rfl, rfl⟩)
    go_ret
    exact ⟨ret_boolW HE.out.symm, HB.out⟩
  · have HE : Hid (∀ k : Nat, n = k + 1 → thB l n = ((ndAt l k).k != 0)) := (fun k e => by subst e; exact thB_in (by rw [hll]; exact h))
    obtain ⟨h1, h2⟩ := inR_iff.1 h
    obtain ⟨k, rfl⟩ : ∃ k : Nat, n = (k : Int) + 1 := ⟨(n - 1).toNat, by omega⟩
    have hk : k < len := by omega
    obtain ⟨b, off, Y, rfl, hb0, hc⟩ := hi.2 (by omega)
    have HN : Hid (N24 w b (off + k * 24) (ndAt l k) (Y k)) := (hc k hk).1
    clear hc hi
    have hk1 : (k : Int) < (len : Int) := by omega
    have hk0 : (0 : Int) ≤ (k : Int) := by omega
    have HE2 : Hid (thB l (k + 1) = ((ndAt l k).k != 0)) := HE.out k rfl
    clear HE hll
    have HB : Hid (Below w.heap.size w (w.alloc (.cells #[.slice (some ⟨b, off, none⟩) len cap, .int .i64 now] 35))) := bel_alloc _ _
    have HX : Hid (BoxR (w.alloc (.cells #[.slice (some ⟨b, off, none⟩) len cap, .int .i64 now] 35)) w.heap.size [.slice (some ⟨b, off, none⟩) len cap, .int .i64 now]) := boxR_new _ _ _
    go_enter Tryz.func15, Tryz.ntmps15
    go_upto_region 1 with fail
    generalize (w.alloc (.cells #[.slice (some ⟨b, off, none⟩) len cap, .int .i64 now] 35)) = w0 at HB HX ⊢
    obtain ⟨X, hX⟩ : ∃ X, X = w.heap.size := ⟨_, rfl⟩
    rw [← hX] at HX ⊢
    clear hX
    have t0 : w0.cell? ⟨X, 0, none⟩ = some (.slice (some ⟨b, off, none⟩) len cap) := HX.out.at0 0 _ rfl
    have t1 : w0.cell? ⟨X, 1, none⟩ = some (.int .i64 now) := HX.out.at0 1 _ rfl
    have c0 := N24.c0 (range_below HN.out hb0 HB.out)
    clear HN
    generalize ndAt l k = x at HE2 c0
    go_wp2_with (go_at_call 33; refine (sIs_any _ _ _ _).mono ?_; rintro e w' ⟨rfl, rfl⟩)
    all_goals go_ret
    all_goals exact ⟨ret_boolW (by rw [HE2.out]), HB.out⟩
set_option maxHeartbeats 4000000 in
theorem sIsDir_any (a : Option Addr) (len cap : Nat) (l : List Nd) (now : Int) (n : Int) (hl : len ≤ 1048576) (w : World) (hi : Nds a len l w) :
    Calls Tryz.prog 73 #[.agg #[.slice a len cap, .int .i64 now], .int .i64 n] w fun e w' => e = .returned (.bool (diB l n)) ∧ Below w.heap.size w w' := by
  have HC : Hid (∀ w', Below w.heap.size w w' → Calls Tryz.prog 15 #[.agg #[.slice a len cap, .int .i64 now], .int .i64 n] w' fun e w'' => e = .returned (.bool (thB l n)) ∧ Below w'.heap.size w' w'') := (fun w' hb => sThere_any a len cap l now n hl w' (hi.below hb))
  have hll := hi.1
  cases ht : thB l n
  · have HE : Hid (diB l n = false) := (by show _ = _; simp [diB, ht])
    rw [ht] at HC
    clear hi hll
    have HB : Hid (Below w.heap.size w (w.alloc (.cells #[.slice a len cap, .int .i64 now] 35))) := bel_alloc _ _
    have HX : Hid (BoxR (w.alloc (.cells #[.slice a len cap, .int .i64 now] 35)) w.heap.size [.slice a len cap, .int .i64 now]) := boxR_new _ _ _
    go_enter Tryz.func73, Tryz.ntmps73
    go_upto_region 1 with fail
    generalize (w.alloc (.cells #[.slice a len cap, .int .i64 now] 35)) = w0 at HB HX ⊢
    obtain ⟨X, hX⟩ : ∃ X, X = w.heap.size := ⟨_, rfl⟩
    rw [← hX] at HX ⊢
    clear hX
    have t0 : w0.cell? ⟨X, 0, none⟩ = some (.slice a len cap) := HX.out.at0 0 _ rfl
    have t1 : w0.cell? ⟨X, 1, none⟩ = some (.int .i64 now) := HX.out.at0 1 _ rfl
    go_wp2_with (go_at_call 15; refine (HC.out _ HB.out).mono ?_; rintro e w1 ⟨rfl, hb⟩; have HB1 : Hid (Below w.heap.size w w1) := Below.on HB.out hb; have HX1 : Hid (BoxR w1 X [.slice a len cap, .int .i64 now]) := HX.out.below hb; clear hb; clear t0 t1; have t0 : w1.cell? ⟨X, 0, none⟩ = some (.slice a len cap) := HX1.out.at0 0 _ rfl; have t1 : w1.cell? ⟨X, 1, none⟩ = some (.int .i64 now) := HX1.out.at0 1 _ rfl)
    go_ret
    exact ⟨ret_boolW HE.out.symm, HB1.out⟩
  · have h : inR 1 len n = true := by rw [← hll]; exact thB_num ht
    rw [ht] at HC
    have HE : Hid (∀ k : Nat, n = k + 1 → diB l n = ((ndAt l k).k == 1)) := (fun k e => by subst e; exact diB_in ht)
    clear ht
    obtain ⟨h1, h2⟩ := inR_iff.1 h
    obtain ⟨k, rfl⟩ : ∃ k : Nat, n = (k : Int) + 1 := ⟨(n - 1).toNat, by omega⟩
    have hk : k < len := by omega
    obtain ⟨b, off, Y, rfl, hb0, hc⟩ := hi.2 (by omega)
    have HN : Hid (N24 w b (off + k * 24) (ndAt l k) (Y k)) := (hc k hk).1
    clear hc hi
    have hk1 : (k : Int) < (len : Int) := by omega
    have hk0 : (0 : Int) ≤ (k : Int) := by omega
    have HE2 : Hid (diB l (k + 1) = ((ndAt l k).k == 1)) := HE.out k rfl
    clear HE hll
    have HB : Hid (Below w.heap.size w (w.alloc (.cells #[.slice (some ⟨b, off, none⟩) len cap, .int .i64 now] 35))) := bel_alloc _ _
    have HX : Hid (BoxR (w.alloc (.cells #[.slice (some ⟨b, off, none⟩) len cap, .int .i64 now] 35)) w.heap.size [.slice (some ⟨b, off, none⟩) len cap, .int .i64 now]) := boxR_new _ _ _
    go_enter Tryz.func73, Tryz.ntmps73
    go_upto_region 1 with fail
    generalize (w.alloc (.cells #[.slice (some ⟨b, off, none⟩) len cap, .int .i64 now] 35)) = w0 at HB HX ⊢
    obtain ⟨X, hX⟩ : ∃ X, X = w.heap.size := ⟨_, rfl⟩
    rw [← hX] at HX ⊢
    clear hX
    have t0 : w0.cell? ⟨X, 0, none⟩ = some (.slice (some ⟨b, off, none⟩) len cap) := HX.out.at0 0 _ rfl
    have t1 : w0.cell? ⟨X, 1, none⟩ = some (.int .i64 now) := HX.out.at0 1 _ rfl
    go_wp2_with (go_at_call 15; refine (HC.out _ HB.out).mono ?_; rintro e w1 ⟨rfl, hb⟩; have HB1 : Hid (Below w.heap.size w w1) := Below.on HB.out hb; have HX1 : Hid (BoxR w1 X [.slice (some ⟨b, off, none⟩) len cap, .int .i64 now]) := HX.out.below hb; clear hb; clear t0 t1; have t0 : w1.cell? ⟨X, 0, none⟩ = some (.slice (some ⟨b, off, none⟩) len cap) := HX1.out.at0 0 _ rfl; have t1 : w1.cell? ⟨X, 1, none⟩ = some (.int .i64 now) := HX1.out.at0 1 _ rfl; have c0 := N24.c0 (range_below HN.out hb0 HB1.out); clear HN; generalize ndAt l k = x at HE2 c0)
    all_goals go_ret
    all_goals exact ⟨ret_boolW (by rw [HE2.out]), HB1.out⟩
set_option maxHeartbeats 8000000 in
theorem sCount_any (a : Option Addr) (len cap : Nat) (l : List Nd) (now : Int) (n : Int) (hl : len ≤ 1048576) (hf : ∀ i, i < len → NdFit 1048576 (ndAt l i)) (w : World) (hi : Nds a len l w) :
    Calls Tryz.prog 52 #[.agg #[.slice a len cap, .int .i64 now], .int .i64 n] w fun e w' => e = .returned (.int .i64 (cntN l n len)) ∧ Below w.heap.size w w' := by
  have hll := hi.1
  have HI : Hid (Nds a len l w) := hi
  have HF : Hid (∀ i, i < len → NdFit 1048576 (ndAt l i)) := hf
  have HC : Hid (∀ k, k ≤ len → 0 ≤ cntN l n k ∧ cntN l n k ≤ k * 1048576) := (fun k hk => cntN_b l n k (by omega) (fun i hi => (hf i (by omega)).nl))
  clear hi hf hll
  have HB : Hid (Below w.heap.size w (w.alloc (.cells #[.slice a len cap, .int .i64 now] 35))) := bel_alloc _ _
  have HX : Hid (BoxR (w.alloc (.cells #[.slice a len cap, .int .i64 now] 35)) w.heap.size [.slice a len cap, .int .i64 now]) := boxR_new _ _ _
  go_enter Tryz.func52, Tryz.ntmps52
  go_upto_region 1 with fail
  generalize (w.alloc (.cells #[.slice a len cap, .int .i64 now] 35)) = w0 at HB HX ⊢
  obtain ⟨X, hX⟩ : ∃ X, X = w.heap.size := ⟨_, rfl⟩
  rw [← hX] at HX ⊢
  clear hX
  have t0 : w0.cell? ⟨X, 0, none⟩ = some (.slice a len cap) := HX.out.at0 0 _ rfl
  have t1 : w0.cell? ⟨X, 1, none⟩ = some (.int .i64 now) := HX.out.at0 1 _ rfl
  go_wp2
  go_loop [6, 5] (fun i c => ∃ k : Nat, k ≤ len ∧ i = .int .i64 k ∧ c = .int .i64 (cntN l n k)) (fun i _ => len - (intOf i).toNat)
  case atStart => exact ⟨0, Nat.zero_le _, rfl, rfl⟩
  case round =>
    obtain ⟨k, hk, rfl, rfl⟩ := hrel
    by_cases hlt : k < len
    · obtain ⟨b, off, Y, rfl, hb0, hc⟩ := (HI.out.below HB.out).2 (by omega)
      have hlt' : (k : Int) < (len : Int) := by omega
      have hfl := (HF.out k hlt).nl
      have c22 := N24.c22 (hc k hlt).1
      have HE : Hid (Ens (Y k).nA (ndAt l k).ns.length (ndAt l k).ns w0) := (hc k hlt).2.nA
      have HS : Hid (cntN l n (k + 1) = cntN l n k + cntE (ndAt l k).ns n (ndAt l k).ns.length) := rfl
      obtain ⟨q0, q1⟩ := HC.out k hk
      clear hc
      generalize cntN l n k = q at HS q0 q1 ⊢
      generalize (Y k).nA = nA at HE c22
      generalize (Y k).nC = nC at c22
      generalize (ndAt l k).ns = ns at HE HS c22 hfl
      go_wp2
      go_loop [7, 5] (fun j c => ∃ m : Nat, m ≤ ns.length ∧ j = .int .i64 m ∧ c = .int .i64 (q + cntE ns n m)) (fun j _ => ns.length - (intOf j).toNat)
      case atStart => exact ⟨0, Nat.zero_le _, rfl, by simp [cntE]⟩
      case round =>
        obtain ⟨m, hm, rfl, rfl⟩ := hrel
        have hcb := cntE_b ns n m
        by_cases hml : m < ns.length
        · obtain ⟨b2, off2, rfl, hb2, hc2⟩ := HE.out.2 (by omega)
          have hml' : (m : Int) < (ns.length : Int) := by omega
          have g1 := (hc2 m hml).2
          have HS2 : Hid (cntE ns n (m + 1) = cntE ns n m + (if noAt ns m == n then 1 else 0)) := rfl
          clear hc2
          generalize noAt ns m = v at g1 HS2
          generalize cntE ns n m = z at hcb HS2 ⊢
          by_cases e : v = n
          · have e2 : (v == n) = true := by simp [e]
            rw [e2] at HS2
            clear e
            go_wp2
            go_round
            case rel => exact ⟨m + 1, by omega, by go_num, by rw [HS2.out]; simp; omega⟩
            case measure => simp [intOf]; omega
          · have e2 : (v == n) = false := by simp [e]
            rw [e2] at HS2
            clear e
            go_wp2
            go_round
            case rel => exact ⟨m + 1, by omega, by go_num, by rw [HS2.out]; simp⟩
            case measure => simp [intOf]; omega
        · have : m = ns.length := by omega
          subst this
          go_wp2
          go_round
          case rel => exact ⟨k + 1, by omega, by go_num, by rw [HS.out]⟩
          case measure => simp [intOf]; omega
    · have : k = len := by omega
      subst this
      go_wp2
      go_ret
      exact ⟨rfl, HB.out⟩
set_option maxHeartbeats 8000000 in
theorem sHolds_any (a : Option Addr) (len cap : Nat) (l : List Nd) (now : Int) (d : Nat) (n : Int) (hl : len ≤ 1048576) (hd : d < len) (hf : ∀ i, i < len → NdFit 1048576 (ndAt l i)) (w : World) (hi : Nds a len l w) :
    Calls Tryz.prog 74 #[.agg #[.slice a len cap, .int .i64 now], .int .i64 ((d : Int) + 1), .int .i64 n] w fun e w' => e = .returned (.bool (hasE (ndAt l d).ns n (ndAt l d).ns.length)) ∧ Below w.heap.size w w' := by
  have hfl := (hf d hd).nl
  obtain ⟨b, off, Y, rfl, hb0, hc⟩ := hi.2 (by omega)
  have HN : Hid (N24 w b (off + d * 24) (ndAt l d) (Y d)) := (hc d hd).1
  have HM : Hid (Ens (Y d).nA (ndAt l d).ns.length (ndAt l d).ns w) := (hc d hd).2.nA
  clear hc hi hf
  have hd1 : (d : Int) < (len : Int) := by omega
  have hd0 : (0 : Int) ≤ (d : Int) := by omega
  have HB : Hid (Below w.heap.size w (w.alloc (.cells #[.slice (some ⟨b, off, none⟩) len cap, .int .i64 now] 35))) := bel_alloc _ _
  have HX : Hid (BoxR (w.alloc (.cells #[.slice (some ⟨b, off, none⟩) len cap, .int .i64 now] 35)) w.heap.size [.slice (some ⟨b, off, none⟩) len cap, .int .i64 now]) := boxR_new _ _ _
  go_enter Tryz.func74, Tryz.ntmps74
  go_upto_region 1 with fail
  generalize (w.alloc (.cells #[.slice (some ⟨b, off, none⟩) len cap, .int .i64 now] 35)) = w0 at HB HX ⊢
  obtain ⟨X, hX⟩ : ∃ X, X = w.heap.size := ⟨_, rfl⟩
  rw [← hX] at HX ⊢
  clear hX
  have t0 : w0.cell? ⟨X, 0, none⟩ = some (.slice (some ⟨b, off, none⟩) len cap) := HX.out.at0 0 _ rfl
  have t1 : w0.cell? ⟨X, 1, none⟩ = some (.int .i64 now) := HX.out.at0 1 _ rfl
  have c22 := N24.c22 (range_below HN.out hb0 HB.out)
  have HE : Hid (Ens (Y d).nA (ndAt l d).ns.length (ndAt l d).ns w0) := HM.out.below HB.out
  clear HN HM
  generalize (Y d).nA = nA at HE c22
  generalize (Y d).nC = nC at c22
  obtain ⟨ns, hns⟩ : ∃ ns, ns = (ndAt l d).ns := ⟨_, rfl⟩
  rw [← hns] at HE c22 hfl
  have HNS : Hid (ns = (ndAt l d).ns) := hns
  clear hns
  go_wp2
  go_loop [7] (fun j => ∃ m : Nat, m ≤ ns.length ∧ j = .int .i64 m ∧ Hid (hasE ns n m = false)) (fun j => ns.length - (intOf j).toNat)
  case atStart => exact ⟨0, Nat.zero_le _, rfl, rfl⟩
  case round =>
    obtain ⟨m, hm, rfl, hno⟩ := hrel
    by_cases hml : m < ns.length
    · obtain ⟨b2, off2, rfl, hb2, hc2⟩ := HE.out.2 (by omega)
      have hml' : (m : Int) < (ns.length : Int) := by omega
      have g1 := (hc2 m hml).2
      have HS2 : Hid (hasE ns n (m + 1) = (hasE ns n m || (noAt ns m == n))) := rfl
      clear hc2
      by_cases e : noAt ns m = n
      · have hyes : Hid (hasE ns n ns.length = true) := hasE_next (k := m + 1) (by rw [HS2.out]; simp [e]) (by omega)
        have e2 : (noAt ns m == n) = true := by simp [e]
        clear e HS2
        go_wp2
        go_ret
        exact ⟨ret_boolW (by rw [← HNS.out]; exact hyes.out.symm), HB.out⟩
      · have hno2 : Hid (hasE ns n (m + 1) = false) := (by show _ = _; rw [HS2.out, hno.out]; simp [e])
        have e2 : (noAt ns m == n) = false := by simp [e]
        clear e HS2
        go_wp2
        go_round
        case rel => exact ⟨m + 1, by omega, by go_num, hno2⟩
        case measure => simp [intOf]; omega
    · have : m = ns.length := by omega
      subst this
      go_wp2
      go_ret
      exact ⟨ret_boolW (by rw [← HNS.out]; exact hno.out.symm), HB.out⟩
set_option maxHeartbeats 8000000 in
theorem sRooted_any (a : Option Addr) (len cap : Nat) (l : List Nd) (now : Int) (n : Int) (hl : len ≤ 1048576) (w : World) (hi : Nds a len l w) :
    Calls Tryz.prog 75 #[.agg #[.slice a len cap, .int .i64 now], .int .i64 n] w fun e w' => e = .returned (.bool (rtB l 13 n)) ∧ Below w.heap.size w w' := by
  have HI : Hid (Nds a len l w) := hi
  clear hi
  have HB : Hid (Below w.heap.size w (w.alloc (.cells #[.slice a len cap, .int .i64 now] 35))) := bel_alloc _ _
  have HX : Hid (BoxR (w.alloc (.cells #[.slice a len cap, .int .i64 now] 35)) w.heap.size [.slice a len cap, .int .i64 now]) := boxR_new _ _ _
  go_enter Tryz.func75, Tryz.ntmps75
  go_upto_region 1 with fail
  generalize (w.alloc (.cells #[.slice a len cap, .int .i64 now] 35)) = w0 at HB HX ⊢
  obtain ⟨X, hX⟩ : ∃ X, X = w.heap.size := ⟨_, rfl⟩
  rw [← hX] at HX ⊢
  clear hX
  have t0 : w0.cell? ⟨X, 0, none⟩ = some (.slice a len cap) := HX.out.at0 0 _ rfl
  have t1 : w0.cell? ⟨X, 1, none⟩ = some (.int .i64 now) := HX.out.at0 1 _ rfl
  clear t0 t1
  go_wp2
  go_loopw [5, 1] (fun i c wr => ∃ (k : Nat) (m : Int), k ≤ 13 ∧ i = .int .i64 k ∧ c = .int .i64 m ∧ Hid (rtB l 13 n = rtB l (13 - k) m) ∧ Hid (Below w.heap.size w wr) ∧ Hid (BoxR wr X [.slice a len cap, .int .i64 now])) (fun i _ _ => 13 - (intOf i).toNat)
  case atStart => exact ⟨0, n, by omega, rfl, rfl, rfl, HB, HX⟩
  case round =>
    obtain ⟨k, m, hk, rfl, rfl, hR, hB, hX⟩ := hrel
    have t0 : wr.cell? ⟨X, 0, none⟩ = some (.slice a len cap) := hX.out.at0 0 _ rfl
    have t1 : wr.cell? ⟨X, 1, none⟩ = some (.int .i64 now) := hX.out.at0 1 _ rfl
    by_cases hlt : k ≤ 12
    · obtain ⟨f, hfu⟩ : ∃ f, 13 - k = f + 1 := ⟨12 - k, by omega⟩
      have hfk : 13 - (k + 1) = f := by omega
      rw [hfu] at hR
      have hk' : (k : Int) ≤ 12 := by omega
      by_cases e1 : m = 1
      · subst e1
        have hyes : Hid (rtB l 13 n = true) := (by show _ = _; rw [hR.out]; simp [rtB])
        go_wp2
        go_ret
        exact ⟨ret_boolW hyes.out.symm, hB.out⟩
      · have e2 : (m == 1) = false := by simp [e1]
        have HD0 : Hid (Calls Tryz.prog 73 #[.agg #[.slice a len cap, .int .i64 now], .int .i64 m] wr fun e w'' => e = .returned (.bool (diB l m)) ∧ Below wr.heap.size wr w'') := sIsDir_any a len cap l now m hl wr (HI.out.below hB.out)
        cases hd : diB l m
        · have hno : Hid (rtB l 13 n = false) := (by show _ = _; rw [hR.out]; simp [rtB, e1, hd])
          rw [hd] at HD0
          clear e1
          go_wp2_with (go_at_call 73; refine (HD0.out).mono ?_; rintro e w1 ⟨rfl, hb⟩; have HB1 : Hid (Below w.heap.size w w1) := Below.on hB.out hb; clear hb)
          go_ret
          exact ⟨ret_boolW hno.out.symm, HB1.out⟩
        · have hstep : Hid (rtB l 13 n = rtB l f (ndAt l (m - 1).toNat).up) := (by show _ = _; rw [hR.out]; simp [rtB, e1, hd])
          have hin := inR_iff.1 (thB_num (diB_th hd))
          have hll := HI.out.1
          obtain ⟨j, rfl⟩ : ∃ j : Nat, m = (j : Int) + 1 := ⟨(m - 1).toNat, by omega⟩
          rw [at_succ] at hstep
          rw [hd] at HD0
          have hj : j < len := by omega
          have hj1 : (j : Int) < (len : Int) := by omega
          have hj0 : (0 : Int) ≤ (j : Int) := by omega
          clear e1 hin hll
          obtain ⟨b, off, Y, rfl, hb0, hc⟩ := (HI.out.below hB.out).2 (by omega)
          have HN : Hid (N24 wr b (off + j * 24) (ndAt l j) (Y j)) := (hc j hj).1
          clear hc
          go_wp2_with (go_at_call 73; refine (HD0.out).mono ?_; rintro e w1 ⟨rfl, hb⟩; have HB1 : Hid (Below w.heap.size w w1) := Below.on hB.out hb; have HX1 : Hid (BoxR w1 X [.slice (some ⟨b, off, none⟩) len cap, .int .i64 now]) := hX.out.below hb; have c20 := N24.c20 (range_below HN.out hb0 hb); clear hb HN t0 t1; have t0 : w1.cell? ⟨X, 0, none⟩ = some (.slice (some ⟨b, off, none⟩) len cap) := HX1.out.at0 0 _ rfl; generalize (ndAt l j).up = up at hstep c20)
          go_roundw
          case rel => exact ⟨k + 1, up, by omega, by go_num, rfl, by rw [hfk]; exact hstep, HB1, HX1⟩
          case measure => simp [intOf]; omega
    · have : k = 13 := by omega
      subst this
      have hno : Hid (rtB l 13 n = false) := (by show _ = _; rw [hR.out]; rfl)
      go_wp2
      go_ret
      exact ⟨ret_boolW hno.out.symm, hB.out⟩
end Go.Proofs.YtgodbelcddgdmaaGreat
/- The specification's l08Names. -/
namespace Go.Proofs.YtgodbelcddgdmaaGreat
open Go.RowKit Go.PlainAid Go.Deep
set_option linter.unusedVariables false
theorem binOp_geqS (t : TypeId) (a b : ByteArray) : binOp .geq t (.string a) (.string b) = pure (.bool !(Op.bytesLess a.toList b.toList)) := by simp [binOp, Op.stringOp]
attribute [local go_sem] binOp_geqS
set_option maxRecDepth 20000 in
set_option maxHeartbeats 16000000 in
theorem sNames_any (a : Option Addr) (len cap : Nat) (l : List Nd) (now : Int) (nA : Option Addr) (nC : Nat) (ns : List (ByteArray × Int)) (hl : len ≤ 1048576) (hnl : ns.length ≤ 1048576) (hnm : ∀ i, i < ns.length → (nmAt ns i).size ≤ 1048576) (w : World) (hi : Nds a len l w) (hn : Ens nA ns.length ns w) :
    Calls Tryz.prog 72 #[.agg #[.slice a len cap, .int .i64 now], .slice nA ns.length nC] w fun e w' => e = .returned (.bool (nsB l ns)) ∧ Below w.heap.size w w' := by
  have HI : Hid (Nds a len l w) := hi
  have HN : Hid (Ens nA ns.length ns w) := hn
  have HM : Hid (∀ i, i < ns.length → (nmAt ns i).size ≤ 1048576) := hnm
  clear hi hn hnm
  by_cases h6 : 6 < ns.length
  · have hno : Hid (nsB l ns = false) := nsB_long h6
    have h6' : (6 : Int) < (ns.length : Int) := by omega
    have HB : Hid (Below w.heap.size w (w.alloc (.cells #[.slice a len cap, .int .i64 now] 35))) := bel_alloc _ _
    have HX : Hid (BoxR (w.alloc (.cells #[.slice a len cap, .int .i64 now] 35)) w.heap.size [.slice a len cap, .int .i64 now]) := boxR_new _ _ _
    go_enter Tryz.func72, Tryz.ntmps72
    go_upto_region 1 with fail
    generalize (w.alloc (.cells #[.slice a len cap, .int .i64 now] 35)) = w0 at HB HX ⊢
    obtain ⟨X, hX⟩ : ∃ X, X = w.heap.size := ⟨_, rfl⟩
    rw [← hX] at HX ⊢
    clear hX
    have t0 : w0.cell? ⟨X, 0, none⟩ = some (.slice a len cap) := HX.out.at0 0 _ rfl
    have t1 : w0.cell? ⟨X, 1, none⟩ = some (.int .i64 now) := HX.out.at0 1 _ rfl
    go_wp2
    go_ret
    exact ⟨ret_boolW hno.out.symm, HB.out⟩
  have h6' : ¬ (6 : Int) < (ns.length : Int) := by omega
  have HB : Hid (Below w.heap.size w (w.alloc (.cells #[.slice a len cap, .int .i64 now] 35))) := bel_alloc _ _
  have HX : Hid (BoxR (w.alloc (.cells #[.slice a len cap, .int .i64 now] 35)) w.heap.size [.slice a len cap, .int .i64 now]) := boxR_new _ _ _
  go_enter Tryz.func72, Tryz.ntmps72
  go_upto_region 1 with fail
  generalize (w.alloc (.cells #[.slice a len cap, .int .i64 now] 35)) = w0 at HB HX ⊢
  obtain ⟨X, hX⟩ : ∃ X, X = w.heap.size := ⟨_, rfl⟩
  rw [← hX] at HX ⊢
  clear hX
  have t0 : w0.cell? ⟨X, 0, none⟩ = some (.slice a len cap) := HX.out.at0 0 _ rfl
  have t1 : w0.cell? ⟨X, 1, none⟩ = some (.int .i64 now) := HX.out.at0 1 _ rfl
  clear t0 t1
  go_wp2
  go_loopw [5] (fun i wr => ∃ (k : Nat), k ≤ ns.length ∧ i = .int .i64 k ∧ Hid (nsT l ns k = true) ∧ Hid (Below w.heap.size w wr) ∧ Hid (BoxR wr X [.slice a len cap, .int .i64 now])) (fun i _ => ns.length - (intOf i).toNat)
  case atStart => exact ⟨0, Nat.zero_le _, rfl, rfl, HB, HX⟩
  case round =>
    obtain ⟨k, hk, rfl, hto, hB, hX⟩ := hrel
    by_cases hlt : k < ns.length
    · obtain ⟨b, off, rfl, hb0, hc⟩ := (HN.out.below hB.out).2 (by omega)
      have hlt' : (k : Int) < (ns.length : Int) := by omega
      have hk0 : (0 : Int) ≤ (k : Int) := by omega
      have g0 : ∀ d os, (Go.Sort.grow (redrawn wr d) os).cell? ⟨b, off + k * 2, none⟩ = some (.string (nmAt ns k)) := fun d os => cell_regrown ((hc k hlt).1) d os
      have g1 : ∀ d os, (Go.Sort.grow (redrawn wr d) os).cell? ⟨b, off + k * 2 + 1, none⟩ = some (.int .i64 (noAt ns k)) := fun d os => cell_regrown ((hc k hlt).2) d os
      have t0 : ∀ d os, (Go.Sort.grow (redrawn wr d) os).cell? ⟨X, 0, none⟩ = some (.slice a len cap) := fun d os => cell_regrown (hX.out.at0 0 _ rfl) d os
      have t1 : ∀ d os, (Go.Sort.grow (redrawn wr d) os).cell? ⟨X, 1, none⟩ = some (.int .i64 now) := fun d os => cell_regrown (hX.out.at0 1 _ rfl) d os
      have hsz := HM.out k hlt
      have HO : Hid (okE l ns k = (entB (nmAt ns k) && ((k == 0 || Op.bytesLess (nmAt ns (k - 1)).toList (nmAt ns k).toList) && (thB l (noAt ns k) && noAt ns k != 1)))) := rfl
      have cE : ∀ d os, Calls Tryz.prog 90 #[.string (nmAt ns k)] (Go.Sort.grow (redrawn wr d) os) fun e w'' => e = .returned (.bool (entB (nmAt ns k))) ∧ ∃ p : Regrown, w'' = Go.Sort.grow (redrawn wr p.d) p.os := fun d os => (sEntry_any (nmAt ns k) (by unfold maxLen; omega) _).mono (fun e w'' ⟨h1, h2⟩ => ⟨h1, ⟨d, os⟩, h2⟩)
      have cT : ∀ d os, Calls Tryz.prog 15 #[.agg #[.slice a len cap, .int .i64 now], .int .i64 (noAt ns k)] (Go.Sort.grow (redrawn wr d) os) fun e w'' => e = .returned (.bool (thB l (noAt ns k))) ∧ ∃ p : Regrown, w'' = Go.Sort.grow (redrawn wr p.d) p.os := fun d os => Calls.regrown_of (sThere_any a len cap l now _ hl _ ((HI.out.below hB.out).below (below_regrown wr d os)))
      cases he : entB (nmAt ns k)
      · have hno : Hid (nsB l ns = false) := nsB_no hlt (by rw [HO.out]; simp [he])
        rw [he] at cE
        clear cT hc HO
        go_upto_region 6 with fail
        refine wp_region_quiet_below (by kernel_rfl) (by kernel_rfl) ?_
        repeat (go_big_quiet_step (first | exact cE _ _))
        refine wpQuiet_nil ?_
        intro _ hw'
        obtain ⟨⟨dq, osq⟩, hw''⟩ := hw'
        subst hw''
        have HB2 : Hid (Below w.heap.size w (Go.Sort.grow (redrawn wr dq) osq)) := hB.out.trans ((below_regrown wr dq osq).mono hB.out.size)
        have HX2 : Hid (BoxR (Go.Sort.grow (redrawn wr dq) osq) X [.slice a len cap, .int .i64 now]) := hX.out.below (below_regrown wr dq osq)
        generalize Go.Sort.grow (redrawn wr dq) osq = w1 at HB2 HX2 ⊢
        clear g0 g1 t0 t1 cE
        go_wp2
        go_ret
        exact ⟨ret_boolW hno.out.symm, HB2.out⟩
      rw [he] at cE HO
      clear he
      by_cases hk00 : k = 0
      · subst hk00
        clear hc
        simp only [Nat.zero_mul, Nat.add_zero] at g0 g1
        generalize nmAt ns 0 = nm at g0 cE HO
        generalize noAt ns 0 = v at g1 cT HO
        go_upto_region 6 with fail
        cases ht : thB l v
        · have hno : Hid (nsB l ns = false) := nsB_no hlt (by rw [HO.out]; simp [ht])
          rw [ht] at cT
          clear HO
          refine wp_region_quiet_below (by kernel_rfl) (by kernel_rfl) ?_
          repeat (go_big_quiet_step (first | exact cE _ _ | exact cT _ _))
          refine wpQuiet_nil ?_
          intro _ hw'
          obtain ⟨⟨dq, osq⟩, hw''⟩ := hw'
          subst hw''
          have HB2 : Hid (Below w.heap.size w (Go.Sort.grow (redrawn wr dq) osq)) := hB.out.trans ((below_regrown wr dq osq).mono hB.out.size)
          have HX2 : Hid (BoxR (Go.Sort.grow (redrawn wr dq) osq) X [.slice a len cap, .int .i64 now]) := hX.out.below (below_regrown wr dq osq)
          generalize Go.Sort.grow (redrawn wr dq) osq = w1 at HB2 HX2 ⊢
          clear g0 g1 t0 t1 cE cT
          go_wp2
          go_ret
          exact ⟨ret_boolW hno.out.symm, HB2.out⟩
        · rw [ht] at cT
          by_cases e1 : v = 1
          · have hno : Hid (nsB l ns = false) := nsB_no hlt (by rw [HO.out]; simp [e1])
            have e2 : (v == 1) = true := by simp [e1]
            clear HO e1 ht
            refine wp_region_quiet_below (by kernel_rfl) (by kernel_rfl) ?_
            repeat (go_big_quiet_step (first | exact cE _ _ | exact cT _ _))
            refine wpQuiet_nil ?_
            intro _ hw'
            obtain ⟨⟨dq, osq⟩, hw''⟩ := hw'
            subst hw''
            have HB2 : Hid (Below w.heap.size w (Go.Sort.grow (redrawn wr dq) osq)) := hB.out.trans ((below_regrown wr dq osq).mono hB.out.size)
            have HX2 : Hid (BoxR (Go.Sort.grow (redrawn wr dq) osq) X [.slice a len cap, .int .i64 now]) := hX.out.below (below_regrown wr dq osq)
            generalize Go.Sort.grow (redrawn wr dq) osq = w1 at HB2 HX2 ⊢
            clear g0 g1 t0 t1 cE cT
            go_wp2
            go_ret
            exact ⟨ret_boolW hno.out.symm, HB2.out⟩
          · have hyes : Hid (nsT l ns (0 + 1) = true) := nsT_next hto.out (by rw [HO.out]; simp [ht, e1])
            have e2 : (v == 1) = false := by simp [e1]
            clear HO e1 ht
            refine wp_region_quiet_below (by kernel_rfl) (by kernel_rfl) ?_
            repeat (go_big_quiet_step (first | exact cE _ _ | exact cT _ _))
            refine wpQuiet_nil ?_
            intro _ hw'
            obtain ⟨⟨dq, osq⟩, hw''⟩ := hw'
            subst hw''
            have HB2 : Hid (Below w.heap.size w (Go.Sort.grow (redrawn wr dq) osq)) := hB.out.trans ((below_regrown wr dq osq).mono hB.out.size)
            have HX2 : Hid (BoxR (Go.Sort.grow (redrawn wr dq) osq) X [.slice a len cap, .int .i64 now]) := hX.out.below (below_regrown wr dq osq)
            generalize Go.Sort.grow (redrawn wr dq) osq = w1 at HB2 HX2 ⊢
            clear g0 g1 t0 t1 cE cT
            go_wp2
            go_roundw
            case rel => exact ⟨0 + 1, by omega, by go_num, hyes, HB2, HX2⟩
            case measure => simp [intOf]; omega
      · obtain ⟨m, rfl⟩ : ∃ m, k = m + 1 := ⟨k - 1, by omega⟩
        have p0 : ∀ d os, (Go.Sort.grow (redrawn wr d) os).cell? ⟨b, off + m * 2, none⟩ = some (.string (nmAt ns m)) := fun d os => cell_regrown ((hc m (by omega)).1) d os
        clear hc
        have hm1 : (m : Int) < (ns.length : Int) := by omega
        have hm0 : (0 : Int) ≤ (m : Int) := by omega
        have hgt : (0 : Int) < (m : Int) + 1 := by omega
        have eM : m + 1 - 1 = m := by omega
        have eZ : (m + 1 == 0) = false := by simp
        rw [eM, eZ] at HO
        clear eM eZ hk00
        simp only [Int.natCast_add, Int.cast_ofNat_Int] at hlt' hk0
        generalize nmAt ns (m + 1) = nm at g0 cE HO
        generalize noAt ns (m + 1) = v at g1 cT HO
        generalize nmAt ns m = pm at p0 HO
        cases hless : Op.bytesLess pm.toList nm.toList
        · have hno : Hid (nsB l ns = false) := nsB_no hlt (by rw [HO.out]; simp [hless])
          clear cT HO
          go_upto_region 6 with fail
          refine wp_region_quiet_below (by kernel_rfl) (by kernel_rfl) ?_
          repeat (go_big_quiet_step (first | exact cE _ _))
          refine wpQuiet_nil ?_
          intro _ hw'
          obtain ⟨⟨dq, osq⟩, hw''⟩ := hw'
          subst hw''
          have HB2 : Hid (Below w.heap.size w (Go.Sort.grow (redrawn wr dq) osq)) := hB.out.trans ((below_regrown wr dq osq).mono hB.out.size)
          have HX2 : Hid (BoxR (Go.Sort.grow (redrawn wr dq) osq) X [.slice a len cap, .int .i64 now]) := hX.out.below (below_regrown wr dq osq)
          generalize Go.Sort.grow (redrawn wr dq) osq = w1 at HB2 HX2 ⊢
          clear p0 g0 g1 t0 t1 cE
          go_wp2
          go_ret
          exact ⟨ret_boolW hno.out.symm, HB2.out⟩
        · rw [hless] at HO
          go_upto_region 6 with fail
          cases ht : thB l v
          · have hno : Hid (nsB l ns = false) := nsB_no hlt (by rw [HO.out]; simp [ht])
            rw [ht] at cT
            clear HO
            refine wp_region_quiet_below (by kernel_rfl) (by kernel_rfl) ?_
            repeat (go_big_quiet_step (first | exact cE _ _ | exact cT _ _))
            refine wpQuiet_nil ?_
            intro _ hw'
            obtain ⟨⟨dq, osq⟩, hw''⟩ := hw'
            subst hw''
            have HB2 : Hid (Below w.heap.size w (Go.Sort.grow (redrawn wr dq) osq)) := hB.out.trans ((below_regrown wr dq osq).mono hB.out.size)
            have HX2 : Hid (BoxR (Go.Sort.grow (redrawn wr dq) osq) X [.slice a len cap, .int .i64 now]) := hX.out.below (below_regrown wr dq osq)
            generalize Go.Sort.grow (redrawn wr dq) osq = w1 at HB2 HX2 ⊢
            clear p0 g0 g1 t0 t1 cE cT
            go_wp2
            go_ret
            exact ⟨ret_boolW hno.out.symm, HB2.out⟩
          · rw [ht] at cT
            by_cases e1 : v = 1
            · have hno : Hid (nsB l ns = false) := nsB_no hlt (by rw [HO.out]; simp [e1])
              have e2 : (v == 1) = true := by simp [e1]
              clear HO e1 ht
              refine wp_region_quiet_below (by kernel_rfl) (by kernel_rfl) ?_
              repeat (go_big_quiet_step (first | exact cE _ _ | exact cT _ _))
              refine wpQuiet_nil ?_
              intro _ hw'
              obtain ⟨⟨dq, osq⟩, hw''⟩ := hw'
              subst hw''
              have HB2 : Hid (Below w.heap.size w (Go.Sort.grow (redrawn wr dq) osq)) := hB.out.trans ((below_regrown wr dq osq).mono hB.out.size)
              have HX2 : Hid (BoxR (Go.Sort.grow (redrawn wr dq) osq) X [.slice a len cap, .int .i64 now]) := hX.out.below (below_regrown wr dq osq)
              generalize Go.Sort.grow (redrawn wr dq) osq = w1 at HB2 HX2 ⊢
              clear p0 g0 g1 t0 t1 cE cT
              go_wp2
              go_ret
              exact ⟨ret_boolW hno.out.symm, HB2.out⟩
            · have hyes : Hid (nsT l ns (m + 1 + 1) = true) := nsT_next hto.out (by rw [HO.out]; simp [ht, e1])
              have e2 : (v == 1) = false := by simp [e1]
              clear HO e1 ht
              refine wp_region_quiet_below (by kernel_rfl) (by kernel_rfl) ?_
              repeat (go_big_quiet_step (first | exact cE _ _ | exact cT _ _))
              refine wpQuiet_nil ?_
              intro _ hw'
              obtain ⟨⟨dq, osq⟩, hw''⟩ := hw'
              subst hw''
              have HB2 : Hid (Below w.heap.size w (Go.Sort.grow (redrawn wr dq) osq)) := hB.out.trans ((below_regrown wr dq osq).mono hB.out.size)
              have HX2 : Hid (BoxR (Go.Sort.grow (redrawn wr dq) osq) X [.slice a len cap, .int .i64 now]) := hX.out.below (below_regrown wr dq osq)
              generalize Go.Sort.grow (redrawn wr dq) osq = w1 at HB2 HX2 ⊢
              clear p0 g0 g1 t0 t1 cE cT
              go_wp2
              go_roundw
              case rel => exact ⟨m + 1 + 1, by omega, by go_num, hyes, HB2, HX2⟩
              case measure => simp [intOf]; omega
    · have : k = ns.length := by omega
      subst this
      have hyes : Hid (nsB l ns = true) := nsB_yes (by omega) hto.out
      go_wp2
      go_ret
      exact ⟨ret_boolW hyes.out.symm, hB.out⟩
end Go.Proofs.YtgodbelcddgdmaaGreat
