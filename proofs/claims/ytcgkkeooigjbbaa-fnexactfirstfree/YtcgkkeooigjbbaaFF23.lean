/- Laid together: FirstFreeW. -/
import Derived.Test.YtcgkkeooigjbbaaFF22
import Derived.WalkMore
/- FirstFree, the program's and the specification's. -/
namespace Go.Proofs.Ytcgkkeooigjbbaa
open Go.RowKit Go.PlainAid Go.Deep
set_option linter.unusedVariables false
def noF (l : List Nd) : Nat → Bool
  | 0 => true
  | k + 1 => noF l k && ((ndAt l k).k != 0)
def ffT (l : List Nd) : Nat → Int
  | 0 => 0
  | k + 1 => if noF l k then (if (ndAt l k).k == 0 then (k : Int) + 1 else 0) else ffT l k
def ffO (l : List Nd) (now : Int) : Int := if treeB l now then ffT l l.length else 0
theorem noF_past {l : List Nd} {k : Nat} (h : ((ndAt l k).k == 0) = true) : ∀ n, k < n → noF l n = false
  | 0, hn => by omega
  | n + 1, hn => by
    by_cases e : k = n
    · subst e
      have h2 : (ndAt l k).k = 0 := by simpa using h
      simp [noF, h2]
    · simp [noF, noF_past h n (by omega)]
theorem ffT_at {l : List Nd} {k : Nat} (h : ((ndAt l k).k == 0) = true) (hn : noF l k = true) : ∀ n, k < n → ffT l n = (k : Int) + 1
  | 0, h0 => by omega
  | n + 1, h0 => by
    by_cases e : k = n
    · subst e; simp only [ffT, hn, h, if_true]
    · simp only [ffT, noF_past h n (by omega), Bool.false_eq_true, if_false]; exact ffT_at h hn n (by omega)
theorem ffT_none {l : List Nd} : ∀ n, noF l n = true → ffT l n = 0
  | 0, _ => rfl
  | n + 1, h => by
    simp only [noF, Bool.and_eq_true] at h
    have h2 : ((ndAt l n).k == 0) = false := by simpa using h.2
    simp only [ffT, h.1, h2, if_true, Bool.false_eq_true, if_false]
theorem noF_next {l : List Nd} {k : Nat} (h : noF l k = true) (hk : ((ndAt l k).k == 0) = false) : noF l (k + 1) = true := by simp [noF, h]; simpa using hk
set_option maxHeartbeats 4000000 in
theorem sFree_any (a : Option Addr) (len cap : Nat) (l : List Nd) (now : Int) (hl : len ≤ 1048576) (w : World) (hi : Nds a len l w) :
    Calls Try.prog 26 #[.agg #[.slice a len cap, .int .i64 now]] w fun e w' => e = .returned (.int .i64 (ffT l len)) ∧ Below w.heap.size w w' := by
  have HI : Hid (Nds a len l w) := hi
  clear hi
  have HB : Hid (Below w.heap.size w (w.alloc (.cells #[.slice a len cap, .int .i64 now] 29))) := bel_alloc _ _
  have HX : Hid (BoxR (w.alloc (.cells #[.slice a len cap, .int .i64 now] 29)) w.heap.size [.slice a len cap, .int .i64 now]) := boxR_new _ _ _
  go_enter Try.func26, Try.ntmps26
  go_upto_region 1 with fail
  generalize (w.alloc (.cells #[.slice a len cap, .int .i64 now] 29)) = w0 at HB HX ⊢
  obtain ⟨X, hX⟩ : ∃ X, X = w.heap.size := ⟨_, rfl⟩
  rw [← hX] at HX ⊢
  clear hX
  have t0 : w0.cell? ⟨X, 0, none⟩ = some (.slice a len cap) := HX.out.at0 0 _ rfl
  have t1 : w0.cell? ⟨X, 1, none⟩ = some (.int .i64 now) := HX.out.at0 1 _ rfl
  go_wp2
  go_loop [3] (fun i => ∃ k : Nat, k ≤ len ∧ i = .int .i64 k ∧ Hid (noF l k = true)) (fun i => len - (intOf i).toNat)
  case atStart => exact ⟨0, Nat.zero_le _, rfl, rfl⟩
  case round =>
    obtain ⟨k, hk, rfl, hno⟩ := hrel
    by_cases hlt : k < len
    · obtain ⟨b, off, Y, rfl, hb0, hc⟩ := (HI.out.below HB.out).2 (by omega)
      have hlt' : (k : Int) < (len : Int) := by omega
      have hk0 : (0 : Int) ≤ (k : Int) := by omega
      have c0 := N24.c0 (hc k hlt).1
      clear hc
      cases e : ((ndAt l k).k == 0)
      · have hyes : Hid (noF l (k + 1) = true) := noF_next hno.out e
        go_wp2
        go_round
        case rel => exact ⟨k + 1, by omega, by go_num, hyes⟩
        case measure => simp [intOf]; omega
      · have hff : Hid (ffT l len = (k : Int) + 1) := ffT_at e hno.out len hlt
        go_wp2
        go_ret
        exact ⟨by (first | (rw [hff.out]; rfl) | rw [hff.out]), HB.out⟩
    · have : k = len := by omega
      subst this
      have hff : Hid (ffT l k = 0) := ffT_none k hno.out
      go_wp2
      go_ret
      exact ⟨by rw [hff.out]; rfl, HB.out⟩
set_option maxHeartbeats 4000000 in
theorem sFirstFree_any (a : Option Addr) (len cap : Nat) (l : List Nd) (now : Int) (hm : len ≤ 9223372036854775807) (hf : ∀ i, i < len → NdFit 1048576 (ndAt l i)) (w : World) (hi : Nds a len l w) :
    Calls Try.prog 9 #[.agg #[.slice a len cap, .int .i64 now]] w fun e w' => e = .returned (.int .i64 (ffO l now)) ∧ Below w.heap.size w w' := by
  have HT : Hid (∀ w', Below w.heap.size w w' → Calls Try.prog 25 #[.agg #[.slice a len cap, .int .i64 now]] w' fun e w'' => e = .returned (.bool (treeB l now)) ∧ Below w'.heap.size w' w'') := (fun w' hb => sTree_any a len cap l now hm hf w' (hi.below hb))
  have hll := hi.1
  cases ht : treeB l now
  · have HE : Hid (ffO l now = 0) := (by show _ = _; simp [ffO, ht])
    rw [ht] at HT
    clear hi hf hll
    have HB : Hid (Below w.heap.size w (w.alloc (.cells #[.slice a len cap, .int .i64 now] 29))) := bel_alloc _ _
    have HX : Hid (BoxR (w.alloc (.cells #[.slice a len cap, .int .i64 now] 29)) w.heap.size [.slice a len cap, .int .i64 now]) := boxR_new _ _ _
    go_enter Try.func9, Try.ntmps9
    go_upto_region 1 with fail
    generalize (w.alloc (.cells #[.slice a len cap, .int .i64 now] 29)) = w0 at HB HX ⊢
    obtain ⟨X, hX⟩ : ∃ X, X = w.heap.size := ⟨_, rfl⟩
    rw [← hX] at HX ⊢
    clear hX
    have t0 : w0.cell? ⟨X, 0, none⟩ = some (.slice a len cap) := HX.out.at0 0 _ rfl
    have t1 : w0.cell? ⟨X, 1, none⟩ = some (.int .i64 now) := HX.out.at0 1 _ rfl
    go_wp2_with (go_at_call 25; refine (HT.out _ HB.out).mono ?_; rintro e w1 ⟨rfl, hb⟩; replace HB : Hid (Below w.heap.size w w1) := Below.on HB.out hb; replace HX : Hid (BoxR w1 X [.slice a len cap, .int .i64 now]) := HX.out.below hb; clear hb; replace t0 : w1.cell? ⟨X, 0, none⟩ = some (.slice a len cap) := HX.out.at0 0 _ rfl; replace t1 : w1.cell? ⟨X, 1, none⟩ = some (.int .i64 now) := HX.out.at0 1 _ rfl)
    go_ret
    exact ⟨by rw [HE.out]; rfl, HB.out⟩
  · have hlen : len ≤ 12 := by rw [← hll]; exact tree_len ht
    have HE : Hid (ffO l now = ffT l len) := (by show _ = _; simp [ffO, ht, hll])
    have HC : Hid (∀ w', Below w.heap.size w w' → Calls Try.prog 26 #[.agg #[.slice a len cap, .int .i64 now]] w' fun e w'' => e = .returned (.int .i64 (ffT l len)) ∧ Below w'.heap.size w' w'') := (fun w' hb => sFree_any a len cap l now (by omega) w' (hi.below hb))
    rw [ht] at HT
    clear hi hf hll
    have HB : Hid (Below w.heap.size w (w.alloc (.cells #[.slice a len cap, .int .i64 now] 29))) := bel_alloc _ _
    have HX : Hid (BoxR (w.alloc (.cells #[.slice a len cap, .int .i64 now] 29)) w.heap.size [.slice a len cap, .int .i64 now]) := boxR_new _ _ _
    go_enter Try.func9, Try.ntmps9
    go_upto_region 1 with fail
    generalize (w.alloc (.cells #[.slice a len cap, .int .i64 now] 29)) = w0 at HB HX ⊢
    obtain ⟨X, hX⟩ : ∃ X, X = w.heap.size := ⟨_, rfl⟩
    rw [← hX] at HX ⊢
    clear hX
    have t0 : w0.cell? ⟨X, 0, none⟩ = some (.slice a len cap) := HX.out.at0 0 _ rfl
    have t1 : w0.cell? ⟨X, 1, none⟩ = some (.int .i64 now) := HX.out.at0 1 _ rfl
    go_wp2_with (first
      | (go_at_call 25; refine (HT.out _ HB.out).mono ?_; rintro e w1 ⟨rfl, hb⟩; replace HB : Hid (Below w.heap.size w w1) := Below.on HB.out hb; replace HX : Hid (BoxR w1 X [.slice a len cap, .int .i64 now]) := HX.out.below hb; clear hb; replace t0 : w1.cell? ⟨X, 0, none⟩ = some (.slice a len cap) := HX.out.at0 0 _ rfl; replace t1 : w1.cell? ⟨X, 1, none⟩ = some (.int .i64 now) := HX.out.at0 1 _ rfl)
      | (go_at_call 26; refine (HC.out _ HB.out).mono ?_; rintro e w1 ⟨rfl, hb⟩; replace HB : Hid (Below w.heap.size w w1) := Below.on HB.out hb; replace HX : Hid (BoxR w1 X [.slice a len cap, .int .i64 now]) := HX.out.below hb; clear hb; replace t0 : w1.cell? ⟨X, 0, none⟩ = some (.slice a len cap) := HX.out.at0 0 _ rfl; replace t1 : w1.cell? ⟨X, 1, none⟩ = some (.int .i64 now) := HX.out.at0 1 _ rfl))
    go_ret
    exact ⟨by (first | (rw [HE.out]; rfl) | rw [HE.out]), HB.out⟩
set_option maxRecDepth 20000 in
set_option maxHeartbeats 8000000 in
theorem iFirstFree_any (a : Option Addr) (len cap : Nat) (l : List Nd) (now : Int) (hm : len ≤ 9223372036854775807) (hf : ∀ i, i < len → NdFit 1048576 (ndAt l i)) (w : World) (hi : Nds a len l w) :
    Calls Try.prog 11 #[.agg #[.slice a len cap, .int .i64 now]] w fun e w' => e = .returned (.int .i64 (ffO l now)) ∧ Below w.heap.size w w' := by
  have HT : Hid (∀ w', Below w.heap.size w w' → Calls Try.prog 28 #[.agg #[.slice a len cap, .int .i64 now]] w' fun e w'' => e = .returned (.bool (treeB l now)) ∧ Below w'.heap.size w' w'') := (fun w' hb => by rw [← tree_same]; exact iTree_any a len cap l now hm hf w' (hi.below hb))
  have hll := hi.1
  cases ht : treeB l now
  · have HE : Hid (ffO l now = 0) := (by show _ = _; simp [ffO, ht])
    rw [ht] at HT
    clear hi hf hll
    have HB : Hid (Below w.heap.size w (w.alloc (.cells #[.slice a len cap, .int .i64 now] 29))) := bel_alloc _ _
    have HX : Hid (BoxR (w.alloc (.cells #[.slice a len cap, .int .i64 now] 29)) w.heap.size [.slice a len cap, .int .i64 now]) := boxR_new _ _ _
    go_enter Try.func11, Try.ntmps11
    go_upto_region 1 with fail
    generalize (w.alloc (.cells #[.slice a len cap, .int .i64 now] 29)) = w0 at HB HX ⊢
    obtain ⟨X, hX⟩ : ∃ X, X = w.heap.size := ⟨_, rfl⟩
    rw [← hX] at HX ⊢
    clear hX
    have t0 : w0.cell? ⟨X, 0, none⟩ = some (.slice a len cap) := HX.out.at0 0 _ rfl
    have t1 : w0.cell? ⟨X, 1, none⟩ = some (.int .i64 now) := HX.out.at0 1 _ rfl
    go_step3
    go_wp2_with (go_at_call 28; refine (HT.out _ HB.out).mono ?_; rintro e w1 ⟨rfl, hb⟩; replace HB : Hid (Below w.heap.size w w1) := Below.on HB.out hb; replace HX : Hid (BoxR w1 X [.slice a len cap, .int .i64 now]) := HX.out.below hb; clear hb; replace t0 : w1.cell? ⟨X, 0, none⟩ = some (.slice a len cap) := HX.out.at0 0 _ rfl; replace t1 : w1.cell? ⟨X, 1, none⟩ = some (.int .i64 now) := HX.out.at0 1 _ rfl)
    rw [Exit.noGoto_ret]
    go_ret
    exact ⟨by rw [HE.out]; rfl, HB.out⟩
  · have hlen : len ≤ 12 := by rw [← hll]; exact tree_len ht
    have HE : Hid (ffO l now = ffT l len) := (by show _ = _; simp [ffO, ht, hll])
    have hl1 : 1 ≤ len := by
      simp only [treeB, Bool.and_eq_true, decide_eq_true_eq] at ht
      omega
    rw [ht] at HT
    obtain ⟨b, off, Y, rfl, hb0, hc⟩ := hi.2 (by omega)
    have HCc : Hid (∀ i, i < len → N24 w b (off + i * 24) (ndAt l i) (Y i)) := (fun i h => (hc i h).1)
    clear hi hf hll hc
    have HB : Hid (Below w.heap.size w (w.alloc (.cells #[.slice (some ⟨b, off, none⟩) len cap, .int .i64 now] 29))) := bel_alloc _ _
    have HX : Hid (BoxR (w.alloc (.cells #[.slice (some ⟨b, off, none⟩) len cap, .int .i64 now] 29)) w.heap.size [.slice (some ⟨b, off, none⟩) len cap, .int .i64 now]) := boxR_new _ _ _
    go_enter Try.func11, Try.ntmps11
    go_upto_region 1 with fail
    generalize (w.alloc (.cells #[.slice (some ⟨b, off, none⟩) len cap, .int .i64 now] 29)) = w0 at HB HX ⊢
    obtain ⟨X, hX⟩ : ∃ X, X = w.heap.size := ⟨_, rfl⟩
    rw [← hX] at HX ⊢
    clear hX
    have t0 : w0.cell? ⟨X, 0, none⟩ = some (.slice (some ⟨b, off, none⟩) len cap) := HX.out.at0 0 _ rfl
    have t1 : w0.cell? ⟨X, 1, none⟩ = some (.int .i64 now) := HX.out.at0 1 _ rfl
    go_step3
    go_wp2_with (go_at_call 28; refine (HT.out _ HB.out).mono ?_; rintro e w1 ⟨rfl, hb⟩; replace HB : Hid (Below w.heap.size w w1) := Below.on HB.out hb; replace HX : Hid (BoxR w1 X [.slice (some ⟨b, off, none⟩) len cap, .int .i64 now]) := HX.out.below hb; clear hb; replace t0 : w1.cell? ⟨X, 0, none⟩ = some (.slice (some ⟨b, off, none⟩) len cap) := HX.out.at0 0 _ rfl; replace t1 : w1.cell? ⟨X, 1, none⟩ = some (.int .i64 now) := HX.out.at0 1 _ rfl)
    go_step3
    go_wp2
    clear t0 t1
    go_loopw [12, 3] (fun i v wr => ∃ k : Nat, k ≤ len ∧ i = .int .i64 k ∧ v = .int .i64 0 ∧ Hid (noF l k = true) ∧ Hid (Below w.heap.size w wr)) (fun i _ _ => len - (intOf i).toNat)
    case atStart => exact ⟨0, Nat.zero_le _, rfl, rfl, rfl, HB⟩
    case round =>
      obtain ⟨k, hk, rfl, rfl, hno, hB⟩ := hrel
      by_cases hlt : k < len
      · have hlt' : (k : Int) < (len : Int) := by omega
        have hk0 : (0 : Int) ≤ (k : Int) := by omega
        have HNk : Hid (N24 wr b (off + k * 24) (ndAt l k) (Y k)) := range_below (HCc.out k hlt) hb0 hB.out
        have HYes : Hid (((ndAt l k).k == 0) = true → ffT l len = (k : Int) + 1) := (fun e => ffT_at e hno.out len hlt)
        have HNo : Hid (((ndAt l k).k == 0) = false → noF l (k + 1) = true) := (fun e => noF_next hno.out e)
        generalize ndAt l k = x at HNk HYes HNo
        generalize Y k = y at HNk
        have hbR : Below wr.heap.size wr ((wr.alloc (.cells #[.int .i64 0, .int .i64 0, .int .i64 0, .int .i64 0, .int .i64 0, .int .i64 0, .int .i64 0, .slice none 0 0, .slice none 0 0, .bool false, .int .i64 0, .bool false, .int .i64 0, .int .i64 0, .int .i64 0, .slice none 0 0, .slice none 0 0, .bool false, .int .i64 0, .int .i64 0, .int .i64 0, .string ⟨#[]⟩, .slice none 0 0, .int .i64 0] 51)).setCells wr.heap.size 0 (ndV x y)) := bl_setsT (Nat.le_refl _) _ _ (bel_alloc _ _)
        have HBr : Hid (Below w.heap.size w ((wr.alloc (.cells #[.int .i64 0, .int .i64 0, .int .i64 0, .int .i64 0, .int .i64 0, .int .i64 0, .int .i64 0, .slice none 0 0, .slice none 0 0, .bool false, .int .i64 0, .bool false, .int .i64 0, .int .i64 0, .int .i64 0, .slice none 0 0, .slice none 0 0, .bool false, .int .i64 0, .int .i64 0, .int .i64 0, .string ⟨#[]⟩, .slice none 0 0, .int .i64 0] 51)).setCells wr.heap.size 0 (ndV x y))) := Below.on hB.out hbR
        have HZr : Hid (BoxR ((wr.alloc (.cells #[.int .i64 0, .int .i64 0, .int .i64 0, .int .i64 0, .int .i64 0, .int .i64 0, .int .i64 0, .slice none 0 0, .slice none 0 0, .bool false, .int .i64 0, .bool false, .int .i64 0, .int .i64 0, .int .i64 0, .slice none 0 0, .slice none 0 0, .bool false, .int .i64 0, .int .i64 0, .int .i64 0, .string ⟨#[]⟩, .slice none 0 0, .int .i64 0] 51)).setCells wr.heap.size 0 (ndV x y)) wr.heap.size (ndV x y)) := ⟨by rw [size_setCellsT]; simp, World.rangeAt_setCells_same _ _ _ _ ((boxW_new wr [.int .i64 0, .int .i64 0, .int .i64 0, .int .i64 0, .int .i64 0, .int .i64 0, .int .i64 0, .slice none 0 0, .slice none 0 0, .bool false, .int .i64 0, .bool false, .int .i64 0, .int .i64 0, .int .i64 0, .slice none 0 0, .slice none 0 0, .bool false, .int .i64 0, .int .i64 0, .int .i64 0, .string ⟨#[]⟩, .slice none 0 0, .int .i64 0] 51).there 0 24 (by simp))⟩
        clear hbR
        go_upto_region 7 with (first | (refine wpList_load_mid (by rfl) 51 _ (by rfl) _ _ (by rfl) _ _ HNk.out Try.underlying51 rfl (by kernel_rfl) ?_) | (refine wpList_store_list (by rfl) 51 _ _ (by rfl) _ _ (ndV x y) (by rfl) (by rfl) ((boxW_new wr [.int .i64 0, .int .i64 0, .int .i64 0, .int .i64 0, .int .i64 0, .int .i64 0, .int .i64 0, .slice none 0 0, .slice none 0 0, .bool false, .int .i64 0, .bool false, .int .i64 0, .int .i64 0, .int .i64 0, .slice none 0 0, .slice none 0 0, .bool false, .int .i64 0, .int .i64 0, .int .i64 0, .string ⟨#[]⟩, .slice none 0 0, .int .i64 0] 51).there 0 24 (by simp)) (by kernel_rfl) (ndV_ones _ _) ?_))
        generalize ((wr.alloc (.cells #[.int .i64 0, .int .i64 0, .int .i64 0, .int .i64 0, .int .i64 0, .int .i64 0, .int .i64 0, .slice none 0 0, .slice none 0 0, .bool false, .int .i64 0, .bool false, .int .i64 0, .int .i64 0, .int .i64 0, .slice none 0 0, .slice none 0 0, .bool false, .int .i64 0, .int .i64 0, .int .i64 0, .string ⟨#[]⟩, .slice none 0 0, .int .i64 0] 51)).setCells wr.heap.size 0 (ndV x y)) = wn at HBr HZr ⊢
        generalize wr.heap.size = Z2 at HZr ⊢
        have e0 := NB.c0 HZr.out
        clear HZr
        cases e : (x.k == 0)
        · have hyes : Hid (noF l (k + 1) = true) := HNo.out e
          go_wp2
          go_roundw
          case rel => exact ⟨k + 1, by omega, by go_num, rfl, hyes, HBr⟩
          case measure => simp [intOf]; omega
        · have hff : Hid (ffT l len = (k : Int) + 1) := HYes.out e
          go_wp2_with (go_at_call 29; refine (iNumAt_any k (by omega) _).mono ?_; rintro e w3 ⟨rfl, hw⟩; have hw2 := hw.symm; clear hw; subst hw2)
          (try rw [Exit.noGoto_ret])
          go_ret
          exact ⟨by (first | (rw [HE.out, hff.out]; rfl) | rw [HE.out, hff.out]), HBr.out⟩
      · have : k = len := by omega
        subst this
        have hff : Hid (ffT l k = 0) := ffT_none k hno.out
        go_wp2
        (try rw [Exit.noGoto_ret])
        go_ret
        exact ⟨by rw [HE.out, hff.out]; rfl, hB.out⟩
end Go.Proofs.Ytcgkkeooigjbbaa
