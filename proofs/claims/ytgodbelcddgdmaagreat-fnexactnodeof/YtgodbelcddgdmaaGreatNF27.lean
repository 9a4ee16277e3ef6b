/- Laid together: NofW. -/
import Derived.Test.YtgodbelcddgdmaaGreatNF20
import Derived.Test.YtgodbelcddgdmaaGreatNF26
/- NodeOf, the program's and the specification's. -/
namespace Go.Proofs.YtgodbelcddgdmaaGreat
open Go.RowKit Go.PlainAid Go.Deep
set_option linter.unusedVariables false
theorem ndOwn_zero (w : World) : NdOwn w ndZ naZ := ⟨⟨rfl, fun h => absurd h (by decide)⟩, ⟨rfl, fun h => absurd h (by decide)⟩, ⟨rfl, fun h => absurd h (by decide)⟩, ⟨rfl, fun h => absurd h (by decide)⟩, ⟨rfl, fun h => absurd h (by decide)⟩⟩
theorem NdOwn.setsB {w : World} {x : Nd} {y : Na} {Z o : Nat} {vs : List Value} (h : NdOwn w x y) (hne : ∀ j A, j < 5 → laAt y j = some A → A.block ≠ Z) : NdOwn (w.setCells Z o vs) x y :=
  ⟨h.aU.setsA (fun b f e => hne 0 _ (by omega) e) _ _, h.aG.setsA (fun b f e => hne 1 _ (by omega) e) _ _, h.dU.setsA (fun b f e => hne 2 _ (by omega) e) _ _, h.dG.setsA (fun b f e => hne 3 _ (by omega) e) _ _, h.nA.setsA (fun b f e => hne 4 _ (by omega) e) _ _⟩
set_option maxRecDepth 20000 in
set_option maxHeartbeats 8000000 in
theorem iNodeOf_any (a : Option Addr) (len cap : Nat) (l : List Nd) (now : Int) (n : Int) (hm : len ≤ 9223372036854775807) (hf : ∀ i, i < len → NdFit 1048576 (ndAt l i)) (w : World) (hi : Nds a len l w) :
    Calls Tryz.prog 7 #[.agg #[.slice a len cap, .int .i64 now], .int .i64 n] w fun e w' => ∃ y', e = .returned (.agg (ndV (nofN l now n) y').toArray) ∧ NdOwn w' (nofN l now n) y' ∧ LsU w.heap.size w'.heap.size y' ∧ Below w.heap.size w w' := by
  have HT : Hid (∀ w', Below w.heap.size w w' → Calls Tryz.prog 18 #[.agg #[.slice a len cap, .int .i64 now]] w' fun e w'' => e = .returned (.bool (treeB l now)) ∧ Below w'.heap.size w' w'') := (fun w' hb => by rw [← tree_same]; exact iTree_any a len cap l now hm hf w' (hi.below hb))
  have hll := hi.1
  cases ht : treeB l now
  · have HE : Hid (nofN l now n = ndZ) := nof_off (by rw [ht]; rfl)
    rw [ht] at HT
    clear hi hf hll
    have HB : Hid (Below w.heap.size w ((w.alloc (.cells #[.slice a len cap, .int .i64 now] 35)).alloc (.cells #[.int .i64 0, .int .i64 0, .int .i64 0, .int .i64 0, .int .i64 0, .int .i64 0, .int .i64 0, .slice none 0 0, .slice none 0 0, .bool false, .int .i64 0, .bool false, .int .i64 0, .int .i64 0, .int .i64 0, .slice none 0 0, .slice none 0 0, .bool false, .int .i64 0, .int .i64 0, .int .i64 0, .string ⟨#[]⟩, .slice none 0 0, .int .i64 0] 31))) := bl2T _ _ _
    have HX : Hid (BoxR ((w.alloc (.cells #[.slice a len cap, .int .i64 now] 35)).alloc (.cells #[.int .i64 0, .int .i64 0, .int .i64 0, .int .i64 0, .int .i64 0, .int .i64 0, .int .i64 0, .slice none 0 0, .slice none 0 0, .bool false, .int .i64 0, .bool false, .int .i64 0, .int .i64 0, .int .i64 0, .slice none 0 0, .slice none 0 0, .bool false, .int .i64 0, .int .i64 0, .int .i64 0, .string ⟨#[]⟩, .slice none 0 0, .int .i64 0] 31)) w.heap.size [.slice a len cap, .int .i64 now]) := (boxR_new w [.slice a len cap, .int .i64 now] 35).below (bel_alloc _ _)
    have HZ : Hid (BoxW ((w.alloc (.cells #[.slice a len cap, .int .i64 now] 35)).alloc (.cells #[.int .i64 0, .int .i64 0, .int .i64 0, .int .i64 0, .int .i64 0, .int .i64 0, .int .i64 0, .slice none 0 0, .slice none 0 0, .bool false, .int .i64 0, .bool false, .int .i64 0, .int .i64 0, .int .i64 0, .slice none 0 0, .slice none 0 0, .bool false, .int .i64 0, .int .i64 0, .int .i64 0, .string ⟨#[]⟩, .slice none 0 0, .int .i64 0] 31)) (w.heap.size + 1) [.int .i64 0, .int .i64 0, .int .i64 0, .int .i64 0, .int .i64 0, .int .i64 0, .int .i64 0, .slice none 0 0, .slice none 0 0, .bool false, .int .i64 0, .bool false, .int .i64 0, .int .i64 0, .int .i64 0, .slice none 0 0, .slice none 0 0, .bool false, .int .i64 0, .int .i64 0, .int .i64 0, .string ⟨#[]⟩, .slice none 0 0, .int .i64 0]) := (by
      have h := boxW_new (w.alloc (.cells #[.slice a len cap, .int .i64 now] 35)) [.int .i64 0, .int .i64 0, .int .i64 0, .int .i64 0, .int .i64 0, .int .i64 0, .int .i64 0, .slice none 0 0, .slice none 0 0, .bool false, .int .i64 0, .bool false, .int .i64 0, .int .i64 0, .int .i64 0, .slice none 0 0, .slice none 0 0, .bool false, .int .i64 0, .int .i64 0, .int .i64 0, .string ⟨#[]⟩, .slice none 0 0, .int .i64 0] 31
      simp only [World.size_alloc] at h
      exact h)
    go_enter Tryz.func7, Tryz.ntmps7
    go_upto_region 1 with fail
    generalize ((w.alloc (.cells #[.slice a len cap, .int .i64 now] 35)).alloc (.cells #[.int .i64 0, .int .i64 0, .int .i64 0, .int .i64 0, .int .i64 0, .int .i64 0, .int .i64 0, .slice none 0 0, .slice none 0 0, .bool false, .int .i64 0, .bool false, .int .i64 0, .int .i64 0, .int .i64 0, .slice none 0 0, .slice none 0 0, .bool false, .int .i64 0, .int .i64 0, .int .i64 0, .string ⟨#[]⟩, .slice none 0 0, .int .i64 0] 31)) = w0 at HB HX HZ ⊢
    obtain ⟨X, hX⟩ : ∃ X, X = w.heap.size := ⟨_, rfl⟩
    have HXw : Hid (X = w.heap.size) := hX
    rw [← hX] at HX HZ ⊢
    clear hX
    have t0 : w0.cell? ⟨X, 0, none⟩ = some (.slice a len cap) := HX.out.at0 0 _ rfl
    have t1 : w0.cell? ⟨X, 1, none⟩ = some (.int .i64 now) := HX.out.at0 1 _ rfl
    go_wp2_with (first
      | (go_at_call 18; refine (HT.out _ HB.out).mono ?_; rintro e w1 ⟨rfl, hb⟩; replace HB : Hid (Below w.heap.size w w1) := Below.on HB.out hb; replace HX : Hid (BoxR w1 X [.slice a len cap, .int .i64 now]) := HX.out.below hb; replace HZ : Hid (BoxW w1 (X + 1) [.int .i64 0, .int .i64 0, .int .i64 0, .int .i64 0, .int .i64 0, .int .i64 0, .int .i64 0, .slice none 0 0, .slice none 0 0, .bool false, .int .i64 0, .bool false, .int .i64 0, .int .i64 0, .int .i64 0, .slice none 0 0, .slice none 0 0, .bool false, .int .i64 0, .int .i64 0, .int .i64 0, .string ⟨#[]⟩, .slice none 0 0, .int .i64 0]) := HZ.out.below hb; clear hb; replace t0 : w1.cell? ⟨X, 0, none⟩ = some (.slice a len cap) := HX.out.at0 0 _ rfl; replace t1 : w1.cell? ⟨X, 1, none⟩ = some (.int .i64 now) := HX.out.at0 1 _ rfl)
      | (refine wpList_store_list (by rfl) 31 _ _ (by rfl) (X + 1) 0 (ndV ndZ naZ) (by rfl) (by rfl) (HZ.out.there 0 24 (by simp)) (by kernel_rfl) (ndV_ones _ _) ?_; have QR : Hid ((w1.setCells (X + 1) 0 (ndV ndZ naZ)).rangeAt (X + 1) 0 (ndV ndZ naZ)) := World.rangeAt_setCells_same _ _ _ _ (HZ.out.there 0 24 (by simp)); have QN : Hid (NdOwn (w1.setCells (X + 1) 0 (ndV ndZ naZ)) ndZ naZ) := ndOwn_zero _; have QL : Hid (LsU w.heap.size (w1.setCells (X + 1) 0 (ndV ndZ naZ)).heap.size naZ) := lsU_zero _ _; have QB : Hid (Below w.heap.size w (w1.setCells (X + 1) 0 (ndV ndZ naZ))) := bl_setsT (by have := HXw.out; omega) _ _ HB.out; clear HZ HB HX t0 t1; simp only [Act.put]; generalize (w1.setCells (X + 1) 0 (ndV ndZ naZ)) = wz at QR QN QL QB ⊢)
      | (refine bodyPost_ret (v := .agg (ndV ndZ naZ).toArray) ?_ rfl ⟨naZ, by rw [HE.out], by rw [HE.out]; exact QN.out, QL.out, QB.out⟩))
    try (refine bodyPost_ret (v := .agg (ndV ndZ naZ).toArray) ?_ rfl ⟨naZ, by rw [HE.out], by rw [HE.out]; exact QN.out, QL.out, QB.out⟩)
    exact results_one Tryz.results7 (by rfl) (run_loadVar_mid _ _ _ _ _ _ QR.out Tryz.underlying31 rfl (by kernel_rfl))
  have hlen : len ≤ 12 := by rw [← hll]; exact tree_len ht
  have HC : Hid (∀ w', Below w.heap.size w w' → Calls Tryz.prog 19 #[.agg #[.slice a len cap, .int .i64 now], .int .i64 n] w' fun e w'' => e = .returned (.bool (inR 1 len n)) ∧ Below w'.heap.size w' w'') := (fun w' hb => iNumber_any a len cap l now n (by omega) w')
  rw [ht] at HT
  cases hth : inR 1 len n
  · have HE : Hid (nofN l now n = ndZ) := nof_off (by rw [thB_off (by rw [hll]; exact hth), Bool.and_false])
    rw [hth] at HC
    clear hi hf hll ht
    have HB : Hid (Below w.heap.size w ((w.alloc (.cells #[.slice a len cap, .int .i64 now] 35)).alloc (.cells #[.int .i64 0, .int .i64 0, .int .i64 0, .int .i64 0, .int .i64 0, .int .i64 0, .int .i64 0, .slice none 0 0, .slice none 0 0, .bool false, .int .i64 0, .bool false, .int .i64 0, .int .i64 0, .int .i64 0, .slice none 0 0, .slice none 0 0, .bool false, .int .i64 0, .int .i64 0, .int .i64 0, .string ⟨#[]⟩, .slice none 0 0, .int .i64 0] 31))) := bl2T _ _ _
    have HX : Hid (BoxR ((w.alloc (.cells #[.slice a len cap, .int .i64 now] 35)).alloc (.cells #[.int .i64 0, .int .i64 0, .int .i64 0, .int .i64 0, .int .i64 0, .int .i64 0, .int .i64 0, .slice none 0 0, .slice none 0 0, .bool false, .int .i64 0, .bool false, .int .i64 0, .int .i64 0, .int .i64 0, .slice none 0 0, .slice none 0 0, .bool false, .int .i64 0, .int .i64 0, .int .i64 0, .string ⟨#[]⟩, .slice none 0 0, .int .i64 0] 31)) w.heap.size [.slice a len cap, .int .i64 now]) := (boxR_new w [.slice a len cap, .int .i64 now] 35).below (bel_alloc _ _)
    have HZ : Hid (BoxW ((w.alloc (.cells #[.slice a len cap, .int .i64 now] 35)).alloc (.cells #[.int .i64 0, .int .i64 0, .int .i64 0, .int .i64 0, .int .i64 0, .int .i64 0, .int .i64 0, .slice none 0 0, .slice none 0 0, .bool false, .int .i64 0, .bool false, .int .i64 0, .int .i64 0, .int .i64 0, .slice none 0 0, .slice none 0 0, .bool false, .int .i64 0, .int .i64 0, .int .i64 0, .string ⟨#[]⟩, .slice none 0 0, .int .i64 0] 31)) (w.heap.size + 1) [.int .i64 0, .int .i64 0, .int .i64 0, .int .i64 0, .int .i64 0, .int .i64 0, .int .i64 0, .slice none 0 0, .slice none 0 0, .bool false, .int .i64 0, .bool false, .int .i64 0, .int .i64 0, .int .i64 0, .slice none 0 0, .slice none 0 0, .bool false, .int .i64 0, .int .i64 0, .int .i64 0, .string ⟨#[]⟩, .slice none 0 0, .int .i64 0]) := (by
      have h := boxW_new (w.alloc (.cells #[.slice a len cap, .int .i64 now] 35)) [.int .i64 0, .int .i64 0, .int .i64 0, .int .i64 0, .int .i64 0, .int .i64 0, .int .i64 0, .slice none 0 0, .slice none 0 0, .bool false, .int .i64 0, .bool false, .int .i64 0, .int .i64 0, .int .i64 0, .slice none 0 0, .slice none 0 0, .bool false, .int .i64 0, .int .i64 0, .int .i64 0, .string ⟨#[]⟩, .slice none 0 0, .int .i64 0] 31
      simp only [World.size_alloc] at h
      exact h)
    go_enter Tryz.func7, Tryz.ntmps7
    go_upto_region 1 with fail
    generalize ((w.alloc (.cells #[.slice a len cap, .int .i64 now] 35)).alloc (.cells #[.int .i64 0, .int .i64 0, .int .i64 0, .int .i64 0, .int .i64 0, .int .i64 0, .int .i64 0, .slice none 0 0, .slice none 0 0, .bool false, .int .i64 0, .bool false, .int .i64 0, .int .i64 0, .int .i64 0, .slice none 0 0, .slice none 0 0, .bool false, .int .i64 0, .int .i64 0, .int .i64 0, .string ⟨#[]⟩, .slice none 0 0, .int .i64 0] 31)) = w0 at HB HX HZ ⊢
    obtain ⟨X, hX⟩ : ∃ X, X = w.heap.size := ⟨_, rfl⟩
    have HXw : Hid (X = w.heap.size) := hX
    rw [← hX] at HX HZ ⊢
    clear hX
    have t0 : w0.cell? ⟨X, 0, none⟩ = some (.slice a len cap) := HX.out.at0 0 _ rfl
    have t1 : w0.cell? ⟨X, 1, none⟩ = some (.int .i64 now) := HX.out.at0 1 _ rfl
    go_wp2_with (first
      | (go_at_call 18; refine (HT.out _ HB.out).mono ?_; rintro e w1 ⟨rfl, hb⟩; replace HB : Hid (Below w.heap.size w w1) := Below.on HB.out hb; replace HX : Hid (BoxR w1 X [.slice a len cap, .int .i64 now]) := HX.out.below hb; replace HZ : Hid (BoxW w1 (X + 1) [.int .i64 0, .int .i64 0, .int .i64 0, .int .i64 0, .int .i64 0, .int .i64 0, .int .i64 0, .slice none 0 0, .slice none 0 0, .bool false, .int .i64 0, .bool false, .int .i64 0, .int .i64 0, .int .i64 0, .slice none 0 0, .slice none 0 0, .bool false, .int .i64 0, .int .i64 0, .int .i64 0, .string ⟨#[]⟩, .slice none 0 0, .int .i64 0]) := HZ.out.below hb; clear hb; replace t0 : w1.cell? ⟨X, 0, none⟩ = some (.slice a len cap) := HX.out.at0 0 _ rfl; replace t1 : w1.cell? ⟨X, 1, none⟩ = some (.int .i64 now) := HX.out.at0 1 _ rfl)
      | (go_at_call 19; refine (HC.out _ HB.out).mono ?_; rintro e w1 ⟨rfl, hb⟩; replace HB : Hid (Below w.heap.size w w1) := Below.on HB.out hb; replace HX : Hid (BoxR w1 X [.slice a len cap, .int .i64 now]) := HX.out.below hb; replace HZ : Hid (BoxW w1 (X + 1) [.int .i64 0, .int .i64 0, .int .i64 0, .int .i64 0, .int .i64 0, .int .i64 0, .int .i64 0, .slice none 0 0, .slice none 0 0, .bool false, .int .i64 0, .bool false, .int .i64 0, .int .i64 0, .int .i64 0, .slice none 0 0, .slice none 0 0, .bool false, .int .i64 0, .int .i64 0, .int .i64 0, .string ⟨#[]⟩, .slice none 0 0, .int .i64 0]) := HZ.out.below hb; clear hb; replace t0 : w1.cell? ⟨X, 0, none⟩ = some (.slice a len cap) := HX.out.at0 0 _ rfl; replace t1 : w1.cell? ⟨X, 1, none⟩ = some (.int .i64 now) := HX.out.at0 1 _ rfl)
      | (refine wpList_store_list (by rfl) 31 _ _ (by rfl) (X + 1) 0 (ndV ndZ naZ) (by rfl) (by rfl) (HZ.out.there 0 24 (by simp)) (by kernel_rfl) (ndV_ones _ _) ?_; have QR : Hid ((w1.setCells (X + 1) 0 (ndV ndZ naZ)).rangeAt (X + 1) 0 (ndV ndZ naZ)) := World.rangeAt_setCells_same _ _ _ _ (HZ.out.there 0 24 (by simp)); have QN : Hid (NdOwn (w1.setCells (X + 1) 0 (ndV ndZ naZ)) ndZ naZ) := ndOwn_zero _; have QL : Hid (LsU w.heap.size (w1.setCells (X + 1) 0 (ndV ndZ naZ)).heap.size naZ) := lsU_zero _ _; have QB : Hid (Below w.heap.size w (w1.setCells (X + 1) 0 (ndV ndZ naZ))) := bl_setsT (by have := HXw.out; omega) _ _ HB.out; clear HZ HB HX t0 t1; simp only [Act.put]; generalize (w1.setCells (X + 1) 0 (ndV ndZ naZ)) = wz at QR QN QL QB ⊢)
      | (refine bodyPost_ret (v := .agg (ndV ndZ naZ).toArray) ?_ rfl ⟨naZ, by rw [HE.out], by rw [HE.out]; exact QN.out, QL.out, QB.out⟩))
    try (refine bodyPost_ret (v := .agg (ndV ndZ naZ).toArray) ?_ rfl ⟨naZ, by rw [HE.out], by rw [HE.out]; exact QN.out, QL.out, QB.out⟩)
    exact results_one Tryz.results7 (by rfl) (run_loadVar_mid _ _ _ _ _ _ QR.out Tryz.underlying31 rfl (by kernel_rfl))
  · rw [hth] at HC
    obtain ⟨h1, h2⟩ := inR_iff.1 hth
    obtain ⟨k, rfl⟩ : ∃ k : Nat, n = (k : Int) + 1 := ⟨(n - 1).toNat, by omega⟩
    have hk : k < len := by omega
    have HE : Hid (nofN l now ((k : Int) + 1) = ndAt l k) := nof_on ht (by omega)
    obtain ⟨b, off, Y, rfl, hb0, hc⟩ := hi.2 (by omega)
    have HN : Hid (N24 w b (off + k * 24) (ndAt l k) (Y k)) := (hc k hk).1
    have HM : Hid (NdIn w (ndAt l k) (Y k)) := (hc k hk).2
    have hk1 : (k : Int) < (len : Int) := by omega
    have hk0 : (0 : Int) ≤ (k : Int) := by omega
    have hsm := node_small ht (k := k) (by omega)
    have hfk := hf k hk
    clear hi hf hll ht hth hc h1 h2
    generalize ndAt l k = x at HN HM HE hsm hfk
    generalize Y k = y at HN HM
    have HF : Hid (NdFit 1048576 x) := hfk
    have HSm : Hid (NdSm x) := hsm
    clear hsm hfk
    have HB : Hid (Below w.heap.size w ((w.alloc (.cells #[.slice (some ⟨b, off, none⟩) len cap, .int .i64 now] 35)).alloc (.cells #[.int .i64 0, .int .i64 0, .int .i64 0, .int .i64 0, .int .i64 0, .int .i64 0, .int .i64 0, .slice none 0 0, .slice none 0 0, .bool false, .int .i64 0, .bool false, .int .i64 0, .int .i64 0, .int .i64 0, .slice none 0 0, .slice none 0 0, .bool false, .int .i64 0, .int .i64 0, .int .i64 0, .string ⟨#[]⟩, .slice none 0 0, .int .i64 0] 31))) := bl2T _ _ _
    have HX : Hid (BoxR ((w.alloc (.cells #[.slice (some ⟨b, off, none⟩) len cap, .int .i64 now] 35)).alloc (.cells #[.int .i64 0, .int .i64 0, .int .i64 0, .int .i64 0, .int .i64 0, .int .i64 0, .int .i64 0, .slice none 0 0, .slice none 0 0, .bool false, .int .i64 0, .bool false, .int .i64 0, .int .i64 0, .int .i64 0, .slice none 0 0, .slice none 0 0, .bool false, .int .i64 0, .int .i64 0, .int .i64 0, .string ⟨#[]⟩, .slice none 0 0, .int .i64 0] 31)) w.heap.size [.slice (some ⟨b, off, none⟩) len cap, .int .i64 now]) := (boxR_new w [.slice (some ⟨b, off, none⟩) len cap, .int .i64 now] 35).below (bel_alloc _ _)
    have HZ : Hid (BoxW ((w.alloc (.cells #[.slice (some ⟨b, off, none⟩) len cap, .int .i64 now] 35)).alloc (.cells #[.int .i64 0, .int .i64 0, .int .i64 0, .int .i64 0, .int .i64 0, .int .i64 0, .int .i64 0, .slice none 0 0, .slice none 0 0, .bool false, .int .i64 0, .bool false, .int .i64 0, .int .i64 0, .int .i64 0, .slice none 0 0, .slice none 0 0, .bool false, .int .i64 0, .int .i64 0, .int .i64 0, .string ⟨#[]⟩, .slice none 0 0, .int .i64 0] 31)) (w.heap.size + 1) [.int .i64 0, .int .i64 0, .int .i64 0, .int .i64 0, .int .i64 0, .int .i64 0, .int .i64 0, .slice none 0 0, .slice none 0 0, .bool false, .int .i64 0, .bool false, .int .i64 0, .int .i64 0, .int .i64 0, .slice none 0 0, .slice none 0 0, .bool false, .int .i64 0, .int .i64 0, .int .i64 0, .string ⟨#[]⟩, .slice none 0 0, .int .i64 0]) := (by
      have h := boxW_new (w.alloc (.cells #[.slice (some ⟨b, off, none⟩) len cap, .int .i64 now] 35)) [.int .i64 0, .int .i64 0, .int .i64 0, .int .i64 0, .int .i64 0, .int .i64 0, .int .i64 0, .slice none 0 0, .slice none 0 0, .bool false, .int .i64 0, .bool false, .int .i64 0, .int .i64 0, .int .i64 0, .slice none 0 0, .slice none 0 0, .bool false, .int .i64 0, .int .i64 0, .int .i64 0, .string ⟨#[]⟩, .slice none 0 0, .int .i64 0] 31
      simp only [World.size_alloc] at h
      exact h)
    go_enter Tryz.func7, Tryz.ntmps7
    go_upto_region 1 with fail
    generalize ((w.alloc (.cells #[.slice (some ⟨b, off, none⟩) len cap, .int .i64 now] 35)).alloc (.cells #[.int .i64 0, .int .i64 0, .int .i64 0, .int .i64 0, .int .i64 0, .int .i64 0, .int .i64 0, .slice none 0 0, .slice none 0 0, .bool false, .int .i64 0, .bool false, .int .i64 0, .int .i64 0, .int .i64 0, .slice none 0 0, .slice none 0 0, .bool false, .int .i64 0, .int .i64 0, .int .i64 0, .string ⟨#[]⟩, .slice none 0 0, .int .i64 0] 31)) = w0 at HB HX HZ ⊢
    obtain ⟨X, hX⟩ : ∃ X, X = w.heap.size := ⟨_, rfl⟩
    have HXw : Hid (X = w.heap.size) := hX
    rw [← hX] at HX HZ ⊢
    clear hX
    have HO : Hid (∀ w', X + 1 < w'.heap.size → Below w.heap.size w w' → Calls Tryz.prog 20 #[.agg (ndV x y).toArray] w' fun e w'' => ∃ y', e = .returned (.agg (ndV x y').toArray) ∧ NdOwn w'' x y' ∧ LsU (X + 2) w''.heap.size y' ∧ Below w'.heap.size w' w'') := (fun w' hl hb => (iOwnNode_any x y HF.out (by have := HSm.out.au; omega) (by have := HSm.out.ag; omega) (by have := HSm.out.du; omega) (by have := HSm.out.dg; omega) w' (HM.out.below hb)).mono fun e w'' ⟨y', h1, h2, h3, h4⟩ => ⟨y', h1, h2, h3.mono (by omega) (Nat.le_refl _), h4⟩)
    have t0 : w0.cell? ⟨X, 0, none⟩ = some (.slice (some ⟨b, off, none⟩) len cap) := HX.out.at0 0 _ rfl
    have t1 : w0.cell? ⟨X, 1, none⟩ = some (.int .i64 now) := HX.out.at0 1 _ rfl
    go_wp2_with (first
      | (go_at_call 18; refine (HT.out _ HB.out).mono ?_; rintro e w1 ⟨rfl, hb⟩; replace HB : Hid (Below w.heap.size w w1) := Below.on HB.out hb; replace HX : Hid (BoxR w1 X [.slice (some ⟨b, off, none⟩) len cap, .int .i64 now]) := HX.out.below hb; replace HZ : Hid (BoxW w1 (X + 1) [.int .i64 0, .int .i64 0, .int .i64 0, .int .i64 0, .int .i64 0, .int .i64 0, .int .i64 0, .slice none 0 0, .slice none 0 0, .bool false, .int .i64 0, .bool false, .int .i64 0, .int .i64 0, .int .i64 0, .slice none 0 0, .slice none 0 0, .bool false, .int .i64 0, .int .i64 0, .int .i64 0, .string ⟨#[]⟩, .slice none 0 0, .int .i64 0]) := HZ.out.below hb; clear hb; replace t0 : w1.cell? ⟨X, 0, none⟩ = some (.slice (some ⟨b, off, none⟩) len cap) := HX.out.at0 0 _ rfl; replace t1 : w1.cell? ⟨X, 1, none⟩ = some (.int .i64 now) := HX.out.at0 1 _ rfl)
      | (go_at_call 19; refine (HC.out _ HB.out).mono ?_; rintro e w1 ⟨rfl, hb⟩; replace HB : Hid (Below w.heap.size w w1) := Below.on HB.out hb; replace HX : Hid (BoxR w1 X [.slice (some ⟨b, off, none⟩) len cap, .int .i64 now]) := HX.out.below hb; replace HZ : Hid (BoxW w1 (X + 1) [.int .i64 0, .int .i64 0, .int .i64 0, .int .i64 0, .int .i64 0, .int .i64 0, .int .i64 0, .slice none 0 0, .slice none 0 0, .bool false, .int .i64 0, .bool false, .int .i64 0, .int .i64 0, .int .i64 0, .slice none 0 0, .slice none 0 0, .bool false, .int .i64 0, .int .i64 0, .int .i64 0, .string ⟨#[]⟩, .slice none 0 0, .int .i64 0]) := HZ.out.below hb; clear hb; replace t0 : w1.cell? ⟨X, 0, none⟩ = some (.slice (some ⟨b, off, none⟩) len cap) := HX.out.at0 0 _ rfl; replace t1 : w1.cell? ⟨X, 1, none⟩ = some (.int .i64 now) := HX.out.at0 1 _ rfl)
      | (refine wpList_load_mid (by rfl) 31 _ (by rfl) _ _ (by rfl) _ _ (range_below HN.out hb0 HB.out) Tryz.underlying31 rfl (by kernel_rfl) ?_)
      | (go_at_call 20; refine (HO.out _ HZ.out.lt HB.out).mono ?_; rintro e w1 ⟨y', rfl, hN, hL, hb⟩; have HN2 : Hid (NdOwn w1 x y') := hN; have HL2 : Hid (LsU (X + 2) w1.heap.size y') := hL; replace HB : Hid (Below w.heap.size w w1) := Below.on HB.out hb; replace HZ : Hid (BoxW w1 (X + 1) [.int .i64 0, .int .i64 0, .int .i64 0, .int .i64 0, .int .i64 0, .int .i64 0, .int .i64 0, .slice none 0 0, .slice none 0 0, .bool false, .int .i64 0, .bool false, .int .i64 0, .int .i64 0, .int .i64 0, .slice none 0 0, .slice none 0 0, .bool false, .int .i64 0, .int .i64 0, .int .i64 0, .string ⟨#[]⟩, .slice none 0 0, .int .i64 0]) := HZ.out.below hb; clear hb hN hL HX t0 t1 HO)
      | (refine wpList_store_list (by rfl) 31 _ _ (by rfl) (X + 1) 0 (ndV x y') (by rfl) (by rfl) (HZ.out.there 0 24 (by simp)) (by kernel_rfl) (ndV_ones _ _) ?_; have QR : Hid ((w1.setCells (X + 1) 0 (ndV x y')).rangeAt (X + 1) 0 (ndV x y')) := World.rangeAt_setCells_same _ _ _ _ (HZ.out.there 0 24 (by simp)); have QN : Hid (NdOwn (w1.setCells (X + 1) 0 (ndV x y')) x y') := HN2.out.setsB (fun j A hj e => by have := HL2.out.rng j A hj e; omega); have QL : Hid (LsU w.heap.size (w1.setCells (X + 1) 0 (ndV x y')).heap.size y') := (by rw [size_setCellsT]; exact HL2.out.mono (by have := HXw.out; omega) (Nat.le_refl _)); have QB : Hid (Below w.heap.size w (w1.setCells (X + 1) 0 (ndV x y'))) := bl_setsT (by have := HXw.out; omega) _ _ HB.out; clear HZ HB HN2 HL2; simp only [Act.put]; generalize (w1.setCells (X + 1) 0 (ndV x y')) = wz at QR QN QL QB ⊢)
      | (refine bodyPost_ret (v := .agg (ndV x y').toArray) ?_ rfl ⟨y', by rw [HE.out], by rw [HE.out]; exact QN.out, QL.out, QB.out⟩))
    try (refine bodyPost_ret (v := .agg (ndV x y').toArray) ?_ rfl ⟨y', by rw [HE.out], by rw [HE.out]; exact QN.out, QL.out, QB.out⟩)
    exact results_one Tryz.results7 (by rfl) (run_loadVar_mid _ _ _ _ _ _ QR.out Tryz.underlying31 rfl (by kernel_rfl))
set_option maxRecDepth 20000 in
set_option maxHeartbeats 8000000 in
theorem sNodeOf_any (a : Option Addr) (len cap : Nat) (l : List Nd) (now : Int) (n : Int) (hm : len ≤ 9223372036854775807) (hf : ∀ i, i < len → NdFit 1048576 (ndAt l i)) (w : World) (hi : Nds a len l w) :
    Calls Tryz.prog 5 #[.agg #[.slice a len cap, .int .i64 now], .int .i64 n] w fun e w' => ∃ y', e = .returned (.agg (ndV (nofN l now n) y').toArray) ∧ NdIn w' (nofN l now n) y' ∧ Below w.heap.size w w' := by
  have HT : Hid (∀ w', Below w.heap.size w w' → Calls Tryz.prog 14 #[.agg #[.slice a len cap, .int .i64 now]] w' fun e w'' => e = .returned (.bool (treeB l now)) ∧ Below w'.heap.size w' w'') := (fun w' hb => sTree_any a len cap l now hm hf w' (hi.below hb))
  have hll := hi.1
  cases ht : treeB l now
  · have HE : Hid (nofN l now n = ndZ) := nof_off (by rw [ht]; rfl)
    rw [ht] at HT
    clear hi hf hll
    have HB : Hid (Below w.heap.size w ((w.alloc (.cells #[.slice a len cap, .int .i64 now] 35)).alloc (.cells #[.int .i64 0, .int .i64 0, .int .i64 0, .int .i64 0, .int .i64 0, .int .i64 0, .int .i64 0, .slice none 0 0, .slice none 0 0, .bool false, .int .i64 0, .bool false, .int .i64 0, .int .i64 0, .int .i64 0, .slice none 0 0, .slice none 0 0, .bool false, .int .i64 0, .int .i64 0, .int .i64 0, .string ⟨#[]⟩, .slice none 0 0, .int .i64 0] 31))) := bl2T _ _ _
    have HX : Hid (BoxR ((w.alloc (.cells #[.slice a len cap, .int .i64 now] 35)).alloc (.cells #[.int .i64 0, .int .i64 0, .int .i64 0, .int .i64 0, .int .i64 0, .int .i64 0, .int .i64 0, .slice none 0 0, .slice none 0 0, .bool false, .int .i64 0, .bool false, .int .i64 0, .int .i64 0, .int .i64 0, .slice none 0 0, .slice none 0 0, .bool false, .int .i64 0, .int .i64 0, .int .i64 0, .string ⟨#[]⟩, .slice none 0 0, .int .i64 0] 31)) w.heap.size [.slice a len cap, .int .i64 now]) := (boxR_new w [.slice a len cap, .int .i64 now] 35).below (bel_alloc _ _)
    have HZ : Hid (BoxW ((w.alloc (.cells #[.slice a len cap, .int .i64 now] 35)).alloc (.cells #[.int .i64 0, .int .i64 0, .int .i64 0, .int .i64 0, .int .i64 0, .int .i64 0, .int .i64 0, .slice none 0 0, .slice none 0 0, .bool false, .int .i64 0, .bool false, .int .i64 0, .int .i64 0, .int .i64 0, .slice none 0 0, .slice none 0 0, .bool false, .int .i64 0, .int .i64 0, .int .i64 0, .string ⟨#[]⟩, .slice none 0 0, .int .i64 0] 31)) (w.heap.size + 1) [.int .i64 0, .int .i64 0, .int .i64 0, .int .i64 0, .int .i64 0, .int .i64 0, .int .i64 0, .slice none 0 0, .slice none 0 0, .bool false, .int .i64 0, .bool false, .int .i64 0, .int .i64 0, .int .i64 0, .slice none 0 0, .slice none 0 0, .bool false, .int .i64 0, .int .i64 0, .int .i64 0, .string ⟨#[]⟩, .slice none 0 0, .int .i64 0]) := (by
      have h := boxW_new (w.alloc (.cells #[.slice a len cap, .int .i64 now] 35)) [.int .i64 0, .int .i64 0, .int .i64 0, .int .i64 0, .int .i64 0, .int .i64 0, .int .i64 0, .slice none 0 0, .slice none 0 0, .bool false, .int .i64 0, .bool false, .int .i64 0, .int .i64 0, .int .i64 0, .slice none 0 0, .slice none 0 0, .bool false, .int .i64 0, .int .i64 0, .int .i64 0, .string ⟨#[]⟩, .slice none 0 0, .int .i64 0] 31
      simp only [World.size_alloc] at h
      exact h)
    go_enter Tryz.func5, Tryz.ntmps5
    go_upto_region 1 with fail
    generalize ((w.alloc (.cells #[.slice a len cap, .int .i64 now] 35)).alloc (.cells #[.int .i64 0, .int .i64 0, .int .i64 0, .int .i64 0, .int .i64 0, .int .i64 0, .int .i64 0, .slice none 0 0, .slice none 0 0, .bool false, .int .i64 0, .bool false, .int .i64 0, .int .i64 0, .int .i64 0, .slice none 0 0, .slice none 0 0, .bool false, .int .i64 0, .int .i64 0, .int .i64 0, .string ⟨#[]⟩, .slice none 0 0, .int .i64 0] 31)) = w0 at HB HX HZ ⊢
    obtain ⟨X, hX⟩ : ∃ X, X = w.heap.size := ⟨_, rfl⟩
    have HXw : Hid (X = w.heap.size) := hX
    rw [← hX] at HX HZ ⊢
    clear hX
    have t0 : w0.cell? ⟨X, 0, none⟩ = some (.slice a len cap) := HX.out.at0 0 _ rfl
    have t1 : w0.cell? ⟨X, 1, none⟩ = some (.int .i64 now) := HX.out.at0 1 _ rfl
    go_wp2_with (first
      | (go_at_call 14; refine (HT.out _ HB.out).mono ?_; rintro e w1 ⟨rfl, hb⟩; replace HB : Hid (Below w.heap.size w w1) := Below.on HB.out hb; replace HX : Hid (BoxR w1 X [.slice a len cap, .int .i64 now]) := HX.out.below hb; replace HZ : Hid (BoxW w1 (X + 1) [.int .i64 0, .int .i64 0, .int .i64 0, .int .i64 0, .int .i64 0, .int .i64 0, .int .i64 0, .slice none 0 0, .slice none 0 0, .bool false, .int .i64 0, .bool false, .int .i64 0, .int .i64 0, .int .i64 0, .slice none 0 0, .slice none 0 0, .bool false, .int .i64 0, .int .i64 0, .int .i64 0, .string ⟨#[]⟩, .slice none 0 0, .int .i64 0]) := HZ.out.below hb; clear hb; replace t0 : w1.cell? ⟨X, 0, none⟩ = some (.slice a len cap) := HX.out.at0 0 _ rfl; replace t1 : w1.cell? ⟨X, 1, none⟩ = some (.int .i64 now) := HX.out.at0 1 _ rfl)
      | (refine wpList_store_list (by rfl) 31 _ _ (by rfl) (X + 1) 0 (ndV ndZ naZ) (by rfl) (by rfl) (HZ.out.there 0 24 (by simp)) (by kernel_rfl) (ndV_ones _ _) ?_; have QR : Hid ((w1.setCells (X + 1) 0 (ndV ndZ naZ)).rangeAt (X + 1) 0 (ndV ndZ naZ)) := World.rangeAt_setCells_same _ _ _ _ (HZ.out.there 0 24 (by simp)); have QN : Hid (NdIn (w1.setCells (X + 1) 0 (ndV ndZ naZ)) ndZ naZ) := ndIn_zero _; have QB : Hid (Below w.heap.size w (w1.setCells (X + 1) 0 (ndV ndZ naZ))) := bl_setsT (by have := HXw.out; omega) _ _ HB.out; clear HZ HB HX t0 t1; simp only [Act.put]; generalize (w1.setCells (X + 1) 0 (ndV ndZ naZ)) = wz at QR QN QB ⊢)
      | (refine bodyPost_ret (v := .agg (ndV ndZ naZ).toArray) ?_ rfl ⟨naZ, by rw [HE.out], by rw [HE.out]; exact QN.out, QB.out⟩))
    try (refine bodyPost_ret (v := .agg (ndV ndZ naZ).toArray) ?_ rfl ⟨naZ, by rw [HE.out], by rw [HE.out]; exact QN.out, QB.out⟩)
    exact results_one Tryz.results5 (by rfl) (run_loadVar_mid _ _ _ _ _ _ QR.out Tryz.underlying31 rfl (by kernel_rfl))
  have hlen : len ≤ 12 := by rw [← hll]; exact tree_len ht
  have HC : Hid (∀ w', Below w.heap.size w w' → Calls Tryz.prog 15 #[.agg #[.slice a len cap, .int .i64 now], .int .i64 n] w' fun e w'' => e = .returned (.bool (thB l n)) ∧ Below w'.heap.size w' w'') := (fun w' hb => sThere_any a len cap l now n (by omega) w' (hi.below hb))
  rw [ht] at HT
  cases hth : thB l n
  · have HE : Hid (nofN l now n = ndZ) := nof_off (by rw [hth, Bool.and_false])
    rw [hth] at HC
    clear hi hf hll ht
    have HB : Hid (Below w.heap.size w ((w.alloc (.cells #[.slice a len cap, .int .i64 now] 35)).alloc (.cells #[.int .i64 0, .int .i64 0, .int .i64 0, .int .i64 0, .int .i64 0, .int .i64 0, .int .i64 0, .slice none 0 0, .slice none 0 0, .bool false, .int .i64 0, .bool false, .int .i64 0, .int .i64 0, .int .i64 0, .slice none 0 0, .slice none 0 0, .bool false, .int .i64 0, .int .i64 0, .int .i64 0, .string ⟨#[]⟩, .slice none 0 0, .int .i64 0] 31))) := bl2T _ _ _
    have HX : Hid (BoxR ((w.alloc (.cells #[.slice a len cap, .int .i64 now] 35)).alloc (.cells #[.int .i64 0, .int .i64 0, .int .i64 0, .int .i64 0, .int .i64 0, .int .i64 0, .int .i64 0, .slice none 0 0, .slice none 0 0, .bool false, .int .i64 0, .bool false, .int .i64 0, .int .i64 0, .int .i64 0, .slice none 0 0, .slice none 0 0, .bool false, .int .i64 0, .int .i64 0, .int .i64 0, .string ⟨#[]⟩, .slice none 0 0, .int .i64 0] 31)) w.heap.size [.slice a len cap, .int .i64 now]) := (boxR_new w [.slice a len cap, .int .i64 now] 35).below (bel_alloc _ _)
    have HZ : Hid (BoxW ((w.alloc (.cells #[.slice a len cap, .int .i64 now] 35)).alloc (.cells #[.int .i64 0, .int .i64 0, .int .i64 0, .int .i64 0, .int .i64 0, .int .i64 0, .int .i64 0, .slice none 0 0, .slice none 0 0, .bool false, .int .i64 0, .bool false, .int .i64 0, .int .i64 0, .int .i64 0, .slice none 0 0, .slice none 0 0, .bool false, .int .i64 0, .int .i64 0, .int .i64 0, .string ⟨#[]⟩, .slice none 0 0, .int .i64 0] 31)) (w.heap.size + 1) [.int .i64 0, .int .i64 0, .int .i64 0, .int .i64 0, .int .i64 0, .int .i64 0, .int .i64 0, .slice none 0 0, .slice none 0 0, .bool false, .int .i64 0, .bool false, .int .i64 0, .int .i64 0, .int .i64 0, .slice none 0 0, .slice none 0 0, .bool false, .int .i64 0, .int .i64 0, .int .i64 0, .string ⟨#[]⟩, .slice none 0 0, .int .i64 0]) := (by
      have h := boxW_new (w.alloc (.cells #[.slice a len cap, .int .i64 now] 35)) [.int .i64 0, .int .i64 0, .int .i64 0, .int .i64 0, .int .i64 0, .int .i64 0, .int .i64 0, .slice none 0 0, .slice none 0 0, .bool false, .int .i64 0, .bool false, .int .i64 0, .int .i64 0, .int .i64 0, .slice none 0 0, .slice none 0 0, .bool false, .int .i64 0, .int .i64 0, .int .i64 0, .string ⟨#[]⟩, .slice none 0 0, .int .i64 0] 31
      simp only [World.size_alloc] at h
      exact h)
    go_enter Tryz.func5, Tryz.ntmps5
    go_upto_region 1 with fail
    generalize ((w.alloc (.cells #[.slice a len cap, .int .i64 now] 35)).alloc (.cells #[.int .i64 0, .int .i64 0, .int .i64 0, .int .i64 0, .int .i64 0, .int .i64 0, .int .i64 0, .slice none 0 0, .slice none 0 0, .bool false, .int .i64 0, .bool false, .int .i64 0, .int .i64 0, .int .i64 0, .slice none 0 0, .slice none 0 0, .bool false, .int .i64 0, .int .i64 0, .int .i64 0, .string ⟨#[]⟩, .slice none 0 0, .int .i64 0] 31)) = w0 at HB HX HZ ⊢
    obtain ⟨X, hX⟩ : ∃ X, X = w.heap.size := ⟨_, rfl⟩
    have HXw : Hid (X = w.heap.size) := hX
    rw [← hX] at HX HZ ⊢
    clear hX
    have t0 : w0.cell? ⟨X, 0, none⟩ = some (.slice a len cap) := HX.out.at0 0 _ rfl
    have t1 : w0.cell? ⟨X, 1, none⟩ = some (.int .i64 now) := HX.out.at0 1 _ rfl
    go_wp2_with (first
      | (go_at_call 14; refine (HT.out _ HB.out).mono ?_; rintro e w1 ⟨rfl, hb⟩; replace HB : Hid (Below w.heap.size w w1) := Below.on HB.out hb; replace HX : Hid (BoxR w1 X [.slice a len cap, .int .i64 now]) := HX.out.below hb; replace HZ : Hid (BoxW w1 (X + 1) [.int .i64 0, .int .i64 0, .int .i64 0, .int .i64 0, .int .i64 0, .int .i64 0, .int .i64 0, .slice none 0 0, .slice none 0 0, .bool false, .int .i64 0, .bool false, .int .i64 0, .int .i64 0, .int .i64 0, .slice none 0 0, .slice none 0 0, .bool false, .int .i64 0, .int .i64 0, .int .i64 0, .string ⟨#[]⟩, .slice none 0 0, .int .i64 0]) := HZ.out.below hb; clear hb; replace t0 : w1.cell? ⟨X, 0, none⟩ = some (.slice a len cap) := HX.out.at0 0 _ rfl; replace t1 : w1.cell? ⟨X, 1, none⟩ = some (.int .i64 now) := HX.out.at0 1 _ rfl)
      | (go_at_call 15; refine (HC.out _ HB.out).mono ?_; rintro e w1 ⟨rfl, hb⟩; replace HB : Hid (Below w.heap.size w w1) := Below.on HB.out hb; replace HX : Hid (BoxR w1 X [.slice a len cap, .int .i64 now]) := HX.out.below hb; replace HZ : Hid (BoxW w1 (X + 1) [.int .i64 0, .int .i64 0, .int .i64 0, .int .i64 0, .int .i64 0, .int .i64 0, .int .i64 0, .slice none 0 0, .slice none 0 0, .bool false, .int .i64 0, .bool false, .int .i64 0, .int .i64 0, .int .i64 0, .slice none 0 0, .slice none 0 0, .bool false, .int .i64 0, .int .i64 0, .int .i64 0, .string ⟨#[]⟩, .slice none 0 0, .int .i64 0]) := HZ.out.below hb; clear hb; replace t0 : w1.cell? ⟨X, 0, none⟩ = some (.slice a len cap) := HX.out.at0 0 _ rfl; replace t1 : w1.cell? ⟨X, 1, none⟩ = some (.int .i64 now) := HX.out.at0 1 _ rfl)
      | (refine wpList_store_list (by rfl) 31 _ _ (by rfl) (X + 1) 0 (ndV ndZ naZ) (by rfl) (by rfl) (HZ.out.there 0 24 (by simp)) (by kernel_rfl) (ndV_ones _ _) ?_; have QR : Hid ((w1.setCells (X + 1) 0 (ndV ndZ naZ)).rangeAt (X + 1) 0 (ndV ndZ naZ)) := World.rangeAt_setCells_same _ _ _ _ (HZ.out.there 0 24 (by simp)); have QN : Hid (NdIn (w1.setCells (X + 1) 0 (ndV ndZ naZ)) ndZ naZ) := ndIn_zero _; have QB : Hid (Below w.heap.size w (w1.setCells (X + 1) 0 (ndV ndZ naZ))) := bl_setsT (by have := HXw.out; omega) _ _ HB.out; clear HZ HB HX t0 t1; simp only [Act.put]; generalize (w1.setCells (X + 1) 0 (ndV ndZ naZ)) = wz at QR QN QB ⊢)
      | (refine bodyPost_ret (v := .agg (ndV ndZ naZ).toArray) ?_ rfl ⟨naZ, by rw [HE.out], by rw [HE.out]; exact QN.out, QB.out⟩))
    try (refine bodyPost_ret (v := .agg (ndV ndZ naZ).toArray) ?_ rfl ⟨naZ, by rw [HE.out], by rw [HE.out]; exact QN.out, QB.out⟩)
    exact results_one Tryz.results5 (by rfl) (run_loadVar_mid _ _ _ _ _ _ QR.out Tryz.underlying31 rfl (by kernel_rfl))
  · rw [hth] at HC
    obtain ⟨h1, h2⟩ := inR_iff.1 (thB_num hth)
    obtain ⟨k, rfl⟩ : ∃ k : Nat, n = (k : Int) + 1 := ⟨(n - 1).toNat, by omega⟩
    have hk : k < len := by omega
    have HE : Hid (nofN l now ((k : Int) + 1) = ndAt l k) := nof_on ht (by omega)
    obtain ⟨b, off, Y, rfl, hb0, hc⟩ := hi.2 (by omega)
    have HN : Hid (N24 w b (off + k * 24) (ndAt l k) (Y k)) := (hc k hk).1
    have HM : Hid (NdIn w (ndAt l k) (Y k)) := (hc k hk).2
    have hk1 : (k : Int) < (len : Int) := by omega
    have hk0 : (0 : Int) ≤ (k : Int) := by omega
    have hsm := node_small ht (k := k) (by omega)
    have hfk := hf k hk
    clear hi hf hll ht hth hc h1 h2
    generalize ndAt l k = x at HN HM HE hsm hfk
    generalize Y k = y at HN HM
    have HF : Hid (NdFit 1048576 x) := hfk
    have HSm : Hid (NdSm x) := hsm
    clear hsm hfk
    have HB : Hid (Below w.heap.size w ((w.alloc (.cells #[.slice (some ⟨b, off, none⟩) len cap, .int .i64 now] 35)).alloc (.cells #[.int .i64 0, .int .i64 0, .int .i64 0, .int .i64 0, .int .i64 0, .int .i64 0, .int .i64 0, .slice none 0 0, .slice none 0 0, .bool false, .int .i64 0, .bool false, .int .i64 0, .int .i64 0, .int .i64 0, .slice none 0 0, .slice none 0 0, .bool false, .int .i64 0, .int .i64 0, .int .i64 0, .string ⟨#[]⟩, .slice none 0 0, .int .i64 0] 31))) := bl2T _ _ _
    have HX : Hid (BoxR ((w.alloc (.cells #[.slice (some ⟨b, off, none⟩) len cap, .int .i64 now] 35)).alloc (.cells #[.int .i64 0, .int .i64 0, .int .i64 0, .int .i64 0, .int .i64 0, .int .i64 0, .int .i64 0, .slice none 0 0, .slice none 0 0, .bool false, .int .i64 0, .bool false, .int .i64 0, .int .i64 0, .int .i64 0, .slice none 0 0, .slice none 0 0, .bool false, .int .i64 0, .int .i64 0, .int .i64 0, .string ⟨#[]⟩, .slice none 0 0, .int .i64 0] 31)) w.heap.size [.slice (some ⟨b, off, none⟩) len cap, .int .i64 now]) := (boxR_new w [.slice (some ⟨b, off, none⟩) len cap, .int .i64 now] 35).below (bel_alloc _ _)
    have HZ : Hid (BoxW ((w.alloc (.cells #[.slice (some ⟨b, off, none⟩) len cap, .int .i64 now] 35)).alloc (.cells #[.int .i64 0, .int .i64 0, .int .i64 0, .int .i64 0, .int .i64 0, .int .i64 0, .int .i64 0, .slice none 0 0, .slice none 0 0, .bool false, .int .i64 0, .bool false, .int .i64 0, .int .i64 0, .int .i64 0, .slice none 0 0, .slice none 0 0, .bool false, .int .i64 0, .int .i64 0, .int .i64 0, .string ⟨#[]⟩, .slice none 0 0, .int .i64 0] 31)) (w.heap.size + 1) [.int .i64 0, .int .i64 0, .int .i64 0, .int .i64 0, .int .i64 0, .int .i64 0, .int .i64 0, .slice none 0 0, .slice none 0 0, .bool false, .int .i64 0, .bool false, .int .i64 0, .int .i64 0, .int .i64 0, .slice none 0 0, .slice none 0 0, .bool false, .int .i64 0, .int .i64 0, .int .i64 0, .string ⟨#[]⟩, .slice none 0 0, .int .i64 0]) := (by
      have h := boxW_new (w.alloc (.cells #[.slice (some ⟨b, off, none⟩) len cap, .int .i64 now] 35)) [.int .i64 0, .int .i64 0, .int .i64 0, .int .i64 0, .int .i64 0, .int .i64 0, .int .i64 0, .slice none 0 0, .slice none 0 0, .bool false, .int .i64 0, .bool false, .int .i64 0, .int .i64 0, .int .i64 0, .slice none 0 0, .slice none 0 0, .bool false, .int .i64 0, .int .i64 0, .int .i64 0, .string ⟨#[]⟩, .slice none 0 0, .int .i64 0] 31
      simp only [World.size_alloc] at h
      exact h)
    go_enter Tryz.func5, Tryz.ntmps5
    go_upto_region 1 with fail
    generalize ((w.alloc (.cells #[.slice (some ⟨b, off, none⟩) len cap, .int .i64 now] 35)).alloc (.cells #[.int .i64 0, .int .i64 0, .int .i64 0, .int .i64 0, .int .i64 0, .int .i64 0, .int .i64 0, .slice none 0 0, .slice none 0 0, .bool false, .int .i64 0, .bool false, .int .i64 0, .int .i64 0, .int .i64 0, .slice none 0 0, .slice none 0 0, .bool false, .int .i64 0, .int .i64 0, .int .i64 0, .string ⟨#[]⟩, .slice none 0 0, .int .i64 0] 31)) = w0 at HB HX HZ ⊢
    obtain ⟨X, hX⟩ : ∃ X, X = w.heap.size := ⟨_, rfl⟩
    have HXw : Hid (X = w.heap.size) := hX
    rw [← hX] at HX HZ ⊢
    clear hX
    have HO : Hid (∀ w', X + 1 < w'.heap.size → Below w.heap.size w w' → Calls Tryz.prog 16 #[.agg (ndV x y).toArray] w' fun e w'' => ∃ y', e = .returned (.agg (ndV x y').toArray) ∧ NdIn w'' x y' ∧ NaFrom (X + 2) y' ∧ Below w'.heap.size w' w'') := (fun w' hl hb => (sCopyNodeL_any x y HF.out w' (HM.out.below hb)).mono fun e w'' ⟨y', h1, h2, h3, h4, _⟩ => ⟨y', h1, h2, h3.mono (by omega), h4⟩)
    have t0 : w0.cell? ⟨X, 0, none⟩ = some (.slice (some ⟨b, off, none⟩) len cap) := HX.out.at0 0 _ rfl
    have t1 : w0.cell? ⟨X, 1, none⟩ = some (.int .i64 now) := HX.out.at0 1 _ rfl
    go_wp2_with (first
      | (go_at_call 14; refine (HT.out _ HB.out).mono ?_; rintro e w1 ⟨rfl, hb⟩; replace HB : Hid (Below w.heap.size w w1) := Below.on HB.out hb; replace HX : Hid (BoxR w1 X [.slice (some ⟨b, off, none⟩) len cap, .int .i64 now]) := HX.out.below hb; replace HZ : Hid (BoxW w1 (X + 1) [.int .i64 0, .int .i64 0, .int .i64 0, .int .i64 0, .int .i64 0, .int .i64 0, .int .i64 0, .slice none 0 0, .slice none 0 0, .bool false, .int .i64 0, .bool false, .int .i64 0, .int .i64 0, .int .i64 0, .slice none 0 0, .slice none 0 0, .bool false, .int .i64 0, .int .i64 0, .int .i64 0, .string ⟨#[]⟩, .slice none 0 0, .int .i64 0]) := HZ.out.below hb; clear hb; replace t0 : w1.cell? ⟨X, 0, none⟩ = some (.slice (some ⟨b, off, none⟩) len cap) := HX.out.at0 0 _ rfl; replace t1 : w1.cell? ⟨X, 1, none⟩ = some (.int .i64 now) := HX.out.at0 1 _ rfl)
      | (go_at_call 15; refine (HC.out _ HB.out).mono ?_; rintro e w1 ⟨rfl, hb⟩; replace HB : Hid (Below w.heap.size w w1) := Below.on HB.out hb; replace HX : Hid (BoxR w1 X [.slice (some ⟨b, off, none⟩) len cap, .int .i64 now]) := HX.out.below hb; replace HZ : Hid (BoxW w1 (X + 1) [.int .i64 0, .int .i64 0, .int .i64 0, .int .i64 0, .int .i64 0, .int .i64 0, .int .i64 0, .slice none 0 0, .slice none 0 0, .bool false, .int .i64 0, .bool false, .int .i64 0, .int .i64 0, .int .i64 0, .slice none 0 0, .slice none 0 0, .bool false, .int .i64 0, .int .i64 0, .int .i64 0, .string ⟨#[]⟩, .slice none 0 0, .int .i64 0]) := HZ.out.below hb; clear hb; replace t0 : w1.cell? ⟨X, 0, none⟩ = some (.slice (some ⟨b, off, none⟩) len cap) := HX.out.at0 0 _ rfl; replace t1 : w1.cell? ⟨X, 1, none⟩ = some (.int .i64 now) := HX.out.at0 1 _ rfl)
      | (refine wpList_load_mid (by rfl) 31 _ (by rfl) _ _ (by rfl) _ _ (range_below HN.out hb0 HB.out) Tryz.underlying31 rfl (by kernel_rfl) ?_)
      | (go_at_call 16; refine (HO.out _ HZ.out.lt HB.out).mono ?_; rintro e w1 ⟨y', rfl, hN, hL, hb⟩; have HN2 : Hid (NdIn w1 x y') := hN; have HL2 : Hid (NaFrom (X + 2) y') := hL; replace HB : Hid (Below w.heap.size w w1) := Below.on HB.out hb; replace HZ : Hid (BoxW w1 (X + 1) [.int .i64 0, .int .i64 0, .int .i64 0, .int .i64 0, .int .i64 0, .int .i64 0, .int .i64 0, .slice none 0 0, .slice none 0 0, .bool false, .int .i64 0, .bool false, .int .i64 0, .int .i64 0, .int .i64 0, .slice none 0 0, .slice none 0 0, .bool false, .int .i64 0, .int .i64 0, .int .i64 0, .string ⟨#[]⟩, .slice none 0 0, .int .i64 0]) := HZ.out.below hb; clear hb hN hL HX t0 t1 HO)
      | (refine wpList_store_list (by rfl) 31 _ _ (by rfl) (X + 1) 0 (ndV x y') (by rfl) (by rfl) (HZ.out.there 0 24 (by simp)) (by kernel_rfl) (ndV_ones _ _) ?_; have QR : Hid ((w1.setCells (X + 1) 0 (ndV x y')).rangeAt (X + 1) 0 (ndV x y')) := World.rangeAt_setCells_same _ _ _ _ (HZ.out.there 0 24 (by simp)); have QN : Hid (NdIn (w1.setCells (X + 1) 0 (ndV x y')) x y') := HN2.out.sets HL2.out (by omega) _ _; have QB : Hid (Below w.heap.size w (w1.setCells (X + 1) 0 (ndV x y'))) := bl_setsT (by have := HXw.out; omega) _ _ HB.out; clear HZ HB HN2 HL2; simp only [Act.put]; generalize (w1.setCells (X + 1) 0 (ndV x y')) = wz at QR QN QB ⊢)
      | (refine bodyPost_ret (v := .agg (ndV x y').toArray) ?_ rfl ⟨y', by rw [HE.out], by rw [HE.out]; exact QN.out, QB.out⟩))
    try (refine bodyPost_ret (v := .agg (ndV x y').toArray) ?_ rfl ⟨y', by rw [HE.out], by rw [HE.out]; exact QN.out, QB.out⟩)
    exact results_one Tryz.results5 (by rfl) (run_loadVar_mid _ _ _ _ _ _ QR.out Tryz.underlying31 rfl (by kernel_rfl))
end Go.Proofs.YtgodbelcddgdmaaGreat
