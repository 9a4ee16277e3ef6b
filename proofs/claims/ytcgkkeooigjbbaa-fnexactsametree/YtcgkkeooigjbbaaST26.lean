/- Laid together: SameTr. -/
import Derived.Test.YtcgkkeooigjbbaaST25
import Derived.Test.YtcgkkeooigjbbaaST5
/- SameTree of both sides. -/
namespace Go.Proofs.Ytcgkkeooigjbbaa
open Go.RowKit Go.PlainAid Go.Deep
set_option linter.unusedVariables false
theorem eqF_any (a a2 : Option Addr) (len len2 cap cap2 : Nat) (l m : List Nd) (hl : len ≤ 12) (hl2 : len2 ≤ 12) (h0 : 1 ≤ len) (h02 : 1 ≤ len2) (hf : ∀ i, i < len → NdFit 1048576 (ndAt l i)) (hf2 : ∀ i, i < len2 → NdFit 1048576 (ndAt m i)) (w : World) (h1 : Nds a len l w) (h2 : Nds a2 len2 m w) :
    Calls Try.prog 51 #[.slice a len cap, .slice a2 len2 cap2, .func (.func 52) #[] #[]] w fun e w' => e = .returned (.bool (ndsE l m)) ∧ Below w.heap.size w w' := by
  by_cases he : len = len2
  · subst he
    obtain ⟨b, off, Y, rfl, hb, hc⟩ := h1.2 (by omega)
    obtain ⟨b2, off2, Y2, rfl, hb2, hc2⟩ := h2.2 (by omega)
    exact eqF_some b off b2 off2 len cap cap2 l m Y Y2 hl h1.1 h2.1 hf hf2 w hb hb2 hc hc2
  · have HE : Hid (ndsE l m = false) := (by
      show _ = _
      have h3 : (l.length == m.length) = false := by rw [h1.1, h2.1]; simp; omega
      rw [ndsE, h3]; rfl)
    have hne : ((len : Int) == (len2 : Int)) = false := by simp; omega
    have hne2 : ((len : Int) != (len2 : Int)) = true := by rw [bne, hne]; rfl
    clear h1 h2 hf hf2
    go_enter Try.func51, Try.ntmps51
    go_wp2
    go_ret
    exact ⟨ret_boolW HE.out.symm, Below.refl _ _⟩
set_option maxRecDepth 20000 in
set_option maxHeartbeats 8000000 in
theorem iSameTree_any (a a2 : Option Addr) (len cap len2 cap2 : Nat) (l : List Nd) (now : Int) (m : List Nd) (now2 : Int) (hm : len ≤ 9223372036854775807) (hf : ∀ i, i < len → NdFit 1048576 (ndAt l i)) (hm2 : len2 ≤ 9223372036854775807) (hf2 : ∀ i, i < len2 → NdFit 1048576 (ndAt m i)) (w : World) (hi : Nds a len l w) (hi2 : Nds a2 len2 m w) :
    Calls Try.prog 23 #[.agg #[.slice a len cap, .int .i64 now], .agg #[.slice a2 len2 cap2, .int .i64 now2]] w fun e w' => e = .returned (.bool (smO l now m now2)) ∧ Below w.heap.size w w' := by
  have HT : Hid (∀ w', Below w.heap.size w w' → Calls Try.prog 28 #[.agg #[.slice a len cap, .int .i64 now]] w' fun e w'' => e = .returned (.bool (treeB l now)) ∧ Below w'.heap.size w' w'') := (fun w' hb => by rw [← tree_same]; exact iTree_any a len cap l now hm hf w' (hi.below hb))
  have HT2 : Hid (∀ w', Below w.heap.size w w' → Calls Try.prog 28 #[.agg #[.slice a2 len2 cap2, .int .i64 now2]] w' fun e w'' => e = .returned (.bool (treeB m now2)) ∧ Below w'.heap.size w' w'') := (fun w' hb => by rw [← tree_same]; exact iTree_any a2 len2 cap2 m now2 hm2 hf2 w' (hi2.below hb))
  have hll := hi.1
  have hll2 := hi2.1
  cases ht : treeB l now
  · have HE : Hid (smO l now m now2 = false) := (by show _ = _; simp only [smO, ht, Bool.false_and])
    rw [ht] at HT
    clear hi hf hi2 hf2 HT2
    have HX : Hid (BoxR ((w.alloc (.cells #[.slice a len cap, .int .i64 now] 29)).alloc (.cells #[.slice a2 len2 cap2, .int .i64 now2] 29)) w.heap.size [.slice a len cap, .int .i64 now]) := (boxR_new w [.slice a len cap, .int .i64 now] 29).below (bel_alloc _ _)
    have HZ : Hid (BoxR ((w.alloc (.cells #[.slice a len cap, .int .i64 now] 29)).alloc (.cells #[.slice a2 len2 cap2, .int .i64 now2] 29)) (w.heap.size + 1) [.slice a2 len2 cap2, .int .i64 now2]) := (by
      have h := boxR_new (w.alloc (.cells #[.slice a len cap, .int .i64 now] 29)) [.slice a2 len2 cap2, .int .i64 now2] 29
      simp only [World.size_alloc] at h
      exact h)
    have HB : Hid (Below w.heap.size w ((w.alloc (.cells #[.slice a len cap, .int .i64 now] 29)).alloc (.cells #[.slice a2 len2 cap2, .int .i64 now2] 29))) := bl2T _ _ _
    go_enter Try.func23, Try.ntmps23
    go_upto_region 1 with fail
    generalize ((w.alloc (.cells #[.slice a len cap, .int .i64 now] 29)).alloc (.cells #[.slice a2 len2 cap2, .int .i64 now2] 29)) = w0 at HX HZ HB ⊢
    obtain ⟨X, hX⟩ : ∃ X, X = w.heap.size := ⟨_, rfl⟩
    rw [← hX] at HX HZ ⊢
    clear hX
    have t0 : w0.cell? ⟨X, 0, none⟩ = some (.slice a len cap) := HX.out.at0 0 _ rfl
    have t1 : w0.cell? ⟨X, 1, none⟩ = some (.int .i64 now) := HX.out.at0 1 _ rfl
    have s0 : w0.cell? ⟨X + 1, 0, none⟩ = some (.slice a2 len2 cap2) := HZ.out.at0 0 _ rfl
    have s1 : w0.cell? ⟨X + 1, 1, none⟩ = some (.int .i64 now2) := HZ.out.at0 1 _ rfl
    go_wp2_with (go_at_call_of 28 (Value.slice a len cap); refine (HT.out _ HB.out).mono ?_; rintro e w1 ⟨rfl, hb⟩; replace HB : Hid (Below w.heap.size w w1) := Below.on HB.out hb; replace HX : Hid (BoxR w1 X [.slice a len cap, .int .i64 now]) := HX.out.below hb; replace HZ : Hid (BoxR w1 (X + 1) [.slice a2 len2 cap2, .int .i64 now2]) := HZ.out.below hb; clear hb; replace t0 : w1.cell? ⟨X, 0, none⟩ = some (.slice a len cap) := HX.out.at0 0 _ rfl; replace t1 : w1.cell? ⟨X, 1, none⟩ = some (.int .i64 now) := HX.out.at0 1 _ rfl; replace s0 : w1.cell? ⟨X + 1, 0, none⟩ = some (.slice a2 len2 cap2) := HZ.out.at0 0 _ rfl; replace s1 : w1.cell? ⟨X + 1, 1, none⟩ = some (.int .i64 now2) := HZ.out.at0 1 _ rfl)
    go_ret
    exact ⟨ret_boolW HE.out.symm, HB.out⟩
  rw [ht] at HT
  have hlen : len ≤ 12 := by rw [← hll]; exact tree_len ht
  have hone : 1 ≤ len := by rw [← hll]; exact tree_one ht
  cases ht2 : treeB m now2
  · have HE : Hid (smO l now m now2 = false) := (by show _ = _; simp only [smO, ht, ht2, Bool.false_and, Bool.and_false])
    rw [ht2] at HT2
    clear hi hf hi2 hf2
    have HX : Hid (BoxR ((w.alloc (.cells #[.slice a len cap, .int .i64 now] 29)).alloc (.cells #[.slice a2 len2 cap2, .int .i64 now2] 29)) w.heap.size [.slice a len cap, .int .i64 now]) := (boxR_new w [.slice a len cap, .int .i64 now] 29).below (bel_alloc _ _)
    have HZ : Hid (BoxR ((w.alloc (.cells #[.slice a len cap, .int .i64 now] 29)).alloc (.cells #[.slice a2 len2 cap2, .int .i64 now2] 29)) (w.heap.size + 1) [.slice a2 len2 cap2, .int .i64 now2]) := (by
      have h := boxR_new (w.alloc (.cells #[.slice a len cap, .int .i64 now] 29)) [.slice a2 len2 cap2, .int .i64 now2] 29
      simp only [World.size_alloc] at h
      exact h)
    have HB : Hid (Below w.heap.size w ((w.alloc (.cells #[.slice a len cap, .int .i64 now] 29)).alloc (.cells #[.slice a2 len2 cap2, .int .i64 now2] 29))) := bl2T _ _ _
    go_enter Try.func23, Try.ntmps23
    go_upto_region 1 with fail
    generalize ((w.alloc (.cells #[.slice a len cap, .int .i64 now] 29)).alloc (.cells #[.slice a2 len2 cap2, .int .i64 now2] 29)) = w0 at HX HZ HB ⊢
    obtain ⟨X, hX⟩ : ∃ X, X = w.heap.size := ⟨_, rfl⟩
    rw [← hX] at HX HZ ⊢
    clear hX
    have t0 : w0.cell? ⟨X, 0, none⟩ = some (.slice a len cap) := HX.out.at0 0 _ rfl
    have t1 : w0.cell? ⟨X, 1, none⟩ = some (.int .i64 now) := HX.out.at0 1 _ rfl
    have s0 : w0.cell? ⟨X + 1, 0, none⟩ = some (.slice a2 len2 cap2) := HZ.out.at0 0 _ rfl
    have s1 : w0.cell? ⟨X + 1, 1, none⟩ = some (.int .i64 now2) := HZ.out.at0 1 _ rfl
    go_wp2_with (first
      | (go_at_call_of 28 (Value.slice a len cap); refine (HT.out _ HB.out).mono ?_; rintro e w1 ⟨rfl, hb⟩; replace HB : Hid (Below w.heap.size w w1) := Below.on HB.out hb; replace HX : Hid (BoxR w1 X [.slice a len cap, .int .i64 now]) := HX.out.below hb; replace HZ : Hid (BoxR w1 (X + 1) [.slice a2 len2 cap2, .int .i64 now2]) := HZ.out.below hb; clear hb; replace t0 : w1.cell? ⟨X, 0, none⟩ = some (.slice a len cap) := HX.out.at0 0 _ rfl; replace t1 : w1.cell? ⟨X, 1, none⟩ = some (.int .i64 now) := HX.out.at0 1 _ rfl; replace s0 : w1.cell? ⟨X + 1, 0, none⟩ = some (.slice a2 len2 cap2) := HZ.out.at0 0 _ rfl; replace s1 : w1.cell? ⟨X + 1, 1, none⟩ = some (.int .i64 now2) := HZ.out.at0 1 _ rfl)
      | (go_at_call_of 28 (Value.slice a2 len2 cap2); refine (HT2.out _ HB.out).mono ?_; rintro e w1 ⟨rfl, hb⟩; replace HB : Hid (Below w.heap.size w w1) := Below.on HB.out hb; replace HX : Hid (BoxR w1 X [.slice a len cap, .int .i64 now]) := HX.out.below hb; replace HZ : Hid (BoxR w1 (X + 1) [.slice a2 len2 cap2, .int .i64 now2]) := HZ.out.below hb; clear hb; replace t0 : w1.cell? ⟨X, 0, none⟩ = some (.slice a len cap) := HX.out.at0 0 _ rfl; replace t1 : w1.cell? ⟨X, 1, none⟩ = some (.int .i64 now) := HX.out.at0 1 _ rfl; replace s0 : w1.cell? ⟨X + 1, 0, none⟩ = some (.slice a2 len2 cap2) := HZ.out.at0 0 _ rfl; replace s1 : w1.cell? ⟨X + 1, 1, none⟩ = some (.int .i64 now2) := HZ.out.at0 1 _ rfl))
    go_ret
    exact ⟨ret_boolW HE.out.symm, HB.out⟩
  rw [ht2] at HT2
  have hlen2 : len2 ≤ 12 := by rw [← hll2]; exact tree_len ht2
  have hone2 : 1 ≤ len2 := by rw [← hll2]; exact tree_one ht2
  have HE0 : Hid (smO l now m now2 = ndsE l m) := (by show _ = _; simp only [smO, ht, ht2, Bool.true_and])
  have HQ : Hid (∀ w', Below w.heap.size w w' → Calls Try.prog 51 #[.slice a len cap, .slice a2 len2 cap2, .func (.func 52) #[] #[]] w' fun e w'' => e = .returned (.bool (ndsE l m)) ∧ Below w'.heap.size w' w'') := (fun w' hb => eqF_any a a2 len len2 cap cap2 l m hlen hlen2 hone hone2 hf hf2 w' (hi.below hb) (hi2.below hb))
  generalize ndsE l m = nb at HE0 HQ
  clear hi hf hi2 hf2
  have HX : Hid (BoxR ((w.alloc (.cells #[.slice a len cap, .int .i64 now] 29)).alloc (.cells #[.slice a2 len2 cap2, .int .i64 now2] 29)) w.heap.size [.slice a len cap, .int .i64 now]) := (boxR_new w [.slice a len cap, .int .i64 now] 29).below (bel_alloc _ _)
  have HZ : Hid (BoxR ((w.alloc (.cells #[.slice a len cap, .int .i64 now] 29)).alloc (.cells #[.slice a2 len2 cap2, .int .i64 now2] 29)) (w.heap.size + 1) [.slice a2 len2 cap2, .int .i64 now2]) := (by
    have h := boxR_new (w.alloc (.cells #[.slice a len cap, .int .i64 now] 29)) [.slice a2 len2 cap2, .int .i64 now2] 29
    simp only [World.size_alloc] at h
    exact h)
  have HB : Hid (Below w.heap.size w ((w.alloc (.cells #[.slice a len cap, .int .i64 now] 29)).alloc (.cells #[.slice a2 len2 cap2, .int .i64 now2] 29))) := bl2T _ _ _
  go_enter Try.func23, Try.ntmps23
  go_upto_region 1 with fail
  generalize ((w.alloc (.cells #[.slice a len cap, .int .i64 now] 29)).alloc (.cells #[.slice a2 len2 cap2, .int .i64 now2] 29)) = w0 at HX HZ HB ⊢
  obtain ⟨X, hX⟩ : ∃ X, X = w.heap.size := ⟨_, rfl⟩
  rw [← hX] at HX HZ ⊢
  clear hX
  have t0 : w0.cell? ⟨X, 0, none⟩ = some (.slice a len cap) := HX.out.at0 0 _ rfl
  have t1 : w0.cell? ⟨X, 1, none⟩ = some (.int .i64 now) := HX.out.at0 1 _ rfl
  have s0 : w0.cell? ⟨X + 1, 0, none⟩ = some (.slice a2 len2 cap2) := HZ.out.at0 0 _ rfl
  have s1 : w0.cell? ⟨X + 1, 1, none⟩ = some (.int .i64 now2) := HZ.out.at0 1 _ rfl
  go_wp2_with (first
    | (go_at_call_of 28 (Value.slice a len cap); refine (HT.out _ HB.out).mono ?_; rintro e w1 ⟨rfl, hb⟩; replace HB : Hid (Below w.heap.size w w1) := Below.on HB.out hb; replace HX : Hid (BoxR w1 X [.slice a len cap, .int .i64 now]) := HX.out.below hb; replace HZ : Hid (BoxR w1 (X + 1) [.slice a2 len2 cap2, .int .i64 now2]) := HZ.out.below hb; clear hb; replace t0 : w1.cell? ⟨X, 0, none⟩ = some (.slice a len cap) := HX.out.at0 0 _ rfl; replace t1 : w1.cell? ⟨X, 1, none⟩ = some (.int .i64 now) := HX.out.at0 1 _ rfl; replace s0 : w1.cell? ⟨X + 1, 0, none⟩ = some (.slice a2 len2 cap2) := HZ.out.at0 0 _ rfl; replace s1 : w1.cell? ⟨X + 1, 1, none⟩ = some (.int .i64 now2) := HZ.out.at0 1 _ rfl)
    | (go_at_call_of 28 (Value.slice a2 len2 cap2); refine (HT2.out _ HB.out).mono ?_; rintro e w1 ⟨rfl, hb⟩; replace HB : Hid (Below w.heap.size w w1) := Below.on HB.out hb; replace HX : Hid (BoxR w1 X [.slice a len cap, .int .i64 now]) := HX.out.below hb; replace HZ : Hid (BoxR w1 (X + 1) [.slice a2 len2 cap2, .int .i64 now2]) := HZ.out.below hb; clear hb; replace t0 : w1.cell? ⟨X, 0, none⟩ = some (.slice a len cap) := HX.out.at0 0 _ rfl; replace t1 : w1.cell? ⟨X, 1, none⟩ = some (.int .i64 now) := HX.out.at0 1 _ rfl; replace s0 : w1.cell? ⟨X + 1, 0, none⟩ = some (.slice a2 len2 cap2) := HZ.out.at0 0 _ rfl; replace s1 : w1.cell? ⟨X + 1, 1, none⟩ = some (.int .i64 now2) := HZ.out.at0 1 _ rfl)
    | (go_at_call 51; refine (HQ.out _ HB.out).mono ?_; rintro e w1 ⟨rfl, hb⟩; replace HB : Hid (Below w.heap.size w w1) := Below.on HB.out hb; clear hb))
  all_goals go_ret
  all_goals exact ⟨ret_boolW HE0.out.symm, HB.out⟩
set_option maxRecDepth 20000 in
set_option maxHeartbeats 8000000 in
theorem sSameTree_any (a a2 : Option Addr) (len cap len2 cap2 : Nat) (l : List Nd) (now : Int) (m : List Nd) (now2 : Int) (hm : len ≤ 9223372036854775807) (hf : ∀ i, i < len → NdFit 1048576 (ndAt l i)) (hm2 : len2 ≤ 9223372036854775807) (hf2 : ∀ i, i < len2 → NdFit 1048576 (ndAt m i)) (w : World) (hi : Nds a len l w) (hi2 : Nds a2 len2 m w) :
    Calls Try.prog 22 #[.agg #[.slice a len cap, .int .i64 now], .agg #[.slice a2 len2 cap2, .int .i64 now2]] w fun e w' => e = .returned (.bool (smO l now m now2)) ∧ Below w.heap.size w w' := by
  have HT : Hid (∀ w', Below w.heap.size w w' → Calls Try.prog 25 #[.agg #[.slice a len cap, .int .i64 now]] w' fun e w'' => e = .returned (.bool (treeB l now)) ∧ Below w'.heap.size w' w'') := (fun w' hb => sTree_any a len cap l now hm hf w' (hi.below hb))
  have HT2 : Hid (∀ w', Below w.heap.size w w' → Calls Try.prog 25 #[.agg #[.slice a2 len2 cap2, .int .i64 now2]] w' fun e w'' => e = .returned (.bool (treeB m now2)) ∧ Below w'.heap.size w' w'') := (fun w' hb => sTree_any a2 len2 cap2 m now2 hm2 hf2 w' (hi2.below hb))
  have hll := hi.1
  have hll2 := hi2.1
  cases ht : treeB l now
  · have HE : Hid (smO l now m now2 = false) := (by show _ = _; simp only [smO, ht, Bool.false_and])
    rw [ht] at HT
    clear hi hf hi2 hf2 HT2
    have HX : Hid (BoxR ((w.alloc (.cells #[.slice a len cap, .int .i64 now] 29)).alloc (.cells #[.slice a2 len2 cap2, .int .i64 now2] 29)) w.heap.size [.slice a len cap, .int .i64 now]) := (boxR_new w [.slice a len cap, .int .i64 now] 29).below (bel_alloc _ _)
    have HZ : Hid (BoxR ((w.alloc (.cells #[.slice a len cap, .int .i64 now] 29)).alloc (.cells #[.slice a2 len2 cap2, .int .i64 now2] 29)) (w.heap.size + 1) [.slice a2 len2 cap2, .int .i64 now2]) := (by
      have h := boxR_new (w.alloc (.cells #[.slice a len cap, .int .i64 now] 29)) [.slice a2 len2 cap2, .int .i64 now2] 29
      simp only [World.size_alloc] at h
      exact h)
    have HB : Hid (Below w.heap.size w ((w.alloc (.cells #[.slice a len cap, .int .i64 now] 29)).alloc (.cells #[.slice a2 len2 cap2, .int .i64 now2] 29))) := bl2T _ _ _
    go_enter Try.func22, Try.ntmps22
    go_upto_region 1 with fail
    generalize ((w.alloc (.cells #[.slice a len cap, .int .i64 now] 29)).alloc (.cells #[.slice a2 len2 cap2, .int .i64 now2] 29)) = w0 at HX HZ HB ⊢
    obtain ⟨X, hX⟩ : ∃ X, X = w.heap.size := ⟨_, rfl⟩
    rw [← hX] at HX HZ ⊢
    clear hX
    have t0 : w0.cell? ⟨X, 0, none⟩ = some (.slice a len cap) := HX.out.at0 0 _ rfl
    have t1 : w0.cell? ⟨X, 1, none⟩ = some (.int .i64 now) := HX.out.at0 1 _ rfl
    have s0 : w0.cell? ⟨X + 1, 0, none⟩ = some (.slice a2 len2 cap2) := HZ.out.at0 0 _ rfl
    have s1 : w0.cell? ⟨X + 1, 1, none⟩ = some (.int .i64 now2) := HZ.out.at0 1 _ rfl
    go_wp2_with (go_at_call_of 25 (Value.slice a len cap); refine (HT.out _ HB.out).mono ?_; rintro e w1 ⟨rfl, hb⟩; replace HB : Hid (Below w.heap.size w w1) := Below.on HB.out hb; replace HX : Hid (BoxR w1 X [.slice a len cap, .int .i64 now]) := HX.out.below hb; replace HZ : Hid (BoxR w1 (X + 1) [.slice a2 len2 cap2, .int .i64 now2]) := HZ.out.below hb; clear hb; replace t0 : w1.cell? ⟨X, 0, none⟩ = some (.slice a len cap) := HX.out.at0 0 _ rfl; replace t1 : w1.cell? ⟨X, 1, none⟩ = some (.int .i64 now) := HX.out.at0 1 _ rfl; replace s0 : w1.cell? ⟨X + 1, 0, none⟩ = some (.slice a2 len2 cap2) := HZ.out.at0 0 _ rfl; replace s1 : w1.cell? ⟨X + 1, 1, none⟩ = some (.int .i64 now2) := HZ.out.at0 1 _ rfl)
    go_ret
    exact ⟨ret_boolW HE.out.symm, HB.out⟩
  rw [ht] at HT
  have hlen : len ≤ 12 := by rw [← hll]; exact tree_len ht
  have hone : 1 ≤ len := by rw [← hll]; exact tree_one ht
  cases ht2 : treeB m now2
  · have HE : Hid (smO l now m now2 = false) := (by show _ = _; simp only [smO, ht, ht2, Bool.false_and, Bool.and_false])
    rw [ht2] at HT2
    clear hi hf hi2 hf2
    have HX : Hid (BoxR ((w.alloc (.cells #[.slice a len cap, .int .i64 now] 29)).alloc (.cells #[.slice a2 len2 cap2, .int .i64 now2] 29)) w.heap.size [.slice a len cap, .int .i64 now]) := (boxR_new w [.slice a len cap, .int .i64 now] 29).below (bel_alloc _ _)
    have HZ : Hid (BoxR ((w.alloc (.cells #[.slice a len cap, .int .i64 now] 29)).alloc (.cells #[.slice a2 len2 cap2, .int .i64 now2] 29)) (w.heap.size + 1) [.slice a2 len2 cap2, .int .i64 now2]) := (by
      have h := boxR_new (w.alloc (.cells #[.slice a len cap, .int .i64 now] 29)) [.slice a2 len2 cap2, .int .i64 now2] 29
      simp only [World.size_alloc] at h
      exact h)
    have HB : Hid (Below w.heap.size w ((w.alloc (.cells #[.slice a len cap, .int .i64 now] 29)).alloc (.cells #[.slice a2 len2 cap2, .int .i64 now2] 29))) := bl2T _ _ _
    go_enter Try.func22, Try.ntmps22
    go_upto_region 1 with fail
    generalize ((w.alloc (.cells #[.slice a len cap, .int .i64 now] 29)).alloc (.cells #[.slice a2 len2 cap2, .int .i64 now2] 29)) = w0 at HX HZ HB ⊢
    obtain ⟨X, hX⟩ : ∃ X, X = w.heap.size := ⟨_, rfl⟩
    rw [← hX] at HX HZ ⊢
    clear hX
    have t0 : w0.cell? ⟨X, 0, none⟩ = some (.slice a len cap) := HX.out.at0 0 _ rfl
    have t1 : w0.cell? ⟨X, 1, none⟩ = some (.int .i64 now) := HX.out.at0 1 _ rfl
    have s0 : w0.cell? ⟨X + 1, 0, none⟩ = some (.slice a2 len2 cap2) := HZ.out.at0 0 _ rfl
    have s1 : w0.cell? ⟨X + 1, 1, none⟩ = some (.int .i64 now2) := HZ.out.at0 1 _ rfl
    go_wp2_with (first
      | (go_at_call_of 25 (Value.slice a len cap); refine (HT.out _ HB.out).mono ?_; rintro e w1 ⟨rfl, hb⟩; replace HB : Hid (Below w.heap.size w w1) := Below.on HB.out hb; replace HX : Hid (BoxR w1 X [.slice a len cap, .int .i64 now]) := HX.out.below hb; replace HZ : Hid (BoxR w1 (X + 1) [.slice a2 len2 cap2, .int .i64 now2]) := HZ.out.below hb; clear hb; replace t0 : w1.cell? ⟨X, 0, none⟩ = some (.slice a len cap) := HX.out.at0 0 _ rfl; replace t1 : w1.cell? ⟨X, 1, none⟩ = some (.int .i64 now) := HX.out.at0 1 _ rfl; replace s0 : w1.cell? ⟨X + 1, 0, none⟩ = some (.slice a2 len2 cap2) := HZ.out.at0 0 _ rfl; replace s1 : w1.cell? ⟨X + 1, 1, none⟩ = some (.int .i64 now2) := HZ.out.at0 1 _ rfl)
      | (go_at_call_of 25 (Value.slice a2 len2 cap2); refine (HT2.out _ HB.out).mono ?_; rintro e w1 ⟨rfl, hb⟩; replace HB : Hid (Below w.heap.size w w1) := Below.on HB.out hb; replace HX : Hid (BoxR w1 X [.slice a len cap, .int .i64 now]) := HX.out.below hb; replace HZ : Hid (BoxR w1 (X + 1) [.slice a2 len2 cap2, .int .i64 now2]) := HZ.out.below hb; clear hb; replace t0 : w1.cell? ⟨X, 0, none⟩ = some (.slice a len cap) := HX.out.at0 0 _ rfl; replace t1 : w1.cell? ⟨X, 1, none⟩ = some (.int .i64 now) := HX.out.at0 1 _ rfl; replace s0 : w1.cell? ⟨X + 1, 0, none⟩ = some (.slice a2 len2 cap2) := HZ.out.at0 0 _ rfl; replace s1 : w1.cell? ⟨X + 1, 1, none⟩ = some (.int .i64 now2) := HZ.out.at0 1 _ rfl))
    go_ret
    exact ⟨ret_boolW HE.out.symm, HB.out⟩
  rw [ht2] at HT2
  have hlen2 : len2 ≤ 12 := by rw [← hll2]; exact tree_len ht2
  have hone2 : 1 ≤ len2 := by rw [← hll2]; exact tree_one ht2
  have HE0 : Hid (smO l now m now2 = ndsE l m) := (by show _ = _; simp only [smO, ht, ht2, Bool.true_and])
  have hne : len = len2 ∨ ((len : Int) == (len2 : Int)) = false := by
    by_cases h : len = len2
    · exact .inl h
    · exact .inr (by simp; omega)
  rcases hne with hee | hne
  case inr =>
    have HE : Hid (smO l now m now2 = false) := (by
      show _ = _
      have h3 : (l.length == m.length) = false := by rw [hll, hll2]; simp at hne ⊢; omega
      rw [HE0.out, ndsE, h3]; rfl)
    have hne2 : ((len : Int) != (len2 : Int)) = true := by rw [bne, hne]; rfl
    clear hi hf hi2 hf2 HE0
    have HX : Hid (BoxR ((w.alloc (.cells #[.slice a len cap, .int .i64 now] 29)).alloc (.cells #[.slice a2 len2 cap2, .int .i64 now2] 29)) w.heap.size [.slice a len cap, .int .i64 now]) := (boxR_new w [.slice a len cap, .int .i64 now] 29).below (bel_alloc _ _)
    have HZ : Hid (BoxR ((w.alloc (.cells #[.slice a len cap, .int .i64 now] 29)).alloc (.cells #[.slice a2 len2 cap2, .int .i64 now2] 29)) (w.heap.size + 1) [.slice a2 len2 cap2, .int .i64 now2]) := (by
      have h := boxR_new (w.alloc (.cells #[.slice a len cap, .int .i64 now] 29)) [.slice a2 len2 cap2, .int .i64 now2] 29
      simp only [World.size_alloc] at h
      exact h)
    have HB : Hid (Below w.heap.size w ((w.alloc (.cells #[.slice a len cap, .int .i64 now] 29)).alloc (.cells #[.slice a2 len2 cap2, .int .i64 now2] 29))) := bl2T _ _ _
    go_enter Try.func22, Try.ntmps22
    go_upto_region 1 with fail
    generalize ((w.alloc (.cells #[.slice a len cap, .int .i64 now] 29)).alloc (.cells #[.slice a2 len2 cap2, .int .i64 now2] 29)) = w0 at HX HZ HB ⊢
    obtain ⟨X, hX⟩ : ∃ X, X = w.heap.size := ⟨_, rfl⟩
    rw [← hX] at HX HZ ⊢
    clear hX
    have t0 : w0.cell? ⟨X, 0, none⟩ = some (.slice a len cap) := HX.out.at0 0 _ rfl
    have t1 : w0.cell? ⟨X, 1, none⟩ = some (.int .i64 now) := HX.out.at0 1 _ rfl
    have s0 : w0.cell? ⟨X + 1, 0, none⟩ = some (.slice a2 len2 cap2) := HZ.out.at0 0 _ rfl
    have s1 : w0.cell? ⟨X + 1, 1, none⟩ = some (.int .i64 now2) := HZ.out.at0 1 _ rfl
    go_wp2_with (first
      | (go_at_call_of 25 (Value.slice a len cap); refine (HT.out _ HB.out).mono ?_; rintro e w1 ⟨rfl, hb⟩; replace HB : Hid (Below w.heap.size w w1) := Below.on HB.out hb; replace HX : Hid (BoxR w1 X [.slice a len cap, .int .i64 now]) := HX.out.below hb; replace HZ : Hid (BoxR w1 (X + 1) [.slice a2 len2 cap2, .int .i64 now2]) := HZ.out.below hb; clear hb; replace t0 : w1.cell? ⟨X, 0, none⟩ = some (.slice a len cap) := HX.out.at0 0 _ rfl; replace t1 : w1.cell? ⟨X, 1, none⟩ = some (.int .i64 now) := HX.out.at0 1 _ rfl; replace s0 : w1.cell? ⟨X + 1, 0, none⟩ = some (.slice a2 len2 cap2) := HZ.out.at0 0 _ rfl; replace s1 : w1.cell? ⟨X + 1, 1, none⟩ = some (.int .i64 now2) := HZ.out.at0 1 _ rfl)
      | (go_at_call_of 25 (Value.slice a2 len2 cap2); refine (HT2.out _ HB.out).mono ?_; rintro e w1 ⟨rfl, hb⟩; replace HB : Hid (Below w.heap.size w w1) := Below.on HB.out hb; replace HX : Hid (BoxR w1 X [.slice a len cap, .int .i64 now]) := HX.out.below hb; replace HZ : Hid (BoxR w1 (X + 1) [.slice a2 len2 cap2, .int .i64 now2]) := HZ.out.below hb; clear hb; replace t0 : w1.cell? ⟨X, 0, none⟩ = some (.slice a len cap) := HX.out.at0 0 _ rfl; replace t1 : w1.cell? ⟨X, 1, none⟩ = some (.int .i64 now) := HX.out.at0 1 _ rfl; replace s0 : w1.cell? ⟨X + 1, 0, none⟩ = some (.slice a2 len2 cap2) := HZ.out.at0 0 _ rfl; replace s1 : w1.cell? ⟨X + 1, 1, none⟩ = some (.int .i64 now2) := HZ.out.at0 1 _ rfl))
    go_ret
    exact ⟨ret_boolW HE.out.symm, HB.out⟩
  subst hee
  have HE : Hid (ndsE l m = ndsT l m len) := (by show _ = _; simp [ndsE, hll, hll2])
  obtain ⟨b, off, Y, rfl, hb0, hc⟩ := hi.2 (by omega)
  obtain ⟨b2, off2, Y2, rfl, hb02, hc2⟩ := hi2.2 (by omega)
  have HC1 : Hid (∀ i, i < len → N24 w b (off + i * 24) (ndAt l i) (Y i) ∧ NdIn w (ndAt l i) (Y i)) := hc
  have HC2 : Hid (∀ i, i < len → N24 w b2 (off2 + i * 24) (ndAt m i) (Y2 i) ∧ NdIn w (ndAt m i) (Y2 i)) := hc2
  have HF : Hid (∀ i, i < len → NdFit 1048576 (ndAt l i)) := hf
  have HF2 : Hid (∀ i, i < len → NdFit 1048576 (ndAt m i)) := hf2
  clear hi hi2 hf hf2 hc hc2 hll hll2 hone2 hlen2
  have HX : Hid (BoxR ((w.alloc (.cells #[.slice (some ⟨b, off, none⟩) len cap, .int .i64 now] 29)).alloc (.cells #[.slice (some ⟨b2, off2, none⟩) len cap2, .int .i64 now2] 29)) w.heap.size [.slice (some ⟨b, off, none⟩) len cap, .int .i64 now]) := (boxR_new w [.slice (some ⟨b, off, none⟩) len cap, .int .i64 now] 29).below (bel_alloc _ _)
  have HZ : Hid (BoxR ((w.alloc (.cells #[.slice (some ⟨b, off, none⟩) len cap, .int .i64 now] 29)).alloc (.cells #[.slice (some ⟨b2, off2, none⟩) len cap2, .int .i64 now2] 29)) (w.heap.size + 1) [.slice (some ⟨b2, off2, none⟩) len cap2, .int .i64 now2]) := (by
    have h := boxR_new (w.alloc (.cells #[.slice (some ⟨b, off, none⟩) len cap, .int .i64 now] 29)) [.slice (some ⟨b2, off2, none⟩) len cap2, .int .i64 now2] 29
    simp only [World.size_alloc] at h
    exact h)
  have HB : Hid (Below w.heap.size w ((w.alloc (.cells #[.slice (some ⟨b, off, none⟩) len cap, .int .i64 now] 29)).alloc (.cells #[.slice (some ⟨b2, off2, none⟩) len cap2, .int .i64 now2] 29))) := bl2T _ _ _
  go_enter Try.func22, Try.ntmps22
  go_upto_region 1 with fail
  generalize ((w.alloc (.cells #[.slice (some ⟨b, off, none⟩) len cap, .int .i64 now] 29)).alloc (.cells #[.slice (some ⟨b2, off2, none⟩) len cap2, .int .i64 now2] 29)) = w0 at HX HZ HB ⊢
  obtain ⟨X, hX⟩ : ∃ X, X = w.heap.size := ⟨_, rfl⟩
  rw [← hX] at HX HZ ⊢
  clear hX
  have t0 : w0.cell? ⟨X, 0, none⟩ = some (.slice (some ⟨b, off, none⟩) len cap) := HX.out.at0 0 _ rfl
  have t1 : w0.cell? ⟨X, 1, none⟩ = some (.int .i64 now) := HX.out.at0 1 _ rfl
  have s0 : w0.cell? ⟨X + 1, 0, none⟩ = some (.slice (some ⟨b2, off2, none⟩) len cap2) := HZ.out.at0 0 _ rfl
  have s1 : w0.cell? ⟨X + 1, 1, none⟩ = some (.int .i64 now2) := HZ.out.at0 1 _ rfl
  go_wp2_with (first
    | (go_at_call_of 25 (Value.slice (some ⟨b, off, none⟩) len cap); refine (HT.out _ HB.out).mono ?_; rintro e w1 ⟨rfl, hb⟩; replace HB : Hid (Below w.heap.size w w1) := Below.on HB.out hb; replace HX : Hid (BoxR w1 X [.slice (some ⟨b, off, none⟩) len cap, .int .i64 now]) := HX.out.below hb; replace HZ : Hid (BoxR w1 (X + 1) [.slice (some ⟨b2, off2, none⟩) len cap2, .int .i64 now2]) := HZ.out.below hb; clear hb; replace t0 : w1.cell? ⟨X, 0, none⟩ = some (.slice (some ⟨b, off, none⟩) len cap) := HX.out.at0 0 _ rfl; replace t1 : w1.cell? ⟨X, 1, none⟩ = some (.int .i64 now) := HX.out.at0 1 _ rfl; replace s0 : w1.cell? ⟨X + 1, 0, none⟩ = some (.slice (some ⟨b2, off2, none⟩) len cap2) := HZ.out.at0 0 _ rfl; replace s1 : w1.cell? ⟨X + 1, 1, none⟩ = some (.int .i64 now2) := HZ.out.at0 1 _ rfl)
    | (go_at_call_of 25 (Value.slice (some ⟨b2, off2, none⟩) len cap2); refine (HT2.out _ HB.out).mono ?_; rintro e w1 ⟨rfl, hb⟩; replace HB : Hid (Below w.heap.size w w1) := Below.on HB.out hb; replace HX : Hid (BoxR w1 X [.slice (some ⟨b, off, none⟩) len cap, .int .i64 now]) := HX.out.below hb; replace HZ : Hid (BoxR w1 (X + 1) [.slice (some ⟨b2, off2, none⟩) len cap2, .int .i64 now2]) := HZ.out.below hb; clear hb; replace t0 : w1.cell? ⟨X, 0, none⟩ = some (.slice (some ⟨b, off, none⟩) len cap) := HX.out.at0 0 _ rfl; replace t1 : w1.cell? ⟨X, 1, none⟩ = some (.int .i64 now) := HX.out.at0 1 _ rfl; replace s0 : w1.cell? ⟨X + 1, 0, none⟩ = some (.slice (some ⟨b2, off2, none⟩) len cap2) := HZ.out.at0 0 _ rfl; replace s1 : w1.cell? ⟨X + 1, 1, none⟩ = some (.int .i64 now2) := HZ.out.at0 1 _ rfl))
  clear t0 t1 s0 s1
  go_loopw [5] (fun i wr => ∃ (k : Nat), k ≤ len ∧ i = .int .i64 k ∧ Hid (ndsT l m k = true) ∧ Hid (Below w.heap.size w wr) ∧ Hid (BoxR wr X [.slice (some ⟨b, off, none⟩) len cap, .int .i64 now]) ∧ Hid (BoxR wr (X + 1) [.slice (some ⟨b2, off2, none⟩) len cap2, .int .i64 now2])) (fun i _ => len - (intOf i).toNat)
  case atStart => exact ⟨0, Nat.zero_le _, rfl, rfl, HB, HX, HZ⟩
  case round =>
    obtain ⟨k, hk, rfl, hT, hB, hX, hZ⟩ := hrel
    have p0 : wr.cell? ⟨X, 0, none⟩ = some (.slice (some ⟨b, off, none⟩) len cap) := hX.out.at0 0 _ rfl
    by_cases hlt : k < len
    · have HY : Hid ((ndAt l k).sm (ndAt m k) = true → ndsT l m (k + 1) = true) := (fun e => by simp only [ndsT, hT.out, e, Bool.and_self])
      have HNo : Hid ((ndAt l k).sm (ndAt m k) = false → smO l now m now2 = false) := (fun e => by rw [HE0.out, HE.out]; exact ndsT_false hlt e)
      have F1 : wr.rangeAt b (off + k * 24) (ndV (ndAt l k) (Y k)) := range_below (HC1.out k hlt).1 hb0 hB.out
      have F2 : wr.rangeAt b2 (off2 + k * 24) (ndV (ndAt m k) (Y2 k)) := range_below (HC2.out k hlt).1 hb02 hB.out
      have HC : Hid (∀ w', Below wr.heap.size wr w' → Calls Try.prog 50 #[.agg (ndV (ndAt l k) (Y k)).toArray, .agg (ndV (ndAt m k) (Y2 k)).toArray] w' fun e w'' => e = .returned (.bool ((ndAt l k).sm (ndAt m k))) ∧ Below w'.heap.size w' w'') := (fun w' hw => sSameNd_any _ _ _ _ (HF.out k hlt) (HF2.out k hlt) w' (((HC1.out k hlt).2.below hB.out).below hw) (((HC2.out k hlt).2.below hB.out).below hw))
      obtain ⟨cs1, hcs1⟩ : ∃ cs1, cs1 = ndV (ndAt l k) (Y k) := ⟨_, rfl⟩
      obtain ⟨cs2, hcs2⟩ : ∃ cs2, cs2 = ndV (ndAt m k) (Y2 k) := ⟨_, rfl⟩
      have hi1 : (Try.prog.info? 51).map (·.size) = some cs1.length := by rw [hcs1]; kernel_rfl
      have hi2 : (Try.prog.info? 51).map (·.size) = some cs2.length := by rw [hcs2]; kernel_rfl
      rw [← hcs1] at F1 HC
      rw [← hcs2] at F2 HC
      clear hcs1 hcs2 HC1 HC2 HF HF2 HE0 HE hT
      generalize (ndAt l k).sm (ndAt m k) = bz at HY HNo HC
      have hu := Try.underlying51
      have hlt' : (k : Int) < (len : Int) := by omega
      have h0' : (0 : Int) ≤ (k : Int) := by omega
      have R1 := range_regrown F1
      have R2 := range_regrown F2
      have u0 : ∀ d os, (Go.Sort.grow (redrawn wr d) os).cell? ⟨X, 0, none⟩ = some (.slice (some ⟨b, off, none⟩) len cap) := fun d os => cell_regrown (hX.out.at0 0 _ rfl) d os
      have u1 : ∀ d os, (Go.Sort.grow (redrawn wr d) os).cell? ⟨X + 1, 0, none⟩ = some (.slice (some ⟨b2, off2, none⟩) len cap2) := fun d os => cell_regrown (hZ.out.at0 0 _ rfl) d os
      have cA : ∀ d os, Calls Try.prog 50 #[.agg cs1.toArray, .agg cs2.toArray] (Go.Sort.grow (redrawn wr d) os) fun e w'' => e = .returned (.bool bz) ∧ ∃ p : Regrown, w'' = Go.Sort.grow (redrawn wr p.d) p.os := fun d os => Calls.regrown_of (HC.out _ (below_regrown wr d os))
      clear F1 F2 HC
      go_upto_region 6 with fail
      refine wp_region_quiet_below (by kernel_rfl) (by kernel_rfl) ?_
      repeat (first
        | go_big_quiet_skip
        | (go_big_quiet_want; refine quiet_load_mid 51 _ rfl _ _ (by rfl) _ _ R1 hu rfl hi1 ?_; simp only [Act.put, List.setIfInBounds_toArray, List.set_cons_zero, List.set_cons_succ]; go_big_quiet_on)
        | (go_big_quiet_want; refine quiet_load_mid 51 _ rfl _ _ (by rfl) _ _ R2 hu rfl hi2 ?_; simp only [Act.put, List.setIfInBounds_toArray, List.set_cons_zero, List.set_cons_succ]; go_big_quiet_on)
        | (go_big_quiet_want; go_big_quiet_op; first | go_big_quiet_on | go_big_quiet_call (exact cA _ _)))
      refine wpQuiet_nil ?_
      intro _ hw'
      obtain ⟨⟨dq, osq⟩, hw''⟩ := hw'
      subst hw''
      have hbq := below_regrown wr dq osq
      have HB2 : Hid (Below w.heap.size w (Go.Sort.grow (redrawn wr dq) osq)) := Below.on hB.out hbq
      have HX2 : Hid (BoxR (Go.Sort.grow (redrawn wr dq) osq) X [.slice (some ⟨b, off, none⟩) len cap, .int .i64 now]) := hX.out.below hbq
      have HZ2 : Hid (BoxR (Go.Sort.grow (redrawn wr dq) osq) (X + 1) [.slice (some ⟨b2, off2, none⟩) len cap2, .int .i64 now2]) := hZ.out.below hbq
      clear hbq
      generalize Go.Sort.grow (redrawn wr dq) osq = w1 at HB2 HX2 HZ2 ⊢
      clear R1 R2 cA hi1 hi2 hu hB u0 u1 p0 hX hZ
      cases bz
      · have hno : Hid (smO l now m now2 = false) := HNo.out rfl
        clear HY HNo
        go_wp2
        go_ret
        exact ⟨ret_boolW hno.out.symm, HB2.out⟩
      · have hyes : Hid (ndsT l m (k + 1) = true) := HY.out rfl
        clear HY HNo
        go_wp2
        go_roundw
        case rel => exact ⟨k + 1, by omega, by go_num, hyes, HB2, HX2, HZ2⟩
        case measure => simp [intOf]; omega
    · have : k = len := by omega
      subst this
      have hyes : Hid (smO l now m now2 = true) := (by show _ = _; rw [HE0.out, HE.out]; exact hT.out)
      go_wp2
      go_ret
      exact ⟨ret_boolW hyes.out.symm, hB.out⟩
end Go.Proofs.Ytcgkkeooigjbbaa
