/- Laid together: HoldM. -/
import Derived.Test.YtdidbaadladkpaaDoorNm28
/- The iterator of impl.holding at the test impl.ofKinds$1. -/
namespace Go.Proofs.YtdidbaadladkpaaDoor
open Go.RowKit Go.PlainAid Go.Shelf
set_option linter.unusedVariables false
attribute [local go_sem] Oper.semAt_some
set_option maxRecDepth 100000 in
set_option maxHeartbeats 4000000 in
theorem holdM_in (n : Nat) (hn : 1 ≤ n) (lp Bl Bf n₀ lo hi b off len cap : Nat) (C : Nat) (l : List Ac) (p : Ac → Bool) (hlen : l.length = len) (hl : len ≤ 1000) (hb : b < n₀) (hf0 : lo ≤ Bf) (hf1 : Bf < hi) (hfl : ∀ i, i < len → 0 ≤ (acAt l i).fl ∧ (acAt l i).fl ≤ 15) (J Jx : List Ac → World → Prop)
    (W : World) (hJ : AbidesFrom W.heap.size J) (hn0 : n₀ ≤ W.heap.size) (hn1 : hi ≤ W.heap.size)
    (hP : ∀ x W', KpC n₀ lo hi W W' → Calls Tryd.prog 90 #[.agg #[.bool x.al, .int .i64 x.wh, .int .i64 x.id, .int .i64 x.fl, .int .i64 x.ma], .pointer (some ⟨C, 0, none⟩)] W' fun e W'' => e = .returned (.bool (p x)) ∧ Below W'.heap.size W' W'')
    (hY : ∀ pre x W1, J pre W1 → pre.length < len → YieldAt Fence.wide (n - 1) Tryd.prog lp #[.agg #[.bool x.al, .int .i64 x.wh, .int .i64 x.id, .int .i64 x.fl, .int .i64 x.ma]] W1 fun e W' =>
      (e = .returned (.bool true) ∧ J (pre ++ [x]) W' ∧ KpC n₀ lo hi W1 W') ∨ (e = .returned (.bool false) ∧ Jx (pre ++ [x]) W'))
    (hBl : W.cell? ⟨Bl, 0, none⟩ = some (.slice (some ⟨b, off, none⟩) len cap)) (hBf : W.cell? ⟨Bf, 0, none⟩ = some (.func (.func 90) #[] #[.pointer (some ⟨C, 0, none⟩)])) (hc : ∀ i, i < len → Five W b (off + i * 5) (acAt l i)) (h0 : J [] W) :
    CallsIn Fence.wide n Tryd.prog 99 #[.func (.yield lp) #[] #[], .pointer (some ⟨Bl, 0, none⟩), .pointer (some ⟨Bf, 0, none⟩)] W fun e W' => (∃ v, e = .returned v) ∧
      ((∃ ys, ys = fltP p l len ∧ J ys W') ∨ (∃ pre, True ∧ Jx pre W')) := by
  have HC : Hid (∀ i, i < len → Five W b (off + i * 5) (acAt l i)) := hc
  have HF : Hid (∀ i, i < len → 0 ≤ (acAt l i).fl ∧ (acAt l i).fl ≤ 15) := hfl
  have HJ : Hid (∀ s A B, J s A → Below A.heap.size A B → J s B) := (fun s A B hs hg => hJ s A B none hs (grown_of_below hg) (fun r e => by cases e))
  have HP : Hid (∀ x W', KpC n₀ lo hi W W' → Calls Tryd.prog 90 #[.agg #[.bool x.al, .int .i64 x.wh, .int .i64 x.id, .int .i64 x.fl, .int .i64 x.ma], .pointer (some ⟨C, 0, none⟩)] W' fun e W'' => e = .returned (.bool (p x)) ∧ Below W'.heap.size W' W'') := hP
  have HY : Hid (∀ pre x W1, J pre W1 → pre.length < len → YieldAt Fence.wide (n - 1) Tryd.prog lp #[.agg #[.bool x.al, .int .i64 x.wh, .int .i64 x.id, .int .i64 x.fl, .int .i64 x.ma]] W1 fun e W' =>
      (e = .returned (.bool true) ∧ J (pre ++ [x]) W' ∧ KpC n₀ lo hi W1 W') ∨ (e = .returned (.bool false) ∧ Jx (pre ++ [x]) W')) := hY
  clear hc hfl hJ hP hY
  refine callsIn_of_wp Tryd.func99 rfl trivial ?_ rfl
  simp only [Tryd.ntmps99, List.size_toArray, List.length_cons, List.length_nil, Nat.reduceAdd, Nat.reduceSub, Array.replicate_succ, Array.replicate_zero, List.push_toArray, List.append_toArray, List.nil_append, List.cons_append]
  gi_wp2
  gi_loopw [8] (fun i wr => ∃ k : Nat, k ≤ len ∧ i = .int .i64 k ∧ Hid (J (fltP p l k) wr) ∧ Hid (KpC n₀ lo hi W wr) ∧ Hid (n₀ ≤ wr.heap.size ∧ hi ≤ wr.heap.size) ∧ wr.cell? ⟨Bf, 0, none⟩ = some (.func (.func 90) #[] #[.pointer (some ⟨C, 0, none⟩)]))
    (fun i _ => len - (intOf i).toNat)
  case atStart => exact ⟨0, Nat.zero_le _, rfl, h0, kpC_refl _ _ _ _, ⟨hn0, hn1⟩, hBf⟩
  case round =>
    obtain ⟨k, hk, rfl, hJs, hB, hz, hfv⟩ := hrel
    by_cases hlt : k < len
    · have hlt' : (k : Int) < (len : Int) := by omega
      obtain ⟨g0, g1, g2, g3, g4⟩ := (HC.out k hlt).keep (fun j => hB.out.1.cell (p := ⟨b, j, none⟩) hb)
      obtain ⟨f0, f1⟩ := HF.out k hlt
      have HN : Hid ((hldB (acAt l k) && p (acAt l k)) = false → ∀ W', J (fltP p l k) W' → J (fltP p l (k + 1)) W') := (fun h W' h2 => by rw [fltP_no h]; exact h2)
      have HYS : Hid ((hldB (acAt l k) && p (acAt l k)) = true → ∀ W', J (fltP p l k ++ [acAt l k]) W' → J (fltP p l (k + 1)) W') := (fun h W' h2 => by rw [fltP_yes h]; exact h2)
      have HLE : Hid ((fltP p l k).length < len) := Nat.lt_of_le_of_lt (fltP_len p l k) hlt
      have hfl := block_lt_of_cell hfv
      generalize acAt l k = x at g0 g1 g2 g3 g4 f0 f1 HN HYS
      have hbA := bel_alloc wr (.cells #[.bool x.al, .int .i64 x.wh, .int .i64 x.id, .int .i64 x.fl, .int .i64 x.ma] 33)
      have hF := five_new wr x 33
      gi_wp2_with fail
      refine ⟨trivial, (callsIn_wide.2 (holds_any x f0 f1 _)).mono ?_⟩
      rintro e w1 ⟨rfl, hb1⟩
      have hb01 := Below.on hbA hb1
      have hF1 := hF.below (by simp) hb1
      have hsz1 : wr.heap.size < w1.heap.size := by have := hb1.size; simp at this; omega
      have hfv1 : w1.cell? ⟨Bf, 0, none⟩ = some (.func (.func 90) #[] #[.pointer (some ⟨C, 0, none⟩)]) := (hb01.cell (p := ⟨Bf, 0, none⟩) hfl).trans hfv
      have hJ1 : Hid (J (fltP p l k) w1) := HJ.out _ _ _ hJs.out hb01
      have hB1 : Hid (KpC n₀ lo hi W w1) := kpC_t hB.out (kpC_grow hb01 hz.out.1 hz.out.2)
      have hz1 : Hid (n₀ ≤ w1.heap.size ∧ hi ≤ w1.heap.size) := ⟨Nat.le_trans hz.out.1 hb01.size, Nat.le_trans hz.out.2 hb01.size⟩
      clear hb1 hbA hF g0 g1 g2 g3 g4 hJs hB hb01 hfv
      obtain ⟨c0, c1, c2, c3, c4⟩ := hF1
      simp only [Nat.zero_add] at c1 c2 c3 c4
      cases hh : hldB x
      · have hJ2 : Hid (J (fltP p l (k + 1)) w1) := HN.out (by rw [hh]; rfl) _ hJ1.out
        clear HN HYS HLE hJ1
        gi_wp2
        refine ⟨fun _ h => (by cases h), ?_⟩
        gi_wp2
        go_roundw
        case rel => exact ⟨k + 1, by omega, by go_num, hJ2, hB1, hz1, hfv1⟩
        case measure => simp [intOf]; omega
      · gi_wp2_with fail
        refine ⟨trivial, (callsIn_wide.2 (HP.out x _ hB1.out)).mono ?_⟩
        rintro e w2 ⟨rfl, hb2⟩
        obtain ⟨c0, c1, c2, c3, c4⟩ := (Five.mk (o := 0) c0 (by simpa using c1) (by simpa using c2) (by simpa using c3) (by simpa using c4) : Five w1 wr.heap.size 0 x).below hsz1 hb2
        simp only [Nat.zero_add] at c1 c2 c3 c4
        have hfl1 := block_lt_of_cell hfv1
        have hfv2 : w2.cell? ⟨Bf, 0, none⟩ = some (.func (.func 90) #[] #[.pointer (some ⟨C, 0, none⟩)]) := (hb2.cell (p := ⟨Bf, 0, none⟩) hfl1).trans hfv1
        have hJ2 : Hid (J (fltP p l k) w2) := HJ.out _ _ _ hJ1.out hb2
        have hB2 : Hid (KpC n₀ lo hi W w2) := kpC_t hB1.out (kpC_grow hb2 hz1.out.1 hz1.out.2)
        have hz2 : Hid (n₀ ≤ w2.heap.size ∧ hi ≤ w2.heap.size) := ⟨Nat.le_trans hz1.out.1 hb2.size, Nat.le_trans hz1.out.2 hb2.size⟩
        clear hb2 hJ1 hB1 hz1 hfv1 hfl1 hfl
        cases hp : p x
        · have hJ3 : Hid (J (fltP p l (k + 1)) w2) := HN.out (by rw [hh, hp]; rfl) _ hJ2.out
          clear HN HYS HLE hJ2
          gi_wp2
          refine ⟨fun _ h => (by cases h), ?_⟩
          gi_wp2
          go_roundw
          case rel => exact ⟨k + 1, by omega, by go_num, hJ3, hB2, hz2, hfv2⟩
          case measure => simp [intOf]; omega
        · obtain ⟨fn, tmps, assign, body, hy, hR⟩ := HY.out _ x w2 hJ2.out HLE.out
          have HR : Hid (RoundIn Fence.wide (n - 1) Tryd.prog lp fn tmps assign body w2 fun e W' => (e = .returned (.bool true) ∧ J (fltP p l k ++ [x]) W' ∧ KpC n₀ lo hi w2 W') ∨ (e = .returned (.bool false) ∧ Jx (fltP p l k ++ [x]) W')) := hR
          have HYT : Hid (∀ W', J (fltP p l k ++ [x]) W' → J (fltP p l (k + 1)) W') := HYS.out (by rw [hh, hp]; rfl)
          clear HN HYS HLE hJ2 hR
          gi_wp2
          refine HR.out.mono ?_
          rintro e W3 (⟨rfl, hJ3, hk3⟩ | ⟨rfl, hJx3⟩)
          · have hJ4 : Hid (J (fltP p l (k + 1)) W3) := HYT.out _ hJ3
            have hB3 : Hid (KpC n₀ lo hi W W3) := kpC_t hB2.out hk3
            have hz3 : Hid (n₀ ≤ W3.heap.size ∧ hi ≤ W3.heap.size) := ⟨Nat.le_trans hz2.out.1 hk3.1.size, Nat.le_trans hz2.out.2 hk3.1.size⟩
            have hfv3 := hk3.2 _ _ _ hf0 hf1 hfv2
            clear hJ3 hk3 hy HR HYT
            gi_wp2
            go_roundw
            case rel => exact ⟨k + 1, by omega, by go_num, hJ4, hB3, hz3, hfv3⟩
            case measure => simp [intOf]; omega
          · have HX : Hid (Jx (fltP p l k ++ [x]) W3) := hJx3
            clear hJx3 hy HR HYT
            gi_wp2
            refine bodyPost_ret (results_none rfl _ _ _) rfl ?_
            exact ⟨⟨_, rfl⟩, .inr ⟨_, trivial, HX.out⟩⟩
    · have : k = len := by omega
      subst this
      gi_wp2
      go_end0
      exact ⟨⟨_, rfl⟩, .inl ⟨_, rfl, hJs.out⟩⟩
set_option maxRecDepth 100000 in
set_option maxHeartbeats 2000000 in
theorem holdM_none (n : Nat) (lp Bl Bf : Nat) (a : Option Addr) (cap : Nat) (J : List Ac → World → Prop) (W : World) (hBl : W.cell? ⟨Bl, 0, none⟩ = some (.slice a 0 cap)) (h0 : J [] W) :
    CallsIn Fence.wide n Tryd.prog 99 #[.func (.yield lp) #[] #[], .pointer (some ⟨Bl, 0, none⟩), .pointer (some ⟨Bf, 0, none⟩)] W fun e W' => (∃ v, e = .returned v) ∧ J [] W' := by
  refine callsIn_of_wp Tryd.func99 rfl trivial ?_ rfl
  simp only [Tryd.ntmps99, List.size_toArray, List.length_cons, List.length_nil, Nat.reduceAdd, Nat.reduceSub, Array.replicate_succ, Array.replicate_zero, List.push_toArray, List.append_toArray, List.nil_append, List.cons_append]
  gi_wp2
  gi_loopw [8] (fun i wr => i = .int .i64 0 ∧ J [] wr) (fun _ _ => 0)
  case atStart => exact ⟨rfl, h0⟩
  case round =>
    obtain ⟨rfl, hJs⟩ := hrel
    gi_wp2
    go_end0
    exact ⟨⟨_, rfl⟩, hJs⟩
/-- The iterator's contract. -/
theorem holdM_stops (n : Nat) (hn : 1 ≤ n) (Bl Bf n₀ lo hi : Nat) (C : Nat) (a : Option Addr) (len cap : Nat) (l : List Ac) (p : Ac → Bool) (hl : len ≤ 1000) (w : World) (hA : Acs a len l w) (hA0 : 0 < len → ∀ A, a = some A → A.block < n₀) (hf0 : lo ≤ Bf) (hf1 : Bf < hi) (hfl : ∀ i, i < len → 0 ≤ (acAt l i).fl ∧ (acAt l i).fl ≤ 15) (hn0 : n₀ ≤ w.heap.size) (hn1 : hi ≤ w.heap.size)
    (hP : ∀ x W', KpC n₀ lo hi w W' → Calls Tryd.prog 90 #[.agg #[.bool x.al, .int .i64 x.wh, .int .i64 x.id, .int .i64 x.fl, .int .i64 x.ma], .pointer (some ⟨C, 0, none⟩)] W' fun e W'' => e = .returned (.bool (p x)) ∧ Below W'.heap.size W' W'')
    (hBl : w.cell? ⟨Bl, 0, none⟩ = some (.slice a len cap)) (hBf : w.cell? ⟨Bf, 0, none⟩ = some (.func (.func 90) #[] #[.pointer (some ⟨C, 0, none⟩)])) :
    SeqStopsK Fence.wide n Tryd.prog 99 #[.pointer (some ⟨Bl, 0, none⟩), .pointer (some ⟨Bf, 0, none⟩)] (fun x : Ac => #[Value.agg #[.bool x.al, .int .i64 x.wh, .int .i64 x.id, .int .i64 x.fl, .int .i64 x.ma]]) (KpC n₀ lo hi) (fun ys => ys = fltP p l len) (fun _ => True) len w := fun lp J Jx W hW hJ hJx hY h0 => by
  have hBl' := (hW.cell (p := ⟨Bl, 0, none⟩) (block_lt_of_cell hBl)).trans hBl
  have hBf' := (hW.cell (p := ⟨Bf, 0, none⟩) (block_lt_of_cell hBf)).trans hBf
  have hA' := hA.below hW
  by_cases hz : len = 0
  · subst hz
    exact (holdM_none n lp Bl Bf a cap J W hBl' h0).mono fun e W' ⟨he, hj⟩ => ⟨he, .inl ⟨_, rfl, hj⟩⟩
  · obtain ⟨b, off, rfl, hlt, hc⟩ := hA'.2 (by omega)
    exact holdM_in n hn lp Bl Bf n₀ lo hi b off len cap C l p hA.1 hl (hA0 (by omega) _ rfl) hf0 hf1 hfl J Jx W hJ (Nat.le_trans hn0 hW.size) (Nat.le_trans hn1 hW.size) (fun x W' hK => hP x W' (kpC_t (kpC_grow hW hn0 hn1) hK)) hY hBl' hBf' hc h0
end Go.Proofs.YtdidbaadladkpaaDoor
