/- Laid together: TreeSzW, MkNd. -/
import Derived.Test.YtgodbelcddgdmaaGreatNF28
import Derived.Test.YtgodbelcddgdmaaGreatNF20
/- laws.szEntryS, szNode, szNodeS, szTree: what the lists and the nodes come to together. -/
namespace Go.Proofs.YtgodbelcddgdmaaGreat
open Go.RowKit Go.PlainAid
set_option linter.unusedVariables false
/-- The lists of a node, together. -/
def wtN (x : Nd) : Nat := x.A.us.length + x.A.gs.length + x.D.us.length + x.D.gs.length + x.ns.length
def wtS (l : List Nd) : Nat → Nat | 0 => 0 | i + 1 => wtS l i + wtN (ndAt l i)
theorem kAt_wt (k : Nat) (l : List Nd) : ∀ n, kAt k (ndAt l) n = k + 19 * n + 2 * wtS l n
  | 0 => rfl
  | n + 1 => by rw [kAt, kAt_wt k l n, wtS]; unfold cntMk wtN; omega
set_option maxHeartbeats 2000000 in
theorem szEntryW_any (a : Option Addr) (len cap : Nat) (l : List (ByteArray × Int)) (left : Int) (h0 : 0 ≤ left) (h1 : left ≤ 1048576) (hm : len ≤ 9223372036854775807) (hf : ∀ i, i < len → (nmAt l i).size ≤ 9223372036854775807) (w : World) (hi : Ens a len l w) :
    Calls Tryz.prog 49 #[.slice a len cap, .int .i64 left] w fun e w' => (∃ v : Int, e = .returned (.int .i64 v) ∧ (v = -1 ∨ (0 ≤ v ∧ v + (len : Int) ≤ left ∧ len ≤ 1048576 ∧ ∀ i, i < len → (nmAt l i).size ≤ 1048576))) ∧ Below w.heap.size w w' := by
  by_cases hl : left < (len : Int)
  · have d1 : left - (len : Int) < 0 := by omega
    go_enter Tryz.func49, Tryz.ntmps49
    go_wp2
    go_ret
    exact ⟨⟨-1, rfl, .inl rfl⟩, Below.refl _ _⟩
  · have d1 : decide (left - (len : Int) < 0) = false := by simp; omega
    have HI : Hid (Ens a len l w) := hi
    have HF : Hid (∀ i, i < len → (nmAt l i).size ≤ 9223372036854775807) := hf
    clear hi hf
    go_enter Tryz.func49, Tryz.ntmps49
    go_wp2
    go_loopw [5, 1] (fun i q wr => ∃ (k : Nat) (v : Int), k ≤ len ∧ i = .int .i64 k ∧ q = .int .i64 v ∧ 0 ≤ v ∧ v + (len : Int) ≤ left ∧ Hid (∀ i, i < k → (nmAt l i).size ≤ 1048576) ∧ Hid (Below w.heap.size w wr)) (fun i _ _ => len - (intOf i).toNat)
    case atStart => exact ⟨0, _, Nat.zero_le _, rfl, rfl, by omega, by omega, fun i hi => absurd hi (by omega), Below.refl _ _⟩
    case round =>
      obtain ⟨k, v, hk, rfl, rfl, hv0, hv1, hg, hB⟩ := hrel
      by_cases hlt : k < len
      · obtain ⟨b, off, rfl, hb, hc⟩ := HI.out.2 (by omega)
        have hlt' : (k : Int) < (len : Int) := by omega
        have g0 : wr.cell? ⟨b, off + k * 2, none⟩ = some (.string (nmAt l k)) := (hB.out.cell (p := ⟨b, off + k * 2, none⟩) hb).trans (hc k hlt).1
        have g1 : wr.cell? ⟨b, off + k * 2 + 1, none⟩ = some (.int .i64 (noAt l k)) := (hB.out.cell (p := ⟨b, off + k * 2 + 1, none⟩) hb).trans (hc k hlt).2
        have hs := HF.out k hlt
        clear hc HI d1
        go_wp2_with fail
        refine (szEntry_any _ _ _ hv0 (by omega) hs _).mono ?_
        rintro e w1 ⟨rfl, hb1⟩
        have hB1 : Hid (Below w.heap.size w w1) := Below.on hB.out hb1
        clear hb1 hB g0 g1
        by_cases hs2 : v < ((nmAt l k).size : Int)
        · rw [if_pos hs2]
          go_wp2
          go_ret
          exact ⟨⟨-1, rfl, .inl rfl⟩, hB1.out⟩
        · rw [if_neg hs2]
          have d2 : decide (v - ((nmAt l k).size : Int) < 0) = false := by simp; omega
          have hg2 : Hid (∀ i, i < k + 1 → (nmAt l i).size ≤ 1048576) := (fun i hi => by
            by_cases e : i = k
            · rw [e]; omega
            · exact hg.out i (by omega))
          go_wp2
          go_roundw
          case rel => exact ⟨k + 1, _, by omega, by go_num, rfl, by omega, by omega, hg2, hB1⟩
          case measure => simp [intOf]; omega
      · have : k = len := by omega
        subst this
        go_wp2
        go_ret
        exact ⟨⟨v, rfl, .inr ⟨hv0, hv1, by omega, hg.out⟩⟩, hB.out⟩
theorem szB_casesW {left : Int} {lu lg : Nat} (h0 : 0 ≤ left) (h1 : left ≤ 1048576) : szB left lu lg = -1 ∨ (0 ≤ szB left lu lg ∧ szB left lu lg + lu + lg ≤ left ∧ lu ≤ 1048576 ∧ lg ≤ 1048576) := by
  unfold szB
  by_cases hl : left < (lu : Int)
  · rw [if_pos hl]; exact .inl rfl
  · rw [if_neg hl]
    by_cases hl2 : left - (lu : Int) < (lg : Int)
    · rw [if_pos hl2]; exact .inl rfl
    · rw [if_neg hl2]; right; omega
set_option maxHeartbeats 4000000 in
theorem szNodeW_any (x : Nd) (y : Na) (left : Int) (h0 : 0 ≤ left) (h1 : left ≤ 1048576) (hf : NdFit 9223372036854775807 x) (w : World) (hi : NdIn w x y) :
    Calls Tryz.prog 29 #[.agg (ndV x y).toArray, .int .i64 left] w fun e w' => (∃ v : Int, e = .returned (.int .i64 v) ∧ (v = -1 ∨ (0 ≤ v ∧ v + (wtN x : Int) ≤ left ∧ NdFit 1048576 x))) ∧ Below w.heap.size w w' := by
  have HF : Hid (NdFit 9223372036854775807 x) := hf
  have HB : Hid (Below w.heap.size w (w.alloc (.cells (ndV x y).toArray 59))) := bel_alloc _ _
  have HX : Hid (BoxR (w.alloc (.cells (ndV x y).toArray 59)) w.heap.size (ndV x y)) := boxR_new _ _ _
  have HI : Hid (NdIn (w.alloc (.cells (ndV x y).toArray 59)) x y) := hi.below HB.out
  clear hi hf
  go_enter Tryz.func29, Tryz.ntmps29
  go_upto_region 1 with fail
  generalize w.alloc (.cells (ndV x y).toArray 59) = w0 at HB HX HI ⊢
  obtain ⟨X, hX⟩ : ∃ X, X = w.heap.size := ⟨_, rfl⟩
  rw [← hX] at HX ⊢
  clear hX
  have N0 : N24 w0 X 0 x y := HX.out.at0
  obtain ⟨c4, c5, c6, c7, c8, c9, c10⟩ := N24.lA N0
  simp only [Nat.zero_add] at c4 c5 c6 c7 c8 c9 c10
  clear N0
  go_wp2_with fail
  refine (szAcl_any x.A.u x.A.g x.A.o _ _ _ _ _ _ x.A.r x.A.m left h0 h1 HF.out.au HF.out.ag _).mono ?_
  rintro e w1 ⟨rfl, hb⟩
  have hW1 : Hid (Below w.heap.size w w1) := Below.on HB.out hb
  have HX1 : Hid (BoxR w1 X (ndV x y)) := HX.out.below hb
  have HI1 : Hid (NdIn w1 x y) := HI.out.below hb
  clear hb HX HI HB c4 c5 c6 c7 c8 c9 c10
  have hq := szB_casesW (lu := x.A.us.length) (lg := x.A.gs.length) h0 h1
  generalize szB left x.A.us.length x.A.gs.length = v1 at hq ⊢
  rcases hq with rfl | ⟨p0, p1, p2, p3⟩
  · go_wp2
    go_ret
    exact ⟨⟨-1, rfl, .inl rfl⟩, hW1.out⟩
  have d1 : decide (v1 < 0) = false := by simp; omega
  obtain ⟨c4, c5, c6, c7, c8, c9, c10⟩ := N24.lD HX1.out.at0
  simp only [Nat.zero_add] at c4 c5 c6 c7 c8 c9 c10
  go_wp2_with fail
  refine (szAcl_any x.D.u x.D.g x.D.o _ _ _ _ _ _ x.D.r x.D.m v1 p0 (by omega) HF.out.du HF.out.dg _).mono ?_
  rintro e w2 ⟨rfl, hb⟩
  have hW2 : Hid (Below w.heap.size w w2) := Below.on hW1.out hb
  have HX2 : Hid (BoxR w2 X (ndV x y)) := HX1.out.below hb
  have HI2 : Hid (NdIn w2 x y) := HI1.out.below hb
  clear hb HX1 hW1 HI1 d1 c4 c5 c6 c7 c8 c9 c10
  have hq := szB_casesW (lu := x.D.us.length) (lg := x.D.gs.length) p0 (show v1 ≤ 1048576 by omega)
  generalize szB v1 x.D.us.length x.D.gs.length = v2 at hq ⊢
  rcases hq with rfl | ⟨q0, q1, q2, q3⟩
  · go_wp2
    go_ret
    exact ⟨⟨-1, rfl, .inl rfl⟩, hW2.out⟩
  have d1 : decide (v2 < 0) = false := by simp; omega
  have c21 := N24.c21 HX2.out.at0
  have c22 := N24.c22 HX2.out.at0
  simp only [Nat.zero_add] at c21 c22
  have hbo := HF.out.bo
  by_cases hl : v2 < (x.bo.size : Int)
  · have d2 : v2 - (x.bo.size : Int) < 0 := by omega
    go_wp2
    go_ret
    exact ⟨⟨-1, rfl, .inl rfl⟩, hW2.out⟩
  have d2 : decide (v2 - (x.bo.size : Int) < 0) = false := by simp; omega
  go_wp2_with fail
  refine (szEntryW_any _ _ _ x.ns (v2 - x.bo.size) (by omega) (by omega) HF.out.nl HF.out.nm _ HI2.out.nA).mono ?_
  rintro e w3 ⟨⟨v, rfl, hv⟩, hb⟩
  have hW3 : Hid (Below w.heap.size w w3) := Below.on hW2.out hb
  clear hb
  rcases hv with rfl | ⟨r0, r1, r2, r3⟩
  · go_wp2
    go_ret
    exact ⟨⟨-1, rfl, .inl rfl⟩, hW3.out⟩
  have d3 : decide (v < 0) = false := by simp; omega
  go_wp2
  go_ret
  exact ⟨⟨v, rfl, .inr ⟨r0, by unfold wtN; omega, ⟨p2, p3, q2, q3, by omega, r2, r3⟩⟩⟩, hW3.out⟩
set_option maxHeartbeats 4000000 in
theorem szNodeSW_any (a : Option Addr) (len cap : Nat) (l : List Nd) (left : Int) (h0 : 0 ≤ left) (h1 : left ≤ 1048576) (hm : len ≤ 9223372036854775807) (hf : ∀ i, i < len → NdFit 9223372036854775807 (ndAt l i)) (w : World) (hi : Nds a len l w) :
    Calls Tryz.prog 13 #[.slice a len cap, .int .i64 left] w fun e w' => (∃ v : Int, e = .returned (.int .i64 v) ∧ (v = -1 ∨ (0 ≤ v ∧ v + (len : Int) + (wtS l len : Int) ≤ left ∧ len ≤ 1048576 ∧ ∀ i, i < len → NdFit 1048576 (ndAt l i)))) ∧ Below w.heap.size w w' := by
  by_cases hl : left < (len : Int)
  · have d1 : left - (len : Int) < 0 := by omega
    go_enter Tryz.func13, Tryz.ntmps13
    go_wp2
    go_ret
    exact ⟨⟨-1, rfl, .inl rfl⟩, Below.refl _ _⟩
  · have d1 : decide (left - (len : Int) < 0) = false := by simp; omega
    have HI : Hid (Nds a len l w) := hi
    have HF : Hid (∀ i, i < len → NdFit 9223372036854775807 (ndAt l i)) := hf
    clear hi hf
    go_enter Tryz.func13, Tryz.ntmps13
    go_wp2
    go_loopw [5, 1] (fun i q wr => ∃ (k : Nat) (v : Int), k ≤ len ∧ i = .int .i64 k ∧ q = .int .i64 v ∧ 0 ≤ v ∧ v + (len : Int) + (wtS l k : Int) ≤ left ∧ Hid (∀ i, i < k → NdFit 1048576 (ndAt l i)) ∧ Hid (Below w.heap.size w wr)) (fun i _ _ => len - (intOf i).toNat)
    case atStart => exact ⟨0, _, Nat.zero_le _, rfl, rfl, by omega, by have : wtS l 0 = 0 := rfl; omega, fun i hi => absurd hi (by omega), Below.refl _ _⟩
    case round =>
      obtain ⟨k, v, hk, rfl, rfl, hv0, hv1, hg, hB⟩ := hrel
      by_cases hlt : k < len
      · obtain ⟨b, off, Y, rfl, hb, hc⟩ := HI.out.2 (by omega)
        have hlt' : (k : Int) < (len : Int) := by omega
        have HN : Hid (NdIn wr (ndAt l k) (Y k)) := (hc k hlt).2.below hB.out
        have hG := range_below (hc k hlt).1 hb hB.out
        have hs := HF.out k hlt
        clear hc HI d1
        have hgk : Hid (NdFit 1048576 (ndAt l k) → ∀ i, i < k + 1 → NdFit 1048576 (ndAt l i)) := (fun h i hi => by
          by_cases e : i = k
          · rw [e]; exact h
          · exact hg.out i (by omega))
        have HWt : Hid (wtS l (k + 1) = wtS l k + wtN (ndAt l k)) := rfl
        generalize ndAt l k = x at HN hG hs hgk HWt
        generalize Y k = y at HN hG
        have HG : Hid (N24 wr b (off + k * 24) x y) := hG
        clear hG
        go_wp2_with (refine wpList_load_mid (by rfl) 59 _ (by rfl) _ _ (by rfl) _ _ HG.out Tryz.underlying59 rfl (by kernel_rfl) ?_)
        refine (szNodeW_any x y v hv0 (by omega) hs _ HN.out).mono ?_
        rintro e w1 ⟨⟨v1, rfl, hv⟩, hb1⟩
        have hB1 : Hid (Below w.heap.size w w1) := Below.on hB.out hb1
        clear hb1 hB HG
        rcases hv with rfl | ⟨r0, r1, r2⟩
        · go_wp2
          go_ret
          exact ⟨⟨-1, rfl, .inl rfl⟩, hB1.out⟩
        · have d2 : decide (v1 < 0) = false := by simp; omega
          have hg2 : Hid (∀ i, i < k + 1 → NdFit 1048576 (ndAt l i)) := hgk.out r2
          go_wp2
          go_roundw
          case rel => exact ⟨k + 1, _, by omega, by go_num, rfl, by omega, by have := HWt.out; omega, hg2, hB1⟩
          case measure => simp [intOf]; omega
      · have : k = len := by omega
        subst this
        go_wp2
        go_ret
        exact ⟨⟨v, rfl, .inr ⟨hv0, hv1, by omega, hg.out⟩⟩, hB.out⟩
set_option maxHeartbeats 4000000 in
theorem szTreeW_any (a : Option Addr) (len cap : Nat) (l : List Nd) (now left : Int) (h0 : 0 ≤ left) (h1 : left ≤ 1048576) (hm : len ≤ 9223372036854775807) (hf : ∀ i, i < len → NdFit 9223372036854775807 (ndAt l i)) (w : World) (hi : Nds a len l w) :
    Calls Tryz.prog 4 #[.agg #[.slice a len cap, .int .i64 now], .int .i64 left] w fun e w' => (∃ v : Int, e = .returned (.int .i64 v) ∧ (v = -1 ∨ (0 ≤ v ∧ v + (len : Int) + (wtS l len : Int) ≤ left ∧ len ≤ 1048576 ∧ ∀ i, i < len → NdFit 1048576 (ndAt l i)))) ∧ Below w.heap.size w w' := by
  have HI : Hid (Nds a len l w) := hi
  have HF : Hid (∀ i, i < len → NdFit 9223372036854775807 (ndAt l i)) := hf
  clear hi hf
  go_enter Tryz.func4, Tryz.ntmps4
  go_wp2_with fail
  refine (szNodeSW_any a len cap l left h0 h1 hm HF.out _ (HI.out.below (bel_alloc _ _))).mono ?_
  rintro e w1 ⟨⟨v, rfl, hv⟩, hb⟩
  have hW1 : Hid (Below w.heap.size w w1) := Below.on (bel_alloc _ _) hb
  clear hb
  rcases hv with rfl | ⟨r0, r1, r2, r3⟩
  · go_wp2
    go_ret
    exact ⟨⟨-1, rfl, .inl rfl⟩, hW1.out⟩
  · have d2 : decide (v < 0) = false := by simp; omega
    go_wp2
    go_ret
    exact ⟨⟨v, rfl, .inr ⟨r0, r1, r2, r3⟩⟩, hW1.out⟩
end Go.Proofs.YtgodbelcddgdmaaGreat
/- laws.markNode, laws.heldNode: the lists of one node are written over, and read again. -/
namespace Go.Proofs.YtgodbelcddgdmaaGreat
open Go.RowKit Go.PlainAid Go.Deep
set_option linter.unusedVariables false
/-- A node whose lists hold the marks from k on. -/
def mkL (x : Nd) (k : Nat) : Nd :=
  { x with A := { x.A with us := marks ((k : Nat) : Int) x.A.us.length, gs := marks ((k : Nat) + 2 * (x.A.us.length : Int)) x.A.gs.length }, D := { x.D with us := marks ((k + 2 * x.A.us.length + 2 * x.A.gs.length : Nat) : Int) x.D.us.length, gs := marks ((k + 2 * x.A.us.length + 2 * x.A.gs.length : Nat) + 2 * (x.D.us.length : Int)) x.D.gs.length }, ns := marksE (k + 2 * x.A.us.length + 2 * x.A.gs.length + 2 * x.D.us.length + 2 * x.D.gs.length) x.ns.length }
theorem Own.keepC {a : Option Addr} {len : Nat} {l : List (Int × Int)} {w w' : World} (ho : Own a len l w) (hs : w.heap.size ≤ w'.heap.size) (hc : ∀ B o, a = some ⟨B, 0, none⟩ → B < w.heap.size → w'.cell? ⟨B, o, none⟩ = w.cell? ⟨B, o, none⟩ ∧ w'.frozen? ⟨B, o, none⟩ = w.frozen? ⟨B, o, none⟩) : Own a len l w' := by
  refine ⟨ho.1, fun h0 => ?_⟩
  obtain ⟨B, ha, hlt, hp⟩ := ho.2 h0
  refine ⟨B, ha, Nat.lt_of_lt_of_le hlt hs, fun i hi => ?_⟩
  have h0 := hc B (i * 2) ha hlt
  have h1 := hc B (i * 2 + 1) ha hlt
  rw [h0.1, h0.2, h1.1, h1.2]
  exact hp i hi
theorem OwnE.keepC {a : Option Addr} {len : Nat} {l : List (ByteArray × Int)} {w w' : World} (ho : OwnE a len l w) (hs : w.heap.size ≤ w'.heap.size) (hc : ∀ B o, a = some ⟨B, 0, none⟩ → B < w.heap.size → w'.cell? ⟨B, o, none⟩ = w.cell? ⟨B, o, none⟩ ∧ w'.frozen? ⟨B, o, none⟩ = w.frozen? ⟨B, o, none⟩) : OwnE a len l w' := by
  refine ⟨ho.1, fun h0 => ?_⟩
  obtain ⟨B, ha, hlt, hp⟩ := ho.2 h0
  refine ⟨B, ha, Nat.lt_of_lt_of_le hlt hs, fun i hi => ?_⟩
  have h0 := hc B (i * 2) ha hlt
  have h1 := hc B (i * 2 + 1) ha hlt
  rw [h0.1, h0.2, h1.1, h1.2]
  exact hp i hi
theorem But2.btw {lo hi : Nat} {a a2 : Option Addr} {w w1 : World} (h : But2 a a2 w w1) (ha : ∀ A, a = some A → lo ≤ A.block ∧ A.block < hi) (ha2 : ∀ A, a2 = some A → lo ≤ A.block ∧ A.block < hi) : Btw lo hi w w1 :=
  ⟨h.size, fun c hc hA => h.below c hc (fun A e => Nat.le_trans hA (ha A e).1) (fun A e => Nat.le_trans hA (ha2 A e).1), fun b o hb hA => h.cell b o hb (fun A e => by have := ha A e; omega) (fun A e => by have := ha2 A e; omega)⟩
theorem LsU.ne {lo hi : Nat} {y : Na} (h : LsU lo hi y) (j j' : Nat) (hj : j < 5) (hj' : j' < 5) (hne : j ≠ j') : ∀ A A', laAt y j = some A → laAt y j' = some A' → A.block ≠ A'.block := fun A A' e e' eb => hne (h.inj j j' A A' hj hj' e e' eb)
/-- Two lists written: the others keep. -/
theorem But2.keep {lo hi : Nat} {y : Na} {w w' : World} {i i' : Nat} (h : But2 (laAt y i) (laAt y i') w w') (hu : LsU lo hi y) (hi1 : i < 5) (hi2 : i' < 5) (j : Nat) (hj : j < 5) (n1 : i ≠ j) (n2 : i' ≠ j) : ∀ B o, laAt y j = some ⟨B, 0, none⟩ → B < w.heap.size → w'.cell? ⟨B, o, none⟩ = w.cell? ⟨B, o, none⟩ ∧ w'.frozen? ⟨B, o, none⟩ = w.frozen? ⟨B, o, none⟩ :=
  fun B o e hlt => h.cell B o hlt (fun A e2 e3 => hu.ne i j hi1 hj n1 A _ e2 e e3.symm) (fun A e2 e3 => hu.ne i' j hi2 hj n2 A _ e2 e e3.symm)
theorem ButS.keepL {lo hi : Nat} {y : Na} {w w' : World} {i : Nat} {c : Prop} [Decidable c] (h : ButS (if c then laAt y i else none) w w') (hu : LsU lo hi y) (hi1 : i < 5) (j : Nat) (hj : j < 5) (n1 : i ≠ j) : ∀ B o, laAt y j = some ⟨B, 0, none⟩ → B < w.heap.size → w'.cell? ⟨B, o, none⟩ = w.cell? ⟨B, o, none⟩ ∧ w'.frozen? ⟨B, o, none⟩ = w.frozen? ⟨B, o, none⟩ :=
  fun B o e hlt => h.cell B o hlt (fun A e2 e3 => by
    split at e2
    · exact hu.ne i j hi1 hj n1 A _ e2 e e3.symm
    · cases e2)
theorem lt_own {w : World} {lo hi : Nat} {y : Na} (hu : LsU lo hi y) (hh : hi ≤ w.heap.size) (j : Nat) (hj : j < 5) : ∀ A, laAt y j = some A → A.block < w.heap.size := fun A e => Nat.lt_of_lt_of_le (hu.rng j A hj e).2 hh
theorem wtS_at {l : List Nd} : ∀ {n k : Nat}, k < n → wtN (ndAt l k) ≤ wtS l n
  | 0, k, h => by omega
  | n + 1, k, h => by
    rw [wtS]
    by_cases e : k = n
    · subst e; omega
    · have := wtS_at (l := l) (n := n) (k := k) (by omega)
      omega
theorem nof_wt {l : List Nd} {now n : Int} {len : Nat} (hl : l.length = len) (h : len + wtS l len ≤ 1048576) : 1 + 2 * wtN (nofN l now n) ≤ 3000000 := by
  have hz : wtN ndZ = 0 := rfl
  unfold nofN
  split
  · rename_i h2
    rw [Bool.and_eq_true] at h2
    have h3 := inR_iff.1 (thB_num h2.2)
    have := wtS_at (l := l) (n := len) (k := (n - 1).toNat) (by omega)
    omega
  · omega
theorem NdOwn.btwN {lo hi : Nat} {w w' : World} {x : Nd} {y : Na} (h : NdOwn w x y) (hb : Btw lo hi w w') (hne : ∀ j A, j < 5 → laAt y j = some A → A.block < lo ∨ hi ≤ A.block) : NdOwn w' x y :=
  ⟨h.aU.btw hb (fun _ => fun A e => hne 0 A (by omega) e), h.aG.btw hb (fun _ => fun A e => hne 1 A (by omega) e), h.dU.btw hb (fun _ => fun A e => hne 2 A (by omega) e), h.dG.btw hb (fun _ => fun A e => hne 3 A (by omega) e), h.nA.btw hb (fun _ => fun A e => hne 4 A (by omega) e)⟩
set_option maxRecDepth 20000 in
set_option maxHeartbeats 8000000 in
theorem markNode_any (lo hi : Nat) (x : Nd) (y : Na) (k : Nat) (h0 : 0 < k) (hk : k + 2 * wtN x ≤ 50000000) (hf : NdFit 1048576 x) (w : World) (ho : NdOwn w x y) (hu : LsU lo hi y) (hh : hi ≤ w.heap.size) :
    Calls Tryz.prog 11 #[.agg (ndV x y).toArray, .int .i64 (k : Nat)] w fun e w' => e = .returned (.int .i64 ((k + 2 * wtN x : Nat) : Int)) ∧ NdOwn w' (mkL x k) y ∧ Btw lo hi w w' := by
  have HF : Hid (NdFit 1048576 x) := hf
  have HO : Hid (NdOwn w x y) := ho
  have HU : Hid (LsU lo hi y) := hu
  have HW : Hid (wtN x = x.A.us.length + x.A.gs.length + x.D.us.length + x.D.gs.length + x.ns.length) := rfl
  have HK : Hid (k + 2 * wtN x ≤ 50000000) := hk
  clear hf ho hu hk
  have HX : Hid (BoxW (w.alloc (.cells (ndV x y).toArray 31)) w.heap.size (ndV x y)) := boxW_new w (ndV x y) 31
  have HB : Hid (Below w.heap.size w (w.alloc (.cells (ndV x y).toArray 31))) := bel_alloc _ _
  go_enter Tryz.func11, Tryz.ntmps11
  go_upto_region 1 with fail
  generalize (w.alloc (.cells (ndV x y).toArray 31)) = w0 at HX HB ⊢
  obtain ⟨X, hX⟩ : ∃ X, X = w.heap.size := ⟨_, rfl⟩
  have HXw : Hid (X = w.heap.size) := hX
  rw [← hX] at HX ⊢
  clear hX
  have HT : Hid (Btw lo hi w w0) := Btw.of HB.out
  have O0 : Hid (NdOwn w0 x y) := HO.out.below HB.out
  have L0 : Hid (hi ≤ w0.heap.size) := Nat.le_trans hh HB.out.size
  have HXX : Hid (X < lo ∨ hi ≤ X) := .inr (by rw [HXw.out]; exact hh)
  clear HO hh HB
  have e4 := N24.c4 HX.out.at0
  have e5 := N24.c5 HX.out.at0
  have e6 := N24.c6 HX.out.at0
  have e7 := N24.c7 HX.out.at0
  have e8 := N24.c8 HX.out.at0
  have e9 := N24.c9 HX.out.at0
  have e10 := N24.c10 HX.out.at0
  simp only [Nat.zero_add] at e4 e5 e6 e7 e8 e9 e10
  go_wp2_with fail
  refine (markAcl_any x.A.u x.A.g x.A.o y.aU x.A.us.length y.cU y.aG x.A.gs.length y.cG x.A.r x.A.m x.A.us x.A.gs (k : Int) (by omega) (by have := HK.out; omega) HF.out.au HF.out.ag w0 O0.out.aU O0.out.aG (lt_own HU.out L0.out 0 (by omega)) (lt_own HU.out L0.out 1 (by omega)) (HU.out.ne 0 1 (by omega) (by omega) (by omega))).mono ?_
  rintro e w1 ⟨rfl, o1, o2, b1⟩
  have U1 : Hid (Own y.aU x.A.us.length (marks (k : Int) x.A.us.length) w1) := o1
  have U2 : Hid (Own y.aG x.A.gs.length (marks ((k : Int) + 2 * (x.A.us.length : Int)) x.A.gs.length) w1) := o2
  have B1 : Hid (But2 (laAt y 0) (laAt y 1) w0 w1) := b1
  clear o1 o2 b1
  have T1 : Hid (Btw lo hi w0 w1) := B1.out.btw (HU.out.rng 0 · (by omega)) (HU.out.rng 1 · (by omega))
  have U3 : Hid (Own y.dU x.D.us.length x.D.us w1) := O0.out.dU.keepC B1.out.size (B1.out.keep HU.out (by omega) (by omega) 2 (by omega) (by omega) (by omega))
  have U4 : Hid (Own y.dG x.D.gs.length x.D.gs w1) := O0.out.dG.keepC B1.out.size (B1.out.keep HU.out (by omega) (by omega) 3 (by omega) (by omega) (by omega))
  have U5 : Hid (OwnE y.nA x.ns.length x.ns w1) := O0.out.nA.keepC B1.out.size (B1.out.keep HU.out (by omega) (by omega) 4 (by omega) (by omega) (by omega))
  have L1 : Hid (hi ≤ w1.heap.size) := Nat.le_trans L0.out B1.out.size
  have X1 : Hid (BoxW w1 X (ndV x y)) := HX.out.btw T1.out HXX.out
  replace HT : Hid (Btw lo hi w w1) := HT.out.trans T1.out
  clear T1 B1 O0 L0 HX e4 e5 e6 e7 e8 e9 e10
  have e12 := N24.c12 X1.out.at0
  have e13 := N24.c13 X1.out.at0
  have e14 := N24.c14 X1.out.at0
  have e15 := N24.c15 X1.out.at0
  have e16 := N24.c16 X1.out.at0
  have e17 := N24.c17 X1.out.at0
  have e18 := N24.c18 X1.out.at0
  simp only [Nat.zero_add] at e12 e13 e14 e15 e16 e17 e18
  go_wp2_with fail
  refine (markAcl_any x.D.u x.D.g x.D.o y.dU x.D.us.length y.eU y.dG x.D.gs.length y.eG x.D.r x.D.m x.D.us x.D.gs ((k : Int) + 2 * (x.A.us.length : Int) + 2 * (x.A.gs.length : Int)) (by omega) (by have := HK.out; have := HW.out; omega) HF.out.du HF.out.dg w1 U3.out U4.out (lt_own HU.out L1.out 2 (by omega)) (lt_own HU.out L1.out 3 (by omega)) (HU.out.ne 2 3 (by omega) (by omega) (by omega))).mono ?_
  rintro e w2 ⟨rfl, o1, o2, b1⟩
  have B2 : Hid (But2 (laAt y 2) (laAt y 3) w1 w2) := b1
  have T2 : Hid (Btw lo hi w1 w2) := B2.out.btw (HU.out.rng 2 · (by omega)) (HU.out.rng 3 · (by omega))
  replace U3 : Hid (Own y.dU x.D.us.length (marks ((k : Int) + 2 * (x.A.us.length : Int) + 2 * (x.A.gs.length : Int)) x.D.us.length) w2) := o1
  replace U4 : Hid (Own y.dG x.D.gs.length (marks ((k : Int) + 2 * (x.A.us.length : Int) + 2 * (x.A.gs.length : Int) + 2 * (x.D.us.length : Int)) x.D.gs.length) w2) := o2
  clear o1 o2 b1
  replace U1 : Hid (Own y.aU x.A.us.length (marks (k : Int) x.A.us.length) w2) := U1.out.keepC B2.out.size (B2.out.keep HU.out (by omega) (by omega) 0 (by omega) (by omega) (by omega))
  replace U2 : Hid (Own y.aG x.A.gs.length (marks ((k : Int) + 2 * (x.A.us.length : Int)) x.A.gs.length) w2) := U2.out.keepC B2.out.size (B2.out.keep HU.out (by omega) (by omega) 1 (by omega) (by omega) (by omega))
  replace U5 : Hid (OwnE y.nA x.ns.length x.ns w2) := U5.out.keepC B2.out.size (B2.out.keep HU.out (by omega) (by omega) 4 (by omega) (by omega) (by omega))
  have X2 : Hid (BoxW w2 X (ndV x y)) := X1.out.btw T2.out HXX.out
  replace HT : Hid (Btw lo hi w w2) := HT.out.trans T2.out
  clear T2 B2 L1 X1 e12 e13 e14 e15 e16 e17 e18
  have e22 := N24.c22 X2.out.at0
  simp only [Nat.zero_add] at e22
  have ez : ((k + 2 * x.A.us.length + 2 * x.A.gs.length + 2 * x.D.us.length + 2 * x.D.gs.length : Nat) : Int) = (k : Int) + 2 * (x.A.us.length : Int) + 2 * (x.A.gs.length : Int) + 2 * (x.D.us.length : Int) + 2 * (x.D.gs.length : Int) := by omega
  have ec : ((k + 2 * x.A.us.length + 2 * x.A.gs.length : Nat) : Int) = (k : Int) + 2 * (x.A.us.length : Int) + 2 * (x.A.gs.length : Int) := by omega
  have hM := markEntryS_any y.nA x.ns.length y.nC (k + 2 * x.A.us.length + 2 * x.A.gs.length + 2 * x.D.us.length + 2 * x.D.gs.length) x.ns (by omega) (by have := HK.out; have := HW.out; omega) HF.out.nl w2 U5.out
  rw [ez] at hM
  have HM : Hid _ := hM
  clear hM
  go_wp2_with fail
  refine Calls.mono HM.out ?_
  rintro e w3 ⟨rfl, o1, b1⟩
  have B3 : Hid (ButS (if 0 < x.ns.length then laAt y 4 else none) w2 w3) := b1
  have T3 : Hid (Btw lo hi w2 w3) := ButS.btw B3.out (fun A e => by
    split at e
    · exact HU.out.rng 4 A (by omega) e
    · cases e)
  have R : Hid (NdOwn w3 (mkL x k) y) := (by
    refine ⟨?_, ?_, ?_, ?_, ?_⟩
    · show Own y.aU (marks _ _).length (marks _ _) w3
      rw [marks_len]
      exact U1.out.keepC B3.out.size (B3.out.keepL HU.out (by omega) 0 (by omega) (by omega))
    · show Own y.aG (marks _ _).length (marks _ _) w3
      rw [marks_len]
      exact U2.out.keepC B3.out.size (B3.out.keepL HU.out (by omega) 1 (by omega) (by omega))
    · show Own y.dU (marks _ _).length (marks _ _) w3
      rw [marks_len, ec]
      exact U3.out.keepC B3.out.size (B3.out.keepL HU.out (by omega) 2 (by omega) (by omega))
    · show Own y.dG (marks _ _).length (marks _ _) w3
      rw [marks_len, ec]
      exact U4.out.keepC B3.out.size (B3.out.keepL HU.out (by omega) 3 (by omega) (by omega))
    · show OwnE y.nA (marksE _ _).length (marksE _ _) w3
      rw [marksE_len]
      exact o1)
  replace HT : Hid (Btw lo hi w w3) := HT.out.trans T3.out
  clear o1 b1 B3 T3 U1 U2 U3 U4 U5 X2 e22 ez ec HM
  go_wp2
  go_ret
  exact ⟨congrArg (fun z => Ending.returned (Value.int .i64 z)) (by have := HW.out; omega), R.out, HT.out⟩
set_option maxRecDepth 20000 in
set_option maxHeartbeats 8000000 in
theorem heldNode_any (x : Nd) (y : Na) (k : Nat) (h0 : 0 < k) (hk : k + 2 * wtN x ≤ 50000000) (hf : NdFit 1048576 x) (w : World) (ho : NdOwn w (mkL x k) y) :
    Calls Tryz.prog 12 #[.agg (ndV x y).toArray, .int .i64 (k : Nat)] w fun e w' => e = .returned (.int .i64 ((k + 2 * wtN x : Nat) : Int)) ∧ Below w.heap.size w w' := by
  have HF : Hid (NdFit 1048576 x) := hf
  have ez : ((k + 2 * x.A.us.length + 2 * x.A.gs.length + 2 * x.D.us.length + 2 * x.D.gs.length : Nat) : Int) = (k : Int) + 2 * (x.A.us.length : Int) + 2 * (x.A.gs.length : Int) + 2 * (x.D.us.length : Int) + 2 * (x.D.gs.length : Int) := by omega
  have ec : ((k + 2 * x.A.us.length + 2 * x.A.gs.length : Nat) : Int) = (k : Int) + 2 * (x.A.us.length : Int) + 2 * (x.A.gs.length : Int) := by omega
  have U1 : Hid (Own y.aU x.A.us.length (marks (k : Int) x.A.us.length) w) := (by
    have h := ho.aU
    change Own y.aU (marks _ _).length (marks _ _) w at h
    rwa [marks_len] at h)
  have U2 : Hid (Own y.aG x.A.gs.length (marks ((k : Int) + 2 * (x.A.us.length : Int)) x.A.gs.length) w) := (by
    have h := ho.aG
    change Own y.aG (marks _ _).length (marks _ _) w at h
    rwa [marks_len] at h)
  have U3 : Hid (Own y.dU x.D.us.length (marks ((k : Int) + 2 * (x.A.us.length : Int) + 2 * (x.A.gs.length : Int)) x.D.us.length) w) := (by
    have h := ho.dU
    change Own y.dU (marks _ _).length (marks _ _) w at h
    rwa [marks_len, ec] at h)
  have U4 : Hid (Own y.dG x.D.gs.length (marks ((k : Int) + 2 * (x.A.us.length : Int) + 2 * (x.A.gs.length : Int) + 2 * (x.D.us.length : Int)) x.D.gs.length) w) := (by
    have h := ho.dG
    change Own y.dG (marks _ _).length (marks _ _) w at h
    rwa [marks_len, ec] at h)
  have U5 : Hid (OwnE y.nA x.ns.length (marksE (k + 2 * x.A.us.length + 2 * x.A.gs.length + 2 * x.D.us.length + 2 * x.D.gs.length) x.ns.length) w) := (by
    have h := ho.nA
    change OwnE y.nA (marksE _ _).length (marksE _ _) w at h
    rwa [marksE_len] at h)
  have HW : Hid (wtN x = x.A.us.length + x.A.gs.length + x.D.us.length + x.D.gs.length + x.ns.length) := rfl
  have HK : Hid (k + 2 * wtN x ≤ 50000000) := hk
  clear hf ho hk
  have HX : Hid (BoxR (w.alloc (.cells (ndV x y).toArray 31)) w.heap.size (ndV x y)) := boxR_new w (ndV x y) 31
  have HB : Hid (Below w.heap.size w (w.alloc (.cells (ndV x y).toArray 31))) := bel_alloc _ _
  go_enter Tryz.func12, Tryz.ntmps12
  go_upto_region 1 with fail
  generalize (w.alloc (.cells (ndV x y).toArray 31)) = w0 at HX HB ⊢
  obtain ⟨X, hX⟩ : ∃ X, X = w.heap.size := ⟨_, rfl⟩
  rw [← hX] at HX ⊢
  clear hX
  have e4 := N24.c4 HX.out.at0
  have e5 := N24.c5 HX.out.at0
  have e6 := N24.c6 HX.out.at0
  have e7 := N24.c7 HX.out.at0
  have e8 := N24.c8 HX.out.at0
  have e9 := N24.c9 HX.out.at0
  have e10 := N24.c10 HX.out.at0
  simp only [Nat.zero_add] at e4 e5 e6 e7 e8 e9 e10
  have d1 : decide ((k : Int) + 2 * (x.A.us.length : Int) + 2 * (x.A.gs.length : Int) < 0) = false := by simp; omega
  have d2 : decide ((k : Int) + 2 * (x.A.us.length : Int) + 2 * (x.A.gs.length : Int) + 2 * (x.D.us.length : Int) + 2 * (x.D.gs.length : Int) < 0) = false := by simp; omega
  have d3 : decide ((k : Int) + 2 * (x.A.us.length : Int) + 2 * (x.A.gs.length : Int) + 2 * (x.D.us.length : Int) + 2 * (x.D.gs.length : Int) + 2 * (x.ns.length : Int) < 0) = false := by simp; omega
  go_wp2_with fail
  refine (heldAcl_any x.A.u x.A.g x.A.o y.aU x.A.us.length y.cU y.aG x.A.gs.length y.cG x.A.r x.A.m (k : Int) (by omega) (by have := HK.out; omega) HF.out.au HF.out.ag w0 (U1.out.below HB.out) (U2.out.below HB.out)).mono ?_
  rintro e w1 ⟨rfl, hb⟩
  replace HB : Hid (Below w.heap.size w w1) := Below.on HB.out hb
  replace HX : Hid (BoxR w1 X (ndV x y)) := HX.out.below hb
  clear hb e4 e5 e6 e7 e8 e9 e10
  have e12 := N24.c12 HX.out.at0
  have e13 := N24.c13 HX.out.at0
  have e14 := N24.c14 HX.out.at0
  have e15 := N24.c15 HX.out.at0
  have e16 := N24.c16 HX.out.at0
  have e17 := N24.c17 HX.out.at0
  have e18 := N24.c18 HX.out.at0
  simp only [Nat.zero_add] at e12 e13 e14 e15 e16 e17 e18
  go_wp2_with fail
  refine (heldAcl_any x.D.u x.D.g x.D.o y.dU x.D.us.length y.eU y.dG x.D.gs.length y.eG x.D.r x.D.m ((k : Int) + 2 * (x.A.us.length : Int) + 2 * (x.A.gs.length : Int)) (by omega) (by have := HK.out; have := HW.out; omega) HF.out.du HF.out.dg w1 (U3.out.below HB.out) (U4.out.below HB.out)).mono ?_
  rintro e w2 ⟨rfl, hb⟩
  replace HB : Hid (Below w.heap.size w w2) := Below.on HB.out hb
  replace HX : Hid (BoxR w2 X (ndV x y)) := HX.out.below hb
  clear hb e12 e13 e14 e15 e16 e17 e18
  have e22 := N24.c22 HX.out.at0
  simp only [Nat.zero_add] at e22
  have hM := heldEntryS_any y.nA x.ns.length y.nC (k + 2 * x.A.us.length + 2 * x.A.gs.length + 2 * x.D.us.length + 2 * x.D.gs.length) (by omega) (by have := HK.out; have := HW.out; omega) HF.out.nl w2 (U5.out.below HB.out)
  rw [ez] at hM
  have HM : Hid _ := hM
  clear hM
  go_wp2_with fail
  refine Calls.mono HM.out ?_
  rintro e w3 ⟨rfl, hb⟩
  replace HB : Hid (Below w.heap.size w w3) := Below.on HB.out hb
  clear hb HX HM e22 ez ec
  go_wp2
  go_ret
  exact ⟨congrArg (fun z => Ending.returned (Value.int .i64 z)) (by have := HW.out; omega), HB.out⟩
end Go.Proofs.YtgodbelcddgdmaaGreat
