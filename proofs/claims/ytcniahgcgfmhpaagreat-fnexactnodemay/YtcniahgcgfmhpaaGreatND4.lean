/- Laid together: Box7, TreeSz. -/
import Derived.Test.YtcniahgcgfmhpaaGreatND1
import Derived.Test.YtcniahgcgfmhpaaGreatND2
import Derived.Test.YtcniahgcgfmhpaaGreatND3
import Derived.Deep.QuietTactic
import Derived.BigQuiet
import Derived.Handy
import Derived.Deep.Cut
/- Seven cells of a block. -/
namespace Go.Proofs.YtcniahgcgfmhpaaGreat
open Go.RowKit Go.PlainAid
set_option linter.unusedVariables false
/-- Seven cells of a block. -/
structure Box7 (w : World) (B : Nat) (v0 v1 v2 v3 v4 v5 v6 : Value) : Prop where
  lt : B < w.heap.size
  c0 : w.cell? ⟨B, 0, none⟩ = some v0
  c1 : w.cell? ⟨B, 1, none⟩ = some v1
  c2 : w.cell? ⟨B, 2, none⟩ = some v2
  c3 : w.cell? ⟨B, 3, none⟩ = some v3
  c4 : w.cell? ⟨B, 4, none⟩ = some v4
  c5 : w.cell? ⟨B, 5, none⟩ = some v5
  c6 : w.cell? ⟨B, 6, none⟩ = some v6
theorem Box7.keep {w w' : World} {B : Nat} {v0 v1 v2 v3 v4 v5 v6 : Value} (h : Box7 w B v0 v1 v2 v3 v4 v5 v6) (hlt : B < w'.heap.size) (hc : ∀ o, w'.cell? ⟨B, o, none⟩ = w.cell? ⟨B, o, none⟩) : Box7 w' B v0 v1 v2 v3 v4 v5 v6 :=
  ⟨hlt, (hc 0).trans h.c0, (hc 1).trans h.c1, (hc 2).trans h.c2, (hc 3).trans h.c3, (hc 4).trans h.c4, (hc 5).trans h.c5, (hc 6).trans h.c6⟩
theorem Box7.below {w w' : World} {B : Nat} {v0 v1 v2 v3 v4 v5 v6 : Value} (h : Box7 w B v0 v1 v2 v3 v4 v5 v6) (hb : Below w.heap.size w w') : Box7 w' B v0 v1 v2 v3 v4 v5 v6 :=
  h.keep (Nat.lt_of_lt_of_le h.lt hb.size) (fun o => hb.cell (p := ⟨B, o, none⟩) h.lt)
theorem box7_new (w : World) (v0 v1 v2 v3 v4 v5 v6 : Value) (t : TypeId) : Box7 (w.alloc (.cells #[v0, v1, v2, v3, v4, v5, v6] t)) w.heap.size v0 v1 v2 v3 v4 v5 v6 := by
  have hb : (w.alloc (.cells #[v0, v1, v2, v3, v4, v5, v6] t)).heap[w.heap.size]? = some (.cells #[v0, v1, v2, v3, v4, v5, v6] t) := by
    rw [World.alloc]
    exact Array.getElem?_push_size
  refine ⟨by simp, ?_, ?_, ?_, ?_, ?_, ?_, ?_⟩ <;> (simp only [World.cell?, hb]; rfl)
theorem bel_alloc (w : World) (o : Obj) : Below w.heap.size w (w.alloc o) := (Below.refl _ _).alloc (Nat.le_refl _) _
theorem Below.on {w w1 w2 : World} (h1 : Below w.heap.size w w1) (h2 : Below w1.heap.size w1 w2) : Below w.heap.size w w2 := h1.trans (h2.mono h1.size)
theorem Below.onA {w w1 : World} {o : Obj} (h1 : Below w.heap.size w w1) : Below w.heap.size w (w1.alloc o) := h1.trans ((bel_alloc w1 o).mono h1.size)
theorem Box7.set3 {w : World} {B : Nat} {v0 v1 v2 v3 v4 v5 v6 v : Value} (h : Box7 w B v0 v1 v2 v3 v4 v5 v6) : Box7 (w.setCell ⟨B, 3, none⟩ v) B v0 v1 v2 v v4 v5 v6 := by
  obtain ⟨hl, c0, c1, c2, c3, c4, c5, c6⟩ := h
  refine ⟨by simpa using hl, ?_, ?_, ?_, ?_, ?_, ?_, ?_⟩ <;> simp [go_sem, *]
theorem Box7.set4 {w : World} {B : Nat} {v0 v1 v2 v3 v4 v5 v6 v : Value} (h : Box7 w B v0 v1 v2 v3 v4 v5 v6) : Box7 (w.setCell ⟨B, 4, none⟩ v) B v0 v1 v2 v3 v v5 v6 := by
  obtain ⟨hl, c0, c1, c2, c3, c4, c5, c6⟩ := h
  refine ⟨by simpa using hl, ?_, ?_, ?_, ?_, ?_, ?_, ?_⟩ <;> simp [go_sem, *]
theorem Box7.other {w : World} {B b o : Nat} {v0 v1 v2 v3 v4 v5 v6 v : Value} (h : Box7 w B v0 v1 v2 v3 v4 v5 v6) (hne : b ≠ B) : Box7 (w.setCell ⟨b, o, none⟩ v) B v0 v1 v2 v3 v4 v5 v6 :=
  h.keep (by simpa using h.lt) (fun o2 => World.cell?_setCell_other _ _ _ _ (by intro h; have h2 := congrArg Addr.block h; simp only at h2; omega))
end Go.Proofs.YtcniahgcgfmhpaaGreat
/- laws.szEntry, szEntryS, szNode, szNodeS, szTree: the size of a tree; what is not too great has lists and texts that are not too long. -/
namespace Go.Proofs.YtcniahgcgfmhpaaGreat
open Go.RowKit Go.PlainAid
set_option linter.unusedVariables false
/-- The lists and texts of a node are no longer than n. -/
structure NdFit (n : Nat) (x : Nd) : Prop where
  au : x.A.us.length ≤ n
  ag : x.A.gs.length ≤ n
  du : x.D.us.length ≤ n
  dg : x.D.gs.length ≤ n
  bo : x.bo.size ≤ n
  nl : x.ns.length ≤ n
  nm : ∀ i, i < x.ns.length → (nmAt x.ns i).size ≤ n
set_option maxHeartbeats 1000000 in
theorem szEntry_any (s : ByteArray) (y left : Int) (h0 : 0 ≤ left) (h1 : left ≤ 1048576) (hs : s.size ≤ 9223372036854775807) (w : World) :
    Calls Tryz.prog 99 #[.agg #[.string s, .int .i64 y], .int .i64 left] w fun e w' => e = .returned (.int .i64 (if left < (s.size : Int) then -1 else left - s.size)) ∧ Below w.heap.size w w' := by
  by_cases hl : left < (s.size : Int)
  · rw [if_pos hl]
    have d1 : left - (s.size : Int) < 0 := by omega
    go_enter Tryz.func99, Tryz.ntmps99
    go_wp2
    go_ret
    exact ⟨rfl, bel_alloc _ _⟩
  · rw [if_neg hl]
    have d1 : decide (left - (s.size : Int) < 0) = false := by simp; omega
    go_enter Tryz.func99, Tryz.ntmps99
    go_wp2
    go_ret
    exact ⟨rfl, bel_alloc _ _⟩
set_option maxHeartbeats 2000000 in
theorem szEntryS_any (a : Option Addr) (len cap : Nat) (l : List (ByteArray × Int)) (left : Int) (h0 : 0 ≤ left) (h1 : left ≤ 1048576) (hm : len ≤ 9223372036854775807) (hf : ∀ i, i < len → (nmAt l i).size ≤ 9223372036854775807) (w : World) (hi : Ens a len l w) :
    Calls Tryz.prog 71 #[.slice a len cap, .int .i64 left] w fun e w' => (∃ v : Int, e = .returned (.int .i64 v) ∧ (v = -1 ∨ (0 ≤ v ∧ v ≤ left ∧ len ≤ 1048576 ∧ ∀ i, i < len → (nmAt l i).size ≤ 1048576))) ∧ Below w.heap.size w w' := by
  by_cases hl : left < (len : Int)
  · have d1 : left - (len : Int) < 0 := by omega
    go_enter Tryz.func71, Tryz.ntmps71
    go_wp2
    go_ret
    exact ⟨⟨-1, rfl, .inl rfl⟩, Below.refl _ _⟩
  · have d1 : decide (left - (len : Int) < 0) = false := by simp; omega
    have HI : Hid (Ens a len l w) := hi
    have HF : Hid (∀ i, i < len → (nmAt l i).size ≤ 9223372036854775807) := hf
    clear hi hf
    go_enter Tryz.func71, Tryz.ntmps71
    go_wp2
    go_loopw [5, 1] (fun i q wr => ∃ (k : Nat) (v : Int), k ≤ len ∧ i = .int .i64 k ∧ q = .int .i64 v ∧ 0 ≤ v ∧ v ≤ left ∧ Hid (∀ i, i < k → (nmAt l i).size ≤ 1048576) ∧ Hid (Below w.heap.size w wr)) (fun i _ _ => len - (intOf i).toNat)
    case atStart => exact ⟨0, _, Nat.zero_le _, rfl, rfl, by omega, by omega, fun i hi => absurd hi (by omega), Below.refl _ _⟩
    case round =>
      obtain ⟨k, v, hk, rfl, rfl, hv0, hv1, hg, hB⟩ := hrel
      by_cases hlt : k < len
      · obtain ⟨b, off, rfl, hb, hc⟩ := HI.out.2 (by omega)
        have hlt' : (k : Int) < (len : Int) := by omega
        have g0 : wr.cell? ⟨b, off + k * 2, none⟩ = some (.string (nmAt l k)) := (hB.out.cell (p := ⟨b, off + k * 2, none⟩) hb).trans (hc k hlt).1
        have g1 : wr.cell? ⟨b, off + k * 2 + 1, none⟩ = some (.int .i64 (noAt l k)) := (hB.out.cell (p := ⟨b, off + k * 2 + 1, none⟩) hb).trans (hc k hlt).2
        have hs := HF.out k hlt
        clear hc HI d1
        go_wp2_with fail
        refine (szEntry_any _ _ _ hv0 (by omega) hs _).mono ?_
        rintro e w1 ⟨rfl, hb1⟩
        have hB1 : Hid (Below w.heap.size w w1) := Below.on hB.out hb1
        clear hb1 hB g0 g1
        by_cases hs2 : v < ((nmAt l k).size : Int)
        · rw [if_pos hs2]
          go_wp2
          go_ret
          exact ⟨⟨-1, rfl, .inl rfl⟩, hB1.out⟩
        · rw [if_neg hs2]
          have d2 : decide (v - ((nmAt l k).size : Int) < 0) = false := by simp; omega
          have hg2 : Hid (∀ i, i < k + 1 → (nmAt l i).size ≤ 1048576) := (fun i hi => by
            by_cases e : i = k
            · rw [e]; omega
            · exact hg.out i (by omega))
          go_wp2
          go_roundw
          case rel => exact ⟨k + 1, _, by omega, by go_num, rfl, by omega, by omega, hg2, hB1⟩
          case measure => simp [intOf]; omega
      · have : k = len := by omega
        subst this
        go_wp2
        go_ret
        exact ⟨⟨v, rfl, .inr ⟨hv0, hv1, by omega, hg.out⟩⟩, hB.out⟩
theorem szB_cases {left : Int} {lu lg : Nat} (h0 : 0 ≤ left) (h1 : left ≤ 1048576) : szB left lu lg = -1 ∨ (0 ≤ szB left lu lg ∧ szB left lu lg ≤ left ∧ lu ≤ 1048576 ∧ lg ≤ 1048576) := by
  unfold szB
  by_cases hl : left < (lu : Int)
  · rw [if_pos hl]; exact .inl rfl
  · rw [if_neg hl]
    by_cases hl2 : left - (lu : Int) < (lg : Int)
    · rw [if_pos hl2]; exact .inl rfl
    · rw [if_neg hl2]; right; omega
set_option maxHeartbeats 4000000 in
theorem szNode_any (x : Nd) (y : Na) (left : Int) (h0 : 0 ≤ left) (h1 : left ≤ 1048576) (hf : NdFit 9223372036854775807 x) (w : World) (hi : NdIn w x y) :
    Calls Tryz.prog 45 #[.agg (ndV x y).toArray, .int .i64 left] w fun e w' => (∃ v : Int, e = .returned (.int .i64 v) ∧ (v = -1 ∨ (0 ≤ v ∧ v ≤ left ∧ NdFit 1048576 x))) ∧ Below w.heap.size w w' := by
  have HF : Hid (NdFit 9223372036854775807 x) := hf
  have HB : Hid (Below w.heap.size w (w.alloc (.cells (ndV x y).toArray 75))) := bel_alloc _ _
  have HX : Hid (BoxR (w.alloc (.cells (ndV x y).toArray 75)) w.heap.size (ndV x y)) := boxR_new _ _ _
  have HI : Hid (NdIn (w.alloc (.cells (ndV x y).toArray 75)) x y) := hi.below HB.out
  clear hi hf
  go_enter Tryz.func45, Tryz.ntmps45
  go_upto_region 1 with fail
  generalize w.alloc (.cells (ndV x y).toArray 75) = w0 at HB HX HI ⊢
  obtain ⟨X, hX⟩ : ∃ X, X = w.heap.size := ⟨_, rfl⟩
  rw [← hX] at HX ⊢
  clear hX
  have N0 : N24 w0 X 0 x y := HX.out.at0
  obtain ⟨c4, c5, c6, c7, c8, c9, c10⟩ := N24.lA N0
  simp only [Nat.zero_add] at c4 c5 c6 c7 c8 c9 c10
  clear N0
  go_wp2_with fail
  refine (szAcl_any x.A.u x.A.g x.A.o _ _ _ _ _ _ x.A.r x.A.m left h0 h1 HF.out.au HF.out.ag _).mono ?_
  rintro e w1 ⟨rfl, hb⟩
  have hW1 : Hid (Below w.heap.size w w1) := Below.on HB.out hb
  have HX1 : Hid (BoxR w1 X (ndV x y)) := HX.out.below hb
  have HI1 : Hid (NdIn w1 x y) := HI.out.below hb
  clear hb HX HI HB c4 c5 c6 c7 c8 c9 c10
  have hq := szB_cases (lu := x.A.us.length) (lg := x.A.gs.length) h0 h1
  generalize szB left x.A.us.length x.A.gs.length = v1 at hq ⊢
  rcases hq with rfl | ⟨p0, p1, p2, p3⟩
  · go_wp2
    go_ret
    exact ⟨⟨-1, rfl, .inl rfl⟩, hW1.out⟩
  have d1 : decide (v1 < 0) = false := by simp; omega
  obtain ⟨c4, c5, c6, c7, c8, c9, c10⟩ := N24.lD HX1.out.at0
  simp only [Nat.zero_add] at c4 c5 c6 c7 c8 c9 c10
  go_wp2_with fail
  refine (szAcl_any x.D.u x.D.g x.D.o _ _ _ _ _ _ x.D.r x.D.m v1 p0 (by omega) HF.out.du HF.out.dg _).mono ?_
  rintro e w2 ⟨rfl, hb⟩
  have hW2 : Hid (Below w.heap.size w w2) := Below.on hW1.out hb
  have HX2 : Hid (BoxR w2 X (ndV x y)) := HX1.out.below hb
  have HI2 : Hid (NdIn w2 x y) := HI1.out.below hb
  clear hb HX1 hW1 HI1 d1 c4 c5 c6 c7 c8 c9 c10
  have hq := szB_cases (lu := x.D.us.length) (lg := x.D.gs.length) p0 (show v1 ≤ 1048576 by omega)
  generalize szB v1 x.D.us.length x.D.gs.length = v2 at hq ⊢
  rcases hq with rfl | ⟨q0, q1, q2, q3⟩
  · go_wp2
    go_ret
    exact ⟨⟨-1, rfl, .inl rfl⟩, hW2.out⟩
  have d1 : decide (v2 < 0) = false := by simp; omega
  have c21 := N24.c21 HX2.out.at0
  have c22 := N24.c22 HX2.out.at0
  simp only [Nat.zero_add] at c21 c22
  have hbo := HF.out.bo
  by_cases hl : v2 < (x.bo.size : Int)
  · have d2 : v2 - (x.bo.size : Int) < 0 := by omega
    go_wp2
    go_ret
    exact ⟨⟨-1, rfl, .inl rfl⟩, hW2.out⟩
  have d2 : decide (v2 - (x.bo.size : Int) < 0) = false := by simp; omega
  go_wp2_with fail
  refine (szEntryS_any _ _ _ x.ns (v2 - x.bo.size) (by omega) (by omega) HF.out.nl HF.out.nm _ HI2.out.nA).mono ?_
  rintro e w3 ⟨⟨v, rfl, hv⟩, hb⟩
  have hW3 : Hid (Below w.heap.size w w3) := Below.on hW2.out hb
  clear hb
  rcases hv with rfl | ⟨r0, r1, r2, r3⟩
  · go_wp2
    go_ret
    exact ⟨⟨-1, rfl, .inl rfl⟩, hW3.out⟩
  have d3 : decide (v < 0) = false := by simp; omega
  go_wp2
  go_ret
  exact ⟨⟨v, rfl, .inr ⟨r0, by omega, ⟨p2, p3, q2, q3, by omega, r2, r3⟩⟩⟩, hW3.out⟩
set_option maxHeartbeats 4000000 in
theorem szNodeS_any (a : Option Addr) (len cap : Nat) (l : List Nd) (left : Int) (h0 : 0 ≤ left) (h1 : left ≤ 1048576) (hm : len ≤ 9223372036854775807) (hf : ∀ i, i < len → NdFit 9223372036854775807 (ndAt l i)) (w : World) (hi : Nds a len l w) :
    Calls Tryz.prog 19 #[.slice a len cap, .int .i64 left] w fun e w' => (∃ v : Int, e = .returned (.int .i64 v) ∧ (v = -1 ∨ (0 ≤ v ∧ v ≤ left ∧ len ≤ 1048576 ∧ ∀ i, i < len → NdFit 1048576 (ndAt l i)))) ∧ Below w.heap.size w w' := by
  by_cases hl : left < (len : Int)
  · have d1 : left - (len : Int) < 0 := by omega
    go_enter Tryz.func19, Tryz.ntmps19
    go_wp2
    go_ret
    exact ⟨⟨-1, rfl, .inl rfl⟩, Below.refl _ _⟩
  · have d1 : decide (left - (len : Int) < 0) = false := by simp; omega
    have HI : Hid (Nds a len l w) := hi
    have HF : Hid (∀ i, i < len → NdFit 9223372036854775807 (ndAt l i)) := hf
    clear hi hf
    go_enter Tryz.func19, Tryz.ntmps19
    go_wp2
    go_loopw [5, 1] (fun i q wr => ∃ (k : Nat) (v : Int), k ≤ len ∧ i = .int .i64 k ∧ q = .int .i64 v ∧ 0 ≤ v ∧ v ≤ left ∧ Hid (∀ i, i < k → NdFit 1048576 (ndAt l i)) ∧ Hid (Below w.heap.size w wr)) (fun i _ _ => len - (intOf i).toNat)
    case atStart => exact ⟨0, _, Nat.zero_le _, rfl, rfl, by omega, by omega, fun i hi => absurd hi (by omega), Below.refl _ _⟩
    case round =>
      obtain ⟨k, v, hk, rfl, rfl, hv0, hv1, hg, hB⟩ := hrel
      by_cases hlt : k < len
      · obtain ⟨b, off, Y, rfl, hb, hc⟩ := HI.out.2 (by omega)
        have hlt' : (k : Int) < (len : Int) := by omega
        have HN : Hid (NdIn wr (ndAt l k) (Y k)) := (hc k hlt).2.below hB.out
        have hG := range_below (hc k hlt).1 hb hB.out
        have hs := HF.out k hlt
        clear hc HI d1
        have hgk : Hid (NdFit 1048576 (ndAt l k) → ∀ i, i < k + 1 → NdFit 1048576 (ndAt l i)) := (fun h i hi => by
          by_cases e : i = k
          · rw [e]; exact h
          · exact hg.out i (by omega))
        generalize ndAt l k = x at HN hG hs hgk
        generalize Y k = y at HN hG
        have HG : Hid (N24 wr b (off + k * 24) x y) := hG
        clear hG
        go_wp2_with (refine wpList_load_mid (by rfl) 75 _ (by rfl) _ _ (by rfl) _ _ HG.out Tryz.underlying75 rfl (by kernel_rfl) ?_)
        refine (szNode_any x y v hv0 (by omega) hs _ HN.out).mono ?_
        rintro e w1 ⟨⟨v1, rfl, hv⟩, hb1⟩
        have hB1 : Hid (Below w.heap.size w w1) := Below.on hB.out hb1
        clear hb1 hB HG
        rcases hv with rfl | ⟨r0, r1, r2⟩
        · go_wp2
          go_ret
          exact ⟨⟨-1, rfl, .inl rfl⟩, hB1.out⟩
        · have d2 : decide (v1 < 0) = false := by simp; omega
          have hg2 : Hid (∀ i, i < k + 1 → NdFit 1048576 (ndAt l i)) := hgk.out r2
          go_wp2
          go_roundw
          case rel => exact ⟨k + 1, _, by omega, by go_num, rfl, by omega, by omega, hg2, hB1⟩
          case measure => simp [intOf]; omega
      · have : k = len := by omega
        subst this
        go_wp2
        go_ret
        exact ⟨⟨v, rfl, .inr ⟨hv0, hv1, by omega, hg.out⟩⟩, hB.out⟩
set_option maxHeartbeats 4000000 in
theorem szTree_any (a : Option Addr) (len cap : Nat) (l : List Nd) (now left : Int) (h0 : 0 ≤ left) (h1 : left ≤ 1048576) (hm : len ≤ 9223372036854775807) (hf : ∀ i, i < len → NdFit 9223372036854775807 (ndAt l i)) (w : World) (hi : Nds a len l w) :
    Calls Tryz.prog 5 #[.agg #[.slice a len cap, .int .i64 now], .int .i64 left] w fun e w' => (∃ v : Int, e = .returned (.int .i64 v) ∧ (v = -1 ∨ (0 ≤ v ∧ v ≤ left ∧ len ≤ 1048576 ∧ ∀ i, i < len → NdFit 1048576 (ndAt l i)))) ∧ Below w.heap.size w w' := by
  have HI : Hid (Nds a len l w) := hi
  have HF : Hid (∀ i, i < len → NdFit 9223372036854775807 (ndAt l i)) := hf
  clear hi hf
  go_enter Tryz.func5, Tryz.ntmps5
  go_wp2_with fail
  refine (szNodeS_any a len cap l left h0 h1 hm HF.out _ (HI.out.below (bel_alloc _ _))).mono ?_
  rintro e w1 ⟨⟨v, rfl, hv⟩, hb⟩
  have hW1 : Hid (Below w.heap.size w w1) := Below.on (bel_alloc _ _) hb
  clear hb
  rcases hv with rfl | ⟨r0, r1, r2, r3⟩
  · go_wp2
    go_ret
    exact ⟨⟨-1, rfl, .inl rfl⟩, hW1.out⟩
  · have d2 : decide (v < 0) = false := by simp; omega
    go_wp2
    go_ret
    exact ⟨⟨v, rfl, .inr ⟨r0, r1, r2, r3⟩⟩, hW1.out⟩
end Go.Proofs.YtcniahgcgfmhpaaGreat
