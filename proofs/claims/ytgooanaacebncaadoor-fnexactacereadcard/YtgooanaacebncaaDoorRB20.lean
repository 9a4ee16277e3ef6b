/- Laid together: AceRd, AceReadLaw. -/
import Derived.Test.YtgooanaacebncaaDoorRB19
/- AceRead of both sides. -/
namespace Go.Proofs.YtgooanaacebncaaDoor
open Go.RowKit Go.PlainAid Go.Deep
set_option linter.unusedVariables false
/-- AceRead. -/
def aceO (t : List UInt8) : Ac × Int := if 8000 < t.length then (acZ, 2) else match aceI t with
  | some x => (x, 0)
  | none => (acZ, 3)
theorem aceO_long {t : List UInt8} (h : 8000 < t.length) : aceO t = (acZ, 2) := by rw [aceO, if_pos h]
theorem aceO_yes {t : List UInt8} {x : Ac} (h : ¬ 8000 < t.length) (hx : aceI t = some x) : aceO t = (x, 0) := by rw [aceO, if_neg h, hx]
theorem aceO_no {t : List UInt8} (h : ¬ 8000 < t.length) (hx : aceI t = none) : aceO t = (acZ, 3) := by rw [aceO, if_neg h, hx]
/-- Six cells that may be written, all zero. -/
structure Wr6 (w : World) (b : Nat) : Prop where
  lt : b < w.heap.size
  c0 : w.cell? ⟨b, 0, none⟩ = some (.bool false)
  c1 : w.cell? ⟨b, 1, none⟩ = some (.int .i64 0)
  c2 : w.cell? ⟨b, 2, none⟩ = some (.int .i64 0)
  c3 : w.cell? ⟨b, 3, none⟩ = some (.int .i64 0)
  c4 : w.cell? ⟨b, 4, none⟩ = some (.int .i64 0)
  c5 : w.cell? ⟨b, 5, none⟩ = some (.int .i64 0)
  z : ∀ o, w.frozen? ⟨b, o, none⟩ = false
theorem Wr6.below {w w' : World} {b : Nat} (h : Wr6 w b) (hb : Below w.heap.size w w') : Wr6 w' b := by
  have hc := fun o => hb.cell (p := ⟨b, o, none⟩) h.lt
  exact ⟨Nat.lt_of_lt_of_le h.lt hb.size, (hc 0).trans h.c0, (hc 1).trans h.c1, (hc 2).trans h.c2, (hc 3).trans h.c3, (hc 4).trans h.c4, (hc 5).trans h.c5, fun o => (hb.frozen (p := ⟨b, o, none⟩) h.lt).trans (h.z o)⟩
theorem wr6_new (w : World) (t : TypeId) : Wr6 (w.alloc (.cells #[.bool false, .int .i64 0, .int .i64 0, .int .i64 0, .int .i64 0, .int .i64 0] t)) w.heap.size := by
  have hb : (w.alloc (.cells #[.bool false, .int .i64 0, .int .i64 0, .int .i64 0, .int .i64 0, .int .i64 0] t)).heap[w.heap.size]? = some (.cells #[.bool false, .int .i64 0, .int .i64 0, .int .i64 0, .int .i64 0, .int .i64 0] t) := by
    rw [World.alloc]
    exact Array.getElem?_push_size
  refine ⟨by simp, ?_, ?_, ?_, ?_, ?_, ?_, fun o => ?_⟩
  · simp only [World.cell?, hb]; rfl
  · simp only [World.cell?, hb]; rfl
  · simp only [World.cell?, hb]; rfl
  · simp only [World.cell?, hb]; rfl
  · simp only [World.cell?, hb]; rfl
  · simp only [World.cell?, hb]; rfl
  · unfold World.frozen?
    simp only [hb]
    simp
set_option maxRecDepth 100000 in
set_option maxHeartbeats 4000000 in
/-- spec.AceRead. -/
theorem sAceRead_any (s : ByteArray) (hs : s.size ≤ 1048576) (w : World) :
    Calls Tryd.prog 28 #[.string s] w fun e w' => e = .returned (.agg #[.bool (aceO s.data.toList).1.al, .int .i64 (aceO s.data.toList).1.wh, .int .i64 (aceO s.data.toList).1.id, .int .i64 (aceO s.data.toList).1.fl, .int .i64 (aceO s.data.toList).1.ma, .int .i64 (aceO s.data.toList).2]) ∧ Below w.heap.size w w' := by
  have hls : s.data.toList.length = s.size := (Lib.size_eq s).symm
  have hY : Hid (Wr6 (w.alloc (.cells #[.bool false, .int .i64 0, .int .i64 0, .int .i64 0, .int .i64 0, .int .i64 0] 52)) w.heap.size) := wr6_new w _
  have hW0 : Hid (Below w.heap.size w (w.alloc (.cells #[.bool false, .int .i64 0, .int .i64 0, .int .i64 0, .int .i64 0, .int .i64 0] 52))) := bel_alloc _ _
  by_cases h8 : 8000 < s.size
  · have hO : Hid (aceO s.data.toList = (acZ, 2)) := aceO_long (by omega)
    have h8' : (8000 : Int) < (s.size : Int) := by omega
    clear hls h8
    go_enter Tryd.func28, Tryd.ntmps28
    go_wp2
    refine bodyPost_ret (v := .agg #[.bool false, .int .i64 0, .int .i64 0, .int .i64 0, .int .i64 0, .int .i64 2]) (by simp [results, Tryd.results28, go_sem]) rfl ⟨by rw [hO.out]; rfl, ?_⟩
    repeat (refine bl_setA ?_ (Nat.le_refl _))
    exact bel_alloc _ _
  have h8' : ¬ (8000 : Int) < (s.size : Int) := by omega
  have HR : Hid (∀ w, Calls Tryd.prog 64 #[.string s] w fun e w' => e = .returned (.agg #[.bool (aceS s.data.toList).al, .int .i64 (aceS s.data.toList).wh, .int .i64 (aceS s.data.toList).id, .int .i64 (aceS s.data.toList).fl, .int .i64 (aceS s.data.toList).ma]) ∧ Below w.heap.size w w') := sRead_any s (by omega)
  have HT : Hid (∀ w, Calls Tryd.prog 65 #[.agg #[.bool (aceS s.data.toList).al, .int .i64 (aceS s.data.toList).wh, .int .i64 (aceS s.data.toList).id, .int .i64 (aceS s.data.toList).fl, .int .i64 (aceS s.data.toList).ma]] w fun e w' => e = .returned (.string (aceT (aceS s.data.toList))) ∧ Below w.heap.size w w') := sAceText_any _
  have hend : (s.data.toList ≠ [] ∧ aceT (aceS s.data.toList) = s ∧ aceO s.data.toList = (aceS s.data.toList, 0)) ∨ (s.data.toList = [] ∧ aceO s.data.toList = (acZ, 3)) ∨ (s.data.toList ≠ [] ∧ aceT (aceS s.data.toList) ≠ s ∧ aceO s.data.toList = (acZ, 3)) := by
    rcases ace_key s.data.toList with ⟨x, h1, h2, h3, h4⟩ | ⟨h1, h2⟩
    · left
      have e1 : aceT x = s := by
        apply ByteArray.ext
        apply Array.toList_inj.1
        exact h2.symm
      refine ⟨fun e => (ace_back h1).2.2 (by rw [e1]; apply ByteArray.ext; apply Array.toList_inj.1; simpa using e), by rw [h4]; exact e1, by rw [h4]; exact aceO_yes (by omega) h3⟩
    · right
      have hno := aceO_no (t := s.data.toList) (by omega) h1
      by_cases h0 : s.data.toList = []
      · exact .inl ⟨h0, hno⟩
      · refine .inr ⟨h0, fun e => ?_, hno⟩
        cases hb : aceB (aceS s.data.toList)
        · rw [aceT, hb] at e
          exact h0 (by rw [← e]; rfl)
        · exact h2 _ hb (by rw [e])
  have HE : Hid _ := hend
  clear hend hls h8 hs
  go_enter Tryd.func28, Tryd.ntmps28
  go_wp2_with fail
  refine (HR.out _).mono ?_
  rintro e w1 ⟨rfl, hb1⟩
  have hY1 : Hid (Wr6 w1 w.heap.size) := hY.out.below hb1
  have hW1 : Hid (Below w.heap.size w w1) := Below.on hW0.out hb1
  clear hb1 hY hW0 HR
  generalize aceS s.data.toList = x at HT HE ⊢
  go_upto_region 4 with fail
  have hF2 : Hid (Five (w1.alloc (.cells #[.bool x.al, .int .i64 x.wh, .int .i64 x.id, .int .i64 x.fl, .int .i64 x.ma] 50)) w1.heap.size 0 x) := five_new w1 x _
  have hY2 : Hid (Wr6 (w1.alloc (.cells #[.bool x.al, .int .i64 x.wh, .int .i64 x.id, .int .i64 x.fl, .int .i64 x.ma] 50)) w.heap.size) := hY1.out.below (bel_alloc _ _)
  have hW2 : Hid (Below w.heap.size w (w1.alloc (.cells #[.bool x.al, .int .i64 x.wh, .int .i64 x.id, .int .i64 x.fl, .int .i64 x.ma] 50))) := Below.onA hW1.out
  have hz2 : Hid (w1.heap.size < (w1.alloc (.cells #[.bool x.al, .int .i64 x.wh, .int .i64 x.id, .int .i64 x.fl, .int .i64 x.ma] 50)).heap.size) := (show _ < _ by simp)
  generalize w1.alloc (.cells #[.bool x.al, .int .i64 x.wh, .int .i64 x.id, .int .i64 x.fl, .int .i64 x.ma] 50) = w2 at hF2 hY2 hW2 hz2 ⊢
  generalize w1.heap.size = X at hF2 hz2 ⊢
  clear hY1 hW1
  obtain ⟨c0, c1, c2, c3, c4⟩ := hF2.out
  simp only [Nat.zero_add] at c0 c1 c2 c3 c4
  rcases HE.out with ⟨h0, h1, h2⟩ | ⟨h0, h2⟩ | ⟨h0, h1, h2⟩
  · have e0 : s.toList.isEmpty = false := by
      rw [ByteArray.toList_eq, List.isEmpty_eq_false_iff]
      exact h0
    rw [h1] at HT
    have hO : Hid (aceO s.data.toList = (x, 0)) := h2
    clear h0 h1 h2 HE
    go_wp2_with fail
    refine (HT.out _).mono ?_
    rintro e w3 ⟨rfl, hb3⟩
    have hY3 : Hid (Wr6 w3 w.heap.size) := hY2.out.below hb3
    have hF3 : Hid (Five w3 X 0 x) := hF2.out.below hz2.out hb3
    have hW3 : Hid (Below w.heap.size w w3) := Below.on hW2.out hb3
    clear hb3 c0 c1 c2 c3 c4 hY2 hF2 hW2
    obtain ⟨c0, c1, c2, c3, c4⟩ := hF3.out
    simp only [Nat.zero_add] at c0 c1 c2 c3 c4
    obtain ⟨yl, y0, y1, y2, y3, y4, y5, yz⟩ := hY3.out
    have yz0 := yz 0
    have yz1 := yz 1
    have yz2 := yz 2
    have yz3 := yz 3
    have yz4 := yz 4
    have yz5 := yz 5
    clear yz
    go_wp2
    refine bodyPost_ret (v := .agg #[.bool x.al, .int .i64 x.wh, .int .i64 x.id, .int .i64 x.fl, .int .i64 x.ma, .int .i64 0]) (by simp [results, Tryd.results28, go_sem, y0, y1, y2, y3, y4, y5]) rfl ⟨by rw [hO.out], ?_⟩
    repeat (refine bl_setA ?_ (Nat.le_refl _))
    exact hW3.out
  · have e0 : s.toList.isEmpty = true := tl_empty h0
    have hO : Hid (aceO s.data.toList = (acZ, 3)) := h2
    clear h0 h2 HE HT
    obtain ⟨yl, y0, y1, y2, y3, y4, y5, yz⟩ := hY2.out
    have yz0 := yz 0
    have yz1 := yz 1
    have yz2 := yz 2
    have yz3 := yz 3
    have yz4 := yz 4
    have yz5 := yz 5
    clear yz
    go_wp2
    refine bodyPost_ret (v := .agg #[.bool false, .int .i64 0, .int .i64 0, .int .i64 0, .int .i64 0, .int .i64 3]) (by simp [results, Tryd.results28, go_sem, y0, y1, y2, y3, y4, y5]) rfl ⟨by rw [hO.out, acZ], ?_⟩
    repeat (refine bl_setA ?_ (Nat.le_refl _))
    exact hW2.out
  · have e0 : s.toList.isEmpty = false := by
      rw [ByteArray.toList_eq, List.isEmpty_eq_false_iff]
      exact h0
    have e1 : ((aceT x).toList == s.toList) = false := by
      rw [ByteArray.toList_eq, ByteArray.toList_eq]
      exact beq_eq_false_iff_ne.2 (fun e => h1 (by apply ByteArray.ext; apply Array.toList_inj.1; exact e))
    have hO : Hid (aceO s.data.toList = (acZ, 3)) := h2
    clear h0 h2 HE
    generalize aceT x = TX at HT e1 h1
    go_wp2_with fail
    refine (HT.out _).mono ?_
    rintro e w3 ⟨rfl, hb3⟩
    have hY3 : Hid (Wr6 w3 w.heap.size) := hY2.out.below hb3
    have hW3 : Hid (Below w.heap.size w w3) := Below.on hW2.out hb3
    clear hb3 c0 c1 c2 c3 c4 hY2 hF2 hW2
    obtain ⟨yl, y0, y1, y2, y3, y4, y5, yz⟩ := hY3.out
    have yz0 := yz 0
    have yz1 := yz 1
    have yz2 := yz 2
    have yz3 := yz 3
    have yz4 := yz 4
    have yz5 := yz 5
    clear yz
    go_wp2
    refine bodyPost_ret (v := .agg #[.bool false, .int .i64 0, .int .i64 0, .int .i64 0, .int .i64 0, .int .i64 3]) (by simp [results, Tryd.results28, go_sem, y0, y1, y2, y3, y4, y5]) rfl ⟨by rw [hO.out, acZ], ?_⟩
    repeat (refine bl_setA ?_ (Nat.le_refl _))
    exact hW3.out
/-- impl.readAce. -/
theorem iReadA_any (s : ByteArray) (m : Int) (hs : s.size ≤ 8000) (w : World) (hm : w.cell? ⟨1, 0, none⟩ = some (.int .i64 m)) :
    Calls Tryd.prog 66 #[.string s] w (AceEnd s.data.toList w) := by
  by_cases h4 : (spl 58 s.data.toList).length = 4
  · match e : spl 58 s.data.toList, h4 with
    | [a, b, c, d], _ => exact iReadA_four s ⟨a.toArray⟩ ⟨b.toArray⟩ ⟨c.toArray⟩ ⟨d.toArray⟩ m hs (by rw [e]) w hm
  · exact iReadA_not s m hs h4 w hm
set_option maxRecDepth 100000 in
set_option maxHeartbeats 4000000 in
/-- impl.AceRead. -/
theorem iAceRead_any (s : ByteArray) (m : Int) (hs : s.size ≤ 1048576) (w : World) (hm : w.cell? ⟨1, 0, none⟩ = some (.int .i64 m)) :
    Calls Tryd.prog 29 #[.string s] w fun e w' => e = .returned (.agg #[.bool (aceO s.data.toList).1.al, .int .i64 (aceO s.data.toList).1.wh, .int .i64 (aceO s.data.toList).1.id, .int .i64 (aceO s.data.toList).1.fl, .int .i64 (aceO s.data.toList).1.ma, .int .i64 (aceO s.data.toList).2]) ∧ Below w.heap.size w w' := by
  have hlt := block_lt_of_cell hm
  have hls : s.data.toList.length = s.size := (Lib.size_eq s).symm
  have hY : Hid (Wr6 (w.alloc (.cells #[.bool false, .int .i64 0, .int .i64 0, .int .i64 0, .int .i64 0, .int .i64 0] 52)) w.heap.size) := wr6_new w _
  have hW0 : Hid (Below w.heap.size w (w.alloc (.cells #[.bool false, .int .i64 0, .int .i64 0, .int .i64 0, .int .i64 0, .int .i64 0] 52))) := bel_alloc _ _
  by_cases h8 : 8000 < s.size
  · have hO : Hid (aceO s.data.toList = (acZ, 2)) := aceO_long (by omega)
    have h8' : (8000 : Int) < (s.size : Int) := by omega
    clear hls h8 hm hlt
    go_enter Tryd.func29, Tryd.ntmps29
    go_wp2
    refine bodyPost_ret (v := .agg #[.bool false, .int .i64 0, .int .i64 0, .int .i64 0, .int .i64 0, .int .i64 2]) (by simp [results, Tryd.results29, go_sem]) rfl ⟨by rw [hO.out]; rfl, ?_⟩
    repeat (refine bl_setA ?_ (Nat.le_refl _))
    exact bel_alloc _ _
  have h8' : ¬ (8000 : Int) < (s.size : Int) := by omega
  have HR : Hid (Calls Tryd.prog 66 #[.string s] (w.alloc (.cells #[.bool false, .int .i64 0, .int .i64 0, .int .i64 0, .int .i64 0, .int .i64 0] 52)) (AceEnd s.data.toList (w.alloc (.cells #[.bool false, .int .i64 0, .int .i64 0, .int .i64 0, .int .i64 0, .int .i64 0] 52)))) := iReadA_any s m (by omega) _ ((hW0.out.cell (p := ⟨_, 0, none⟩) hlt).trans hm)
  have HY : Hid (∀ x, aceI s.data.toList = some x → aceO s.data.toList = (x, 0)) := (fun x hx => aceO_yes (by omega) hx)
  have HN : Hid (aceI s.data.toList = none → aceO s.data.toList = (acZ, 3)) := (fun hx => aceO_no (by omega) hx)
  clear hlt hm hls h8 hs
  go_enter Tryd.func29, Tryd.ntmps29
  go_wp2_with fail
  refine HR.out.mono ?_
  rintro e w1 ⟨hb1, ⟨hn, rfl⟩ | ⟨x, hx, rfl⟩⟩
  · have hO : Hid (aceO s.data.toList = (acZ, 3)) := HN.out hn
    have hY1 : Hid (Wr6 w1 w.heap.size) := hY.out.below hb1
    have hW1 : Hid (Below w.heap.size w w1) := Below.on hW0.out hb1
    clear hb1 hY hW0 HR HY HN hn
    go_upto_region 4 with fail
    have hY2 : Hid (Wr6 (w1.alloc (.cells #[.bool false, .int .i64 0, .int .i64 0, .int .i64 0, .int .i64 0] 50)) w.heap.size) := hY1.out.below (bel_alloc _ _)
    have hW2 : Hid (Below w.heap.size w (w1.alloc (.cells #[.bool false, .int .i64 0, .int .i64 0, .int .i64 0, .int .i64 0] 50))) := Below.onA hW1.out
    generalize w1.alloc (.cells #[.bool false, .int .i64 0, .int .i64 0, .int .i64 0, .int .i64 0] 50) = w2 at hY2 hW2 ⊢
    clear hY1 hW1
    obtain ⟨yl, y0, y1, y2, y3, y4, y5, yz⟩ := hY2.out
    have yz0 := yz 0
    have yz1 := yz 1
    have yz2 := yz 2
    have yz3 := yz 3
    have yz4 := yz 4
    have yz5 := yz 5
    clear yz
    go_wp2
    refine bodyPost_ret (v := .agg #[.bool false, .int .i64 0, .int .i64 0, .int .i64 0, .int .i64 0, .int .i64 3]) (by simp [results, Tryd.results29, go_sem, y0, y1, y2, y3, y4, y5]) rfl ⟨by rw [hO.out, acZ], ?_⟩
    repeat (refine bl_setA ?_ (Nat.le_refl _))
    exact hW2.out
  · have hO : Hid (aceO s.data.toList = (x, 0)) := HY.out x hx
    have hY1 : Hid (Wr6 w1 w.heap.size) := hY.out.below hb1
    have hW1 : Hid (Below w.heap.size w w1) := Below.on hW0.out hb1
    clear hb1 hY hW0 HR HY HN hx
    go_upto_region 4 with fail
    have hF2 : Hid (Five (w1.alloc (.cells #[.bool x.al, .int .i64 x.wh, .int .i64 x.id, .int .i64 x.fl, .int .i64 x.ma] 50)) w1.heap.size 0 x) := five_new w1 x _
    have hY2 : Hid (Wr6 (w1.alloc (.cells #[.bool x.al, .int .i64 x.wh, .int .i64 x.id, .int .i64 x.fl, .int .i64 x.ma] 50)) w.heap.size) := hY1.out.below (bel_alloc _ _)
    have hW2 : Hid (Below w.heap.size w (w1.alloc (.cells #[.bool x.al, .int .i64 x.wh, .int .i64 x.id, .int .i64 x.fl, .int .i64 x.ma] 50))) := Below.onA hW1.out
    generalize w1.alloc (.cells #[.bool x.al, .int .i64 x.wh, .int .i64 x.id, .int .i64 x.fl, .int .i64 x.ma] 50) = w2 at hF2 hY2 hW2 ⊢
    generalize w1.heap.size = X at hF2 ⊢
    clear hY1 hW1
    obtain ⟨c0, c1, c2, c3, c4⟩ := hF2.out
    simp only [Nat.zero_add] at c0 c1 c2 c3 c4
    obtain ⟨yl, y0, y1, y2, y3, y4, y5, yz⟩ := hY2.out
    have yz0 := yz 0
    have yz1 := yz 1
    have yz2 := yz 2
    have yz3 := yz 3
    have yz4 := yz 4
    have yz5 := yz 5
    clear yz
    go_wp2
    refine bodyPost_ret (v := .agg #[.bool x.al, .int .i64 x.wh, .int .i64 x.id, .int .i64 x.fl, .int .i64 x.ma, .int .i64 0]) (by simp [results, Tryd.results29, go_sem, y0, y1, y2, y3, y4, y5]) rfl ⟨by rw [hO.out], ?_⟩
    repeat (refine bl_setA ?_ (Nat.le_refl _))
    exact hW2.out
set_option maxHeartbeats 2000000 in
theorem aceRead_long (s : ByteArray) (hl : 1048576 < s.size) (hm : s.size ≤ 9223372036854775807) (w : World) :
    Calls Tryd.prog 6 #[.string s] w fun e w' => e = .returned (.bool true) ∧ Below w.heap.size w w' := by
  have hl' : (1048576 : Int) < (s.size : Int) := by omega
  clear hl hm
  go_enter Tryd.func6, Tryd.ntmps6
  go_wp2
  go_ret
  exact ⟨rfl, Below.refl _ _⟩
theorem six_new (w : World) (x : Ac) (c : Int) (t : TypeId) : Five (w.alloc (.cells #[.bool x.al, .int .i64 x.wh, .int .i64 x.id, .int .i64 x.fl, .int .i64 x.ma, .int .i64 c] t)) w.heap.size 0 x ∧ (w.alloc (.cells #[.bool x.al, .int .i64 x.wh, .int .i64 x.id, .int .i64 x.fl, .int .i64 x.ma, .int .i64 c] t)).cell? ⟨w.heap.size, 5, none⟩ = some (.int .i64 c) := by
  have hb : (w.alloc (.cells #[.bool x.al, .int .i64 x.wh, .int .i64 x.id, .int .i64 x.fl, .int .i64 x.ma, .int .i64 c] t)).heap[w.heap.size]? = some (.cells #[.bool x.al, .int .i64 x.wh, .int .i64 x.id, .int .i64 x.fl, .int .i64 x.ma, .int .i64 c] t) := by
    rw [World.alloc]
    exact Array.getElem?_push_size
  refine ⟨⟨?_, ?_, ?_, ?_, ?_⟩, ?_⟩ <;> (simp only [World.cell?, hb]; rfl)
set_option maxHeartbeats 2000000 in
theorem eqAceOut_same (x : Ac) (c : Int) (w : World) :
    Calls Tryd.prog 30 #[.agg #[.bool x.al, .int .i64 x.wh, .int .i64 x.id, .int .i64 x.fl, .int .i64 x.ma, .int .i64 c], .agg #[.bool x.al, .int .i64 x.wh, .int .i64 x.id, .int .i64 x.fl, .int .i64 x.ma, .int .i64 c]] w fun e w' => e = .returned (.bool true) ∧ Below w.heap.size w w' := by
  have hE : Hid (∀ w, Calls Tryd.prog 67 #[.agg #[.bool x.al, .int .i64 x.wh, .int .i64 x.id, .int .i64 x.fl, .int .i64 x.ma], .agg #[.bool x.al, .int .i64 x.wh, .int .i64 x.id, .int .i64 x.fl, .int .i64 x.ma]] w fun e w' => e = .returned (.bool true) ∧ Below w.heap.size w w') := eqAce_same x
  have hcc : (c != c) = false := by simp
  go_enter Tryd.func30, Tryd.ntmps30
  obtain ⟨hF1, hC1⟩ := six_new w x c 52
  obtain ⟨hF2, hC2⟩ := six_new (w.alloc (.cells #[.bool x.al, .int .i64 x.wh, .int .i64 x.id, .int .i64 x.fl, .int .i64 x.ma, .int .i64 c] 52)) x c 52
  go_wp2_with fail
  refine (hE.out _).mono ?_
  rintro e w1 ⟨rfl, hb1⟩
  have hB : Hid (Below w.heap.size w w1) := Below.on (bl2A _ _ _) hb1
  have d1 := (hb1.cell (p := ⟨w.heap.size, 5, none⟩) (by simp; omega)).trans (((bel_alloc _ _).cell (p := ⟨w.heap.size, 5, none⟩) (by simp)).trans hC1)
  have d2 : w1.cell? ⟨w.heap.size + 1, 5, none⟩ = some (.int .i64 c) := by
    have h3 := (hb1.cell (p := ⟨(w.alloc (.cells #[.bool x.al, .int .i64 x.wh, .int .i64 x.id, .int .i64 x.fl, .int .i64 x.ma, .int .i64 c] 52)).heap.size, 5, none⟩) (by simp)).trans hC2
    have e : (w.alloc (.cells #[.bool x.al, .int .i64 x.wh, .int .i64 x.id, .int .i64 x.fl, .int .i64 x.ma, .int .i64 c] 52)).heap.size = w.heap.size + 1 := by simp
    rwa [e] at h3
  clear hF1 hF2 hC1 hC2 hb1
  go_wp2
  go_ret
  exact ⟨rfl, hB.out⟩
set_option maxRecDepth 100000 in
set_option maxHeartbeats 4000000 in
theorem aceRead_short (s : ByteArray) (m : Int) (hl : s.size ≤ 1048576) (w : World) (hm : w.cell? ⟨1, 0, none⟩ = some (.int .i64 m)) :
    Calls Tryd.prog 6 #[.string s] w fun e w' => e = .returned (.bool true) ∧ Below w.heap.size w w' := by
  have hlt := block_lt_of_cell hm
  have hl' : ¬ (1048576 : Int) < (s.size : Int) := by omega
  have HS := sAceRead_any s hl w
  have HI : ∀ w', Below w.heap.size w w' → _ := fun w' hb => iAceRead_any s m hl w' ((hb.cell (p := ⟨_, 0, none⟩) hlt).trans hm)
  generalize (aceO s.data.toList).1 = x at HS HI
  generalize (aceO s.data.toList).2 = c at HS HI
  have HS' : Hid (Calls Tryd.prog 28 #[.string s] w fun e w' => e = .returned (.agg #[.bool x.al, .int .i64 x.wh, .int .i64 x.id, .int .i64 x.fl, .int .i64 x.ma, .int .i64 c]) ∧ Below w.heap.size w w') := HS
  have HI' : Hid (∀ w', Below w.heap.size w w' → Calls Tryd.prog 29 #[.string s] w' fun e w'' => e = .returned (.agg #[.bool x.al, .int .i64 x.wh, .int .i64 x.id, .int .i64 x.fl, .int .i64 x.ma, .int .i64 c]) ∧ Below w'.heap.size w' w'') := HI
  have HE : Hid (∀ w, Calls Tryd.prog 30 #[.agg #[.bool x.al, .int .i64 x.wh, .int .i64 x.id, .int .i64 x.fl, .int .i64 x.ma, .int .i64 c], .agg #[.bool x.al, .int .i64 x.wh, .int .i64 x.id, .int .i64 x.fl, .int .i64 x.ma, .int .i64 c]] w fun e w' => e = .returned (.bool true) ∧ Below w.heap.size w w') := eqAceOut_same x c
  clear HS HI hlt hm hl
  go_enter Tryd.func6, Tryd.ntmps6
  go_wp2_with fail
  refine HS'.out.mono ?_
  rintro e w1 ⟨rfl, hb1⟩
  have hb2 : Hid (Below w.heap.size w (w1.alloc (.cells #[.bool x.al, .int .i64 x.wh, .int .i64 x.id, .int .i64 x.fl, .int .i64 x.ma, .int .i64 c] 52))) := Below.onA hb1
  have hs2 := six_new w1 x c 52
  have HS2 : Hid _ := hs2
  clear hs2 hb1
  go_wp2_with fail
  refine (HI'.out _ hb2.out).mono ?_
  rintro e w3 ⟨rfl, hb3⟩
  have hW3 : Hid (Below w.heap.size w w3) := Below.on hb2.out hb3
  have hF3 := HS2.out.1.below (by simp) hb3
  have hC3 := (hb3.cell (p := ⟨w1.heap.size, 5, none⟩) (by simp)).trans HS2.out.2
  have hlt3 : w1.heap.size < w3.heap.size := Nat.lt_of_lt_of_le (by simp) hb3.size
  obtain ⟨c0, c1, c2, c3, c4⟩ := hF3
  simp only [Nat.zero_add] at c0 c1 c2 c3 c4
  clear hb3 HS2 hb2 HI' HS'
  go_wp2_with fail
  refine (HE.out _).mono ?_
  rintro e w4 ⟨rfl, hb4⟩
  have hW4 : Hid (Below w.heap.size w w4) := Below.on (Below.onA hW3.out) hb4
  clear hb4
  go_wp2
  go_ret
  exact ⟨rfl, hW4.out⟩
end Go.Proofs.YtgooanaacebncaaDoor
