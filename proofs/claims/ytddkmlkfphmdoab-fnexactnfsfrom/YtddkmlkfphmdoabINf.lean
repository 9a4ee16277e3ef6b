/- NfsFrom of the program. -/
import Derived.Test.YtddkmlkfphmdoabIRs
namespace Go.Proofs.Ytddkmlkfphmdoab
open Go.RowKit Go.PlainAid Go.Deep
set_option linter.unusedVariables false
/-- Three cells of a block. -/
structure Box3 (w : World) (b : Nat) (v0 v1 v2 : Value) : Prop where
  lt : b < w.heap.size
  c0 : w.cell? ⟨b, 0, none⟩ = some v0
  c1 : w.cell? ⟨b, 1, none⟩ = some v1
  c2 : w.cell? ⟨b, 2, none⟩ = some v2
theorem Box3.below {w w' : World} {b : Nat} {v0 v1 v2 : Value} (h : Box3 w b v0 v1 v2) (hb : Below w.heap.size w w') : Box3 w' b v0 v1 v2 :=
  ⟨Nat.lt_of_lt_of_le h.lt hb.size, (hb.cell (p := ⟨b, 0, none⟩) h.lt).trans h.c0, (hb.cell (p := ⟨b, 1, none⟩) h.lt).trans h.c1, (hb.cell (p := ⟨b, 2, none⟩) h.lt).trans h.c2⟩
theorem box3_new (w : World) (v0 v1 v2 : Value) (t : TypeId) : Box3 (w.alloc (.cells #[v0, v1, v2] t)) w.heap.size v0 v1 v2 := by
  have hb : (w.alloc (.cells #[v0, v1, v2] t)).heap[w.heap.size]? = some (.cells #[v0, v1, v2] t) := by
    rw [World.alloc]
    exact Array.getElem?_push_size
  refine ⟨by simp, ?_, ?_, ?_⟩ <;> (simp only [World.cell?, hb]; rfl)
set_option maxRecDepth 100000 in
set_option maxHeartbeats 4000000 in
/-- impl.NfsFrom. -/
theorem iNfsFrom_any (s : ByteArray) (hs : s.size ≤ 1048576) (w : World) :
    Calls Try.prog 5 #[.string s] w (AnsP (nfO s) w) := by
  have hY : Hid (Wr2 (w.alloc (.cells #[.slice none 0 0, .int .i64 0] 24)) w.heap.size) := wr2_new w _
  have hW0 : Hid (Below w.heap.size w (w.alloc (.cells #[.slice none 0 0, .int .i64 0] 24))) := bel_alloc _ _
  have HZ0 : Hid (w.heap.size < (w.alloc (.cells #[.slice none 0 0, .int .i64 0] 24)).heap.size) := (show _ < _ by simp)
  have HU : Hid (∀ w, Calls Try.prog 13 #[.string s] w fun e w' => e = .returned (.agg #[.string (uT s), .int .i64 0, .int .i64 (uC s)]) ∧ Below w.heap.size w w') := iUns_any s (by unfold maxLen; omega)
  by_cases hc : uC s = 0
  · have HR : Hid (∀ w, Calls Try.prog 14 #[.string (uT s)] w (AcsB (uT s) w)) := iReadAces_any (uT s) (by have := (u_zero hc).2.2.2; omega)
    have HNN : Hid (rdNb (uT s) = none → nfO s = ([], 3)) := nfO_none hc
    have HNS : Hid (∀ l, rdNb (uT s) = some l → nfO s = (l, 0)) := (fun l h => nfO_some hc h)
    rw [hc] at HU
    clear hc hs
    generalize uT s = TX at HU HR HNN HNS
    go_enter Try.func5, Try.ntmps5
    go_wp2_with fail
    refine (HU.out _).mono ?_
    rintro e w1 ⟨rfl, hb1⟩
    have hY1 : Hid (Wr2 (w1.alloc (.cells #[.string TX, .int .i64 0, .int .i64 0] 30)) w.heap.size) := (hY.out.below hb1).below (bel_alloc _ _)
    have hW1 : Hid (Below w.heap.size w (w1.alloc (.cells #[.string TX, .int .i64 0, .int .i64 0] 30))) := Below.onA (Below.on hW0.out hb1)
    have hX1 : Hid (Box3 (w1.alloc (.cells #[.string TX, .int .i64 0, .int .i64 0] 30)) w1.heap.size (.string TX) (.int .i64 0) (.int .i64 0)) := box3_new w1 _ _ _ _
    have HZ1 : Hid (w.heap.size < (w1.alloc (.cells #[.string TX, .int .i64 0, .int .i64 0] 30)).heap.size) := (show _ < _ from hY1.out.lt)
    clear hb1 hY hW0 HZ0 HU
    go_upto_region 2 with fail
    generalize w1.alloc (.cells #[.string TX, .int .i64 0, .int .i64 0] 30) = w2 at hY1 hW1 hX1 HZ1 ⊢
    generalize w1.heap.size = X at hX1 ⊢
    obtain ⟨xl, x0, x1, x2⟩ := hX1.out
    go_wp2_with fail
    refine (HR.out _).mono ?_
    rintro e w3 ⟨hb3, ⟨hn, v, rfl⟩ | ⟨l, v, hx, rfl, hOw⟩⟩
    · have hO : Hid (nfO s = ([], 3)) := HNN.out hn
      have hW3 : Hid (Below w.heap.size w w3) := Below.on hW1.out hb3
      have hY3 : Hid (Wr2 w3 w.heap.size) := hY1.out.below hb3
      clear hb3 hY1 hW1 HR hn xl x0 x1 x2 hX1
      obtain ⟨yl, y0, y1, yz⟩ := hY3.out
      have yz0 := yz 0
      have yz1 := yz 1
      clear yz
      go_wp2
      refine bodyPost_ret (v := .agg #[.slice none 0 0, .int .i64 3]) (by simp [results, Try.results5, go_sem, y0, y1]) rfl (ansP_ill hO.out ?_)
      repeat (refine bl_setA ?_ (Nat.le_refl _))
      exact hW3.out
    · have hO : Hid (nfO s = (l, 0)) := HNS.out l hx
      have hW3 : Hid (Below w.heap.size w w3) := Below.on hW1.out hb3
      have hY3 : Hid (Wr2 w3 w.heap.size) := hY1.out.below hb3
      obtain ⟨a, cp, rfl, hOA, hin⟩ := ownA_of_row hOw
      have HNA : Hid (NewA w w3 a l.length l) := ⟨hOA, fun A e => ⟨by have := (hin A e).1; have := HZ1.out; omega, (hin A e).2⟩, hW3.out⟩
      have HNE : Hid (∀ A, a = some A → w.heap.size ≠ A.block) := (fun A e => by have := (hin A e).1; have := HZ1.out; omega)
      clear hb3 hY1 hW1 HR hx hOw hOA hin xl x0 x1 x2 hX1
      generalize hGL : l.length = GL at HNA ⊢
      have HGL : Hid (l.length = GL) := hGL
      clear hGL
      obtain ⟨yl, y0, y1, yz⟩ := hY3.out
      have yz0 := yz 0
      have yz1 := yz 1
      clear yz
      go_wp2
      refine bodyPost_ret (v := .agg #[.slice a GL cp, .int .i64 0]) (by simp [results, Try.results5, go_sem, y0, y1]) rfl (ansP_of hO.out HGL.out ?_)
      repeat (refine NewA.set ?_ (Nat.le_refl _) HNE.out)
      exact HNA.out
  · have hO : Hid (nfO s = ([], uC s)) := nfO_ill hc
    have g1 : (uC s == 0) = false := beq_eq_false_iff_ne.2 hc
    generalize uC s = CD at HU hO g1
    generalize uT s = TX at HU
    clear hc hs
    go_enter Try.func5, Try.ntmps5
    go_wp2_with fail
    refine (HU.out _).mono ?_
    rintro e w1 ⟨rfl, hb1⟩
    have hY1 : Hid (Wr2 (w1.alloc (.cells #[.string TX, .int .i64 0, .int .i64 CD] 30)) w.heap.size) := (hY.out.below hb1).below (bel_alloc _ _)
    have hW1 : Hid (Below w.heap.size w (w1.alloc (.cells #[.string TX, .int .i64 0, .int .i64 CD] 30))) := Below.onA (Below.on hW0.out hb1)
    have hX1 : Hid (Box3 (w1.alloc (.cells #[.string TX, .int .i64 0, .int .i64 CD] 30)) w1.heap.size (.string TX) (.int .i64 0) (.int .i64 CD)) := box3_new w1 _ _ _ _
    clear hb1 hY hW0 HZ0 HU
    go_upto_region 2 with fail
    generalize w1.alloc (.cells #[.string TX, .int .i64 0, .int .i64 CD] 30) = w2 at hY1 hW1 hX1 ⊢
    generalize w1.heap.size = X at hX1 ⊢
    obtain ⟨xl, x0, x1, x2⟩ := hX1.out
    obtain ⟨yl, y0, y1, yz⟩ := hY1.out
    have yz0 := yz 0
    have yz1 := yz 1
    clear yz
    go_wp2
    refine bodyPost_ret (v := .agg #[.slice none 0 0, .int .i64 CD]) (by simp [results, Try.results5, go_sem, y0, y1]) rfl (ansP_ill hO.out ?_)
    repeat (refine bl_setA ?_ (Nat.le_refl _))
    exact hW1.out
end Go.Proofs.Ytddkmlkfphmdoab
