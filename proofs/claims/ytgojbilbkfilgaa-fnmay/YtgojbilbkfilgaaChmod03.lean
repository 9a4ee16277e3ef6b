/- spec.l03Chmod: a list of names set to a mode. -/
import Derived.Test.YtgojbilbkfilgaaThree
namespace Go.Proofs.Ytgojbilbkfilgaa
open Go.RowKit Go.PlainAid Go.Deep
set_option linter.unusedVariables false
set_option maxRecDepth 100000 in
set_option maxHeartbeats 4000000 in
/-- spec.l03Chmod of a mode. -/
theorem sChmod03_any (u g o : Int) (au : Option Addr) (lu cu : Nat) (ag : Option Addr) (lg cg : Nat) (r : Bool) (m : Int) (us gs : List (Int × Int)) (n : Int) (n0 : 0 ≤ n) (n1 : n ≤ 4095) (w : World) (hu : Prs au lu us w) (hg : Prs ag lg gs w) (hl1 : lu ≤ 1000000) (hl2 : lg ≤ 1000000) :
    Calls Try.prog 84 #[.agg #[.int .i64 u, .int .i64 g, .int .i64 o, .slice au lu cu, .slice ag lg cg, .bool r, .int .i64 m], .int .i64 n] w fun e w' => ∃ a1 c1 a2 c2, e = .returned (.agg #[.int .i64 (n / 64 % 8), .int .i64 (gSet r g (n / 8 % 8)), .int .i64 (n % 8), .slice a1 lu c1, .slice a2 lg c2, .bool r, .int .i64 (mSet r m (n / 8 % 8))]) ∧ New w w' a1 lu us a2 lg gs := by
  have hc : Hid (∀ w', Below w.heap.size w w' → Calls Try.prog 75 #[.agg #[.int .i64 u, .int .i64 g, .int .i64 o, .slice au lu cu, .slice ag lg cg, .bool r, .int .i64 m]] w' fun e w'' => ∃ a1 c1 a2 c2, e = .returned (.agg #[.int .i64 u, .int .i64 g, .int .i64 o, .slice a1 lu c1, .slice a2 lg c2, .bool r, .int .i64 m]) ∧ New w' w'' a1 lu us a2 lg gs) := (fun w' hb => sCopy_any u g o au lu cu ag lg cg r m us gs w' (hu.below hb) (hg.below hb) hl1 hl2)
  clear hu hg
  go_enter Try.func84, Try.ntmps84
  go_wp2_with fail
  refine (hc.out _ (bl2N _ _ _)).mono ?_
  rintro e w1 ⟨a1, c1, a2, c2, rfl, hN⟩
  obtain ⟨hcl, hfz⟩ := bl_cellN hN.bel
  have hY := (box7_new (w.alloc (.cells #[.int .i64 u, .int .i64 g, .int .i64 o, .slice au lu cu, .slice ag lg cg, .bool r, .int .i64 m] 25)) (.int .i64 0) (.int .i64 0) (.int .i64 0) (.slice none 0 0) (.slice none 0 0) (.bool false) (.int .i64 0) 25).below hN.bel
  have eY : (w.alloc (.cells #[.int .i64 u, .int .i64 g, .int .i64 o, .slice au lu cu, .slice ag lg cg, .bool r, .int .i64 m] 25)).heap.size = w.heap.size + 1 := by simp
  have N1 : Hid (∀ A, a1 = some A → w.heap.size + 1 < A.block) := (fun A e => by have := (hN.iu A e).1; simp at this; omega)
  have N2 : Hid (∀ A, a2 = some A → w.heap.size + 1 < A.block) := (fun A e => by have := (hN.ig A e).1; simp at this; omega)
  have HN : Hid (New w w1 a1 lu us a2 lg gs) := hN.pre (bl2N _ _ _)
  rw [eY] at hY
  have hsz1 := hN.bel.size
  clear hN hc eY hcl
  simp at hfz hsz1
  go_wp2_with fail
  refine (sSet_any u g o a1 lu c1 a2 lg c2 r m (n / 8 % 8) _).mono ?_
  rintro e w2 ⟨rfl, hb2⟩
  have hN2 : Hid (New w w2 a1 lu us a2 lg gs) := HN.out.on hb2
  obtain ⟨yl, y0, y1, y2, y3, y4, y5, y6⟩ := hY.below hb2
  have hfz2 : ∀ b o, b < w.heap.size + 1 + 1 → w2.frozen? ⟨b, o, none⟩ = w1.frozen? ⟨b, o, none⟩ := fun b o h => hb2.frozen (p := ⟨b, o, none⟩) (by show b < _; omega)
  clear hb2 hY HN hsz1
  generalize hgg : gSet r g (n / 8 % 8) = gg
  generalize hmm : mSet r m (n / 8 % 8) = mm
  have HGG : Hid (gSet r g (n / 8 % 8) = gg) := hgg
  have HMM : Hid (mSet r m (n / 8 % 8) = mm) := hmm
  clear hgg hmm
  iterate 3 go_wp21
  refine bodyPost_ret (v := .agg #[.int .i64 (n / 64 % 8), .int .i64 gg, .int .i64 (n % 8), .slice a1 lu c1, .slice a2 lg c2, .bool r, .int .i64 mm]) (by simp [results, Try.results84, go_sem, yl, y0, y1, y2, y3, y4, y5, y6]) rfl ⟨a1, c1, a2, c2, ret_acl rfl HGG.out.symm rfl HMM.out.symm, ?_⟩
  refine New.on ?_ (bel_alloc _ _)
  iterate 7 (refine New.set ?_ (by omega) (fun A e => by have := N1.out A e; omega) (fun A e => by have := N2.out A e; omega))
  exact hN2.out
end Go.Proofs.Ytgojbilbkfilgaa
