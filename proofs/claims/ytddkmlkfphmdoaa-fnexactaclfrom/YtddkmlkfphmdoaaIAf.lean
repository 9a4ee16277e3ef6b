/- AclFrom of the program. -/
import Derived.Test.YtddkmlkfphmdoaaIRe
namespace Go.Proofs.Ytddkmlkfphmdoaa
open Go.RowKit Go.PlainAid Go.Deep
set_option linter.unusedVariables false
set_option maxRecDepth 100000 in
set_option maxHeartbeats 4000000 in
/-- impl.AclFrom. -/
theorem iAclFrom_any (s : ByteArray) (hs : s.size ≤ 1048576) (w : World) :
    Calls Try.prog 12 #[.string s] w (Answers (afO s) w) := by
  have hbt := get_byte s
  have hY : Hid (W8 (w.alloc (.cells #[.int .i64 0, .int .i64 0, .int .i64 0, .slice none 0 0, .slice none 0 0, .bool false, .int .i64 0, .int .i64 0] 34)) w.heap.size) := w8_new w _
  have hW0 : Hid (Below w.heap.size w (w.alloc (.cells #[.int .i64 0, .int .i64 0, .int .i64 0, .slice none 0 0, .slice none 0 0, .bool false, .int .i64 0, .int .i64 0] 34))) := bel_alloc _ _
  by_cases h8 : 8000 < s.size
  · have hO : Hid (afO s = illA 2) := (by show _ = _; rw [afO, if_pos h8])
    have h8' : (8000 : Int) < (s.size : Int) := by omega
    clear h8 hbt
    go_enter Try.func12, Try.ntmps12
    go_wp2
    refine bodyPost_ret (v := .agg #[.int .i64 0, .int .i64 0, .int .i64 0, .slice none 0 0, .slice none 0 0, .bool false, .int .i64 0, .int .i64 2]) (by simp [results, Try.results12, go_sem]) rfl (answers_ill hO.out ?_)
    repeat (refine bl_setL ?_ (Nat.le_refl _))
    exact bel_alloc _ _
  have h8' : ¬ (8000 : Int) < (s.size : Int) := by omega
  have hls : s.data.toList.length = s.size := (Lib.size_eq s).symm
  by_cases h0 : s.size = 0
  · have hO : Hid (afO s = illA 4) := (by show _ = _; rw [afO, if_neg h8, if_pos h0])
    have e0 : s.toList.isEmpty = true := tlL_empty (List.eq_nil_of_length_eq_zero (by omega))
    clear h8 hbt h0 hls
    go_enter Try.func12, Try.ntmps12
    go_wp2
    refine bodyPost_ret (v := .agg #[.int .i64 0, .int .i64 0, .int .i64 0, .slice none 0 0, .slice none 0 0, .bool false, .int .i64 0, .int .i64 4]) (by simp [results, Try.results12, go_sem]) rfl (answers_ill hO.out ?_)
    repeat (refine bl_setL ?_ (Nat.le_refl _))
    exact bel_alloc _ _
  have e0 : s.toList.isEmpty = false := tlL_full (fun e => h0 (by rw [e] at hls; simpa using hls.symm))
  have h0' : 0 < s.size := by omega
  by_cases h2 : ¬ byte s 0 = 2
  · have hO : Hid (afO s = illA 10) := (by show _ = _; rw [afO, if_neg h8, if_neg h0, if_pos h2])
    have q2 : ((byte s 0 : Int) == 2) = false := beq_eq_false_iff_ne.2 (by omega)
    clear h8 h0 hls h2
    go_enter Try.func12, Try.ntmps12
    go_wp2
    refine bodyPost_ret (v := .agg #[.int .i64 0, .int .i64 0, .int .i64 0, .slice none 0 0, .slice none 0 0, .bool false, .int .i64 0, .int .i64 10]) (by simp [results, Try.results12, go_sem]) rfl (answers_ill hO.out ?_)
    repeat (refine bl_setL ?_ (Nat.le_refl _))
    exact bel_alloc _ _
  have h2 : byte s 0 = 2 := Decidable.not_not.1 h2
  have hend : Hid ((alT (fB s (nE s)) = s ∧ afO s = ⟨(fB s (nE s)).u, (fB s (nE s)).g, (fB s (nE s)).o, (fB s (nE s)).us, (fB s (nE s)).gs, (fB s (nE s)).r, (fB s (nE s)).m, 0⟩) ∨ (alT (fB s (nE s)) ≠ s ∧ afO s = illA 3)) := (by
    rcases afO_cases h8 h0 h2 with ⟨a, h5, _, h6, h7⟩ | ⟨h6, _, h7⟩
    · exact .inl ⟨by rw [h5]; exact h6, by rw [h5]; exact h7⟩
    · exact .inr ⟨h6, h7⟩)
  have HR : Hid (∀ w, Calls Try.prog 31 #[.string s] w fun e w' => ∃ aU cU aG cG, e = .returned (.tuple #[alV (fB s (nE s)) aU cU aG cG, .bool (decide (alT (fB s (nE s)) = s))]) ∧ R2 w w' (fB s (nE s)) aU cU aG cG) := iReadE_any s (by omega) h0
  clear hls h8 h0
  generalize fB s (nE s) = RS at hend HR
  rcases hend.out with ⟨g1, g2⟩ | ⟨g1, g2⟩
  · have hd : decide (alT RS = s) = true := by simp [g1]
    rw [hd] at HR
    have hO2 : Hid _ := g2
    clear g1 g2 hend hd
    go_enter Try.func12, Try.ntmps12
    go_wp2_with fail
    refine (HR.out _).mono ?_
    rintro e w1 ⟨aU, cU, aG, cG, rfl, hR1⟩
    have hY1 : Hid (W8 w1 w.heap.size) := hY.out.below hR1.bel
    have HNA : Hid (New w w1 aU RS.us.length RS.us aG RS.gs.length RS.gs) := hR1.new.pre hW0.out
    have HNE : Hid ((∀ A, aU = some A → w.heap.size ≠ A.block) ∧ (∀ A, aG = some A → w.heap.size ≠ A.block)) := ⟨fun A e => by have := (hR1.new.iu A e).1; simp at this; omega, fun A e => by have := (hR1.new.ig A e).1; simp at this; omega⟩
    clear hR1 hY hW0 HR
    simp only [alV]
    go_upto_region 8 with fail
    have hP2 : Hid (W7 (w1.alloc (.cells #[.int .i64 RS.u, .int .i64 RS.g, .int .i64 RS.o, .slice aU RS.us.length cU, .slice aG RS.gs.length cG, .bool RS.r, .int .i64 RS.m] 29)) w1.heap.size (.int .i64 RS.u) (.int .i64 RS.g) (.int .i64 RS.o) (.slice aU RS.us.length cU) (.slice aG RS.gs.length cG) (.bool RS.r) (.int .i64 RS.m)) := w7_new w1 _ _ _ _ _ _ _ _
    have hY2 : Hid _ := hY1.out.below (bel_alloc w1 (.cells #[.int .i64 RS.u, .int .i64 RS.g, .int .i64 RS.o, .slice aU RS.us.length cU, .slice aG RS.gs.length cG, .bool RS.r, .int .i64 RS.m] 29))
    have HNB : Hid _ := HNA.out.on (bel_alloc w1 (.cells #[.int .i64 RS.u, .int .i64 RS.g, .int .i64 RS.o, .slice aU RS.us.length cU, .slice aG RS.gs.length cG, .bool RS.r, .int .i64 RS.m] 29))
    generalize w1.alloc (.cells #[.int .i64 RS.u, .int .i64 RS.g, .int .i64 RS.o, .slice aU RS.us.length cU, .slice aG RS.gs.length cG, .bool RS.r, .int .i64 RS.m] 29) = w2 at hP2 hY2 HNB ⊢
    generalize w1.heap.size = X at hP2 ⊢
    clear hY1 HNA
    obtain ⟨pl, p0, p1, p2, p3, p4, p5, p6, pz⟩ := hP2.out
    obtain ⟨yl, y0, y1, y2, y3, y4, y5, y6, y7, yz⟩ := hY2.out
    have yz0 := yz 0
    have yz1 := yz 1
    have yz2 := yz 2
    have yz3 := yz 3
    have yz4 := yz 4
    have yz5 := yz 5
    have yz6 := yz 6
    have yz7 := yz 7
    clear yz pz
    go_wp2
    refine bodyPost_ret (v := .agg #[.int .i64 RS.u, .int .i64 RS.g, .int .i64 RS.o, .slice aU RS.us.length cU, .slice aG RS.gs.length cG, .bool RS.r, .int .i64 RS.m, .int .i64 0]) (by simp [results, Try.results12, go_sem, y0, y1, y2, y3, y4, y5, y6, y7]) rfl (answers_of hO2.out rfl rfl ?_)
    repeat (refine New.set ?_ (Nat.le_refl _) HNE.out.1 HNE.out.2)
    exact HNB.out
  · have hd : decide (alT RS = s) = false := by simp [g1]
    rw [hd] at HR
    have hO2 : Hid (afO s = illA 3) := g2
    clear g1 g2 hend hd
    go_enter Try.func12, Try.ntmps12
    go_wp2_with fail
    refine (HR.out _).mono ?_
    rintro e w1 ⟨aU, cU, aG, cG, rfl, hR1⟩
    have hY1 : Hid (W8 w1 w.heap.size) := hY.out.below hR1.bel
    have hW1 : Hid (Below w.heap.size w w1) := Below.on hW0.out hR1.bel
    clear hR1 hY hW0 HR
    simp only [alV]
    go_upto_region 8 with fail
    have hY2 : Hid _ := hY1.out.below (bel_alloc w1 (.cells #[.int .i64 RS.u, .int .i64 RS.g, .int .i64 RS.o, .slice aU RS.us.length cU, .slice aG RS.gs.length cG, .bool RS.r, .int .i64 RS.m] 29))
    have hW2 : Hid _ := Below.on hW1.out (bel_alloc w1 (.cells #[.int .i64 RS.u, .int .i64 RS.g, .int .i64 RS.o, .slice aU RS.us.length cU, .slice aG RS.gs.length cG, .bool RS.r, .int .i64 RS.m] 29))
    generalize w1.alloc (.cells #[.int .i64 RS.u, .int .i64 RS.g, .int .i64 RS.o, .slice aU RS.us.length cU, .slice aG RS.gs.length cG, .bool RS.r, .int .i64 RS.m] 29) = w2 at hY2 hW2 ⊢
    clear hY1 hW1
    obtain ⟨yl, y0, y1, y2, y3, y4, y5, y6, y7, yz⟩ := hY2.out
    have yz0 := yz 0
    have yz1 := yz 1
    have yz2 := yz 2
    have yz3 := yz 3
    have yz4 := yz 4
    have yz5 := yz 5
    have yz6 := yz 6
    have yz7 := yz 7
    clear yz
    go_wp2
    refine bodyPost_ret (v := .agg #[.int .i64 0, .int .i64 0, .int .i64 0, .slice none 0 0, .slice none 0 0, .bool false, .int .i64 0, .int .i64 3]) (by simp [results, Try.results12, go_sem, y0, y1, y2, y3, y4, y5, y6, y7]) rfl (answers_ill hO2.out ?_)
    repeat (refine bl_setL ?_ (Nat.le_refl _))
    exact hW2.out
end Go.Proofs.Ytddkmlkfphmdoaa
