/- Laid together: IRa1. -/
import Derived.Test.YtedahdncincgjaaGreatDoorNX43
/- readAceBytes: of an Allow. -/
namespace Go.Proofs.YtedahdncincgjaaGreatDoor
open Go.RowKit Go.PlainAid Go.Deep
set_option linter.unusedVariables false
set_option maxRecDepth 100000 in
set_option maxHeartbeats 8000000 in
theorem iReadA_one (s : ByteArray) (hs : s.size ≤ 8000) (p0 : Nat) (q0 : p0 ≤ 8000) (n1 n2 n3 n4 : Int) (p1 p2 p3 p4 p5 : Nat) (e0 : rd1 s p0 = some (1, p1)) (e1 : rd1 s p1 = some (n1, p2)) (e2 : rd1 s p2 = some (n2, p3)) (e3 : rd1 s p3 = some (n3, p4)) (e4 : rd1 s p4 = some (n4, p5)) (w : World) :
    Calls Tryz.prog 72 #[.string s, .int .i64 (p0 : Int)] w (AceB s p0 w) := by
  have q1 : p1 ≤ 8000 := by have := rd1_le e0; omega
  have q2 : p2 ≤ 8000 := by have := rd1_le e1; omega
  have q3 : p3 ≤ 8000 := by have := rd1_le e2; omega
  have q4 : p4 ≤ 8000 := by have := rd1_le e3; omega
  have d0 : Hid (∀ w, Calls Tryz.prog 71 #[.string s, .int .i64 (p0 : Int)] w fun e w' => e = .returned (.tuple #[.int .i64 1, .int .i64 (p1 : Int), .nilIface]) ∧ w' = w) := readNum_some hs q0 e0
  have d1 : Hid (∀ w, Calls Tryz.prog 71 #[.string s, .int .i64 (p1 : Int)] w fun e w' => e = .returned (.tuple #[.int .i64 n1, .int .i64 (p2 : Int), .nilIface]) ∧ w' = w) := readNum_some hs q1 e1
  have d2 : Hid (∀ w, Calls Tryz.prog 71 #[.string s, .int .i64 (p2 : Int)] w fun e w' => e = .returned (.tuple #[.int .i64 n2, .int .i64 (p3 : Int), .nilIface]) ∧ w' = w) := readNum_some hs q2 e2
  have d3 : Hid (∀ w, Calls Tryz.prog 71 #[.string s, .int .i64 (p3 : Int)] w fun e w' => e = .returned (.tuple #[.int .i64 n3, .int .i64 (p4 : Int), .nilIface]) ∧ w' = w) := readNum_some hs q3 e3
  have d4 : Hid (∀ w, Calls Tryz.prog 71 #[.string s, .int .i64 (p4 : Int)] w fun e w' => e = .returned (.tuple #[.int .i64 n4, .int .i64 (p5 : Int), .nilIface]) ∧ w' = w) := readNum_some hs q4 e4
  have HEND : Hid (∀ w', Below w.heap.size w w' → AceB s p0 w (.returned (.tuple #[.agg #[.bool true, .int .i64 n1, .int .i64 n2, .int .i64 n3, .int .i64 n4], .int .i64 (p5 : Int), .bool (aceB ⟨true, n1, n2, n3, n4⟩)])) w') := (fun w' hb => by
    have hr : rdAc s p0 = if aceB ⟨true, n1, n2, n3, n4⟩ = true then some (⟨true, n1, n2, n3, n4⟩, p5) else none := by
      unfold rdAc
      simp only [e0, e1, e2, e3, e4]
      simp
    refine ⟨hb, ?_⟩
    cases h : aceB ⟨true, n1, n2, n3, n4⟩
    · rw [h] at hr
      exact .inl ⟨by simpa using hr, ⟨true, n1, n2, n3, n4⟩, (p5 : Int), rfl⟩
    · rw [h] at hr
      exact .inr ⟨⟨true, n1, n2, n3, n4⟩, p5, by simpa using hr, rd1_le e4, rfl⟩)
  have HAR : Hid (∀ w, Calls Tryz.prog 26 #[.agg #[.bool true, .int .i64 n1, .int .i64 n2, .int .i64 n3, .int .i64 n4]] w fun e w' => e = .returned (.bool (aceB ⟨true, n1, n2, n3, n4⟩)) ∧ Below w.heap.size w w') := iAceRight_any ⟨true, n1, n2, n3, n4⟩
  generalize aceB ⟨true, n1, n2, n3, n4⟩ = AB at HEND HAR
  clear e0 e1 e2 e3 e4 q0 q1 q2 q3 q4
  have hR0 : Hid (W5 (((w.alloc (.cells #[.bool false, .int .i64 0, .int .i64 0, .int .i64 0, .int .i64 0] 24)).alloc (.cells #[.int .i64 1, .int .i64 n1, .int .i64 n2, .int .i64 n3, .int .i64 n4] 121)).alloc (.cells #[.bool true, .int .i64 n1, .int .i64 n2, .int .i64 n3, .int .i64 n4] 24)) w.heap.size (.bool false) (.int .i64 0) (.int .i64 0) (.int .i64 0) (.int .i64 0)) := ((w5_new w _ _ _ _ _ 24).below (bel_alloc _ _)).below (bel_alloc _ _)
  have hX0 : Hid (W5 (((w.alloc (.cells #[.bool false, .int .i64 0, .int .i64 0, .int .i64 0, .int .i64 0] 24)).alloc (.cells #[.int .i64 1, .int .i64 n1, .int .i64 n2, .int .i64 n3, .int .i64 n4] 121)).alloc (.cells #[.bool true, .int .i64 n1, .int .i64 n2, .int .i64 n3, .int .i64 n4] 24)) (w.heap.size + 2) (.bool true) (.int .i64 n1) (.int .i64 n2) (.int .i64 n3) (.int .i64 n4)) := (by
    have := w5_new ((w.alloc (.cells #[.bool false, .int .i64 0, .int .i64 0, .int .i64 0, .int .i64 0] 24)).alloc (.cells #[.int .i64 1, .int .i64 n1, .int .i64 n2, .int .i64 n3, .int .i64 n4] 121)) (.bool true) (.int .i64 n1) (.int .i64 n2) (.int .i64 n3) (.int .i64 n4) 24
    have hz : ((w.alloc (.cells #[.bool false, .int .i64 0, .int .i64 0, .int .i64 0, .int .i64 0] 24)).alloc (.cells #[.int .i64 1, .int .i64 n1, .int .i64 n2, .int .i64 n3, .int .i64 n4] 121)).heap.size = w.heap.size + 2 := by simp
    rw [hz] at this
    exact this)
  have hW0 : Hid (Below w.heap.size w (((w.alloc (.cells #[.bool false, .int .i64 0, .int .i64 0, .int .i64 0, .int .i64 0] 24)).alloc (.cells #[.int .i64 1, .int .i64 n1, .int .i64 n2, .int .i64 n3, .int .i64 n4] 121)).alloc (.cells #[.bool true, .int .i64 n1, .int .i64 n2, .int .i64 n3, .int .i64 n4] 24))) := Below.on (Below.on (bel_alloc _ _) (bel_alloc _ _)) (bel_alloc _ _)
  go_enter Tryz.func72, Tryz.ntmps72
  go_wp2
  refine wp_loop_rounds 6 ?_
  rw [rounds_succ]
  go_wp2_with fail
  refine (d0.out _).mono ?_
  rintro e w0 ⟨rfl, rfl⟩
  go_wp2
  rw [rounds_succ]
  go_wp2_with fail
  refine (d1.out _).mono ?_
  rintro e w1 ⟨rfl, rfl⟩
  go_wp2
  rw [rounds_succ]
  go_wp2_with fail
  refine (d2.out _).mono ?_
  rintro e w2 ⟨rfl, rfl⟩
  go_wp2
  rw [rounds_succ]
  go_wp2_with fail
  refine (d3.out _).mono ?_
  rintro e w3 ⟨rfl, rfl⟩
  go_wp2
  rw [rounds_succ]
  go_wp2_with fail
  refine (d4.out _).mono ?_
  rintro e w4 ⟨rfl, rfl⟩
  go_wp2
  rw [rounds_succ]
  go_upto_region 12 with fail
  generalize (((w.alloc (.cells #[.bool false, .int .i64 0, .int .i64 0, .int .i64 0, .int .i64 0] 24)).alloc (.cells #[.int .i64 1, .int .i64 n1, .int .i64 n2, .int .i64 n3, .int .i64 n4] 121)).alloc (.cells #[.bool true, .int .i64 n1, .int .i64 n2, .int .i64 n3, .int .i64 n4] 24)) = wz at hR0 hX0 hW0 ⊢
  obtain ⟨rl, r0, r1, r2, r3, r4, rz⟩ := hR0.out
  have rz0 := rz 0
  have rz1 := rz 1
  have rz2 := rz 2
  have rz3 := rz 3
  have rz4 := rz 4
  obtain ⟨xl, x0, x1, x2, x3, x4, xz⟩ := hX0.out
  clear rz xz d0 d1 d2 d3 d4
  go_region_law (go_simp; go_at_call 26; refine (HAR.out _).mono ?_; rintro e wq ⟨rfl, hbq⟩; have HBQ : Hid (Below wz.heap.size wz wq) := bdZ hbq; have hRq := hR0.out.below HBQ.out; have hXq := hX0.out.below HBQ.out; have HRQ : Hid _ := hRq; obtain ⟨tl, t0, t1, t2, t3, t4, tz⟩ := hRq; have tz0 := tz 0; have tz1 := tz 1; have tz2 := tz 2; have tz3 := tz 3; have tz4 := tz 4; obtain ⟨yl, y0, y1, y2, y3, y4, yz⟩ := hXq; clear tz yz hbq)
  all_goals
    have HP5 : Hid _ := HRQ.out.all (.bool true) (.int .i64 n1) (.int .i64 n2) (.int .i64 n3) (.int .i64 n4)
    have HW5 : Hid (Below w.heap.size w (((((wq.setCell ⟨w.heap.size, 0, none⟩ (.bool true)).setCell ⟨w.heap.size, 1, none⟩ (.int .i64 n1)).setCell ⟨w.heap.size, 2, none⟩ (.int .i64 n2)).setCell ⟨w.heap.size, 3, none⟩ (.int .i64 n3)).setCell ⟨w.heap.size, 4, none⟩ (.int .i64 n4))) := (((((Below.on hW0.out HBQ.out).setCell (Nat.le_refl _) _).setCell (Nat.le_refl _) _).setCell (Nat.le_refl _) _).setCell (Nat.le_refl _) _).setCell (Nat.le_refl _) _
    generalize (((((wq.setCell ⟨w.heap.size, 0, none⟩ (.bool true)).setCell ⟨w.heap.size, 1, none⟩ (.int .i64 n1)).setCell ⟨w.heap.size, 2, none⟩ (.int .i64 n2)).setCell ⟨w.heap.size, 3, none⟩ (.int .i64 n3)).setCell ⟨w.heap.size, 4, none⟩ (.int .i64 n4)) = w9 at HP5 HW5 ⊢
    clear rl r0 r1 r2 r3 r4 rz0 rz1 rz2 rz3 rz4 xl x0 x1 x2 x3 x4 tl t0 t1 t2 t3 t4 tz0 tz1 tz2 tz3 tz4 yl y0 y1 y2 y3 y4
    obtain ⟨zl, z0, z1, z2, z3, z4, zz⟩ := HP5.out
    go_wp2
    exact bodyPost_ret (v := .tuple #[.agg #[.bool true, .int .i64 n1, .int .i64 n2, .int .i64 n3, .int .i64 n4], .int .i64 (p5 : Int), .bool AB]) (by simp [results, Tryz.results72, go_sem, z0, z1, z2, z3, z4]) rfl (HEND.out _ HW5.out)
end Go.Proofs.YtedahdncincgjaaGreatDoor
