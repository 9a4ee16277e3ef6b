/- readAceBytes: of what ends too early. -/
import Derived.Test.YtddkmlkfphmdoabIRaT
namespace Go.Proofs.Ytddkmlkfphmdoab
open Go.RowKit Go.PlainAid Go.Deep
set_option linter.unusedVariables false
set_option maxRecDepth 100000 in
set_option maxHeartbeats 8000000 in
theorem iReadA_no0 (s : ByteArray) (hs : s.size ≤ 8000) (p0 : Nat) (q0 : p0 ≤ 8000)  (e0 : rd1 s p0 = none) (w : World) :
    Calls Try.prog 27 #[.string s, .int .i64 (p0 : Int)] w (AceB s p0 w) := by
  obtain ⟨c, hc⟩ := readNum_none hs q0 e0
  have d0 : Hid _ := hc
  have HN : Hid (rdAc s p0 = none) := (by show _ = _; unfold rdAc; simp only [e0])
  clear hc e0 q0
  go_enter Try.func27, Try.ntmps27
  go_wp2
  refine wp_loop_rounds 1 ?_
  rw [rounds_succ]
  go_wp2_with fail
  refine (d0.out _).mono ?_
  rintro e w0 ⟨rfl, rfl⟩
  go_wp2
  exact bodyPost_ret (v := .tuple #[.agg #[.bool false, .int .i64 0, .int .i64 0, .int .i64 0, .int .i64 0], .int .i64 0, .bool false]) (by simp [results, Try.results27, go_sem]) rfl (ace_ill HN.out (Below.on (bel_alloc _ _) (bel_alloc _ _)))
set_option maxRecDepth 100000 in
set_option maxHeartbeats 8000000 in
theorem iReadA_no1 (s : ByteArray) (hs : s.size ≤ 8000) (p0 : Nat) (q0 : p0 ≤ 8000) (n0 : Int) (p1 : Nat) (e0 : rd1 s p0 = some (n0, p1)) (e1 : rd1 s p1 = none) (w : World) :
    Calls Try.prog 27 #[.string s, .int .i64 (p0 : Int)] w (AceB s p0 w) := by
  have q1 : p1 ≤ 8000 := by have := rd1_le e0; omega
  have d0 : Hid (∀ w, Calls Try.prog 26 #[.string s, .int .i64 (p0 : Int)] w fun e w' => e = .returned (.tuple #[.int .i64 n0, .int .i64 (p1 : Int), .nilIface]) ∧ w' = w) := readNum_some hs q0 e0
  obtain ⟨c, hc⟩ := readNum_none hs q1 e1
  have d1 : Hid _ := hc
  have HN : Hid (rdAc s p0 = none) := (by show _ = _; unfold rdAc; simp only [e0, e1])
  clear hc e0 e1 q0 q1
  go_enter Try.func27, Try.ntmps27
  go_wp2
  refine wp_loop_rounds 2 ?_
  rw [rounds_succ]
  go_wp2_with fail
  refine (d0.out _).mono ?_
  rintro e w0 ⟨rfl, rfl⟩
  go_wp2
  rw [rounds_succ]
  go_wp2_with fail
  refine (d1.out _).mono ?_
  rintro e w1 ⟨rfl, rfl⟩
  go_wp2
  exact bodyPost_ret (v := .tuple #[.agg #[.bool false, .int .i64 0, .int .i64 0, .int .i64 0, .int .i64 0], .int .i64 0, .bool false]) (by simp [results, Try.results27, go_sem]) rfl (ace_ill HN.out (Below.on (bel_alloc _ _) (bel_alloc _ _)))
set_option maxRecDepth 100000 in
set_option maxHeartbeats 8000000 in
theorem iReadA_no2 (s : ByteArray) (hs : s.size ≤ 8000) (p0 : Nat) (q0 : p0 ≤ 8000) (n0 n1 : Int) (p1 p2 : Nat) (e0 : rd1 s p0 = some (n0, p1)) (e1 : rd1 s p1 = some (n1, p2)) (e2 : rd1 s p2 = none) (w : World) :
    Calls Try.prog 27 #[.string s, .int .i64 (p0 : Int)] w (AceB s p0 w) := by
  have q1 : p1 ≤ 8000 := by have := rd1_le e0; omega
  have q2 : p2 ≤ 8000 := by have := rd1_le e1; omega
  have d0 : Hid (∀ w, Calls Try.prog 26 #[.string s, .int .i64 (p0 : Int)] w fun e w' => e = .returned (.tuple #[.int .i64 n0, .int .i64 (p1 : Int), .nilIface]) ∧ w' = w) := readNum_some hs q0 e0
  have d1 : Hid (∀ w, Calls Try.prog 26 #[.string s, .int .i64 (p1 : Int)] w fun e w' => e = .returned (.tuple #[.int .i64 n1, .int .i64 (p2 : Int), .nilIface]) ∧ w' = w) := readNum_some hs q1 e1
  obtain ⟨c, hc⟩ := readNum_none hs q2 e2
  have d2 : Hid _ := hc
  have HN : Hid (rdAc s p0 = none) := (by show _ = _; unfold rdAc; simp only [e0, e1, e2])
  clear hc e0 e1 e2 q0 q1 q2
  go_enter Try.func27, Try.ntmps27
  go_wp2
  refine wp_loop_rounds 3 ?_
  rw [rounds_succ]
  go_wp2_with fail
  refine (d0.out _).mono ?_
  rintro e w0 ⟨rfl, rfl⟩
  go_wp2
  rw [rounds_succ]
  go_wp2_with fail
  refine (d1.out _).mono ?_
  rintro e w1 ⟨rfl, rfl⟩
  go_wp2
  rw [rounds_succ]
  go_wp2_with fail
  refine (d2.out _).mono ?_
  rintro e w2 ⟨rfl, rfl⟩
  go_wp2
  exact bodyPost_ret (v := .tuple #[.agg #[.bool false, .int .i64 0, .int .i64 0, .int .i64 0, .int .i64 0], .int .i64 0, .bool false]) (by simp [results, Try.results27, go_sem]) rfl (ace_ill HN.out (Below.on (bel_alloc _ _) (bel_alloc _ _)))
set_option maxRecDepth 100000 in
set_option maxHeartbeats 8000000 in
theorem iReadA_no3 (s : ByteArray) (hs : s.size ≤ 8000) (p0 : Nat) (q0 : p0 ≤ 8000) (n0 n1 n2 : Int) (p1 p2 p3 : Nat) (e0 : rd1 s p0 = some (n0, p1)) (e1 : rd1 s p1 = some (n1, p2)) (e2 : rd1 s p2 = some (n2, p3)) (e3 : rd1 s p3 = none) (w : World) :
    Calls Try.prog 27 #[.string s, .int .i64 (p0 : Int)] w (AceB s p0 w) := by
  have q1 : p1 ≤ 8000 := by have := rd1_le e0; omega
  have q2 : p2 ≤ 8000 := by have := rd1_le e1; omega
  have q3 : p3 ≤ 8000 := by have := rd1_le e2; omega
  have d0 : Hid (∀ w, Calls Try.prog 26 #[.string s, .int .i64 (p0 : Int)] w fun e w' => e = .returned (.tuple #[.int .i64 n0, .int .i64 (p1 : Int), .nilIface]) ∧ w' = w) := readNum_some hs q0 e0
  have d1 : Hid (∀ w, Calls Try.prog 26 #[.string s, .int .i64 (p1 : Int)] w fun e w' => e = .returned (.tuple #[.int .i64 n1, .int .i64 (p2 : Int), .nilIface]) ∧ w' = w) := readNum_some hs q1 e1
  have d2 : Hid (∀ w, Calls Try.prog 26 #[.string s, .int .i64 (p2 : Int)] w fun e w' => e = .returned (.tuple #[.int .i64 n2, .int .i64 (p3 : Int), .nilIface]) ∧ w' = w) := readNum_some hs q2 e2
  obtain ⟨c, hc⟩ := readNum_none hs q3 e3
  have d3 : Hid _ := hc
  have HN : Hid (rdAc s p0 = none) := (by show _ = _; unfold rdAc; simp only [e0, e1, e2, e3])
  clear hc e0 e1 e2 e3 q0 q1 q2 q3
  go_enter Try.func27, Try.ntmps27
  go_wp2
  refine wp_loop_rounds 4 ?_
  rw [rounds_succ]
  go_wp2_with fail
  refine (d0.out _).mono ?_
  rintro e w0 ⟨rfl, rfl⟩
  go_wp2
  rw [rounds_succ]
  go_wp2_with fail
  refine (d1.out _).mono ?_
  rintro e w1 ⟨rfl, rfl⟩
  go_wp2
  rw [rounds_succ]
  go_wp2_with fail
  refine (d2.out _).mono ?_
  rintro e w2 ⟨rfl, rfl⟩
  go_wp2
  rw [rounds_succ]
  go_wp2_with fail
  refine (d3.out _).mono ?_
  rintro e w3 ⟨rfl, rfl⟩
  go_wp2
  exact bodyPost_ret (v := .tuple #[.agg #[.bool false, .int .i64 0, .int .i64 0, .int .i64 0, .int .i64 0], .int .i64 0, .bool false]) (by simp [results, Try.results27, go_sem]) rfl (ace_ill HN.out (Below.on (bel_alloc _ _) (bel_alloc _ _)))
set_option maxRecDepth 100000 in
set_option maxHeartbeats 8000000 in
theorem iReadA_no4 (s : ByteArray) (hs : s.size ≤ 8000) (p0 : Nat) (q0 : p0 ≤ 8000) (n0 n1 n2 n3 : Int) (p1 p2 p3 p4 : Nat) (e0 : rd1 s p0 = some (n0, p1)) (e1 : rd1 s p1 = some (n1, p2)) (e2 : rd1 s p2 = some (n2, p3)) (e3 : rd1 s p3 = some (n3, p4)) (e4 : rd1 s p4 = none) (w : World) :
    Calls Try.prog 27 #[.string s, .int .i64 (p0 : Int)] w (AceB s p0 w) := by
  have q1 : p1 ≤ 8000 := by have := rd1_le e0; omega
  have q2 : p2 ≤ 8000 := by have := rd1_le e1; omega
  have q3 : p3 ≤ 8000 := by have := rd1_le e2; omega
  have q4 : p4 ≤ 8000 := by have := rd1_le e3; omega
  have d0 : Hid (∀ w, Calls Try.prog 26 #[.string s, .int .i64 (p0 : Int)] w fun e w' => e = .returned (.tuple #[.int .i64 n0, .int .i64 (p1 : Int), .nilIface]) ∧ w' = w) := readNum_some hs q0 e0
  have d1 : Hid (∀ w, Calls Try.prog 26 #[.string s, .int .i64 (p1 : Int)] w fun e w' => e = .returned (.tuple #[.int .i64 n1, .int .i64 (p2 : Int), .nilIface]) ∧ w' = w) := readNum_some hs q1 e1
  have d2 : Hid (∀ w, Calls Try.prog 26 #[.string s, .int .i64 (p2 : Int)] w fun e w' => e = .returned (.tuple #[.int .i64 n2, .int .i64 (p3 : Int), .nilIface]) ∧ w' = w) := readNum_some hs q2 e2
  have d3 : Hid (∀ w, Calls Try.prog 26 #[.string s, .int .i64 (p3 : Int)] w fun e w' => e = .returned (.tuple #[.int .i64 n3, .int .i64 (p4 : Int), .nilIface]) ∧ w' = w) := readNum_some hs q3 e3
  obtain ⟨c, hc⟩ := readNum_none hs q4 e4
  have d4 : Hid _ := hc
  have HN : Hid (rdAc s p0 = none) := (by show _ = _; unfold rdAc; simp only [e0, e1, e2, e3, e4])
  clear hc e0 e1 e2 e3 e4 q0 q1 q2 q3 q4
  go_enter Try.func27, Try.ntmps27
  go_wp2
  refine wp_loop_rounds 5 ?_
  rw [rounds_succ]
  go_wp2_with fail
  refine (d0.out _).mono ?_
  rintro e w0 ⟨rfl, rfl⟩
  go_wp2
  rw [rounds_succ]
  go_wp2_with fail
  refine (d1.out _).mono ?_
  rintro e w1 ⟨rfl, rfl⟩
  go_wp2
  rw [rounds_succ]
  go_wp2_with fail
  refine (d2.out _).mono ?_
  rintro e w2 ⟨rfl, rfl⟩
  go_wp2
  rw [rounds_succ]
  go_wp2_with fail
  refine (d3.out _).mono ?_
  rintro e w3 ⟨rfl, rfl⟩
  go_wp2
  rw [rounds_succ]
  go_wp2_with fail
  refine (d4.out _).mono ?_
  rintro e w4 ⟨rfl, rfl⟩
  go_wp2
  exact bodyPost_ret (v := .tuple #[.agg #[.bool false, .int .i64 0, .int .i64 0, .int .i64 0, .int .i64 0], .int .i64 0, .bool false]) (by simp [results, Try.results27, go_sem]) rfl (ace_ill HN.out (Below.on (bel_alloc _ _) (bel_alloc _ _)))
end Go.Proofs.Ytddkmlkfphmdoab
