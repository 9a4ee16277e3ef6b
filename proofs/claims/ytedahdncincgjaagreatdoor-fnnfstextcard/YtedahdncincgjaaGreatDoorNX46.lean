/- Laid together: IRa3, IRa, IRs, INf. -/
import Derived.Test.YtedahdncincgjaaGreatDoorNX44
import Derived.Test.YtedahdncincgjaaGreatDoorNX45
/- readAceBytes: of what ends too early. -/
namespace Go.Proofs.YtedahdncincgjaaGreatDoor
open Go.RowKit Go.PlainAid Go.Deep
set_option linter.unusedVariables false
set_option maxRecDepth 100000 in
set_option maxHeartbeats 8000000 in
theorem iReadA_no0 (s : ByteArray) (hs : s.size ≤ 8000) (p0 : Nat) (q0 : p0 ≤ 8000)  (e0 : rd1 s p0 = none) (w : World) :
    Calls Tryz.prog 72 #[.string s, .int .i64 (p0 : Int)] w (AceB s p0 w) := by
  obtain ⟨c, hc⟩ := readNum_none hs q0 e0
  have d0 : Hid _ := hc
  have HN : Hid (rdAc s p0 = none) := (by show _ = _; unfold rdAc; simp only [e0])
  clear hc e0 q0
  go_enter Tryz.func72, Tryz.ntmps72
  go_wp2
  refine wp_loop_rounds 1 ?_
  rw [rounds_succ]
  go_wp2_with fail
  refine (d0.out _).mono ?_
  rintro e w0 ⟨rfl, rfl⟩
  go_wp2
  exact bodyPost_ret (v := .tuple #[.agg #[.bool false, .int .i64 0, .int .i64 0, .int .i64 0, .int .i64 0], .int .i64 0, .bool false]) (by simp [results, Tryz.results72, go_sem]) rfl (ace_ill HN.out (Below.on (bel_alloc _ _) (bel_alloc _ _)))
set_option maxRecDepth 100000 in
set_option maxHeartbeats 8000000 in
theorem iReadA_no1 (s : ByteArray) (hs : s.size ≤ 8000) (p0 : Nat) (q0 : p0 ≤ 8000) (n0 : Int) (p1 : Nat) (e0 : rd1 s p0 = some (n0, p1)) (e1 : rd1 s p1 = none) (w : World) :
    Calls Tryz.prog 72 #[.string s, .int .i64 (p0 : Int)] w (AceB s p0 w) := by
  have q1 : p1 ≤ 8000 := by have := rd1_le e0; omega
  have d0 : Hid (∀ w, Calls Tryz.prog 71 #[.string s, .int .i64 (p0 : Int)] w fun e w' => e = .returned (.tuple #[.int .i64 n0, .int .i64 (p1 : Int), .nilIface]) ∧ w' = w) := readNum_some hs q0 e0
  obtain ⟨c, hc⟩ := readNum_none hs q1 e1
  have d1 : Hid _ := hc
  have HN : Hid (rdAc s p0 = none) := (by show _ = _; unfold rdAc; simp only [e0, e1])
  clear hc e0 e1 q0 q1
  go_enter Tryz.func72, Tryz.ntmps72
  go_wp2
  refine wp_loop_rounds 2 ?_
  rw [rounds_succ]
  go_wp2_with fail
  refine (d0.out _).mono ?_
  rintro e w0 ⟨rfl, rfl⟩
  go_wp2
  rw [rounds_succ]
  go_wp2_with fail
  refine (d1.out _).mono ?_
  rintro e w1 ⟨rfl, rfl⟩
  go_wp2
  exact bodyPost_ret (v := .tuple #[.agg #[.bool false, .int .i64 0, .int .i64 0, .int .i64 0, .int .i64 0], .int .i64 0, .bool false]) (by simp [results, Tryz.results72, go_sem]) rfl (ace_ill HN.out (Below.on (bel_alloc _ _) (bel_alloc _ _)))
set_option maxRecDepth 100000 in
set_option maxHeartbeats 8000000 in
theorem iReadA_no2 (s : ByteArray) (hs : s.size ≤ 8000) (p0 : Nat) (q0 : p0 ≤ 8000) (n0 n1 : Int) (p1 p2 : Nat) (e0 : rd1 s p0 = some (n0, p1)) (e1 : rd1 s p1 = some (n1, p2)) (e2 : rd1 s p2 = none) (w : World) :
    Calls Tryz.prog 72 #[.string s, .int .i64 (p0 : Int)] w (AceB s p0 w) := by
  have q1 : p1 ≤ 8000 := by have := rd1_le e0; omega
  have q2 : p2 ≤ 8000 := by have := rd1_le e1; omega
  have d0 : Hid (∀ w, Calls Tryz.prog 71 #[.string s, .int .i64 (p0 : Int)] w fun e w' => e = .returned (.tuple #[.int .i64 n0, .int .i64 (p1 : Int), .nilIface]) ∧ w' = w) := readNum_some hs q0 e0
  have d1 : Hid (∀ w, Calls Tryz.prog 71 #[.string s, .int .i64 (p1 : Int)] w fun e w' => e = .returned (.tuple #[.int .i64 n1, .int .i64 (p2 : Int), .nilIface]) ∧ w' = w) := readNum_some hs q1 e1
  obtain ⟨c, hc⟩ := readNum_none hs q2 e2
  have d2 : Hid _ := hc
  have HN : Hid (rdAc s p0 = none) := (by show _ = _; unfold rdAc; simp only [e0, e1, e2])
  clear hc e0 e1 e2 q0 q1 q2
  go_enter Tryz.func72, Tryz.ntmps72
  go_wp2
  refine wp_loop_rounds 3 ?_
  rw [rounds_succ]
  go_wp2_with fail
  refine (d0.out _).mono ?_
  rintro e w0 ⟨rfl, rfl⟩
  go_wp2
  rw [rounds_succ]
  go_wp2_with fail
  refine (d1.out _).mono ?_
  rintro e w1 ⟨rfl, rfl⟩
  go_wp2
  rw [rounds_succ]
  go_wp2_with fail
  refine (d2.out _).mono ?_
  rintro e w2 ⟨rfl, rfl⟩
  go_wp2
  exact bodyPost_ret (v := .tuple #[.agg #[.bool false, .int .i64 0, .int .i64 0, .int .i64 0, .int .i64 0], .int .i64 0, .bool false]) (by simp [results, Tryz.results72, go_sem]) rfl (ace_ill HN.out (Below.on (bel_alloc _ _) (bel_alloc _ _)))
set_option maxRecDepth 100000 in
set_option maxHeartbeats 8000000 in
theorem iReadA_no3 (s : ByteArray) (hs : s.size ≤ 8000) (p0 : Nat) (q0 : p0 ≤ 8000) (n0 n1 n2 : Int) (p1 p2 p3 : Nat) (e0 : rd1 s p0 = some (n0, p1)) (e1 : rd1 s p1 = some (n1, p2)) (e2 : rd1 s p2 = some (n2, p3)) (e3 : rd1 s p3 = none) (w : World) :
    Calls Tryz.prog 72 #[.string s, .int .i64 (p0 : Int)] w (AceB s p0 w) := by
  have q1 : p1 ≤ 8000 := by have := rd1_le e0; omega
  have q2 : p2 ≤ 8000 := by have := rd1_le e1; omega
  have q3 : p3 ≤ 8000 := by have := rd1_le e2; omega
  have d0 : Hid (∀ w, Calls Tryz.prog 71 #[.string s, .int .i64 (p0 : Int)] w fun e w' => e = .returned (.tuple #[.int .i64 n0, .int .i64 (p1 : Int), .nilIface]) ∧ w' = w) := readNum_some hs q0 e0
  have d1 : Hid (∀ w, Calls Tryz.prog 71 #[.string s, .int .i64 (p1 : Int)] w fun e w' => e = .returned (.tuple #[.int .i64 n1, .int .i64 (p2 : Int), .nilIface]) ∧ w' = w) := readNum_some hs q1 e1
  have d2 : Hid (∀ w, Calls Tryz.prog 71 #[.string s, .int .i64 (p2 : Int)] w fun e w' => e = .returned (.tuple #[.int .i64 n2, .int .i64 (p3 : Int), .nilIface]) ∧ w' = w) := readNum_some hs q2 e2
  obtain ⟨c, hc⟩ := readNum_none hs q3 e3
  have d3 : Hid _ := hc
  have HN : Hid (rdAc s p0 = none) := (by show _ = _; unfold rdAc; simp only [e0, e1, e2, e3])
  clear hc e0 e1 e2 e3 q0 q1 q2 q3
  go_enter Tryz.func72, Tryz.ntmps72
  go_wp2
  refine wp_loop_rounds 4 ?_
  rw [rounds_succ]
  go_wp2_with fail
  refine (d0.out _).mono ?_
  rintro e w0 ⟨rfl, rfl⟩
  go_wp2
  rw [rounds_succ]
  go_wp2_with fail
  refine (d1.out _).mono ?_
  rintro e w1 ⟨rfl, rfl⟩
  go_wp2
  rw [rounds_succ]
  go_wp2_with fail
  refine (d2.out _).mono ?_
  rintro e w2 ⟨rfl, rfl⟩
  go_wp2
  rw [rounds_succ]
  go_wp2_with fail
  refine (d3.out _).mono ?_
  rintro e w3 ⟨rfl, rfl⟩
  go_wp2
  exact bodyPost_ret (v := .tuple #[.agg #[.bool false, .int .i64 0, .int .i64 0, .int .i64 0, .int .i64 0], .int .i64 0, .bool false]) (by simp [results, Tryz.results72, go_sem]) rfl (ace_ill HN.out (Below.on (bel_alloc _ _) (bel_alloc _ _)))
set_option maxRecDepth 100000 in
set_option maxHeartbeats 8000000 in
theorem iReadA_no4 (s : ByteArray) (hs : s.size ≤ 8000) (p0 : Nat) (q0 : p0 ≤ 8000) (n0 n1 n2 n3 : Int) (p1 p2 p3 p4 : Nat) (e0 : rd1 s p0 = some (n0, p1)) (e1 : rd1 s p1 = some (n1, p2)) (e2 : rd1 s p2 = some (n2, p3)) (e3 : rd1 s p3 = some (n3, p4)) (e4 : rd1 s p4 = none) (w : World) :
    Calls Tryz.prog 72 #[.string s, .int .i64 (p0 : Int)] w (AceB s p0 w) := by
  have q1 : p1 ≤ 8000 := by have := rd1_le e0; omega
  have q2 : p2 ≤ 8000 := by have := rd1_le e1; omega
  have q3 : p3 ≤ 8000 := by have := rd1_le e2; omega
  have q4 : p4 ≤ 8000 := by have := rd1_le e3; omega
  have d0 : Hid (∀ w, Calls Tryz.prog 71 #[.string s, .int .i64 (p0 : Int)] w fun e w' => e = .returned (.tuple #[.int .i64 n0, .int .i64 (p1 : Int), .nilIface]) ∧ w' = w) := readNum_some hs q0 e0
  have d1 : Hid (∀ w, Calls Tryz.prog 71 #[.string s, .int .i64 (p1 : Int)] w fun e w' => e = .returned (.tuple #[.int .i64 n1, .int .i64 (p2 : Int), .nilIface]) ∧ w' = w) := readNum_some hs q1 e1
  have d2 : Hid (∀ w, Calls Tryz.prog 71 #[.string s, .int .i64 (p2 : Int)] w fun e w' => e = .returned (.tuple #[.int .i64 n2, .int .i64 (p3 : Int), .nilIface]) ∧ w' = w) := readNum_some hs q2 e2
  have d3 : Hid (∀ w, Calls Tryz.prog 71 #[.string s, .int .i64 (p3 : Int)] w fun e w' => e = .returned (.tuple #[.int .i64 n3, .int .i64 (p4 : Int), .nilIface]) ∧ w' = w) := readNum_some hs q3 e3
  obtain ⟨c, hc⟩ := readNum_none hs q4 e4
  have d4 : Hid _ := hc
  have HN : Hid (rdAc s p0 = none) := (by show _ = _; unfold rdAc; simp only [e0, e1, e2, e3, e4])
  clear hc e0 e1 e2 e3 e4 q0 q1 q2 q3 q4
  go_enter Tryz.func72, Tryz.ntmps72
  go_wp2
  refine wp_loop_rounds 5 ?_
  rw [rounds_succ]
  go_wp2_with fail
  refine (d0.out _).mono ?_
  rintro e w0 ⟨rfl, rfl⟩
  go_wp2
  rw [rounds_succ]
  go_wp2_with fail
  refine (d1.out _).mono ?_
  rintro e w1 ⟨rfl, rfl⟩
  go_wp2
  rw [rounds_succ]
  go_wp2_with fail
  refine (d2.out _).mono ?_
  rintro e w2 ⟨rfl, rfl⟩
  go_wp2
  rw [rounds_succ]
  go_wp2_with fail
  refine (d3.out _).mono ?_
  rintro e w3 ⟨rfl, rfl⟩
  go_wp2
  rw [rounds_succ]
  go_wp2_with fail
  refine (d4.out _).mono ?_
  rintro e w4 ⟨rfl, rfl⟩
  go_wp2
  exact bodyPost_ret (v := .tuple #[.agg #[.bool false, .int .i64 0, .int .i64 0, .int .i64 0, .int .i64 0], .int .i64 0, .bool false]) (by simp [results, Tryz.results72, go_sem]) rfl (ace_ill HN.out (Below.on (bel_alloc _ _) (bel_alloc _ _)))
/-- impl.readAceBytes. -/
theorem iReadAB_any (s : ByteArray) (hs : s.size ≤ 8000) (p0 : Nat) (q0 : p0 ≤ 8000) (w : World) :
    Calls Tryz.prog 72 #[.string s, .int .i64 (p0 : Int)] w (AceB s p0 w) := by
  cases e0 : rd1 s p0 with
  | none => exact iReadA_no0 s hs p0 q0 e0 w
  | some r0 =>
    obtain ⟨n0, p1⟩ := r0
    cases e1 : rd1 s p1 with
    | none => exact iReadA_no1 s hs p0 q0 n0 p1 e0 e1 w
    | some r1 =>
      obtain ⟨n1, p2⟩ := r1
      cases e2 : rd1 s p2 with
      | none => exact iReadA_no2 s hs p0 q0 n0 n1 p1 p2 e0 e1 e2 w
      | some r2 =>
        obtain ⟨n2, p3⟩ := r2
        cases e3 : rd1 s p3 with
        | none => exact iReadA_no3 s hs p0 q0 n0 n1 n2 p1 p2 p3 e0 e1 e2 e3 w
        | some r3 =>
          obtain ⟨n3, p4⟩ := r3
          cases e4 : rd1 s p4 with
          | none => exact iReadA_no4 s hs p0 q0 n0 n1 n2 n3 p1 p2 p3 p4 e0 e1 e2 e3 e4 w
          | some r4 =>
            obtain ⟨n4, p5⟩ := r4
            by_cases h0 : n0 = 0
            · subst h0
              exact iReadA_zero s hs p0 q0 n1 n2 n3 n4 p1 p2 p3 p4 p5 e0 e1 e2 e3 e4 w
            · by_cases h1 : n0 = 1
              · subst h1
                exact iReadA_one s hs p0 q0 n1 n2 n3 n4 p1 p2 p3 p4 p5 e0 e1 e2 e3 e4 w
              · exact iReadA_ill s hs p0 q0 n0 n1 n2 n3 n4 p1 p2 p3 p4 p5 e0 e1 e2 e3 e4 h0 h1 w
theorem infoAceF : (Tryz.prog.info? 24).map (fun i => (i.zero, i.size, i.bytes)) = some (some (.agg #[.bool false, .int .i64 0, .int .i64 0, .int .i64 0, .int .i64 0]), 5, 40) := by kernel_rfl
/-- What readAces ends in. -/
def AcsB (s : ByteArray) (w : World) (e : Ending) (w' : World) : Prop := Below w.heap.size w w' ∧ ((rdNb s = none ∧ ∃ v, e = .returned (.tuple #[v, .bool false])) ∨ ∃ l v, rdNb s = some l ∧ e = .returned (.tuple #[v, .bool true]) ∧ w'.ownsRow w.heap.size 24 5 v l.length (pcA l))
/-- Read on behind some aces. -/
def On (s : ByteArray) (n p : Nat) (acc : List Ac) : Option (List Ac × Nat) := (rdAcs s n p).map (fun q => (acc ++ q.1, q.2))
theorem on_none {s : ByteArray} {n p : Nat} {acc : List Ac} (h : rdAc s p = none) : On s (n + 1) p acc = none := by
  unfold On
  rw [rdAcs, h]
  rfl
theorem on_some {s : ByteArray} {n p q : Nat} {x : Ac} {acc : List Ac} (h : rdAc s p = some (x, q)) : On s (n + 1) p acc = On s n q (acc ++ [x]) := by
  unfold On
  rw [rdAcs, h]
  simp only []
  cases h2 : rdAcs s n q with
  | none => rfl
  | some r => simp
theorem on_zero (s : ByteArray) (p : Nat) (acc : List Ac) : On s 0 p acc = some (acc, p) := by
  unfold On
  rw [rdAcs]
  simp
set_option maxRecDepth 100000 in
set_option maxHeartbeats 4000000 in
/-- impl.readAces. -/
theorem iReadAces_any (s : ByteArray) (hs : s.size ≤ 8000) (w : World) :
    Calls Tryz.prog 44 #[.string s] w (AcsB s w) := by
  cases h0 : rd1 s 0 with
  | none =>
    obtain ⟨c, hc⟩ := readNum_none hs (p := 0) (by omega) h0
    have HC : Hid (∀ w, Calls Tryz.prog 71 #[.string s, .int .i64 0] w fun e w' => e = .returned (.tuple #[.int .i64 0, .int .i64 0, .iface 120 (.agg #[.int .i64 c])]) ∧ w' = w) := hc
    have HN : Hid (rdNb s = none) := (by show _ = _; unfold rdNb; rw [h0])
    clear hc h0
    go_enter Tryz.func44, Tryz.ntmps44
    go_wp2_with fail
    refine (HC.out _).mono ?_
    rintro e w1 ⟨rfl, rfl⟩
    go_wp2
    go_ret2
    exact ⟨Below.refl _ _, .inl ⟨HN.out, _, rfl⟩⟩
  | some r =>
    obtain ⟨cnt, p0⟩ := r
    have HC : Hid (∀ w, Calls Tryz.prog 71 #[.string s, .int .i64 0] w fun e w' => e = .returned (.tuple #[.int .i64 cnt, .int .i64 (p0 : Int), .nilIface]) ∧ w' = w) := readNum_some hs (p := 0) (by omega) h0
    have hp0 := rd1_le h0
    by_cases hneg : cnt < 0
    · have HN : Hid (rdNb s = none) := (by show _ = _; unfold rdNb; rw [h0]; simp only []; rw [if_pos (.inl hneg)])
      clear h0 hp0
      go_enter Tryz.func44, Tryz.ntmps44
      go_wp2_with fail
      refine (HC.out _).mono ?_
      rintro e w1 ⟨rfl, rfl⟩
      go_wp2
      go_ret2
      exact ⟨Below.refl _ _, .inl ⟨HN.out, _, rfl⟩⟩
    by_cases hbig : 32 < cnt
    · have HN : Hid (rdNb s = none) := (by show _ = _; unfold rdNb; rw [h0]; simp only []; rw [if_pos (.inr hbig)])
      clear h0 hp0
      go_enter Tryz.func44, Tryz.ntmps44
      go_wp2_with fail
      refine (HC.out _).mono ?_
      rintro e w1 ⟨rfl, rfl⟩
      go_wp2
      go_ret2
      exact ⟨Below.refl _ _, .inl ⟨HN.out, _, rfl⟩⟩
    obtain ⟨n, rfl⟩ := Int.eq_ofNat_of_zero_le (by omega : 0 ≤ cnt)
    have hn32 : n ≤ 32 := by omega
    have HT : Hid (rdNb s = match On s n p0 [] with | none => none | some (l, q) => if q = s.size then some l else none) := (by
      show _ = _
      unfold rdNb On
      rw [h0]
      simp only [Int.toNat_natCast]
      rw [if_neg (by omega)]
      cases rdAcs s n p0 with
      | none => rfl
      | some r => simp)
    generalize hTOT : On s n p0 [] = TOT at HT
    have HTOT : Hid (On s (n - 0) p0 [] = TOT) := (by show _ = _; rw [Nat.sub_zero]; exact hTOT)
    have HA : Hid (∀ p w, p ≤ s.size → Calls Tryz.prog 72 #[.string s, .int .i64 (p : Int)] w (AceB s p w)) := (fun p w hp => iReadAB_any s hs p (by omega) w)
    clear h0 hneg hbig hTOT
    go_enter Tryz.func44, Tryz.ntmps44
    go_wp2_with fail
    refine (HC.out _).mono ?_
    rintro e w1 ⟨rfl, rfl⟩
    go_wp2
    go_loopw [5, 7, 28] (fun at_ v i wr => ∃ (k p : Nat) (acc : List Ac), k ≤ n ∧ p ≤ s.size ∧ acc.length = k ∧ i = .int .i64 k ∧ at_ = .int .i64 (p : Int) ∧ Hid (On s (n - k) p acc = TOT) ∧ Hid (wr.ownsRow w1.heap.size 24 5 v acc.length (pcA acc)) ∧ Hid (Below w1.heap.size w1 wr)) (fun _ _ i _ => n - (intOf i).toNat)
    case atStart => exact ⟨0, p0, [], Nat.zero_le _, hp0, rfl, rfl, rfl, HTOT, World.ownsRow_nil _ _ _ _, Below.refl _ _⟩
    case round =>
      obtain ⟨k, p, acc, hk, hp, hal, rfl, rfl, hOn, hOw, hB⟩ := hrel
      by_cases hlt : k < n
      · have hlt' : (k : Int) < (n : Int) := by omega
        have hRA : Hid (Calls Tryz.prog 72 #[.string s, .int .i64 (p : Int)] wr (AceB s p wr)) := HA.out p wr hp
        have hsub : Hid (n - k = (n - (k + 1)) + 1) := (show _ = _ by omega)
        go_wp2_with fail
        refine hRA.out.mono ?_
        rintro e wa ⟨hba, ⟨hno, x, q, rfl⟩ | ⟨x, q, hx, hq, rfl⟩⟩
        · have HN : Hid (rdNb s = none) := (by
            show _ = _
            rw [HT.out, ← hOn.out, hsub.out, on_none hno])
          have hW : Hid (Below w1.heap.size w1 wa) := Below.on hB.out hba
          clear hba hRA hOn hOw hno
          go_wp2
          go_ret2
          exact ⟨Below.onA hW.out, .inl ⟨HN.out, _, rfl⟩⟩
        · have hOn2 : Hid (On s (n - (k + 1)) q (acc ++ [x]) = TOT) := (by
            show _ = _
            rw [← hOn.out, hsub.out, on_some hx])
          have hBA : Hid (Below w1.heap.size w1 (wa.alloc (.cells #[.bool x.al, .int .i64 x.wh, .int .i64 x.id, .int .i64 x.fl, .int .i64 x.ma] 24))) := Below.onA (Below.on hB.out hba)
          have hOA : Hid ((wa.alloc (.cells #[.bool x.al, .int .i64 x.wh, .int .i64 x.id, .int .i64 x.fl, .int .i64 x.ma] 24)).ownsRow w1.heap.size 24 5 u7 acc.length (pcA acc)) := rowA_below (rowA_below hOw.out hba) (bel_alloc _ _)
          have hF : Hid (Five (wa.alloc (.cells #[.bool x.al, .int .i64 x.wh, .int .i64 x.id, .int .i64 x.fl, .int .i64 x.ma] 24)) wa.heap.size 0 x) := five_new wa x _
          clear hba hOw hB hRA hx hOn
          go_upto_region 10 with fail
          generalize wa.alloc (.cells #[.bool x.al, .int .i64 x.wh, .int .i64 x.id, .int .i64 x.fl, .int .i64 x.ma] 24) = wb at hBA hOA hF ⊢
          generalize wa.heap.size = X at hF ⊢
          obtain ⟨c0, c1, c2, c3, c4⟩ := hF.out
          simp only [Nat.zero_add] at c0 c1 c2 c3 c4
          obtain ⟨v2, w2, hrr, hO2, hB2⟩ := append_one (P := Tryz.prog) w1 wb 31 31 24 Tryz.underlying31 infoAceF u7 acc hOA.out hBA.out x (by omega)
          have HO2 : Hid _ := hO2
          have HB2 : Hid (Below w1.heap.size w1 w2) := hB2
          clear hO2 hB2 hBA hOA
          go_wp2_with (at_builtin; refine wpList_append_runA _ rfl (.tmp 39) (.tmp 41) 31 31 rfl _ _ _ _ rfl rfl hrr ?_)
          go_roundw
          case rel => exact ⟨k + 1, q, acc ++ [x], by omega, hq, by simp [hal], by go_num, rfl, hOn2, HO2, HB2⟩
          case measure => simp [intOf]; omega
      · have hke : k = n := by omega
        subst hke
        have hend : Hid (rdNb s = if p = s.size then some acc else none) := (by
          show _ = _
          rw [HT.out, ← hOn.out, Nat.sub_self, on_zero])
        by_cases hps : p = s.size
        · have g1 : ((p : Int) == (s.size : Int)) = true := by rw [hps]; simp
          have hend2 : Hid (rdNb s = some acc) := (by show _ = _; rw [hend.out, if_pos hps])
          clear hps hend
          go_wp2
          go_ret2
          exact ⟨hB.out, .inr ⟨acc, _, hend2.out, rfl, hOw.out⟩⟩
        · have g1 : ((p : Int) == (s.size : Int)) = false := beq_eq_false_iff_ne.2 (by omega)
          have hend2 : Hid (rdNb s = none) := (by show _ = _; rw [hend.out, if_neg hps])
          clear hps hend
          go_wp2
          go_ret2
          exact ⟨hB.out, .inl ⟨hend2.out, _, rfl⟩⟩
/-- Three cells of a block. -/
structure Box3 (w : World) (b : Nat) (v0 v1 v2 : Value) : Prop where
  lt : b < w.heap.size
  c0 : w.cell? ⟨b, 0, none⟩ = some v0
  c1 : w.cell? ⟨b, 1, none⟩ = some v1
  c2 : w.cell? ⟨b, 2, none⟩ = some v2
theorem Box3.below {w w' : World} {b : Nat} {v0 v1 v2 : Value} (h : Box3 w b v0 v1 v2) (hb : Below w.heap.size w w') : Box3 w' b v0 v1 v2 :=
  ⟨Nat.lt_of_lt_of_le h.lt hb.size, (hb.cell (p := ⟨b, 0, none⟩) h.lt).trans h.c0, (hb.cell (p := ⟨b, 1, none⟩) h.lt).trans h.c1, (hb.cell (p := ⟨b, 2, none⟩) h.lt).trans h.c2⟩
theorem box3_new (w : World) (v0 v1 v2 : Value) (t : TypeId) : Box3 (w.alloc (.cells #[v0, v1, v2] t)) w.heap.size v0 v1 v2 := by
  have hb : (w.alloc (.cells #[v0, v1, v2] t)).heap[w.heap.size]? = some (.cells #[v0, v1, v2] t) := by
    rw [World.alloc]
    exact Array.getElem?_push_size
  refine ⟨by simp, ?_, ?_, ?_⟩ <;> (simp only [World.cell?, hb]; rfl)
set_option maxRecDepth 100000 in
set_option maxHeartbeats 4000000 in
/-- impl.NfsFrom. -/
theorem iNfsFrom_any (s : ByteArray) (hs : s.size ≤ 1048576) (w : World) :
    Calls Tryz.prog 15 #[.string s] w (AnsP (nfO s) w) := by
  have hY : Hid (Wr2 (w.alloc (.cells #[.slice none 0 0, .int .i64 0] 35)) w.heap.size) := wr2_new w _
  have hW0 : Hid (Below w.heap.size w (w.alloc (.cells #[.slice none 0 0, .int .i64 0] 35))) := bel_alloc _ _
  have HZ0 : Hid (w.heap.size < (w.alloc (.cells #[.slice none 0 0, .int .i64 0] 35)).heap.size) := (show _ < _ by simp)
  have HU : Hid (∀ w, Calls Tryz.prog 43 #[.string s] w fun e w' => e = .returned (.agg #[.string (uT s), .int .i64 0, .int .i64 (uC s)]) ∧ Below w.heap.size w w') := iUns_any s (by unfold maxLen; omega)
  by_cases hc : uC s = 0
  · have HR : Hid (∀ w, Calls Tryz.prog 44 #[.string (uT s)] w (AcsB (uT s) w)) := iReadAces_any (uT s) (by have := (u_zero hc).2.2.2; omega)
    have HNN : Hid (rdNb (uT s) = none → nfO s = ([], 3)) := nfO_none hc
    have HNS : Hid (∀ l, rdNb (uT s) = some l → nfO s = (l, 0)) := (fun l h => nfO_some hc h)
    rw [hc] at HU
    clear hc hs
    generalize uT s = TX at HU HR HNN HNS
    go_enter Tryz.func15, Tryz.ntmps15
    go_wp2_with fail
    refine (HU.out _).mono ?_
    rintro e w1 ⟨rfl, hb1⟩
    have hY1 : Hid (Wr2 (w1.alloc (.cells #[.string TX, .int .i64 0, .int .i64 0] 57)) w.heap.size) := (hY.out.below hb1).below (bel_alloc _ _)
    have hW1 : Hid (Below w.heap.size w (w1.alloc (.cells #[.string TX, .int .i64 0, .int .i64 0] 57))) := Below.onA (Below.on hW0.out hb1)
    have hX1 : Hid (Box3 (w1.alloc (.cells #[.string TX, .int .i64 0, .int .i64 0] 57)) w1.heap.size (.string TX) (.int .i64 0) (.int .i64 0)) := box3_new w1 _ _ _ _
    have HZ1 : Hid (w.heap.size < (w1.alloc (.cells #[.string TX, .int .i64 0, .int .i64 0] 57)).heap.size) := (show _ < _ from hY1.out.lt)
    clear hb1 hY hW0 HZ0 HU
    go_upto_region 2 with fail
    generalize w1.alloc (.cells #[.string TX, .int .i64 0, .int .i64 0] 57) = w2 at hY1 hW1 hX1 HZ1 ⊢
    generalize w1.heap.size = X at hX1 ⊢
    obtain ⟨xl, x0, x1, x2⟩ := hX1.out
    go_wp2_with fail
    refine (HR.out _).mono ?_
    rintro e w3 ⟨hb3, ⟨hn, v, rfl⟩ | ⟨l, v, hx, rfl, hOw⟩⟩
    · have hO : Hid (nfO s = ([], 3)) := HNN.out hn
      have hW3 : Hid (Below w.heap.size w w3) := Below.on hW1.out hb3
      have hY3 : Hid (Wr2 w3 w.heap.size) := hY1.out.below hb3
      clear hb3 hY1 hW1 HR hn xl x0 x1 x2 hX1
      obtain ⟨yl, y0, y1, yz⟩ := hY3.out
      have yz0 := yz 0
      have yz1 := yz 1
      clear yz
      go_wp2
      refine bodyPost_ret (v := .agg #[.slice none 0 0, .int .i64 3]) (by simp [results, Tryz.results15, go_sem, y0, y1]) rfl (ansP_ill hO.out ?_)
      repeat (refine bl_setA ?_ (Nat.le_refl _))
      exact hW3.out
    · have hO : Hid (nfO s = (l, 0)) := HNS.out l hx
      have hW3 : Hid (Below w.heap.size w w3) := Below.on hW1.out hb3
      have hY3 : Hid (Wr2 w3 w.heap.size) := hY1.out.below hb3
      obtain ⟨a, cp, rfl, hOA, hin⟩ := ownA_of_row hOw
      have HNA : Hid (NewA w w3 a l.length l) := ⟨hOA, fun A e => ⟨by have := (hin A e).1; have := HZ1.out; omega, (hin A e).2⟩, hW3.out⟩
      have HNE : Hid (∀ A, a = some A → w.heap.size ≠ A.block) := (fun A e => by have := (hin A e).1; have := HZ1.out; omega)
      clear hb3 hY1 hW1 HR hx hOw hOA hin xl x0 x1 x2 hX1
      generalize hGL : l.length = GL at HNA ⊢
      have HGL : Hid (l.length = GL) := hGL
      clear hGL
      obtain ⟨yl, y0, y1, yz⟩ := hY3.out
      have yz0 := yz 0
      have yz1 := yz 1
      clear yz
      go_wp2
      refine bodyPost_ret (v := .agg #[.slice a GL cp, .int .i64 0]) (by simp [results, Tryz.results15, go_sem, y0, y1]) rfl (ansP_of hO.out HGL.out ?_)
      repeat (refine NewA.set ?_ (Nat.le_refl _) HNE.out)
      exact HNA.out
  · have hO : Hid (nfO s = ([], uC s)) := nfO_ill hc
    have g1 : (uC s == 0) = false := beq_eq_false_iff_ne.2 hc
    generalize uC s = CD at HU hO g1
    generalize uT s = TX at HU
    clear hc hs
    go_enter Tryz.func15, Tryz.ntmps15
    go_wp2_with fail
    refine (HU.out _).mono ?_
    rintro e w1 ⟨rfl, hb1⟩
    have hY1 : Hid (Wr2 (w1.alloc (.cells #[.string TX, .int .i64 0, .int .i64 CD] 57)) w.heap.size) := (hY.out.below hb1).below (bel_alloc _ _)
    have hW1 : Hid (Below w.heap.size w (w1.alloc (.cells #[.string TX, .int .i64 0, .int .i64 CD] 57))) := Below.onA (Below.on hW0.out hb1)
    have hX1 : Hid (Box3 (w1.alloc (.cells #[.string TX, .int .i64 0, .int .i64 CD] 57)) w1.heap.size (.string TX) (.int .i64 0) (.int .i64 CD)) := box3_new w1 _ _ _ _
    clear hb1 hY hW0 HZ0 HU
    go_upto_region 2 with fail
    generalize w1.alloc (.cells #[.string TX, .int .i64 0, .int .i64 CD] 57) = w2 at hY1 hW1 hX1 ⊢
    generalize w1.heap.size = X at hX1 ⊢
    obtain ⟨xl, x0, x1, x2⟩ := hX1.out
    obtain ⟨yl, y0, y1, yz⟩ := hY1.out
    have yz0 := yz 0
    have yz1 := yz 1
    clear yz
    go_wp2
    refine bodyPost_ret (v := .agg #[.slice none 0 0, .int .i64 CD]) (by simp [results, Tryz.results15, go_sem, y0, y1]) rfl (ansP_ill hO.out ?_)
    repeat (refine bl_setA ?_ (Nat.le_refl _))
    exact hW1.out
end Go.Proofs.YtedahdncincgjaaGreatDoor
