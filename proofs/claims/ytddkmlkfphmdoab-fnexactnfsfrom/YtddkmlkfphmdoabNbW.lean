/- A list in order as bytes: aceBytes, NfsBytes of the program and of the specification. -/
import Derived.Test.YtddkmlkfphmdoabNbM
import Derived.Test.YtddkmlkfphmdoabNfsRight
import Derived.Test.YtddkmlkfphmdoabPutNumWalks
import Derived.Test.YtddkmlkfphmdoabSealWalks
import Derived.Test.YtddkmlkfphmdoabTxR
import Derived.Test.YtddkmlkfphmdoabJoin5
import Derived.Lib.QuietBelow
import Derived.Deep.Cut
namespace Go.Proofs.Ytddkmlkfphmdoab
open Go.RowKit Go.PlainAid Go.Deep
set_option linter.unusedVariables false
def encB (n : Int) : ByteArray := ⟨(encI n).toArray⟩
theorem encB_size {n : Int} (h1 : -9223372036854775808 ≤ n) (h2 : n ≤ 9223372036854775807) : (encB n).size ≤ 10 := by
  have := encI_len h1 h2
  simpa [encB, ByteArray.size] using this
def acB (x : Ac) : ByteArray := ⟨(aceBs x).toArray⟩
theorem acB_parts (x : Ac) : acB x = encB (alN x) ++ encB x.wh ++ encB x.id ++ encB x.fl ++ encB x.ma := by
  apply ByteArray.ext
  apply Array.toList_inj.1
  simp [acB, aceBs, encB, ByteArray.data_append]
/-- What has been written behind k aces. -/
def nbP (l : List Ac) (k : Nat) : ByteArray := ⟨(encI (l.length : Int) ++ acesBs (l.take k)).toArray⟩
theorem take_nextA {l : List Ac} {k : Nat} (h : k < l.length) : l.take (k + 1) = l.take k ++ [acAt l k] := by
  rw [acAt_get h, List.take_append_getElem]
theorem nbP_next {l : List Ac} {k : Nat} (h : k < l.length) : nbP l (k + 1) = nbP l k ++ encB (alN (acAt l k)) ++ encB (acAt l k).wh ++ encB (acAt l k).id ++ encB (acAt l k).fl ++ encB (acAt l k).ma := by
  apply ByteArray.ext
  apply Array.toList_inj.1
  rw [nbP, take_nextA h]
  simp [nbP, acesBs_app, acesBs_one, aceBs, encB, ByteArray.data_append]
theorem nbP_zero (l : List Ac) : nbP l 0 = encB (l.length : Int) := by simp [nbP, encB, acesBs]
theorem nbP_all (l : List Ac) : nbP l l.length = ⟨(nbB l).toArray⟩ := by simp [nbP, nbB]
theorem nbP_size {l : List Ac} (h : acesB l = true) (k : Nat) : (nbP l k).size ≤ 1700 := by
  have h1 := acesBs_len (l.take k) (fun x hx => aces_mem h (List.mem_of_mem_take hx))
  have h2 := aces_len h
  have h3 := encI_len (n := (l.length : Int)) (by omega) (by omega)
  have h4 : (l.take k).length ≤ l.length := by simp; omega
  have e : (nbP l k).size = (encI (l.length : Int) ++ acesBs (l.take k)).length := by simp [nbP, ByteArray.size]
  rw [e, List.length_append]
  omega
/-- NfsBytes. -/
def nbT (l : List Ac) : ByteArray := if acesB l then sealOf ⟨(nbB l).toArray⟩ else ⟨#[]⟩
theorem ret_strN {a b : ByteArray} (h : a = b) : Ending.returned (.string a) = .returned (.string b) := by rw [h]
set_option maxRecDepth 100000 in
set_option maxHeartbeats 8000000 in
/-- spec.NfsBytes of a right list. -/
theorem sNfsBytes_yes (a : Option Addr) (len cap : Nat) (l : List Ac) (hb : acesB l = true) (w : World) (hi : Acs a len l w) :
    Calls Try.prog 12 #[.slice a len cap] w fun e w' => e = .returned (.string (nbT l)) ∧ Below w.heap.size w w' := by
  have h32 := aces_len hb
  have hl := hi.1
  have hl32 : len ≤ 32 := by omega
  have hR : Hid (Calls Try.prog 21 #[.slice a len cap] w fun e w' => e = .returned (.bool true) ∧ Below w.heap.size w w') := (by have := sNfsRight_any a len cap l (by omega) w hi; rwa [hb] at this)
  have HN0 : Hid (∀ w, Calls Try.prog 22 #[.int .i64 (len : Int)] w fun e w' => e = .returned (.string (nbP l 0)) ∧ Below w.heap.size w w') := (fun w => by rw [nbP_zero, hl]; exact sPutNum_any (len : Int) (by omega) (by omega) w)
  have HSE : Hid (∀ w, Calls Try.prog 23 #[.string (nbP l len)] w fun e w' => e = .returned (.string (nbT l)) ∧ Below w.heap.size w w') := (fun w => by
    have h1 := sSeal_yes (nbP l len) (by have := nbP_size hb len; omega) w
    have e : nbT l = sealOf (nbP l len) := by rw [nbT, if_pos hb, ← nbP_all, hl]
    rw [e]
    exact h1)
  have HS : Hid (∀ k, (nbP l k).size ≤ 1700) := nbP_size hb
  have HN : Hid (∀ k, k < len → nbP l (k + 1) = nbP l k ++ encB (alN (acAt l k)) ++ encB (acAt l k).wh ++ encB (acAt l k).id ++ encB (acAt l k).fl ++ encB (acAt l k).ma) := (fun k hk => nbP_next (by omega))
  have HB : Hid (∀ k, k < len → (1 ≤ (acAt l k).wh ∧ (acAt l k).wh ≤ 5) ∧ (0 ≤ (acAt l k).id ∧ (acAt l k).id ≤ 9999) ∧ (0 ≤ (acAt l k).fl ∧ (acAt l k).fl ≤ 15) ∧ (1 ≤ (acAt l k).ma ∧ (acAt l k).ma ≤ 255)) := (fun k hk => by
    obtain ⟨h1, h2, _, h4, h5⟩ := aceB_iff.1 (aces_at hb (show k < l.length by omega))
    exact ⟨h1, h2, h4.1, h5⟩)
  have HI : Hid (Acs a len l w) := hi
  clear hi hb h32 hl
  go_enter Try.func12, Try.ntmps12
  go_wp2_with fail
  refine hR.out.mono ?_
  rintro e w1 ⟨rfl, hb1⟩
  have hW1 : Hid (Below w.heap.size w w1) := hb1
  clear hb1 hR
  go_wp2_with fail
  refine (HN0.out _).mono ?_
  rintro e w2 ⟨rfl, hb2⟩
  have hW2 : Hid (Below w.heap.size w w2) := Below.on hW1.out hb2
  clear hb2 hW1 HN0
  go_wp2
  go_loopw [3, 4] (fun s i wr => ∃ k : Nat, k ≤ len ∧ i = .int .i64 k ∧ s = .string (nbP l k) ∧ Hid (Below w.heap.size w wr)) (fun _ i _ => len - (intOf i).toNat)
  case atStart => exact ⟨0, Nat.zero_le _, rfl, rfl, hW2⟩
  case round =>
    obtain ⟨k, hk, rfl, rfl, hB⟩ := hrel
    by_cases hlt : k < len
    · have hlt' : (k : Int) < (len : Int) := by omega
      obtain ⟨b, off, rfl, hbl, hcl⟩ := HI.out.2 (by omega)
      obtain ⟨c0, c1, c2, c3, c4⟩ := (hcl k hlt).below hbl hB.out
      have hn : Hid _ := HN.out k hlt
      obtain ⟨v1, v2, v3, v4⟩ := HB.out k hlt
      have v0 : -9223372036854775808 ≤ alN (acAt l k) ∧ alN (acAt l k) ≤ 9223372036854775807 := by unfold alN; split <;> omega
      have d0 : Hid (∀ w, Calls Try.prog 22 #[.int .i64 (alN (acAt l k))] w fun e w' => e = .returned (.string (encB (alN (acAt l k)))) ∧ Below w.heap.size w w') := sPutNum_any _ v0.1 v0.2
      have d1 : Hid (∀ w, Calls Try.prog 22 #[.int .i64 (acAt l k).wh] w fun e w' => e = .returned (.string (encB (acAt l k).wh)) ∧ Below w.heap.size w w') := sPutNum_any _ (by omega) (by omega)
      have d2 : Hid (∀ w, Calls Try.prog 22 #[.int .i64 (acAt l k).id] w fun e w' => e = .returned (.string (encB (acAt l k).id)) ∧ Below w.heap.size w w') := sPutNum_any _ (by omega) (by omega)
      have d3 : Hid (∀ w, Calls Try.prog 22 #[.int .i64 (acAt l k).fl] w fun e w' => e = .returned (.string (encB (acAt l k).fl)) ∧ Below w.heap.size w w') := sPutNum_any _ (by omega) (by omega)
      have d4 : Hid (∀ w, Calls Try.prog 22 #[.int .i64 (acAt l k).ma] w fun e w' => e = .returned (.string (encB (acAt l k).ma)) ∧ Below w.heap.size w w') := sPutNum_any _ (by omega) (by omega)
      have s0 := HS.out k
      have s1 := encB_size v0.1 v0.2
      have s2 := encB_size (n := (acAt l k).wh) (by omega) (by omega)
      have s3 := encB_size (n := (acAt l k).id) (by omega) (by omega)
      have s4 := encB_size (n := (acAt l k).fl) (by omega) (by omega)
      have s5 := encB_size (n := (acAt l k).ma) (by omega) (by omega)
      clear hcl v0 v1 v2 v3 v4
      generalize nbP l k = T at s0 hn
      generalize encB (acAt l k).wh = E1 at d1 s2 hn
      generalize encB (acAt l k).id = E2 at d2 s3 hn
      generalize encB (acAt l k).fl = E3 at d3 s4 hn
      generalize encB (acAt l k).ma = E4 at d4 s5 hn
      generalize (acAt l k).wh = x1 at c1 d1
      generalize (acAt l k).id = x2 at c2 d2
      generalize (acAt l k).fl = x3 at c3 d3
      generalize (acAt l k).ma = x4 at c4 d4
      have q1 := fun d os => cell_regrown c1 d os
      have q2 := fun d os => cell_regrown c2 d os
      have q3 := fun d os => cell_regrown c3 d os
      have q4 := fun d os => cell_regrown c4 d os
      have r1 : ∀ d os, Calls Try.prog 22 #[.int .i64 x1] (Go.Sort.grow (redrawn wr d) os) fun e w'' => e = .returned (.string E1) ∧ ∃ p : Regrown, w'' = Go.Sort.grow (redrawn wr p.d) p.os := fun d os => Calls.regrown_of (d1.out _)
      have r2 : ∀ d os, Calls Try.prog 22 #[.int .i64 x2] (Go.Sort.grow (redrawn wr d) os) fun e w'' => e = .returned (.string E2) ∧ ∃ p : Regrown, w'' = Go.Sort.grow (redrawn wr p.d) p.os := fun d os => Calls.regrown_of (d2.out _)
      have r3 : ∀ d os, Calls Try.prog 22 #[.int .i64 x3] (Go.Sort.grow (redrawn wr d) os) fun e w'' => e = .returned (.string E3) ∧ ∃ p : Regrown, w'' = Go.Sort.grow (redrawn wr p.d) p.os := fun d os => Calls.regrown_of (d3.out _)
      have r4 : ∀ d os, Calls Try.prog 22 #[.int .i64 x4] (Go.Sort.grow (redrawn wr d) os) fun e w'' => e = .returned (.string E4) ∧ ∃ p : Regrown, w'' = Go.Sort.grow (redrawn wr p.d) p.os := fun d os => Calls.regrown_of (d4.out _)
      cases hal : (acAt l k).al
      · have e0 : alN (acAt l k) = 0 := by simp [alN, hal]
        rw [e0] at hn d0 s1
        generalize encB 0 = E0 at d0 s1 hn
        have r0 : ∀ d os, Calls Try.prog 22 #[.int .i64 0] (Go.Sort.grow (redrawn wr d) os) fun e w'' => e = .returned (.string E0) ∧ ∃ p : Regrown, w'' = Go.Sort.grow (redrawn wr p.d) p.os := fun d os => Calls.regrown_of (d0.out _)
        rw [hal] at c0
        clear e0
        go_upto_region 10 with fail
        refine wp_region_quiet_below (by kernel_rfl) (by kernel_rfl) ?_
        repeat (go_big_quiet_step (fail))
        go_big_quiet_step (exact r0 _ _)
        repeat (go_big_quiet_step (fail))
        go_big_quiet_step (exact r1 _ _)
        repeat (go_big_quiet_step (fail))
        go_big_quiet_step (exact r2 _ _)
        repeat (go_big_quiet_step (fail))
        go_big_quiet_step (exact r3 _ _)
        repeat (go_big_quiet_step (fail))
        go_big_quiet_step (exact r4 _ _)
        repeat (go_big_quiet_step (fail))
        refine wpQuiet_nil ?_
        intro _ hw'
        obtain ⟨⟨dq, osq⟩, hw''⟩ := hw'
        subst hw''
        have hB2 : Hid (Below w.heap.size w (Go.Sort.grow (redrawn wr dq) osq)) := Below.on hB.out (below_regrown wr dq osq)
        generalize Go.Sort.grow (redrawn wr dq) osq = w2 at hB2 ⊢
        clear q1 q2 q3 q4 r0 r1 r2 r3 r4 c0 c1 c2 c3 c4 d0 d1 d2 d3 d4
        go_wp2
        go_roundw
        case rel => exact ⟨k + 1, by omega, by go_num, by rw [hn.out], hB2⟩
        case measure => simp [intOf]; omega
      · have e0 : alN (acAt l k) = 1 := by simp [alN, hal]
        rw [e0] at hn d0 s1
        generalize encB 1 = E0 at d0 s1 hn
        have r0 : ∀ d os, Calls Try.prog 22 #[.int .i64 1] (Go.Sort.grow (redrawn wr d) os) fun e w'' => e = .returned (.string E0) ∧ ∃ p : Regrown, w'' = Go.Sort.grow (redrawn wr p.d) p.os := fun d os => Calls.regrown_of (d0.out _)
        rw [hal] at c0
        clear e0
        go_upto_region 10 with fail
        refine wp_region_quiet_below (by kernel_rfl) (by kernel_rfl) ?_
        repeat (go_big_quiet_step (fail))
        go_big_quiet_step (exact r0 _ _)
        repeat (go_big_quiet_step (fail))
        go_big_quiet_step (exact r1 _ _)
        repeat (go_big_quiet_step (fail))
        go_big_quiet_step (exact r2 _ _)
        repeat (go_big_quiet_step (fail))
        go_big_quiet_step (exact r3 _ _)
        repeat (go_big_quiet_step (fail))
        go_big_quiet_step (exact r4 _ _)
        repeat (go_big_quiet_step (fail))
        refine wpQuiet_nil ?_
        intro _ hw'
        obtain ⟨⟨dq, osq⟩, hw''⟩ := hw'
        subst hw''
        have hB2 : Hid (Below w.heap.size w (Go.Sort.grow (redrawn wr dq) osq)) := Below.on hB.out (below_regrown wr dq osq)
        generalize Go.Sort.grow (redrawn wr dq) osq = w2 at hB2 ⊢
        clear q1 q2 q3 q4 r0 r1 r2 r3 r4 c0 c1 c2 c3 c4 d0 d1 d2 d3 d4
        go_wp2
        go_roundw
        case rel => exact ⟨k + 1, by omega, by go_num, by rw [hn.out], hB2⟩
        case measure => simp [intOf]; omega
    · have : k = len := by omega
      subst this
      go_wp2_with fail
      refine (HSE.out _).mono ?_
      rintro e w3 ⟨rfl, hb3⟩
      have hW3 : Hid (Below w.heap.size w w3) := Below.on hB.out hb3
      clear hb3
      go_wp2
      go_ret
      exact ⟨rfl, hW3.out⟩
set_option maxHeartbeats 2000000 in
/-- spec.NfsBytes. -/
theorem sNfsBytes_any (a : Option Addr) (len cap : Nat) (l : List Ac) (hlen : len ≤ 1048576) (w : World) (hi : Acs a len l w) :
    Calls Try.prog 12 #[.slice a len cap] w fun e w' => e = .returned (.string (nbT l)) ∧ Below w.heap.size w w' := by
  cases hb : acesB l
  · have hR : Hid (Calls Try.prog 21 #[.slice a len cap] w fun e w' => e = .returned (.bool false) ∧ Below w.heap.size w w') := (by have := sNfsRight_any a len cap l hlen w hi; rwa [hb] at this)
    have hn : nbT l = ⟨#[]⟩ := by rw [nbT, hb]; rfl
    rw [hn]
    clear hn hb hi
    go_enter Try.func12, Try.ntmps12
    go_wp2_with fail
    refine hR.out.mono ?_
    rintro e w1 ⟨rfl, hb1⟩
    have hW1 : Hid (Below w.heap.size w w1) := hb1
    clear hb1 hR
    go_wp2
    go_ret
    exact ⟨rfl, hW1.out⟩
  · exact sNfsBytes_yes a len cap l hb w hi
end Go.Proofs.Ytddkmlkfphmdoab
