/- AclRight, the program's and the specification's. -/
import Derived.Test.YtgojbilbkfilgaaNamedRight
import Derived.Test.YtgojbilbkfilgaaAclTo
namespace Go.Proofs.Ytgojbilbkfilgaa
open Go.RowKit Go.PlainAid
set_option linter.unusedVariables false
set_option maxHeartbeats 1000000 in
/-- impl.hasNamed. -/
theorem hasNamed_any (u g o : Int) (au : Option Addr) (lu cu : Nat) (ag : Option Addr) (lg cg : Nat) (r : Bool) (m : Int) (w : World) :
    Calls Try.prog 89 #[.agg #[.int .i64 u, .int .i64 g, .int .i64 o, .slice au lu cu, .slice ag lg cg, .bool r, .int .i64 m]] w fun e w' => e = .returned (.bool (!(lu == 0 && lg == 0))) ∧ Below w.heap.size w w' := by
  by_cases h1 : lu = 0
  · subst h1
    by_cases h2 : lg = 0
    · subst h2
      go_enter Try.func89, Try.ntmps89
      go_wp2
      go_ret
      exact ⟨rfl, bel_alloc _ _⟩
    · have e : Hid ((!((0 : Nat) == 0 && lg == 0)) = true) := (by show _ = _; simp [h2])
      have d : 0 < (lg : Int) := by omega
      clear h2
      go_enter Try.func89, Try.ntmps89
      go_wp2
      go_ret
      exact ⟨ret_boolW (by rw [e.out]; simp; omega), bel_alloc _ _⟩
  · have e : Hid ((!(lu == 0 && lg == 0)) = true) := (by show _ = _; simp [h1])
    have d : 0 < (lu : Int) := by omega
    clear h1
    go_enter Try.func89, Try.ntmps89
    go_wp2
    go_ret
    exact ⟨ret_boolW e.out.symm, bel_alloc _ _⟩
theorem aclB_u {u g o : Int} {us gs : List (Int × Int)} {r : Bool} {m : Int} (h : inR 0 7 u = false) : aclB u g o us gs r m = false := by simp [aclB, h]
theorem aclB_g {u g o : Int} {us gs : List (Int × Int)} {r : Bool} {m : Int} (h : inR 0 7 g = false) : aclB u g o us gs r m = false := by simp [aclB, h]
theorem aclB_o {u g o : Int} {us gs : List (Int × Int)} {r : Bool} {m : Int} (h : inR 0 7 o = false) : aclB u g o us gs r m = false := by simp [aclB, h]
theorem aclB_m {u g o : Int} {us gs : List (Int × Int)} {r : Bool} {m : Int} (h : inR 0 7 m = false) : aclB u g o us gs r m = false := by simp [aclB, h]
theorem aclB_us {u g o : Int} {us gs : List (Int × Int)} {r : Bool} {m : Int} (h : nmB us = false) : aclB u g o us gs r m = false := by simp [aclB, h]
theorem aclB_gs {u g o : Int} {us gs : List (Int × Int)} {r : Bool} {m : Int} (h : nmB gs = false) : aclB u g o us gs r m = false := by simp [aclB, h]
theorem aclB_r {u g o : Int} {us gs : List (Int × Int)} {m : Int} (h0 : inR 0 7 u = true) (h1 : inR 0 7 g = true) (h2 : inR 0 7 o = true) (h3 : inR 0 7 m = true) (h4 : nmB us = true) (h5 : nmB gs = true) : aclB u g o us gs true m = true := by simp [aclB, *]
theorem aclB_f {u g o : Int} {us gs : List (Int × Int)} {m : Int} (h0 : inR 0 7 u = true) (h1 : inR 0 7 g = true) (h2 : inR 0 7 o = true) (h3 : inR 0 7 m = true) (h4 : nmB us = true) (h5 : nmB gs = true) : aclB u g o us gs false m = (m == 0 && (us.length == 0 && gs.length == 0)) := by simp [aclB, *]
set_option maxHeartbeats 4000000 in
/-- impl.AclRight. -/
theorem iAclRight_any (u g o : Int) (au : Option Addr) (lu cu : Nat) (ag : Option Addr) (lg cg : Nat) (r : Bool) (m : Int) (us gs : List (Int × Int)) (w : World) (hu : Prs au lu us w) (hg : Prs ag lg gs w) :
    Calls Try.prog 33 #[.agg #[.int .i64 u, .int .i64 g, .int .i64 o, .slice au lu cu, .slice ag lg cg, .bool r, .int .i64 m]] w fun e w' => e = .returned (.bool (aclB u g o us gs r m)) ∧ Below w.heap.size w w' := by
  have e1 := hu.1
  have e2 := hg.1
  have hc : Hid (∀ w', Below w.heap.size w w' → Calls Try.prog 88 #[.slice au lu cu] w' fun e w'' => e = .returned (.bool (nmB us)) ∧ Below w'.heap.size w' w'') := (fun w' hb => named_any au lu cu us w' (hu.below hb))
  have hd : Hid (∀ w', Below w.heap.size w w' → Calls Try.prog 88 #[.slice ag lg cg] w' fun e w'' => e = .returned (.bool (nmB gs)) ∧ Below w'.heap.size w' w'') := (fun w' hb => named_any ag lg cg gs w' (hg.below hb))
  clear hu hg
  cases h0 : inR 0 7 u
  · have hno : Hid (aclB u g o us gs r m = false) := aclB_u h0
    go_enter Try.func33, Try.ntmps33
    go_wp2_with (go_at_call 81; refine (isBits_any _ _).mono ?_; rintro e w' ⟨rfl, rfl⟩)
    go_ret
    exact ⟨ret_boolW hno.out.symm, bel_alloc _ _⟩
  cases h1 : inR 0 7 g
  · have hno : Hid (aclB u g o us gs r m = false) := aclB_g h1
    go_enter Try.func33, Try.ntmps33
    go_wp2_with (go_at_call 81; refine (isBits_any _ _).mono ?_; rintro e w' ⟨rfl, rfl⟩)
    go_ret
    exact ⟨ret_boolW hno.out.symm, bel_alloc _ _⟩
  cases h2 : inR 0 7 o
  · have hno : Hid (aclB u g o us gs r m = false) := aclB_o h2
    go_enter Try.func33, Try.ntmps33
    go_wp2_with (go_at_call 81; refine (isBits_any _ _).mono ?_; rintro e w' ⟨rfl, rfl⟩)
    go_ret
    exact ⟨ret_boolW hno.out.symm, bel_alloc _ _⟩
  cases h3 : inR 0 7 m
  · have hno : Hid (aclB u g o us gs r m = false) := aclB_m h3
    go_enter Try.func33, Try.ntmps33
    go_wp2_with (go_at_call 81; refine (isBits_any _ _).mono ?_; rintro e w' ⟨rfl, rfl⟩)
    go_ret
    exact ⟨ret_boolW hno.out.symm, bel_alloc _ _⟩
  have HT : Hid (nmB us = true → nmB gs = true → aclB u g o us gs true m = true ∧ aclB u g o us gs false m = (m == 0 && (lu == 0 && lg == 0))) := (fun h4 h5 => ⟨aclB_r h0 h1 h2 h3 h4 h5, by rw [← e1, ← e2]; exact aclB_f h0 h1 h2 h3 h4 h5⟩)
  clear e1 e2
  go_enter Try.func33, Try.ntmps33
  go_wp2_with (go_at_call 81; refine (isBits_any _ _).mono ?_; rintro e w' ⟨rfl, rfl⟩)
  refine (hc.out _ (bel_alloc _ _)).mono ?_
  rintro e w1 ⟨rfl, hb⟩
  have hW1 : Hid (Below w.heap.size w w1) := Below.on (bel_alloc _ _) hb
  have hX := (box7_new w (.int .i64 u) (.int .i64 g) (.int .i64 o) (.slice au lu cu) (.slice ag lg cg) (.bool r) (.int .i64 m) 25).below hb
  clear hb hc
  cases h4 : nmB us
  · have hno : Hid (aclB u g o us gs r m = false) := aclB_us h4
    go_wp2
    go_ret
    exact ⟨ret_boolW hno.out.symm, hW1.out⟩
  obtain ⟨xl, x0, x1, x2, x3, x4, x5, x6⟩ := hX
  go_wp2_with fail
  refine (hd.out _ hW1.out).mono ?_
  rintro e w2 ⟨rfl, hb⟩
  have hW2 : Hid (Below w.heap.size w w2) := Below.on hW1.out hb
  have hX2 := (Box7.mk xl x0 x1 x2 x3 x4 x5 x6).below hb
  clear hb hd hW1 xl x0 x1 x2 x3 x4 x5 x6
  cases h5 : nmB gs
  · have hno : Hid (aclB u g o us gs r m = false) := aclB_gs h5
    go_wp2
    go_ret
    exact ⟨ret_boolW hno.out.symm, hW2.out⟩
  obtain ⟨xl, x0, x1, x2, x3, x4, x5, x6⟩ := hX2
  obtain ⟨t1, t2⟩ := HT.out h4 h5
  cases r with
  | true =>
    have hyes : Hid (aclB u g o us gs true m = true) := t1
    clear t1 t2 HT h0 h1 h2 h3 h4 h5
    go_wp2
    go_ret
    exact ⟨ret_boolW hyes.out.symm, hW2.out⟩
  | false =>
    have hyes : Hid (aclB u g o us gs false m = (m == 0 && (lu == 0 && lg == 0))) := t2
    clear t1 t2 HT h0 h1 h2 h3 h4 h5
    by_cases hm : m = 0
    · subst hm
      go_wp2_with fail
      refine (hasNamed_any u g o au lu cu ag lg cg false 0 _).mono ?_
      rintro e w3 ⟨rfl, hb⟩
      have hW3 : Hid (Below w.heap.size w w3) := Below.on hW2.out hb
      have hyes2 : Hid ((!!(lu == 0 && lg == 0)) = aclB u g o us gs false 0) := (by show _ = _; rw [hyes.out]; simp)
      clear hb hyes
      generalize (!(lu == 0 && lg == 0)) = bb at hyes2 ⊢
      go_wp2
      go_ret
      exact ⟨ret_boolW hyes2.out, hW3.out⟩
    · have hno : Hid (aclB u g o us gs false m = false) := (by show _ = _; rw [hyes.out]; simp [hm])
      have hm2 : (m == 0) = false := by simp [hm]
      clear hm hyes
      go_wp2
      go_ret
      exact ⟨ret_boolW hno.out.symm, hW2.out⟩
set_option maxHeartbeats 4000000 in
/-- spec.AclRight. -/
theorem sAclRight_any (u g o : Int) (au : Option Addr) (lu cu : Nat) (ag : Option Addr) (lg cg : Nat) (r : Bool) (m : Int) (us gs : List (Int × Int)) (hlu : lu ≤ 1048576) (hlg : lg ≤ 1048576) (w : World) (hu : Prs au lu us w) (hg : Prs ag lg gs w) :
    Calls Try.prog 34 #[.agg #[.int .i64 u, .int .i64 g, .int .i64 o, .slice au lu cu, .slice ag lg cg, .bool r, .int .i64 m]] w fun e w' => e = .returned (.bool (aclB u g o us gs r m)) ∧ Below w.heap.size w w' := by
  have e1 := hu.1
  have e2 := hg.1
  have hc : Hid (∀ w', Below w.heap.size w w' → Calls Try.prog 90 #[.slice au lu cu] w' fun e w'' => e = .returned (.bool (nmB us)) ∧ Below w'.heap.size w' w'') := (fun w' hb => sNamed_any au lu cu us hlu w' (hu.below hb))
  have hd : Hid (∀ w', Below w.heap.size w w' → Calls Try.prog 90 #[.slice ag lg cg] w' fun e w'' => e = .returned (.bool (nmB gs)) ∧ Below w'.heap.size w' w'') := (fun w' hb => sNamed_any ag lg cg gs hlg w' (hg.below hb))
  clear hu hg
  cases h0 : inR 0 7 u
  · have hno : Hid (aclB u g o us gs r m = false) := aclB_u h0
    go_enter Try.func34, Try.ntmps34
    go_wp2_with (go_at_call 73; refine (sBits_any _ _).mono ?_; rintro e w' ⟨rfl, rfl⟩)
    go_ret
    exact ⟨ret_boolW hno.out.symm, bel_alloc _ _⟩
  cases h1 : inR 0 7 g
  · have hno : Hid (aclB u g o us gs r m = false) := aclB_g h1
    go_enter Try.func34, Try.ntmps34
    go_wp2_with (go_at_call 73; refine (sBits_any _ _).mono ?_; rintro e w' ⟨rfl, rfl⟩)
    go_ret
    exact ⟨ret_boolW hno.out.symm, bel_alloc _ _⟩
  cases h2 : inR 0 7 o
  · have hno : Hid (aclB u g o us gs r m = false) := aclB_o h2
    go_enter Try.func34, Try.ntmps34
    go_wp2_with (go_at_call 73; refine (sBits_any _ _).mono ?_; rintro e w' ⟨rfl, rfl⟩)
    go_ret
    exact ⟨ret_boolW hno.out.symm, bel_alloc _ _⟩
  cases h3 : inR 0 7 m
  · have hno : Hid (aclB u g o us gs r m = false) := aclB_m h3
    go_enter Try.func34, Try.ntmps34
    go_wp2_with (go_at_call 73; refine (sBits_any _ _).mono ?_; rintro e w' ⟨rfl, rfl⟩)
    go_ret
    exact ⟨ret_boolW hno.out.symm, bel_alloc _ _⟩
  have HT : Hid (nmB us = true → nmB gs = true → aclB u g o us gs true m = true ∧ aclB u g o us gs false m = (m == 0 && (lu == 0 && lg == 0))) := (fun h4 h5 => ⟨aclB_r h0 h1 h2 h3 h4 h5, by rw [← e1, ← e2]; exact aclB_f h0 h1 h2 h3 h4 h5⟩)
  clear e1 e2
  go_enter Try.func34, Try.ntmps34
  go_wp2_with (go_at_call 73; refine (sBits_any _ _).mono ?_; rintro e w' ⟨rfl, rfl⟩)
  refine (hc.out _ (bel_alloc _ _)).mono ?_
  rintro e w1 ⟨rfl, hb⟩
  have hW1 : Hid (Below w.heap.size w w1) := Below.on (bel_alloc _ _) hb
  have hX := (box7_new w (.int .i64 u) (.int .i64 g) (.int .i64 o) (.slice au lu cu) (.slice ag lg cg) (.bool r) (.int .i64 m) 25).below hb
  clear hb hc
  cases h4 : nmB us
  · have hno : Hid (aclB u g o us gs r m = false) := aclB_us h4
    go_wp2
    go_ret
    exact ⟨ret_boolW hno.out.symm, hW1.out⟩
  obtain ⟨xl, x0, x1, x2, x3, x4, x5, x6⟩ := hX
  go_wp2_with fail
  refine (hd.out _ hW1.out).mono ?_
  rintro e w2 ⟨rfl, hb⟩
  have hW2 : Hid (Below w.heap.size w w2) := Below.on hW1.out hb
  have hX2 := (Box7.mk xl x0 x1 x2 x3 x4 x5 x6).below hb
  clear hb hd hW1 xl x0 x1 x2 x3 x4 x5 x6
  cases h5 : nmB gs
  · have hno : Hid (aclB u g o us gs r m = false) := aclB_gs h5
    go_wp2
    go_ret
    exact ⟨ret_boolW hno.out.symm, hW2.out⟩
  obtain ⟨xl, x0, x1, x2, x3, x4, x5, x6⟩ := hX2
  obtain ⟨t1, t2⟩ := HT.out h4 h5
  cases r with
  | true =>
    have hyes : Hid (aclB u g o us gs true m = true) := t1
    clear t1 t2 HT h0 h1 h2 h3 h4 h5
    go_wp2
    go_ret
    exact ⟨ret_boolW hyes.out.symm, hW2.out⟩
  | false =>
    have hyes : Hid (aclB u g o us gs false m = (m == 0 && (lu == 0 && lg == 0))) := t2
    clear t1 t2 HT h0 h1 h2 h3 h4 h5
    by_cases hm : m = 0
    · subst hm
      by_cases hz : lu = 0
      · subst hz
        by_cases hz2 : lg = 0
        · subst hz2
          have hy : Hid (aclB u g o us gs false 0 = true) := (by show _ = _; rw [hyes.out]; rfl)
          clear hyes
          go_wp2
          go_ret
          exact ⟨ret_boolW hy.out.symm, hW2.out⟩
        · have hy : Hid (aclB u g o us gs false 0 = false) := (by show _ = _; rw [hyes.out]; simp [hz2])
          have d : ((lg : Int) == 0) = false := by simp; omega
          clear hyes hz2
          go_wp2
          go_ret
          exact ⟨ret_boolW hy.out.symm, hW2.out⟩
      · have hy : Hid (aclB u g o us gs false 0 = false) := (by show _ = _; rw [hyes.out]; simp [hz])
        have d : ((lu : Int) == 0) = false := beq_eq_false_iff_ne.2 (by omega)
        clear hyes hz
        go_wp2
        go_ret
        exact ⟨ret_boolW hy.out.symm, hW2.out⟩
    · have hno : Hid (aclB u g o us gs false m = false) := (by show _ = _; rw [hyes.out]; simp [hm])
      have hm2 : (m == 0) = false := by simp [hm]
      clear hm hyes
      go_wp2
      go_ret
      exact ⟨ret_boolW hno.out.symm, hW2.out⟩
end Go.Proofs.Ytgojbilbkfilgaa
