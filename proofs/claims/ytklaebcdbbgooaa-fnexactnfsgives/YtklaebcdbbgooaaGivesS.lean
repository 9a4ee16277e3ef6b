/- spec.l04Of, spec.l04Take, spec.l04Gives, spec.NfsGives. -/
import Derived.Test.YtklaebcdbbgooaaGives
import Derived.Test.YtklaebcdbbgooaaBoth
import Derived.BigQuiet
namespace Go.Proofs.Ytklaebcdbbgooaa
open Go.RowKit Go.PlainAid Go.Deep
set_option linter.unusedVariables false
set_option maxRecDepth 100000 in
set_option maxHeartbeats 4000000 in
/-- spec.l04Of of a right ace and a right Cred. -/
theorem sOf_any (x : Ac) (owner group u g : Int) (ca : Option Addr) (cl cc : Nat) (cr : Bool) (f : Nat → Int) (w : World) (hi : Ints ca cl f w) (hx : aceB x = true) (hc : credB u g cl f = true) :
    Calls Try.prog 72 #[.agg #[.bool x.al, .int .i64 x.wh, .int .i64 x.id, .int .i64 x.fl, .int .i64 x.ma], .int .i64 owner, .int .i64 group, .agg #[.int .i64 u, .int .i64 g, .slice ca cl cc, .bool cr]] w fun e w' => e = .returned (.bool (askB owner group u g cl f x)) ∧ Below w.heap.size w w' := by
  have hlen : cl ≤ 8 := gr_len (credB_iff.1 hc).2.2
  have hba : Below w.heap.size w ((w.alloc (.cells #[.bool x.al, .int .i64 x.wh, .int .i64 x.id, .int .i64 x.fl, .int .i64 x.ma] 41)).alloc (.cells #[.int .i64 u, .int .i64 g, .slice ca cl cc, .bool cr] 56)) := Below.on (bel_alloc _ _) (bel_alloc _ _)
  have hG : Hid (∀ gid, Calls Try.prog 79 #[.agg #[.int .i64 u, .int .i64 g, .slice ca cl cc, .bool cr], .int .i64 gid] ((w.alloc (.cells #[.bool x.al, .int .i64 x.wh, .int .i64 x.id, .int .i64 x.fl, .int .i64 x.ma] 41)).alloc (.cells #[.int .i64 u, .int .i64 g, .slice ca cl cc, .bool cr] 56)) fun e w' => e = .returned (.bool (inGB u g cl f gid)) ∧ Below w.heap.size w w') := (fun gid => (l02In_some u g ca cl cc cr gid f hlen _ (hi.below hba)).mono (fun e w' ⟨h1, h2⟩ => ⟨h1.trans (ret_boolW (inGB_yes hc).symm), Below.on hba h2⟩))
  have hB : Hid (Below w.heap.size w ((w.alloc (.cells #[.bool x.al, .int .i64 x.wh, .int .i64 x.id, .int .i64 x.fl, .int .i64 x.ma] 41)).alloc (.cells #[.int .i64 u, .int .i64 g, .slice ca cl cc, .bool cr] 56))) := hba
  have hQ : Hid (askB owner group u g cl f x = (if x.wh = 1 then u == owner else if x.wh = 2 then inGB u g cl f group else if x.wh = 3 then true else if x.wh = 4 then u == x.id else if x.wh = 5 then inGB u g cl f x.id else false)) := rfl
  have h15 : Hid (1 ≤ x.wh ∧ x.wh ≤ 5) := (aceB_iff.1 hx).1
  have HN : Hid True := trivial
  clear hi hba hx hc hlen
  cases h1 : (x.wh == 1)
  · have n1 : Hid (¬ x.wh = 1) := (by show ¬ _; simpa using h1)
    cases h2 : (x.wh == 2)
    · have n2 : Hid (¬ x.wh = 2) := (by show ¬ _; simpa using h2)
      cases h4 : (x.wh == 4)
      · have n4 : Hid (¬ x.wh = 4) := (by show ¬ _; simpa using h4)
        cases h5 : (x.wh == 5)
        · have n5 : Hid (¬ x.wh = 5) := (by show ¬ _; simpa using h5)
          have n3 : Hid (x.wh = 3) := (by show _ = _; have a1 := n1.out; have a2 := n2.out; have a4 := n4.out; have a5 := n5.out; have a6 := h15.out; omega)
          have hr : Hid (askB owner group u g cl f x = true) := (by show _ = _; rw [hQ.out, if_neg n1.out, if_neg n2.out, if_pos n3.out])
          clear HN hQ hG
          go_enter Try.func72, Try.ntmps72
          go_wp2
          go_ret
          exact ⟨ret_boolW hr.out.symm, hB.out⟩
        · have n5 : Hid (x.wh = 5) := (by show _ = _; simpa using h5)
          have hr : Hid (askB owner group u g cl f x = inGB u g cl f x.id) := (by show _ = _; rw [hQ.out, if_neg n1.out, if_neg n2.out, if_neg (by rw [n5.out]; omega), if_neg n4.out, if_pos n5.out])
          clear HN hQ
          go_enter Try.func72, Try.ntmps72
          go_wp2_with (go_at_call 79; refine (hG.out _).mono ?_; rintro e w1 ⟨rfl, hb1⟩)
          go_ret
          exact ⟨ret_boolW hr.out.symm, hb1⟩
      · have n4 : Hid (x.wh = 4) := (by show _ = _; simpa using h4)
        have hr : Hid (askB owner group u g cl f x = (u == x.id)) := (by show _ = _; rw [hQ.out, if_neg n1.out, if_neg n2.out, if_neg (by rw [n4.out]; omega), if_pos n4.out])
        clear HN hQ hG
        go_enter Try.func72, Try.ntmps72
        go_wp2
        go_ret
        exact ⟨ret_boolW hr.out.symm, hB.out⟩
    · have n2 : Hid (x.wh = 2) := (by show _ = _; simpa using h2)
      have hr : Hid (askB owner group u g cl f x = inGB u g cl f group) := (by show _ = _; rw [hQ.out, if_neg n1.out, if_pos n2.out])
      clear HN hQ
      go_enter Try.func72, Try.ntmps72
      go_wp2_with (go_at_call 79; refine (hG.out _).mono ?_; rintro e w1 ⟨rfl, hb1⟩)
      go_ret
      exact ⟨ret_boolW hr.out.symm, hb1⟩
  · have n1 : Hid (x.wh = 1) := (by show _ = _; simpa using h1)
    have hr : Hid (askB owner group u g cl f x = (u == owner)) := (by show _ = _; rw [hQ.out, if_pos n1.out])
    clear HN hQ hG
    go_enter Try.func72, Try.ntmps72
    go_wp2
    go_ret
    exact ⟨ret_boolW hr.out.symm, hB.out⟩
/-- What is given then. -/
def takeP (al : Bool) (p d : Int) : Int := if al then p + d else p
theorem take_eq {a b c d : Int} (h : a = c) (h2 : b = d) : Ending.returned (.tuple #[.int .i64 a, .int .i64 b]) = .returned (.tuple #[.int .i64 c, .int .i64 d]) := by rw [h, h2]
set_option maxRecDepth 100000 in
set_option maxHeartbeats 4000000 in
/-- spec.l04Take. -/
theorem sTake_any (x : Ac) (s p : Int) (m0 : 0 ≤ x.ma) (m1 : x.ma ≤ 255) (s0 : 0 ≤ s) (s1 : s ≤ 255) (p0 : 0 ≤ p) (p1 : p ≤ 65535) (w : World) :
    Calls Try.prog 73 #[.agg #[.bool x.al, .int .i64 x.wh, .int .i64 x.id, .int .i64 x.fl, .int .i64 x.ma], .int .i64 s, .int .i64 p] w fun e w' => e = .returned (.tuple #[.int .i64 (s + (x.ma - andI x.ma s)), .int .i64 (takeP x.al p (x.ma - andI x.ma s))]) ∧ Below w.heap.size w w' := by
  have hba := bel_alloc w (.cells #[.bool x.al, .int .i64 x.wh, .int .i64 x.id, .int .i64 x.fl, .int .i64 x.ma] 41)
  have hB : Hid (Below w.heap.size w (w.alloc (.cells #[.bool x.al, .int .i64 x.wh, .int .i64 x.id, .int .i64 x.fl, .int .i64 x.ma] 41))) := hba
  have hbt : Hid (∀ w, Calls Try.prog 61 #[.int .i64 x.ma, .int .i64 s] w fun e w' => e = .returned (.int .i64 (andI x.ma s)) ∧ w' = w) := sBoth_any x.ma s m0 (by omega) s0 (by omega)
  have hd : 0 ≤ x.ma - andI x.ma s ∧ x.ma - andI x.ma s ≤ 255 := by
    obtain ⟨a, ha⟩ := Int.eq_ofNat_of_zero_le m0
    obtain ⟨b, hb⟩ := Int.eq_ofNat_of_zero_le s0
    rw [ha, hb]
    have h1 : andI (a : Int) (b : Int) = ((a &&& b : Nat) : Int) := by simp [andI]
    have h2 : a &&& b ≤ a := Nat.and_le_left
    rw [h1]
    omega
  generalize hq : andI x.ma s = q at hbt hd ⊢
  clear hq hba
  obtain ⟨d0, d1⟩ := hd
  go_enter Try.func73, Try.ntmps73
  go_wp2_with fail
  have z0 : (w.alloc (.cells #[.bool x.al, .int .i64 x.wh, .int .i64 x.id, .int .i64 x.fl, .int .i64 x.ma] 41)).cell? ⟨w.heap.size, 0, none⟩ = some (.bool x.al) := by simp [go_sem]
  have z4 : (w.alloc (.cells #[.bool x.al, .int .i64 x.wh, .int .i64 x.id, .int .i64 x.fl, .int .i64 x.ma] 41)).cell? ⟨w.heap.size, 4, none⟩ = some (.int .i64 x.ma) := by simp [go_sem]
  generalize (w.alloc (.cells #[.bool x.al, .int .i64 x.wh, .int .i64 x.id, .int .i64 x.fl, .int .i64 x.ma] 41)) = w1 at z0 z4 hB ⊢
  go_quiet ((go_at_call 61; exact Calls.quiet_of_same (hbt.out _)))
  have hB2 : Hid (Below w.heap.size w (w1.drewN nq)) := below_drewN hB.out nq
  have y0 : (w1.drewN nq).cell? ⟨w.heap.size, 0, none⟩ = some (.bool x.al) := z0
  generalize w1.drewN nq = w2 at hB2 y0 ⊢
  have D0 : 0 ≤ x.ma - q := d0
  generalize hdd : x.ma - q = d at D0 d0 d1 ⊢
  have HD : Hid (x.ma - q = d) := hdd
  clear hdd
  clear z0 z4 hB hbt D0
  cases hal : x.al
  · rw [hal] at y0
    go_wp2
    exact bodyPost_ret (v := .tuple #[.int .i64 (s + d), .int .i64 p]) (by simp [results, Try.results73, go_sem]) rfl ⟨take_eq (by rw [HD.out]) (by rw [HD.out]; simp [takeP, hal]), hB2.out⟩
  · rw [hal] at y0
    go_wp2
    exact bodyPost_ret (v := .tuple #[.int .i64 (s + d), .int .i64 (p + d)]) (by simp [results, Try.results73, go_sem]) rfl ⟨take_eq (by rw [HD.out]) (by rw [HD.out]; simp [takeP, hal]), hB2.out⟩
end Go.Proofs.Ytklaebcdbbgooaa
