/- spec.l04Of. -/
import Derived.Test.YtibofkjonepbpabGives
import Derived.Test.YtibofkjonepbpabTake
namespace Go.Proofs.Ytibofkjonepbpab
open Go.RowKit Go.PlainAid Go.Deep
set_option linter.unusedVariables false
set_option maxRecDepth 100000 in
set_option maxHeartbeats 4000000 in
/-- spec.l04Of of a right ace and a right Cred. -/
theorem sOf_any (x : Ac) (owner group u g : Int) (ca : Option Addr) (cl cc : Nat) (cr : Bool) (f : Nat → Int) (w : World) (hi : Ints ca cl f w) (hx : aceB x = true) (hc : credB u g cl f = true) :
    Calls Try.prog 49 #[.agg #[.bool x.al, .int .i64 x.wh, .int .i64 x.id, .int .i64 x.fl, .int .i64 x.ma], .int .i64 owner, .int .i64 group, .agg #[.int .i64 u, .int .i64 g, .slice ca cl cc, .bool cr]] w fun e w' => e = .returned (.bool (askB owner group u g cl f x)) ∧ Below w.heap.size w w' := by
  have hlen : cl ≤ 8 := gr_len (credB_iff.1 hc).2.2
  have hba : Below w.heap.size w ((w.alloc (.cells #[.bool x.al, .int .i64 x.wh, .int .i64 x.id, .int .i64 x.fl, .int .i64 x.ma] 30)).alloc (.cells #[.int .i64 u, .int .i64 g, .slice ca cl cc, .bool cr] 40)) := Below.on (bel_alloc _ _) (bel_alloc _ _)
  have hG : Hid (∀ gid, Calls Try.prog 67 #[.agg #[.int .i64 u, .int .i64 g, .slice ca cl cc, .bool cr], .int .i64 gid] ((w.alloc (.cells #[.bool x.al, .int .i64 x.wh, .int .i64 x.id, .int .i64 x.fl, .int .i64 x.ma] 30)).alloc (.cells #[.int .i64 u, .int .i64 g, .slice ca cl cc, .bool cr] 40)) fun e w' => e = .returned (.bool (inGB u g cl f gid)) ∧ Below w.heap.size w w') := (fun gid => (l02In_some u g ca cl cc cr gid f hlen _ (hi.below hba)).mono (fun e w' ⟨h1, h2⟩ => ⟨h1.trans (ret_boolW (inGB_yes hc).symm), Below.on hba h2⟩))
  have hB : Hid (Below w.heap.size w ((w.alloc (.cells #[.bool x.al, .int .i64 x.wh, .int .i64 x.id, .int .i64 x.fl, .int .i64 x.ma] 30)).alloc (.cells #[.int .i64 u, .int .i64 g, .slice ca cl cc, .bool cr] 40))) := hba
  have hQ : Hid (askB owner group u g cl f x = (if x.wh = 1 then u == owner else if x.wh = 2 then inGB u g cl f group else if x.wh = 3 then true else if x.wh = 4 then u == x.id else if x.wh = 5 then inGB u g cl f x.id else false)) := rfl
  have h15 : Hid (1 ≤ x.wh ∧ x.wh ≤ 5) := (aceB_iff.1 hx).1
  have HN : Hid True := trivial
  clear hi hba hx hc hlen
  cases h1 : (x.wh == 1)
  · have n1 : Hid (¬ x.wh = 1) := (by show ¬ _; simpa using h1)
    cases h2 : (x.wh == 2)
    · have n2 : Hid (¬ x.wh = 2) := (by show ¬ _; simpa using h2)
      cases h4 : (x.wh == 4)
      · have n4 : Hid (¬ x.wh = 4) := (by show ¬ _; simpa using h4)
        cases h5 : (x.wh == 5)
        · have n5 : Hid (¬ x.wh = 5) := (by show ¬ _; simpa using h5)
          have n3 : Hid (x.wh = 3) := (by show _ = _; have a1 := n1.out; have a2 := n2.out; have a4 := n4.out; have a5 := n5.out; have a6 := h15.out; omega)
          have hr : Hid (askB owner group u g cl f x = true) := (by show _ = _; rw [hQ.out, if_neg n1.out, if_neg n2.out, if_pos n3.out])
          clear HN hQ hG
          go_enter Try.func49, Try.ntmps49
          go_wp2
          go_ret
          exact ⟨ret_boolW hr.out.symm, hB.out⟩
        · have n5 : Hid (x.wh = 5) := (by show _ = _; simpa using h5)
          have hr : Hid (askB owner group u g cl f x = inGB u g cl f x.id) := (by show _ = _; rw [hQ.out, if_neg n1.out, if_neg n2.out, if_neg (by rw [n5.out]; omega), if_neg n4.out, if_pos n5.out])
          clear HN hQ
          go_enter Try.func49, Try.ntmps49
          go_wp2_with (go_at_call 67; refine (hG.out _).mono ?_; rintro e w1 ⟨rfl, hb1⟩)
          go_ret
          exact ⟨ret_boolW hr.out.symm, hb1⟩
      · have n4 : Hid (x.wh = 4) := (by show _ = _; simpa using h4)
        have hr : Hid (askB owner group u g cl f x = (u == x.id)) := (by show _ = _; rw [hQ.out, if_neg n1.out, if_neg n2.out, if_neg (by rw [n4.out]; omega), if_pos n4.out])
        clear HN hQ hG
        go_enter Try.func49, Try.ntmps49
        go_wp2
        go_ret
        exact ⟨ret_boolW hr.out.symm, hB.out⟩
    · have n2 : Hid (x.wh = 2) := (by show _ = _; simpa using h2)
      have hr : Hid (askB owner group u g cl f x = inGB u g cl f group) := (by show _ = _; rw [hQ.out, if_neg n1.out, if_pos n2.out])
      clear HN hQ
      go_enter Try.func49, Try.ntmps49
      go_wp2_with (go_at_call 67; refine (hG.out _).mono ?_; rintro e w1 ⟨rfl, hb1⟩)
      go_ret
      exact ⟨ret_boolW hr.out.symm, hb1⟩
  · have n1 : Hid (x.wh = 1) := (by show _ = _; simpa using h1)
    have hr : Hid (askB owner group u g cl f x = (u == owner)) := (by show _ = _; rw [hQ.out, if_pos n1.out])
    clear HN hQ hG
    go_enter Try.func49, Try.ntmps49
    go_wp2
    go_ret
    exact ⟨ret_boolW hr.out.symm, hB.out⟩
end Go.Proofs.Ytibofkjonepbpab
