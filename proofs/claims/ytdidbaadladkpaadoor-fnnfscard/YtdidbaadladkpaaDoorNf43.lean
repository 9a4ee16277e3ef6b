/- Laid together: GivesS, Gives4, Gives5. -/
import Derived.Test.YtdidbaadladkpaaDoorNf42
import Derived.Test.YtdidbaadladkpaaDoorNf28
import Derived.Test.YtdidbaadladkpaaDoorNf41
import Derived.Lib.QuietBelow
/- spec.l04Of. -/
namespace Go.Proofs.YtdidbaadladkpaaDoor
open Go.RowKit Go.PlainAid Go.Deep
set_option linter.unusedVariables false
set_option maxRecDepth 100000 in
set_option maxHeartbeats 4000000 in
/-- spec.l04Of of a right ace and a right Cred. -/
theorem sOf_any (x : Ac) (owner group u g : Int) (ca : Option Addr) (cl cc : Nat) (cr : Bool) (f : Nat → Int) (w : World) (hi : Ints ca cl f w) (hx : aceB x = true) (hc : credB u g cl f = true) :
    Calls Tryd.prog 81 #[.agg #[.bool x.al, .int .i64 x.wh, .int .i64 x.id, .int .i64 x.fl, .int .i64 x.ma], .int .i64 owner, .int .i64 group, .agg #[.int .i64 u, .int .i64 g, .slice ca cl cc, .bool cr]] w fun e w' => e = .returned (.bool (askB owner group u g cl f x)) ∧ Below w.heap.size w w' := by
  have hlen : cl ≤ 8 := gr_len (credB_iff.1 hc).2.2
  have hba : Below w.heap.size w ((w.alloc (.cells #[.bool x.al, .int .i64 x.wh, .int .i64 x.id, .int .i64 x.fl, .int .i64 x.ma] 33)).alloc (.cells #[.int .i64 u, .int .i64 g, .slice ca cl cc, .bool cr] 26)) := Below.on (bel_alloc _ _) (bel_alloc _ _)
  have hG : Hid (∀ gid, Calls Tryd.prog 102 #[.agg #[.int .i64 u, .int .i64 g, .slice ca cl cc, .bool cr], .int .i64 gid] ((w.alloc (.cells #[.bool x.al, .int .i64 x.wh, .int .i64 x.id, .int .i64 x.fl, .int .i64 x.ma] 33)).alloc (.cells #[.int .i64 u, .int .i64 g, .slice ca cl cc, .bool cr] 26)) fun e w' => e = .returned (.bool (inGB u g cl f gid)) ∧ Below w.heap.size w w') := (fun gid => (l02In_some u g ca cl cc cr gid f hlen _ (hi.below hba)).mono (fun e w' ⟨h1, h2⟩ => ⟨h1.trans (ret_boolW (inGB_yes hc).symm), Below.on hba h2⟩))
  have hB : Hid (Below w.heap.size w ((w.alloc (.cells #[.bool x.al, .int .i64 x.wh, .int .i64 x.id, .int .i64 x.fl, .int .i64 x.ma] 33)).alloc (.cells #[.int .i64 u, .int .i64 g, .slice ca cl cc, .bool cr] 26))) := hba
  have hQ : Hid (askB owner group u g cl f x = (if x.wh = 1 then u == owner else if x.wh = 2 then inGB u g cl f group else if x.wh = 3 then true else if x.wh = 4 then u == x.id else if x.wh = 5 then inGB u g cl f x.id else false)) := rfl
  have h15 : Hid (1 ≤ x.wh ∧ x.wh ≤ 5) := (aceB_iff.1 hx).1
  have HN : Hid True := trivial
  clear hi hba hx hc hlen
  cases h1 : (x.wh == 1)
  · have n1 : Hid (¬ x.wh = 1) := (by show ¬ _; simpa using h1)
    cases h2 : (x.wh == 2)
    · have n2 : Hid (¬ x.wh = 2) := (by show ¬ _; simpa using h2)
      cases h4 : (x.wh == 4)
      · have n4 : Hid (¬ x.wh = 4) := (by show ¬ _; simpa using h4)
        cases h5 : (x.wh == 5)
        · have n5 : Hid (¬ x.wh = 5) := (by show ¬ _; simpa using h5)
          have n3 : Hid (x.wh = 3) := (by show _ = _; have a1 := n1.out; have a2 := n2.out; have a4 := n4.out; have a5 := n5.out; have a6 := h15.out; omega)
          have hr : Hid (askB owner group u g cl f x = true) := (by show _ = _; rw [hQ.out, if_neg n1.out, if_neg n2.out, if_pos n3.out])
          clear HN hQ hG
          go_enter Tryd.func81, Tryd.ntmps81
          go_wp2
          go_ret
          exact ⟨ret_boolW hr.out.symm, hB.out⟩
        · have n5 : Hid (x.wh = 5) := (by show _ = _; simpa using h5)
          have hr : Hid (askB owner group u g cl f x = inGB u g cl f x.id) := (by show _ = _; rw [hQ.out, if_neg n1.out, if_neg n2.out, if_neg (by rw [n5.out]; omega), if_neg n4.out, if_pos n5.out])
          clear HN hQ
          go_enter Tryd.func81, Tryd.ntmps81
          go_wp2_with (go_at_call 102; refine (hG.out _).mono ?_; rintro e w1 ⟨rfl, hb1⟩)
          go_ret
          exact ⟨ret_boolW hr.out.symm, hb1⟩
      · have n4 : Hid (x.wh = 4) := (by show _ = _; simpa using h4)
        have hr : Hid (askB owner group u g cl f x = (u == x.id)) := (by show _ = _; rw [hQ.out, if_neg n1.out, if_neg n2.out, if_neg (by rw [n4.out]; omega), if_pos n4.out])
        clear HN hQ hG
        go_enter Tryd.func81, Tryd.ntmps81
        go_wp2
        go_ret
        exact ⟨ret_boolW hr.out.symm, hB.out⟩
    · have n2 : Hid (x.wh = 2) := (by show _ = _; simpa using h2)
      have hr : Hid (askB owner group u g cl f x = inGB u g cl f group) := (by show _ = _; rw [hQ.out, if_neg n1.out, if_pos n2.out])
      clear HN hQ
      go_enter Tryd.func81, Tryd.ntmps81
      go_wp2_with (go_at_call 102; refine (hG.out _).mono ?_; rintro e w1 ⟨rfl, hb1⟩)
      go_ret
      exact ⟨ret_boolW hr.out.symm, hb1⟩
  · have n1 : Hid (x.wh = 1) := (by show _ = _; simpa using h1)
    have hr : Hid (askB owner group u g cl f x = (u == owner)) := (by show _ = _; rw [hQ.out, if_pos n1.out])
    clear HN hQ hG
    go_enter Tryd.func81, Tryd.ntmps81
    go_wp2
    go_ret
    exact ⟨ret_boolW hr.out.symm, hB.out⟩
end Go.Proofs.YtdidbaadladkpaaDoor
/- spec.l04Gives. -/
namespace Go.Proofs.YtdidbaadladkpaaDoor
open Go.RowKit Go.PlainAid Go.Deep
set_option linter.unusedVariables false
set_option maxRecDepth 100000 in
set_option maxHeartbeats 8000000 in
/-- spec.l04Gives of a right list that is not empty. -/
theorem sGives04_some (b off cap : Nat) (l : List Ac) (owner group u g : Int) (ca : Option Addr) (cl cc : Nat) (cr : Bool) (f : Nat → Int) (ha : acesB l = true) (hcd : credB u g cl f = true) (w : World) (hb : b < w.heap.size) (hc : ∀ i, i < l.length → Five w b (off + i * 5) (acAt l i)) (hi : Ints ca cl f w) :
    Calls Tryd.prog 53 #[.slice (some ⟨b, off, none⟩) l.length cap, .int .i64 owner, .int .i64 group, .agg #[.int .i64 u, .int .i64 g, .slice ca cl cc, .bool cr]] w fun e w' => e = .returned (.int .i64 (giveI (fltP (askB owner group u g cl f) l l.length)).1) ∧ Below w.heap.size w w' := by
  obtain ⟨hl, hR⟩ := aces_parts ha
  have hma : ∀ i, i < l.length → 0 ≤ (acAt l i).ma ∧ (acAt l i).ma ≤ 255 := fun i hi => by have := (aceB_iff.1 (hR i hi)).2.2.2.2; omega
  have HMA : Hid (∀ i, i < l.length → 0 ≤ (acAt l i).ma ∧ (acAt l i).ma ≤ 255) := hma
  have HGN := giveI_nat hma (askB owner group u g cl f)
  have HNX : Hid (∀ k, k < l.length → (hldB (acAt l k) && askB owner group u g cl f (acAt l k)) = true → giveI (fltP (askB owner group u g cl f) l (k + 1)) = (takeP (acAt l k).al (giveI (fltP (askB owner group u g cl f) l k)).1 ((acAt l k).ma - andI (acAt l k).ma (giveI (fltP (askB owner group u g cl f) l k)).2), (giveI (fltP (askB owner group u g cl f) l k)).2 + ((acAt l k).ma - andI (acAt l k).ma (giveI (fltP (askB owner group u g cl f) l k)).2))) := (fun k hk h => giveI_next hma _ hk h)
  have hof : Hid (∀ k w', k < l.length → Below w.heap.size w w' → Calls Tryd.prog 81 #[.agg #[.bool (acAt l k).al, .int .i64 (acAt l k).wh, .int .i64 (acAt l k).id, .int .i64 (acAt l k).fl, .int .i64 (acAt l k).ma], .int .i64 owner, .int .i64 group, .agg #[.int .i64 u, .int .i64 g, .slice ca cl cc, .bool cr]] w' fun e w'' => e = .returned (.bool (askB owner group u g cl f (acAt l k))) ∧ Below w'.heap.size w' w'') := (fun k w' hk hbb => sOf_any (acAt l k) owner group u g ca cl cc cr f w' (hi.below hbb) (hR k hk) hcd)
  have HC : Hid (∀ i, i < l.length → Five w b (off + i * 5) (acAt l i)) := hc
  have HX : Hid (Box4A (w.alloc (.cells #[.int .i64 u, .int .i64 g, .slice ca cl cc, .bool cr] 26)) w.heap.size (.int .i64 u) (.int .i64 g) (.slice ca cl cc) (.bool cr)) := box4A_new _ _ _ _ _ _
  have hW : Hid (Below w.heap.size w (w.alloc (.cells #[.int .i64 u, .int .i64 g, .slice ca cl cc, .bool cr] 26))) := bel_alloc _ _
  have HG : Hid (∀ k, k ≤ l.length → ∃ g' s : Nat, giveI (fltP (askB owner group u g cl f) l k) = ((g' : Int), (s : Int)) ∧ g' ≤ 255 ∧ s ≤ 255 ∧ s ||| g' = s) := HGN
  clear HGN hma hc hi hR ha hcd
  generalize askB owner group u g cl f = p at HG HNX hof ⊢
  generalize hlen : l.length = len at hl HMA HC HNX hof HG ⊢
  clear hlen
  go_enter Tryd.func53, Tryd.ntmps53
  go_wp2
  generalize (w.alloc (.cells #[.int .i64 u, .int .i64 g, .slice ca cl cc, .bool cr] 26)) = w1 at HX hW ⊢
  go_loopw [9, 10, 11] (fun s q i wr => ∃ (k gN sN : Nat), k ≤ len ∧ i = .int .i64 k ∧ s = .int .i64 (sN : Int) ∧ q = .int .i64 (gN : Int) ∧ Hid (giveI (fltP p l k) = ((gN : Int), (sN : Int)) ∧ gN ≤ 255 ∧ sN ≤ 255) ∧ Hid (Below w1.heap.size w1 wr)) (fun _ _ i _ => len - (intOf i).toNat)
  case atStart => exact ⟨0, 0, 0, Nat.zero_le _, rfl, rfl, rfl, ⟨rfl, by omega, by omega⟩, Below.refl _ _⟩
  case round =>
    obtain ⟨k, gN, sN, hk, rfl, rfl, rfl, hGS, hB⟩ := hrel
    by_cases hlt : k < len
    · have hlt' : (k : Int) < (len : Int) := by omega
      have hBB : Below w.heap.size w wr := Below.on hW.out hB.out
      obtain ⟨yl, y0, y1, y2, y3⟩ := HX.out.below HX.out.lt hB.out
      have HF : Hid (Five w b (off + k * 5) (acAt l k)) := HC.out k hlt
      obtain ⟨c0, c1, c2, c3, c4⟩ := HF.out.below hb hBB
      have hOf := fun w' h => hof.out k w' hlt h
      have HM := HMA.out k hlt
      have HN := HNX.out k hlt
      rw [hGS.out.1] at HN
      have HNO : (hldB (acAt l k) && p (acAt l k)) = false → fltP p l (k + 1) = fltP p l k := fltP_no
      have HK1 : Hid (∃ g' s : Nat, giveI (fltP p l (k + 1)) = ((g' : Int), (s : Int)) ∧ g' ≤ 255 ∧ s ≤ 255 ∧ s ||| g' = s) := HG.out (k + 1) (by omega)
      generalize acAt l k = x at HF c0 c1 c2 c3 c4 hOf HM HN HNO
      have z0 : ∀ d os, (Go.Sort.grow (redrawn wr d) os).cell? ⟨b, off + k * 5, none⟩ = some (.bool x.al) := fun d os => cell_regrown c0 d os
      have z1 : ∀ d os, (Go.Sort.grow (redrawn wr d) os).cell? ⟨b, off + k * 5 + 1, none⟩ = some (.int .i64 x.wh) := fun d os => cell_regrown c1 d os
      have z2 : ∀ d os, (Go.Sort.grow (redrawn wr d) os).cell? ⟨b, off + k * 5 + 2, none⟩ = some (.int .i64 x.id) := fun d os => cell_regrown c2 d os
      have z3 : ∀ d os, (Go.Sort.grow (redrawn wr d) os).cell? ⟨b, off + k * 5 + 3, none⟩ = some (.int .i64 x.fl) := fun d os => cell_regrown c3 d os
      have z4 : ∀ d os, (Go.Sort.grow (redrawn wr d) os).cell? ⟨b, off + k * 5 + 4, none⟩ = some (.int .i64 x.ma) := fun d os => cell_regrown c4 d os
      have q0 : ∀ d os, (Go.Sort.grow (redrawn wr d) os).cell? ⟨w.heap.size, 0, none⟩ = some (.int .i64 u) := fun d os => cell_regrown y0 d os
      have q1 : ∀ d os, (Go.Sort.grow (redrawn wr d) os).cell? ⟨w.heap.size, 1, none⟩ = some (.int .i64 g) := fun d os => cell_regrown y1 d os
      have q2 : ∀ d os, (Go.Sort.grow (redrawn wr d) os).cell? ⟨w.heap.size, 2, none⟩ = some (.slice ca cl cc) := fun d os => cell_regrown y2 d os
      have q3 : ∀ d os, (Go.Sort.grow (redrawn wr d) os).cell? ⟨w.heap.size, 3, none⟩ = some (.bool cr) := fun d os => cell_regrown y3 d os
      obtain ⟨hm0, hm1⟩ := HM
      have HBW : Hid (Below w.heap.size w w1) := hW
      cases hh : hldB x
      · have cA : ∀ d os, Calls Tryd.prog 80 #[.agg #[.bool x.al, .int .i64 x.wh, .int .i64 x.id, .int .i64 x.fl, .int .i64 x.ma]] (Go.Sort.grow (redrawn wr d) os) fun e w'' => e = .returned (.bool false) ∧ ∃ p : Regrown, w'' = Go.Sort.grow (redrawn wr p.d) p.os := fun d os => Calls.regrown_of ((sl04HoldsG x _).mono fun e w' ⟨h1, h2⟩ => ⟨by rw [h1, hh], h2⟩)
        have HO : Hid (fltP p l (k + 1) = fltP p l k) := HNO (by rw [hh]; rfl)
        clear hh HN HNO
        clear c0 c1 c2 c3 c4 y0 y1 y2 y3 yl hOf hBB
        go_wp2_with fail
        refine wp_region_quiet_below (by kernel_rfl) (by kernel_rfl) ?_
        repeat (go_big_quiet_step (exact cA _ _))
        refine wpQuiet_nil ?_
        intro _ hw'
        obtain ⟨⟨dq, osq⟩, hw''⟩ := hw'
        subst hw''
        have hb2 : Hid (Below w1.heap.size w1 (Go.Sort.grow (redrawn wr dq) osq)) := Below.on hB.out (below_regrown wr dq osq)
        generalize Go.Sort.grow (redrawn wr dq) osq = w3 at hb2 ⊢
        clear z0 z1 z2 z3 z4 q0 q1 q2 q3 cA hB
        go_wp2
        go_roundw
        case rel => exact ⟨k + 1, gN, sN, by omega, by go_num, rfl, rfl, ⟨by rw [HO.out]; exact hGS.out.1, hGS.out.2⟩, hb2⟩
        case measure => simp [intOf]; omega
      · have cA : ∀ d os, Calls Tryd.prog 80 #[.agg #[.bool x.al, .int .i64 x.wh, .int .i64 x.id, .int .i64 x.fl, .int .i64 x.ma]] (Go.Sort.grow (redrawn wr d) os) fun e w'' => e = .returned (.bool true) ∧ ∃ p : Regrown, w'' = Go.Sort.grow (redrawn wr p.d) p.os := fun d os => Calls.regrown_of ((sl04HoldsG x _).mono fun e w' ⟨h1, h2⟩ => ⟨by rw [h1, hh], h2⟩)
        cases hp : p x
        · have cB : ∀ d os, Calls Tryd.prog 81 #[.agg #[.bool x.al, .int .i64 x.wh, .int .i64 x.id, .int .i64 x.fl, .int .i64 x.ma], .int .i64 owner, .int .i64 group, .agg #[.int .i64 u, .int .i64 g, .slice ca cl cc, .bool cr]] (Go.Sort.grow (redrawn wr d) os) fun e w'' => e = .returned (.bool false) ∧ ∃ p : Regrown, w'' = Go.Sort.grow (redrawn wr p.d) p.os := fun d os => Calls.regrown_of ((hOf _ (Below.on hBB (below_regrown wr d os))).mono fun e w' ⟨h1, h2⟩ => ⟨by rw [h1, hp], h2⟩)
          have HO : Hid (fltP p l (k + 1) = fltP p l k) := HNO (by rw [hh, hp]; rfl)
          clear hh hp HN HNO
          clear c0 c1 c2 c3 c4 y0 y1 y2 y3 yl hOf hBB
          go_wp2_with fail
          refine wp_region_quiet_below (by kernel_rfl) (by kernel_rfl) ?_
          repeat (go_big_quiet_step (first | exact cA _ _ | exact cB _ _))
          refine wpQuiet_nil ?_
          intro _ hw'
          obtain ⟨⟨dq, osq⟩, hw''⟩ := hw'
          subst hw''
          have hb2 : Hid (Below w1.heap.size w1 (Go.Sort.grow (redrawn wr dq) osq)) := Below.on hB.out (below_regrown wr dq osq)
          generalize Go.Sort.grow (redrawn wr dq) osq = w3 at hb2 ⊢
          clear z0 z1 z2 z3 z4 q0 q1 q2 q3 cA cB hB
          go_wp2
          go_roundw
          case rel => exact ⟨k + 1, gN, sN, by omega, by go_num, rfl, rfl, ⟨by rw [HO.out]; exact hGS.out.1, hGS.out.2⟩, hb2⟩
          case measure => simp [intOf]; omega
        · have cB : ∀ d os, Calls Tryd.prog 81 #[.agg #[.bool x.al, .int .i64 x.wh, .int .i64 x.id, .int .i64 x.fl, .int .i64 x.ma], .int .i64 owner, .int .i64 group, .agg #[.int .i64 u, .int .i64 g, .slice ca cl cc, .bool cr]] (Go.Sort.grow (redrawn wr d) os) fun e w'' => e = .returned (.bool true) ∧ ∃ p : Regrown, w'' = Go.Sort.grow (redrawn wr p.d) p.os := fun d os => Calls.regrown_of ((hOf _ (Below.on hBB (below_regrown wr d os))).mono fun e w' ⟨h1, h2⟩ => ⟨by rw [h1, hp], h2⟩)
          have HO : Hid (giveI (fltP p l (k + 1)) = (takeP x.al (gN : Int) (x.ma - andI x.ma (sN : Int)), (sN : Int) + (x.ma - andI x.ma (sN : Int)))) := HN (by rw [hh, hp]; rfl)
          clear hh hp HN HNO
          clear c0 c1 c2 c3 c4 y0 y1 y2 y3 yl hOf hBB
          go_wp2_with fail
          refine wp_region_quiet_below (by kernel_rfl) (by kernel_rfl) ?_
          repeat (go_big_quiet_step (first | exact cA _ _ | exact cB _ _))
          refine wpQuiet_nil ?_
          intro _ hw'
          obtain ⟨⟨dq, osq⟩, hw''⟩ := hw'
          subst hw''
          have hb2 : Hid (Below w1.heap.size w1 (Go.Sort.grow (redrawn wr dq) osq)) := Below.on hB.out (below_regrown wr dq osq)
          generalize Go.Sort.grow (redrawn wr dq) osq = w3 at hb2 ⊢
          clear z0 z1 z2 z3 z4 q0 q1 q2 q3 cA cB hB
          obtain ⟨c0, c1, c2, c3, c4⟩ := HF.out.below hb (Below.on HBW.out hb2.out)
          go_wp2_with (go_at_call 82; refine (sTake_any x _ _ hm0 hm1 (by omega) (by have := hGS.out.2.2; omega) (by omega) (by have := hGS.out.2.1; omega) _).mono ?_; rintro e w4 ⟨rfl, hb4⟩)
          obtain ⟨g', s', e1, e2, e3, _⟩ := HK1.out
          have e4 := HO.out.symm.trans e1
          have e5 := congrArg Prod.fst e4
          have e6 := congrArg Prod.snd e4
          simp only at e5 e6
          go_roundw
          case rel => exact ⟨k + 1, g', s', by omega, by go_num, by rw [e6], by rw [e5], ⟨e1, e2, e3⟩, Below.on hb2.out hb4⟩
          case measure => simp [intOf]; omega
    · have : k = len := by omega
      subst this
      have hBB : Hid (Below w.heap.size w wr) := Below.on hW.out hB.out
      go_wp2
      go_ret
      exact ⟨ret_intG (by rw [hGS.out.1]), hBB.out⟩
end Go.Proofs.YtdidbaadladkpaaDoor
/- spec.NfsGives. -/
namespace Go.Proofs.YtdidbaadladkpaaDoor
open Go.RowKit Go.PlainAid Go.Deep
set_option linter.unusedVariables false
set_option maxRecDepth 100000 in
set_option maxHeartbeats 4000000 in
/-- spec.l04Gives of an empty list. -/
theorem sGives04_nil (a : Option Addr) (cap : Nat) (owner group u g : Int) (ca : Option Addr) (cl cc : Nat) (cr : Bool) (w : World) :
    Calls Tryd.prog 53 #[.slice a 0 cap, .int .i64 owner, .int .i64 group, .agg #[.int .i64 u, .int .i64 g, .slice ca cl cc, .bool cr]] w fun e w' => e = .returned (.int .i64 0) ∧ Below w.heap.size w w' := by
  have hW : Hid (Below w.heap.size w (w.alloc (.cells #[.int .i64 u, .int .i64 g, .slice ca cl cc, .bool cr] 26))) := bel_alloc _ _
  go_enter Tryd.func53, Tryd.ntmps53
  go_wp2
  generalize (w.alloc (.cells #[.int .i64 u, .int .i64 g, .slice ca cl cc, .bool cr] 26)) = w1 at hW ⊢
  go_loopw [9, 10, 11] (fun s q i wr => i = .int .i64 0 ∧ q = .int .i64 0 ∧ wr = w1) (fun _ _ i _ => 0)
  case atStart => exact ⟨rfl, rfl, rfl⟩
  case round =>
    obtain ⟨rfl, rfl, rfl⟩ := hrel
    go_wp2
    go_ret
    exact ⟨rfl, hW.out⟩
theorem sGives04_any (a : Option Addr) (len cap : Nat) (l : List Ac) (owner group u g : Int) (ca : Option Addr) (cl cc : Nat) (cr : Bool) (f : Nat → Int) (ha : acesB l = true) (hcd : credB u g cl f = true) (w : World) (hA : Acs a len l w) (hi : Ints ca cl f w) :
    Calls Tryd.prog 53 #[.slice a len cap, .int .i64 owner, .int .i64 group, .agg #[.int .i64 u, .int .i64 g, .slice ca cl cc, .bool cr]] w fun e w' => e = .returned (.int .i64 (giveI (fltP (askB owner group u g cl f) l l.length)).1) ∧ Below w.heap.size w w' := by
  obtain ⟨hln, hp⟩ := hA
  by_cases h0 : 0 < len
  · obtain ⟨b, off, rfl, hb, hc⟩ := hp h0
    subst hln
    exact sGives04_some b off cap l owner group u g ca cl cc cr f ha hcd w hb hc hi
  · have hz : len = 0 := by omega
    subst hz
    have hl0 : l = [] := List.eq_nil_of_length_eq_zero hln
    subst hl0
    exact sGives04_nil a cap owner group u g ca cl cc cr w
set_option maxRecDepth 100000 in
set_option maxHeartbeats 4000000 in
/-- spec.NfsGives. -/
theorem sNfsGives_any (a : Option Addr) (len cap : Nat) (l : List Ac) (owner group u g : Int) (ca : Option Addr) (cl cc : Nat) (cr : Bool) (f : Nat → Int) (hl : len ≤ 1048576) (w : World) (hA : Acs a len l w) (hi : Ints ca cl f w) :
    Calls Tryd.prog 14 #[.slice a len cap, .int .i64 owner, .int .i64 group, .agg #[.int .i64 u, .int .i64 g, .slice ca cl cc, .bool cr]] w fun e w' => e = .returned (.int .i64 (givesI l owner group u g cl f)) ∧ Below w.heap.size w w' := by
  have hr : Hid (∀ w', Below w.heap.size w w' → Calls Tryd.prog 24 #[.slice a len cap] w' fun e w'' => e = .returned (.bool (acesB l)) ∧ Below w'.heap.size w' w'') := (fun w' hb => sNfsRight_any a len cap l hl w' (hA.below hb))
  have hcr : Hid (∀ w', Below w.heap.size w w' → Calls Tryd.prog 30 #[.agg #[.int .i64 u, .int .i64 g, .slice ca cl cc, .bool cr]] w' fun e w'' => e = .returned (.bool (credB u g cl f)) ∧ Below w'.heap.size w' w'') := (fun w' hb => sCredRight_any u g ca cl cc cr f w' (hi.below hb))
  have hgv : Hid (acesB l = true → credB u g cl f = true → ∀ w', Below w.heap.size w w' → Calls Tryd.prog 53 #[.slice a len cap, .int .i64 owner, .int .i64 group, .agg #[.int .i64 u, .int .i64 g, .slice ca cl cc, .bool cr]] w' fun e w'' => e = .returned (.int .i64 (giveI (fltP (askB owner group u g cl f) l l.length)).1) ∧ Below w'.heap.size w' w'') := (fun h h2 w' hb => sGives04_any a len cap l owner group u g ca cl cc cr f h h2 w' (hA.below hb) (hi.below hb))
  have HX : Hid (Box4A (w.alloc (.cells #[.int .i64 u, .int .i64 g, .slice ca cl cc, .bool cr] 26)) w.heap.size (.int .i64 u) (.int .i64 g) (.slice ca cl cc) (.bool cr)) := box4A_new _ _ _ _ _ _
  have hW : Hid (Below w.heap.size w (w.alloc (.cells #[.int .i64 u, .int .i64 g, .slice ca cl cc, .bool cr] 26))) := bel_alloc _ _
  clear hA hi
  go_enter Tryd.func14, Tryd.ntmps14
  go_wp2_with fail
  refine (hr.out _ hW.out).mono ?_
  rintro e w1 ⟨rfl, hb1⟩
  have hW1 : Hid (Below w.heap.size w w1) := Below.on hW.out hb1
  have hX1 : Hid (Box4A w1 w.heap.size (.int .i64 u) (.int .i64 g) (.slice ca cl cc) (.bool cr)) := HX.out.below HX.out.lt hb1
  clear hr hb1 HX hW
  cases h : acesB l
  · have hno : Hid (givesI l owner group u g cl f = 0) := givesI_no (by simp [h])
    clear h hcr hgv hX1
    go_wp2
    go_ret
    exact ⟨ret_intG hno.out.symm, hW1.out⟩
  cases h2 : inR 0 9999 owner
  · have hno : Hid (givesI l owner group u g cl f = 0) := givesI_no (by simp [h2])
    clear h hcr hgv hX1
    go_wp2_with (go_at_call 52; refine (sId_any _ _).mono ?_; rintro e w' ⟨rfl, rfl⟩)
    go_ret
    exact ⟨ret_intG hno.out.symm, hW1.out⟩
  cases h3 : inR 0 9999 group
  · have hno : Hid (givesI l owner group u g cl f = 0) := givesI_no (by simp [h3])
    clear h hcr hgv hX1
    go_wp2_with (go_at_call 52; refine (sId_any _ _).mono ?_; rintro e w' ⟨rfl, rfl⟩)
    go_ret
    exact ⟨ret_intG hno.out.symm, hW1.out⟩
  obtain ⟨xl, x0, x1, x2, x3⟩ := hX1.out
  cases h4 : credB u g cl f
  · have hno : Hid (givesI l owner group u g cl f = 0) := givesI_no (by simp [h4])
    rw [h4] at hcr
    clear h h4 hgv hX1
    go_wp2_with (first | (go_at_call 52; refine (sId_any _ _).mono ?_; rintro e w' ⟨rfl, rfl⟩) | (go_at_call 30; refine (hcr.out _ hW1.out).mono ?_; rintro e w2 ⟨rfl, hb2⟩))
    go_ret
    exact ⟨ret_intG hno.out.symm, Below.on hW1.out hb2⟩
  have hyes : givesI l owner group u g cl f = (giveI (fltP (askB owner group u g cl f) l l.length)).1 := (by rw [givesI, if_pos ⟨h, h2, h3, h4⟩])
  have HG : Hid (∀ w', Below w.heap.size w w' → Calls Tryd.prog 53 #[.slice a len cap, .int .i64 owner, .int .i64 group, .agg #[.int .i64 u, .int .i64 g, .slice ca cl cc, .bool cr]] w' fun e w'' => e = .returned (.int .i64 (givesI l owner group u g cl f)) ∧ Below w'.heap.size w' w'') := (by rw [hyes]; exact hgv.out h h4)
  rw [h4] at hcr
  clear h h4 hgv hyes
  generalize hR : givesI l owner group u g cl f = R at HG ⊢
  have HR : Hid (givesI l owner group u g cl f = R) := hR
  clear hR
  go_wp2_with (first | (go_at_call 52; refine (sId_any _ _).mono ?_; rintro e w' ⟨rfl, rfl⟩) | (go_at_call 30; refine (hcr.out _ hW1.out).mono ?_; rintro e w2 ⟨rfl, hb2⟩; have hW2 : Hid (Below w.heap.size w w2) := Below.on hW1.out hb2; obtain ⟨yl, y0, y1, y2, y3⟩ := hX1.out.below hX1.out.lt hb2) | (go_at_call 53; refine (HG.out _ hW2.out).mono ?_; rintro e w4 ⟨rfl, hb4⟩))
  go_ret
  exact ⟨ret_intG HR.out.symm, Below.on hW2.out hb4⟩
end Go.Proofs.YtdidbaadladkpaaDoor
