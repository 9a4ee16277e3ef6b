/- Laid together: WhoLaw. -/
import Derived.Test.YtgooanaacebncaaDoorRE13
import Derived.Test.YtgooanaacebncaaDoorRE21
import Derived.Test.YtgooanaacebncaaDoorRE22
import Derived.Test.YtgooanaacebncaaDoorRE23
/- The law FnWho. -/
namespace Go.Proofs.YtgooanaacebncaaDoor
open Go.RowKit Go.PlainAid Go.Deep
set_option linter.unusedVariables false
/-- CredRead's end, its groups by their cells. -/
theorem crEnd_ints {l : List UInt8} {w : World} {e : Ending} {w' : World} (h : CrEnd l w e w') : Below w.heap.size w w' ∧ ∃ (u v : Int) (G : List Int) (r : Bool) (c : Int) (a : Option Addr) (cap : Nat), e = .returned (.agg #[.int .i64 u, .int .i64 v, .slice a G.length cap, .bool r, .int .i64 c]) ∧ CrO l u v G r c ∧ Ints a G.length (atN G) w' := by
  obtain ⟨hb, u, v, G, r, c, x, rfl, hO, ho⟩ := h
  obtain ⟨a, cap, rfl, h1, _⟩ := own_nums ho
  exact ⟨hb, u, v, G, r, c, a, cap, rfl, hO, h1⟩
theorem CrO.len8 {l : List UInt8} {u v c : Int} {G : List Int} {r : Bool} (h : CrO l u v G r c) : G.length ≤ 8 := by
  cases h with
  | long h => simp
  | no h hr => simp
  | yes h u v G hr =>
    cases hr with
    | yes a b g u v G h0 h1 h2 h3 =>
      rw [rdG] at h3
      split at h3
      · cases h3; simp
      · split at h3
        · rename_i h4
          cases h3
          have := h4.2
          rw [grB, Bool.and_eq_true] at this
          exact of_decide_eq_true this.1
        · cases h3
/-- What is read is told by just that text. -/
theorem CrO.text {l : List UInt8} {u v : Int} {G : List Int} {r : Bool} (h : CrO l u v G r 0) : (credT u v G.length (atN G) r).data.toList = l := by
  cases h with
  | yes hl u v G hr =>
    cases hr with
    | yes a b g u v G h0 h1 h2 h3 =>
      have e1 := id_num h1
      have e2 := id_num h2
      rcases cred_key a b g (starC l) with ⟨_, _, _, _, _, h5, h6⟩ | ⟨_, h7⟩
      · rw [h3] at h5
        cases h5
        rw [e1, e2, ← h0, unspl_spl] at h6
        rw [h6]
        rcases star_cases ⟨l.toArray⟩ with ⟨_, s1, s2⟩ | ⟨_, _, s1, _, s2⟩ | ⟨_, _, s1, s2⟩
        · simp only at s1 s2
          rw [s1, s2]
          simp
        · simp only at s1 s2
          rw [s1, if_pos rfl]
          exact s2.symm
        · simp only at s1 s2
          rw [s1, s2]
          simp
      · rw [h1, h2, h3] at h7
        simp at h7
theorem fieldOut1 (u v : Int) (x : Value) (r : Bool) (c : Int) (w : World) : (Instr.field 30 (.agg #[.int .i64 u, .int .i64 v, x, .bool r, .int .i64 c]) 1).run Tryd.prog w = .ok (.int .i64 c) w := by kernel_rfl
theorem fieldOut0 (u v : Int) (x : Value) (r : Bool) (c : Int) (w : World) : (Instr.field 30 (.agg #[.int .i64 u, .int .i64 v, x, .bool r, .int .i64 c]) 0).run Tryd.prog w = .ok (.agg #[.int .i64 u, .int .i64 v, x, .bool r]) w := by kernel_rfl
attribute [local go_sem] fieldOut1 fieldOut0
set_option maxRecDepth 100000 in
set_option maxHeartbeats 4000000 in
theorem who_short (a b : Option Addr) (la lb ca cb : Nat) (f g : Nat → Int) (m : Int) (w : World) (hc : Code a la f w.heap.size w) (hd : Code b lb g w.heap.size w) (hp : PowW w) (hm : w.cell? ⟨1, 0, none⟩ = some (.int .i64 m)) (hml : 1 < w.heap.size) :
    Calls Tryd.prog 3 #[.slice a la ca, .slice b lb cb] w fun e w' => e = .returned (.bool true) ∧ Below w.heap.size w w' := by
  have h1 := hc.1
  have h2 := hd.1
  have n1 : ¬ (1048576 : Int) < (la : Int) := by omega
  have n2 : ¬ (1048576 : Int) < (lb : Int) := by omega
  have D1 : Hid (∀ w', Below w.heap.size w w' → Calls Tryd.prog 8 #[.slice a la ca] w' fun e w'' => ∃ c u v l ga gc r, e = .returned c ∧ CredIs w'.heap.size w'' c u v l ga gc r ∧ Below w'.heap.size w' w'') := (fun w' hb => dDrawCredText_any a la ca f w' (hc.up hb))
  have D2 : Hid (∀ w', Below w.heap.size w w' → Calls Tryd.prog 10 #[.slice b lb cb] w' fun e w'' => ∃ t : ByteArray, t.size ≤ 1000 ∧ e = .returned (.string t) ∧ Below w'.heap.size w' w'') := (fun w' hb => dDrawCredRead_any b lb cb g w' (hd.up hb))
  have D3 : Hid (∀ w', Below w.heap.size w w' → Calls Tryd.prog 12 #[.slice b lb cb] w' fun e w'' => ∃ c u v l ga gc r z, e = .returned (.tuple #[c, .int .i64 z]) ∧ CredIs w'.heap.size w'' c u v l ga gc r ∧ Below w'.heap.size w' w'') := (fun w' hb => dDrawInGroup_any b lb cb g w' (hd.up hb))
  have RI : Hid (∀ (t : ByteArray) w', t.size ≤ 1048576 → Below w.heap.size w w' → Calls Tryd.prog 11 #[.string t] w' (CrEnd t.data.toList w')) := (fun t w' ht hb => iCredRead_any t m ht w' ((hb.cell (p := ⟨1, 0, none⟩) hml).trans hm) (Nat.lt_of_lt_of_le hml hb.size))
  have HP : Hid (PowW w) := hp
  clear hc hd hm hml hp h1 h2
  go_enter Tryd.func3, Tryd.ntmps3
  go_wp2_with fail
  refine (D1.out _ (Below.refl _ _)).mono ?_
  rintro e w1 ⟨c, u, v, l, ga, gc, r, rfl, ⟨rfl, hl, hoC⟩, hb1⟩
  have hIC := own_intsD hoC
  have hb2 := bel_allocD w1 (.cells #[.int .i64 u, .int .i64 v, .slice ga l.length gc, .bool r] 25)
  have HX2 : Hid (Fr4 (w1.alloc (.cells #[.int .i64 u, .int .i64 v, .slice ga l.length gc, .bool r] 25)) w1.heap.size (.int .i64 u) (.int .i64 v) (.slice ga l.length gc) (.bool r)) := fr4_new _ _ _ _ _ _
  have HI2 : Hid (Ints ga l.length (atD l) (w1.alloc (.cells #[.int .i64 u, .int .i64 v, .slice ga l.length gc, .bool r] 25))) := hIC.below hb2
  have HW2 : Hid (Below w.heap.size w (w1.alloc (.cells #[.int .i64 u, .int .i64 v, .slice ga l.length gc, .bool r] 25))) := Below.on hb1 hb2
  clear hoC hIC hb1 hb2 D1
  go_upto_region 4 with fail
  generalize w1.alloc (.cells #[.int .i64 u, .int .i64 v, .slice ga l.length gc, .bool r] 25) = w2 at HX2 HI2 HW2 ⊢
  generalize w1.heap.size = X at HX2 ⊢
  obtain ⟨xl, x0, x1, x2, x3, _⟩ := HX2.out
  go_wp2_with fail
  refine (iCredText_any u v ga l.length gc r (atD l) w2 HI2.out (HP.out.below HW2.out)).mono ?_
  rintro e w3 ⟨rfl, hb3⟩
  have HX3 : Hid (Fr4 w3 X (.int .i64 u) (.int .i64 v) (.slice ga l.length gc) (.bool r)) := HX2.out.below hb3
  have HI3 : Hid (Ints ga l.length (atD l) w3) := HI2.out.below hb3
  have HW3 : Hid (Below w.heap.size w w3) := Below.on HW2.out hb3
  clear hb3 HX2 HI2 HW2 x0 x1 x2 x3 xl
  go_wp2_with fail
  refine (D2.out _ HW3.out).mono ?_
  rintro e w4 ⟨t, ht, rfl, hb4⟩
  have HX4 : Hid (Fr4 w4 X (.int .i64 u) (.int .i64 v) (.slice ga l.length gc) (.bool r)) := HX3.out.below hb4
  have HI4 : Hid (Ints ga l.length (atD l) w4) := HI3.out.below hb4
  have HW4 : Hid (Below w.heap.size w w4) := Below.on HW3.out hb4
  clear hb4 HX3 HI3 HW3 D2
  go_wp2_with fail
  refine (RI.out t _ (by omega) HW4.out).mono ?_
  intro e w5 he
  obtain ⟨hb5, xu, xv, G, xr, xc, xa, xcp, rfl, hO, hIX⟩ := crEnd_ints he
  have HO : Hid (CrO t.data.toList xu xv G xr xc) := hO
  have hb6 := bel_allocD w5 (.cells #[.int .i64 xu, .int .i64 xv, .slice xa G.length xcp, .bool xr, .int .i64 xc] 30)
  have HY6 : Hid (Bf5 (w5.alloc (.cells #[.int .i64 xu, .int .i64 xv, .slice xa G.length xcp, .bool xr, .int .i64 xc] 30)) w5.heap.size (.int .i64 xu) (.int .i64 xv) (.slice xa G.length xcp) (.bool xr) (.int .i64 xc)) := bf5_new _ _ _ _ _ _ _
  have HX6 : Hid (Fr4 (w5.alloc (.cells #[.int .i64 xu, .int .i64 xv, .slice xa G.length xcp, .bool xr, .int .i64 xc] 30)) X (.int .i64 u) (.int .i64 v) (.slice ga l.length gc) (.bool r)) := (HX4.out.below hb5).below hb6
  have HI6 : Hid (Ints ga l.length (atD l) (w5.alloc (.cells #[.int .i64 xu, .int .i64 xv, .slice xa G.length xcp, .bool xr, .int .i64 xc] 30))) := (HI4.out.below hb5).below hb6
  have HJ6 : Hid (Ints xa G.length (atN G) (w5.alloc (.cells #[.int .i64 xu, .int .i64 xv, .slice xa G.length xcp, .bool xr, .int .i64 xc] 30))) := hIX.below hb6
  have HW6 : Hid (Below w.heap.size w (w5.alloc (.cells #[.int .i64 xu, .int .i64 xv, .slice xa G.length xcp, .bool xr, .int .i64 xc] 30))) := Below.on (Below.on HW4.out hb5) hb6
  clear he hO hIX hb5 hb6 HX4 HI4 HW4
  go_upto_region 7 with fail
  generalize w5.alloc (.cells #[.int .i64 xu, .int .i64 xv, .slice xa G.length xcp, .bool xr, .int .i64 xc] 30) = w6 at HY6 HX6 HI6 HJ6 HW6 ⊢
  generalize w5.heap.size = Y at HY6 ⊢
  go_wp2_with fail
  refine (D3.out _ HW6.out).mono ?_
  rintro e w7 ⟨c, gu, gv', lz, za, zc, zr, z, rfl, ⟨rfl, hlz, hoZ⟩, hb7⟩
  have hIZ := own_intsD hoZ
  have hb8 := bel_allocD w7 (.cells #[.int .i64 gu, .int .i64 gv', .slice za lz.length zc, .bool zr] 25)
  have HZ8 : Hid (Fr4 (w7.alloc (.cells #[.int .i64 gu, .int .i64 gv', .slice za lz.length zc, .bool zr] 25)) w7.heap.size (.int .i64 gu) (.int .i64 gv') (.slice za lz.length zc) (.bool zr)) := fr4_new _ _ _ _ _ _
  have HY8 : Hid (Bf5 (w7.alloc (.cells #[.int .i64 gu, .int .i64 gv', .slice za lz.length zc, .bool zr] 25)) Y (.int .i64 xu) (.int .i64 xv) (.slice xa G.length xcp) (.bool xr) (.int .i64 xc)) := (HY6.out.below hb7).below hb8
  have HX8 : Hid (Fr4 (w7.alloc (.cells #[.int .i64 gu, .int .i64 gv', .slice za lz.length zc, .bool zr] 25)) X (.int .i64 u) (.int .i64 v) (.slice ga l.length gc) (.bool r)) := (HX6.out.below hb7).below hb8
  have HI8 : Hid (Ints ga l.length (atD l) (w7.alloc (.cells #[.int .i64 gu, .int .i64 gv', .slice za lz.length zc, .bool zr] 25))) := (HI6.out.below hb7).below hb8
  have HJ8 : Hid (Ints xa G.length (atN G) (w7.alloc (.cells #[.int .i64 gu, .int .i64 gv', .slice za lz.length zc, .bool zr] 25))) := (HJ6.out.below hb7).below hb8
  have HK8 : Hid (Ints za lz.length (atD lz) (w7.alloc (.cells #[.int .i64 gu, .int .i64 gv', .slice za lz.length zc, .bool zr] 25))) := hIZ.below hb8
  have HW8 : Hid (Below w.heap.size w (w7.alloc (.cells #[.int .i64 gu, .int .i64 gv', .slice za lz.length zc, .bool zr] 25))) := Below.on (Below.on HW6.out hb7) hb8
  clear hoZ hIZ hb7 hb8 HX6 HI6 HJ6 HW6 HY6 D3
  go_upto_region 8 with fail
  generalize w7.alloc (.cells #[.int .i64 gu, .int .i64 gv', .slice za lz.length zc, .bool zr] 25) = w8 at HZ8 HY8 HX8 HI8 HJ8 HK8 HW8 ⊢
  generalize w7.heap.size = Z at HZ8 ⊢
  have hCT : Hid (∀ w', Below w8.heap.size w8 w' → Calls Tryd.prog 13 #[.agg #[.int .i64 u, .int .i64 v, .slice ga l.length gc, .bool r]] w' fun e w'' => e = .returned (.string (credT u v l.length (atD l) r)) ∧ Below w'.heap.size w' w'') := (fun w' hb => sCredText_any u v ga l.length gc r (atD l) w' (HI8.out.below hb))
  have hR1 : Hid (∀ w', Below w8.heap.size w8 w' → Calls Tryd.prog 14 #[.agg #[.int .i64 u, .int .i64 v, .slice ga l.length gc, .bool r]] w' fun e w'' => e = .returned (.bool (credB u v l.length (atD l))) ∧ Below w'.heap.size w' w'') := (fun w' hb => iCredRight_any u v ga l.length gc r (atD l) w' (HI8.out.below hb))
  have hR2 : Hid (∀ w', Below w8.heap.size w8 w' → Calls Tryd.prog 15 #[.agg #[.int .i64 u, .int .i64 v, .slice ga l.length gc, .bool r]] w' fun e w'' => e = .returned (.bool (credB u v l.length (atD l))) ∧ Below w'.heap.size w' w'') := (fun w' hb => sCredRight_any u v ga l.length gc r (atD l) w' (HI8.out.below hb))
  have hG1 : Hid (∀ w', Below w8.heap.size w8 w' → Calls Tryd.prog 18 #[.agg #[.int .i64 gu, .int .i64 gv', .slice za lz.length zc, .bool zr], .int .i64 z] w' fun e w'' => e = .returned (.bool (inGB gu gv' lz.length (atD lz) z)) ∧ Below w'.heap.size w' w'') := (fun w' hb => iInGroup_any gu gv' za lz.length zc zr z (atD lz) w' (HK8.out.below hb))
  have hG2 : Hid (∀ w', Below w8.heap.size w8 w' → Calls Tryd.prog 19 #[.agg #[.int .i64 gu, .int .i64 gv', .slice za lz.length zc, .bool zr], .int .i64 z] w' fun e w'' => e = .returned (.bool (inGB gu gv' lz.length (atD lz) z)) ∧ Below w'.heap.size w' w'') := (fun w' hb => sInGroup_any gu gv' za lz.length zc zr z (atD lz) w' (HK8.out.below hb))
  have hRd : Hid (∀ w', Calls Tryd.prog 16 #[.string t] w' fun e w'' => ∃ a2 c2, e = .returned (.agg #[.int .i64 xu, .int .i64 xv, .slice a2 G.length c2, .bool xr, .int .i64 xc]) ∧ Ints a2 G.length (atN G) w'' ∧ Below w'.heap.size w' w'') := (fun w' => (sCredRead_short t (by omega) w').mono (by
    intro e w'' he
    obtain ⟨hb, u', v', G', r', c', a2, c2, rfl, hO', hI'⟩ := crEnd_ints he
    obtain ⟨rfl, rfl, rfl, rfl, rfl⟩ := HO.out.one hO'
    exact ⟨a2, c2, rfl, hI', hb⟩))
  have hLw : Hid (∀ a2 c2 w', Below w8.heap.size w8 w' → Ints a2 G.length (atN G) w' → Calls Tryd.prog 17 #[.agg #[.int .i64 xu, .int .i64 xv, .slice xa G.length xcp, .bool xr], .agg #[.int .i64 xu, .int .i64 xv, .slice a2 G.length c2, .bool xr]] w' fun e w'' => e = .returned (.bool true) ∧ Below w'.heap.size w' w'') := (fun a2 c2 w' hb hi => lwCred_any xu xv xa a2 G.length xcp c2 xr (atN G) (by have := HO.out.len8; omega) w' (HJ8.out.below hb) hi)
  have HT : Hid (credT u v l.length (atD l) r = credT u v l.length (atD l) r) := rfl
  generalize hTT : credT u v l.length (atD l) r = T at hCT ⊢
  have HTT : Hid (credT u v l.length (atD l) r = T) := hTT
  generalize hCB : credB u v l.length (atD l) = cbv at hR1 hR2
  have HCB : Hid (credB u v l.length (atD l) = cbv) := hCB
  generalize inGB gu gv' lz.length (atD lz) z = igv at hG1 hG2
  clear hTT hCB HT
  have e1 : (cbv != cbv) = false := by simp
  have e2 : (igv != igv) = false := by simp
  have hB : Hid (Below w8.heap.size w8 w8.drew) := ⟨rfl, rfl, rfl, Nat.le_refl _, fun _ _ => rfl⟩
  obtain ⟨_, xa0, xb0, xc0, xd0, _⟩ := HX8.out
  obtain ⟨_, ya0, yb0, yc0, yd0, ye0, _⟩ := HY8.out
  obtain ⟨_, za0, zb0, zc0, zd0, _⟩ := HZ8.out
  go_region_held3 (fun w' => w'.cell? ⟨X, 0, none⟩ = some (.int .i64 u) ∧ w'.cell? ⟨X, 1, none⟩ = some (.int .i64 v) ∧ w'.cell? ⟨X, 2, none⟩ = some (.slice ga l.length gc) ∧ w'.cell? ⟨X, 3, none⟩ = some (.bool r) ∧ w'.cell? ⟨Y, 0, none⟩ = some (.int .i64 xu) ∧ w'.cell? ⟨Y, 1, none⟩ = some (.int .i64 xv) ∧ w'.cell? ⟨Y, 2, none⟩ = some (.slice xa G.length xcp) ∧ w'.cell? ⟨Y, 3, none⟩ = some (.bool xr) ∧ w'.cell? ⟨Y, 4, none⟩ = some (.int .i64 xc) ∧ w'.cell? ⟨Z, 0, none⟩ = some (.int .i64 gu) ∧ w'.cell? ⟨Z, 1, none⟩ = some (.int .i64 gv') ∧ w'.cell? ⟨Z, 2, none⟩ = some (.slice za lz.length zc) ∧ w'.cell? ⟨Z, 3, none⟩ = some (.bool zr)) (go_keep)
    (first
      | (go_at_call 13; refine (hCT.out _ hB.out).mono ?_; rintro e wn ⟨rfl, hbn⟩; replace hB : Hid (Below w8.heap.size w8 wn) := Below.on hB.out hbn; obtain ⟨_, xa1, xb1, xc1, xd1, _⟩ := HX8.out.below hB.out; obtain ⟨_, ya1, yb1, yc1, yd1, ye1, _⟩ := HY8.out.below hB.out; obtain ⟨_, za1, zb1, zc1, zd1, _⟩ := HZ8.out.below hB.out)
      | (go_at_call 14; refine (hR1.out _ hB.out).mono ?_; rintro e wn ⟨rfl, hbn⟩; replace hB : Hid (Below w8.heap.size w8 wn) := Below.on hB.out hbn; obtain ⟨_, xa2, xb2, xc2, xd2, _⟩ := HX8.out.below hB.out; obtain ⟨_, ya2, yb2, yc2, yd2, ye2, _⟩ := HY8.out.below hB.out; obtain ⟨_, za2, zb2, zc2, zd2, _⟩ := HZ8.out.below hB.out)
      | (go_at_call 15; refine (hR2.out _ hB.out).mono ?_; rintro e wn ⟨rfl, hbn⟩; replace hB : Hid (Below w8.heap.size w8 wn) := Below.on hB.out hbn; obtain ⟨_, xa3, xb3, xc3, xd3, _⟩ := HX8.out.below hB.out; obtain ⟨_, ya3, yb3, yc3, yd3, ye3, _⟩ := HY8.out.below hB.out; obtain ⟨_, za3, zb3, zc3, zd3, _⟩ := HZ8.out.below hB.out)
      | (go_at_call 16; refine (hRd.out _).mono ?_; rintro e wn ⟨a2, c2, rfl, hi2, hbn⟩; replace hB : Hid (Below w8.heap.size w8 wn) := Below.on hB.out hbn; obtain ⟨_, xa4, xb4, xc4, xd4, _⟩ := HX8.out.below hB.out; obtain ⟨_, ya4, yb4, yc4, yd4, ye4, _⟩ := HY8.out.below hB.out; obtain ⟨_, za4, zb4, zc4, zd4, _⟩ := HZ8.out.below hB.out)
      | (go_at_call 17; refine (hLw.out _ _ _ hB.out hi2).mono ?_; rintro e wn ⟨rfl, hbn⟩; replace hB : Hid (Below w8.heap.size w8 wn) := Below.on hB.out hbn; obtain ⟨_, xa5, xb5, xc5, xd5, _⟩ := HX8.out.below hB.out; obtain ⟨_, ya5, yb5, yc5, yd5, ye5, _⟩ := HY8.out.below hB.out; obtain ⟨_, za5, zb5, zc5, zd5, _⟩ := HZ8.out.below hB.out)
      | (go_at_call 18; refine (hG1.out _ hB.out).mono ?_; rintro e wn ⟨rfl, hbn⟩; replace hB : Hid (Below w8.heap.size w8 wn) := Below.on hB.out hbn; obtain ⟨_, xa6, xb6, xc6, xd6, _⟩ := HX8.out.below hB.out; obtain ⟨_, ya6, yb6, yc6, yd6, ye6, _⟩ := HY8.out.below hB.out; obtain ⟨_, za6, zb6, zc6, zd6, _⟩ := HZ8.out.below hB.out)
      | (go_at_call 19; refine (hG2.out _ hB.out).mono ?_; rintro e wn ⟨rfl, hbn⟩; replace hB : Hid (Below w8.heap.size w8 wn) := Below.on hB.out hbn; obtain ⟨_, xa7, xb7, xc7, xd7, _⟩ := HX8.out.below hB.out; obtain ⟨_, ya7, yb7, yc7, yd7, ye7, _⟩ := HY8.out.below hB.out; obtain ⟨_, za7, zb7, zc7, zd7, _⟩ := HZ8.out.below hB.out))
  all_goals
    have HX9 : Hid (Fr4 wn X (.int .i64 u) (.int .i64 v) (.slice ga l.length gc) (.bool r)) := HX8.out.below hB.out
    have HY9 : Hid (Bf5 wn Y (.int .i64 xu) (.int .i64 xv) (.slice xa G.length xcp) (.bool xr) (.int .i64 xc)) := HY8.out.below hB.out
    have HI9 : Hid (Ints ga l.length (atD l) wn) := HI8.out.below hB.out
    have HJ9 : Hid (Ints xa G.length (atN G) wn) := HJ8.out.below hB.out
    have HW9 : Hid (Below w.heap.size w wn) := Below.on HW8.out hB.out
    clear hCT hR1 hR2 hG1 hG2 hRd hLw HX8 HY8 HI8 HJ8 HW8 HZ8 HK8 hB xa0 xb0 xc0 xd0 ya0 yb0 yc0 yd0 ye0 za0 zb0 zc0 zd0 xa1 xb1 xc1 xd1 ya1 yb1 yc1 yd1 ye1 za1 zb1 zc1 zd1 xa2 xb2 xc2 xd2 ya2 yb2 yc2 yd2 ye2 za2 zb2 zc2 zd2 xa3 xb3 xc3 xd3 ya3 yb3 yc3 yd3 ye3 za3 zb3 zc3 zd3 xa5 xb5 xc5 xd5 ya5 yb5 yc5 yd5 ye5 za5 zb5 zc5 zd5 xa6 xb6 xc6 xd6 ya6 yb6 yc6 yd6 ye6 za6 zb6 zc6 zd6 xa7 xb7 xc7 xd7 ya7 yb7 yc7 yd7 ye7 za7 zb7 zc7 zd7 xa4 xb4 xc4 xd4 ya4 yb4 yc4 yd4 ye4 za4 zb4 zc4 zd4 e1 e2
    obtain ⟨_, p0, p1, p2, p3, _⟩ := HX9.out
    obtain ⟨_, q0, q1, q2, q3, q4, _⟩ := HY9.out
    cases hcv : cbv
    case' false =>
      have hT0 : T = ⟨#[]⟩ := by
        rw [← HTT.out]
        exact credT_no (by rw [HCB.out, hcv])
      subst hT0
      go_upto_region 10 with fail
      go_quiet (fail)
      rename_i nq
      have hbq : Below wn.heap.size wn (wn.drewN nq) := below_drewN (Below.refl _ _) nq
      have HYm : Hid (Bf5 (wn.drewN nq) Y (.int .i64 xu) (.int .i64 xv) (.slice xa G.length xcp) (.bool xr) (.int .i64 xc)) := HY9.out.below hbq
      have HJm : Hid (Ints xa G.length (atN G) (wn.drewN nq)) := HJ9.out.below hbq
      have HWm : Hid (Below w.heap.size w (wn.drewN nq)) := Below.on HW9.out hbq
      clear hbq
      generalize wn.drewN nq = wm at HYm HJm HWm ⊢
    case' true =>
      have hrt : credB u v l.length (atN l) = true := (by have := HCB.out; rw [hcv] at this; exact this)
      have HBk : Hid (CrO T.data.toList u v l r 0) := (by rw [← HTT.out]; exact cred_back u v l r hrt)
      have hTs : T.size ≤ 60 := by rw [← HTT.out]; exact credT_size _ _ _ _ _
      have hTn : T.toList.isEmpty = false := full_text (by
        by_cases h0 : T.size = 0
        · obtain rfl := text_nil h0
          have := HBk.out
          exfalso
          cases this with
          | yes _ _ _ _ hr =>
            cases hr with
            | yes a b g _ _ _ h0 => exact absurd (congrArg List.length h0) (by simp [restC, Lib.trimSuffix, Lib.hasSuffix, spl, splS, List.isSuffixOf])
        · omega)
      have hR : Hid (∀ w', Below wn.heap.size wn w' → Calls Tryd.prog 11 #[.string T] w' fun e w'' => ∃ a2 c2, e = .returned (.agg #[.int .i64 u, .int .i64 v, .slice a2 l.length c2, .bool r, .int .i64 0]) ∧ Ints a2 l.length (atD l) w'' ∧ Below w'.heap.size w' w'') := (fun w' hb => (RI.out T w' (by omega) (Below.on HW9.out hb)).mono (by
        intro e w'' he
        obtain ⟨hb, u', v', G', r', c', a2, c2, rfl, hO', hI'⟩ := crEnd_ints he
        obtain ⟨rfl, rfl, rfl, rfl, rfl⟩ := HBk.out.one hO'
        exact ⟨a2, c2, rfl, hI', hb⟩))
      have hL : Hid (∀ a2 c2 w', Below wn.heap.size wn w' → Ints a2 l.length (atD l) w' → Calls Tryd.prog 17 #[.agg #[.int .i64 u, .int .i64 v, .slice a2 l.length c2, .bool r], .agg #[.int .i64 u, .int .i64 v, .slice ga l.length gc, .bool r]] w' fun e w'' => e = .returned (.bool true) ∧ Below w'.heap.size w' w'') := (fun a2 c2 w' hb hi => lwCred_any u v a2 ga l.length c2 gc r (atD l) (by omega) w' hi (HI9.out.below hb))
      have hig : inGB u v l.length (atD l) v = true := by
        have h1 : credB u v l.length (atD l) = true := hrt
        simp [inGB, h1]
      have hG : Hid (∀ w', Below wn.heap.size wn w' → Calls Tryd.prog 18 #[.agg #[.int .i64 u, .int .i64 v, .slice ga l.length gc, .bool r], .int .i64 v] w' fun e w'' => e = .returned (.bool true) ∧ Below w'.heap.size w' w'') := (fun w' hb => by
        have := iInGroup_any u v ga l.length gc r v (atD l) w' (HI9.out.below hb)
        rwa [hig] at this)
      have hB : Hid (Below wn.heap.size wn wn.drew) := ⟨rfl, rfl, rfl, Nat.le_refl _, fun _ _ => rfl⟩
      clear hig hrt
      go_upto_region 10 with fail
      go_region_held3 (fun w' => w'.cell? ⟨X, 0, none⟩ = some (.int .i64 u) ∧ w'.cell? ⟨X, 1, none⟩ = some (.int .i64 v) ∧ w'.cell? ⟨X, 2, none⟩ = some (.slice ga l.length gc) ∧ w'.cell? ⟨X, 3, none⟩ = some (.bool r)) (go_keep)
        (first
          | (go_at_call 11; refine (hR.out _ hB.out).mono ?_; rintro e wm ⟨a2, c2, rfl, hi2, hbm⟩; replace hB : Hid (Below wn.heap.size wn wm) := Below.on hB.out hbm; obtain ⟨_, xa1, xb1, xc1, xd1, _⟩ := HX9.out.below hB.out)
          | (go_at_call 17; refine (hL.out _ _ _ hB.out hi2).mono ?_; rintro e wm ⟨rfl, hbm⟩; replace hB : Hid (Below wn.heap.size wn wm) := Below.on hB.out hbm; obtain ⟨_, xa2, xb2, xc2, xd2, _⟩ := HX9.out.below hB.out)
          | (go_at_call 18; refine (hG.out _ hB.out).mono ?_; rintro e wm ⟨rfl, hbm⟩; replace hB : Hid (Below wn.heap.size wn wm) := Below.on hB.out hbm; obtain ⟨_, xa3, xb3, xc3, xd3, _⟩ := HX9.out.below hB.out))
      have HYm : Hid (Bf5 wm Y (.int .i64 xu) (.int .i64 xv) (.slice xa G.length xcp) (.bool xr) (.int .i64 xc)) := HY9.out.below hB.out
      have HJm : Hid (Ints xa G.length (atN G) wm) := HJ9.out.below hB.out
      have HWm : Hid (Below w.heap.size w wm) := Below.on HW9.out hB.out
    all_goals
      clear p0 p1 p2 p3 q0 q1 q2 q3 q4
      obtain ⟨_, q0, q1, q2, q3, q4, _⟩ := HYm.out
      by_cases hxc : xc = 0
      · subst hxc
        have hTx : credT xu xv G.length (atN G) xr = t := (by
          apply ByteArray.ext
          apply Array.toList_inj.1
          exact HO.out.text)
        have hE : Hid (Calls Tryd.prog 9 #[.agg #[.int .i64 xu, .int .i64 xv, .slice xa G.length xcp, .bool xr]] wm fun e w' => e = .returned (.string t) ∧ Below wm.heap.size wm w') := (by
          have := iCredText_any xu xv xa G.length xcp xr (atN G) wm HJm.out (HP.out.below HWm.out)
          rwa [hTx] at this)
        clear hTx
        go_wp2_with fail
        refine hE.out.mono ?_
        rintro e wz ⟨rfl, hbz⟩
        have HWz : Hid (Below w.heap.size w wz) := Below.on HWm.out hbz
        clear hbz hE
        go_wp2
        go_ret
        exact ⟨rfl, HWz.out⟩
      · have hx0 : (xc == 0) = false := by simpa using hxc
        go_wp2
        go_ret
        exact ⟨rfl, HWm.out⟩
end Go.Proofs.YtgooanaacebncaaDoor
