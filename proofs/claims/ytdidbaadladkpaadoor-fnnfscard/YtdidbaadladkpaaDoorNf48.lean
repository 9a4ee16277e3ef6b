/- Laid together: LwAt, FnNfsW. -/
import Derived.Test.YtdidbaadladkpaaDoorNf2
import Derived.Test.YtdidbaadladkpaaDoorNf37
import Derived.Test.YtdidbaadladkpaaDoorNf38
import Derived.Test.YtdidbaadladkpaaDoorNf46
import Derived.Test.YtdidbaadladkpaaDoorNf40
import Derived.Test.YtdidbaadladkpaaDoorNf44
import Derived.Test.YtdidbaadladkpaaDoorNf43
import Derived.Test.YtdidbaadladkpaaDoorNf47
import Derived.Test.YtdidbaadladkpaaDoorNf36
import Derived.Deep.DeepCutAuto
import Derived.Deep.RegionHeld3
/- The contract of laws.lwAt: a number below most, or 0. -/
namespace Go.Proofs.YtdidbaadladkpaaDoor
open Go.RowKit
set_option linter.unusedVariables false
set_option maxHeartbeats 1000000 in
theorem lwAt_any (a : Option Addr) (len cap : Nat) (g : Nat → Int) (p : Nat) (at_ : Nat) (hat : at_ ≤ 1000000) (most : Int) (hm : most ≤ 9223372036854775807) (w : World) (hc : Code a len g p w) :
    Calls Tryd.prog 31 #[.slice a len cap, .int .i64 at_, .int .i64 most] w fun e w' => ∃ r : Int, 0 ≤ r ∧ (r < most ∨ r = 0) ∧ e = .returned (.int .i64 r) ∧ w' = w := by
  obtain ⟨hlen, hg, hrow⟩ := hc
  have HR : Hid (0 < len → ∃ b off, a = some ⟨b, off, none⟩ ∧ b < p ∧ ∀ i, i < len → w.cell? ⟨b, off + i, none⟩ = some (.int .u8 (g i))) := hrow
  have HG : Hid (∀ i, 0 ≤ g i ∧ g i ≤ 255) := hg
  clear hrow hg
  by_cases h1 : most ≤ 1
  · go_enter Tryd.func31, Tryd.ntmps31
    go_wp2
    go_ret
    exact ⟨0, Int.le_refl _, .inr rfl, rfl, rfl⟩
  · have d1 : decide (most ≤ 1) = false := by simp; omega
    by_cases h2 : len = 0
    · have d2 : ((len : Int) == 0) = true := by rw [h2]; rfl
      clear h2
      go_enter Tryd.func31, Tryd.ntmps31
      go_wp2
      go_ret
      exact ⟨0, Int.le_refl _, .inr rfl, rfl, rfl⟩
    · have d2 : ((len : Int) == 0) = false := by rw [beq_eq_false_iff_ne]; omega
      obtain ⟨b, off, hae, hbp, hcell⟩ := HR.out (by omega)
      have hmod : at_ % len < len := Nat.mod_lt _ (by omega)
      have hz := hcell (at_ % len) hmod
      obtain ⟨z1, z2⟩ := HG.out (at_ % len)
      have hpos : 0 < len := by omega
      subst hae
      clear hcell h2
      generalize g (at_ % len) = z at hz z1 z2
      have e1 : ((at_ : Int).tmod (len : Int)) = ((at_ % len : Nat) : Int) := by rw [Int.tmod_eq_emod_of_nonneg (by omega)]; rfl
      go_enter Tryd.func31, Tryd.ntmps31
      go_wp2
      go_ret
      exact ⟨z % most, Int.emod_nonneg _ (by omega), .inl (Int.emod_lt_of_pos _ (by omega)), rfl, rfl⟩
end Go.Proofs.YtdidbaadladkpaaDoor
/- The law FnNfs. -/
namespace Go.Proofs.YtdidbaadladkpaaDoor
open Go.RowKit Go.PlainAid Go.Deep
set_option linter.unusedVariables false
theorem below_drewFn {B : Nat} {w w' : World} (h : Below B w w') : Below B w w'.drew := h.trans ⟨rfl, rfl, rfl, Nat.le_refl _, fun _ _ => rfl⟩
theorem fldNfs (v0 v1 : Value) (w : World) : (Instr.field 37 (.agg #[v0, v1]) 0).run Tryd.prog w = .ok v0 w := by kernel_rfl
attribute [local go_sem] fldNfs

set_option maxRecDepth 100000 in
theorem nfs_long0 (a0 : Option Addr) (len0 cap0 : Nat) (a1 : Option Addr) (len1 cap1 : Nat) (h0 : 1048576 < (len0 : Int)) (w : World) :
    Calls Tryd.prog 3 #[.slice a0 len0 cap0, .slice a1 len1 cap1] w fun e w' => e = .returned (.bool true) ∧ Below w.heap.size w w' := by
  go_enter Tryd.func3, Tryd.ntmps3
  go_wp2
  go_ret
  exact ⟨rfl, Below.refl _ _⟩

set_option maxRecDepth 100000 in
theorem nfs_long1 (a0 : Option Addr) (len0 cap0 : Nat) (a1 : Option Addr) (len1 cap1 : Nat) (d0 : decide (1048576 < (len0 : Int)) = false) (h1 : 1048576 < (len1 : Int)) (w : World) :
    Calls Tryd.prog 3 #[.slice a0 len0 cap0, .slice a1 len1 cap1] w fun e w' => e = .returned (.bool true) ∧ Below w.heap.size w w' := by
  go_enter Tryd.func3, Tryd.ntmps3
  go_wp2
  go_ret
  exact ⟨rfl, Below.refl _ _⟩

set_option maxRecDepth 100000 in
set_option maxHeartbeats 16000000 in
theorem nfs_short (a b : Option Addr) (la lb ca cb : Nat) (f g : Nat → Int) (w : World) (hp : PlW w) (hc : Code a la f w.heap.size w) (hd : Code b lb g w.heap.size w) :
    Calls Tryd.prog 3 #[.slice a la ca, .slice b lb cb] w fun e w' => e = .returned (.bool true) ∧ Below w.heap.size w w' := by
  have h1 := hc.1
  have h2 := hd.1
  have n1 : ¬ (1048576 : Int) < (la : Int) := by omega
  have n2 : ¬ (1048576 : Int) < (lb : Int) := by omega
  have HC : Hid (Code a la f w.heap.size w) := hc
  have HD : Hid (Code b lb g w.heap.size w) := hd
  have HP : Hid (PlW w) := hp
  clear hc hd h1 h2 hp
  go_enter Tryd.func3, Tryd.ntmps3

  go_wp2_with fail
  refine (dDrawNfsGives_any a la ca f _ HC.out).mono ?_
  rintro e w1 ⟨l0a, lc, l, ow, gr, u, v, cl, ga, gc, r, rfl, hrow, hl, hor, hcl, hb1, hsm⟩
  obtain ⟨⟨lb0, lo0, ls0⟩, rfl⟩ := hsm
  have hls : ls0 = none := row_spot hrow
  subst hls
  have hlc := rowL_cap hrow rfl
  have HL : Hid (Acs (some ⟨lb0, lo0, none⟩) l.length l w1) := rowL_acs hrow
  have HI : Hid (Ints ga cl.length (atD cl) w1) := own_intsD hor
  have HB : Hid (Below w.heap.size w w1) := hb1
  clear hrow hor hb1
  have hbN := bel_alloc w1 (.cells #[.int .i64 u, .int .i64 v, .slice ga cl.length gc, .bool r] 26)
  have HL' : Hid (Acs (some ⟨lb0, lo0, none⟩) l.length l (w1.alloc (.cells #[.int .i64 u, .int .i64 v, .slice ga cl.length gc, .bool r] 26))) := HL.out.below hbN
  have HI' : Hid (Ints ga cl.length (atD cl) (w1.alloc (.cells #[.int .i64 u, .int .i64 v, .slice ga cl.length gc, .bool r] 26))) := HI.out.below hbN
  have HB' : Hid (Below w.heap.size w (w1.alloc (.cells #[.int .i64 u, .int .i64 v, .slice ga cl.length gc, .bool r] 26))) := Below.on HB.out hbN
  clear HL HI HB
  have HL : Hid (Acs (some ⟨lb0, lo0, none⟩) l.length l (w1.alloc (.cells #[.int .i64 u, .int .i64 v, .slice ga cl.length gc, .bool r] 26))) := HL'
  have HI : Hid (Ints ga cl.length (atD cl) (w1.alloc (.cells #[.int .i64 u, .int .i64 v, .slice ga cl.length gc, .bool r] 26))) := HI'
  have HB : Hid (Below w.heap.size w (w1.alloc (.cells #[.int .i64 u, .int .i64 v, .slice ga cl.length gc, .bool r] 26))) := HB'
  clear HL' HI' HB'
  have HX : Hid (Box4 (w1.alloc (.cells #[.int .i64 u, .int .i64 v, .slice ga cl.length gc, .bool r] 26)) w1.heap.size (.int .i64 u) (.int .i64 v) (.slice ga cl.length gc) (.bool r)) := box4_new w1 _ _ _ _ _
  clear hbN
  go_upto_region 4 with fail
  generalize w1.alloc (.cells #[.int .i64 u, .int .i64 v, .slice ga cl.length gc, .bool r] 26) = w2 at HL HI HX HB ⊢
  generalize w1.heap.size = X at HX ⊢
  obtain ⟨xl, x0, x1, x2, x3⟩ := HX.out
  go_wp2_with fail
  refine (iNfsGives_any _ _ lc l ow gr u v ga cl.length gc r (atD cl) _ HL.out HI.out).mono ?_
  rintro e w3 ⟨rfl, hb3⟩
  clear x0 x1 x2 x3 xl
  have HL' : Hid (Acs (some ⟨lb0, lo0, none⟩) l.length l w3) := HL.out.below hb3
  have HI' : Hid (Ints ga cl.length (atD cl) w3) := HI.out.below hb3
  have HX' : Hid (Box4 w3 X (.int .i64 u) (.int .i64 v) (.slice ga cl.length gc) (.bool r)) := HX.out.below hb3
  have HB' : Hid (Below w.heap.size w w3) := Below.on HB.out hb3
  clear HL HI HX HB
  have HL : Hid (Acs (some ⟨lb0, lo0, none⟩) l.length l w3) := HL'
  have HI : Hid (Ints ga cl.length (atD cl) w3) := HI'
  have HX : Hid (Box4 w3 X (.int .i64 u) (.int .i64 v) (.slice ga cl.length gc) (.bool r)) := HX'
  have HB : Hid (Below w.heap.size w w3) := HB'
  clear HL' HI' HX' HB'
  clear hb3
  obtain ⟨gv, hgv⟩ : ∃ gv, gv = givesI l ow gr u v cl.length (atD cl) := ⟨_, rfl⟩
  rw [← hgv]
  have HGV : Hid (gv = givesI l ow gr u v cl.length (atD cl)) := hgv
  clear hgv
  go_wp2_with fail
  refine (dDrawNfsMay_any b lb cb g _ (HD.out.up HB.out)).mono ?_
  rintro e w4 ⟨ma, mc, m, ow2, gr2, u2, v2, cl2, ga2, gc2, r2, z, rfl, hM, hml, hI2, hb4⟩
  have HL' : Hid (Acs (some ⟨lb0, lo0, none⟩) l.length l w4) := HL.out.below hb4
  have HI' : Hid (Ints ga cl.length (atD cl) w4) := HI.out.below hb4
  have HX' : Hid (Box4 w4 X (.int .i64 u) (.int .i64 v) (.slice ga cl.length gc) (.bool r)) := HX.out.below hb4
  have HB' : Hid (Below w.heap.size w w4) := Below.on HB.out hb4
  clear HL HI HX HB
  have HL : Hid (Acs (some ⟨lb0, lo0, none⟩) l.length l w4) := HL'
  have HI : Hid (Ints ga cl.length (atD cl) w4) := HI'
  have HX : Hid (Box4 w4 X (.int .i64 u) (.int .i64 v) (.slice ga cl.length gc) (.bool r)) := HX'
  have HB : Hid (Below w.heap.size w w4) := HB'
  clear HL' HI' HX' HB'
  have HM : Hid (Acs ma m.length m w4) := hM
  have HJ : Hid (Ints ga2 cl2.length (atD cl2) w4) := hI2
  clear hb4 hM hI2
  have hbN := bel_alloc w4 (.cells #[.int .i64 u2, .int .i64 v2, .slice ga2 cl2.length gc2, .bool r2] 26)
  have HL' : Hid (Acs (some ⟨lb0, lo0, none⟩) l.length l (w4.alloc (.cells #[.int .i64 u2, .int .i64 v2, .slice ga2 cl2.length gc2, .bool r2] 26))) := HL.out.below hbN
  have HI' : Hid (Ints ga cl.length (atD cl) (w4.alloc (.cells #[.int .i64 u2, .int .i64 v2, .slice ga2 cl2.length gc2, .bool r2] 26))) := HI.out.below hbN
  have HX' : Hid (Box4 (w4.alloc (.cells #[.int .i64 u2, .int .i64 v2, .slice ga2 cl2.length gc2, .bool r2] 26)) X (.int .i64 u) (.int .i64 v) (.slice ga cl.length gc) (.bool r)) := HX.out.below hbN
  have HM' : Hid (Acs ma m.length m (w4.alloc (.cells #[.int .i64 u2, .int .i64 v2, .slice ga2 cl2.length gc2, .bool r2] 26))) := HM.out.below hbN
  have HJ' : Hid (Ints ga2 cl2.length (atD cl2) (w4.alloc (.cells #[.int .i64 u2, .int .i64 v2, .slice ga2 cl2.length gc2, .bool r2] 26))) := HJ.out.below hbN
  have HB' : Hid (Below w.heap.size w (w4.alloc (.cells #[.int .i64 u2, .int .i64 v2, .slice ga2 cl2.length gc2, .bool r2] 26))) := Below.on HB.out hbN
  clear HL HI HX HM HJ HB
  have HL : Hid (Acs (some ⟨lb0, lo0, none⟩) l.length l (w4.alloc (.cells #[.int .i64 u2, .int .i64 v2, .slice ga2 cl2.length gc2, .bool r2] 26))) := HL'
  have HI : Hid (Ints ga cl.length (atD cl) (w4.alloc (.cells #[.int .i64 u2, .int .i64 v2, .slice ga2 cl2.length gc2, .bool r2] 26))) := HI'
  have HX : Hid (Box4 (w4.alloc (.cells #[.int .i64 u2, .int .i64 v2, .slice ga2 cl2.length gc2, .bool r2] 26)) X (.int .i64 u) (.int .i64 v) (.slice ga cl.length gc) (.bool r)) := HX'
  have HM : Hid (Acs ma m.length m (w4.alloc (.cells #[.int .i64 u2, .int .i64 v2, .slice ga2 cl2.length gc2, .bool r2] 26))) := HM'
  have HJ : Hid (Ints ga2 cl2.length (atD cl2) (w4.alloc (.cells #[.int .i64 u2, .int .i64 v2, .slice ga2 cl2.length gc2, .bool r2] 26))) := HJ'
  have HB : Hid (Below w.heap.size w (w4.alloc (.cells #[.int .i64 u2, .int .i64 v2, .slice ga2 cl2.length gc2, .bool r2] 26))) := HB'
  clear HL' HI' HX' HM' HJ' HB'
  have HY : Hid (Box4 (w4.alloc (.cells #[.int .i64 u2, .int .i64 v2, .slice ga2 cl2.length gc2, .bool r2] 26)) w4.heap.size (.int .i64 u2) (.int .i64 v2) (.slice ga2 cl2.length gc2) (.bool r2)) := box4_new w4 _ _ _ _ _
  clear hbN
  go_upto_region 6 with fail
  generalize w4.alloc (.cells #[.int .i64 u2, .int .i64 v2, .slice ga2 cl2.length gc2, .bool r2] 26) = w5 at HL HI HX HM HJ HY HB ⊢
  generalize w4.heap.size = Y at HY ⊢
  go_wp2_with fail
  refine (dDrawAceAdd_any b lb cb g _ (HD.out.up HB.out)).mono ?_
  rintro e w6 ⟨ab, ao, ac, al, at_, x, rfl, hac, hA, hal, hb6⟩
  have HL' : Hid (Acs (some ⟨lb0, lo0, none⟩) l.length l w6) := HL.out.below hb6
  have HI' : Hid (Ints ga cl.length (atD cl) w6) := HI.out.below hb6
  have HX' : Hid (Box4 w6 X (.int .i64 u) (.int .i64 v) (.slice ga cl.length gc) (.bool r)) := HX.out.below hb6
  have HM' : Hid (Acs ma m.length m w6) := HM.out.below hb6
  have HJ' : Hid (Ints ga2 cl2.length (atD cl2) w6) := HJ.out.below hb6
  have HY' : Hid (Box4 w6 Y (.int .i64 u2) (.int .i64 v2) (.slice ga2 cl2.length gc2) (.bool r2)) := HY.out.below hb6
  have HB' : Hid (Below w.heap.size w w6) := Below.on HB.out hb6
  clear HL HI HX HM HJ HY HB
  have HL : Hid (Acs (some ⟨lb0, lo0, none⟩) l.length l w6) := HL'
  have HI : Hid (Ints ga cl.length (atD cl) w6) := HI'
  have HX : Hid (Box4 w6 X (.int .i64 u) (.int .i64 v) (.slice ga cl.length gc) (.bool r)) := HX'
  have HM : Hid (Acs ma m.length m w6) := HM'
  have HJ : Hid (Ints ga2 cl2.length (atD cl2) w6) := HJ'
  have HY : Hid (Box4 w6 Y (.int .i64 u2) (.int .i64 v2) (.slice ga2 cl2.length gc2) (.bool r2)) := HY'
  have HB : Hid (Below w.heap.size w w6) := HB'
  clear HL' HI' HX' HM' HJ' HY' HB'
  have HA : Hid (Acs (some ⟨ab, ao, none⟩) al.length al w6) := hA
  clear hb6 hA
  have hbN := bel_alloc w6 (.cells #[.bool x.al, .int .i64 x.wh, .int .i64 x.id, .int .i64 x.fl, .int .i64 x.ma] 33)
  have HL' : Hid (Acs (some ⟨lb0, lo0, none⟩) l.length l (w6.alloc (.cells #[.bool x.al, .int .i64 x.wh, .int .i64 x.id, .int .i64 x.fl, .int .i64 x.ma] 33))) := HL.out.below hbN
  have HI' : Hid (Ints ga cl.length (atD cl) (w6.alloc (.cells #[.bool x.al, .int .i64 x.wh, .int .i64 x.id, .int .i64 x.fl, .int .i64 x.ma] 33))) := HI.out.below hbN
  have HX' : Hid (Box4 (w6.alloc (.cells #[.bool x.al, .int .i64 x.wh, .int .i64 x.id, .int .i64 x.fl, .int .i64 x.ma] 33)) X (.int .i64 u) (.int .i64 v) (.slice ga cl.length gc) (.bool r)) := HX.out.below hbN
  have HM' : Hid (Acs ma m.length m (w6.alloc (.cells #[.bool x.al, .int .i64 x.wh, .int .i64 x.id, .int .i64 x.fl, .int .i64 x.ma] 33))) := HM.out.below hbN
  have HJ' : Hid (Ints ga2 cl2.length (atD cl2) (w6.alloc (.cells #[.bool x.al, .int .i64 x.wh, .int .i64 x.id, .int .i64 x.fl, .int .i64 x.ma] 33))) := HJ.out.below hbN
  have HY' : Hid (Box4 (w6.alloc (.cells #[.bool x.al, .int .i64 x.wh, .int .i64 x.id, .int .i64 x.fl, .int .i64 x.ma] 33)) Y (.int .i64 u2) (.int .i64 v2) (.slice ga2 cl2.length gc2) (.bool r2)) := HY.out.below hbN
  have HA' : Hid (Acs (some ⟨ab, ao, none⟩) al.length al (w6.alloc (.cells #[.bool x.al, .int .i64 x.wh, .int .i64 x.id, .int .i64 x.fl, .int .i64 x.ma] 33))) := HA.out.below hbN
  have HB' : Hid (Below w.heap.size w (w6.alloc (.cells #[.bool x.al, .int .i64 x.wh, .int .i64 x.id, .int .i64 x.fl, .int .i64 x.ma] 33))) := Below.on HB.out hbN
  clear HL HI HX HM HJ HY HA HB
  have HL : Hid (Acs (some ⟨lb0, lo0, none⟩) l.length l (w6.alloc (.cells #[.bool x.al, .int .i64 x.wh, .int .i64 x.id, .int .i64 x.fl, .int .i64 x.ma] 33))) := HL'
  have HI : Hid (Ints ga cl.length (atD cl) (w6.alloc (.cells #[.bool x.al, .int .i64 x.wh, .int .i64 x.id, .int .i64 x.fl, .int .i64 x.ma] 33))) := HI'
  have HX : Hid (Box4 (w6.alloc (.cells #[.bool x.al, .int .i64 x.wh, .int .i64 x.id, .int .i64 x.fl, .int .i64 x.ma] 33)) X (.int .i64 u) (.int .i64 v) (.slice ga cl.length gc) (.bool r)) := HX'
  have HM : Hid (Acs ma m.length m (w6.alloc (.cells #[.bool x.al, .int .i64 x.wh, .int .i64 x.id, .int .i64 x.fl, .int .i64 x.ma] 33))) := HM'
  have HJ : Hid (Ints ga2 cl2.length (atD cl2) (w6.alloc (.cells #[.bool x.al, .int .i64 x.wh, .int .i64 x.id, .int .i64 x.fl, .int .i64 x.ma] 33))) := HJ'
  have HY : Hid (Box4 (w6.alloc (.cells #[.bool x.al, .int .i64 x.wh, .int .i64 x.id, .int .i64 x.fl, .int .i64 x.ma] 33)) Y (.int .i64 u2) (.int .i64 v2) (.slice ga2 cl2.length gc2) (.bool r2)) := HY'
  have HA : Hid (Acs (some ⟨ab, ao, none⟩) al.length al (w6.alloc (.cells #[.bool x.al, .int .i64 x.wh, .int .i64 x.id, .int .i64 x.fl, .int .i64 x.ma] 33))) := HA'
  have HB : Hid (Below w.heap.size w (w6.alloc (.cells #[.bool x.al, .int .i64 x.wh, .int .i64 x.id, .int .i64 x.fl, .int .i64 x.ma] 33))) := HB'
  clear HL' HI' HX' HM' HJ' HY' HA' HB'
  have HZ : Hid (Fr5 (w6.alloc (.cells #[.bool x.al, .int .i64 x.wh, .int .i64 x.id, .int .i64 x.fl, .int .i64 x.ma] 33)) w6.heap.size x) := fr5_new w6 _ _
  clear hbN
  go_upto_region 7 with fail
  generalize w6.alloc (.cells #[.bool x.al, .int .i64 x.wh, .int .i64 x.id, .int .i64 x.fl, .int .i64 x.ma] 33) = w7 at HL HI HX HM HJ HY HA HZ HB ⊢
  generalize w6.heap.size = Z at HZ ⊢
  obtain ⟨q0, q1, q2, q3, q4⟩ := HZ.out.f
  simp only [Nat.zero_add] at q1 q2 q3 q4
  go_wp2_with fail
  refine (iAceAdd_cap ab ao _ ac al at_ x hac (by omega) _ HA.out).mono ?_
  rintro e w8 ⟨ya, yc, rfl, hN, hyc⟩
  have hyl := addP_len al at_ x
  clear q0 q1 q2 q3 q4
  have HL' : Hid (Acs (some ⟨lb0, lo0, none⟩) l.length l w8) := HL.out.below hN.bel
  have HI' : Hid (Ints ga cl.length (atD cl) w8) := HI.out.below hN.bel
  have HX' : Hid (Box4 w8 X (.int .i64 u) (.int .i64 v) (.slice ga cl.length gc) (.bool r)) := HX.out.below hN.bel
  have HM' : Hid (Acs ma m.length m w8) := HM.out.below hN.bel
  have HJ' : Hid (Ints ga2 cl2.length (atD cl2) w8) := HJ.out.below hN.bel
  have HY' : Hid (Box4 w8 Y (.int .i64 u2) (.int .i64 v2) (.slice ga2 cl2.length gc2) (.bool r2)) := HY.out.below hN.bel
  have HA' : Hid (Acs (some ⟨ab, ao, none⟩) al.length al w8) := HA.out.below hN.bel
  have HZ' : Hid (Fr5 w8 Z x) := HZ.out.below hN.bel
  have HB' : Hid (Below w.heap.size w w8) := Below.on HB.out hN.bel
  clear HL HI HX HM HJ HY HA HZ HB
  have HL : Hid (Acs (some ⟨lb0, lo0, none⟩) l.length l w8) := HL'
  have HI : Hid (Ints ga cl.length (atD cl) w8) := HI'
  have HX : Hid (Box4 w8 X (.int .i64 u) (.int .i64 v) (.slice ga cl.length gc) (.bool r)) := HX'
  have HM : Hid (Acs ma m.length m w8) := HM'
  have HJ : Hid (Ints ga2 cl2.length (atD cl2) w8) := HJ'
  have HY : Hid (Box4 w8 Y (.int .i64 u2) (.int .i64 v2) (.slice ga2 cl2.length gc2) (.bool r2)) := HY'
  have HA : Hid (Acs (some ⟨ab, ao, none⟩) al.length al w8) := HA'
  have HZ : Hid (Fr5 w8 Z x) := HZ'
  have HB : Hid (Below w.heap.size w w8) := HB'
  clear HL' HI' HX' HM' HJ' HY' HA' HZ' HB'
  have HYL : Hid (Acs ya (addP al at_ x).1.length (addP al at_ x).1 w8) := hN.own.acs
  clear hN
  have hbN := bel_alloc w8 (.cells #[.slice ya (addP al at_ x).1.length yc, .int .i64 (addP al at_ x).2] 37)
  have HL' : Hid (Acs (some ⟨lb0, lo0, none⟩) l.length l (w8.alloc (.cells #[.slice ya (addP al at_ x).1.length yc, .int .i64 (addP al at_ x).2] 37))) := HL.out.below hbN
  have HI' : Hid (Ints ga cl.length (atD cl) (w8.alloc (.cells #[.slice ya (addP al at_ x).1.length yc, .int .i64 (addP al at_ x).2] 37))) := HI.out.below hbN
  have HX' : Hid (Box4 (w8.alloc (.cells #[.slice ya (addP al at_ x).1.length yc, .int .i64 (addP al at_ x).2] 37)) X (.int .i64 u) (.int .i64 v) (.slice ga cl.length gc) (.bool r)) := HX.out.below hbN
  have HM' : Hid (Acs ma m.length m (w8.alloc (.cells #[.slice ya (addP al at_ x).1.length yc, .int .i64 (addP al at_ x).2] 37))) := HM.out.below hbN
  have HJ' : Hid (Ints ga2 cl2.length (atD cl2) (w8.alloc (.cells #[.slice ya (addP al at_ x).1.length yc, .int .i64 (addP al at_ x).2] 37))) := HJ.out.below hbN
  have HY' : Hid (Box4 (w8.alloc (.cells #[.slice ya (addP al at_ x).1.length yc, .int .i64 (addP al at_ x).2] 37)) Y (.int .i64 u2) (.int .i64 v2) (.slice ga2 cl2.length gc2) (.bool r2)) := HY.out.below hbN
  have HA' : Hid (Acs (some ⟨ab, ao, none⟩) al.length al (w8.alloc (.cells #[.slice ya (addP al at_ x).1.length yc, .int .i64 (addP al at_ x).2] 37))) := HA.out.below hbN
  have HZ' : Hid (Fr5 (w8.alloc (.cells #[.slice ya (addP al at_ x).1.length yc, .int .i64 (addP al at_ x).2] 37)) Z x) := HZ.out.below hbN
  have HYL' : Hid (Acs ya (addP al at_ x).1.length (addP al at_ x).1 (w8.alloc (.cells #[.slice ya (addP al at_ x).1.length yc, .int .i64 (addP al at_ x).2] 37))) := HYL.out.below hbN
  have HB' : Hid (Below w.heap.size w (w8.alloc (.cells #[.slice ya (addP al at_ x).1.length yc, .int .i64 (addP al at_ x).2] 37))) := Below.on HB.out hbN
  clear HL HI HX HM HJ HY HA HZ HYL HB
  have HL : Hid (Acs (some ⟨lb0, lo0, none⟩) l.length l (w8.alloc (.cells #[.slice ya (addP al at_ x).1.length yc, .int .i64 (addP al at_ x).2] 37))) := HL'
  have HI : Hid (Ints ga cl.length (atD cl) (w8.alloc (.cells #[.slice ya (addP al at_ x).1.length yc, .int .i64 (addP al at_ x).2] 37))) := HI'
  have HX : Hid (Box4 (w8.alloc (.cells #[.slice ya (addP al at_ x).1.length yc, .int .i64 (addP al at_ x).2] 37)) X (.int .i64 u) (.int .i64 v) (.slice ga cl.length gc) (.bool r)) := HX'
  have HM : Hid (Acs ma m.length m (w8.alloc (.cells #[.slice ya (addP al at_ x).1.length yc, .int .i64 (addP al at_ x).2] 37))) := HM'
  have HJ : Hid (Ints ga2 cl2.length (atD cl2) (w8.alloc (.cells #[.slice ya (addP al at_ x).1.length yc, .int .i64 (addP al at_ x).2] 37))) := HJ'
  have HY : Hid (Box4 (w8.alloc (.cells #[.slice ya (addP al at_ x).1.length yc, .int .i64 (addP al at_ x).2] 37)) Y (.int .i64 u2) (.int .i64 v2) (.slice ga2 cl2.length gc2) (.bool r2)) := HY'
  have HA : Hid (Acs (some ⟨ab, ao, none⟩) al.length al (w8.alloc (.cells #[.slice ya (addP al at_ x).1.length yc, .int .i64 (addP al at_ x).2] 37))) := HA'
  have HZ : Hid (Fr5 (w8.alloc (.cells #[.slice ya (addP al at_ x).1.length yc, .int .i64 (addP al at_ x).2] 37)) Z x) := HZ'
  have HYL : Hid (Acs ya (addP al at_ x).1.length (addP al at_ x).1 (w8.alloc (.cells #[.slice ya (addP al at_ x).1.length yc, .int .i64 (addP al at_ x).2] 37))) := HYL'
  have HB : Hid (Below w.heap.size w (w8.alloc (.cells #[.slice ya (addP al at_ x).1.length yc, .int .i64 (addP al at_ x).2] 37))) := HB'
  clear HL' HI' HX' HM' HJ' HY' HA' HZ' HYL' HB'
  have HV : Hid (Box2 (w8.alloc (.cells #[.slice ya (addP al at_ x).1.length yc, .int .i64 (addP al at_ x).2] 37)) w8.heap.size (.slice ya (addP al at_ x).1.length yc) (.int .i64 (addP al at_ x).2)) := box2_new w8 _ _ _
  clear hbN
  go_upto_region 8 with fail
  generalize w8.alloc (.cells #[.slice ya (addP al at_ x).1.length yc, .int .i64 (addP al at_ x).2] 37) = w9 at HL HI HX HM HJ HY HA HZ HYL HV HB ⊢
  generalize w8.heap.size = V at HV ⊢
  go_wp2_with fail
  refine (dDrawAceDrop_any a la ca f _ (HC.out.up HB.out)).mono ?_
  rintro e w10 ⟨ea, ec, el, gone, rfl, hec, hE, hel, hb10⟩
  have HL' : Hid (Acs (some ⟨lb0, lo0, none⟩) l.length l w10) := HL.out.below hb10
  have HI' : Hid (Ints ga cl.length (atD cl) w10) := HI.out.below hb10
  have HX' : Hid (Box4 w10 X (.int .i64 u) (.int .i64 v) (.slice ga cl.length gc) (.bool r)) := HX.out.below hb10
  have HM' : Hid (Acs ma m.length m w10) := HM.out.below hb10
  have HJ' : Hid (Ints ga2 cl2.length (atD cl2) w10) := HJ.out.below hb10
  have HY' : Hid (Box4 w10 Y (.int .i64 u2) (.int .i64 v2) (.slice ga2 cl2.length gc2) (.bool r2)) := HY.out.below hb10
  have HA' : Hid (Acs (some ⟨ab, ao, none⟩) al.length al w10) := HA.out.below hb10
  have HZ' : Hid (Fr5 w10 Z x) := HZ.out.below hb10
  have HYL' : Hid (Acs ya (addP al at_ x).1.length (addP al at_ x).1 w10) := HYL.out.below hb10
  have HV' : Hid (Box2 w10 V (.slice ya (addP al at_ x).1.length yc) (.int .i64 (addP al at_ x).2)) := HV.out.below hb10
  have HB' : Hid (Below w.heap.size w w10) := Below.on HB.out hb10
  clear HL HI HX HM HJ HY HA HZ HYL HV HB
  have HL : Hid (Acs (some ⟨lb0, lo0, none⟩) l.length l w10) := HL'
  have HI : Hid (Ints ga cl.length (atD cl) w10) := HI'
  have HX : Hid (Box4 w10 X (.int .i64 u) (.int .i64 v) (.slice ga cl.length gc) (.bool r)) := HX'
  have HM : Hid (Acs ma m.length m w10) := HM'
  have HJ : Hid (Ints ga2 cl2.length (atD cl2) w10) := HJ'
  have HY : Hid (Box4 w10 Y (.int .i64 u2) (.int .i64 v2) (.slice ga2 cl2.length gc2) (.bool r2)) := HY'
  have HA : Hid (Acs (some ⟨ab, ao, none⟩) al.length al w10) := HA'
  have HZ : Hid (Fr5 w10 Z x) := HZ'
  have HYL : Hid (Acs ya (addP al at_ x).1.length (addP al at_ x).1 w10) := HYL'
  have HV : Hid (Box2 w10 V (.slice ya (addP al at_ x).1.length yc) (.int .i64 (addP al at_ x).2)) := HV'
  have HB : Hid (Below w.heap.size w w10) := HB'
  clear HL' HI' HX' HM' HJ' HY' HA' HZ' HYL' HV' HB'
  have HE : Hid (Acs ea el.length el w10) := hE
  clear hb10 hE
  go_wp2_with fail
  refine (dDrawAceRight_any b lb cb g _ (HD.out.up HB.out)).mono ?_
  rintro e w11 ⟨rr, rfl, hb11⟩
  have HL' : Hid (Acs (some ⟨lb0, lo0, none⟩) l.length l w11) := HL.out.below hb11
  have HI' : Hid (Ints ga cl.length (atD cl) w11) := HI.out.below hb11
  have HX' : Hid (Box4 w11 X (.int .i64 u) (.int .i64 v) (.slice ga cl.length gc) (.bool r)) := HX.out.below hb11
  have HM' : Hid (Acs ma m.length m w11) := HM.out.below hb11
  have HJ' : Hid (Ints ga2 cl2.length (atD cl2) w11) := HJ.out.below hb11
  have HY' : Hid (Box4 w11 Y (.int .i64 u2) (.int .i64 v2) (.slice ga2 cl2.length gc2) (.bool r2)) := HY.out.below hb11
  have HA' : Hid (Acs (some ⟨ab, ao, none⟩) al.length al w11) := HA.out.below hb11
  have HZ' : Hid (Fr5 w11 Z x) := HZ.out.below hb11
  have HYL' : Hid (Acs ya (addP al at_ x).1.length (addP al at_ x).1 w11) := HYL.out.below hb11
  have HV' : Hid (Box2 w11 V (.slice ya (addP al at_ x).1.length yc) (.int .i64 (addP al at_ x).2)) := HV.out.below hb11
  have HE' : Hid (Acs ea el.length el w11) := HE.out.below hb11
  have HB' : Hid (Below w.heap.size w w11) := Below.on HB.out hb11
  clear HL HI HX HM HJ HY HA HZ HYL HV HE HB
  have HL : Hid (Acs (some ⟨lb0, lo0, none⟩) l.length l w11) := HL'
  have HI : Hid (Ints ga cl.length (atD cl) w11) := HI'
  have HX : Hid (Box4 w11 X (.int .i64 u) (.int .i64 v) (.slice ga cl.length gc) (.bool r)) := HX'
  have HM : Hid (Acs ma m.length m w11) := HM'
  have HJ : Hid (Ints ga2 cl2.length (atD cl2) w11) := HJ'
  have HY : Hid (Box4 w11 Y (.int .i64 u2) (.int .i64 v2) (.slice ga2 cl2.length gc2) (.bool r2)) := HY'
  have HA : Hid (Acs (some ⟨ab, ao, none⟩) al.length al w11) := HA'
  have HZ : Hid (Fr5 w11 Z x) := HZ'
  have HYL : Hid (Acs ya (addP al at_ x).1.length (addP al at_ x).1 w11) := HYL'
  have HV : Hid (Box2 w11 V (.slice ya (addP al at_ x).1.length yc) (.int .i64 (addP al at_ x).2)) := HV'
  have HE : Hid (Acs ea el.length el w11) := HE'
  have HB : Hid (Below w.heap.size w w11) := HB'
  clear HL' HI' HX' HM' HJ' HY' HA' HZ' HYL' HV' HE' HB'
  clear hb11
  have hbN := bel_alloc w11 (.cells #[.bool rr.al, .int .i64 rr.wh, .int .i64 rr.id, .int .i64 rr.fl, .int .i64 rr.ma] 33)
  have HL' : Hid (Acs (some ⟨lb0, lo0, none⟩) l.length l (w11.alloc (.cells #[.bool rr.al, .int .i64 rr.wh, .int .i64 rr.id, .int .i64 rr.fl, .int .i64 rr.ma] 33))) := HL.out.below hbN
  have HI' : Hid (Ints ga cl.length (atD cl) (w11.alloc (.cells #[.bool rr.al, .int .i64 rr.wh, .int .i64 rr.id, .int .i64 rr.fl, .int .i64 rr.ma] 33))) := HI.out.below hbN
  have HX' : Hid (Box4 (w11.alloc (.cells #[.bool rr.al, .int .i64 rr.wh, .int .i64 rr.id, .int .i64 rr.fl, .int .i64 rr.ma] 33)) X (.int .i64 u) (.int .i64 v) (.slice ga cl.length gc) (.bool r)) := HX.out.below hbN
  have HM' : Hid (Acs ma m.length m (w11.alloc (.cells #[.bool rr.al, .int .i64 rr.wh, .int .i64 rr.id, .int .i64 rr.fl, .int .i64 rr.ma] 33))) := HM.out.below hbN
  have HJ' : Hid (Ints ga2 cl2.length (atD cl2) (w11.alloc (.cells #[.bool rr.al, .int .i64 rr.wh, .int .i64 rr.id, .int .i64 rr.fl, .int .i64 rr.ma] 33))) := HJ.out.below hbN
  have HY' : Hid (Box4 (w11.alloc (.cells #[.bool rr.al, .int .i64 rr.wh, .int .i64 rr.id, .int .i64 rr.fl, .int .i64 rr.ma] 33)) Y (.int .i64 u2) (.int .i64 v2) (.slice ga2 cl2.length gc2) (.bool r2)) := HY.out.below hbN
  have HA' : Hid (Acs (some ⟨ab, ao, none⟩) al.length al (w11.alloc (.cells #[.bool rr.al, .int .i64 rr.wh, .int .i64 rr.id, .int .i64 rr.fl, .int .i64 rr.ma] 33))) := HA.out.below hbN
  have HZ' : Hid (Fr5 (w11.alloc (.cells #[.bool rr.al, .int .i64 rr.wh, .int .i64 rr.id, .int .i64 rr.fl, .int .i64 rr.ma] 33)) Z x) := HZ.out.below hbN
  have HYL' : Hid (Acs ya (addP al at_ x).1.length (addP al at_ x).1 (w11.alloc (.cells #[.bool rr.al, .int .i64 rr.wh, .int .i64 rr.id, .int .i64 rr.fl, .int .i64 rr.ma] 33))) := HYL.out.below hbN
  have HV' : Hid (Box2 (w11.alloc (.cells #[.bool rr.al, .int .i64 rr.wh, .int .i64 rr.id, .int .i64 rr.fl, .int .i64 rr.ma] 33)) V (.slice ya (addP al at_ x).1.length yc) (.int .i64 (addP al at_ x).2)) := HV.out.below hbN
  have HE' : Hid (Acs ea el.length el (w11.alloc (.cells #[.bool rr.al, .int .i64 rr.wh, .int .i64 rr.id, .int .i64 rr.fl, .int .i64 rr.ma] 33))) := HE.out.below hbN
  have HB' : Hid (Below w.heap.size w (w11.alloc (.cells #[.bool rr.al, .int .i64 rr.wh, .int .i64 rr.id, .int .i64 rr.fl, .int .i64 rr.ma] 33))) := Below.on HB.out hbN
  clear HL HI HX HM HJ HY HA HZ HYL HV HE HB
  have HL : Hid (Acs (some ⟨lb0, lo0, none⟩) l.length l (w11.alloc (.cells #[.bool rr.al, .int .i64 rr.wh, .int .i64 rr.id, .int .i64 rr.fl, .int .i64 rr.ma] 33))) := HL'
  have HI : Hid (Ints ga cl.length (atD cl) (w11.alloc (.cells #[.bool rr.al, .int .i64 rr.wh, .int .i64 rr.id, .int .i64 rr.fl, .int .i64 rr.ma] 33))) := HI'
  have HX : Hid (Box4 (w11.alloc (.cells #[.bool rr.al, .int .i64 rr.wh, .int .i64 rr.id, .int .i64 rr.fl, .int .i64 rr.ma] 33)) X (.int .i64 u) (.int .i64 v) (.slice ga cl.length gc) (.bool r)) := HX'
  have HM : Hid (Acs ma m.length m (w11.alloc (.cells #[.bool rr.al, .int .i64 rr.wh, .int .i64 rr.id, .int .i64 rr.fl, .int .i64 rr.ma] 33))) := HM'
  have HJ : Hid (Ints ga2 cl2.length (atD cl2) (w11.alloc (.cells #[.bool rr.al, .int .i64 rr.wh, .int .i64 rr.id, .int .i64 rr.fl, .int .i64 rr.ma] 33))) := HJ'
  have HY : Hid (Box4 (w11.alloc (.cells #[.bool rr.al, .int .i64 rr.wh, .int .i64 rr.id, .int .i64 rr.fl, .int .i64 rr.ma] 33)) Y (.int .i64 u2) (.int .i64 v2) (.slice ga2 cl2.length gc2) (.bool r2)) := HY'
  have HA : Hid (Acs (some ⟨ab, ao, none⟩) al.length al (w11.alloc (.cells #[.bool rr.al, .int .i64 rr.wh, .int .i64 rr.id, .int .i64 rr.fl, .int .i64 rr.ma] 33))) := HA'
  have HZ : Hid (Fr5 (w11.alloc (.cells #[.bool rr.al, .int .i64 rr.wh, .int .i64 rr.id, .int .i64 rr.fl, .int .i64 rr.ma] 33)) Z x) := HZ'
  have HYL : Hid (Acs ya (addP al at_ x).1.length (addP al at_ x).1 (w11.alloc (.cells #[.bool rr.al, .int .i64 rr.wh, .int .i64 rr.id, .int .i64 rr.fl, .int .i64 rr.ma] 33))) := HYL'
  have HV : Hid (Box2 (w11.alloc (.cells #[.bool rr.al, .int .i64 rr.wh, .int .i64 rr.id, .int .i64 rr.fl, .int .i64 rr.ma] 33)) V (.slice ya (addP al at_ x).1.length yc) (.int .i64 (addP al at_ x).2)) := HV'
  have HE : Hid (Acs ea el.length el (w11.alloc (.cells #[.bool rr.al, .int .i64 rr.wh, .int .i64 rr.id, .int .i64 rr.fl, .int .i64 rr.ma] 33))) := HE'
  have HB : Hid (Below w.heap.size w (w11.alloc (.cells #[.bool rr.al, .int .i64 rr.wh, .int .i64 rr.id, .int .i64 rr.fl, .int .i64 rr.ma] 33))) := HB'
  clear HL' HI' HX' HM' HJ' HY' HA' HZ' HYL' HV' HE' HB'
  have HR : Hid (Fr5 (w11.alloc (.cells #[.bool rr.al, .int .i64 rr.wh, .int .i64 rr.id, .int .i64 rr.fl, .int .i64 rr.ma] 33)) w11.heap.size rr) := fr5_new w11 _ _
  clear hbN
  go_upto_region 10 with fail
  generalize w11.alloc (.cells #[.bool rr.al, .int .i64 rr.wh, .int .i64 rr.id, .int .i64 rr.fl, .int .i64 rr.ma] 33) = w12 at HL HI HX HM HJ HY HA HZ HYL HV HE HR HB ⊢
  generalize w11.heap.size = R at HR ⊢
  go_wp2_with fail
  refine (dDrawNfsBits_any a la ca f _ (HC.out.up HB.out)).mono ?_
  rintro e w13 ⟨bb, rfl, bb0, bb1, hb13⟩
  have HL' : Hid (Acs (some ⟨lb0, lo0, none⟩) l.length l w13) := HL.out.below hb13
  have HI' : Hid (Ints ga cl.length (atD cl) w13) := HI.out.below hb13
  have HX' : Hid (Box4 w13 X (.int .i64 u) (.int .i64 v) (.slice ga cl.length gc) (.bool r)) := HX.out.below hb13
  have HM' : Hid (Acs ma m.length m w13) := HM.out.below hb13
  have HJ' : Hid (Ints ga2 cl2.length (atD cl2) w13) := HJ.out.below hb13
  have HY' : Hid (Box4 w13 Y (.int .i64 u2) (.int .i64 v2) (.slice ga2 cl2.length gc2) (.bool r2)) := HY.out.below hb13
  have HA' : Hid (Acs (some ⟨ab, ao, none⟩) al.length al w13) := HA.out.below hb13
  have HZ' : Hid (Fr5 w13 Z x) := HZ.out.below hb13
  have HYL' : Hid (Acs ya (addP al at_ x).1.length (addP al at_ x).1 w13) := HYL.out.below hb13
  have HV' : Hid (Box2 w13 V (.slice ya (addP al at_ x).1.length yc) (.int .i64 (addP al at_ x).2)) := HV.out.below hb13
  have HE' : Hid (Acs ea el.length el w13) := HE.out.below hb13
  have HR' : Hid (Fr5 w13 R rr) := HR.out.below hb13
  have HB' : Hid (Below w.heap.size w w13) := Below.on HB.out hb13
  clear HL HI HX HM HJ HY HA HZ HYL HV HE HR HB
  have HL : Hid (Acs (some ⟨lb0, lo0, none⟩) l.length l w13) := HL'
  have HI : Hid (Ints ga cl.length (atD cl) w13) := HI'
  have HX : Hid (Box4 w13 X (.int .i64 u) (.int .i64 v) (.slice ga cl.length gc) (.bool r)) := HX'
  have HM : Hid (Acs ma m.length m w13) := HM'
  have HJ : Hid (Ints ga2 cl2.length (atD cl2) w13) := HJ'
  have HY : Hid (Box4 w13 Y (.int .i64 u2) (.int .i64 v2) (.slice ga2 cl2.length gc2) (.bool r2)) := HY'
  have HA : Hid (Acs (some ⟨ab, ao, none⟩) al.length al w13) := HA'
  have HZ : Hid (Fr5 w13 Z x) := HZ'
  have HYL : Hid (Acs ya (addP al at_ x).1.length (addP al at_ x).1 w13) := HYL'
  have HV : Hid (Box2 w13 V (.slice ya (addP al at_ x).1.length yc) (.int .i64 (addP al at_ x).2)) := HV'
  have HE : Hid (Acs ea el.length el w13) := HE'
  have HR : Hid (Fr5 w13 R rr) := HR'
  have HB : Hid (Below w.heap.size w w13) := HB'
  clear HL' HI' HX' HM' HJ' HY' HA' HZ' HYL' HV' HE' HR' HB'
  clear hb13
  go_wp2_with fail
  refine (dDrawNfsRwx_any b lb cb g _ (HD.out.up HB.out)).mono ?_
  rintro e w14 ⟨nn, rfl, hb14⟩
  have HL' : Hid (Acs (some ⟨lb0, lo0, none⟩) l.length l w14) := HL.out.below hb14
  have HI' : Hid (Ints ga cl.length (atD cl) w14) := HI.out.below hb14
  have HX' : Hid (Box4 w14 X (.int .i64 u) (.int .i64 v) (.slice ga cl.length gc) (.bool r)) := HX.out.below hb14
  have HM' : Hid (Acs ma m.length m w14) := HM.out.below hb14
  have HJ' : Hid (Ints ga2 cl2.length (atD cl2) w14) := HJ.out.below hb14
  have HY' : Hid (Box4 w14 Y (.int .i64 u2) (.int .i64 v2) (.slice ga2 cl2.length gc2) (.bool r2)) := HY.out.below hb14
  have HA' : Hid (Acs (some ⟨ab, ao, none⟩) al.length al w14) := HA.out.below hb14
  have HZ' : Hid (Fr5 w14 Z x) := HZ.out.below hb14
  have HYL' : Hid (Acs ya (addP al at_ x).1.length (addP al at_ x).1 w14) := HYL.out.below hb14
  have HV' : Hid (Box2 w14 V (.slice ya (addP al at_ x).1.length yc) (.int .i64 (addP al at_ x).2)) := HV.out.below hb14
  have HE' : Hid (Acs ea el.length el w14) := HE.out.below hb14
  have HR' : Hid (Fr5 w14 R rr) := HR.out.below hb14
  have HB' : Hid (Below w.heap.size w w14) := Below.on HB.out hb14
  clear HL HI HX HM HJ HY HA HZ HYL HV HE HR HB
  have HL : Hid (Acs (some ⟨lb0, lo0, none⟩) l.length l w14) := HL'
  have HI : Hid (Ints ga cl.length (atD cl) w14) := HI'
  have HX : Hid (Box4 w14 X (.int .i64 u) (.int .i64 v) (.slice ga cl.length gc) (.bool r)) := HX'
  have HM : Hid (Acs ma m.length m w14) := HM'
  have HJ : Hid (Ints ga2 cl2.length (atD cl2) w14) := HJ'
  have HY : Hid (Box4 w14 Y (.int .i64 u2) (.int .i64 v2) (.slice ga2 cl2.length gc2) (.bool r2)) := HY'
  have HA : Hid (Acs (some ⟨ab, ao, none⟩) al.length al w14) := HA'
  have HZ : Hid (Fr5 w14 Z x) := HZ'
  have HYL : Hid (Acs ya (addP al at_ x).1.length (addP al at_ x).1 w14) := HYL'
  have HV : Hid (Box2 w14 V (.slice ya (addP al at_ x).1.length yc) (.int .i64 (addP al at_ x).2)) := HV'
  have HE : Hid (Acs ea el.length el w14) := HE'
  have HR : Hid (Fr5 w14 R rr) := HR'
  have HB : Hid (Below w.heap.size w w14) := HB'
  clear HL' HI' HX' HM' HJ' HY' HA' HZ' HYL' HV' HE' HR' HB'
  clear hb14 HC
  have C1 : Hid (∀  w', Below w14.heap.size w14 w' → Calls Tryd.prog 14 #[.slice (some ⟨lb0, lo0, none⟩) l.length lc, .int .i64 ow, .int .i64 gr, .agg #[.int .i64 u, .int .i64 v, .slice ga cl.length gc, .bool r]] w' fun e w'' => e = .returned (.int .i64 gv) ∧ Below w'.heap.size w' w'') := (fun  w' hb => by rw [HGV.out]; exact sNfsGives_any _ _ lc l ow gr u v ga cl.length gc r (atD cl) (by omega) w' (HL.out.below hb) (HI.out.below hb))
  have C2 : Hid (∀  w', Below w14.heap.size w14 w' → Calls Tryd.prog 15 #[.slice ma m.length mc, .int .i64 ow2, .int .i64 gr2, .agg #[.int .i64 u2, .int .i64 v2, .slice ga2 cl2.length gc2, .bool r2], .int .i64 z] w' fun e w'' => e = .returned (.bool (nfsMayB m ow2 gr2 u2 v2 cl2.length (atD cl2) z)) ∧ Below w'.heap.size w' w'') := (fun  w' hb => iNfsMay_any ma _ mc m ow2 gr2 u2 v2 ga2 cl2.length gc2 r2 (atD cl2) z w' (HM.out.below hb) (HJ.out.below hb))
  have C3 : Hid (∀  w', Below w14.heap.size w14 w' → Calls Tryd.prog 16 #[.slice ma m.length mc, .int .i64 ow2, .int .i64 gr2, .agg #[.int .i64 u2, .int .i64 v2, .slice ga2 cl2.length gc2, .bool r2], .int .i64 z] w' fun e w'' => e = .returned (.bool (nfsMayB m ow2 gr2 u2 v2 cl2.length (atD cl2) z)) ∧ Below w'.heap.size w' w'') := (fun  w' hb => sNfsMay_any ma _ mc m ow2 gr2 u2 v2 ga2 cl2.length gc2 r2 (atD cl2) z (by omega) w' (HM.out.below hb) (HJ.out.below hb))
  have C4 : Hid (∀ w', Below w14.heap.size w14 w' → Calls Tryd.prog 18 #[.slice (some ⟨ab, ao, none⟩) al.length ac, .int .i64 at_, .agg #[.bool x.al, .int .i64 x.wh, .int .i64 x.id, .int .i64 x.fl, .int .i64 x.ma]] w' fun e w'' => ∃ p c, e = .returned (.agg #[.slice p (addP al at_ x).1.length c, .int .i64 (addP al at_ x).2]) ∧ Acs p (addP al at_ x).1.length (addP al at_ x).1 w'' ∧ Below w'.heap.size w' w'') := (fun w' hb => (sAceAdd_any ab ao _ ac al at_ x hac (by omega) w' (HA.out.below hb)).mono (fun e w'' ⟨p, c, he, hN⟩ => ⟨p, c, he, hN.own.acs, hN.bel⟩))
  have C5 : Hid (∀ (p : Option Addr) (c : Nat) w', Acs p (addP al at_ x).1.length (addP al at_ x).1 w' → Below w14.heap.size w14 w' → Calls Tryd.prog 17 #[.agg #[.slice ya (addP al at_ x).1.length yc, .int .i64 (addP al at_ x).2], .agg #[.slice p (addP al at_ x).1.length c, .int .i64 (addP al at_ x).2]] w' fun e w'' => e = .returned (.bool true) ∧ Below w'.heap.size w' w'') := (fun p c w' hs hb => lwNfs_any ya p _ yc c _ (addP al at_ x).1 (by omega) add_right w' (HYL.out.below hb) hs)
  have C6 : Hid (∀ w', Below w14.heap.size w14 w' → Calls Tryd.prog 19 #[.slice ea el.length ec, .int .i64 gone] w' fun e w'' => ∃ p c, e = .returned (.agg #[.slice p (dropP el gone).1.length c, .int .i64 (dropP el gone).2]) ∧ Acs p (dropP el gone).1.length (dropP el gone).1 w'' ∧ Below w'.heap.size w' w'') := (fun w' hb => (iAceDrop_any ea _ ec el gone hec (by omega) w' (HE.out.below hb)).mono (fun e w'' ⟨p, c, he, hN⟩ => ⟨p, c, he, hN.own.acs, hN.bel⟩))
  have C7 : Hid (∀ w', Below w14.heap.size w14 w' → Calls Tryd.prog 20 #[.slice ea el.length ec, .int .i64 gone] w' fun e w'' => ∃ p c, e = .returned (.agg #[.slice p (dropP el gone).1.length c, .int .i64 (dropP el gone).2]) ∧ Acs p (dropP el gone).1.length (dropP el gone).1 w'' ∧ Below w'.heap.size w' w'') := (fun w' hb => (sAceDrop_any ea _ ec el gone hec (by omega) w' (HE.out.below hb)).mono (fun e w'' ⟨p, c, he, hN⟩ => ⟨p, c, he, hN.own.acs, hN.bel⟩))
  have hdl := dropP_len el gone
  have C8 : Hid (∀ (p : Option Addr) (c : Nat) (q : Option Addr) (d : Nat) w', Acs p (dropP el gone).1.length (dropP el gone).1 w' → Acs q (dropP el gone).1.length (dropP el gone).1 w' → Calls Tryd.prog 17 #[.agg #[.slice p (dropP el gone).1.length c, .int .i64 (dropP el gone).2], .agg #[.slice q (dropP el gone).1.length d, .int .i64 (dropP el gone).2]] w' fun e w'' => e = .returned (.bool true) ∧ Below w'.heap.size w' w'') := (fun p c q d w' h1 h2 => lwNfs_any p q _ c d _ (dropP el gone).1 (by omega) drop_right w' h1 h2)
  have C9 : Hid (∀  w', Below w14.heap.size w14 w' → Calls Tryd.prog 21 #[.agg #[.bool rr.al, .int .i64 rr.wh, .int .i64 rr.id, .int .i64 rr.fl, .int .i64 rr.ma]] w' fun e w'' => e = .returned (.bool (aceB rr)) ∧ Below w'.heap.size w' w'') := (fun  w' hb => iAceRight_any rr w')
  have C10 : Hid (∀  w', Below w14.heap.size w14 w' → Calls Tryd.prog 22 #[.agg #[.bool rr.al, .int .i64 rr.wh, .int .i64 rr.id, .int .i64 rr.fl, .int .i64 rr.ma]] w' fun e w'' => e = .returned (.bool (aceB rr)) ∧ Below w'.heap.size w' w'') := (fun  w' hb => sAceRight_any rr w')
  have C11 : Hid (∀  w', Below w14.heap.size w14 w' → Calls Tryd.prog 23 #[.slice (some ⟨lb0, lo0, none⟩) l.length lc] w' fun e w'' => e = .returned (.bool (acesB l)) ∧ Below w'.heap.size w' w'') := (fun  w' hb => iNfsRight_any _ _ lc l w' (HL.out.below hb))
  have C12 : Hid (∀  w', Below w14.heap.size w14 w' → Calls Tryd.prog 24 #[.slice (some ⟨lb0, lo0, none⟩) l.length lc] w' fun e w'' => e = .returned (.bool (acesB l)) ∧ Below w'.heap.size w' w'') := (fun  w' hb => sNfsRight_any _ _ lc l (by omega) w' (HL.out.below hb))
  have C13 : Hid (∀  w', Below w14.heap.size w14 w' → Calls Tryd.prog 25 #[.int .i64 bb] w' fun e w'' => e = .returned (.int .i64 (bitsZ bb)) ∧ Below w'.heap.size w' w'') := (fun  w' hb => iNfsBits_any bb w' (HP.out.below (Below.on HB.out hb)))
  have C14 : Hid (∀  w', Below w14.heap.size w14 w' → Calls Tryd.prog 26 #[.int .i64 bb] w' fun e w'' => e = .returned (.int .i64 (bitsZ bb)) ∧ Below w'.heap.size w' w'') := (fun  w' hb => (sNfsBits_any bb w').mono (fun e w'' ⟨he, hw⟩ => ⟨he, by rw [hw]; exact Below.refl _ _⟩))
  have C15 : Hid (∀  w', Below w14.heap.size w14 w' → Calls Tryd.prog 27 #[.int .i64 nn] w' fun e w'' => e = .returned (.int .i64 (rwxZ nn)) ∧ Below w'.heap.size w' w'') := (fun  w' hb => iNfsRwx_any nn w' (HP.out.below (Below.on HB.out hb)))
  have C16 : Hid (∀  w', Below w14.heap.size w14 w' → Calls Tryd.prog 28 #[.int .i64 nn] w' fun e w'' => e = .returned (.int .i64 (rwxZ nn)) ∧ Below w'.heap.size w' w'') := (fun  w' hb => (sNfsRwx_any nn w').mono (fun e w'' ⟨he, hw⟩ => ⟨he, by rw [hw]; exact Below.refl _ _⟩))
  have D1 : Hid (∀  w', Below w14.heap.size w14 w' → Calls Tryd.prog 27 #[.int .i64 (bitsZ bb)] w' fun e w'' => e = .returned (.int .i64 (rwxZ (bitsZ bb))) ∧ Below w'.heap.size w' w'') := (fun  w' hb => iNfsRwx_any (bitsZ bb) w' (HP.out.below (Below.on HB.out hb)))
  have D2 : Hid ((addP al at_ x).2 = 0 → ∀ w', Below w14.heap.size w14 w' → Calls Tryd.prog 19 #[.slice ya (addP al at_ x).1.length yc, .int .i64 at_] w' fun e w'' => ∃ p c k, e = .returned (.agg #[.slice p al.length c, .int .i64 k]) ∧ Acs p al.length al w'' ∧ Below w'.heap.size w' w'') := (fun h0 w' hb => (iAceDrop_any ya _ yc (addP al at_ x).1 at_ hyc (by omega) w' (HYL.out.below hb)).mono (fun e w'' ⟨p, c, he, hN⟩ => by rw [drop_add h0] at he hN; exact ⟨p, c, _, he, hN.own.acs, hN.bel⟩))
  have D3 : Hid (∀ (p : Option Addr) (c : Nat) w', Acs p al.length al w' → Below w14.heap.size w14 w' → Calls Tryd.prog 29 #[.slice p al.length c, .slice (some ⟨ab, ao, none⟩) al.length ac] w' fun e w'' => e = .returned (.bool true) ∧ Below w'.heap.size w' w'') := (fun p c w' h hb => lwAces_any p _ _ c ac al (by omega) w' h (HA.out.below hb))
  have D4 : Hid (∀  w', Below w14.heap.size w14 w' → Calls Tryd.prog 30 #[.agg #[.int .i64 u, .int .i64 v, .slice ga cl.length gc, .bool r]] w' fun e w'' => e = .returned (.bool (credB u v cl.length (atD cl))) ∧ Below w'.heap.size w' w'') := (fun  w' hb => sCredRight_any u v ga cl.length gc r (atD cl) w' (HI.out.below hb))
  have D5 : Hid (∀ (q : Int) w', Below w14.heap.size w14 w' → Calls Tryd.prog 15 #[.slice (some ⟨lb0, lo0, none⟩) l.length lc, .int .i64 ow, .int .i64 gr, .agg #[.int .i64 u, .int .i64 v, .slice ga cl.length gc, .bool r], .int .i64 q] w' fun e w'' => e = .returned (.bool (nfsMayB l ow gr u v cl.length (atD cl) q)) ∧ Below w'.heap.size w' w'') := (fun q w' hb => iNfsMay_any _ _ lc l ow gr u v ga cl.length gc r (atD cl) q w' (HL.out.below hb) (HI.out.below hb))
  have D6 : Hid (∀ (k : Int) (y : Ac) w', k = (l.length : Int) → Below w14.heap.size w14 w' → Calls Tryd.prog 9 #[.slice (some ⟨lb0, lo0, none⟩) l.length lc, .int .i64 k, .agg #[.bool y.al, .int .i64 y.wh, .int .i64 y.id, .int .i64 y.fl, .int .i64 y.ma]] w' fun e w'' => ∃ p c, e = .returned (.agg #[.slice p (addP l (l.length : Int) y).1.length c, .int .i64 (addP l (l.length : Int) y).2]) ∧ Acs p (addP l (l.length : Int) y).1.length (addP l (l.length : Int) y).1 w'' ∧ Below w'.heap.size w' w'') := (fun k y w' hk hb => by rw [hk]; exact (iAceAdd_any _ _ _ lc l (l.length : Int) y hlc (by omega) w' (HL.out.below hb)).mono (fun e w'' ⟨p, c, he, hN⟩ => ⟨p, c, he, hN.own.acs, hN.bel⟩))
  have D7 : Hid (∀ (p : Option Addr) (c : Nat) (xs : List Ac) w', Acs p xs.length xs w' → Below w14.heap.size w14 w' → Calls Tryd.prog 6 #[.slice p xs.length c, .int .i64 ow, .int .i64 gr, .agg #[.int .i64 u, .int .i64 v, .slice ga cl.length gc, .bool r]] w' fun e w'' => e = .returned (.int .i64 (givesI xs ow gr u v cl.length (atD cl))) ∧ Below w'.heap.size w' w'') := (fun p c xs w' h hb => iNfsGives_any p _ c xs ow gr u v ga cl.length gc r (atD cl) w' h (HI.out.below hb))
  have D8 : Hid (∀ (k : Nat) w', Below w14.heap.size w14 w' → k ≤ 1000000 → Calls Tryd.prog 31 #[.slice b lb cb, .int .i64 k, .int .i64 255] w' fun e w'' => ∃ t : Int, 0 ≤ t ∧ t ≤ 254 ∧ e = .returned (.int .i64 t) ∧ w'' = w') := (fun k w' hb hk => (lwAt_any b lb cb g _ k hk 255 (by decide) w' (HD.out.up (Below.on HB.out hb))).mono (fun e w'' ⟨t, t0, t1, he, hw⟩ => ⟨t, t0, by omega, he, hw⟩))
  clear HL HI HM HJ HA HYL HE HD hl hml hal hel hyl hdl hcl hyc hec hac hlc HP
  generalize nfsMayB m ow2 gr2 u2 v2 cl2.length (atD cl2) z = mb at C2 C3
  generalize aceB rr = rb at C9 C10
  generalize rwxZ nn = rz at C15 C16
  generalize hy2 : (addP al at_ x).2 = yk at HV C4 C5 D2 ⊢
  generalize hy1 : (addP al at_ x).1 = yl at HV C4 C5 D2 ⊢
  generalize (dropP el gone).2 = dk at C6 C7 C8
  generalize (dropP el gone).1 = dl at C6 C7 C8
  clear hy1 hy2
  obtain ⟨bz, hbz⟩ : ∃ bz, bz = bitsZ bb := ⟨_, rfl⟩
  rw [← hbz] at C13 C14 D1
  have HBZ : Hid (bz = bitsZ bb) := hbz
  clear hbz
  obtain ⟨lr, hlr⟩ : ∃ lr, lr = acesB l := ⟨_, rfl⟩
  rw [← hlr] at C11 C12
  have HLR : Hid (lr = acesB l) := hlr
  clear hlr
  have eg : (gv != gv) = false := by simp
  have em : (mb != mb) = false := by simp
  have er : (rb != rb) = false := by simp
  have el' : (lr != lr) = false := by simp
  have eb : (bz != bz) = false := by simp
  have ez : (rz != rz) = false := by simp
  obtain ⟨xl, x0, x1, x2, x3⟩ := HX.out
  obtain ⟨yl', y0, y1, y2, y3⟩ := HY.out
  obtain ⟨z0, z1, z2, z3, z4⟩ := HZ.out.f
  obtain ⟨vl, v0, v1⟩ := HV.out
  obtain ⟨r0, r1, r2', r3, r4⟩ := HR.out.f
  simp only [Nat.zero_add] at z1 z2 z3 z4 r1 r2' r3 r4
  go_upto_region 11 with fail
  go_cut [143] (fun t wx => t = .bool false ∧ Hid (Below w14.heap.size w14 wx))
  case first =>
   as_aux_lemma =>
    simp only [List.append]
    go_region_held3 (fun w' => (w'.cell? ⟨X, 0, none⟩ = some (.int .i64 u) ∧ w'.cell? ⟨X, 1, none⟩ = some (.int .i64 v) ∧ w'.cell? ⟨X, 2, none⟩ = some (.slice ga cl.length gc) ∧ w'.cell? ⟨X, 3, none⟩ = some (.bool r)) ∧ (w'.cell? ⟨Y, 0, none⟩ = some (.int .i64 u2) ∧ w'.cell? ⟨Y, 1, none⟩ = some (.int .i64 v2) ∧ w'.cell? ⟨Y, 2, none⟩ = some (.slice ga2 cl2.length gc2) ∧ w'.cell? ⟨Y, 3, none⟩ = some (.bool r2)) ∧ (w'.cell? ⟨Z, 0, none⟩ = some (.bool x.al) ∧ w'.cell? ⟨Z, 1, none⟩ = some (.int .i64 x.wh) ∧ w'.cell? ⟨Z, 2, none⟩ = some (.int .i64 x.id) ∧ w'.cell? ⟨Z, 3, none⟩ = some (.int .i64 x.fl) ∧ w'.cell? ⟨Z, 4, none⟩ = some (.int .i64 x.ma)) ∧ (w'.cell? ⟨V, 0, none⟩ = some (.slice ya yl.length yc) ∧ w'.cell? ⟨V, 1, none⟩ = some (.int .i64 yk)) ∧ (w'.cell? ⟨R, 0, none⟩ = some (.bool rr.al) ∧ w'.cell? ⟨R, 1, none⟩ = some (.int .i64 rr.wh) ∧ w'.cell? ⟨R, 2, none⟩ = some (.int .i64 rr.id) ∧ w'.cell? ⟨R, 3, none⟩ = some (.int .i64 rr.fl) ∧ w'.cell? ⟨R, 4, none⟩ = some (.int .i64 rr.ma))) (go_keep)
      (first
        | (go_at_call 28; refine Calls.mono (C16.out _ hB15.out) ?_; rintro e wv16 ⟨rfl, hb16⟩; have hB16 : Hid (Below w14.heap.size w14 wv16) := Below.on hB15.out hb16; clear hb16; clear cx150 cx151 cx152 cx153 cy150 cy151 cy152 cy153 cz150 cz151 cz152 cz153 cz154 cv150 cv151 cr150 cr151 cr152 cr153 cr154; obtain ⟨_, cx160, cx161, cx162, cx163⟩ := HX.out.below hB16.out; obtain ⟨_, cy160, cy161, cy162, cy163⟩ := HY.out.below hB16.out; obtain ⟨cz160, cz161, cz162, cz163, cz164⟩ := (HZ.out.below hB16.out).f; obtain ⟨_, cv160, cv161⟩ := HV.out.below hB16.out; obtain ⟨cr160, cr161, cr162, cr163, cr164⟩ := (HR.out.below hB16.out).f; simp only [Nat.zero_add] at cz161 cz162 cz163 cz164 cr161 cr162 cr163 cr164)
        | (go_at_call 27; refine Calls.mono (C15.out _ hB14.out) ?_; rintro e wv15 ⟨rfl, hb15⟩; have hB15 : Hid (Below w14.heap.size w14 wv15) := Below.on hB14.out hb15; clear hb15; clear cx140 cx141 cx142 cx143 cy140 cy141 cy142 cy143 cz140 cz141 cz142 cz143 cz144 cv140 cv141 cr140 cr141 cr142 cr143 cr144; obtain ⟨_, cx150, cx151, cx152, cx153⟩ := HX.out.below hB15.out; obtain ⟨_, cy150, cy151, cy152, cy153⟩ := HY.out.below hB15.out; obtain ⟨cz150, cz151, cz152, cz153, cz154⟩ := (HZ.out.below hB15.out).f; obtain ⟨_, cv150, cv151⟩ := HV.out.below hB15.out; obtain ⟨cr150, cr151, cr152, cr153, cr154⟩ := (HR.out.below hB15.out).f; simp only [Nat.zero_add] at cz151 cz152 cz153 cz154 cr151 cr152 cr153 cr154)
        | (go_at_call 26; refine Calls.mono (C14.out _ hB13.out) ?_; rintro e wv14 ⟨rfl, hb14⟩; have hB14 : Hid (Below w14.heap.size w14 wv14) := Below.on hB13.out hb14; clear hb14; clear cx130 cx131 cx132 cx133 cy130 cy131 cy132 cy133 cz130 cz131 cz132 cz133 cz134 cv130 cv131 cr130 cr131 cr132 cr133 cr134; obtain ⟨_, cx140, cx141, cx142, cx143⟩ := HX.out.below hB14.out; obtain ⟨_, cy140, cy141, cy142, cy143⟩ := HY.out.below hB14.out; obtain ⟨cz140, cz141, cz142, cz143, cz144⟩ := (HZ.out.below hB14.out).f; obtain ⟨_, cv140, cv141⟩ := HV.out.below hB14.out; obtain ⟨cr140, cr141, cr142, cr143, cr144⟩ := (HR.out.below hB14.out).f; simp only [Nat.zero_add] at cz141 cz142 cz143 cz144 cr141 cr142 cr143 cr144)
        | (go_at_call 25; refine Calls.mono (C13.out _ hB12.out) ?_; rintro e wv13 ⟨rfl, hb13⟩; have hB13 : Hid (Below w14.heap.size w14 wv13) := Below.on hB12.out hb13; clear hb13; clear cx120 cx121 cx122 cx123 cy120 cy121 cy122 cy123 cz120 cz121 cz122 cz123 cz124 cv120 cv121 cr120 cr121 cr122 cr123 cr124; obtain ⟨_, cx130, cx131, cx132, cx133⟩ := HX.out.below hB13.out; obtain ⟨_, cy130, cy131, cy132, cy133⟩ := HY.out.below hB13.out; obtain ⟨cz130, cz131, cz132, cz133, cz134⟩ := (HZ.out.below hB13.out).f; obtain ⟨_, cv130, cv131⟩ := HV.out.below hB13.out; obtain ⟨cr130, cr131, cr132, cr133, cr134⟩ := (HR.out.below hB13.out).f; simp only [Nat.zero_add] at cz131 cz132 cz133 cz134 cr131 cr132 cr133 cr134)
        | (go_at_call 24; refine Calls.mono (C12.out _ hB11.out) ?_; rintro e wv12 ⟨rfl, hb12⟩; have hB12 : Hid (Below w14.heap.size w14 wv12) := Below.on hB11.out hb12; clear hb12; clear cx110 cx111 cx112 cx113 cy110 cy111 cy112 cy113 cz110 cz111 cz112 cz113 cz114 cv110 cv111 cr110 cr111 cr112 cr113 cr114; obtain ⟨_, cx120, cx121, cx122, cx123⟩ := HX.out.below hB12.out; obtain ⟨_, cy120, cy121, cy122, cy123⟩ := HY.out.below hB12.out; obtain ⟨cz120, cz121, cz122, cz123, cz124⟩ := (HZ.out.below hB12.out).f; obtain ⟨_, cv120, cv121⟩ := HV.out.below hB12.out; obtain ⟨cr120, cr121, cr122, cr123, cr124⟩ := (HR.out.below hB12.out).f; simp only [Nat.zero_add] at cz121 cz122 cz123 cz124 cr121 cr122 cr123 cr124)
        | (go_at_call 23; refine Calls.mono (C11.out _ hB10.out) ?_; rintro e wv11 ⟨rfl, hb11⟩; have hB11 : Hid (Below w14.heap.size w14 wv11) := Below.on hB10.out hb11; clear hb11; clear cx100 cx101 cx102 cx103 cy100 cy101 cy102 cy103 cz100 cz101 cz102 cz103 cz104 cv100 cv101 cr100 cr101 cr102 cr103 cr104; obtain ⟨_, cx110, cx111, cx112, cx113⟩ := HX.out.below hB11.out; obtain ⟨_, cy110, cy111, cy112, cy113⟩ := HY.out.below hB11.out; obtain ⟨cz110, cz111, cz112, cz113, cz114⟩ := (HZ.out.below hB11.out).f; obtain ⟨_, cv110, cv111⟩ := HV.out.below hB11.out; obtain ⟨cr110, cr111, cr112, cr113, cr114⟩ := (HR.out.below hB11.out).f; simp only [Nat.zero_add] at cz111 cz112 cz113 cz114 cr111 cr112 cr113 cr114)
        | (go_at_call 22; refine Calls.mono (C10.out _ hB9.out) ?_; rintro e wv10 ⟨rfl, hb10⟩; have hB10 : Hid (Below w14.heap.size w14 wv10) := Below.on hB9.out hb10; clear hb10; clear cx90 cx91 cx92 cx93 cy90 cy91 cy92 cy93 cz90 cz91 cz92 cz93 cz94 cv90 cv91 cr90 cr91 cr92 cr93 cr94; obtain ⟨_, cx100, cx101, cx102, cx103⟩ := HX.out.below hB10.out; obtain ⟨_, cy100, cy101, cy102, cy103⟩ := HY.out.below hB10.out; obtain ⟨cz100, cz101, cz102, cz103, cz104⟩ := (HZ.out.below hB10.out).f; obtain ⟨_, cv100, cv101⟩ := HV.out.below hB10.out; obtain ⟨cr100, cr101, cr102, cr103, cr104⟩ := (HR.out.below hB10.out).f; simp only [Nat.zero_add] at cz101 cz102 cz103 cz104 cr101 cr102 cr103 cr104)
        | (go_at_call 21; refine Calls.mono (C9.out _ hB8.out) ?_; rintro e wv9 ⟨rfl, hb9⟩; have hB9 : Hid (Below w14.heap.size w14 wv9) := Below.on hB8.out hb9; clear hb9; clear cx80 cx81 cx82 cx83 cy80 cy81 cy82 cy83 cz80 cz81 cz82 cz83 cz84 cv80 cv81 cr80 cr81 cr82 cr83 cr84; obtain ⟨_, cx90, cx91, cx92, cx93⟩ := HX.out.below hB9.out; obtain ⟨_, cy90, cy91, cy92, cy93⟩ := HY.out.below hB9.out; obtain ⟨cz90, cz91, cz92, cz93, cz94⟩ := (HZ.out.below hB9.out).f; obtain ⟨_, cv90, cv91⟩ := HV.out.below hB9.out; obtain ⟨cr90, cr91, cr92, cr93, cr94⟩ := (HR.out.below hB9.out).f; simp only [Nat.zero_add] at cz91 cz92 cz93 cz94 cr91 cr92 cr93 cr94)
        | (go_at_call 17; refine Calls.mono (C8.out pa6 pc6 pa7 pc7 _ HT6.out HS7.out) ?_; rintro e wv8 ⟨rfl, hb8⟩; have hB8 : Hid (Below w14.heap.size w14 wv8) := Below.on hB7.out hb8; clear HS6 HT6 HS7; clear hb8; clear cx70 cx71 cx72 cx73 cy70 cy71 cy72 cy73 cz70 cz71 cz72 cz73 cz74 cv70 cv71 cr70 cr71 cr72 cr73 cr74; obtain ⟨_, cx80, cx81, cx82, cx83⟩ := HX.out.below hB8.out; obtain ⟨_, cy80, cy81, cy82, cy83⟩ := HY.out.below hB8.out; obtain ⟨cz80, cz81, cz82, cz83, cz84⟩ := (HZ.out.below hB8.out).f; obtain ⟨_, cv80, cv81⟩ := HV.out.below hB8.out; obtain ⟨cr80, cr81, cr82, cr83, cr84⟩ := (HR.out.below hB8.out).f; simp only [Nat.zero_add] at cz81 cz82 cz83 cz84 cr81 cr82 cr83 cr84)
        | (go_at_call 20; refine Calls.mono (C7.out _ hB6.out) ?_; rintro e wv7 ⟨pa7, pc7, rfl, hs7, hb7⟩; have hB7 : Hid (Below w14.heap.size w14 wv7) := Below.on hB6.out hb7; have HS7 : Hid (Acs pa7 dl.length dl wv7) := hs7; clear hs7; have HT6 : Hid (Acs pa6 dl.length dl wv7) := HS6.out.below hb7; clear hb7; clear cx60 cx61 cx62 cx63 cy60 cy61 cy62 cy63 cz60 cz61 cz62 cz63 cz64 cv60 cv61 cr60 cr61 cr62 cr63 cr64; obtain ⟨_, cx70, cx71, cx72, cx73⟩ := HX.out.below hB7.out; obtain ⟨_, cy70, cy71, cy72, cy73⟩ := HY.out.below hB7.out; obtain ⟨cz70, cz71, cz72, cz73, cz74⟩ := (HZ.out.below hB7.out).f; obtain ⟨_, cv70, cv71⟩ := HV.out.below hB7.out; obtain ⟨cr70, cr71, cr72, cr73, cr74⟩ := (HR.out.below hB7.out).f; simp only [Nat.zero_add] at cz71 cz72 cz73 cz74 cr71 cr72 cr73 cr74)
        | (go_at_call 19; refine Calls.mono (C6.out _ hB5.out) ?_; rintro e wv6 ⟨pa6, pc6, rfl, hs6, hb6⟩; have hB6 : Hid (Below w14.heap.size w14 wv6) := Below.on hB5.out hb6; have HS6 : Hid (Acs pa6 dl.length dl wv6) := hs6; clear hs6; clear hb6; clear cx50 cx51 cx52 cx53 cy50 cy51 cy52 cy53 cz50 cz51 cz52 cz53 cz54 cv50 cv51 cr50 cr51 cr52 cr53 cr54; obtain ⟨_, cx60, cx61, cx62, cx63⟩ := HX.out.below hB6.out; obtain ⟨_, cy60, cy61, cy62, cy63⟩ := HY.out.below hB6.out; obtain ⟨cz60, cz61, cz62, cz63, cz64⟩ := (HZ.out.below hB6.out).f; obtain ⟨_, cv60, cv61⟩ := HV.out.below hB6.out; obtain ⟨cr60, cr61, cr62, cr63, cr64⟩ := (HR.out.below hB6.out).f; simp only [Nat.zero_add] at cz61 cz62 cz63 cz64 cr61 cr62 cr63 cr64)
        | (go_at_call 17; refine Calls.mono (C5.out pa4 pc4 _ HS4.out hB4.out) ?_; rintro e wv5 ⟨rfl, hb5⟩; have hB5 : Hid (Below w14.heap.size w14 wv5) := Below.on hB4.out hb5; clear HS4; clear hb5; clear cx40 cx41 cx42 cx43 cy40 cy41 cy42 cy43 cz40 cz41 cz42 cz43 cz44 cv40 cv41 cr40 cr41 cr42 cr43 cr44; obtain ⟨_, cx50, cx51, cx52, cx53⟩ := HX.out.below hB5.out; obtain ⟨_, cy50, cy51, cy52, cy53⟩ := HY.out.below hB5.out; obtain ⟨cz50, cz51, cz52, cz53, cz54⟩ := (HZ.out.below hB5.out).f; obtain ⟨_, cv50, cv51⟩ := HV.out.below hB5.out; obtain ⟨cr50, cr51, cr52, cr53, cr54⟩ := (HR.out.below hB5.out).f; simp only [Nat.zero_add] at cz51 cz52 cz53 cz54 cr51 cr52 cr53 cr54)
        | (go_at_call 18; refine Calls.mono (C4.out _ hB3.out) ?_; rintro e wv4 ⟨pa4, pc4, rfl, hs4, hb4⟩; have hB4 : Hid (Below w14.heap.size w14 wv4) := Below.on hB3.out hb4; have HS4 : Hid (Acs pa4 yl.length yl wv4) := hs4; clear hs4; clear hb4; clear cx30 cx31 cx32 cx33 cy30 cy31 cy32 cy33 cz30 cz31 cz32 cz33 cz34 cv30 cv31 cr30 cr31 cr32 cr33 cr34; obtain ⟨_, cx40, cx41, cx42, cx43⟩ := HX.out.below hB4.out; obtain ⟨_, cy40, cy41, cy42, cy43⟩ := HY.out.below hB4.out; obtain ⟨cz40, cz41, cz42, cz43, cz44⟩ := (HZ.out.below hB4.out).f; obtain ⟨_, cv40, cv41⟩ := HV.out.below hB4.out; obtain ⟨cr40, cr41, cr42, cr43, cr44⟩ := (HR.out.below hB4.out).f; simp only [Nat.zero_add] at cz41 cz42 cz43 cz44 cr41 cr42 cr43 cr44)
        | (go_at_call 16; refine Calls.mono (C3.out _ hB2.out) ?_; rintro e wv3 ⟨rfl, hb3⟩; have hB3 : Hid (Below w14.heap.size w14 wv3) := Below.on hB2.out hb3; clear hb3; clear cx20 cx21 cx22 cx23 cy20 cy21 cy22 cy23 cz20 cz21 cz22 cz23 cz24 cv20 cv21 cr20 cr21 cr22 cr23 cr24; obtain ⟨_, cx30, cx31, cx32, cx33⟩ := HX.out.below hB3.out; obtain ⟨_, cy30, cy31, cy32, cy33⟩ := HY.out.below hB3.out; obtain ⟨cz30, cz31, cz32, cz33, cz34⟩ := (HZ.out.below hB3.out).f; obtain ⟨_, cv30, cv31⟩ := HV.out.below hB3.out; obtain ⟨cr30, cr31, cr32, cr33, cr34⟩ := (HR.out.below hB3.out).f; simp only [Nat.zero_add] at cz31 cz32 cz33 cz34 cr31 cr32 cr33 cr34)
        | (go_at_call 15; refine Calls.mono (C2.out _ hB1.out) ?_; rintro e wv2 ⟨rfl, hb2⟩; have hB2 : Hid (Below w14.heap.size w14 wv2) := Below.on hB1.out hb2; clear hb2; clear cx10 cx11 cx12 cx13 cy10 cy11 cy12 cy13 cz10 cz11 cz12 cz13 cz14 cv10 cv11 cr10 cr11 cr12 cr13 cr14; obtain ⟨_, cx20, cx21, cx22, cx23⟩ := HX.out.below hB2.out; obtain ⟨_, cy20, cy21, cy22, cy23⟩ := HY.out.below hB2.out; obtain ⟨cz20, cz21, cz22, cz23, cz24⟩ := (HZ.out.below hB2.out).f; obtain ⟨_, cv20, cv21⟩ := HV.out.below hB2.out; obtain ⟨cr20, cr21, cr22, cr23, cr24⟩ := (HR.out.below hB2.out).f; simp only [Nat.zero_add] at cz21 cz22 cz23 cz24 cr21 cr22 cr23 cr24)
        | (go_at_call 14; refine Calls.mono (C1.out _ ?hs) ?_; (case hs => (first | exact Below.refl _ _ | exact below_drewFn (Below.refl _ _))); rintro e wv1 ⟨rfl, hb1⟩; have hB1 : Hid (Below w14.heap.size w14 wv1) := Below.on (below_drewFn (Below.refl _ _)) ⟨hb1.os, hb1.tape, hb1.output, hb1.size, hb1.block⟩; clear hb1; obtain ⟨_, cx10, cx11, cx12, cx13⟩ := HX.out.below hB1.out; obtain ⟨_, cy10, cy11, cy12, cy13⟩ := HY.out.below hB1.out; obtain ⟨cz10, cz11, cz12, cz13, cz14⟩ := (HZ.out.below hB1.out).f; obtain ⟨_, cv10, cv11⟩ := HV.out.below hB1.out; obtain ⟨cr10, cr11, cr12, cr13, cr14⟩ := (HR.out.below hB1.out).f; simp only [Nat.zero_add] at cz11 cz12 cz13 cz14 cr11 cr12 cr13 cr14))
    go_wp2
    go_meet
    exact ⟨rfl, hB16⟩
  case rest =>
  obtain ⟨rfl, HB15⟩ := hcut
  clear x0 x1 x2 x3 xl y0 y1 y2 y3 z0 z1 z2 z3 z4 v0 v1 vl r0 r1 r2' r3 r4 HY HZ HR C1 C2 C3 C4 C5 C6 C7 C8 C9 C10 C14 C15 C16
  obtain ⟨wp, hwp⟩ : ∃ wp, wp = wc := ⟨_, rfl⟩
  subst hwp
  obtain ⟨vl, v0, v1⟩ := HV.out.below HB15.out
  go_upto_region 13 with fail
  go_cut [171] (fun t wx => t = .bool false ∧ Hid (Below w14.heap.size w14 wx))
  case first =>
   as_aux_lemma =>
    have hrb : 0 ≤ bb → bb ≤ 7 → rwxZ bz = bb := fun p q => by rw [HBZ.out]; exact rwx_bits p q
    have HRB : Hid _ := hrb
    clear hrb
    have hbc : bb = -1 ∨ bb = 8 ∨ (0 ≤ bb ∧ bb ≤ 7) := by omega
    by_cases hyk : yk = 0
    · subst hyk
      rcases hbc with rfl | rfl | ⟨p0, p1⟩
      · skip
        go_wp2_with fail
        refine (D2.out (by first | rfl | trivial) _ HB15.out).mono ?_
        rintro e wa ⟨pa, pc, pk, rfl, hs, hba⟩
        have HBa : Hid (Below w14.heap.size w14 wa) := Below.on HB15.out hba
        have HSa : Hid (Acs pa al.length al wa) := hs
        clear hba hs
        go_wp2_with fail
        refine (D3.out pa pc _ HSa.out HBa.out).mono ?_
        rintro e wb ⟨rfl, hbb⟩
        have HBb : Hid (Below w14.heap.size w14 wb) := Below.on HBa.out hbb
        clear hbb HBa HSa
        go_wp2
        go_meet
        exact ⟨rfl, HBb⟩
      · skip
        go_wp2_with fail
        refine (D2.out (by first | rfl | trivial) _ HB15.out).mono ?_
        rintro e wa ⟨pa, pc, pk, rfl, hs, hba⟩
        have HBa : Hid (Below w14.heap.size w14 wa) := Below.on HB15.out hba
        have HSa : Hid (Acs pa al.length al wa) := hs
        clear hba hs
        go_wp2_with fail
        refine (D3.out pa pc _ HSa.out HBa.out).mono ?_
        rintro e wb ⟨rfl, hbb⟩
        have HBb : Hid (Below w14.heap.size w14 wb) := Below.on HBa.out hbb
        clear hbb HBa HSa
        go_wp2
        go_meet
        exact ⟨rfl, HBb⟩
      · skip
        go_wp2_with fail
        refine (D2.out (by first | rfl | trivial) _ HB15.out).mono ?_
        rintro e wa ⟨pa, pc, pk, rfl, hs, hba⟩
        have HBa : Hid (Below w14.heap.size w14 wa) := Below.on HB15.out hba
        have HSa : Hid (Acs pa al.length al wa) := hs
        clear hba hs
        go_wp2_with fail
        refine (D3.out pa pc _ HSa.out HBa.out).mono ?_
        rintro e wb ⟨rfl, hbb⟩
        have HBb : Hid (Below w14.heap.size w14 wb) := Below.on HBa.out hbb
        clear hbb HBa HSa
        go_wp2_with fail
        refine (C13.out _ HBb.out).mono ?_
        rintro e wq ⟨rfl, hbq⟩
        have HBq : Hid (Below w14.heap.size w14 wq) := Below.on HBb.out hbq
        clear hbq
        have hD1 := D1.out _ HBq.out
        rw [HRB.out p0 p1] at hD1
        have ebb : (bb != bb) = false := by simp
        go_wp2_with fail
        refine hD1.mono ?_
        rintro e wr ⟨rfl, hbr⟩
        have HBr : Hid (Below w14.heap.size w14 wr) := Below.on HBq.out hbr
        clear hbr hD1
        go_wp2
        go_meet
        exact ⟨rfl, HBr⟩
    · have ek : (yk == 0) = false := by simp [hyk]
      rcases hbc with rfl | rfl | ⟨p0, p1⟩
      · skip
        go_wp2
        go_meet
        exact ⟨rfl, HB15⟩
      · skip
        go_wp2
        go_meet
        exact ⟨rfl, HB15⟩
      · skip
        go_wp2_with fail
        refine (C13.out _ HB15.out).mono ?_
        rintro e wq ⟨rfl, hbq⟩
        have HBq : Hid (Below w14.heap.size w14 wq) := Below.on HB15.out hbq
        clear hbq
        have hD1 := D1.out _ HBq.out
        rw [HRB.out p0 p1] at hD1
        have ebb : (bb != bb) = false := by simp
        go_wp2_with fail
        refine hD1.mono ?_
        rintro e wr ⟨rfl, hbr⟩
        have HBr : Hid (Below w14.heap.size w14 wr) := Below.on HBq.out hbr
        clear hbr hD1
        go_wp2
        go_meet
        exact ⟨rfl, HBr⟩
  case rest =>
  obtain ⟨rfl, HB16⟩ := hcut
  obtain ⟨wq, hwq⟩ : ∃ wq, wq = wc := ⟨_, rfl⟩
  subst hwq
  clear v0 v1 vl HV D1 D2 D3 C13 HBZ HB15
  obtain ⟨xl, x0, x1, x2, x3⟩ := HX.out.below HB16.out
  go_upto_region 15 with fail
  go_cut [195] (fun t wx => t = .bool (!askR l ow gr u v cl.length (atD cl)) ∧ Hid (Below w14.heap.size w14 wx))
  case first =>
   as_aux_lemma =>
    have HLR2 : Hid (acesB l = lr) := HLR.out.symm
    go_wp2_with fail
    refine (C12.out _ HB16.out).mono ?_
    rintro e wa ⟨rfl, hba⟩
    have HBa : Hid (Below w14.heap.size w14 wa) := Below.on HB16.out hba
    obtain ⟨_, p0, p1, p2, p3⟩ := HX.out.below HBa.out
    clear hba x0 x1 x2 x3 xl
    cases lr
    · go_wp2
      go_meet
      exact ⟨by simp [askR, HLR2.out], HBa⟩
    · go_wp2_with fail
      refine (D4.out _ HBa.out).mono ?_
      rintro e wb ⟨rfl, hbb⟩
      have HBb : Hid (Below w14.heap.size w14 wb) := Below.on HBa.out hbb
      clear hbb HBa p0 p1 p2 p3
      obtain ⟨cb2, hcb2⟩ : ∃ q, q = credB u v cl.length (atD cl) := ⟨_, rfl⟩
      rw [← hcb2]
      have HCB : Hid (credB u v cl.length (atD cl) = cb2) := hcb2.symm
      clear hcb2
      cases cb2
      · go_wp2
        go_meet
        exact ⟨by simp [askR, HCB.out], HBb⟩
      · by_cases o0 : ow < 0
        · go_wp2
          go_meet
          exact ⟨by simp [askR, inR]; omega, HBb⟩
        · by_cases o1 : 9999 < ow
          · go_wp2
            go_meet
            exact ⟨by simp [askR, inR]; omega, HBb⟩
          · by_cases g0 : gr < 0
            · go_wp2
              go_meet
              exact ⟨by simp [askR, inR]; omega, HBb⟩
            · by_cases g1 : 9999 < gr
              · go_wp2
                go_meet
                exact ⟨by simp [askR, inR]; omega, HBb⟩
              · go_wp2
                go_meet
                exact ⟨by rw [show askR l ow gr u v cl.length (atD cl) = true from askR_iff.2 ⟨HLR2.out, by simp [inR]; omega, by simp [inR]; omega, HCB.out⟩]; simp; omega, HBb⟩
  case rest =>
  obtain ⟨rfl, HB17⟩ := hcut
  obtain ⟨wr, hwr⟩ : ∃ wr, wr = wc := ⟨_, rfl⟩
  subst hwr
  clear x0 x1 x2 x3 xl C11 C12 D4 HLR
  cases hA : askR l ow gr u v cl.length (atD cl)
  · have hg0 : gv = 0 := by rw [HGV.out]; exact givesI_askN hA
    subst hg0
    go_wp2
    go_ret
    exact ⟨rfl, Below.on HB.out HB17.out⟩
  · have HM1 : Hid (nfsMayB l ow gr u v cl.length (atD cl) gv = true) := (by show _ = _; rw [HGV.out]; exact may_gives hA)
    have HM2 : Hid (gv ≠ 255 → nfsMayB l ow gr u v cl.length (atD cl) 255 = false) := (fun h => may_all (by rw [← HGV.out]; exact h))
    obtain ⟨xl, x0, x1, x2, x3⟩ := HX.out.below HB17.out
    go_upto_region 17 with fail
    go_cut [215] (fun t wx => t = .bool false ∧ Hid (Below w14.heap.size w14 wx))
    case first =>
     as_aux_lemma =>
      have hD5 := D5.out gv _ HB17.out
      rw [HM1.out] at hD5
      go_wp2_with fail
      refine hD5.mono ?_
      rintro e wa ⟨rfl, hba⟩
      have HBa : Hid (Below w14.heap.size w14 wa) := Below.on HB17.out hba
      obtain ⟨_, p0, p1, p2, p3⟩ := HX.out.below HBa.out
      clear hba x0 x1 x2 x3 xl hD5
      by_cases h255 : gv = 255
      · subst h255
        go_wp2
        go_meet
        exact ⟨rfl, HBa⟩
      · have e255 : (gv != 255) = true := by simp [h255]
        have hD6 := D5.out 255 _ HBa.out
        rw [HM2.out h255] at hD6
        go_wp2_with fail
        refine hD6.mono ?_
        rintro e wb ⟨rfl, hbb⟩
        have HBb : Hid (Below w14.heap.size w14 wb) := Below.on HBa.out hbb
        clear hbb
        go_wp2
        go_meet
        exact ⟨rfl, HBb⟩
    case rest =>
    obtain ⟨rfl, HB18⟩ := hcut
    obtain ⟨ws, hws⟩ : ∃ ws, ws = wc := ⟨_, rfl⟩
    subst hws
    clear x0 x1 x2 x3 xl HM1 HM2 D5
    have hAA := (askR_iff.1 hA).1
    by_cases h32 : l.length = 32
    · as_aux_lemma =>
      have E1 : Hid (∀ y : Ac, aceB y = true → addP l (l.length : Int) y = ([], 9)) := (fun y hy => by rw [add_end hAA hy, if_pos h32])
      have DA : Hid (∀ (y : Ac) w', aceB y = true → Below w14.heap.size w14 w' → Calls Tryd.prog 9 #[.slice (some ⟨lb0, lo0, none⟩) l.length lc, .int .i64 (l.length : Int), .agg #[.bool y.al, .int .i64 y.wh, .int .i64 y.id, .int .i64 y.fl, .int .i64 y.ma]] w' fun e w'' => ∃ p c, e = .returned (.agg #[.slice p 0 c, .int .i64 9]) ∧ Below w'.heap.size w' w'') := (fun y w' hy hb => by
        have h := D6.out (l.length : Int) y w' rfl hb
        rw [E1.out y hy] at h
        exact h.mono (fun e w'' ⟨p, c, he, _, hb2⟩ => ⟨p, c, he, hb2⟩))
      clear E1 D6 D7 hA hAA h32 HGV
      go_wp2_with fail
      refine (D8.out 0 _ HB18.out (by decide)).mono ?_
      rintro e wa ⟨t, t0, t1, rfl, hwa⟩
      have hwa2 := hwa.symm
      subst hwa2
      go_wp2_with fail
      refine (DA.out ⟨true, 3, 0, 0, 1 + t⟩ _ (ace_evy (by omega) (by omega)) HB18.out).mono ?_
      rintro e wb ⟨pa, pc, rfl, hbb⟩
      have HBb : Hid (Below w14.heap.size w14 wb) := Below.on HB18.out hbb
      clear hbb
      have hbN := bel_alloc wb (.cells #[.slice pa 0 pc, .int .i64 9] 37)
      have HPB : Hid (Box2 (wb.alloc (.cells #[.slice pa 0 pc, .int .i64 9] 37)) wb.heap.size (.slice pa 0 pc) (.int .i64 9)) := box2_new wb _ _ _
      have HBc : Hid (Below w14.heap.size w14 (wb.alloc (.cells #[.slice pa 0 pc, .int .i64 9] 37))) := Below.on HBb.out hbN
      clear hbN HBb
      go_upto_region 20 with fail
      generalize wb.alloc (.cells #[.slice pa 0 pc, .int .i64 9] 37) = wd at HPB HBc ⊢
      generalize wb.heap.size = PP at HPB ⊢
      go_wp2_with fail
      refine (D8.out 1 _ HBc.out (by decide)).mono ?_
      rintro e we ⟨t2, t20, t21, rfl, hwe⟩
      have hwe2 := hwe.symm
      subst hwe2
      go_wp2_with fail
      refine (DA.out ⟨false, 3, 0, 0, 1 + t2⟩ _ (ace_evy (by omega) (by omega)) HBc.out).mono ?_
      rintro e wf ⟨qa, qc, rfl, hbf⟩
      have HBf : Hid (Below w14.heap.size w14 wf) := Below.on HBc.out hbf
      have hbN := bel_alloc wf (.cells #[.slice qa 0 qc, .int .i64 9] 37)
      obtain ⟨pl, p0, p1⟩ := (HPB.out.below hbf).below hbN
      obtain ⟨ql, q0, q1⟩ := box2_new wf (.slice qa 0 qc) (.int .i64 9) 37
      have HBg : Hid (Below w14.heap.size w14 (wf.alloc (.cells #[.slice qa 0 qc, .int .i64 9] 37))) := Below.on HBf.out hbN
      clear hbN HBf hbf HPB
      go_upto_region 21 with fail
      generalize wf.alloc (.cells #[.slice qa 0 qc, .int .i64 9] 37) = wg at p0 p1 pl q0 q1 ql HBg ⊢
      generalize wf.heap.size = QQ at q0 q1 ql ⊢
      go_wp2
      go_ret
      exact ⟨rfl, Below.on HB.out HBg.out⟩
    · as_aux_lemma =>
      have hl32 : l.length < 32 := by have := aces_len hAA; omega
      have E1 : Hid (∀ y : Ac, aceB y = true → addP l (l.length : Int) y = (l ++ [y], 0)) := (fun y hy => by rw [add_end hAA hy, if_neg h32])
      have DA : Hid (∀ (y : Ac) w', aceB y = true → Below w14.heap.size w14 w' → Calls Tryd.prog 9 #[.slice (some ⟨lb0, lo0, none⟩) l.length lc, .int .i64 (l.length : Int), .agg #[.bool y.al, .int .i64 y.wh, .int .i64 y.id, .int .i64 y.fl, .int .i64 y.ma]] w' fun e w'' => ∃ p c, e = .returned (.agg #[.slice p (l ++ [y]).length c, .int .i64 0]) ∧ Acs p (l ++ [y]).length (l ++ [y]) w'' ∧ Below w'.heap.size w' w'') := (fun y w' hy hb => by
        have h := D6.out (l.length : Int) y w' rfl hb
        rw [E1.out y hy] at h
        exact h.mono (fun e w'' ⟨p, c, he, h2, hb2⟩ => ⟨p, c, he, h2, hb2⟩))
      have ZP : Hid (∀ q : Int, 1 ≤ q → q ≤ 255 → hasZ (givesI (l ++ [⟨true, 3, 0, 0, q⟩]) ow gr u v cl.length (atD cl)) gv = true) := (fun q q0 q1 => by rw [HGV.out]; exact gives_plus hA q0 q1 hl32)
      have ZN : Hid (∀ q : Int, 1 ≤ q → q ≤ 255 → givesI (l ++ [⟨false, 3, 0, 0, q⟩]) ow gr u v cl.length (atD cl) = gv) := (fun q q0 q1 => by rw [HGV.out]; exact gives_minus hA q0 q1 hl32)
      clear E1 D6 hA hAA h32 hl32 HGV
      go_wp2_with fail
      refine (D8.out 0 _ HB18.out (by decide)).mono ?_
      rintro e wa ⟨t, t0, t1, rfl, hwa⟩
      have hwa2 := hwa.symm
      subst hwa2
      go_wp2_with fail
      refine (DA.out ⟨true, 3, 0, 0, 1 + t⟩ _ (ace_evy (by omega) (by omega)) HB18.out).mono ?_
      rintro e wb ⟨pa, pc, rfl, hsb, hbb⟩
      have hZP := ZP.out (1 + t) (by omega) (by omega)
      have HZP : Hid (hasZ (givesI (l ++ [⟨true, 3, 0, 0, 1 + t⟩]) ow gr u v cl.length (atD cl)) gv = true) := hZP
      clear hZP ZP
      generalize hL1 : l ++ [(⟨true, 3, 0, 0, 1 + t⟩ : Ac)] = L1 at hsb HZP ⊢
      clear hL1
      have HBb : Hid (Below w14.heap.size w14 wb) := Below.on HB18.out hbb
      have hbN := bel_alloc wb (.cells #[.slice pa L1.length pc, .int .i64 0] 37)
      have HPB : Hid (Box2 (wb.alloc (.cells #[.slice pa L1.length pc, .int .i64 0] 37)) wb.heap.size (.slice pa L1.length pc) (.int .i64 0)) := box2_new wb _ _ _
      have HBc : Hid (Below w14.heap.size w14 (wb.alloc (.cells #[.slice pa L1.length pc, .int .i64 0] 37))) := Below.on HBb.out hbN
      have HS1 : Hid (Acs pa L1.length L1 (wb.alloc (.cells #[.slice pa L1.length pc, .int .i64 0] 37))) := hsb.below hbN
      clear hbN HBb hbb hsb
      go_upto_region 20 with fail
      generalize wb.alloc (.cells #[.slice pa L1.length pc, .int .i64 0] 37) = wd at HPB HBc HS1 ⊢
      generalize wb.heap.size = PP at HPB ⊢
      go_wp2_with fail
      refine (D8.out 1 _ HBc.out (by decide)).mono ?_
      rintro e we ⟨t2, t20, t21, rfl, hwe⟩
      have hwe2 := hwe.symm
      subst hwe2
      go_wp2_with fail
      refine (DA.out ⟨false, 3, 0, 0, 1 + t2⟩ _ (ace_evy (by omega) (by omega)) HBc.out).mono ?_
      rintro e wf ⟨qa, qc, rfl, hsf, hbf⟩
      have HZN : Hid (givesI (l ++ [⟨false, 3, 0, 0, 1 + t2⟩]) ow gr u v cl.length (atD cl) = gv) := ZN.out (1 + t2) (by omega) (by omega)
      clear ZN
      generalize hL2 : l ++ [(⟨false, 3, 0, 0, 1 + t2⟩ : Ac)] = L2 at hsf HZN ⊢
      clear hL2
      have hbN := bel_alloc wf (.cells #[.slice qa L2.length qc, .int .i64 0] 37)
      have HBg : Hid (Below w14.heap.size w14 (wf.alloc (.cells #[.slice qa L2.length qc, .int .i64 0] 37))) := Below.on (Below.on HBc.out hbf) hbN
      have HPg : Hid (Box2 (wf.alloc (.cells #[.slice qa L2.length qc, .int .i64 0] 37)) PP (.slice pa L1.length pc) (.int .i64 0)) := (HPB.out.below hbf).below hbN
      have HQg : Hid (Box2 (wf.alloc (.cells #[.slice qa L2.length qc, .int .i64 0] 37)) wf.heap.size (.slice qa L2.length qc) (.int .i64 0)) := box2_new wf _ _ _
      have HS1g : Hid (Acs pa L1.length L1 (wf.alloc (.cells #[.slice qa L2.length qc, .int .i64 0] 37))) := (HS1.out.below hbf).below hbN
      have HS2g : Hid (Acs qa L2.length L2 (wf.alloc (.cells #[.slice qa L2.length qc, .int .i64 0] 37))) := hsf.below hbN
      clear hbN hbf hsf HPB HS1 HBc
      go_upto_region 21 with fail
      generalize wf.alloc (.cells #[.slice qa L2.length qc, .int .i64 0] 37) = wg at HBg HPg HQg HS1g HS2g ⊢
      generalize wf.heap.size = QQ at HQg ⊢
      obtain ⟨pl, p0, p1⟩ := HPg.out
      obtain ⟨ql, q0, q1⟩ := HQg.out
      obtain ⟨xl, x0, x1, x2, x3⟩ := HX.out.below HBg.out
      go_wp2_with fail
      refine (D7.out pa pc L1 _ HS1g.out HBg.out).mono ?_
      rintro e wh ⟨rfl, hbh⟩
      have HBh : Hid (Below w14.heap.size w14 wh) := Below.on HBg.out hbh
      clear p0 p1 pl q0 q1 ql x0 x1 x2 x3 xl
      obtain ⟨ql, q0, q1⟩ := HQg.out.below hbh
      obtain ⟨xl, x0, x1, x2, x3⟩ := HX.out.below HBh.out
      have HS2h : Hid (Acs qa L2.length L2 wh) := HS2g.out.below hbh
      clear hbh HS2g HQg HPg HS1g
      go_wp2_with fail
      refine (iHas_any _ _ _).mono ?_
      rintro e wi ⟨rfl, hwi⟩
      have hwi2 := hwi.symm
      subst hwi2
      rw [HZP.out]
      go_wp2_with fail
      refine (D7.out qa qc L2 _ HS2h.out HBh.out).mono ?_
      rintro e wj ⟨rfl, hbj⟩
      have HBj : Hid (Below w14.heap.size w14 wj) := Below.on HBh.out hbj
      clear hbj
      rw [HZN.out]
      have egg : (gv == gv) = true := by simp
      go_wp2
      go_ret
      exact ⟨rfl, Below.on HB.out HBj.out⟩
end Go.Proofs.YtdidbaadladkpaaDoor
