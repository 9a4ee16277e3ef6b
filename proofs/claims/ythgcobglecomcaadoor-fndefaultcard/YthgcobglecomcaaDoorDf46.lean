/- Laid together: LwAcl, DefW. -/
import Derived.Test.YthgcobglecomcaaDoorDf4
import Derived.Test.YthgcobglecomcaaDoorDf12
import Derived.Lib.QuietBelow
import Derived.Test.YthgcobglecomcaaDoorDf26
import Derived.Test.YthgcobglecomcaaDoorDf44
import Derived.Test.YthgcobglecomcaaDoorDf41
import Derived.Test.YthgcobglecomcaaDoorDf40
import Derived.Test.YthgcobglecomcaaDoorDf43
import Derived.Test.YthgcobglecomcaaDoorDf45
import Derived.Deep.DeepCutAuto
import Derived.Deep.RegionHeld3
/- laws.lwNamed, laws.lwAcl of two that hold the same. -/
namespace Go.Proofs.YthgcobglecomcaaDoor
open Go.RowKit Go.PlainAid Go.Deep
set_option linter.unusedVariables false
set_option maxHeartbeats 2000000 in
theorem lwNamed_none (a a2 : Option Addr) (cap cap2 : Nat) (w : World) :
    Calls Tryd.prog 42 #[.slice a 0 cap, .slice a2 0 cap2] w fun e w' => e = .returned (.bool true) ∧ Below w.heap.size w w' := by
  go_enter Tryd.func42, Tryd.ntmps42
  go_wp2
  go_rounds 1
  go_ret
  exact ⟨rfl, Below.refl _ _⟩
set_option maxHeartbeats 4000000 in
theorem lwNamed_some (b off b2 off2 len cap cap2 : Nat) (l : List (Int × Int)) (hl : len ≤ 1048576) (w : World) (hb : b < w.heap.size) (hb2 : b2 < w.heap.size)
    (hc : Hid (∀ i, i < len → w.cell? ⟨b, off + i * 2, none⟩ = some (.int .i64 (idAt l i)) ∧ w.cell? ⟨b, off + i * 2 + 1, none⟩ = some (.int .i64 (btAt l i))))
    (hc2 : Hid (∀ i, i < len → w.cell? ⟨b2, off2 + i * 2, none⟩ = some (.int .i64 (idAt l i)) ∧ w.cell? ⟨b2, off2 + i * 2 + 1, none⟩ = some (.int .i64 (btAt l i)))) :
    Calls Tryd.prog 42 #[.slice (some ⟨b, off, none⟩) len cap, .slice (some ⟨b2, off2, none⟩) len cap2] w fun e w' => e = .returned (.bool true) ∧ Below w.heap.size w w' := by
  go_enter Tryd.func42, Tryd.ntmps42
  go_wp2
  go_loopw [5] (fun i wr => ∃ (k : Nat), k ≤ len ∧ i = .int .i64 k ∧ Hid (Below w.heap.size w wr)) (fun i _ => len - (intOf i).toNat)
  case atStart => exact ⟨0, Nat.zero_le _, rfl, Below.refl _ _⟩
  case round =>
    obtain ⟨k, hk, rfl, hB⟩ := hrel
    by_cases hlt : k < len
    · have g0 : ∀ d os, (Go.Sort.grow (redrawn wr d) os).cell? ⟨b, off + k * 2, none⟩ = some (.int .i64 (idAt l k)) := fun d os => cell_regrown ((hB.out.cell (p := ⟨b, off + k * 2, none⟩) hb).trans (hc.out k hlt).1) d os
      have g1 : ∀ d os, (Go.Sort.grow (redrawn wr d) os).cell? ⟨b, off + k * 2 + 1, none⟩ = some (.int .i64 (btAt l k)) := fun d os => cell_regrown ((hB.out.cell (p := ⟨b, off + k * 2 + 1, none⟩) hb).trans (hc.out k hlt).2) d os
      have g2 : ∀ d os, (Go.Sort.grow (redrawn wr d) os).cell? ⟨b2, off2 + k * 2, none⟩ = some (.int .i64 (idAt l k)) := fun d os => cell_regrown ((hB.out.cell (p := ⟨b2, off2 + k * 2, none⟩) hb2).trans (hc2.out k hlt).1) d os
      have g3 : ∀ d os, (Go.Sort.grow (redrawn wr d) os).cell? ⟨b2, off2 + k * 2 + 1, none⟩ = some (.int .i64 (btAt l k)) := fun d os => cell_regrown ((hB.out.cell (p := ⟨b2, off2 + k * 2 + 1, none⟩) hb2).trans (hc2.out k hlt).2) d os
      have hlt' : (k : Int) < (len : Int) := by omega
      go_wp2
      refine wp_region_quiet_below (by kernel_rfl) (by kernel_rfl) ?_
      repeat (go_big_quiet_step (fail))
      refine wpQuiet_nil ?_
      intro _ hw'
      obtain ⟨⟨dq, osq⟩, hw''⟩ := hw'
      subst hw''
      have hbq : Hid (Below w.heap.size w (Go.Sort.grow (redrawn wr dq) osq)) := hB.out.trans ((below_regrown wr dq osq).mono hB.out.size)
      generalize Go.Sort.grow (redrawn wr dq) osq = w1 at hbq ⊢
      clear g0 g1 g2 g3
      go_wp2
      go_roundw
      case rel => exact ⟨k + 1, by omega, by go_num, hbq⟩
      case measure => simp [intOf]; omega
    · have : k = len := by omega
      subst this
      go_wp2
      go_ret
      exact ⟨rfl, hB.out⟩
theorem lwNamed_any (a a2 : Option Addr) (len cap cap2 : Nat) (l : List (Int × Int)) (hl : len ≤ 1048576) (w : World) (h1 : Prs a len l w) (h2 : Prs a2 len l w) :
    Calls Tryd.prog 42 #[.slice a len cap, .slice a2 len cap2] w fun e w' => e = .returned (.bool true) ∧ Below w.heap.size w w' := by
  by_cases h0 : len = 0
  · subst h0
    exact lwNamed_none a a2 cap cap2 w
  · obtain ⟨b, off, rfl, hb, hc⟩ := h1.2 (by omega)
    obtain ⟨b2, off2, rfl, hb2, hc2⟩ := h2.2 (by omega)
    exact lwNamed_some b off b2 off2 len cap cap2 l hl w hb hb2 hc hc2
set_option maxHeartbeats 4000000 in
/-- laws.lwAcl of two that hold the same. -/
theorem lwAcl_any (u g o : Int) (au au2 : Option Addr) (lu cu cu2 : Nat) (ag ag2 : Option Addr) (lg cg cg2 : Nat) (r : Bool) (m : Int) (us gs : List (Int × Int)) (h1 : lu ≤ 1048576) (h2 : lg ≤ 1048576) (w : World) (hu : Prs au lu us w) (hu2 : Prs au2 lu us w) (hg : Prs ag lg gs w) (hg2 : Prs ag2 lg gs w) :
    Calls Tryd.prog 13 #[.agg #[.int .i64 u, .int .i64 g, .int .i64 o, .slice au lu cu, .slice ag lg cg, .bool r, .int .i64 m], .agg #[.int .i64 u, .int .i64 g, .int .i64 o, .slice au2 lu cu2, .slice ag2 lg cg2, .bool r, .int .i64 m]] w fun e w' => e = .returned (.bool true) ∧ Below w.heap.size w w' := by
  have hc : Hid (∀ w', Below w.heap.size w w' → Calls Tryd.prog 42 #[.slice au lu cu, .slice au2 lu cu2] w' fun e w'' => e = .returned (.bool true) ∧ Below w'.heap.size w' w'') := (fun w' hb => lwNamed_any au au2 lu cu cu2 us h1 w' (hu.below hb) (hu2.below hb))
  have hd : Hid (∀ w', Below w.heap.size w w' → Calls Tryd.prog 42 #[.slice ag lg cg, .slice ag2 lg cg2] w' fun e w'' => e = .returned (.bool true) ∧ Below w'.heap.size w' w'') := (fun w' hb => lwNamed_any ag ag2 lg cg cg2 gs h2 w' (hg.below hb) (hg2.below hb))
  clear hu hu2 hg hg2
  go_enter Tryd.func13, Tryd.ntmps13
  go_wp2_with fail
  refine (hc.out _ (bl2N _ _ _)).mono ?_
  rintro e w1 ⟨rfl, hb⟩
  have hbW : Hid (Below w.heap.size w w1) := (bl2N _ _ _).trans (hb.mono (by simp; omega))
  have hz : w.heap.size + 1 < w1.heap.size := by have := hb.size; simp at this; omega
  obtain ⟨hcl, hfz⟩ := bl_cellN hb
  clear hb hc
  simp at hcl hfz
  go_wp2_with fail
  refine (hd.out _ hbW.out).mono ?_
  rintro e w2 ⟨rfl, hb⟩
  have hbW2 : Hid (Below w.heap.size w w2) := hbW.out.trans (hb.mono hbW.out.size)
  have hcl2 : ∀ b o, b < w.heap.size + 1 + 1 → w2.cell? ⟨b, o, none⟩ = w1.cell? ⟨b, o, none⟩ := fun b o h => hb.cell (p := ⟨b, o, none⟩) (by show b < _; omega)
  clear hb hd hz
  go_wp2
  go_ret
  exact ⟨rfl, hbW2.out⟩
end Go.Proofs.YthgcobglecomcaaDoor
/- The law FnDefault. -/
namespace Go.Proofs.YthgcobglecomcaaDoor
open Go.RowKit Go.PlainAid Go.Deep
set_option linter.unusedVariables false
theorem below_drewDf {B : Nat} {w w' : World} (h : Below B w w') : Below B w w'.drew := h.trans ⟨rfl, rfl, rfl, Nat.le_refl _, fun _ _ => rfl⟩
set_option maxRecDepth 100000 in
theorem def_long (a0 : Option Addr) (len0 cap0 : Nat) (h0 : 1048576 < (len0 : Int)) (w : World) :
    Calls Tryd.prog 3 #[.slice a0 len0 cap0] w fun e w' => e = .returned (.bool true) ∧ Below w.heap.size w w' := by
  go_enter Tryd.func3, Tryd.ntmps3
  go_wp2
  go_ret
  exact ⟨rfl, Below.refl _ _⟩
theorem fldAclDf (v0 v1 v2 v3 v4 v5 v6 v7 : Value) (w : World) : (Instr.field 32 (.agg #[v0, v1, v2, v3, v4, v5, v6, v7]) 0).run Tryd.prog w = .ok (.agg #[v0, v1, v2, v3, v4, v5, v6]) w := by kernel_rfl
attribute [local go_sem] fldAclDf
theorem box8_newDf (w : World) (v0 v1 v2 v3 v4 v5 v6 v7 : Value) (t : TypeId) : Box8 (w.alloc (.cells #[v0, v1, v2, v3, v4, v5, v6, v7] t)) w.heap.size v0 v1 v2 v3 v4 v5 v6 v7 := box8_new w v0 v1 v2 v3 v4 v5 v6 v7 t
set_option maxRecDepth 100000 in
set_option maxHeartbeats 8000000 in
theorem def_short (a : Option Addr) (la ca : Nat) (f : Nat → Int) (w : World) (hp : PlW w) (hc : Code a la f w.heap.size w) :
    Calls Tryd.prog 3 #[.slice a la ca] w fun e w' => e = .returned (.bool true) ∧ Below w.heap.size w w' := by
  have h1 := hc.1
  have n1 : ¬ (1048576 : Int) < (la : Int) := by omega
  have HC : Hid (Code a la f w.heap.size w) := hc
  have HPW : Hid (PlW w) := hp
  clear hc h1 hp
  go_enter Tryd.func3, Tryd.ntmps3
  go_wp2_with fail
  refine (dDrawDefaultNfs_any a la ca f _ HC.out).mono ?_
  rintro e w1 ⟨A, aU, cU, aG, cG, rfl, hI1, hb1⟩
  have hbA := bel_alloc w1 (.cells #[.int .i64 A.u, .int .i64 A.g, .int .i64 A.o, .slice aU A.us.length cU, .slice aG A.gs.length cG, .bool A.r, .int .i64 A.m] 25)
  have hX2 : Hid (Box7 (w1.alloc (.cells #[.int .i64 A.u, .int .i64 A.g, .int .i64 A.o, .slice aU A.us.length cU, .slice aG A.gs.length cG, .bool A.r, .int .i64 A.m] 25)) w1.heap.size (.int .i64 A.u) (.int .i64 A.g) (.int .i64 A.o) (.slice aU A.us.length cU) (.slice aG A.gs.length cG) (.bool A.r) (.int .i64 A.m)) := box7_new w1 (.int .i64 A.u) (.int .i64 A.g) (.int .i64 A.o) (.slice aU A.us.length cU) (.slice aG A.gs.length cG) (.bool A.r) (.int .i64 A.m) 25
  have hI2 : Hid (AclIs (w1.alloc (.cells #[.int .i64 A.u, .int .i64 A.g, .int .i64 A.o, .slice aU A.us.length cU, .slice aG A.gs.length cG, .bool A.r, .int .i64 A.m] 25)) A aU aG) := hI1.below hbA
  have hW2 : Hid (Below w.heap.size w (w1.alloc (.cells #[.int .i64 A.u, .int .i64 A.g, .int .i64 A.o, .slice aU A.us.length cU, .slice aG A.gs.length cG, .bool A.r, .int .i64 A.m] 25))) := Below.on hb1 hbA
  have hP2 : Hid (PlW (w1.alloc (.cells #[.int .i64 A.u, .int .i64 A.g, .int .i64 A.o, .slice aU A.us.length cU, .slice aG A.gs.length cG, .bool A.r, .int .i64 A.m] 25))) := HPW.out.below hW2.out
  clear hI1 hb1 hbA HPW HC
  go_upto_region 4 with fail
  generalize w1.alloc (.cells #[.int .i64 A.u, .int .i64 A.g, .int .i64 A.o, .slice aU A.us.length cU, .slice aG A.gs.length cG, .bool A.r, .int .i64 A.m] 25) = w2 at hX2 hI2 hW2 hP2 ⊢
  generalize w1.heap.size = X at hX2 ⊢
  obtain ⟨hlu, hlg⟩ : A.us.length ≤ 1048576 ∧ A.gs.length ≤ 1048576 := ⟨by have := hI2.out.lu; omega, by have := hI2.out.lg; omega⟩
  have hdl := dfN_len A
  have CI : Hid (Calls Tryd.prog 6 #[.agg #[.int .i64 A.u, .int .i64 A.g, .int .i64 A.o, .slice aU A.us.length cU, .slice aG A.gs.length cG, .bool A.r, .int .i64 A.m]] w2 (AnsL (dfN A) w2)) := iDefaultNfs_any A aU cU aG cG w2 hP2.out hI2.out.u hI2.out.g
  have CS : Hid (∀ w', Below w2.heap.size w2 w' → Calls Tryd.prog 8 #[.agg #[.int .i64 A.u, .int .i64 A.g, .int .i64 A.o, .slice aU A.us.length cU, .slice aG A.gs.length cG, .bool A.r, .int .i64 A.m]] w' (AnsL (dfN A) w')) := (fun w' hb => sDefaultNfs_ans A aU cU aG cG hlu hlg w' (hI2.out.u.below hb) (hI2.out.g.below hb))
  have CR : Hid (∀ w', Below w2.heap.size w2 w' → Calls Tryd.prog 9 #[.agg #[.int .i64 A.u, .int .i64 A.g, .int .i64 A.o, .slice aU A.us.length cU, .slice aG A.gs.length cG, .bool A.r, .int .i64 A.m]] w' fun e w'' => e = .returned (.bool A.B) ∧ Below w'.heap.size w' w'') := (fun w' hb => sAclRight_any A.u A.g A.o aU _ cU aG _ cG A.r A.m A.us A.gs hlu hlg w' (hI2.out.u.below hb) (hI2.out.g.below hb))
  obtain ⟨xl, x0, x1, x2, x3, x4, x5, x6⟩ := hX2.out
  go_wp2_with fail
  refine CI.out.mono ?_
  intro e w3 hA
  obtain ⟨da, dc, rfl, hN⟩ := hA.out
  have HD3 : Hid (Acs da (dfN A).length (dfN A) w3) := hN.own.acs
  have HB3 : Hid (Below w2.heap.size w2 w3) := hN.bel
  clear hA hN CI x0 x1 x2 x3 x4 x5 x6 xl
  obtain ⟨xl, x0, x1, x2, x3, x4, x5, x6⟩ := hX2.out.below HB3.out
  go_wp2_with fail
  refine (CS.out _ HB3.out).mono ?_
  intro e w4 hA
  obtain ⟨sa, sc, rfl, hN⟩ := hA.out
  have HS4 : Hid (Acs sa (dfN A).length (dfN A) w4) := hN.own.acs
  have HD4 : Hid (Acs da (dfN A).length (dfN A) w4) := HD3.out.below hN.bel
  have HB4 : Hid (Below w2.heap.size w2 w4) := Below.on HB3.out hN.bel
  clear hA hN HD3 HB3 x0 x1 x2 x3 x4 x5 x6 xl
  obtain ⟨xl, x0, x1, x2, x3, x4, x5, x6⟩ := hX2.out.below HB4.out
  go_wp2_with fail
  refine (lwAces_any da sa _ dc sc (dfN A) (by omega) _ HD4.out HS4.out).mono ?_
  rintro e w5 ⟨rfl, hb5⟩
  have HD5 : Hid (Acs da (dfN A).length (dfN A) w5) := HD4.out.below hb5
  have HB5 : Hid (Below w2.heap.size w2 w5) := Below.on HB4.out hb5
  clear hb5 HS4 HD4 HB4 x0 x1 x2 x3 x4 x5 x6 xl
  obtain ⟨xl, x0, x1, x2, x3, x4, x5, x6⟩ := hX2.out.below HB5.out
  go_wp2_with fail
  refine (CR.out _ HB5.out).mono ?_
  rintro e w6 ⟨rfl, hb6⟩
  have HD6 : Hid (Acs da (dfN A).length (dfN A) w6) := HD5.out.below hb6
  have HB6 : Hid (Below w2.heap.size w2 w6) := Below.on HB5.out hb6
  clear hb6 HD5 HB5 CR x0 x1 x2 x3 x4 x5 x6 xl
  obtain ⟨xl, x0, x1, x2, x3, x4, x5, x6⟩ := hX2.out.below HB6.out
  cases hR : A.B
  · go_wp2_with fail
    refine (CS.out _ HB6.out).mono ?_
    intro e w7 hA
    obtain ⟨sa, sc, rfl, hN⟩ := hA.out
    have HS7 : Hid (Acs sa (dfN A).length (dfN A) w7) := hN.own.acs
    have HD7 : Hid (Acs da (dfN A).length (dfN A) w7) := HD6.out.below hN.bel
    have HB7 : Hid (Below w2.heap.size w2 w7) := Below.on HB6.out hN.bel
    clear hA hN HD6 HB6
    go_wp2_with fail
    refine (lwAces_any da sa _ dc sc (dfN A) (by omega) _ HD7.out HS7.out).mono ?_
    rintro e w8 ⟨rfl, hb8⟩
    have HB8 : Hid (Below w2.heap.size w2 w8) := Below.on HB7.out hb8
    clear hb8 HS7 HD7 HB7
    go_wp2
    go_ret
    exact ⟨rfl, Below.on hW2.out HB8.out⟩
  · have eT : toN A = nfsA A := by rw [toN, if_pos hR]
    have eD : bornL false (dfN A) = nfsA A := by rw [dfN, eT]; exact born_def (nfs_ok hR) (nfs_len32 hR)
    have hnl := nfs_len32 hR
    have CB : Hid (Calls Tryd.prog 10 #[.agg #[.int .i64 A.u, .int .i64 A.g, .int .i64 A.o, .slice aU A.us.length cU, .slice aG A.gs.length cG, .bool A.r, .int .i64 A.m], .int .i64 511] w6 (fun e w' => ∃ a1 c1 a2 c2, e = .returned (.agg #[.int .i64 A.u, .int .i64 A.g, .int .i64 A.o, .slice a1 A.us.length c1, .slice a2 A.gs.length c2, .bool A.r, .int .i64 A.m, .int .i64 0]) ∧ Prs a1 A.us.length A.us w' ∧ Prs a2 A.gs.length A.gs w' ∧ Below w6.heap.size w6 w')) := (by
      have h := iAclBorn_any A.u A.g A.o aU _ cU aG _ cG A.r A.m A.us A.gs 511 w6 (hI2.out.u.below HB6.out) (hI2.out.g.below HB6.out)
      rw [born_all hR] at h
      refine h.mono ?_
      rintro e w' ⟨a1, c1, a2, c2, he, hN⟩
      exact ⟨a1, c1, a2, c2, he, hN.ou.prs, hN.og.prs, hN.bel⟩)
    clear CS
    go_wp2_with fail
    refine CB.out.mono ?_
    rintro e w7 ⟨a1, c1, a2, c2, rfl, hp1, hp2, hb7⟩
    clear CB x0 x1 x2 x3 x4 x5 x6 xl
    have hbY := bel_alloc w7 (.cells #[.int .i64 A.u, .int .i64 A.g, .int .i64 A.o, .slice a1 A.us.length c1, .slice a2 A.gs.length c2, .bool A.r, .int .i64 A.m, .int .i64 0] 32)
    have hY8 : Hid (Box8 (w7.alloc (.cells #[.int .i64 A.u, .int .i64 A.g, .int .i64 A.o, .slice a1 A.us.length c1, .slice a2 A.gs.length c2, .bool A.r, .int .i64 A.m, .int .i64 0] 32)) w7.heap.size (.int .i64 A.u) (.int .i64 A.g) (.int .i64 A.o) (.slice a1 A.us.length c1) (.slice a2 A.gs.length c2) (.bool A.r) (.int .i64 A.m) (.int .i64 0)) := box8_new w7 _ _ _ _ _ _ _ _ _
    have HB8 : Hid (Below w2.heap.size w2 (w7.alloc (.cells #[.int .i64 A.u, .int .i64 A.g, .int .i64 A.o, .slice a1 A.us.length c1, .slice a2 A.gs.length c2, .bool A.r, .int .i64 A.m, .int .i64 0] 32))) := Below.on (Below.on HB6.out hb7) hbY
    have HD8 : Hid (Acs da (dfN A).length (dfN A) (w7.alloc (.cells #[.int .i64 A.u, .int .i64 A.g, .int .i64 A.o, .slice a1 A.us.length c1, .slice a2 A.gs.length c2, .bool A.r, .int .i64 A.m, .int .i64 0] 32))) := (HD6.out.below hb7).below hbY
    have HU8 : Hid (Prs a1 A.us.length A.us (w7.alloc (.cells #[.int .i64 A.u, .int .i64 A.g, .int .i64 A.o, .slice a1 A.us.length c1, .slice a2 A.gs.length c2, .bool A.r, .int .i64 A.m, .int .i64 0] 32))) := hp1.below hbY
    have HG8 : Hid (Prs a2 A.gs.length A.gs (w7.alloc (.cells #[.int .i64 A.u, .int .i64 A.g, .int .i64 A.o, .slice a1 A.us.length c1, .slice a2 A.gs.length c2, .bool A.r, .int .i64 A.m, .int .i64 0] 32))) := hp2.below hbY
    clear hp1 hp2 hb7 hbY HD6 HB6
    go_upto_region 8 with fail
    generalize w7.alloc (.cells #[.int .i64 A.u, .int .i64 A.g, .int .i64 A.o, .slice a1 A.us.length c1, .slice a2 A.gs.length c2, .bool A.r, .int .i64 A.m, .int .i64 0] 32) = w8 at hY8 HB8 HD8 HU8 HG8 ⊢
    generalize w7.heap.size = Y at hY8 ⊢
    have hX8 : Hid (Box7 w8 X (.int .i64 A.u) (.int .i64 A.g) (.int .i64 A.o) (.slice aU A.us.length cU) (.slice aG A.gs.length cG) (.bool A.r) (.int .i64 A.m)) := hX2.out.below HB8.out
    have HNB : Hid (∀ w', Below w8.heap.size w8 w' → Calls Tryd.prog 11 #[.slice da (dfN A).length dc, .bool false] w' fun e w'' => ∃ p c, e = .returned (.slice p (nfsA A).length c) ∧ Acs p (nfsA A).length (nfsA A) w'' ∧ Below w'.heap.size w' w'') := (fun w' hb => by
      have h := iNfsBorn_any da _ dc (dfN A) false w' (HD8.out.below hb)
      rw [eD] at h
      exact h.mono (fun e w'' ⟨p, c, he, hN⟩ => ⟨p, c, he, hN.own.acs, hN.bel⟩))
    have HTN : Hid (∀ w', Below w8.heap.size w8 w' → Calls Tryd.prog 12 #[.agg #[.int .i64 A.u, .int .i64 A.g, .int .i64 A.o, .slice a1 A.us.length c1, .slice a2 A.gs.length c2, .bool A.r, .int .i64 A.m]] w' fun e w'' => ∃ p c, e = .returned (.slice p (nfsA A).length c) ∧ Acs p (nfsA A).length (nfsA A) w'' ∧ Below w'.heap.size w' w'') := (fun w' hb => by
      have h := iToNfs_any A a1 c1 a2 c2 w' (hP2.out.below (Below.on HB8.out hb)) (HU8.out.below hb) (HG8.out.below hb)
      rw [eT] at h
      exact h.mono (fun e w'' ⟨p, c, he, hN⟩ => ⟨p, c, he, hN.own.acs, hN.bel⟩))
    have HLW : Hid (∀ (p : Option Addr) (c : Nat) (q : Option Addr) (d : Nat) w', Acs p (nfsA A).length (nfsA A) w' → Acs q (nfsA A).length (nfsA A) w' → Calls Tryd.prog 7 #[.slice p (nfsA A).length c, .slice q (nfsA A).length d] w' fun e w'' => e = .returned (.bool true) ∧ Below w'.heap.size w' w'') := (fun p c q d w' h1 h2 => lwAces_any p q _ c d (nfsA A) (by omega) w' h1 h2)
    have HLA : Hid (∀ w', Below w8.heap.size w8 w' → Calls Tryd.prog 13 #[.agg #[.int .i64 A.u, .int .i64 A.g, .int .i64 A.o, .slice a1 A.us.length c1, .slice a2 A.gs.length c2, .bool A.r, .int .i64 A.m], .agg #[.int .i64 A.u, .int .i64 A.g, .int .i64 A.o, .slice aU A.us.length cU, .slice aG A.gs.length cG, .bool A.r, .int .i64 A.m]] w' fun e w'' => e = .returned (.bool true) ∧ Below w'.heap.size w' w'') := (fun w' hb => lwAcl_any A.u A.g A.o a1 aU _ c1 cU a2 aG _ c2 cG A.r A.m A.us A.gs hlu hlg w' (HU8.out.below hb) (hI2.out.u.below (Below.on HB8.out hb)) (HG8.out.below hb) (hI2.out.g.below (Below.on HB8.out hb)))
    have HF : Hid (Below w.heap.size w w8) := Below.on hW2.out HB8.out
    clear hR eT eD HD8 HU8 HG8 hI2 hP2 hX2 hlu hlg hdl hnl HB8 hW2
    generalize nfsA A = L at HNB HTN HLW
    generalize dfN A = DL at HNB ⊢
    have XX := hX8
    have YY := hY8
    obtain ⟨xl, x0, x1, x2, x3, x4, x5, x6⟩ := hX8.out
    obtain ⟨yl, y0, y1, y2, y3, y4, y5, y6, y7⟩ := hY8.out
    clear hX8 hY8
    go_region_held3 (fun w' => (w'.cell? ⟨X, 0, none⟩ = some (.int .i64 A.u) ∧ w'.cell? ⟨X, 1, none⟩ = some (.int .i64 A.g) ∧ w'.cell? ⟨X, 2, none⟩ = some (.int .i64 A.o) ∧ w'.cell? ⟨X, 3, none⟩ = some (.slice aU A.us.length cU) ∧ w'.cell? ⟨X, 4, none⟩ = some (.slice aG A.gs.length cG) ∧ w'.cell? ⟨X, 5, none⟩ = some (.bool A.r) ∧ w'.cell? ⟨X, 6, none⟩ = some (.int .i64 A.m)) ∧ w'.cell? ⟨Y, 0, none⟩ = some (.int .i64 A.u) ∧ w'.cell? ⟨Y, 1, none⟩ = some (.int .i64 A.g) ∧ w'.cell? ⟨Y, 2, none⟩ = some (.int .i64 A.o) ∧ w'.cell? ⟨Y, 3, none⟩ = some (.slice a1 A.us.length c1) ∧ w'.cell? ⟨Y, 4, none⟩ = some (.slice a2 A.gs.length c2) ∧ w'.cell? ⟨Y, 5, none⟩ = some (.bool A.r) ∧ w'.cell? ⟨Y, 6, none⟩ = some (.int .i64 A.m) ∧ w'.cell? ⟨Y, 7, none⟩ = some (.int .i64 0)) (go_keep)
      (first
        | (go_at_call 13; refine Calls.mono (HLA.out _ hBc.out) ?_; rintro e wd ⟨rfl, hbd⟩; have hBd : Hid (Below w8.heap.size w8 wd) := Below.on hBc.out hbd; obtain ⟨_, pd0, pd1, pd2, pd3, pd4, pd5, pd6⟩ := XX.out.below hBd.out; obtain ⟨_, qd0, qd1, qd2, qd3, qd4, qd5, qd6, qd7⟩ := YY.out.below hBd.out)
        | (go_at_call 7; refine Calls.mono (HLW.out _ _ _ _ _ HPa.out HPb.out) ?_; rintro e wc ⟨rfl, hbc⟩; have hBc : Hid (Below w8.heap.size w8 wc) := Below.on hBb.out hbc; obtain ⟨_, pc0, pc1, pc2, pc3, pc4, pc5, pc6⟩ := XX.out.below hBc.out; obtain ⟨_, qc0, qc1, qc2, qc3, qc4, qc5, qc6, qc7⟩ := YY.out.below hBc.out)
        | (go_at_call 12; refine Calls.mono (HTN.out _ hBa.out) ?_; rintro e wb ⟨ta, tc, rfl, hpb, hbb⟩; have HPb : Hid (Acs ta L.length L wb) := hpb; have HPa : Hid (Acs na L.length L wb) := HP0.out.below hbb; have hBb : Hid (Below w8.heap.size w8 wb) := Below.on hBa.out hbb; obtain ⟨_, pb0, pb1, pb2, pb3, pb4, pb5, pb6⟩ := XX.out.below hBb.out; obtain ⟨_, qb0, qb1, qb2, qb3, qb4, qb5, qb6, qb7⟩ := YY.out.below hBb.out)
        | (go_at_call 11; refine Calls.mono (HNB.out _ ?hs) ?_; (case hs => (first | exact Below.refl _ _ | exact below_drewDf (Below.refl _ _))); rintro e wa ⟨na, nc, rfl, hpa, hba⟩; have HP0 : Hid (Acs na L.length L wa) := hpa; have hBa : Hid (Below w8.heap.size w8 wa) := Below.on (below_drewDf (Below.refl _ _)) ⟨hba.os, hba.tape, hba.output, hba.size, hba.block⟩; obtain ⟨_, pa0, pa1, pa2, pa3, pa4, pa5, pa6⟩ := XX.out.below hBa.out; obtain ⟨_, qa0, qa1, qa2, qa3, qa4, qa5, qa6, qa7⟩ := YY.out.below hBa.out))
    go_wp2
    go_ret
    exact ⟨rfl, Below.on HF.out hBd.out⟩
end Go.Proofs.YthgcobglecomcaaDoor
