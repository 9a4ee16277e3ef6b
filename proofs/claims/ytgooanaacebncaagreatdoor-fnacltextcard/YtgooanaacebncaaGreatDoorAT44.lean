/- Laid together: LwAcl, LwOut, AclTextW. -/
import Derived.Test.YtgooanaacebncaaGreatDoorAT38
import Derived.Test.YtgooanaacebncaaGreatDoorAT40
import Derived.Test.YtgooanaacebncaaGreatDoorAT43
/- laws.lwNamed, laws.lwAcl of two that hold the same. -/
namespace Go.Proofs.YtgooanaacebncaaGreatDoor
open Go.RowKit Go.PlainAid Go.Deep
set_option linter.unusedVariables false
set_option maxHeartbeats 2000000 in
theorem lwNamed_none (a a2 : Option Addr) (cap cap2 : Nat) (w : World) :
    Calls Tryz.prog 39 #[.slice a 0 cap, .slice a2 0 cap2] w fun e w' => e = .returned (.bool true) ∧ Below w.heap.size w w' := by
  go_enter Tryz.func39, Tryz.ntmps39
  go_wp2
  go_rounds 1
  go_ret
  exact ⟨rfl, Below.refl _ _⟩
set_option maxHeartbeats 4000000 in
theorem lwNamed_some (b off b2 off2 len cap cap2 : Nat) (l : List (Int × Int)) (hl : len ≤ 1048576) (w : World) (hb : b < w.heap.size) (hb2 : b2 < w.heap.size)
    (hc : Hid (∀ i, i < len → w.cell? ⟨b, off + i * 2, none⟩ = some (.int .i64 (idAt l i)) ∧ w.cell? ⟨b, off + i * 2 + 1, none⟩ = some (.int .i64 (btAt l i))))
    (hc2 : Hid (∀ i, i < len → w.cell? ⟨b2, off2 + i * 2, none⟩ = some (.int .i64 (idAt l i)) ∧ w.cell? ⟨b2, off2 + i * 2 + 1, none⟩ = some (.int .i64 (btAt l i)))) :
    Calls Tryz.prog 39 #[.slice (some ⟨b, off, none⟩) len cap, .slice (some ⟨b2, off2, none⟩) len cap2] w fun e w' => e = .returned (.bool true) ∧ Below w.heap.size w w' := by
  go_enter Tryz.func39, Tryz.ntmps39
  go_wp2
  go_loopw [5] (fun i wr => ∃ (k : Nat), k ≤ len ∧ i = .int .i64 k ∧ Hid (Below w.heap.size w wr)) (fun i _ => len - (intOf i).toNat)
  case atStart => exact ⟨0, Nat.zero_le _, rfl, Below.refl _ _⟩
  case round =>
    obtain ⟨k, hk, rfl, hB⟩ := hrel
    by_cases hlt : k < len
    · have g0 : ∀ d os, (Go.Sort.grow (redrawn wr d) os).cell? ⟨b, off + k * 2, none⟩ = some (.int .i64 (idAt l k)) := fun d os => cell_regrown ((hB.out.cell (p := ⟨b, off + k * 2, none⟩) hb).trans (hc.out k hlt).1) d os
      have g1 : ∀ d os, (Go.Sort.grow (redrawn wr d) os).cell? ⟨b, off + k * 2 + 1, none⟩ = some (.int .i64 (btAt l k)) := fun d os => cell_regrown ((hB.out.cell (p := ⟨b, off + k * 2 + 1, none⟩) hb).trans (hc.out k hlt).2) d os
      have g2 : ∀ d os, (Go.Sort.grow (redrawn wr d) os).cell? ⟨b2, off2 + k * 2, none⟩ = some (.int .i64 (idAt l k)) := fun d os => cell_regrown ((hB.out.cell (p := ⟨b2, off2 + k * 2, none⟩) hb2).trans (hc2.out k hlt).1) d os
      have g3 : ∀ d os, (Go.Sort.grow (redrawn wr d) os).cell? ⟨b2, off2 + k * 2 + 1, none⟩ = some (.int .i64 (btAt l k)) := fun d os => cell_regrown ((hB.out.cell (p := ⟨b2, off2 + k * 2 + 1, none⟩) hb2).trans (hc2.out k hlt).2) d os
      have hlt' : (k : Int) < (len : Int) := by omega
      go_wp2
      refine wp_region_quiet_below (by kernel_rfl) (by kernel_rfl) ?_
      repeat (go_big_quiet_step (fail))
      refine wpQuiet_nil ?_
      intro _ hw'
      obtain ⟨⟨dq, osq⟩, hw''⟩ := hw'
      subst hw''
      have hbq : Hid (Below w.heap.size w (Go.Sort.grow (redrawn wr dq) osq)) := hB.out.trans ((below_regrown wr dq osq).mono hB.out.size)
      generalize Go.Sort.grow (redrawn wr dq) osq = w1 at hbq ⊢
      clear g0 g1 g2 g3
      go_wp2
      go_roundw
      case rel => exact ⟨k + 1, by omega, by go_num, hbq⟩
      case measure => simp [intOf]; omega
    · have : k = len := by omega
      subst this
      go_wp2
      go_ret
      exact ⟨rfl, hB.out⟩
theorem lwNamed_any (a a2 : Option Addr) (len cap cap2 : Nat) (l : List (Int × Int)) (hl : len ≤ 1048576) (w : World) (h1 : Prs a len l w) (h2 : Prs a2 len l w) :
    Calls Tryz.prog 39 #[.slice a len cap, .slice a2 len cap2] w fun e w' => e = .returned (.bool true) ∧ Below w.heap.size w w' := by
  by_cases h0 : len = 0
  · subst h0
    exact lwNamed_none a a2 cap cap2 w
  · obtain ⟨b, off, rfl, hb, hc⟩ := h1.2 (by omega)
    obtain ⟨b2, off2, rfl, hb2, hc2⟩ := h2.2 (by omega)
    exact lwNamed_some b off b2 off2 len cap cap2 l hl w hb hb2 hc hc2
set_option maxHeartbeats 4000000 in
/-- laws.lwAcl of two that hold the same. -/
theorem lwAcl_any (u g o : Int) (au au2 : Option Addr) (lu cu cu2 : Nat) (ag ag2 : Option Addr) (lg cg cg2 : Nat) (r : Bool) (m : Int) (us gs : List (Int × Int)) (h1 : lu ≤ 1048576) (h2 : lg ≤ 1048576) (w : World) (hu : Prs au lu us w) (hu2 : Prs au2 lu us w) (hg : Prs ag lg gs w) (hg2 : Prs ag2 lg gs w) :
    Calls Tryz.prog 17 #[.agg #[.int .i64 u, .int .i64 g, .int .i64 o, .slice au lu cu, .slice ag lg cg, .bool r, .int .i64 m], .agg #[.int .i64 u, .int .i64 g, .int .i64 o, .slice au2 lu cu2, .slice ag2 lg cg2, .bool r, .int .i64 m]] w fun e w' => e = .returned (.bool true) ∧ Below w.heap.size w w' := by
  have hc : Hid (∀ w', Below w.heap.size w w' → Calls Tryz.prog 39 #[.slice au lu cu, .slice au2 lu cu2] w' fun e w'' => e = .returned (.bool true) ∧ Below w'.heap.size w' w'') := (fun w' hb => lwNamed_any au au2 lu cu cu2 us h1 w' (hu.below hb) (hu2.below hb))
  have hd : Hid (∀ w', Below w.heap.size w w' → Calls Tryz.prog 39 #[.slice ag lg cg, .slice ag2 lg cg2] w' fun e w'' => e = .returned (.bool true) ∧ Below w'.heap.size w' w'') := (fun w' hb => lwNamed_any ag ag2 lg cg cg2 gs h2 w' (hg.below hb) (hg2.below hb))
  clear hu hu2 hg hg2
  go_enter Tryz.func17, Tryz.ntmps17
  go_wp2_with fail
  refine (hc.out _ (bl2N _ _ _)).mono ?_
  rintro e w1 ⟨rfl, hb⟩
  have hbW : Hid (Below w.heap.size w w1) := (bl2N _ _ _).trans (hb.mono (by simp; omega))
  have hz : w.heap.size + 1 < w1.heap.size := by have := hb.size; simp at this; omega
  obtain ⟨hcl, hfz⟩ := bl_cellN hb
  clear hb hc
  simp at hcl hfz
  go_wp2_with fail
  refine (hd.out _ hbW.out).mono ?_
  rintro e w2 ⟨rfl, hb⟩
  have hbW2 : Hid (Below w.heap.size w w2) := hbW.out.trans (hb.mono hbW.out.size)
  have hcl2 : ∀ b o, b < w.heap.size + 1 + 1 → w2.cell? ⟨b, o, none⟩ = w1.cell? ⟨b, o, none⟩ := fun b o h => hb.cell (p := ⟨b, o, none⟩) (by show b < _; omega)
  clear hb hd hz
  go_wp2
  go_ret
  exact ⟨rfl, hbW2.out⟩
theorem bl2O (w : World) (o1 o2 : Obj) : Below w.heap.size w ((w.alloc o1).alloc o2) := ((Below.refl _ _).alloc (Nat.le_refl _) _).alloc (by simp) _
set_option maxRecDepth 100000 in
set_option maxHeartbeats 4000000 in
theorem lwOut_any (x : Ans) (a1 : Option Addr) (c1 : Nat) (a2 : Option Addr) (c2 : Nat) (b1 : Option Addr) (d1 : Nat) (b2 : Option Addr) (d2 : Nat) (hl1 : x.us.length ≤ 1048576) (hl2 : x.gs.length ≤ 1048576) (hR : x.code = 0 → aclB x.u x.g x.o x.us x.gs x.r x.m = true) (w : World) (h1 : Prs a1 x.us.length x.us w) (h2 : Prs a2 x.gs.length x.gs w) (h3 : Prs b1 x.us.length x.us w) (h4 : Prs b2 x.gs.length x.gs w) :
    Calls Tryz.prog 14 #[.agg #[.int .i64 x.u, .int .i64 x.g, .int .i64 x.o, .slice a1 x.us.length c1, .slice a2 x.gs.length c2, .bool x.r, .int .i64 x.m, .int .i64 x.code], .agg #[.int .i64 x.u, .int .i64 x.g, .int .i64 x.o, .slice b1 x.us.length d1, .slice b2 x.gs.length d2, .bool x.r, .int .i64 x.m, .int .i64 x.code]] w fun e w' => e = .returned (.bool true) ∧ Below w.heap.size w w' := by
  have hX := (box8_new w (.int .i64 x.u) (.int .i64 x.g) (.int .i64 x.o) (.slice a1 x.us.length c1) (.slice a2 x.gs.length c2) (.bool x.r) (.int .i64 x.m) (.int .i64 x.code) 30).below (bel_alloc _ (.cells #[.int .i64 x.u, .int .i64 x.g, .int .i64 x.o, .slice b1 x.us.length d1, .slice b2 x.gs.length d2, .bool x.r, .int .i64 x.m, .int .i64 x.code] 30))
  have HX : Hid _ := hX
  have HB : Hid (Below w.heap.size w ((w.alloc (.cells #[.int .i64 x.u, .int .i64 x.g, .int .i64 x.o, .slice a1 x.us.length c1, .slice a2 x.gs.length c2, .bool x.r, .int .i64 x.m, .int .i64 x.code] 30)).alloc (.cells #[.int .i64 x.u, .int .i64 x.g, .int .i64 x.o, .slice b1 x.us.length d1, .slice b2 x.gs.length d2, .bool x.r, .int .i64 x.m, .int .i64 x.code] 30))) := bl2O _ _ _
  have CL : Hid (∀ w', Below w.heap.size w w' → Calls Tryz.prog 17 #[.agg #[.int .i64 x.u, .int .i64 x.g, .int .i64 x.o, .slice a1 x.us.length c1, .slice a2 x.gs.length c2, .bool x.r, .int .i64 x.m], .agg #[.int .i64 x.u, .int .i64 x.g, .int .i64 x.o, .slice b1 x.us.length d1, .slice b2 x.gs.length d2, .bool x.r, .int .i64 x.m]] w' fun e w'' => e = .returned (.bool true) ∧ Below w'.heap.size w' w'') := (fun w' hb => lwAcl_any x.u x.g x.o a1 b1 _ c1 d1 a2 b2 _ c2 d2 x.r x.m x.us x.gs hl1 hl2 w' (h1.below hb) (h3.below hb) (h2.below hb) (h4.below hb))
  have CR : Hid (∀ w', Below w.heap.size w w' → Calls Tryz.prog 31 #[.agg #[.int .i64 x.u, .int .i64 x.g, .int .i64 x.o, .slice a1 x.us.length c1, .slice a2 x.gs.length c2, .bool x.r, .int .i64 x.m]] w' fun e w'' => e = .returned (.bool (aclB x.u x.g x.o x.us x.gs x.r x.m)) ∧ Below w'.heap.size w' w'') := (fun w' hb => sAclRight_any x.u x.g x.o a1 _ c1 a2 _ c2 x.r x.m x.us x.gs hl1 hl2 w' (h1.below hb) (h2.below hb))
  have HR : Hid (x.code = 0 → aclB x.u x.g x.o x.us x.gs x.r x.m = true) := hR
  clear h1 h2 h3 h4 hR hX hl1 hl2
  obtain ⟨u, g, o, us, gs, r, m, k⟩ := x
  simp only at HX HB CL CR HR ⊢
  have hcc : (k == k) = true := by simp
  go_enter Tryz.func14, Tryz.ntmps14
  go_wp2_with fail
  refine (CL.out _ HB.out).mono ?_
  rintro e w1 ⟨rfl, hb⟩
  have HB1 : Hid (Below w.heap.size w w1) := Below.on HB.out hb
  obtain ⟨xl, x0, x1, x2, x3, x4, x5, x6, x7⟩ := HX.out.below hb
  clear hb HB
  by_cases hz : k = 0
  · have hR2 := HR.out hz
    subst hz
    go_wp2_with fail
    refine (CR.out _ HB1.out).mono ?_
    rintro e w2 ⟨rfl, hb2⟩
    rw [hR2]
    have HB2 : Hid (Below w.heap.size w w2) := Below.on HB1.out hb2
    clear hb2
    go_wp2
    go_ret
    exact ⟨rfl, HB2.out⟩
  · have hd : (k != 0) = true := by simp [hz]
    have hd2 : (k == 0) = false := by simp [hz]
    go_wp2
    go_ret
    exact ⟨rfl, HB1.out⟩
theorem below_drewAt {B : Nat} {w w' : World} (h : Below B w w') : Below B w w'.drew := h.trans ⟨rfl, rfl, rfl, Nat.le_refl _, fun _ _ => rfl⟩
theorem str_full {s : ByteArray} (h : s ≠ ⟨#[]⟩) : (s.toList == []) = false ∧ (s.toList != []) = true ∧ s.toList.isEmpty = false ∧ s.toList ≠ [] ∧ decide (s.toList = []) = false := by
  have h1 : (s.toList == (⟨#[]⟩ : ByteArray).toList) = false := str_ne h
  have h0 : (⟨#[]⟩ : ByteArray).toList = [] := by first | (rw [ByteArray.toList_eq]; done) | simp
  rw [h0] at h1
  have h2 : s.toList ≠ [] := by simpa using h1
  refine ⟨h1, by simp [h2], by simpa using h2, h2, by simpa using h2⟩
theorem str_none {s : ByteArray} (h : s = ⟨#[]⟩) : (s.toList == []) = true ∧ (s.toList != []) = false ∧ s.toList.isEmpty = true ∧ decide (s.toList = []) = true := by
  subst h
  have h0 : (⟨#[]⟩ : ByteArray).toList = [] := by first | (rw [ByteArray.toList_eq]; done) | simp
  rw [h0]
  exact ⟨rfl, rfl, rfl, rfl⟩
theorem fldAclAt (v0 v1 v2 v3 v4 v5 v6 v7 : Value) (w : World) : (Instr.field 30 (.agg #[v0, v1, v2, v3, v4, v5, v6, v7]) 0).run Tryz.prog w = .ok (.agg #[v0, v1, v2, v3, v4, v5, v6]) w := by kernel_rfl
attribute [local go_sem] fldAclAt
set_option maxRecDepth 100000 in
set_option maxHeartbeats 8000000 in
theorem aclText_short (a b : Option Addr) (la lb ca cb : Nat) (f g : Nat → Int) (m : Int) (w : World) (hc : Code a la f w.heap.size w) (hd : Code b lb g w.heap.size w) (hp : PowW w) (hm : w.cell? ⟨0, 0, none⟩ = some (.int .i64 m)) (hml : 0 < w.heap.size) :
    Calls Tryz.prog 3 #[.slice a la ca, .slice b lb cb] w fun e w' => e = .returned (.bool true) ∧ Below w.heap.size w w' := by
  have h1 := hc.1
  have h2 := hd.1
  have n1 : ¬ (1048576 : Int) < (la : Int) := by omega
  have n2 : ¬ (1048576 : Int) < (lb : Int) := by omega
  have HC : Hid (Code a la f w.heap.size w) := hc
  have HD : Hid (Code b lb g w.heap.size w) := hd
  have HP : Hid (PowW w) := hp
  have HM : Hid (w.cell? ⟨0, 0, none⟩ = some (.int .i64 m)) := hm
  clear hc hd h1 h2 hp hm
  go_enter Tryz.func3, Tryz.ntmps3
  go_wp2_with fail
  refine (dDrawAclText_any a la ca f _ HC.out).mono ?_
  rintro e w1 ⟨A, aU, cU, aG, cG, rfl, hI1, hb1⟩
  have HI1 : Hid (AclIs w1 A aU aG) := hI1
  have HB1 : Hid (Below w.heap.size w w1) := hb1
  clear hI1 hb1
  go_wp2_with fail
  refine (dDrawAclBytes_any b lb cb g _ (HD.out.upT HB1.out)).mono ?_
  rintro e w2 ⟨Q, bU, dU, bG, dG, rfl, hJ, hb2⟩
  have HI2 : Hid (AclIs w2 A aU aG) := HI1.out.below hb2
  have HJ2 : Hid (AclIs w2 Q bU bG) := hJ
  have HB2 : Hid (Below w.heap.size w w2) := Below.on HB1.out hb2
  clear HI1 HB1 hJ hb2
  have hbX := bel_alloc w2 (.cells #[.int .i64 A.u, .int .i64 A.g, .int .i64 A.o, .slice aU A.us.length cU, .slice aG A.gs.length cG, .bool A.r, .int .i64 A.m] 25)
  have hbY := bel_alloc (w2.alloc (.cells #[.int .i64 A.u, .int .i64 A.g, .int .i64 A.o, .slice aU A.us.length cU, .slice aG A.gs.length cG, .bool A.r, .int .i64 A.m] 25)) (.cells #[.int .i64 Q.u, .int .i64 Q.g, .int .i64 Q.o, .slice bU Q.us.length dU, .slice bG Q.gs.length dG, .bool Q.r, .int .i64 Q.m] 25)
  have eX : (w2.alloc (.cells #[.int .i64 A.u, .int .i64 A.g, .int .i64 A.o, .slice aU A.us.length cU, .slice aG A.gs.length cG, .bool A.r, .int .i64 A.m] 25)).heap.size = w2.heap.size + 1 := by simp
  have HX : Hid (Box7 ((w2.alloc (.cells #[.int .i64 A.u, .int .i64 A.g, .int .i64 A.o, .slice aU A.us.length cU, .slice aG A.gs.length cG, .bool A.r, .int .i64 A.m] 25)).alloc (.cells #[.int .i64 Q.u, .int .i64 Q.g, .int .i64 Q.o, .slice bU Q.us.length dU, .slice bG Q.gs.length dG, .bool Q.r, .int .i64 Q.m] 25)) w2.heap.size (.int .i64 A.u) (.int .i64 A.g) (.int .i64 A.o) (.slice aU A.us.length cU) (.slice aG A.gs.length cG) (.bool A.r) (.int .i64 A.m)) := (box7_new w2 (.int .i64 A.u) (.int .i64 A.g) (.int .i64 A.o) (.slice aU A.us.length cU) (.slice aG A.gs.length cG) (.bool A.r) (.int .i64 A.m) 25).below hbY
  have HY : Hid (Box7 ((w2.alloc (.cells #[.int .i64 A.u, .int .i64 A.g, .int .i64 A.o, .slice aU A.us.length cU, .slice aG A.gs.length cG, .bool A.r, .int .i64 A.m] 25)).alloc (.cells #[.int .i64 Q.u, .int .i64 Q.g, .int .i64 Q.o, .slice bU Q.us.length dU, .slice bG Q.gs.length dG, .bool Q.r, .int .i64 Q.m] 25)) (w2.heap.size + 1) (.int .i64 Q.u) (.int .i64 Q.g) (.int .i64 Q.o) (.slice bU Q.us.length dU) (.slice bG Q.gs.length dG) (.bool Q.r) (.int .i64 Q.m)) := (by
    have h := box7_new (w2.alloc (.cells #[.int .i64 A.u, .int .i64 A.g, .int .i64 A.o, .slice aU A.us.length cU, .slice aG A.gs.length cG, .bool A.r, .int .i64 A.m] 25)) (.int .i64 Q.u) (.int .i64 Q.g) (.int .i64 Q.o) (.slice bU Q.us.length dU) (.slice bG Q.gs.length dG) (.bool Q.r) (.int .i64 Q.m) 25
    rw [eX] at h
    exact h)
  have HI : Hid (AclIs ((w2.alloc (.cells #[.int .i64 A.u, .int .i64 A.g, .int .i64 A.o, .slice aU A.us.length cU, .slice aG A.gs.length cG, .bool A.r, .int .i64 A.m] 25)).alloc (.cells #[.int .i64 Q.u, .int .i64 Q.g, .int .i64 Q.o, .slice bU Q.us.length dU, .slice bG Q.gs.length dG, .bool Q.r, .int .i64 Q.m] 25)) A aU aG) := (HI2.out.below hbX).below hbY
  have HJ : Hid (AclIs ((w2.alloc (.cells #[.int .i64 A.u, .int .i64 A.g, .int .i64 A.o, .slice aU A.us.length cU, .slice aG A.gs.length cG, .bool A.r, .int .i64 A.m] 25)).alloc (.cells #[.int .i64 Q.u, .int .i64 Q.g, .int .i64 Q.o, .slice bU Q.us.length dU, .slice bG Q.gs.length dG, .bool Q.r, .int .i64 Q.m] 25)) Q bU bG) := (HJ2.out.below hbX).below hbY
  have HB : Hid (Below w.heap.size w ((w2.alloc (.cells #[.int .i64 A.u, .int .i64 A.g, .int .i64 A.o, .slice aU A.us.length cU, .slice aG A.gs.length cG, .bool A.r, .int .i64 A.m] 25)).alloc (.cells #[.int .i64 Q.u, .int .i64 Q.g, .int .i64 Q.o, .slice bU Q.us.length dU, .slice bG Q.gs.length dG, .bool Q.r, .int .i64 Q.m] 25))) := Below.on (Below.on HB2.out hbX) hbY
  clear HI2 HJ2 HB2 hbX hbY eX
  go_upto_region 4 with fail
  generalize ((w2.alloc (.cells #[.int .i64 A.u, .int .i64 A.g, .int .i64 A.o, .slice aU A.us.length cU, .slice aG A.gs.length cG, .bool A.r, .int .i64 A.m] 25)).alloc (.cells #[.int .i64 Q.u, .int .i64 Q.g, .int .i64 Q.o, .slice bU Q.us.length dU, .slice bG Q.gs.length dG, .bool Q.r, .int .i64 Q.m] 25)) = w3 at HX HY HI HJ HB ⊢
  generalize w2.heap.size = X at HX HY ⊢
  have hmB : ∀ W', Below w.heap.size w W' → W'.cell? ⟨0, 0, none⟩ = some (.int .i64 m) := fun W' h => (h.cell (p := ⟨0, 0, none⟩) hml).trans HM.out
  have HMB : Hid (∀ W', Below w.heap.size w W' → W'.cell? ⟨0, 0, none⟩ = some (.int .i64 m)) := hmB
  have HPB : Hid (∀ W', Below w.heap.size w W' → PowW W') := (fun W' h => HP.out.below h)
  clear hmB HM HP
  obtain ⟨hlu, hlg⟩ : A.us.length ≤ 1048576 ∧ A.gs.length ≤ 1048576 := ⟨by have := HI.out.lu; omega, by have := HI.out.lg; omega⟩
  obtain ⟨hlu2, hlg2⟩ : Q.us.length ≤ 1048576 ∧ Q.gs.length ≤ 1048576 := ⟨by have := HJ.out.lu; omega, by have := HJ.out.lg; omega⟩
  have T1 : Hid (∀ w', Below w3.heap.size w3 w' → Calls Tryz.prog 6 #[.agg #[.int .i64 A.u, .int .i64 A.g, .int .i64 A.o, .slice aU A.us.length cU, .slice aG A.gs.length cG, .bool A.r, .int .i64 A.m]] w' fun e w'' => e = .returned (.string A.T) ∧ Below w'.heap.size w' w'') := (fun w' hb => iAclText_any A.u A.g A.o aU _ cU aG _ cG A.r A.m A.us A.gs w' (HI.out.u.below hb) (HI.out.g.below hb) (HPB.out _ (Below.on HB.out hb)))
  have T2 : Hid (∀ w', Below w3.heap.size w3 w' → Calls Tryz.prog 7 #[.agg #[.int .i64 Q.u, .int .i64 Q.g, .int .i64 Q.o, .slice bU Q.us.length dU, .slice bG Q.gs.length dG, .bool Q.r, .int .i64 Q.m]] w' fun e w'' => e = .returned (.string (alT Q)) ∧ Below w'.heap.size w' w'') := (fun w' hb => iAclBytes_any Q.u Q.g Q.o bU _ dU bG _ dG Q.r Q.m Q.us Q.gs w' (HJ.out.u.below hb) (HJ.out.g.below hb))
  have T3 : Hid (∀ w', Below w3.heap.size w3 w' → Calls Tryz.prog 12 #[.agg #[.int .i64 A.u, .int .i64 A.g, .int .i64 A.o, .slice aU A.us.length cU, .slice aG A.gs.length cG, .bool A.r, .int .i64 A.m]] w' fun e w'' => e = .returned (.string A.T) ∧ Below w'.heap.size w' w'') := (fun w' hb => sAclText_any A.u A.g A.o aU _ cU aG _ cG A.r A.m A.us A.gs hlu hlg w' (HI.out.u.below hb) (HI.out.g.below hb))
  have T4 : Hid (∀ w', Below w3.heap.size w3 w' → Calls Tryz.prog 13 #[.agg #[.int .i64 Q.u, .int .i64 Q.g, .int .i64 Q.o, .slice bU Q.us.length dU, .slice bG Q.gs.length dG, .bool Q.r, .int .i64 Q.m]] w' fun e w'' => e = .returned (.string (alT Q)) ∧ Below w'.heap.size w' w'') := (fun w' hb => sAclBytes_any Q.u Q.g Q.o bU _ dU bG _ dG Q.r Q.m Q.us Q.gs hlu2 hlg2 w' (HJ.out.u.below hb) (HJ.out.g.below hb))
  have hTs : A.T.size ≤ 8000 := Nat.le_trans (aclT_small _ _ _ _ _ _ _) (by decide)
  have HTY : Hid (A.B = true → aclO A.T.data.toList = A.A ∧ A.T ≠ ⟨#[]⟩) := (fun h => text_yes h hTs)
  have HTN : Hid (A.B = false → A.T = ⟨#[]⟩) := text_no
  have HUY : Hid (Q.B = true → afO (alT Q) = Q.A ∧ alT Q ≠ ⟨#[]⟩) := byt_yes
  have HUN : Hid (Q.B = false → alT Q = ⟨#[]⟩) := byt_no
  have hUs : (alT Q).size ≤ 8000 := by
    have h1 := Y_len Q
    have h2 : (alT Q).size = Q.Y.length := by rw [size_list, alT_Y]
    omega
  generalize hT : A.T = T at T1 T3 HTY HTN hTs
  generalize hU : alT Q = U at T2 T4 HUY HUN hUs
  clear hT hU
  obtain ⟨xl, x0, x1, x2, x3, x4, x5, x6⟩ := HX.out
  obtain ⟨yl, y0, y1, y2, y3, y4, y5, y6⟩ := HY.out
  go_region_held3 (fun w' => (w'.cell? ⟨X, 0, none⟩ = some (.int .i64 A.u) ∧ w'.cell? ⟨X, 1, none⟩ = some (.int .i64 A.g) ∧ w'.cell? ⟨X, 2, none⟩ = some (.int .i64 A.o) ∧ w'.cell? ⟨X, 3, none⟩ = some (.slice aU A.us.length cU) ∧ w'.cell? ⟨X, 4, none⟩ = some (.slice aG A.gs.length cG) ∧ w'.cell? ⟨X, 5, none⟩ = some (.bool A.r) ∧ w'.cell? ⟨X, 6, none⟩ = some (.int .i64 A.m)) ∧ (w'.cell? ⟨X + 1, 0, none⟩ = some (.int .i64 Q.u) ∧ w'.cell? ⟨X + 1, 1, none⟩ = some (.int .i64 Q.g) ∧ w'.cell? ⟨X + 1, 2, none⟩ = some (.int .i64 Q.o) ∧ w'.cell? ⟨X + 1, 3, none⟩ = some (.slice bU Q.us.length dU) ∧ w'.cell? ⟨X + 1, 4, none⟩ = some (.slice bG Q.gs.length dG) ∧ w'.cell? ⟨X + 1, 5, none⟩ = some (.bool Q.r) ∧ w'.cell? ⟨X + 1, 6, none⟩ = some (.int .i64 Q.m))) (go_keep)
    (first
      | (go_at_call 7; refine Calls.mono (T2.out _ hBa.out) ?_; rintro e wb ⟨rfl, hbb⟩; have hBb : Hid (Below w3.heap.size w3 wb) := Below.on hBa.out hbb; clear hbb; obtain ⟨_, xb0, xb1, xb2, xb3, xb4, xb5, xb6⟩ := HX.out.below hBb.out; obtain ⟨_, yb0, yb1, yb2, yb3, yb4, yb5, yb6⟩ := HY.out.below hBb.out)
      | (go_at_call 6; refine Calls.mono (T1.out _ ?hs) ?_; (case hs => (first | exact Below.refl _ _ | exact below_drewAt (Below.refl _ _))); rintro e wa ⟨rfl, hba⟩; have hBa : Hid (Below w3.heap.size w3 wa) := Below.on (below_drewAt (Below.refl _ _)) ⟨hba.os, hba.tape, hba.output, hba.size, hba.block⟩; clear hba; obtain ⟨_, xa0, xa1, xa2, xa3, xa4, xa5, xa6⟩ := HX.out.below hBa.out; obtain ⟨_, ya0, ya1, ya2, ya3, ya4, ya5, ya6⟩ := HY.out.below hBa.out))
  have HB4 : Hid (Below w3.heap.size w3 wb) := hBb
  clear hBa hBb xa0 xa1 xa2 xa3 xa4 xa5 xa6 ya0 ya1 ya2 ya3 ya4 ya5 ya6 xb0 xb1 xb2 xb3 xb4 xb5 xb6 yb0 yb1 yb2 yb3 yb4 yb5 yb6 x0 x1 x2 x3 x4 x5 x6 xl y0 y1 y2 y3 y4 y5 y6 yl
  go_wp2_with fail
  refine (dDrawAclRead_any b lb cb g _ (HD.out.upT (Below.on HB.out HB4.out))).mono ?_
  rintro e w5 ⟨rt, hrt, rfl, hb5⟩
  have HB5 : Hid (Below w3.heap.size w3 w5) := Below.on HB4.out hb5
  clear hb5 HB4
  go_wp2_with fail
  refine (dDrawAclFrom_any a la ca f _ (HC.out.upT (Below.on HB.out HB5.out))).mono ?_
  rintro e w6 ⟨st, hst, rfl, hb6⟩
  have HB6 : Hid (Below w3.heap.size w3 w6) := Below.on HB5.out hb6
  clear hb6 HB5
  go_wp2_with fail
  refine (iAclRead_any rt m (by omega) _ (HMB.out _ (Below.on HB.out HB6.out)) (HPB.out _ (Below.on HB.out HB6.out))).mono ?_
  rintro e w7 ⟨pU, eU, pG, eG, rfl, hN⟩
  have HB7 : Hid (Below w3.heap.size w3 w7) := Below.on HB6.out hN.bel
  have HPU : Hid (Prs pU (aclO rt.data.toList).us.length (aclO rt.data.toList).us w7) := hN.ou.prs
  have HPG : Hid (Prs pG (aclO rt.data.toList).gs.length (aclO rt.data.toList).gs w7) := hN.og.prs
  clear hN HB6
  go_wp2_with fail
  refine (iAclFrom_any st (by omega) _).mono ?_
  rintro e w8 ⟨qU, kU, qG, kG, rfl, hN⟩
  have hsx := aclO_small rt.data.toList
  have hsy := afO_small st
  obtain ⟨x, hx⟩ : ∃ x, x = aclO rt.data.toList := ⟨_, rfl⟩
  obtain ⟨y, hy⟩ : ∃ y, y = afO st := ⟨_, rfl⟩
  rw [← hx] at HPU HPG hsx ⊢
  rw [← hy] at hN hsy ⊢
  have HXE : Hid (x = aclO rt.data.toList) := hx
  have HYE : Hid (y = afO st) := hy
  clear hx hy
  have HB8 : Hid (Below w3.heap.size w3 w8) := Below.on HB7.out hN.bel
  have HPU8 : Hid (Prs pU x.us.length x.us w8) := HPU.out.below hN.bel
  have HPG8 : Hid (Prs pG x.gs.length x.gs w8) := HPG.out.below hN.bel
  have HQU8 : Hid (Prs qU y.us.length y.us w8) := hN.ou.prs
  have HQG8 : Hid (Prs qG y.gs.length y.gs w8) := hN.og.prs
  clear hN HPU HPG HB7
  unfold ansV
  have hbX := bel_alloc w8 (.cells #[.int .i64 x.u, .int .i64 x.g, .int .i64 x.o, .slice pU x.us.length eU, .slice pG x.gs.length eG, .bool x.r, .int .i64 x.m, .int .i64 x.code] 30)
  have hbY := bel_alloc (w8.alloc (.cells #[.int .i64 x.u, .int .i64 x.g, .int .i64 x.o, .slice pU x.us.length eU, .slice pG x.gs.length eG, .bool x.r, .int .i64 x.m, .int .i64 x.code] 30)) (.cells #[.int .i64 y.u, .int .i64 y.g, .int .i64 y.o, .slice qU y.us.length kU, .slice qG y.gs.length kG, .bool y.r, .int .i64 y.m, .int .i64 y.code] 30)
  have eX : (w8.alloc (.cells #[.int .i64 x.u, .int .i64 x.g, .int .i64 x.o, .slice pU x.us.length eU, .slice pG x.gs.length eG, .bool x.r, .int .i64 x.m, .int .i64 x.code] 30)).heap.size = w8.heap.size + 1 := by simp
  have HV : Hid (Box8 ((w8.alloc (.cells #[.int .i64 x.u, .int .i64 x.g, .int .i64 x.o, .slice pU x.us.length eU, .slice pG x.gs.length eG, .bool x.r, .int .i64 x.m, .int .i64 x.code] 30)).alloc (.cells #[.int .i64 y.u, .int .i64 y.g, .int .i64 y.o, .slice qU y.us.length kU, .slice qG y.gs.length kG, .bool y.r, .int .i64 y.m, .int .i64 y.code] 30)) w8.heap.size (.int .i64 x.u) (.int .i64 x.g) (.int .i64 x.o) (.slice pU x.us.length eU) (.slice pG x.gs.length eG) (.bool x.r) (.int .i64 x.m) (.int .i64 x.code)) := (box8_new w8 (.int .i64 x.u) (.int .i64 x.g) (.int .i64 x.o) (.slice pU x.us.length eU) (.slice pG x.gs.length eG) (.bool x.r) (.int .i64 x.m) (.int .i64 x.code) 30).below hbY
  have HZ : Hid (Box8 ((w8.alloc (.cells #[.int .i64 x.u, .int .i64 x.g, .int .i64 x.o, .slice pU x.us.length eU, .slice pG x.gs.length eG, .bool x.r, .int .i64 x.m, .int .i64 x.code] 30)).alloc (.cells #[.int .i64 y.u, .int .i64 y.g, .int .i64 y.o, .slice qU y.us.length kU, .slice qG y.gs.length kG, .bool y.r, .int .i64 y.m, .int .i64 y.code] 30)) (w8.heap.size + 1) (.int .i64 y.u) (.int .i64 y.g) (.int .i64 y.o) (.slice qU y.us.length kU) (.slice qG y.gs.length kG) (.bool y.r) (.int .i64 y.m) (.int .i64 y.code)) := (by
    have h := box8_new (w8.alloc (.cells #[.int .i64 x.u, .int .i64 x.g, .int .i64 x.o, .slice pU x.us.length eU, .slice pG x.gs.length eG, .bool x.r, .int .i64 x.m, .int .i64 x.code] 30)) (.int .i64 y.u) (.int .i64 y.g) (.int .i64 y.o) (.slice qU y.us.length kU) (.slice qG y.gs.length kG) (.bool y.r) (.int .i64 y.m) (.int .i64 y.code) 30
    rw [eX] at h
    exact h)
  have HB9 : Hid (Below w3.heap.size w3 ((w8.alloc (.cells #[.int .i64 x.u, .int .i64 x.g, .int .i64 x.o, .slice pU x.us.length eU, .slice pG x.gs.length eG, .bool x.r, .int .i64 x.m, .int .i64 x.code] 30)).alloc (.cells #[.int .i64 y.u, .int .i64 y.g, .int .i64 y.o, .slice qU y.us.length kU, .slice qG y.gs.length kG, .bool y.r, .int .i64 y.m, .int .i64 y.code] 30))) := Below.on (Below.on HB8.out hbX) hbY
  have HPU : Hid (Prs pU x.us.length x.us ((w8.alloc (.cells #[.int .i64 x.u, .int .i64 x.g, .int .i64 x.o, .slice pU x.us.length eU, .slice pG x.gs.length eG, .bool x.r, .int .i64 x.m, .int .i64 x.code] 30)).alloc (.cells #[.int .i64 y.u, .int .i64 y.g, .int .i64 y.o, .slice qU y.us.length kU, .slice qG y.gs.length kG, .bool y.r, .int .i64 y.m, .int .i64 y.code] 30))) := (HPU8.out.below hbX).below hbY
  have HPG : Hid (Prs pG x.gs.length x.gs ((w8.alloc (.cells #[.int .i64 x.u, .int .i64 x.g, .int .i64 x.o, .slice pU x.us.length eU, .slice pG x.gs.length eG, .bool x.r, .int .i64 x.m, .int .i64 x.code] 30)).alloc (.cells #[.int .i64 y.u, .int .i64 y.g, .int .i64 y.o, .slice qU y.us.length kU, .slice qG y.gs.length kG, .bool y.r, .int .i64 y.m, .int .i64 y.code] 30))) := (HPG8.out.below hbX).below hbY
  have HQU : Hid (Prs qU y.us.length y.us ((w8.alloc (.cells #[.int .i64 x.u, .int .i64 x.g, .int .i64 x.o, .slice pU x.us.length eU, .slice pG x.gs.length eG, .bool x.r, .int .i64 x.m, .int .i64 x.code] 30)).alloc (.cells #[.int .i64 y.u, .int .i64 y.g, .int .i64 y.o, .slice qU y.us.length kU, .slice qG y.gs.length kG, .bool y.r, .int .i64 y.m, .int .i64 y.code] 30))) := (HQU8.out.below hbX).below hbY
  have HQG : Hid (Prs qG y.gs.length y.gs ((w8.alloc (.cells #[.int .i64 x.u, .int .i64 x.g, .int .i64 x.o, .slice pU x.us.length eU, .slice pG x.gs.length eG, .bool x.r, .int .i64 x.m, .int .i64 x.code] 30)).alloc (.cells #[.int .i64 y.u, .int .i64 y.g, .int .i64 y.o, .slice qU y.us.length kU, .slice qG y.gs.length kG, .bool y.r, .int .i64 y.m, .int .i64 y.code] 30))) := (HQG8.out.below hbX).below hbY
  clear HPU8 HPG8 HQU8 HQG8 hbX hbY eX HB8
  go_upto_region 7 with fail
  generalize ((w8.alloc (.cells #[.int .i64 x.u, .int .i64 x.g, .int .i64 x.o, .slice pU x.us.length eU, .slice pG x.gs.length eG, .bool x.r, .int .i64 x.m, .int .i64 x.code] 30)).alloc (.cells #[.int .i64 y.u, .int .i64 y.g, .int .i64 y.o, .slice qU y.us.length kU, .slice qG y.gs.length kG, .bool y.r, .int .i64 y.m, .int .i64 y.code] 30)) = w9 at HV HZ HB9 HPU HPG HQU HQG ⊢
  generalize w8.heap.size = V at HV HZ ⊢
  have HX9 : Hid (Box7 w9 X (.int .i64 A.u) (.int .i64 A.g) (.int .i64 A.o) (.slice aU A.us.length cU) (.slice aG A.gs.length cG) (.bool A.r) (.int .i64 A.m)) := HX.out.below HB9.out
  have HY9 : Hid (Box7 w9 (X + 1) (.int .i64 Q.u) (.int .i64 Q.g) (.int .i64 Q.o) (.slice bU Q.us.length dU) (.slice bG Q.gs.length dG) (.bool Q.r) (.int .i64 Q.m)) := HY.out.below HB9.out
  have HF9 : Hid (Below w.heap.size w w9) := Below.on HB.out HB9.out
  have HI9 : Hid (AclIs w9 A aU aG) := HI.out.below HB9.out
  have HJ9 : Hid (AclIs w9 Q bU bG) := HJ.out.below HB9.out

  have hxr : x.code = 0 → aclB x.u x.g x.o x.us x.gs x.r x.m = true ∧ aclT x.u x.g x.o x.us x.gs x.r x.m = rt := fun h => by
    rw [HXE.out] at h ⊢
    obtain ⟨D, hB, e, ht⟩ := read_back h
    rw [e]
    exact ⟨hB, ht⟩
  have hyr : y.code = 0 → aclB y.u y.g y.o y.us y.gs y.r y.m = true ∧ abT y.u y.g y.o y.us y.gs y.r y.m = st := fun h => by
    rw [HYE.out] at h ⊢
    obtain ⟨D, hB, e, ht⟩ := from_back h
    rw [e]
    exact ⟨hB, ht⟩
  have HXR : Hid _ := hxr
  have HYR : Hid _ := hyr
  clear hxr hyr
  have K1 : Hid (∀ w', Below w9.heap.size w9 w' → Calls Tryz.prog 12 #[.agg #[.int .i64 A.u, .int .i64 A.g, .int .i64 A.o, .slice aU A.us.length cU, .slice aG A.gs.length cG, .bool A.r, .int .i64 A.m]] w' fun e w'' => e = .returned (.string T) ∧ Below w'.heap.size w' w'') := (fun w' hb => T3.out w' (Below.on HB9.out hb))
  have K2 : Hid (∀ w', Below w9.heap.size w9 w' → Calls Tryz.prog 13 #[.agg #[.int .i64 Q.u, .int .i64 Q.g, .int .i64 Q.o, .slice bU Q.us.length dU, .slice bG Q.gs.length dG, .bool Q.r, .int .i64 Q.m]] w' fun e w'' => e = .returned (.string U) ∧ Below w'.heap.size w' w'') := (fun w' hb => T4.out w' (Below.on HB9.out hb))
  have K3 : Hid (∀ w', Below w9.heap.size w9 w' → Calls Tryz.prog 15 #[.string rt] w' fun e w'' => ∃ a1 c1 a2 c2, e = .returned (.agg #[.int .i64 x.u, .int .i64 x.g, .int .i64 x.o, .slice a1 x.us.length c1, .slice a2 x.gs.length c2, .bool x.r, .int .i64 x.m, .int .i64 x.code]) ∧ Prs a1 x.us.length x.us w'' ∧ Prs a2 x.gs.length x.gs w'' ∧ Below w'.heap.size w' w'') := (fun w' hb => by
    have h := sAclRead_any rt (by omega) w'
    rw [← HXE.out] at h
    exact h.mono (fun e w'' ⟨a1, c1, a2, c2, he, hN⟩ => ⟨a1, c1, a2, c2, he, hN.ou.prs, hN.og.prs, hN.bel⟩))
  have K5 : Hid (∀ w', Below w9.heap.size w9 w' → Calls Tryz.prog 16 #[.string st] w' fun e w'' => ∃ a1 c1 a2 c2, e = .returned (.agg #[.int .i64 y.u, .int .i64 y.g, .int .i64 y.o, .slice a1 y.us.length c1, .slice a2 y.gs.length c2, .bool y.r, .int .i64 y.m, .int .i64 y.code]) ∧ Prs a1 y.us.length y.us w'' ∧ Prs a2 y.gs.length y.gs w'' ∧ Below w'.heap.size w' w'') := (fun w' hb => by
    have h := sAclFrom_any st (by omega) w'
    rw [← HYE.out] at h
    exact h.mono (fun e w'' ⟨a1, c1, a2, c2, he, hN⟩ => ⟨a1, c1, a2, c2, he, hN.ou.prs, hN.og.prs, hN.bel⟩))
  have K4 : Hid (∀ (b1 : Option Addr) (d1 : Nat) (b2 : Option Addr) (d2 : Nat) w', Prs b1 x.us.length x.us w' → Prs b2 x.gs.length x.gs w' → Below w9.heap.size w9 w' → Calls Tryz.prog 14 #[.agg #[.int .i64 x.u, .int .i64 x.g, .int .i64 x.o, .slice pU x.us.length eU, .slice pG x.gs.length eG, .bool x.r, .int .i64 x.m, .int .i64 x.code], .agg #[.int .i64 x.u, .int .i64 x.g, .int .i64 x.o, .slice b1 x.us.length d1, .slice b2 x.gs.length d2, .bool x.r, .int .i64 x.m, .int .i64 x.code]] w' fun e w'' => e = .returned (.bool true) ∧ Below w'.heap.size w' w'') := (fun b1 d1 b2 d2 w' h1 h2 hb => lwOut_any x pU eU pG eG b1 d1 b2 d2 hsx.1 hsx.2 (fun h => (HXR.out h).1) w' (HPU.out.below hb) (HPG.out.below hb) h1 h2)
  have K6 : Hid (∀ (b1 : Option Addr) (d1 : Nat) (b2 : Option Addr) (d2 : Nat) w', Prs b1 y.us.length y.us w' → Prs b2 y.gs.length y.gs w' → Below w9.heap.size w9 w' → Calls Tryz.prog 14 #[.agg #[.int .i64 y.u, .int .i64 y.g, .int .i64 y.o, .slice qU y.us.length kU, .slice qG y.gs.length kG, .bool y.r, .int .i64 y.m, .int .i64 y.code], .agg #[.int .i64 y.u, .int .i64 y.g, .int .i64 y.o, .slice b1 y.us.length d1, .slice b2 y.gs.length d2, .bool y.r, .int .i64 y.m, .int .i64 y.code]] w' fun e w'' => e = .returned (.bool true) ∧ Below w'.heap.size w' w'') := (fun b1 d1 b2 d2 w' h1 h2 hb => lwOut_any y qU kU qG kG b1 d1 b2 d2 hsy.1 hsy.2 (fun h => (HYR.out h).1) w' (HQU.out.below hb) (HQG.out.below hb) h1 h2)
  have R1 : Hid (A.B = true → ∀ w', Below w9.heap.size w9 w' → Calls Tryz.prog 10 #[.string T] w' fun e w'' => ∃ a1 c1 a2 c2, e = .returned (.agg #[.int .i64 A.u, .int .i64 A.g, .int .i64 A.o, .slice a1 A.us.length c1, .slice a2 A.gs.length c2, .bool A.r, .int .i64 A.m, .int .i64 0]) ∧ Prs a1 A.us.length A.us w'' ∧ Prs a2 A.gs.length A.gs w'' ∧ Below w'.heap.size w' w'') := (fun hA w' hb => by
    have h := iAclRead_any T m (by omega) w' (HMB.out _ (Below.on HF9.out hb)) (HPB.out _ (Below.on HF9.out hb))
    rw [(HTY.out hA).1] at h
    exact h.mono (fun e w'' ⟨a1, c1, a2, c2, he, hN⟩ => ⟨a1, c1, a2, c2, he, hN.ou.prs, hN.og.prs, hN.bel⟩))
  have R2 : Hid (Q.B = true → ∀ w', Below w9.heap.size w9 w' → Calls Tryz.prog 11 #[.string U] w' fun e w'' => ∃ a1 c1 a2 c2, e = .returned (.agg #[.int .i64 Q.u, .int .i64 Q.g, .int .i64 Q.o, .slice a1 Q.us.length c1, .slice a2 Q.gs.length c2, .bool Q.r, .int .i64 Q.m, .int .i64 0]) ∧ Prs a1 Q.us.length Q.us w'' ∧ Prs a2 Q.gs.length Q.gs w'' ∧ Below w'.heap.size w' w'') := (fun hQ w' hb => by
    have h := iAclFrom_any U (by omega) w'
    rw [(HUY.out hQ).1] at h
    exact h.mono (fun e w'' ⟨a1, c1, a2, c2, he, hN⟩ => ⟨a1, c1, a2, c2, he, hN.ou.prs, hN.og.prs, hN.bel⟩))
  have R3 : Hid (∀ (b1 : Option Addr) (d1 : Nat) (b2 : Option Addr) (d2 : Nat) w', Prs b1 A.us.length A.us w' → Prs b2 A.gs.length A.gs w' → Below w9.heap.size w9 w' → Calls Tryz.prog 17 #[.agg #[.int .i64 A.u, .int .i64 A.g, .int .i64 A.o, .slice b1 A.us.length d1, .slice b2 A.gs.length d2, .bool A.r, .int .i64 A.m], .agg #[.int .i64 A.u, .int .i64 A.g, .int .i64 A.o, .slice aU A.us.length cU, .slice aG A.gs.length cG, .bool A.r, .int .i64 A.m]] w' fun e w'' => e = .returned (.bool true) ∧ Below w'.heap.size w' w'') := (fun b1 d1 b2 d2 w' h1 h2 hb => lwAcl_any A.u A.g A.o b1 aU _ d1 cU b2 aG _ d2 cG A.r A.m A.us A.gs hlu hlg w' h1 (HI9.out.u.below hb) h2 (HI9.out.g.below hb))
  have R4 : Hid (∀ (b1 : Option Addr) (d1 : Nat) (b2 : Option Addr) (d2 : Nat) w', Prs b1 Q.us.length Q.us w' → Prs b2 Q.gs.length Q.gs w' → Below w9.heap.size w9 w' → Calls Tryz.prog 17 #[.agg #[.int .i64 Q.u, .int .i64 Q.g, .int .i64 Q.o, .slice b1 Q.us.length d1, .slice b2 Q.gs.length d2, .bool Q.r, .int .i64 Q.m], .agg #[.int .i64 Q.u, .int .i64 Q.g, .int .i64 Q.o, .slice bU Q.us.length dU, .slice bG Q.gs.length dG, .bool Q.r, .int .i64 Q.m]] w' fun e w'' => e = .returned (.bool true) ∧ Below w'.heap.size w' w'') := (fun b1 d1 b2 d2 w' h1 h2 hb => lwAcl_any Q.u Q.g Q.o b1 bU _ d1 dU b2 bG _ d2 dG Q.r Q.m Q.us Q.gs hlu2 hlg2 w' h1 (HJ9.out.u.below hb) h2 (HJ9.out.g.below hb))
  have R5 : Hid (x.code = 0 → ∀ w', Below w9.heap.size w9 w' → Calls Tryz.prog 6 #[.agg #[.int .i64 x.u, .int .i64 x.g, .int .i64 x.o, .slice pU x.us.length eU, .slice pG x.gs.length eG, .bool x.r, .int .i64 x.m]] w' fun e w'' => e = .returned (.string rt) ∧ Below w'.heap.size w' w'') := (fun h w' hb => by
    have h2 := iAclText_any x.u x.g x.o pU _ eU pG _ eG x.r x.m x.us x.gs w' (HPU.out.below hb) (HPG.out.below hb) (HPB.out _ (Below.on HF9.out hb))
    rw [(HXR.out h).2] at h2
    exact h2)
  have R6 : Hid (y.code = 0 → ∀ w', Below w9.heap.size w9 w' → Calls Tryz.prog 7 #[.agg #[.int .i64 y.u, .int .i64 y.g, .int .i64 y.o, .slice qU y.us.length kU, .slice qG y.gs.length kG, .bool y.r, .int .i64 y.m]] w' fun e w'' => e = .returned (.string st) ∧ Below w'.heap.size w' w'') := (fun h w' hb => by
    have h2 := iAclBytes_any y.u y.g y.o qU _ kU qG _ kG y.r y.m y.us y.gs w' (HQU.out.below hb) (HQG.out.below hb)
    rw [(HYR.out h).2] at h2
    exact h2)
  have HTne : Hid (A.B = true → T ≠ ⟨#[]⟩) := (fun h => (HTY.out h).2)
  have HUne : Hid (Q.B = true → U ≠ ⟨#[]⟩) := (fun h => (HUY.out h).2)
  clear T1 T2 T3 T4 HTY HUY HI HJ HI9 HJ9 HPU HPG HQU HQG HX HY HB HB9 HMB HPB hsx hsy hlu hlg hlu2 hlg2 HXR HYR HXE HYE hTs hUs HC HD hrt hst
  generalize x.code = xk at HV K3 K4 R5 ⊢
  generalize y.code = yk at HZ K5 K6 R6 ⊢
  obtain ⟨xl, x0, x1, x2, x3, x4, x5, x6⟩ := HX9.out
  obtain ⟨yl, y0, y1, y2, y3, y4, y5, y6⟩ := HY9.out
  obtain ⟨vl, v0, v1, v2, v3, v4, v5, v6, v7⟩ := HV.out
  obtain ⟨zl, z0, z1, z2, z3, z4, z5, z6, z7⟩ := HZ.out
  go_cut [60] (fun t wx => t = .bool false ∧ Hid (Below w9.heap.size w9 wx))
  case first =>
    go_region_held3 (fun w' => (w'.cell? ⟨X, 0, none⟩ = some (.int .i64 A.u) ∧ w'.cell? ⟨X, 1, none⟩ = some (.int .i64 A.g) ∧ w'.cell? ⟨X, 2, none⟩ = some (.int .i64 A.o) ∧ w'.cell? ⟨X, 3, none⟩ = some (.slice aU A.us.length cU) ∧ w'.cell? ⟨X, 4, none⟩ = some (.slice aG A.gs.length cG) ∧ w'.cell? ⟨X, 5, none⟩ = some (.bool A.r) ∧ w'.cell? ⟨X, 6, none⟩ = some (.int .i64 A.m)) ∧ (w'.cell? ⟨X + 1, 0, none⟩ = some (.int .i64 Q.u) ∧ w'.cell? ⟨X + 1, 1, none⟩ = some (.int .i64 Q.g) ∧ w'.cell? ⟨X + 1, 2, none⟩ = some (.int .i64 Q.o) ∧ w'.cell? ⟨X + 1, 3, none⟩ = some (.slice bU Q.us.length dU) ∧ w'.cell? ⟨X + 1, 4, none⟩ = some (.slice bG Q.gs.length dG) ∧ w'.cell? ⟨X + 1, 5, none⟩ = some (.bool Q.r) ∧ w'.cell? ⟨X + 1, 6, none⟩ = some (.int .i64 Q.m)) ∧ (w'.cell? ⟨V, 0, none⟩ = some (.int .i64 x.u) ∧ w'.cell? ⟨V, 1, none⟩ = some (.int .i64 x.g) ∧ w'.cell? ⟨V, 2, none⟩ = some (.int .i64 x.o) ∧ w'.cell? ⟨V, 3, none⟩ = some (.slice pU x.us.length eU) ∧ w'.cell? ⟨V, 4, none⟩ = some (.slice pG x.gs.length eG) ∧ w'.cell? ⟨V, 5, none⟩ = some (.bool x.r) ∧ w'.cell? ⟨V, 6, none⟩ = some (.int .i64 x.m) ∧ w'.cell? ⟨V, 7, none⟩ = some (.int .i64 xk)) ∧ (w'.cell? ⟨V + 1, 0, none⟩ = some (.int .i64 y.u) ∧ w'.cell? ⟨V + 1, 1, none⟩ = some (.int .i64 y.g) ∧ w'.cell? ⟨V + 1, 2, none⟩ = some (.int .i64 y.o) ∧ w'.cell? ⟨V + 1, 3, none⟩ = some (.slice qU y.us.length kU) ∧ w'.cell? ⟨V + 1, 4, none⟩ = some (.slice qG y.gs.length kG) ∧ w'.cell? ⟨V + 1, 5, none⟩ = some (.bool y.r) ∧ w'.cell? ⟨V + 1, 6, none⟩ = some (.int .i64 y.m) ∧ w'.cell? ⟨V + 1, 7, none⟩ = some (.int .i64 yk))) (go_keep)
      (first
        | (go_at_call 14; refine Calls.mono (K6.out ra5 rc5 rb5 rd5 _ HS5.out HT5.out hB5.out) ?_; rintro e wv6 ⟨rfl, hb6⟩; have hB6 : Hid (Below w9.heap.size w9 wv6) := Below.on hB5.out hb6; clear HS5 HT5; clear hb6; clear cx50 cx51 cx52 cx53 cx54 cx55 cx56 cy50 cy51 cy52 cy53 cy54 cy55 cy56 cv50 cv51 cv52 cv53 cv54 cv55 cv56 cv57 cz50 cz51 cz52 cz53 cz54 cz55 cz56 cz57; obtain ⟨_, cx60, cx61, cx62, cx63, cx64, cx65, cx66⟩ := HX9.out.below hB6.out; obtain ⟨_, cy60, cy61, cy62, cy63, cy64, cy65, cy66⟩ := HY9.out.below hB6.out; obtain ⟨_, cv60, cv61, cv62, cv63, cv64, cv65, cv66, cv67⟩ := HV.out.below hB6.out; obtain ⟨_, cz60, cz61, cz62, cz63, cz64, cz65, cz66, cz67⟩ := HZ.out.below hB6.out)
        | (go_at_call 16; refine Calls.mono (K5.out _ hB4.out) ?_; rintro e wv5 ⟨ra5, rc5, rb5, rd5, rfl, hs5, ht5, hb5⟩; have hB5 : Hid (Below w9.heap.size w9 wv5) := Below.on hB4.out hb5; have HS5 : Hid (Prs ra5 y.us.length y.us wv5) := hs5; have HT5 : Hid (Prs rb5 y.gs.length y.gs wv5) := ht5; clear hs5 ht5; clear hb5; clear cx40 cx41 cx42 cx43 cx44 cx45 cx46 cy40 cy41 cy42 cy43 cy44 cy45 cy46 cv40 cv41 cv42 cv43 cv44 cv45 cv46 cv47 cz40 cz41 cz42 cz43 cz44 cz45 cz46 cz47; obtain ⟨_, cx50, cx51, cx52, cx53, cx54, cx55, cx56⟩ := HX9.out.below hB5.out; obtain ⟨_, cy50, cy51, cy52, cy53, cy54, cy55, cy56⟩ := HY9.out.below hB5.out; obtain ⟨_, cv50, cv51, cv52, cv53, cv54, cv55, cv56, cv57⟩ := HV.out.below hB5.out; obtain ⟨_, cz50, cz51, cz52, cz53, cz54, cz55, cz56, cz57⟩ := HZ.out.below hB5.out)
        | (go_at_call 14; refine Calls.mono (K4.out ra3 rc3 rb3 rd3 _ HS3.out HT3.out hB3.out) ?_; rintro e wv4 ⟨rfl, hb4⟩; have hB4 : Hid (Below w9.heap.size w9 wv4) := Below.on hB3.out hb4; clear HS3 HT3; clear hb4; clear cx30 cx31 cx32 cx33 cx34 cx35 cx36 cy30 cy31 cy32 cy33 cy34 cy35 cy36 cv30 cv31 cv32 cv33 cv34 cv35 cv36 cv37 cz30 cz31 cz32 cz33 cz34 cz35 cz36 cz37; obtain ⟨_, cx40, cx41, cx42, cx43, cx44, cx45, cx46⟩ := HX9.out.below hB4.out; obtain ⟨_, cy40, cy41, cy42, cy43, cy44, cy45, cy46⟩ := HY9.out.below hB4.out; obtain ⟨_, cv40, cv41, cv42, cv43, cv44, cv45, cv46, cv47⟩ := HV.out.below hB4.out; obtain ⟨_, cz40, cz41, cz42, cz43, cz44, cz45, cz46, cz47⟩ := HZ.out.below hB4.out)
        | (go_at_call 15; refine Calls.mono (K3.out _ hB2.out) ?_; rintro e wv3 ⟨ra3, rc3, rb3, rd3, rfl, hs3, ht3, hb3⟩; have hB3 : Hid (Below w9.heap.size w9 wv3) := Below.on hB2.out hb3; have HS3 : Hid (Prs ra3 x.us.length x.us wv3) := hs3; have HT3 : Hid (Prs rb3 x.gs.length x.gs wv3) := ht3; clear hs3 ht3; clear hb3; clear cx20 cx21 cx22 cx23 cx24 cx25 cx26 cy20 cy21 cy22 cy23 cy24 cy25 cy26 cv20 cv21 cv22 cv23 cv24 cv25 cv26 cv27 cz20 cz21 cz22 cz23 cz24 cz25 cz26 cz27; obtain ⟨_, cx30, cx31, cx32, cx33, cx34, cx35, cx36⟩ := HX9.out.below hB3.out; obtain ⟨_, cy30, cy31, cy32, cy33, cy34, cy35, cy36⟩ := HY9.out.below hB3.out; obtain ⟨_, cv30, cv31, cv32, cv33, cv34, cv35, cv36, cv37⟩ := HV.out.below hB3.out; obtain ⟨_, cz30, cz31, cz32, cz33, cz34, cz35, cz36, cz37⟩ := HZ.out.below hB3.out)
        | (go_at_call 13; refine Calls.mono (K2.out _ hB1.out) ?_; rintro e wv2 ⟨rfl, hb2⟩; have hB2 : Hid (Below w9.heap.size w9 wv2) := Below.on hB1.out hb2; clear hb2; clear cx10 cx11 cx12 cx13 cx14 cx15 cx16 cy10 cy11 cy12 cy13 cy14 cy15 cy16 cv10 cv11 cv12 cv13 cv14 cv15 cv16 cv17 cz10 cz11 cz12 cz13 cz14 cz15 cz16 cz17; obtain ⟨_, cx20, cx21, cx22, cx23, cx24, cx25, cx26⟩ := HX9.out.below hB2.out; obtain ⟨_, cy20, cy21, cy22, cy23, cy24, cy25, cy26⟩ := HY9.out.below hB2.out; obtain ⟨_, cv20, cv21, cv22, cv23, cv24, cv25, cv26, cv27⟩ := HV.out.below hB2.out; obtain ⟨_, cz20, cz21, cz22, cz23, cz24, cz25, cz26, cz27⟩ := HZ.out.below hB2.out)
        | (go_at_call 12; refine Calls.mono (K1.out _ ?hs) ?_; (case hs => (first | exact Below.refl _ _ | exact below_drewAt (Below.refl _ _))); rintro e wv1 ⟨rfl, hb1⟩; have hB1 : Hid (Below w9.heap.size w9 wv1) := Below.on (below_drewAt (Below.refl _ _)) ⟨hb1.os, hb1.tape, hb1.output, hb1.size, hb1.block⟩; clear hb1; obtain ⟨_, cx10, cx11, cx12, cx13, cx14, cx15, cx16⟩ := HX9.out.below hB1.out; obtain ⟨_, cy10, cy11, cy12, cy13, cy14, cy15, cy16⟩ := HY9.out.below hB1.out; obtain ⟨_, cv10, cv11, cv12, cv13, cv14, cv15, cv16, cv17⟩ := HV.out.below hB1.out; obtain ⟨_, cz10, cz11, cz12, cz13, cz14, cz15, cz16, cz17⟩ := HZ.out.below hB1.out))
    go_wp2
    go_meet
    exact ⟨rfl, hB6⟩
  case rest =>
  obtain ⟨rfl, HB10⟩ := hcut
  obtain ⟨wq, hwq⟩ : ∃ wq, wq = wc := ⟨_, rfl⟩
  subst hwq
  clear x0 x1 x2 x3 x4 x5 x6 xl y0 y1 y2 y3 y4 y5 y6 yl v0 v1 v2 v3 v4 v5 v6 v7 vl z0 z1 z2 z3 z4 z5 z6 z7 zl K1 K2 K3 K4 K5 K6
  obtain ⟨xl, x0, x1, x2, x3, x4, x5, x6⟩ := HX9.out.below HB10.out
  obtain ⟨yl, y0, y1, y2, y3, y4, y5, y6⟩ := HY9.out.below HB10.out
  go_upto_region 9 with fail
  go_cut [82] (fun t wx => t = .bool false ∧ Hid (Below w9.heap.size w9 wx))
  case first =>
    cases hA : A.B
    · cases hQ : Q.B
      · have t0 := HTN.out hA
        subst t0
        have u0 := HUN.out hQ
        subst u0
        go_region
        all_goals (
            go_wp2
            go_meet
            first | exact ⟨rfl, HB10⟩ | exact ⟨rfl, below_drewAt HB10.out⟩)
      · obtain ⟨t1, t2, t3, t5⟩ := str_none (HTN.out hA)
        obtain ⟨u1, u2, u3, u4, u5⟩ := str_full (HUne.out hQ)
        first
          | (go_region_with
            (first
              | (go_at_call 17; refine Calls.mono (R4.out prc crc qrc drc _ HSrc.out HTrc.out hBrc.out) ?_; rintro e wrd ⟨rfl, hbrd⟩; have hBrd : Hid (Below w9.heap.size w9 wrd) := Below.on hBrc.out hbrd; clear hbrd; obtain ⟨_, xrd0, xrd1, xrd2, xrd3, xrd4, xrd5, xrd6⟩ := HX9.out.below hBrd.out; obtain ⟨_, yrd0, yrd1, yrd2, yrd3, yrd4, yrd5, yrd6⟩ := HY9.out.below hBrd.out)
              | (go_at_call 11; refine Calls.mono (R2.out hQ _ ?hs) ?_; (case hs => (first | exact HB10.out | exact below_drewAt HB10.out)); rintro e wrc ⟨prc, crc, qrc, drc, rfl, hsrc, htrc, hbrc⟩; have hBrc : Hid (Below w9.heap.size w9 wrc) := Below.on (below_drewAt HB10.out) ⟨hbrc.os, hbrc.tape, hbrc.output, hbrc.size, hbrc.block⟩; have HSrc : Hid (Prs prc Q.us.length Q.us wrc) := hsrc; have HTrc : Hid (Prs qrc Q.gs.length Q.gs wrc) := htrc; clear hsrc htrc; clear hbrc; obtain ⟨_, xrc0, xrc1, xrc2, xrc3, xrc4, xrc5, xrc6⟩ := HX9.out.below hBrc.out; obtain ⟨_, yrc0, yrc1, yrc2, yrc3, yrc4, yrc5, yrc6⟩ := HY9.out.below hBrc.out)))
          | fail
        all_goals (
            go_wp2
            go_meet
            first | exact ⟨rfl, hBrd⟩ | exact ⟨rfl, below_drewAt hBrd.out⟩)
    · cases hQ : Q.B
      · have u0 := HUN.out hQ
        subst u0
        obtain ⟨t1, t2, t3, t4, t5⟩ := str_full (HTne.out hA)
        first
          | (go_region_with
            (first
              | (go_at_call 17; refine Calls.mono (R3.out pra cra qra dra _ HSra.out HTra.out hBra.out) ?_; rintro e wrb ⟨rfl, hbrb⟩; have hBrb : Hid (Below w9.heap.size w9 wrb) := Below.on hBra.out hbrb; clear hbrb; obtain ⟨_, xrb0, xrb1, xrb2, xrb3, xrb4, xrb5, xrb6⟩ := HX9.out.below hBrb.out; obtain ⟨_, yrb0, yrb1, yrb2, yrb3, yrb4, yrb5, yrb6⟩ := HY9.out.below hBrb.out)
              | (go_at_call 10; refine Calls.mono (R1.out hA _ ?hs) ?_; (case hs => (first | exact HB10.out | exact below_drewAt HB10.out)); rintro e wra ⟨pra, cra, qra, dra, rfl, hsra, htra, hbra⟩; have hBra : Hid (Below w9.heap.size w9 wra) := Below.on (below_drewAt HB10.out) ⟨hbra.os, hbra.tape, hbra.output, hbra.size, hbra.block⟩; have HSra : Hid (Prs pra A.us.length A.us wra) := hsra; have HTra : Hid (Prs qra A.gs.length A.gs wra) := htra; clear hsra htra; clear hbra; obtain ⟨_, xra0, xra1, xra2, xra3, xra4, xra5, xra6⟩ := HX9.out.below hBra.out; obtain ⟨_, yra0, yra1, yra2, yra3, yra4, yra5, yra6⟩ := HY9.out.below hBra.out)))
          | fail
        all_goals (
            go_wp2
            go_meet
            first | exact ⟨rfl, hBrb⟩ | exact ⟨rfl, below_drewAt hBrb.out⟩)
      · skip
        obtain ⟨t1, t2, t3, t4, t5⟩ := str_full (HTne.out hA)
        obtain ⟨u1, u2, u3, u4, u5⟩ := str_full (HUne.out hQ)
        go_region_held3 (fun w' => (w'.cell? ⟨X, 0, none⟩ = some (.int .i64 A.u) ∧ w'.cell? ⟨X, 1, none⟩ = some (.int .i64 A.g) ∧ w'.cell? ⟨X, 2, none⟩ = some (.int .i64 A.o) ∧ w'.cell? ⟨X, 3, none⟩ = some (.slice aU A.us.length cU) ∧ w'.cell? ⟨X, 4, none⟩ = some (.slice aG A.gs.length cG) ∧ w'.cell? ⟨X, 5, none⟩ = some (.bool A.r) ∧ w'.cell? ⟨X, 6, none⟩ = some (.int .i64 A.m)) ∧ (w'.cell? ⟨X + 1, 0, none⟩ = some (.int .i64 Q.u) ∧ w'.cell? ⟨X + 1, 1, none⟩ = some (.int .i64 Q.g) ∧ w'.cell? ⟨X + 1, 2, none⟩ = some (.int .i64 Q.o) ∧ w'.cell? ⟨X + 1, 3, none⟩ = some (.slice bU Q.us.length dU) ∧ w'.cell? ⟨X + 1, 4, none⟩ = some (.slice bG Q.gs.length dG) ∧ w'.cell? ⟨X + 1, 5, none⟩ = some (.bool Q.r) ∧ w'.cell? ⟨X + 1, 6, none⟩ = some (.int .i64 Q.m))) (go_keep)
            (first
              | (go_at_call 17; refine Calls.mono (R4.out prc crc qrc drc _ HSrc.out HTrc.out hBrc.out) ?_; rintro e wrd ⟨rfl, hbrd⟩; have hBrd : Hid (Below w9.heap.size w9 wrd) := Below.on hBrc.out hbrd; clear hbrd; obtain ⟨_, xrd0, xrd1, xrd2, xrd3, xrd4, xrd5, xrd6⟩ := HX9.out.below hBrd.out; obtain ⟨_, yrd0, yrd1, yrd2, yrd3, yrd4, yrd5, yrd6⟩ := HY9.out.below hBrd.out)
              | (go_at_call 11; refine Calls.mono (R2.out hQ _ hBrb.out) ?_; rintro e wrc ⟨prc, crc, qrc, drc, rfl, hsrc, htrc, hbrc⟩; have hBrc : Hid (Below w9.heap.size w9 wrc) := Below.on hBrb.out hbrc; have HSrc : Hid (Prs prc Q.us.length Q.us wrc) := hsrc; have HTrc : Hid (Prs qrc Q.gs.length Q.gs wrc) := htrc; clear hsrc htrc; clear hbrc; obtain ⟨_, xrc0, xrc1, xrc2, xrc3, xrc4, xrc5, xrc6⟩ := HX9.out.below hBrc.out; obtain ⟨_, yrc0, yrc1, yrc2, yrc3, yrc4, yrc5, yrc6⟩ := HY9.out.below hBrc.out)
              | (go_at_call 17; refine Calls.mono (R3.out pra cra qra dra _ HSra.out HTra.out hBra.out) ?_; rintro e wrb ⟨rfl, hbrb⟩; have hBrb : Hid (Below w9.heap.size w9 wrb) := Below.on hBra.out hbrb; clear hbrb; obtain ⟨_, xrb0, xrb1, xrb2, xrb3, xrb4, xrb5, xrb6⟩ := HX9.out.below hBrb.out; obtain ⟨_, yrb0, yrb1, yrb2, yrb3, yrb4, yrb5, yrb6⟩ := HY9.out.below hBrb.out)
              | (go_at_call 10; refine Calls.mono (R1.out hA _ ?hs) ?_; (case hs => (first | exact HB10.out | exact below_drewAt HB10.out)); rintro e wra ⟨pra, cra, qra, dra, rfl, hsra, htra, hbra⟩; have hBra : Hid (Below w9.heap.size w9 wra) := Below.on (below_drewAt HB10.out) ⟨hbra.os, hbra.tape, hbra.output, hbra.size, hbra.block⟩; have HSra : Hid (Prs pra A.us.length A.us wra) := hsra; have HTra : Hid (Prs qra A.gs.length A.gs wra) := htra; clear hsra htra; clear hbra; obtain ⟨_, xra0, xra1, xra2, xra3, xra4, xra5, xra6⟩ := HX9.out.below hBra.out; obtain ⟨_, yra0, yra1, yra2, yra3, yra4, yra5, yra6⟩ := HY9.out.below hBra.out))
        all_goals (
            go_wp2
            go_meet
            first | exact ⟨rfl, hBrd⟩ | exact ⟨rfl, below_drewAt hBrd.out⟩)
  case rest =>
  obtain ⟨rfl, HB11⟩ := hcut
  obtain ⟨ws, hws⟩ : ∃ ws, ws = wc := ⟨_, rfl⟩
  subst hws
  clear x0 x1 x2 x3 x4 x5 x6 xl y0 y1 y2 y3 y4 y5 y6 yl R1 R2 R3 R4
  obtain ⟨vl, v0, v1, v2, v3, v4, v5, v6, v7⟩ := HV.out.below HB11.out
  obtain ⟨zl, z0, z1, z2, z3, z4, z5, z6, z7⟩ := HZ.out.below HB11.out
  by_cases hx0 : xk = 0
  · subst hx0
    go_wp2_with fail
    refine (R5.out (by first | rfl | trivial) _ HB11.out).mono ?_
    rintro e wa ⟨rfl, hba⟩
    have HBa : Hid (Below w9.heap.size w9 wa) := Below.on HB11.out hba
    obtain ⟨zl, z0, z1, z2, z3, z4, z5, z6, z7⟩ := HZ.out.below HBa.out
    clear hba v0 v1 v2 v3 v4 v5 v6 v7 vl
    by_cases hy0 : yk = 0
    · subst hy0
      go_wp2_with fail
      refine (R6.out (by first | rfl | trivial) _ HBa.out).mono ?_
      rintro e wb ⟨rfl, hbb⟩
      have HBb : Hid (Below w9.heap.size w9 wb) := Below.on HBa.out hbb
      clear hbb
      go_wp2
      go_ret
      exact ⟨rfl, Below.on HF9.out HBb.out⟩
    · have ey : (yk != 0) = true := by simp [hy0]
      have ey2 : (yk == 0) = false := by simp [hy0]
      go_wp2
      go_ret
      exact ⟨rfl, Below.on HF9.out HBa.out⟩
  · have ex : (xk != 0) = true := by simp [hx0]
    have ex2 : (xk == 0) = false := by simp [hx0]
    by_cases hy0 : yk = 0
    · subst hy0
      go_wp2_with fail
      refine (R6.out (by first | rfl | trivial) _ HB11.out).mono ?_
      rintro e wb ⟨rfl, hbb⟩
      have HBb : Hid (Below w9.heap.size w9 wb) := Below.on HB11.out hbb
      clear hbb
      go_wp2
      go_ret
      exact ⟨rfl, Below.on HF9.out HBb.out⟩
    · have ey : (yk != 0) = true := by simp [hy0]
      have ey2 : (yk == 0) = false := by simp [hy0]
      go_wp2
      go_ret
      exact ⟨rfl, Below.on HF9.out HB11.out⟩
end Go.Proofs.YtgooanaacebncaaGreatDoor
