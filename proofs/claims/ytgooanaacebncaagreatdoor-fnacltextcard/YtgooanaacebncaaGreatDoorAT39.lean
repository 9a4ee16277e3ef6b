/- Laid together: IEnt. -/
import Derived.Test.YtgooanaacebncaaGreatDoorAT37
/- An entry taken in by the program: putPlain, putEntry. -/
namespace Go.Proofs.YtgooanaacebncaaGreatDoor
open Go.RowKit Go.PlainAid Go.Deep
set_option linter.unusedVariables false
def plK (a : Al) (k : List UInt8) (BI : Int) : Al := if k = [117, 115, 101, 114] then { a with u := BI } else if k = [103, 114, 111, 117, 112] then { a with g := BI } else if k = [109, 97, 115, 107] then { a with r := true, m := BI } else { a with o := BI }
def plOk (k : List UInt8) : Bool := decide (k = [117, 115, 101, 114]) || (decide (k = [103, 114, 111, 117, 112]) || (decide (k = [109, 97, 115, 107]) || decide (k = [111, 116, 104, 101, 114])))
set_option maxRecDepth 100000 in
set_option maxHeartbeats 2000000 in
/-- impl.putPlain. -/
theorem iPlain_any (w0 w : World) (P : Nat) (a : Al) (aU : Option Addr) (cU : Nat) (aG : Option Addr) (cG : Nat) (h : Ahead w0 w P a aU cU aG cG) (ta : ByteArray) (BI : Int) :
    Calls Tryz.prog 78 #[.pointer (some ⟨P, 0, none⟩), .string ta, .int .i64 BI] w fun e w' => e = .returned (.bool (plOk ta.data.toList)) ∧ ButP P aU aG w w' ∧ Below w0.heap.size w0 w' ∧ (plOk ta.data.toList = true → EntI w0 w w' P (plK a ta.data.toList BI) aU aG aU cU aG cG) := by
  obtain ⟨pl, p0, p1, p2, p3, p4, p5, p6, pz⟩ := h.p
  have pz0 := pz 0
  have pz1 := pz 1
  have pz2 := pz 2
  have pz3 := pz 3
  have pz4 := pz 4
  have pz5 := pz 5
  have pz6 := pz 6
  clear pz
  by_cases hU : ta.data.toList = [117, 115, 101, 114]
  · have eU : (ta.toList == [117, 115, 101, 114]) = true := tlL_eq hU
    have HO : Hid (plOk ta.data.toList = true) := (by show _ = _; rw [hU]; decide)
    have HK : Hid (plK a ta.data.toList BI = { a with u := BI }) := (by show _ = _; rw [plK, if_pos hU])
    clear hU
    have hh : Hid (Ahead w0 w P a aU cU aG cG) := h
    clear h
    go_enter Tryz.func78, Tryz.ntmps78
    go_wp2
    go_ret
    have hr : R2 w0 (w.setCell ⟨P, 0, none⟩ (.int .i64 BI)) a aU cU aG cG := (R2.set (hh.out.r) hh.out.b hh.out.nu hh.out.ng)
    have hbp : ButP P aU aG w (w.setCell ⟨P, 0, none⟩ (.int .i64 BI)) := (ButP.refl _ _ _ _).set
    refine ⟨by rw [HO.out]; rfl, hbp, hr.bel, fun _ => ?_⟩
    rw [HK.out]
    exact ⟨hr.as rfl rfl, W7.set0 (hh.out.p), hbp, FromR.refl _ _, FromR.refl _ _⟩
  have eU : (ta.toList == [117, 115, 101, 114]) = false := tlL_ne hU
  by_cases hG : ta.data.toList = [103, 114, 111, 117, 112]
  · have eG : (ta.toList == [103, 114, 111, 117, 112]) = true := tlL_eq hG
    have HO : Hid (plOk ta.data.toList = true) := (by show _ = _; rw [hG]; decide)
    have HK : Hid (plK a ta.data.toList BI = { a with g := BI }) := (by show _ = _; rw [plK, if_neg hU, if_pos hG])
    clear hU hG
    have hh : Hid (Ahead w0 w P a aU cU aG cG) := h
    clear h
    go_enter Tryz.func78, Tryz.ntmps78
    go_wp2
    go_ret
    have hr : R2 w0 (w.setCell ⟨P, 1, none⟩ (.int .i64 BI)) a aU cU aG cG := (R2.set (hh.out.r) hh.out.b hh.out.nu hh.out.ng)
    have hbp : ButP P aU aG w (w.setCell ⟨P, 1, none⟩ (.int .i64 BI)) := (ButP.refl _ _ _ _).set
    refine ⟨by rw [HO.out]; rfl, hbp, hr.bel, fun _ => ?_⟩
    rw [HK.out]
    exact ⟨hr.as rfl rfl, W7.set1 (hh.out.p), hbp, FromR.refl _ _, FromR.refl _ _⟩
  have eG : (ta.toList == [103, 114, 111, 117, 112]) = false := tlL_ne hG
  by_cases hM : ta.data.toList = [109, 97, 115, 107]
  · have eM : (ta.toList == [109, 97, 115, 107]) = true := tlL_eq hM
    have HO : Hid (plOk ta.data.toList = true) := (by show _ = _; rw [hM]; decide)
    have HK : Hid (plK a ta.data.toList BI = { a with r := true, m := BI }) := (by show _ = _; rw [plK, if_neg hU, if_neg hG, if_pos hM])
    clear hU hG hM
    have hh : Hid (Ahead w0 w P a aU cU aG cG) := h
    clear h
    go_enter Tryz.func78, Tryz.ntmps78
    go_wp2
    go_ret
    have hr : R2 w0 ((w.setCell ⟨P, 5, none⟩ (.bool true)).setCell ⟨P, 6, none⟩ (.int .i64 BI)) a aU cU aG cG := (R2.set ((R2.set (hh.out.r) hh.out.b hh.out.nu hh.out.ng)) hh.out.b hh.out.nu hh.out.ng)
    have hbp : ButP P aU aG w ((w.setCell ⟨P, 5, none⟩ (.bool true)).setCell ⟨P, 6, none⟩ (.int .i64 BI)) := ((ButP.refl _ _ _ _).set).set
    refine ⟨by rw [HO.out]; rfl, hbp, hr.bel, fun _ => ?_⟩
    rw [HK.out]
    exact ⟨hr.as rfl rfl, W7.set6 (W7.set5 (hh.out.p)), hbp, FromR.refl _ _, FromR.refl _ _⟩
  have eM : (ta.toList == [109, 97, 115, 107]) = false := tlL_ne hM
  by_cases hO : ta.data.toList = [111, 116, 104, 101, 114]
  · have eO : (ta.toList == [111, 116, 104, 101, 114]) = true := tlL_eq hO
    have HO : Hid (plOk ta.data.toList = true) := (by show _ = _; rw [hO]; decide)
    have HK : Hid (plK a ta.data.toList BI = { a with o := BI }) := (by show _ = _; rw [plK, if_neg hU, if_neg hG, if_neg hM])
    clear hU hG hM hO
    have hh : Hid (Ahead w0 w P a aU cU aG cG) := h
    clear h
    go_enter Tryz.func78, Tryz.ntmps78
    go_wp2
    go_ret
    have hr : R2 w0 (w.setCell ⟨P, 2, none⟩ (.int .i64 BI)) a aU cU aG cG := (R2.set (hh.out.r) hh.out.b hh.out.nu hh.out.ng)
    have hbp : ButP P aU aG w (w.setCell ⟨P, 2, none⟩ (.int .i64 BI)) := (ButP.refl _ _ _ _).set
    refine ⟨by rw [HO.out]; rfl, hbp, hr.bel, fun _ => ?_⟩
    rw [HK.out]
    exact ⟨hr.as rfl rfl, W7.set2 (hh.out.p), hbp, FromR.refl _ _, FromR.refl _ _⟩
  have eO : (ta.toList == [111, 116, 104, 101, 114]) = false := tlL_ne hO
  have HO : Hid (plOk ta.data.toList = false) := (by show _ = _; simp [plOk, hU, hG, hM, hO])
  have hb := h.r.bel
  clear h hU hG hM hO
  go_enter Tryz.func78, Tryz.ntmps78
  go_wp2
  go_ret
  exact ⟨by rw [HO.out]; rfl, ButP.refl _ _ _ _, hb, fun e => by rw [HO.out] at e; cases e⟩
set_option maxRecDepth 100000 in
set_option maxHeartbeats 2000000 in
/-- impl.putEntry, of a user. -/
theorem iPutU_any (w0 w : World) (P : Nat) (a : Al) (aU : Option Addr) (cU : Nat) (aG : Option Addr) (cG : Nat) (h : Ahead w0 w P a aU cU aG cG) (hl : a.us.length ≤ 1000000) (ta : ByteArray) (hU : ta.data.toList = [117, 115, 101, 114]) (NI BI : Int) :
    Calls Tryz.prog 80 #[.pointer (some ⟨P, 0, none⟩), .string ta, .agg #[.int .i64 NI, .int .i64 BI]] w fun e w' => e = .returned (.bool true) ∧ ∃ a' c', EntI w0 w w' P { a with us := a.us ++ [(NI, BI)] } aU aG a' c' aG cG := by
  have eU : (ta.toList == [117, 115, 101, 114]) = true := tlL_eq hU
  obtain ⟨x0, x1⟩ := pair_new w (.int .i64 NI) (.int .i64 BI) 45
  have hA := h.below (bel_alloc w (.cells #[.int .i64 NI, .int .i64 BI] 45))
  have hzz : w.heap.size < (w.alloc (.cells #[.int .i64 NI, .int .i64 BI] 45)).heap.size := by simp
  have X0 : Hid _ := x0
  have X1 : Hid _ := x1
  have HA : Hid _ := hA
  have HZ : Hid _ := hzz
  clear x0 x1 hA hzz h
  go_enter Tryz.func80, Tryz.ntmps80
  go_upto_region 4 with fail
  have HBW : Hid (Below w.heap.size w (w.alloc (.cells #[.int .i64 NI, .int .i64 BI] 45))) := bel_alloc _ _
  generalize w.alloc (.cells #[.int .i64 NI, .int .i64 BI] 45) = wb at X0 X1 HA HZ HBW ⊢
  obtain ⟨a', c', w4, hr, hR4, hsz4, hk4, hf4⟩ := HA.out.drew.r.addU NI BI hl
  generalize hGL : (a.us ++ [(NI, BI)]).length = GL at hr
  have HGL : Hid ((a.us ++ [(NI, BI)]).length = GL) := hGL
  have hpl : P < wb.heap.size := HA.out.p.lt
  have hP4 : W7 w4 P (.int .i64 a.u) (.int .i64 a.g) (.int .i64 a.o) (.slice aU a.us.length cU) (.slice aG a.gs.length cG) (.bool a.r) (.int .i64 a.m) := (W7.drew HA.out.p).keep hsz4 (hk4 P hpl HA.out.nu)
  have HPN : ∀ A, a' = some A → P ≠ A.block := fun A e => by
    rcases hf4 A e with ⟨A2, e2, e3⟩ | h1
    · rw [e3]; exact HA.out.nu A2 e2
    · have h2 : wb.heap.size ≤ A.block := h1
      omega
  have HP5 : Hid (W7 (w4.setCell ⟨P, 3, none⟩ (.slice a' GL c')) P (.int .i64 a.u) (.int .i64 a.g) (.int .i64 a.o) (.slice a' GL c') (.slice aG a.gs.length cG) (.bool a.r) (.int .i64 a.m)) := hP4.set3
  have HR5 : Hid (R2 w0 (w4.setCell ⟨P, 3, none⟩ (.slice a' GL c')) { a with us := a.us ++ [(NI, BI)] } a' c' aG cG) := hR4.set HA.out.b HPN HA.out.ng
  have HF5 : Hid (FromR aU a' w) := (fun A e => (hf4 A e).imp id (fun h1 => Nat.le_trans (Nat.le_of_lt HZ.out) h1))
  have HB4 : Hid (ButP P aU aG w w4) := ButP.pre ⟨hsz4, fun b hb n0 n1 n2 => hk4 b hb n1⟩ (bdC HBW.out)
  have HS5 : Hid (w.heap.size ≤ w4.heap.size) := Nat.le_trans (Nat.le_of_lt HZ.out) hsz4
  have HRR : Hid ((Builtin.append_ #[23, 23] 23 #[.slice aU a.us.length cU, .slice (some ⟨wb.drew.heap.size, 0, none⟩) 1 1]).run Tryz.prog (wb.drew.alloc (.cells #[.int .i64 NI, .int .i64 BI] 45)) = .ok (.slice a' GL c') w4) := hr
  obtain ⟨pl, p0, p1, p2, p3, p4, p5, p6, pz⟩ := HA.out.p
  obtain ⟨rl, r0, r1, r2, r3, r4, r5, r6, rz⟩ := hP4
  have rz3 := rz 3
  have x0 := X0.out
  have x1 := X1.out
  clear hR4 hk4 hf4 HPN hGL hr pz rz
  have HS6 : Hid (ButP P aU aG w (w4.setCell ⟨P, 3, none⟩ (.slice a' GL c'))) := HB4.out.set
  go_region_law (refine step_append_run rfl (.tmp 14) (.tmp 16) 23 rfl (.slice aU a.us.length cU) (.slice (some ⟨wb.drew.heap.size, 0, none⟩) 1 1) (.slice a' GL c') w4 (by simp [Act.eval]) (by simp [Act.eval]) HRR.out ?_)
  all_goals
    generalize (w4.setCell ⟨P, 3, none⟩ (.slice a' GL c')) = w5 at HP5 HR5 HS6 ⊢
    clear rl r0 r1 r2 r3 r4 r5 r6 rz3 pl p0 p1 p2 p3 p4 p5 p6 x0 x1
    go_wp2
    go_ret
    refine ⟨rfl, a', c', HR5.out, ?_, HS6.out, HF5.out, FromR.refl _ _⟩
    have hq := HP5.out
    rw [← HGL.out] at hq
    exact hq
set_option maxRecDepth 100000 in
set_option maxHeartbeats 2000000 in
/-- impl.putEntry, of a group. -/
theorem iPutG_any (w0 w : World) (P : Nat) (a : Al) (aU : Option Addr) (cU : Nat) (aG : Option Addr) (cG : Nat) (h : Ahead w0 w P a aU cU aG cG) (hl : a.gs.length ≤ 1000000) (ta : ByteArray) (hG : ta.data.toList = [103, 114, 111, 117, 112]) (NI BI : Int) :
    Calls Tryz.prog 80 #[.pointer (some ⟨P, 0, none⟩), .string ta, .agg #[.int .i64 NI, .int .i64 BI]] w fun e w' => e = .returned (.bool true) ∧ ∃ a' c', EntI w0 w w' P { a with gs := a.gs ++ [(NI, BI)] } aU aG aU cU a' c' := by
  have eG : (ta.toList == [103, 114, 111, 117, 112]) = true := tlL_eq hG
  have eU : (ta.toList == [117, 115, 101, 114]) = false := tlL_ne (fun e => by rw [hG] at e; revert e; decide)
  obtain ⟨x0, x1⟩ := pair_new w (.int .i64 NI) (.int .i64 BI) 45
  have hA := h.below (bel_alloc w (.cells #[.int .i64 NI, .int .i64 BI] 45))
  have hzz : w.heap.size < (w.alloc (.cells #[.int .i64 NI, .int .i64 BI] 45)).heap.size := by simp
  have X0 : Hid _ := x0
  have X1 : Hid _ := x1
  have HA : Hid _ := hA
  have HZ : Hid _ := hzz
  clear x0 x1 hA hzz h
  go_enter Tryz.func80, Tryz.ntmps80
  go_upto_region 6 with fail
  have HBW : Hid (Below w.heap.size w (w.alloc (.cells #[.int .i64 NI, .int .i64 BI] 45))) := bel_alloc _ _
  generalize w.alloc (.cells #[.int .i64 NI, .int .i64 BI] 45) = wb at X0 X1 HA HZ HBW ⊢
  obtain ⟨a', c', w4, hr, hR4, hsz4, hk4, hf4⟩ := HA.out.drew.r.addG NI BI hl
  generalize hGL : (a.gs ++ [(NI, BI)]).length = GL at hr
  have HGL : Hid ((a.gs ++ [(NI, BI)]).length = GL) := hGL
  have hpl : P < wb.heap.size := HA.out.p.lt
  have hP4 : W7 w4 P (.int .i64 a.u) (.int .i64 a.g) (.int .i64 a.o) (.slice aU a.us.length cU) (.slice aG a.gs.length cG) (.bool a.r) (.int .i64 a.m) := (W7.drew HA.out.p).keep hsz4 (hk4 P hpl HA.out.ng)
  have HPN : ∀ A, a' = some A → P ≠ A.block := fun A e => by
    rcases hf4 A e with ⟨A2, e2, e3⟩ | h1
    · rw [e3]; exact HA.out.ng A2 e2
    · have h2 : wb.heap.size ≤ A.block := h1
      omega
  have HP5 : Hid (W7 (w4.setCell ⟨P, 4, none⟩ (.slice a' GL c')) P (.int .i64 a.u) (.int .i64 a.g) (.int .i64 a.o) (.slice aU a.us.length cU) (.slice a' GL c') (.bool a.r) (.int .i64 a.m)) := hP4.set4
  have HR5 : Hid (R2 w0 (w4.setCell ⟨P, 4, none⟩ (.slice a' GL c')) { a with gs := a.gs ++ [(NI, BI)] } aU cU a' c') := hR4.set HA.out.b HA.out.nu HPN
  have HF5 : Hid (FromR aG a' w) := (fun A e => (hf4 A e).imp id (fun h1 => Nat.le_trans (Nat.le_of_lt HZ.out) h1))
  have HB4 : Hid (ButP P aU aG w w4) := ButP.pre ⟨hsz4, fun b hb n0 n1 n2 => hk4 b hb n2⟩ (bdC HBW.out)
  have HS5 : Hid (w.heap.size ≤ w4.heap.size) := Nat.le_trans (Nat.le_of_lt HZ.out) hsz4
  have HRR : Hid ((Builtin.append_ #[23, 23] 23 #[.slice aG a.gs.length cG, .slice (some ⟨wb.drew.heap.size, 0, none⟩) 1 1]).run Tryz.prog (wb.drew.alloc (.cells #[.int .i64 NI, .int .i64 BI] 45)) = .ok (.slice a' GL c') w4) := hr
  obtain ⟨pl, p0, p1, p2, p3, p4, p5, p6, pz⟩ := HA.out.p
  obtain ⟨rl, r0, r1, r2, r3, r4, r5, r6, rz⟩ := hP4
  have rz4 := rz 4
  have x0 := X0.out
  have x1 := X1.out
  clear hR4 hk4 hf4 HPN hGL hr pz rz
  have HS6 : Hid (ButP P aU aG w (w4.setCell ⟨P, 4, none⟩ (.slice a' GL c'))) := HB4.out.set
  go_region_law (refine step_append_run rfl (.tmp 26) (.tmp 28) 23 rfl (.slice aG a.gs.length cG) (.slice (some ⟨wb.drew.heap.size, 0, none⟩) 1 1) (.slice a' GL c') w4 (by simp [Act.eval]) (by simp [Act.eval]) HRR.out ?_)
  all_goals
    generalize (w4.setCell ⟨P, 4, none⟩ (.slice a' GL c')) = w5 at HP5 HR5 HS6 ⊢
    clear rl r0 r1 r2 r3 r4 r5 r6 rz4 pl p0 p1 p2 p3 p4 p5 p6 x0 x1
    go_wp2
    go_ret
    refine ⟨rfl, a', c', HR5.out, ?_, HS6.out, FromR.refl _ _, HF5.out⟩
    have hq := HP5.out
    rw [← HGL.out] at hq
    exact hq
set_option maxRecDepth 100000 in
set_option maxHeartbeats 2000000 in
/-- impl.putEntry, of neither. -/
theorem iPutN_any (w : World) (P : Nat) (ta : ByteArray) (hU : ¬ ta.data.toList = [117, 115, 101, 114]) (hG : ¬ ta.data.toList = [103, 114, 111, 117, 112]) (NI BI : Int) :
    Calls Tryz.prog 80 #[.pointer (some ⟨P, 0, none⟩), .string ta, .agg #[.int .i64 NI, .int .i64 BI]] w fun e w' => e = .returned (.bool false) ∧ Below w.heap.size w w' := by
  have eU : (ta.toList == [117, 115, 101, 114]) = false := tlL_ne hU
  have eG : (ta.toList == [103, 114, 111, 117, 112]) = false := tlL_ne hG
  clear hU hG
  go_enter Tryz.func80, Tryz.ntmps80
  go_wp2
  go_ret
  exact ⟨rfl, bel_alloc _ _⟩
end Go.Proofs.YtgooanaacebncaaGreatDoor
