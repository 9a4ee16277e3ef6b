/- Laid together: IPk. -/
import Derived.Test.YtgooanaacebncaaGreatDoorAT35
import Derived.Test.YtgooanaacebncaaGreatDoorAT34
import Derived.Deep.Cut
/- An entry of four bytes taken in by the program: putKind. -/
namespace Go.Proofs.YtgooanaacebncaaGreatDoor
open Go.RowKit Go.PlainAid Go.Deep
set_option linter.unusedVariables false
set_option maxRecDepth 100000 in
set_option maxHeartbeats 2000000 in
/-- impl.putKind, of the owner. -/
theorem iPutK_u (w0 w : World) (P : Nat) (a : Al) (aU : Option Addr) (cU : Nat) (aG : Option Addr) (cG : Nat) (h : Ahead w0 w P a aU cU aG cG) (hlu : a.us.length ≤ 100000) (hlg : a.gs.length ≤ 100000) (NI BI : Int) :
    Calls Tryz.prog 58 #[.pointer (some ⟨P, 0, none⟩), .int .u8 1, .agg #[.int .i64 NI, .int .i64 BI]] w fun e w' => e = .returned (.tuple #[]) ∧ ∃ aU' cU' aG' cG', EntI w0 w w' P ({ a with u := BI }) aU aG aU' cU' aG' cG' := by
  have hA := h.below (bel_alloc w (.cells #[.int .i64 NI, .int .i64 BI] 45))
  obtain ⟨x0, x1⟩ := pair_new w (.int .i64 NI) (.int .i64 BI) 45
  have HA : Hid _ := hA
  have HPX : Hid (P < w.heap.size) := h.p.lt
  have HBW : Hid (Below w.heap.size w (w.alloc (.cells #[.int .i64 NI, .int .i64 BI] 45))) := bel_alloc _ _
  have HZ : Hid (w.heap.size < (w.alloc (.cells #[.int .i64 NI, .int .i64 BI] 45)).heap.size) := (show _ < _ by simp)
  have HLN : Hid (a.us.length ≤ 100000 ∧ a.gs.length ≤ 100000) := ⟨hlu, hlg⟩
  clear hA h hlu hlg
  go_enter Tryz.func58, Tryz.ntmps58
  obtain ⟨pl, p0, p1, p2, p3, p4, p5, p6, pz⟩ := HA.out.p
  have pz0 := pz 0
  have pz1 := pz 1
  have pz2 := pz 2
  have pz3 := pz 3
  have pz4 := pz 4
  have pz5 := pz 5
  have pz6 := pz 6
  clear pz
  have hne : P ≠ w.heap.size := by have := HPX.out; omega
  go_wp2
  exact bodyPost_end (v := .tuple #[]) (by simp [results, Tryz.results58]) rfl ⟨rfl, aU, cU, aG, cG, (R2.set (HA.out.r) HA.out.b HA.out.nu HA.out.ng).as rfl rfl, (W7.set0 (HA.out.p)), (ButP.set (ButP.of_below HBW.out)), FromR.refl _ _, FromR.refl _ _⟩
set_option maxRecDepth 100000 in
set_option maxHeartbeats 2000000 in
/-- impl.putKind, of a user. -/
theorem iPutK_us (w0 w : World) (P : Nat) (a : Al) (aU : Option Addr) (cU : Nat) (aG : Option Addr) (cG : Nat) (h : Ahead w0 w P a aU cU aG cG) (hlu : a.us.length ≤ 100000) (hlg : a.gs.length ≤ 100000) (NI BI : Int) :
    Calls Tryz.prog 58 #[.pointer (some ⟨P, 0, none⟩), .int .u8 2, .agg #[.int .i64 NI, .int .i64 BI]] w fun e w' => e = .returned (.tuple #[]) ∧ ∃ aU' cU' aG' cG', EntI w0 w w' P ({ a with us := a.us ++ [(NI, BI)] }) aU aG aU' cU' aG' cG' := by
  have hA := h.below (bel_alloc w (.cells #[.int .i64 NI, .int .i64 BI] 45))
  obtain ⟨x0, x1⟩ := pair_new w (.int .i64 NI) (.int .i64 BI) 45
  have HA : Hid _ := hA
  have HPX : Hid (P < w.heap.size) := h.p.lt
  have HBW : Hid (Below w.heap.size w (w.alloc (.cells #[.int .i64 NI, .int .i64 BI] 45))) := bel_alloc _ _
  have HZ : Hid (w.heap.size < (w.alloc (.cells #[.int .i64 NI, .int .i64 BI] 45)).heap.size) := (show _ < _ by simp)
  have HLN : Hid (a.us.length ≤ 100000 ∧ a.gs.length ≤ 100000) := ⟨hlu, hlg⟩
  clear hA h hlu hlg
  go_enter Tryz.func58, Tryz.ntmps58
  go_upto_region 5 with fail
  generalize w.alloc (.cells #[.int .i64 NI, .int .i64 BI] 45) = wb at HA HBW HZ x0 x1 ⊢
  obtain ⟨a', c', w4, hr, hR4, hsz4, hk4, hf4⟩ := HA.out.drew.r.addU NI BI (by have := HLN.out.1; omega)
  generalize hGL : (a.us ++ [(NI, BI)]).length = GL at hr
  have HGL : Hid ((a.us ++ [(NI, BI)]).length = GL) := hGL
  have hpl : P < wb.heap.size := HA.out.p.lt
  have hP4 : W7 w4 P (.int .i64 a.u) (.int .i64 a.g) (.int .i64 a.o) (.slice aU a.us.length cU) (.slice aG a.gs.length cG) (.bool a.r) (.int .i64 a.m) := (W7.drew HA.out.p).keep hsz4 (hk4 P hpl HA.out.nu)
  have HPN : ∀ A, a' = some A → P ≠ A.block := fun A e => by
    rcases hf4 A e with ⟨A2, e2, e3⟩ | h1
    · rw [e3]; exact HA.out.nu A2 e2
    · have h2 : wb.heap.size ≤ A.block := h1
      omega
  have HP5 : Hid (W7 (w4.setCell ⟨P, 3, none⟩ (.slice a' GL c')) P (.int .i64 a.u) (.int .i64 a.g) (.int .i64 a.o) (.slice a' GL c') (.slice aG a.gs.length cG) (.bool a.r) (.int .i64 a.m)) := hP4.set3
  have HR5 : Hid (R2 w0 (w4.setCell ⟨P, 3, none⟩ (.slice a' GL c')) { a with us := a.us ++ [(NI, BI)] } a' c' aG cG) := hR4.set HA.out.b HPN HA.out.ng
  have HF5 : Hid (FromR aU a' w) := (fun A e => (hf4 A e).imp id (fun h1 => Nat.le_trans (Nat.le_of_lt HZ.out) h1))
  have HB4 : Hid (ButP P aU aG w w4) := ButP.pre ⟨hsz4, fun b hb n0 n1 n2 => hk4 b hb n1⟩ (bdC HBW.out)
  have HRR : Hid ((Builtin.append_ #[23, 23] 23 #[.slice aU a.us.length cU, .slice (some ⟨wb.drew.heap.size, 0, none⟩) 1 1]).run Tryz.prog (wb.drew.alloc (.cells #[.int .i64 NI, .int .i64 BI] 45)) = .ok (.slice a' GL c') w4) := hr
  obtain ⟨pl, p0, p1, p2, p3, p4, p5, p6, pz⟩ := HA.out.p
  obtain ⟨rl, r0, r1, r2, r3, r4, r5, r6, rz⟩ := hP4
  have rz3 := rz 3
  clear hR4 hk4 hf4 HPN hGL hr pz rz
  have HS6 : Hid (ButP P aU aG w (w4.setCell ⟨P, 3, none⟩ (.slice a' GL c'))) := HB4.out.set
  go_region_law (refine step_append_run rfl (.tmp 20) (.tmp 22) 23 rfl (.slice aU a.us.length cU) (.slice (some ⟨wb.drew.heap.size, 0, none⟩) 1 1) (.slice a' GL c') w4 (by simp [Act.eval]) (by simp [Act.eval]) HRR.out ?_)
  all_goals
    generalize (w4.setCell ⟨P, 3, none⟩ (.slice a' GL c')) = w5 at HP5 HR5 HS6 ⊢
    clear rl r0 r1 r2 r3 r4 r5 r6 rz3 pl p0 p1 p2 p3 p4 p5 p6 x0 x1
    go_wp2
    refine bodyPost_end (v := .tuple #[]) (by simp [results, Tryz.results58]) rfl ?_
    refine ⟨rfl, a', c', aG, cG, HR5.out, ?_, HS6.out, HF5.out, FromR.refl _ _⟩
    have hq := HP5.out
    rw [← HGL.out] at hq
    exact hq
set_option maxRecDepth 100000 in
set_option maxHeartbeats 2000000 in
/-- impl.putKind, of the group. -/
theorem iPutK_g (w0 w : World) (P : Nat) (a : Al) (aU : Option Addr) (cU : Nat) (aG : Option Addr) (cG : Nat) (h : Ahead w0 w P a aU cU aG cG) (hlu : a.us.length ≤ 100000) (hlg : a.gs.length ≤ 100000) (NI BI : Int) :
    Calls Tryz.prog 58 #[.pointer (some ⟨P, 0, none⟩), .int .u8 4, .agg #[.int .i64 NI, .int .i64 BI]] w fun e w' => e = .returned (.tuple #[]) ∧ ∃ aU' cU' aG' cG', EntI w0 w w' P ({ a with g := BI }) aU aG aU' cU' aG' cG' := by
  have hA := h.below (bel_alloc w (.cells #[.int .i64 NI, .int .i64 BI] 45))
  obtain ⟨x0, x1⟩ := pair_new w (.int .i64 NI) (.int .i64 BI) 45
  have HA : Hid _ := hA
  have HPX : Hid (P < w.heap.size) := h.p.lt
  have HBW : Hid (Below w.heap.size w (w.alloc (.cells #[.int .i64 NI, .int .i64 BI] 45))) := bel_alloc _ _
  have HZ : Hid (w.heap.size < (w.alloc (.cells #[.int .i64 NI, .int .i64 BI] 45)).heap.size) := (show _ < _ by simp)
  have HLN : Hid (a.us.length ≤ 100000 ∧ a.gs.length ≤ 100000) := ⟨hlu, hlg⟩
  clear hA h hlu hlg
  go_enter Tryz.func58, Tryz.ntmps58
  obtain ⟨pl, p0, p1, p2, p3, p4, p5, p6, pz⟩ := HA.out.p
  have pz0 := pz 0
  have pz1 := pz 1
  have pz2 := pz 2
  have pz3 := pz 3
  have pz4 := pz 4
  have pz5 := pz 5
  have pz6 := pz 6
  clear pz
  have hne : P ≠ w.heap.size := by have := HPX.out; omega
  go_wp2
  exact bodyPost_end (v := .tuple #[]) (by simp [results, Tryz.results58]) rfl ⟨rfl, aU, cU, aG, cG, (R2.set (HA.out.r) HA.out.b HA.out.nu HA.out.ng).as rfl rfl, (W7.set1 (HA.out.p)), (ButP.set (ButP.of_below HBW.out)), FromR.refl _ _, FromR.refl _ _⟩
set_option maxRecDepth 100000 in
set_option maxHeartbeats 2000000 in
/-- impl.putKind, of a group. -/
theorem iPutK_gs (w0 w : World) (P : Nat) (a : Al) (aU : Option Addr) (cU : Nat) (aG : Option Addr) (cG : Nat) (h : Ahead w0 w P a aU cU aG cG) (hlu : a.us.length ≤ 100000) (hlg : a.gs.length ≤ 100000) (NI BI : Int) :
    Calls Tryz.prog 58 #[.pointer (some ⟨P, 0, none⟩), .int .u8 8, .agg #[.int .i64 NI, .int .i64 BI]] w fun e w' => e = .returned (.tuple #[]) ∧ ∃ aU' cU' aG' cG', EntI w0 w w' P ({ a with gs := a.gs ++ [(NI, BI)] }) aU aG aU' cU' aG' cG' := by
  have hA := h.below (bel_alloc w (.cells #[.int .i64 NI, .int .i64 BI] 45))
  obtain ⟨x0, x1⟩ := pair_new w (.int .i64 NI) (.int .i64 BI) 45
  have HA : Hid _ := hA
  have HPX : Hid (P < w.heap.size) := h.p.lt
  have HBW : Hid (Below w.heap.size w (w.alloc (.cells #[.int .i64 NI, .int .i64 BI] 45))) := bel_alloc _ _
  have HZ : Hid (w.heap.size < (w.alloc (.cells #[.int .i64 NI, .int .i64 BI] 45)).heap.size) := (show _ < _ by simp)
  have HLN : Hid (a.us.length ≤ 100000 ∧ a.gs.length ≤ 100000) := ⟨hlu, hlg⟩
  clear hA h hlu hlg
  go_enter Tryz.func58, Tryz.ntmps58
  go_upto_region 9 with fail
  generalize w.alloc (.cells #[.int .i64 NI, .int .i64 BI] 45) = wb at HA HBW HZ x0 x1 ⊢
  obtain ⟨a', c', w4, hr, hR4, hsz4, hk4, hf4⟩ := HA.out.drew.r.addG NI BI (by have := HLN.out.2; omega)
  generalize hGL : (a.gs ++ [(NI, BI)]).length = GL at hr
  have HGL : Hid ((a.gs ++ [(NI, BI)]).length = GL) := hGL
  have hpl : P < wb.heap.size := HA.out.p.lt
  have hP4 : W7 w4 P (.int .i64 a.u) (.int .i64 a.g) (.int .i64 a.o) (.slice aU a.us.length cU) (.slice aG a.gs.length cG) (.bool a.r) (.int .i64 a.m) := (W7.drew HA.out.p).keep hsz4 (hk4 P hpl HA.out.ng)
  have HPN : ∀ A, a' = some A → P ≠ A.block := fun A e => by
    rcases hf4 A e with ⟨A2, e2, e3⟩ | h1
    · rw [e3]; exact HA.out.ng A2 e2
    · have h2 : wb.heap.size ≤ A.block := h1
      omega
  have HP5 : Hid (W7 (w4.setCell ⟨P, 4, none⟩ (.slice a' GL c')) P (.int .i64 a.u) (.int .i64 a.g) (.int .i64 a.o) (.slice aU a.us.length cU) (.slice a' GL c') (.bool a.r) (.int .i64 a.m)) := hP4.set4
  have HR5 : Hid (R2 w0 (w4.setCell ⟨P, 4, none⟩ (.slice a' GL c')) { a with gs := a.gs ++ [(NI, BI)] } aU cU a' c') := hR4.set HA.out.b HA.out.nu HPN
  have HF5 : Hid (FromR aG a' w) := (fun A e => (hf4 A e).imp id (fun h1 => Nat.le_trans (Nat.le_of_lt HZ.out) h1))
  have HB4 : Hid (ButP P aU aG w w4) := ButP.pre ⟨hsz4, fun b hb n0 n1 n2 => hk4 b hb n2⟩ (bdC HBW.out)
  have HRR : Hid ((Builtin.append_ #[23, 23] 23 #[.slice aG a.gs.length cG, .slice (some ⟨wb.drew.heap.size, 0, none⟩) 1 1]).run Tryz.prog (wb.drew.alloc (.cells #[.int .i64 NI, .int .i64 BI] 45)) = .ok (.slice a' GL c') w4) := hr
  obtain ⟨pl, p0, p1, p2, p3, p4, p5, p6, pz⟩ := HA.out.p
  obtain ⟨rl, r0, r1, r2, r3, r4, r5, r6, rz⟩ := hP4
  have rz4 := rz 4
  clear hR4 hk4 hf4 HPN hGL hr pz rz
  have HS6 : Hid (ButP P aU aG w (w4.setCell ⟨P, 4, none⟩ (.slice a' GL c'))) := HB4.out.set
  go_region_law (refine step_append_run rfl (.tmp 39) (.tmp 41) 23 rfl (.slice aG a.gs.length cG) (.slice (some ⟨wb.drew.heap.size, 0, none⟩) 1 1) (.slice a' GL c') w4 (by simp [Act.eval]) (by simp [Act.eval]) HRR.out ?_)
  all_goals
    generalize (w4.setCell ⟨P, 4, none⟩ (.slice a' GL c')) = w5 at HP5 HR5 HS6 ⊢
    clear rl r0 r1 r2 r3 r4 r5 r6 rz4 pl p0 p1 p2 p3 p4 p5 p6 x0 x1
    go_wp2
    refine bodyPost_end (v := .tuple #[]) (by simp [results, Tryz.results58]) rfl ?_
    refine ⟨rfl, aU, cU, a', c', HR5.out, ?_, HS6.out, FromR.refl _ _, HF5.out⟩
    have hq := HP5.out
    rw [← HGL.out] at hq
    exact hq
set_option maxRecDepth 100000 in
set_option maxHeartbeats 2000000 in
/-- impl.putKind, of the mask. -/
theorem iPutK_m (w0 w : World) (P : Nat) (a : Al) (aU : Option Addr) (cU : Nat) (aG : Option Addr) (cG : Nat) (h : Ahead w0 w P a aU cU aG cG) (hlu : a.us.length ≤ 100000) (hlg : a.gs.length ≤ 100000) (NI BI : Int) :
    Calls Tryz.prog 58 #[.pointer (some ⟨P, 0, none⟩), .int .u8 16, .agg #[.int .i64 NI, .int .i64 BI]] w fun e w' => e = .returned (.tuple #[]) ∧ ∃ aU' cU' aG' cG', EntI w0 w w' P ({ a with r := true, m := BI }) aU aG aU' cU' aG' cG' := by
  have hA := h.below (bel_alloc w (.cells #[.int .i64 NI, .int .i64 BI] 45))
  obtain ⟨x0, x1⟩ := pair_new w (.int .i64 NI) (.int .i64 BI) 45
  have HA : Hid _ := hA
  have HPX : Hid (P < w.heap.size) := h.p.lt
  have HBW : Hid (Below w.heap.size w (w.alloc (.cells #[.int .i64 NI, .int .i64 BI] 45))) := bel_alloc _ _
  have HZ : Hid (w.heap.size < (w.alloc (.cells #[.int .i64 NI, .int .i64 BI] 45)).heap.size) := (show _ < _ by simp)
  have HLN : Hid (a.us.length ≤ 100000 ∧ a.gs.length ≤ 100000) := ⟨hlu, hlg⟩
  clear hA h hlu hlg
  go_enter Tryz.func58, Tryz.ntmps58
  go_upto_region 11 with fail
  generalize w.alloc (.cells #[.int .i64 NI, .int .i64 BI] 45) = wb at HA HBW HZ x0 x1 ⊢
  have HAD : Hid _ := HA.out.drew
  obtain ⟨pl, p0, p1, p2, p3, p4, p5, p6, pz⟩ := HA.out.p
  have pz0 := pz 0
  have pz1 := pz 1
  have pz2 := pz 2
  have pz3 := pz 3
  have pz4 := pz 4
  have pz5 := pz 5
  have pz6 := pz 6
  clear pz
  go_region
  all_goals
    go_wp2
    refine bodyPost_end (v := .tuple #[]) (by simp [results, Tryz.results58]) rfl ?_
    first
      | exact ⟨rfl, aU, cU, aG, cG, (R2.drew (R2.set (R2.set (HA.out.r) HA.out.b HA.out.nu HA.out.ng) HA.out.b HA.out.nu HA.out.ng)).as rfl rfl, W7.drew (W7.set6 (W7.set5 (HA.out.p))), ((ButP.set (ButP.set (ButP.of_below HBW.out))) : ButP P aU aG w ((wb.setCell ⟨P, 5, none⟩ (.bool true)).setCell ⟨P, 6, none⟩ (.int .i64 BI))), FromR.refl _ _, FromR.refl _ _⟩
set_option maxRecDepth 100000 in
set_option maxHeartbeats 2000000 in
/-- impl.putKind, of others. -/
theorem iPutK_o (w0 w : World) (P : Nat) (a : Al) (aU : Option Addr) (cU : Nat) (aG : Option Addr) (cG : Nat) (h : Ahead w0 w P a aU cU aG cG) (hlu : a.us.length ≤ 100000) (hlg : a.gs.length ≤ 100000) (NI BI : Int) :
    Calls Tryz.prog 58 #[.pointer (some ⟨P, 0, none⟩), .int .u8 32, .agg #[.int .i64 NI, .int .i64 BI]] w fun e w' => e = .returned (.tuple #[]) ∧ ∃ aU' cU' aG' cG', EntI w0 w w' P ({ a with o := BI }) aU aG aU' cU' aG' cG' := by
  have hA := h.below (bel_alloc w (.cells #[.int .i64 NI, .int .i64 BI] 45))
  obtain ⟨x0, x1⟩ := pair_new w (.int .i64 NI) (.int .i64 BI) 45
  have HA : Hid _ := hA
  have HPX : Hid (P < w.heap.size) := h.p.lt
  have HBW : Hid (Below w.heap.size w (w.alloc (.cells #[.int .i64 NI, .int .i64 BI] 45))) := bel_alloc _ _
  have HZ : Hid (w.heap.size < (w.alloc (.cells #[.int .i64 NI, .int .i64 BI] 45)).heap.size) := (show _ < _ by simp)
  have HLN : Hid (a.us.length ≤ 100000 ∧ a.gs.length ≤ 100000) := ⟨hlu, hlg⟩
  clear hA h hlu hlg
  go_enter Tryz.func58, Tryz.ntmps58
  obtain ⟨pl, p0, p1, p2, p3, p4, p5, p6, pz⟩ := HA.out.p
  have pz0 := pz 0
  have pz1 := pz 1
  have pz2 := pz 2
  have pz3 := pz 3
  have pz4 := pz 4
  have pz5 := pz 5
  have pz6 := pz 6
  clear pz
  have hne : P ≠ w.heap.size := by have := HPX.out; omega
  go_wp2
  exact bodyPost_end (v := .tuple #[]) (by simp [results, Tryz.results58]) rfl ⟨rfl, aU, cU, aG, cG, (R2.set (HA.out.r) HA.out.b HA.out.nu HA.out.ng).as rfl rfl, (W7.set2 (HA.out.p)), (ButP.set (ButP.of_below HBW.out)), FromR.refl _ _, FromR.refl _ _⟩
set_option maxRecDepth 100000 in
set_option maxHeartbeats 2000000 in
/-- impl.putKind, of no kind. -/
theorem iPutK_no (w0 w : World) (P : Nat) (a : Al) (aU : Option Addr) (cU : Nat) (aG : Option Addr) (cG : Nat) (h : Ahead w0 w P a aU cU aG cG) (hlu : a.us.length ≤ 100000) (hlg : a.gs.length ≤ 100000) (NI BI : Int) (k : Nat) (lk : k ≤ 255) (n1 : k ≠ 1) (n2 : k ≠ 2) (n4 : k ≠ 4) (n8 : k ≠ 8) (n16 : k ≠ 16) (n32 : k ≠ 32) :
    Calls Tryz.prog 58 #[.pointer (some ⟨P, 0, none⟩), .int .u8 (k : Int), .agg #[.int .i64 NI, .int .i64 BI]] w fun e w' => e = .returned (.tuple #[]) ∧ ∃ aU' cU' aG' cG', EntI w0 w w' P (a) aU aG aU' cU' aG' cG' := by
  have hA := h.below (bel_alloc w (.cells #[.int .i64 NI, .int .i64 BI] 45))
  obtain ⟨x0, x1⟩ := pair_new w (.int .i64 NI) (.int .i64 BI) 45
  have HA : Hid _ := hA
  have HPX : Hid (P < w.heap.size) := h.p.lt
  have HBW : Hid (Below w.heap.size w (w.alloc (.cells #[.int .i64 NI, .int .i64 BI] 45))) := bel_alloc _ _
  have HZ : Hid (w.heap.size < (w.alloc (.cells #[.int .i64 NI, .int .i64 BI] 45)).heap.size) := (show _ < _ by simp)
  have HLN : Hid (a.us.length ≤ 100000 ∧ a.gs.length ≤ 100000) := ⟨hlu, hlg⟩
  clear hA h hlu hlg
  have q1 : ((k : Int) == 1) = false := beq_eq_false_iff_ne.2 (by omega)
  have q2 : ((k : Int) == 2) = false := beq_eq_false_iff_ne.2 (by omega)
  have q4 : ((k : Int) == 4) = false := beq_eq_false_iff_ne.2 (by omega)
  have q8 : ((k : Int) == 8) = false := beq_eq_false_iff_ne.2 (by omega)
  have q16 : ((k : Int) == 16) = false := beq_eq_false_iff_ne.2 (by omega)
  have q32 : ((k : Int) == 32) = false := beq_eq_false_iff_ne.2 (by omega)
  clear n1 n2 n4 n8 n16 n32
  go_enter Tryz.func58, Tryz.ntmps58
  go_wp2
  exact bodyPost_end (v := .tuple #[]) (by simp [results, Tryz.results58]) rfl ⟨rfl, aU, cU, aG, cG, HA.out.r, HA.out.p, ButP.of_below HBW.out, FromR.refl _ _, FromR.refl _ _⟩
/-- impl.putKind. -/
theorem iPutK_any (w0 w : World) (P : Nat) (a : Al) (aU : Option Addr) (cU : Nat) (aG : Option Addr) (cG : Nat) (h : Ahead w0 w P a aU cU aG cG) (hlu : a.us.length ≤ 100000) (hlg : a.gs.length ≤ 100000) (NI BI : Int) (k : Nat) (lk : k ≤ 255) :
    Calls Tryz.prog 58 #[.pointer (some ⟨P, 0, none⟩), .int .u8 (k : Int), .agg #[.int .i64 NI, .int .i64 BI]] w fun e w' => e = .returned (.tuple #[]) ∧ ∃ aU' cU' aG' cG', EntI w0 w w' P (takeE a k BI NI) aU aG aU' cU' aG' cG' := by
  by_cases n1 : k = 1
  · rw [takeE, if_pos n1, n1]
    exact iPutK_u w0 w P a aU cU aG cG h hlu hlg NI BI
  by_cases n2 : k = 2
  · rw [takeE, if_neg n1, if_pos n2, n2]
    exact iPutK_us w0 w P a aU cU aG cG h hlu hlg NI BI
  by_cases n4 : k = 4
  · rw [takeE, if_neg n1, if_neg n2, if_pos n4, n4]
    exact iPutK_g w0 w P a aU cU aG cG h hlu hlg NI BI
  by_cases n8 : k = 8
  · rw [takeE, if_neg n1, if_neg n2, if_neg n4, if_pos n8, n8]
    exact iPutK_gs w0 w P a aU cU aG cG h hlu hlg NI BI
  by_cases n16 : k = 16
  · rw [takeE, if_neg n1, if_neg n2, if_neg n4, if_neg n8, if_pos n16, n16]
    exact iPutK_m w0 w P a aU cU aG cG h hlu hlg NI BI
  by_cases n32 : k = 32
  · rw [takeE, if_neg n1, if_neg n2, if_neg n4, if_neg n8, if_neg n16, if_pos n32, n32]
    exact iPutK_o w0 w P a aU cU aG cG h hlu hlg NI BI
  · rw [takeE, if_neg n1, if_neg n2, if_neg n4, if_neg n8, if_neg n16, if_neg n32]
    exact iPutK_no w0 w P a aU cU aG cG h hlu hlg NI BI k lk n1 n2 n4 n8 n16 n32
end Go.Proofs.YtgooanaacebncaaGreatDoor
