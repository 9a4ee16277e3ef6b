/- Laid together: DefD. -/
import Derived.Test.YthgcobglecomcaaDoorDf25
/- FnDefault: its draw. -/
namespace Go.Proofs.YthgcobglecomcaaDoor
open Go.RowKit Go.PlainAid Go.Deep
set_option linter.unusedVariables false
theorem Code.up7 {a : Option Addr} {len : Nat} {g : Nat → Int} {w w' : World} (h : Code a len g w.heap.size w) (hb : Below w.heap.size w w') : Code a len g w'.heap.size w' := by
  have h1 := h.below hb
  have hs := hb.size
  exact ⟨h1.1, h1.2.1, fun hl => by
    obtain ⟨b, off, e, hlt, hc⟩ := h1.2.2 hl
    exact ⟨b, off, e, by omega, hc⟩⟩
set_option maxRecDepth 100000 in
set_option maxHeartbeats 2000000 in
theorem dDrawDefaultNfs_any (a : Option Addr) (len cap : Nat) (g : Nat → Int) (w : World) (hc : Code a len g w.heap.size w) :
    Calls Tryd.prog 5 #[.slice a len cap] w fun e w' => ∃ (A : Al) (aU : Option Addr) (cU : Nat) (aG : Option Addr) (cG : Nat), e = .returned (.agg #[.int .i64 A.u, .int .i64 A.g, .int .i64 A.o, .slice aU A.us.length cU, .slice aG A.gs.length cG, .bool A.r, .int .i64 A.m]) ∧ AclIs w' A aU aG ∧ Below w.heap.size w w' := by
  have hbA := (bel_alloc w (.cells #[.int .i64 0, .int .i64 0, .int .i64 0, .slice none 0 0, .slice none 0 0, .bool false, .int .i64 0] 25))
  have eA : (w.alloc (.cells #[.int .i64 0, .int .i64 0, .int .i64 0, .slice none 0 0, .slice none 0 0, .bool false, .int .i64 0] 25)).heap.size = w.heap.size + 1 := by simp
  have hR := fr7_new w (.int .i64 0) (.int .i64 0) (.int .i64 0) (.slice none 0 0) (.slice none 0 0) (.bool false) (.int .i64 0) 25
  have HC : Hid _ := hc.up7 hbA
  clear hc
  go_enter Tryd.func5, Tryd.ntmps5
  go_wp2_with fail
  refine (source_any a len cap g _ HC.out).mono ?_
  rintro e w1 ⟨rfl, hs1, hb1⟩
  have hR1 := hR.below hb1
  have hB1 : Below w.heap.size w w1 := Below.on hbA hb1
  rw [eA] at hs1
  clear hb1 hR HC hbA
  go_wp2_with fail
  refine (drAcl_any a len cap g _ _ hs1).mono ?_
  rintro e w2 ⟨A, aU, cU, aG, cG, rfl, hs2, ho2, hr2, _, hl1, hl2⟩
  have hD2 : Drn a len cap g (w.heap.size + 1) w w1 w2 A aU cU aG cG := Drn.of hB1 (by omega) hs1.pos hs2 ho2 hr2 hl1 hl2
  have hR2 := hR1.own ho2 (by omega)
  have hp1 := hs1.pos
  have HX : Hid (Fr7 (set7A w2 w.heap.size (.int .i64 A.u) (.int .i64 A.g) (.int .i64 A.o) (.slice aU A.us.length cU) (.slice aG A.gs.length cG) (.bool A.r) (.int .i64 A.m)) w.heap.size (.int .i64 A.u) (.int .i64 A.g) (.int .i64 A.o) (.slice aU A.us.length cU) (.slice aG A.gs.length cG) (.bool A.r) (.int .i64 A.m)) := hR2.sets _ _ _ _ _ _ _
  have HD : Hid (Rws w w1 (set7A w2 w.heap.size (.int .i64 A.u) (.int .i64 A.g) (.int .i64 A.o) (.slice aU A.us.length cU) (.slice aG A.gs.length cG) (.bool A.r) (.int .i64 A.m)) A aU cU aG cG) := hD2.rws.set7 (Nat.le_refl _) (by omega)
  have ZB := hR2.fz
  obtain ⟨z, z0, z1, z2, z3, z4, z5, z6⟩ := hR2.b
  have f0 := ZB 0
  have f1 := ZB 1
  have f2 := ZB 2
  have f3 := ZB 3
  have f4 := ZB 4
  have f5 := ZB 5
  have f6 := ZB 6
  clear hD2 hR2 hs2 ho2 hr2 hR1 hs1 hl1 hl2 ZB hB1
  go_wp2
  obtain ⟨y, y0, y1, y2, y3, y4, y5, y6⟩ := HX.out.b
  unfold set7A at y0 y1 y2 y3 y4 y5 y6
  refine bodyPost_ret (v := .agg #[.int .i64 A.u, .int .i64 A.g, .int .i64 A.o, .slice aU A.us.length cU, .slice aG A.gs.length cG, .bool A.r, .int .i64 A.m]) (by simp [results, Tryd.results5, go_sem, y0, y1, y2, y3, y4, y5, y6]) rfl ?_
  exact ⟨A, aU, cU, aG, cG, rfl, HD.out.is, HD.out.bel⟩
end Go.Proofs.YthgcobglecomcaaDoor
