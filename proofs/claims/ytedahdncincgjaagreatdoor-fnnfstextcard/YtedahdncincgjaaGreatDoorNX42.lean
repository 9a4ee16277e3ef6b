/- Laid together: LwAces, LwNfs. -/
import Derived.Test.YtedahdncincgjaaGreatDoorNX24
/- laws.lwAces of two lists that hold the same. -/
namespace Go.Proofs.YtedahdncincgjaaGreatDoor
open Go.RowKit Go.PlainAid Go.Deep
set_option linter.unusedVariables false
set_option maxHeartbeats 2000000 in
theorem lwAces_none (a a2 : Option Addr) (cap cap2 : Nat) (w : World) :
    Calls Tryz.prog 23 #[.slice a 0 cap, .slice a2 0 cap2] w fun e w' => e = .returned (.bool true) ∧ Below w.heap.size w w' := by
  go_enter Tryz.func23, Tryz.ntmps23
  go_wp2
  go_rounds 1
  go_ret
  exact ⟨rfl, Below.refl _ _⟩
set_option maxHeartbeats 4000000 in
theorem lwAces_some (b off b2 off2 len cap cap2 : Nat) (l : List Ac) (hl : len ≤ 1048576) (w : World) (hb : b < w.heap.size) (hb2 : b2 < w.heap.size)
    (hc : Hid (∀ i, i < len → Five w b (off + i * 5) (acAt l i))) (hc2 : Hid (∀ i, i < len → Five w b2 (off2 + i * 5) (acAt l i))) :
    Calls Tryz.prog 23 #[.slice (some ⟨b, off, none⟩) len cap, .slice (some ⟨b2, off2, none⟩) len cap2] w fun e w' => e = .returned (.bool true) ∧ Below w.heap.size w w' := by
  go_enter Tryz.func23, Tryz.ntmps23
  go_wp2
  go_loopw [5] (fun i wr => ∃ (k : Nat), k ≤ len ∧ i = .int .i64 k ∧ Hid (Below w.heap.size w wr)) (fun i _ => len - (intOf i).toNat)
  case atStart => exact ⟨0, Nat.zero_le _, rfl, Below.refl _ _⟩
  case round =>
    obtain ⟨k, hk, rfl, hB⟩ := hrel
    by_cases hlt : k < len
    · have F1 := (hc.out k hlt).keep (fun j => hB.out.cell (p := ⟨b, j, none⟩) hb)
      have F2 := (hc2.out k hlt).keep (fun j => hB.out.cell (p := ⟨b2, j, none⟩) hb2)
      generalize acAt l k = x at F1 F2
      have g0 : ∀ d os, (Go.Sort.grow (redrawn wr d) os).cell? ⟨b, off + k * 5, none⟩ = some (.bool x.al) := fun d os => cell_regrown F1.c0 d os
      have g1 : ∀ d os, (Go.Sort.grow (redrawn wr d) os).cell? ⟨b, off + k * 5 + 1, none⟩ = some (.int .i64 x.wh) := fun d os => cell_regrown F1.c1 d os
      have g2 : ∀ d os, (Go.Sort.grow (redrawn wr d) os).cell? ⟨b, off + k * 5 + 2, none⟩ = some (.int .i64 x.id) := fun d os => cell_regrown F1.c2 d os
      have g3 : ∀ d os, (Go.Sort.grow (redrawn wr d) os).cell? ⟨b, off + k * 5 + 3, none⟩ = some (.int .i64 x.fl) := fun d os => cell_regrown F1.c3 d os
      have g4 : ∀ d os, (Go.Sort.grow (redrawn wr d) os).cell? ⟨b, off + k * 5 + 4, none⟩ = some (.int .i64 x.ma) := fun d os => cell_regrown F1.c4 d os
      have k0 : ∀ d os, (Go.Sort.grow (redrawn wr d) os).cell? ⟨b2, off2 + k * 5, none⟩ = some (.bool x.al) := fun d os => cell_regrown F2.c0 d os
      have k1 : ∀ d os, (Go.Sort.grow (redrawn wr d) os).cell? ⟨b2, off2 + k * 5 + 1, none⟩ = some (.int .i64 x.wh) := fun d os => cell_regrown F2.c1 d os
      have k2 : ∀ d os, (Go.Sort.grow (redrawn wr d) os).cell? ⟨b2, off2 + k * 5 + 2, none⟩ = some (.int .i64 x.id) := fun d os => cell_regrown F2.c2 d os
      have k3 : ∀ d os, (Go.Sort.grow (redrawn wr d) os).cell? ⟨b2, off2 + k * 5 + 3, none⟩ = some (.int .i64 x.fl) := fun d os => cell_regrown F2.c3 d os
      have k4 : ∀ d os, (Go.Sort.grow (redrawn wr d) os).cell? ⟨b2, off2 + k * 5 + 4, none⟩ = some (.int .i64 x.ma) := fun d os => cell_regrown F2.c4 d os
      have hlt' : (k : Int) < (len : Int) := by omega
      have hbb : (x.al == x.al) = true := by simp
      clear F1 F2
      go_wp2
      refine wp_region_quiet_below (by kernel_rfl) (by kernel_rfl) ?_
      repeat (go_big_quiet_step (fail))
      refine wpQuiet_nil ?_
      intro _ hw'
      obtain ⟨⟨dq, osq⟩, hw''⟩ := hw'
      subst hw''
      have hbq : Hid (Below w.heap.size w (Go.Sort.grow (redrawn wr dq) osq)) := hB.out.trans ((below_regrown wr dq osq).mono hB.out.size)
      generalize Go.Sort.grow (redrawn wr dq) osq = w1 at hbq ⊢
      clear g0 g1 g2 g3 g4 k0 k1 k2 k3 k4
      go_wp2
      go_roundw
      case rel => exact ⟨k + 1, by omega, by go_num, hbq⟩
      case measure => simp [intOf]; omega
    · have : k = len := by omega
      subst this
      go_wp2
      go_ret
      exact ⟨rfl, hB.out⟩
/-- laws.lwAces of two lists that hold the same. -/
theorem lwAces_any (a a2 : Option Addr) (len cap cap2 : Nat) (l : List Ac) (hl : len ≤ 1048576) (w : World) (h1 : Acs a len l w) (h2 : Acs a2 len l w) :
    Calls Tryz.prog 23 #[.slice a len cap, .slice a2 len cap2] w fun e w' => e = .returned (.bool true) ∧ Below w.heap.size w w' := by
  by_cases h0 : len = 0
  · subst h0
    exact lwAces_none a a2 cap cap2 w
  · obtain ⟨b, off, rfl, hb, hc⟩ := h1.2 (by omega)
    obtain ⟨b2, off2, rfl, hb2, hc2⟩ := h2.2 (by omega)
    exact lwAces_some b off b2 off2 len cap cap2 l hl w hb hb2 hc hc2
theorem bl2M (w : World) (o1 o2 : Obj) : Below w.heap.size w ((w.alloc o1).alloc o2) := ((Below.refl _ _).alloc (Nat.le_refl _) _).alloc (by simp) _
set_option maxRecDepth 100000 in
set_option maxHeartbeats 4000000 in
theorem lwNfs_any (a a2 : Option Addr) (len cap cap2 : Nat) (code : Int) (l : List Ac) (hl : len ≤ 1048576) (hR : code = 0 → acesB l = true) (w : World) (h1 : Acs a len l w) (h2 : Acs a2 len l w) :
    Calls Tryz.prog 20 #[.agg #[.slice a len cap, .int .i64 code], .agg #[.slice a2 len cap2, .int .i64 code]] w fun e w' => e = .returned (.bool true) ∧ Below w.heap.size w w' := by
  have hX := (box2_new w (.slice a len cap) (.int .i64 code) 35).below (bel_alloc _ (.cells #[.slice a2 len cap2, .int .i64 code] 35))
  have hY := box2_new (w.alloc (.cells #[.slice a len cap, .int .i64 code] 35)) (.slice a2 len cap2) (.int .i64 code) 35
  have eY : (w.alloc (.cells #[.slice a len cap, .int .i64 code] 35)).heap.size = w.heap.size + 1 := by simp
  rw [eY] at hY
  have HX : Hid _ := hX
  have HB : Hid (Below w.heap.size w ((w.alloc (.cells #[.slice a len cap, .int .i64 code] 35)).alloc (.cells #[.slice a2 len cap2, .int .i64 code] 35))) := bl2M _ _ _
  have H1 : Hid (Acs a len l w) := h1
  have H2 : Hid (Acs a2 len l w) := h2
  have HR : Hid (code = 0 → acesB l = true) := hR
  clear h1 h2 hR hX hY eY
  have hcc : (code == code) = true := by simp
  go_enter Tryz.func20, Tryz.ntmps20
  go_wp2_with fail
  refine (lwAces_any a a2 len cap cap2 l hl _ (H1.out.below HB.out) (H2.out.below HB.out)).mono ?_
  rintro e w1 ⟨rfl, hb⟩
  have HB1 : Hid (Below w.heap.size w w1) := Below.on HB.out hb
  obtain ⟨xl, x0, x1⟩ := HX.out.below hb
  clear hb HB
  by_cases hz : code = 0
  · have hd : decide (code ≠ 0) = false := by simp [hz]
    have hR2 := HR.out hz
    subst hz
    go_wp2_with fail
    refine (sNfsRight_any a len cap l hl _ (H1.out.below HB1.out)).mono ?_
    rintro e w2 ⟨rfl, hb2⟩
    rw [hR2]
    have HB2 : Hid (Below w.heap.size w w2) := Below.on HB1.out hb2
    clear hb2
    go_wp2
    go_ret
    exact ⟨rfl, HB2.out⟩
  · have hd : (code != 0) = true := by simp [hz]
    have hd2 : (code == 0) = false := by simp [hz]
    go_wp2
    go_ret
    exact ⟨rfl, HB1.out⟩
end Go.Proofs.YtedahdncincgjaaGreatDoor
