/- Laid together: AclEq, Fresh, Ans. -/
import Derived.Test.YthgcobglecomcaaDoorDf4
import Derived.Lib.QuietBelow
import Derived.Test.YthgcobglecomcaaDoorDf11
/- laws.eqNamed, eqNamedS, eqAcl of two that hold the same. -/
namespace Go.Proofs.YthgcobglecomcaaDoor
open Go.RowKit Go.PlainAid
set_option linter.unusedVariables false
theorem bl2N (w : World) (o1 o2 : Obj) : Below w.heap.size w ((w.alloc o1).alloc o2) := ((Below.refl _ _).alloc (Nat.le_refl _) _).alloc (by simp) _
theorem eqNamed_same (x y : Int) (w : World) :
    Calls Tryd.prog 105 #[.agg #[.int .i64 x, .int .i64 y], .agg #[.int .i64 x, .int .i64 y]] w fun e w' => e = .returned (.bool true) ∧ Below w.heap.size w w' := by
  go_enter Tryd.func105, Tryd.ntmps105
  go_wp2
  go_ret
  exact ⟨rfl, bl2N _ _ _⟩
set_option maxHeartbeats 2000000 in
theorem eqNamedS_none (a a2 : Option Addr) (cap cap2 : Nat) (w : World) :
    Calls Tryd.prog 89 #[.slice a 0 cap, .slice a2 0 cap2] w fun e w' => e = .returned (.bool true) ∧ Below w.heap.size w w' := by
  go_enter Tryd.func89, Tryd.ntmps89
  go_wp2
  go_rounds 1
  go_ret
  exact ⟨rfl, Below.refl _ _⟩
set_option maxHeartbeats 2000000 in
theorem eqNamedS_some (b off b2 off2 len cap cap2 : Nat) (l : List (Int × Int)) (hl : len ≤ 1048576) (w : World) (hb : b < w.heap.size) (hb2 : b2 < w.heap.size)
    (hc : Hid (∀ i, i < len → w.cell? ⟨b, off + i * 2, none⟩ = some (.int .i64 (idAt l i)) ∧ w.cell? ⟨b, off + i * 2 + 1, none⟩ = some (.int .i64 (btAt l i))))
    (hc2 : Hid (∀ i, i < len → w.cell? ⟨b2, off2 + i * 2, none⟩ = some (.int .i64 (idAt l i)) ∧ w.cell? ⟨b2, off2 + i * 2 + 1, none⟩ = some (.int .i64 (btAt l i)))) :
    Calls Tryd.prog 89 #[.slice (some ⟨b, off, none⟩) len cap, .slice (some ⟨b2, off2, none⟩) len cap2] w fun e w' => e = .returned (.bool true) ∧ Below w.heap.size w w' := by
  go_enter Tryd.func89, Tryd.ntmps89
  go_wp2
  go_loopw [5] (fun i wr => ∃ (k : Nat), k ≤ len ∧ i = .int .i64 k ∧ Hid (Below w.heap.size w wr)) (fun i _ => len - (intOf i).toNat)
  case atStart => exact ⟨0, Nat.zero_le _, rfl, Below.refl _ _⟩
  case round =>
    obtain ⟨k, hk, rfl, hB⟩ := hrel
    by_cases hlt : k < len
    · have g0 : ∀ d os, (Go.Sort.grow (redrawn wr d) os).cell? ⟨b, off + k * 2, none⟩ = some (.int .i64 (idAt l k)) := fun d os => cell_regrown ((hB.out.cell (p := ⟨b, off + k * 2, none⟩) hb).trans (hc.out k hlt).1) d os
      have g1 : ∀ d os, (Go.Sort.grow (redrawn wr d) os).cell? ⟨b, off + k * 2 + 1, none⟩ = some (.int .i64 (btAt l k)) := fun d os => cell_regrown ((hB.out.cell (p := ⟨b, off + k * 2 + 1, none⟩) hb).trans (hc.out k hlt).2) d os
      have g2 : ∀ d os, (Go.Sort.grow (redrawn wr d) os).cell? ⟨b2, off2 + k * 2, none⟩ = some (.int .i64 (idAt l k)) := fun d os => cell_regrown ((hB.out.cell (p := ⟨b2, off2 + k * 2, none⟩) hb2).trans (hc2.out k hlt).1) d os
      have g3 : ∀ d os, (Go.Sort.grow (redrawn wr d) os).cell? ⟨b2, off2 + k * 2 + 1, none⟩ = some (.int .i64 (btAt l k)) := fun d os => cell_regrown ((hB.out.cell (p := ⟨b2, off2 + k * 2 + 1, none⟩) hb2).trans (hc2.out k hlt).2) d os
      have cA : ∀ w d os, Calls Tryd.prog 105 #[.agg #[.int .i64 (idAt l k), .int .i64 (btAt l k)], .agg #[.int .i64 (idAt l k), .int .i64 (btAt l k)]] (Go.Sort.grow (redrawn w d) os) fun e w'' => e = .returned (.bool true) ∧ ∃ p : Regrown, w'' = Go.Sort.grow (redrawn w p.d) p.os := fun w d os => Calls.regrown_of (eqNamed_same _ _ _)
      have hlt' : (k : Int) < (len : Int) := by omega
      go_wp2
      refine wp_region_quiet_below (by kernel_rfl) (by kernel_rfl) ?_
      repeat (go_big_quiet_step (exact cA _ _ _))
      refine wpQuiet_nil ?_
      intro _ hw'
      obtain ⟨⟨dq, osq⟩, hw''⟩ := hw'
      subst hw''
      have hbq : Hid (Below w.heap.size w (Go.Sort.grow (redrawn wr dq) osq)) := hB.out.trans ((below_regrown wr dq osq).mono hB.out.size)
      generalize Go.Sort.grow (redrawn wr dq) osq = w1 at hbq ⊢
      clear g0 g1 g2 g3 cA
      go_wp2
      go_roundw
      case rel => exact ⟨k + 1, by omega, by go_num, hbq⟩
      case measure => simp [intOf]; omega
    · have : k = len := by omega
      subst this
      go_wp2
      go_ret
      exact ⟨rfl, hB.out⟩
/-- laws.eqNamedS of two lists that hold the same. -/
theorem eqNamedS_any (a a2 : Option Addr) (len cap cap2 : Nat) (l : List (Int × Int)) (hl : len ≤ 1048576) (w : World) (h1 : Prs a len l w) (h2 : Prs a2 len l w) :
    Calls Tryd.prog 89 #[.slice a len cap, .slice a2 len cap2] w fun e w' => e = .returned (.bool true) ∧ Below w.heap.size w w' := by
  by_cases h0 : len = 0
  · subst h0
    exact eqNamedS_none a a2 cap cap2 w
  · obtain ⟨b, off, rfl, hb, hc⟩ := h1.2 (by omega)
    obtain ⟨b2, off2, rfl, hb2, hc2⟩ := h2.2 (by omega)
    exact eqNamedS_some b off b2 off2 len cap cap2 l hl w hb hb2 hc hc2
set_option maxHeartbeats 4000000 in
/-- laws.eqAcl of two that hold the same. -/
theorem eqAcl_any (u g o : Int) (au au2 : Option Addr) (lu cu cu2 : Nat) (ag ag2 : Option Addr) (lg cg cg2 : Nat) (r : Bool) (m : Int) (us gs : List (Int × Int)) (h1 : lu ≤ 1048576) (h2 : lg ≤ 1048576) (w : World) (hu : Prs au lu us w) (hu2 : Prs au2 lu us w) (hg : Prs ag lg gs w) (hg2 : Prs ag2 lg gs w) :
    Calls Tryd.prog 54 #[.agg #[.int .i64 u, .int .i64 g, .int .i64 o, .slice au lu cu, .slice ag lg cg, .bool r, .int .i64 m], .agg #[.int .i64 u, .int .i64 g, .int .i64 o, .slice au2 lu cu2, .slice ag2 lg cg2, .bool r, .int .i64 m]] w fun e w' => e = .returned (.bool true) ∧ Below w.heap.size w w' := by
  have hc : Hid (∀ w', Below w.heap.size w w' → Calls Tryd.prog 89 #[.slice au lu cu, .slice au2 lu cu2] w' fun e w'' => e = .returned (.bool true) ∧ Below w'.heap.size w' w'') := (fun w' hb => eqNamedS_any au au2 lu cu cu2 us h1 w' (hu.below hb) (hu2.below hb))
  have hd : Hid (∀ w', Below w.heap.size w w' → Calls Tryd.prog 89 #[.slice ag lg cg, .slice ag2 lg cg2] w' fun e w'' => e = .returned (.bool true) ∧ Below w'.heap.size w' w'') := (fun w' hb => eqNamedS_any ag ag2 lg cg cg2 gs h2 w' (hg.below hb) (hg2.below hb))
  clear hu hu2 hg hg2
  go_enter Tryd.func54, Tryd.ntmps54
  go_wp2_with fail
  refine (hc.out _ (bl2N _ _ _)).mono ?_
  rintro e w1 ⟨rfl, hb⟩
  have hbW : Hid (Below w.heap.size w w1) := (bl2N _ _ _).trans (hb.mono (by simp; omega))
  have hz : w.heap.size + 1 < w1.heap.size := by have := hb.size; simp at this; omega
  obtain ⟨hcl, hfz⟩ := bl_cellN hb
  clear hb hc
  simp at hcl hfz
  go_wp2_with fail
  refine (hd.out _ hbW.out).mono ?_
  rintro e w2 ⟨rfl, hb⟩
  have hbW2 : Hid (Below w.heap.size w w2) := hbW.out.trans (hb.mono hbW.out.size)
  have hcl2 : ∀ b o, b < w.heap.size + 1 + 1 → w2.cell? ⟨b, o, none⟩ = w1.cell? ⟨b, o, none⟩ := fun b o h => hb.cell (p := ⟨b, o, none⟩) (by show b < _; omega)
  clear hb hd hz
  go_wp2
  go_ret
  exact ⟨rfl, hbW2.out⟩
end Go.Proofs.YthgcobglecomcaaDoor
/- A list of names in memory of its own: impl.ownAcl, spec.l03Copy. -/
namespace Go.Proofs.YthgcobglecomcaaDoor
open Go.RowKit Go.PlainAid Go.Deep
set_option linter.unusedVariables false
theorem row1_new (w : World) (v0 : Value) (t : TypeId) : (w.alloc (.cells #[v0] t)).cell? ⟨w.heap.size, 0, none⟩ = some v0 := by
  have hb : (w.alloc (.cells #[v0] t)).heap[w.heap.size]? = some (.cells #[v0] t) := by
    rw [World.alloc]
    exact Array.getElem?_push_size
  simp only [World.cell?, hb]
  rfl
theorem cat_one (us : List (Int × Int)) : cat (fun _ => us) 1 = us := by simp [cat]
/-- slices.Concat of one list, the row of which has just been made. -/
theorem concat_one (w0 : World) (X : Nat) (hX : X = w0.heap.size) (t : TypeId) (cap : Nat) (au : Option Addr) (lu cu : Nat) (us : List (Int × Int)) (hN : lu ≤ 1000000) (hu : Prs au lu us w0) :
    Calls Tryd.prog 95 #[.slice (some ⟨X, 0, none⟩) 1 cap] (w0.alloc (.cells #[.slice au lu cu] t)) fun e w' => ∃ a c, e = .returned (.slice a lu c) ∧ lu ≤ c ∧ Own a lu us w' ∧ (∀ Ad, a = some Ad → w0.heap.size + 1 ≤ Ad.block ∧ Ad.block < w'.heap.size) ∧ Below w0.heap.size w0 w' ∧ w0.heap.size + 1 ≤ w'.heap.size := by
  subst hX
  have hb := bel_alloc w0 (.cells #[.slice au lu cu] t)
  have r0 := row1_new w0 (.slice au lu cu) t
  have e1 := hu.1
  have hl : (cat (fun _ => us) 1).length = lu := by rw [cat_one, e1]
  refine (concat_any w0.heap.size 1 cap (fun _ => au) (fun _ => cu) (fun _ => us) (by omega) (by rw [hl]; omega) _ (by simp) ?_).mono ?_
  · intro j hj
    have : j = 0 := by omega
    subst this
    refine ⟨?_, ?_⟩
    · show _ = some (Value.slice au us.length cu)
      rw [e1]
      exact r0
    · show Prs au us.length us _
      rw [e1]
      exact hu.below hb
  · rintro e w' ⟨a, c, rfl, hc, ho, hin, hbel⟩
    rw [hl] at ho hc ⊢
    rw [cat_one] at ho
    have hsz := hbel.size
    refine ⟨a, c, rfl, hc, ho, fun Ad e => ?_, Below.on hb hbel, by simpa using hsz⟩
    have := hin Ad e
    simpa using this
set_option maxRecDepth 100000 in
set_option maxHeartbeats 4000000 in
/-- impl.ownAcl, with what is known of the room. -/
theorem ownAcl_cap (u g o : Int) (au : Option Addr) (lu cu : Nat) (ag : Option Addr) (lg cg : Nat) (r : Bool) (m : Int) (us gs : List (Int × Int)) (w : World) (hu : Prs au lu us w) (hg : Prs ag lg gs w) (hl1 : lu ≤ 1000000) (hl2 : lg ≤ 1000000) :
    Calls Tryd.prog 71 #[.agg #[.int .i64 u, .int .i64 g, .int .i64 o, .slice au lu cu, .slice ag lg cg, .bool r, .int .i64 m]] w fun e w' => ∃ a1 c1 a2 c2, e = .returned (.agg #[.int .i64 u, .int .i64 g, .int .i64 o, .slice a1 lu c1, .slice a2 lg c2, .bool r, .int .i64 m]) ∧ New w w' a1 lu us a2 lg gs ∧ lu ≤ c1 ∧ lg ≤ c2 := by
  have hc : Hid (∀ w' X, X = w'.heap.size → Below w.heap.size w w' → Calls Tryd.prog 95 #[.slice (some ⟨X, 0, none⟩) 1 1] (w'.alloc (.cells #[.slice au lu cu] 23)) fun e w'' => ∃ a c, e = .returned (.slice a lu c) ∧ lu ≤ c ∧ Own a lu us w'' ∧ (∀ Ad, a = some Ad → w'.heap.size + 1 ≤ Ad.block ∧ Ad.block < w''.heap.size) ∧ Below w'.heap.size w' w'' ∧ w'.heap.size + 1 ≤ w''.heap.size) := (fun w' X hX hb => concat_one w' X hX _ 1 au lu cu us hl1 (hu.below hb))
  have hd : Hid (∀ w' X, X = w'.heap.size → Below w.heap.size w w' → Calls Tryd.prog 95 #[.slice (some ⟨X, 0, none⟩) 1 1] (w'.alloc (.cells #[.slice ag lg cg] 23)) fun e w'' => ∃ a c, e = .returned (.slice a lg c) ∧ lg ≤ c ∧ Own a lg gs w'' ∧ (∀ Ad, a = some Ad → w'.heap.size + 1 ≤ Ad.block ∧ Ad.block < w''.heap.size) ∧ Below w'.heap.size w' w'' ∧ w'.heap.size + 1 ≤ w''.heap.size) := (fun w' X hX hb => concat_one w' X hX _ 1 ag lg cg gs hl2 (hg.below hb))
  clear hu hg
  go_enter Tryd.func71, Tryd.ntmps71
  go_wp2_with fail
  refine (hc.out _ _ (by simp) (bl2N _ _ _)).mono ?_
  rintro e w1 ⟨a1, c1, rfl, hcap, hI, hin, hb, hz⟩
  have hbW : Hid (Below w.heap.size w w1) := (bl2N _ _ _).trans (hb.mono (by simp; omega))
  obtain ⟨hcl, hfz⟩ := bl_cellN hb
  have hX := ((box7_new w (.int .i64 u) (.int .i64 g) (.int .i64 o) (.slice au lu cu) (.slice ag lg cg) (.bool r) (.int .i64 m) 25).below (bel_alloc _ (.cells #[.int .i64 0, .int .i64 0, .int .i64 0, .slice none 0 0, .slice none 0 0, .bool false, .int .i64 0] 25))).below hb
  have hY := (box7_new (w.alloc (.cells #[.int .i64 u, .int .i64 g, .int .i64 o, .slice au lu cu, .slice ag lg cg, .bool r, .int .i64 m] 25)) (.int .i64 0) (.int .i64 0) (.int .i64 0) (.slice none 0 0) (.slice none 0 0) (.bool false) (.int .i64 0) 25).below hb
  have eY : (w.alloc (.cells #[.int .i64 u, .int .i64 g, .int .i64 o, .slice au lu cu, .slice ag lg cg, .bool r, .int .i64 m] 25)).heap.size = w.heap.size + 1 := by simp
  rw [eY] at hY
  clear hb hc eY
  simp at hcl hfz hz hin
  go_wp2_with fail
  refine (hd.out _ _ (by simp) (bl_setN hbW.out (Nat.le_refl _))).mono ?_
  rintro e w2 ⟨a2, c2, rfl, hcap2, hJ, hin2, hb2, hz2⟩
  have eS : (w1.setCell ⟨w.heap.size, 3, none⟩ (.slice a1 lu c1)).heap.size = w1.heap.size := by simp
  have n1 : ∀ A, a1 = some A → w.heap.size + 1 < A.block := fun A e => by have := hin A e; omega
  have hI2 : Own a1 lu us w2 := (hI.set (fun B e => by have := n1 _ e; simp only at this; omega)).below hb2
  have hW2 : Below w.heap.size w w2 := (bl_setN hbW.out (Nat.le_refl _)).trans (hb2.mono (by rw [eS]; omega))
  have hfz2 : ∀ b o, b < w.heap.size + 1 + 1 → w2.frozen? ⟨b, o, none⟩ = (w1.setCell ⟨w.heap.size, 3, none⟩ (.slice a1 lu c1)).frozen? ⟨b, o, none⟩ := fun b o h => hb2.frozen (p := ⟨b, o, none⟩) (by rw [eS]; show b < _; omega)
  rw [eS] at hin2 hz2
  have n2 : ∀ A, a2 = some A → w.heap.size + 1 < A.block := fun A e => by have := hin2 A e; omega
  have HN : Hid (New w w2 a1 lu us a2 lg gs) := ⟨hI2, hJ, fun A e => ⟨by have := n1 A e; omega, by have := hin A e; omega⟩, fun A e => ⟨by have := n2 A e; omega, (hin2 A e).2⟩, fun A A2 e e2 => by have h1 := hin A e; have h2 := hin2 A2 e2; omega, hW2⟩
  have N1 : Hid (∀ A, a1 = some A → w.heap.size + 1 < A.block) := n1
  have HCP : Hid (lu ≤ c1 ∧ lg ≤ c2) := ⟨hcap, hcap2⟩
  have N2 : Hid (∀ A, a2 = some A → w.heap.size + 1 < A.block) := n2
  obtain ⟨xl, x0, x1, x2, x3, x4, x5, x6⟩ := hX.set3.below hb2
  obtain ⟨yl, y0, y1, y2, y3, y4, y5, y6⟩ := (hY.other (by omega)).below hb2
  clear hI hJ hW2 hI2 hz hz2 hb2 eS hd hbW n1 n2 hin hin2 hX hY hcl
  go_wp2
  refine bodyPost_ret (v := .agg #[.int .i64 u, .int .i64 g, .int .i64 o, .slice a1 lu c1, .slice a2 lg c2, .bool r, .int .i64 m]) (by simp [results, Tryd.results71, go_sem, y0, y1, y2, y3, y4, y5, y6]) rfl ⟨a1, c1, a2, c2, rfl, ?_, HCP.out⟩
  iterate 8 (refine New.set ?_ (by omega) (fun A e => by have := N1.out A e; omega) (fun A e => by have := N2.out A e; omega))
  exact HN.out
/-- impl.ownAcl. -/
theorem ownAcl_any (u g o : Int) (au : Option Addr) (lu cu : Nat) (ag : Option Addr) (lg cg : Nat) (r : Bool) (m : Int) (us gs : List (Int × Int)) (w : World) (hu : Prs au lu us w) (hg : Prs ag lg gs w) (hl1 : lu ≤ 1000000) (hl2 : lg ≤ 1000000) :
    Calls Tryd.prog 71 #[.agg #[.int .i64 u, .int .i64 g, .int .i64 o, .slice au lu cu, .slice ag lg cg, .bool r, .int .i64 m]] w fun e w' => ∃ a1 c1 a2 c2, e = .returned (.agg #[.int .i64 u, .int .i64 g, .int .i64 o, .slice a1 lu c1, .slice a2 lg c2, .bool r, .int .i64 m]) ∧ New w w' a1 lu us a2 lg gs :=
  (ownAcl_cap u g o au lu cu ag lg cg r m us gs w hu hg hl1 hl2).mono fun e w' ⟨a1, c1, a2, c2, h1, h2, _⟩ => ⟨a1, c1, a2, c2, h1, h2⟩
end Go.Proofs.YthgcobglecomcaaDoor
/- An answer that holds a list of names and a code. -/
namespace Go.Proofs.YthgcobglecomcaaDoor
open Go.RowKit Go.PlainAid Go.Deep
set_option linter.unusedVariables false
end Go.Proofs.YthgcobglecomcaaDoor
