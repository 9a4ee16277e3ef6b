/- Laid together: NewR, Fresh, Copy. -/
import Derived.Test.YtgodbelcddgdmaaGreatNF22
/- Two lists in memory that was made since. -/
namespace Go.Proofs.YtgodbelcddgdmaaGreat
open Go.RowKit Go.PlainAid Go.Deep
set_option linter.unusedVariables false
/-- Two lists in memory that was made since. -/
structure New (w w' : World) (au : Option Addr) (lu : Nat) (us : List (Int × Int)) (ag : Option Addr) (lg : Nat) (gs : List (Int × Int)) : Prop where
  ou : Own au lu us w'
  og : Own ag lg gs w'
  iu : ∀ A, au = some A → w.heap.size ≤ A.block ∧ A.block < w'.heap.size
  ig : ∀ A, ag = some A → w.heap.size ≤ A.block ∧ A.block < w'.heap.size
  ne : ∀ A A2, au = some A → ag = some A2 → A.block ≠ A2.block
  bel : Below w.heap.size w w'
theorem New.on {w w' w2 : World} {au : Option Addr} {lu : Nat} {us : List (Int × Int)} {ag : Option Addr} {lg : Nat} {gs : List (Int × Int)} (h : New w w' au lu us ag lg gs) (hb : Below w'.heap.size w' w2) : New w w2 au lu us ag lg gs :=
  ⟨h.ou.below hb, h.og.below hb, fun A e => ⟨(h.iu A e).1, Nat.lt_of_lt_of_le (h.iu A e).2 hb.size⟩, fun A e => ⟨(h.ig A e).1, Nat.lt_of_lt_of_le (h.ig A e).2 hb.size⟩, h.ne, Below.on h.bel hb⟩
theorem New.pre {w w0 w' : World} {au : Option Addr} {lu : Nat} {us : List (Int × Int)} {ag : Option Addr} {lg : Nat} {gs : List (Int × Int)} (h : New w w' au lu us ag lg gs) (hb : Below w0.heap.size w0 w) : New w0 w' au lu us ag lg gs :=
  ⟨h.ou, h.og, fun A e => ⟨Nat.le_trans hb.size (h.iu A e).1, (h.iu A e).2⟩, fun A e => ⟨Nat.le_trans hb.size (h.ig A e).1, (h.ig A e).2⟩, h.ne, Below.on hb h.bel⟩
/-- A cell of the call's own that is older than the lists is written. -/
theorem New.set {w w' : World} {au : Option Addr} {lu : Nat} {us : List (Int × Int)} {ag : Option Addr} {lg : Nat} {gs : List (Int × Int)} {b o : Nat} {v : Value} (h : New w w' au lu us ag lg gs) (hb : w.heap.size ≤ b) (h1 : ∀ A, au = some A → b ≠ A.block) (h2 : ∀ A, ag = some A → b ≠ A.block) : New w (w'.setCell ⟨b, o, none⟩ v) au lu us ag lg gs :=
  ⟨h.ou.set (fun B e => h1 _ e), h.og.set (fun B e => h2 _ e), fun A e => by simpa using h.iu A e, fun A e => by simpa using h.ig A e, h.ne, bl_setN h.bel hb⟩
theorem row1_new (w : World) (v0 : Value) (t : TypeId) : (w.alloc (.cells #[v0] t)).cell? ⟨w.heap.size, 0, none⟩ = some v0 := by
  have hb : (w.alloc (.cells #[v0] t)).heap[w.heap.size]? = some (.cells #[v0] t) := by
    rw [World.alloc]
    exact Array.getElem?_push_size
  simp only [World.cell?, hb]
  rfl
theorem cat_one (us : List (Int × Int)) : cat (fun _ => us) 1 = us := by simp [cat]
/-- slices.Concat of one list, the row of which has just been made. -/
theorem concat_one (w0 : World) (X : Nat) (hX : X = w0.heap.size) (t : TypeId) (cap : Nat) (au : Option Addr) (lu cu : Nat) (us : List (Int × Int)) (hN : lu ≤ 1000000) (hu : Prs au lu us w0) :
    Calls Tryz.prog 66 #[.slice (some ⟨X, 0, none⟩) 1 cap] (w0.alloc (.cells #[.slice au lu cu] t)) fun e w' => ∃ a c, e = .returned (.slice a lu c) ∧ lu ≤ c ∧ Own a lu us w' ∧ (∀ Ad, a = some Ad → w0.heap.size + 1 ≤ Ad.block ∧ Ad.block < w'.heap.size) ∧ Below w0.heap.size w0 w' ∧ w0.heap.size + 1 ≤ w'.heap.size := by
  subst hX
  have hb := bel_alloc w0 (.cells #[.slice au lu cu] t)
  have r0 := row1_new w0 (.slice au lu cu) t
  have e1 := hu.1
  have hl : (cat (fun _ => us) 1).length = lu := by rw [cat_one, e1]
  refine (concat_any w0.heap.size 1 cap (fun _ => au) (fun _ => cu) (fun _ => us) (by omega) (by rw [hl]; omega) _ (by simp) ?_).mono ?_
  · intro j hj
    have : j = 0 := by omega
    subst this
    refine ⟨?_, ?_⟩
    · show _ = some (Value.slice au us.length cu)
      rw [e1]
      exact r0
    · show Prs au us.length us _
      rw [e1]
      exact hu.below hb
  · rintro e w' ⟨a, c, rfl, hc, ho, hin, hbel⟩
    rw [hl] at ho hc ⊢
    rw [cat_one] at ho
    have hsz := hbel.size
    refine ⟨a, c, rfl, hc, ho, fun Ad e => ?_, Below.on hb hbel, by simpa using hsz⟩
    have := hin Ad e
    simpa using this
set_option maxRecDepth 100000 in
set_option maxHeartbeats 4000000 in
/-- impl.ownAcl, with what is known of the room. -/
theorem ownAcl_cap (u g o : Int) (au : Option Addr) (lu cu : Nat) (ag : Option Addr) (lg cg : Nat) (r : Bool) (m : Int) (us gs : List (Int × Int)) (w : World) (hu : Prs au lu us w) (hg : Prs ag lg gs w) (hl1 : lu ≤ 1000000) (hl2 : lg ≤ 1000000) :
    Calls Tryz.prog 40 #[.agg #[.int .i64 u, .int .i64 g, .int .i64 o, .slice au lu cu, .slice ag lg cg, .bool r, .int .i64 m]] w fun e w' => ∃ a1 c1 a2 c2, e = .returned (.agg #[.int .i64 u, .int .i64 g, .int .i64 o, .slice a1 lu c1, .slice a2 lg c2, .bool r, .int .i64 m]) ∧ New w w' a1 lu us a2 lg gs ∧ lu ≤ c1 ∧ lg ≤ c2 := by
  have hc : Hid (∀ w' X, X = w'.heap.size → Below w.heap.size w w' → Calls Tryz.prog 66 #[.slice (some ⟨X, 0, none⟩) 1 1] (w'.alloc (.cells #[.slice au lu cu] 26)) fun e w'' => ∃ a c, e = .returned (.slice a lu c) ∧ lu ≤ c ∧ Own a lu us w'' ∧ (∀ Ad, a = some Ad → w'.heap.size + 1 ≤ Ad.block ∧ Ad.block < w''.heap.size) ∧ Below w'.heap.size w' w'' ∧ w'.heap.size + 1 ≤ w''.heap.size) := (fun w' X hX hb => concat_one w' X hX _ 1 au lu cu us hl1 (hu.below hb))
  have hd : Hid (∀ w' X, X = w'.heap.size → Below w.heap.size w w' → Calls Tryz.prog 66 #[.slice (some ⟨X, 0, none⟩) 1 1] (w'.alloc (.cells #[.slice ag lg cg] 26)) fun e w'' => ∃ a c, e = .returned (.slice a lg c) ∧ lg ≤ c ∧ Own a lg gs w'' ∧ (∀ Ad, a = some Ad → w'.heap.size + 1 ≤ Ad.block ∧ Ad.block < w''.heap.size) ∧ Below w'.heap.size w' w'' ∧ w'.heap.size + 1 ≤ w''.heap.size) := (fun w' X hX hb => concat_one w' X hX _ 1 ag lg cg gs hl2 (hg.below hb))
  clear hu hg
  go_enter Tryz.func40, Tryz.ntmps40
  go_wp2_with fail
  refine (hc.out _ _ (by simp) (bl2N _ _ _)).mono ?_
  rintro e w1 ⟨a1, c1, rfl, hcap, hI, hin, hb, hz⟩
  have hbW : Hid (Below w.heap.size w w1) := (bl2N _ _ _).trans (hb.mono (by simp; omega))
  obtain ⟨hcl, hfz⟩ := bl_cellN hb
  have hX := ((box7_new w (.int .i64 u) (.int .i64 g) (.int .i64 o) (.slice au lu cu) (.slice ag lg cg) (.bool r) (.int .i64 m) 28).below (bel_alloc _ (.cells #[.int .i64 0, .int .i64 0, .int .i64 0, .slice none 0 0, .slice none 0 0, .bool false, .int .i64 0] 28))).below hb
  have hY := (box7_new (w.alloc (.cells #[.int .i64 u, .int .i64 g, .int .i64 o, .slice au lu cu, .slice ag lg cg, .bool r, .int .i64 m] 28)) (.int .i64 0) (.int .i64 0) (.int .i64 0) (.slice none 0 0) (.slice none 0 0) (.bool false) (.int .i64 0) 28).below hb
  have eY : (w.alloc (.cells #[.int .i64 u, .int .i64 g, .int .i64 o, .slice au lu cu, .slice ag lg cg, .bool r, .int .i64 m] 28)).heap.size = w.heap.size + 1 := by simp
  rw [eY] at hY
  clear hb hc eY
  simp at hcl hfz hz hin
  go_wp2_with fail
  refine (hd.out _ _ (by simp) (bl_setN hbW.out (Nat.le_refl _))).mono ?_
  rintro e w2 ⟨a2, c2, rfl, hcap2, hJ, hin2, hb2, hz2⟩
  have eS : (w1.setCell ⟨w.heap.size, 3, none⟩ (.slice a1 lu c1)).heap.size = w1.heap.size := by simp
  have n1 : ∀ A, a1 = some A → w.heap.size + 1 < A.block := fun A e => by have := hin A e; omega
  have hI2 : Own a1 lu us w2 := (hI.set (fun B e => by have := n1 _ e; simp only at this; omega)).below hb2
  have hW2 : Below w.heap.size w w2 := (bl_setN hbW.out (Nat.le_refl _)).trans (hb2.mono (by rw [eS]; omega))
  have hfz2 : ∀ b o, b < w.heap.size + 1 + 1 → w2.frozen? ⟨b, o, none⟩ = (w1.setCell ⟨w.heap.size, 3, none⟩ (.slice a1 lu c1)).frozen? ⟨b, o, none⟩ := fun b o h => hb2.frozen (p := ⟨b, o, none⟩) (by rw [eS]; show b < _; omega)
  rw [eS] at hin2 hz2
  have n2 : ∀ A, a2 = some A → w.heap.size + 1 < A.block := fun A e => by have := hin2 A e; omega
  have HN : Hid (New w w2 a1 lu us a2 lg gs) := ⟨hI2, hJ, fun A e => ⟨by have := n1 A e; omega, by have := hin A e; omega⟩, fun A e => ⟨by have := n2 A e; omega, (hin2 A e).2⟩, fun A A2 e e2 => by have h1 := hin A e; have h2 := hin2 A2 e2; omega, hW2⟩
  have N1 : Hid (∀ A, a1 = some A → w.heap.size + 1 < A.block) := n1
  have HCP : Hid (lu ≤ c1 ∧ lg ≤ c2) := ⟨hcap, hcap2⟩
  have N2 : Hid (∀ A, a2 = some A → w.heap.size + 1 < A.block) := n2
  obtain ⟨xl, x0, x1, x2, x3, x4, x5, x6⟩ := hX.set3.below hb2
  obtain ⟨yl, y0, y1, y2, y3, y4, y5, y6⟩ := (hY.other (by omega)).below hb2
  clear hI hJ hW2 hI2 hz hz2 hb2 eS hd hbW n1 n2 hin hin2 hX hY hcl
  go_wp2
  refine bodyPost_ret (v := .agg #[.int .i64 u, .int .i64 g, .int .i64 o, .slice a1 lu c1, .slice a2 lg c2, .bool r, .int .i64 m]) (by simp [results, Tryz.results40, go_sem, y0, y1, y2, y3, y4, y5, y6]) rfl ⟨a1, c1, a2, c2, rfl, ?_, HCP.out⟩
  iterate 8 (refine New.set ?_ (by omega) (fun A e => by have := N1.out A e; omega) (fun A e => by have := N2.out A e; omega))
  exact HN.out
theorem own_start2 (w : World) (X : Nat) (hX : X = w.heap.size) (t : TypeId) : (w.alloc (.cells #[] t)).ownsRow X t 2 (.slice (some ⟨X, 0, none⟩) 0 0) ([] : List (Int × Int)).length (pc []) := by
  subst hX
  refine ⟨rfl, .inr ⟨w.heap.size, 0, #[], rfl, Nat.le_refl _, ?_, Nat.le_refl _, by decide, rfl, rfl⟩⟩
  rw [World.alloc]
  exact Array.getElem?_push_size
end Go.Proofs.YtgodbelcddgdmaaGreat
