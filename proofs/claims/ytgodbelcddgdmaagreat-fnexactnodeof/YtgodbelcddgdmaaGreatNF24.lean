/- Laid together: CpM, CpW. -/
import Derived.Test.YtgodbelcddgdmaaGreatNF10
import Derived.Test.YtgodbelcddgdmaaGreatNF18
import Derived.Test.YtgodbelcddgdmaaGreatNF23
/- Rows of nodes, and of entries, that grow by append. -/
namespace Go.Proofs.YtgodbelcddgdmaaGreat
open Go.RowKit Go.PlainAid Go.Deep
set_option linter.unusedVariables false
/-- append of a list onto an empty one that has just been made. -/
theorem append_copyB (w : World) (X : Nat) (hX : X = w.heap.size) (a : Option Addr) (len cap : Nat) (l : List (Int × Int)) (hp : Prs a len l w) (hN : len ≤ 2000000) :
    ∃ a' c' w', (Builtin.append_ #[26, 26] 26 #[.slice (some ⟨X, 0, none⟩) 0 0, .slice a len cap]).run Tryz.prog (w.alloc (.cells #[] 90)) = .ok (.slice a' len c') w' ∧ len ≤ c' ∧ Own a' len l w' ∧ (∀ A, a' = some A → X ≤ A.block ∧ A.block < w'.heap.size) ∧ Below w.heap.size w w' := by
  have ho := own_start2 w X hX 90
  have hb := bel_alloc w (.cells #[] 90)
  obtain ⟨v', w', hr, hO, hg⟩ := run_append_prs (P := Tryz.prog) (w.alloc (.cells #[] 90)) X 26 26 90 Tryz.underlying26 infoNamedC _ [] ho a len cap l (hp.below hb) (by simp; omega) (by simp; omega)
  rw [List.nil_append] at hO
  obtain ⟨a', c', rfl, h1, h2⟩ := own_of_row hO
  have hcp := own_cap hO
  have e := hp.1
  rw [e] at h1 hr hcp
  refine ⟨a', c', w', hr, hcp, h1, h2, ?_⟩
  subst hX
  exact hb.grown hg (by simp) (own_blockN ho)
set_option maxRecDepth 100000 in
set_option maxHeartbeats 4000000 in
/-- spec.l03Copy, with what is known of the room. -/
theorem sCopy_capB (u g o : Int) (au : Option Addr) (lu cu : Nat) (ag : Option Addr) (lg cg : Nat) (r : Bool) (m : Int) (us gs : List (Int × Int)) (w : World) (hu : Prs au lu us w) (hg : Prs ag lg gs w) (hl1 : lu ≤ 2000000) (hl2 : lg ≤ 2000000) :
    Calls Tryz.prog 34 #[.agg #[.int .i64 u, .int .i64 g, .int .i64 o, .slice au lu cu, .slice ag lg cg, .bool r, .int .i64 m]] w fun e w' => ∃ a1 c1 a2 c2, e = .returned (.agg #[.int .i64 u, .int .i64 g, .int .i64 o, .slice a1 lu c1, .slice a2 lg c2, .bool r, .int .i64 m]) ∧ New w w' a1 lu us a2 lg gs ∧ lu ≤ c1 ∧ lg ≤ c2 := by
  have HG : Hid (Prs ag lg gs w) := hg
  have hb0 := bl2N w (.cells #[.int .i64 u, .int .i64 g, .int .i64 o, .slice au lu cu, .slice ag lg cg, .bool r, .int .i64 m] 28) (.cells #[.int .i64 0, .int .i64 0, .int .i64 0, .slice none 0 0, .slice none 0 0, .bool false, .int .i64 0] 28)
  obtain ⟨a1, c1, w1, hr1, hcp1, hO1, hin1, hb1⟩ := append_copyB ((w.alloc (.cells #[.int .i64 u, .int .i64 g, .int .i64 o, .slice au lu cu, .slice ag lg cg, .bool r, .int .i64 m] 28)).alloc (.cells #[.int .i64 0, .int .i64 0, .int .i64 0, .slice none 0 0, .slice none 0 0, .bool false, .int .i64 0] 28)) (w.heap.size + 1 + 1) (by simp) au lu cu us (hu.below hb0) hl1
  have hbW : Hid (Below w.heap.size w w1) := hb0.trans (hb1.mono (by simp; omega))
  obtain ⟨hcl, hfz⟩ := bl_cellN hb1
  have hX := ((box7_new w (.int .i64 u) (.int .i64 g) (.int .i64 o) (.slice au lu cu) (.slice ag lg cg) (.bool r) (.int .i64 m) 28).below (bel_alloc _ (.cells #[.int .i64 0, .int .i64 0, .int .i64 0, .slice none 0 0, .slice none 0 0, .bool false, .int .i64 0] 28))).below hb1
  have hY := (box7_new (w.alloc (.cells #[.int .i64 u, .int .i64 g, .int .i64 o, .slice au lu cu, .slice ag lg cg, .bool r, .int .i64 m] 28)) (.int .i64 0) (.int .i64 0) (.int .i64 0) (.slice none 0 0) (.slice none 0 0) (.bool false) (.int .i64 0) 28).below hb1
  have eY : (w.alloc (.cells #[.int .i64 u, .int .i64 g, .int .i64 o, .slice au lu cu, .slice ag lg cg, .bool r, .int .i64 m] 28)).heap.size = w.heap.size + 1 := by simp
  rw [eY] at hY
  have hz1 : w.heap.size + 1 + 1 ≤ w1.heap.size := by have := hb1.size; simp at this; omega
  clear hb1 eY hb0 hu hg hcl
  simp at hfz
  have hbW2 : Below w.heap.size w (w1.setCell ⟨w.heap.size, 3, none⟩ (.slice a1 lu c1)) := bl_setN hbW.out (Nat.le_refl _)
  obtain ⟨a2, c2, w2, hr2, hcp2, hO2, hin2, hb2⟩ := append_copyB (w1.setCell ⟨w.heap.size, 3, none⟩ (.slice a1 lu c1)) w1.heap.size (by simp) ag lg cg gs (HG.out.below hbW2) hl2
  have eS : (w1.setCell ⟨w.heap.size, 3, none⟩ (.slice a1 lu c1)).heap.size = w1.heap.size := by simp
  have n1 : ∀ A, a1 = some A → w.heap.size + 1 < A.block := fun A e => by have := hin1 A e; omega
  have n2 : ∀ A, a2 = some A → w.heap.size + 1 < A.block := fun A e => by have := hin2 A e; omega
  have hI2 : Own a1 lu us w2 := (hO1.set (fun B e => by have := n1 _ e; simp only at this; omega)).below hb2
  have hW2 : Below w.heap.size w w2 := hbW2.trans (hb2.mono (by rw [eS]; omega))
  have hfz2 : ∀ b o, b < w.heap.size + 1 + 1 → w2.frozen? ⟨b, o, none⟩ = (w1.setCell ⟨w.heap.size, 3, none⟩ (.slice a1 lu c1)).frozen? ⟨b, o, none⟩ := fun b o h => hb2.frozen (p := ⟨b, o, none⟩) (by rw [eS]; show b < _; omega)
  have HN : Hid (New w w2 a1 lu us a2 lg gs) := ⟨hI2, hO2, fun A e => ⟨by have := n1 A e; omega, by have := hin1 A e; have h2 := hb2.size; rw [eS] at h2; omega⟩, fun A e => ⟨by have := n2 A e; omega, (hin2 A e).2⟩, fun A A2 e e2 => by have h1 := hin1 A e; have h2 := hin2 A2 e2; omega, hW2⟩
  have N1 : Hid (∀ A, a1 = some A → w.heap.size + 1 < A.block) := n1
  have N2 : Hid (∀ A, a2 = some A → w.heap.size + 1 < A.block) := n2
  have HCP : Hid (lu ≤ c1 ∧ lg ≤ c2) := ⟨hcp1, hcp2⟩
  clear hcp1 hcp2
  obtain ⟨p0, p1, p2, p3, p4, p5, p6, p7⟩ := hX
  obtain ⟨xl, x0, x1, x2, x3, x4, x5, x6⟩ := (Box7.mk p0 p1 p2 p3 p4 p5 p6 p7).set3.below hb2
  obtain ⟨yl, y0, y1, y2, y3, y4, y5, y6⟩ := (hY.other (by omega)).below hb2
  clear hO1 hO2 hW2 hI2 hz1 hb2 eS hbW n1 n2 hin1 hin2 hY hbW2 HG
  go_enter Tryz.func34, Tryz.ntmps34
  go_wp2_with (at_builtin; first | refine wpList_append_run _ rfl (.tmp 3) (.tmp 5) 26 26 rfl _ _ _ _ rfl rfl hr1 ?_ | refine wpList_append_run _ rfl (.tmp 8) (.tmp 10) 26 26 rfl _ _ _ _ rfl rfl hr2 ?_)
  refine bodyPost_ret (v := .agg #[.int .i64 u, .int .i64 g, .int .i64 o, .slice a1 lu c1, .slice a2 lg c2, .bool r, .int .i64 m]) (by simp [results, Tryz.results34, go_sem, y0, y1, y2, y3, y4, y5, y6]) rfl ⟨a1, c1, a2, c2, rfl, ?_, HCP.out⟩
  iterate 8 (refine New.set ?_ (by omega) (fun A e => by have := N1.out A e; omega) (fun A e => by have := N2.out A e; omega))
  exact HN.out
/-- The cells of a list of entries. -/
def pcE : List (ByteArray × Int) → List Value
  | [] => []
  | p :: l => .string p.1 :: .int .i64 p.2 :: pcE l
theorem pcE_length (l : List (ByteArray × Int)) : (pcE l).length = l.length * 2 := by
  induction l with
  | nil => rfl
  | cons p l ih => simp only [pcE, List.length_cons, ih]; omega
theorem pcE_one (l : List (ByteArray × Int)) : ∀ u ∈ pcE l, u.oneCell' = true := by
  induction l with
  | nil => intro u h; cases h
  | cons p l ih =>
    intro u h
    simp only [pcE, List.mem_cons] at h
    rcases h with rfl | rfl | h
    · rfl
    · rfl
    · exact ih u h
theorem pcE_get (l : List (ByteArray × Int)) : ∀ i, i < l.length → (pcE l)[i * 2]? = some (.string (nmAt l i)) ∧ (pcE l)[i * 2 + 1]? = some (.int .i64 (noAt l i)) := by
  induction l with
  | nil => intro i hi; simp at hi
  | cons p l ih =>
    intro i hi
    cases i with
    | zero => exact ⟨rfl, rfl⟩
    | succ i =>
      have h := ih i (by simpa using hi)
      have e1 : (i + 1) * 2 = i * 2 + 1 + 1 := by omega
      simp only [pcE, e1, List.getElem?_cons_succ]
      exact h
theorem ens_news {b off : Nat} {l : List (ByteArray × Int)} {w : World} (hc : ∀ i, i < l.length → w.cell? ⟨b, off + i * 2, none⟩ = some (.string (nmAt l i)) ∧ w.cell? ⟨b, off + i * 2 + 1, none⟩ = some (.int .i64 (noAt l i))) :
    ∀ j u, (pcE l)[j]? = some u → w.cell? ((⟨b, off, none⟩ : Addr).add j) = some u := by
  intro j u hj
  have hlt : j < l.length * 2 := by
    have := (List.getElem?_eq_some_iff.1 hj).1
    rwa [pcE_length] at this
  have hi : j / 2 < l.length := by omega
  obtain ⟨h1, h2⟩ := hc (j / 2) hi
  obtain ⟨g1, g2⟩ := pcE_get l (j / 2) hi
  rw [Addr.add_mid]
  have hc : j = j / 2 * 2 ∨ j = j / 2 * 2 + 1 := by omega
  rcases hc with e | e
  · rw [e] at hj ⊢
    rw [g1] at hj
    cases hj
    have e2 : off + j / 2 * 2 = off + j / 2 * 2 := rfl
    exact h1
  · rw [e] at hj ⊢
    rw [g2] at hj
    cases hj
    have e2 : off + (j / 2 * 2 + 1) = off + j / 2 * 2 + 1 := by omega
    rw [e2]
    exact h2
/-- A row of entries that is owned, as a list. -/
theorem ens_of_row {w : World} {B : Nat} {t : TypeId} {v : Value} {l : List (ByteArray × Int)} (h : w.ownsRow B t 2 v l.length (pcE l)) :
    ∃ a cap, v = .slice a l.length cap ∧ Ens a l.length l w ∧ (∀ b f, a = some ⟨b, f, none⟩ → B ≤ b ∧ b < w.heap.size) := by
  obtain ⟨_, ⟨rfl, hn⟩ | ⟨g, cap, cur, rfl, hb, hg, hc, _, hs, ht⟩⟩ := h
  · exact ⟨none, 0, by rw [hn], ⟨rfl, fun h => absurd h (by omega)⟩, fun b f e => by cases e⟩
  · have hlt : g < w.heap.size := (Array.getElem?_eq_some_iff.1 hg).1
    refine ⟨some ⟨g, 0, none⟩, cap, rfl, ⟨rfl, fun _ => ⟨g, 0, rfl, hlt, fun i hi => ?_⟩⟩, fun b f e => by cases e; exact ⟨hb, hlt⟩⟩
    obtain ⟨g1, g2⟩ := pcE_get l i hi
    rw [← ht, List.getElem?_take_of_lt (by omega)] at g1 g2
    have hcl : ∀ o, w.cell? ⟨g, o, none⟩ = cur[o]? := fun o => by simp [World.cell?, hg]
    rw [Nat.zero_add, hcl, hcl]
    exact ⟨by simpa using g1, by simpa using g2⟩
theorem infoEntryC : (Tryz.prog.info? 72).map (fun i => (i.zero, i.size, i.bytes)) = some (some (.agg #[.string ⟨#[]⟩, .int .i64 0]), 2, 24) := by kernel_rfl
theorem rowE_start (w : World) (X : Nat) (hX : X = w.heap.size) (t : TypeId) : (w.alloc (.cells #[] t)).ownsRow X t 2 (.slice (some ⟨X, 0, none⟩) 0 0) ([] : List (ByteArray × Int)).length (pcE []) := by
  subst hX
  exact World.ownsRow_made w #[] 0 (Nat.le_refl _) (by unfold maxLen; omega) rfl
/-- append of a list of entries onto an empty one that has just been made. -/
theorem append_ents (w : World) (X : Nat) (hX : X = w.heap.size) (a : Option Addr) (len cap : Nat) (l : List (ByteArray × Int)) (hp : Ens a len l w) (hN : len ≤ 2000000) :
    ∃ a' c' w', (Builtin.append_ #[29, 29] 29 #[.slice (some ⟨X, 0, none⟩) 0 0, .slice a len cap]).run Tryz.prog (w.alloc (.cells #[] 72)) = .ok (.slice a' len c') w' ∧ Ens a' len l w' ∧ (∀ b f, a' = some ⟨b, f, none⟩ → X ≤ b ∧ b < w'.heap.size) ∧ Below w.heap.size w w' := by
  obtain ⟨i, hi, hzz⟩ := Option.map_eq_some_iff.1 infoEntryC
  simp only [Prod.mk.injEq] at hzz
  obtain ⟨hz, hs, hb⟩ := hzz
  have ho := rowE_start w X hX 72
  have hb0 := bel_alloc w (.cells #[] 72)
  obtain ⟨hln, hp⟩ := hp.below hb0
  subst hln
  by_cases h0 : l.length = 0
  · have hl : l = [] := List.eq_nil_of_length_eq_zero h0
    subst hl
    have hsrc : Src Tryz.prog i.size 29 (.slice a 0 cap) 0 [] (w.alloc (.cells #[] 72)) := by
      cases a with
      | none => exact Src.ofNil _ Tryz.underlying29 cap
      | some a => exact Src.ofSlice _ Tryz.underlying29 a 0 cap [] (by simp) (fun j u h => by simp at h) (fun u h => by cases h)
    refine ⟨some ⟨X, 0, none⟩, 0, _, run_append_nothing _ _ _ _ _ i Tryz.underlying29 hi _ 0 0 (Nat.le_refl _) _ hsrc, ⟨rfl, fun h => absurd h (by simp)⟩, fun b f e => by cases e; exact ⟨Nat.le_refl _, by subst hX; simp⟩, hb0⟩
  · obtain ⟨b, off, rfl, hlt, hc⟩ := hp (by omega)
    obtain ⟨v', w', hr, h1, h2, _⟩ := run_append_own (P := Tryz.prog) _ X 29 29 72 i _ 2 24 Tryz.underlying29 hi hz hs hb rfl (by decide) _ 0 (pcE []) ho ⟨b, off, none⟩ l.length cap (pcE l) (pcE_length l) (ens_news hc) (pcE_one l) (by unfold maxLen; omega) (by omega) (by subst hX; simp)
    have h1' : w'.ownsRow X 72 2 v' l.length (pcE l) := by
      have e : 0 + l.length = l.length := by omega
      rw [e] at h1
      exact h1
    obtain ⟨a', c', rfl, hE, hF⟩ := ens_of_row h1'
    refine ⟨a', c', w', hr, hE, hF, ?_⟩
    subst hX
    exact hb0.grown h2 (by simp) (own_blockU ho)
/-- A list of the node lies in that block. -/
def NaAt (y : Na) (b : Nat) : Prop := ∃ f, y.aU = some ⟨b, f, none⟩ ∨ y.aG = some ⟨b, f, none⟩ ∨ y.dU = some ⟨b, f, none⟩ ∨ y.dG = some ⟨b, f, none⟩ ∨ y.nA = some ⟨b, f, none⟩
set_option maxRecDepth 20000 in
set_option maxHeartbeats 8000000 in
theorem sCopyNodeL_any (x : Nd) (y : Na) (hf : NdFit 1048576 x) (w : World) (hi : NdIn w x y) :
    Calls Tryz.prog 16 #[.agg (ndV x y).toArray] w fun e w' => ∃ y' : Na, e = .returned (.agg (ndV x y').toArray) ∧ NdIn w' x y' ∧ NaFrom w.heap.size y' ∧ Below w.heap.size w w' ∧ ∀ b, NaAt y' b → b < w'.heap.size := by
  have HF : Hid (NdFit 1048576 x) := hf
  have HI : Hid (NdIn w x y) := hi
  clear hf hi
  have HX : Hid (BoxW ((w.alloc (.cells (ndV x y).toArray 31)).alloc (.cells #[.int .i64 0, .int .i64 0, .int .i64 0, .int .i64 0, .int .i64 0, .int .i64 0, .int .i64 0, .slice none 0 0, .slice none 0 0, .bool false, .int .i64 0, .bool false, .int .i64 0, .int .i64 0, .int .i64 0, .slice none 0 0, .slice none 0 0, .bool false, .int .i64 0, .int .i64 0, .int .i64 0, .string ⟨#[]⟩, .slice none 0 0, .int .i64 0] 31)) w.heap.size (ndV x y)) := (boxW_new w (ndV x y) 31).below (bel_alloc _ _)
  have HZ : Hid (BoxW ((w.alloc (.cells (ndV x y).toArray 31)).alloc (.cells #[.int .i64 0, .int .i64 0, .int .i64 0, .int .i64 0, .int .i64 0, .int .i64 0, .int .i64 0, .slice none 0 0, .slice none 0 0, .bool false, .int .i64 0, .bool false, .int .i64 0, .int .i64 0, .int .i64 0, .slice none 0 0, .slice none 0 0, .bool false, .int .i64 0, .int .i64 0, .int .i64 0, .string ⟨#[]⟩, .slice none 0 0, .int .i64 0] 31)) (w.heap.size + 1) [.int .i64 0, .int .i64 0, .int .i64 0, .int .i64 0, .int .i64 0, .int .i64 0, .int .i64 0, .slice none 0 0, .slice none 0 0, .bool false, .int .i64 0, .bool false, .int .i64 0, .int .i64 0, .int .i64 0, .slice none 0 0, .slice none 0 0, .bool false, .int .i64 0, .int .i64 0, .int .i64 0, .string ⟨#[]⟩, .slice none 0 0, .int .i64 0]) := (by
    have h := boxW_new (w.alloc (.cells (ndV x y).toArray 31)) [.int .i64 0, .int .i64 0, .int .i64 0, .int .i64 0, .int .i64 0, .int .i64 0, .int .i64 0, .slice none 0 0, .slice none 0 0, .bool false, .int .i64 0, .bool false, .int .i64 0, .int .i64 0, .int .i64 0, .slice none 0 0, .slice none 0 0, .bool false, .int .i64 0, .int .i64 0, .int .i64 0, .string ⟨#[]⟩, .slice none 0 0, .int .i64 0] 31
    simp only [World.size_alloc] at h
    exact h)
  have HB : Hid (Below w.heap.size w ((w.alloc (.cells (ndV x y).toArray 31)).alloc (.cells #[.int .i64 0, .int .i64 0, .int .i64 0, .int .i64 0, .int .i64 0, .int .i64 0, .int .i64 0, .slice none 0 0, .slice none 0 0, .bool false, .int .i64 0, .bool false, .int .i64 0, .int .i64 0, .int .i64 0, .slice none 0 0, .slice none 0 0, .bool false, .int .i64 0, .int .i64 0, .int .i64 0, .string ⟨#[]⟩, .slice none 0 0, .int .i64 0] 31))) := bl2T _ _ _
  go_enter Tryz.func16, Tryz.ntmps16
  go_upto_region 1 with fail
  generalize ((w.alloc (.cells (ndV x y).toArray 31)).alloc (.cells #[.int .i64 0, .int .i64 0, .int .i64 0, .int .i64 0, .int .i64 0, .int .i64 0, .int .i64 0, .slice none 0 0, .slice none 0 0, .bool false, .int .i64 0, .bool false, .int .i64 0, .int .i64 0, .int .i64 0, .slice none 0 0, .slice none 0 0, .bool false, .int .i64 0, .int .i64 0, .int .i64 0, .string ⟨#[]⟩, .slice none 0 0, .int .i64 0] 31)) = w0 at HX HZ HB ⊢
  obtain ⟨X, hX⟩ : ∃ X, X = w.heap.size := ⟨_, rfl⟩
  have HXw : Hid (X = w.heap.size) := hX
  rw [← hX] at HX HZ ⊢
  clear hX
  have e4 := N24.c4 HX.out.at0
  have e5 := N24.c5 HX.out.at0
  have e6 := N24.c6 HX.out.at0
  have e7 := N24.c7 HX.out.at0
  have e8 := N24.c8 HX.out.at0
  have e9 := N24.c9 HX.out.at0
  have e10 := N24.c10 HX.out.at0
  simp only [Nat.zero_add] at e4 e5 e6 e7 e8 e9 e10
  go_wp2_with fail
  refine (sCopy_capB x.A.u x.A.g x.A.o _ _ _ _ _ _ x.A.r x.A.m x.A.us x.A.gs w0 (HI.out.aU.below HB.out) (HI.out.aG.below HB.out) (by have := HF.out.au; omega) (by have := HF.out.ag; omega)).mono ?_
  rintro e w1 ⟨a1, c1, a2, c2, rfl, hN, _, _⟩
  have hb := hN.bel
  have hz0 := HZ.out.lt
  have Na1 : Hid (∀ b f, a1 = some ⟨b, f, none⟩ → X + 1 < b) := (fun b f e => by have h := (hN.iu _ e).1; simp only at h; omega)
  have Na2 : Hid (∀ b f, a2 = some ⟨b, f, none⟩ → X + 1 < b) := (fun b f e => by have h := (hN.ig _ e).1; simp only at h; omega)
  replace HB : Hid (Below w.heap.size w w1) := Below.on HB.out hb
  replace HX : Hid (BoxW w1 X (ndV x y)) := HX.out.below hb
  replace HZ : Hid (BoxW w1 (X + 1) [.int .i64 0, .int .i64 0, .int .i64 0, .int .i64 0, .int .i64 0, .int .i64 0, .int .i64 0, .slice none 0 0, .slice none 0 0, .bool false, .int .i64 0, .bool false, .int .i64 0, .int .i64 0, .int .i64 0, .slice none 0 0, .slice none 0 0, .bool false, .int .i64 0, .int .i64 0, .int .i64 0, .string ⟨#[]⟩, .slice none 0 0, .int .i64 0]) := HZ.out.below hb
  have La1 : Hid (∀ b f, a1 = some ⟨b, f, none⟩ → b < w1.heap.size) := (fun b f e => (hN.iu _ e).2)
  have La2 : Hid (∀ b f, a2 = some ⟨b, f, none⟩ → b < w1.heap.size) := (fun b f e => (hN.ig _ e).2)
  have Ua1 : Hid (Prs a1 x.A.us.length x.A.us w1) := hN.ou.prs
  have Ua2 : Hid (Prs a2 x.A.gs.length x.A.gs w1) := hN.og.prs
  clear hb hN hz0 e4 e5 e6 e7 e8 e9 e10
  go_upto_region 2 with (refine wpList_store_list (by rfl) 28 _ _ (by rfl) X 4 (alV x.A a1 c1 a2 c2) (by rfl) (by rfl) (HX.out.there 4 7 (by rw [ndV_len]; omega)) (by kernel_rfl) (alV_ones _ _ _ _ _) ?_)
  replace HB : Hid (Below w.heap.size w (w1.setCells X 4 (alV x.A a1 c1 a2 c2))) := bl_setsT (by have := HXw.out; omega) _ _ HB.out
  replace HX : Hid (BoxW (w1.setCells X 4 (alV x.A a1 c1 a2 c2)) X (ndV x ⟨a1, c1, a2, c2, y.dU, y.eU, y.dG, y.eG, y.nA, y.nC⟩)) := HX.out.sets 4 (alV x.A a1 c1 a2 c2) (by rw [alV_len, ndV_len]; omega)
  replace HZ : Hid (BoxW (w1.setCells X 4 (alV x.A a1 c1 a2 c2)) (X + 1) [.int .i64 0, .int .i64 0, .int .i64 0, .int .i64 0, .int .i64 0, .int .i64 0, .int .i64 0, .slice none 0 0, .slice none 0 0, .bool false, .int .i64 0, .bool false, .int .i64 0, .int .i64 0, .int .i64 0, .slice none 0 0, .slice none 0 0, .bool false, .int .i64 0, .int .i64 0, .int .i64 0, .string ⟨#[]⟩, .slice none 0 0, .int .i64 0]) := HZ.out.others (by omega)
  replace La1 : Hid (∀ b f, a1 = some ⟨b, f, none⟩ → b < (w1.setCells X 4 (alV x.A a1 c1 a2 c2)).heap.size) := (fun b f e => by rw [size_setCellsT]; exact La1.out b f e)
  replace Ua1 : Hid (Prs a1 x.A.us.length x.A.us (w1.setCells X 4 (alV x.A a1 c1 a2 c2))) := Ua1.out.sets (fun b f e => by have := Na1.out b f e; omega) _ _
  replace La2 : Hid (∀ b f, a2 = some ⟨b, f, none⟩ → b < (w1.setCells X 4 (alV x.A a1 c1 a2 c2)).heap.size) := (fun b f e => by rw [size_setCellsT]; exact La2.out b f e)
  replace Ua2 : Hid (Prs a2 x.A.gs.length x.A.gs (w1.setCells X 4 (alV x.A a1 c1 a2 c2))) := Ua2.out.sets (fun b f e => by have := Na2.out b f e; omega) _ _
  generalize (w1.setCells X 4 (alV x.A a1 c1 a2 c2)) = w2 at HB HX HZ Ua1 La1 Ua2 La2 ⊢
  clear w1 w0
  have e12 := N24.c12 HX.out.at0
  have e13 := N24.c13 HX.out.at0
  have e14 := N24.c14 HX.out.at0
  have e15 := N24.c15 HX.out.at0
  have e16 := N24.c16 HX.out.at0
  have e17 := N24.c17 HX.out.at0
  have e18 := N24.c18 HX.out.at0
  simp only [Nat.zero_add] at e12 e13 e14 e15 e16 e17 e18
  go_wp2_with fail
  refine (sCopy_capB x.D.u x.D.g x.D.o _ _ _ _ _ _ x.D.r x.D.m x.D.us x.D.gs w2 (HI.out.dU.below HB.out) (HI.out.dG.below HB.out) (by have := HF.out.du; omega) (by have := HF.out.dg; omega)).mono ?_
  rintro e w3 ⟨a3, c3, a4, c4, rfl, hN, _, _⟩
  have hb := hN.bel
  have hz0 := HZ.out.lt
  have Na3 : Hid (∀ b f, a3 = some ⟨b, f, none⟩ → X + 1 < b) := (fun b f e => by have h := (hN.iu _ e).1; simp only at h; omega)
  have Na4 : Hid (∀ b f, a4 = some ⟨b, f, none⟩ → X + 1 < b) := (fun b f e => by have h := (hN.ig _ e).1; simp only at h; omega)
  replace HB : Hid (Below w.heap.size w w3) := Below.on HB.out hb
  replace HX : Hid (BoxW w3 X (ndV x ⟨a1, c1, a2, c2, y.dU, y.eU, y.dG, y.eG, y.nA, y.nC⟩)) := HX.out.below hb
  replace HZ : Hid (BoxW w3 (X + 1) [.int .i64 0, .int .i64 0, .int .i64 0, .int .i64 0, .int .i64 0, .int .i64 0, .int .i64 0, .slice none 0 0, .slice none 0 0, .bool false, .int .i64 0, .bool false, .int .i64 0, .int .i64 0, .int .i64 0, .slice none 0 0, .slice none 0 0, .bool false, .int .i64 0, .int .i64 0, .int .i64 0, .string ⟨#[]⟩, .slice none 0 0, .int .i64 0]) := HZ.out.below hb
  replace La1 : Hid (∀ b f, a1 = some ⟨b, f, none⟩ → b < w3.heap.size) := (fun b f e => Nat.lt_of_lt_of_le (La1.out b f e) hb.size)
  replace Ua1 : Hid (Prs a1 x.A.us.length x.A.us w3) := Ua1.out.below hb
  replace La2 : Hid (∀ b f, a2 = some ⟨b, f, none⟩ → b < w3.heap.size) := (fun b f e => Nat.lt_of_lt_of_le (La2.out b f e) hb.size)
  replace Ua2 : Hid (Prs a2 x.A.gs.length x.A.gs w3) := Ua2.out.below hb
  have La3 : Hid (∀ b f, a3 = some ⟨b, f, none⟩ → b < w3.heap.size) := (fun b f e => (hN.iu _ e).2)
  have La4 : Hid (∀ b f, a4 = some ⟨b, f, none⟩ → b < w3.heap.size) := (fun b f e => (hN.ig _ e).2)
  have Ua3 : Hid (Prs a3 x.D.us.length x.D.us w3) := hN.ou.prs
  have Ua4 : Hid (Prs a4 x.D.gs.length x.D.gs w3) := hN.og.prs
  clear hb hN hz0 e12 e13 e14 e15 e16 e17 e18
  go_upto_region 3 with (refine wpList_store_list (by rfl) 28 _ _ (by rfl) X 12 (alV x.D a3 c3 a4 c4) (by rfl) (by rfl) (HX.out.there 12 7 (by rw [ndV_len]; omega)) (by kernel_rfl) (alV_ones _ _ _ _ _) ?_)
  replace HB : Hid (Below w.heap.size w (w3.setCells X 12 (alV x.D a3 c3 a4 c4))) := bl_setsT (by have := HXw.out; omega) _ _ HB.out
  replace HX : Hid (BoxW (w3.setCells X 12 (alV x.D a3 c3 a4 c4)) X (ndV x ⟨a1, c1, a2, c2, a3, c3, a4, c4, y.nA, y.nC⟩)) := HX.out.sets 12 (alV x.D a3 c3 a4 c4) (by rw [alV_len, ndV_len]; omega)
  replace HZ : Hid (BoxW (w3.setCells X 12 (alV x.D a3 c3 a4 c4)) (X + 1) [.int .i64 0, .int .i64 0, .int .i64 0, .int .i64 0, .int .i64 0, .int .i64 0, .int .i64 0, .slice none 0 0, .slice none 0 0, .bool false, .int .i64 0, .bool false, .int .i64 0, .int .i64 0, .int .i64 0, .slice none 0 0, .slice none 0 0, .bool false, .int .i64 0, .int .i64 0, .int .i64 0, .string ⟨#[]⟩, .slice none 0 0, .int .i64 0]) := HZ.out.others (by omega)
  replace La1 : Hid (∀ b f, a1 = some ⟨b, f, none⟩ → b < (w3.setCells X 12 (alV x.D a3 c3 a4 c4)).heap.size) := (fun b f e => by rw [size_setCellsT]; exact La1.out b f e)
  replace Ua1 : Hid (Prs a1 x.A.us.length x.A.us (w3.setCells X 12 (alV x.D a3 c3 a4 c4))) := Ua1.out.sets (fun b f e => by have := Na1.out b f e; omega) _ _
  replace La2 : Hid (∀ b f, a2 = some ⟨b, f, none⟩ → b < (w3.setCells X 12 (alV x.D a3 c3 a4 c4)).heap.size) := (fun b f e => by rw [size_setCellsT]; exact La2.out b f e)
  replace Ua2 : Hid (Prs a2 x.A.gs.length x.A.gs (w3.setCells X 12 (alV x.D a3 c3 a4 c4))) := Ua2.out.sets (fun b f e => by have := Na2.out b f e; omega) _ _
  replace La3 : Hid (∀ b f, a3 = some ⟨b, f, none⟩ → b < (w3.setCells X 12 (alV x.D a3 c3 a4 c4)).heap.size) := (fun b f e => by rw [size_setCellsT]; exact La3.out b f e)
  replace Ua3 : Hid (Prs a3 x.D.us.length x.D.us (w3.setCells X 12 (alV x.D a3 c3 a4 c4))) := Ua3.out.sets (fun b f e => by have := Na3.out b f e; omega) _ _
  replace La4 : Hid (∀ b f, a4 = some ⟨b, f, none⟩ → b < (w3.setCells X 12 (alV x.D a3 c3 a4 c4)).heap.size) := (fun b f e => by rw [size_setCellsT]; exact La4.out b f e)
  replace Ua4 : Hid (Prs a4 x.D.gs.length x.D.gs (w3.setCells X 12 (alV x.D a3 c3 a4 c4))) := Ua4.out.sets (fun b f e => by have := Na4.out b f e; omega) _ _
  generalize (w3.setCells X 12 (alV x.D a3 c3 a4 c4)) = w4 at HB HX HZ Ua1 La1 Ua2 La2 Ua3 La3 Ua4 La4 ⊢
  clear w3 w2
  obtain ⟨a5, c5, w5, hr5, hE5, hF5, hb5⟩ := append_ents w4 w4.heap.size rfl y.nA x.ns.length y.nC x.ns (HI.out.nA.below HB.out) (by have := HF.out.nl; omega)
  have hz0 := HZ.out.lt
  have Na5 : Hid (∀ b f, a5 = some ⟨b, f, none⟩ → X + 1 < b) := (fun b f e => by have h := (hF5 b f e).1; omega)
  have HR5 : Hid _ := hr5
  have e22 : (w4.alloc (.cells #[] 72)).cell? ⟨X, 22, none⟩ = some (.slice y.nA x.ns.length y.nC) := (by have h := N24.c22 (HX.out.below (bel_alloc w4 (.cells #[] 72))).at0; simpa only [Nat.zero_add] using h)
  replace HB : Hid (Below w.heap.size w w5) := Below.on HB.out hb5
  replace HX : Hid (BoxW w5 X (ndV x ⟨a1, c1, a2, c2, a3, c3, a4, c4, y.nA, y.nC⟩)) := HX.out.below hb5
  replace HZ : Hid (BoxW w5 (X + 1) [.int .i64 0, .int .i64 0, .int .i64 0, .int .i64 0, .int .i64 0, .int .i64 0, .int .i64 0, .slice none 0 0, .slice none 0 0, .bool false, .int .i64 0, .bool false, .int .i64 0, .int .i64 0, .int .i64 0, .slice none 0 0, .slice none 0 0, .bool false, .int .i64 0, .int .i64 0, .int .i64 0, .string ⟨#[]⟩, .slice none 0 0, .int .i64 0]) := HZ.out.below hb5
  replace La1 : Hid (∀ b f, a1 = some ⟨b, f, none⟩ → b < w5.heap.size) := (fun b f e => Nat.lt_of_lt_of_le (La1.out b f e) hb5.size)
  replace Ua1 : Hid (Prs a1 x.A.us.length x.A.us w5) := Ua1.out.below hb5
  replace La2 : Hid (∀ b f, a2 = some ⟨b, f, none⟩ → b < w5.heap.size) := (fun b f e => Nat.lt_of_lt_of_le (La2.out b f e) hb5.size)
  replace Ua2 : Hid (Prs a2 x.A.gs.length x.A.gs w5) := Ua2.out.below hb5
  replace La3 : Hid (∀ b f, a3 = some ⟨b, f, none⟩ → b < w5.heap.size) := (fun b f e => Nat.lt_of_lt_of_le (La3.out b f e) hb5.size)
  replace Ua3 : Hid (Prs a3 x.D.us.length x.D.us w5) := Ua3.out.below hb5
  replace La4 : Hid (∀ b f, a4 = some ⟨b, f, none⟩ → b < w5.heap.size) := (fun b f e => Nat.lt_of_lt_of_le (La4.out b f e) hb5.size)
  replace Ua4 : Hid (Prs a4 x.D.gs.length x.D.gs w5) := Ua4.out.below hb5
  have Ua5 : Hid (Ens a5 x.ns.length x.ns w5) := hE5
  have La5 : Hid (∀ b f, a5 = some ⟨b, f, none⟩ → b < w5.heap.size) := (fun b f e => (hF5 b f e).2)
  have x22 : w5.cell? ⟨X, 22, none⟩ = some (.slice y.nA x.ns.length y.nC) := (by have h := N24.c22 HX.out.at0; simpa only [Nat.zero_add] using h)
  have fx := HX.out.frz
  clear hr5 hE5 hF5 hb5 hz0
  go_upto_region 4 with (at_builtin; refine wpList_append_run _ rfl (.tmp 11) (.tmp 13) 29 29 rfl _ _ _ _ rfl rfl HR5.out ?_)
  replace HB : Hid (Below w.heap.size w (w5.setCell ⟨X, 22, none⟩ (.slice a5 x.ns.length c5))) := bl_setT HB.out (by have := HXw.out; omega)
  replace HX : Hid (BoxW (w5.setCell ⟨X, 22, none⟩ (.slice a5 x.ns.length c5)) X (ndV x ⟨a1, c1, a2, c2, a3, c3, a4, c4, a5, c5⟩)) := HX.out.set 22 (by rw [ndV_len]; omega) _
  replace HZ : Hid (BoxW (w5.setCell ⟨X, 22, none⟩ (.slice a5 x.ns.length c5)) (X + 1) [.int .i64 0, .int .i64 0, .int .i64 0, .int .i64 0, .int .i64 0, .int .i64 0, .int .i64 0, .slice none 0 0, .slice none 0 0, .bool false, .int .i64 0, .bool false, .int .i64 0, .int .i64 0, .int .i64 0, .slice none 0 0, .slice none 0 0, .bool false, .int .i64 0, .int .i64 0, .int .i64 0, .string ⟨#[]⟩, .slice none 0 0, .int .i64 0]) := HZ.out.other (by omega)
  replace La1 : Hid (∀ b f, a1 = some ⟨b, f, none⟩ → b < (w5.setCell ⟨X, 22, none⟩ (.slice a5 x.ns.length c5)).heap.size) := (fun b f e => by simpa using La1.out b f e)
  replace Ua1 : Hid (Prs a1 x.A.us.length x.A.us (w5.setCell ⟨X, 22, none⟩ (.slice a5 x.ns.length c5))) := Ua1.out.set (fun b f e => by have := Na1.out b f e; omega)
  replace La2 : Hid (∀ b f, a2 = some ⟨b, f, none⟩ → b < (w5.setCell ⟨X, 22, none⟩ (.slice a5 x.ns.length c5)).heap.size) := (fun b f e => by simpa using La2.out b f e)
  replace Ua2 : Hid (Prs a2 x.A.gs.length x.A.gs (w5.setCell ⟨X, 22, none⟩ (.slice a5 x.ns.length c5))) := Ua2.out.set (fun b f e => by have := Na2.out b f e; omega)
  replace La3 : Hid (∀ b f, a3 = some ⟨b, f, none⟩ → b < (w5.setCell ⟨X, 22, none⟩ (.slice a5 x.ns.length c5)).heap.size) := (fun b f e => by simpa using La3.out b f e)
  replace Ua3 : Hid (Prs a3 x.D.us.length x.D.us (w5.setCell ⟨X, 22, none⟩ (.slice a5 x.ns.length c5))) := Ua3.out.set (fun b f e => by have := Na3.out b f e; omega)
  replace La4 : Hid (∀ b f, a4 = some ⟨b, f, none⟩ → b < (w5.setCell ⟨X, 22, none⟩ (.slice a5 x.ns.length c5)).heap.size) := (fun b f e => by simpa using La4.out b f e)
  replace Ua4 : Hid (Prs a4 x.D.gs.length x.D.gs (w5.setCell ⟨X, 22, none⟩ (.slice a5 x.ns.length c5))) := Ua4.out.set (fun b f e => by have := Na4.out b f e; omega)
  replace La5 : Hid (∀ b f, a5 = some ⟨b, f, none⟩ → b < (w5.setCell ⟨X, 22, none⟩ (.slice a5 x.ns.length c5)).heap.size) := (fun b f e => by simpa using La5.out b f e)
  replace Ua5 : Hid (Ens a5 x.ns.length x.ns (w5.setCell ⟨X, 22, none⟩ (.slice a5 x.ns.length c5))) := Ua5.out.set (fun b f e => by have := Na5.out b f e; omega)
  clear x22 e22 fx HR5
  generalize (w5.setCell ⟨X, 22, none⟩ (.slice a5 x.ns.length c5)) = w6 at HB HX HZ Ua1 La1 Ua2 La2 Ua3 La3 Ua4 La4 Ua5 La5 ⊢
  clear w5
  obtain ⟨y', hy⟩ : ∃ y' : Na, y' = ⟨a1, c1, a2, c2, a3, c3, a4, c4, a5, c5⟩ := ⟨_, rfl⟩
  replace HX : Hid (BoxW w6 X (ndV x y')) := (by rw [hy]; exact HX.out)
  replace La1 : Hid (∀ b f, a1 = some ⟨b, f, none⟩ → b < (w6.setCells (X + 1) 0 (ndV x y')).heap.size) := (fun b f e => by rw [size_setCellsT]; exact La1.out b f e)
  replace Ua1 : Hid (Prs a1 x.A.us.length x.A.us (w6.setCells (X + 1) 0 (ndV x y'))) := Ua1.out.sets (fun b f e => by have := Na1.out b f e; omega) _ _
  replace La2 : Hid (∀ b f, a2 = some ⟨b, f, none⟩ → b < (w6.setCells (X + 1) 0 (ndV x y')).heap.size) := (fun b f e => by rw [size_setCellsT]; exact La2.out b f e)
  replace Ua2 : Hid (Prs a2 x.A.gs.length x.A.gs (w6.setCells (X + 1) 0 (ndV x y'))) := Ua2.out.sets (fun b f e => by have := Na2.out b f e; omega) _ _
  replace La3 : Hid (∀ b f, a3 = some ⟨b, f, none⟩ → b < (w6.setCells (X + 1) 0 (ndV x y')).heap.size) := (fun b f e => by rw [size_setCellsT]; exact La3.out b f e)
  replace Ua3 : Hid (Prs a3 x.D.us.length x.D.us (w6.setCells (X + 1) 0 (ndV x y'))) := Ua3.out.sets (fun b f e => by have := Na3.out b f e; omega) _ _
  replace La4 : Hid (∀ b f, a4 = some ⟨b, f, none⟩ → b < (w6.setCells (X + 1) 0 (ndV x y')).heap.size) := (fun b f e => by rw [size_setCellsT]; exact La4.out b f e)
  replace Ua4 : Hid (Prs a4 x.D.gs.length x.D.gs (w6.setCells (X + 1) 0 (ndV x y'))) := Ua4.out.sets (fun b f e => by have := Na4.out b f e; omega) _ _
  replace La5 : Hid (∀ b f, a5 = some ⟨b, f, none⟩ → b < (w6.setCells (X + 1) 0 (ndV x y')).heap.size) := (fun b f e => by rw [size_setCellsT]; exact La5.out b f e)
  replace Ua5 : Hid (Ens a5 x.ns.length x.ns (w6.setCells (X + 1) 0 (ndV x y'))) := Ua5.out.sets (fun b f e => by have := Na5.out b f e; omega) _ _
  have HNs : Hid (NdIn (w6.setCells (X + 1) 0 (ndV x y')) x y') := (by have h : NdIn (w6.setCells (X + 1) 0 (ndV x y')) x ⟨a1, c1, a2, c2, a3, c3, a4, c4, a5, c5⟩ := ⟨Ua1.out, Ua2.out, Ua3.out, Ua4.out, Ua5.out⟩; rw [← hy] at h; exact h)
  have HFr : Hid (NaFrom w.heap.size y') := (by rw [hy]; have h0 := HXw.out; exact ⟨fun b f e => by have := Na1.out b f e; omega, fun b f e => by have := Na2.out b f e; omega, fun b f e => by have := Na3.out b f e; omega, fun b f e => by have := Na4.out b f e; omega, fun b f e => by have := Na5.out b f e; omega⟩)
  have HLs : Hid (∀ b, NaAt y' b → b < (w6.setCells (X + 1) 0 (ndV x y')).heap.size) := (by have h : ∀ b, NaAt ⟨a1, c1, a2, c2, a3, c3, a4, c4, a5, c5⟩ b → b < (w6.setCells (X + 1) 0 (ndV x y')).heap.size := (by rintro b ⟨f, e | e | e | e | e⟩ <;> first | exact La1.out b f e | exact La2.out b f e | exact La3.out b f e | exact La4.out b f e | exact La5.out b f e); rw [← hy] at h; exact h)
  clear hy Ua1 Na1 La1 Ua2 Na2 La2 Ua3 Na3 La3 Ua4 Na4 La4 Ua5 Na5 La5
  have HBs : Hid (Below w.heap.size w (w6.setCells (X + 1) 0 (ndV x y'))) := bl_setsT (by have := HXw.out; omega) _ _ HB.out
  have hr : (w6.setCells (X + 1) 0 (ndV x y')).rangeAt (X + 1) 0 (ndV x y') := World.rangeAt_setCells_same _ _ _ _ (HZ.out.there 0 24 (by simp))
  have hR : Hid ((loadVar 31 ⟨X + 1, 0, none⟩).run Tryz.prog (w6.setCells (X + 1) 0 (ndV x y')) = .ok (.agg (ndV x y').toArray) (w6.setCells (X + 1) 0 (ndV x y'))) := run_loadVar_mid _ _ _ _ _ _ hr Tryz.underlying31 rfl (by kernel_rfl)
  clear hr
  go_wp2_with (first | (refine wpList_load_mid (by rfl) 31 _ (by rfl) _ _ (by rfl) _ _ HX.out.at0 Tryz.underlying31 rfl (by kernel_rfl) ?_) | (refine wpList_store_list (by rfl) 31 _ _ (by rfl) (X + 1) 0 (ndV x y') (by rfl) (by rfl) (HZ.out.there 0 24 (by simp)) (by kernel_rfl) (ndV_ones _ _) ?_) | (refine bodyPost_ret (v := .agg (ndV x y').toArray) ?hres rfl ⟨y', rfl, HNs.out, HFr.out, HBs.out, HLs.out⟩))
  exact results_one Tryz.results16 (by rfl) hR.out
end Go.Proofs.YtgodbelcddgdmaaGreat
