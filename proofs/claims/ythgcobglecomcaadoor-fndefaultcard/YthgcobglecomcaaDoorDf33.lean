/- Laid together: GrB. -/
import Derived.Test.YthgcobglecomcaaDoorDf32
import Derived.Carry
import Derived.Test.YthgcobglecomcaaDoorDf9
import Derived.Deep.RegionHeld3
import Derived.WalkArith
import Derived.Deep.DeepCutAuto
/- impl.grantsOfAcl: its first three. -/
namespace Go.Proofs.YthgcobglecomcaaDoor
open Go.RowKit Go.PlainAid Go.Deep
set_option linter.unusedVariables false
theorem listed_dep {md : Region.Mode} {ops : Array Oper} {l : Array Bool} {i : Nat} {o : Oper} (hn : Region.ready md ops l = []) (hsz : l.size = ops.size) (ho : ops[i]? = some o) (hd : ∀ e ∈ o.after, Region.binds md e = true → l.getD e.on false = true) : l.getD i false = true := by
  have hi : i < ops.size := (Array.getElem?_eq_some_iff.1 ho).1
  have hil : i < l.size := by omega
  cases e : l.getD i true
  · have hm : i ∈ Region.ready md ops l := by
      unfold Region.ready
      refine List.mem_filter.2 ⟨List.mem_range.2 hi, ?_⟩
      rw [e, ho]
      simp only [Bool.not_false, Bool.true_and, Option.map_some, Option.getD_some]
      refine Array.all_eq_true'.2 fun x hx => ?_
      cases hb : Region.binds md x
      · rfl
      · rw [hd x hx hb]; rfl
    rw [hn] at hm
    cases hm
  · simpa [Array.getD, hil] using e
/-- Where each hangs on earlier ones alone, and none is ready, all are listed. -/
theorem listed_all {md : Region.Mode} {ops : Array Oper} {l : Array Bool} (hn : Region.ready md ops l = []) (hsz : l.size = ops.size) (hd : ∀ (i : Nat) (o : Oper), ops[i]? = some o → ∀ e ∈ o.after, e.on < i) : ∀ i, i < ops.size → l.getD i false = true := by
  intro i
  induction i using Nat.strongRecOn with
  | _ i ih =>
    intro hi
    have ho : ops[i]? = some ops[i] := Array.getElem?_eq_getElem hi
    exact listed_dep hn hsz ho (fun e he _ => ih e.on (hd i _ ho e he) (by have := hd i _ ho e he; omega))
/-- The same, by a look at the text. -/
theorem early_of {ops : Array Oper} (h : ((List.range ops.size).all fun i => ((ops[i]?).map fun (o : Oper) => o.after.all fun e => decide (e.on < i)).getD true) = true) : ∀ (i : Nat) (o : Oper), ops[i]? = some o → ∀ e ∈ o.after, e.on < i := by
  intro i o ho e he
  have hi : i < ops.size := (Array.getElem?_eq_some_iff.1 ho).1
  have h1 := List.all_eq_true.1 h i (List.mem_range.2 hi)
  rw [ho] at h1
  simp only [Option.map_some, Option.getD_some] at h1
  exact of_decide_eq_true (Array.all_eq_true'.1 h1 e he)
theorem wf_bitsZ (n : Int) : (Lit.int .i64 (bitsZ n)).wf = true := by
  have h : 0 ≤ bitsZ n ∧ bitsZ n ≤ 15 := by
    unfold bitsZ
    split
    · rename_i h
      obtain ⟨h0, h1⟩ := inR_iff.1 h
      rcases (by omega : n = 0 ∨ n = 1 ∨ n = 2 ∨ n = 3 ∨ n = 4 ∨ n = 5 ∨ n = 6 ∨ n = 7) with rfl | rfl | rfl | rfl | rfl | rfl | rfl | rfl <;> decide
    · omega
  generalize bitsZ n = z at h ⊢
  rcases (by omega : z = 0 ∨ z = 1 ∨ z = 2 ∨ z = 3 ∨ z = 4 ∨ z = 5 ∨ z = 6 ∨ z = 7 ∨ z = 8 ∨ z = 9 ∨ z = 10 ∨ z = 11 ∨ z = 12 ∨ z = 13 ∨ z = 14 ∨ z = 15) with rfl | rfl | rfl | rfl | rfl | rfl | rfl | rfl | rfl | rfl | rfl | rfl | rfl | rfl | rfl | rfl <;> decide
def gr0 (A : Al) : Int → Int → Int := fun x y => if x = 3 ∧ y = 0 then bitsZ A.o else if x = 2 ∧ y = 0 then bitsZ (bits .and .i64 A.g (clsOf A.g A.r A.m)) else if x = 1 ∧ y = 0 then bitsZ A.u else 0
/-- The named ones put in. -/
def nmPg (φ : Int → Int → Int) (q : Int) (l : List (Int × Int)) (c : Int) : Nat → Int → Int → Int
  | 0 => φ
  | k + 1 => fun x y => if x = q ∧ y = idAt l k then bitsZ (bits .and .i64 (btAt l k) c) else nmPg φ q l c k x y
def grF (A : Al) : Int → Int → Int := nmPg (nmPg (gr0 A) 4 A.us (clsOf A.g A.r A.m) A.us.length) 5 A.gs (clsOf A.g A.r A.m) A.gs.length
theorem gm_cells {w w' : World} {b C : Nat} {v0 v1 : Value} {t : TypeId} (hg : (w.alloc (.cells #[v0, v1] t)).grownBy w' (some b)) (hb : b < w.heap.size) : w'.cell? ⟨w.heap.size, 0, none⟩ = some v0 ∧ w'.cell? ⟨w.heap.size, 1, none⟩ = some v1 := by
  have e := hg.block w.heap.size (by simp) (by simp; omega)
  exact ⟨by rw [World.cell?_of_block e]; simp [go_sem], by rw [World.cell?_of_block e]; simp [go_sem]⟩
theorem bel_map {w1 w2 w3 : World} {b : Nat} (h : Below w1.heap.size w1 w2) (hg : w2.grownBy w3 (some b)) (hb : w1.heap.size ≤ b) : Below w1.heap.size w1 w3 := ⟨hg.os.trans h.os, hg.tape.trans h.tape, hg.output.trans h.output, Nat.le_trans h.size hg.size, fun k hk => (hg.block k (by have := h.size; omega) (by simp; omega)).trans (h.block k hk)⟩
set_option maxRecDepth 100000 in
set_option maxHeartbeats 40000000 in
theorem grantsOf_any (A : Al) (aU : Option Addr) (cU : Nat) (aG : Option Addr) (cG : Nat) (w : World) (hA : A.B = true) (hp : PlW w) (hu : Prs aU A.us.length A.us w) (hg : Prs aG A.gs.length A.gs w) :
    Calls Tryd.prog 35 #[.agg #[.int .i64 A.u, .int .i64 A.g, .int .i64 A.o, .slice aU A.us.length cU, .slice aG A.gs.length cG, .bool A.r, .int .i64 A.m]] w fun e w' => ∃ b n, e = .returned (.map (some b)) ∧ w.heap.size ≤ b ∧ n ≤ 100 ∧ GM w' b n (grF A) ∧ Below w.heap.size w w' := by
  have hb0 := bel_alloc w (.cells #[.int .i64 A.u, .int .i64 A.g, .int .i64 A.o, .slice aU A.us.length cU, .slice aG A.gs.length cG, .bool A.r, .int .i64 A.m] 25)
  have HX0 := box7_new w (.int .i64 A.u) (.int .i64 A.g) (.int .i64 A.o) (.slice aU A.us.length cU) (.slice aG A.gs.length cG) (.bool A.r) (.int .i64 A.m) 25
  have hB0 : aclB A.u A.g A.o A.us A.gs A.r A.m = true := hA
  obtain ⟨_, _, _, _, b1, b2⟩ := aclB_parts hB0
  have hlu := nm_len b1
  have hlg := nm_len b2
  have WU : Hid (∀ k, k < A.us.length → 0 ≤ idAt A.us k ∧ idAt A.us k ≤ 9999) := nm_id b1
  have WG : Hid (∀ k, k < A.gs.length → 0 ≤ idAt A.gs k ∧ idAt A.gs k ≤ 9999) := nm_id b2
  have HP : Hid (PlW w) := hp
  have HU : Hid (Prs aU A.us.length A.us w) := hu
  have HG : Hid (Prs aG A.gs.length A.gs w) := hg
  clear hp hu hg hB0 hA b1 b2
  go_enter Tryd.func35, Tryd.ntmps35
  go_wp2_with fail
  refine (groupClass_any A.u A.g A.o aU _ cU aG _ cG A.r A.m _).mono ?_
  rintro e w1 ⟨rfl, hb1⟩
  have HX1 : Hid (Box7 w1 w.heap.size (.int .i64 A.u) (.int .i64 A.g) (.int .i64 A.o) (.slice aU A.us.length cU) (.slice aG A.gs.length cG) (.bool A.r) (.int .i64 A.m)) := HX0.below hb1
  have HB1 : Hid (Below w.heap.size w w1) := Below.on hb0 hb1
  have hX1 : w.heap.size < w1.heap.size := HX1.out.lt
  clear hb0 hb1 HX0
  go_wp2_with fail
  refine wp_region_inv (by kernel_rfl) (fun l act w' => ∃ V : Nat → Value, act = { tmps := #[.agg #[.int .i64 A.u, .int .i64 A.g, .int .i64 A.o, .slice aU A.us.length cU, .slice aG A.gs.length cG, .bool A.r, .int .i64 A.m], .pointer (some ⟨w.heap.size, 0, none⟩), .map none, .int .i64 (clsOf A.g A.r A.m), V 19, undef, undef, undef, undef, .agg #[.int .i64 A.u, .int .i64 A.g, .int .i64 A.o, .slice aU A.us.length cU, .slice aG A.gs.length cG, .bool A.r, .int .i64 A.m], .int .i64 (clsOf A.g A.r A.m), V 0, V 1, V 2, V 3, V 4, V 6, V 7, V 8, V 9, V 10, V 11, V 13, V 14, V 15, V 16, V 18, undef, undef, undef, undef, undef, undef, undef, undef, undef, undef, undef, undef, undef, undef, undef, undef, undef, undef, undef, undef, undef, undef, undef, undef, undef, undef, undef, undef, undef, undef, undef, undef, undef, undef, undef], defers := [] } ∧ GI w.heap.size A w1 l w' V) ?_ ?_ ?_
  · refine ⟨fun _ => undef, rfl, ⟨rfl, ⟨rfl, rfl, rfl, Nat.le_refl _, fun _ _ => rfl⟩, fun i hi => ?_, fun h => absurd h (by decide), fun h => absurd h (by decide), fun h => absurd h (by decide), fun _ => ⟨by decide, by decide, by decide, by decide, by decide⟩⟩⟩
    simp [Array.getD] at hi
  · intro l act w' hI i hi
    obtain ⟨V, rfl, hI⟩ := hI
    have hi20 : i < 20 := (ready_mem hi).1
    have hil := (ready_mem hi).2.1
    obtain ⟨xl, x0, x1, x2, x3, x4, x5, x6⟩ := HX1.out.below hI.bel
    match i, hi20 with
    | 0, _ =>
      have hz : l.getD 0 false = false := by
        obtain ⟨q1, q2⟩ := getD_false hil
        simpa [Array.getD, q1] using q2
      have hmm := @run_makeMap Tryd.prog
      refine wpOp_of_list rfl ?_
      go_wp2
      exact ⟨upV V 0 (.map (some w'.heap.size)), rfl, hI.made hil hz⟩
    | 1, _ =>
      have HI2 : Hid _ := hI.step 1 hil (.agg #[.int .i64 1, .int .i64 0]) (Below.refl _ _) rfl (by decide) (by decide) (by decide) (by decide) (fun h => absurd h (by decide)) (fun h => absurd h (by decide))
      clear hI
      refine wpOp_of_list rfl ?_
      go_wp2
      exact ⟨_, rfl, HI2.out⟩
    | 2, _ =>
      have HI2 : Hid _ := hI.step 2 hil (.pointer (some ⟨w.heap.size, 0, none⟩)) (Below.refl _ _) rfl (by decide) (by decide) (by decide) (by decide) (fun h => absurd h (by decide)) (fun h => absurd h (by decide))
      clear hI
      refine wpOp_of_list rfl ?_
      go_wp2
      exact ⟨_, rfl, HI2.out⟩
    | 3, _ =>
      have d2 := ready_dep hi rfl ⟨2, .data⟩ (by simp) rfl
      have v2 : V 2 = .pointer (some ⟨w.heap.size, 0, none⟩) := hI.val 2 d2
      have HI2 : Hid _ := hI.step 3 hil (.int .i64 A.u) (Below.refl _ _) rfl (by decide) (by decide) (by decide) (by decide) (fun h => absurd h (by decide)) (fun h => absurd h (by decide))
      clear hI
      refine wpOp_of_list rfl ?_
      rw [v2]
      go_wp2
      rw [← v2]
      exact ⟨_, rfl, HI2.out⟩
    | 4, _ =>
      have d3 := ready_dep hi rfl ⟨3, .data⟩ (by simp) rfl
      have v3 : V 3 = .int .i64 A.u := hI.val 3 d3
      have HPW := (HP.out.below HB1.out).below hI.bel
      refine wpOp_of_list rfl ?_
      rw [v3]
      go_wp2_with fail
      refine (iNfsBits_any A.u _ HPW).mono ?_
      rintro e w2 ⟨rfl, hb2⟩
      have HI2 : Hid _ := hI.step 4 hil (.int .i64 (bitsZ A.u)) hb2 rfl (by decide) (by decide) (by decide) (by decide) (fun h => absurd h (by decide)) (fun h => absurd h (by decide))
      clear hI
      go_wp2
      rw [← v3]
      exact ⟨_, rfl, HI2.out⟩
    | 5, _ =>
      have d0 := ready_dep hi rfl ⟨0, .data⟩ (by simp) rfl
      have d1 := ready_dep hi rfl ⟨1, .data⟩ (by simp) rfl
      have d4 := ready_dep hi rfl ⟨4, .data⟩ (by simp) rfl
      have v1 : V 1 = .agg #[.int .i64 1, .int .i64 0] := hI.val 1 d1
      have v4 : V 4 = .int .i64 (bitsZ A.u) := hI.val 4 d4
      obtain ⟨b, w2, e0, hr, hI2⟩ := hI.put 5 hil d0 1 (bitsZ A.u) (by decide) (wf_bitsZ _) (.inl ⟨rfl, rfl, rfl⟩)
      have HI2 : Hid _ := hI2
      clear hI2 hI
      refine wpOp_of_list rfl ?_
      rw [e0, v1, v4]
      go_wp2
      rw [← e0, ← v1, ← v4]
      exact ⟨V, rfl, HI2.out⟩
    | 6, _ =>
      have HI2 : Hid _ := hI.step 6 hil (.agg #[.int .i64 2, .int .i64 0]) (Below.refl _ _) rfl (by decide) (by decide) (by decide) (by decide) (fun h => absurd h (by decide)) (fun h => absurd h (by decide))
      clear hI
      refine wpOp_of_list rfl ?_
      go_wp2
      exact ⟨_, rfl, HI2.out⟩
    | 7, _ =>
      have HI2 : Hid _ := hI.step 7 hil (.pointer (some ⟨w.heap.size, 1, none⟩)) (Below.refl _ _) rfl (by decide) (by decide) (by decide) (by decide) (fun h => absurd h (by decide)) (fun h => absurd h (by decide))
      clear hI
      refine wpOp_of_list rfl ?_
      go_wp2
      exact ⟨_, rfl, HI2.out⟩
    | 8, _ =>
      have d7 := ready_dep hi rfl ⟨7, .data⟩ (by simp) rfl
      have v7 : V 7 = .pointer (some ⟨w.heap.size, 1, none⟩) := hI.val 7 d7
      have HI2 : Hid _ := hI.step 8 hil (.int .i64 A.g) (Below.refl _ _) rfl (by decide) (by decide) (by decide) (by decide) (fun h => absurd h (by decide)) (fun h => absurd h (by decide))
      clear hI
      refine wpOp_of_list rfl ?_
      rw [v7]
      go_wp2
      rw [← v7]
      exact ⟨_, rfl, HI2.out⟩
    | 9, _ =>
      have HI2 : Hid _ := hI.step 9 hil (.int .i64 (clsOf A.g A.r A.m)) (Below.refl _ _) rfl (by decide) (by decide) (by decide) (by decide) (fun h => absurd h (by decide)) (fun h => absurd h (by decide))
      clear hI
      refine wpOp_of_list rfl ?_
      go_wp2
      exact ⟨_, rfl, HI2.out⟩
    | 10, _ =>
      have d8 := ready_dep hi rfl ⟨8, .data⟩ (by simp) rfl
      have d9 := ready_dep hi rfl ⟨9, .data⟩ (by simp) rfl
      have v8 : V 8 = .int .i64 A.g := hI.val 8 d8
      have v9 : V 9 = .int .i64 (clsOf A.g A.r A.m) := hI.val 9 d9
      have HI2 : Hid _ := hI.step 10 hil (.int .i64 (bits .and .i64 A.g (clsOf A.g A.r A.m))) (Below.refl _ _) rfl (by decide) (by decide) (by decide) (by decide) (fun h => absurd h (by decide)) (fun h => absurd h (by decide))
      clear hI
      refine wpOp_of_list rfl ?_
      rw [v8, v9]
      go_wp2
      rw [← v8, ← v9]
      exact ⟨_, rfl, HI2.out⟩
    | 11, _ =>
      have d10 := ready_dep hi rfl ⟨10, .data⟩ (by simp) rfl
      have v10 : V 10 = .int .i64 (bits .and .i64 A.g (clsOf A.g A.r A.m)) := hI.val 10 d10
      have HPW := (HP.out.below HB1.out).below hI.bel
      refine wpOp_of_list rfl ?_
      rw [v10]
      go_wp2_with fail
      refine (iNfsBits_any (bits .and .i64 A.g (clsOf A.g A.r A.m)) _ HPW).mono ?_
      rintro e w2 ⟨rfl, hb2⟩
      have HI2 : Hid _ := hI.step 11 hil (.int .i64 (bitsZ (bits .and .i64 A.g (clsOf A.g A.r A.m)))) hb2 rfl (by decide) (by decide) (by decide) (by decide) (fun h => absurd h (by decide)) (fun h => absurd h (by decide))
      clear hI
      go_wp2
      rw [← v10]
      exact ⟨_, rfl, HI2.out⟩
    | 12, _ =>
      have d0 := ready_dep hi rfl ⟨0, .data⟩ (by simp) rfl
      have d6 := ready_dep hi rfl ⟨6, .data⟩ (by simp) rfl
      have d11 := ready_dep hi rfl ⟨11, .data⟩ (by simp) rfl
      have v6 : V 6 = .agg #[.int .i64 2, .int .i64 0] := hI.val 6 d6
      have v11 : V 11 = .int .i64 (bitsZ (bits .and .i64 A.g (clsOf A.g A.r A.m))) := hI.val 11 d11
      obtain ⟨b, w2, e0, hr, hI2⟩ := hI.put 12 hil d0 2 (bitsZ (bits .and .i64 A.g (clsOf A.g A.r A.m))) (by decide) (wf_bitsZ _) (.inr (.inl ⟨rfl, rfl, rfl⟩))
      have HI2 : Hid _ := hI2
      clear hI2 hI
      refine wpOp_of_list rfl ?_
      rw [e0, v6, v11]
      go_wp2
      rw [← e0, ← v6, ← v11]
      exact ⟨V, rfl, HI2.out⟩
    | 13, _ =>
      have HI2 : Hid _ := hI.step 13 hil (.agg #[.int .i64 3, .int .i64 0]) (Below.refl _ _) rfl (by decide) (by decide) (by decide) (by decide) (fun h => absurd h (by decide)) (fun h => absurd h (by decide))
      clear hI
      refine wpOp_of_list rfl ?_
      go_wp2
      exact ⟨_, rfl, HI2.out⟩
    | 14, _ =>
      have HI2 : Hid _ := hI.step 14 hil (.pointer (some ⟨w.heap.size, 2, none⟩)) (Below.refl _ _) rfl (by decide) (by decide) (by decide) (by decide) (fun h => absurd h (by decide)) (fun h => absurd h (by decide))
      clear hI
      refine wpOp_of_list rfl ?_
      go_wp2
      exact ⟨_, rfl, HI2.out⟩
    | 15, _ =>
      have d14 := ready_dep hi rfl ⟨14, .data⟩ (by simp) rfl
      have v14 : V 14 = .pointer (some ⟨w.heap.size, 2, none⟩) := hI.val 14 d14
      have HI2 : Hid _ := hI.step 15 hil (.int .i64 A.o) (Below.refl _ _) rfl (by decide) (by decide) (by decide) (by decide) (fun h => absurd h (by decide)) (fun h => absurd h (by decide))
      clear hI
      refine wpOp_of_list rfl ?_
      rw [v14]
      go_wp2
      rw [← v14]
      exact ⟨_, rfl, HI2.out⟩
    | 16, _ =>
      have d15 := ready_dep hi rfl ⟨15, .data⟩ (by simp) rfl
      have v15 : V 15 = .int .i64 A.o := hI.val 15 d15
      have HPW := (HP.out.below HB1.out).below hI.bel
      refine wpOp_of_list rfl ?_
      rw [v15]
      go_wp2_with fail
      refine (iNfsBits_any A.o _ HPW).mono ?_
      rintro e w2 ⟨rfl, hb2⟩
      have HI2 : Hid _ := hI.step 16 hil (.int .i64 (bitsZ A.o)) hb2 rfl (by decide) (by decide) (by decide) (by decide) (fun h => absurd h (by decide)) (fun h => absurd h (by decide))
      clear hI
      go_wp2
      rw [← v15]
      exact ⟨_, rfl, HI2.out⟩
    | 17, _ =>
      have d0 := ready_dep hi rfl ⟨0, .data⟩ (by simp) rfl
      have d13 := ready_dep hi rfl ⟨13, .data⟩ (by simp) rfl
      have d16 := ready_dep hi rfl ⟨16, .data⟩ (by simp) rfl
      have v13 : V 13 = .agg #[.int .i64 3, .int .i64 0] := hI.val 13 d13
      have v16 : V 16 = .int .i64 (bitsZ A.o) := hI.val 16 d16
      obtain ⟨b, w2, e0, hr, hI2⟩ := hI.put 17 hil d0 3 (bitsZ A.o) (by decide) (wf_bitsZ _) (.inr (.inr ⟨rfl, rfl, rfl⟩))
      have HI2 : Hid _ := hI2
      clear hI2 hI
      refine wpOp_of_list rfl ?_
      rw [e0, v13, v16]
      go_wp2
      rw [← e0, ← v13, ← v16]
      exact ⟨V, rfl, HI2.out⟩
    | 18, _ =>
      have d0 := ready_dep hi rfl ⟨0, .data⟩ (by simp) rfl
      have HI2 : Hid _ := hI.step 18 hil (V 0) (Below.refl _ _) trivial (by decide) (by decide) (by decide) (by decide) (fun h => ⟨d0, rfl⟩) (fun h => absurd h (by decide))
      clear hI
      refine wpOp_of_list rfl ?_
      go_wp2
      skip
      exact ⟨_, rfl, HI2.out⟩
    | 19, _ =>
      have d18 := ready_dep hi rfl ⟨18, .data⟩ (by simp) rfl
      have e18 : Hid (V 18 = V 0) := hI.m18 d18
      have d0 : l.getD 0 false = true := ready_dep hi rfl ⟨0, .phase⟩ (by simp) rfl
      have HI2 : Hid _ := hI.step 19 hil (V 18) (Below.refl _ _) trivial (by decide) (by decide) (by decide) (by decide) (fun h => absurd h (by decide)) (fun h => ⟨d0, e18.out⟩)
      clear hI
      refine wpOp_of_list rfl ?_
      go_wp2
      skip
      exact ⟨_, rfl, HI2.out⟩
    | n + 20, h => exact absurd h (by omega)
  · intro l act w' hI hn
    obtain ⟨V, rfl, hI⟩ := hI
    have hall := listed_all hn hI.sz (early_of (by kernel_rfl))
    have l0 : l.getD 0 false = true := hall 0 (by decide)
    have l5 : l.getD 5 false = true := hall 5 (by decide)
    have l12 : l.getD 12 false = true := hall 12 (by decide)
    have l17 : l.getD 17 false = true := hall 17 (by decide)
    have l19 : l.getD 19 false = true := hall 19 (by decide)
    obtain ⟨b, n0, e0, hbb, hnn0, hG0⟩ := hI.map l0
    have e19 : V 19 = .map (some b) := (hI.m19 l19).trans e0
    have hφ : grP A l = gr0 A := by
      funext x y
      simp [grP, gr0, l5, l12, l17]
    rw [hφ] at hG0
    have HGm : Hid (GM w' b n0 (nmPg (gr0 A) 4 A.us (clsOf A.g A.r A.m) 0)) := hG0
    have HB2 : Hid (Below w1.heap.size w1 w') := hI.bel
    have hnn : n0 ≤ 40 + 0 := by omega
    obtain ⟨xl, x0, x1, x2, x3, x4, x5, x6⟩ := HX1.out.below HB2.out
    rw [e19]
    clear hI hall hn l0 l5 l12 l17 l19 e0 e19 hφ hG0 hnn0
    generalize V 0 = y0
    generalize V 1 = y1
    generalize V 2 = y2
    generalize V 3 = y3
    generalize V 4 = y4
    generalize V 6 = y6
    generalize V 7 = y7
    generalize V 8 = y8
    generalize V 9 = y9
    generalize V 10 = y10
    generalize V 11 = y11
    generalize V 13 = y13
    generalize V 14 = y14
    generalize V 15 = y15
    generalize V 16 = y16
    generalize V 18 = y18
    clear V
    go_wp2
    go_loopw [30] (fun i wr => ∃ (k n : Nat), k ≤ A.us.length ∧ i = .int .i64 k ∧ n ≤ 40 + k ∧ Hid (GM wr b n (nmPg (gr0 A) 4 A.us (clsOf A.g A.r A.m) k)) ∧ Hid (Below w1.heap.size w1 wr)) (fun i _ => A.us.length - (intOf i).toNat)
    case atStart => exact ⟨0, n0, Nat.zero_le _, rfl, hnn, HGm, HB2⟩
    case round =>
    obtain ⟨k, n, hk, rfl, hnk, hGm, hB⟩ := hrel
    by_cases hlt : k < A.us.length
    · have hlt' : (k : Int) < (A.us.length : Int) := by omega
      obtain ⟨b2, off, hab, hbl, hcs⟩ := HU.out.2 (by omega)
      subst hab
      obtain ⟨q0, q1⟩ := hcs k hlt
      have hwr : Below w.heap.size w wr := HB1.out.trans (hB.out.mono HB1.out.size)
      have c0 : wr.cell? ⟨b2, off + k * 2, none⟩ = some (.int .i64 (idAt A.us k)) := (hwr.cell (p := ⟨b2, off + k * 2, none⟩) hbl).trans q0
      have c1 : wr.cell? ⟨b2, off + k * 2 + 1, none⟩ = some (.int .i64 (btAt A.us k)) := (hwr.cell (p := ⟨b2, off + k * 2 + 1, none⟩) hbl).trans q1
      have hbA := bel_alloc wr (.cells #[.int .i64 (idAt A.us k), .int .i64 (btAt A.us k)] 89)
      have HGA : Hid (GM (wr.alloc (.cells #[.int .i64 (idAt A.us k), .int .i64 (btAt A.us k)] 89)) b n (nmPg (gr0 A) 4 A.us (clsOf A.g A.r A.m) k)) := hGm.out.below hbA
      have HBA : Hid (Below w1.heap.size w1 (wr.alloc (.cells #[.int .i64 (idAt A.us k), .int .i64 (btAt A.us k)] 89))) := hB.out.trans (hbA.mono hB.out.size)
      have HPA : Hid (PlW (wr.alloc (.cells #[.int .i64 (idAt A.us k), .int .i64 (btAt A.us k)] 89))) := (HP.out.below hwr).below hbA
      have hbw : b < wr.heap.size := hGm.out.lt
      have wid : (Lit.int .i64 (idAt A.us k)).wf = true := WalkArith.wf_i64 (by have := WU.out k hlt; omega)
      have HE : Hid (nmPg (gr0 A) 4 A.us (clsOf A.g A.r A.m) (k + 1) = fun x y => if x = 4 ∧ y = idAt A.us k then bitsZ (bits .and .i64 (btAt A.us k) (clsOf A.g A.r A.m)) else nmPg (gr0 A) 4 A.us (clsOf A.g A.r A.m) k x y) := rfl
      have HWI : Hid ((Lit.int .i64 (idAt A.us k)).wf = true) := wid
      clear q0 q1 hcs hwr hbA hGm hB wid
      go_upto_region 6 with fail
      generalize hWA : wr.alloc (.cells #[.int .i64 (idAt A.us k), .int .i64 (btAt A.us k)] 89) = WA at HGA HBA HPA ⊢
      have g0 : WA.cell? ⟨wr.heap.size, 0, none⟩ = some (.int .i64 (idAt A.us k)) := by rw [← hWA]; simp [go_sem]
      have g1 : WA.cell? ⟨wr.heap.size, 1, none⟩ = some (.int .i64 (btAt A.us k)) := by rw [← hWA]; simp [go_sem]
      have hWS : wr.heap.size < WA.heap.size := by rw [← hWA]; simp
      clear hWA c0 c1
      generalize wr.heap.size = C at g0 g1 hWS hbw ⊢
      have G0 : Hid (WA.cell? ⟨C, 0, none⟩ = some (.int .i64 (idAt A.us k))) := g0
      have G1 : Hid (WA.cell? ⟨C, 1, none⟩ = some (.int .i64 (btAt A.us k))) := g1
      go_region_held3 (fun w' => w'.cell? ⟨C, 0, none⟩ = some (.int .i64 (idAt A.us k)) ∧ w'.cell? ⟨C, 1, none⟩ = some (.int .i64 (btAt A.us k))) (go_keep)
        (first
          | (go_at_call 73; refine Calls.mono (iNfsBits_any _ _ ?hs) ?_; (case hs => (first | exact HPA.out | exact (HPA.out.below ⟨rfl, rfl, rfl, Nat.le_refl _, fun _ _ => rfl⟩))); rintro e w2 ⟨rfl, hb2⟩; have hb3 : Below WA.heap.size WA w2 := ⟨hb2.os, hb2.tape, hb2.output, hb2.size, hb2.block⟩; obtain ⟨w3, hr3, hG3, hg3⟩ := (HGA.out.below hb3).put (x := 4) (y := idAt A.us k) (v := bitsZ (bits .and .i64 (btAt A.us k) (clsOf A.g A.r A.m))) (by omega) (by decide) HWI.out (wf_bitsZ _); have e0 := (hb3.cell (p := ⟨C, 0, none⟩) hWS).trans G0.out; have e1 := (hb3.cell (p := ⟨C, 1, none⟩) hWS).trans G1.out; have kc : w3.heap[C]? = w2.heap[C]? := hg3.block C (Nat.lt_of_lt_of_le hWS hb3.size) (by simp; omega); have e2 : w3.cell? ⟨C, 0, none⟩ = some (.int .i64 (idAt A.us k)) := (World.cell?_of_block kc).trans e0; have e3 : w3.cell? ⟨C, 1, none⟩ = some (.int .i64 (btAt A.us k)) := (World.cell?_of_block kc).trans e1; have HG3 : Hid (GM w3 b (n + 1) (fun x y => if x = 4 ∧ y = idAt A.us k then bitsZ (bits .and .i64 (btAt A.us k) (clsOf A.g A.r A.m)) else nmPg (gr0 A) 4 A.us (clsOf A.g A.r A.m) k x y)) := hG3; have HB3 : Hid (Below w1.heap.size w1 w3) := bel_map (HBA.out.trans (hb3.mono HBA.out.size)) hg3 hbb; clear hG3 hg3 kc))
      rw [← HE.out] at HG3
      go_wp2
      go_roundw
      case rel => exact ⟨k + 1, n + 1, by omega, by go_num, by omega, HG3, HB3⟩
      case measure => simp [intOf]; omega
    · have hkk : k = A.us.length := by omega
      subst hkk
      have hm1 : n ≤ 46 + 0 := by omega
      obtain ⟨m1, em1⟩ : ∃ m1, m1 = n := ⟨_, rfl⟩
      rw [← em1] at hm1 hGm
      clear em1 hnk
      obtain ⟨xl, x0, x1, x2, x3, x4, x5, x6⟩ := HX1.out.below hB.out
      go_wp2
      go_loopw [47] (fun i wr => ∃ (k n : Nat), k ≤ A.gs.length ∧ i = .int .i64 k ∧ n ≤ 46 + k ∧ Hid (GM wr b n (nmPg (nmPg (gr0 A) 4 A.us (clsOf A.g A.r A.m) A.us.length) 5 A.gs (clsOf A.g A.r A.m) k)) ∧ Hid (Below w1.heap.size w1 wr)) (fun i _ => A.gs.length - (intOf i).toNat)
      case atStart => exact ⟨0, m1, Nat.zero_le _, rfl, hm1, hGm, hB⟩
      case round =>
      obtain ⟨k, n, hk, rfl, hnk, hGm, hB⟩ := hrel
      by_cases hlt : k < A.gs.length
      · have hlt' : (k : Int) < (A.gs.length : Int) := by omega
        obtain ⟨b2, off, hab, hbl, hcs⟩ := HG.out.2 (by omega)
        subst hab
        obtain ⟨q0, q1⟩ := hcs k hlt
        have hwr : Below w.heap.size w wr := HB1.out.trans (hB.out.mono HB1.out.size)
        have c0 : wr.cell? ⟨b2, off + k * 2, none⟩ = some (.int .i64 (idAt A.gs k)) := (hwr.cell (p := ⟨b2, off + k * 2, none⟩) hbl).trans q0
        have c1 : wr.cell? ⟨b2, off + k * 2 + 1, none⟩ = some (.int .i64 (btAt A.gs k)) := (hwr.cell (p := ⟨b2, off + k * 2 + 1, none⟩) hbl).trans q1
        have hbA := bel_alloc wr (.cells #[.int .i64 (idAt A.gs k), .int .i64 (btAt A.gs k)] 89)
        have HGA : Hid (GM (wr.alloc (.cells #[.int .i64 (idAt A.gs k), .int .i64 (btAt A.gs k)] 89)) b n (nmPg (nmPg (gr0 A) 4 A.us (clsOf A.g A.r A.m) A.us.length) 5 A.gs (clsOf A.g A.r A.m) k)) := hGm.out.below hbA
        have HBA : Hid (Below w1.heap.size w1 (wr.alloc (.cells #[.int .i64 (idAt A.gs k), .int .i64 (btAt A.gs k)] 89))) := hB.out.trans (hbA.mono hB.out.size)
        have HPA : Hid (PlW (wr.alloc (.cells #[.int .i64 (idAt A.gs k), .int .i64 (btAt A.gs k)] 89))) := (HP.out.below hwr).below hbA
        have hbw : b < wr.heap.size := hGm.out.lt
        have wid : (Lit.int .i64 (idAt A.gs k)).wf = true := WalkArith.wf_i64 (by have := WG.out k hlt; omega)
        have HE : Hid (nmPg (nmPg (gr0 A) 4 A.us (clsOf A.g A.r A.m) A.us.length) 5 A.gs (clsOf A.g A.r A.m) (k + 1) = fun x y => if x = 5 ∧ y = idAt A.gs k then bitsZ (bits .and .i64 (btAt A.gs k) (clsOf A.g A.r A.m)) else nmPg (nmPg (gr0 A) 4 A.us (clsOf A.g A.r A.m) A.us.length) 5 A.gs (clsOf A.g A.r A.m) k x y) := rfl
        have HWI : Hid ((Lit.int .i64 (idAt A.gs k)).wf = true) := wid
        clear q0 q1 hcs hwr hbA hGm hB wid
        go_upto_region 11 with fail
        generalize hWA : wr.alloc (.cells #[.int .i64 (idAt A.gs k), .int .i64 (btAt A.gs k)] 89) = WA at HGA HBA HPA ⊢
        have g0 : WA.cell? ⟨wr.heap.size, 0, none⟩ = some (.int .i64 (idAt A.gs k)) := by rw [← hWA]; simp [go_sem]
        have g1 : WA.cell? ⟨wr.heap.size, 1, none⟩ = some (.int .i64 (btAt A.gs k)) := by rw [← hWA]; simp [go_sem]
        have hWS : wr.heap.size < WA.heap.size := by rw [← hWA]; simp
        clear hWA c0 c1
        generalize wr.heap.size = C at g0 g1 hWS hbw ⊢
        have G0 : Hid (WA.cell? ⟨C, 0, none⟩ = some (.int .i64 (idAt A.gs k))) := g0
        have G1 : Hid (WA.cell? ⟨C, 1, none⟩ = some (.int .i64 (btAt A.gs k))) := g1
        go_region_held3 (fun w' => w'.cell? ⟨C, 0, none⟩ = some (.int .i64 (idAt A.gs k)) ∧ w'.cell? ⟨C, 1, none⟩ = some (.int .i64 (btAt A.gs k))) (go_keep)
          (first
            | (go_at_call 73; refine Calls.mono (iNfsBits_any _ _ ?hs) ?_; (case hs => (first | exact HPA.out | exact (HPA.out.below ⟨rfl, rfl, rfl, Nat.le_refl _, fun _ _ => rfl⟩))); rintro e w2 ⟨rfl, hb2⟩; have hb3 : Below WA.heap.size WA w2 := ⟨hb2.os, hb2.tape, hb2.output, hb2.size, hb2.block⟩; obtain ⟨w3, hr3, hG3, hg3⟩ := (HGA.out.below hb3).put (x := 5) (y := idAt A.gs k) (v := bitsZ (bits .and .i64 (btAt A.gs k) (clsOf A.g A.r A.m))) (by omega) (by decide) HWI.out (wf_bitsZ _); have e0 := (hb3.cell (p := ⟨C, 0, none⟩) hWS).trans G0.out; have e1 := (hb3.cell (p := ⟨C, 1, none⟩) hWS).trans G1.out; have kc : w3.heap[C]? = w2.heap[C]? := hg3.block C (Nat.lt_of_lt_of_le hWS hb3.size) (by simp; omega); have e2 : w3.cell? ⟨C, 0, none⟩ = some (.int .i64 (idAt A.gs k)) := (World.cell?_of_block kc).trans e0; have e3 : w3.cell? ⟨C, 1, none⟩ = some (.int .i64 (btAt A.gs k)) := (World.cell?_of_block kc).trans e1; have HG3 : Hid (GM w3 b (n + 1) (fun x y => if x = 5 ∧ y = idAt A.gs k then bitsZ (bits .and .i64 (btAt A.gs k) (clsOf A.g A.r A.m)) else nmPg (nmPg (gr0 A) 4 A.us (clsOf A.g A.r A.m) A.us.length) 5 A.gs (clsOf A.g A.r A.m) k x y)) := hG3; have HB3 : Hid (Below w1.heap.size w1 w3) := bel_map (HBA.out.trans (hb3.mono HBA.out.size)) hg3 hbb; clear hG3 hg3 kc))
        rw [← HE.out] at HG3
        go_wp2
        go_roundw
        case rel => exact ⟨k + 1, n + 1, by omega, by go_num, by omega, HG3, HB3⟩
        case measure => simp [intOf]; omega
      · have hkk : k = A.gs.length := by omega
        subst hkk
        have HBF : Hid (Below w.heap.size w wr) := HB1.out.trans (hB.out.mono HB1.out.size)
        go_wp2
        go_ret
        exact ⟨b, n, rfl, Nat.le_trans HB1.out.size hbb, by omega, hGm.out, HBF.out⟩
end Go.Proofs.YthgcobglecomcaaDoor
