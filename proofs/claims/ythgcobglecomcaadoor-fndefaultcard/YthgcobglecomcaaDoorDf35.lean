/- Laid together: GrN, GrV. -/
import Derived.Test.YthgcobglecomcaaDoorDf30
import Derived.Test.YthgcobglecomcaaDoorDf33
import Derived.Test.YthgcobglecomcaaDoorDf34
import Derived.Test.YthgcobglecomcaaDoorDf23
import Derived.Deep.RegionHeld3
import Derived.Deep.DeepCutAuto
import Derived.Test.YthgcobglecomcaaDoorDf10
/- impl.ToNfs: its rows. -/
namespace Go.Proofs.YthgcobglecomcaaDoor
open Go.RowKit Go.PlainAid Go.Deep
set_option linter.unusedVariables false
/-- append of several aces; the map is as it was. -/
theorem LG.appS {b n : Nat} {φ : Int → Int → Int} {w0 w : World} {v : Value} {l : List Ac} (h : LG b w0 w v l) (hG : GM w b n φ) (a : Option Addr) (len cap : Nat) (l2 : List Ac) (hp : Acs a len l2 w) (hl : l.length + len ≤ 1000000) :
    ∃ v' w', (Builtin.append_ #[27, 27] 27 #[v, .slice a len cap]).run Tryd.prog w = .ok v' w' ∧ LG b w0 w' v' (l ++ l2) ∧ GM w' b n φ ∧ (∀ k, k < w.heap.size → v.ownBlock ≠ some k → w'.heap[k]? = w.heap[k]?) ∧ w.heap.size ≤ w'.heap.size := by
  have q := h.own.size
  have hpl := h.pl
  obtain ⟨v', w', hr, ho, hg⟩ := run_append_acs (P := Tryd.prog) w w0.heap.size 27 27 49 Tryd.underlying27 infoAce v l h.row a len cap l2 hp (by omega) q
  have hne : ∀ k, k < w0.heap.size → v.ownBlock ≠ some k := fun k hk e => by have := (rowG_lt h.row e).1; omega
  have hk : ∀ k, k < w.heap.size → v.ownBlock ≠ some k → w'.heap[k]? = w.heap[k]? := fun k hk hn => hg.block k hk (fun e => hn e.symm)
  have hlow : ∀ k, k < w0.heap.size → w'.heap[k]? = w.heap[k]? := fun k hk2 => hk k (by omega) (hne k hk2)
  exact ⟨v', w', hr, ⟨⟨hg.os.trans h.own.os, hg.tape.trans h.own.tape, hg.output.trans h.own.output, Nat.le_trans q hg.size, fun k hk2 hn => (hlow k hk2).trans (h.own.block k hk2 hn)⟩, ho, hpl⟩, hG.kept (hlow b hpl), hk, hg.size⟩
theorem acs_two (w : World) (x y : Ac) (t : TypeId) : Acs (some ⟨w.heap.size, 0, none⟩) 2 [x, y] (w.alloc (.cells #[.bool x.al, .int .i64 x.wh, .int .i64 x.id, .int .i64 x.fl, .int .i64 x.ma, .bool y.al, .int .i64 y.wh, .int .i64 y.id, .int .i64 y.fl, .int .i64 y.ma] t)) := by
  refine ⟨rfl, fun _ => ⟨w.heap.size, 0, rfl, by simp, fun i hi => ?_⟩⟩
  have hb : (w.alloc (.cells #[.bool x.al, .int .i64 x.wh, .int .i64 x.id, .int .i64 x.fl, .int .i64 x.ma, .bool y.al, .int .i64 y.wh, .int .i64 y.id, .int .i64 y.fl, .int .i64 y.ma] t)).heap[w.heap.size]? = some (.cells #[.bool x.al, .int .i64 x.wh, .int .i64 x.id, .int .i64 x.fl, .int .i64 x.ma, .bool y.al, .int .i64 y.wh, .int .i64 y.id, .int .i64 y.fl, .int .i64 y.ma] t) := by
    rw [World.alloc]
    exact Array.getElem?_push_size
  match i, hi with
  | 0, _ => exact ⟨by simp only [World.cell?, hb]; rfl, by simp only [World.cell?, hb]; rfl, by simp only [World.cell?, hb]; rfl, by simp only [World.cell?, hb]; rfl, by simp only [World.cell?, hb]; rfl⟩
  | 1, _ => exact ⟨by simp only [World.cell?, hb]; rfl, by simp only [World.cell?, hb]; rfl, by simp only [World.cell?, hb]; rfl, by simp only [World.cell?, hb]; rfl, by simp only [World.cell?, hb]; rfl⟩
theorem LG.acs {b : Nat} {w0 w : World} {v : Value} {l : List Ac} (h : LG b w0 w v l) : ∃ a c, v = .slice a l.length c ∧ Acs a l.length l w ∧ l.length ≤ c := by
  have hc : ∀ a c, v = .slice a l.length c → l.length ≤ c := fun a c e => by
    have h2 := h.row
    rw [e] at h2
    obtain ⟨_, ⟨h1, hn⟩ | ⟨g1, cap1, cur1, h1, _, _, hc1, _, _, _⟩⟩ := h2
    · omega
    · cases h1; exact hc1
  obtain ⟨a, c, e, ho, hin⟩ := ownA_of_row h.row
  exact ⟨a, c, e, ho.acs, hc a c e⟩
/-- An Allow and a Deny of each. -/
def prN (φ : Int → Int → Int) (l : List (Int × Int)) : Nat → List Ac
  | 0 => []
  | k + 1 => prN φ l k ++ [alwX (lftN φ l k) (atW l k), dnyX (lftN φ l k) (atW l k)]
theorem prN_len (φ : Int → Int → Int) (l : List (Int × Int)) : ∀ k, (prN φ l k).length = 2 * k := by
  intro k
  induction k with
  | zero => rfl
  | succ k ih => simp [prN, ih]; omega
theorem whN_mem {x q : Int} {l : List (Int × Int)} : ∀ j, ∀ p ∈ whN x q l j, p = (x, 0) ∨ ∃ i, i < j ∧ p = (q, idAt l i) := by
  intro j
  induction j with
  | zero => intro p hp; exact .inl (by simpa [whN] using hp)
  | succ j ih =>
    intro p hp
    rw [whN, List.mem_append] at hp
    rcases hp with hp | hp
    · rcases ih p hp with h | ⟨i, hi, h⟩
      · exact .inl h
      · exact .inr ⟨i, by omega, h⟩
    · exact .inr ⟨j, by omega, by simpa using hp⟩
theorem atW_mem {l : List (Int × Int)} {k : Nat} (h : k < l.length) : atW l k ∈ l := by
  have : atW l k = l[k] := by simp [atW, idAt, btAt, List.getD, h]
  rw [this]
  exact List.getElem_mem h
theorem whN_wf {x q : Int} {l : List (Int × Int)} {n : Nat} (hx : (Lit.int .i64 x).wf = true) (hq : (Lit.int .i64 q).wf = true) (hl : ∀ i, i < n → (Lit.int .i64 (idAt l i)).wf = true) : WfL (whN x q l n) (n + 1) := by
  intro k hk
  have hm := atW_mem (l := whN x q l n) (k := k) (by rw [whN_len]; exact hk)
  rcases whN_mem n _ hm with h | ⟨i, hi, h⟩
  · have h1 : idAt (whN x q l n) k = x := congrArg Prod.fst h
    have h2 : btAt (whN x q l n) k = 0 := congrArg Prod.snd h
    rw [h1, h2]
    exact ⟨hx, by decide⟩
  · have h1 : idAt (whN x q l n) k = q := congrArg Prod.fst h
    have h2 : btAt (whN x q l n) k = idAt l i := congrArg Prod.snd h
    rw [h1, h2]
    exact ⟨hq, hl i hi⟩
end Go.Proofs.YthgcobglecomcaaDoor
/- impl.ToNfs. -/
namespace Go.Proofs.YthgcobglecomcaaDoor
open Go.RowKit Go.PlainAid Go.Deep
set_option linter.unusedVariables false
theorem own_grownV {a : Option Addr} {n : Nat} {l : List (Int × Int)} {w w' : World} (h : Own a n l w) (hs : w.heap.size ≤ w'.heap.size) (hk : ∀ A, a = some A → w'.heap[A.block]? = w.heap[A.block]?) : Own a n l w' := by
  refine ⟨h.1, fun h0 => ?_⟩
  obtain ⟨B, ha, hlt, hp⟩ := h.2 h0
  have hb : w'.heap[B]? = w.heap[B]? := hk _ ha
  have hc : ∀ o, w'.cell? ⟨B, o, none⟩ = w.cell? ⟨B, o, none⟩ := fun o => World.cell?_of_block hb
  have hf : ∀ o, w'.frozen? ⟨B, o, none⟩ = w.frozen? ⟨B, o, none⟩ := fun o => World.frozen?_of_block hb
  exact ⟨B, ha, Nat.lt_of_lt_of_le hlt hs, fun i hi => ⟨⟨(hc _).trans (hp i hi).1.1, (hc _).trans (hp i hi).1.2⟩, (hf _).trans (hp i hi).2.1, (hf _).trans (hp i hi).2.2⟩⟩
/-- What is handed to DeleteFunc. -/
def allL (A : Al) : List Ac :=
  prN (grF A) (whN 1 4 A.us A.us.length) (A.us.length + 1) ++ alwN (lftN (grF A) (whN 1 4 A.us A.us.length) (A.us.length + 1)) (whN 2 5 A.gs A.gs.length) (A.gs.length + 1) ++ dnyN (lftN (grF A) (whN 1 4 A.us A.us.length) (A.us.length + 1)) (whN 2 5 A.gs A.gs.length) (A.gs.length + 1) ++ [alwX (lftN (lftN (grF A) (whN 1 4 A.us A.us.length) (A.us.length + 1)) (whN 2 5 A.gs A.gs.length) (A.gs.length + 1)) (3, 0)]
theorem step_app {P : Program} {ops : Array Oper} {o : Oper} {a : Act} {w : World} {K : Act → World → Prop} {Q : Exit → Act → World → Prop} {E : Prop}
    (hg : o.guard = none) (s x : Operand) (t : TypeId) (hop : o.op = Op.call { callee := Callee.builtin Builtin.append, args := #[s, x], argTypes := #[t, t] })
    (v xv v' : Value) (w' : World) (hs : a.eval s = v) (hx : a.eval x = xv) (hr : (Builtin.append_ #[t, t] o.type #[v, xv]).run P w = .ok v' w') (hK : K (a.put o.dst v') w') :
    if Region.wanted o (yielded ops a.tmps) = true then Oper.wp P o a w K Q else E := step_append_run hg s x t hop v xv v' w' hs hx hr hK
set_option maxRecDepth 100000 in
set_option maxHeartbeats 8000000 in
theorem iToNfs_yes (A : Al) (aU : Option Addr) (cU : Nat) (aG : Option Addr) (cG : Nat) (hA : A.B = true) (w : World) (hp : PlW w) (hu : Prs aU A.us.length A.us w) (hg : Prs aG A.gs.length A.gs w) :
    Calls Tryd.prog 12 #[.agg #[.int .i64 A.u, .int .i64 A.g, .int .i64 A.o, .slice aU A.us.length cU, .slice aG A.gs.length cG, .bool A.r, .int .i64 A.m]] w (AnsL (kpA (allL A) (allL A).length) w) := by
  have hB0 : aclB A.u A.g A.o A.us A.gs A.r A.m = true := hA
  obtain ⟨_, _, _, _, b1, b2⟩ := aclB_parts hB0
  have hlu := nm_len b1
  have hlg := nm_len b2
  have hb0 := bel_alloc w (.cells #[.int .i64 A.u, .int .i64 A.g, .int .i64 A.o, .slice aU A.us.length cU, .slice aG A.gs.length cG, .bool A.r, .int .i64 A.m] 25)
  have HX0 : Hid (Box7 (w.alloc (.cells #[.int .i64 A.u, .int .i64 A.g, .int .i64 A.o, .slice aU A.us.length cU, .slice aG A.gs.length cG, .bool A.r, .int .i64 A.m] 25)) w.heap.size (.int .i64 A.u) (.int .i64 A.g) (.int .i64 A.o) (.slice aU A.us.length cU) (.slice aG A.gs.length cG) (.bool A.r) (.int .i64 A.m)) := box7_new w _ _ _ _ _ _ _ _
  have HP : Hid (∀ W, Below w.heap.size w W → PlW W ∧ Prs aU A.us.length A.us W ∧ Prs aG A.gs.length A.gs W) := (fun W hW => ⟨hp.below hW, hu.below hW, hg.below hW⟩)
  have HB0 : Hid (Below w.heap.size w (w.alloc (.cells #[.int .i64 A.u, .int .i64 A.g, .int .i64 A.o, .slice aU A.us.length cU, .slice aG A.gs.length cG, .bool A.r, .int .i64 A.m] 25))) := hb0
  have hz0 : (w.alloc (.cells #[.int .i64 A.u, .int .i64 A.g, .int .i64 A.o, .slice aU A.us.length cU, .slice aG A.gs.length cG, .bool A.r, .int .i64 A.m] 25)).heap.size = w.heap.size + 1 := by simp
  have HR : Hid (∀ W, Below w.heap.size w W → Calls Tryd.prog 28 #[.agg #[.int .i64 A.u, .int .i64 A.g, .int .i64 A.o, .slice aU A.us.length cU, .slice aG A.gs.length cG, .bool A.r, .int .i64 A.m]] W fun e w' => e = .returned (.bool true) ∧ Below W.heap.size W w') := (fun W hW => by
    have h := iAclRight_any A.u A.g A.o aU _ cU aG _ cG A.r A.m A.us A.gs W (hu.below hW) (hg.below hW)
    rw [hB0] at h
    exact h)
  have HGR : Hid (∀ W, Below w.heap.size w W → Calls Tryd.prog 35 #[.agg #[.int .i64 A.u, .int .i64 A.g, .int .i64 A.o, .slice aU A.us.length cU, .slice aG A.gs.length cG, .bool A.r, .int .i64 A.m]] W fun e w' => ∃ b n, e = .returned (.map (some b)) ∧ W.heap.size ≤ b ∧ n ≤ 100 ∧ GM w' b n (grF A) ∧ Below W.heap.size W w') := (fun W hW => grantsOf_any A aU cU aG cG W hA (hp.below hW) (hu.below hW) (hg.below hW))
  have HWF1 : Hid (WfL (whN 1 4 A.us A.us.length) (A.us.length + 1)) := whN_wf (by decide) (by decide) (fun i hi => WalkArith.wf_i64 (by have := nm_id b1 i hi; omega))
  have HWF2 : Hid (WfL (whN 2 5 A.gs A.gs.length) (A.gs.length + 1)) := whN_wf (by decide) (by decide) (fun i hi => WalkArith.wf_i64 (by have := nm_id b2 i hi; omega))
  have HLL : Hid (allL A = prN (grF A) (whN 1 4 A.us A.us.length) (A.us.length + 1) ++ alwN (lftN (grF A) (whN 1 4 A.us A.us.length) (A.us.length + 1)) (whN 2 5 A.gs A.gs.length) (A.gs.length + 1) ++ dnyN (lftN (grF A) (whN 1 4 A.us A.us.length) (A.us.length + 1)) (whN 2 5 A.gs A.gs.length) (A.gs.length + 1) ++ [alwX (lftN (lftN (grF A) (whN 1 4 A.us A.us.length) (A.us.length + 1)) (whN 2 5 A.gs A.gs.length) (A.gs.length + 1)) (3, 0)]) := rfl
  clear hp hu hg hb0 hB0 b1 b2 hA
  generalize grF A = φ at HGR HLL
  generalize allL A = LL at HLL ⊢
  go_enter Tryd.func12, Tryd.ntmps12
  go_wp2_with fail
  refine (HR.out _ HB0.out).mono ?_
  rintro e w1 ⟨rfl, hb1⟩
  have HX1 : Hid (Box7 w1 w.heap.size (.int .i64 A.u) (.int .i64 A.g) (.int .i64 A.o) (.slice aU A.us.length cU) (.slice aG A.gs.length cG) (.bool A.r) (.int .i64 A.m)) := HX0.out.below hb1
  have HB1 : Hid (Below w.heap.size w w1) := Below.on HB0.out hb1
  have hX1 := HX1.out.lt
  clear hb1 HX0 HB0 HR hz0
  obtain ⟨xl, x0, x1, x2, x3, x4, x5, x6⟩ := HX1.out
  go_wp2_with fail
  refine (HGR.out _ HB1.out).mono ?_
  rintro e w2 ⟨b, n, rfl, hbb, hn, hGm, hb2⟩
  have HG2 : Hid (GM w2 b n φ) := hGm
  have HB2 : Hid (Below w1.heap.size w1 w2) := hb2
  have hbl := hGm.lt
  clear hGm hb2 HGR x0 x1 x2 x3 x4 x5 x6 xl
  obtain ⟨xl, x0, x1, x2, x3, x4, x5, x6⟩ := HX1.out.below HB2.out
  have hPU := (HP.out _ (HB1.out.trans (HB2.out.mono HB1.out.size))).2.1
  go_wp2_with fail
  refine (whoms_any 1 4 aU A.us.length cU A.us (by omega) _ hPU).mono ?_
  rintro e w3 ⟨a3, c3, rfl, hO3, hin3, hb3⟩
  have HO3 : Hid (Own a3 (A.us.length + 1) (whN 1 4 A.us A.us.length) w3) := hO3
  have HN3 : Hid (∀ Q, a3 = some Q → Q.block ≠ b) := (fun Q e => by have := (hin3 Q e).1; omega)
  have HG3 : Hid (GM w3 b n φ) := HG2.out.below hb3
  have HB3 : Hid (Below w1.heap.size w1 w3) := HB2.out.trans (hb3.mono HB2.out.size)
  have hbl3 : b < w3.heap.size := HG3.out.lt
  have HL3 : Hid (LG b w3 w3 (.slice none 0 0) (prN φ (whN 1 4 A.us A.us.length) 0)) := LG.nil ⟨rfl, rfl, rfl, Nat.le_refl _, fun _ _ _ => rfl⟩ hbl3
  clear hO3 hin3 hb3 HG2 HB2 hPU x0 x1 x2 x3 x4 x5 x6 xl hbl
  generalize hWL : (whN 1 4 A.us A.us.length) = WL at HO3 HL3 HWF1 HLL
  clear hWL
  go_wp2
  go_loopw [4, 17] (fun v i wr => ∃ k : Nat, k ≤ A.us.length + 1 ∧ i = .int .i64 k ∧ Hid (LG b w3 wr v (prN φ WL k)) ∧ Hid (GM wr b n (lftN φ WL k))) (fun _ i _ => A.us.length + 1 - (intOf i).toNat)
  case atStart => exact ⟨0, Nat.zero_le _, rfl, HL3, HG3⟩
  case round =>
  clear HL3 HG3
  obtain ⟨k, hk, rfl, hL, hG⟩ := hrel
  have hpl := prN_len φ WL k
  by_cases hlt : k < A.us.length + 1
  · have hlt' : (k : Int) < ((A.us.length + 1 : Nat) : Int) := by omega
    obtain ⟨wf1, wf2⟩ := HWF1.out k hlt
    obtain ⟨B, rfl, hBl, hpr⟩ := HO3.out.2 (by omega)
    have hBb := HN3.out _ rfl
    simp only at hBb
    have q := (hpr k hlt).1
    have kb : ∀ o, wr.cell? ⟨B, o, none⟩ = w3.cell? ⟨B, o, none⟩ := fun o => World.cell?_of_block (hL.out.own.block B hBl (by simp; omega))
    have c0 : wr.cell? ⟨B, k * 2, none⟩ = some (.int .i64 (idAt WL k)) := (kb _).trans q.1
    have c1 : wr.cell? ⟨B, k * 2 + 1, none⟩ = some (.int .i64 (btAt WL k)) := (kb _).trans q.2
    have hbA := bel_alloc wr (.cells #[.int .i64 (idAt WL k), .int .i64 (btAt WL k)] 65)
    have HGA : Hid (GM (wr.alloc (.cells #[.int .i64 (idAt WL k), .int .i64 (btAt WL k)] 65)) b n (lftN φ WL k)) := hG.out.below hbA
    have HLA : Hid (LG b w3 (wr.alloc (.cells #[.int .i64 (idAt WL k), .int .i64 (btAt WL k)] 65)) u4 (prN φ WL k)) := hL.out.below hbA
    have hbw : b < wr.heap.size := hG.out.lt
    have hown : ∀ j, u4.ownBlock = some j → j < wr.heap.size := fun j e => (rowG_lt hL.out.row e).2
    have HOW : Hid (∀ j, u4.ownBlock = some j → j < wr.heap.size) := hown
    have HWF : Hid ((Lit.int .i64 (idAt WL k)).wf = true ∧ (Lit.int .i64 (btAt WL k)).wf = true) := ⟨wf1, wf2⟩
    clear q hpr kb hbA hL hG hown wf1 wf2
    go_upto_region 8 with fail
    generalize hWA : wr.alloc (.cells #[.int .i64 (idAt WL k), .int .i64 (btAt WL k)] 65) = WA at HGA HLA ⊢
    have g0 : WA.cell? ⟨wr.heap.size, 0, none⟩ = some (.int .i64 (idAt WL k)) := by rw [← hWA]; simp [go_sem]
    have g1 : WA.cell? ⟨wr.heap.size, 1, none⟩ = some (.int .i64 (btAt WL k)) := by rw [← hWA]; simp [go_sem]
    have hWS : wr.heap.size < WA.heap.size := by rw [← hWA]; simp
    clear hWA c0 c1
    generalize wr.heap.size = C at g0 g1 hWS hbw HOW ⊢
    have G0 : Hid (WA.cell? ⟨C, 0, none⟩ = some (.int .i64 (idAt WL k))) := g0
    have G1 : Hid (WA.cell? ⟨C, 1, none⟩ = some (.int .i64 (btAt WL k))) := g1
    go_region_held3 (fun w' => w'.cell? ⟨C, 0, none⟩ = some (.int .i64 (idAt WL k)) ∧ w'.cell? ⟨C, 1, none⟩ = some (.int .i64 (btAt WL k))) (go_keep)
      (first
        | (refine step_app rfl (.tmp 21) (.tmp 28) 27 rfl u4 (.slice (some ⟨wd.heap.size, 0, none⟩) 2 2) v5 w5 (by simp [Act.eval]) (by simp [Act.eval]) HRR.out ?_)
        | (go_at_call 38; refine Calls.mono (denying_any b n (lftN φ WL k) (idAt WL k) (btAt WL k) HWF.out.1 HWF.out.2 _ hGa.out) ?_; rintro e wd ⟨rfl, hGd, hgd⟩; have hLd := hLa.out.call hgd; have hbd := bel_alloc wd (.cells #[.bool true, .int .i64 (idAt WL k), .int .i64 (btAt WL k), .int .i64 0, .int .i64 (lftN φ WL k (idAt WL k) (btAt WL k)), .bool false, .int .i64 (idAt WL k), .int .i64 (btAt WL k), .int .i64 0, .int .i64 (bits .andNot .i64 15 (lftN φ WL k (idAt WL k) (btAt WL k)))] 49); obtain ⟨v5, w5, hr5, hL5, hG5, hk5, hs5⟩ := LG.appS (hLd.below hbd) (hGd.below hbd) (some ⟨wd.heap.size, 0, none⟩) 2 2 [alwX (lftN φ WL k) (atW WL k), dnyX (lftN φ WL k) (atW WL k)] (acs_two wd _ _ _) (by omega); have HRR : Hid _ := hr5; have HL5 : Hid (LG b w3 w5 v5 (prN φ WL (k + 1))) := hL5; have HG5 : Hid (GM w5 b n (lftN φ WL (k + 1))) := hG5; have kC : wd.heap[C]? = wa.heap[C]? := hgd.block C (Nat.lt_of_lt_of_le hWS hba3.out.size) (by simp; omega); have zC : C < wd.heap.size := Nat.lt_of_lt_of_le (Nat.lt_of_lt_of_le hWS hba3.out.size) hgd.size; have d0 : wd.cell? ⟨C, 0, none⟩ = some (.int .i64 (idAt WL k)) := (World.cell?_of_block kC).trans ea0.out; have d1 : wd.cell? ⟨C, 1, none⟩ = some (.int .i64 (btAt WL k)) := (World.cell?_of_block kC).trans ea1.out; have kC5 : w5.heap[C]? = wd.heap[C]? := (hk5 C (Nat.lt_of_lt_of_le zC hbd.size) (fun e => by have := HOW.out C e; omega)).trans (hbd.block C zC); have f0 : w5.cell? ⟨C, 0, none⟩ = some (.int .i64 (idAt WL k)) := (World.cell?_of_block kC5).trans d0; have f1 : w5.cell? ⟨C, 1, none⟩ = some (.int .i64 (btAt WL k)) := (World.cell?_of_block kC5).trans d1; clear hr5 hL5 hG5 hk5 kC kC5 hGd hLd)
        | (go_at_call 37; refine Calls.mono (allowing_any b n (lftN φ WL k) (idAt WL k) (btAt WL k) HWF.out.1 HWF.out.2 _ ?hs) ?_; (case hs => (first | exact HGA.out | exact HGA.out.drew)); rintro e wa ⟨rfl, hba⟩; have hba3 : Hid (Below WA.heap.size WA wa) := (⟨hba.os, hba.tape, hba.output, hba.size, hba.block⟩ : Below WA.heap.size WA wa); have hGa : Hid (GM wa b n (lftN φ WL k)) := HGA.out.below hba3.out; have hLa : Hid (LG b w3 wa u4 (prN φ WL k)) := HLA.out.below hba3.out; have ea0 : Hid (wa.cell? ⟨C, 0, none⟩ = some (.int .i64 (idAt WL k))) := (hba3.out.cell (p := ⟨C, 0, none⟩) hWS).trans G0.out; have ea1 : Hid (wa.cell? ⟨C, 1, none⟩ = some (.int .i64 (btAt WL k))) := (hba3.out.cell (p := ⟨C, 1, none⟩) hWS).trans G1.out; have ya0 := ea0.out; have ya1 := ea1.out))
    go_wp2
    go_roundw
    case rel => exact ⟨k + 1, by omega, by go_num, HL5, HG5⟩
    case measure => simp [intOf]; omega
  · have hkk : k = A.us.length + 1 := by omega
    subst hkk
    have hB0r : Below w1.heap.size w1 wr := bel_map HB3.out hL.out.own hbb
    have hBwr : Below w.heap.size w wr := HB1.out.trans (hB0r.mono HB1.out.size)
    obtain ⟨xl, x0, x1, x2, x3, x4, x5, x6⟩ := HX1.out.below hB0r
    have hPG := (HP.out _ hBwr).2.2
    have hvb : Hid (∀ j, u4.ownBlock = some j → j < wr.heap.size) := (fun j e => (rowG_lt hL.out.row e).2)
    have hblr : b < wr.heap.size := hG.out.lt
    clear hB0r hBwr hlt hk
    go_wp2_with fail
    refine (whoms_any 2 5 aG A.gs.length cG A.gs (by omega) _ hPG).mono ?_
    rintro e w5 ⟨a5, c5, rfl, hO5, hin5, hb5⟩
    have HN5 : Hid (∀ Q, a5 = some Q → Q.block ≠ b ∧ wr.heap.size ≤ Q.block ∧ Q.block < w5.heap.size) := (fun Q e => ⟨by have := (hin5 Q e).1; omega, hin5 Q e⟩)
    have HO5 : Hid (Own a5 (A.gs.length + 1) (whN 2 5 A.gs A.gs.length) w5) := hO5
    have HL5 : Hid (LG b w3 w5 u4 (prN φ WL (A.us.length + 1))) := hL.out.below hb5
    have HG5 : Hid (GM w5 b n (lftN φ WL (A.us.length + 1))) := hG.out.below hb5
    clear hO5 hin5 hb5 hL hG hPG x0 x1 x2 x3 x4 x5 x6 xl
    generalize hW2 : (whN 2 5 A.gs A.gs.length) = W2 at HO5 HWF2 HLL
    generalize prN φ WL (A.us.length + 1) = P1 at HL5 HLL hpl
    generalize lftN φ WL (A.us.length + 1) = φ1 at HG5 HLL
    clear hW2
    have hla := alwN_len φ1 W2 (A.gs.length + 1)
    have hld := dnyN_len φ1 W2 (A.gs.length + 1)
    go_wp2_with fail
    refine (turnedA_any b n φ1 a5 (A.gs.length + 1) c5 W2 (by omega) HWF2.out w5 HO5.out (fun Q e => (HN5.out Q e).1) HG5.out).mono ?_
    rintro e w6 ⟨v6, rfl, hL6, hG6⟩
    obtain ⟨a6, c6, ev6, hA6, _⟩ := hL6.acs
    subst ev6
    have hLm6 := HL5.out.call hL6.own
    have HO6 : Hid (Own a5 (A.gs.length + 1) W2 w6) := own_grownV HO5.out hL6.own.size (fun Q e => hL6.own.block _ (HN5.out Q e).2.2 (by have := (HN5.out Q e).1; simp; omega))
    have HN6 : Hid (∀ Q, a5 = some Q → Q.block < w6.heap.size) := (fun Q e => Nat.lt_of_lt_of_le (HN5.out Q e).2.2 hL6.own.size)
    obtain ⟨v7, w7, hr7, hL7, hG7, hk7, hs7⟩ := LG.appS hLm6 hG6 a6 _ c6 (alwN φ1 W2 (A.gs.length + 1)) hA6 (by omega)
    have HO7 : Hid (Own a5 (A.gs.length + 1) W2 w7) := own_grownV HO6.out hs7 (fun Q e => hk7 _ (HN6.out Q e) (fun e2 => by have h1 := hvb.out _ e2; have h2 := (HN5.out Q e).2.1; omega))
    have HL7 : Hid (LG b w3 w7 v7 (P1 ++ alwN φ1 W2 (A.gs.length + 1))) := hL7
    have HG7 : Hid (GM w7 b n φ1) := hG7
    clear hL6 hG6 hA6 hLm6 hL7 hG7 hk7 hs7 HL5 HG5 HO5 HO6 HN6
    rw [hla] at hr7
    rw [hla]
    go_wp2_with (at_builtin; refine wpList_append_runA _ rfl (.tmp 34) (.tmp 38) 27 27 rfl _ _ _ _ rfl rfl hr7 ?_)
    refine (turnedD_any b n φ1 a5 (A.gs.length + 1) c5 W2 (by omega) HWF2.out w7 HO7.out (fun Q e => (HN5.out Q e).1) HG7.out).mono ?_
    rintro e w8 ⟨v8, rfl, hL8, hG8⟩
    obtain ⟨a8, c8, ev8, hA8, _⟩ := hL8.acs
    subst ev8
    have hLm8 := HL7.out.call hL8.own
    obtain ⟨v9, w9, hr9, hL9, hG9, hk9, hs9⟩ := LG.appS hLm8 hG8 a8 _ c8 (dnyN φ1 W2 (A.gs.length + 1)) hA8 (by simp only [List.length_append]; omega)
    have HL9 : Hid (LG b w3 w9 v9 (P1 ++ alwN φ1 W2 (A.gs.length + 1) ++ dnyN φ1 W2 (A.gs.length + 1))) := hL9
    have HG9 : Hid (GM w9 b n (lftN φ1 W2 (A.gs.length + 1))) := hG9
    clear hL8 hG8 hA8 hLm8 hL9 hG9 hk9 hs9 HL7 HG7 HO7 HN5 hr7
    rw [hld] at hr9
    rw [hld]
    go_wp2_with (at_builtin; refine wpList_append_runA _ rfl (.tmp 40) (.tmp 44) 27 27 rfl _ _ _ _ rfl rfl hr9 ?_)
    refine (allowing_any b n (lftN φ1 W2 (A.gs.length + 1)) 3 0 (by decide) (by decide) _ HG9.out).mono ?_
    rintro e w10 ⟨rfl, hb10⟩
    obtain ⟨v11, w11, hr11, hL11, hG11⟩ := LG.app (HL9.out.below hb10) (HG9.out.below hb10) (alwX (lftN φ1 W2 (A.gs.length + 1)) (3, 0)) (by simp only [List.length_append]; omega)
    rw [← HLL.out] at hL11
    have hLLn : LL.length ≤ 100 ∧ 0 < LL.length := by
      rw [HLL.out]
      simp only [List.length_append, List.length_cons, List.length_nil]
      omega
    have HL11 : Hid (LG b w3 w11 v11 LL) := hL11
    simp only [alwX] at hr11
    clear hb10 hL11 hG11 HL9 HG9 hr9 HLL hla hld hpl
    obtain ⟨a11, c11, ev, hown, hin⟩ := ownA_of_row HL11.out.row
    obtain ⟨_, _, ev2, _, hcap⟩ := HL11.out.acs
    rw [ev] at ev2
    cases ev2
    obtain ⟨B, rfl, hBl, hAH⟩ := hown.2 hLLn.2
    have hBN := (hin _ rfl).1
    simp only at hBN
    subst ev
    have HB11 : Hid (Below w1.heap.size w1 w11) := bel_map HB3.out HL11.out.own hbb
    have hdel := deleteFn_any B LL.length c11 w3.heap.size LL (by omega) hcap w11 hBl hBN hAH
    have HDEL : Hid _ := hdel
    clear hdel hown hin hAH HL11
    go_wp2_with (at_builtin; refine wpList_append_runA _ rfl (.tmp 46) (.tmp 50) 27 27 rfl _ _ _ _ rfl rfl hr11 ?_)
    refine Calls.mono HDEL.out ?_
    rintro e w12 ⟨rfl, hA12, hb12, hz12⟩
    have HA12 : Hid (AHold w12 B (acAt (kpA LL LL.length)) (kpA LL LL.length).length) := hA12
    have hz3 : w1.heap.size ≤ w3.heap.size := HB3.out.size
    have HBF : Hid (Below w.heap.size w w12) := (HB1.out.trans (HB11.out.mono HB1.out.size)).trans (hb12.mono (Nat.le_trans HB1.out.size hz3))
    have hBw : w.heap.size ≤ B := Nat.le_trans (Nat.le_trans HB1.out.size hz3) hBN
    clear hA12 hb12 hr11 HDEL HB11
    go_wp2
    go_ret
    exact ⟨some ⟨B, 0, none⟩, c11, rfl, ⟨⟨rfl, fun _ => ⟨B, rfl, hz12, HA12.out⟩⟩, fun Q e => by cases e; exact ⟨hBw, hz12⟩, HBF.out⟩⟩
end Go.Proofs.YthgcobglecomcaaDoor
