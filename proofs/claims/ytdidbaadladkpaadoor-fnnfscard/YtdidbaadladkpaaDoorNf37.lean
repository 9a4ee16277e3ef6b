/- Laid together: RegInv, NfsDrM. -/
import Derived.WalkKit
import Derived.Orders
import Derived.Test.YtdidbaadladkpaaDoorNf36
import Derived.Test.YtdidbaadladkpaaDoorNf5
/- A region that draws its order, by what holds ahead of each of its operations, whatever the order. Nothing here names a program. -/
namespace Go.Proofs.YtdidbaadladkpaaDoor
open Go.RowKit
set_option linter.unusedVariables false
/-- Q, but K at the ordinary end. -/
def QK (Q : Exit → Act → World → Prop) (K : Act → World → Prop) : Exit → Act → World → Prop
  | .normal, a, w => K a w
  | e, a, w => Q e a w
theorem wpOp_of_list {P : Program} {ops : Array Oper} {Q : Exit → Act → World → Prop} {K : Act → World → Prop} {i : Nat} {o : Oper} {a : Act} {w : World} (hi : ops[i]? = some o) (h : wpList P ops (QK Q K) [o] a w) : wpOp P ops Q i K a w := by
  unfold wpOp
  simp only [hi]
  unfold wpList at h
  split
  · rename_i hw
    rw [if_pos hw] at h
    rcases h with h | h
    · left
      unfold Oper.wp at h ⊢
      generalize (execOp a.eval o).run P w = r at h ⊢
      cases r with
      | ok n w' => cases n <;> exact h
      | halt x w' => cases x <;> exact h
    · exact .inr h
  · rename_i hw
    rw [if_neg hw] at h
    exact h
theorem ready_mem {md : Region.Mode} {ops : Array Oper} {l : Array Bool} {i : Nat} (hi : i ∈ Region.ready md ops l) : i < ops.size ∧ l.getD i true = false ∧ ((ops[i]?).map (·.after.all fun e => !Region.binds md e || l.getD e.on false)).getD false = true := by
  unfold Region.ready at hi
  obtain ⟨h1, h2⟩ := List.mem_filter.1 hi
  simp only [Bool.and_eq_true, Bool.not_eq_true'] at h2
  exact ⟨List.mem_range.1 h1, h2.1, h2.2⟩
/-- What an operation hangs on is listed. -/
theorem ready_dep {md : Region.Mode} {ops : Array Oper} {l : Array Bool} {i : Nat} {o : Oper} (hi : i ∈ Region.ready md ops l) (ho : ops[i]? = some o) (e : Edge) (he : e ∈ o.after) (hb : Region.binds md e = true) : l.getD e.on false = true := by
  have h := (ready_mem hi).2.2
  rw [ho] at h
  simp only [Option.map_some, Option.getD_some] at h
  have := Array.all_eq_true'.1 h e he
  rw [hb] at this
  simpa using this
/-- How many are not listed. -/
def unl (l : Array Bool) : Nat := l.toList.count false
theorem getD_false {l : Array Bool} {i : Nat} (h : l.getD i true = false) : ∃ hi : i < l.size, l[i] = false := by
  by_cases hi : i < l.size
  · refine ⟨hi, ?_⟩
    simpa [Array.getD, hi] using h
  · simp [Array.getD, hi] at h
theorem count_set : ∀ (l : List Bool) (i : Nat), l[i]? = some false → (l.set i true).count false + 1 = l.count false := by
  intro l
  induction l with
  | nil => intro i h; simp at h
  | cons x l ih =>
    intro i h
    cases i with
    | zero =>
      simp at h
      subst h
      simp
    | succ i =>
      have := ih i (by simpa using h)
      simp only [List.set_cons_succ, List.count_cons]
      omega
theorem unl_set {l : Array Bool} {i : Nat} (h : l.getD i true = false) : unl (l.setIfInBounds i true) + 1 = unl l := by
  obtain ⟨hi, he⟩ := getD_false h
  unfold unl
  rw [Array.toList_setIfInBounds]
  apply count_set
  rw [Array.getElem?_toList, Array.getElem?_eq_getElem hi, he]
theorem unl_zero {l : Array Bool} (h : unl l = 0) (i : Nat) : l.getD i true = true := by
  cases e : l.getD i true
  · have := unl_set e
    omega
  · rfl
theorem wpAny_inv {P : Program} {md : Region.Mode} {ops : Array Oper} {Q : Exit → Act → World → Prop} (Inv : Array Bool → Act → World → Prop)
    (hs : ∀ l a w, Inv l a w → ∀ i, i ∈ Region.ready md ops l → wpOp P ops Q i (fun a' w' => Inv (l.setIfInBounds i true) a' w') a w)
    (he : ∀ l a w, Inv l a w → Region.ready md ops l = [] → Q .normal a w) :
    ∀ (fuel : Nat) (l : Array Bool) (a : Act) (w : World), unl l ≤ fuel → Inv l a w → wpAny P md ops Q fuel l a w := by
  intro fuel
  induction fuel with
  | zero =>
    intro l a w hu hI
    have hn : Region.ready md ops l = [] := by
      apply List.eq_nil_iff_forall_not_mem.2
      intro i hi
      have h1 := (ready_mem hi).2.1
      rw [unl_zero (by omega) i] at h1
      cases h1
    exact ⟨hn, he l a w hI hn⟩
  | succ fuel ih =>
    intro l a w hu hI
    refine ⟨fun hn => he l a w hI hn, fun i hi => ?_⟩
    have hd := unl_set (ready_mem hi).2.1
    exact wpOp_mono (fun a' w' h => ih _ a' w' (by omega) h) (hs l a w hI i hi)
/-- The rule. -/
theorem wp_region_inv {P : Program} {ops : Array Oper} {Q : Exit → Act → World → Prop} {id : Nat} {a : Act} {w : World} (hm : P.follows .mixedOrders = true) (Inv : Array Bool → Act → World → Prop)
    (h0 : Inv (Array.replicate ops.size false) a { w with drawn := w.drawn + 1 })
    (hs : ∀ l a w, Inv l a w → ∀ i, i ∈ Region.ready .any ops l → wpOp P ops Q i (fun a' w' => Inv (l.setIfInBounds i true) a' w') a w)
    (he : ∀ l a w, Inv l a w → Region.ready .any ops l = [] → Q .normal a w) : (Code.region id ops true).wp P Q a w :=
  wp_region_any hm (wpAny_inv Inv hs he _ _ _ _ (by unfold unl; simp) h0)
theorem getD_keep {l : Array Bool} {i j : Nat} (hne : j ≠ i) (h : (l.setIfInBounds i true).getD j false = true) : l.getD j false = true := by
  by_cases hj : j < l.size
  · simpa [Array.getD, hj, Array.getElem_setIfInBounds, Ne.symm hne] using h
  · simp [Array.getD, hj] at h
end Go.Proofs.YtdidbaadladkpaaDoor
/- The draw of DrawNfsMay. -/
namespace Go.Proofs.YtdidbaadladkpaaDoor
open Go.RowKit Go.PlainAid Go.Deep
set_option linter.unusedVariables false
theorem pickI4 (w : World) (x0 x1 x2 x3 : Int) (t : TypeId) (r : Int) (h0 : 0 ≤ r) (h1 : r < 4) : ∃ z, (w.alloc (.cells #[.int .i64 x0, .int .i64 x1, .int .i64 x2, .int .i64 x3] t)).cell? ⟨w.heap.size, r.toNat, none⟩ = some (.int .i64 z) := by
  have hb : (w.alloc (.cells #[.int .i64 x0, .int .i64 x1, .int .i64 x2, .int .i64 x3] t)).heap[w.heap.size]? = some (.cells #[.int .i64 x0, .int .i64 x1, .int .i64 x2, .int .i64 x3] t) := by
    rw [World.alloc]
    exact Array.getElem?_push_size
  rcases (by omega : r = 0 ∨ r = 1 ∨ r = 2 ∨ r = 3) with rfl | rfl | rfl | rfl
  · exact ⟨x0, by simp only [World.cell?, hb]; rfl⟩
  · exact ⟨x1, by simp only [World.cell?, hb]; rfl⟩
  · exact ⟨x2, by simp only [World.cell?, hb]; rfl⟩
  · exact ⟨x3, by simp only [World.cell?, hb]; rfl⟩
theorem pickL4 (x0 x1 x2 x3 : Int) (t : TypeId) (r : Int) (h0 : 0 ≤ r) (h1 : r < 4) : ∃ z, (∀ w : World, (w.alloc (.cells #[.int .i64 x0, .int .i64 x1, .int .i64 x2, .int .i64 x3] t)).cell? ⟨w.heap.size, r.toNat, none⟩ = some (.int .i64 z)) ∧ ∀ h : r.toNat < [Value.int .i64 x0, Value.int .i64 x1, Value.int .i64 x2, Value.int .i64 x3].length, [Value.int .i64 x0, Value.int .i64 x1, Value.int .i64 x2, Value.int .i64 x3][r.toNat] = .int .i64 z := by
  have hb : ∀ w : World, (w.alloc (.cells #[.int .i64 x0, .int .i64 x1, .int .i64 x2, .int .i64 x3] t)).heap[w.heap.size]? = some (.cells #[.int .i64 x0, .int .i64 x1, .int .i64 x2, .int .i64 x3] t) := by
    intro w
    rw [World.alloc]
    exact Array.getElem?_push_size
  rcases (by omega : r = 0 ∨ r = 1 ∨ r = 2 ∨ r = 3) with rfl | rfl | rfl | rfl
  · exact ⟨x0, fun w => by simp only [World.cell?, hb]; rfl, fun _ => rfl⟩
  · exact ⟨x1, fun w => by simp only [World.cell?, hb]; rfl, fun _ => rfl⟩
  · exact ⟨x2, fun w => by simp only [World.cell?, hb]; rfl, fun _ => rfl⟩
  · exact ⟨x3, fun w => by simp only [World.cell?, hb]; rfl, fun _ => rfl⟩
set_option maxRecDepth 100000 in
set_option maxHeartbeats 8000000 in
theorem dDrawNfsMay_any (a : Option Addr) (len cap : Nat) (g : Nat → Int) (w : World) (hc : Code a len g w.heap.size w) :
    Calls Tryd.prog 7 #[.slice a len cap] w fun e w' => ∃ (la : Option Addr) (lc : Nat) (l : List Ac) (ow gr u v : Int) (cl : List Int) (ga : Option Addr) (gc : Nat) (r : Bool) (z : Int), e = .returned (.tuple #[.slice la l.length lc, .int .i64 ow, .int .i64 gr, .agg #[.int .i64 u, .int .i64 v, .slice ga cl.length gc, .bool r], .int .i64 z]) ∧ Acs la l.length l w' ∧ l.length ≤ 50 ∧ Ints ga cl.length (atD cl) w' ∧ Below w.heap.size w w' := by
  have hbA := bel_alloc w (.cells #[.int .i64 0, .int .i64 0, .slice none 0 0, .bool false] 26)
  have eA : (w.alloc (.cells #[.int .i64 0, .int .i64 0, .slice none 0 0, .bool false] 26)).heap.size = w.heap.size + 1 := by simp
  have hT := fr4_new w (.int .i64 0) (.int .i64 0) (.slice none 0 0) (.bool false) 26
  have HC : Hid _ := hc.up hbA
  clear hc
  go_enter Tryd.func7, Tryd.ntmps7
  go_wp2_with fail
  refine (source_any a len cap g _ HC.out).mono ?_
  rintro e w1 ⟨rfl, hs1, hb1⟩
  have hT1 := hT.below hb1
  have hB1 : Below w.heap.size w w1 := Below.on hbA hb1
  rw [eA] at hs1
  have hp1 := hs1.pos
  clear hb1 hT HC hbA eA
  go_wp2_with fail
  refine (drList_any a len cap g _ _ hs1).mono ?_
  rintro e w2 ⟨la, lc, l, rfl, hD2, hl⟩
  have hT2 := hT1.keep hD2.own.size (hD2.own.block w.heap.size hT1.lt (by simp))
  clear hT1
  go_wp2_with fail
  refine (drId_any a len cap g _ _ hD2.src).mono ?_
  rintro e w3 ⟨ow, rfl, _, _, hs3, ho3⟩
  have hD3 := hD2.call hs3 ho3
  have hT3 := hT2.keep ho3.size (ho3.block w.heap.size hT2.lt (by simp))
  clear hT2 hD2 hs3 ho3
  go_wp2_with fail
  refine (drId_any a len cap g _ _ hD3.src).mono ?_
  rintro e w4 ⟨gr, rfl, _, _, hs4, ho4⟩
  have hD4 := hD3.call hs4 ho4
  have hT4 := hT3.keep ho4.size (ho4.block w.heap.size hT3.lt (by simp))
  clear hT3 hD3 hs4 ho4
  go_wp2_with fail
  refine (drCred_any a len cap g _ _ hD4.src).mono ?_
  rintro e w5 ⟨u, v, cl, x, r, rfl, hcl, hor, hs5, ho5⟩
  obtain ⟨ga, gc, hx⟩ := row_shapeD hor
  subst hx
  have hb6 := bel_alloc w5 (.cells #[.int .i64 u, .int .i64 v, .slice ga cl.length gc, .bool r] 26)
  have HD6 : Hid (LD a len cap g (w.heap.size + 1) w1 (w5.alloc (.cells #[.int .i64 u, .int .i64 v, .slice ga cl.length gc, .bool r] 26)) la lc l) := (hD4.call hs5 ho5).below hb6
  have HT6 : Hid (Fr4 (w5.alloc (.cells #[.int .i64 u, .int .i64 v, .slice ga cl.length gc, .bool r] 26)) w.heap.size (.int .i64 0) (.int .i64 0) (.slice none 0 0) (.bool false)) := (hT4.keep ho5.size (ho5.block w.heap.size hT4.lt (by simp))).below hb6
  have hz4 := hD4.own.size
  have HC6 : Hid (Fr4 (w5.alloc (.cells #[.int .i64 u, .int .i64 v, .slice ga cl.length gc, .bool r] 26)) w5.heap.size (.int .i64 u) (.int .i64 v) (.slice ga cl.length gc) (.bool r)) := fr4_new _ _ _ _ _ _
  have HO6 : Hid ((w5.alloc (.cells #[.int .i64 u, .int .i64 v, .slice ga cl.length gc, .bool r] 26)).ownsRow w1.heap.size 2 1 (.slice ga cl.length gc) cl.length (ivD cl)) := row_fromD (row_keepD hor (fun k _ hk => hb6.block k hk)) hz4
  have HB1 : Hid (Below w.heap.size w w1) := hB1
  have hCp : w.heap.size + 1 < w5.heap.size := hs5.pos
  clear hb6 hD4 hT4 hor hs5 ho5 hs1 hB1 hz4
  go_upto_region 6 with fail
  generalize w5.alloc (.cells #[.int .i64 u, .int .i64 v, .slice ga cl.length gc, .bool r] 26) = w6 at HD6 HT6 HC6 HO6 ⊢
  generalize w5.heap.size = C at HC6 hCp ⊢
  go_wp2_with fail
  refine (one_any a len cap g _ _ (by decide) _ HD6.out.src).mono ?_
  rintro e w7 ⟨q, rfl, hs7, ho7⟩
  have HD7 : Hid (LD a len cap g (w.heap.size + 1) w1 w7 la lc l) := HD6.out.call hs7 ho7
  have HT7 : Hid (Fr4 w7 w.heap.size (.int .i64 0) (.int .i64 0) (.slice none 0 0) (.bool false)) := HT6.out.keep ho7.size (ho7.block w.heap.size HT6.out.lt (by simp))
  have HC7 : Hid (Fr4 w7 C (.int .i64 u) (.int .i64 v) (.slice ga cl.length gc) (.bool r)) := HC6.out.keep ho7.size (ho7.block C HC6.out.lt (by simp; omega))
  have HO7 : Hid (w7.ownsRow w1.heap.size 2 1 (.slice ga cl.length gc) cl.length (ivD cl)) := row_keepD HO6.out (fun k hk hlt => ho7.block k hlt (by simp; omega))
  clear hs7 ho7 HD6 HT6 HC6 HO6
  obtain ⟨cll, c0, c1, c2, c3, _⟩ := HC7.out
  have HDW : Hid (LD a len cap g (w.heap.size + 1) w1 w7.drew la lc l) := HD7.out.below ⟨rfl, rfl, rfl, Nat.le_refl _, fun _ _ => rfl⟩
  cases q
  · go_wp2_with fail
    go_region_with
      (first
        | (go_at_call 48; refine Calls.mono (l04Bits_any x x1 (by omega) _) ?_; rintro e w9 ⟨rfl, hw9⟩; have hw9' := hw9.symm; subst hw9')
        | (go_at_call 47; refine Calls.mono (n_any a len cap g _ _ (by decide) _ ?hs) ?_; (case hs => (first | exact HD7.out.src | exact HDW.out.src)); rintro e w8 ⟨x, rfl, x1, x2, hs8, ho8⟩; have ho9 : Ownp (w.heap.size + 1) w7 w8 := ⟨ho8.os, ho8.tape, ho8.output, ho8.size, ho8.block⟩; have HD8 : Hid (LD a len cap g (w.heap.size + 1) w1 w8 la lc l) := HD7.out.call hs8 ho9; have HT8 : Hid (Fr4 w8 w.heap.size (.int .i64 0) (.int .i64 0) (.slice none 0 0) (.bool false)) := HT7.out.keep ho9.size (ho9.block w.heap.size HT7.out.lt (by simp)); have HC8 : Hid (Fr4 w8 C (.int .i64 u) (.int .i64 v) (.slice ga cl.length gc) (.bool r)) := HC7.out.keep ho9.size (ho9.block C HC7.out.lt (by simp; omega)); have HO8 : Hid (w8.ownsRow w1.heap.size 2 1 (.slice ga cl.length gc) cl.length (ivD cl)) := row_keepD HO7.out (fun k hk hlt => ho9.block k hlt (by simp; omega)); obtain ⟨_, ca0, ca1, ca2, ca3, _⟩ := HC8.out; obtain ⟨_, ra0, ra1, ra2, ra3, rf⟩ := HT8.out))
    all_goals
      have HF : Hid (Fr4 ((((w8.setCell ⟨w.heap.size, 0, none⟩ (.int .i64 u)).setCell ⟨w.heap.size, 1, none⟩ (.int .i64 v)).setCell ⟨w.heap.size, 2, none⟩ (.slice ga cl.length gc)).setCell ⟨w.heap.size, 3, none⟩ (.bool r)) w.heap.size (.int .i64 u) (.int .i64 v) (.slice ga cl.length gc) (.bool r)) := HT8.out.sets _ _ _ _
      have HRF : Hid (Acs la l.length l ((((w8.setCell ⟨w.heap.size, 0, none⟩ (.int .i64 u)).setCell ⟨w.heap.size, 1, none⟩ (.int .i64 v)).setCell ⟨w.heap.size, 2, none⟩ (.slice ga cl.length gc)).setCell ⟨w.heap.size, 3, none⟩ (.bool r))) := (by
        refine rowL_acs (B := w1.heap.size) (lc := lc) ?_
        iterate 4 (refine rowL_keep ?_ (fun k hk => set_blockD _ _ _ k _ (by omega)))
        exact HD8.out.row)
      have HOF : Hid (Ints ga cl.length (atD cl) ((((w8.setCell ⟨w.heap.size, 0, none⟩ (.int .i64 u)).setCell ⟨w.heap.size, 1, none⟩ (.int .i64 v)).setCell ⟨w.heap.size, 2, none⟩ (.slice ga cl.length gc)).setCell ⟨w.heap.size, 3, none⟩ (.bool r))) := (by
        refine own_intsD (B := w1.heap.size) (t := 2) (c := gc) ?_
        iterate 4 (refine row_keepD ?_ (fun k hk _ => set_blockD _ _ _ k _ (by omega)))
        exact HO8.out)
      have HBF : Hid (Below w.heap.size w ((((w8.setCell ⟨w.heap.size, 0, none⟩ (.int .i64 u)).setCell ⟨w.heap.size, 1, none⟩ (.int .i64 v)).setCell ⟨w.heap.size, 2, none⟩ (.slice ga cl.length gc)).setCell ⟨w.heap.size, 3, none⟩ (.bool r))) := (by
        iterate 4 (refine setD ?_ (Nat.le_refl _))
        exact HD8.out.own.below HB1.out (by omega) HB1.out.size)
      clear HT8 HD8 HO8 HD7 HT7 HC7 HO7
      go_wp2
      refine bodyPost_ret (v := .tuple #[.slice la l.length lc, .int .i64 ow, .int .i64 gr, .agg #[.int .i64 u, .int .i64 v, .slice ga cl.length gc, .bool r], .int .i64 (nb x)]) (by
        obtain ⟨yl, y0, y1, y2, y3, yf⟩ := HF.out
        clear c0 c1 c2 c3 ca0 ca1 ca2 ca3 ra0 ra1 ra2 ra3 rf
        generalize World.setCell _ _ _ = wf at y0 y1 y2 y3 ⊢
        simp [results, Tryd.results7, go_sem, y0, y1, y2, y3]) rfl ⟨la, lc, l, ow, gr, u, v, cl, ga, gc, r, (nb x), rfl, HRF.out, hl, HOF.out, HBF.out⟩
  · have HSA : Hid (Src a len cap g (w.heap.size + 1) (w7.drew.alloc (.cells #[.int .i64 (-1), .int .i64 0, .int .i64 255, .int .i64 256] 2))) := src_alloc HDW.out.src _
    have HOA : Hid (Ownp (w.heap.size + 1) w7 (w7.drew.alloc (.cells #[.int .i64 (-1), .int .i64 0, .int .i64 255, .int .i64 256] 2))) := (by
      have h := (Ownp.refl (w.heap.size + 1) w7).alloc (.cells #[.int .i64 (-1), .int .i64 0, .int .i64 255, .int .i64 256] 2)
      exact ⟨h.os, h.tape, h.output, h.size, h.block⟩)
    go_wp2_with fail
    go_region_with
      (first
        | (go_at_call 47; refine Calls.mono (n_any a len cap g _ _ (by decide) _ HSA.out) ?_; rintro e w8 ⟨x, rfl, x1, x2, hs8, ho8⟩; have tagA : True := trivial; have x3 : x < 4 := (by omega); obtain ⟨z, hz⟩ := pickI4 w7.drew (-1) 0 255 256 2 x x1 x3; have hcx : w8.cell? ⟨w7.heap.size, x.toNat, none⟩ = some (.int .i64 z) := (ho8.cell (by simp) (by omega)).trans hz; have ho9 : Ownp (w.heap.size + 1) w7 w8 := HOA.out.trans ho8; have HD8 : Hid (LD a len cap g (w.heap.size + 1) w1 w8 la lc l) := HD7.out.call hs8 ho9; have HT8 : Hid (Fr4 w8 w.heap.size (.int .i64 0) (.int .i64 0) (.slice none 0 0) (.bool false)) := HT7.out.keep ho9.size (ho9.block w.heap.size HT7.out.lt (by simp)); have HC8 : Hid (Fr4 w8 C (.int .i64 u) (.int .i64 v) (.slice ga cl.length gc) (.bool r)) := HC7.out.keep ho9.size (ho9.block C HC7.out.lt (by simp; omega)); have HO8 : Hid (w8.ownsRow w1.heap.size 2 1 (.slice ga cl.length gc) cl.length (ivD cl)) := row_keepD HO7.out (fun k hk hlt => ho9.block k hlt (by simp; omega)); obtain ⟨_, ca0, ca1, ca2, ca3, _⟩ := HC8.out; obtain ⟨_, ra0, ra1, ra2, ra3, rf⟩ := HT8.out)
        | (go_at_call 47; refine Calls.mono (n_any a len cap g _ _ (by decide) _ HDW.out.src) ?_; rintro e w8 ⟨x, rfl, x1, x2, hs8, ho8⟩; have x3 : x < 4 := (by omega); obtain ⟨z, hzw, hzz⟩ := pickL4 (-1) 0 255 256 2 x x1 x3; have hz := hzw w8; have tagB : True := trivial; have ho9 : Ownp (w.heap.size + 1) w7 w8 := ⟨ho8.os, ho8.tape, ho8.output, ho8.size, ho8.block⟩; have HD8 : Hid (LD a len cap g (w.heap.size + 1) w1 w8 la lc l) := HD7.out.call hs8 ho9; have HT8 : Hid (Fr4 w8 w.heap.size (.int .i64 0) (.int .i64 0) (.slice none 0 0) (.bool false)) := HT7.out.keep ho9.size (ho9.block w.heap.size HT7.out.lt (by simp)); have HC8 : Hid (Fr4 w8 C (.int .i64 u) (.int .i64 v) (.slice ga cl.length gc) (.bool r)) := HC7.out.keep ho9.size (ho9.block C HC7.out.lt (by simp; omega)); have HO8 : Hid (w8.ownsRow w1.heap.size 2 1 (.slice ga cl.length gc) cl.length (ivD cl)) := row_keepD HO7.out (fun k hk hlt => ho9.block k hlt (by simp; omega)); obtain ⟨_, ca0, ca1, ca2, ca3, _⟩ := HC8.out; obtain ⟨_, ra0, ra1, ra2, ra3, rf⟩ := HT8.out))
    all_goals first
      | (have _h := tagA
         have HF : Hid (Fr4 ((((w8.setCell ⟨w.heap.size, 0, none⟩ (.int .i64 u)).setCell ⟨w.heap.size, 1, none⟩ (.int .i64 v)).setCell ⟨w.heap.size, 2, none⟩ (.slice ga cl.length gc)).setCell ⟨w.heap.size, 3, none⟩ (.bool r)) w.heap.size (.int .i64 u) (.int .i64 v) (.slice ga cl.length gc) (.bool r)) := HT8.out.sets _ _ _ _
         have HRF : Hid (Acs la l.length l ((((w8.setCell ⟨w.heap.size, 0, none⟩ (.int .i64 u)).setCell ⟨w.heap.size, 1, none⟩ (.int .i64 v)).setCell ⟨w.heap.size, 2, none⟩ (.slice ga cl.length gc)).setCell ⟨w.heap.size, 3, none⟩ (.bool r))) := (by
           refine rowL_acs (B := w1.heap.size) (lc := lc) ?_
           iterate 4 (refine rowL_keep ?_ (fun k hk => set_blockD _ _ _ k _ (by omega)))
           exact HD8.out.row)
         have HOF : Hid (Ints ga cl.length (atD cl) ((((w8.setCell ⟨w.heap.size, 0, none⟩ (.int .i64 u)).setCell ⟨w.heap.size, 1, none⟩ (.int .i64 v)).setCell ⟨w.heap.size, 2, none⟩ (.slice ga cl.length gc)).setCell ⟨w.heap.size, 3, none⟩ (.bool r))) := (by
           refine own_intsD (B := w1.heap.size) (t := 2) (c := gc) ?_
           iterate 4 (refine row_keepD ?_ (fun k hk _ => set_blockD _ _ _ k _ (by omega)))
           exact HO8.out)
         have HBF : Hid (Below w.heap.size w ((((w8.setCell ⟨w.heap.size, 0, none⟩ (.int .i64 u)).setCell ⟨w.heap.size, 1, none⟩ (.int .i64 v)).setCell ⟨w.heap.size, 2, none⟩ (.slice ga cl.length gc)).setCell ⟨w.heap.size, 3, none⟩ (.bool r))) := (by
           iterate 4 (refine setD ?_ (Nat.le_refl _))
           exact HD8.out.own.below HB1.out (by omega) HB1.out.size)
         clear HT8 HD8 HO8 HD7 HT7 HC7 HO7
         go_wp2
         refine bodyPost_ret (v := .tuple #[.slice la l.length lc, .int .i64 ow, .int .i64 gr, .agg #[.int .i64 u, .int .i64 v, .slice ga cl.length gc, .bool r], .int .i64 z]) (by
           obtain ⟨yl, y0, y1, y2, y3, yf⟩ := HF.out
           clear c0 c1 c2 c3 ca0 ca1 ca2 ca3 ra0 ra1 ra2 ra3 rf
           generalize World.setCell _ _ _ = wf at y0 y1 y2 y3 ⊢
           simp [results, Tryd.results7, go_sem, y0, y1, y2, y3]) rfl ⟨la, lc, l, ow, gr, u, v, cl, ga, gc, r, z, rfl, HRF.out, hl, HOF.out, HBF.out⟩)
      | (have _h := tagB
         have HF : Hid (Fr4 ((((w8.setCell ⟨w.heap.size, 0, none⟩ (.int .i64 u)).setCell ⟨w.heap.size, 1, none⟩ (.int .i64 v)).setCell ⟨w.heap.size, 2, none⟩ (.slice ga cl.length gc)).setCell ⟨w.heap.size, 3, none⟩ (.bool r)) w.heap.size (.int .i64 u) (.int .i64 v) (.slice ga cl.length gc) (.bool r)) := HT8.out.sets _ _ _ _
         have HRF : Hid (Acs la l.length l ((((w8.setCell ⟨w.heap.size, 0, none⟩ (.int .i64 u)).setCell ⟨w.heap.size, 1, none⟩ (.int .i64 v)).setCell ⟨w.heap.size, 2, none⟩ (.slice ga cl.length gc)).setCell ⟨w.heap.size, 3, none⟩ (.bool r))) := (by
           refine rowL_acs (B := w1.heap.size) (lc := lc) ?_
           iterate 4 (refine rowL_keep ?_ (fun k hk => set_blockD _ _ _ k _ (by omega)))
           exact HD8.out.row)
         have HOF : Hid (Ints ga cl.length (atD cl) ((((w8.setCell ⟨w.heap.size, 0, none⟩ (.int .i64 u)).setCell ⟨w.heap.size, 1, none⟩ (.int .i64 v)).setCell ⟨w.heap.size, 2, none⟩ (.slice ga cl.length gc)).setCell ⟨w.heap.size, 3, none⟩ (.bool r))) := (by
           refine own_intsD (B := w1.heap.size) (t := 2) (c := gc) ?_
           iterate 4 (refine row_keepD ?_ (fun k hk _ => set_blockD _ _ _ k _ (by omega)))
           exact HO8.out)
         have HBF : Hid (Below w.heap.size w ((((w8.setCell ⟨w.heap.size, 0, none⟩ (.int .i64 u)).setCell ⟨w.heap.size, 1, none⟩ (.int .i64 v)).setCell ⟨w.heap.size, 2, none⟩ (.slice ga cl.length gc)).setCell ⟨w.heap.size, 3, none⟩ (.bool r))) := (by
           iterate 4 (refine setD ?_ (Nat.le_refl _))
           exact HD8.out.own.below HB1.out (by omega) HB1.out.size)
         have hbW := bel_alloc ((((w8.setCell ⟨w.heap.size, 0, none⟩ (.int .i64 u)).setCell ⟨w.heap.size, 1, none⟩ (.int .i64 v)).setCell ⟨w.heap.size, 2, none⟩ (.slice ga cl.length gc)).setCell ⟨w.heap.size, 3, none⟩ (.bool r)) (.cells #[.int .i64 (-1), .int .i64 0, .int .i64 255, .int .i64 256] 2)
         have KF : Hid (Fr4 (((((w8.setCell ⟨w.heap.size, 0, none⟩ (.int .i64 u)).setCell ⟨w.heap.size, 1, none⟩ (.int .i64 v)).setCell ⟨w.heap.size, 2, none⟩ (.slice ga cl.length gc)).setCell ⟨w.heap.size, 3, none⟩ (.bool r)).alloc (.cells #[.int .i64 (-1), .int .i64 0, .int .i64 255, .int .i64 256] 2)) w.heap.size (.int .i64 u) (.int .i64 v) (.slice ga cl.length gc) (.bool r)) := HF.out.below hbW
         have KR : Hid (Acs la l.length l (((((w8.setCell ⟨w.heap.size, 0, none⟩ (.int .i64 u)).setCell ⟨w.heap.size, 1, none⟩ (.int .i64 v)).setCell ⟨w.heap.size, 2, none⟩ (.slice ga cl.length gc)).setCell ⟨w.heap.size, 3, none⟩ (.bool r)).alloc (.cells #[.int .i64 (-1), .int .i64 0, .int .i64 255, .int .i64 256] 2))) := HRF.out.below hbW
         have KO : Hid (Ints ga cl.length (atD cl) (((((w8.setCell ⟨w.heap.size, 0, none⟩ (.int .i64 u)).setCell ⟨w.heap.size, 1, none⟩ (.int .i64 v)).setCell ⟨w.heap.size, 2, none⟩ (.slice ga cl.length gc)).setCell ⟨w.heap.size, 3, none⟩ (.bool r)).alloc (.cells #[.int .i64 (-1), .int .i64 0, .int .i64 255, .int .i64 256] 2))) := HOF.out.below hbW
         have KB : Hid (Below w.heap.size w (((((w8.setCell ⟨w.heap.size, 0, none⟩ (.int .i64 u)).setCell ⟨w.heap.size, 1, none⟩ (.int .i64 v)).setCell ⟨w.heap.size, 2, none⟩ (.slice ga cl.length gc)).setCell ⟨w.heap.size, 3, none⟩ (.bool r)).alloc (.cells #[.int .i64 (-1), .int .i64 0, .int .i64 255, .int .i64 256] 2))) := Below.on HBF.out hbW
         clear hbW HF HRF HOF HBF hz hzw
         (try simp only [hzz])
         clear hzz
         clear HT8 HD8 HO8 HD7 HT7 HC7 HO7
         go_wp2
         refine bodyPost_ret (v := .tuple #[.slice la l.length lc, .int .i64 ow, .int .i64 gr, .agg #[.int .i64 u, .int .i64 v, .slice ga cl.length gc, .bool r], .int .i64 z]) (by
           obtain ⟨yl, y0, y1, y2, y3, yf⟩ := KF.out
           clear c0 c1 c2 c3 ca0 ca1 ca2 ca3 ra0 ra1 ra2 ra3 rf
           generalize World.alloc _ _ = wf at y0 y1 y2 y3 ⊢
           simp [results, Tryd.results7, go_sem, y0, y1, y2, y3]) rfl ⟨la, lc, l, ow, gr, u, v, cl, ga, gc, r, z, rfl, KR.out, hl, KO.out, KB.out⟩)
end Go.Proofs.YtdidbaadladkpaaDoor
