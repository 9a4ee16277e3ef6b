/- namedAces of the program. -/
import Derived.Test.YtddkmlkfphmdoaaDoorChmodN
namespace Go.Proofs.YtddkmlkfphmdoaaDoor
open Go.RowKit Go.PlainAid Go.Shelf
set_option linter.unusedVariables false
attribute [local go_sem] Oper.semAt_some
theorem wpListIn_append_runA {F : Fence} {n : Nat} {P : Program} (w : World) {ops : Array Oper} {rest : List Oper} {o : Oper} {a : Act} {Q : Exit → Act → World → Prop} (hgd : o.guard = none) (s x : Operand) (t tx : TypeId)
    (ho : o.op = .call { callee := .builtin .append, args := #[s, x], argTypes := #[t, tx] }) (v xv v' : Value) (w' : World) (hs : a.eval s = v) (hx : a.eval x = xv)
    (hr : (Builtin.append_ #[t, tx] o.type #[v, xv]).run P w = .ok v' w') (h : wpListIn F n P ops Q rest (a.put o.dst v') w') : wpListIn F n P ops Q (o :: rest) a w := by
  refine wpListIn_plain hgd fun K hK' => ?_
  unfold Oper.wpIn
  refine ⟨?_, ?_⟩
  · simp [Oper.about, ho, resolve, Target.leads, Sem.run_pure]
  · rw [Oper.semAt_plain F _ _ (by rw [ho]; intro c hc'; cases hc')]
    simp [execOp, ho, resolve, invoke, builtin, hs, hx, hr, Result.andThen]
    exact hK' _ _ h
set_option maxRecDepth 100000 in
set_option maxHeartbeats 4000000 in
/-- impl.namedAces. -/
theorem named_any (a : Option Addr) (len cap : Nat) (l : List Ac) (g : Int) (hl : len ≤ 1000) (hfl : ∀ i, i < len → 0 ≤ (acAt l i).fl ∧ (acAt l i).fl ≤ 15) (w : World) (hA : Acs a len l w) (hp : PlW w) :
    Calls Tryd.prog 37 #[.slice a len cap, .int .i64 g] w (AnsL ((fltP nmdB l len).map (ctA g)) w) := by
  refine (callsIn_wide (n := 6)).1 ?_
  refine callsIn_of_wp_marks Tryd.func37 rfl trivial ?_ rfl
  simp only [Tryd.ntmps37, List.size_toArray, List.length_cons, List.length_nil, Nat.reduceAdd, Nat.reduceSub, Array.replicate_succ, Array.replicate_zero, List.push_toArray, List.append_toArray, List.nil_append, List.cons_append]
  gi_wp2_with (refine ⟨trivial, ?_⟩; gi_at_call 44; refine (callsIn_wide.2 (holding_any _ _ _ _ _ _)).mono ?_; rintro e w2 ⟨rfl, rfl⟩)
  have z1 : (w.alloc (.cells #[.int .i64 g] 2)).heap.size = w.heap.size + 1 := by simp
  have z2 : ((w.alloc (.cells #[.int .i64 g] 2)).alloc (.cells #[.slice none 0 0] 24)).heap.size = w.heap.size + 1 + 1 := by simp
  have z3 : (((w.alloc (.cells #[.int .i64 g] 2)).alloc (.cells #[.slice none 0 0] 24)).alloc (.cells #[.slice a len cap] 24)).heap.size = w.heap.size + 1 + 1 + 1 := by simp
  have z4 : ((((w.alloc (.cells #[.int .i64 g] 2)).alloc (.cells #[.slice none 0 0] 24)).alloc (.cells #[.slice a len cap] 24)).alloc (.cells #[.func (.func 45) #[] #[]] 43)).heap.size = w.heap.size + 1 + 1 + 1 + 1 := by simp
  have b1 := bel_alloc w (.cells #[.int .i64 g] 2)
  have b2 := bel_alloc (w.alloc (.cells #[.int .i64 g] 2)) (.cells #[.slice none 0 0] 24)
  have b3 := bel_alloc ((w.alloc (.cells #[.int .i64 g] 2)).alloc (.cells #[.slice none 0 0] 24)) (.cells #[.slice a len cap] 24)
  have b4 := bel_alloc (((w.alloc (.cells #[.int .i64 g] 2)).alloc (.cells #[.slice none 0 0] 24)).alloc (.cells #[.slice a len cap] 24)) (.cells #[.func (.func 45) #[] #[]] 43)
  have hG0 := Boxed.new w 2 (.int .i64 g)
  have hV0 := Boxed.new (w.alloc (.cells #[.int .i64 g] 2)) 24 (.slice none 0 0)
  rw [z1] at hV0
  have hL0 := Boxed.new ((w.alloc (.cells #[.int .i64 g] 2)).alloc (.cells #[.slice none 0 0] 24)) 24 (.slice a len cap)
  rw [z2] at hL0
  have hF0 := Boxed.new (((w.alloc (.cells #[.int .i64 g] 2)).alloc (.cells #[.slice none 0 0] 24)).alloc (.cells #[.slice a len cap] 24)) 43 (.func (.func 45) #[] #[])
  rw [z3] at hF0
  have hG := ((hG0.alloc (.cells #[.slice none 0 0] 24)).alloc (.cells #[.slice a len cap] 24)).alloc (.cells #[.func (.func 45) #[] #[]] 43)
  have hV := (hV0.alloc (.cells #[.slice a len cap] 24)).alloc (.cells #[.func (.func 45) #[] #[]] 43)
  have hL := hL0.alloc (.cells #[.func (.func 45) #[] #[]] 43)
  have hB0 := Below.on (Below.on (Below.on b1 b2) b3) b4
  generalize ((((w.alloc (.cells #[.int .i64 g] 2)).alloc (.cells #[.slice none 0 0] 24)).alloc (.cells #[.slice a len cap] 24)).alloc (.cells #[.func (.func 45) #[] #[]] 43)) = W0 at hB0 hG hV hL hF0 z4 ⊢
  clear b1 b2 b3 b4 hG0 hV0 hL0 z1 z2 z3
  have hN : w.heap.size + 4 = W0.heap.size := by omega
  have HNB : Hid (∀ W, Below w.heap.size w W → Calls Tryd.prog 34 #[.int .i64 g] W fun e w' => e = .returned (.int .i64 (bitsZ g)) ∧ Below W.heap.size W w') := (fun W hb => iNfsBits_any g W (hp.below hb))
  refine wpIn_rangeFunc_ownH rfl (by omega) (gf := 48) (lb := #[.pointer (some ⟨w.heap.size + 1 + 1, 0, none⟩), .pointer (some ⟨w.heap.size + 1 + 1 + 1, 0, none⟩)]) rfl trivial (enters_of Tryd.func48 (by kernel_rfl) rfl)
    (holdN_stops 5 (by omega) (w.heap.size + 1 + 1) (w.heap.size + 1 + 1 + 1) w.heap.size (w.heap.size + 2) W0.heap.size a len cap l nmdB hl W0 (hA.below hB0) (fun h A e => by obtain ⟨b, off, e2, hb, _⟩ := hA.2 h; rw [e2] at e; cases e; exact hb) (by omega) (by omega) hfl hB0.size (Nat.le_refl _)
      (fun x W' hK => names_any x W') hL.cell hF0.cell)
    kpC_t (kpC_b hB0.size) (Below.refl _ _) (fun _ => rfl)
    (fun pre W => (∃ v, Boxed W (w.heap.size + 1) 24 v ∧ W.ownsRow W0.heap.size 39 5 v (pre.map (ctA g)).length (pcA (pre.map (ctA g))) ∧ True) ∧ (W.cell? ⟨w.heap.size, 0, none⟩ = some (.int .i64 g) ∧ (Below w.heap.size w W ∧ W0.heap.size ≤ W.heap.size)))
    (fun _ _ _ => False)
    (OwnFrom.and (Own.from (holdsRow_own W0.heap.size (w.heap.size + 1) 24 39 5 (fun pre : List Ac => (pre.map (ctA g)).length) (fun pre => pcA (pre.map (ctA g))) (fun _ _ => True)) _) (OwnFrom.and (Own.from (fun s A B row hs hg hr => cell_kept hs hg hr) _) (OwnFrom.and (ownFrom_below (Nat.le_refl _) hB0.size) (fun _ _ _ _ hs hg _ => Nat.le_trans hs hg.size))))
    (fun _ _ _ _ _ hs _ _ => hs)
    ⟨⟨.slice none 0 0, hV, World.ownsRow_nil _ _ _ _, trivial⟩, hG.cell, hB0, Nat.le_refl _⟩
    (fun x a' W => ∃ Bx v, W0.heap.size ≤ Bx ∧ Bx5 W Bx x ∧ Boxed W (w.heap.size + 1) 24 v ∧ v.ownBlock ≠ some Bx ∧ a' = { tmps := #[.slice a len cap, .int .i64 g, undef, .pointer (some ⟨w.heap.size, 0, none⟩), .slice none 0 0, .pointer (some ⟨w.heap.size + 1, 0, none⟩), .pointer (some ⟨Bx, 0, none⟩), .slice a len cap, .func (.func 48) #[] #[.pointer (some ⟨w.heap.size + 1 + 1, 0, none⟩), .pointer (some ⟨w.heap.size + 1 + 1 + 1, 0, none⟩)], .agg #[.bool x.al, .int .i64 x.wh, .int .i64 x.id, .int .i64 x.fl, .int .i64 x.ma], undef, undef, undef, undef, undef, undef, undef, undef, undef, undef, undef, undef, undef, undef, undef], defers := [] })
    (fun x a' s A B row hs hg hr => by
      obtain ⟨Bx, v, h1, h2, h3, h4, h5⟩ := hs
      exact ⟨Bx, v, h1, h2.kept hg (fun r e => (hr r e).2), h3.kept hg (fun e' => by obtain ⟨o, ho, hc⟩ := (hr _ e'.symm).2; rw [show A.heap[w.heap.size + 1]? = _ from h3] at ho; cases ho; cases hc), h4, h5⟩)
    ?assign ?body ?done ?stop
  case assign =>
    rintro lp pre x W K ⟨⟨v, hv, hrow, _⟩, hgc, hB, hsz⟩ hK
    gi_wp2
    have hI : NmI w W0.heap.size g (pre.map (ctA g)) v W := ⟨hv, hrow, hgc, hB, hsz⟩
    have hba := bel_alloc W (.cells #[.bool x.al, .int .i64 x.wh, .int .i64 x.id, .int .i64 x.fl, .int .i64 x.ma] 39)
    have hI2 := hI.below hba
    refine hK _ _ ((KeepsOthers.alloc _ _).from _) (kpC_grow hba hB.size hsz) ⟨⟨v, hI2.bx, hI2.row, trivial⟩, hI2.gr, hI2.bel, hI2.sz⟩ ⟨W.heap.size, v, hsz, Bx5.new W x, hI2.bx, ?_, rfl⟩
    obtain ⟨_, ⟨e, _⟩ | ⟨G, c, cur, e, _, hG, _⟩⟩ := hrow
    · rw [e]; simp [Value.ownBlock]
    · rw [e]
      have := (Array.getElem?_eq_some_iff.1 hG).1
      simp [Value.ownBlock]
      omega
  case body =>
    rintro lp pre x a' W hlp hr ⟨⟨v, hv, hrow, _⟩, hgc, hB, hsz⟩ ⟨Bx, v2, hBx, h5, hv2, hne, rfl⟩ hlt
    obtain rfl := boxed_inj hv hv2
    have HI : Hid (NmI w W0.heap.size g (pre.map (ctA g)) v W) := ⟨hv, hrow, hgc, hB, hsz⟩
    have hle : (pre.map (ctA g)).length ≤ 1000 := by simp; omega
    have HM : Hid ((pre ++ [x]).map (ctA g) = pre.map (ctA g) ++ [ctA g x]) := (by show _ = _; simp)
    generalize pre.map (ctA g) = acc at HI hle HM
    have hF := h5.five
    obtain ⟨c0, c1, c2, c3, c4⟩ := hF
    simp only [Nat.zero_add] at c1 c2 c3 c4
    have f3 := h5.free 3
    have HI1 : Hid (NmI w W0.heap.size g acc v (W.setCell ⟨Bx, 3, none⟩ (.int .i64 0))) := HI.out.set (by omega) hne
    have H5 : Hid (Bx5 (W.setCell ⟨Bx, 3, none⟩ (.int .i64 0)) Bx { x with fl := 0 }) := h5.fl 0
    have HS1 : Hid (NmS W0.heap.size W (W.setCell ⟨Bx, 3, none⟩ (.int .i64 0))) := NmS.set hBx
    clear hv hrow hgc hB hsz hv2 HI
    gi_upto_region 5 with fail
    generalize W.setCell ⟨Bx, 3, none⟩ (.int .i64 0) = W1 at HI1 H5 HS1 ⊢
    clear c0 c1 c2 c3 c4 f3 h5
    obtain ⟨c0, c1, c2, c3, c4⟩ := H5.out.five
    simp only [Nat.zero_add] at c0 c1 c2 c3 c4
    have hbx := HI1.out.bx.cell
    cases hal : x.al
    · have HC : Hid (ctA g x = { x with fl := 0 }) := (by show _ = _; simp [ctA, ctM, hal])
      rw [hal] at c0
      obtain ⟨v', w', hr, ⟨G, cc, rfl⟩, hb', hI', hK', hkp'⟩ := nm_app HI1.out hN { x with fl := 0 } (by omega)
      rw [← HC.out, ← HM.out] at hI'
      have HI' : Hid _ := hI'
      have HK' : Hid _ := hK'
      have HKP : Hid _ := hkp'
      have hbc := hb'.cell
      have hbf := hb'.frozen
      simp only [hal] at hr
      clear hI' hK' hkp' hb' hal
      gi_wp2_with (gi_at_builtin; refine wpListIn_append_runA _ rfl (.tmp 20) (.tmp 22) 24 24 rfl _ _ _ _ rfl rfl hr ?_)
      exact ⟨((HS1.out.ko).trans HK'.out).from _, kpC_t (HS1.out.kp hN) HKP.out, ⟨_, HI'.out.bx, HI'.out.row, trivial⟩, HI'.out.gr, HI'.out.bel, HI'.out.sz⟩
    · have HC : Hid (ctA g x = { x with fl := 0, ma := bits .andNot .i64 x.ma (bits .andNot .i64 15 (bitsZ g)) }) := (by show _ = _; simp [ctA, ctM, hal])
      rw [hal] at c0
      have f4 := H5.out.free 4
      have hgc := HI1.out.gr
      have HW1 : Hid (Below w.heap.size w W1) := HI1.out.bel
      gi_wp2_with fail
      gi_region_with (refine ⟨trivial, ?_⟩; gi_at_call 34; refine (callsIn_wide.2 (HNB.out _ (below_drewA HW1.out))).mono ?_; rintro e w5 ⟨rfl, hb5⟩; have hB5 : Hid (Below W1.heap.size W1 w5) := below_drewZ hb5; have h5b := H5.out.below hB5.out; obtain ⟨d0, d1, d2, d3, d4⟩ := h5b.five; simp only [Nat.zero_add] at d0 d1 d2 d3 d4; have df := h5b.free 4)
      all_goals (
        have HI2 : Hid (NmI w W0.heap.size g acc v (w5.setCell ⟨Bx, 4, none⟩ (.int .i64 (bits .andNot .i64 x.ma (bits .andNot .i64 15 (bitsZ g)))))) := (HI1.out.below hB5.out).set (by omega) hne
        have H52 : Hid (Bx5 (w5.setCell ⟨Bx, 4, none⟩ (.int .i64 (bits .andNot .i64 x.ma (bits .andNot .i64 15 (bitsZ g))))) Bx { x with fl := 0, ma := bits .andNot .i64 x.ma (bits .andNot .i64 15 (bitsZ g)) }) := h5b.ma _
        have HS2 : Hid (NmS W0.heap.size W (w5.setCell ⟨Bx, 4, none⟩ (.int .i64 (bits .andNot .i64 x.ma (bits .andNot .i64 15 (bitsZ g)))))) := (HS1.out.trans (NmS.below hB5.out HI1.out.sz)).trans (NmS.set hBx)
        generalize w5.setCell ⟨Bx, 4, none⟩ (.int .i64 (bits .andNot .i64 x.ma (bits .andNot .i64 15 (bitsZ g)))) = W2 at HI2 H52 HS2 ⊢
        clear c0 c1 c2 c3 c4 d0 d1 d2 d3 d4 df f4 h5b hb5 hB5 hbx hgc HI1 H5 HS1
        generalize bits .andNot .i64 x.ma (bits .andNot .i64 15 (bitsZ g)) = nm at HC H52
        obtain ⟨c0, c1, c2, c3, c4⟩ := H52.out.five
        simp only [Nat.zero_add] at c0 c1 c2 c3 c4
        rw [hal] at c0
        have hbx := HI2.out.bx.cell
        obtain ⟨v', w', hr, ⟨G, cc, rfl⟩, hb', hI', hK', hkp'⟩ := nm_app HI2.out hN { x with fl := 0, ma := nm } (by omega)
        rw [← HC.out, ← HM.out] at hI'
        have HI' : Hid _ := hI'
        have HK' : Hid _ := hK'
        have HKP : Hid _ := hkp'
        have hbc := hb'.cell
        have hbf := hb'.frozen
        simp only [hal] at hr
        clear hI' hK' hkp' hb' hal
        gi_wp2_with (gi_at_builtin; refine wpListIn_append_runA _ rfl (.tmp 20) (.tmp 22) 24 24 rfl _ _ _ _ rfl rfl hr ?_)
        exact ⟨((HS2.out.ko).trans HK'.out).from _, kpC_t (HS2.out.kp hN) HKP.out, ⟨_, HI'.out.bx, HI'.out.row, trivial⟩, HI'.out.gr, HI'.out.bel, HI'.out.sz⟩)
  case done =>
    rintro D ys W hD rfl ⟨⟨v, hv, hrow, _⟩, hgc, hB, hsz⟩ hK
    have hvc := hv.cell
    gi_wp2
    refine ⟨by simp, .inl ⟨_, _, rfl, run_takeDeferred hK, ?_⟩⟩
    obtain ⟨a', c', hv', ho', hin'⟩ := ownA_of_row (ownsRow_putObj (row_weak hrow hB0.size) (.deferred none) hK rfl)
    subst hv'
    exact ⟨_, results_tmp rfl _ _ _, a', c', rfl, ho', hin', hB.trans (belowK_b (w := w) (Nat.le_refl _) W D _ _ (Nat.le_trans hB0.size hD) hK rfl rfl)⟩
  case stop =>
    rintro D c pre W _ _ h _
    exact h.elim
end Go.Proofs.YtddkmlkfphmdoaaDoor
