/- Laid together: DrawWho. -/
import Derived.Test.YtgooanaacebncaaDoorRE5
/- The draws of FnWho: a Cred, a Cred and an id, a text. -/
namespace Go.Proofs.YtgooanaacebncaaDoor
open Go.RowKit Go.PlainAid Go.Deep
set_option linter.unusedVariables false
set_option maxRecDepth 100000 in
set_option maxHeartbeats 2000000 in
theorem dDrawCredText_any (a : Option Addr) (len cap : Nat) (g : Nat → Int) (w : World) (hc : Code a len g w.heap.size w) :
    Calls Tryd.prog 8 #[.slice a len cap] w fun e w' => ∃ c u v l ga gc r, e = .returned c ∧ CredIs w.heap.size w' c u v l ga gc r ∧ Below w.heap.size w w' := by
  have hbA := bel_allocD w (.cells #[.int .i64 0, .int .i64 0, .slice none 0 0, .bool false] 25)
  have HC : Hid (Code a len g (w.alloc (.cells #[.int .i64 0, .int .i64 0, .slice none 0 0, .bool false] 25)).heap.size (w.alloc (.cells #[.int .i64 0, .int .i64 0, .slice none 0 0, .bool false] 25))) := hc.up hbA
  have hR := fr4_new w (.int .i64 0) (.int .i64 0) (.slice none 0 0) (.bool false) 25
  clear hc
  go_enter Tryd.func8, Tryd.ntmps8
  go_wp2_with fail
  refine (source_any a len cap g _ HC.out).mono ?_
  rintro e w1 ⟨rfl, hs1, hb1⟩
  have hR1 := hR.below hb1
  have hB1 : Hid (Below w.heap.size w w1) := hbA.trans (hb1.mono hbA.size)
  have hz1 : w.heap.size + 1 ≤ w1.heap.size := by have := hb1.size; simp at this; omega
  have hpp : (w.alloc (.cells #[.int .i64 0, .int .i64 0, .slice none 0 0, .bool false] 25)).heap.size = w.heap.size + 1 := by simp
  rw [hpp] at hs1
  clear hb1 hR HC hbA
  go_wp2_with fail
  refine (drCred_any a len cap g _ _ hs1).mono ?_
  rintro e w2 ⟨u, v, l, x, r, rfl, hl, ho, hs2, ho2⟩
  have hR2 := hR1.keep ho2.size (ho2.block w.heap.size (by omega) (by simp))
  have HB : Hid (Below w.heap.size w w2) := ho2.below hB1.out (by omega) (by omega)
  obtain ⟨ga, gc, hx⟩ := row_shapeD ho
  subst hx
  have HO : Hid (w2.ownsRow w1.heap.size 2 1 (.slice ga l.length gc) l.length (ivD l)) := ho
  have HF : Hid (Fr4 ((((w2.setCell ⟨w.heap.size, 0, none⟩ (.int .i64 u)).setCell ⟨w.heap.size, 1, none⟩ (.int .i64 v)).setCell ⟨w.heap.size, 2, none⟩ (.slice ga l.length gc)).setCell ⟨w.heap.size, 3, none⟩ (.bool r)) w.heap.size (.int .i64 u) (.int .i64 v) (.slice ga l.length gc) (.bool r)) := hR2.sets _ _ _ _
  obtain ⟨xl, x0, x1, x2, x3, xf⟩ := hR2
  have f0 := xf 0
  have f1 := xf 1
  have f2 := xf 2
  have f3 := xf 3
  clear xf ho hs1 hs2 ho2 hR1 hB1 hpp
  go_wp2
  refine bodyPost_ret (v := .agg #[.int .i64 u, .int .i64 v, .slice ga l.length gc, .bool r]) (by
    obtain ⟨yl, y0, y1, y2, y3, yf⟩ := HF.out
    clear x0 x1 x2 x3 f0 f1 f2 f3
    generalize World.setCell _ _ _ = wf at y0 y1 y2 y3 ⊢
    simp [results, Tryd.results8, go_sem, y0, y1, y2, y3]) rfl ⟨_, u, v, l, ga, gc, r, rfl, ⟨rfl, hl, ?_⟩, ?_⟩
  · refine row_fromD ?_ (show w.heap.size ≤ w1.heap.size by omega)
    iterate 4 (refine row_keepD ?_ (fun k hk _ => set_blockD _ _ _ k _ (by omega)))
    exact HO.out
  · iterate 4 (refine setD ?_ (Nat.le_refl _))
    exact HB.out
set_option maxRecDepth 100000 in
set_option maxHeartbeats 2000000 in
theorem dDrawInGroup_any (a : Option Addr) (len cap : Nat) (g : Nat → Int) (w : World) (hc : Code a len g w.heap.size w) :
    Calls Tryd.prog 12 #[.slice a len cap] w fun e w' => ∃ c u v l ga gc r z, e = .returned (.tuple #[c, .int .i64 z]) ∧ CredIs w.heap.size w' c u v l ga gc r ∧ Below w.heap.size w w' := by
  have hbA := bel_allocD w (.cells #[.int .i64 0, .int .i64 0, .slice none 0 0, .bool false] 25)
  have HC : Hid (Code a len g (w.alloc (.cells #[.int .i64 0, .int .i64 0, .slice none 0 0, .bool false] 25)).heap.size (w.alloc (.cells #[.int .i64 0, .int .i64 0, .slice none 0 0, .bool false] 25))) := hc.up hbA
  have hR := fr4_new w (.int .i64 0) (.int .i64 0) (.slice none 0 0) (.bool false) 25
  clear hc
  go_enter Tryd.func12, Tryd.ntmps12
  go_wp2_with fail
  refine (source_any a len cap g _ HC.out).mono ?_
  rintro e w1 ⟨rfl, hs1, hb1⟩
  have hR1 := hR.below hb1
  have hB1 : Hid (Below w.heap.size w w1) := hbA.trans (hb1.mono hbA.size)
  have hz1 : w.heap.size + 1 ≤ w1.heap.size := by have := hb1.size; simp at this; omega
  have hpp : (w.alloc (.cells #[.int .i64 0, .int .i64 0, .slice none 0 0, .bool false] 25)).heap.size = w.heap.size + 1 := by simp
  rw [hpp] at hs1
  clear hb1 hR HC hbA
  go_wp2_with fail
  refine (drCred_any a len cap g _ _ hs1).mono ?_
  rintro e w2 ⟨u, v, l, x, r, rfl, hl, ho, hs2, ho2⟩
  have hR2 := hR1.keep ho2.size (ho2.block w.heap.size (by omega) (by simp))
  have HB : Below w.heap.size w w2 := ho2.below hB1.out (by omega) (by omega)
  obtain ⟨ga, gc, hx⟩ := row_shapeD ho
  subst hx
  have hb3 := bel_allocD w2 (.cells #[.int .i64 u, .int .i64 v, .slice ga l.length gc, .bool r] 25)
  have HX3 : Hid (Fr4 (w2.alloc (.cells #[.int .i64 u, .int .i64 v, .slice ga l.length gc, .bool r] 25)) w2.heap.size (.int .i64 u) (.int .i64 v) (.slice ga l.length gc) (.bool r)) := fr4_new _ _ _ _ _ _
  have HR3 : Hid (Fr4 (w2.alloc (.cells #[.int .i64 u, .int .i64 v, .slice ga l.length gc, .bool r] 25)) w.heap.size (.int .i64 0) (.int .i64 0) (.slice none 0 0) (.bool false)) := hR2.below hb3
  have HO3 : Hid ((w2.alloc (.cells #[.int .i64 u, .int .i64 v, .slice ga l.length gc, .bool r] 25)).ownsRow w1.heap.size 2 1 (.slice ga l.length gc) l.length (ivD l)) := row_keepD ho (fun k _ hk => hb3.block k hk)
  have HS3 : Hid (Src a len cap g (w.heap.size + 1) (w2.alloc (.cells #[.int .i64 u, .int .i64 v, .slice ga l.length gc, .bool r] 25))) := src_alloc hs2 _
  have HB3 : Hid (Below w.heap.size w (w2.alloc (.cells #[.int .i64 u, .int .i64 v, .slice ga l.length gc, .bool r] 25))) := HB.trans (hb3.mono HB.size)
  have hX : Hid (w.heap.size + 1 < w2.heap.size) := hs2.pos
  have hpl : Hid (w.heap.size + 1 < w1.heap.size) := hs1.pos
  clear ho hs1 hs2 ho2 hR1 hB1 hpp hb3 hR2 HB
  go_upto_region 3 with fail
  generalize w2.alloc (.cells #[.int .i64 u, .int .i64 v, .slice ga l.length gc, .bool r] 25) = w3 at HX3 HR3 HO3 HS3 HB3 ⊢
  generalize w2.heap.size = X at HX3 hX ⊢
  have hSd : Hid (Src a len cap g (w.heap.size + 1) w3.drew) := HS3.out.kept (fun _ _ => rfl)
  obtain ⟨xl, x0, x1, x2, x3, xf⟩ := HX3.out
  have hne1 := hX.out
  go_region_law (go_simp; go_at_call 45; refine (drId_any a len cap g _ _ hSd.out).mono ?_; rintro e wi ⟨z, rfl, z1, z2, hsi, hoi⟩; have hXi := HX3.out.keep hoi.size (hoi.block X xl (by simp; omega)); have hRi := HR3.out.keep hoi.size (hoi.block w.heap.size HR3.out.lt (by simp)); obtain ⟨d0, d1, d2, d3⟩ : _ ∧ _ ∧ _ ∧ _ := ⟨hXi.c0, hXi.c1, hXi.c2, hXi.c3⟩; obtain ⟨q0, q1, q2, q3⟩ : _ ∧ _ ∧ _ ∧ _ := ⟨hRi.c0, hRi.c1, hRi.c2, hRi.c3⟩; have f0 := hRi.fz 0; have f1 := hRi.fz 1; have f2 := hRi.fz 2; have f3 := hRi.fz 3)
  all_goals
    have HF : Hid (Fr4 ((((wi.setCell ⟨w.heap.size, 0, none⟩ (.int .i64 u)).setCell ⟨w.heap.size, 1, none⟩ (.int .i64 v)).setCell ⟨w.heap.size, 2, none⟩ (.slice ga l.length gc)).setCell ⟨w.heap.size, 3, none⟩ (.bool r)) w.heap.size (.int .i64 u) (.int .i64 v) (.slice ga l.length gc) (.bool r)) := hRi.sets _ _ _ _
    have HOi : Hid (wi.ownsRow w1.heap.size 2 1 (.slice ga l.length gc) l.length (ivD l)) := row_keepD HO3.out (fun k hk hlt => hoi.block k hlt (by have := hpl.out; simp; omega))
    have HBi : Hid (Below w.heap.size w wi) := (by
      have hd : Below w.heap.size w w3.drew := HB3.out.trans ⟨rfl, rfl, rfl, Nat.le_refl _, fun _ _ => rfl⟩
      exact hoi.below hd (by omega) hd.size)
    go_wp2
    refine bodyPost_ret (v := .tuple #[.agg #[.int .i64 u, .int .i64 v, .slice ga l.length gc, .bool r], .int .i64 z]) (by
      obtain ⟨yl, y0, y1, y2, y3, yf⟩ := HF.out
      clear x0 x1 x2 x3 f0 f1 f2 f3 d0 d1 d2 d3 q0 q1 q2 q3
      generalize World.setCell _ _ _ = wf at y0 y1 y2 y3 ⊢
      simp [results, Tryd.results12, go_sem, y0, y1, y2, y3]) rfl ⟨_, u, v, l, ga, gc, r, z, rfl, ⟨rfl, hl, ?_⟩, ?_⟩
    · refine row_fromD ?_ (show w.heap.size ≤ w1.heap.size by omega)
      iterate 4 (refine row_keepD ?_ (fun k hk _ => set_blockD _ _ _ k _ (by omega)))
      exact HOi.out
    · iterate 4 (refine setD ?_ (Nat.le_refl _))
      exact HBi.out
end Go.Proofs.YtgooanaacebncaaDoor
