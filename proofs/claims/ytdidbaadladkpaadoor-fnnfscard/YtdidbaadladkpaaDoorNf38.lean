/- Laid together: NfsDrA. -/
import Derived.Test.YtdidbaadladkpaaDoorNf36
import Derived.Test.YtdidbaadladkpaaDoorNf6
import Derived.Test.YtdidbaadladkpaaDoorNf5
/- The draws of DrawAceRight, DrawAceAdd, DrawNfsRwx. -/
namespace Go.Proofs.YtdidbaadladkpaaDoor
open Go.RowKit Go.PlainAid Go.Deep
set_option linter.unusedVariables false
theorem row_spot {w : World} {B : Nat} {t : TypeId} {s : Nat} {b o : Nat} {sp : Option Nat} {m c n : Nat} {xs : List Value} (h : w.ownsRow B t s (.slice (some ⟨b, o, sp⟩) m c) n xs) : sp = none := by
  obtain ⟨_, ⟨h1, _⟩ | ⟨_, _, _, h1, _⟩⟩ := h
  · cases h1
  · cases h1; rfl
/-- A result block of five cells. -/
structure Fr5 (w : World) (B : Nat) (x : Ac) : Prop where
  lt : B < w.heap.size
  f : Five w B 0 x
  z : ∀ o, w.frozen? ⟨B, o, none⟩ = false
theorem Fr5.keep {w w' : World} {B : Nat} {x : Ac} (h : Fr5 w B x) (hs : w.heap.size ≤ w'.heap.size) (hb : w'.heap[B]? = w.heap[B]?) : Fr5 w' B x :=
  ⟨Nat.lt_of_lt_of_le h.lt hs, h.f.keep (fun j => by simp only [World.cell?, hb]), fun o => by have := h.z o; simp only [World.frozen?, hb] at this ⊢; exact this⟩
theorem Fr5.below {w w' : World} {B : Nat} {x : Ac} (h : Fr5 w B x) (hb : Below w.heap.size w w') : Fr5 w' B x := h.keep hb.size (hb.block B h.lt)
theorem fr5_new (w : World) (x : Ac) (t : TypeId) : Fr5 (w.alloc (.cells #[.bool x.al, .int .i64 x.wh, .int .i64 x.id, .int .i64 x.fl, .int .i64 x.ma] t)) w.heap.size x :=
  ⟨by simp, five_new w x t, fun o => lit_frozen _ _ _ _⟩
theorem Fr5.sets {w : World} {B : Nat} {x : Ac} (h : Fr5 w B x) (y : Ac) : Five (set5 w B 0 y) B 0 y := five_set5 h.f
set_option maxRecDepth 100000 in
set_option maxHeartbeats 4000000 in
theorem dDrawAceRight_any (a : Option Addr) (len cap : Nat) (g : Nat → Int) (w : World) (hc : Code a len g w.heap.size w) :
    Calls Tryd.prog 11 #[.slice a len cap] w fun e w' => ∃ x : Ac, e = .returned (.agg #[.bool x.al, .int .i64 x.wh, .int .i64 x.id, .int .i64 x.fl, .int .i64 x.ma]) ∧ Below w.heap.size w w' := by
  have hbA := bel_alloc w (.cells #[.bool false, .int .i64 0, .int .i64 0, .int .i64 0, .int .i64 0] 33)
  have eA : (w.alloc (.cells #[.bool false, .int .i64 0, .int .i64 0, .int .i64 0, .int .i64 0] 33)).heap.size = w.heap.size + 1 := by simp
  have hT : Fr5 (w.alloc (.cells #[.bool false, .int .i64 0, .int .i64 0, .int .i64 0, .int .i64 0] 33)) w.heap.size acZ := fr5_new w acZ 33
  have HC : Hid _ := hc.up hbA
  clear hc
  go_enter Tryd.func11, Tryd.ntmps11
  go_wp2_with fail
  refine (source_any a len cap g _ HC.out).mono ?_
  rintro e w1 ⟨rfl, hs1, hb1⟩
  have hT1 := hT.below hb1
  have hB1 : Below w.heap.size w w1 := Below.on hbA hb1
  rw [eA] at hs1
  have hp1 := hs1.pos
  clear hb1 hT HC hbA eA
  go_wp2_with fail
  refine (drAce_any a len cap g _ _ hs1).mono ?_
  rintro e w2 ⟨x, rfl, hs2, ho2⟩
  have hT2 := hT1.keep ho2.size (ho2.block w.heap.size hT1.lt (by simp))
  have HB2 : Hid (Below w.heap.size w w2) := ho2.below hB1 (by omega) hB1.size
  have HF : Hid (Five (set5 w2 w.heap.size 0 x) w.heap.size 0 x) := hT2.sets x
  obtain ⟨q0, q1, q2, q3, q4⟩ := hT2.f
  have zf := hT2.z
  have f0 := zf 0
  have f1 := zf 1
  have f2 := zf 2
  have f3 := zf 3
  have f4 := zf 4
  simp only [Nat.zero_add] at q1 q2 q3 q4
  clear hT1 hT2 hs1 hs2 ho2 hB1 zf
  go_wp2
  refine bodyPost_ret (v := .agg #[.bool x.al, .int .i64 x.wh, .int .i64 x.id, .int .i64 x.fl, .int .i64 x.ma]) (by
    obtain ⟨y0, y1, y2, y3, y4⟩ := HF.out
    simp only [Nat.zero_add, set5] at y0 y1 y2 y3 y4
    clear q0 q1 q2 q3 q4 f0 f1 f2 f3 f4
    generalize World.setCell _ _ _ = wf at y0 y1 y2 y3 y4 ⊢
    simp [results, Tryd.results11, go_sem, y0, y1, y2, y3, y4]) rfl ⟨x, rfl, ?_⟩
  iterate 5 (refine setD ?_ (Nat.le_refl _))
  exact HB2.out
set_option maxRecDepth 100000 in
set_option maxHeartbeats 4000000 in
theorem dDrawAceAdd_any (a : Option Addr) (len cap : Nat) (g : Nat → Int) (w : World) (hc : Code a len g w.heap.size w) :
    Calls Tryd.prog 8 #[.slice a len cap] w fun e w' => ∃ (b off lc : Nat) (l : List Ac) (n : Int) (x : Ac), e = .returned (.tuple #[.slice (some ⟨b, off, none⟩) l.length lc, .int .i64 n, .agg #[.bool x.al, .int .i64 x.wh, .int .i64 x.id, .int .i64 x.fl, .int .i64 x.ma]]) ∧ l.length ≤ lc ∧ Acs (some ⟨b, off, none⟩) l.length l w' ∧ l.length ≤ 50 ∧ Below w.heap.size w w' := by
  have hbA := bel_alloc w (.cells #[.bool false, .int .i64 0, .int .i64 0, .int .i64 0, .int .i64 0] 33)
  have eA : (w.alloc (.cells #[.bool false, .int .i64 0, .int .i64 0, .int .i64 0, .int .i64 0] 33)).heap.size = w.heap.size + 1 := by simp
  have hT : Fr5 (w.alloc (.cells #[.bool false, .int .i64 0, .int .i64 0, .int .i64 0, .int .i64 0] 33)) w.heap.size acZ := fr5_new w acZ 33
  have HC : Hid _ := hc.up hbA
  clear hc
  go_enter Tryd.func8, Tryd.ntmps8
  go_wp2_with fail
  refine (source_any a len cap g _ HC.out).mono ?_
  rintro e w1 ⟨rfl, hs1, hb1⟩
  have hT1 := hT.below hb1
  have hB1 : Below w.heap.size w w1 := Below.on hbA hb1
  rw [eA] at hs1
  have hp1 := hs1.pos
  clear hb1 hT HC hbA eA
  go_wp2_with fail
  refine (drList_any a len cap g _ _ hs1).mono ?_
  rintro e w2 ⟨la, lc, l, rfl, hD2, hl⟩
  obtain ⟨⟨lb, lo, ls⟩, rfl⟩ := hD2.sm
  have hls : ls = none := row_spot hD2.row
  subst hls
  have hT2 := hT1.keep hD2.own.size (hD2.own.block w.heap.size hT1.lt (by simp))
  clear hT1
  go_wp2_with fail
  refine (n_any a len cap g _ _ (by omega) _ hD2.src).mono ?_
  rintro e w3 ⟨r, rfl, r0, r1, hs3, ho3⟩
  have hD3 := hD2.call hs3 ho3
  have hT3 := hT2.keep ho3.size (ho3.block w.heap.size hT2.lt (by simp))
  clear hT2 hD2 hs3 ho3
  go_wp2_with fail
  refine (drAce_any a len cap g _ _ hD3.src).mono ?_
  rintro e w4 ⟨x, rfl, hs4, ho4⟩
  have hD4 := hD3.call hs4 ho4
  have hT4 := hT3.keep ho4.size (ho4.block w.heap.size hT3.lt (by simp))
  have HB4 : Hid (Below w.heap.size w w4) := hD4.own.below hB1 (by omega) hB1.size
  have HR4 : Hid (w4.ownsRow w1.heap.size 33 5 (.slice (some ⟨lb, lo, none⟩) l.length lc) l.length (pcA l)) := hD4.row
  have HF : Hid (Five (set5 w4 w.heap.size 0 x) w.heap.size 0 x) := hT4.sets x
  obtain ⟨q0, q1, q2, q3, q4⟩ := hT4.f
  have zf := hT4.z
  have f0 := zf 0
  have f1 := zf 1
  have f2 := zf 2
  have f3 := zf 3
  have f4 := zf 4
  simp only [Nat.zero_add] at q1 q2 q3 q4
  clear hT3 hT4 hs1 hD3 hD4 hs4 ho4 hB1 zf
  go_wp2
  refine bodyPost_ret (v := .tuple #[.slice (some ⟨lb, lo, none⟩) l.length lc, .int .i64 (r - 1), .agg #[.bool x.al, .int .i64 x.wh, .int .i64 x.id, .int .i64 x.fl, .int .i64 x.ma]]) (by
    obtain ⟨y0, y1, y2, y3, y4⟩ := HF.out
    simp only [Nat.zero_add, set5] at y0 y1 y2 y3 y4
    clear q0 q1 q2 q3 q4 f0 f1 f2 f3 f4
    generalize World.setCell _ _ _ = wf at y0 y1 y2 y3 y4 ⊢
    simp [results, Tryd.results8, go_sem, y0, y1, y2, y3, y4]) rfl ⟨lb, lo, lc, l, r - 1, x, rfl, rowL_cap HR4.out rfl, ?_, hl, ?_⟩
  · refine rowL_acs (B := w1.heap.size) (lc := lc) ?_
    iterate 5 (refine rowL_keep ?_ (fun k hk => set_blockD _ _ _ k _ (by omega)))
    exact HR4.out
  · iterate 5 (refine setD ?_ (Nat.le_refl _))
    exact HB4.out
set_option maxRecDepth 100000 in
set_option maxHeartbeats 4000000 in
theorem dDrawNfsRwx_any (a : Option Addr) (len cap : Nat) (g : Nat → Int) (w : World) (hc : Code a len g w.heap.size w) :
    Calls Tryd.prog 13 #[.slice a len cap] w fun e w' => ∃ n : Int, e = .returned (.int .i64 n) ∧ Below w.heap.size w w' := by
  go_enter Tryd.func13, Tryd.ntmps13
  go_wp2_with fail
  refine (source_any a len cap g _ hc).mono ?_
  rintro e w1 ⟨rfl, hs1, hb1⟩
  have hz1 := hb1.size
  go_wp2_with fail
  refine (one_any a len cap g _ _ (by decide) _ hs1).mono ?_
  rintro e w2 ⟨q, rfl, hs2, ho2⟩
  have HB2 : Hid (Below w.heap.size w w2) := ho2.below hb1 (Nat.le_refl _) hz1
  cases q
  · go_wp2_with fail
    refine (n_any a len cap g _ _ (by decide) _ hs2).mono ?_
    rintro e w3 ⟨x, rfl, x1, x2, hs3, ho3⟩
    have HB3 : Hid (Below w.heap.size w w3) := ho3.below HB2.out (Nat.le_refl _) HB2.out.size
    clear hs1 hs2 hs3 ho2 ho3 hb1 hc
    go_wp2
    go_ret
    exact ⟨x, rfl, HB3.out⟩
  · go_wp2_with fail
    refine (n_any a len cap g _ _ (by decide) _ (src_alloc hs2 _)).mono ?_
    rintro e w3 ⟨x, rfl, x1, x2, hs3, ho3⟩
    obtain ⟨z, hz, hcl⟩ := pickI3 w2 (-1) 255 256 2 x x1 (by omega)
    have hp2 := hs2.pos
    have hcx : w3.cell? ⟨w2.heap.size, x.toNat, none⟩ = some (.int .i64 z) := (ho3.cell (by simp) (by omega)).trans hcl
    have HB3 : Hid (Below w.heap.size w w3) := ho3.below (Below.on HB2.out (bel_alloc _ _)) (Nat.le_refl _) (Below.on HB2.out (bel_alloc _ (.cells #[.int .i64 (-1), .int .i64 255, .int .i64 256] 2))).size
    have x3 : x < 3 := by omega
    clear hs1 hs2 hs3 ho2 ho3 hb1 hc hz hcl x2
    go_wp2
    go_ret
    exact ⟨z, rfl, HB3.out⟩
end Go.Proofs.YtdidbaadladkpaaDoor
