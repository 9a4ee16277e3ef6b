/- Laid together: DrawAclB. -/
import Derived.Test.YtgojbilbkfilgaaMa35
import Derived.Deep.RegionHeld3
/- The draws of FnMay. -/
namespace Go.Proofs.Ytgojbilbkfilgaa
open Go.RowKit Go.PlainAid Go.Deep
set_option linter.unusedVariables false
/-- What a draw of FnMay answers: a list of names, an owner, a group, a Cred and what is wanted. -/
def MayIs (w : World) (e : Ending) (w' : World) : Prop := ∃ (A : Al) (aU : Option Addr) (cU : Nat) (aG : Option Addr) (cG : Nat) (ow gr u v : Int) (l : List Int) (ga : Option Addr) (gc : Nat) (r : Bool) (z : Int), e = .returned (.tuple #[.agg #[.int .i64 A.u, .int .i64 A.g, .int .i64 A.o, .slice aU A.us.length cU, .slice aG A.gs.length cG, .bool A.r, .int .i64 A.m], .int .i64 ow, .int .i64 gr, .agg #[.int .i64 u, .int .i64 v, .slice ga l.length gc, .bool r], .int .i64 z]) ∧ Rws w w w' A aU cU aG cG ∧ w'.ownsRow w.heap.size 2 1 (.slice ga l.length gc) l.length (ivD l) ∧ l.length ≤ 9
set_option maxRecDepth 100000 in
set_option maxHeartbeats 4000000 in
theorem dDrawAclMay_any (a : Option Addr) (len cap : Nat) (g : Nat → Int) (w : World) (hc : Code a len g w.heap.size w) :
    Calls Try.prog 42 #[.slice a len cap] w (MayIs w) := by
  have hbA := (bel_alloc w (.cells #[.int .i64 0, .int .i64 0, .int .i64 0, .slice none 0 0, .slice none 0 0, .bool false, .int .i64 0] 25))
  have hbB := Below.on hbA (bel_alloc _ (.cells #[.int .i64 0, .int .i64 0, .slice none 0 0, .bool false] 44))
  have eA : (w.alloc (.cells #[.int .i64 0, .int .i64 0, .int .i64 0, .slice none 0 0, .slice none 0 0, .bool false, .int .i64 0] 25)).heap.size = w.heap.size + 1 := by simp
  have eB : ((w.alloc (.cells #[.int .i64 0, .int .i64 0, .int .i64 0, .slice none 0 0, .slice none 0 0, .bool false, .int .i64 0] 25)).alloc (.cells #[.int .i64 0, .int .i64 0, .slice none 0 0, .bool false] 44)).heap.size = w.heap.size + 2 := by simp
  have hR := (fr7_new w (.int .i64 0) (.int .i64 0) (.int .i64 0) (.slice none 0 0) (.slice none 0 0) (.bool false) (.int .i64 0) 25).below (bel_alloc _ (.cells #[.int .i64 0, .int .i64 0, .slice none 0 0, .bool false] 44))
  have hT := fr4_new (w.alloc (.cells #[.int .i64 0, .int .i64 0, .int .i64 0, .slice none 0 0, .slice none 0 0, .bool false, .int .i64 0] 25)) (.int .i64 0) (.int .i64 0) (.slice none 0 0) (.bool false) 44
  rw [eA] at hT
  have HC : Hid _ := hc.up hbB
  clear hc hbA eA
  go_enter Try.func42, Try.ntmps42
  go_wp2_with fail
  refine (source_any a len cap g _ HC.out).mono ?_
  rintro e w1 ⟨rfl, hs1, hb1⟩
  have hR1 := hR.below hb1
  have hT1 := hT.below hb1
  have hB1 : Below w.heap.size w w1 := Below.on hbB hb1
  rw [eB] at hs1
  clear hb1 hR hT HC hbB
  go_wp2_with fail
  refine (drAcl_any a len cap g _ _ hs1).mono ?_
  rintro e w2 ⟨A, aU, cU, aG, cG, rfl, hs2, ho2, hr2, _, hl1, hl2⟩
  have hD2 : Drn a len cap g (w.heap.size + 2) w w1 w2 A aU cU aG cG := Drn.of hB1 (by omega) hs1.pos hs2 ho2 hr2 hl1 hl2
  have hR2 := hR1.own ho2 (by omega)
  have hT2 := hT1.own ho2 (by omega)
  have hp1 := hs1.pos
  have hX2 := fr7_new w2 (.int .i64 A.u) (.int .i64 A.g) (.int .i64 A.o) (.slice aU A.us.length cU) (.slice aG A.gs.length cG) (.bool A.r) (.int .i64 A.m) 25
  have hb3 := bel_alloc w2 (.cells #[.int .i64 A.u, .int .i64 A.g, .int .i64 A.o, .slice aU A.us.length cU, .slice aG A.gs.length cG, .bool A.r, .int .i64 A.m] 25)
  have hXp : w.heap.size + 2 < w2.heap.size := hs2.pos
  have hD3 := hD2.below hb3
  have hR3 := hR2.below hb3
  have hT3 := hT2.below hb3
  clear hb3 hR2 hT2 hD2 hr2 hs2 ho2 hR1 hT1 hs1 hl1 hl2
  have HD3 : Hid _ := hD3
  have HR3 : Hid _ := hR3
  have HT3 : Hid _ := hT3
  have HX3 : Hid _ := hX2
  clear hD3 hR3 hT3 hX2
  go_upto_region 3 with fail
  generalize (w2.alloc (.cells #[.int .i64 A.u, .int .i64 A.g, .int .i64 A.o, .slice aU A.us.length cU, .slice aG A.gs.length cG, .bool A.r, .int .i64 A.m] 25)) = w3 at HD3 HR3 HT3 HX3 ⊢
  generalize w2.heap.size = X at HX3 hXp ⊢
  go_wp2_with fail
  refine (drId_any a len cap g _ _ HD3.out.src).mono ?_
  rintro e w4 ⟨ow, rfl, _, _, hs4, ho4⟩
  have HD4 : Hid (Drn a len cap g (w.heap.size + 2) w w1 w4 A aU cU aG cG) := HD3.out.call hs4 ho4
  have HR4 : Hid _ := HR3.out.own ho4 (by omega)
  have HT4 : Hid _ := HT3.out.own ho4 (by omega)
  have HX4 : Hid _ := HX3.out.own ho4 (by omega)
  clear hs4 ho4 HD3 HR3 HT3 HX3
  go_wp2_with fail
  refine (drId_any a len cap g _ _ HD4.out.src).mono ?_
  rintro e w5 ⟨gr, rfl, _, _, hs5, ho5⟩
  have HD5 : Hid (Drn a len cap g (w.heap.size + 2) w w1 w5 A aU cU aG cG) := HD4.out.call hs5 ho5
  have HR5 : Hid _ := HR4.out.own ho5 (by omega)
  have HT5 : Hid _ := HT4.out.own ho5 (by omega)
  have HX5 : Hid _ := HX4.out.own ho5 (by omega)
  clear hs5 ho5 HD4 HR4 HT4 HX4
  go_wp2_with fail
  refine (drCred_any a len cap g _ _ HD5.out.src).mono ?_
  rintro e w6 ⟨u, v, l, x, r, rfl, hl, hor, hs6, ho6⟩
  obtain ⟨ga, gc, hx⟩ := row_shapeD hor
  subst hx
  have hD6 := HD5.out.call hs6 ho6
  have hb7 := bel_alloc w6 (.cells #[.int .i64 u, .int .i64 v, .slice ga l.length gc, .bool r] 44)
  have HD7 : Hid (Drn a len cap g (w.heap.size + 2) w w1 (w6.alloc (.cells #[.int .i64 u, .int .i64 v, .slice ga l.length gc, .bool r] 44)) A aU cU aG cG) := hD6.below hb7
  have HR7 : Hid _ := (HR5.out.own ho6 (by omega)).below hb7
  have HT7 : Hid _ := (HT5.out.own ho6 (by omega)).below hb7
  have HX7 : Hid _ := (HX5.out.own ho6 (by omega)).below hb7
  have HC7 : Hid (Fr4 (w6.alloc (.cells #[.int .i64 u, .int .i64 v, .slice ga l.length gc, .bool r] 44)) w6.heap.size (.int .i64 u) (.int .i64 v) (.slice ga l.length gc) (.bool r)) := fr4_new _ _ _ _ _ _
  have hz5 : w1.heap.size ≤ w5.heap.size := HD5.out.s1
  have HO7 : Hid ((w6.alloc (.cells #[.int .i64 u, .int .i64 v, .slice ga l.length gc, .bool r] 44)).ownsRow w1.heap.size 2 1 (.slice ga l.length gc) l.length (ivD l)) := row_fromD (row_keepD hor (fun k _ hk => hb7.block k hk)) hz5
  have hCp : X < w6.heap.size := Nat.lt_of_lt_of_le HX5.out.b.lt ho6.size
  clear hor hs6 ho6 hb7 hD6 HD5 HR5 HT5 HX5 hz5
  go_upto_region 6 with fail
  generalize w6.alloc (.cells #[.int .i64 u, .int .i64 v, .slice ga l.length gc, .bool r] 44) = w7 at HD7 HR7 HT7 HX7 HC7 HO7 ⊢
  generalize w6.heap.size = C at HC7 hCp ⊢
  obtain ⟨⟨xl, x0, x1, x2, x3, x4, x5, x6⟩, _⟩ := HX7.out
  obtain ⟨cl, c0, c1, c2, c3, _⟩ := HC7.out
  go_region_with
    (first
      | (go_at_call 62; refine Calls.mono (drBits_any a len cap g _ _ ?hs) ?_; (case hs => (first | exact HD7.out.src | exact HD7.out.drew.src)); rintro e w8 ⟨z, rfl, _, _, hs8, ho8⟩; have ho9 : Ownp (w.heap.size + 2) w7 w8 := ⟨ho8.os, ho8.tape, ho8.output, ho8.size, ho8.block⟩; have HD8 : Hid (Drn a len cap g (w.heap.size + 2) w w1 w8 A aU cU aG cG) := HD7.out.call hs8 ho9; have HR8 : Hid _ := HR7.out.own ho9 (by omega); have HT8 : Hid _ := HT7.out.own ho9 (by omega); have HO8 : Hid (w8.ownsRow w1.heap.size 2 1 (.slice ga l.length gc) l.length (ivD l)) := row_keepD HO7.out (fun k hk hlt => ho9.block k hlt (by simp; omega)); obtain ⟨⟨_, xa0, xa1, xa2, xa3, xa4, xa5, xa6⟩, _⟩ := HX7.out.own ho9 (by omega); obtain ⟨_, ca0, ca1, ca2, ca3, _⟩ := HC7.out.own ho9 (by omega); obtain ⟨⟨_, ra0, ra1, ra2, ra3, ra4, ra5, ra6⟩, rf⟩ := HR8.out; obtain ⟨_, ta0, ta1, ta2, ta3, tf⟩ := HT8.out))
  all_goals
    have h70 := HR8.out.sets (.int .i64 A.u) (.int .i64 A.g) (.int .i64 A.o) (.slice aU A.us.length cU) (.slice aG A.gs.length cG) (.bool A.r) (.int .i64 A.m)
    have h40 : Fr4 (set7A w8 w.heap.size (.int .i64 A.u) (.int .i64 A.g) (.int .i64 A.o) (.slice aU A.us.length cU) (.slice aG A.gs.length cG) (.bool A.r) (.int .i64 A.m)) (w.heap.size + 1) (.int .i64 0) (.int .i64 0) (.slice none 0 0) (.bool false) := HT8.out.keep (by rw [set7A_size]; exact Nat.le_refl _) (set7A_block _ _ _ _ _ _ _ _ _ _ (by omega))
    have HF4 : Hid (Fr4 (((((set7A w8 w.heap.size (.int .i64 A.u) (.int .i64 A.g) (.int .i64 A.o) (.slice aU A.us.length cU) (.slice aG A.gs.length cG) (.bool A.r) (.int .i64 A.m)).setCell ⟨w.heap.size + 1, 0, none⟩ (.int .i64 u)).setCell ⟨w.heap.size + 1, 1, none⟩ (.int .i64 v)).setCell ⟨w.heap.size + 1, 2, none⟩ (.slice ga l.length gc)).setCell ⟨w.heap.size + 1, 3, none⟩ (.bool r)) (w.heap.size + 1) (.int .i64 u) (.int .i64 v) (.slice ga l.length gc) (.bool r)) := h40.sets _ _ _ _
    have HF7 : Hid (Fr7 (((((set7A w8 w.heap.size (.int .i64 A.u) (.int .i64 A.g) (.int .i64 A.o) (.slice aU A.us.length cU) (.slice aG A.gs.length cG) (.bool A.r) (.int .i64 A.m)).setCell ⟨w.heap.size + 1, 0, none⟩ (.int .i64 u)).setCell ⟨w.heap.size + 1, 1, none⟩ (.int .i64 v)).setCell ⟨w.heap.size + 1, 2, none⟩ (.slice ga l.length gc)).setCell ⟨w.heap.size + 1, 3, none⟩ (.bool r)) w.heap.size (.int .i64 A.u) (.int .i64 A.g) (.int .i64 A.o) (.slice aU A.us.length cU) (.slice aG A.gs.length cG) (.bool A.r) (.int .i64 A.m)) := h70.keep (by simp) (by rw [setA_block _ _ _ _ _ (by omega), setA_block _ _ _ _ _ (by omega), setA_block _ _ _ _ _ (by omega), setA_block _ _ _ _ _ (by omega)])
    have HRW : Hid (Rws w w1 (((((set7A w8 w.heap.size (.int .i64 A.u) (.int .i64 A.g) (.int .i64 A.o) (.slice aU A.us.length cU) (.slice aG A.gs.length cG) (.bool A.r) (.int .i64 A.m)).setCell ⟨w.heap.size + 1, 0, none⟩ (.int .i64 u)).setCell ⟨w.heap.size + 1, 1, none⟩ (.int .i64 v)).setCell ⟨w.heap.size + 1, 2, none⟩ (.slice ga l.length gc)).setCell ⟨w.heap.size + 1, 3, none⟩ (.bool r)) A aU cU aG cG) := ((((HD8.out.rws.set7 (Nat.le_refl _) (by omega)).set1 (by omega) (by omega)).set1 (by omega) (by omega)).set1 (by omega) (by omega)).set1 (by omega) (by omega)
    have HOF : Hid ((((((set7A w8 w.heap.size (.int .i64 A.u) (.int .i64 A.g) (.int .i64 A.o) (.slice aU A.us.length cU) (.slice aG A.gs.length cG) (.bool A.r) (.int .i64 A.m)).setCell ⟨w.heap.size + 1, 0, none⟩ (.int .i64 u)).setCell ⟨w.heap.size + 1, 1, none⟩ (.int .i64 v)).setCell ⟨w.heap.size + 1, 2, none⟩ (.slice ga l.length gc)).setCell ⟨w.heap.size + 1, 3, none⟩ (.bool r)).ownsRow w1.heap.size 2 1 (.slice ga l.length gc) l.length (ivD l)) := row_keepD (row_keepD (row_keepD (row_keepD (row_keepD HO8.out (fun k hk hlt => set7A_block _ _ _ _ _ _ _ _ _ _ (by omega))) (fun k hk _ => setA_block _ _ _ k _ (by omega))) (fun k hk _ => setA_block _ _ _ k _ (by omega))) (fun k hk _ => setA_block _ _ _ k _ (by omega))) (fun k hk _ => setA_block _ _ _ k _ (by omega))
    clear h70 h40 HO8 HR8 HT8 HD8 HX7 HC7 HR7 HT7 HD7 HO7
    go_wp2
    refine bodyPost_ret (v := .tuple #[.agg #[.int .i64 A.u, .int .i64 A.g, .int .i64 A.o, .slice aU A.us.length cU, .slice aG A.gs.length cG, .bool A.r, .int .i64 A.m], .int .i64 ow, .int .i64 gr, .agg #[.int .i64 u, .int .i64 v, .slice ga l.length gc, .bool r], .int .i64 z]) (by
      obtain ⟨⟨yl, y0, y1, y2, y3, y4, y5, y6⟩, _⟩ := HF7.out
      obtain ⟨tl, t0, t1, t2, t3, _⟩ := HF4.out
      unfold set7A at y0 y1 y2 y3 y4 y5 y6 t0 t1 t2 t3
      clear x0 x1 x2 x3 x4 x5 x6 c0 c1 c2 c3 xa0 xa1 xa2 xa3 xa4 xa5 xa6 ca0 ca1 ca2 ca3 ra0 ra1 ra2 ra3 ra4 ra5 ra6 rf ta0 ta1 ta2 ta3 tf
      generalize World.setCell _ _ _ = wf at y0 y1 y2 y3 y4 y5 y6 t0 t1 t2 t3 ⊢
      simp [results, Try.results42, go_sem, y0, y1, y2, y3, y4, y5, y6, t0, t1, t2, t3]) rfl ⟨A, aU, cU, aG, cG, ow, gr, u, v, l, ga, gc, r, z, rfl, HRW.out.from (by omega), row_fromD HOF.out (by omega), hl⟩
set_option maxRecDepth 100000 in
set_option maxHeartbeats 1000000 in
theorem dDrawAclClass_any (a : Option Addr) (len cap : Nat) (g : Nat → Int) (w : World) (hc : Code a len g w.heap.size w) :
    Calls Try.prog 43 #[.slice a len cap] w (MayIs w) := by
  have hbA := bel_alloc w (.cells #[.int .i64 0, .int .i64 0, .int .i64 0, .slice none 0 0, .slice none 0 0, .bool false, .int .i64 0] 25)
  have hbB := Below.on hbA (bel_alloc _ (.cells #[.int .i64 0, .int .i64 0, .slice none 0 0, .bool false] 44))
  have eA : (w.alloc (.cells #[.int .i64 0, .int .i64 0, .int .i64 0, .slice none 0 0, .slice none 0 0, .bool false, .int .i64 0] 25)).heap.size = w.heap.size + 1 := by simp
  have eB : ((w.alloc (.cells #[.int .i64 0, .int .i64 0, .int .i64 0, .slice none 0 0, .slice none 0 0, .bool false, .int .i64 0] 25)).alloc (.cells #[.int .i64 0, .int .i64 0, .slice none 0 0, .bool false] 44)).heap.size = w.heap.size + 2 := by simp
  have hR := (fr7_new w (.int .i64 0) (.int .i64 0) (.int .i64 0) (.slice none 0 0) (.slice none 0 0) (.bool false) (.int .i64 0) 25).below (bel_alloc _ (.cells #[.int .i64 0, .int .i64 0, .slice none 0 0, .bool false] 44))
  have hT := fr4_new (w.alloc (.cells #[.int .i64 0, .int .i64 0, .int .i64 0, .slice none 0 0, .slice none 0 0, .bool false, .int .i64 0] 25)) (.int .i64 0) (.int .i64 0) (.slice none 0 0) (.bool false) 44
  rw [eA] at hT
  have HC : Hid _ := hc.up hbB
  clear hc hbA eA
  go_enter Try.func43, Try.ntmps43
  go_wp2_with fail
  refine (dDrawAclMay_any a len cap g _ HC.out).mono ?_
  rintro e w1 ⟨A, aU, cU, aG, cG, ow, gr, u, v, l, ga, gc, r, z, rfl, hrw, hor, hl⟩
  have hR1 := hR.below hrw.bel
  have hT1 := hT.below hrw.bel
  have hrw2 : Rws w ((w.alloc (.cells #[.int .i64 0, .int .i64 0, .int .i64 0, .slice none 0 0, .slice none 0 0, .bool false, .int .i64 0] 25)).alloc (.cells #[.int .i64 0, .int .i64 0, .slice none 0 0, .bool false] 44)) w1 A aU cU aG cG := ⟨Below.on hbB hrw.bel, hrw.ru, hrw.rg, hrw.lu, hrw.lg⟩
  have h70 := hR1.sets (.int .i64 A.u) (.int .i64 A.g) (.int .i64 A.o) (.slice aU A.us.length cU) (.slice aG A.gs.length cG) (.bool A.r) (.int .i64 A.m)
  have h40 : Fr4 (set7A w1 w.heap.size (.int .i64 A.u) (.int .i64 A.g) (.int .i64 A.o) (.slice aU A.us.length cU) (.slice aG A.gs.length cG) (.bool A.r) (.int .i64 A.m)) (w.heap.size + 1) (.int .i64 0) (.int .i64 0) (.slice none 0 0) (.bool false) := hT1.keep (by rw [set7A_size]; exact Nat.le_refl _) (set7A_block _ _ _ _ _ _ _ _ _ _ (by omega))
  have HF4 : Hid (Fr4 (((((set7A w1 w.heap.size (.int .i64 A.u) (.int .i64 A.g) (.int .i64 A.o) (.slice aU A.us.length cU) (.slice aG A.gs.length cG) (.bool A.r) (.int .i64 A.m)).setCell ⟨w.heap.size + 1, 0, none⟩ (.int .i64 u)).setCell ⟨w.heap.size + 1, 1, none⟩ (.int .i64 v)).setCell ⟨w.heap.size + 1, 2, none⟩ (.slice ga l.length gc)).setCell ⟨w.heap.size + 1, 3, none⟩ (.bool r)) (w.heap.size + 1) (.int .i64 u) (.int .i64 v) (.slice ga l.length gc) (.bool r)) := h40.sets _ _ _ _
  have HF7 : Hid (Fr7 (((((set7A w1 w.heap.size (.int .i64 A.u) (.int .i64 A.g) (.int .i64 A.o) (.slice aU A.us.length cU) (.slice aG A.gs.length cG) (.bool A.r) (.int .i64 A.m)).setCell ⟨w.heap.size + 1, 0, none⟩ (.int .i64 u)).setCell ⟨w.heap.size + 1, 1, none⟩ (.int .i64 v)).setCell ⟨w.heap.size + 1, 2, none⟩ (.slice ga l.length gc)).setCell ⟨w.heap.size + 1, 3, none⟩ (.bool r)) w.heap.size (.int .i64 A.u) (.int .i64 A.g) (.int .i64 A.o) (.slice aU A.us.length cU) (.slice aG A.gs.length cG) (.bool A.r) (.int .i64 A.m)) := h70.keep (by simp) (by rw [setA_block _ _ _ _ _ (by omega), setA_block _ _ _ _ _ (by omega), setA_block _ _ _ _ _ (by omega), setA_block _ _ _ _ _ (by omega)])
  have HRW : Hid (Rws w ((w.alloc (.cells #[.int .i64 0, .int .i64 0, .int .i64 0, .slice none 0 0, .slice none 0 0, .bool false, .int .i64 0] 25)).alloc (.cells #[.int .i64 0, .int .i64 0, .slice none 0 0, .bool false] 44)) (((((set7A w1 w.heap.size (.int .i64 A.u) (.int .i64 A.g) (.int .i64 A.o) (.slice aU A.us.length cU) (.slice aG A.gs.length cG) (.bool A.r) (.int .i64 A.m)).setCell ⟨w.heap.size + 1, 0, none⟩ (.int .i64 u)).setCell ⟨w.heap.size + 1, 1, none⟩ (.int .i64 v)).setCell ⟨w.heap.size + 1, 2, none⟩ (.slice ga l.length gc)).setCell ⟨w.heap.size + 1, 3, none⟩ (.bool r)) A aU cU aG cG) := ((((hrw2.set7 (Nat.le_refl _) (by omega)).set1 (by omega) (by omega)).set1 (by omega) (by omega)).set1 (by omega) (by omega)).set1 (by omega) (by omega)
  have HOF : Hid ((((((set7A w1 w.heap.size (.int .i64 A.u) (.int .i64 A.g) (.int .i64 A.o) (.slice aU A.us.length cU) (.slice aG A.gs.length cG) (.bool A.r) (.int .i64 A.m)).setCell ⟨w.heap.size + 1, 0, none⟩ (.int .i64 u)).setCell ⟨w.heap.size + 1, 1, none⟩ (.int .i64 v)).setCell ⟨w.heap.size + 1, 2, none⟩ (.slice ga l.length gc)).setCell ⟨w.heap.size + 1, 3, none⟩ (.bool r)).ownsRow ((w.alloc (.cells #[.int .i64 0, .int .i64 0, .int .i64 0, .slice none 0 0, .slice none 0 0, .bool false, .int .i64 0] 25)).alloc (.cells #[.int .i64 0, .int .i64 0, .slice none 0 0, .bool false] 44)).heap.size 2 1 (.slice ga l.length gc) l.length (ivD l)) := row_keepD (row_keepD (row_keepD (row_keepD (row_keepD hor (fun k hk hlt => set7A_block _ _ _ _ _ _ _ _ _ _ (by omega))) (fun k hk _ => setA_block _ _ _ k _ (by omega))) (fun k hk _ => setA_block _ _ _ k _ (by omega))) (fun k hk _ => setA_block _ _ _ k _ (by omega))) (fun k hk _ => setA_block _ _ _ k _ (by omega))
  obtain ⟨⟨_, ra0, ra1, ra2, ra3, ra4, ra5, ra6⟩, rf⟩ := hR1
  obtain ⟨_, ta0, ta1, ta2, ta3, tf⟩ := hT1
  clear h70 h40 hor hrw hrw2 hR hT HC
  go_wp2
  refine bodyPost_ret (v := .tuple #[.agg #[.int .i64 A.u, .int .i64 A.g, .int .i64 A.o, .slice aU A.us.length cU, .slice aG A.gs.length cG, .bool A.r, .int .i64 A.m], .int .i64 ow, .int .i64 gr, .agg #[.int .i64 u, .int .i64 v, .slice ga l.length gc, .bool r], .int .i64 z]) (by
    obtain ⟨⟨yl, y0, y1, y2, y3, y4, y5, y6⟩, _⟩ := HF7.out
    obtain ⟨tl, t0, t1, t2, t3, _⟩ := HF4.out
    unfold set7A at y0 y1 y2 y3 y4 y5 y6 t0 t1 t2 t3
    clear ra0 ra1 ra2 ra3 ra4 ra5 ra6 rf ta0 ta1 ta2 ta3 tf
    generalize World.setCell _ _ _ = wf at y0 y1 y2 y3 y4 y5 y6 t0 t1 t2 t3 ⊢
    simp [results, Try.results43, go_sem, y0, y1, y2, y3, y4, y5, y6, t0, t1, t2, t3]) rfl ⟨A, aU, cU, aG, cG, ow, gr, u, v, l, ga, gc, r, z, rfl, HRW.out.from (by omega), row_fromD HOF.out (by omega), hl⟩
end Go.Proofs.Ytgojbilbkfilgaa
