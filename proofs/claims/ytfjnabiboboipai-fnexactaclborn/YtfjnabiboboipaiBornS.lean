/- spec.l03Born and spec.AclBorn. -/
import Derived.Test.YtfjnabiboboipaiBorn
namespace Go.Proofs.Ytfjnabiboboipai
open Go.RowKit Go.PlainAid Go.Deep
set_option linter.unusedVariables false
theorem divmod8 {n : Int} (h0 : 0 ≤ n) (h1 : n ≤ 4095) : (IntKind.i64.wrap (n.tdiv 8)).tmod 8 = n / 8 % 8 := by
  have e : n.tdiv 8 = n / 8 := Int.tdiv_eq_ediv_of_nonneg h0
  have e2 : IntKind.i64.wrap (n / 8) = n / 8 := by rw [IntKind.wrap_i64]; omega
  rw [e, e2, Int.tmod_eq_emod_of_nonneg (by omega)]
theorem divmod64 {n : Int} (h0 : 0 ≤ n) (h1 : n ≤ 4095) : (IntKind.i64.wrap (n.tdiv 64)).tmod 8 = n / 64 % 8 := by
  have e : n.tdiv 64 = n / 64 := Int.tdiv_eq_ediv_of_nonneg h0
  have e2 : IntKind.i64.wrap (n / 64) = n / 64 := by rw [IntKind.wrap_i64]; omega
  rw [e, e2, Int.tmod_eq_emod_of_nonneg (by omega)]
theorem modd8 {n : Int} (h0 : 0 ≤ n) : n.tmod 8 = n % 8 := Int.tmod_eq_emod_of_nonneg h0
/-- What is known behind the making of the box that holds the new list. -/
structure PkE (w v w7 : World) (X : Nat) (u g o : Int) (au : Option Addr) (lu cu : Nat) (ag : Option Addr) (lg cg : Nat) (r : Bool) (m : Int) (us gs : List (Int × Int)) (gS mS : Int) (a1 : Option Addr) (c1 : Nat) (a2 : Option Addr) (c2 : Nat) : Prop where
  bel : Below v.heap.size v w7
  new : New w w7 a1 lu us a2 lg gs
  box : Box7 w7 X (.int .i64 u) (.int .i64 gS) (.int .i64 o) (.slice a1 lu c1) (.slice a2 lg c2) (.bool r) (.int .i64 mS)
  fr0 : w7.frozen? ⟨X, 0, none⟩ = false
  fr2 : w7.frozen? ⟨X, 2, none⟩ = false
  xge : v.heap.size ≤ X
  xn1 : ∀ A, a1 = some A → X ≠ A.block
  xn2 : ∀ A, a2 = some A → X ≠ A.block
theorem pkE_last {w v w6 : World} {u g o : Int} {au : Option Addr} {lu cu : Nat} {ag : Option Addr} {lg cg : Nat} {r : Bool} {m : Int} {us gs : List (Int × Int)} {gS mS : Int} {a1 : Option Addr} {c1 : Nat} {a2 : Option Addr} {c2 : Nat} {t : TypeId} (hb : Below v.heap.size v w6) (hN : New w w6 a1 lu us a2 lg gs) :
    PkE w v (w6.alloc (.cells #[.int .i64 u, .int .i64 gS, .int .i64 o, .slice a1 lu c1, .slice a2 lg c2, .bool r, .int .i64 mS] t)) w6.heap.size u g o au lu cu ag lg cg r m us gs gS mS a1 c1 a2 c2 := by
  have hba := bel_alloc w6 (.cells #[.int .i64 u, .int .i64 gS, .int .i64 o, .slice a1 lu c1, .slice a2 lg c2, .bool r, .int .i64 mS] t)
  refine ⟨Below.on hb hba, hN.on hba, box7_new w6 (.int .i64 u) (.int .i64 gS) (.int .i64 o) (.slice a1 lu c1) (.slice a2 lg c2) (.bool r) (.int .i64 mS) t, by simp [go_sem], by simp [go_sem], hb.size, fun A e => by have := (hN.iu A e).2; omega, fun A e => by have := (hN.ig A e).2; omega⟩
theorem pkE_early {w v w6 : World} {X : Nat} {u g o : Int} {au : Option Addr} {lu cu : Nat} {ag : Option Addr} {lg cg : Nat} {r : Bool} {m : Int} {us gs : List (Int × Int)} {gS mS : Int} {a1 : Option Addr} {c1 : Nat} {a2 : Option Addr} {c2 : Nat} (hb : Below v.heap.size v w6) (hN : New w w6 a1 lu us a2 lg gs) (hX : v.heap.size ≤ X) (hw : w.heap.size ≤ X) (h1 : ∀ A, a1 = some A → X ≠ A.block) (h2 : ∀ A, a2 = some A → X ≠ A.block) (hx : Box7 w6 X (.int .i64 0) (.int .i64 0) (.int .i64 0) (.slice none 0 0) (.slice none 0 0) (.bool false) (.int .i64 0)) (hf : w6.frozen? ⟨X, 0, none⟩ = false ∧ w6.frozen? ⟨X, 2, none⟩ = false) :
    PkE w v (((((((w6.setCell ⟨X, 0, none⟩ (.int .i64 u)).setCell ⟨X, 1, none⟩ (.int .i64 gS)).setCell ⟨X, 2, none⟩ (.int .i64 o)).setCell ⟨X, 3, none⟩ (.slice a1 lu c1)).setCell ⟨X, 4, none⟩ (.slice a2 lg c2)).setCell ⟨X, 5, none⟩ (.bool r)).setCell ⟨X, 6, none⟩ (.int .i64 mS)) X u g o au lu cu ag lg cg r m us gs gS mS a1 c1 a2 c2 := by
  obtain ⟨hl, c0, c1', c2', c3, c4, c5, c6⟩ := hx
  refine ⟨?_, ?_, ⟨by simpa using hl, ?_, ?_, ?_, ?_, ?_, ?_, ?_⟩, ?_, ?_, hX, h1, h2⟩
  · iterate 7 (refine bl_setN ?_ hX)
    exact hb
  · iterate 7 (refine New.set ?_ hw h1 h2)
    exact hN
  all_goals first
    | (simp [go_sem, c0, c1', c2', c3, c4, c5, c6]; done)
    | (simp only [World.frozen?_setCell]; first | exact hf.1 | exact hf.2)
set_option maxRecDepth 100000 in
set_option maxHeartbeats 8000000 in
/-- spec.l03Born of a mode. -/
theorem sBorn03_any (u g o : Int) (au : Option Addr) (lu cu : Nat) (ag : Option Addr) (lg cg : Nat) (r : Bool) (m : Int) (us gs : List (Int × Int)) (n : Int) (n0 : 0 ≤ n) (n1 : n ≤ 4095) (ha : aclB u g o us gs r m = true) (w : World) (hu : Prs au lu us w) (hg : Prs ag lg gs w) (hl1 : lu ≤ 1000000) (hl2 : lg ≤ 1000000) :
    Calls Try.prog 60 #[.agg #[.int .i64 u, .int .i64 g, .int .i64 o, .slice au lu cu, .slice ag lg cg, .bool r, .int .i64 m], .int .i64 n] w fun e w' => ∃ a1 c1 a2 c2, e = .returned (.agg #[.int .i64 (andI u (n / 64 % 8)), .int .i64 (gSet r g (andI (clsOf g r m) (n / 8 % 8))), .int .i64 (andI o (n % 8)), .slice a1 lu c1, .slice a2 lg c2, .bool r, .int .i64 (mSet r m (andI (clsOf g r m) (n / 8 % 8)))]) ∧ New w w' a1 lu us a2 lg gs := by
  have hc : Hid (∀ w', Below w.heap.size w w' → Calls Try.prog 63 #[.agg #[.int .i64 u, .int .i64 g, .int .i64 o, .slice au lu cu, .slice ag lg cg, .bool r, .int .i64 m]] w' fun e w'' => ∃ a1 c1 a2 c2, e = .returned (.agg #[.int .i64 u, .int .i64 g, .int .i64 o, .slice a1 lu c1, .slice a2 lg c2, .bool r, .int .i64 m]) ∧ New w' w'' a1 lu us a2 lg gs) := (fun w' hb => sCopy_any u g o au lu cu ag lg cg r m us gs w' (hu.below hb) (hg.below hb) hl1 hl2)
  obtain ⟨⟨u0, u1⟩, _, ⟨o0, o1⟩, _⟩ := aclB_parts ha
  obtain ⟨q0, q1⟩ := clsOf_in ha
  have hgc : Hid (∀ w, Calls Try.prog 71 #[.agg #[.int .i64 u, .int .i64 g, .int .i64 o, .slice au lu cu, .slice ag lg cg, .bool r, .int .i64 m]] w fun e w' => e = .returned (.int .i64 (clsOf g r m)) ∧ Below w.heap.size w w') := sClass_any u g o au lu cu ag lg cg r m
  clear hu hg ha
  generalize clsOf g r m = cls at hgc q0 q1 ⊢
  have hbt : Hid (∀ (k : Int) w, k = n / 8 % 8 → Calls Try.prog 87 #[.int .i64 cls, .int .i64 k] w fun e w' => e = .returned (.int .i64 (andI cls (n / 8 % 8))) ∧ w' = w) := (fun k w hk => by subst hk; exact sBoth_any cls (n / 8 % 8) q0 (by omega) (by omega) (by omega) w)
  have hbu : Hid (∀ (k : Int) w, k = n / 64 % 8 → Calls Try.prog 87 #[.int .i64 u, .int .i64 k] w fun e w' => e = .returned (.int .i64 (andI u (n / 64 % 8))) ∧ w' = w) := (fun k w hk => by subst hk; exact sBoth_any u (n / 64 % 8) u0 (by omega) (by omega) (by omega) w)
  have hbo : Hid (∀ (k : Int) w, k = n % 8 → Calls Try.prog 87 #[.int .i64 o, .int .i64 k] w fun e w' => e = .returned (.int .i64 (andI o (n % 8))) ∧ w' = w) := (fun k w hk => by subst hk; exact sBoth_any o (n % 8) o0 (by omega) (by omega) (by omega) w)
  clear u0 u1 o0 o1 q0 q1
  have HX0 : Hid (Box7 ((w.alloc (.cells #[.int .i64 u, .int .i64 g, .int .i64 o, .slice au lu cu, .slice ag lg cg, .bool r, .int .i64 m] 33)).alloc (.cells #[.int .i64 0, .int .i64 0, .int .i64 0, .slice none 0 0, .slice none 0 0, .bool false, .int .i64 0] 33)) w.heap.size (.int .i64 u) (.int .i64 g) (.int .i64 o) (.slice au lu cu) (.slice ag lg cg) (.bool r) (.int .i64 m)) := (box7_new w (.int .i64 u) (.int .i64 g) (.int .i64 o) (.slice au lu cu) (.slice ag lg cg) (.bool r) (.int .i64 m) 33).below (bel_alloc _ _)
  have HR0 : Hid (Box7 ((w.alloc (.cells #[.int .i64 u, .int .i64 g, .int .i64 o, .slice au lu cu, .slice ag lg cg, .bool r, .int .i64 m] 33)).alloc (.cells #[.int .i64 0, .int .i64 0, .int .i64 0, .slice none 0 0, .slice none 0 0, .bool false, .int .i64 0] 33)) (w.heap.size + 1) (.int .i64 0) (.int .i64 0) (.int .i64 0) (.slice none 0 0) (.slice none 0 0) (.bool false) (.int .i64 0)) := (by have := box7_new (w.alloc (.cells #[.int .i64 u, .int .i64 g, .int .i64 o, .slice au lu cu, .slice ag lg cg, .bool r, .int .i64 m] 33)) (.int .i64 0) (.int .i64 0) (.int .i64 0) (.slice none 0 0) (.slice none 0 0) (.bool false) (.int .i64 0) 33; have hz : (w.alloc (.cells #[.int .i64 u, .int .i64 g, .int .i64 o, .slice au lu cu, .slice ag lg cg, .bool r, .int .i64 m] 33)).heap.size = w.heap.size + 1 := (by simp); rw [hz] at this; exact this)
  have HF0 : Hid (∀ k, k < 7 → ((w.alloc (.cells #[.int .i64 u, .int .i64 g, .int .i64 o, .slice au lu cu, .slice ag lg cg, .bool r, .int .i64 m] 33)).alloc (.cells #[.int .i64 0, .int .i64 0, .int .i64 0, .slice none 0 0, .slice none 0 0, .bool false, .int .i64 0] 33)).frozen? ⟨w.heap.size + 1, k, none⟩ = false) := (fun k hk => by
    rcases (by omega : k = 0 ∨ k = 1 ∨ k = 2 ∨ k = 3 ∨ k = 4 ∨ k = 5 ∨ k = 6) with rfl | rfl | rfl | rfl | rfl | rfl | rfl <;> simp [go_sem])
  have hW1 : Hid (Below w.heap.size w ((w.alloc (.cells #[.int .i64 u, .int .i64 g, .int .i64 o, .slice au lu cu, .slice ag lg cg, .bool r, .int .i64 m] 33)).alloc (.cells #[.int .i64 0, .int .i64 0, .int .i64 0, .slice none 0 0, .slice none 0 0, .bool false, .int .i64 0] 33))) := bl2N _ _ _
  have hz1 : Hid (((w.alloc (.cells #[.int .i64 u, .int .i64 g, .int .i64 o, .slice au lu cu, .slice ag lg cg, .bool r, .int .i64 m] 33)).alloc (.cells #[.int .i64 0, .int .i64 0, .int .i64 0, .slice none 0 0, .slice none 0 0, .bool false, .int .i64 0] 33)).heap.size = w.heap.size + 1 + 1) := (by show _ = _; simp)
  go_enter Try.func60, Try.ntmps60
  go_wp2_with fail
  generalize ((w.alloc (.cells #[.int .i64 u, .int .i64 g, .int .i64 o, .slice au lu cu, .slice ag lg cg, .bool r, .int .i64 m] 33)).alloc (.cells #[.int .i64 0, .int .i64 0, .int .i64 0, .slice none 0 0, .slice none 0 0, .bool false, .int .i64 0] 33)) = w1 at HX0 HR0 HF0 hW1 hz1 ⊢
  obtain ⟨xl, x0, x1, x2, x3, x4, x5, x6⟩ := HX0.out
  go_region_held3 (fun w' => w'.cell? ⟨w.heap.size, 0, none⟩ = some (.int .i64 u) ∧ w'.cell? ⟨w.heap.size, 1, none⟩ = some (.int .i64 g) ∧ w'.cell? ⟨w.heap.size, 2, none⟩ = some (.int .i64 o) ∧ w'.cell? ⟨w.heap.size, 3, none⟩ = some (.slice au lu cu) ∧ w'.cell? ⟨w.heap.size, 4, none⟩ = some (.slice ag lg cg) ∧ w'.cell? ⟨w.heap.size, 5, none⟩ = some (.bool r) ∧ w'.cell? ⟨w.heap.size, 6, none⟩ = some (.int .i64 m)) (go_keep)
    (first
      | (go_at_call 63; (first
          | (refine (hc.out _ (below_drewD hW1.out)).mono ?_; rintro e w3 ⟨a1, c1, a2, c2, rfl, hN3⟩; have hb3 := hN3.bel; have hB3 : Hid (Below w1.heap.size w1 w3) := below_drewE hb3; have hNN : Hid (New w1 w3 a1 lu us a2 lg gs) := ⟨hN3.ou, hN3.og, hN3.iu, hN3.ig, hN3.ne, hB3.out⟩)
          | (refine (hc.out _ (Below.onA (below_drewD hW1.out))).mono ?_; rintro e w3 ⟨a1, c1, a2, c2, rfl, hN3⟩; have hb3 := hN3.bel; have hB3 : Hid (Below w1.heap.size w1 w3) := below_drewE (Below.on (bel_alloc _ _) hb3); have hneA : ¬ w1.heap.size = w.heap.size := (by have := hz1.out; omega); have hnfA : ¬ w.heap.size = w1.heap.size := (fun h => hneA h.symm); have hbxAw3 : Box7 w3 w1.heap.size (.int .i64 0) (.int .i64 0) (.int .i64 0) (.slice none 0 0) (.slice none 0 0) (.bool false) (.int .i64 0) := (box7_new w1.drew (.int .i64 0) (.int .i64 0) (.int .i64 0) (.slice none 0 0) (.slice none 0 0) (.bool false) (.int .i64 0) 33).below hb3; have hfxAw3 : w3.frozen? ⟨w1.heap.size, 0, none⟩ = false ∧ w3.frozen? ⟨w1.heap.size, 1, none⟩ = false ∧ w3.frozen? ⟨w1.heap.size, 2, none⟩ = false ∧ w3.frozen? ⟨w1.heap.size, 3, none⟩ = false ∧ w3.frozen? ⟨w1.heap.size, 4, none⟩ = false ∧ w3.frozen? ⟨w1.heap.size, 5, none⟩ = false ∧ w3.frozen? ⟨w1.heap.size, 6, none⟩ = false := (by refine ⟨?_, ?_, ?_, ?_, ?_, ?_, ?_⟩ <;> (rw [hb3.frozen (p := ⟨w1.heap.size, _, none⟩) (by simp)]; simp [go_sem])); have blAw3 := hbxAw3.lt; have b0Aw3 := hbxAw3.c0; have b1Aw3 := hbxAw3.c1; have b2Aw3 := hbxAw3.c2; have b3Aw3 := hbxAw3.c3; have b4Aw3 := hbxAw3.c4; have b5Aw3 := hbxAw3.c5; have b6Aw3 := hbxAw3.c6; have f0Aw3 := hfxAw3.1; have f1Aw3 := hfxAw3.2.1; have f2Aw3 := hfxAw3.2.2.1; have f3Aw3 := hfxAw3.2.2.2.1; have f4Aw3 := hfxAw3.2.2.2.2.1; have f5Aw3 := hfxAw3.2.2.2.2.2.1; have f6Aw3 := hfxAw3.2.2.2.2.2.2; have hNN : Hid (New w1 w3 a1 lu us a2 lg gs) := ⟨hN3.ou, hN3.og, fun A e => (by have := hN3.iu A e; simp at this; omega), fun A e => (by have := hN3.ig A e; simp at this; omega), hN3.ne, hB3.out⟩; have hA1 : Hid (∀ A, a1 = some A → w1.heap.size ≠ A.block) := (fun A e => by have := (hN3.iu A e).1; simp at this; omega); have hA2 : Hid (∀ A, a2 = some A → w1.heap.size ≠ A.block) := (fun A e => by have := (hN3.ig A e).1; simp at this; omega))); obtain ⟨pl, pa, pb, pc, pd, pe, pf, pg⟩ := HX0.out.below hB3.out)
      | (go_at_call 71; refine (hgc.out _).mono ?_; rintro e w4 ⟨rfl, hb4⟩; (first
          | (have hB4 : Hid (Below w3.heap.size w3 w4) := hb4; (try (have hbxAw4 : Box7 w4 w1.heap.size (.int .i64 0) (.int .i64 0) (.int .i64 0) (.slice none 0 0) (.slice none 0 0) (.bool false) (.int .i64 0) := hbxAw3.below hb4; have hfxAw4 : w4.frozen? ⟨w1.heap.size, 0, none⟩ = false ∧ w4.frozen? ⟨w1.heap.size, 1, none⟩ = false ∧ w4.frozen? ⟨w1.heap.size, 2, none⟩ = false ∧ w4.frozen? ⟨w1.heap.size, 3, none⟩ = false ∧ w4.frozen? ⟨w1.heap.size, 4, none⟩ = false ∧ w4.frozen? ⟨w1.heap.size, 5, none⟩ = false ∧ w4.frozen? ⟨w1.heap.size, 6, none⟩ = false := ⟨(hb4.frozen (p := ⟨w1.heap.size, 0, none⟩) hbxAw3.lt).trans hfxAw3.1, (hb4.frozen (p := ⟨w1.heap.size, 1, none⟩) hbxAw3.lt).trans hfxAw3.2.1, (hb4.frozen (p := ⟨w1.heap.size, 2, none⟩) hbxAw3.lt).trans hfxAw3.2.2.1, (hb4.frozen (p := ⟨w1.heap.size, 3, none⟩) hbxAw3.lt).trans hfxAw3.2.2.2.1, (hb4.frozen (p := ⟨w1.heap.size, 4, none⟩) hbxAw3.lt).trans hfxAw3.2.2.2.2.1, (hb4.frozen (p := ⟨w1.heap.size, 5, none⟩) hbxAw3.lt).trans hfxAw3.2.2.2.2.2.1, (hb4.frozen (p := ⟨w1.heap.size, 6, none⟩) hbxAw3.lt).trans hfxAw3.2.2.2.2.2.2⟩; have blAw4 := hbxAw4.lt; have b0Aw4 := hbxAw4.c0; have b1Aw4 := hbxAw4.c1; have b2Aw4 := hbxAw4.c2; have b3Aw4 := hbxAw4.c3; have b4Aw4 := hbxAw4.c4; have b5Aw4 := hbxAw4.c5; have b6Aw4 := hbxAw4.c6; have f0Aw4 := hfxAw4.1; have f1Aw4 := hfxAw4.2.1; have f2Aw4 := hfxAw4.2.2.1; have f3Aw4 := hfxAw4.2.2.2.1; have f4Aw4 := hfxAw4.2.2.2.2.1; have f5Aw4 := hfxAw4.2.2.2.2.2.1; have f6Aw4 := hfxAw4.2.2.2.2.2.2)))
          | (have hB4 : Hid (Below w3.heap.size w3 w4) := Below.on (bel_alloc _ _) hb4; have hneB : ¬ w3.heap.size = w.heap.size := (by have := hz1.out; have h2 := hB3.out.size; omega); have hnfB : ¬ w.heap.size = w3.heap.size := (fun h => hneB h.symm); have hbxBw4 : Box7 w4 w3.heap.size (.int .i64 0) (.int .i64 0) (.int .i64 0) (.slice none 0 0) (.slice none 0 0) (.bool false) (.int .i64 0) := (box7_new w3 (.int .i64 0) (.int .i64 0) (.int .i64 0) (.slice none 0 0) (.slice none 0 0) (.bool false) (.int .i64 0) 33).below hb4; have hfxBw4 : w4.frozen? ⟨w3.heap.size, 0, none⟩ = false ∧ w4.frozen? ⟨w3.heap.size, 1, none⟩ = false ∧ w4.frozen? ⟨w3.heap.size, 2, none⟩ = false ∧ w4.frozen? ⟨w3.heap.size, 3, none⟩ = false ∧ w4.frozen? ⟨w3.heap.size, 4, none⟩ = false ∧ w4.frozen? ⟨w3.heap.size, 5, none⟩ = false ∧ w4.frozen? ⟨w3.heap.size, 6, none⟩ = false := (by refine ⟨?_, ?_, ?_, ?_, ?_, ?_, ?_⟩ <;> (rw [hb4.frozen (p := ⟨w3.heap.size, _, none⟩) (by simp)]; simp [go_sem])); have blBw4 := hbxBw4.lt; have b0Bw4 := hbxBw4.c0; have b1Bw4 := hbxBw4.c1; have b2Bw4 := hbxBw4.c2; have b3Bw4 := hbxBw4.c3; have b4Bw4 := hbxBw4.c4; have b5Bw4 := hbxBw4.c5; have b6Bw4 := hbxBw4.c6; have f0Bw4 := hfxBw4.1; have f1Bw4 := hfxBw4.2.1; have f2Bw4 := hfxBw4.2.2.1; have f3Bw4 := hfxBw4.2.2.2.1; have f4Bw4 := hfxBw4.2.2.2.2.1; have f5Bw4 := hfxBw4.2.2.2.2.2.1; have f6Bw4 := hfxBw4.2.2.2.2.2.2)); obtain ⟨ql, qa, qb, qc, qd, qe, qf, qg⟩ := HX0.out.below (Below.on hB3.out hB4.out))
      | (go_at_call 87; refine (hbt.out _ _ (by first | rfl | exact divmod8 n0 n1)).mono ?_; rintro e w4 ⟨rfl, rfl⟩)
      | (go_at_call 84; refine (sSet_any u g o a1 lu c1 a2 lg c2 r m (andI cls (n / 8 % 8)) _).mono ?_; rintro e w6 ⟨rfl, hb6⟩; (first
          | (have hB6 : Hid (Below w4.heap.size w4 w6) := hb6; (try (have hbxAw6 : Box7 w6 w1.heap.size (.int .i64 0) (.int .i64 0) (.int .i64 0) (.slice none 0 0) (.slice none 0 0) (.bool false) (.int .i64 0) := hbxAw4.below hb6; have hfxAw6 : w6.frozen? ⟨w1.heap.size, 0, none⟩ = false ∧ w6.frozen? ⟨w1.heap.size, 1, none⟩ = false ∧ w6.frozen? ⟨w1.heap.size, 2, none⟩ = false ∧ w6.frozen? ⟨w1.heap.size, 3, none⟩ = false ∧ w6.frozen? ⟨w1.heap.size, 4, none⟩ = false ∧ w6.frozen? ⟨w1.heap.size, 5, none⟩ = false ∧ w6.frozen? ⟨w1.heap.size, 6, none⟩ = false := ⟨(hb6.frozen (p := ⟨w1.heap.size, 0, none⟩) hbxAw4.lt).trans hfxAw4.1, (hb6.frozen (p := ⟨w1.heap.size, 1, none⟩) hbxAw4.lt).trans hfxAw4.2.1, (hb6.frozen (p := ⟨w1.heap.size, 2, none⟩) hbxAw4.lt).trans hfxAw4.2.2.1, (hb6.frozen (p := ⟨w1.heap.size, 3, none⟩) hbxAw4.lt).trans hfxAw4.2.2.2.1, (hb6.frozen (p := ⟨w1.heap.size, 4, none⟩) hbxAw4.lt).trans hfxAw4.2.2.2.2.1, (hb6.frozen (p := ⟨w1.heap.size, 5, none⟩) hbxAw4.lt).trans hfxAw4.2.2.2.2.2.1, (hb6.frozen (p := ⟨w1.heap.size, 6, none⟩) hbxAw4.lt).trans hfxAw4.2.2.2.2.2.2⟩; have blAw6 := hbxAw6.lt; have b0Aw6 := hbxAw6.c0; have b1Aw6 := hbxAw6.c1; have b2Aw6 := hbxAw6.c2; have b3Aw6 := hbxAw6.c3; have b4Aw6 := hbxAw6.c4; have b5Aw6 := hbxAw6.c5; have b6Aw6 := hbxAw6.c6; have f0Aw6 := hfxAw6.1; have f1Aw6 := hfxAw6.2.1; have f2Aw6 := hfxAw6.2.2.1; have f3Aw6 := hfxAw6.2.2.2.1; have f4Aw6 := hfxAw6.2.2.2.2.1; have f5Aw6 := hfxAw6.2.2.2.2.2.1; have f6Aw6 := hfxAw6.2.2.2.2.2.2)); (try (have hbxBw6 : Box7 w6 w3.heap.size (.int .i64 0) (.int .i64 0) (.int .i64 0) (.slice none 0 0) (.slice none 0 0) (.bool false) (.int .i64 0) := hbxBw4.below hb6; have hfxBw6 : w6.frozen? ⟨w3.heap.size, 0, none⟩ = false ∧ w6.frozen? ⟨w3.heap.size, 1, none⟩ = false ∧ w6.frozen? ⟨w3.heap.size, 2, none⟩ = false ∧ w6.frozen? ⟨w3.heap.size, 3, none⟩ = false ∧ w6.frozen? ⟨w3.heap.size, 4, none⟩ = false ∧ w6.frozen? ⟨w3.heap.size, 5, none⟩ = false ∧ w6.frozen? ⟨w3.heap.size, 6, none⟩ = false := ⟨(hb6.frozen (p := ⟨w3.heap.size, 0, none⟩) hbxBw4.lt).trans hfxBw4.1, (hb6.frozen (p := ⟨w3.heap.size, 1, none⟩) hbxBw4.lt).trans hfxBw4.2.1, (hb6.frozen (p := ⟨w3.heap.size, 2, none⟩) hbxBw4.lt).trans hfxBw4.2.2.1, (hb6.frozen (p := ⟨w3.heap.size, 3, none⟩) hbxBw4.lt).trans hfxBw4.2.2.2.1, (hb6.frozen (p := ⟨w3.heap.size, 4, none⟩) hbxBw4.lt).trans hfxBw4.2.2.2.2.1, (hb6.frozen (p := ⟨w3.heap.size, 5, none⟩) hbxBw4.lt).trans hfxBw4.2.2.2.2.2.1, (hb6.frozen (p := ⟨w3.heap.size, 6, none⟩) hbxBw4.lt).trans hfxBw4.2.2.2.2.2.2⟩; have blBw6 := hbxBw6.lt; have b0Bw6 := hbxBw6.c0; have b1Bw6 := hbxBw6.c1; have b2Bw6 := hbxBw6.c2; have b3Bw6 := hbxBw6.c3; have b4Bw6 := hbxBw6.c4; have b5Bw6 := hbxBw6.c5; have b6Bw6 := hbxBw6.c6; have f0Bw6 := hfxBw6.1; have f1Bw6 := hfxBw6.2.1; have f2Bw6 := hfxBw6.2.2.1; have f3Bw6 := hfxBw6.2.2.2.1; have f4Bw6 := hfxBw6.2.2.2.2.1; have f5Bw6 := hfxBw6.2.2.2.2.2.1; have f6Bw6 := hfxBw6.2.2.2.2.2.2)))
          | (have hB6 : Hid (Below w4.heap.size w4 w6) := Below.on (bel_alloc _ _) hb6; have hneC : ¬ w4.heap.size = w.heap.size := (by have := hz1.out; have h2 := hB3.out.size; have h3 := hB4.out.size; omega); have hnfC : ¬ w.heap.size = w4.heap.size := (fun h => hneC h.symm); have hbxCw6 : Box7 w6 w4.heap.size (.int .i64 0) (.int .i64 0) (.int .i64 0) (.slice none 0 0) (.slice none 0 0) (.bool false) (.int .i64 0) := (box7_new w4 (.int .i64 0) (.int .i64 0) (.int .i64 0) (.slice none 0 0) (.slice none 0 0) (.bool false) (.int .i64 0) 33).below hb6; have hfxCw6 : w6.frozen? ⟨w4.heap.size, 0, none⟩ = false ∧ w6.frozen? ⟨w4.heap.size, 1, none⟩ = false ∧ w6.frozen? ⟨w4.heap.size, 2, none⟩ = false ∧ w6.frozen? ⟨w4.heap.size, 3, none⟩ = false ∧ w6.frozen? ⟨w4.heap.size, 4, none⟩ = false ∧ w6.frozen? ⟨w4.heap.size, 5, none⟩ = false ∧ w6.frozen? ⟨w4.heap.size, 6, none⟩ = false := (by refine ⟨?_, ?_, ?_, ?_, ?_, ?_, ?_⟩ <;> (rw [hb6.frozen (p := ⟨w4.heap.size, _, none⟩) (by simp)]; simp [go_sem])); have blCw6 := hbxCw6.lt; have b0Cw6 := hbxCw6.c0; have b1Cw6 := hbxCw6.c1; have b2Cw6 := hbxCw6.c2; have b3Cw6 := hbxCw6.c3; have b4Cw6 := hbxCw6.c4; have b5Cw6 := hbxCw6.c5; have b6Cw6 := hbxCw6.c6; have f0Cw6 := hfxCw6.1; have f1Cw6 := hfxCw6.2.1; have f2Cw6 := hfxCw6.2.2.1; have f3Cw6 := hfxCw6.2.2.2.1; have f4Cw6 := hfxCw6.2.2.2.2.1; have f5Cw6 := hfxCw6.2.2.2.2.2.1; have f6Cw6 := hfxCw6.2.2.2.2.2.2)); obtain ⟨sl, sa, sb, sc, sd, se, sf, sg⟩ := HX0.out.below (Below.on hB3.out (Below.on hB4.out hB6.out))))
  all_goals (
    have h16 : Below w1.heap.size w1 w6 := Below.on hB3.out (Below.on hB4.out hB6.out)
    have HN6 : Hid (New w w6 a1 lu us a2 lg gs) := (hNN.out.pre hW1.out).on (Below.on hB4.out hB6.out)
    first
      | (have hPK : Hid (PkE w w1 (((((((w6.setCell ⟨w4.heap.size, 0, none⟩ (.int .i64 u)).setCell ⟨w4.heap.size, 1, none⟩ (.int .i64 (gSet r g (andI cls (n / 8 % 8))))).setCell ⟨w4.heap.size, 2, none⟩ (.int .i64 o)).setCell ⟨w4.heap.size, 3, none⟩ (.slice a1 lu c1)).setCell ⟨w4.heap.size, 4, none⟩ (.slice a2 lg c2)).setCell ⟨w4.heap.size, 5, none⟩ (.bool r)).setCell ⟨w4.heap.size, 6, none⟩ (.int .i64 (mSet r m (andI cls (n / 8 % 8))))) w4.heap.size u g o au lu cu ag lg cg r m us gs (gSet r g (andI cls (n / 8 % 8))) (mSet r m (andI cls (n / 8 % 8))) a1 c1 a2 c2) := pkE_early h16 HN6.out ((Below.on hB3.out hB4.out).size) (by have h1 := hz1.out; have h2 := hB3.out.size; have h3 := hB4.out.size; omega) (fun A e => by have := (hNN.out.iu A e).2; have h2 := hB4.out.size; omega) (fun A e => by have := (hNN.out.ig A e).2; have h2 := hB4.out.size; omega) hbxCw6 ⟨hfxCw6.1, hfxCw6.2.2.1⟩
         generalize (((((((w6.setCell ⟨w4.heap.size, 0, none⟩ (.int .i64 u)).setCell ⟨w4.heap.size, 1, none⟩ (.int .i64 (gSet r g (andI cls (n / 8 % 8))))).setCell ⟨w4.heap.size, 2, none⟩ (.int .i64 o)).setCell ⟨w4.heap.size, 3, none⟩ (.slice a1 lu c1)).setCell ⟨w4.heap.size, 4, none⟩ (.slice a2 lg c2)).setCell ⟨w4.heap.size, 5, none⟩ (.bool r)).setCell ⟨w4.heap.size, 6, none⟩ (.int .i64 (mSet r m (andI cls (n / 8 % 8))))) = w7 at hPK ⊢
         generalize w4.heap.size = X at hPK ⊢)
      | (have hPK : Hid (PkE w w1 (((((((w6.setCell ⟨w3.heap.size, 0, none⟩ (.int .i64 u)).setCell ⟨w3.heap.size, 1, none⟩ (.int .i64 (gSet r g (andI cls (n / 8 % 8))))).setCell ⟨w3.heap.size, 2, none⟩ (.int .i64 o)).setCell ⟨w3.heap.size, 3, none⟩ (.slice a1 lu c1)).setCell ⟨w3.heap.size, 4, none⟩ (.slice a2 lg c2)).setCell ⟨w3.heap.size, 5, none⟩ (.bool r)).setCell ⟨w3.heap.size, 6, none⟩ (.int .i64 (mSet r m (andI cls (n / 8 % 8))))) w3.heap.size u g o au lu cu ag lg cg r m us gs (gSet r g (andI cls (n / 8 % 8))) (mSet r m (andI cls (n / 8 % 8))) a1 c1 a2 c2) := pkE_early h16 HN6.out (hB3.out.size) (by have h1 := hz1.out; have h2 := hB3.out.size; have h3 := hB4.out.size; omega) (fun A e => by have := (hNN.out.iu A e).2; omega) (fun A e => by have := (hNN.out.ig A e).2; omega) hbxBw6 ⟨hfxBw6.1, hfxBw6.2.2.1⟩
         generalize (((((((w6.setCell ⟨w3.heap.size, 0, none⟩ (.int .i64 u)).setCell ⟨w3.heap.size, 1, none⟩ (.int .i64 (gSet r g (andI cls (n / 8 % 8))))).setCell ⟨w3.heap.size, 2, none⟩ (.int .i64 o)).setCell ⟨w3.heap.size, 3, none⟩ (.slice a1 lu c1)).setCell ⟨w3.heap.size, 4, none⟩ (.slice a2 lg c2)).setCell ⟨w3.heap.size, 5, none⟩ (.bool r)).setCell ⟨w3.heap.size, 6, none⟩ (.int .i64 (mSet r m (andI cls (n / 8 % 8))))) = w7 at hPK ⊢
         generalize w3.heap.size = X at hPK ⊢)
      | (have hPK : Hid (PkE w w1 (((((((w6.setCell ⟨w1.heap.size, 0, none⟩ (.int .i64 u)).setCell ⟨w1.heap.size, 1, none⟩ (.int .i64 (gSet r g (andI cls (n / 8 % 8))))).setCell ⟨w1.heap.size, 2, none⟩ (.int .i64 o)).setCell ⟨w1.heap.size, 3, none⟩ (.slice a1 lu c1)).setCell ⟨w1.heap.size, 4, none⟩ (.slice a2 lg c2)).setCell ⟨w1.heap.size, 5, none⟩ (.bool r)).setCell ⟨w1.heap.size, 6, none⟩ (.int .i64 (mSet r m (andI cls (n / 8 % 8))))) w1.heap.size u g o au lu cu ag lg cg r m us gs (gSet r g (andI cls (n / 8 % 8))) (mSet r m (andI cls (n / 8 % 8))) a1 c1 a2 c2) := pkE_early h16 HN6.out (Nat.le_refl _) (by have h1 := hz1.out; have h2 := hB3.out.size; have h3 := hB4.out.size; omega) hA1.out hA2.out hbxAw6 ⟨hfxAw6.1, hfxAw6.2.2.1⟩
         generalize (((((((w6.setCell ⟨w1.heap.size, 0, none⟩ (.int .i64 u)).setCell ⟨w1.heap.size, 1, none⟩ (.int .i64 (gSet r g (andI cls (n / 8 % 8))))).setCell ⟨w1.heap.size, 2, none⟩ (.int .i64 o)).setCell ⟨w1.heap.size, 3, none⟩ (.slice a1 lu c1)).setCell ⟨w1.heap.size, 4, none⟩ (.slice a2 lg c2)).setCell ⟨w1.heap.size, 5, none⟩ (.bool r)).setCell ⟨w1.heap.size, 6, none⟩ (.int .i64 (mSet r m (andI cls (n / 8 % 8))))) = w7 at hPK ⊢
         generalize w1.heap.size = X at hPK ⊢)
      | (have hPK : Hid (PkE w w1 (w6.alloc (.cells #[.int .i64 u, .int .i64 (gSet r g (andI cls (n / 8 % 8))), .int .i64 o, .slice a1 lu c1, .slice a2 lg c2, .bool r, .int .i64 (mSet r m (andI cls (n / 8 % 8)))] 33)) w6.heap.size u g o au lu cu ag lg cg r m us gs (gSet r g (andI cls (n / 8 % 8))) (mSet r m (andI cls (n / 8 % 8))) a1 c1 a2 c2) := pkE_last h16 HN6.out
         generalize (w6.alloc (.cells #[.int .i64 u, .int .i64 (gSet r g (andI cls (n / 8 % 8))), .int .i64 o, .slice a1 lu c1, .slice a2 lg c2, .bool r, .int .i64 (mSet r m (andI cls (n / 8 % 8)))] 33)) = w7 at hPK ⊢
         generalize w6.heap.size = X at hPK ⊢)
    obtain ⟨hbel, hnew, ⟨yl, y0, y1, y2, y3, y4, y5, y6⟩, fr0, fr2, hxg, xn1, xn2⟩ := hPK.out
    have hz := hz1.out
    have hXne : ¬ X = w.heap.size := by omega
    have hXne2 : ¬ w.heap.size = X := by omega
    have hXr : ¬ X = w.heap.size + 1 := by omega
    have hXr2 : ¬ w.heap.size + 1 = X := by omega
    have HNW : Hid (New w w7 a1 lu us a2 lg gs) := hnew
    have HXN : Hid ((∀ A, a1 = some A → X ≠ A.block) ∧ (∀ A, a2 = some A → X ≠ A.block) ∧ w.heap.size ≤ X) := ⟨xn1, xn2, by omega⟩
    have HRN : Hid ((∀ A, a1 = some A → w.heap.size + 1 ≠ A.block) ∧ (∀ A, a2 = some A → w.heap.size + 1 ≠ A.block)) := ⟨fun A e => by have := (hNN.out.iu A e).1; omega, fun A e => by have := (hNN.out.ig A e).1; omega⟩
    obtain ⟨tl, t0, t1, t2, t3, t4, t5, t6⟩ := HX0.out.below hbel
    obtain ⟨rl, r0, r1, r2, r3, r4, r5, r6⟩ := HR0.out.below hbel
    have rz0 := (hbel.frozen (p := ⟨w.heap.size + 1, 0, none⟩) HR0.out.lt).trans (HF0.out 0 (by omega))
    have rz1 := (hbel.frozen (p := ⟨w.heap.size + 1, 1, none⟩) HR0.out.lt).trans (HF0.out 1 (by omega))
    have rz2 := (hbel.frozen (p := ⟨w.heap.size + 1, 2, none⟩) HR0.out.lt).trans (HF0.out 2 (by omega))
    have rz3 := (hbel.frozen (p := ⟨w.heap.size + 1, 3, none⟩) HR0.out.lt).trans (HF0.out 3 (by omega))
    have rz4 := (hbel.frozen (p := ⟨w.heap.size + 1, 4, none⟩) HR0.out.lt).trans (HF0.out 4 (by omega))
    have rz5 := (hbel.frozen (p := ⟨w.heap.size + 1, 5, none⟩) HR0.out.lt).trans (HF0.out 5 (by omega))
    have rz6 := (hbel.frozen (p := ⟨w.heap.size + 1, 6, none⟩) HR0.out.lt).trans (HF0.out 6 (by omega))
    clear hbel hnew hPK h16 HN6 hNN hN3 hb3 hb4 hb6 hB3 hB4 hB6 xn1 xn2 hxg hz hz1 hW1 HX0 HR0 HF0 hc hgc hbt xl x0 x1 x2 x3 x4 x5 x6 pl pa pb pc pd pe pf pg ql qa qb qc qd qe qf qg sl sa sb sc sd se sf sg
    try clear hneA hnfA hA1 hA2 hbxAw3 hfxAw3 blAw3 b0Aw3 b1Aw3 b2Aw3 b3Aw3 b4Aw3 b5Aw3 b6Aw3 f0Aw3 f1Aw3 f2Aw3 f3Aw3 f4Aw3 f5Aw3 f6Aw3 hbxAw4 hfxAw4 blAw4 b0Aw4 b1Aw4 b2Aw4 b3Aw4 b4Aw4 b5Aw4 b6Aw4 f0Aw4 f1Aw4 f2Aw4 f3Aw4 f4Aw4 f5Aw4 f6Aw4 hbxAw6 hfxAw6 blAw6 b0Aw6 b1Aw6 b2Aw6 b3Aw6 b4Aw6 b5Aw6 b6Aw6 f0Aw6 f1Aw6 f2Aw6 f3Aw6 f4Aw6 f5Aw6 f6Aw6
    try clear hneB hnfB hbxBw4 hfxBw4 blBw4 b0Bw4 b1Bw4 b2Bw4 b3Bw4 b4Bw4 b5Bw4 b6Bw4 f0Bw4 f1Bw4 f2Bw4 f3Bw4 f4Bw4 f5Bw4 f6Bw4 hbxBw6 hfxBw6 blBw6 b0Bw6 b1Bw6 b2Bw6 b3Bw6 b4Bw6 b5Bw6 b6Bw6 f0Bw6 f1Bw6 f2Bw6 f3Bw6 f4Bw6 f5Bw6 f6Bw6
    try clear hneC hnfC hbxCw6 hfxCw6 blCw6 b0Cw6 b1Cw6 b2Cw6 b3Cw6 b4Cw6 b5Cw6 b6Cw6 f0Cw6 f1Cw6 f2Cw6 f3Cw6 f4Cw6 f5Cw6 f6Cw6
    generalize hgg : (gSet r g (andI cls (n / 8 % 8))) = gS at y1 ⊢
    generalize hmm : (mSet r m (andI cls (n / 8 % 8))) = mS at y6 ⊢
    have HGG : Hid ((gSet r g (andI cls (n / 8 % 8))) = gS) := hgg
    have HMM : Hid ((mSet r m (andI cls (n / 8 % 8))) = mS) := hmm
    clear hgg hmm
    go_wp2_with fail
    refine (hbu.out _ _ rfl).mono ?_
    rintro e w8 ⟨rfl, rfl⟩
    generalize huu : andI u (n / 64 % 8) = uS
    have HUU : Hid (andI u (n / 64 % 8) = uS) := huu
    clear huu hbu
    go_wp2_with fail
    refine (hbo.out _ _ rfl).mono ?_
    rintro e w9 ⟨rfl, rfl⟩
    generalize hoo : andI o (n % 8) = oS
    have HOO : Hid (andI o (n % 8) = oS) := hoo
    clear hoo hbo
    go_wp2
    refine bodyPost_ret (v := .agg #[.int .i64 uS, .int .i64 gS, .int .i64 oS, .slice a1 lu c1, .slice a2 lg c2, .bool r, .int .i64 mS]) (by simp [results, Try.results60, go_sem, r0, r1, r2, r3, r4, r5, r6]) rfl ⟨a1, c1, a2, c2, ret_acl HUU.out.symm HGG.out.symm HOO.out.symm HMM.out.symm, ?_⟩
    iterate 7 (refine New.set ?_ (by omega) HRN.out.1 HRN.out.2)
    iterate 2 (refine New.set ?_ HXN.out.2.2 HXN.out.1 HXN.out.2.1)
    exact HNW.out)
set_option maxRecDepth 100000 in
set_option maxHeartbeats 4000000 in
/-- spec.AclBorn. -/
theorem sAclBorn_any (u g o : Int) (au : Option Addr) (lu cu : Nat) (ag : Option Addr) (lg cg : Nat) (r : Bool) (m : Int) (us gs : List (Int × Int)) (n : Int) (hlu : lu ≤ 1048576) (hlg : lg ≤ 1048576) (w : World) (hu : Prs au lu us w) (hg : Prs ag lg gs w) :
    Calls Try.prog 27 #[.agg #[.int .i64 u, .int .i64 g, .int .i64 o, .slice au lu cu, .slice ag lg cg, .bool r, .int .i64 m], .int .i64 n] w (Answers (bornA u g o us gs r m n) w) := by
  have e1 := hu.1
  have e2 := hg.1
  have hc : Hid (∀ w', Below w.heap.size w w' → Calls Try.prog 49 #[.agg #[.int .i64 u, .int .i64 g, .int .i64 o, .slice au lu cu, .slice ag lg cg, .bool r, .int .i64 m]] w' fun e w'' => e = .returned (.bool (aclB u g o us gs r m)) ∧ Below w'.heap.size w' w'') := (fun w' hb => sAclRight_any u g o au lu cu ag lg cg r m us gs hlu hlg w' (hu.below hb) (hg.below hb))
  have hd : Hid (aclB u g o us gs r m = true → 0 ≤ n → n ≤ 4095 → ∀ w', Below w.heap.size w w' → Calls Try.prog 60 #[.agg #[.int .i64 u, .int .i64 g, .int .i64 o, .slice au lu cu, .slice ag lg cg, .bool r, .int .i64 m], .int .i64 n] w' fun e w'' => ∃ a1 c1 a2 c2, e = .returned (.agg #[.int .i64 (andI u (n / 64 % 8)), .int .i64 (gSet r g (andI (clsOf g r m) (n / 8 % 8))), .int .i64 (andI o (n % 8)), .slice a1 lu c1, .slice a2 lg c2, .bool r, .int .i64 (mSet r m (andI (clsOf g r m) (n / 8 % 8)))]) ∧ New w' w'' a1 lu us a2 lg gs) := (fun h n0 n1 w' hb => by
    obtain ⟨_, _, _, _, m1, m2⟩ := aclB_parts h
    have l1 := nm_len m1
    have l2 := nm_len m2
    exact sBorn03_any u g o au lu cu ag lg cg r m us gs n n0 n1 h w' (hu.below hb) (hg.below hb) (by omega) (by omega))
  have E1 : Hid (us.length = lu ∧ gs.length = lg) := ⟨e1, e2⟩
  clear hu hg e1 e2
  go_enter Try.func27, Try.ntmps27
  go_wp2_with fail
  refine (hc.out _ (bl2N _ _ _)).mono ?_
  rintro e w1 ⟨rfl, hb⟩
  have hW1 : Hid (Below w.heap.size w w1) := (bl2N _ _ _).trans (hb.mono (by simp; omega))
  obtain ⟨hcl, hfz⟩ := bl_cellN hb
  have hX := ((box7_new w (.int .i64 u) (.int .i64 g) (.int .i64 o) (.slice au lu cu) (.slice ag lg cg) (.bool r) (.int .i64 m) 33).below (bel_alloc _ (.cells #[.int .i64 0, .int .i64 0, .int .i64 0, .slice none 0 0, .slice none 0 0, .bool false, .int .i64 0, .int .i64 0] 44))).below hb
  have hY := (box8_new (w.alloc (.cells #[.int .i64 u, .int .i64 g, .int .i64 o, .slice au lu cu, .slice ag lg cg, .bool r, .int .i64 m] 33)) (.int .i64 0) (.int .i64 0) (.int .i64 0) (.slice none 0 0) (.slice none 0 0) (.bool false) (.int .i64 0) (.int .i64 0) 44).below hb
  have eY : (w.alloc (.cells #[.int .i64 u, .int .i64 g, .int .i64 o, .slice au lu cu, .slice ag lg cg, .bool r, .int .i64 m] 33)).heap.size = w.heap.size + 1 := by simp
  rw [eY] at hY
  clear hb hc eY hcl
  simp at hfz
  cases h : aclB u g o us gs r m
  · have hno : Hid (bornA u g o us gs r m n = illA 1) := bornA_no (by simp [h])
    clear h hd hX
    go_wp2_with fail
    refine (sIll_any 1 _).mono ?_
    rintro e w2 ⟨rfl, hb2⟩
    obtain ⟨yl, y0, y1, y2, y3, y4, y5, y6, y7⟩ := hY.below hb2
    have hfz2 := fun (b o : Nat) (h : b < w.heap.size + 1 + 1) => hb2.frozen (p := (⟨b, o, none⟩ : Addr)) (by have := hY.lt; show b < _; omega)
    have hW2 : Hid (Below w.heap.size w w2) := Below.on hW1.out hb2
    clear hb2 hY
    go_wp2
    refine bodyPost_ret (v := .agg #[.int .i64 0, .int .i64 0, .int .i64 0, .slice none 0 0, .slice none 0 0, .bool false, .int .i64 0, .int .i64 1]) (by simp [results, Try.results27, go_sem, y0, y1, y2, y3, y4, y5, y6, y7]) rfl (answers_ill hno.out ?_)
    iterate 8 (refine bl_setN ?_ (by omega))
    exact hW2.out
  cases hn : inR 0 4095 n
  · have hno : Hid (bornA u g o us gs r m n = illA 1) := bornA_no (by simp [hn])
    clear h hd hX
    go_wp2_with (go_at_call 52; refine (sMode_any _ _).mono ?_; rintro e w' ⟨rfl, rfl⟩)
    refine (sIll_any 1 _).mono ?_
    rintro e w2 ⟨rfl, hb2⟩
    obtain ⟨yl, y0, y1, y2, y3, y4, y5, y6, y7⟩ := hY.below hb2
    have hfz2 := fun (b o : Nat) (h : b < w.heap.size + 1 + 1) => hb2.frozen (p := (⟨b, o, none⟩ : Addr)) (by have := hY.lt; show b < _; omega)
    have hW2 : Hid (Below w.heap.size w w2) := Below.on hW1.out hb2
    clear hb2 hY
    go_wp2
    refine bodyPost_ret (v := .agg #[.int .i64 0, .int .i64 0, .int .i64 0, .slice none 0 0, .slice none 0 0, .bool false, .int .i64 0, .int .i64 1]) (by simp [results, Try.results27, go_sem, y0, y1, y2, y3, y4, y5, y6, y7]) rfl (answers_ill hno.out ?_)
    iterate 8 (refine bl_setN ?_ (by omega))
    exact hW2.out
  have hyes : Hid (bornA u g o us gs r m n = ⟨andI u (n / 64 % 8), gSet r g (andI (clsOf g r m) (n / 8 % 8)), andI o (n % 8), us, gs, r, mSet r m (andI (clsOf g r m) (n / 8 % 8)), 0⟩) := (by show _ = _; rw [bornA, if_pos ⟨h, hn⟩])
  obtain ⟨n0, n1⟩ := inR_iff.1 hn
  have hd2 : Hid (∀ w', Below w.heap.size w w' → Calls Try.prog 60 #[.agg #[.int .i64 u, .int .i64 g, .int .i64 o, .slice au lu cu, .slice ag lg cg, .bool r, .int .i64 m], .int .i64 n] w' fun e w'' => ∃ a1 c1 a2 c2, e = .returned (.agg #[.int .i64 (andI u (n / 64 % 8)), .int .i64 (gSet r g (andI (clsOf g r m) (n / 8 % 8))), .int .i64 (andI o (n % 8)), .slice a1 lu c1, .slice a2 lg c2, .bool r, .int .i64 (mSet r m (andI (clsOf g r m) (n / 8 % 8)))]) ∧ New w' w'' a1 lu us a2 lg gs) := hd.out h n0 n1
  obtain ⟨xl, x0, x1, x2, x3, x4, x5, x6⟩ := hX
  clear h hd
  go_wp2_with (go_at_call 52; refine (sMode_any _ _).mono ?_; rintro e w' ⟨rfl, rfl⟩)
  refine (hd2.out _ hW1.out).mono ?_
  rintro e w2 ⟨a1, c1, a2, c2, rfl, hN⟩
  obtain ⟨yl, y0, y1, y2, y3, y4, y5, y6, y7⟩ := hY.below hN.bel
  have hfz2 := fun (b o : Nat) (h : b < w.heap.size + 1 + 1) => hN.bel.frozen (p := (⟨b, o, none⟩ : Addr)) (by have := hY.lt; show b < _; omega)
  have N1 : Hid (∀ A, a1 = some A → w.heap.size + 1 < A.block) := (fun A e => by have := (hN.iu A e).1; have h2 := hY.lt; omega)
  have N2 : Hid (∀ A, a2 = some A → w.heap.size + 1 < A.block) := (fun A e => by have := (hN.ig A e).1; have h2 := hY.lt; omega)
  have HN : Hid (New w w2 a1 lu us a2 lg gs) := hN.pre hW1.out
  clear hN hd2 x0 x1 x2 x3 x4 x5 x6 hY
  generalize gSet r g (andI (clsOf g r m) (n / 8 % 8)) = gg at hyes ⊢
  generalize mSet r m (andI (clsOf g r m) (n / 8 % 8)) = mm at hyes ⊢
  generalize andI u (n / 64 % 8) = uu at hyes ⊢
  generalize andI o (n % 8) = oo at hyes ⊢
  go_wp2
  refine bodyPost_ret (v := .agg #[.int .i64 uu, .int .i64 gg, .int .i64 oo, .slice a1 lu c1, .slice a2 lg c2, .bool r, .int .i64 mm, .int .i64 0]) (by simp [results, Try.results27, go_sem, y0, y1, y2, y3, y4, y5, y6, y7]) rfl (answers_of hyes.out E1.out.1 E1.out.2 ?_)
  iterate 8 (refine New.set ?_ (by omega) (fun A e => by have := N1.out A e; omega) (fun A e => by have := N2.out A e; omega))
  exact HN.out
end Go.Proofs.Ytfjnabiboboipai
