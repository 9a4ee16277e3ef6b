/- Laid together: Born. -/
import Derived.Test.YthgcobglecomcaaDoorDf42
import Derived.Test.YthgcobglecomcaaDoorDf21
import Derived.Deep.RegionWith
import Derived.BigRegion
import Derived.Deep.RegionHeld3
/- AclBorn, the program's and the specification's. -/
namespace Go.Proofs.YthgcobglecomcaaDoor
open Go.RowKit Go.PlainAid Go.Deep
set_option linter.unusedVariables false
/-- AclBorn. -/
def bornA (u g o : Int) (us gs : List (Int × Int)) (r : Bool) (m n : Int) : Ans :=
  if aclB u g o us gs r m = true ∧ inR 0 4095 n = true then ⟨andI u (n / 64 % 8), gSet r g (andI (clsOf g r m) (n / 8 % 8)), andI o (n % 8), us, gs, r, mSet r m (andI (clsOf g r m) (n / 8 % 8)), 0⟩ else illA 1
theorem bornA_no {u g o : Int} {us gs : List (Int × Int)} {r : Bool} {m n : Int} (h : ¬ (aclB u g o us gs r m = true ∧ inR 0 4095 n = true)) : bornA u g o us gs r m n = illA 1 := by rw [bornA, if_neg h]
theorem bornA_len (u g o : Int) (us gs : List (Int × Int)) (r : Bool) (m n : Int) : (bornA u g o us gs r m n).us.length ≤ 7 ∧ (bornA u g o us gs r m n).gs.length ≤ 7 := by
  unfold bornA
  split
  · rename_i h
    obtain ⟨_, _, _, _, n1, n2⟩ := aclB_parts h.1
    have l1 := nm_len n1
    have l2 := nm_len n2
    exact ⟨by show us.length ≤ 7; omega, by show gs.length ≤ 7; omega⟩
  · exact ⟨by show 0 ≤ 7; omega, by show 0 ≤ 7; omega⟩
set_option maxRecDepth 100000 in
set_option maxHeartbeats 4000000 in
/-- impl.AclBorn. -/
theorem iAclBorn_any (u g o : Int) (au : Option Addr) (lu cu : Nat) (ag : Option Addr) (lg cg : Nat) (r : Bool) (m : Int) (us gs : List (Int × Int)) (n : Int) (w : World) (hu : Prs au lu us w) (hg : Prs ag lg gs w) :
    Calls Tryd.prog 10 #[.agg #[.int .i64 u, .int .i64 g, .int .i64 o, .slice au lu cu, .slice ag lg cg, .bool r, .int .i64 m], .int .i64 n] w (Answers (bornA u g o us gs r m n) w) := by
  have e1 := hu.1
  have e2 := hg.1
  have hc : Hid (∀ w', Below w.heap.size w w' → Calls Tryd.prog 28 #[.agg #[.int .i64 u, .int .i64 g, .int .i64 o, .slice au lu cu, .slice ag lg cg, .bool r, .int .i64 m]] w' fun e w'' => e = .returned (.bool (aclB u g o us gs r m)) ∧ Below w'.heap.size w' w'') := (fun w' hb => iAclRight_any u g o au lu cu ag lg cg r m us gs w' (hu.below hb) (hg.below hb))
  have hd : Hid (aclB u g o us gs r m = true → ∀ x y z w', Below w.heap.size w w' → Calls Tryd.prog 31 #[.agg #[.int .i64 u, .int .i64 g, .int .i64 o, .slice au lu cu, .slice ag lg cg, .bool r, .int .i64 m], .int .i64 x, .int .i64 y, .int .i64 z] w' fun e w'' => ∃ a1 c1 a2 c2, e = .returned (.agg #[.int .i64 x, .int .i64 (gSet r g y), .int .i64 z, .slice a1 lu c1, .slice a2 lg c2, .bool r, .int .i64 (mSet r m y)]) ∧ New w' w'' a1 lu us a2 lg gs) := (fun h x y z w' hb => by
    obtain ⟨_, _, _, _, n1, n2⟩ := aclB_parts h
    have l1 := nm_len n1
    have l2 := nm_len n2
    exact withThree_any u g o au lu cu ag lg cg r m us gs x y z w' (hu.below hb) (hg.below hb) (by omega) (by omega))
  have E1 : Hid (us.length = lu ∧ gs.length = lg) := ⟨e1, e2⟩
  clear hu hg e1 e2
  go_enter Tryd.func10, Tryd.ntmps10
  go_wp2_with fail
  refine (hc.out _ (bl2N _ _ _)).mono ?_
  rintro e w1 ⟨rfl, hb⟩
  have hW1 : Hid (Below w.heap.size w w1) := (bl2N _ _ _).trans (hb.mono (by simp; omega))
  obtain ⟨hcl, hfz⟩ := bl_cellN hb
  have hX := ((box7_new w (.int .i64 u) (.int .i64 g) (.int .i64 o) (.slice au lu cu) (.slice ag lg cg) (.bool r) (.int .i64 m) 25).below (bel_alloc _ (.cells #[.int .i64 0, .int .i64 0, .int .i64 0, .slice none 0 0, .slice none 0 0, .bool false, .int .i64 0, .int .i64 0] 32))).below hb
  have hY := (box8_new (w.alloc (.cells #[.int .i64 u, .int .i64 g, .int .i64 o, .slice au lu cu, .slice ag lg cg, .bool r, .int .i64 m] 25)) (.int .i64 0) (.int .i64 0) (.int .i64 0) (.slice none 0 0) (.slice none 0 0) (.bool false) (.int .i64 0) (.int .i64 0) 32).below hb
  have eY : (w.alloc (.cells #[.int .i64 u, .int .i64 g, .int .i64 o, .slice au lu cu, .slice ag lg cg, .bool r, .int .i64 m] 25)).heap.size = w.heap.size + 1 := by simp
  rw [eY] at hY
  clear hb hc eY hcl
  simp at hfz
  cases h : aclB u g o us gs r m
  · have hno : Hid (bornA u g o us gs r m n = illA 1) := bornA_no (by simp [h])
    obtain ⟨yl, y0, y1, y2, y3, y4, y5, y6, y7⟩ := hY
    clear h hd hX
    go_wp2
    refine bodyPost_ret (v := .agg #[.int .i64 0, .int .i64 0, .int .i64 0, .slice none 0 0, .slice none 0 0, .bool false, .int .i64 0, .int .i64 1]) (by simp [results, Tryd.results10, go_sem, y0, y1, y2, y3, y4, y5, y6, y7]) rfl (answers_ill hno.out ?_)
    iterate 8 (refine bl_setN ?_ (by omega))
    exact hW1.out
  cases hn : inR 0 4095 n
  · have hno : Hid (bornA u g o us gs r m n = illA 1) := bornA_no (by simp [hn])
    obtain ⟨yl, y0, y1, y2, y3, y4, y5, y6, y7⟩ := hY
    clear h hd hX
    go_wp2_with (go_at_call 29; refine (isMode_any _ _).mono ?_; rintro e w' ⟨rfl, rfl⟩)
    refine bodyPost_ret (v := .agg #[.int .i64 0, .int .i64 0, .int .i64 0, .slice none 0 0, .slice none 0 0, .bool false, .int .i64 0, .int .i64 1]) (by simp [results, Tryd.results10, go_sem, y0, y1, y2, y3, y4, y5, y6, y7]) rfl (answers_ill hno.out ?_)
    iterate 8 (refine bl_setN ?_ (by omega))
    exact hW1.out
  have hyes : Hid (bornA u g o us gs r m n = ⟨andI u (n / 64 % 8), gSet r g (andI (clsOf g r m) (n / 8 % 8)), andI o (n % 8), us, gs, r, mSet r m (andI (clsOf g r m) (n / 8 % 8)), 0⟩) := (by show _ = _; rw [bornA, if_pos ⟨h, hn⟩])
  have hd2 : Hid (∀ x y z w', Below w.heap.size w w' → Calls Tryd.prog 31 #[.agg #[.int .i64 u, .int .i64 g, .int .i64 o, .slice au lu cu, .slice ag lg cg, .bool r, .int .i64 m], .int .i64 x, .int .i64 y, .int .i64 z] w' fun e w'' => ∃ a1 c1 a2 c2, e = .returned (.agg #[.int .i64 x, .int .i64 (gSet r g y), .int .i64 z, .slice a1 lu c1, .slice a2 lg c2, .bool r, .int .i64 (mSet r m y)]) ∧ New w' w'' a1 lu us a2 lg gs) := hd.out h
  obtain ⟨n0, n1⟩ := inR_iff.1 hn
  obtain ⟨⟨u0, u1⟩, _, ⟨o0, o1⟩, _⟩ := aclB_parts h
  obtain ⟨q0, q1⟩ := clsOf_in h
  obtain ⟨k, rfl⟩ := Int.eq_ofNat_of_zero_le n0
  have hk : k ≤ 4095 := by omega
  have ea : bits .and .i64 u ((k : Int) / 64 % 8) = andI u ((k : Int) / 64 % 8) := and_bits u0 (by omega) (by omega) (by omega)
  have eb : bits .and .i64 (clsOf g r m) ((k : Int) / 8 % 8) = andI (clsOf g r m) ((k : Int) / 8 % 8) := and_bits q0 (by omega) (by omega) (by omega)
  have ec : bits .and .i64 o ((k : Int) % 8) = andI o ((k : Int) % 8) := and_bits o0 (by omega) (by omega) (by omega)
  have hgc : Hid (∀ w, Calls Tryd.prog 32 #[.agg #[.int .i64 u, .int .i64 g, .int .i64 o, .slice au lu cu, .slice ag lg cg, .bool r, .int .i64 m]] w fun e w' => e = .returned (.int .i64 (clsOf g r m)) ∧ Below w.heap.size w w') := groupClass_any u g o au lu cu ag lg cg r m
  obtain ⟨xl, x0, x1, x2, x3, x4, x5, x6⟩ := hX
  clear h hd u0 u1 o0 o1 q0 q1
  generalize clsOf g r m = cls at hyes eb hgc
  have hYl := hY.lt
  go_wp2_with (first | (go_at_call 29; refine (isMode_any _ _).mono ?_; rintro e w1 ⟨rfl, rfl⟩) | (go_at_call 30; refine (threeBits_in k hk _).mono ?_; rintro e w1 ⟨rfl, rfl⟩))
  have HX : Hid (Box7 w1 w.heap.size (.int .i64 u) (.int .i64 g) (.int .i64 o) (.slice au lu cu) (.slice ag lg cg) (.bool r) (.int .i64 m)) := ⟨xl, x0, x1, x2, x3, x4, x5, x6⟩
  have HY : Hid (Box8 w1 (w.heap.size + 1) (.int .i64 0) (.int .i64 0) (.int .i64 0) (.slice none 0 0) (.slice none 0 0) (.bool false) (.int .i64 0) (.int .i64 0)) := hY
  clear hY
  go_region_held3 (fun w' => w'.cell? ⟨w.heap.size, 0, none⟩ = some (.int .i64 u) ∧ w'.cell? ⟨w.heap.size, 1, none⟩ = some (.int .i64 g) ∧ w'.cell? ⟨w.heap.size, 2, none⟩ = some (.int .i64 o) ∧ w'.cell? ⟨w.heap.size, 3, none⟩ = some (.slice au lu cu) ∧ w'.cell? ⟨w.heap.size, 4, none⟩ = some (.slice ag lg cg) ∧ w'.cell? ⟨w.heap.size, 5, none⟩ = some (.bool r) ∧ w'.cell? ⟨w.heap.size, 6, none⟩ = some (.int .i64 m)) (go_keep)
    (first
      | (go_at_call 32; refine (hgc.out _).mono ?_; rintro e w3 ⟨rfl, hb3⟩; have hB3 : Hid (Below w1.heap.size w1 w3) := below_drewE hb3; obtain ⟨_, xa3, xb3, xc3, xd3, xe3, xf3, xg3⟩ := HX.out.below hB3.out)
      | (go_at_call 31; refine (hd2.out _ _ _ _ (Below.on hW1.out hB3.out)).mono ?_; rintro e w4 ⟨a1, c1, a2, c2, rfl, hN⟩; have hB4 : Hid (Below w1.heap.size w1 w4) := Below.on hB3.out hN.bel; obtain ⟨_, xa4, xb4, xc4, xd4, xe4, xf4, xg4⟩ := HX.out.below hB4.out; obtain ⟨yl, y0, y1, y2, y3, y4, y5, y6, y7⟩ := HY.out.below hB4.out; have hfz4 := fun (b o : Nat) (h : b < w.heap.size + 1 + 1) => hB4.out.frozen (p := (⟨b, o, none⟩ : Addr)) (by have := HY.out.lt; show b < _; omega)))
  have HY3 := HY.out.below hB3.out
  have N1 : Hid (∀ A, a1 = some A → w.heap.size + 1 < A.block) := (fun A e => by have := (hN.iu A e).1; have h2 := HY3.lt; omega)
  have N2 : Hid (∀ A, a2 = some A → w.heap.size + 1 < A.block) := (fun A e => by have := (hN.ig A e).1; have h2 := HY3.lt; omega)
  have HN : Hid (New w w4 a1 lu us a2 lg gs) := hN.pre (Below.on hW1.out hB3.out)
  clear hN hd2 HY3 HX HY hb3 hB3 hB4 xa3 xb3 xc3 xd3 xe3 xf3 xg3 xa4 xb4 xc4 xd4 xe4 xf4 xg4 hgc ea eb ec x0 x1 x2 x3 x4 x5 x6
  generalize gSet r g (andI cls ((k : Int) / 8 % 8)) = gg at hyes ⊢
  generalize mSet r m (andI cls ((k : Int) / 8 % 8)) = mm at hyes ⊢
  generalize andI u ((k : Int) / 64 % 8) = uu at hyes ⊢
  generalize andI o ((k : Int) % 8) = oo at hyes ⊢
  go_wp2
  refine bodyPost_ret (v := .agg #[.int .i64 uu, .int .i64 gg, .int .i64 oo, .slice a1 lu c1, .slice a2 lg c2, .bool r, .int .i64 mm, .int .i64 0]) (by simp [results, Tryd.results10, go_sem, y0, y1, y2, y3, y4, y5, y6, y7]) rfl (answers_of hyes.out E1.out.1 E1.out.2 ?_)
  iterate 8 (refine New.set ?_ (by omega) (fun A e => by have := N1.out A e; omega) (fun A e => by have := N2.out A e; omega))
  exact HN.out
end Go.Proofs.YthgcobglecomcaaDoor
