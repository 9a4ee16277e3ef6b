/- Laid together: Three, Chmod03, Chmod. -/
import Derived.Test.YthgcobglecomcaaDoorDf14
import Derived.Test.YthgcobglecomcaaDoorDf22
import Derived.Test.YthgcobglecomcaaDoorDf12
/- impl.withThree, spec.l03Set: other bits in a list of names. -/
namespace Go.Proofs.YthgcobglecomcaaDoor
open Go.RowKit Go.PlainAid Go.Deep
set_option linter.unusedVariables false
/-- Group, and Mask, of a list whose group class is set to x. -/
def gSet (r : Bool) (g x : Int) : Int := if r then g else x
def mSet (r : Bool) (m x : Int) : Int := if r then x else m
theorem gSet_t (g x : Int) : gSet true g x = g := rfl
theorem gSet_f (g x : Int) : gSet false g x = x := rfl
theorem mSet_t (m x : Int) : mSet true m x = x := rfl
theorem mSet_f (m x : Int) : mSet false m x = m := rfl
theorem ret_acl {a0 a1 a2 a6 b0 b1 b2 b6 : Int} {s t : Value} {r : Bool} (h0 : a0 = b0) (h1 : a1 = b1) (h2 : a2 = b2) (h6 : a6 = b6) : Ending.returned (.agg #[.int .i64 a0, .int .i64 a1, .int .i64 a2, s, t, .bool r, .int .i64 a6]) = Ending.returned (.agg #[.int .i64 b0, .int .i64 b1, .int .i64 b2, s, t, .bool r, .int .i64 b6]) := by rw [h0, h1, h2, h6]
set_option maxRecDepth 100000 in
set_option maxHeartbeats 4000000 in
/-- impl.withThree. -/
theorem withThree_any (u g o : Int) (au : Option Addr) (lu cu : Nat) (ag : Option Addr) (lg cg : Nat) (r : Bool) (m : Int) (us gs : List (Int × Int)) (x y z : Int) (w : World) (hu : Prs au lu us w) (hg : Prs ag lg gs w) (hl1 : lu ≤ 1000000) (hl2 : lg ≤ 1000000) :
    Calls Tryd.prog 31 #[.agg #[.int .i64 u, .int .i64 g, .int .i64 o, .slice au lu cu, .slice ag lg cg, .bool r, .int .i64 m], .int .i64 x, .int .i64 y, .int .i64 z] w fun e w' => ∃ a1 c1 a2 c2, e = .returned (.agg #[.int .i64 x, .int .i64 (gSet r g y), .int .i64 z, .slice a1 lu c1, .slice a2 lg c2, .bool r, .int .i64 (mSet r m y)]) ∧ New w w' a1 lu us a2 lg gs := by
  have hc : Hid (∀ w', Below w.heap.size w w' → Calls Tryd.prog 71 #[.agg #[.int .i64 u, .int .i64 g, .int .i64 o, .slice au lu cu, .slice ag lg cg, .bool r, .int .i64 m]] w' fun e w'' => ∃ a1 c1 a2 c2, e = .returned (.agg #[.int .i64 u, .int .i64 g, .int .i64 o, .slice a1 lu c1, .slice a2 lg c2, .bool r, .int .i64 m]) ∧ New w' w'' a1 lu us a2 lg gs) := (fun w' hb => ownAcl_any u g o au lu cu ag lg cg r m us gs w' (hu.below hb) (hg.below hb) hl1 hl2)
  clear hu hg
  go_enter Tryd.func31, Tryd.ntmps31
  go_wp2_with fail
  refine (hc.out _ (bl2N _ _ _)).mono ?_
  rintro e w1 ⟨a1, c1, a2, c2, rfl, hN⟩
  obtain ⟨hcl, hfz⟩ := bl_cellN hN.bel
  have hY := (box7_new (w.alloc (.cells #[.int .i64 u, .int .i64 g, .int .i64 o, .slice au lu cu, .slice ag lg cg, .bool r, .int .i64 m] 25)) (.int .i64 0) (.int .i64 0) (.int .i64 0) (.slice none 0 0) (.slice none 0 0) (.bool false) (.int .i64 0) 25).below hN.bel
  have eY : (w.alloc (.cells #[.int .i64 u, .int .i64 g, .int .i64 o, .slice au lu cu, .slice ag lg cg, .bool r, .int .i64 m] 25)).heap.size = w.heap.size + 1 := by simp
  have N1 : Hid (∀ A, a1 = some A → w.heap.size + 1 < A.block) := (fun A e => by have := (hN.iu A e).1; simp at this; omega)
  have N2 : Hid (∀ A, a2 = some A → w.heap.size + 1 < A.block) := (fun A e => by have := (hN.ig A e).1; simp at this; omega)
  have HN : Hid (New w w1 a1 lu us a2 lg gs) := hN.pre (bl2N _ _ _)
  rw [eY] at hY
  obtain ⟨yl, y0, y1, y2, y3, y4, y5, y6⟩ := hY
  clear hN hc eY hcl
  simp at hfz
  cases r with
  | true =>
    iterate 3 go_wp21
    refine bodyPost_ret (v := .agg #[.int .i64 x, .int .i64 g, .int .i64 z, .slice a1 lu c1, .slice a2 lg c2, .bool true, .int .i64 y]) (by simp [results, Tryd.results31, go_sem, yl, y0, y1, y2, y3, y4, y5, y6]) rfl ⟨a1, c1, a2, c2, ret_acl rfl (gSet_t g y).symm rfl (mSet_t m y).symm, ?_⟩
    refine New.on ?_ (bel_alloc _ _)
    iterate 7 (refine New.set ?_ (by omega) (fun A e => by have := N1.out A e; omega) (fun A e => by have := N2.out A e; omega))
    exact HN.out
  | false =>
    iterate 3 go_wp21
    refine bodyPost_ret (v := .agg #[.int .i64 x, .int .i64 y, .int .i64 z, .slice a1 lu c1, .slice a2 lg c2, .bool false, .int .i64 m]) (by simp [results, Tryd.results31, go_sem, yl, y0, y1, y2, y3, y4, y5, y6]) rfl ⟨a1, c1, a2, c2, ret_acl rfl (gSet_f g y).symm rfl (mSet_f m y).symm, ?_⟩
    refine New.on ?_ (bel_alloc _ _)
    iterate 7 (refine New.set ?_ (by omega) (fun A e => by have := N1.out A e; omega) (fun A e => by have := N2.out A e; omega))
    exact HN.out
end Go.Proofs.YthgcobglecomcaaDoor
/- spec.l03Chmod: a list of names set to a mode. -/
namespace Go.Proofs.YthgcobglecomcaaDoor
open Go.RowKit Go.PlainAid Go.Deep
set_option linter.unusedVariables false
end Go.Proofs.YthgcobglecomcaaDoor
/- AclChmod, the program's and the specification's. -/
namespace Go.Proofs.YthgcobglecomcaaDoor
open Go.RowKit Go.PlainAid Go.Deep
set_option linter.unusedVariables false
/-- AclChmod. -/
def chmodA (u g o : Int) (us gs : List (Int × Int)) (r : Bool) (m n : Int) : Ans :=
  if aclB u g o us gs r m = true ∧ inR 0 4095 n = true then ⟨n / 64 % 8, gSet r g (n / 8 % 8), n % 8, us, gs, r, mSet r m (n / 8 % 8), 0⟩ else illA 1
theorem chmodA_no {u g o : Int} {us gs : List (Int × Int)} {r : Bool} {m n : Int} (h : ¬ (aclB u g o us gs r m = true ∧ inR 0 4095 n = true)) : chmodA u g o us gs r m n = illA 1 := by rw [chmodA, if_neg h]
theorem chmodA_len (u g o : Int) (us gs : List (Int × Int)) (r : Bool) (m n : Int) : (chmodA u g o us gs r m n).us.length ≤ 7 ∧ (chmodA u g o us gs r m n).gs.length ≤ 7 := by
  unfold chmodA
  split
  · rename_i h
    obtain ⟨_, _, _, _, n1, n2⟩ := aclB_parts h.1
    have l1 := nm_len n1
    have l2 := nm_len n2
    exact ⟨by show us.length ≤ 7; omega, by show gs.length ≤ 7; omega⟩
  · exact ⟨by show 0 ≤ 7; omega, by show 0 ≤ 7; omega⟩
end Go.Proofs.YthgcobglecomcaaDoor
