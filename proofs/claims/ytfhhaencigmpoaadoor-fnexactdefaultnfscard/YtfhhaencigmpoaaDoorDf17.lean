/- Laid together: ModeOf, GrA. -/
import Derived.Test.YtfhhaencigmpoaaDoorDf16
import Derived.Test.YtfhhaencigmpoaaDoorDf13
import Derived.Lib.QuietBelow
import Derived.Test.YtfhhaencigmpoaaDoorDf5
import Derived.Test.YtfhhaencigmpoaaDoorDf12
import Derived.Test.YtfhhaencigmpoaaDoorDf14
import Derived.Test.YtfhhaencigmpoaaDoorDf7
/- ModeOf, the program's and the specification's. -/
namespace Go.Proofs.YtfhhaencigmpoaaDoor
open Go.RowKit Go.PlainAid
set_option linter.unusedVariables false
/-- The group class. -/
def clsOf (g : Int) (r : Bool) (m : Int) : Int := if r then m else g
theorem clsOf_t (g m : Int) : clsOf g true m = m := rfl
theorem clsOf_f (g m : Int) : clsOf g false m = g := rfl
set_option maxHeartbeats 1000000 in
/-- impl.groupClass. -/
theorem groupClass_any (u g o : Int) (au : Option Addr) (lu cu : Nat) (ag : Option Addr) (lg cg : Nat) (r : Bool) (m : Int) (w : World) :
    Calls Tryd.prog 64 #[.agg #[.int .i64 u, .int .i64 g, .int .i64 o, .slice au lu cu, .slice ag lg cg, .bool r, .int .i64 m]] w fun e w' => e = .returned (.int .i64 (clsOf g r m)) ∧ Below w.heap.size w w' := by
  cases r <;>
  · go_enter Tryd.func64, Tryd.ntmps64
    go_wp2
    go_ret
    exact ⟨rfl, bel_alloc _ _⟩
set_option maxHeartbeats 1000000 in
/-- spec.l03Class. -/
theorem sClass_any (u g o : Int) (au : Option Addr) (lu cu : Nat) (ag : Option Addr) (lg cg : Nat) (r : Bool) (m : Int) (w : World) :
    Calls Tryd.prog 69 #[.agg #[.int .i64 u, .int .i64 g, .int .i64 o, .slice au lu cu, .slice ag lg cg, .bool r, .int .i64 m]] w fun e w' => e = .returned (.int .i64 (clsOf g r m)) ∧ Below w.heap.size w w' := by
  cases r <;>
  · go_enter Tryd.func69, Tryd.ntmps69
    go_wp2
    go_ret
    exact ⟨rfl, bel_alloc _ _⟩
theorem aclB_parts {u g o : Int} {us gs : List (Int × Int)} {r : Bool} {m : Int} (h : aclB u g o us gs r m = true) : (0 ≤ u ∧ u ≤ 7) ∧ (0 ≤ g ∧ g ≤ 7) ∧ (0 ≤ o ∧ o ≤ 7) ∧ (0 ≤ m ∧ m ≤ 7) ∧ nmB us = true ∧ nmB gs = true := by
  unfold aclB at h
  simp only [Bool.and_eq_true] at h
  exact ⟨inR_iff.1 h.1, inR_iff.1 h.2.1, inR_iff.1 h.2.2.1, inR_iff.1 h.2.2.2.1, h.2.2.2.2.1, h.2.2.2.2.2.1⟩
theorem clsOf_in {u g o : Int} {us gs : List (Int × Int)} {r : Bool} {m : Int} (h : aclB u g o us gs r m = true) : 0 ≤ clsOf g r m ∧ clsOf g r m ≤ 7 := by
  obtain ⟨_, h1, _, h2, _⟩ := aclB_parts h
  cases r
  · exact h1
  · exact h2
/-- ModeOf. -/
def modeOfB (u g o : Int) (us gs : List (Int × Int)) (r : Bool) (m : Int) : Int := if aclB u g o us gs r m then 64 * u + 8 * clsOf g r m + o else 0
theorem ret_intM {a b : Int} (h : a = b) : Ending.returned (.int .i64 a) = .returned (.int .i64 b) := by rw [h]
theorem or3 (u c o : Nat) (h1 : u ≤ 7) (h2 : c ≤ 7) (h3 : o ≤ 7) : bits .or .i64 (bits .or .i64 ((u * 64 : Nat) : Int) ((c * 8 : Nat) : Int)) (o : Int) = 64 * u + 8 * c + o := by
  rw [i64_or_nat (u * 64) (c * 8) (by omega) (by omega)]
  have e1 : u * 64 ||| c * 8 = u * 64 + c * 8 := by
    have := Nat.shiftLeft_add_eq_or_of_lt (b := c * 8) (i := 6) (by omega) u
    rw [Nat.shiftLeft_eq] at this
    exact this.symm
  rw [e1, i64_or_nat (u * 64 + c * 8) o (by omega) (by omega)]
  have e2 : (u * 64 + c * 8) ||| o = u * 64 + c * 8 + o := by
    have := Nat.shiftLeft_add_eq_or_of_lt (b := o) (i := 3) (by omega) (u * 8 + c)
    rw [Nat.shiftLeft_eq] at this
    have e : (u * 8 + c) * 2 ^ 3 = u * 64 + c * 8 := by omega
    rw [e] at this
    exact this.symm
  rw [e2]
  omega
theorem or3i (u c o : Int) (a0 : 0 ≤ u) (h1 : u ≤ 7) (b0 : 0 ≤ c) (h2 : c ≤ 7) (c0 : 0 ≤ o) (h3 : o ≤ 7) : bits .or .i64 (bits .or .i64 (u * 64) (c * 8)) o = 64 * u + 8 * c + o := by
  obtain ⟨a, rfl⟩ := Int.eq_ofNat_of_zero_le a0
  obtain ⟨b, rfl⟩ := Int.eq_ofNat_of_zero_le b0
  obtain ⟨c, rfl⟩ := Int.eq_ofNat_of_zero_le c0
  exact or3 a b c (by omega) (by omega) (by omega)
end Go.Proofs.YtfhhaencigmpoaaDoor
/- impl.grantsOfAcl: the three that have no name. -/
namespace Go.Proofs.YtfhhaencigmpoaaDoor
open Go.RowKit Go.PlainAid Go.Deep
set_option linter.unusedVariables false
/-- What is known of the slots, operation by operation. -/
def grT (X : Nat) (A : Al) (i : Nat) (v : Value) : Prop := match i with
  | 1 => v = .agg #[.int .i64 1, .int .i64 0]
  | 2 => v = .pointer (some ⟨X, 0, none⟩)
  | 3 => v = .int .i64 A.u
  | 4 => v = .int .i64 (bitsZ A.u)
  | 6 => v = .agg #[.int .i64 2, .int .i64 0]
  | 7 => v = .pointer (some ⟨X, 1, none⟩)
  | 8 => v = .int .i64 A.g
  | 9 => v = .int .i64 (clsOf A.g A.r A.m)
  | 10 => v = .int .i64 (bits .and .i64 A.g (clsOf A.g A.r A.m))
  | 11 => v = .int .i64 (bitsZ (bits .and .i64 A.g (clsOf A.g A.r A.m)))
  | 13 => v = .agg #[.int .i64 3, .int .i64 0]
  | 14 => v = .pointer (some ⟨X, 2, none⟩)
  | 15 => v = .int .i64 A.o
  | 16 => v = .int .i64 (bitsZ A.o)
  | _ => True
/-- What the map says, by what is put in so far. -/
def grP (A : Al) (l : Array Bool) : Int → Int → Int := fun x y => if l.getD 17 false = true ∧ x = 3 ∧ y = 0 then bitsZ A.o else if l.getD 12 false = true ∧ x = 2 ∧ y = 0 then bitsZ (bits .and .i64 A.g (clsOf A.g A.r A.m)) else if l.getD 5 false = true ∧ x = 1 ∧ y = 0 then bitsZ A.u else 0
theorem getD_same {l : Array Bool} {i : Nat} (h : i < l.size) : (l.setIfInBounds i true).getD i false = true := by simp [Array.getD, h]
theorem getD_other {l : Array Bool} {i j : Nat} (h : j ≠ i) : (l.setIfInBounds i true).getD j false = l.getD j false := by
  by_cases hj : j < l.size
  · simp [Array.getD, hj, Ne.symm h]
  · simp [Array.getD, hj]
/-- What holds ahead of each operation. -/
structure GI (X : Nat) (A : Al) (w0 : World) (l : Array Bool) (w : World) (V : Nat → Value) : Prop where
  sz : l.size = 20
  bel : Below w0.heap.size w0 w
  val : ∀ i, l.getD i false = true → grT X A i (V i)
  map : l.getD 0 false = true → ∃ b n, V 0 = .map (some b) ∧ w0.heap.size ≤ b ∧ n + unl l ≤ 40 ∧ GM w b n (grP A l)
  m18 : l.getD 18 false = true → V 18 = V 0
  m19 : l.getD 19 false = true → V 19 = V 0
  non : l.getD 0 false = false → l.getD 5 false = false ∧ l.getD 12 false = false ∧ l.getD 17 false = false ∧ l.getD 18 false = false ∧ l.getD 19 false = false
def upV (V : Nat → Value) (i : Nat) (v : Value) : Nat → Value := fun j => if j = i then v else V j
theorem grP_keep {A : Al} {l : Array Bool} {i : Nat} (h5 : i ≠ 5) (h12 : i ≠ 12) (h17 : i ≠ 17) : grP A (l.setIfInBounds i true) = grP A l := by
  unfold grP
  rw [getD_other (Ne.symm h17), getD_other (Ne.symm h12), getD_other (Ne.symm h5)]
variable {X : Nat} {A : Al} {w0 w w' : World} {l : Array Bool} {V : Nat → Value}
/-- A step that makes new memory at most, and writes a slot. -/
theorem GI.step (h : GI X A w0 l w V) (i : Nat) (hi : l.getD i true = false) (v : Value) (hb : Below w.heap.size w w') (hv : grT X A i v) (h0 : i ≠ 0) (h5 : i ≠ 5) (h12 : i ≠ 12) (h17 : i ≠ 17) (h18 : i = 18 → l.getD 0 false = true ∧ v = V 0) (h19 : i = 19 → l.getD 0 false = true ∧ v = V 0) : GI X A w0 (l.setIfInBounds i true) w' (upV V i v) := by
  have hu := unl_set hi
  refine ⟨by rw [Array.size_setIfInBounds]; exact h.sz, Below.on h.bel hb, fun j hj => ?_, fun hl => ?_, fun hl => ?_, fun hl => ?_, fun hl => ?_⟩
  · by_cases e : j = i
    · subst e; simpa [upV] using hv
    · rw [getD_other e] at hj
      simpa [upV, e] using h.val j hj
  · rw [getD_other (Ne.symm h0)] at hl
    obtain ⟨b, n, e, hbb, hn, hG⟩ := h.map hl
    refine ⟨b, n, by simpa [upV, Ne.symm h0] using e, hbb, by omega, ?_⟩
    rw [grP_keep h5 h12 h17]
    exact hG.below hb
  · by_cases e : (18 : Nat) = i
    · subst e
      have := (h18 rfl).2
      simp [upV, this]
    · rw [getD_other e] at hl
      simpa [upV, e, Ne.symm h0] using h.m18 hl
  · by_cases e : (19 : Nat) = i
    · subst e
      have := (h19 rfl).2
      simp [upV, this]
    · rw [getD_other e] at hl
      simpa [upV, e, Ne.symm h0] using h.m19 hl
  · rw [getD_other (Ne.symm h0)] at hl
    obtain ⟨n1, n2, n3, n4, n5⟩ := h.non hl
    have e18 : i ≠ 18 := fun e => by rw [(h18 e).1] at hl; cases hl
    have e19 : i ≠ 19 := fun e => by rw [(h19 e).1] at hl; cases hl
    rw [getD_other (Ne.symm h5), getD_other (Ne.symm h12), getD_other (Ne.symm h17), getD_other (Ne.symm e18), getD_other (Ne.symm e19)]
    exact ⟨n1, n2, n3, n4, n5⟩
theorem GI.made (h : GI X A w0 l w V) (hi : l.getD 0 true = false) (hi2 : l.getD 0 false = false) : GI X A w0 (l.setIfInBounds 0 true) (w.alloc (.map #[] 0)) (upV V 0 (.map (some w.heap.size))) := by
  have hu := unl_set hi
  have hb : Below w.heap.size w (w.alloc (.map #[] 0)) := (Below.refl _ _).alloc (Nat.le_refl _) _
  obtain ⟨n1, n2, n3, n4, n5⟩ := h.non hi2
  have hun : unl l ≤ 20 := by
    unfold unl
    have h1 : l.toList.count false ≤ l.toList.length := List.count_le_length
    have h2 : l.toList.length = 20 := by simpa using h.sz
    omega
  refine ⟨by rw [Array.size_setIfInBounds]; exact h.sz, Below.on h.bel hb, fun j hj => ?_, fun hl => ?_, fun hl => ?_, fun hl => ?_, fun hl => ?_⟩
  · by_cases e : j = 0
    · subst e; trivial
    · rw [getD_other e] at hj
      simpa [upV, e] using h.val j hj
  · refine ⟨w.heap.size, 0, by simp [upV], h.bel.size, by omega, ?_⟩
    have e0 : grP A (l.setIfInBounds 0 true) = fun _ _ => 0 := by
      rw [grP_keep (by decide) (by decide) (by decide)]
      funext x y
      simp [grP, n1, n2, n3]
    rw [e0]
    exact gm_made w
  · rw [getD_other (by decide)] at hl
    rw [n4] at hl
    cases hl
  · rw [getD_other (by decide)] at hl
    rw [n5] at hl
    cases hl
  · rw [getD_same (by rw [h.sz]; decide)] at hl
    cases hl
/-- One is put in. -/
theorem GI.put (h : GI X A w0 l w V) (i : Nat) (hi : l.getD i true = false) (hl0 : l.getD 0 false = true) (x v : Int) (wx : (Lit.int .i64 x).wf = true) (wv : (Lit.int .i64 v).wf = true) (hix : (i = 5 ∧ x = 1 ∧ v = bitsZ A.u) ∨ (i = 12 ∧ x = 2 ∧ v = bitsZ (bits .and .i64 A.g (clsOf A.g A.r A.m))) ∨ (i = 17 ∧ x = 3 ∧ v = bitsZ A.o)) :
    ∃ b w', V 0 = .map (some b) ∧ (Instr.mapUpdate 55 (.map (some b)) (.agg #[.int .i64 x, .int .i64 0]) (.int .i64 v)).run Tryd.prog w = .ok () w' ∧ GI X A w0 (l.setIfInBounds i true) w' V := by
  obtain ⟨b, n, e, hbb, hn, hG⟩ := h.map hl0
  have hu := unl_set hi
  obtain ⟨w', hr, hG', hg⟩ := hG.put (by omega) wx (show (Lit.int .i64 0).wf = true by decide) wv
  have hne : i ≠ 0 ∧ i ≠ 18 ∧ i ≠ 19 := by omega
  have hgT : ∀ y, grT X A i y := fun y => by rcases hix with ⟨rfl, _⟩ | ⟨rfl, _⟩ | ⟨rfl, _⟩ <;> trivial
  have his : i < l.size := by rw [h.sz]; omega
  have hφ : (fun x2 y2 => if x2 = x ∧ y2 = 0 then v else grP A l x2 y2) = grP A (l.setIfInBounds i true) := by
    funext x2 y2
    rcases hix with ⟨rfl, rfl, rfl⟩ | ⟨rfl, rfl, rfl⟩ | ⟨rfl, rfl, rfl⟩
    · unfold grP
      rw [getD_other (show (17 : Nat) ≠ 5 by decide), getD_other (show (12 : Nat) ≠ 5 by decide), getD_same his]
      by_cases e1 : x2 = 1 ∧ y2 = 0
      · obtain ⟨rfl, rfl⟩ := e1; simp
      · rw [if_neg e1]
        have : ¬ (true = true ∧ x2 = 1 ∧ y2 = 0) := fun h => e1 h.2
        rw [if_neg this]
        have h5 : ¬ (l.getD 5 false = true ∧ x2 = 1 ∧ y2 = 0) := fun h => e1 h.2
        rw [if_neg h5]
    · unfold grP
      rw [getD_other (show (17 : Nat) ≠ 12 by decide), getD_other (show (5 : Nat) ≠ 12 by decide), getD_same his]
      by_cases e1 : x2 = 2 ∧ y2 = 0
      · obtain ⟨rfl, rfl⟩ := e1; simp
      · rw [if_neg e1]
        have : ¬ (true = true ∧ x2 = 2 ∧ y2 = 0) := fun h => e1 h.2
        rw [if_neg this]
        have h5 : ¬ (l.getD 12 false = true ∧ x2 = 2 ∧ y2 = 0) := fun h => e1 h.2
        rw [if_neg h5]
    · unfold grP
      rw [getD_other (show (12 : Nat) ≠ 17 by decide), getD_other (show (5 : Nat) ≠ 17 by decide), getD_same his]
      by_cases e1 : x2 = 3 ∧ y2 = 0
      · obtain ⟨rfl, rfl⟩ := e1; simp
      · rw [if_neg e1]
        have : ¬ (true = true ∧ x2 = 3 ∧ y2 = 0) := fun h => e1 h.2
        rw [if_neg this]
        have h5 : ¬ (l.getD 17 false = true ∧ x2 = 3 ∧ y2 = 0) := fun h => e1 h.2
        rw [if_neg h5]
  rw [hφ] at hG'
  have hB' : Below w0.heap.size w0 w' := ⟨hg.os.trans h.bel.os, hg.tape.trans h.bel.tape, hg.output.trans h.bel.output, Nat.le_trans h.bel.size hg.size, fun k hk => (hg.block k (by have := h.bel.size; omega) (by simp; omega)).trans (h.bel.block k hk)⟩
  refine ⟨b, w', e, hr, ⟨by rw [Array.size_setIfInBounds]; exact h.sz, hB', fun j hj => ?_, fun _ => ⟨b, n + 1, e, hbb, by omega, hG'⟩, fun hl => ?_, fun hl => ?_, fun hl => ?_⟩⟩
  · by_cases ej : j = i
    · subst ej; exact hgT _
    · rw [getD_other ej] at hj
      exact h.val j hj
  · rw [getD_other (Ne.symm hne.2.1)] at hl
    exact h.m18 hl
  · rw [getD_other (Ne.symm hne.2.2)] at hl
    exact h.m19 hl
  · rw [getD_other (Ne.symm hne.1), hl0] at hl
    cases hl
end Go.Proofs.YtfhhaencigmpoaaDoor
