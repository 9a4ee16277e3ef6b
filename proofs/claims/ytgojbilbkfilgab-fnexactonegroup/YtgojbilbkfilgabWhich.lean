/- impl.groupOrOther: by the group, and the named groups, or as others. -/
import Derived.Test.YtgojbilbkfilgabMaskOf
import Derived.Test.YtgojbilbkfilgabInGroupWalks
import Derived.Test.YtgojbilbkfilgabHasWalks
namespace Go.Proofs.Ytgojbilbkfilgab
open Go.RowKit Go.PlainAid Go.Deep
set_option linter.unusedVariables false
theorem prs_own1 (w : World) (x y : Int) (t : TypeId) : Prs (some ⟨w.heap.size, 0, none⟩) 1 [(x, y)] (w.alloc (.cells #[.int .i64 x, .int .i64 y] t)) := by
  obtain ⟨h0, h1⟩ := pair_new w (.int .i64 x) (.int .i64 y) t
  refine ⟨rfl, fun _ => ⟨w.heap.size, 0, rfl, by simp, fun i hi => ?_⟩⟩
  have : i = 0 := by omega
  subst this
  exact ⟨h0, h1⟩
/-- Four cells of a block. -/
structure Box4 (w : World) (B : Nat) (v0 v1 v2 v3 : Value) : Prop where
  lt : B < w.heap.size
  c0 : w.cell? ⟨B, 0, none⟩ = some v0
  c1 : w.cell? ⟨B, 1, none⟩ = some v1
  c2 : w.cell? ⟨B, 2, none⟩ = some v2
  c3 : w.cell? ⟨B, 3, none⟩ = some v3
theorem Box4.below {w w' : World} {B : Nat} {v0 v1 v2 v3 : Value} (h : Box4 w B v0 v1 v2 v3) (hb : Below w.heap.size w w') : Box4 w' B v0 v1 v2 v3 :=
  ⟨Nat.lt_of_lt_of_le h.lt hb.size, (hb.cell (p := ⟨B, 0, none⟩) h.lt).trans h.c0, (hb.cell (p := ⟨B, 1, none⟩) h.lt).trans h.c1, (hb.cell (p := ⟨B, 2, none⟩) h.lt).trans h.c2, (hb.cell (p := ⟨B, 3, none⟩) h.lt).trans h.c3⟩
theorem box4_new (w : World) (v0 v1 v2 v3 : Value) (t : TypeId) : Box4 (w.alloc (.cells #[v0, v1, v2, v3] t)) w.heap.size v0 v1 v2 v3 := by
  have hb : (w.alloc (.cells #[v0, v1, v2, v3] t)).heap[w.heap.size]? = some (.cells #[v0, v1, v2, v3] t) := by
    rw [World.alloc]
    exact Array.getElem?_push_size
  refine ⟨by simp, ?_, ?_, ?_, ?_⟩ <;> (simp only [World.cell?, hb]; rfl)
/-- Is one of the first k asked for, and has one of these all of want? -/
def inTo (x : Bool) (P : Int → Bool) (l : List (Int × Int)) : Nat → Bool
  | 0 => x
  | k + 1 => inTo x P l k || P (idAt l k)
def allTo (x : Bool) (P : Int → Bool) (l : List (Int × Int)) (want : Int) : Nat → Bool
  | 0 => x
  | k + 1 => allTo x P l want k || (P (idAt l k) && hasZ (btAt l k) want)
theorem inTo_cons (P : Int → Bool) (x y : Int) (l : List (Int × Int)) : ∀ k, inTo false P ((x, y) :: l) (k + 1) = inTo (P x) P l k := by
  intro k
  induction k with
  | zero => simp [inTo, idAt]
  | succ k ih =>
    have e : idAt ((x, y) :: l) (k + 1) = idAt l k := rfl
    show (inTo false P ((x, y) :: l) (k + 1) || P (idAt ((x, y) :: l) (k + 1))) = (inTo (P x) P l k || P (idAt l k))
    rw [ih, e]
theorem allTo_cons (P : Int → Bool) (x y : Int) (l : List (Int × Int)) (want : Int) : ∀ k, allTo false P ((x, y) :: l) want (k + 1) = allTo (P x && hasZ y want) P l want k := by
  intro k
  induction k with
  | zero => simp [allTo, idAt, btAt]
  | succ k ih =>
    have e : idAt ((x, y) :: l) (k + 1) = idAt l k := rfl
    have e2 : btAt ((x, y) :: l) (k + 1) = btAt l k := rfl
    show (allTo false P ((x, y) :: l) want (k + 1) || (P (idAt ((x, y) :: l) (k + 1)) && hasZ (btAt ((x, y) :: l) (k + 1)) want)) = (allTo (P x && hasZ y want) P l want k || (P (idAt l k) && hasZ (btAt l k) want))
    rw [ih, e, e2]
theorem allTo_hit {P : Int → Bool} {l : List (Int × Int)} {want : Int} {k n : Nat} (h : k < n) (hk : (P (idAt l k) && hasZ (btAt l k) want) = true) : allTo false P l want n = true := by
  induction n with
  | zero => omega
  | succ n ih =>
    by_cases e : k = n
    · subst e; simp [allTo, hk]
    · simp [allTo, ih (by omega)]
/-- 3, 4 or 5. -/
def goC (all inn : Bool) : Int := if all then 3 else if inn then 4 else 5
def clsK (inn : Bool) : Int := if inn then 4 else 5
end Go.Proofs.Ytgojbilbkfilgab
