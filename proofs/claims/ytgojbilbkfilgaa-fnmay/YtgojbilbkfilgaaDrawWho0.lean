/- A drawn Cred, and small laws on what draws leave. -/
import Derived.Test.YtgojbilbkfilgaaDrawCred
namespace Go.Proofs.Ytgojbilbkfilgaa
open Go.RowKit Go.PlainAid Go.Deep
set_option linter.unusedVariables false
/-- A drawn Cred, and where its groups lie. -/
def CredIs (B : Nat) (w : World) (c : Value) (u v : Int) (l : List Int) (ga : Option Addr) (gc : Nat) (r : Bool) : Prop := c = .agg #[.int .i64 u, .int .i64 v, .slice ga l.length gc, .bool r] ∧ l.length ≤ 9 ∧ w.ownsRow B 2 1 (.slice ga l.length gc) l.length (ivD l)
theorem Code.up {a : Option Addr} {len : Nat} {g : Nat → Int} {w w' : World} (h : Code a len g w.heap.size w) (hb : Below w.heap.size w w') : Code a len g w'.heap.size w' := by
  have h1 := h.below hb
  have hs := hb.size
  exact ⟨h1.1, h1.2.1, fun hl => by
    obtain ⟨b, off, e, hlt, hc⟩ := h1.2.2 hl
    exact ⟨b, off, e, by omega, hc⟩⟩
theorem Fr4.below {w w' : World} {B : Nat} {v0 v1 v2 v3 : Value} (h : Fr4 w B v0 v1 v2 v3) (hb : Below w.heap.size w w') : Fr4 w' B v0 v1 v2 v3 := h.keep hb.size (hb.block B h.lt)
theorem bel_allocD (w : World) (o : Obj) : Below w.heap.size w (w.alloc o) := (Below.refl _ _).alloc (Nat.le_refl _) _
theorem setD {B b o : Nat} {W w1 : World} {x : Value} (hb : Below B W w1) (h : B ≤ b) : Below B W (w1.setCell ⟨b, o, none⟩ x) := hb.setCell h _
/-- The number at a place. -/
def atD (l : List Int) (i : Nat) : Int := l.getD i 0
theorem own_intsD {w : World} {B : Nat} {t : TypeId} {a : Option Addr} {c : Nat} {l : List Int} (h : w.ownsRow B t 1 (.slice a l.length c) l.length (ivD l)) : Ints a l.length (atD l) w := by
  obtain ⟨_, ⟨q1, hn⟩ | ⟨g, cap, cur, q1, hb, hg, hc, _, hs, ht⟩⟩ := h
  · exact fun h0 => absurd h0 (by omega)
  · cases q1
    have hlt : g < w.heap.size := (Array.getElem?_eq_some_iff.1 hg).1
    refine fun _ => ⟨g, 0, rfl, hlt, fun i hi => ?_⟩
    have hj2 : (ivD l)[i]? = some (.int .i64 (atD l i)) := by simp [ivD, atD, List.getElem?_eq_getElem hi, List.getD]
    rw [← ht, List.getElem?_take_of_lt (by omega)] at hj2
    have : w.cell? ⟨g, 0 + i, none⟩ = cur[i]? := by simp [World.cell?, hg]
    rw [this]
    simpa using hj2
theorem Src.belowD {a : Option Addr} {len cap : Nat} {g : Nat → Int} {p : Nat} {w w' : World} (h : Src a len cap g p w) (hb : Below w.heap.size w w') : Src a len cap g p w' :=
  h.kept (fun k hk => hb.block k (Nat.lt_of_le_of_lt hk h.pos))
end Go.Proofs.Ytgojbilbkfilgaa
