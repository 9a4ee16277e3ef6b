/- Laid together: DrawWho0, DrawAclA. -/
import Derived.Test.YtgojbilbkfilgaaMa34
import Derived.Test.YtgojbilbkfilgaaMa33
/- A drawn Cred, and small laws on what draws leave. -/
namespace Go.Proofs.Ytgojbilbkfilgaa
open Go.RowKit Go.PlainAid Go.Deep
set_option linter.unusedVariables false
/-- A drawn Cred, and where its groups lie. -/
def CredIs (B : Nat) (w : World) (c : Value) (u v : Int) (l : List Int) (ga : Option Addr) (gc : Nat) (r : Bool) : Prop := c = .agg #[.int .i64 u, .int .i64 v, .slice ga l.length gc, .bool r] ∧ l.length ≤ 9 ∧ w.ownsRow B 2 1 (.slice ga l.length gc) l.length (ivD l)
theorem Code.up {a : Option Addr} {len : Nat} {g : Nat → Int} {w w' : World} (h : Code a len g w.heap.size w) (hb : Below w.heap.size w w') : Code a len g w'.heap.size w' := by
  have h1 := h.below hb
  have hs := hb.size
  exact ⟨h1.1, h1.2.1, fun hl => by
    obtain ⟨b, off, e, hlt, hc⟩ := h1.2.2 hl
    exact ⟨b, off, e, by omega, hc⟩⟩
theorem Fr4.below {w w' : World} {B : Nat} {v0 v1 v2 v3 : Value} (h : Fr4 w B v0 v1 v2 v3) (hb : Below w.heap.size w w') : Fr4 w' B v0 v1 v2 v3 := h.keep hb.size (hb.block B h.lt)
theorem bel_allocD (w : World) (o : Obj) : Below w.heap.size w (w.alloc o) := (Below.refl _ _).alloc (Nat.le_refl _) _
theorem setD {B b o : Nat} {W w1 : World} {x : Value} (hb : Below B W w1) (h : B ≤ b) : Below B W (w1.setCell ⟨b, o, none⟩ x) := hb.setCell h _
/-- The number at a place. -/
def atD (l : List Int) (i : Nat) : Int := l.getD i 0
theorem own_intsD {w : World} {B : Nat} {t : TypeId} {a : Option Addr} {c : Nat} {l : List Int} (h : w.ownsRow B t 1 (.slice a l.length c) l.length (ivD l)) : Ints a l.length (atD l) w := by
  obtain ⟨_, ⟨q1, hn⟩ | ⟨g, cap, cur, q1, hb, hg, hc, _, hs, ht⟩⟩ := h
  · exact fun h0 => absurd h0 (by omega)
  · cases q1
    have hlt : g < w.heap.size := (Array.getElem?_eq_some_iff.1 hg).1
    refine fun _ => ⟨g, 0, rfl, hlt, fun i hi => ?_⟩
    have hj2 : (ivD l)[i]? = some (.int .i64 (atD l i)) := by simp [ivD, atD, List.getElem?_eq_getElem hi, List.getD]
    rw [← ht, List.getElem?_take_of_lt (by omega)] at hj2
    have : w.cell? ⟨g, 0 + i, none⟩ = cur[i]? := by simp [World.cell?, hg]
    rw [this]
    simpa using hj2
theorem Src.belowD {a : Option Addr} {len cap : Nat} {g : Nat → Int} {p : Nat} {w w' : World} (h : Src a len cap g p w) (hb : Below w.heap.size w w') : Src a len cap g p w' :=
  h.kept (fun k hk => hb.block k (Nat.lt_of_le_of_lt hk h.pos))
end Go.Proofs.Ytgojbilbkfilgaa
/- The draws that begin with a list of names. -/
namespace Go.Proofs.Ytgojbilbkfilgaa
open Go.RowKit Go.PlainAid Go.Deep
set_option linter.unusedVariables false
/-- Seven cells of a block that may be written. -/
structure Fr7 (w : World) (B : Nat) (v0 v1 v2 v3 v4 v5 v6 : Value) : Prop where
  b : Box7 w B v0 v1 v2 v3 v4 v5 v6
  fz : ∀ o, w.frozen? ⟨B, o, none⟩ = false
theorem Fr7.keep {w w' : World} {B : Nat} {v0 v1 v2 v3 v4 v5 v6 : Value} (h : Fr7 w B v0 v1 v2 v3 v4 v5 v6) (hs : w.heap.size ≤ w'.heap.size) (hb : w'.heap[B]? = w.heap[B]?) : Fr7 w' B v0 v1 v2 v3 v4 v5 v6 :=
  ⟨h.b.keep (Nat.lt_of_lt_of_le h.b.lt hs) (fun o => World.cell?_of_block hb), fun o => (World.frozen?_of_block hb).trans (h.fz o)⟩
theorem Fr7.own {w w' : World} {B p : Nat} {v0 v1 v2 v3 v4 v5 v6 : Value} (h : Fr7 w B v0 v1 v2 v3 v4 v5 v6) (ho : Ownp p w w') (hne : B ≠ p) : Fr7 w' B v0 v1 v2 v3 v4 v5 v6 := h.keep ho.size (ho.block B h.b.lt (by simpa using hne))
theorem Fr7.below {w w' : World} {B : Nat} {v0 v1 v2 v3 v4 v5 v6 : Value} (h : Fr7 w B v0 v1 v2 v3 v4 v5 v6) (hb : Below w.heap.size w w') : Fr7 w' B v0 v1 v2 v3 v4 v5 v6 := h.keep hb.size (hb.block B h.b.lt)
theorem fr7_new (w : World) (v0 v1 v2 v3 v4 v5 v6 : Value) (t : TypeId) : Fr7 (w.alloc (.cells #[v0, v1, v2, v3, v4, v5, v6] t)) w.heap.size v0 v1 v2 v3 v4 v5 v6 := ⟨box7_new w _ _ _ _ _ _ _ t, fun o => froz_new w _ t o⟩
theorem Fr7.sets {w : World} {B : Nat} {u0 u1 u2 u3 u4 u5 u6 : Value} (h : Fr7 w B u0 u1 u2 u3 u4 u5 u6) (v0 v1 v2 v3 v4 v5 v6 : Value) : Fr7 (set7A w B v0 v1 v2 v3 v4 v5 v6) B v0 v1 v2 v3 v4 v5 v6 := ⟨box7_set7 h.b _ _ _ _ _ _ _, fun o => by rw [set7A_frozen]; exact h.fz o⟩
theorem Fr4.own {w w' : World} {B p : Nat} {v0 v1 v2 v3 : Value} (h : Fr4 w B v0 v1 v2 v3) (ho : Ownp p w w') (hne : B ≠ p) : Fr4 w' B v0 v1 v2 v3 := h.keep ho.size (ho.block B h.lt (by simpa using hne))
theorem RwA.own' {w0 w w' : World} {X R p : Nat} {a : Option Addr} {c : Nat} {l : List (Int × Int)} (h : RwA w0 w X R a c l) (ho : Ownp p w w') (hp : p < w0.heap.size) : RwA w0 w' X R a c l := h.keep ho.size (fun B e => ho.block _ (h.inn B e).2.2.2 (by have := (h.inn B e).1; simp; omega))
theorem RwA.below {w0 w w' : World} {X R : Nat} {a : Option Addr} {c : Nat} {l : List (Int × Int)} (h : RwA w0 w X R a c l) (hb : Below w.heap.size w w') : RwA w0 w' X R a c l := h.keep hb.size (fun B e => hb.block _ (h.inn B e).2.2.2)
theorem RwA.drew {w0 w : World} {X R : Nat} {a : Option Addr} {c : Nat} {l : List (Int × Int)} (h : RwA w0 w X R a c l) : RwA w0 w.drew X R a c l := h.below ⟨rfl, rfl, rfl, Nat.le_refl _, fun _ _ => rfl⟩
theorem RwA.set7 {w0 w : World} {X R B : Nat} {a : Option Addr} {c : Nat} {l : List (Int × Int)} {v0 v1 v2 v3 v4 v5 v6 : Value} (h : RwA w0 w X R a c l) (hB : B < w0.heap.size) : RwA w0 (set7A w B v0 v1 v2 v3 v4 v5 v6) X R a c l := h.keep (by rw [set7A_size]; exact Nat.le_refl _) (fun D e => set7A_block w B _ _ _ _ _ _ _ _ (by have := (h.inn D e).1; omega))
theorem RwA.set1 {w0 w : World} {X R B o : Nat} {a : Option Addr} {c : Nat} {l : List (Int × Int)} {v : Value} (h : RwA w0 w X R a c l) (hB : B < w0.heap.size) : RwA w0 (w.setCell ⟨B, o, none⟩ v) X R a c l := h.keep (by simp) (fun D e => setA_block w B o _ v (by have := (h.inn D e).1; omega))
/-- A drawn list of names. -/
structure AclIs (w : World) (A : Al) (aU : Option Addr) (aG : Option Addr) : Prop where
  u : Prs aU A.us.length A.us w
  g : Prs aG A.gs.length A.gs w
  lu : A.us.length ≤ 7
  lg : A.gs.length ≤ 6
theorem AclIs.below {w w' : World} {A : Al} {aU aG : Option Addr} (h : AclIs w A aU aG) (hb : Below w.heap.size w w') : AclIs w' A aU aG := ⟨h.u.below hb, h.g.below hb, h.lu, h.lg⟩
/-- The rows of a drawn list: w1 is the world in which its draw began, wS the world of the caller. -/
structure Rws (wS w1 w : World) (A : Al) (aU : Option Addr) (cU : Nat) (aG : Option Addr) (cG : Nat) : Prop where
  bel : Below wS.heap.size wS w
  ru : ∃ X R, RwA w1 w X R aU cU A.us
  rg : ∃ X R, RwA w1 w X R aG cG A.gs
  lu : A.us.length ≤ 7
  lg : A.gs.length ≤ 6
/-- A drawn list, while more is drawn. -/
structure Drn (a : Option Addr) (len cap : Nat) (g : Nat → Int) (p : Nat) (wS w1 w : World) (A : Al) (aU : Option Addr) (cU : Nat) (aG : Option Addr) (cG : Nat) : Prop where
  src : Src a len cap g p w
  rws : Rws wS w1 w A aU cU aG cG
  ps : wS.heap.size ≤ p
  p1 : p < w1.heap.size
  s1 : w1.heap.size ≤ w.heap.size
variable {a : Option Addr} {len cap : Nat} {g : Nat → Int} {p : Nat} {wS w1 w w' : World} {A : Al} {aU : Option Addr} {cU : Nat} {aG : Option Addr} {cG : Nat}
theorem Rws.set1 {B o : Nat} {v : Value} (h : Rws wS w1 w A aU cU aG cG) (hB : wS.heap.size ≤ B) (hp : B < w1.heap.size) : Rws wS w1 (w.setCell ⟨B, o, none⟩ v) A aU cU aG cG := by
  obtain ⟨X, R, hu⟩ := h.ru
  obtain ⟨X2, R2, hg⟩ := h.rg
  exact ⟨h.bel.setCell hB _, ⟨X, R, hu.set1 hp⟩, ⟨X2, R2, hg.set1 hp⟩, h.lu, h.lg⟩
theorem Rws.set7 {B : Nat} {v0 v1 v2 v3 v4 v5 v6 : Value} (h : Rws wS w1 w A aU cU aG cG) (hB : wS.heap.size ≤ B) (hp : B < w1.heap.size) : Rws wS w1 (set7A w B v0 v1 v2 v3 v4 v5 v6) A aU cU aG cG := by
  unfold set7A
  exact ((((((h.set1 hB hp).set1 hB hp).set1 hB hp).set1 hB hp).set1 hB hp).set1 hB hp).set1 hB hp
theorem RwA.from {w0 wb w : World} {X R : Nat} {a : Option Addr} {c : Nat} {l : List (Int × Int)} (h : RwA w0 w X R a c l) (hb : wb.heap.size ≤ w0.heap.size) : RwA wb w X R a c l := ⟨h.own, h.room, h.le, fun D e => ⟨Nat.le_trans hb (h.inn D e).1, (h.inn D e).2⟩⟩
theorem Rws.from {wb : World} (h : Rws wS w1 w A aU cU aG cG) (hb : wb.heap.size ≤ w1.heap.size) : Rws wS wb w A aU cU aG cG := by
  obtain ⟨X, R, hu⟩ := h.ru
  obtain ⟨X2, R2, hg⟩ := h.rg
  exact ⟨h.bel, ⟨X, R, hu.from hb⟩, ⟨X2, R2, hg.from hb⟩, h.lu, h.lg⟩
theorem Rws.is (h : Rws wS w1 w A aU cU aG cG) : AclIs w A aU aG := by
  obtain ⟨X, R, hu⟩ := h.ru
  obtain ⟨X2, R2, hg⟩ := h.rg
  exact ⟨hu.own.prs, hg.own.prs, h.lu, h.lg⟩
theorem Drn.call (h : Drn a len cap g p wS w1 w A aU cU aG cG) (hs : Src a len cap g p w') (ho : Ownp p w w') : Drn a len cap g p wS w1 w' A aU cU aG cG := by
  obtain ⟨X, R, hu⟩ := h.rws.ru
  obtain ⟨X2, R2, hg⟩ := h.rws.rg
  exact ⟨hs, ⟨ho.below h.rws.bel h.ps (by have := h.rws.bel.size; omega), ⟨X, R, hu.own' ho h.p1⟩, ⟨X2, R2, hg.own' ho h.p1⟩, h.rws.lu, h.rws.lg⟩, h.ps, h.p1, Nat.le_trans h.s1 ho.size⟩
theorem Drn.below (h : Drn a len cap g p wS w1 w A aU cU aG cG) (hb : Below w.heap.size w w') : Drn a len cap g p wS w1 w' A aU cU aG cG :=
  h.call (h.src.kept (fun k hk => hb.block k (by have := h.src.pos; omega))) (below_ownp p hb)
theorem Drn.drew (h : Drn a len cap g p wS w1 w A aU cU aG cG) : Drn a len cap g p wS w1 w.drew A aU cU aG cG := h.below ⟨rfl, rfl, rfl, Nat.le_refl _, fun _ _ => rfl⟩
/-- Behind the draw of the list. -/
theorem Drn.of (hb : Below wS.heap.size wS w1) (hp : wS.heap.size ≤ p) (hp1 : p < w1.heap.size) (hs : Src a len cap g p w) (ho : Ownp p w1 w) (hr : ∃ X R, RwA w1 w X R aU cU A.us ∧ RwA w1 w X R aG cG A.gs) (h1 : A.us.length ≤ 7) (h2 : A.gs.length ≤ 6) : Drn a len cap g p wS w1 w A aU cU aG cG := by
  obtain ⟨X, R, hu, hg⟩ := hr
  exact ⟨hs, ⟨ho.below hb hp hb.size, ⟨X, R, hu⟩, ⟨X, R, hg⟩, h1, h2⟩, hp, hp1, ho.size⟩
end Go.Proofs.Ytgojbilbkfilgaa
