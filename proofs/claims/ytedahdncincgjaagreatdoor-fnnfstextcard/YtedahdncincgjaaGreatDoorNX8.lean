/- Laid together: AlT, AclRdR. -/
import Derived.Test.YtedahdncincgjaaGreatDoorNX6
/- A list of names as a whole. -/
namespace Go.Proofs.YtedahdncincgjaaGreatDoor
open Go.RowKit Go.PlainAid Go.Deep
set_option linter.unusedVariables false
/-- A list of names. -/
structure Al where
  u : Int
  g : Int
  o : Int
  us : List (Int × Int)
  gs : List (Int × Int)
  r : Bool
  m : Int
def Al.B (a : Al) : Bool := aclB a.u a.g a.o a.us a.gs a.r a.m
theorem rowP_below {w w' : World} {B : Nat} {t : TypeId} {s : Nat} {v : Value} {n : Nat} {xs : List Value} (h : w.ownsRow B t s v n xs) (hb : Below w.heap.size w w') : w'.ownsRow B t s v n xs := by
  obtain ⟨h0, ⟨rfl, hn⟩ | ⟨g, cap, cur, rfl, hB, hg, hc, hm, hs, ht⟩⟩ := h
  · exact ⟨h0, .inl ⟨rfl, hn⟩⟩
  · have hlt : g < w.heap.size := (Array.getElem?_eq_some_iff.1 hg).1
    exact ⟨h0, .inr ⟨g, cap, cur, rfl, hB, (hb.block g hlt).trans hg, hc, hm, hs, ht⟩⟩
theorem rowP_keep {w w' : World} {B : Nat} {t : TypeId} {s : Nat} {v : Value} {n : Nat} {xs : List Value} (h : w.ownsRow B t s v n xs) (hb : ∀ k, v.ownBlock = some k → w'.heap[k]? = w.heap[k]?) : w'.ownsRow B t s v n xs := by
  obtain ⟨h0, ⟨rfl, hn⟩ | ⟨g, cap, cur, rfl, hB, hg, hc, hm, hs, ht⟩⟩ := h
  · exact ⟨h0, .inl ⟨rfl, hn⟩⟩
  · exact ⟨h0, .inr ⟨g, cap, cur, rfl, hB, (hb g rfl).trans hg, hc, hm, hs, ht⟩⟩
theorem pairs_new (w : World) (x y : Int) (t : TypeId) : ∀ j u, (pc [(x, y)])[j]? = some u → (w.alloc (.cells #[.int .i64 x, .int .i64 y] t)).cell? ((⟨w.heap.size, 0, none⟩ : Addr).add j) = some u := by
  intro j u hj
  have hb : (w.alloc (.cells #[.int .i64 x, .int .i64 y] t)).heap[w.heap.size]? = some (.cells #[.int .i64 x, .int .i64 y] t) := by
    rw [World.alloc]
    exact Array.getElem?_push_size
  rw [addr_add0]
  simp only [World.cell?, hb, Nat.zero_add]
  match j with
  | 0 => simpa [pc] using hj
  | 1 => simpa [pc] using hj
  | j + 2 => simp [pc] at hj
/-- append of one pair: what it leaves, and where the row lies then. -/
theorem append_pair (w0 w : World) (v : Value) (l : List (Int × Int)) (hown : w.ownsRow w0.heap.size 116 2 v l.length (pc l)) (hB : Below w0.heap.size w0 w) (x y : Int) (hsm : l.length ≤ 1000000) :
    ∃ v' w', (Builtin.append_ #[81, 81] 81 #[v, .slice (some ⟨w.heap.size, 0, none⟩) 1 1]).run Tryz.prog (w.alloc (.cells #[.int .i64 x, .int .i64 y] 116)) = .ok v' w' ∧ w'.ownsRow w0.heap.size 116 2 v' (l ++ [(x, y)]).length (pc (l ++ [(x, y)])) ∧ Below w0.heap.size w0 w' ∧ w.heap.size ≤ w'.heap.size ∧ (∀ b, b < w.heap.size → v.ownBlock ≠ some b → w'.heap[b]? = w.heap[b]?) ∧ (∀ k, v'.ownBlock = some k → v.ownBlock = some k ∨ w.heap.size ≤ k) := by
  obtain ⟨i, hi, hzz⟩ := Option.map_eq_some_iff.1 infoNamedC
  simp only [Prod.mk.injEq] at hzz
  obtain ⟨hz, hs, hb⟩ := hzz
  have hb1 := bel_alloc w (.cells #[.int .i64 x, .int .i64 y] 116)
  have hB1 := Below.on hB hb1
  have hown1 := rowP_below hown hb1
  have hnw := pairs_new w x y 116
  have hone := pc_one [(x, y)]
  obtain ⟨v', w', hr, h1, h2, _⟩ := run_append_own (P := Tryz.prog) _ w0.heap.size 81 81 116 i _ 2 16 Tryz.underlying81 hi hz hs hb rfl (by decide) v l.length (pc l) hown1 ⟨w.heap.size, 0, none⟩ 1 1 (pc [(x, y)]) rfl hnw hone (by unfold maxLen; omega) (by omega) hB1.size
  have hsz : w.heap.size ≤ w'.heap.size := Nat.le_trans (by simp) h2.size
  refine ⟨v', w', hr, ?_, hB1.grown h2 hB1.size (own_blockN hown1), hsz, fun b hlt hne => (h2.block b (by simp; omega) (fun e => hne e.symm)).trans (hb1.block b hlt), ?_⟩
  · rw [pc_append, List.length_append]
    exact h1
  · have hbase : w.heap.size ≤ (w.alloc (.cells #[.int .i64 x, .int .i64 y] 116)).heap.size := by simp
    generalize w.alloc (.cells #[.int .i64 x, .int .i64 y] 116) = W at *
    have hl1 : (pc [(x, y)]).length = 1 * i.size := by rw [hs]; rfl
    have hb16 : ∀ n : Nat, n ≤ 2000000 → n * i.bytes ≤ 140737488355328 := fun n hn => by rw [hb]; omega
    rcases hown1.2 with ⟨rfl, hn⟩ | ⟨g, cap, cur, rfl, hbg, hg, hnc, hcm, hcs, htake⟩
    · have hr2 := run_append_nil (P := Tryz.prog) W 81 81 116 i _ Tryz.underlying81 hi hz ⟨w.heap.size, 0, none⟩ 1 1 (pc [(x, y)]) hl1 hnw (by omega) (by omega) (by rw [hb]; omega)
      rw [hr2] at hr
      cases hr
      intro k hk
      simp [Value.ownBlock] at hk
      exact .inr (by omega)
    · by_cases hroom : l.length + 1 ≤ cap
      · have hr2 := run_append_room (P := Tryz.prog) W 81 81 116 i Tryz.underlying81 hi g l.length cap cur hg ⟨w.heap.size, 0, none⟩ 1 1 (pc [(x, y)]) hl1 hnw hone hroom (by rw [hs, pc_length, hcs]; show l.length * 2 + 1 * 2 ≤ cap * 2; omega)
        rw [hr2] at hr
        cases hr
        intro k hk
        exact .inl hk
      · have hr2 := run_append_grow (P := Tryz.prog) W 81 81 116 i _ Tryz.underlying81 hi hz ⟨g, 0, none⟩ l.length cap (pc l) (by rw [hs]; exact hown1.1) (hown1.cells (g := g) rfl) ⟨w.heap.size, 0, none⟩ 1 1 (pc [(x, y)]) hl1 hnw (by omega) (by omega) (growslice_fits (by omega) (hb16 _ (by omega)))
        rw [hr2] at hr
        cases hr
        intro k hk
        simp [Value.ownBlock] at hk
        exact .inr (by omega)
/-- The two rows of a list of names that is being read: w0 is the world in which the reading began. -/
structure R2 (w0 w : World) (a : Al) (aU : Option Addr) (cU : Nat) (aG : Option Addr) (cG : Nat) : Prop where
  ou : w.ownsRow w0.heap.size 116 2 (.slice aU a.us.length cU) a.us.length (pc a.us)
  og : w.ownsRow w0.heap.size 116 2 (.slice aG a.gs.length cG) a.gs.length (pc a.gs)
  ne : ∀ A A2, aU = some A → aG = some A2 → A.block ≠ A2.block
  bel : Below w0.heap.size w0 w
theorem R2.below {w0 w w' : World} {a : Al} {aU aG : Option Addr} {cU cG : Nat} (h : R2 w0 w a aU cU aG cG) (hb : Below w.heap.size w w') : R2 w0 w' a aU cU aG cG :=
  ⟨rowP_below h.ou hb, rowP_below h.og hb, h.ne, Below.on h.bel hb⟩
theorem R2.as {w0 w : World} {a b : Al} {aU aG : Option Addr} {cU cG : Nat} (h : R2 w0 w a aU cU aG cG) (e1 : b.us = a.us) (e2 : b.gs = a.gs) : R2 w0 w b aU cU aG cG := by
  obtain ⟨h1, h2, h3, h4⟩ := h
  refine ⟨?_, ?_, h3, h4⟩
  · rw [e1]; exact h1
  · rw [e2]; exact h2
/-- A cell that is neither row's is written. -/
theorem R2.set {w0 w : World} {a : Al} {aU aG : Option Addr} {cU cG b o : Nat} {v : Value} (h : R2 w0 w a aU cU aG cG) (hb : w0.heap.size ≤ b) (h1 : ∀ A, aU = some A → b ≠ A.block) (h2 : ∀ A, aG = some A → b ≠ A.block) : R2 w0 (w.setCell ⟨b, o, none⟩ v) a aU cU aG cG := by
  have hk : ∀ (ad : Option Addr) (n c : Nat), (∀ A, ad = some A → b ≠ A.block) → ∀ k, (Value.slice ad n c).ownBlock = some k → (w.setCell ⟨b, o, none⟩ v).heap[k]? = w.heap[k]? := by
    intro ad n c hne k hk
    cases ad with
    | none => simp [Value.ownBlock] at hk
    | some A =>
      simp [Value.ownBlock] at hk
      have := hne A rfl
      exact Below.heap_setCell w ⟨b, o, none⟩ v k (by show k ≠ b; omega)
  exact ⟨rowP_keep h.ou (hk _ _ _ h1), rowP_keep h.og (hk _ _ _ h2), h.ne, h.bel.setCell hb _⟩
theorem R2.prsU {w0 w : World} {a : Al} {aU aG : Option Addr} {cU cG : Nat} (h : R2 w0 w a aU cU aG cG) : Prs aU a.us.length a.us w := by
  obtain ⟨a1, c1, e, ho, _⟩ := own_of_row h.ou
  cases e
  exact ho.prs
theorem R2.prsG {w0 w : World} {a : Al} {aU aG : Option Addr} {cU cG : Nat} (h : R2 w0 w a aU cU aG cG) : Prs aG a.gs.length a.gs w := by
  obtain ⟨a1, c1, e, ho, _⟩ := own_of_row h.og
  cases e
  exact ho.prs
end Go.Proofs.YtedahdncincgjaaGreatDoor
