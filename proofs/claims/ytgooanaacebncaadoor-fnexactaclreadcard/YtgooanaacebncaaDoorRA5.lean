/- Laid together: Concat, AclRdR. -/
import Derived.Test.YtgooanaacebncaaDoorRA4
import Derived.Test.YtgooanaacebncaaDoorRA2
/- slices.Grow and slices.Concat at lists of pairs. -/
namespace Go.Proofs.YtgooanaacebncaaDoor
open Go.RowKit Go.PlainAid Go.Deep
set_option linter.unusedVariables false
theorem infoNamedC : (Tryd.prog.info? 126).map (fun i => (i.zero, i.size, i.bytes)) = some (some (.agg #[.int .i64 0, .int .i64 0]), 2, 16) := by kernel_rfl
theorem rowP_below {w w' : World} {B : Nat} {t : TypeId} {s : Nat} {v : Value} {n : Nat} {xs : List Value} (h : w.ownsRow B t s v n xs) (hb : Below w.heap.size w w') : w'.ownsRow B t s v n xs := by
  obtain ⟨h0, ⟨rfl, hn⟩ | ⟨g, cap, cur, rfl, hB, hg, hc, hm, hs, ht⟩⟩ := h
  · exact ⟨h0, .inl ⟨rfl, hn⟩⟩
  · have hlt : g < w.heap.size := (Array.getElem?_eq_some_iff.1 hg).1
    exact ⟨h0, .inr ⟨g, cap, cur, rfl, hB, (hb.block g hlt).trans hg, hc, hm, hs, ht⟩⟩
theorem rowP_keep {w w' : World} {B : Nat} {t : TypeId} {s : Nat} {v : Value} {n : Nat} {xs : List Value} (h : w.ownsRow B t s v n xs) (hb : ∀ k, v.ownBlock = some k → w'.heap[k]? = w.heap[k]?) : w'.ownsRow B t s v n xs := by
  obtain ⟨h0, ⟨rfl, hn⟩ | ⟨g, cap, cur, rfl, hB, hg, hc, hm, hs, ht⟩⟩ := h
  · exact ⟨h0, .inl ⟨rfl, hn⟩⟩
  · exact ⟨h0, .inr ⟨g, cap, cur, rfl, hB, (hb g rfl).trans hg, hc, hm, hs, ht⟩⟩
theorem pairs_new (w : World) (x y : Int) (t : TypeId) : ∀ j u, (pc [(x, y)])[j]? = some u → (w.alloc (.cells #[.int .i64 x, .int .i64 y] t)).cell? ((⟨w.heap.size, 0, none⟩ : Addr).add j) = some u := by
  intro j u hj
  have hb : (w.alloc (.cells #[.int .i64 x, .int .i64 y] t)).heap[w.heap.size]? = some (.cells #[.int .i64 x, .int .i64 y] t) := by
    rw [World.alloc]
    exact Array.getElem?_push_size
  rw [addr_add0]
  simp only [World.cell?, hb, Nat.zero_add]
  match j with
  | 0 => simpa [pc] using hj
  | 1 => simpa [pc] using hj
  | j + 2 => simp [pc] at hj
/-- append of one pair: what it leaves, and where the row lies then. -/
theorem append_pair (w0 w : World) (v : Value) (l : List (Int × Int)) (hown : w.ownsRow w0.heap.size 126 2 v l.length (pc l)) (hB : Below w0.heap.size w0 w) (x y : Int) (hsm : l.length ≤ 1000000) :
    ∃ v' w', (Builtin.append_ #[41, 41] 41 #[v, .slice (some ⟨w.heap.size, 0, none⟩) 1 1]).run Tryd.prog (w.alloc (.cells #[.int .i64 x, .int .i64 y] 126)) = .ok v' w' ∧ w'.ownsRow w0.heap.size 126 2 v' (l ++ [(x, y)]).length (pc (l ++ [(x, y)])) ∧ Below w0.heap.size w0 w' ∧ w.heap.size ≤ w'.heap.size ∧ (∀ b, b < w.heap.size → v.ownBlock ≠ some b → w'.heap[b]? = w.heap[b]?) ∧ (∀ k, v'.ownBlock = some k → v.ownBlock = some k ∨ w.heap.size ≤ k) := by
  obtain ⟨i, hi, hzz⟩ := Option.map_eq_some_iff.1 infoNamedC
  simp only [Prod.mk.injEq] at hzz
  obtain ⟨hz, hs, hb⟩ := hzz
  have hb1 := bel_alloc w (.cells #[.int .i64 x, .int .i64 y] 126)
  have hB1 := Below.on hB hb1
  have hown1 := rowP_below hown hb1
  have hnw := pairs_new w x y 126
  have hone := pc_one [(x, y)]
  obtain ⟨v', w', hr, h1, h2, _⟩ := run_append_own (P := Tryd.prog) _ w0.heap.size 41 41 126 i _ 2 16 Tryd.underlying41 hi hz hs hb rfl (by decide) v l.length (pc l) hown1 ⟨w.heap.size, 0, none⟩ 1 1 (pc [(x, y)]) rfl hnw hone (by unfold maxLen; omega) (by omega) hB1.size
  have hsz : w.heap.size ≤ w'.heap.size := Nat.le_trans (by simp) h2.size
  refine ⟨v', w', hr, ?_, hB1.grown h2 hB1.size (own_blockN hown1), hsz, fun b hlt hne => (h2.block b (by simp; omega) (fun e => hne e.symm)).trans (hb1.block b hlt), ?_⟩
  · rw [pc_append, List.length_append]
    exact h1
  · have hbase : w.heap.size ≤ (w.alloc (.cells #[.int .i64 x, .int .i64 y] 126)).heap.size := by simp
    generalize w.alloc (.cells #[.int .i64 x, .int .i64 y] 126) = W at *
    have hl1 : (pc [(x, y)]).length = 1 * i.size := by rw [hs]; rfl
    have hb16 : ∀ n : Nat, n ≤ 2000000 → n * i.bytes ≤ 140737488355328 := fun n hn => by rw [hb]; omega
    rcases hown1.2 with ⟨rfl, hn⟩ | ⟨g, cap, cur, rfl, hbg, hg, hnc, hcm, hcs, htake⟩
    · have hr2 := run_append_nil (P := Tryd.prog) W 41 41 126 i _ Tryd.underlying41 hi hz ⟨w.heap.size, 0, none⟩ 1 1 (pc [(x, y)]) hl1 hnw (by omega) (by omega) (by rw [hb]; omega)
      rw [hr2] at hr
      cases hr
      intro k hk
      simp [Value.ownBlock] at hk
      exact .inr (by omega)
    · by_cases hroom : l.length + 1 ≤ cap
      · have hr2 := run_append_room (P := Tryd.prog) W 41 41 126 i Tryd.underlying41 hi g l.length cap cur hg ⟨w.heap.size, 0, none⟩ 1 1 (pc [(x, y)]) hl1 hnw hone hroom (by rw [hs, pc_length, hcs]; show l.length * 2 + 1 * 2 ≤ cap * 2; omega)
        rw [hr2] at hr
        cases hr
        intro k hk
        exact .inl hk
      · have hr2 := run_append_grow (P := Tryd.prog) W 41 41 126 i _ Tryd.underlying41 hi hz ⟨g, 0, none⟩ l.length cap (pc l) (by rw [hs]; exact hown1.1) (hown1.cells (g := g) rfl) ⟨w.heap.size, 0, none⟩ 1 1 (pc [(x, y)]) hl1 hnw (by omega) (by omega) (growslice_fits (by omega) (hb16 _ (by omega)))
        rw [hr2] at hr
        cases hr
        intro k hk
        simp [Value.ownBlock] at hk
        exact .inr (by omega)
/-- The two rows of a list of names that is being read: w0 is the world in which the reading began. -/
structure R2 (w0 w : World) (a : Al) (aU : Option Addr) (cU : Nat) (aG : Option Addr) (cG : Nat) : Prop where
  ou : w.ownsRow w0.heap.size 126 2 (.slice aU a.us.length cU) a.us.length (pc a.us)
  og : w.ownsRow w0.heap.size 126 2 (.slice aG a.gs.length cG) a.gs.length (pc a.gs)
  ne : ∀ A A2, aU = some A → aG = some A2 → A.block ≠ A2.block
  bel : Below w0.heap.size w0 w
theorem R2.below {w0 w w' : World} {a : Al} {aU aG : Option Addr} {cU cG : Nat} (h : R2 w0 w a aU cU aG cG) (hb : Below w.heap.size w w') : R2 w0 w' a aU cU aG cG :=
  ⟨rowP_below h.ou hb, rowP_below h.og hb, h.ne, Below.on h.bel hb⟩
theorem r2_start (w : World) : R2 w w alZ none 0 none 0 := ⟨World.ownsRow_nil _ _ _ _, World.ownsRow_nil _ _ _ _, fun A A2 e => (by cases e), Below.refl _ _⟩
theorem R2.as {w0 w : World} {a b : Al} {aU aG : Option Addr} {cU cG : Nat} (h : R2 w0 w a aU cU aG cG) (e1 : b.us = a.us) (e2 : b.gs = a.gs) : R2 w0 w b aU cU aG cG := by
  obtain ⟨h1, h2, h3, h4⟩ := h
  refine ⟨?_, ?_, h3, h4⟩
  · rw [e1]; exact h1
  · rw [e2]; exact h2
/-- A cell that is neither row's is written. -/
theorem R2.set {w0 w : World} {a : Al} {aU aG : Option Addr} {cU cG b o : Nat} {v : Value} (h : R2 w0 w a aU cU aG cG) (hb : w0.heap.size ≤ b) (h1 : ∀ A, aU = some A → b ≠ A.block) (h2 : ∀ A, aG = some A → b ≠ A.block) : R2 w0 (w.setCell ⟨b, o, none⟩ v) a aU cU aG cG := by
  have hk : ∀ (ad : Option Addr) (n c : Nat), (∀ A, ad = some A → b ≠ A.block) → ∀ k, (Value.slice ad n c).ownBlock = some k → (w.setCell ⟨b, o, none⟩ v).heap[k]? = w.heap[k]? := by
    intro ad n c hne k hk
    cases ad with
    | none => simp [Value.ownBlock] at hk
    | some A =>
      simp [Value.ownBlock] at hk
      have := hne A rfl
      exact Below.heap_setCell w ⟨b, o, none⟩ v k (by show k ≠ b; omega)
  exact ⟨rowP_keep h.ou (hk _ _ _ h1), rowP_keep h.og (hk _ _ _ h2), h.ne, h.bel.setCell hb _⟩
theorem R2.addU {w0 w : World} {a : Al} {aU aG : Option Addr} {cU cG : Nat} (h : R2 w0 w a aU cU aG cG) (x y : Int) (hl : a.us.length ≤ 1000000) :
    ∃ a' c' w', (Builtin.append_ #[41, 41] 41 #[.slice aU a.us.length cU, .slice (some ⟨w.heap.size, 0, none⟩) 1 1]).run Tryd.prog (w.alloc (.cells #[.int .i64 x, .int .i64 y] 126)) = .ok (.slice a' (a.us ++ [(x, y)]).length c') w' ∧ R2 w0 w' { a with us := a.us ++ [(x, y)] } a' c' aG cG ∧ w.heap.size ≤ w'.heap.size ∧ (∀ b, b < w.heap.size → (∀ A, aU = some A → b ≠ A.block) → w'.heap[b]? = w.heap[b]?) ∧ (∀ A, a' = some A → (∃ A2, aU = some A2 ∧ A.block = A2.block) ∨ w.heap.size ≤ A.block) := by
  obtain ⟨v', w', hr, ho, hb, hsz, hk, hid⟩ := append_pair w0 w _ a.us h.ou h.bel x y hl
  obtain ⟨a', c', hv⟩ : ∃ a' c', v' = .slice a' (a.us ++ [(x, y)]).length c' := by
    rcases ho.2 with ⟨e, hn⟩ | ⟨g, cap, cur, e, _⟩
    · exact ⟨none, 0, by rw [e, hn]⟩
    · exact ⟨some ⟨g, 0, none⟩, cap, e⟩
  subst hv
  have hk2 : ∀ b, b < w.heap.size → (∀ A, aU = some A → b ≠ A.block) → w'.heap[b]? = w.heap[b]? := fun b hlt hne => hk b hlt (fun e => by
    cases hA : aU with
    | none => rw [hA] at e; simp [Value.ownBlock] at e
    | some A =>
      rw [hA] at e
      simp [Value.ownBlock] at e
      exact hne A hA (by omega))
  have hid2 : ∀ A, a' = some A → (∃ A2, aU = some A2 ∧ A.block = A2.block) ∨ w.heap.size ≤ A.block := fun A e => by
    rcases hid A.block (by rw [e]; rfl) with h1 | h1
    · cases hA : aU with
      | none => rw [hA] at h1; simp [Value.ownBlock] at h1
      | some A2 =>
        rw [hA] at h1
        simp [Value.ownBlock] at h1
        exact .inl ⟨A2, rfl, h1.symm⟩
    · exact .inr h1
  have hlow : ∀ A, aG = some A → A.block < w.heap.size := fun A e => (h.og.lt A.block (by rw [e]; rfl)).2
  have hoth : w'.ownsRow w0.heap.size 126 2 (.slice aG a.gs.length cG) a.gs.length (pc a.gs) := rowP_keep h.og (fun k hk3 => by
    cases hA : aG with
    | none => rw [hA] at hk3; simp [Value.ownBlock] at hk3
    | some A =>
      rw [hA] at hk3
      simp [Value.ownBlock] at hk3
      rw [← hk3]
      exact hk2 A.block (hlow A hA) (fun A2 e2 => by exact fun e3 => h.ne A2 A e2 hA e3.symm))
  refine ⟨a', c', w', hr, ⟨ho, hoth, ?_, hb⟩, hsz, hk2, hid2⟩
  intro A A2 e e2
  rcases hid2 A e with ⟨A3, e3, e4⟩ | h1
  · rw [e4]; exact h.ne A3 A2 e3 e2
  · have := hlow A2 e2
    omega
theorem R2.addG {w0 w : World} {a : Al} {aU aG : Option Addr} {cU cG : Nat} (h : R2 w0 w a aU cU aG cG) (x y : Int) (hl : a.gs.length ≤ 1000000) :
    ∃ a' c' w', (Builtin.append_ #[41, 41] 41 #[.slice aG a.gs.length cG, .slice (some ⟨w.heap.size, 0, none⟩) 1 1]).run Tryd.prog (w.alloc (.cells #[.int .i64 x, .int .i64 y] 126)) = .ok (.slice a' (a.gs ++ [(x, y)]).length c') w' ∧ R2 w0 w' { a with gs := a.gs ++ [(x, y)] } aU cU a' c' ∧ w.heap.size ≤ w'.heap.size ∧ (∀ b, b < w.heap.size → (∀ A, aG = some A → b ≠ A.block) → w'.heap[b]? = w.heap[b]?) ∧ (∀ A, a' = some A → (∃ A2, aG = some A2 ∧ A.block = A2.block) ∨ w.heap.size ≤ A.block) := by
  obtain ⟨v', w', hr, ho, hb, hsz, hk, hid⟩ := append_pair w0 w _ a.gs h.og h.bel x y hl
  obtain ⟨a', c', hv⟩ : ∃ a' c', v' = .slice a' (a.gs ++ [(x, y)]).length c' := by
    rcases ho.2 with ⟨e, hn⟩ | ⟨g, cap, cur, e, _⟩
    · exact ⟨none, 0, by rw [e, hn]⟩
    · exact ⟨some ⟨g, 0, none⟩, cap, e⟩
  subst hv
  have hk2 : ∀ b, b < w.heap.size → (∀ A, aG = some A → b ≠ A.block) → w'.heap[b]? = w.heap[b]? := fun b hlt hne => hk b hlt (fun e => by
    cases hA : aG with
    | none => rw [hA] at e; simp [Value.ownBlock] at e
    | some A =>
      rw [hA] at e
      simp [Value.ownBlock] at e
      exact hne A hA (by omega))
  have hid2 : ∀ A, a' = some A → (∃ A2, aG = some A2 ∧ A.block = A2.block) ∨ w.heap.size ≤ A.block := fun A e => by
    rcases hid A.block (by rw [e]; rfl) with h1 | h1
    · cases hA : aG with
      | none => rw [hA] at h1; simp [Value.ownBlock] at h1
      | some A2 =>
        rw [hA] at h1
        simp [Value.ownBlock] at h1
        exact .inl ⟨A2, rfl, h1.symm⟩
    · exact .inr h1
  have hlow : ∀ A, aU = some A → A.block < w.heap.size := fun A e => (h.ou.lt A.block (by rw [e]; rfl)).2
  have hoth : w'.ownsRow w0.heap.size 126 2 (.slice aU a.us.length cU) a.us.length (pc a.us) := rowP_keep h.ou (fun k hk3 => by
    cases hA : aU with
    | none => rw [hA] at hk3; simp [Value.ownBlock] at hk3
    | some A =>
      rw [hA] at hk3
      simp [Value.ownBlock] at hk3
      rw [← hk3]
      exact hk2 A.block (hlow A hA) (fun A2 e2 => by exact fun e3 => h.ne A A2 hA e2 e3))
  refine ⟨a', c', w', hr, ⟨hoth, ho, ?_, hb⟩, hsz, hk2, hid2⟩
  intro A A2 e e2
  rcases hid2 A2 e2 with ⟨A3, e3, e4⟩ | h1
  · rw [e4]; exact h.ne A A3 e e3
  · have := hlow A e
    omega
theorem R2.prsU {w0 w : World} {a : Al} {aU aG : Option Addr} {cU cG : Nat} (h : R2 w0 w a aU cU aG cG) : Prs aU a.us.length a.us w := by
  obtain ⟨a1, c1, e, ho, _⟩ := own_of_row h.ou
  cases e
  exact ho.prs
theorem R2.prsG {w0 w : World} {a : Al} {aU aG : Option Addr} {cU cG : Nat} (h : R2 w0 w a aU cU aG cG) : Prs aG a.gs.length a.gs w := by
  obtain ⟨a1, c1, e, ho, _⟩ := own_of_row h.og
  cases e
  exact ho.prs
end Go.Proofs.YtgooanaacebncaaDoor
