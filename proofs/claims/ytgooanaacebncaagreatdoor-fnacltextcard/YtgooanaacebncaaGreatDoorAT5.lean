/- Laid together: AlT, AclRdR, SEnt. -/
import Derived.Test.YtgooanaacebncaaGreatDoorAT2
/- A list of names as a whole. -/
namespace Go.Proofs.YtgooanaacebncaaGreatDoor
open Go.RowKit Go.PlainAid Go.Deep
set_option linter.unusedVariables false
/-- A list of names. -/
structure Al where
  u : Int
  g : Int
  o : Int
  us : List (Int × Int)
  gs : List (Int × Int)
  r : Bool
  m : Int
def alZ : Al := ⟨0, 0, 0, [], [], false, 0⟩
def Al.B (a : Al) : Bool := aclB a.u a.g a.o a.us a.gs a.r a.m
theorem ok_at {l : List (Int × Int)} (h : nmB l = true) {k : Nat} (hk : k < l.length) : (0 ≤ idAt l k ∧ idAt l k ≤ 9999) ∧ (0 ≤ btAt l k ∧ btAt l k ≤ 7) := by
  cases e : okN l k
  · rw [nm_no hk e] at h; cases h
  · simp only [okN, Bool.and_eq_true] at e
    exact ⟨inR_iff.1 e.1, inR_iff.1 e.2.1⟩
theorem take_next2 {l : List (Int × Int)} {k : Nat} (h : k < l.length) : l.take (k + 1) = l.take k ++ [(idAt l k, btAt l k)] := by
  have e : (idAt l k, btAt l k) = l[k] := by simp [idAt, btAt, List.getD, h]
  rw [e, List.take_append_getElem]
theorem rowP_below {w w' : World} {B : Nat} {t : TypeId} {s : Nat} {v : Value} {n : Nat} {xs : List Value} (h : w.ownsRow B t s v n xs) (hb : Below w.heap.size w w') : w'.ownsRow B t s v n xs := by
  obtain ⟨h0, ⟨rfl, hn⟩ | ⟨g, cap, cur, rfl, hB, hg, hc, hm, hs, ht⟩⟩ := h
  · exact ⟨h0, .inl ⟨rfl, hn⟩⟩
  · have hlt : g < w.heap.size := (Array.getElem?_eq_some_iff.1 hg).1
    exact ⟨h0, .inr ⟨g, cap, cur, rfl, hB, (hb.block g hlt).trans hg, hc, hm, hs, ht⟩⟩
theorem rowP_keep {w w' : World} {B : Nat} {t : TypeId} {s : Nat} {v : Value} {n : Nat} {xs : List Value} (h : w.ownsRow B t s v n xs) (hb : ∀ k, v.ownBlock = some k → w'.heap[k]? = w.heap[k]?) : w'.ownsRow B t s v n xs := by
  obtain ⟨h0, ⟨rfl, hn⟩ | ⟨g, cap, cur, rfl, hB, hg, hc, hm, hs, ht⟩⟩ := h
  · exact ⟨h0, .inl ⟨rfl, hn⟩⟩
  · exact ⟨h0, .inr ⟨g, cap, cur, rfl, hB, (hb g rfl).trans hg, hc, hm, hs, ht⟩⟩
theorem pairs_new (w : World) (x y : Int) (t : TypeId) : ∀ j u, (pc [(x, y)])[j]? = some u → (w.alloc (.cells #[.int .i64 x, .int .i64 y] t)).cell? ((⟨w.heap.size, 0, none⟩ : Addr).add j) = some u := by
  intro j u hj
  have hb : (w.alloc (.cells #[.int .i64 x, .int .i64 y] t)).heap[w.heap.size]? = some (.cells #[.int .i64 x, .int .i64 y] t) := by
    rw [World.alloc]
    exact Array.getElem?_push_size
  rw [addr_add0]
  simp only [World.cell?, hb, Nat.zero_add]
  match j with
  | 0 => simpa [pc] using hj
  | 1 => simpa [pc] using hj
  | j + 2 => simp [pc] at hj
/-- append of one pair: what it leaves, and where the row lies then. -/
theorem append_pair (w0 w : World) (v : Value) (l : List (Int × Int)) (hown : w.ownsRow w0.heap.size 45 2 v l.length (pc l)) (hB : Below w0.heap.size w0 w) (x y : Int) (hsm : l.length ≤ 1000000) :
    ∃ v' w', (Builtin.append_ #[23, 23] 23 #[v, .slice (some ⟨w.heap.size, 0, none⟩) 1 1]).run Tryz.prog (w.alloc (.cells #[.int .i64 x, .int .i64 y] 45)) = .ok v' w' ∧ w'.ownsRow w0.heap.size 45 2 v' (l ++ [(x, y)]).length (pc (l ++ [(x, y)])) ∧ Below w0.heap.size w0 w' ∧ w.heap.size ≤ w'.heap.size ∧ (∀ b, b < w.heap.size → v.ownBlock ≠ some b → w'.heap[b]? = w.heap[b]?) ∧ (∀ k, v'.ownBlock = some k → v.ownBlock = some k ∨ w.heap.size ≤ k) := by
  obtain ⟨i, hi, hzz⟩ := Option.map_eq_some_iff.1 infoNamedC
  simp only [Prod.mk.injEq] at hzz
  obtain ⟨hz, hs, hb⟩ := hzz
  have hb1 := bel_alloc w (.cells #[.int .i64 x, .int .i64 y] 45)
  have hB1 := Below.on hB hb1
  have hown1 := rowP_below hown hb1
  have hnw := pairs_new w x y 45
  have hone := pc_one [(x, y)]
  obtain ⟨v', w', hr, h1, h2, _⟩ := run_append_own (P := Tryz.prog) _ w0.heap.size 23 23 45 i _ 2 16 Tryz.underlying23 hi hz hs hb rfl (by decide) v l.length (pc l) hown1 ⟨w.heap.size, 0, none⟩ 1 1 (pc [(x, y)]) rfl hnw hone (by unfold maxLen; omega) (by omega) hB1.size
  have hsz : w.heap.size ≤ w'.heap.size := Nat.le_trans (by simp) h2.size
  refine ⟨v', w', hr, ?_, hB1.grown h2 hB1.size (own_blockN hown1), hsz, fun b hlt hne => (h2.block b (by simp; omega) (fun e => hne e.symm)).trans (hb1.block b hlt), ?_⟩
  · rw [pc_append, List.length_append]
    exact h1
  · have hbase : w.heap.size ≤ (w.alloc (.cells #[.int .i64 x, .int .i64 y] 45)).heap.size := by simp
    generalize w.alloc (.cells #[.int .i64 x, .int .i64 y] 45) = W at *
    have hl1 : (pc [(x, y)]).length = 1 * i.size := by rw [hs]; rfl
    have hb16 : ∀ n : Nat, n ≤ 2000000 → n * i.bytes ≤ 140737488355328 := fun n hn => by rw [hb]; omega
    rcases hown1.2 with ⟨rfl, hn⟩ | ⟨g, cap, cur, rfl, hbg, hg, hnc, hcm, hcs, htake⟩
    · have hr2 := run_append_nil (P := Tryz.prog) W 23 23 45 i _ Tryz.underlying23 hi hz ⟨w.heap.size, 0, none⟩ 1 1 (pc [(x, y)]) hl1 hnw (by omega) (by omega) (by rw [hb]; omega)
      rw [hr2] at hr
      cases hr
      intro k hk
      simp [Value.ownBlock] at hk
      exact .inr (by omega)
    · by_cases hroom : l.length + 1 ≤ cap
      · have hr2 := run_append_room (P := Tryz.prog) W 23 23 45 i Tryz.underlying23 hi g l.length cap cur hg ⟨w.heap.size, 0, none⟩ 1 1 (pc [(x, y)]) hl1 hnw hone hroom (by rw [hs, pc_length, hcs]; show l.length * 2 + 1 * 2 ≤ cap * 2; omega)
        rw [hr2] at hr
        cases hr
        intro k hk
        exact .inl hk
      · have hr2 := run_append_grow (P := Tryz.prog) W 23 23 45 i _ Tryz.underlying23 hi hz ⟨g, 0, none⟩ l.length cap (pc l) (by rw [hs]; exact hown1.1) (hown1.cells (g := g) rfl) ⟨w.heap.size, 0, none⟩ 1 1 (pc [(x, y)]) hl1 hnw (by omega) (by omega) (growslice_fits (by omega) (hb16 _ (by omega)))
        rw [hr2] at hr
        cases hr
        intro k hk
        simp [Value.ownBlock] at hk
        exact .inr (by omega)
/-- The two rows of a list of names that is being read: w0 is the world in which the reading began. -/
structure R2 (w0 w : World) (a : Al) (aU : Option Addr) (cU : Nat) (aG : Option Addr) (cG : Nat) : Prop where
  ou : w.ownsRow w0.heap.size 45 2 (.slice aU a.us.length cU) a.us.length (pc a.us)
  og : w.ownsRow w0.heap.size 45 2 (.slice aG a.gs.length cG) a.gs.length (pc a.gs)
  ne : ∀ A A2, aU = some A → aG = some A2 → A.block ≠ A2.block
  bel : Below w0.heap.size w0 w
theorem R2.below {w0 w w' : World} {a : Al} {aU aG : Option Addr} {cU cG : Nat} (h : R2 w0 w a aU cU aG cG) (hb : Below w.heap.size w w') : R2 w0 w' a aU cU aG cG :=
  ⟨rowP_below h.ou hb, rowP_below h.og hb, h.ne, Below.on h.bel hb⟩
theorem r2_start (w : World) : R2 w w alZ none 0 none 0 := ⟨World.ownsRow_nil _ _ _ _, World.ownsRow_nil _ _ _ _, fun A A2 e => (by cases e), Below.refl _ _⟩
theorem R2.as {w0 w : World} {a b : Al} {aU aG : Option Addr} {cU cG : Nat} (h : R2 w0 w a aU cU aG cG) (e1 : b.us = a.us) (e2 : b.gs = a.gs) : R2 w0 w b aU cU aG cG := by
  obtain ⟨h1, h2, h3, h4⟩ := h
  refine ⟨?_, ?_, h3, h4⟩
  · rw [e1]; exact h1
  · rw [e2]; exact h2
/-- A cell that is neither row's is written. -/
theorem R2.set {w0 w : World} {a : Al} {aU aG : Option Addr} {cU cG b o : Nat} {v : Value} (h : R2 w0 w a aU cU aG cG) (hb : w0.heap.size ≤ b) (h1 : ∀ A, aU = some A → b ≠ A.block) (h2 : ∀ A, aG = some A → b ≠ A.block) : R2 w0 (w.setCell ⟨b, o, none⟩ v) a aU cU aG cG := by
  have hk : ∀ (ad : Option Addr) (n c : Nat), (∀ A, ad = some A → b ≠ A.block) → ∀ k, (Value.slice ad n c).ownBlock = some k → (w.setCell ⟨b, o, none⟩ v).heap[k]? = w.heap[k]? := by
    intro ad n c hne k hk
    cases ad with
    | none => simp [Value.ownBlock] at hk
    | some A =>
      simp [Value.ownBlock] at hk
      have := hne A rfl
      exact Below.heap_setCell w ⟨b, o, none⟩ v k (by show k ≠ b; omega)
  exact ⟨rowP_keep h.ou (hk _ _ _ h1), rowP_keep h.og (hk _ _ _ h2), h.ne, h.bel.setCell hb _⟩
theorem R2.addU {w0 w : World} {a : Al} {aU aG : Option Addr} {cU cG : Nat} (h : R2 w0 w a aU cU aG cG) (x y : Int) (hl : a.us.length ≤ 1000000) :
    ∃ a' c' w', (Builtin.append_ #[23, 23] 23 #[.slice aU a.us.length cU, .slice (some ⟨w.heap.size, 0, none⟩) 1 1]).run Tryz.prog (w.alloc (.cells #[.int .i64 x, .int .i64 y] 45)) = .ok (.slice a' (a.us ++ [(x, y)]).length c') w' ∧ R2 w0 w' { a with us := a.us ++ [(x, y)] } a' c' aG cG ∧ w.heap.size ≤ w'.heap.size ∧ (∀ b, b < w.heap.size → (∀ A, aU = some A → b ≠ A.block) → w'.heap[b]? = w.heap[b]?) ∧ (∀ A, a' = some A → (∃ A2, aU = some A2 ∧ A.block = A2.block) ∨ w.heap.size ≤ A.block) := by
  obtain ⟨v', w', hr, ho, hb, hsz, hk, hid⟩ := append_pair w0 w _ a.us h.ou h.bel x y hl
  obtain ⟨a', c', hv⟩ : ∃ a' c', v' = .slice a' (a.us ++ [(x, y)]).length c' := by
    rcases ho.2 with ⟨e, hn⟩ | ⟨g, cap, cur, e, _⟩
    · exact ⟨none, 0, by rw [e, hn]⟩
    · exact ⟨some ⟨g, 0, none⟩, cap, e⟩
  subst hv
  have hk2 : ∀ b, b < w.heap.size → (∀ A, aU = some A → b ≠ A.block) → w'.heap[b]? = w.heap[b]? := fun b hlt hne => hk b hlt (fun e => by
    cases hA : aU with
    | none => rw [hA] at e; simp [Value.ownBlock] at e
    | some A =>
      rw [hA] at e
      simp [Value.ownBlock] at e
      exact hne A hA (by omega))
  have hid2 : ∀ A, a' = some A → (∃ A2, aU = some A2 ∧ A.block = A2.block) ∨ w.heap.size ≤ A.block := fun A e => by
    rcases hid A.block (by rw [e]; rfl) with h1 | h1
    · cases hA : aU with
      | none => rw [hA] at h1; simp [Value.ownBlock] at h1
      | some A2 =>
        rw [hA] at h1
        simp [Value.ownBlock] at h1
        exact .inl ⟨A2, rfl, h1.symm⟩
    · exact .inr h1
  have hlow : ∀ A, aG = some A → A.block < w.heap.size := fun A e => (h.og.lt A.block (by rw [e]; rfl)).2
  have hoth : w'.ownsRow w0.heap.size 45 2 (.slice aG a.gs.length cG) a.gs.length (pc a.gs) := rowP_keep h.og (fun k hk3 => by
    cases hA : aG with
    | none => rw [hA] at hk3; simp [Value.ownBlock] at hk3
    | some A =>
      rw [hA] at hk3
      simp [Value.ownBlock] at hk3
      rw [← hk3]
      exact hk2 A.block (hlow A hA) (fun A2 e2 => by exact fun e3 => h.ne A2 A e2 hA e3.symm))
  refine ⟨a', c', w', hr, ⟨ho, hoth, ?_, hb⟩, hsz, hk2, hid2⟩
  intro A A2 e e2
  rcases hid2 A e with ⟨A3, e3, e4⟩ | h1
  · rw [e4]; exact h.ne A3 A2 e3 e2
  · have := hlow A2 e2
    omega
theorem R2.addG {w0 w : World} {a : Al} {aU aG : Option Addr} {cU cG : Nat} (h : R2 w0 w a aU cU aG cG) (x y : Int) (hl : a.gs.length ≤ 1000000) :
    ∃ a' c' w', (Builtin.append_ #[23, 23] 23 #[.slice aG a.gs.length cG, .slice (some ⟨w.heap.size, 0, none⟩) 1 1]).run Tryz.prog (w.alloc (.cells #[.int .i64 x, .int .i64 y] 45)) = .ok (.slice a' (a.gs ++ [(x, y)]).length c') w' ∧ R2 w0 w' { a with gs := a.gs ++ [(x, y)] } aU cU a' c' ∧ w.heap.size ≤ w'.heap.size ∧ (∀ b, b < w.heap.size → (∀ A, aG = some A → b ≠ A.block) → w'.heap[b]? = w.heap[b]?) ∧ (∀ A, a' = some A → (∃ A2, aG = some A2 ∧ A.block = A2.block) ∨ w.heap.size ≤ A.block) := by
  obtain ⟨v', w', hr, ho, hb, hsz, hk, hid⟩ := append_pair w0 w _ a.gs h.og h.bel x y hl
  obtain ⟨a', c', hv⟩ : ∃ a' c', v' = .slice a' (a.gs ++ [(x, y)]).length c' := by
    rcases ho.2 with ⟨e, hn⟩ | ⟨g, cap, cur, e, _⟩
    · exact ⟨none, 0, by rw [e, hn]⟩
    · exact ⟨some ⟨g, 0, none⟩, cap, e⟩
  subst hv
  have hk2 : ∀ b, b < w.heap.size → (∀ A, aG = some A → b ≠ A.block) → w'.heap[b]? = w.heap[b]? := fun b hlt hne => hk b hlt (fun e => by
    cases hA : aG with
    | none => rw [hA] at e; simp [Value.ownBlock] at e
    | some A =>
      rw [hA] at e
      simp [Value.ownBlock] at e
      exact hne A hA (by omega))
  have hid2 : ∀ A, a' = some A → (∃ A2, aG = some A2 ∧ A.block = A2.block) ∨ w.heap.size ≤ A.block := fun A e => by
    rcases hid A.block (by rw [e]; rfl) with h1 | h1
    · cases hA : aG with
      | none => rw [hA] at h1; simp [Value.ownBlock] at h1
      | some A2 =>
        rw [hA] at h1
        simp [Value.ownBlock] at h1
        exact .inl ⟨A2, rfl, h1.symm⟩
    · exact .inr h1
  have hlow : ∀ A, aU = some A → A.block < w.heap.size := fun A e => (h.ou.lt A.block (by rw [e]; rfl)).2
  have hoth : w'.ownsRow w0.heap.size 45 2 (.slice aU a.us.length cU) a.us.length (pc a.us) := rowP_keep h.ou (fun k hk3 => by
    cases hA : aU with
    | none => rw [hA] at hk3; simp [Value.ownBlock] at hk3
    | some A =>
      rw [hA] at hk3
      simp [Value.ownBlock] at hk3
      rw [← hk3]
      exact hk2 A.block (hlow A hA) (fun A2 e2 => by exact fun e3 => h.ne A A2 hA e2 e3))
  refine ⟨a', c', w', hr, ⟨hoth, ho, ?_, hb⟩, hsz, hk2, hid2⟩
  intro A A2 e e2
  rcases hid2 A2 e2 with ⟨A3, e3, e4⟩ | h1
  · rw [e4]; exact h.ne A A3 e e3
  · have := hlow A e
    omega
theorem R2.prsU {w0 w : World} {a : Al} {aU aG : Option Addr} {cU cG : Nat} (h : R2 w0 w a aU cU aG cG) : Prs aU a.us.length a.us w := by
  obtain ⟨a1, c1, e, ho, _⟩ := own_of_row h.ou
  cases e
  exact ho.prs
theorem R2.prsG {w0 w : World} {a : Al} {aU aG : Option Addr} {cU cG : Nat} (h : R2 w0 w a aU cU aG cG) : Prs aG a.gs.length a.gs w := by
  obtain ⟨a1, c1, e, ho, _⟩ := own_of_row h.og
  cases e
  exact ho.prs
theorem bl_setL {B b o : Nat} {W w1 : World} {x : Value} (hb : Below B W w1) (h : B ≤ b) : Below B W (w1.setCell ⟨b, o, none⟩ x) := hb.setCell h _
/-- Seven cells that may be written. -/
structure W7 (w : World) (b : Nat) (v0 v1 v2 v3 v4 v5 v6 : Value) : Prop where
  lt : b < w.heap.size
  c0 : w.cell? ⟨b, 0, none⟩ = some v0
  c1 : w.cell? ⟨b, 1, none⟩ = some v1
  c2 : w.cell? ⟨b, 2, none⟩ = some v2
  c3 : w.cell? ⟨b, 3, none⟩ = some v3
  c4 : w.cell? ⟨b, 4, none⟩ = some v4
  c5 : w.cell? ⟨b, 5, none⟩ = some v5
  c6 : w.cell? ⟨b, 6, none⟩ = some v6
  z : ∀ o, w.frozen? ⟨b, o, none⟩ = false
theorem W7.keep {w w' : World} {b : Nat} {v0 v1 v2 v3 v4 v5 v6 : Value} (h : W7 w b v0 v1 v2 v3 v4 v5 v6) (hs : w.heap.size ≤ w'.heap.size) (hk : w'.heap[b]? = w.heap[b]?) : W7 w' b v0 v1 v2 v3 v4 v5 v6 := by
  have hc : ∀ o, w'.cell? ⟨b, o, none⟩ = w.cell? ⟨b, o, none⟩ := fun o => World.cell?_of_block (a := ⟨b, o, none⟩) hk
  exact ⟨Nat.lt_of_lt_of_le h.lt hs, (hc 0).trans h.c0, (hc 1).trans h.c1, (hc 2).trans h.c2, (hc 3).trans h.c3, (hc 4).trans h.c4, (hc 5).trans h.c5, (hc 6).trans h.c6, fun o => (World.frozen?_of_block (a := ⟨b, o, none⟩) hk).trans (h.z o)⟩
theorem W7.below {w w' : World} {b : Nat} {v0 v1 v2 v3 v4 v5 v6 : Value} (h : W7 w b v0 v1 v2 v3 v4 v5 v6) (hb : Below w.heap.size w w') : W7 w' b v0 v1 v2 v3 v4 v5 v6 :=
  h.keep hb.size (hb.block b h.lt)
theorem W7.other {w : World} {b b2 o : Nat} {v0 v1 v2 v3 v4 v5 v6 v : Value} (h : W7 w b v0 v1 v2 v3 v4 v5 v6) (hne : b2 ≠ b) : W7 (w.setCell ⟨b2, o, none⟩ v) b v0 v1 v2 v3 v4 v5 v6 :=
  h.keep (by simp) (Below.heap_setCell w ⟨b2, o, none⟩ v b (by show b ≠ b2; omega))
theorem w7_new (w : World) (v0 v1 v2 v3 v4 v5 v6 : Value) (t : TypeId) : W7 (w.alloc (.cells #[v0, v1, v2, v3, v4, v5, v6] t)) w.heap.size v0 v1 v2 v3 v4 v5 v6 := by
  have hb : (w.alloc (.cells #[v0, v1, v2, v3, v4, v5, v6] t)).heap[w.heap.size]? = some (.cells #[v0, v1, v2, v3, v4, v5, v6] t) := by
    rw [World.alloc]
    exact Array.getElem?_push_size
  refine ⟨by simp, ?_, ?_, ?_, ?_, ?_, ?_, ?_, fun o => ?_⟩
  · simp only [World.cell?, hb]; rfl
  · simp only [World.cell?, hb]; rfl
  · simp only [World.cell?, hb]; rfl
  · simp only [World.cell?, hb]; rfl
  · simp only [World.cell?, hb]; rfl
  · simp only [World.cell?, hb]; rfl
  · simp only [World.cell?, hb]; rfl
  · unfold World.frozen?
    simp only [hb]
    simp
theorem W7.set0 {w : World} {b : Nat} {v0 v1 v2 v3 v4 v5 v6 v : Value} (h : W7 w b v0 v1 v2 v3 v4 v5 v6) : W7 (w.setCell ⟨b, 0, none⟩ v) b v v1 v2 v3 v4 v5 v6 := by
  obtain ⟨hl, c0, c1, c2, c3, c4, c5, c6, hz⟩ := h
  refine ⟨by simpa using hl, ?_, ?_, ?_, ?_, ?_, ?_, ?_, fun o => by rw [World.frozen?_setCell]; exact hz o⟩ <;> simp [go_sem, *]
theorem W7.set1 {w : World} {b : Nat} {v0 v1 v2 v3 v4 v5 v6 v : Value} (h : W7 w b v0 v1 v2 v3 v4 v5 v6) : W7 (w.setCell ⟨b, 1, none⟩ v) b v0 v v2 v3 v4 v5 v6 := by
  obtain ⟨hl, c0, c1, c2, c3, c4, c5, c6, hz⟩ := h
  refine ⟨by simpa using hl, ?_, ?_, ?_, ?_, ?_, ?_, ?_, fun o => by rw [World.frozen?_setCell]; exact hz o⟩ <;> simp [go_sem, *]
theorem W7.set2 {w : World} {b : Nat} {v0 v1 v2 v3 v4 v5 v6 v : Value} (h : W7 w b v0 v1 v2 v3 v4 v5 v6) : W7 (w.setCell ⟨b, 2, none⟩ v) b v0 v1 v v3 v4 v5 v6 := by
  obtain ⟨hl, c0, c1, c2, c3, c4, c5, c6, hz⟩ := h
  refine ⟨by simpa using hl, ?_, ?_, ?_, ?_, ?_, ?_, ?_, fun o => by rw [World.frozen?_setCell]; exact hz o⟩ <;> simp [go_sem, *]
theorem W7.set3 {w : World} {b : Nat} {v0 v1 v2 v3 v4 v5 v6 v : Value} (h : W7 w b v0 v1 v2 v3 v4 v5 v6) : W7 (w.setCell ⟨b, 3, none⟩ v) b v0 v1 v2 v v4 v5 v6 := by
  obtain ⟨hl, c0, c1, c2, c3, c4, c5, c6, hz⟩ := h
  refine ⟨by simpa using hl, ?_, ?_, ?_, ?_, ?_, ?_, ?_, fun o => by rw [World.frozen?_setCell]; exact hz o⟩ <;> simp [go_sem, *]
theorem W7.set4 {w : World} {b : Nat} {v0 v1 v2 v3 v4 v5 v6 v : Value} (h : W7 w b v0 v1 v2 v3 v4 v5 v6) : W7 (w.setCell ⟨b, 4, none⟩ v) b v0 v1 v2 v3 v v5 v6 := by
  obtain ⟨hl, c0, c1, c2, c3, c4, c5, c6, hz⟩ := h
  refine ⟨by simpa using hl, ?_, ?_, ?_, ?_, ?_, ?_, ?_, fun o => by rw [World.frozen?_setCell]; exact hz o⟩ <;> simp [go_sem, *]
theorem W7.set5 {w : World} {b : Nat} {v0 v1 v2 v3 v4 v5 v6 v : Value} (h : W7 w b v0 v1 v2 v3 v4 v5 v6) : W7 (w.setCell ⟨b, 5, none⟩ v) b v0 v1 v2 v3 v4 v v6 := by
  obtain ⟨hl, c0, c1, c2, c3, c4, c5, c6, hz⟩ := h
  refine ⟨by simpa using hl, ?_, ?_, ?_, ?_, ?_, ?_, ?_, fun o => by rw [World.frozen?_setCell]; exact hz o⟩ <;> simp [go_sem, *]
theorem W7.set6 {w : World} {b : Nat} {v0 v1 v2 v3 v4 v5 v6 v : Value} (h : W7 w b v0 v1 v2 v3 v4 v5 v6) : W7 (w.setCell ⟨b, 6, none⟩ v) b v0 v1 v2 v3 v4 v5 v := by
  obtain ⟨hl, c0, c1, c2, c3, c4, c5, c6, hz⟩ := h
  refine ⟨by simpa using hl, ?_, ?_, ?_, ?_, ?_, ?_, ?_, fun o => by rw [World.frozen?_setCell]; exact hz o⟩ <;> simp [go_sem, *]
/-- A list of names, as a value. -/
def alV (a : Al) (aU : Option Addr) (cU : Nat) (aG : Option Addr) (cG : Nat) : Value := .agg #[.int .i64 a.u, .int .i64 a.g, .int .i64 a.o, .slice aU a.us.length cU, .slice aG a.gs.length cG, .bool a.r, .int .i64 a.m]
/-- What was there is as it was, but for the rows. -/
def ButR (aU aG : Option Addr) (w w' : World) : Prop := w.heap.size ≤ w'.heap.size ∧ ∀ b, b < w.heap.size → (∀ A, aU = some A → b ≠ A.block) → (∀ A, aG = some A → b ≠ A.block) → w'.heap[b]? = w.heap[b]?
/-- A row lies where it lay, or in new memory. -/
def FromR (a a' : Option Addr) (w : World) : Prop := ∀ A, a' = some A → (∃ A2, a = some A2 ∧ A.block = A2.block) ∨ w.heap.size ≤ A.block
theorem FromR.refl (a : Option Addr) (w : World) : FromR a a w := fun A e => .inl ⟨A, e, rfl⟩
theorem ButR.of_below {aU aG : Option Addr} {w w' : World} (h : Below w.heap.size w w') : ButR aU aG w w' := ⟨h.size, fun b hlt _ _ => h.block b hlt⟩
theorem ButR.trans {aU aG : Option Addr} {w w1 w2 : World} (h : ButR aU aG w w1) (h2 : ButR aU aG w1 w2) : ButR aU aG w w2 :=
  ⟨Nat.le_trans h.1 h2.1, fun b hlt n1 n2 => (h2.2 b (Nat.lt_of_lt_of_le hlt h.1) n1 n2).trans (h.2 b hlt n1 n2)⟩
theorem ButR.set {aU aG : Option Addr} {w w' : World} {b o : Nat} {v : Value} (h : ButR aU aG w w') (hb : w.heap.size ≤ b) : ButR aU aG w (w'.setCell ⟨b, o, none⟩ v) :=
  ⟨by simpa using h.1, fun k hlt n1 n2 => (Below.heap_setCell w' ⟨b, o, none⟩ v k (by show k ≠ b; omega)).trans (h.2 k hlt n1 n2)⟩
/-- What an entry taken in ends in. -/
structure EntW (w0 w w' : World) (a b : Al) (aU : Option Addr) (cU : Nat) (aG : Option Addr) (cG : Nat) (aU' : Option Addr) (cU' : Nat) (aG' : Option Addr) (cG' : Nat) : Prop where
  r : R2 w0 w' b aU' cU' aG' cG'
  but : ButR aU aG w w'
  fu : FromR aU aU' w
  fg : FromR aG aG' w
theorem EntW.set {w0 w w' : World} {a b : Al} {aU aG aU' aG' : Option Addr} {cU cG cU' cG' k o : Nat} {v : Value} (h : EntW w0 w w' a b aU cU aG cG aU' cU' aG' cG') (hk : w.heap.size ≤ k) (h0 : w0.heap.size ≤ k) (h1 : ∀ A, aU' = some A → k ≠ A.block) (h2 : ∀ A, aG' = some A → k ≠ A.block) : EntW w0 w (w'.setCell ⟨k, o, none⟩ v) a b aU cU aG cG aU' cU' aG' cG' :=
  ⟨h.r.set h0 h1 h2, h.but.set hk, h.fu, h.fg⟩
end Go.Proofs.YtgooanaacebncaaGreatDoor
