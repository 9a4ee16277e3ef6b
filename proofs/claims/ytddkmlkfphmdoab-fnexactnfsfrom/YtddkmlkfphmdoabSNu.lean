/- The reader of the specification: l06Reader's num. -/
import Derived.Test.YtddkmlkfphmdoabNfM
import Derived.Test.YtddkmlkfphmdoabSGetNum
import Derived.Test.YtddkmlkfphmdoabINf
namespace Go.Proofs.Ytddkmlkfphmdoab
open Go.RowKit Go.PlainAid Go.Deep
set_option linter.unusedVariables false
/-- The reader's box. -/
structure Rd (w : World) (X : Nat) (s : ByteArray) (σ : Nat × Bool) : Prop where
  lt : X < w.heap.size
  c0 : w.cell? ⟨X, 0, none⟩ = some (.string s)
  c1 : w.cell? ⟨X, 1, none⟩ = some (.int .i64 (σ.1 : Int))
  c2 : w.cell? ⟨X, 2, none⟩ = some (.bool σ.2)
  z : ∀ o, w.frozen? ⟨X, o, none⟩ = false
theorem Rd.keep {w w' : World} {X : Nat} {s : ByteArray} {σ : Nat × Bool} (h : Rd w X s σ) (hs : w.heap.size ≤ w'.heap.size) (hk : w'.heap[X]? = w.heap[X]?) : Rd w' X s σ := by
  have hc : ∀ o, w'.cell? ⟨X, o, none⟩ = w.cell? ⟨X, o, none⟩ := fun o => World.cell?_of_block (a := ⟨X, o, none⟩) hk
  exact ⟨Nat.lt_of_lt_of_le h.lt hs, (hc 0).trans h.c0, (hc 1).trans h.c1, (hc 2).trans h.c2, fun o => (World.frozen?_of_block (a := ⟨X, o, none⟩) hk).trans (h.z o)⟩
theorem Rd.below {w w' : World} {X : Nat} {s : ByteArray} {σ : Nat × Bool} (h : Rd w X s σ) (hb : Below w.heap.size w w') : Rd w' X s σ := h.keep hb.size (hb.block X h.lt)
theorem Rd.set1 {w : World} {X : Nat} {s : ByteArray} {σ : Nat × Bool} (h : Rd w X s σ) (q : Nat) : Rd (w.setCell ⟨X, 1, none⟩ (.int .i64 (q : Int))) X s (q, σ.2) := by
  obtain ⟨hl, c0, c1, c2, hz⟩ := h
  refine ⟨by simpa using hl, ?_, ?_, ?_, fun o => by rw [World.frozen?_setCell]; exact hz o⟩ <;> simp [go_sem, *]
theorem Rd.set2 {w : World} {X : Nat} {s : ByteArray} {σ : Nat × Bool} (h : Rd w X s σ) (b : Bool) : Rd (w.setCell ⟨X, 2, none⟩ (.bool b)) X s (σ.1, b) := by
  obtain ⟨hl, c0, c1, c2, hz⟩ := h
  refine ⟨by simpa using hl, ?_, ?_, ?_, fun o => by rw [World.frozen?_setCell]; exact hz o⟩ <;> simp [go_sem, *]
/-- What num leaves: the reader's box alone may have turned. -/
structure NumW (X : Nat) (w w' : World) : Prop where
  bel : Below X w w'
  kp : ∀ b, b ≠ X → b < w.heap.size → w'.heap[b]? = w.heap[b]?
theorem NumW.of_below {X : Nat} {w w' : World} (h : Below w.heap.size w w') (hX : X ≤ w.heap.size) : NumW X w w' := ⟨h.mono hX, fun b _ hb => h.block b hb⟩
theorem NumW.set {X : Nat} {w w' : World} {o : Nat} {v : Value} (h : NumW X w w') : NumW X w (w'.setCell ⟨X, o, none⟩ v) :=
  ⟨h.bel.setCell (Nat.le_refl _) _, fun b hne hb => (Below.heap_setCell w' ⟨X, o, none⟩ v b (by show b ≠ X; exact hne)).trans (h.kp b hne hb)⟩
theorem NumW.trans {X : Nat} {w w1 w2 : World} (h : NumW X w w1) (h2 : NumW X w1 w2) : NumW X w w2 :=
  ⟨h.bel.trans h2.bel, fun b hne hb => (h2.kp b hne (Nat.lt_of_lt_of_le hb h.bel.size)).trans (h.kp b hne hb)⟩
theorem NumW.size {X : Nat} {w w' : World} (h : NumW X w w') : w.heap.size ≤ w'.heap.size := h.bel.size
/-- Three cells that may be written. -/
structure W3 (w : World) (b : Nat) (v0 v1 v2 : Value) : Prop where
  lt : b < w.heap.size
  c0 : w.cell? ⟨b, 0, none⟩ = some v0
  c1 : w.cell? ⟨b, 1, none⟩ = some v1
  c2 : w.cell? ⟨b, 2, none⟩ = some v2
  z : ∀ o, w.frozen? ⟨b, o, none⟩ = false
theorem W3.below {w w' : World} {b : Nat} {v0 v1 v2 : Value} (h : W3 w b v0 v1 v2) (hb : Below w.heap.size w w') : W3 w' b v0 v1 v2 := by
  have hc := fun o => hb.cell (p := ⟨b, o, none⟩) h.lt
  exact ⟨Nat.lt_of_lt_of_le h.lt hb.size, (hc 0).trans h.c0, (hc 1).trans h.c1, (hc 2).trans h.c2, fun o => (hb.frozen (p := ⟨b, o, none⟩) h.lt).trans (h.z o)⟩
theorem w3_new (w : World) (v0 v1 v2 : Value) (t : TypeId) : W3 (w.alloc (.cells #[v0, v1, v2] t)) w.heap.size v0 v1 v2 := by
  have hb : (w.alloc (.cells #[v0, v1, v2] t)).heap[w.heap.size]? = some (.cells #[v0, v1, v2] t) := by
    rw [World.alloc]
    exact Array.getElem?_push_size
  refine ⟨by simp, ?_, ?_, ?_, fun o => ?_⟩
  · simp only [World.cell?, hb]; rfl
  · simp only [World.cell?, hb]; rfl
  · simp only [World.cell?, hb]; rfl
  · unfold World.frozen?
    simp only [hb]
    simp
theorem W3.all {w : World} {b : Nat} {v0 v1 v2 : Value} (h : W3 w b v0 v1 v2) (u0 u1 u2 : Value) : Box3 (((w.setCell ⟨b, 0, none⟩ u0).setCell ⟨b, 1, none⟩ u1).setCell ⟨b, 2, none⟩ u2) b u0 u1 u2 := by
  obtain ⟨hl, c0, c1, c2, hz⟩ := h
  refine ⟨by simpa using hl, ?_, ?_, ?_⟩ <;> simp [go_sem, *]
set_option maxRecDepth 100000 in
set_option maxHeartbeats 4000000 in
theorem sNum_core (s : ByteArray) (hs : s.size ≤ 8000) (a : Nat) (ha : a ≤ 8000) (bad : Bool) (w : World) (X : Nat) (h : Rd w X s (a, bad)) (n q : Int) (c : Int) (hsc : scan s a 10 0 0 = (n, q, c)) (R : Int) (σ' : Nat × Bool) (hR : (bad = true ∧ R = 0 ∧ σ' = (a, true)) ∨ (bad = false ∧ c ≠ 0 ∧ R = 0 ∧ σ' = (a, true)) ∨ (bad = false ∧ c = 0 ∧ R = n ∧ ∃ p : Nat, q = (p : Int) ∧ σ' = (p, false))) :
    Calls Try.prog 11 #[.pointer (some ⟨X, 0, none⟩)] w fun e w' => e = .returned (.int .i64 R) ∧ Rd w' X s σ' ∧ NumW X w w' := by
  have HG : Hid (∀ w, Calls Try.prog 20 #[.string s, .int .i64 (a : Int)] w fun e w' => e = .returned (.agg #[.int .i64 n, .int .i64 q, .int .i64 c]) ∧ Below w.heap.size w w') := (fun w => by
    have h1 := sGetNum_in s a hs (by omega) w
    rw [hsc] at h1
    exact h1)
  have H : Hid (Rd w X s (a, bad)) := h
  have HRR : Hid _ := hR
  clear hsc hR h hs ha
  obtain ⟨l, c0, c1, c2, z⟩ := H.out
  go_enter Try.func11, Try.ntmps11
  go_upto_region 1 with fail
  go_region_law (go_simp; go_at_call 20; refine (HG.out _).mono ?_; rintro e w4 ⟨rfl, hb4⟩; first | (have HB4 : Hid (Below w.heap.size w w4) := bdZ hb4; clear hb4) | (have HB5 : Hid (Below (w.alloc (.cells #[.int .i64 0, .int .i64 0, .int .i64 0] 47)).heap.size (w.alloc (.cells #[.int .i64 0, .int .i64 0, .int .i64 0] 47)) w4) := bdZ hb4; have hT := (w3_new w (.int .i64 0) (.int .i64 0) (.int .i64 0) 47).below HB5.out; have HT : Hid _ := hT; obtain ⟨tl, t0, t1, t2, tz⟩ := hT; have tz0 := tz 0; have tz1 := tz 1; have tz2 := tz 2; clear tz hb4))
  all_goals
    first
      | (have HF : Hid (Box3 (w4.alloc (.cells #[.int .i64 n, .int .i64 q, .int .i64 c] 47)) w4.heap.size (.int .i64 n) (.int .i64 q) (.int .i64 c)) := box3_new w4 _ _ _ _
         have HK : Hid (Below w.heap.size w (w4.alloc (.cells #[.int .i64 n, .int .i64 q, .int .i64 c] 47))) := Below.onA HB4.out
         generalize (w4.alloc (.cells #[.int .i64 n, .int .i64 q, .int .i64 c] 47)) = W at HF HK ⊢
         generalize w4.heap.size = B at HF ⊢)
      | (have HF : Hid (Box3 (((w4.setCell ⟨w.heap.size, 0, none⟩ (.int .i64 n)).setCell ⟨w.heap.size, 1, none⟩ (.int .i64 q)).setCell ⟨w.heap.size, 2, none⟩ (.int .i64 c)) w.heap.size (.int .i64 n) (.int .i64 q) (.int .i64 c)) := HT.out.all _ _ _
         have HK : Hid (Below w.heap.size w (((w4.setCell ⟨w.heap.size, 0, none⟩ (.int .i64 n)).setCell ⟨w.heap.size, 1, none⟩ (.int .i64 q)).setCell ⟨w.heap.size, 2, none⟩ (.int .i64 c))) := (((Below.on (bel_alloc _ _) HB5.out).setCell (Nat.le_refl _) _).setCell (Nat.le_refl _) _).setCell (Nat.le_refl _) _
         clear tl t0 t1 t2 tz0 tz1 tz2
         generalize (((w4.setCell ⟨w.heap.size, 0, none⟩ (.int .i64 n)).setCell ⟨w.heap.size, 1, none⟩ (.int .i64 q)).setCell ⟨w.heap.size, 2, none⟩ (.int .i64 c)) = W at HF HK ⊢
         obtain ⟨B, hB⟩ : ∃ B, B = w.heap.size := ⟨_, rfl⟩
         rw [← hB] at HF ⊢
         clear hB)
    obtain ⟨fl, f0, f1, f2⟩ := HF.out
    have HR2 : Hid (Rd W X s (a, bad)) := H.out.below HK.out
    have HNW : Hid (NumW X w W) := NumW.of_below HK.out (Nat.le_of_lt l)
    clear l c0 c1 c2 z
    obtain ⟨l, c0, c1, c2, z⟩ := HR2.out
    have z1 := z 1
    have z2 := z 2
    rcases HRR.out with ⟨e1, e2, e3⟩ | ⟨e1, e2, e3, e4⟩ | ⟨e1, e2, e3, p, e4, e5⟩
    · subst e1 e2 e3
      clear z
      go_wp2
      go_ret
      exact ⟨rfl, HR2.out.set2 true, HNW.out.set⟩
    · subst e1 e3 e4
      have g1 : (c == 0) = false := beq_eq_false_iff_ne.2 e2
      clear z e2
      go_wp2
      go_ret
      exact ⟨rfl, HR2.out.set2 true, HNW.out.set⟩
    · subst e1 e2 e3 e4 e5
      clear z
      go_wp2
      go_ret
      exact ⟨rfl, HR2.out.set1 p, HNW.out.set⟩
/-- l06Reader's num. -/
theorem sRdNum_any (s : ByteArray) (hs : s.size ≤ 8000) (σ : Nat × Bool) (ha : σ.1 ≤ s.size) (w : World) (X : Nat) (h : Rd w X s σ) :
    Calls Try.prog 11 #[.pointer (some ⟨X, 0, none⟩)] w fun e w' => e = .returned (.int .i64 (rs1 s σ).1) ∧ Rd w' X s (rs1 s σ).2 ∧ NumW X w w' := by
  obtain ⟨a, bad⟩ := σ
  have ha : a ≤ s.size := ha
  cases bad
  · rcases rs1_of s a with ⟨n, q, h1, h2⟩ | ⟨h1, h2⟩
    · rw [h2]
      exact sNum_core s hs a (by omega) false w X h n q 0 (rd1_some h1) n (q, false) (.inr (.inr ⟨rfl, rfl, rfl, q, rfl, rfl⟩))
    · rw [h2]
      obtain ⟨c, hc, e⟩ := rd1_none h1
      exact sNum_core s hs a (by omega) false w X h 0 0 c e 0 (a, true) (.inr (.inl ⟨rfl, hc, rfl, rfl⟩))
  · rw [rs1_bad]
    exact sNum_core s hs a (by omega) true w X h _ _ _ rfl 0 (a, true) (.inl ⟨rfl, rfl, rfl⟩)
end Go.Proofs.Ytddkmlkfphmdoab
