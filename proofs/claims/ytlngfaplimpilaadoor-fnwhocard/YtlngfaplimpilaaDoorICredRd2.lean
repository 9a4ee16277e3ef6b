/- impl.CredRead. -/
import Derived.Test.YtlngfaplimpilaaDoorICredRead
namespace Go.Proofs.YtlngfaplimpilaaDoor
open Go.RowKit Go.PlainAid
set_option linter.unusedVariables false
/-- What is read of three pieces is one thing. -/
theorem RdC.one {l : List UInt8} {o o' : Option (Nat × Nat × List Int)} (h : RdC l o) (h' : RdC l o') : o = o' := by
  cases h with
  | few h =>
    cases h' with
    | few => rfl
    | no => rfl
    | yes a b g u v G h0 => rw [h0] at h; exact absurd rfl h
  | no a b g h hn =>
    cases h' with
    | few => rfl
    | no => rfl
    | yes a b g u v G h0 h1 h2 h3 =>
      rw [h] at h0
      cases h0
      rw [h1, h2, h3] at hn
      simp at hn
  | yes a b g u v G h0 h1 h2 h3 =>
    cases h' with
    | few h => rw [h0] at h; exact absurd rfl h
    | no a b g h hn =>
      rw [h] at h0
      cases h0
      rw [h1, h2, h3] at hn
      simp at hn
    | yes a b g u v G h4 h5 h6 h7 =>
      rw [h0] at h4
      cases h4
      rw [h1] at h5
      rw [h2] at h6
      rw [h3] at h7
      cases h5
      cases h6
      cases h7
      rfl
/-- CredRead's answer. -/
inductive CrO (l : List UInt8) : Int → Int → List Int → Bool → Int → Prop
  | long (h : 8000 < l.length) : CrO l 0 0 [] false 2
  | no (h : l.length ≤ 8000) (hr : RdC l none) : CrO l 0 0 [] false 3
  | yes (h : l.length ≤ 8000) (u v : Nat) (G : List Int) (hr : RdC l (some (u, v, G))) : CrO l u v G (starC l) 0
theorem CrO.one {l : List UInt8} {u v c u' v' c' : Int} {G G' : List Int} {r r' : Bool} (h : CrO l u v G r c) (h' : CrO l u' v' G' r' c') : u = u' ∧ v = v' ∧ G = G' ∧ r = r' ∧ c = c' := by
  cases h with
  | long h =>
    cases h' with
    | long => exact ⟨rfl, rfl, rfl, rfl, rfl⟩
    | no h2 => omega
    | yes h2 => omega
  | no h hr =>
    cases h' with
    | long h2 => omega
    | no h2 => exact ⟨rfl, rfl, rfl, rfl, rfl⟩
    | yes h2 u v G hr2 => cases hr.one hr2
  | yes h u v G hr =>
    cases h' with
    | long h2 => omega
    | no h2 hr2 => cases hr.one hr2
    | yes h2 u v G hr2 =>
      cases hr.one hr2
      exact ⟨rfl, rfl, rfl, rfl, rfl⟩
/-- What CredRead ends in. -/
def CrEnd (l : List UInt8) (w : World) (e : Ending) (w' : World) : Prop := Below w.heap.size w w' ∧ ∃ (u v : Int) (G : List Int) (r : Bool) (c : Int) (x : Value), e = .returned (.agg #[.int .i64 u, .int .i64 v, x, .bool r, .int .i64 c]) ∧ CrO l u v G r c ∧ w'.ownsRow w.heap.size 2 1 x G.length (iv G)
/-- Five cells of a block that may be written. -/
structure Bf5 (w : World) (B : Nat) (v0 v1 v2 v3 v4 : Value) : Prop where
  lt : B < w.heap.size
  c0 : w.cell? ⟨B, 0, none⟩ = some v0
  c1 : w.cell? ⟨B, 1, none⟩ = some v1
  c2 : w.cell? ⟨B, 2, none⟩ = some v2
  c3 : w.cell? ⟨B, 3, none⟩ = some v3
  c4 : w.cell? ⟨B, 4, none⟩ = some v4
  fz : ∀ o, w.frozen? ⟨B, o, none⟩ = false
theorem Bf5.below {w w' : World} {B : Nat} {v0 v1 v2 v3 v4 : Value} (h : Bf5 w B v0 v1 v2 v3 v4) (hb : Below w.heap.size w w') : Bf5 w' B v0 v1 v2 v3 v4 :=
  ⟨Nat.lt_of_lt_of_le h.lt hb.size, (hb.cell (p := ⟨B, 0, none⟩) h.lt).trans h.c0, (hb.cell (p := ⟨B, 1, none⟩) h.lt).trans h.c1, (hb.cell (p := ⟨B, 2, none⟩) h.lt).trans h.c2, (hb.cell (p := ⟨B, 3, none⟩) h.lt).trans h.c3, (hb.cell (p := ⟨B, 4, none⟩) h.lt).trans h.c4, fun o => (hb.frozen (p := ⟨B, o, none⟩) h.lt).trans (h.fz o)⟩
theorem bf5_new (w : World) (v0 v1 v2 v3 v4 : Value) (t : TypeId) : Bf5 (w.alloc (.cells #[v0, v1, v2, v3, v4] t)) w.heap.size v0 v1 v2 v3 v4 := by
  have hb : (w.alloc (.cells #[v0, v1, v2, v3, v4] t)).heap[w.heap.size]? = some (.cells #[v0, v1, v2, v3, v4] t) := by
    rw [World.alloc]
    exact Array.getElem?_push_size
  refine ⟨by simp, ?_, ?_, ?_, ?_, ?_, fz_new w _ t⟩ <;> (simp only [World.cell?, hb]; rfl)
theorem Bf5.sets {w : World} {B : Nat} {v0 v1 v2 v3 v4 : Value} (h : Bf5 w B v0 v1 v2 v3 v4) (a0 a1 a2 a3 a4 : Value) : Bf5 (((((w.setCell ⟨B, 0, none⟩ a0).setCell ⟨B, 1, none⟩ a1).setCell ⟨B, 2, none⟩ a2).setCell ⟨B, 3, none⟩ a3).setCell ⟨B, 4, none⟩ a4) B a0 a1 a2 a3 a4 := by
  obtain ⟨hl, c0, c1, c2, c3, c4, hf⟩ := h
  refine ⟨by simpa using hl, ?_, ?_, ?_, ?_, ?_, fun o => ?_⟩
  · simp [go_sem, *]
  · simp [go_sem, *]
  · simp [go_sem, *]
  · simp [go_sem, *]
  · simp [go_sem, *]
  · simp only [World.frozen?_setCell]
    exact hf o
set_option maxRecDepth 100000 in
set_option maxHeartbeats 4000000 in
/-- impl.CredRead. -/
theorem iCredRead_any (s : ByteArray) (m : Int) (hs : s.size ≤ 1048576) (w : World) (hm : w.cell? ⟨1, 0, none⟩ = some (.int .i64 m)) (hml : 1 < w.heap.size) :
    Calls Tryd.prog 12 #[.string s] w (CrEnd s.data.toList w) := by
  have hl : s.data.toList.length = s.size := (Lib.size_eq s).symm
  have hBA : Hid (Below w.heap.size w (w.alloc (.cells #[.int .i64 0, .int .i64 0, .slice none 0 0, .bool false, .int .i64 0] 30))) := bel_alloc _ _
  have HXA : Hid (Bf5 (w.alloc (.cells #[.int .i64 0, .int .i64 0, .slice none 0 0, .bool false, .int .i64 0] 30)) w.heap.size (.int .i64 0) (.int .i64 0) (.slice none 0 0) (.bool false) (.int .i64 0)) := bf5_new _ _ _ _ _ _ _
  by_cases hlong : 8000 < s.size
  · have hc : Hid (CrO s.data.toList 0 0 [] false 2) := .long (by omega)
    have hlong' : (8000 : Int) < (s.size : Int) := by omega
    clear hlong hl hm
    clear HXA
    go_enter Tryd.func12, Tryd.ntmps12
    go_wp2
    refine bodyPost_ret (v := .agg #[.int .i64 0, .int .i64 0, .slice none 0 0, .bool false, .int .i64 2]) (by simp [results, Tryd.results12, go_sem]) rfl ⟨bel_alloc _ _, 0, 0, [], false, 2, _, rfl, hc.out, World.ownsRow_nil _ _ _ _⟩
  · have hR : Hid (∀ w, w.cell? ⟨1, 0, none⟩ = some (.int .i64 m) → 1 < w.heap.size → Calls Tryd.prog 50 #[.string s] w (CredEnd s.data.toList w)) := (fun w h1 h2 => iReadCred_any s m (by omega) w h1 h2)
    have hle : Hid (s.data.toList.length ≤ 8000) := (by show _ ≤ _; omega)
    have hno' : ¬ (8000 : Int) < (s.size : Int) := by omega
    have HMA : Hid ((w.alloc (.cells #[.int .i64 0, .int .i64 0, .slice none 0 0, .bool false, .int .i64 0] 30)).cell? ⟨1, 0, none⟩ = some (.int .i64 m)) := (hBA.out.cell (p := ⟨1, 0, none⟩) hml).trans hm
    have hmA : Hid (1 < (w.alloc (.cells #[.int .i64 0, .int .i64 0, .slice none 0 0, .bool false, .int .i64 0] 30)).heap.size) := Nat.lt_of_lt_of_le hml hBA.out.size
    clear hlong hl hm
    go_enter Tryd.func12, Tryd.ntmps12
    go_wp2_with fail
    refine (hR.out _ HMA.out hmA.out).mono ?_
    rintro e w1 ⟨hb1, he⟩
    have hB1 : Hid (Below w.heap.size w w1) := Below.on hBA.out hb1
    have hX1 := HXA.out.below hb1
    have hsz : Hid (w.heap.size < (w.alloc (.cells #[.int .i64 0, .int .i64 0, .slice none 0 0, .bool false, .int .i64 0] 30)).heap.size) := (by show _ < _; simp)
    clear hb1 HXA hBA hR HMA hmA
    generalize (w.alloc (.cells #[.int .i64 0, .int .i64 0, .slice none 0 0, .bool false, .int .i64 0] 30)) = wA at he hsz
    rcases he with ⟨hr, rfl⟩ | ⟨u, v, G, x, hr, rfl, ho⟩
    · have hc : Hid (CrO s.data.toList 0 0 [] false 3) := .no hle.out hr
      have hbz := bel_alloc w1 (.cells #[.int .i64 0, .int .i64 0, .slice none 0 0, .bool false] 25)
      have hne : w.heap.size ≠ w1.heap.size := fun e => by have := hX1.lt; omega
      have HF : Hid (Bf5 ((((((w1.setCell ⟨w.heap.size, 0, none⟩ (.int .i64 0)).setCell ⟨w.heap.size, 1, none⟩ (.int .i64 0)).setCell ⟨w.heap.size, 2, none⟩ (.slice none 0 0)).setCell ⟨w.heap.size, 3, none⟩ (.bool false)).setCell ⟨w.heap.size, 4, none⟩ (.int .i64 3)).alloc (.cells #[.int .i64 0, .int .i64 0, .slice none 0 0, .bool false] 25)) w.heap.size (.int .i64 0) (.int .i64 0) (.slice none 0 0) (.bool false) (.int .i64 3)) := (hX1.sets _ _ _ _ _).below (bel_alloc _ _)
      obtain ⟨xl, x0, x1, x2, x3, x4, xf⟩ := hX1
      have f0 := xf 0
      have f1 := xf 1
      have f2 := xf 2
      have f3 := xf 3
      have f4 := xf 4
      clear xf hr hbz
      go_wp2
      refine bodyPost_ret (v := .agg #[.int .i64 0, .int .i64 0, .slice none 0 0, .bool false, .int .i64 3]) (by
        obtain ⟨yl, y0, y1, y2, y3, y4, yf⟩ := HF.out
        clear x0 x1 x2 x3 x4 f0 f1 f2 f3 f4
        generalize World.alloc _ _ = wf at y0 y1 y2 y3 y4 ⊢
        simp [results, Tryd.results12, go_sem, y0, y1, y2, y3, y4]) rfl ⟨?_, 0, 0, [], false, 3, _, rfl, hc.out, World.ownsRow_nil _ _ _ _⟩
      refine Below.onA ?_
      iterate 5 (refine setC ?_ (Nat.le_refl _))
      exact hB1.out
    · have hc : Hid (CrO s.data.toList u v G (starC s.data.toList) 0) := .yes hle.out u v G hr
      have hne : w.heap.size ≠ w1.heap.size := fun e => by have := hX1.lt; omega
      have hlo : Hid (∀ A n c, x = .slice (some A) n c → w.heap.size < A.block) := (by
        intro A n c e
        obtain ⟨_, ⟨q1, _⟩ | ⟨b2, cap2, cur2, q1, q2, q3⟩⟩ := ho
        · rw [e] at q1; cases q1
        · rw [e] at q1
          cases q1
          exact Nat.lt_of_lt_of_le hsz.out q2)
      have ho2 : Hid (w1.ownsRow w.heap.size 2 1 x G.length (iv G)) := own_from ho (Nat.le_of_lt hsz.out)
      obtain ⟨ga, gc, rfl, _, _⟩ := own_nums ho
      have HF : Hid (∀ star : Bool, Bf5 ((((((w1.setCell ⟨w.heap.size, 0, none⟩ (.int .i64 u)).setCell ⟨w.heap.size, 1, none⟩ (.int .i64 v)).setCell ⟨w.heap.size, 2, none⟩ (.slice ga G.length gc)).setCell ⟨w.heap.size, 3, none⟩ (.bool star)).setCell ⟨w.heap.size, 4, none⟩ (.int .i64 0)).alloc (.cells #[.int .i64 u, .int .i64 v, .slice ga G.length gc, .bool star] 25)) w.heap.size (.int .i64 u) (.int .i64 v) (.slice ga G.length gc) (.bool star) (.int .i64 0)) := (fun star => (hX1.sets _ _ _ _ _).below (bel_alloc _ _))
      obtain ⟨xl, x0, x1, x2, x3, x4, xf⟩ := hX1
      have f0 := xf 0
      have f1 := xf 1
      have f2 := xf 2
      have f3 := xf 3
      have f4 := xf 4
      clear xf hr ho
      generalize starC s.data.toList = star at hc ⊢
      go_wp2
      refine bodyPost_ret (v := .agg #[.int .i64 u, .int .i64 v, .slice ga G.length gc, .bool star, .int .i64 0]) (by
        obtain ⟨yl, y0, y1, y2, y3, y4, yf⟩ := HF.out star
        clear x0 x1 x2 x3 x4 f0 f1 f2 f3 f4
        generalize World.alloc _ _ = wf at y0 y1 y2 y3 y4 ⊢
        simp [results, Tryd.results12, go_sem, y0, y1, y2, y3, y4]) rfl ⟨?_, u, v, G, star, 0, _, rfl, hc.out, ?_⟩
      · refine Below.onA ?_
        iterate 5 (refine setC ?_ (Nat.le_refl _))
        exact hB1.out
      · refine rowT_below ?_ (bel_alloc _ _)
        iterate 5 (refine own_set ?_ hlo.out)
        exact ho2.out
end Go.Proofs.YtlngfaplimpilaaDoor
