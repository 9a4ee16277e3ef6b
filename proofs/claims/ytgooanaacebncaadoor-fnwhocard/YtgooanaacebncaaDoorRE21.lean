/- Laid together: SCredRead. -/
import Derived.Test.YtgooanaacebncaaDoorRE20
/- spec.CredRead. -/
namespace Go.Proofs.YtgooanaacebncaaDoor
open Go.RowKit Go.PlainAid Go.Deep
set_option linter.unusedVariables false
/-- Is there a last '*'? -/
theorem star_cases (s : ByteArray) : (s.size = 0 ∧ starC s.data.toList = false ∧ restC s.data.toList = s.data.toList) ∨ (∃ h : 0 < s.size, s[s.size - 1]'(by omega) = 42 ∧ starC s.data.toList = true ∧ restC s.data.toList = s.data.toList.take (s.size - 1) ∧ s.data.toList = restC s.data.toList ++ [42]) ∨ (∃ h : 0 < s.size, s[s.size - 1]'(by omega) ≠ 42 ∧ starC s.data.toList = false ∧ restC s.data.toList = s.data.toList) := by
  have hl : s.data.toList.length = s.size := (Lib.size_eq s).symm
  by_cases h0 : s.size = 0
  · left
    have hn : s.data.toList = [] := List.eq_nil_of_length_eq_zero (by omega)
    rw [hn]
    exact ⟨h0, by decide, by decide⟩
  · right
    have hp : 0 < s.size := by omega
    have hne : s.data.toList ≠ [] := fun e => by rw [e] at hl; simp at hl; omega
    obtain ⟨qs, x, hq⟩ : ∃ qs x, s.data.toList = qs ++ [x] := ⟨s.data.toList.dropLast, s.data.toList.getLast hne, (List.dropLast_concat_getLast hne).symm⟩
    have hql : qs.length + 1 = s.size := by rw [← hl, hq]; simp
    have hx : s[s.size - 1]'(by omega) = x := by
      have e : s[s.size - 1]'(by omega) = s.data.toList[s.size - 1]'(by omega) := rfl
      rw [e]
      have : s.data.toList[s.size - 1]? = some x := by rw [hq]; simp [← hql]
      rw [List.getElem?_eq_getElem (by omega)] at this
      exact Option.some.inj this
    have hs : starC s.data.toList = decide (x = 42) := by
      rw [hq, starC, Lib.hasSuffix]
      by_cases e : x = 42
      · subst e
        rw [decide_eq_true rfl, List.isSuffixOf_iff_suffix]
        exact ⟨qs, rfl⟩
      · rw [decide_eq_false e]
        cases hh : [42].isSuffixOf (qs ++ [x])
        · rfl
        · rw [List.isSuffixOf_iff_suffix] at hh
          obtain ⟨t, ht⟩ := hh
          have := List.append_inj_right' ht rfl
          simp at this
          exact absurd this.symm e
    by_cases e : x = 42
    · left
      have h1 : starC s.data.toList = true := by rw [hs, decide_eq_true e]
      have h2 : restC s.data.toList = s.data.toList.take (s.size - 1) := by
        rw [restC, Lib.trimSuffix]
        have : Lib.hasSuffix s.data.toList [42] = true := h1
        rw [if_pos this, hl]
        rfl
      refine ⟨hp, by rw [hx, e], h1, h2, ?_⟩
      rw [h2, hq, ← hql, e]
      simp
    · right
      have h1 : starC s.data.toList = false := by rw [hs, decide_eq_false e]
      refine ⟨hp, by rw [hx]; exact e, h1, ?_⟩
      rw [restC, Lib.trimSuffix]
      have : Lib.hasSuffix s.data.toList [42] = false := h1
      rw [if_neg (by rw [this]; simp)]
theorem Bf4.set2 {w : World} {B : Nat} {v0 v1 v2 v3 v : Value} (h : Bf4 w B v0 v1 v2 v3) : Bf4 (w.setCell ⟨B, 2, none⟩ v) B v0 v1 v v3 := by
  obtain ⟨hl, c0, c1, c2, c3, hf⟩ := h
  refine ⟨by simpa using hl, ?_, ?_, ?_, ?_, fun o => by rw [World.frozen?_setCell]; exact hf o⟩ <;> simp [go_sem, *]
theorem Bf4.set01 {w : World} {B : Nat} {v0 v1 v2 v3 v u : Value} (h : Bf4 w B v0 v1 v2 v3) : Bf4 ((w.setCell ⟨B, 0, none⟩ v).setCell ⟨B, 1, none⟩ u) B v u v2 v3 := by
  obtain ⟨hl, c0, c1, c2, c3, hf⟩ := h
  refine ⟨by simpa using hl, ?_, ?_, ?_, ?_, fun o => by rw [World.frozen?_setCell, World.frozen?_setCell]; exact hf o⟩ <;> simp [go_sem, *]
theorem Bf5.other {w : World} {B b o : Nat} {v0 v1 v2 v3 v4 v : Value} (h : Bf5 w B v0 v1 v2 v3 v4) (hne : b ≠ B) : Bf5 (w.setCell ⟨b, o, none⟩ v) B v0 v1 v2 v3 v4 := by
  have hc : ∀ o2, (w.setCell ⟨b, o, none⟩ v).cell? ⟨B, o2, none⟩ = w.cell? ⟨B, o2, none⟩ := fun o2 => World.cell?_setCell_other _ _ _ _ (by intro h; have h2 := congrArg Addr.block h; simp only at h2; omega)
  exact ⟨by simpa using h.lt, (hc 0).trans h.c0, (hc 1).trans h.c1, (hc 2).trans h.c2, (hc 3).trans h.c3, (hc 4).trans h.c4, fun o2 => by rw [World.frozen?_setCell]; exact h.fz o2⟩
theorem Bf4.at {w w' : World} {B C : Nat} {v0 v1 v2 v3 : Value} (h : Bf4 w C v0 v1 v2 v3) (hC : C < B) (hb : Below B w w') (hs : w.heap.size ≤ w'.heap.size) : Bf4 w' C v0 v1 v2 v3 :=
  ⟨Nat.lt_of_lt_of_le h.lt hs, (hb.cell (p := ⟨C, 0, none⟩) hC).trans h.c0, (hb.cell (p := ⟨C, 1, none⟩) hC).trans h.c1, (hb.cell (p := ⟨C, 2, none⟩) hC).trans h.c2, (hb.cell (p := ⟨C, 3, none⟩) hC).trans h.c3, fun o => (hb.frozen (p := ⟨C, o, none⟩) hC).trans (h.fz o)⟩
theorem Bf5.at {w w' : World} {B C : Nat} {v0 v1 v2 v3 v4 : Value} (h : Bf5 w C v0 v1 v2 v3 v4) (hC : C < B) (hb : Below B w w') (hs : w.heap.size ≤ w'.heap.size) : Bf5 w' C v0 v1 v2 v3 v4 :=
  ⟨Nat.lt_of_lt_of_le h.lt hs, (hb.cell (p := ⟨C, 0, none⟩) hC).trans h.c0, (hb.cell (p := ⟨C, 1, none⟩) hC).trans h.c1, (hb.cell (p := ⟨C, 2, none⟩) hC).trans h.c2, (hb.cell (p := ⟨C, 3, none⟩) hC).trans h.c3, (hb.cell (p := ⟨C, 4, none⟩) hC).trans h.c4, fun o => (hb.frozen (p := ⟨C, o, none⟩) hC).trans (h.fz o)⟩
/-- As it was, but for block C and what is B or more. -/
structure KeepC (C B : Nat) (w w' : World) : Prop where
  size : w.heap.size ≤ w'.heap.size
  below : Below C w w'
  cell : ∀ b o, b < B → b ≠ C → w'.cell? ⟨b, o, none⟩ = w.cell? ⟨b, o, none⟩
theorem KeepC.refl (C B : Nat) (w : World) : KeepC C B w w := ⟨Nat.le_refl _, Below.refl _ _, fun _ _ _ _ => rfl⟩
theorem KeepC.more {C B : Nat} {w w1 w2 : World} (h : KeepC C B w w1) (hb : Below B w1 w2) (hs : w1.heap.size ≤ w2.heap.size) (hC : C ≤ B) : KeepC C B w w2 :=
  ⟨Nat.le_trans h.size hs, h.below.trans (hb.mono hC), fun b o hb2 hne => (hb.cell (p := ⟨b, o, none⟩) hb2).trans (h.cell b o hb2 hne)⟩
theorem KeepC.set {C B o : Nat} {w w1 : World} {x : Value} (h : KeepC C B w w1) : KeepC C B w (w1.setCell ⟨C, o, none⟩ x) :=
  ⟨by simpa using h.size, setC h.below (Nat.le_refl _), fun b o2 hb2 hne => (World.cell?_setCell_other _ _ _ _ (by intro h; have h2 := congrArg Addr.block h; simp only at h2; omega)).trans (h.cell b o2 hb2 hne)⟩
/-- append of one number, the rest as it was. -/
theorem append_numB (B : Nat) (w : World) (v : Value) (l : List Int) (hown : w.ownsRow B 2 1 v l.length (iv l)) (hB : B ≤ w.heap.size) (x : Int) (hsm : l.length ≤ 100000000) :
    ∃ v' w', (Builtin.append_ #[23, 23] 23 #[v, .slice (some ⟨w.heap.size, 0, none⟩) 1 1]).run Tryd.prog (w.alloc (.cells #[.int .i64 x] 2)) = .ok v' w' ∧ w'.ownsRow B 2 1 v' (l ++ [x]).length (iv (l ++ [x])) ∧ Below B w w' ∧ w.heap.size ≤ w'.heap.size := by
  obtain ⟨i, hi, hzz⟩ := Option.map_eq_some_iff.1 infoN64
  simp only [Prod.mk.injEq] at hzz
  obtain ⟨hz, hs, hb⟩ := hzz
  have hb1 := bel_alloc w (.cells #[.int .i64 x] 2)
  have hown1 := rowT_below hown hb1
  have hB1 : B ≤ (w.alloc (.cells #[.int .i64 x] 2)).heap.size := Nat.le_trans hB hb1.size
  obtain ⟨v', w', hr, h1, h2, _⟩ := run_append_own (P := Tryd.prog) _ B 23 23 2 i _ 1 8 Tryd.underlying23 hi hz hs hb rfl (by decide) v l.length (iv l) hown1 ⟨w.heap.size, 0, none⟩ 1 1 [.int .i64 x] rfl (num_new w x _) (one_num x) (by unfold maxLen; omega) (by omega) hB1
  refine ⟨v', w', hr, ?_, (hb1.mono hB).grown h2 hB1 (own_blockT hown1), Nat.le_trans hb1.size h2.size⟩
  rw [iv_snoc, List.length_append]
  exact h1
theorem own_setC {w : World} {B C o : Nat} {t : TypeId} {v x : Value} {n : Nat} {l : List Value} (h : w.ownsRow B t 1 v n l) (hC : C < B) : (w.setCell ⟨C, o, none⟩ x).ownsRow B t 1 v n l := by
  obtain ⟨q0, ⟨q1, q2⟩ | ⟨b2, cap2, cur2, q1, q2, q3, q4⟩⟩ := h
  · exact ⟨q0, .inl ⟨q1, q2⟩⟩
  · refine ⟨q0, .inr ⟨b2, cap2, cur2, q1, q2, ?_, q4⟩⟩
    rw [Below.heap_setCell _ _ _ _ (by simp only; omega)]
    exact q3
/-- What a split ends in. -/
def SplitEnd (ps : List (List UInt8)) (w : World) (e : Ending) (w' : World) : Prop := ∃ b cap, e = .returned (.slice (some ⟨b, 0, none⟩) ps.length cap) ∧ b < w'.heap.size ∧ w.heap.size ≤ b ∧ (∀ j (h : j < ps.length), w'.cell? ⟨b, j, none⟩ = some (.string ⟨(ps[j]).toArray⟩)) ∧ Below w.heap.size w w'
theorem sSplit_end (s : ByteArray) (c : UInt8) (hs : s.size ≤ 100000000) (w : World) : Calls Tryd.prog 50 #[.string s, .int .u8 (c.toNat : Int)] w (SplitEnd (spl c s.data.toList) w) := by
  refine (sSplit_any s c hs w).mono ?_
  rintro e w' ⟨v, rfl, ho, hb⟩
  have hbl : (bts (spl c s.data.toList)).length = (spl c s.data.toList).length := by simp [bts]
  have hpos : 0 < (spl c s.data.toList).length := by simp [spl]
  obtain ⟨a, cp, rfl, _, hh⟩ := own_texts ho
  obtain ⟨b, rfl, hlt, hcl⟩ := hh (by omega)
  have hge : w.heap.size ≤ b := by
    obtain ⟨_, ⟨q1, _⟩ | ⟨b2, cap2, cur2, q1, q2, q3⟩⟩ := ho
    · cases q1
    · cases q1
      exact q2
  rw [hbl]
  refine ⟨b, cp, rfl, hlt, hge, fun j h => ?_, hb⟩
  have := hcl j _ (bts_at h)
  simpa using this
theorem gS_take {g : List UInt8} {k : Nat} (h : ¬ g = [] → (k = (spl 44 g).length ∧ k ≤ 9) ∨ (k = 9)) (h0 : g = [] → k = 0) : gv ((spl 44 g).take k) = gS g := by
  by_cases e : g = []
  · rw [gS, if_pos e, h0 e]
    simp [gv]
  · rw [gS, if_neg e]
    rcases h e with ⟨h1, h2⟩ | h1
    · rw [h1, List.take_length, List.take_of_length_le (by omega)]
    · rw [h1]
theorem mem_spl_len {c : UInt8} {l p : List UInt8} (h : p ∈ spl c l) : p.length ≤ l.length := by
  have hu := unspl_spl c l
  have : ∀ ps : List (List UInt8), p ∈ ps → p.length ≤ (unspl c ps).length := by
    intro ps
    induction ps with
    | nil => intro h; cases h
    | cons x r ih =>
      intro h
      cases r with
      | nil =>
        simp at h
        rw [h]
        exact Nat.le_refl _
      | cons y r =>
        simp only [unspl, List.length_append, List.length_cons]
        rcases List.mem_cons.1 h with rfl | h
        · omega
        · have := ih h
          omega
  have h2 := this _ h
  rwa [hu] at h2
set_option maxRecDepth 100000 in
set_option maxHeartbeats 4000000 in
theorem sCredRead_short (s : ByteArray) (hs : s.size ≤ 8000) (w : World) :
    Calls Tryd.prog 16 #[.string s] w (CrEnd s.data.toList w) := by
  have hl : s.data.toList.length = s.size := (Lib.size_eq s).symm
  have hle : Hid (s.data.toList.length ≤ 8000) := (by show _ ≤ _; omega)
  have hno' : ¬ (8000 : Int) < (s.size : Int) := by omega
  have HR : Hid (∀ t : Bool, Bf5 ((w.alloc (.cells #[.int .i64 0, .int .i64 0, .slice none 0 0, .bool false, .int .i64 0] 30)).alloc (.cells #[.int .i64 0, .int .i64 0, .slice none 0 0, .bool t] 25)) w.heap.size (.int .i64 0) (.int .i64 0) (.slice none 0 0) (.bool false) (.int .i64 0)) := (fun t => (bf5_new _ _ _ _ _ _ _).below (bel_alloc _ _))
  have HC : Hid (∀ t : Bool, Bf4 ((w.alloc (.cells #[.int .i64 0, .int .i64 0, .slice none 0 0, .bool false, .int .i64 0] 30)).alloc (.cells #[.int .i64 0, .int .i64 0, .slice none 0 0, .bool t] 25)) (w.heap.size + 1) (.int .i64 0) (.int .i64 0) (.slice none 0 0) (.bool t)) := (fun t => by
    have := bf4_new (w.alloc (.cells #[.int .i64 0, .int .i64 0, .slice none 0 0, .bool false, .int .i64 0] 30)) (.int .i64 0) (.int .i64 0) (.slice none 0 0) (.bool t) 25
    simpa using this)
  have HB : Hid (∀ t : Bool, Below w.heap.size w ((w.alloc (.cells #[.int .i64 0, .int .i64 0, .slice none 0 0, .bool false, .int .i64 0] 30)).alloc (.cells #[.int .i64 0, .int .i64 0, .slice none 0 0, .bool t] 25))) := (fun t => Below.on (bel_alloc _ _) (bel_alloc _ _))
  have HZ : Hid (∀ t : Bool, ((w.alloc (.cells #[.int .i64 0, .int .i64 0, .slice none 0 0, .bool false, .int .i64 0] 30)).alloc (.cells #[.int .i64 0, .int .i64 0, .slice none 0 0, .bool t] 25)).heap.size = w.heap.size + 2) := (fun t => by simp)
  go_enter Tryd.func16, Tryd.ntmps16
  rcases star_cases s with ⟨h0, hst, hrs⟩ | ⟨h0, hx, hst, hrs, hcat⟩ | ⟨h0, hx, hst, hrs⟩
  · obtain rfl := text_nil h0
    have hsp := sSplit_end ⟨#[]⟩ 58 (by decide)
    have hno : Hid (CrO (⟨#[]⟩ : ByteArray).data.toList 0 0 [] false 3) := .no (by decide) (.few (by decide))
    clear hst hrs hl hle h0
    go_wp2_with fail
    refine (hsp _).mono ?_
    rintro e w1 ⟨b, cap, rfl, _, _, _, hb1⟩
    have hlen : (spl 58 (⟨#[]⟩ : ByteArray).data.toList).length = 1 := by decide
    rw [hlen]
    have hB1 : Hid (Below w.heap.size w w1) := Below.on (HB.out false) hb1
    have hX1 := (HR.out false).below hb1
    have HF : Hid (Bf5 (((((w1.setCell ⟨w.heap.size, 0, none⟩ (.int .i64 0)).setCell ⟨w.heap.size, 1, none⟩ (.int .i64 0)).setCell ⟨w.heap.size, 2, none⟩ (.slice none 0 0)).setCell ⟨w.heap.size, 3, none⟩ (.bool false)).setCell ⟨w.heap.size, 4, none⟩ (.int .i64 3)) w.heap.size (.int .i64 0) (.int .i64 0) (.slice none 0 0) (.bool false) (.int .i64 3)) := hX1.sets _ _ _ _ _
    obtain ⟨xl, x0, x1, x2, x3, x4, xf⟩ := hX1
    have f0 := xf 0
    have f1 := xf 1
    have f2 := xf 2
    have f3 := xf 3
    have f4 := xf 4
    clear xf hb1 hsp HB HC HR HZ hlen
    go_wp2
    refine bodyPost_ret (v := .agg #[.int .i64 0, .int .i64 0, .slice none 0 0, .bool false, .int .i64 3]) (by
      obtain ⟨yl, y0, y1, y2, y3, y4, yf⟩ := HF.out
      clear x0 x1 x2 x3 x4 f0 f1 f2 f3 f4
      generalize World.setCell _ _ _ = wf at y0 y1 y2 y3 y4 ⊢
      simp [results, Tryd.results16, go_sem, y0, y1, y2, y3, y4]) rfl ⟨?_, 0, 0, [], false, 3, _, rfl, hno.out, World.ownsRow_nil _ _ _ _⟩
    iterate 5 (refine setC ?_ (Nat.le_refl _))
    exact hB1.out
  case' inr.inl =>
    have hne := full_text h0
    have hS : Hid (∀ w, Calls Tryd.prog 50 #[.string (s.extract 0 (s.size - 1)), .int .u8 58] w (SplitEnd (spl 58 (restC s.data.toList)) w)) := (fun w => by
      have := sSplit_end (s.extract 0 (s.size - 1)) 58 (by rw [ByteArray.size_extract]; omega) w
      rwa [show (s.extract 0 (s.size - 1)).data.toList = restC s.data.toList from by rw [hrs, cut_text]; simp] at this)
    have HST : Hid (starC s.data.toList = true ∧ s.data.toList = restC s.data.toList ++ (if true then [42] else [])) := (⟨hst, by rw [if_pos rfl]; exact hcat⟩)
    have hxn : (s[s.size - 1]'(by omega)).toNat = 42 := by rw [hx]; rfl
    have hB1 : (1 : Int) ≤ (s.size : Int) := by omega
    have HL : Hid (s.data.toList.length = s.size) := hl
    clear hcat hrs hst
    go_wp2_with fail
    have HF : Hid (∃ star, Bf4 ((w.alloc (.cells #[.int .i64 0, .int .i64 0, .slice none 0 0, .bool false, .int .i64 0] 30)).alloc (.cells #[.int .i64 0, .int .i64 0, .slice none 0 0, .bool true] 25)) (w.heap.size + 1) (.int .i64 0) (.int .i64 0) (.slice none 0 0) (.bool star) ∧ starC s.data.toList = star ∧ s.data.toList = restC s.data.toList ++ (if star then [42] else [])) := ⟨true, HC.out true, HST.out.1, HST.out.2⟩
    have HR0 : Hid (Bf5 ((w.alloc (.cells #[.int .i64 0, .int .i64 0, .slice none 0 0, .bool false, .int .i64 0] 30)).alloc (.cells #[.int .i64 0, .int .i64 0, .slice none 0 0, .bool true] 25)) w.heap.size (.int .i64 0) (.int .i64 0) (.slice none 0 0) (.bool false) (.int .i64 0)) := HR.out true
    have HB0 : Hid (Below w.heap.size w ((w.alloc (.cells #[.int .i64 0, .int .i64 0, .slice none 0 0, .bool false, .int .i64 0] 30)).alloc (.cells #[.int .i64 0, .int .i64 0, .slice none 0 0, .bool true] 25))) := HB.out true
    have hZ0 := HZ.out true
    clear HC HR HB HZ HST hxn hx
    generalize ((w.alloc (.cells #[.int .i64 0, .int .i64 0, .slice none 0 0, .bool false, .int .i64 0] 30)).alloc (.cells #[.int .i64 0, .int .i64 0, .slice none 0 0, .bool true] 25)) = wS at HF HR0 HB0 hZ0 ⊢
  case' inr.inr =>
    have hne := full_text h0
    have hS : Hid (∀ w, Calls Tryd.prog 50 #[.string (s), .int .u8 58] w (SplitEnd (spl 58 (restC s.data.toList)) w)) := (fun w => by
      have := sSplit_end (s) 58 (by omega) w
      rwa [show (s).data.toList = restC s.data.toList from by rw [hrs]] at this)
    have HST : Hid (starC s.data.toList = false ∧ s.data.toList = restC s.data.toList ++ (if false then [42] else [])) := (⟨hst, by rw [hrs]; simp⟩)
    have hxn : ¬ (s[s.size - 1]'(by omega)).toNat = 42 := fun e => hx (UInt8.toNat_inj.1 e)
    have hB1 : (1 : Int) ≤ (s.size : Int) := by omega
    have HL : Hid (s.data.toList.length = s.size) := hl
    clear hrs hst
    go_wp2_with fail
    have HF : Hid (∃ star, Bf4 ((w.alloc (.cells #[.int .i64 0, .int .i64 0, .slice none 0 0, .bool false, .int .i64 0] 30)).alloc (.cells #[.int .i64 0, .int .i64 0, .slice none 0 0, .bool false] 25)) (w.heap.size + 1) (.int .i64 0) (.int .i64 0) (.slice none 0 0) (.bool star) ∧ starC s.data.toList = star ∧ s.data.toList = restC s.data.toList ++ (if star then [42] else [])) := ⟨false, HC.out false, HST.out.1, HST.out.2⟩
    have HR0 : Hid (Bf5 ((w.alloc (.cells #[.int .i64 0, .int .i64 0, .slice none 0 0, .bool false, .int .i64 0] 30)).alloc (.cells #[.int .i64 0, .int .i64 0, .slice none 0 0, .bool false] 25)) w.heap.size (.int .i64 0) (.int .i64 0) (.slice none 0 0) (.bool false) (.int .i64 0)) := HR.out false
    have HB0 : Hid (Below w.heap.size w ((w.alloc (.cells #[.int .i64 0, .int .i64 0, .slice none 0 0, .bool false, .int .i64 0] 30)).alloc (.cells #[.int .i64 0, .int .i64 0, .slice none 0 0, .bool false] 25))) := HB.out false
    have hZ0 := HZ.out false
    clear HC HR HB HZ HST hxn hx
    generalize ((w.alloc (.cells #[.int .i64 0, .int .i64 0, .slice none 0 0, .bool false, .int .i64 0] 30)).alloc (.cells #[.int .i64 0, .int .i64 0, .slice none 0 0, .bool false] 25)) = wS at HF HR0 HB0 hZ0 ⊢
  all_goals
    obtain ⟨star, hC0, hst, hcat⟩ := HF.out
    have HST : Hid (starC s.data.toList = star) := hst
    have HCAT : Hid (s.data.toList = restC s.data.toList ++ (if star then [42] else [])) := hcat
    have HC0 : Hid (Bf4 wS (w.heap.size + 1) (.int .i64 0) (.int .i64 0) (.slice none 0 0) (.bool star)) := hC0
    clear hst hcat hC0 HF
    refine (hS.out _).mono ?_
    rintro e w1 ⟨b1, cap1, rfl, hb1l, hb1g, hcl1, hbw⟩
    have HCL1 : Hid (∀ j (h : j < (spl 58 (restC s.data.toList)).length), w1.cell? ⟨b1, j, none⟩ = some (.string ⟨((spl 58 (restC s.data.toList))[j]).toArray⟩)) := hcl1
    have HR1 : Hid (Bf5 w1 w.heap.size (.int .i64 0) (.int .i64 0) (.slice none 0 0) (.bool false) (.int .i64 0)) := HR0.out.below hbw
    have HC1 : Hid (Bf4 w1 (w.heap.size + 1) (.int .i64 0) (.int .i64 0) (.slice none 0 0) (.bool star)) := HC0.out.below hbw
    have HB1 : Hid (Below w.heap.size w w1) := Below.on HB0.out hbw
    have hne1 : ¬ b1 = w.heap.size + 1 := by omega
    have hne2 : ¬ w.heap.size + 1 = b1 := by omega
    clear hcl1 hbw HR0 HC0 HB0 hS
    by_cases h3 : (spl 58 (restC s.data.toList)).length = 3
    · obtain ⟨a, b, g, hps⟩ := three_of h3
      have HPS : Hid (spl 58 (restC s.data.toList) = [a, b, g]) := hps
      rw [hps] at HCL1
      simp only [hps, List.length_cons, List.length_nil]
      clear hps h3
      have c0 := HCL1.out 0 (by simp)
      have c1 := HCL1.out 1 (by simp)
      have c2 := HCL1.out 2 (by simp)
      simp only [List.getElem_cons_zero, List.getElem_cons_succ] at c0 c1 c2
      have hul : restC s.data.toList = a ++ 58 :: (b ++ 58 :: g) := by
        have := unspl_spl 58 (restC s.data.toList)
        rw [HPS.out] at this
        exact this.symm
      have hlen : a.length + b.length + g.length ≤ 8000 := by
        have h1 : (restC s.data.toList).length ≤ 8000 := by
          have := trim_len s
          rw [Lib.size_eq] at this
          simp at this
          omega
        rw [hul] at h1
        simp at h1
        omega
      have hNa : Hid (∀ w, Calls Tryd.prog 51 #[.string ⟨a.toArray⟩] w fun e w' => e = .returned (.int .i64 (numI a)) ∧ w' = w) := (fun w => by
        have := sNum_any ⟨a.toArray⟩ (by rw [Lib.size_eq]; simp; omega) w
        simpa using this)
      have hNb : Hid (∀ w, Calls Tryd.prog 51 #[.string ⟨b.toArray⟩] w fun e w' => e = .returned (.int .i64 (numI b)) ∧ w' = w) := (fun w => by
        have := sNum_any ⟨b.toArray⟩ (by rw [Lib.size_eq]; simp; omega) w
        simpa using this)
      have hS2 : Hid (∀ w, Calls Tryd.prog 50 #[.string ⟨g.toArray⟩, .int .u8 44] w (SplitEnd (spl 44 g) w)) := (fun w => by
        have := sSplit_end ⟨g.toArray⟩ 44 (by rw [Lib.size_eq]; simp; omega) w
        simpa using this)
      have hNn : Hid (∀ p ∈ spl 44 g, ∀ w, Calls Tryd.prog 51 #[.string ⟨p.toArray⟩] w fun e w' => e = .returned (.int .i64 (numI p)) ∧ w' = w) := (fun p hp w => by
        have hpl : p.length ≤ g.length := mem_spl_len hp
        have := sNum_any ⟨p.toArray⟩ (by rw [Lib.size_eq]; simp; omega) w
        simpa using this)
      have hpl2 : (spl 44 g).length ≤ 8001 := by
        have := spl_len 44 g
        omega
      obtain ⟨yl, y0, y1, y2, y3, yf⟩ := HC1.out
      have g0 := yf 0
      have g1 := yf 1
      clear HCL1 hul hlen yf
      go_wp2_with fail
      refine (hNa.out _).mono ?_
      rintro e w1 ⟨rfl, rfl⟩
      go_wp2_with fail
      refine (hNb.out _).mono ?_
      rintro e wq ⟨rfl, rfl⟩
      have HC2 : Hid (Bf4 ((w1.setCell ⟨w.heap.size + 1, 0, none⟩ (.int .i64 (numI a))).setCell ⟨w.heap.size + 1, 1, none⟩ (.int .i64 (numI b))) (w.heap.size + 1) (.int .i64 (numI a)) (.int .i64 (numI b)) (.slice none 0 0) (.bool star)) := HC1.out.set01
      have HR2 : Hid (Bf5 ((w1.setCell ⟨w.heap.size + 1, 0, none⟩ (.int .i64 (numI a))).setCell ⟨w.heap.size + 1, 1, none⟩ (.int .i64 (numI b))) w.heap.size (.int .i64 0) (.int .i64 0) (.slice none 0 0) (.bool false) (.int .i64 0)) := (HR1.out.other (by omega)).other (by omega)
      have HB2 : Hid (Below w.heap.size w ((w1.setCell ⟨w.heap.size + 1, 0, none⟩ (.int .i64 (numI a))).setCell ⟨w.heap.size + 1, 1, none⟩ (.int .i64 (numI b)))) := setC (setC HB1.out (by omega)) (by omega)
      have c2b : ((w1.setCell ⟨w.heap.size + 1, 0, none⟩ (.int .i64 (numI a))).setCell ⟨w.heap.size + 1, 1, none⟩ (.int .i64 (numI b))).cell? ⟨b1, 2, none⟩ = some (.string ⟨g.toArray⟩) := (World.cell?_setCell_other _ _ _ _ (by intro h; have h2 := congrArg Addr.block h; simp only at h2; omega)).trans ((World.cell?_setCell_other _ _ _ _ (by intro h; have h2 := congrArg Addr.block h; simp only at h2; omega)).trans c2)
      have hl2 : b1 < ((w1.setCell ⟨w.heap.size + 1, 0, none⟩ (.int .i64 (numI a))).setCell ⟨w.heap.size + 1, 1, none⟩ (.int .i64 (numI b))).heap.size := by simpa using hb1l
      go_wp2_with fail
      refine (hS2.out _).mono ?_
      rintro e w3 ⟨b2, cap2, rfl, hb2l, hb2g, hcl2, hbw2⟩
      have HCL2 : Hid (∀ j (h : j < (spl 44 g).length), w3.cell? ⟨b2, j, none⟩ = some (.string ⟨((spl 44 g)[j]).toArray⟩)) := hcl2
      have HC3 : Hid (Bf4 w3 (w.heap.size + 1) (.int .i64 (numI a)) (.int .i64 (numI b)) (.slice none 0 0) (.bool star)) := HC2.out.below hbw2
      have HR3 : Hid (Bf5 w3 w.heap.size (.int .i64 0) (.int .i64 0) (.slice none 0 0) (.bool false) (.int .i64 0)) := HR2.out.below hbw2
      have HB3 : Hid (Below w.heap.size w w3) := Below.on HB2.out hbw2
      have HC23 : Hid (w3.cell? ⟨b1, 2, none⟩ = some (.string ⟨g.toArray⟩)) := (hbw2.cell (p := ⟨b1, 2, none⟩) hl2).trans c2b
      have hb13 : b1 < w3.heap.size := Nat.lt_of_lt_of_le hl2 hbw2.size
      have hCl := HC2.out.lt
      have hne3 : ¬ b2 = w.heap.size + 1 := by omega
      have hne4 : ¬ w.heap.size + 1 = b2 := by omega
      have hC3l := HC3.out.lt
      clear hcl2 hbw2 HC2 HR2 HB2 c2b hl2 hb2g hCl HC1 HR1 HB1 y0 y1 y2 y3 yl g0 g1 c0 c1 c2 hNa hNb hS2 hb1l
      have HGT : Hid ((g = [] ∧ (⟨g.toArray⟩ : ByteArray) = ⟨#[]⟩) ∨ (g ≠ [] ∧ (⟨g.toArray⟩ : ByteArray).toList.isEmpty = false)) := (by
        by_cases e : g = []
        · exact .inl ⟨e, by rw [e]⟩
        · exact .inr ⟨e, full_text (by rw [Lib.size_eq]; simpa using List.length_pos_iff.2 e)⟩)
      generalize (⟨g.toArray⟩ : ByteArray) = gt at HGT HC23 ⊢
      go_wp2
      go_loopw [7] (fun i wr => ∃ (k : Nat) (x : Value), k ≤ 9 ∧ k ≤ (spl 44 g).length ∧ (g = [] → k = 0) ∧ i = .int .i64 k ∧ Hid (Bf4 wr (w.heap.size + 1) (.int .i64 (numI a)) (.int .i64 (numI b)) x (.bool star)) ∧ Hid (wr.ownsRow w3.heap.size 2 1 x (gv ((spl 44 g).take k)).length (iv (gv ((spl 44 g).take k)))) ∧ Hid (KeepC (w.heap.size + 1) w3.heap.size w3 wr)) (fun i _ => 9 - (intOf i).toNat)
      case atStart => exact ⟨0, .slice none 0 0, by omega, by omega, fun _ => rfl, rfl, HC3, World.ownsRow_nil _ _ _ _, KeepC.refl _ _ _⟩
      case round =>
        obtain ⟨k, x, hk9, hkn, hk0, rfl, hCr, hOw, hKp⟩ := hrel
        have c2w : wr.cell? ⟨b1, 2, none⟩ = some (.string gt) := (hKp.out.cell b1 2 hb13 hne1).trans HC23.out
        by_cases hgo : k < (spl 44 g).length ∧ g ≠ [] ∧ k ≤ 8
        · obtain ⟨hlt, hgn, hk8⟩ := hgo
          have hlt' : (k : Int) < ((spl 44 g).length : Int) := by omega
          have hk8' : (k : Int) ≤ 8 := by omega
          have hgt : gt.toList.isEmpty = false := by
            rcases HGT.out with h | h
            · exact absurd h.1 hgn
            · exact h.2
          have hcz : wr.cell? ⟨b2, k, none⟩ = some (.string ⟨((spl 44 g)[k]).toArray⟩) := (hKp.out.cell b2 k hb2l hne3).trans (HCL2.out k hlt)
          have hNk : Hid (∀ w, Calls Tryd.prog 51 #[.string ⟨((spl 44 g)[k]).toArray⟩] w fun e w' => e = .returned (.int .i64 (numI (spl 44 g)[k])) ∧ w' = w) := hNn.out _ (List.getElem_mem hlt)
          have HG : Hid (gv ((spl 44 g).take (k + 1)) = gv ((spl 44 g).take k) ++ [numI (spl 44 g)[k]]) := gv_take _ hlt
          have hgl : (gv ((spl 44 g).take k)).length ≤ 8001 := by simp [gv]; omega
          have hkpz := hKp.out.size
          have hgn0 : Hid (g = [] → k + 1 = 0) := (fun e => absurd e hgn)
          obtain ⟨v2, w2, hrr, hO2, hB2, hs2⟩ := append_numB w3.heap.size wr.drew x (gv ((spl 44 g).take k)) hOw.out hkpz (numI (spl 44 g)[k]) (by omega)
          rw [← HG.out] at hO2
          obtain ⟨ga2, gc2, hv2, _, _⟩ := own_nums hO2
          generalize hL2 : (gv ((spl 44 g).take (k + 1))).length = L2 at hO2 hv2
          subst hv2
          have HL2 : Hid ((gv ((spl 44 g).take (k + 1))).length = L2) := hL2
          clear hL2
          have HCd : Bf4 wr.drew (w.heap.size + 1) (.int .i64 (numI a)) (.int .i64 (numI b)) x (.bool star) := ⟨hCr.out.lt, hCr.out.c0, hCr.out.c1, hCr.out.c2, hCr.out.c3, hCr.out.fz⟩
          have HC4 := HCd.at hC3l hB2 hs2
          have hCw : Hid (Bf4 (w2.setCell ⟨w.heap.size + 1, 2, none⟩ (.slice ga2 L2 gc2)) (w.heap.size + 1) (.int .i64 (numI a)) (.int .i64 (numI b)) (.slice ga2 L2 gc2) (.bool star)) := HC4.set2
          have hOw2 : Hid ((w2.setCell ⟨w.heap.size + 1, 2, none⟩ (.slice ga2 L2 gc2)).ownsRow w3.heap.size 2 1 (.slice ga2 L2 gc2) L2 (iv (gv ((spl 44 g).take (k + 1))))) := own_setC hO2 hC3l
          have hKd : KeepC (w.heap.size + 1) w3.heap.size w3 wr.drew := ⟨hKp.out.size, ⟨hKp.out.below.os, hKp.out.below.tape, hKp.out.below.output, hKp.out.below.size, hKp.out.below.block⟩, hKp.out.cell⟩
          have hKw : Hid (KeepC (w.heap.size + 1) w3.heap.size w3 (w2.setCell ⟨w.heap.size + 1, 2, none⟩ (.slice ga2 L2 gc2))) := (hKd.more hB2 hs2 (Nat.le_of_lt hC3l)).set
          have q2 := hCr.out.c2
          have q2f := hCr.out.fz 2
          have r2 := HC4.c2
          have r2f := HC4.fz 2
          have q2a : (wr.alloc (.cells #[.int .i64 (numI (spl 44 g)[k])] 2)).cell? ⟨w.heap.size + 1, 2, none⟩ = some x := ((bel_alloc wr _).cell (p := ⟨w.heap.size + 1, 2, none⟩) hCr.out.lt).trans q2
          have q2d : wr.drew.cell? ⟨w.heap.size + 1, 2, none⟩ = some x := q2
          have hczd : wr.drew.cell? ⟨b2, k, none⟩ = some (.string ⟨((spl 44 g)[k]).toArray⟩) := hcz
          have HRR : Hid ((Builtin.append_ #[23, 23] 23 #[x, .slice (some ⟨wr.drew.heap.size, 0, none⟩) 1 1]).run Tryd.prog (wr.drew.alloc (.cells #[.int .i64 (numI (spl 44 g)[k])] 2)) = .ok (.slice ga2 L2 gc2) w2) := hrr
          clear hKp hCr hOw HCL2 HCd HC4 hKd hrr hO2 hB2 hs2
          go_upto_region 17 with fail
          go_region_law (first
            | refine step_append_run rfl (.tmp 67) (.tmp 73) 23 rfl x (.slice (some ⟨wr.drew.heap.size, 0, none⟩) 1 1) (.slice ga2 L2 gc2) w2 (by simp [Act.eval]) (by simp [Act.eval]) HRR.out ?_
            | (go_simp; go_at_call 51; refine (hNk.out _).mono ?_; rintro e wn ⟨rfl, rfl⟩))
          all_goals
            go_wp2
            go_roundw
            case rel => exact ⟨k + 1, .slice ga2 L2 gc2, by omega, by omega, hgn0.out, by go_num, hCw, by rw [HL2.out]; exact hOw2, hKw⟩
            case measure => simp [intOf]; omega
        · have hgS : gv ((spl 44 g).take k) = gS g := gS_take (fun hn => by
            by_cases h1 : k < (spl 44 g).length
            · right
              have : ¬ k ≤ 8 := fun h => hgo ⟨h1, hn, h⟩
              omega
            · left
              omega) hk0
          have hOe := hOw.out
          rw [hgS] at hOe
          obtain ⟨ga, gc, hgv, hgi, _⟩ := own_nums hOe
          subst hgv
          have hT : Hid (Calls Tryd.prog 13 #[.agg #[.int .i64 (numI a), .int .i64 (numI b), .slice ga (gS g).length gc, .bool star]] wr fun e w' => e = .returned (.string (credT (numI a) (numI b) (gS g).length (atN (gS g)) star)) ∧ Below wr.heap.size wr w') := sCredText_any _ _ _ _ _ _ _ _ hgi
          have hEnd : Hid ((credT (numI a) (numI b) (gS g).length (atN (gS g)) star = s ∧ CrO s.data.toList (numI a) (numI b) (gS g) star 0) ∨ (credT (numI a) (numI b) (gS g).length (atN (gS g)) star = ⟨#[]⟩ ∧ CrO s.data.toList 0 0 [] false 3)) := (by
            rcases cred_key a b g star with ⟨_, h1, h2, h3, h4, h5, h6⟩ | ⟨h1, h2⟩
            · left
              refine ⟨?_, ?_⟩
              · apply ByteArray.ext
                apply Array.toList_inj.1
                rw [h6, ← HPS.out, unspl_spl]
                exact HCAT.out.symm
              · have := CrO.yes hle.out (numI a).toNat (numI b).toNat (gS g) (.yes a b g _ _ _ HPS.out h1 h2 h5)
                rw [HST.out, Int.toNat_of_nonneg h3, Int.toNat_of_nonneg h4] at this
                exact this
            · exact .inr ⟨credT_no h1, .no hle.out (.no a b g HPS.out h2)⟩)
          have HRr : Hid (Bf5 wr w.heap.size (.int .i64 0) (.int .i64 0) (.slice none 0 0) (.bool false) (.int .i64 0)) := HR3.out.at (by omega) hKp.out.below hKp.out.size
          have HBr : Hid (Below w.heap.size w wr) := HB3.out.trans (hKp.out.below.mono (by omega))
          have HOe : Hid (wr.ownsRow w3.heap.size 2 1 (.slice ga (gS g).length gc) (gS g).length (iv (gS g))) := hOe
          have hx3 : (¬ k < (spl 44 g).length) ∨ (k < (spl 44 g).length ∧ g = []) ∨ (k < (spl 44 g).length ∧ g ≠ [] ∧ ¬ k ≤ 8) := by
            by_cases h1 : k < (spl 44 g).length
            · by_cases h2 : g = []
              · exact .inr (.inl ⟨h1, h2⟩)
              · exact .inr (.inr ⟨h1, h2, fun h => hgo ⟨h1, h2, h⟩⟩)
            · exact .inl h1
          obtain ⟨yl, y0, y1, y2, y3, yf⟩ := hCr.out
          have hsR : w.heap.size < w3.heap.size := by omega
          clear hOe hgi hgS hOw hKp hgo HR3 HB3 HC3 HCL2 hNn HC23 yf
          rcases hx3 with h1 | ⟨h1, h2⟩ | ⟨h1, h2, h3⟩
          case' inl =>
            have h1' : ¬ (k : Int) < ((spl 44 g).length : Int) := by omega
            clear h1
            go_wp2_with fail
          case' inr.inl =>
            have h1' : (k : Int) < ((spl 44 g).length : Int) := by omega
            have hgt : gt = ⟨#[]⟩ := by
              rcases HGT.out with h | h
              · exact h.2
              · exact absurd h2 h.1
            subst hgt
            clear h1 h2
            go_wp2_with fail
          case' inr.inr =>
            have h1' : (k : Int) < ((spl 44 g).length : Int) := by omega
            have h3' : ¬ (k : Int) ≤ 8 := by omega
            have hgt : gt.toList.isEmpty = false := by
              rcases HGT.out with h | h
              · exact absurd h.1 h2
              · exact h.2
            clear h1 h2 h3
            go_wp2_with fail
          all_goals
            refine hT.out.mono ?_
            rintro e wz ⟨rfl, hbz⟩
            have HRz := HRr.out.below hbz
            have HCz := (Bf4.mk yl y0 y1 y2 y3 hCr.out.fz).below hbz
            have HBz : Hid (Below w.heap.size w wz) := Below.on HBr.out hbz
            have HOz : Hid (wz.ownsRow w3.heap.size 2 1 (.slice ga (gS g).length gc) (gS g).length (iv (gS g))) := rowT_below HOe.out hbz
            clear hbz y0 y1 y2 y3 yl HRr HBr HOe hCr hT c2w
            rcases hEnd.out with ⟨hT1, hO1⟩ | ⟨hT1, hO1⟩
            · have HO1 : Hid (CrO s.data.toList (numI a) (numI b) (gS g) star 0) := hO1
              rw [hT1]
              clear hT1 hO1 hEnd
              have HF : Hid (Bf5 (((((wz.setCell ⟨w.heap.size, 0, none⟩ (.int .i64 (numI a))).setCell ⟨w.heap.size, 1, none⟩ (.int .i64 (numI b))).setCell ⟨w.heap.size, 2, none⟩ (.slice ga (gS g).length gc)).setCell ⟨w.heap.size, 3, none⟩ (.bool star)).setCell ⟨w.heap.size, 4, none⟩ (.int .i64 0)) w.heap.size (.int .i64 (numI a)) (.int .i64 (numI b)) (.slice ga (gS g).length gc) (.bool star) (.int .i64 0)) := HRz.sets _ _ _ _ _
              obtain ⟨zl, z0, z1, z2, z3, zf⟩ := HCz
              obtain ⟨xl, x0, x1, x2, x3, x4, xf⟩ := HRz
              have f0 := xf 0
              have f1 := xf 1
              have f2 := xf 2
              have f3 := xf 3
              have f4 := xf 4
              clear xf zf
              go_wp2
              refine bodyPost_ret (v := .agg #[.int .i64 (numI a), .int .i64 (numI b), .slice ga (gS g).length gc, .bool star, .int .i64 0]) (by
                obtain ⟨yl, y0, y1, y2, y3, y4, yf⟩ := HF.out
                clear x0 x1 x2 x3 x4 f0 f1 f2 f3 f4 z0 z1 z2 z3
                generalize World.setCell _ _ _ = wf at y0 y1 y2 y3 y4 ⊢
                simp [results, Tryd.results16, go_sem, y0, y1, y2, y3, y4]) rfl ⟨?_, numI a, numI b, gS g, star, 0, _, rfl, HO1.out, ?_⟩
              · iterate 5 (refine setC ?_ (Nat.le_refl _))
                exact HBz.out
              · refine own_from ?_ (Nat.le_of_lt hsR)
                iterate 5 (refine own_setC ?_ hsR)
                exact HOz.out
            · have HO1 : Hid (CrO s.data.toList 0 0 [] false 3) := hO1
              rw [hT1]
              clear hT1 hO1 hEnd
              have HF : Hid (Bf5 (((((wz.setCell ⟨w.heap.size, 0, none⟩ (.int .i64 0)).setCell ⟨w.heap.size, 1, none⟩ (.int .i64 0)).setCell ⟨w.heap.size, 2, none⟩ (.slice none 0 0)).setCell ⟨w.heap.size, 3, none⟩ (.bool false)).setCell ⟨w.heap.size, 4, none⟩ (.int .i64 3)) w.heap.size (.int .i64 0) (.int .i64 0) (.slice none 0 0) (.bool false) (.int .i64 3)) := HRz.sets _ _ _ _ _
              obtain ⟨xl, x0, x1, x2, x3, x4, xf⟩ := HRz
              have f0 := xf 0
              have f1 := xf 1
              have f2 := xf 2
              have f3 := xf 3
              have f4 := xf 4
              clear xf HCz
              go_wp2
              refine bodyPost_ret (v := .agg #[.int .i64 0, .int .i64 0, .slice none 0 0, .bool false, .int .i64 3]) (by
                obtain ⟨yl, y0, y1, y2, y3, y4, yf⟩ := HF.out
                clear x0 x1 x2 x3 x4 f0 f1 f2 f3 f4
                generalize World.setCell _ _ _ = wf at y0 y1 y2 y3 y4 ⊢
                simp [results, Tryd.results16, go_sem, y0, y1, y2, y3, y4]) rfl ⟨?_, 0, 0, [], false, 3, _, rfl, HO1.out, World.ownsRow_nil _ _ _ _⟩
              iterate 5 (refine setC ?_ (Nat.le_refl _))
              exact HBz.out
    · have hno : Hid (CrO s.data.toList 0 0 [] false 3) := .no hle.out (.few h3)
      have h3' : ¬ ((spl 58 (restC s.data.toList)).length : Int) = 3 := by omega
      have hX1 := HR1.out
      have HF : Hid (Bf5 (((((w1.setCell ⟨w.heap.size, 0, none⟩ (.int .i64 0)).setCell ⟨w.heap.size, 1, none⟩ (.int .i64 0)).setCell ⟨w.heap.size, 2, none⟩ (.slice none 0 0)).setCell ⟨w.heap.size, 3, none⟩ (.bool false)).setCell ⟨w.heap.size, 4, none⟩ (.int .i64 3)) w.heap.size (.int .i64 0) (.int .i64 0) (.slice none 0 0) (.bool false) (.int .i64 3)) := hX1.sets _ _ _ _ _
      obtain ⟨xl, x0, x1, x2, x3, x4, xf⟩ := hX1
      have f0 := xf 0
      have f1 := xf 1
      have f2 := xf 2
      have f3 := xf 3
      have f4 := xf 4
      clear xf h3 HCL1 HC1 HR1
      generalize (spl 58 (restC s.data.toList)).length = nn at h3' ⊢
      go_wp2
      refine bodyPost_ret (v := .agg #[.int .i64 0, .int .i64 0, .slice none 0 0, .bool false, .int .i64 3]) (by
        obtain ⟨yl, y0, y1, y2, y3, y4, yf⟩ := HF.out
        clear x0 x1 x2 x3 x4 f0 f1 f2 f3 f4
        generalize World.setCell _ _ _ = wf at y0 y1 y2 y3 y4 ⊢
        simp [results, Tryd.results16, go_sem, y0, y1, y2, y3, y4]) rfl ⟨?_, 0, 0, [], false, 3, _, rfl, hno.out, World.ownsRow_nil _ _ _ _⟩
      iterate 5 (refine setC ?_ (Nat.le_refl _))
      exact HB1.out
end Go.Proofs.YtgooanaacebncaaDoor
