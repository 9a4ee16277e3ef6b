/- Laid together: ICredRead, ICredRd2. -/
import Derived.Test.YtgooanaacebncaaDoorRE19
/- impl.readCred, impl.CredRead. -/
namespace Go.Proofs.YtgooanaacebncaaDoor
open Go.RowKit Go.PlainAid
set_option linter.unusedVariables false
/-- What lies ahead of a last '*', and is there one? -/
def restC (l : List UInt8) : List UInt8 := Lib.trimSuffix l [42]
def starC (l : List UInt8) : Bool := Lib.hasSuffix l [42]
/-- Three pieces and what is read of them. -/
inductive RdC (l : List UInt8) : Option (Nat × Nat × List Int) → Prop
  | few (h : (spl 58 (restC l)).length ≠ 3) : RdC l none
  | no (a b g) (h : spl 58 (restC l) = [a, b, g]) (hn : rdI a = none ∨ rdI b = none ∨ rdG g = none) : RdC l none
  | yes (a b g u v G) (h : spl 58 (restC l) = [a, b, g]) (h1 : rdI a = some u) (h2 : rdI b = some v) (h3 : rdG g = some G) : RdC l (some (u, v, G))
/-- What readCred ends in. -/
def CredEnd (l : List UInt8) (w : World) (e : Ending) (w' : World) : Prop := Below w.heap.size w w' ∧ ((RdC l none ∧ e = .returned (.tuple #[.agg #[.int .i64 0, .int .i64 0, .slice none 0 0, .bool false], .bool false])) ∨ ∃ (u v : Nat) (G : List Int) (x : Value), RdC l (some (u, v, G)) ∧ e = .returned (.tuple #[.agg #[.int .i64 u, .int .i64 v, x, .bool (starC l)], .bool true]) ∧ w'.ownsRow w.heap.size 2 1 x G.length (iv G))
theorem three_of {l : List (List UInt8)} (h : l.length = 3) : ∃ a b g, l = [a, b, g] := by
  match l, h with
  | [a, b, g], _ => exact ⟨a, b, g, rfl⟩
theorem trim_len (s : ByteArray) : (⟨(restC s.data.toList).toArray⟩ : ByteArray).size ≤ s.size := by
  have hl : s.data.toList.length = s.size := (Lib.size_eq s).symm
  rw [Lib.size_eq]
  simp only [restC, Lib.trimSuffix]
  split <;> simp <;> omega
theorem own_from {w : World} {B B2 : Nat} {t : TypeId} {sz : Nat} {v : Value} {n : Nat} {l : List Value} (h : w.ownsRow B t sz v n l) (hb : B2 ≤ B) : w.ownsRow B2 t sz v n l := by
  obtain ⟨q0, ⟨q1, q2⟩ | ⟨b2, cap2, cur2, q1, q2, q3⟩⟩ := h
  · exact ⟨q0, .inl ⟨q1, q2⟩⟩
  · exact ⟨q0, .inr ⟨b2, cap2, cur2, q1, Nat.le_trans hb q2, q3⟩⟩
theorem piece_len {l : List UInt8} {a b g : List UInt8} (h : spl 58 l = [a, b, g]) : g.length ≤ l.length := by
  have := unspl_spl 58 l
  rw [h] at this
  have h2 := congrArg List.length this
  simp [unspl] at h2
  omega
/-- Cells of a block that may be written. -/
structure Bf4 (w : World) (B : Nat) (v0 v1 v2 v3 : Value) : Prop where
  lt : B < w.heap.size
  c0 : w.cell? ⟨B, 0, none⟩ = some v0
  c1 : w.cell? ⟨B, 1, none⟩ = some v1
  c2 : w.cell? ⟨B, 2, none⟩ = some v2
  c3 : w.cell? ⟨B, 3, none⟩ = some v3
  fz : ∀ o, w.frozen? ⟨B, o, none⟩ = false
theorem Bf4.below {w w' : World} {B : Nat} {v0 v1 v2 v3 : Value} (h : Bf4 w B v0 v1 v2 v3) (hb : Below w.heap.size w w') : Bf4 w' B v0 v1 v2 v3 :=
  ⟨Nat.lt_of_lt_of_le h.lt hb.size, (hb.cell (p := ⟨B, 0, none⟩) h.lt).trans h.c0, (hb.cell (p := ⟨B, 1, none⟩) h.lt).trans h.c1, (hb.cell (p := ⟨B, 2, none⟩) h.lt).trans h.c2, (hb.cell (p := ⟨B, 3, none⟩) h.lt).trans h.c3, fun o => (hb.frozen (p := ⟨B, o, none⟩) h.lt).trans (h.fz o)⟩
theorem fz_new (w : World) (c : Array Value) (t : TypeId) (o : Nat) : (w.alloc (.cells c t)).frozen? ⟨w.heap.size, o, none⟩ = false := by
  have hb : (w.alloc (.cells c t)).heap[w.heap.size]? = some (.cells c t) := by
    rw [World.alloc]
    exact Array.getElem?_push_size
  simp only [World.frozen?, hb]
  simp
theorem bf4_new (w : World) (v0 v1 v2 v3 : Value) (t : TypeId) : Bf4 (w.alloc (.cells #[v0, v1, v2, v3] t)) w.heap.size v0 v1 v2 v3 := by
  obtain ⟨h, h0, h1, h2, h3⟩ := bx4_new w v0 v1 v2 v3 t
  exact ⟨h, h0, h1, h2, h3, fz_new w _ t⟩
theorem setC {B b o : Nat} {W w1 : World} {x : Value} (hb : Below B W w1) (h : B ≤ b) : Below B W (w1.setCell ⟨b, o, none⟩ x) := hb.setCell h _
theorem own_set {w : World} {B b o : Nat} {t : TypeId} {v x : Value} {n : Nat} {l : List Value} (h : w.ownsRow B t 1 v n l) (hne : ∀ A n c, v = .slice (some A) n c → b < A.block) : (w.setCell ⟨b, o, none⟩ x).ownsRow B t 1 v n l := by
  obtain ⟨q0, ⟨q1, q2⟩ | ⟨b2, cap2, cur2, q1, q2, q3, q4⟩⟩ := h
  · exact ⟨q0, .inl ⟨q1, q2⟩⟩
  · refine ⟨q0, .inr ⟨b2, cap2, cur2, q1, q2, ?_, q4⟩⟩
    have hlt := hne _ _ _ q1
    rw [Below.heap_setCell _ _ _ _ (by simp only at hlt ⊢; omega)]
    exact q3
set_option maxRecDepth 100000 in
set_option maxHeartbeats 4000000 in
/-- impl.readCred. -/
theorem iReadCred_any (s : ByteArray) (m : Int) (hs : s.size ≤ 8000) (w : World) (hm : w.cell? ⟨1, 0, none⟩ = some (.int .i64 m)) (hml : 1 < w.heap.size) :
    Calls Tryd.prog 44 #[.string s] w (CredEnd s.data.toList w) := by
  have hC : Hid (∀ w, Calls Tryd.prog 79 #[.string s, .string ⟨#[42]⟩] w fun e w' => e = .returned (.tuple #[.string ⟨(restC s.data.toList).toArray⟩, .bool (starC s.data.toList)]) ∧ w' = w) := (fun w => Tryd.strings_CutSuffix s ⟨#[42]⟩ w (by omega))
  have hsz := trim_len s
  obtain ⟨hsp, hct⟩ := splitB_spl 58 (⟨(restC s.data.toList).toArray⟩ : ByteArray).size ⟨(restC s.data.toList).toArray⟩ (Nat.le_refl _)
  have hS : Hid (∀ w, w.cell? ⟨1, 0, none⟩ = some (.int .i64 m) → Calls Tryd.prog 80 #[.string ⟨(restC s.data.toList).toArray⟩, .string ⟨#[58]⟩] w fun e w' => e = .returned (.slice (some ⟨w.heap.size, 0, none⟩) (spl 58 (restC s.data.toList)).length (spl 58 (restC s.data.toList)).length) ∧ w' = w.alloc (.cells ((bts (spl 58 (restC s.data.toList))).map Value.string).toArray 9)) := (fun w hm => by
    have h := Tryd.strings_Split ⟨(restC s.data.toList).toArray⟩ ⟨#[58]⟩ m w (by omega) hm (by decide)
    rw [hsp, hct] at h
    simpa using h)
  have hR : Hid (spl 58 (restC s.data.toList) = spl 58 (restC s.data.toList)) := rfl
  have hRl : (restC s.data.toList).length ≤ 8000 := by
    rw [Lib.size_eq] at hsz
    simp at hsz
    omega
  have HM : Hid (w.cell? ⟨1, 0, none⟩ = some (.int .i64 m)) := hm
  clear hsp hct hsz hm
  generalize hps : spl 58 (restC s.data.toList) = ps at hS
  have HPS : Hid (spl 58 (restC s.data.toList) = ps) := hps
  clear hps hR
  generalize hrest : (⟨(restC s.data.toList).toArray⟩ : ByteArray) = rest at hC hS
  generalize hstar : starC s.data.toList = star at hC
  have HST : Hid (starC s.data.toList = star) := hstar
  clear hrest hstar
  go_enter Tryd.func44, Tryd.ntmps44
  have hBA : Hid (Below w.heap.size w (w.alloc (.cells #[.int .i64 0, .int .i64 0, .slice none 0 0, .bool false] 25))) := bel_alloc _ _
  have HXA : Hid (Bf4 (w.alloc (.cells #[.int .i64 0, .int .i64 0, .slice none 0 0, .bool false] 25)) w.heap.size (.int .i64 0) (.int .i64 0) (.slice none 0 0) (.bool false)) := bf4_new _ _ _ _ _ _
  go_wp2_with fail
  refine (hC.out _).mono ?_
  rintro e w1 ⟨rfl, rfl⟩
  generalize w.alloc (.cells #[.int .i64 0, .int .i64 0, .slice none 0 0, .bool false] 25) = wA at hBA HXA ⊢
  have HMA : Hid (wA.cell? ⟨1, 0, none⟩ = some (.int .i64 m)) := (hBA.out.cell (p := ⟨1, 0, none⟩) hml).trans HM.out
  go_wp2_with fail
  refine (hS.out _ HMA.out).mono ?_
  rintro e w1 ⟨rfl, rfl⟩
  have HC : Hid (∀ k (h : k < ps.length), (wA.alloc (.cells ((bts ps).map Value.string).toArray 9)).cell? ⟨wA.heap.size, k, none⟩ = some (.string ⟨(ps[k]).toArray⟩)) := (fun k h => cells_at wA (bts ps) _ (bts_at h))
  have hb1 := bel_alloc wA (.cells ((bts ps).map Value.string).toArray 9)
  have hB1 : Hid (Below w.heap.size w (wA.alloc (.cells ((bts ps).map Value.string).toArray 9))) := Below.on hBA.out hb1
  have HX1 : Hid (Bf4 (wA.alloc (.cells ((bts ps).map Value.string).toArray 9)) w.heap.size (.int .i64 0) (.int .i64 0) (.slice none 0 0) (.bool false)) := HXA.out.below hb1
  have hz1 : wA.heap.size < (wA.alloc (.cells ((bts ps).map Value.string).toArray 9)).heap.size := by simp
  clear hS hC hb1 hBA HXA
  generalize wA.alloc (.cells ((bts ps).map Value.string).toArray 9) = w1 at HC hB1 HX1 hz1 ⊢
  by_cases h3 : ps.length = 3
  · obtain ⟨a, b, g, rfl⟩ := three_of h3
    have c0 := HC.out 0 (by simp)
    have c1 := HC.out 1 (by simp)
    have c2 := HC.out 2 (by simp)
    simp only [List.getElem_cons_zero, List.getElem_cons_succ] at c0 c1 c2
    have hgl : g.length ≤ 8000 := by
      have := piece_len HPS.out
      omega
    have hIa : Hid (∀ w, Calls Tryd.prog 81 #[.string ⟨a.toArray⟩] w fun e w' => e = .returned (optI (rdI a)) ∧ Below w.heap.size w w') := (fun w => by
      have := iReadId_any ⟨a.toArray⟩ w
      simpa using this)
    have hIb : Hid (∀ w, Calls Tryd.prog 81 #[.string ⟨b.toArray⟩] w fun e w' => e = .returned (optI (rdI b)) ∧ Below w.heap.size w w') := (fun w => by
      have := iReadId_any ⟨b.toArray⟩ w
      simpa using this)
    have hIg : Hid (∀ w, w.cell? ⟨1, 0, none⟩ = some (.int .i64 m) → Calls Tryd.prog 82 #[.string ⟨g.toArray⟩] w (GroupsEnd g w)) := (fun w hm => by
      have := iReadGroups_any ⟨g.toArray⟩ m (by rw [Lib.size_eq]; simpa using hgl) w hm
      simpa using this)
    clear HC h3 hgl hRl
    go_wp2_with fail
    refine (hIa.out _).mono ?_
    rintro e wa ⟨rfl, hba⟩
    have c1a := (hba.cell (p := ⟨wA.heap.size, 1, none⟩) hz1).trans c1
    have c2a := (hba.cell (p := ⟨wA.heap.size, 2, none⟩) hz1).trans c2
    have hza : wA.heap.size < wa.heap.size := Nat.lt_of_lt_of_le hz1 hba.size
    have hBa : Hid (Below w.heap.size w wa) := Below.on hB1.out hba
    have HXa : Hid (Bf4 wa w.heap.size (.int .i64 0) (.int .i64 0) (.slice none 0 0) (.bool false)) := HX1.out.below hba
    simp only [optI]
    clear c0 c1 c2 hba HX1 hB1 hIa hz1
    go_wp2_with fail
    refine (hIb.out _).mono ?_
    rintro e wb ⟨rfl, hbb⟩
    have c2b := (hbb.cell (p := ⟨wA.heap.size, 2, none⟩) hza).trans c2a
    have hzb : wA.heap.size < wb.heap.size := Nat.lt_of_lt_of_le hza hbb.size
    have hBb : Hid (Below w.heap.size w wb) := Below.on hBa.out hbb
    have HXb : Hid (Bf4 wb w.heap.size (.int .i64 0) (.int .i64 0) (.slice none 0 0) (.bool false)) := HXa.out.below hbb
    have HMb : Hid (wb.cell? ⟨1, 0, none⟩ = some (.int .i64 m)) := (hBb.out.cell (p := ⟨1, 0, none⟩) hml).trans HM.out
    simp only [optI]
    clear c1a c2a hbb HXa hBa hIb hza
    go_wp2_with fail
    refine (hIg.out _ HMb.out).mono ?_
    rintro e wg ⟨hbg, hg⟩
    have hBg : Hid (Below w.heap.size w wg) := Below.on hBb.out hbg
    obtain ⟨xl, x0, x1, x2, x3, xf⟩ := HXb.out.below hbg
    have f0 := xf 0
    have f1 := xf 1
    have f2 := xf 2
    have f3 := xf 3
    have hsz : Hid (w.heap.size ≤ wb.heap.size) := hBb.out.size
    have HXl : Hid (w.heap.size < wb.heap.size) := HXb.out.lt
    clear c2b hbg HXb hBb hIg hzb xf HMb HMA HM
    rcases hg with ⟨hgn, vg, rfl⟩ | ⟨G, vg, hgs, rfl, hog⟩
    · have hno : Hid (RdC s.data.toList none) := .no a b g HPS.out (.inr (.inr hgn))
      clear hgn
      generalize rdI a = oa
      generalize rdI b = ob
      cases oa <;> cases ob <;> simp only [Option.getD_none, Option.getD_some, Option.isSome_none, Option.isSome_some] <;> go_wp2 <;> (
        refine bodyPost_ret (v := .tuple #[.agg #[.int .i64 0, .int .i64 0, .slice none 0 0, .bool false], .bool false]) (by simp [results, Tryd.results44, go_sem, x0, x1, x2, x3]) rfl ⟨?_, .inl ⟨hno.out, rfl⟩⟩
        iterate 4 (refine setC ?_ (Nat.le_refl _))
        exact hBg.out)
    · have hog2 : Hid (wg.ownsRow w.heap.size 2 1 vg G.length (iv G)) := own_from hog hsz.out
      have hne : Hid (∀ A n c, vg = .slice (some A) n c → w.heap.size < A.block) := (by
        intro A n c e
        obtain ⟨_, ⟨q1, _⟩ | ⟨b2, cap2, cur2, q1, q2, q3⟩⟩ := hog
        · rw [e] at q1; cases q1
        · rw [e] at q1
          cases q1
          exact Nat.lt_of_lt_of_le HXl.out q2)
      have hend : Hid (∀ u v, rdI a = some u → rdI b = some v → RdC s.data.toList (some (u, v, G))) := (fun u v h1 h2 => .yes a b g u v G HPS.out h1 h2 hgs)
      have hnn : Hid (rdI a = none ∨ rdI b = none → RdC s.data.toList none) := (fun h => .no a b g HPS.out (h.elim .inl (fun h => .inr (.inl h))))
      clear hgs hog
      generalize rdI a = oa at hend hnn ⊢
      generalize rdI b = ob at hend hnn ⊢
      cases oa with
      | none =>
        have hno : Hid (RdC s.data.toList none) := hnn.out (.inl rfl)
        clear hend hnn
        cases ob <;> simp only [Option.getD_none, Option.getD_some, Option.isSome_none, Option.isSome_some] <;> go_wp2 <;> (
          refine bodyPost_ret (v := .tuple #[.agg #[.int .i64 0, .int .i64 0, .slice none 0 0, .bool false], .bool false]) (by simp [results, Tryd.results44, go_sem, x0, x1, x2, x3]) rfl ⟨?_, .inl ⟨hno.out, rfl⟩⟩
          iterate 4 (refine setC ?_ (Nat.le_refl _))
          exact hBg.out)
      | some u =>
        cases ob with
        | none =>
          have hno : Hid (RdC s.data.toList none) := hnn.out (.inr rfl)
          clear hend hnn
          simp only [Option.getD_none, Option.getD_some, Option.isSome_none, Option.isSome_some]
          go_wp2
          refine bodyPost_ret (v := .tuple #[.agg #[.int .i64 0, .int .i64 0, .slice none 0 0, .bool false], .bool false]) (by simp [results, Tryd.results44, go_sem, x0, x1, x2, x3]) rfl ⟨?_, .inl ⟨hno.out, rfl⟩⟩
          iterate 4 (refine setC ?_ (Nat.le_refl _))
          exact hBg.out
        | some v =>
          have hyes : Hid (RdC s.data.toList (some (u, v, G))) := hend.out u v rfl rfl
          clear hend hnn
          obtain ⟨ga, gc, rfl, hgi, _⟩ := own_nums hog2.out
          have HST2 : Hid (starC s.data.toList = star) := HST.out
          simp only [Option.getD_some, Option.isSome_some]
          clear hgi
          go_wp2
          refine bodyPost_ret (v := .tuple #[.agg #[.int .i64 u, .int .i64 v, .slice ga G.length gc, .bool star], .bool true]) (by simp [results, Tryd.results44, go_sem, x0, x1, x2, x3]) rfl ⟨?_, .inr ⟨u, v, G, .slice ga G.length gc, hyes.out, by rw [HST2.out], ?_⟩⟩
          · iterate 4 (refine setC ?_ (Nat.le_refl _))
            exact hBg.out
          · iterate 4 (refine own_set ?_ ?_)
            all_goals first | exact hog2.out | exact fun A n c e => hne.out A n c e
  · have hno : Hid (RdC s.data.toList none) := .few (by rw [HPS.out]; exact h3)
    obtain ⟨xl, x0, x1, x2, x3, xf⟩ := HX1.out
    have f0 := xf 0
    have f1 := xf 1
    have f2 := xf 2
    have f3 := xf 3
    have h3' : ¬ (ps.length : Int) = 3 := by omega
    clear HC HX1 h3 xf
    go_wp2
    refine bodyPost_ret (v := .tuple #[.agg #[.int .i64 0, .int .i64 0, .slice none 0 0, .bool false], .bool false]) (by simp [results, Tryd.results44, go_sem, x0, x1, x2, x3]) rfl ⟨?_, .inl ⟨hno.out, rfl⟩⟩
    iterate 4 (refine setC ?_ (Nat.le_refl _))
    exact hB1.out
/-- What is read of three pieces is one thing. -/
theorem RdC.one {l : List UInt8} {o o' : Option (Nat × Nat × List Int)} (h : RdC l o) (h' : RdC l o') : o = o' := by
  cases h with
  | few h =>
    cases h' with
    | few => rfl
    | no => rfl
    | yes a b g u v G h0 => rw [h0] at h; exact absurd rfl h
  | no a b g h hn =>
    cases h' with
    | few => rfl
    | no => rfl
    | yes a b g u v G h0 h1 h2 h3 =>
      rw [h] at h0
      cases h0
      rw [h1, h2, h3] at hn
      simp at hn
  | yes a b g u v G h0 h1 h2 h3 =>
    cases h' with
    | few h => rw [h0] at h; exact absurd rfl h
    | no a b g h hn =>
      rw [h] at h0
      cases h0
      rw [h1, h2, h3] at hn
      simp at hn
    | yes a b g u v G h4 h5 h6 h7 =>
      rw [h0] at h4
      cases h4
      rw [h1] at h5
      rw [h2] at h6
      rw [h3] at h7
      cases h5
      cases h6
      cases h7
      rfl
/-- CredRead's answer. -/
inductive CrO (l : List UInt8) : Int → Int → List Int → Bool → Int → Prop
  | long (h : 8000 < l.length) : CrO l 0 0 [] false 2
  | no (h : l.length ≤ 8000) (hr : RdC l none) : CrO l 0 0 [] false 3
  | yes (h : l.length ≤ 8000) (u v : Nat) (G : List Int) (hr : RdC l (some (u, v, G))) : CrO l u v G (starC l) 0
theorem CrO.one {l : List UInt8} {u v c u' v' c' : Int} {G G' : List Int} {r r' : Bool} (h : CrO l u v G r c) (h' : CrO l u' v' G' r' c') : u = u' ∧ v = v' ∧ G = G' ∧ r = r' ∧ c = c' := by
  cases h with
  | long h =>
    cases h' with
    | long => exact ⟨rfl, rfl, rfl, rfl, rfl⟩
    | no h2 => omega
    | yes h2 => omega
  | no h hr =>
    cases h' with
    | long h2 => omega
    | no h2 => exact ⟨rfl, rfl, rfl, rfl, rfl⟩
    | yes h2 u v G hr2 => cases hr.one hr2
  | yes h u v G hr =>
    cases h' with
    | long h2 => omega
    | no h2 hr2 => cases hr.one hr2
    | yes h2 u v G hr2 =>
      cases hr.one hr2
      exact ⟨rfl, rfl, rfl, rfl, rfl⟩
/-- What CredRead ends in. -/
def CrEnd (l : List UInt8) (w : World) (e : Ending) (w' : World) : Prop := Below w.heap.size w w' ∧ ∃ (u v : Int) (G : List Int) (r : Bool) (c : Int) (x : Value), e = .returned (.agg #[.int .i64 u, .int .i64 v, x, .bool r, .int .i64 c]) ∧ CrO l u v G r c ∧ w'.ownsRow w.heap.size 2 1 x G.length (iv G)
/-- Five cells of a block that may be written. -/
structure Bf5 (w : World) (B : Nat) (v0 v1 v2 v3 v4 : Value) : Prop where
  lt : B < w.heap.size
  c0 : w.cell? ⟨B, 0, none⟩ = some v0
  c1 : w.cell? ⟨B, 1, none⟩ = some v1
  c2 : w.cell? ⟨B, 2, none⟩ = some v2
  c3 : w.cell? ⟨B, 3, none⟩ = some v3
  c4 : w.cell? ⟨B, 4, none⟩ = some v4
  fz : ∀ o, w.frozen? ⟨B, o, none⟩ = false
theorem Bf5.below {w w' : World} {B : Nat} {v0 v1 v2 v3 v4 : Value} (h : Bf5 w B v0 v1 v2 v3 v4) (hb : Below w.heap.size w w') : Bf5 w' B v0 v1 v2 v3 v4 :=
  ⟨Nat.lt_of_lt_of_le h.lt hb.size, (hb.cell (p := ⟨B, 0, none⟩) h.lt).trans h.c0, (hb.cell (p := ⟨B, 1, none⟩) h.lt).trans h.c1, (hb.cell (p := ⟨B, 2, none⟩) h.lt).trans h.c2, (hb.cell (p := ⟨B, 3, none⟩) h.lt).trans h.c3, (hb.cell (p := ⟨B, 4, none⟩) h.lt).trans h.c4, fun o => (hb.frozen (p := ⟨B, o, none⟩) h.lt).trans (h.fz o)⟩
theorem bf5_new (w : World) (v0 v1 v2 v3 v4 : Value) (t : TypeId) : Bf5 (w.alloc (.cells #[v0, v1, v2, v3, v4] t)) w.heap.size v0 v1 v2 v3 v4 := by
  have hb : (w.alloc (.cells #[v0, v1, v2, v3, v4] t)).heap[w.heap.size]? = some (.cells #[v0, v1, v2, v3, v4] t) := by
    rw [World.alloc]
    exact Array.getElem?_push_size
  refine ⟨by simp, ?_, ?_, ?_, ?_, ?_, fz_new w _ t⟩ <;> (simp only [World.cell?, hb]; rfl)
theorem Bf5.sets {w : World} {B : Nat} {v0 v1 v2 v3 v4 : Value} (h : Bf5 w B v0 v1 v2 v3 v4) (a0 a1 a2 a3 a4 : Value) : Bf5 (((((w.setCell ⟨B, 0, none⟩ a0).setCell ⟨B, 1, none⟩ a1).setCell ⟨B, 2, none⟩ a2).setCell ⟨B, 3, none⟩ a3).setCell ⟨B, 4, none⟩ a4) B a0 a1 a2 a3 a4 := by
  obtain ⟨hl, c0, c1, c2, c3, c4, hf⟩ := h
  refine ⟨by simpa using hl, ?_, ?_, ?_, ?_, ?_, fun o => ?_⟩
  · simp [go_sem, *]
  · simp [go_sem, *]
  · simp [go_sem, *]
  · simp [go_sem, *]
  · simp [go_sem, *]
  · simp only [World.frozen?_setCell]
    exact hf o
set_option maxRecDepth 100000 in
set_option maxHeartbeats 4000000 in
/-- impl.CredRead. -/
theorem iCredRead_any (s : ByteArray) (m : Int) (hs : s.size ≤ 1048576) (w : World) (hm : w.cell? ⟨1, 0, none⟩ = some (.int .i64 m)) (hml : 1 < w.heap.size) :
    Calls Tryd.prog 11 #[.string s] w (CrEnd s.data.toList w) := by
  have hl : s.data.toList.length = s.size := (Lib.size_eq s).symm
  have hBA : Hid (Below w.heap.size w (w.alloc (.cells #[.int .i64 0, .int .i64 0, .slice none 0 0, .bool false, .int .i64 0] 30))) := bel_alloc _ _
  have HXA : Hid (Bf5 (w.alloc (.cells #[.int .i64 0, .int .i64 0, .slice none 0 0, .bool false, .int .i64 0] 30)) w.heap.size (.int .i64 0) (.int .i64 0) (.slice none 0 0) (.bool false) (.int .i64 0)) := bf5_new _ _ _ _ _ _ _
  by_cases hlong : 8000 < s.size
  · have hc : Hid (CrO s.data.toList 0 0 [] false 2) := .long (by omega)
    have hlong' : (8000 : Int) < (s.size : Int) := by omega
    clear hlong hl hm
    clear HXA
    go_enter Tryd.func11, Tryd.ntmps11
    go_wp2
    refine bodyPost_ret (v := .agg #[.int .i64 0, .int .i64 0, .slice none 0 0, .bool false, .int .i64 2]) (by simp [results, Tryd.results11, go_sem]) rfl ⟨bel_alloc _ _, 0, 0, [], false, 2, _, rfl, hc.out, World.ownsRow_nil _ _ _ _⟩
  · have hR : Hid (∀ w, w.cell? ⟨1, 0, none⟩ = some (.int .i64 m) → 1 < w.heap.size → Calls Tryd.prog 44 #[.string s] w (CredEnd s.data.toList w)) := (fun w h1 h2 => iReadCred_any s m (by omega) w h1 h2)
    have hle : Hid (s.data.toList.length ≤ 8000) := (by show _ ≤ _; omega)
    have hno' : ¬ (8000 : Int) < (s.size : Int) := by omega
    have HMA : Hid ((w.alloc (.cells #[.int .i64 0, .int .i64 0, .slice none 0 0, .bool false, .int .i64 0] 30)).cell? ⟨1, 0, none⟩ = some (.int .i64 m)) := (hBA.out.cell (p := ⟨1, 0, none⟩) hml).trans hm
    have hmA : Hid (1 < (w.alloc (.cells #[.int .i64 0, .int .i64 0, .slice none 0 0, .bool false, .int .i64 0] 30)).heap.size) := Nat.lt_of_lt_of_le hml hBA.out.size
    clear hlong hl hm
    go_enter Tryd.func11, Tryd.ntmps11
    go_wp2_with fail
    refine (hR.out _ HMA.out hmA.out).mono ?_
    rintro e w1 ⟨hb1, he⟩
    have hB1 : Hid (Below w.heap.size w w1) := Below.on hBA.out hb1
    have hX1 := HXA.out.below hb1
    have hsz : Hid (w.heap.size < (w.alloc (.cells #[.int .i64 0, .int .i64 0, .slice none 0 0, .bool false, .int .i64 0] 30)).heap.size) := (by show _ < _; simp)
    clear hb1 HXA hBA hR HMA hmA
    generalize (w.alloc (.cells #[.int .i64 0, .int .i64 0, .slice none 0 0, .bool false, .int .i64 0] 30)) = wA at he hsz
    rcases he with ⟨hr, rfl⟩ | ⟨u, v, G, x, hr, rfl, ho⟩
    · have hc : Hid (CrO s.data.toList 0 0 [] false 3) := .no hle.out hr
      have hbz := bel_alloc w1 (.cells #[.int .i64 0, .int .i64 0, .slice none 0 0, .bool false] 25)
      have hne : w.heap.size ≠ w1.heap.size := fun e => by have := hX1.lt; omega
      have HF : Hid (Bf5 ((((((w1.setCell ⟨w.heap.size, 0, none⟩ (.int .i64 0)).setCell ⟨w.heap.size, 1, none⟩ (.int .i64 0)).setCell ⟨w.heap.size, 2, none⟩ (.slice none 0 0)).setCell ⟨w.heap.size, 3, none⟩ (.bool false)).setCell ⟨w.heap.size, 4, none⟩ (.int .i64 3)).alloc (.cells #[.int .i64 0, .int .i64 0, .slice none 0 0, .bool false] 25)) w.heap.size (.int .i64 0) (.int .i64 0) (.slice none 0 0) (.bool false) (.int .i64 3)) := (hX1.sets _ _ _ _ _).below (bel_alloc _ _)
      obtain ⟨xl, x0, x1, x2, x3, x4, xf⟩ := hX1
      have f0 := xf 0
      have f1 := xf 1
      have f2 := xf 2
      have f3 := xf 3
      have f4 := xf 4
      clear xf hr hbz
      go_wp2
      refine bodyPost_ret (v := .agg #[.int .i64 0, .int .i64 0, .slice none 0 0, .bool false, .int .i64 3]) (by
        obtain ⟨yl, y0, y1, y2, y3, y4, yf⟩ := HF.out
        clear x0 x1 x2 x3 x4 f0 f1 f2 f3 f4
        generalize World.alloc _ _ = wf at y0 y1 y2 y3 y4 ⊢
        simp [results, Tryd.results11, go_sem, y0, y1, y2, y3, y4]) rfl ⟨?_, 0, 0, [], false, 3, _, rfl, hc.out, World.ownsRow_nil _ _ _ _⟩
      refine Below.onA ?_
      iterate 5 (refine setC ?_ (Nat.le_refl _))
      exact hB1.out
    · have hc : Hid (CrO s.data.toList u v G (starC s.data.toList) 0) := .yes hle.out u v G hr
      have hne : w.heap.size ≠ w1.heap.size := fun e => by have := hX1.lt; omega
      have hlo : Hid (∀ A n c, x = .slice (some A) n c → w.heap.size < A.block) := (by
        intro A n c e
        obtain ⟨_, ⟨q1, _⟩ | ⟨b2, cap2, cur2, q1, q2, q3⟩⟩ := ho
        · rw [e] at q1; cases q1
        · rw [e] at q1
          cases q1
          exact Nat.lt_of_lt_of_le hsz.out q2)
      have ho2 : Hid (w1.ownsRow w.heap.size 2 1 x G.length (iv G)) := own_from ho (Nat.le_of_lt hsz.out)
      obtain ⟨ga, gc, rfl, _, _⟩ := own_nums ho
      have HF : Hid (∀ star : Bool, Bf5 ((((((w1.setCell ⟨w.heap.size, 0, none⟩ (.int .i64 u)).setCell ⟨w.heap.size, 1, none⟩ (.int .i64 v)).setCell ⟨w.heap.size, 2, none⟩ (.slice ga G.length gc)).setCell ⟨w.heap.size, 3, none⟩ (.bool star)).setCell ⟨w.heap.size, 4, none⟩ (.int .i64 0)).alloc (.cells #[.int .i64 u, .int .i64 v, .slice ga G.length gc, .bool star] 25)) w.heap.size (.int .i64 u) (.int .i64 v) (.slice ga G.length gc) (.bool star) (.int .i64 0)) := (fun star => (hX1.sets _ _ _ _ _).below (bel_alloc _ _))
      obtain ⟨xl, x0, x1, x2, x3, x4, xf⟩ := hX1
      have f0 := xf 0
      have f1 := xf 1
      have f2 := xf 2
      have f3 := xf 3
      have f4 := xf 4
      clear xf hr ho
      generalize starC s.data.toList = star at hc ⊢
      go_wp2
      refine bodyPost_ret (v := .agg #[.int .i64 u, .int .i64 v, .slice ga G.length gc, .bool star, .int .i64 0]) (by
        obtain ⟨yl, y0, y1, y2, y3, y4, yf⟩ := HF.out star
        clear x0 x1 x2 x3 x4 f0 f1 f2 f3 f4
        generalize World.alloc _ _ = wf at y0 y1 y2 y3 y4 ⊢
        simp [results, Tryd.results11, go_sem, y0, y1, y2, y3, y4]) rfl ⟨?_, u, v, G, star, 0, _, rfl, hc.out, ?_⟩
      · refine Below.onA ?_
        iterate 5 (refine setC ?_ (Nat.le_refl _))
        exact hB1.out
      · refine rowT_below ?_ (bel_alloc _ _)
        iterate 5 (refine own_set ?_ hlo.out)
        exact ho2.out
end Go.Proofs.YtgooanaacebncaaDoor
