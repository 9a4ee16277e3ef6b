/- Laid together: SCredText, DrawWho2. -/
import Derived.Test.YtgooanaacebncaaDoorRE11
import Derived.Test.YtgooanaacebncaaDoorRE6
/- spec.CredText. -/
namespace Go.Proofs.YtgooanaacebncaaDoor
open Go.RowKit Go.PlainAid Go.Deep
set_option linter.unusedVariables false
/-- Four cells of a block. -/
structure Bx4 (w : World) (B : Nat) (v0 v1 v2 v3 : Value) : Prop where
  lt : B < w.heap.size
  c0 : w.cell? ⟨B, 0, none⟩ = some v0
  c1 : w.cell? ⟨B, 1, none⟩ = some v1
  c2 : w.cell? ⟨B, 2, none⟩ = some v2
  c3 : w.cell? ⟨B, 3, none⟩ = some v3
theorem Bx4.below {w w' : World} {B : Nat} {v0 v1 v2 v3 : Value} (h : Bx4 w B v0 v1 v2 v3) (hb : Below w.heap.size w w') : Bx4 w' B v0 v1 v2 v3 :=
  ⟨Nat.lt_of_lt_of_le h.lt hb.size, (hb.cell (p := ⟨B, 0, none⟩) h.lt).trans h.c0, (hb.cell (p := ⟨B, 1, none⟩) h.lt).trans h.c1, (hb.cell (p := ⟨B, 2, none⟩) h.lt).trans h.c2, (hb.cell (p := ⟨B, 3, none⟩) h.lt).trans h.c3⟩
theorem bx4_new (w : World) (v0 v1 v2 v3 : Value) (t : TypeId) : Bx4 (w.alloc (.cells #[v0, v1, v2, v3] t)) w.heap.size v0 v1 v2 v3 := by
  have hb : (w.alloc (.cells #[v0, v1, v2, v3] t)).heap[w.heap.size]? = some (.cells #[v0, v1, v2, v3] t) := by
    rw [World.alloc]
    exact Array.getElem?_push_size
  refine ⟨by simp, ?_, ?_, ?_, ?_⟩ <;> (simp only [World.cell?, hb]; rfl)
theorem rises_at {f : Nat → Int} {n k : Nat} (h : risesB f n = true) (hk : k < n) : 0 ≤ f k ∧ f k ≤ 9999 := by
  cases e : okG f k
  · rw [rises_false hk e] at h; cases h
  · simp only [okG, Bool.and_eq_true] at e
    exact inR_iff.1 e.1
theorem cred_facts {u g : Int} {cl : Nat} {f : Nat → Int} (h : credB u g cl f = true) : (0 ≤ u ∧ u ≤ 9999) ∧ (0 ≤ g ∧ g ≤ 9999) ∧ cl ≤ 8 ∧ ∀ k, k < cl → 0 ≤ f k ∧ f k ≤ 9999 := by
  obtain ⟨h1, h2, h3⟩ := credB_iff.1 h
  refine ⟨inR_iff.1 h1, inR_iff.1 h2, gr_len h3, fun k hk => ?_⟩
  simp only [grB, Bool.and_eq_true] at h3
  exact rises_at h3.2 hk
theorem credT_no {u g : Int} {cl : Nat} {f : Nat → Int} {cr : Bool} (h : credB u g cl f = false) : credT u g cl f cr = ⟨#[]⟩ := by simp [credT, h]
theorem ret_text {a b : ByteArray} (h : a = b) : Ending.returned (.string a) = .returned (.string b) := by rw [h]
set_option maxRecDepth 100000 in
set_option maxHeartbeats 4000000 in
/-- spec.CredText of a right Cred. -/
theorem sCredText_in (u g : Nat) (ca : Option Addr) (cl cc : Nat) (cr : Bool) (f : Nat → Int) (hc : credB u g cl f = true) (w : World) (hi : Ints ca cl f w) :
    Calls Tryd.prog 13 #[.agg #[.int .i64 u, .int .i64 g, .slice ca cl cc, .bool cr]] w fun e w' => e = .returned (.string (if cr then preT u g ++ jnT f cl ++ ⟨#[42]⟩ else preT u g ++ jnT f cl)) ∧ Below w.heap.size w w' := by
  obtain ⟨hu, hg, hcl, hf⟩ := cred_facts hc
  have hR : Hid (∀ w', Below w.heap.size w w' → Calls Tryd.prog 15 #[.agg #[.int .i64 u, .int .i64 g, .slice ca cl cc, .bool cr]] w' fun e w'' => e = .returned (.bool true) ∧ Below w'.heap.size w' w'') := (fun w' hb => by
    have := sCredRight_any u g ca cl cc cr f w' (hi.below hb)
    rwa [hc] at this)
  have dU : Hid (∀ w, Calls Tryd.prog 46 #[.int .i64 u] w fun e w' => e = .returned (.string (decT u)) ∧ Below w.heap.size w w') := sDec_any u (by omega)
  have dG : Hid (∀ w, Calls Tryd.prog 46 #[.int .i64 g] w fun e w' => e = .returned (.string (decT g)) ∧ Below w.heap.size w w') := sDec_any g (by omega)
  have dF : Hid (∀ k w, k < cl → Calls Tryd.prog 46 #[.int .i64 (f k)] w fun e w' => e = .returned (.string (decT (f k).toNat)) ∧ Below w.heap.size w w') := (fun k w hk => by
    have h1 := hf k hk
    have h2 := sDec_any (f k).toNat (by omega) w
    rwa [Int.toNat_of_nonneg h1.1] at h2)
  have su := decT_size (n := u) (by omega)
  have sg := decT_size (n := g) (by omega)
  have HP : Hid (preT u g = decT u ++ ⟨#[58]⟩ ++ decT g ++ ⟨#[58]⟩) := rfl
  have sP : (preT u g).size ≤ 10 := preT_size (by omega) (by omega)
  have sJ : Hid (∀ k, k ≤ cl → (jnT f k).size ≤ 40) := (fun k hk => by have := jnT_size hf hk; omega)
  have sD : Hid (∀ k, k < cl → (decT (f k).toNat).size ≤ 4) := (fun k hk => (decT_size (by have := hf k hk; omega)).2)
  have N1 : Hid (preT u g ++ jnT f 0 ++ decT (f 0).toNat = preT u g ++ jnT f 1) := jnT_first _ _
  have N2 : Hid (∀ k, ¬ k = 0 → preT u g ++ jnT f k ++ ⟨#[44]⟩ ++ decT (f k).toNat = preT u g ++ jnT f (k + 1)) := (fun k h => jnT_next _ _ h)
  have N0 : Hid (preT u g ++ jnT f 0 = preT u g) := cat_end _
  have HI : Hid (Ints ca cl f w) := hi
  have HX : Hid (Bx4 (w.alloc (.cells #[.int .i64 u, .int .i64 g, .slice ca cl cc, .bool cr] 25)) w.heap.size (.int .i64 u) (.int .i64 g) (.slice ca cl cc) (.bool cr)) := bx4_new _ _ _ _ _ _
  have hW : Hid (Below w.heap.size w (w.alloc (.cells #[.int .i64 u, .int .i64 g, .slice ca cl cc, .bool cr] 25))) := bel_alloc _ _
  clear hi hc hu hg hf
  generalize preT u g = PT at HP sP N1 N2 N0 ⊢
  generalize decT u = DU at dU su HP
  generalize decT g = DG at dG sg HP
  go_enter Tryd.func13, Tryd.ntmps13
  obtain ⟨xl, x0, x1, x2, x3⟩ := HX.out
  go_wp2_with fail
  refine (hR.out _ hW.out).mono ?_
  rintro e w1 ⟨rfl, hb1⟩
  have hW1 : Hid (Below w.heap.size w w1) := Below.on hW.out hb1
  have HX1 : Hid (Bx4 w1 w.heap.size (.int .i64 u) (.int .i64 g) (.slice ca cl cc) (.bool cr)) := HX.out.below hb1
  clear hb1 HX hW xl x0 x1 x2 x3 hR
  have z0 : ∀ d os, (Go.Sort.grow (redrawn w1 d) os).cell? ⟨w.heap.size, 0, none⟩ = some (.int .i64 u) := fun d os => cell_regrown HX1.out.c0 d os
  have z1 : ∀ d os, (Go.Sort.grow (redrawn w1 d) os).cell? ⟨w.heap.size, 1, none⟩ = some (.int .i64 g) := fun d os => cell_regrown HX1.out.c1 d os
  have cU : ∀ d os, Calls Tryd.prog 46 #[.int .i64 u] (Go.Sort.grow (redrawn w1 d) os) fun e w'' => e = .returned (.string DU) ∧ ∃ p : Regrown, w'' = Go.Sort.grow (redrawn w1 p.d) p.os := fun d os => Calls.regrown_of (dU.out _)
  have cG : ∀ d os, Calls Tryd.prog 46 #[.int .i64 g] (Go.Sort.grow (redrawn w1 d) os) fun e w'' => e = .returned (.string DG) ∧ ∃ p : Regrown, w'' = Go.Sort.grow (redrawn w1 p.d) p.os := fun d os => Calls.regrown_of (dG.out _)
  have k1 : (⟨#[58]⟩ : ByteArray).size = 1 := rfl
  have k2 : (DU ++ ⟨#[58]⟩).size ≤ 5 := by rw [ByteArray.size_append]; omega
  have k3 : (DU ++ ⟨#[58]⟩ ++ DG).size ≤ 9 := by rw [ByteArray.size_append]; omega
  go_wp2_with fail
  refine wp_region_quiet_below (by kernel_rfl) (by kernel_rfl) ?_
  repeat (go_big_quiet_step (fail))
  go_big_quiet_step (exact cU _ _)
  repeat (go_big_quiet_step (fail))
  go_big_quiet_step (exact cG _ _)
  repeat (go_big_quiet_step (fail))
  refine wpQuiet_nil ?_
  intro _ hw'
  obtain ⟨⟨dq, osq⟩, hw''⟩ := hw'
  subst hw''
  have hbq := below_regrown w1 dq osq
  have hW2 : Hid (Below w.heap.size w (Go.Sort.grow (redrawn w1 dq) osq)) := Below.on hW1.out hbq
  have HX2 : Hid (Bx4 (Go.Sort.grow (redrawn w1 dq) osq) w.heap.size (.int .i64 u) (.int .i64 g) (.slice ca cl cc) (.bool cr)) := HX1.out.below hbq
  clear hbq
  generalize Go.Sort.grow (redrawn w1 dq) osq = w2 at hW2 HX2 ⊢
  rw [← HP.out]
  clear z0 z1 cU cG k1 k2 k3 HX1 hW1 HP dU dG su sg
  go_wp2
  go_loopw [3, 4] (fun s i wr => ∃ k : Nat, k ≤ cl ∧ i = .int .i64 k ∧ s = .string (PT ++ jnT f k) ∧ Hid (Below w2.heap.size w2 wr)) (fun _ i _ => cl - (intOf i).toNat)
  case atStart => exact ⟨0, Nat.zero_le _, rfl, by rw [N0.out], Below.refl _ _⟩
  case round =>
    obtain ⟨k, hk, rfl, rfl, hB⟩ := hrel
    obtain ⟨xl, x0, x1, x2, x3⟩ := HX2.out.below hB.out
    have hWr : Hid (Below w.heap.size w wr) := Below.on hW2.out hB.out
    have sk := sJ.out k hk
    have skk : (PT ++ jnT f k).size ≤ 50 := by rw [ByteArray.size_append]; omega
    by_cases hlt : k < cl
    · have hlt' : (k : Int) < (cl : Int) := by omega
      obtain ⟨b, off, rfl, hbl, hcl⟩ := HI.out (by omega)
      have hcz : wr.cell? ⟨b, off + k, none⟩ = some (.int .i64 (f k)) := (hWr.out.cell (p := ⟨b, off + k, none⟩) hbl).trans (hcl k hlt)
      have sd := sD.out k hlt
      have hdk : Hid (∀ w, Calls Tryd.prog 46 #[.int .i64 (f k)] w fun e w' => e = .returned (.string (decT (f k).toNat)) ∧ Below w.heap.size w w') := (fun w => dF.out k w hlt)
      clear hcl
      by_cases h0 : k = 0
      · subst h0
        have hcz : wr.cell? ⟨b, off, none⟩ = some (.int .i64 (f 0)) := by simpa using hcz
        go_wp2_with (go_at_call 46; refine (hdk.out _).mono ?_; rintro e wa ⟨rfl, hba⟩)
        rw [N1.out]
        have hB2 : Hid (Below w2.heap.size w2 wa) := Below.on hB.out hba
        go_roundw
        case rel => exact ⟨1, by omega, by go_num, rfl, hB2⟩
        case measure => simp [intOf]; omega
      · have hn2 := N2.out k h0
        have hk0 : 0 < (k : Int) := by omega
        have c1 : (⟨#[44]⟩ : ByteArray).size = 1 := rfl
        have c2 : (PT ++ jnT f k ++ ⟨#[44]⟩).size ≤ 51 := by rw [ByteArray.size_append]; omega
        have HN2 : Hid (PT ++ jnT f k ++ ⟨#[44]⟩ ++ decT (f k).toNat = PT ++ jnT f (k + 1)) := hn2
        clear hn2 h0
        go_wp2_with (go_at_call 46; refine (hdk.out _).mono ?_; rintro e wa ⟨rfl, hba⟩)
        rw [HN2.out]
        have hB2 : Hid (Below w2.heap.size w2 wa) := Below.on hB.out hba
        go_roundw
        case rel => exact ⟨k + 1, by omega, by go_num, rfl, hB2⟩
        case measure => simp [intOf]; omega
    · have : k = cl := by omega
      subst this
      cases cr
      · go_wp2
        go_ret
        exact ⟨rfl, hWr.out⟩
      · go_wp2
        go_ret
        exact ⟨rfl, hWr.out⟩
set_option maxHeartbeats 1000000 in
/-- spec.CredText. -/
theorem sCredText_any (u g : Int) (ca : Option Addr) (cl cc : Nat) (cr : Bool) (f : Nat → Int) (w : World) (hi : Ints ca cl f w) :
    Calls Tryd.prog 13 #[.agg #[.int .i64 u, .int .i64 g, .slice ca cl cc, .bool cr]] w fun e w' => e = .returned (.string (credT u g cl f cr)) ∧ Below w.heap.size w w' := by
  cases hc : credB u g cl f
  · have hR : Hid (∀ w', Below w.heap.size w w' → Calls Tryd.prog 15 #[.agg #[.int .i64 u, .int .i64 g, .slice ca cl cc, .bool cr]] w' fun e w'' => e = .returned (.bool false) ∧ Below w'.heap.size w' w'') := (fun w' hb => by
      have := sCredRight_any u g ca cl cc cr f w' (hi.below hb)
      rwa [hc] at this)
    have hno : Hid (credT u g cl f cr = ⟨#[]⟩) := credT_no hc
    have hW : Hid (Below w.heap.size w (w.alloc (.cells #[.int .i64 u, .int .i64 g, .slice ca cl cc, .bool cr] 25))) := bel_alloc _ _
    obtain ⟨xl, x0, x1, x2, x3⟩ := bx4_new w (.int .i64 u) (.int .i64 g) (.slice ca cl cc) (.bool cr) 25
    clear hi hc
    go_enter Tryd.func13, Tryd.ntmps13
    go_wp2_with fail
    refine (hR.out _ hW.out).mono ?_
    rintro e w1 ⟨rfl, hb1⟩
    have hW1 : Hid (Below w.heap.size w w1) := Below.on hW.out hb1
    clear hb1 xl x0 x1 x2 x3
    go_wp2
    go_ret
    exact ⟨ret_text hno.out.symm, hW1.out⟩
  · obtain ⟨⟨u0, _⟩, ⟨g0, _⟩, _⟩ := cred_facts hc
    obtain ⟨n, rfl⟩ := Int.eq_ofNat_of_zero_le u0
    obtain ⟨m, rfl⟩ := Int.eq_ofNat_of_zero_le g0
    refine (sCredText_in n m ca cl cc cr f hc w hi).mono ?_
    rintro e w' ⟨rfl, hb⟩
    refine ⟨ret_text ?_, hb⟩
    simp [credT, hc]
theorem credT_size (u g : Int) (n : Nat) (f : Nat → Int) (r : Bool) : (credT u g n f r).size ≤ 60 := by
  cases hc : credB u g n f
  · rw [credT_no hc]; decide
  · have hc2 := hc
    rw [credB, Bool.and_eq_true, Bool.and_eq_true, grB, Bool.and_eq_true] at hc2
    obtain ⟨h1, h2, h3, h4⟩ := hc2
    have hn := of_decide_eq_true h3
    have a1 := inR_iff.1 h1
    have a2 := inR_iff.1 h2
    have p1 := preT_size (u := u.toNat) (g := g.toNat) (by omega) (by omega)
    have p2 := jnT_size (f := f) (n := n) (fun i hi => rises_at h4 hi) (Nat.le_refl n)
    have p3 : (⟨#[42]⟩ : ByteArray).size = 1 := rfl
    rw [credT, if_pos hc]
    cases r
    · simp only [Bool.false_eq_true, if_false, ByteArray.size_append]
      omega
    · simp only [if_true, ByteArray.size_append]
      omega
theorem lits8 (w : World) (a b c d e f g h : ByteArray) (t : TypeId) (hh : a.size ≤ 1000 ∧ b.size ≤ 1000 ∧ c.size ≤ 1000 ∧ d.size ≤ 1000 ∧ e.size ≤ 1000 ∧ f.size ≤ 1000 ∧ g.size ≤ 1000 ∧ h.size ≤ 1000) : ∀ j, j < 8 → ∃ x, (w.alloc (.cells #[.string a, .string b, .string c, .string d, .string e, .string f, .string g, .string h] t)).cell? ⟨w.heap.size, j, none⟩ = some (.string x) ∧ x.size ≤ 1000 := by
  intro j hj
  rw [lit_cell]
  match j, hj with
  | 0, _ => exact ⟨a, rfl, hh.1⟩
  | 1, _ => exact ⟨b, rfl, hh.2.1⟩
  | 2, _ => exact ⟨c, rfl, hh.2.2.1⟩
  | 3, _ => exact ⟨d, rfl, hh.2.2.2.1⟩
  | 4, _ => exact ⟨e, rfl, hh.2.2.2.2.1⟩
  | 5, _ => exact ⟨f, rfl, hh.2.2.2.2.2.1⟩
  | 6, _ => exact ⟨g, rfl, hh.2.2.2.2.2.2.1⟩
  | 7, _ => exact ⟨h, rfl, hh.2.2.2.2.2.2.2⟩
set_option maxRecDepth 100000 in
set_option maxHeartbeats 2000000 in
theorem dDrawCredRead_any (a : Option Addr) (len cap : Nat) (g : Nat → Int) (w : World) (hc : Code a len g w.heap.size w) :
    Calls Tryd.prog 10 #[.slice a len cap] w fun e w' => ∃ t : ByteArray, t.size ≤ 1000 ∧ e = .returned (.string t) ∧ Below w.heap.size w w' := by
  have HC : Hid (Code a len g w.heap.size w) := hc
  clear hc
  go_enter Tryd.func10, Tryd.ntmps10
  go_wp2_with fail
  refine (source_any a len cap g _ HC.out).mono ?_
  rintro e w1 ⟨rfl, hs1, hb1⟩
  go_wp2_with fail
  refine (drCred_any a len cap g _ _ hs1).mono ?_
  rintro e w2 ⟨u, v, l, x, r, rfl, hl, ho, hs2, ho2⟩
  have hb2 : Below w.heap.size w w2 := ho2.below hb1 (Nat.le_refl _) hb1.size
  obtain ⟨ga, gc, hx⟩ := row_shapeD ho
  subst hx
  have hT : Hid (Calls Tryd.prog 13 #[.agg #[.int .i64 u, .int .i64 v, .slice ga l.length gc, .bool r]] w2 fun e w' => e = .returned (.string (credT u v l.length (atD l) r)) ∧ Below w2.heap.size w2 w') := sCredText_any u v ga l.length gc r (atD l) w2 (own_intsD ho)
  have hz := credT_size u v l.length (atD l) r
  generalize credT u v l.length (atD l) r = t at hT hz
  clear hs1 ho2 hb1 HC ho
  go_wp2_with fail
  refine hT.out.mono ?_
  rintro e w3 ⟨rfl, hb3⟩
  have hs3 := hs2.belowD hb3
  have hB3 : Below w.heap.size w w3 := hb2.trans (hb3.mono hb2.size)
  clear hs2 hb2 hb3 hT
  go_wp2_with fail
  refine (n_any a len cap g _ _ (by decide) _ hs3).mono ?_
  rintro e w4 ⟨x, rfl, x1, x2, hs4, ho4⟩
  have HB : Hid (Below w.heap.size w w4) := ho4.below hB3 (Nat.le_refl _) hB3.size
  have hpz := hs4.pos
  clear ho4 hs3 hB3
  by_cases e0 : x = 0
  · subst e0
    go_wp2_with fail
    refine (spoil_any a len cap g _ t (by omega) _ hs4).mono ?_
    rintro e w5 ⟨t', ht', rfl, hs5, ho5⟩
    have HB5 : Hid (Below w.heap.size w w5) := ho5.below HB.out (Nat.le_refl _) HB.out.size
    clear ho5 hs5 hs4
    go_wp2
    go_ret
    exact ⟨t', by omega, rfl, HB5.out⟩
  · have b0 : (x == 0) = false := by simpa using e0
    by_cases e1 : x = 1
    · subst e1
      clear e0
      go_wp2_with fail
      refine (pick_any a len cap g _ _ 8 _ (by omega) (by omega) _ (by simp) (by omega) (lits8 _ _ _ _ _ _ _ _ _ _ (by decide)) (src_alloc hs4 _)).mono ?_
      rintro e w5 ⟨t', ht', rfl, hs5, ho5⟩
      have HB5 : Hid (Below w.heap.size w w5) := ho5.below (HB.out.alloc HB.out.size _) (Nat.le_refl _) (by have := HB.out.size; simp; omega)
      clear ho5 hs5 hs4
      go_wp2
      go_ret
      exact ⟨t', ht', rfl, HB5.out⟩
    · have b1 : (x == 1) = false := by simpa using e1
      clear hs4
      go_wp2
      go_ret
      exact ⟨t, by omega, rfl, HB.out⟩
end Go.Proofs.YtgooanaacebncaaDoor
