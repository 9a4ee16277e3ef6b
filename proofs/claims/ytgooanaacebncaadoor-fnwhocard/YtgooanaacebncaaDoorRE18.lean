/- Laid together: Texts, ICredText. -/
import Derived.Test.YtgooanaacebncaaDoorRE14
import Derived.Test.YtgooanaacebncaaDoorRE12
/- Rows of texts that are owned; append of one text; the builtin append by what it runs to. -/
namespace Go.Proofs.YtgooanaacebncaaDoor
open Go.RowKit Go.PlainAid Go.Deep
set_option linter.unusedVariables false
set_option maxRecDepth 100000 in
set_option maxHeartbeats 4000000 in
/-- impl.CredText of a right Cred. -/
theorem iCredText_in (u g : Nat) (ca : Option Addr) (cl cc : Nat) (cr : Bool) (f : Nat → Int) (hc : credB u g cl f = true) (w : World) (hi : Ints ca cl f w) (hp : PowW w) :
    Calls Tryd.prog 9 #[.agg #[.int .i64 u, .int .i64 g, .slice ca cl cc, .bool cr]] w fun e w' => e = .returned (.string (if cr then preT u g ++ jnT f cl ++ ⟨#[42]⟩ else preT u g ++ jnT f cl)) ∧ Below w.heap.size w w' := by
  obtain ⟨hu, hg, hcl, hf⟩ := cred_facts hc
  have hR : Hid (∀ w', Below w.heap.size w w' → Calls Tryd.prog 14 #[.agg #[.int .i64 u, .int .i64 g, .slice ca cl cc, .bool cr]] w' fun e w'' => e = .returned (.bool true) ∧ Below w'.heap.size w' w'') := (fun w' hb => by
    have := iCredRight_any u g ca cl cc cr f w' (hi.below hb)
    rwa [hc] at this)
  have dU : Hid (∀ w', Below w.heap.size w w' → Calls Tryd.prog 38 #[.int .i64 u] w' fun e w'' => e = .returned (.string (decT u)) ∧ Below w'.heap.size w' w'') := (fun w' hb => iDigits_any u (by omega) w' (hp.below hb))
  have dG : Hid (∀ w', Below w.heap.size w w' → Calls Tryd.prog 38 #[.int .i64 g] w' fun e w'' => e = .returned (.string (decT g)) ∧ Below w'.heap.size w' w'') := (fun w' hb => iDigits_any g (by omega) w' (hp.below hb))
  have dF : Hid (∀ k w', k < cl → Below w.heap.size w w' → Calls Tryd.prog 38 #[.int .i64 (f k)] w' fun e w'' => e = .returned (.string (decT (f k).toNat)) ∧ Below w'.heap.size w' w'') := (fun k w' hk hb => by
    have h1 := hf k hk
    have h2 := iDigits_any (f k).toNat (by omega) w' (hp.below hb)
    rwa [Int.toNat_of_nonneg h1.1] at h2)
  have su := decT_size (n := u) (by omega)
  have sg := decT_size (n := g) (by omega)
  have sJ : (jnT f cl).size ≤ 40 := by have := jnT_size hf (Nat.le_refl _); omega
  have HJ : Hid (∀ (a : Option Addr) (c : Nat) (w' : World), cl ≤ c → (0 < cl → ∃ b, a = some ⟨b, 0, none⟩ ∧ b < w'.heap.size ∧ ∀ (j : Nat) x, (txs f cl)[j]? = some x → w'.cell? ⟨b, 0 + j, none⟩ = some (.string x)) → Calls Tryd.prog 40 #[.slice a cl c, .string ⟨#[44]⟩] w' fun e w'' => e = .returned (.string (jnT f cl)) ∧ Below w'.heap.size w' w'') := (fun a c w' hcap hcells => by
    by_cases h0 : cl = 0
    · subst h0
      refine (Tryd.strings_Join_none a c ⟨#[44]⟩ w').mono ?_
      rintro e w'' ⟨rfl, rfl⟩
      exact ⟨rfl, Below.refl _ _⟩
    · obtain ⟨b, rfl, hb, hc2⟩ := hcells (by omega)
      have hl := txs_len f cl
      have hjj := join_jn f cl
      have hjl : (jn f cl).length ≤ 40 := by have := jn_len hf cl (Nat.le_refl _); omega
      have hsep : (⟨#[44]⟩ : ByteArray).data.toList = [44] := rfl
      have h := Tryd.strings_Join b 0 c (txs f cl) ⟨#[44]⟩ w' hc2 hb (by omega) (by omega) (by rw [hsep, hjj]; omega)
      rw [hsep, hjj, hl] at h
      exact h)
  have H5 : Hid (preT u g ++ jnT f cl = decT u ++ ⟨#[58]⟩ ++ decT g ++ ⟨#[58]⟩ ++ jnT f cl) := rfl
  have HT : Hid (∀ k, txs f (k + 1) = txs f k ++ [decT (f k).toNat]) := txs_snoc f
  have HTL : Hid (∀ k, (txs f k).length = k) := txs_len f
  have HI : Hid (Ints ca cl f w) := hi
  have HX : Hid (Bx4 (w.alloc (.cells #[.int .i64 u, .int .i64 g, .slice ca cl cc, .bool cr] 25)) w.heap.size (.int .i64 u) (.int .i64 g) (.slice ca cl cc) (.bool cr)) := bx4_new _ _ _ _ _ _
  have hW : Hid (Below w.heap.size w (w.alloc (.cells #[.int .i64 u, .int .i64 g, .slice ca cl cc, .bool cr] 25))) := bel_alloc _ _
  have hmk := make08
  clear hi hc hu hg hf hp
  generalize preT u g ++ jnT f cl = PT at H5 ⊢
  generalize decT u = DU at dU su H5
  generalize decT g = DG at dG sg H5
  generalize jnT f cl = JT at sJ HJ H5
  go_enter Tryd.func9, Tryd.ntmps9
  obtain ⟨xl, x0, x1, x2, x3⟩ := HX.out
  go_wp2_with fail
  refine (hR.out _ hW.out).mono ?_
  rintro e w1 ⟨rfl, hb1⟩
  have hW1 : Hid (Below w.heap.size w w1) := Below.on hW.out hb1
  have HX1 : Hid (Bx4 w1 w.heap.size (.int .i64 u) (.int .i64 g) (.slice ca cl cc) (.bool cr)) := HX.out.below hb1
  clear hb1 HX hW xl x0 x1 x2 x3 hR
  have hO : Hid _ := own08 w1
  have hbM := bel_alloc w1 (.cells #[.string ⟨#[]⟩, .string ⟨#[]⟩, .string ⟨#[]⟩, .string ⟨#[]⟩, .string ⟨#[]⟩, .string ⟨#[]⟩, .string ⟨#[]⟩, .string ⟨#[]⟩] 9)
  have hbN : Hid _ := hbM
  obtain ⟨xl, x0, x1, x2, x3⟩ := HX1.out.below hbM
  clear hbM
  go_wp2
  clear xl x0 x1 x2 x3
  go_loopw [3, 14] (fun v i wr => ∃ k : Nat, k ≤ cl ∧ i = .int .i64 k ∧ Hid (wr.ownsRow w1.heap.size 9 1 v (txs f k).length (tv (txs f k))) ∧ Hid (Below w1.heap.size w1 wr)) (fun _ i _ => cl - (intOf i).toNat)
  case atStart => exact ⟨0, Nat.zero_le _, rfl, hO, hbN⟩
  case round =>
    obtain ⟨k, hk, rfl, hOw, hB⟩ := hrel
    have hWr : Hid (Below w.heap.size w wr) := Below.on hW1.out hB.out
    by_cases hlt : k < cl
    · have hlt' : (k : Int) < (cl : Int) := by omega
      obtain ⟨b, off, rfl, hbl, hcl⟩ := HI.out (by omega)
      have hcz : wr.cell? ⟨b, off + k, none⟩ = some (.int .i64 (f k)) := (hWr.out.cell (p := ⟨b, off + k, none⟩) hbl).trans (hcl k hlt)
      have hdk : Hid (∀ w', Below w.heap.size w w' → Calls Tryd.prog 38 #[.int .i64 (f k)] w' fun e w'' => e = .returned (.string (decT (f k).toNat)) ∧ Below w'.heap.size w' w'') := (fun w' hb => dF.out k w' hlt hb)
      have hlk := HTL.out k
      clear hcl
      go_wp2_with fail
      refine (hdk.out _ hWr.out).mono ?_
      rintro e wa ⟨rfl, hba⟩
      obtain ⟨v2, w2, hr, hO2, hB2⟩ := append_text w1 wa u3 (txs f k) (rowT_below hOw.out hba) (Below.on hB.out hba) (decT (f k).toNat) (by omega)
      rw [← HT.out k] at hO2
      have HO2 : Hid _ := hO2
      have HB2 : Hid _ := hB2
      clear hO2 hB2 hba hOw hB hcz hdk hlk
      go_wp2_with (at_builtin; refine wpList_append_runT _ rfl (.tmp 18) (.tmp 21) 64 64 rfl _ _ _ _ rfl rfl hr ?_)
      go_roundw
      case rel => exact ⟨k + 1, by omega, by go_num, HO2, HB2⟩
      case measure => simp [intOf]; omega
    · have : k = cl := by omega
      subst this
      obtain ⟨ga, gc, hgv, hgc, hgcell⟩ := own_texts hOw.out
      rw [HTL.out k] at hgv hgc hgcell
      subst hgv
      have HGC : Hid _ := hgcell
      have HX2 : Hid (Bx4 wr w.heap.size (.int .i64 u) (.int .i64 g) (.slice ca k cc) (.bool cr)) := HX1.out.below hB.out
      obtain ⟨xl, x0, x1, x2, x3⟩ := HX2.out
      have hJ : Hid (∀ w', Below wr.heap.size wr w' → Calls Tryd.prog 40 #[.slice ga k gc, .string ⟨#[44]⟩] w' fun e w'' => e = .returned (.string JT) ∧ Below w'.heap.size w' w'') := (fun w' hb => HJ.out ga gc w' hgc (fun h0 => by
        obtain ⟨b2, e2, hb2, hc2⟩ := HGC.out h0
        exact ⟨b2, e2, Nat.lt_of_lt_of_le hb2 hb.size, fun j x hx => (hb.cell (p := ⟨b2, 0 + j, none⟩) hb2).trans (hc2 j x hx)⟩))
      clear hgcell HGC hOw hB HJ HX1 hmk hO hbN
      go_wp2_with fail
      have k1 : (⟨#[58]⟩ : ByteArray).size = 1 := rfl
      have k5 : Hid (DU.size + (⟨#[58]⟩ : ByteArray).size + DG.size + (⟨#[58]⟩ : ByteArray).size + JT.size ≤ 1000000) := (show _ ≤ _ by omega)
      have k6 : Hid ((DU ++ ⟨#[58]⟩ ++ DG ++ ⟨#[58]⟩ ++ JT).size ≤ 100) := (show _ ≤ _ by simp only [ByteArray.size_append]; omega)
      clear k1 dF HI HT HTL
      go_region_held3 (fun w' => w'.cell? ⟨w.heap.size, 0, none⟩ = some (.int .i64 u) ∧ w'.cell? ⟨w.heap.size, 1, none⟩ = some (.int .i64 g)) (go_keep)
        (first
          | (go_at_call 38; refine (dU.out _ (bdC hWr.out)).mono ?_; rintro e wa ⟨rfl, hba⟩; clear dU; have hA : Hid (Below wr.heap.size wr wa) := bdZ hba; obtain ⟨_, ya0, ya1, _, _⟩ := HX2.out.below hA.out)
          | (go_at_call 38; refine (dG.out _ (Below.on hWr.out hA.out)).mono ?_; rintro e wb ⟨rfl, hbb⟩; clear dG; have hBb : Hid (Below wr.heap.size wr wb) := Below.on hA.out hbb; obtain ⟨_, yb0, yb1, _, _⟩ := HX2.out.below hBb.out)
          | (go_at_call 40; refine (hJ.out _ hBb.out).mono ?_; rintro e wc ⟨rfl, hbc⟩; have hC : Hid (Below wr.heap.size wr wc) := Below.on hBb.out hbc; obtain ⟨_, yc0, yc1, _, _⟩ := HX2.out.below hC.out)
          | (go_at_call 39; refine (join_five DU ⟨#[58]⟩ DG ⟨#[58]⟩ JT wc k5.out 5).mono ?_; rintro e wd ⟨rfl, hbd⟩; have hD : Hid (Below wr.heap.size wr wd) := Below.on hC.out hbd; obtain ⟨_, yd0, yd1, _, _⟩ := HX2.out.below hD.out))
      have hWd : Hid (Below w.heap.size w wd) := Below.on hWr.out hD.out
      have HXd : Hid (Bx4 wd w.heap.size (.int .i64 u) (.int .i64 g) (.slice ca k cc) (.bool cr)) := HX2.out.below hD.out
      have s5 : PT.size ≤ 100 := by rw [H5.out]; exact k6.out
      rw [← H5.out]
      clear xl x0 x1 x2 x3 ya0 ya1 yb0 yb1 yc0 yc1 yd0 yd1 hba hbb hbc hbd hA hBb hC hD hJ HX2 k5 k6 H5
      obtain ⟨xl, x0, x1, x2, x3⟩ := HXd.out
      cases cr
      · go_wp2
        go_ret
        exact ⟨rfl, hWd.out⟩
      · have hjt : Hid (∀ w, Calls Tryd.prog 39 #[.slice (some ⟨w.heap.size, 0, none⟩) 2 2] (w.alloc (.cells #[.string PT, .string ⟨#[42]⟩] 9)) fun e w' => e = .returned (.string (PT ++ ⟨#[42]⟩)) ∧ Below w.heap.size w w') := (fun w => join_two PT ⟨#[42]⟩ w (by have : (⟨#[42]⟩ : ByteArray).size = 1 := rfl; omega))
        go_wp2_with fail
        refine (hjt.out _).mono ?_
        rintro e wf ⟨rfl, hbf⟩
        have hWf : Hid (Below w.heap.size w wf) := Below.on hWd.out hbf
        clear hbf hjt
        go_wp2
        go_ret
        exact ⟨rfl, hWf.out⟩
set_option maxHeartbeats 1000000 in
/-- impl.CredText. -/
theorem iCredText_any (u g : Int) (ca : Option Addr) (cl cc : Nat) (cr : Bool) (f : Nat → Int) (w : World) (hi : Ints ca cl f w) (hp : PowW w) :
    Calls Tryd.prog 9 #[.agg #[.int .i64 u, .int .i64 g, .slice ca cl cc, .bool cr]] w fun e w' => e = .returned (.string (credT u g cl f cr)) ∧ Below w.heap.size w w' := by
  cases hc : credB u g cl f
  · have hR : Hid (∀ w', Below w.heap.size w w' → Calls Tryd.prog 14 #[.agg #[.int .i64 u, .int .i64 g, .slice ca cl cc, .bool cr]] w' fun e w'' => e = .returned (.bool false) ∧ Below w'.heap.size w' w'') := (fun w' hb => by
      have := iCredRight_any u g ca cl cc cr f w' (hi.below hb)
      rwa [hc] at this)
    have hno : Hid (credT u g cl f cr = ⟨#[]⟩) := credT_no hc
    have hW : Hid (Below w.heap.size w (w.alloc (.cells #[.int .i64 u, .int .i64 g, .slice ca cl cc, .bool cr] 25))) := bel_alloc _ _
    obtain ⟨xl, x0, x1, x2, x3⟩ := bx4_new w (.int .i64 u) (.int .i64 g) (.slice ca cl cc) (.bool cr) 25
    clear hi hc hp
    go_enter Tryd.func9, Tryd.ntmps9
    go_wp2_with fail
    refine (hR.out _ hW.out).mono ?_
    rintro e w1 ⟨rfl, hb1⟩
    have hW1 : Hid (Below w.heap.size w w1) := Below.on hW.out hb1
    clear hb1 xl x0 x1 x2 x3
    go_wp2
    go_ret
    exact ⟨ret_text hno.out.symm, hW1.out⟩
  · obtain ⟨⟨u0, _⟩, ⟨g0, _⟩, _⟩ := cred_facts hc
    obtain ⟨n, rfl⟩ := Int.eq_ofNat_of_zero_le u0
    obtain ⟨m, rfl⟩ := Int.eq_ofNat_of_zero_le g0
    refine (iCredText_in n m ca cl cc cr f hc w hi hp).mono ?_
    rintro e w' ⟨rfl, hb⟩
    refine ⟨ret_text ?_, hb⟩
    simp [credT, hc]
end Go.Proofs.YtgooanaacebncaaDoor
