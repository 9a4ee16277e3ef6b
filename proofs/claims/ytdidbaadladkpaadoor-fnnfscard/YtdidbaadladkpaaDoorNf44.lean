/- Laid together: NfsMay. -/
import Derived.Test.YtdidbaadladkpaaDoorNf43
import Derived.Test.YtdidbaadladkpaaDoorNf36
/- NfsMay, the program's and the specification's. -/
namespace Go.Proofs.YtdidbaadladkpaaDoor
open Go.RowKit Go.PlainAid Go.Deep
set_option linter.unusedVariables false
/-- NfsMay. -/
def nfsMayB (l : List Ac) (owner group u g : Int) (cl : Nat) (f : Nat → Int) (want : Int) : Bool := askR l owner group u g cl f && (inR 0 255 want && hasZ (givesI l owner group u g cl f) want)
theorem nfsMayB_no {l : List Ac} {owner group u g : Int} {cl : Nat} {f : Nat → Int} {want : Int} (h : askR l owner group u g cl f = false) : nfsMayB l owner group u g cl f want = false := by simp [nfsMayB, h]
theorem nfsMayB_off {l : List Ac} {owner group u g : Int} {cl : Nat} {f : Nat → Int} {want : Int} (h : inR 0 255 want = false) : nfsMayB l owner group u g cl f want = false := by simp [nfsMayB, h]
theorem nfsMayB_in {l : List Ac} {owner group u g : Int} {cl : Nat} {f : Nat → Int} {want : Int} (h : askR l owner group u g cl f = true) (h2 : inR 0 255 want = true) : nfsMayB l owner group u g cl f want = hasZ (givesI l owner group u g cl f) want := by simp [nfsMayB, h, h2]
theorem ma_of {l : List Ac} (h : acesB l = true) : ∀ i, i < l.length → 0 ≤ (acAt l i).ma ∧ (acAt l i).ma ≤ 255 := fun i hi => by
  have := (aceB_iff.1 (aces_at h hi)).2.2.2.2
  omega
theorem givesI_nat {l : List Ac} {owner group u g : Int} {cl : Nat} {f : Nat → Int} : ∃ n : Nat, givesI l owner group u g cl f = (n : Int) ∧ n ≤ 255 := by
  cases h : askR l owner group u g cl f
  · exact ⟨0, givesI_askN h, by omega⟩
  · obtain ⟨n, s, h1, h2, _⟩ := giveI_nat (ma_of (askR_iff.1 h).1) (askB owner group u g cl f) l.length (Nat.le_refl _)
    exact ⟨n, by rw [givesI_askY h, h1], h2⟩
set_option maxRecDepth 100000 in
set_option maxHeartbeats 4000000 in
/-- impl.NfsMay. -/
theorem iNfsMay_any (a : Option Addr) (len cap : Nat) (l : List Ac) (owner group u g : Int) (ca : Option Addr) (cl cc : Nat) (cr : Bool) (f : Nat → Int) (want : Int) (w : World) (hA : Acs a len l w) (hi : Ints ca cl f w) :
    Calls Tryd.prog 15 #[.slice a len cap, .int .i64 owner, .int .i64 group, .agg #[.int .i64 u, .int .i64 g, .slice ca cl cc, .bool cr], .int .i64 want] w fun e w' => e = .returned (.bool (nfsMayB l owner group u g cl f want)) ∧ Below w.heap.size w w' := by
  have hr : Hid (∀ w', Below w.heap.size w w' → Calls Tryd.prog 43 #[.slice a len cap, .int .i64 owner, .int .i64 group, .agg #[.int .i64 u, .int .i64 g, .slice ca cl cc, .bool cr]] w' fun e w'' => e = .returned (.bool (askR l owner group u g cl f)) ∧ Below w'.heap.size w' w'') := (fun w' hb => iAskRight_any a len cap l owner group u g ca cl cc cr f w' (hA.below hb) (hi.below hb))
  have hgv : Hid (∀ w', Below w.heap.size w w' → Calls Tryd.prog 6 #[.slice a len cap, .int .i64 owner, .int .i64 group, .agg #[.int .i64 u, .int .i64 g, .slice ca cl cc, .bool cr]] w' fun e w'' => e = .returned (.int .i64 (givesI l owner group u g cl f)) ∧ Below w'.heap.size w' w'') := (fun w' hb => iNfsGives_any a len cap l owner group u g ca cl cc cr f w' (hA.below hb) (hi.below hb))
  have HX : Hid (Box4A (w.alloc (.cells #[.int .i64 u, .int .i64 g, .slice ca cl cc, .bool cr] 26)) w.heap.size (.int .i64 u) (.int .i64 g) (.slice ca cl cc) (.bool cr)) := box4A_new _ _ _ _ _ _
  have hW : Hid (Below w.heap.size w (w.alloc (.cells #[.int .i64 u, .int .i64 g, .slice ca cl cc, .bool cr] 26))) := bel_alloc _ _
  clear hA hi
  go_enter Tryd.func15, Tryd.ntmps15
  obtain ⟨xl, x0, x1, x2, x3⟩ := HX.out
  go_wp2_with fail
  refine (hr.out _ hW.out).mono ?_
  rintro e w1 ⟨rfl, hb1⟩
  have hW1 : Hid (Below w.heap.size w w1) := Below.on hW.out hb1
  have hX1 : Hid (Box4A w1 w.heap.size (.int .i64 u) (.int .i64 g) (.slice ca cl cc) (.bool cr)) := HX.out.below HX.out.lt hb1
  clear hr hb1 HX hW xl x0 x1 x2 x3
  cases h : askR l owner group u g cl f
  · have hno : Hid (nfsMayB l owner group u g cl f want = false) := nfsMayB_no h
    clear h hgv hX1
    go_wp2
    go_ret
    exact ⟨ret_boolW hno.out.symm, hW1.out⟩
  by_cases h0 : want < 0
  · have hno : Hid (nfsMayB l owner group u g cl f want = false) := nfsMayB_off (inR_no (by omega))
    clear h hgv hX1
    go_wp2
    go_ret
    exact ⟨ret_boolW hno.out.symm, hW1.out⟩
  by_cases h1 : 255 < want
  · have hno : Hid (nfsMayB l owner group u g cl f want = false) := nfsMayB_off (inR_no (by omega))
    clear h hgv hX1
    go_wp2
    go_ret
    exact ⟨ret_boolW hno.out.symm, hW1.out⟩
  have hyes : Hid (nfsMayB l owner group u g cl f want = hasZ (givesI l owner group u g cl f) want) := nfsMayB_in h (inR_yes (by omega) (by omega))
  obtain ⟨xl, x0, x1, x2, x3⟩ := hX1.out
  clear h hX1
  generalize givesI l owner group u g cl f = R at hgv hyes
  go_wp2_with (first | (go_at_call 6; refine (hgv.out _ hW1.out).mono ?_; rintro e w2 ⟨rfl, hb2⟩) | (go_at_call 32; refine (iHas_any _ _ _).mono ?_; rintro e w3 ⟨rfl, rfl⟩))
  go_ret
  exact ⟨ret_boolW hyes.out.symm, Below.on hW1.out hb2⟩
set_option maxRecDepth 100000 in
set_option maxHeartbeats 4000000 in
/-- spec.NfsMay. -/
theorem sNfsMay_any (a : Option Addr) (len cap : Nat) (l : List Ac) (owner group u g : Int) (ca : Option Addr) (cl cc : Nat) (cr : Bool) (f : Nat → Int) (want : Int) (hl : len ≤ 1048576) (w : World) (hA : Acs a len l w) (hi : Ints ca cl f w) :
    Calls Tryd.prog 16 #[.slice a len cap, .int .i64 owner, .int .i64 group, .agg #[.int .i64 u, .int .i64 g, .slice ca cl cc, .bool cr], .int .i64 want] w fun e w' => e = .returned (.bool (nfsMayB l owner group u g cl f want)) ∧ Below w.heap.size w w' := by
  have hr : Hid (∀ w', Below w.heap.size w w' → Calls Tryd.prog 24 #[.slice a len cap] w' fun e w'' => e = .returned (.bool (acesB l)) ∧ Below w'.heap.size w' w'') := (fun w' hb => sNfsRight_any a len cap l hl w' (hA.below hb))
  have hcr : Hid (∀ w', Below w.heap.size w w' → Calls Tryd.prog 30 #[.agg #[.int .i64 u, .int .i64 g, .slice ca cl cc, .bool cr]] w' fun e w'' => e = .returned (.bool (credB u g cl f)) ∧ Below w'.heap.size w' w'') := (fun w' hb => sCredRight_any u g ca cl cc cr f w' (hi.below hb))
  have hgv : Hid (acesB l = true → credB u g cl f = true → ∀ w', Below w.heap.size w w' → Calls Tryd.prog 53 #[.slice a len cap, .int .i64 owner, .int .i64 group, .agg #[.int .i64 u, .int .i64 g, .slice ca cl cc, .bool cr]] w' fun e w'' => e = .returned (.int .i64 (giveI (fltP (askB owner group u g cl f) l l.length)).1) ∧ Below w'.heap.size w' w'') := (fun h h2 w' hb => sGives04_any a len cap l owner group u g ca cl cc cr f h h2 w' (hA.below hb) (hi.below hb))
  have HX : Hid (Box4A (w.alloc (.cells #[.int .i64 u, .int .i64 g, .slice ca cl cc, .bool cr] 26)) w.heap.size (.int .i64 u) (.int .i64 g) (.slice ca cl cc) (.bool cr)) := box4A_new _ _ _ _ _ _
  have hW : Hid (Below w.heap.size w (w.alloc (.cells #[.int .i64 u, .int .i64 g, .slice ca cl cc, .bool cr] 26))) := bel_alloc _ _
  clear hA hi
  go_enter Tryd.func16, Tryd.ntmps16
  go_wp2_with fail
  refine (hr.out _ hW.out).mono ?_
  rintro e w1 ⟨rfl, hb1⟩
  have hW1 : Hid (Below w.heap.size w w1) := Below.on hW.out hb1
  have hX1 : Hid (Box4A w1 w.heap.size (.int .i64 u) (.int .i64 g) (.slice ca cl cc) (.bool cr)) := HX.out.below HX.out.lt hb1
  clear hr hb1 HX hW
  cases h : acesB l
  · have hno : Hid (nfsMayB l owner group u g cl f want = false) := nfsMayB_no (by simp [askR, h])
    clear h hcr hgv hX1
    go_wp2
    go_ret
    exact ⟨ret_boolW hno.out.symm, hW1.out⟩
  cases h2 : inR 0 9999 owner
  · have hno : Hid (nfsMayB l owner group u g cl f want = false) := nfsMayB_no (by simp [askR, h2])
    clear h hcr hgv hX1
    go_wp2_with (go_at_call 52; refine (sId_any _ _).mono ?_; rintro e w' ⟨rfl, rfl⟩)
    go_ret
    exact ⟨ret_boolW hno.out.symm, hW1.out⟩
  cases h3 : inR 0 9999 group
  · have hno : Hid (nfsMayB l owner group u g cl f want = false) := nfsMayB_no (by simp [askR, h3])
    clear h hcr hgv hX1
    go_wp2_with (go_at_call 52; refine (sId_any _ _).mono ?_; rintro e w' ⟨rfl, rfl⟩)
    go_ret
    exact ⟨ret_boolW hno.out.symm, hW1.out⟩
  obtain ⟨xl, x0, x1, x2, x3⟩ := hX1.out
  cases h4 : credB u g cl f
  · have hno : Hid (nfsMayB l owner group u g cl f want = false) := nfsMayB_no (by simp [askR, h4])
    rw [h4] at hcr
    clear h h4 hgv hX1
    go_wp2_with (first | (go_at_call 52; refine (sId_any _ _).mono ?_; rintro e w' ⟨rfl, rfl⟩) | (go_at_call 30; refine (hcr.out _ hW1.out).mono ?_; rintro e w2 ⟨rfl, hb2⟩))
    go_ret
    exact ⟨ret_boolW hno.out.symm, Below.on hW1.out hb2⟩
  cases h5 : inR 0 255 want
  · have hno : Hid (nfsMayB l owner group u g cl f want = false) := nfsMayB_off h5
    rw [h4] at hcr
    clear h h4 hgv hX1
    go_wp2_with (first | (go_at_call 52; refine (sId_any _ _).mono ?_; rintro e w' ⟨rfl, rfl⟩) | (go_at_call 30; refine (hcr.out _ hW1.out).mono ?_; rintro e w2 ⟨rfl, hb2⟩) | (go_at_call 54; refine (sIs_any _ _ _ _).mono ?_; rintro e w' ⟨rfl, rfl⟩))
    go_ret
    exact ⟨ret_boolW hno.out.symm, Below.on hW1.out hb2⟩
  have hask : askR l owner group u g cl f = true := askR_iff.2 ⟨h, h2, h3, h4⟩
  obtain ⟨n, hn, hn2⟩ := givesI_nat (l := l) (owner := owner) (group := group) (u := u) (g := g) (cl := cl) (f := f)
  obtain ⟨v, rfl⟩ := Int.eq_ofNat_of_zero_le (inR_iff.mp h5).1
  have hv : Hid (v ≤ 65535) := (show v ≤ 65535 by have := (inR_iff.mp h5).2; omega)
  have hN : Hid (n ≤ 65535) := (show n ≤ 65535 by omega)
  have hyes : Hid (nfsMayB l owner group u g cl f v = hasB n v) := (by show _ = _; rw [nfsMayB_in hask h5, hn, hasZ_in hN.out hv.out])
  have HG : Hid (∀ w', Below w.heap.size w w' → Calls Tryd.prog 53 #[.slice a len cap, .int .i64 owner, .int .i64 group, .agg #[.int .i64 u, .int .i64 g, .slice ca cl cc, .bool cr]] w' fun e w'' => e = .returned (.int .i64 (n : Int)) ∧ Below w'.heap.size w' w'') := (by rw [← hn, givesI_askY hask]; exact hgv.out h h4)
  rw [h4] at hcr
  clear h h4 hgv hask hn hn2
  go_wp2_with (first | (go_at_call 52; refine (sId_any _ _).mono ?_; rintro e w' ⟨rfl, rfl⟩) | (go_at_call 30; refine (hcr.out _ hW1.out).mono ?_; rintro e w2 ⟨rfl, hb2⟩; have hW2 : Hid (Below w.heap.size w w2) := Below.on hW1.out hb2; obtain ⟨yl, y0, y1, y2, y3⟩ := hX1.out.below hX1.out.lt hb2) | (go_at_call 54; refine (sIs_any _ _ _ _).mono ?_; rintro e w' ⟨rfl, rfl⟩) | (go_at_call 53; refine (HG.out _ hW2.out).mono ?_; rintro e w4 ⟨rfl, hb4⟩) | (go_at_call 55; refine (sl02Has_any _ _ hN.out hv.out _).mono ?_; rintro e w5 ⟨rfl, rfl⟩))
  go_ret
  exact ⟨ret_boolW hyes.out.symm, Below.on hW2.out hb4⟩
end Go.Proofs.YtdidbaadladkpaaDoor
