/- spec.NfsGives. -/
import Derived.Test.YtibofkjonepbpabGives4
namespace Go.Proofs.Ytibofkjonepbpab
open Go.RowKit Go.PlainAid Go.Deep
set_option linter.unusedVariables false
set_option maxRecDepth 100000 in
set_option maxHeartbeats 4000000 in
/-- spec.l04Gives of an empty list. -/
theorem sGives04_nil (a : Option Addr) (cap : Nat) (owner group u g : Int) (ca : Option Addr) (cl cc : Nat) (cr : Bool) (w : World) :
    Calls Try.prog 31 #[.slice a 0 cap, .int .i64 owner, .int .i64 group, .agg #[.int .i64 u, .int .i64 g, .slice ca cl cc, .bool cr]] w fun e w' => e = .returned (.int .i64 0) ∧ Below w.heap.size w w' := by
  have hW : Hid (Below w.heap.size w (w.alloc (.cells #[.int .i64 u, .int .i64 g, .slice ca cl cc, .bool cr] 40))) := bel_alloc _ _
  go_enter Try.func31, Try.ntmps31
  go_wp2
  generalize (w.alloc (.cells #[.int .i64 u, .int .i64 g, .slice ca cl cc, .bool cr] 40)) = w1 at hW ⊢
  go_loopw [9, 10, 11] (fun s q i wr => i = .int .i64 0 ∧ q = .int .i64 0 ∧ wr = w1) (fun _ _ i _ => 0)
  case atStart => exact ⟨rfl, rfl, rfl⟩
  case round =>
    obtain ⟨rfl, rfl, rfl⟩ := hrel
    go_wp2
    go_ret
    exact ⟨rfl, hW.out⟩
theorem sGives04_any (a : Option Addr) (len cap : Nat) (l : List Ac) (owner group u g : Int) (ca : Option Addr) (cl cc : Nat) (cr : Bool) (f : Nat → Int) (ha : acesB l = true) (hcd : credB u g cl f = true) (w : World) (hA : Acs a len l w) (hi : Ints ca cl f w) :
    Calls Try.prog 31 #[.slice a len cap, .int .i64 owner, .int .i64 group, .agg #[.int .i64 u, .int .i64 g, .slice ca cl cc, .bool cr]] w fun e w' => e = .returned (.int .i64 (giveI (fltP (askB owner group u g cl f) l l.length)).1) ∧ Below w.heap.size w w' := by
  obtain ⟨hln, hp⟩ := hA
  by_cases h0 : 0 < len
  · obtain ⟨b, off, rfl, hb, hc⟩ := hp h0
    subst hln
    exact sGives04_some b off cap l owner group u g ca cl cc cr f ha hcd w hb hc hi
  · have hz : len = 0 := by omega
    subst hz
    have hl0 : l = [] := List.eq_nil_of_length_eq_zero hln
    subst hl0
    exact sGives04_nil a cap owner group u g ca cl cc cr w
set_option maxRecDepth 100000 in
set_option maxHeartbeats 4000000 in
/-- spec.NfsGives. -/
theorem sNfsGives_any (a : Option Addr) (len cap : Nat) (l : List Ac) (owner group u g : Int) (ca : Option Addr) (cl cc : Nat) (cr : Bool) (f : Nat → Int) (hl : len ≤ 1048576) (w : World) (hA : Acs a len l w) (hi : Ints ca cl f w) :
    Calls Try.prog 14 #[.slice a len cap, .int .i64 owner, .int .i64 group, .agg #[.int .i64 u, .int .i64 g, .slice ca cl cc, .bool cr]] w fun e w' => e = .returned (.int .i64 (givesI l owner group u g cl f)) ∧ Below w.heap.size w w' := by
  have hr : Hid (∀ w', Below w.heap.size w w' → Calls Try.prog 10 #[.slice a len cap] w' fun e w'' => e = .returned (.bool (acesB l)) ∧ Below w'.heap.size w' w'') := (fun w' hb => sNfsRight_any a len cap l hl w' (hA.below hb))
  have hcr : Hid (∀ w', Below w.heap.size w w' → Calls Try.prog 30 #[.agg #[.int .i64 u, .int .i64 g, .slice ca cl cc, .bool cr]] w' fun e w'' => e = .returned (.bool (credB u g cl f)) ∧ Below w'.heap.size w' w'') := (fun w' hb => sCredRight_any u g ca cl cc cr f w' (hi.below hb))
  have hgv : Hid (acesB l = true → credB u g cl f = true → ∀ w', Below w.heap.size w w' → Calls Try.prog 31 #[.slice a len cap, .int .i64 owner, .int .i64 group, .agg #[.int .i64 u, .int .i64 g, .slice ca cl cc, .bool cr]] w' fun e w'' => e = .returned (.int .i64 (giveI (fltP (askB owner group u g cl f) l l.length)).1) ∧ Below w'.heap.size w' w'') := (fun h h2 w' hb => sGives04_any a len cap l owner group u g ca cl cc cr f h h2 w' (hA.below hb) (hi.below hb))
  have HX : Hid (Box4A (w.alloc (.cells #[.int .i64 u, .int .i64 g, .slice ca cl cc, .bool cr] 40)) w.heap.size (.int .i64 u) (.int .i64 g) (.slice ca cl cc) (.bool cr)) := box4A_new _ _ _ _ _ _
  have hW : Hid (Below w.heap.size w (w.alloc (.cells #[.int .i64 u, .int .i64 g, .slice ca cl cc, .bool cr] 40))) := bel_alloc _ _
  clear hA hi
  go_enter Try.func14, Try.ntmps14
  go_wp2_with fail
  refine (hr.out _ hW.out).mono ?_
  rintro e w1 ⟨rfl, hb1⟩
  have hW1 : Hid (Below w.heap.size w w1) := Below.on hW.out hb1
  have hX1 : Hid (Box4A w1 w.heap.size (.int .i64 u) (.int .i64 g) (.slice ca cl cc) (.bool cr)) := HX.out.below HX.out.lt hb1
  clear hr hb1 HX hW
  cases h : acesB l
  · have hno : Hid (givesI l owner group u g cl f = 0) := givesI_no (by simp [h])
    clear h hcr hgv hX1
    go_wp2
    go_ret
    exact ⟨ret_intG hno.out.symm, hW1.out⟩
  cases h2 : inR 0 9999 owner
  · have hno : Hid (givesI l owner group u g cl f = 0) := givesI_no (by simp [h2])
    clear h hcr hgv hX1
    go_wp2_with (go_at_call 29; refine (sId_any _ _).mono ?_; rintro e w' ⟨rfl, rfl⟩)
    go_ret
    exact ⟨ret_intG hno.out.symm, hW1.out⟩
  cases h3 : inR 0 9999 group
  · have hno : Hid (givesI l owner group u g cl f = 0) := givesI_no (by simp [h3])
    clear h hcr hgv hX1
    go_wp2_with (go_at_call 29; refine (sId_any _ _).mono ?_; rintro e w' ⟨rfl, rfl⟩)
    go_ret
    exact ⟨ret_intG hno.out.symm, hW1.out⟩
  obtain ⟨xl, x0, x1, x2, x3⟩ := hX1.out
  cases h4 : credB u g cl f
  · have hno : Hid (givesI l owner group u g cl f = 0) := givesI_no (by simp [h4])
    rw [h4] at hcr
    clear h h4 hgv hX1
    go_wp2_with (first | (go_at_call 29; refine (sId_any _ _).mono ?_; rintro e w' ⟨rfl, rfl⟩) | (go_at_call 30; refine (hcr.out _ hW1.out).mono ?_; rintro e w2 ⟨rfl, hb2⟩))
    go_ret
    exact ⟨ret_intG hno.out.symm, Below.on hW1.out hb2⟩
  have hyes : givesI l owner group u g cl f = (giveI (fltP (askB owner group u g cl f) l l.length)).1 := (by rw [givesI, if_pos ⟨h, h2, h3, h4⟩])
  have HG : Hid (∀ w', Below w.heap.size w w' → Calls Try.prog 31 #[.slice a len cap, .int .i64 owner, .int .i64 group, .agg #[.int .i64 u, .int .i64 g, .slice ca cl cc, .bool cr]] w' fun e w'' => e = .returned (.int .i64 (givesI l owner group u g cl f)) ∧ Below w'.heap.size w' w'') := (by rw [hyes]; exact hgv.out h h4)
  rw [h4] at hcr
  clear h h4 hgv hyes
  generalize hR : givesI l owner group u g cl f = R at HG ⊢
  have HR : Hid (givesI l owner group u g cl f = R) := hR
  clear hR
  go_wp2_with (first | (go_at_call 29; refine (sId_any _ _).mono ?_; rintro e w' ⟨rfl, rfl⟩) | (go_at_call 30; refine (hcr.out _ hW1.out).mono ?_; rintro e w2 ⟨rfl, hb2⟩; have hW2 : Hid (Below w.heap.size w w2) := Below.on hW1.out hb2; obtain ⟨yl, y0, y1, y2, y3⟩ := hX1.out.below hX1.out.lt hb2) | (go_at_call 31; refine (HG.out _ hW2.out).mono ?_; rintro e w4 ⟨rfl, hb4⟩))
  go_ret
  exact ⟨ret_intG HR.out.symm, Below.on hW2.out hb4⟩
end Go.Proofs.Ytibofkjonepbpab
