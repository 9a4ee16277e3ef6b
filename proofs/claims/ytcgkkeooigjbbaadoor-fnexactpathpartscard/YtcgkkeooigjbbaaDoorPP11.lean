/- Laid together: PpU. -/
import Derived.Test.YtcgkkeooigjbbaaDoorPP10
import Derived.Test.YtcgkkeooigjbbaaDoorPP7
/- impl.PathParts. -/
namespace Go.Proofs.YtcgkkeooigjbbaaDoor
open Go.RowKit Go.PlainAid Go.Deep
set_option linter.unusedVariables false
set_option maxHeartbeats 8000000 in
theorem iPathParts_any (s : ByteArray) (m : Int) (hs : s.size ≤ 1048576) (w : World) (hm : w.cell? ⟨0, 0, none⟩ = some (.int .i64 m)) :
    Calls Tryd.prog 5 #[.string s] w fun e w' => PpEnd w s e w' := by
  have hmx : s.size ≤ maxLen := by unfold maxLen; omega
  have hlt := block_lt_of_cell hm
  have HSg : Hid (∀ w, Calls Tryd.prog 11 #[.string s, .int .i64 60] w fun e w' => e = .returned (.bool (signsB s 60)) ∧ w' = w) := (fun w => iSigns_any s 60 (by omega) hmx w)
  have HPr : Hid (∀ w, Calls Tryd.prog 12 #[.string s, .string ⟨#[47]⟩] w fun e w' => e = .returned (.bool (Lib.hasPrefix s.data.toList [47])) ∧ w' = w) := (fun w => Tryd.strings_HasPrefix s ⟨#[47]⟩ w)
  have HSu : Hid (∀ w, Calls Tryd.prog 16 #[.string s, .string ⟨#[47]⟩] w fun e w' => e = .returned (.bool (Lib.hasSuffix s.data.toList [47])) ∧ w' = w) := (fun w => Tryd.strings_HasSuffix s ⟨#[47]⟩ w (by omega))
  have HSp : Hid (s.size ≤ 60 → ∀ w', Below w.heap.size w w' → Calls Tryd.prog 13 #[.string s] w' fun e w'' => ∃ v, e = .returned v ∧ w''.ownsRow w'.heap.size 9 1 v (bts (prt s.data.toList)).length (tv (bts (prt s.data.toList))) ∧ Below w'.heap.size w' w'') := (fun h w' hb => iParts_any s m (by omega) w' ((hb.cell (p := ⟨_, 0, none⟩) hlt).trans hm))
  clear hmx hm hlt
  have HB : Hid (Below w.heap.size w (w.alloc (.cells #[.slice none 0 0, .bool false, .int .i64 0] 24))) := bel_alloc _ _
  have HX : Hid (BoxW (w.alloc (.cells #[.slice none 0 0, .bool false, .int .i64 0] 24)) w.heap.size [.slice none 0 0, .bool false, .int .i64 0]) := boxW_new w [.slice none 0 0, .bool false, .int .i64 0] 24
  go_enter Tryd.func5, Tryd.ntmps5
  go_upto_region 1 with fail
  generalize w.alloc (.cells #[.slice none 0 0, .bool false, .int .i64 0] 24) = w0 at HB HX ⊢
  obtain ⟨X, hX⟩ : ∃ X, X = w.heap.size := ⟨_, rfl⟩
  have HXw : Hid (w.heap.size ≤ X) := Nat.le_of_eq hX.symm
  rw [← hX] at HX ⊢
  clear hX
  have x0 : w0.cell? ⟨X, 0, none⟩ = some (.slice none 0 0) := HX.out.at0 0 _ rfl
  have x1 : w0.cell? ⟨X, 1, none⟩ = some (.bool false) := HX.out.at0 1 _ rfl
  have x2 : w0.cell? ⟨X, 2, none⟩ = some (.int .i64 0) := HX.out.at0 2 _ rfl
  have fz : ∀ o, w0.frozen? ⟨X, o, none⟩ = false := HX.out.frz
  by_cases h8 : 8000 < s.size
  · have hC := ppC_size h8
    have h8' : (8000 : Int) < (s.size : Int) := by omega
    clear HSg
    go_wp2
    refine bodyPost_ret (v := .agg #[.slice none 0 0, .bool false, .int .i64 2]) (by simp [results, Tryd.results5, go_sem, x0, x1, x2]) rfl ?_
    exact .inl ⟨by rw [hC]; decide, by rw [hC], (by repeat (first | exact HB.out | refine bl_setT ?_ HXw.out))⟩
  have h8' : ¬ (8000 : Int) < (s.size : Int) := by omega
  cases h6 : signsB s 60
  · have hC := ppC_form h8 (by rw [h6]; rfl)
    rw [h6] at HSg
    clear h8
    go_wp2_with (go_at_call 11; refine (HSg.out _).mono ?_; rintro e w1 ⟨rfl, hw⟩; have hw2 := hw.symm; clear hw; subst hw2)
    refine bodyPost_ret (v := .agg #[.slice none 0 0, .bool false, .int .i64 1]) (by simp [results, Tryd.results5, go_sem, x0, x1, x2]) rfl ?_
    exact .inl ⟨by rw [hC]; decide, by rw [hC], (by repeat (first | exact HB.out | refine bl_setT ?_ HXw.out))⟩
  rw [h6] at HSg
  obtain ⟨hn1, hn2⟩ := signs_len h6
  rw [pre_fir hn1] at HPr
  rw [suf_las hn1] at HSu
  cases h7 : firB s
  · have hC := ppC_form h8 (by rw [h6, h7]; rfl)
    rw [h7] at HPr
    clear h8 h6 h7
    go_wp2_with (first
      | (go_at_call 11; refine (HSg.out _).mono ?_; rintro e w1 ⟨rfl, hw⟩; have hw2 := hw.symm; clear hw; subst hw2)
      | (go_at_call 12; refine (HPr.out _).mono ?_; rintro e w1 ⟨rfl, hw⟩; have hw2 := hw.symm; clear hw; subst hw2))
    refine bodyPost_ret (v := .agg #[.slice none 0 0, .bool false, .int .i64 1]) (by simp [results, Tryd.results5, go_sem, x0, x1, x2]) rfl ?_
    exact .inl ⟨by rw [hC]; decide, by rw [hC], (by repeat (first | exact HB.out | refine bl_setT ?_ HXw.out))⟩
  rw [h7] at HPr
  have HCr : Hid (lng (prt s.data.toList) = true → ppC s = 8) := (fun h => ppC_range h8 (by rw [h6, h7]; rfl) h)
  have HCo : Hid (lng (prt s.data.toList) = false → ppC s = 0) := (fun h => ppC_ok h8 (by rw [h6, h7]; rfl) h)
  have hsp := HSp.out hn2
  have HSq : Hid (∀ w', Below w.heap.size w w' → Calls Tryd.prog 13 #[.string s] w' fun e w'' => ∃ v, e = .returned v ∧ w''.ownsRow w'.heap.size 9 1 v (bts (prt s.data.toList)).length (tv (bts (prt s.data.toList))) ∧ Below w'.heap.size w' w'') := hsp
  have hpl : (prt s.data.toList).length ≤ 61 := by
    have h1 := prt_len s.data.toList
    have h2 : s.data.toList.length = s.size := (Lib.size_eq s).symm
    omega
  have HPE : Hid (∀ e w', (ppC s ≠ 0 ∧ e = .returned (.agg #[.slice none 0 0, .bool false, .int .i64 (ppC s)]) ∧ Below w.heap.size w w') ∨ (ppC s = 0 ∧ ∃ v, e = .returned (.agg #[v, .bool (lasB s), .int .i64 0]) ∧ w'.ownsRow w.heap.size 9 1 v (bts (prt s.data.toList)).length (tv (bts (prt s.data.toList))) ∧ Below w.heap.size w w') → PpEnd w s e w') := (fun e w' h => h)
  generalize lasB s = lb at HSu HPE
  generalize prt s.data.toList = pp at HCr HCo HSq hpl HPE
  clear h8 h6 h7 hs hn1 hn2 HSp hsp
  go_upto_region 5 with (first
    | (go_at_call 11; refine (HSg.out _).mono ?_; rintro e w1 ⟨rfl, hw⟩; have hw2 := hw.symm; clear hw; subst hw2)
    | (go_at_call 12; refine (HPr.out _).mono ?_; rintro e w1 ⟨rfl, hw⟩; have hw2 := hw.symm; clear hw; subst hw2))
  go_wp2_with fail
  refine (HSq.out _ HB.out).mono ?_
  rintro e w1 ⟨v, rfl, hv, hb⟩
  have HB0 : Hid (w.heap.size ≤ w0.heap.size) := HB.out.size
  have HXl : Hid (X < w0.heap.size) := HX.out.lt
  replace HB : Hid (Below w.heap.size w w1) := Below.on HB.out hb
  replace HX : Hid (BoxW w1 X [.slice none 0 0, .bool false, .int .i64 0]) := HX.out.below hb
  replace x0 : w1.cell? ⟨X, 0, none⟩ = some (.slice none 0 0) := HX.out.at0 0 _ rfl
  replace x1 : w1.cell? ⟨X, 1, none⟩ = some (.bool false) := HX.out.at0 1 _ rfl
  replace x2 : w1.cell? ⟨X, 2, none⟩ = some (.int .i64 0) := HX.out.at0 2 _ rfl
  replace fz : ∀ o, w1.frozen? ⟨X, o, none⟩ = false := HX.out.frz
  have HOw : Hid (w1.ownsRow w.heap.size 9 1 v (bts pp).length (tv (bts pp))) := row_base hv HB0.out
  have HNe : Hid (v.ownBlock ≠ some X) := (fun e => by have h1 := own_blockT hv X e; have h2 := HXl.out; omega)
  obtain ⟨a, c, rfl, hac, hcell⟩ := own_rowS hv
  have HRw : Hid (RowS w1 a (bts pp)) := hcell
  have hbl : (bts pp).length = pp.length := bts_len pp
  have HOw2 : Hid (w1.ownsRow w.heap.size 9 1 (.slice a pp.length c) (bts pp).length (tv (bts pp))) := (by have h := HOw.out; rw [hbl] at h; show World.ownsRow _ _ _ _ _ _ _; rw [hbl]; exact h)
  rw [hbl] at HNe ⊢
  have HCt : Hid (Calls Tryd.prog 14 #[.slice a pp.length c, .func (.func 15) #[] #[]] w1 fun e w' => e = .returned (.bool (lng pp)) ∧ w' = w1) := ctLong_any a c pp (by omega) w1 HRw.out
  clear hv hb hcell hac HSq HSg HPr HB0 HRw
  cases hlg : lng pp
  · have hC : ppC s = 0 := HCo.out hlg
    rw [hlg] at HCt
    go_wp2_with (first
      | (go_at_call 14; refine (HCt.out).mono ?_; rintro e w1 ⟨rfl, hw⟩; have hw2 := hw.symm; clear hw; subst hw2)
      | (go_at_call 16; refine (HSu.out _).mono ?_; rintro e w1 ⟨rfl, hw⟩; have hw2 := hw.symm; clear hw; subst hw2))
    refine bodyPost_ret (v := .agg #[.slice a pp.length c, .bool lb, .int .i64 0]) (by simp [results, Tryd.results5, go_sem, x0, x1, x2]) rfl ?_
    refine HPE.out _ _ (.inr ⟨hC, _, rfl, ?_, (by repeat (first | exact HB.out | refine bl_setT ?_ HXw.out))⟩)
    exact row_set (row_set (row_set HOw2.out HNe.out) HNe.out) HNe.out
  · have hC : ppC s = 8 := HCr.out hlg
    rw [hlg] at HCt
    go_wp2_with (go_at_call 14; refine (HCt.out).mono ?_; rintro e w1 ⟨rfl, hw⟩; have hw2 := hw.symm; clear hw; subst hw2)
    refine bodyPost_ret (v := .agg #[.slice none 0 0, .bool false, .int .i64 8]) (by simp [results, Tryd.results5, go_sem, x0, x1, x2]) rfl ?_
    exact HPE.out _ _ (.inl ⟨by rw [hC]; decide, by rw [hC], (by repeat (first | exact HB.out | refine bl_setT ?_ HXw.out))⟩)
end Go.Proofs.YtcgkkeooigjbbaaDoor
