/- Laid together: PpT. -/
import Derived.Test.YtcgkkeooigjbbaaDoorPP6
import Derived.Test.YtcgkkeooigjbbaaDoorPP7
/- spec.PathParts. -/
namespace Go.Proofs.YtcgkkeooigjbbaaDoor
open Go.RowKit Go.PlainAid Go.Deep
set_option linter.unusedVariables false
set_option maxHeartbeats 8000000 in
theorem sPathParts_any (s : ByteArray) (hs : s.size ≤ 1048576) (w : World) :
    Calls Tryd.prog 4 #[.string s] w fun e w' => PpEnd w s e w' := by
  have hmx : s.size ≤ maxLen := by unfold maxLen; omega
  have HSg : Hid (∀ w, Calls Tryd.prog 9 #[.string s, .int .i64 60] w fun e w' => e = .returned (.bool (signsB s 60)) ∧ w' = w) := (fun w => sBytes_any s 60 (by omega) hmx w)
  clear hmx
  have HB : Hid (Below w.heap.size w (w.alloc (.cells #[.slice none 0 0, .bool false, .int .i64 0] 24))) := bel_alloc _ _
  have HX : Hid (BoxW (w.alloc (.cells #[.slice none 0 0, .bool false, .int .i64 0] 24)) w.heap.size [.slice none 0 0, .bool false, .int .i64 0]) := boxW_new w [.slice none 0 0, .bool false, .int .i64 0] 24
  go_enter Tryd.func4, Tryd.ntmps4
  go_upto_region 1 with fail
  generalize w.alloc (.cells #[.slice none 0 0, .bool false, .int .i64 0] 24) = w0 at HB HX ⊢
  obtain ⟨X, hX⟩ : ∃ X, X = w.heap.size := ⟨_, rfl⟩
  have HXw : Hid (w.heap.size ≤ X) := Nat.le_of_eq hX.symm
  rw [← hX] at HX ⊢
  clear hX
  have x0 : w0.cell? ⟨X, 0, none⟩ = some (.slice none 0 0) := HX.out.at0 0 _ rfl
  have x1 : w0.cell? ⟨X, 1, none⟩ = some (.bool false) := HX.out.at0 1 _ rfl
  have x2 : w0.cell? ⟨X, 2, none⟩ = some (.int .i64 0) := HX.out.at0 2 _ rfl
  have fz : ∀ o, w0.frozen? ⟨X, o, none⟩ = false := HX.out.frz
  by_cases h8 : 8000 < s.size
  · have hC := ppC_size h8
    have h8' : (8000 : Int) < (s.size : Int) := by omega
    clear HSg
    go_wp2
    refine bodyPost_ret (v := .agg #[.slice none 0 0, .bool false, .int .i64 2]) (by simp [results, Tryd.results4, go_sem, x0, x1, x2]) rfl ?_
    exact .inl ⟨by rw [hC]; decide, by rw [hC], (by repeat (first | exact HB.out | refine bl_setT ?_ HXw.out))⟩
  have h8' : ¬ (8000 : Int) < (s.size : Int) := by omega
  cases h6 : signsB s 60
  · have hC := ppC_form h8 (by rw [h6]; rfl)
    rw [h6] at HSg
    clear h8
    go_wp2_with (go_at_call 9; refine (HSg.out _).mono ?_; rintro e w1 ⟨rfl, hw⟩; have hw2 := hw.symm; clear hw; subst hw2)
    refine bodyPost_ret (v := .agg #[.slice none 0 0, .bool false, .int .i64 1]) (by simp [results, Tryd.results4, go_sem, x0, x1, x2]) rfl ?_
    exact .inl ⟨by rw [hC]; decide, by rw [hC], (by repeat (first | exact HB.out | refine bl_setT ?_ HXw.out))⟩
  rw [h6] at HSg
  obtain ⟨hn1, hn2⟩ := signs_len h6
  have h1 : 0 < s.size := hn1
  have h1' : (0 : Int) < (s.size : Int) := by omega
  have hq : (((s[0]'h1).toNat : Int) == 47) = firB s := by rw [firB, bt, dif_pos h1]
  cases h7 : firB s
  · have hC := ppC_form h8 (by rw [h6, h7]; rfl)
    rw [h7] at hq
    clear h8 h6 h7
    have hqn : (((s[0]'h1).toNat : Int) != 47) = true := by rw [bne, hq]; rfl
    go_wp2_with (go_at_call 9; refine (HSg.out _).mono ?_; rintro e w1 ⟨rfl, hw⟩; have hw2 := hw.symm; clear hw; subst hw2)
    refine bodyPost_ret (v := .agg #[.slice none 0 0, .bool false, .int .i64 1]) (by simp [results, Tryd.results4, go_sem, x0, x1, x2]) rfl ?_
    exact .inl ⟨by rw [hC]; decide, by rw [hC], (by repeat (first | exact HB.out | refine bl_setT ?_ HXw.out))⟩
  rw [h7] at hq
  have hqn : (((s[0]'h1).toNat : Int) != 47) = false := by rw [bne, hq]; rfl
  have HCr : Hid (lng (prt s.data.toList) = true → ppC s = 8) := (fun h => ppC_range h8 (by rw [h6, h7]; rfl) h)
  have HCo : Hid (lng (prt s.data.toList) = false → ppC s = 0) := (fun h => ppC_ok h8 (by rw [h6, h7]; rfl) h)
  have HSp : Hid (∀ w, Calls Tryd.prog 10 #[.string s] w fun e w' => ∃ v, e = .returned v ∧ w'.ownsRow w.heap.size 9 1 v (bts (prt s.data.toList)).length (tv (bts (prt s.data.toList))) ∧ Below w.heap.size w w') := (fun w => sSplit9_any s (by omega) w)
  have hpl : (prt s.data.toList).length ≤ 61 := by
    have h1 := prt_len s.data.toList
    have h2 : s.data.toList.length = s.size := (Lib.size_eq s).symm
    omega
  obtain ⟨n, hn⟩ : ∃ n : Nat, s.size = n + 1 := ⟨s.size - 1, by omega⟩
  have hnl : n < s.size := by omega
  have hql : (((s[n]'hnl).toNat : Int) == 47) = lasB s := by
    have e : s.size - 1 = n := by omega
    rw [lasB, e, bt, dif_pos hnl]
  have HLas : Hid (lasB s = lasB s) := rfl
  have HPE : Hid (∀ e w', (ppC s ≠ 0 ∧ e = .returned (.agg #[.slice none 0 0, .bool false, .int .i64 (ppC s)]) ∧ Below w.heap.size w w') ∨ (ppC s = 0 ∧ ∃ v, e = .returned (.agg #[v, .bool (lasB s), .int .i64 0]) ∧ w'.ownsRow w.heap.size 9 1 v (bts (prt s.data.toList)).length (tv (bts (prt s.data.toList))) ∧ Below w.heap.size w w') → PpEnd w s e w') := (fun e w' h => h)
  generalize lasB s = lb at hql HPE
  generalize prt s.data.toList = pp at HCr HCo HSp hpl HPE
  have HN' : Hid ((s.size : Int) = (n : Int) + 1) := (by show _ = _; omega)
  have HQL : Hid ((((s[n]'hnl).toNat : Int) == 47) = lb) := hql
  clear h8 h6 h7 hs hn1 hn2 HLas hn hql
  go_upto_region 5 with (go_at_call 9; refine (HSg.out _).mono ?_; rintro e w1 ⟨rfl, hw⟩; have hw2 := hw.symm; clear hw; subst hw2)
  go_wp2_with fail
  refine (HSp.out _).mono ?_
  rintro e w1 ⟨v, rfl, hv, hb⟩
  have HB0 : Hid (w.heap.size ≤ w0.heap.size) := HB.out.size
  have HXl : Hid (X < w0.heap.size) := HX.out.lt
  replace HB : Hid (Below w.heap.size w w1) := Below.on HB.out hb
  replace HX : Hid (BoxW w1 X [.slice none 0 0, .bool false, .int .i64 0]) := HX.out.below hb
  replace x0 : w1.cell? ⟨X, 0, none⟩ = some (.slice none 0 0) := HX.out.at0 0 _ rfl
  replace x1 : w1.cell? ⟨X, 1, none⟩ = some (.bool false) := HX.out.at0 1 _ rfl
  replace x2 : w1.cell? ⟨X, 2, none⟩ = some (.int .i64 0) := HX.out.at0 2 _ rfl
  replace fz : ∀ o, w1.frozen? ⟨X, o, none⟩ = false := HX.out.frz
  have HOw : Hid (w1.ownsRow w.heap.size 9 1 v (bts pp).length (tv (bts pp))) := row_base hv HB0.out
  have HNe : Hid (v.ownBlock ≠ some X) := (fun e => by have h1 := own_blockT hv X e; have h2 := HXl.out; omega)
  obtain ⟨a, c, rfl, hac, hcell⟩ := own_rowS hv
  have HRw : Hid (RowS w1 a (bts pp)) := hcell
  have hbl : (bts pp).length = pp.length := bts_len pp
  have HOw2 : Hid (w1.ownsRow w.heap.size 9 1 (.slice a pp.length c) (bts pp).length (tv (bts pp))) := (by have h := HOw.out; rw [hbl] at h; show World.ownsRow _ _ _ _ _ _ _; rw [hbl]; exact h)
  rw [hbl] at HNe ⊢
  clear hv hb hcell hac HSp HSg HB0
  go_wp2
  go_loop [4] (fun i => ∃ k : Nat, k ≤ pp.length ∧ i = .int .i64 k ∧ Hid (lngTo pp k = false)) (fun i => pp.length - (intOf i).toNat)
  case atStart => exact ⟨0, Nat.zero_le _, rfl, rfl⟩
  case round =>
    obtain ⟨k, hk, rfl, hno⟩ := hrel
    by_cases hlt : k < pp.length
    · obtain ⟨b, rfl, hb0, hcell⟩ := HRw.out (by omega)
      have hlt' : (k : Int) < (pp.length : Int) := by omega
      have h0' : (0 : Int) ≤ (k : Int) := by omega
      have g0 := hcell k _ (bts_at hlt)
      rw [Nat.zero_add] at g0
      have hgl : (⟨pp[k].toArray⟩ : ByteArray).size = pp[k].length := rfl
      have hgd := bts_get hlt
      have HLy : Hid (12 < (pp.getD k []).length → lng pp = true) := (fun h => lngTo_yes hlt h)
      have HLn : Hid (¬ 12 < (pp.getD k []).length → lngTo pp (k + 1) = false) := (fun h => lngTo_next hno.out h)
      rw [← hgd, ← hgl] at HLy HLn
      generalize (⟨pp[k].toArray⟩ : ByteArray) = x at g0 HLy HLn
      clear hcell hgl hgd
      by_cases h12 : 12 < x.size
      · have hC : ppC s = 8 := HCr.out (HLy.out h12)
        have h12' : (12 : Int) < (x.size : Int) := by omega
        go_wp2
        refine bodyPost_ret (v := .agg #[.slice none 0 0, .bool false, .int .i64 8]) (by simp [results, Tryd.results4, go_sem, x0, x1, x2]) rfl ?_
        exact HPE.out _ _ (.inl ⟨by rw [hC]; decide, by rw [hC], (by repeat (first | exact HB.out | refine bl_setT ?_ HXw.out))⟩)
      · have hnx : Hid (lngTo pp (k + 1) = false) := HLn.out h12
        have h12' : ¬ (12 : Int) < (x.size : Int) := by omega
        go_wp2
        go_round
        case rel => exact ⟨k + 1, by omega, by go_num, hnx⟩
        case measure => simp [intOf]; omega
    · have : k = pp.length := by omega
      subst this
      have hC : ppC s = 0 := HCo.out hno.out
      have hql2 := HQL.out
      have hn' := HN'.out
      go_wp2
      refine bodyPost_ret (v := .agg #[.slice a pp.length c, .bool lb, .int .i64 0]) (by simp [results, Tryd.results4, go_sem, x0, x1, x2]) rfl ?_
      refine HPE.out _ _ (.inr ⟨hC, _, rfl, ?_, (by repeat (first | exact HB.out | refine bl_setT ?_ HXw.out))⟩)
      exact row_set (row_set (row_set HOw2.out HNe.out) HNe.out) HNe.out
end Go.Proofs.YtcgkkeooigjbbaaDoor
