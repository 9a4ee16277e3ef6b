/- Laid together: NfsRd. -/
import Derived.Test.YtedahdncincgjaaGreatDoorNX35
/- NfsRead of both sides. -/
namespace Go.Proofs.YtedahdncincgjaaGreatDoor
open Go.RowKit Go.PlainAid Go.Deep
set_option linter.unusedVariables false
set_option maxRecDepth 100000 in
set_option maxHeartbeats 2000000 in
/-- impl.NfsRead. -/
theorem iNfsRead_any (s : ByteArray) (m : Int) (hs : s.size ≤ 1048576) (w : World) (hm : w.cell? ⟨0, 0, none⟩ = some (.int .i64 m)) :
    Calls Tryz.prog 14 #[.string s] w (AnsP (nfsO s.data.toList) w) := by
  have hlt := block_lt_of_cell hm
  have hls : s.data.toList.length = s.size := (Lib.size_eq s).symm
  have hY : Hid (Wr2 (w.alloc (.cells #[.slice none 0 0, .int .i64 0] 35)) w.heap.size) := wr2_new w _
  have hW0 : Hid (Below w.heap.size w (w.alloc (.cells #[.slice none 0 0, .int .i64 0] 35))) := bel_alloc _ _
  by_cases h8 : 8000 < s.size
  · have hO : Hid (nfsO s.data.toList = ([], 2)) := nfsO_long (by omega)
    have h8' : (8000 : Int) < (s.size : Int) := by omega
    clear hls h8 hm hlt
    go_enter Tryz.func14, Tryz.ntmps14
    go_wp2
    refine bodyPost_ret (v := .agg #[.slice none 0 0, .int .i64 2]) (by simp [results, Tryz.results14, go_sem]) rfl (ansP_ill hO.out ?_)
    repeat (refine bl_setA ?_ (Nat.le_refl _))
    exact bel_alloc _ _
  have h8' : ¬ (8000 : Int) < (s.size : Int) := by omega
  have HR : Hid (Calls Tryz.prog 42 #[.string s] (w.alloc (.cells #[.slice none 0 0, .int .i64 0] 35)) (NfsEnd s.data.toList (w.alloc (.cells #[.slice none 0 0, .int .i64 0] 35)))) := iReadNfs_any s m (by omega) _ ((hW0.out.cell (p := ⟨_, 0, none⟩) hlt).trans hm)
  have HY : Hid (∀ l, nfsI s.data.toList = some l → nfsO s.data.toList = (l, 0)) := (fun l hx => nfsO_yes (by omega) hx)
  have HN : Hid (nfsI s.data.toList = none → nfsO s.data.toList = ([], 3)) := (fun hx => nfsO_no (by omega) hx)
  clear hlt hm hls h8 hs
  go_enter Tryz.func14, Tryz.ntmps14
  go_wp2_with fail
  refine HR.out.mono ?_
  rintro e w1 ⟨hb1, ⟨hn, v, rfl⟩ | ⟨l, v, hx, rfl, hOw⟩⟩
  · have hO : Hid (nfsO s.data.toList = ([], 3)) := HN.out hn
    have hW1 : Hid (Below w.heap.size w w1) := Below.on hW0.out hb1
    have hY1 : Hid (Wr2 w1 w.heap.size) := hY.out.below hb1
    clear hb1 hY hW0 HR HY HN hn
    obtain ⟨yl, y0, y1, yz⟩ := hY1.out
    have yz0 := yz 0
    have yz1 := yz 1
    clear yz
    go_wp2
    refine bodyPost_ret (v := .agg #[.slice none 0 0, .int .i64 3]) (by simp [results, Tryz.results14, go_sem, y0, y1]) rfl (ansP_ill hO.out ?_)
    repeat (refine bl_setA ?_ (Nat.le_refl _))
    exact hW1.out
  · have hO : Hid (nfsO s.data.toList = (l, 0)) := HY.out l hx
    have hW1 : Hid (Below w.heap.size w w1) := Below.on hW0.out hb1
    have hY1 : Hid (Wr2 w1 w.heap.size) := hY.out.below hb1
    obtain ⟨a, cp, rfl, hOA, hin⟩ := ownA_of_row hOw
    have hz : (w.alloc (.cells #[.slice none 0 0, .int .i64 0] 35)).heap.size = w.heap.size + 1 := by simp
    rw [hz] at hin
    have HNA : Hid (NewA w w1 a l.length l) := ⟨hOA, fun A e => ⟨by have := (hin A e).1; omega, (hin A e).2⟩, hW1.out⟩
    have HNE : Hid (∀ A, a = some A → w.heap.size ≠ A.block) := (fun A e => by have := (hin A e).1; omega)
    clear hb1 hY hW0 HR HY HN hx hOw hOA hin hz
    generalize hGL : l.length = GL at HNA ⊢
    have HGL : Hid (l.length = GL) := hGL
    clear hGL
    obtain ⟨yl, y0, y1, yz⟩ := hY1.out
    have yz0 := yz 0
    have yz1 := yz 1
    clear yz
    go_wp2
    refine bodyPost_ret (v := .agg #[.slice a GL cp, .int .i64 0]) (by simp [results, Tryz.results14, go_sem, y0, y1]) rfl (ansP_of hO.out HGL.out ?_)
    repeat (refine NewA.set ?_ (Nat.le_refl _) HNE.out)
    exact HNA.out
/-- What the specification's loop holds. -/
def ssAt (ps : List (List UInt8)) (k : Nat) : List Ac := (ps.take k).map aceS
theorem ssAt_len (ps : List (List UInt8)) {k : Nat} (h : k ≤ ps.length) : (ssAt ps k).length = k := by simp [ssAt]; omega
theorem ssAt_next (ps : List (List UInt8)) {k : Nat} (h : k < ps.length) : ssAt ps (k + 1) = ssAt ps k ++ [aceS ps[k]] := by
  unfold ssAt
  rw [← List.take_append_getElem h, List.map_append, List.map_singleton]
theorem ssAt_end {t : List UInt8} {k : Nat} (hk : k ≤ (spl 44 t).length) (h33 : k ≤ 33) (h0 : t = [] → k = 0) (he : ¬ (k < (spl 44 t).length ∧ t ≠ [] ∧ k ≤ 32)) : ssAt (spl 44 t) k = nfsS t := by
  by_cases hn : t = []
  · rw [h0 hn, nfsS, if_pos hn]
    rfl
  · rw [nfsS, if_neg hn, ssAt]
    by_cases h1 : k = 33
    · rw [h1]
    · have : k = (spl 44 t).length := by
        by_cases h2 : k < (spl 44 t).length
        · exact absurd ⟨h2, hn, by omega⟩ he
        · omega
      rw [this, List.take_length, List.take_of_length_le (by omega)]
set_option maxRecDepth 100000 in
set_option maxHeartbeats 2000000 in
/-- spec.NfsRead. -/
theorem sNfsRead_any (s : ByteArray) (hs : s.size ≤ 1048576) (w : World) :
    Calls Tryz.prog 21 #[.string s] w (AnsP (nfsO s.data.toList) w) := by
  have hls : s.data.toList.length = s.size := (Lib.size_eq s).symm
  have hY : Hid (Wr2 (w.alloc (.cells #[.slice none 0 0, .int .i64 0] 35)) w.heap.size) := wr2_new w _
  have hW0 : Hid (Below w.heap.size w (w.alloc (.cells #[.slice none 0 0, .int .i64 0] 35))) := bel_alloc _ _
  have HIL : Hid (∀ (c : Int) (w : World), Calls Tryz.prog 50 #[.int .i64 c] w fun e w' => e = .returned (.agg #[.slice none 0 0, .int .i64 c]) ∧ Below w.heap.size w w') := sIll5_any
  by_cases h8 : 8000 < s.size
  · have hO : Hid (nfsO s.data.toList = ([], 2)) := nfsO_long (by omega)
    have h8' : (8000 : Int) < (s.size : Int) := by omega
    clear hls h8
    go_enter Tryz.func21, Tryz.ntmps21
    go_wp2_with fail
    refine (HIL.out 2 _).mono ?_
    rintro e w1 ⟨rfl, hb1⟩
    have hW1 : Hid (Below w.heap.size w w1) := Below.on hW0.out hb1
    have hY1 : Hid (Wr2 w1 w.heap.size) := hY.out.below hb1
    clear hb1 hY hW0
    obtain ⟨yl, y0, y1, yz⟩ := hY1.out
    have yz0 := yz 0
    have yz1 := yz 1
    clear yz
    go_wp2
    refine bodyPost_ret (v := .agg #[.slice none 0 0, .int .i64 2]) (by simp [results, Tryz.results21, go_sem, y0, y1]) rfl (ansP_ill hO.out ?_)
    repeat (refine bl_setA ?_ (Nat.le_refl _))
    exact hW1.out
  have h8' : ¬ (8000 : Int) < (s.size : Int) := by omega
  have hlen := spl_len 44 s.data.toList
  have hS : Hid (∀ w, Calls Tryz.prog 51 #[.string s, .int .u8 44] w fun e w' => ∃ v, e = .returned v ∧ w'.ownsRow w.heap.size 9 1 v (bts (spl 44 s.data.toList)).length (tv (bts (spl 44 s.data.toList))) ∧ Below w.heap.size w w') := sSplit_any s 44 (by omega)
  have HEN : Hid (∀ k, k ≤ (spl 44 s.data.toList).length → k ≤ 33 → (s.data.toList = [] → k = 0) → ¬ (k < (spl 44 s.data.toList).length ∧ s.data.toList ≠ [] ∧ k ≤ 32) → ssAt (spl 44 s.data.toList) k = nfsS s.data.toList) := (fun k => ssAt_end)
  have HPL : Hid (∀ p ∈ spl 44 s.data.toList, p.length ≤ 8000) := (fun p hp => by have := piece_le 44 s.data.toList p hp; omega)
  have hend : Hid ((nfsT (nfsS s.data.toList) = s ∧ nfsO s.data.toList = (nfsS s.data.toList, 0)) ∨ (nfsT (nfsS s.data.toList) ≠ s ∧ nfsO s.data.toList = ([], 3))) := (by
    have hst : (⟨s.data.toList.toArray⟩ : ByteArray) = s := by apply ByteArray.ext; simp
    rcases nfs_key s.data.toList with ⟨l, h1, h2, h3, h4⟩ | ⟨h1, h2⟩
    · left
      refine ⟨?_, by rw [h4]; exact nfsO_yes (by omega) h3⟩
      rw [h4]
      apply ByteArray.ext
      apply Array.toList_inj.1
      exact h2.symm
    · right
      rw [hst] at h2
      exact ⟨h2, nfsO_no (by omega) h1⟩)
  have hn0 : s.data.toList = [] ↔ s.size = 0 := ⟨fun e => by rw [e] at hls; simpa using hls.symm, fun e => List.eq_nil_of_length_eq_zero (by omega)⟩
  have hpl : (spl 44 s.data.toList).length ≤ 8001 := by omega
  clear hls hlen hs h8
  generalize nfsS s.data.toList = SS at HEN hend
  generalize spl 44 s.data.toList = ps at hS HEN HPL hpl
  have HN0 : Hid (s.data.toList = [] ↔ s.size = 0) := hn0
  clear hn0
  generalize hST : s.data.toList = st at HEN hend HN0 ⊢
  have HST : Hid (s.data.toList = st) := hST
  clear hST
  go_enter Tryz.func21, Tryz.ntmps21
  go_wp2_with fail
  refine (hS.out _).mono ?_
  rintro e w1 ⟨v, rfl, hOt, hb1⟩
  obtain ⟨ta, tcp, rfl, htc, hcl⟩ := own_texts hOt
  rw [bts_len] at htc hcl ⊢
  have HC : Hid (∀ k (h : k < ps.length), ∃ b, ta = some ⟨b, 0, none⟩ ∧ b < w1.heap.size ∧ w1.cell? ⟨b, k, none⟩ = some (.string ⟨(ps[k]).toArray⟩)) := (fun k h => by
    obtain ⟨b, e1, e2, e3⟩ := hcl (by omega)
    have := e3 k _ (btsN_at h)
    rw [Nat.zero_add] at this
    exact ⟨b, e1, e2, this⟩)
  have hY1 : Hid (Wr2 w1 w.heap.size) := hY.out.below hb1
  have hW1 : Hid (Below w.heap.size w w1) := Below.on hW0.out hb1
  have hwx : Hid (w.heap.size < w1.heap.size) := (show _ < _ from Nat.lt_of_lt_of_le (by simp) hb1.size)
  have hO2 : Hid ((w1.alloc (.cells #[] 24)).ownsRow w1.heap.size 24 5 (.slice (some ⟨w1.heap.size, 0, none⟩) 0 0) (ssAt ps 0).length (pcA (ssAt ps 0))) := rowA_start w1 _ rfl _
  have hB2 : Hid (Below w1.heap.size w1 (w1.alloc (.cells #[] 24))) := bel_alloc _ _
  clear hcl hOt hb1 hY hW0 hS htc
  go_wp2
  go_loopw [4, 5] (fun v i wr => ∃ k : Nat, k ≤ ps.length ∧ k ≤ 33 ∧ i = .int .i64 k ∧ Hid (st = [] → k = 0) ∧ Hid (wr.ownsRow w1.heap.size 24 5 v (ssAt ps k).length (pcA (ssAt ps k))) ∧ Hid (Below w1.heap.size w1 wr)) (fun _ i _ => 33 - (intOf i).toNat)
  case atStart => exact ⟨0, Nat.zero_le _, by omega, rfl, fun _ => rfl, hO2, hB2⟩
  case round =>
    obtain ⟨k, hk, h33, rfl, hz, hOw, hB⟩ := hrel
    by_cases hgo : k < ps.length ∧ st ≠ [] ∧ k ≤ 32
    · obtain ⟨g1, g2, g3⟩ := hgo
      have g1' : (k : Int) < (ps.length : Int) := by omega
      have g3' : (k : Int) ≤ 32 := by omega
      have e0 : s.toList.isEmpty = false := full_text (by
        rcases Nat.eq_zero_or_pos s.size with e | e
        · exact absurd (HN0.out.2 e) g2
        · exact e)
      obtain ⟨b, rfl, hbl, hcell⟩ := HC.out k g1
      have hcz : wr.cell? ⟨b, k, none⟩ = some (.string ⟨(ps[k]).toArray⟩) := (hB.out.cell (p := ⟨b, k, none⟩) hbl).trans hcell
      have hRd : Hid (∀ w, Calls Tryz.prog 47 #[.string ⟨(ps[k]).toArray⟩] w fun e w' => e = .returned (.agg #[.bool (aceS ps[k]).al, .int .i64 (aceS ps[k]).wh, .int .i64 (aceS ps[k]).id, .int .i64 (aceS ps[k]).fl, .int .i64 (aceS ps[k]).ma]) ∧ Below w.heap.size w w') := (fun w => by
        have := sRead_any ⟨(ps[k]).toArray⟩ (by have := HPL.out _ (List.getElem_mem g1); simp [ByteArray.size]; omega) w
        simpa using this)
      have HG : Hid (ssAt ps (k + 1) = ssAt ps k ++ [aceS ps[k]]) := ssAt_next ps g1
      have hxl : (ssAt ps k).length ≤ 33 := by rw [ssAt_len ps hk]; exact h33
      have hz2 : Hid (st = [] → k + 1 = 0) := (fun e => absurd e g2)
      generalize aceS ps[k] = x at hRd HG
      clear hcell g2 hz
      go_wp2_with fail
      refine (hRd.out _).mono ?_
      rintro e wa ⟨rfl, hba⟩
      obtain ⟨v2, w2, hrr, hO3, hB3⟩ := append_one (P := Tryz.prog) w1 wa 31 31 24 Tryz.underlying31 infoAce u4 (ssAt ps k) (rowA_below hOw.out hba) (Below.on hB.out hba) x (by omega)
      rw [← HG.out] at hO3
      have HO3 : Hid (w2.ownsRow w1.heap.size 24 5 v2 (ssAt ps (k + 1)).length (pcA (ssAt ps (k + 1)))) := hO3
      have HB3 : Hid (Below w1.heap.size w1 w2) := hB3
      clear hO3 hB3 hba hOw hB hRd hcz
      go_wp2_with (at_builtin; refine wpList_append_runA _ rfl (.tmp 27) (.tmp 33) 31 31 rfl _ _ _ _ rfl rfl hrr ?_)
      go_roundw
      case rel => exact ⟨k + 1, by omega, by omega, by go_num, hz2, HO3, HB3⟩
      case measure => simp [intOf]; omega
    · have hE := HEN.out k hk h33 hz.out hgo
      have hOe := hOw.out
      rw [hE] at hOe
      obtain ⟨ga, gc, hgv, hgi, hin⟩ := ownA_of_row hOe
      have hsl : SS.length ≤ 33 := by rw [← hE, ssAt_len ps hk]; exact h33
      have hNT : Hid (Calls Tryz.prog 18 #[.slice ga SS.length gc] wr fun e w'' => e = .returned (.string (nfsT SS)) ∧ Below wr.heap.size wr w'') := sNfsText_any ga _ gc SS (by omega) wr hgi.acs
      have hWr : Hid (Below w.heap.size w wr) := Below.on hW1.out hB.out
      have hYr : Hid (Wr2 wr w.heap.size) := hY1.out.below hB.out
      have HNA : Hid (NewA w wr ga SS.length SS) := ⟨hgi, fun A e => ⟨Nat.le_trans (Nat.le_of_lt hwx.out) (hin A e).1, (hin A e).2⟩, hWr.out⟩
      have HNE : Hid (∀ A, ga = some A → w.heap.size ≠ A.block) := (fun A e => by have := (hin A e).1; have := hwx.out; omega)
      have hstop : Hid ((¬ (k : Int) < (ps.length : Int)) ∨ ((k : Int) < (ps.length : Int) ∧ s.toList.isEmpty = true) ∨ ((k : Int) < (ps.length : Int) ∧ s.toList.isEmpty = false ∧ ¬ (k : Int) ≤ 32)) := (by
        by_cases g1 : k < ps.length
        · right
          by_cases g2 : st = []
          · exact .inl ⟨by omega, tl_empty (by rw [HST.out]; exact g2)⟩
          · refine .inr ⟨by omega, full_text ?_, fun g3 => hgo ⟨g1, g2, by omega⟩⟩
            rcases Nat.eq_zero_or_pos s.size with e | e
            · exact absurd (HN0.out.2 e) g2
            · exact e
        · exact .inl (by omega))
      subst hgv
      have hO : Hid _ := hend.out
      generalize hGL : SS.length = GL at hNT HNA hsl ⊢
      have HGL : Hid (SS.length = GL) := hGL
      clear hGL hgi hin hOw hOe hE HC HEN HPL hB hY1 hW1 hO2 hB2 hz hgo hend
      have main : Hid (∀ TX : ByteArray, TX = nfsT SS → True) := (fun _ _ => trivial)
      clear main
      rcases hstop.out with q | ⟨q, q2⟩ | ⟨q, q2, q3⟩
      all_goals (
        clear hstop
        go_wp2_with fail
        refine hNT.out.mono ?_
        rintro e wz ⟨rfl, hbz⟩
        have hYz : Hid (Wr2 wz w.heap.size) := hYr.out.below hbz
        have hWz : Hid (Below w.heap.size w wz) := Below.on hWr.out hbz
        have HNZ : Hid (NewA w wz ga GL SS) := HNA.out.on hbz
        clear hbz
        rcases hO.out with ⟨h1, h2⟩ | ⟨h1, h2⟩
        · rw [h1]
          have hO2 : Hid (nfsO st = (SS, 0)) := h2
          clear h1 h2 hO
          obtain ⟨yl, y0, y1, yz⟩ := hYz.out
          have yz0 := yz 0
          have yz1 := yz 1
          clear yz
          go_wp2
          refine bodyPost_ret (v := .agg #[.slice ga GL gc, .int .i64 0]) (by simp [results, Tryz.results21, go_sem, y0, y1]) rfl (ansP_of hO2.out HGL.out ?_)
          repeat (refine NewA.set ?_ (Nat.le_refl _) HNE.out)
          exact HNZ.out
        · have e1 : ((nfsT SS).toList == s.toList) = false := by
            rw [ByteArray.toList_eq, ByteArray.toList_eq]
            exact beq_eq_false_iff_ne.2 (fun e => h1 (by apply ByteArray.ext; apply Array.toList_inj.1; exact e))
          have hO2 : Hid (nfsO st = ([], 3)) := h2
          clear h1 h2 hO
          generalize nfsT SS = TX at e1 ⊢
          go_wp2_with fail
          refine (HIL.out 3 _).mono ?_
          rintro e wy ⟨rfl, hby⟩
          have hYy : Hid (Wr2 wy w.heap.size) := hYz.out.below hby
          have hWy : Hid (Below w.heap.size w wy) := Below.on hWz.out hby
          clear hby
          obtain ⟨yl, y0, y1, yz⟩ := hYy.out
          have yz0 := yz 0
          have yz1 := yz 1
          clear yz
          go_wp2
          refine bodyPost_ret (v := .agg #[.slice none 0 0, .int .i64 3]) (by simp [results, Tryz.results21, go_sem, y0, y1]) rfl (ansP_ill hO2.out ?_)
          repeat (refine bl_setA ?_ (Nat.le_refl _))
          exact hWy.out)
end Go.Proofs.YtedahdncincgjaaGreatDoor
