/- impl.readNfs. -/
import Derived.Test.YtlngfaplimpilaaDoorNfsRdM
import Derived.Test.YtlngfaplimpilaaDoorAceCat
namespace Go.Proofs.YtlngfaplimpilaaDoor
open Go.RowKit Go.PlainAid Go.Deep
set_option linter.unusedVariables false
/-- What readNfs ends in. -/
def NfsEnd (t : List UInt8) (w : World) (e : Ending) (w' : World) : Prop := Below w.heap.size w w' ∧ ((nfsI t = none ∧ ∃ v, e = .returned (.tuple #[v, .bool false])) ∨ ∃ l v, nfsI t = some l ∧ e = .returned (.tuple #[v, .bool true]) ∧ w'.ownsRow w.heap.size 41 5 v l.length (pcA l))
theorem btsN_at {ps : List (List UInt8)} {k : Nat} (h : k < ps.length) : (bts ps)[k]? = some ⟨(ps[k]).toArray⟩ := by simp [bts, h]
theorem piece_le (c : UInt8) (t : List UInt8) : ∀ p ∈ spl c t, p.length ≤ t.length := by
  have key : ∀ (ps : List (List UInt8)), ∀ p ∈ ps, p.length ≤ (unspl c ps).length := by
    intro ps
    induction ps with
    | nil => intro p hp; cases hp
    | cons x r ih =>
      intro p hp
      cases r with
      | nil => simp at hp; subst hp; simp [unspl]
      | cons y r =>
        simp only [unspl, List.length_append, List.length_cons]
        rcases List.mem_cons.1 hp with rfl | hp
        · omega
        · have := ih p hp
          omega
  intro p hp
  have := key _ p hp
  rwa [unspl_spl] at this
set_option maxRecDepth 100000 in
set_option maxHeartbeats 400000 in
theorem iReadNfs_full (s : ByteArray) (m : Int) (h0 : 0 < s.size) (hs : s.size ≤ 8000) (w : World) (hm : w.cell? ⟨1, 0, none⟩ = some (.int .i64 m)) :
    Calls Tryd.prog 72 #[.string s] w (NfsEnd s.data.toList w) := by
  have hl : s.data.toList.length = s.size := (Lib.size_eq s).symm
  have hlt := block_lt_of_cell hm
  have hne := full_text h0
  have hnil : s.data.toList ≠ [] := fun e => by rw [e] at hl; simp at hl; omega
  have hlen := spl_len 44 s.data.toList
  have hS : Hid (Calls Tryd.prog 90 #[.string s, .string ⟨#[44]⟩] w fun e w' => e = .returned (.slice (some ⟨w.heap.size, 0, none⟩) (spl 44 s.data.toList).length (spl 44 s.data.toList).length) ∧ w' = w.alloc (.cells ((bts (spl 44 s.data.toList)).map Value.string).toArray 9)) := split_at 44 s m hs w hm
  have HR : Hid (nfsI s.data.toList = if (∀ p ∈ spl 44 s.data.toList, aceI p ≠ none) ∧ acesB (xsOf (spl 44 s.data.toList)) = true then some (xsOf (spl 44 s.data.toList)) else none) := (by show _ = _; rw [nfsI, if_neg hnil])
  have HPL : Hid (∀ p ∈ spl 44 s.data.toList, p.length ≤ 8000) := (fun p hp => by have := piece_le 44 s.data.toList p hp; omega)
  have HM : Hid (∀ w', Below w.heap.size w w' → w'.cell? ⟨1, 0, none⟩ = some (.int .i64 m)) := (fun w' hb => (hb.cell (p := ⟨_, 0, none⟩) hlt).trans hm)
  generalize hnI : nfsI s.data.toList = res at HR
  have HRS : Hid (nfsI s.data.toList = res) := hnI
  clear hl hnil hm hlt hnI
  generalize spl 44 s.data.toList = ps at hS HR hlen HPL
  have hpl : ps.length ≤ 8001 := by rw [(Lib.size_eq s).symm] at hlen; omega
  clear hlen
  go_enter Tryd.func72, Tryd.ntmps72
  go_wp2_with fail
  refine hS.out.mono ?_
  rintro e w1 ⟨rfl, rfl⟩
  have HC : Hid (∀ k (h : k < ps.length), (w.alloc (.cells ((bts ps).map Value.string).toArray 9)).cell? ⟨w.heap.size, k, none⟩ = some (.string ⟨(ps[k]).toArray⟩)) := (fun k h => cells_at4 w (bts ps) _ (btsN_at h))
  have hB0 : Hid (Below w.heap.size w (w.alloc (.cells ((bts ps).map Value.string).toArray 9))) := bel_alloc _ _
  have hz0 : w.heap.size < (w.alloc (.cells ((bts ps).map Value.string).toArray 9)).heap.size := by simp
  clear hS
  generalize w.alloc (.cells ((bts ps).map Value.string).toArray 9) = w1 at HC hB0 hz0 ⊢
  go_wp2
  go_loopw [4, 14] (fun v i wr => ∃ k : Nat, k ≤ ps.length ∧ i = .int .i64 k ∧ Hid (∀ j (h : j < k) (h2 : j < ps.length), aceI (ps[j]) ≠ none) ∧ Hid (wr.ownsRow w1.heap.size 41 5 v (xsOf (ps.take k)).length (pcA (xsOf (ps.take k)))) ∧ Hid (Below w1.heap.size w1 wr)) (fun _ i _ => ps.length - (intOf i).toNat)
  case atStart => exact ⟨0, Nat.zero_le _, rfl, fun j h => absurd h (by omega), World.ownsRow_nil _ _ _ _, Below.refl _ _⟩
  case round =>
    obtain ⟨k, hk, rfl, hD, hOw, hB⟩ := hrel
    by_cases hlt : k < ps.length
    · have hlt' : (k : Int) < (ps.length : Int) := by omega
      have hcz : wr.cell? ⟨w.heap.size, k, none⟩ = some (.string ⟨(ps[k]).toArray⟩) := (hB.out.cell (p := ⟨w.heap.size, k, none⟩) hz0).trans (HC.out k hlt)
      have hRA : Hid (Calls Tryd.prog 67 #[.string ⟨(ps[k]).toArray⟩] wr (AceEnd ps[k] wr)) := (by
        have := iReadA_any ⟨(ps[k]).toArray⟩ m (by have := HPL.out _ (List.getElem_mem hlt); simpa [ByteArray.size] using this) wr (HM.out _ (Below.on hB0.out hB.out))
        show Calls _ _ _ _ _
        simpa using this)
      have hxl : (xsOf (ps.take k)).length ≤ 8001 := by rw [xsOf_len]; simp; omega
      go_wp2_with fail
      refine hRA.out.mono ?_
      rintro e wa ⟨hba, ⟨hn, rfl⟩ | ⟨x, hx, rfl⟩⟩
      · have hno : Hid (nfsI s.data.toList = none) := (by
          show _ = _
          rw [HRS.out, HR.out, if_neg (fun h => h.1 _ (List.getElem_mem hlt) hn)])
        have hW : Hid (Below w.heap.size w wa) := Below.on hB0.out (Below.on hB.out hba)
        clear hba hRA hD hOw HC hcz hn
        go_wp2
        go_ret2
        exact ⟨Below.onA hW.out, .inl ⟨hno.out, _, rfl⟩⟩
      · have HG : Hid (xsOf (ps.take (k + 1)) = xsOf (ps.take k) ++ [x]) := xsOf_take ps hlt hx
        have hD2 : Hid (∀ j (h : j < k + 1) (h2 : j < ps.length), aceI (ps[j]) ≠ none) := (fun j h h2 => by
          by_cases e : j = k
          · subst e; rw [hx]; simp
          · exact hD.out j (by omega) h2)
        have hBA : Hid (Below w1.heap.size w1 (wa.alloc (.cells #[.bool x.al, .int .i64 x.wh, .int .i64 x.id, .int .i64 x.fl, .int .i64 x.ma] 41))) := Below.onA (Below.on hB.out hba)
        have hOA : Hid ((wa.alloc (.cells #[.bool x.al, .int .i64 x.wh, .int .i64 x.id, .int .i64 x.fl, .int .i64 x.ma] 41)).ownsRow w1.heap.size 41 5 u4 (xsOf (ps.take k)).length (pcA (xsOf (ps.take k)))) := rowA_below (rowA_below hOw.out hba) (bel_alloc _ _)
        have hF : Hid (Five (wa.alloc (.cells #[.bool x.al, .int .i64 x.wh, .int .i64 x.id, .int .i64 x.fl, .int .i64 x.ma] 41)) wa.heap.size 0 x) := five_new wa x _
        clear hba hOw hB hRA hD hx hcz
        go_upto_region 10 with fail
        generalize wa.alloc (.cells #[.bool x.al, .int .i64 x.wh, .int .i64 x.id, .int .i64 x.fl, .int .i64 x.ma] 41) = wb at hBA hOA hF ⊢
        generalize wa.heap.size = X at hF ⊢
        obtain ⟨c0, c1, c2, c3, c4⟩ := hF.out
        simp only [Nat.zero_add] at c0 c1 c2 c3 c4
        obtain ⟨v2, w2, hrr, hO2, hB2⟩ := append_one (P := Tryd.prog) w1 wb 52 52 41 Tryd.underlying52 infoAce u4 (xsOf (ps.take k)) hOA.out hBA.out x (by omega)
        rw [← HG.out] at hO2
        have HO2 : Hid (w2.ownsRow w1.heap.size 41 5 v2 (xsOf (ps.take (k + 1))).length (pcA (xsOf (ps.take (k + 1))))) := hO2
        have HB2 : Hid (Below w1.heap.size w1 w2) := hB2
        clear hO2 hB2 hBA hOA
        go_wp2_with (at_builtin; refine wpList_append_runA _ rfl (.tmp 25) (.tmp 27) 52 52 rfl _ _ _ _ rfl rfl hrr ?_)
        go_roundw
        case rel => exact ⟨k + 1, by omega, by go_num, hD2, HO2, HB2⟩
        case measure => simp [intOf]; omega
    · have hke : k = ps.length := by omega
      subst hke
      have ht : ps.take ps.length = ps := List.take_length
      have hOe := hOw.out
      rw [ht] at hOe
      obtain ⟨ga, gc, hgv, hgi, _⟩ := ownA_of_row hOe
      have hNR : Hid (Calls Tryd.prog 70 #[.slice ga (xsOf ps).length gc] wr fun e w'' => e = .returned (.bool (acesB (xsOf ps))) ∧ Below wr.heap.size wr w'') := iNfsRight_any ga _ gc _ wr hgi.acs
      have hall : ∀ p ∈ ps, aceI p ≠ none := fun p hp => by
        obtain ⟨j, hj, rfl⟩ := List.mem_iff_getElem.1 hp
        exact hD.out j hj hj
      have hEnd : Hid ((acesB (xsOf ps) = true ∧ nfsI s.data.toList = some (xsOf ps)) ∨ (acesB (xsOf ps) = false ∧ nfsI s.data.toList = none)) := (by
        cases hg : acesB (xsOf ps)
        · exact .inr ⟨rfl, by rw [HRS.out, HR.out, if_neg (fun h => by rw [hg] at h; cases h.2)]⟩
        · exact .inl ⟨rfl, by rw [HRS.out, HR.out, if_pos ⟨hall, hg⟩]⟩)
      have hOb : Hid (wr.ownsRow w.heap.size 41 5 (.slice ga (xsOf ps).length gc) (xsOf ps).length (pcA (xsOf ps))) := (by
        rw [hgv] at hOe
        obtain ⟨q0, ⟨q1, q2⟩ | ⟨b2, cap2, cur2, q1, q2, q3⟩⟩ := hOe
        · exact ⟨q0, .inl ⟨q1, q2⟩⟩
        · exact ⟨q0, .inr ⟨b2, cap2, cur2, q1, Nat.le_trans hB0.out.size q2, q3⟩⟩)
      have hW : Hid (Below w.heap.size w wr) := Below.on hB0.out hB.out
      rw [hgv]
      generalize hGL : (xsOf ps).length = GL at hNR hOb ⊢
      have HGL : Hid ((xsOf ps).length = GL) := hGL
      generalize acesB (xsOf ps) = gr at hNR hEnd
      clear hgi hall hD hOw hOe HC HR HRS hgv ht hB hB0 hk hlt hGL
      go_wp2_with fail
      refine hNR.out.mono ?_
      rintro e wz ⟨rfl, hbz⟩
      have hWz : Hid (Below w.heap.size w wz) := Below.on hW.out hbz
      have hOz : Hid (wz.ownsRow w.heap.size 41 5 (.slice ga GL gc) GL (pcA (xsOf ps))) := rowA_below hOb.out hbz
      clear hbz
      rcases hEnd.out with ⟨rfl, hy⟩ | ⟨rfl, hy⟩
      · have HY : Hid (nfsI s.data.toList = some (xsOf ps)) := hy
        clear hEnd hy
        go_wp2
        go_ret2
        exact ⟨hWz.out, .inr ⟨xsOf ps, _, HY.out, rfl, by rw [HGL.out]; exact hOz.out⟩⟩
      · have HY : Hid (nfsI s.data.toList = none) := hy
        clear hEnd hy
        go_wp2
        go_ret2
        exact ⟨hWz.out, .inl ⟨HY.out, _, rfl⟩⟩
set_option maxRecDepth 100000 in
/-- impl.readNfs. -/
theorem iReadNfs_any (s : ByteArray) (m : Int) (hs : s.size ≤ 8000) (w : World) (hm : w.cell? ⟨1, 0, none⟩ = some (.int .i64 m)) :
    Calls Tryd.prog 72 #[.string s] w (NfsEnd s.data.toList w) := by
  by_cases h0 : s.size = 0
  · obtain rfl := text_nil h0
    clear h0 hm
    have hr : Hid (nfsI (⟨#[]⟩ : ByteArray).data.toList = some []) := rfl
    go_enter Tryd.func72, Tryd.ntmps72
    go_wp2
    go_ret2
    exact ⟨Below.refl _ _, .inr ⟨[], _, hr.out, rfl, World.ownsRow_nil _ _ _ _⟩⟩
  · exact iReadNfs_full s m (by omega) hs w hm
end Go.Proofs.YtlngfaplimpilaaDoor
