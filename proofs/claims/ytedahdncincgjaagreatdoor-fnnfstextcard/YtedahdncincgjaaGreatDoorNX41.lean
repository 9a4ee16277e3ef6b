/- Laid together: CrcMath, NxM, NxDr. -/
import Derived.Test.YtedahdncincgjaaGreatDoorNX36
import Derived.Test.YtedahdncincgjaaGreatDoorNX40
/- Plain mathematics of the CRC: a register's step can be told back, so one byte turned turns the CRC; a CRC goes on from text to text. -/
namespace Go.Proofs.YtedahdncincgjaaGreatDoor
open Go.RowKit Go.PlainAid
set_option linter.unusedVariables false
theorem bt_left {s t : ByteArray} {k : Nat} (h : k < s.size) : bt (s ++ t) k = bt s k := by
  unfold bt
  rw [dif_pos (by rw [ByteArray.size_append]; omega), dif_pos h, ByteArray.getElem_append_left h]
theorem bt_extX {s t : ByteArray} (hz : s.size = t.size) (h : ∀ k, k < s.size → bt s k = bt t k) : s = t := by
  apply ByteArray.ext
  apply Array.ext
  · exact hz
  · intro k h1 h2
    have g1 : k < s.size := h1
    have g2 : k < t.size := h2
    have e := h k g1
    unfold bt at e
    rw [dif_pos g1, dif_pos g2] at e
    have e2 : (s[k]'g1).toNat = (t[k]'g2).toNat := by omega
    exact UInt8.toNat_inj.1 e2
theorem body_btX {s : ByteArray} (h : 4 ≤ s.size) {k : Nat} (hk : k < s.size - 4) : bt (bodyOf s) k = bt s k := by
  have e := bt_left (s := bodyOf s) (t := tailOf s) (k := k) (by rw [body_size h]; exact hk)
  rw [body_tail h] at e
  exact e.symm
theorem seal_bodyX (t : ByteArray) : bodyOf (sealOf t) = t := by
  have hz := sealOf_size t
  have h4 : 4 ≤ (sealOf t).size := by omega
  apply bt_extX
  · rw [body_size h4]; omega
  · intro k hk
    rw [body_size h4] at hk
    rw [body_btX h4 hk]
    exact bt_left (by omega)
theorem bytes_extX {s t : ByteArray} (h : s.data.toList = t.data.toList) : s = t := by
  apply ByteArray.ext
  apply Array.toList_inj.1
  exact h
theorem size_listX (s : ByteArray) : s.size = s.data.toList.length := Lib.size_eq s
theorem aceT_no {x : Ac} (h : aceB x = false) : aceT x = ⟨#[]⟩ := by rw [aceT, h]; rfl
theorem ace_yes {x : Ac} (h : aceB x = true) : aceO (aceT x).data.toList = (x, 0) ∧ aceT x ≠ ⟨#[]⟩ :=
  ⟨aceO_yes (by have := aceT_size x; rw [← size_listX]; omega) (ace_back h).1, (ace_back h).2.2⟩
theorem ace_read {s : ByteArray} (h : (aceO s.data.toList).2 = 0) : aceT (aceO s.data.toList).1 = s := by
  by_cases h8 : 8000 < s.data.toList.length
  · rw [aceO_long h8] at h; cases h
  rcases ace_key s.data.toList with ⟨x, h1, h2, h3, _⟩ | ⟨h1, _⟩
  · rw [aceO_yes h8 h3]
    exact bytes_extX h2.symm
  · rw [aceO_no h8 h1] at h; cases h
theorem nfsT_no {l : List Ac} (h : acesB l = false) : nfsT l = ⟨#[]⟩ := by rw [nfsT, h]; rfl
theorem nfsT_size (l : List Ac) : (nfsT l).size ≤ 832 := by
  cases h : acesB l
  · rw [nfsT_no h]; exact Nat.zero_le _
  · rw [nfsT, if_pos h]
    exact jlA_size l (Nat.le_refl _) (aces_len h)
theorem nfs_yes {l : List Ac} (h : acesB l = true) : nfsO (nfsT l).data.toList = (l, 0) :=
  nfsO_yes (by have := nfsT_size l; rw [← size_listX]; omega) (nfs_back h).1
theorem nfs_read {s : ByteArray} (h : (nfsO s.data.toList).2 = 0) : acesB (nfsO s.data.toList).1 = true ∧ nfsT (nfsO s.data.toList).1 = s := by
  by_cases h8 : 8000 < s.data.toList.length
  · rw [nfsO_long h8] at h; cases h
  rcases nfs_key s.data.toList with ⟨l, h1, h2, h3, _⟩ | ⟨h1, _⟩
  · rw [nfsO_yes h8 h3]
    exact ⟨h1, bytes_extX h2.symm⟩
  · rw [nfsO_no h8 h1] at h; cases h
theorem nbT_no {l : List Ac} (h : acesB l = false) : nbT l = ⟨#[]⟩ := by rw [nbT, h]; rfl
theorem nbT_size (l : List Ac) : (nbT l).size ≤ 1704 := by
  cases h : acesB l
  · rw [nbT_no h]; exact Nat.zero_le _
  · rw [nbT, if_pos h, sealOf_size]
    have := nbB_len h
    have e : (⟨(nbB l).toArray⟩ : ByteArray).size = (nbB l).length := by rw [size_listX]
    omega
theorem nb_yes {l : List Ac} (h : acesB l = true) : nfO (nbT l) = (l, 0) ∧ nbT l ≠ ⟨#[]⟩ := by
  have hz := nbT_size l
  have e : nbT l = sealOf ⟨(nbB l).toArray⟩ := by rw [nbT, if_pos h]
  have h4 : 4 ≤ (nbT l).size := by rw [e, sealOf_size]; omega
  have hb : sealOf (bodyOf (nbT l)) = nbT l := by rw [e, seal_bodyX]
  have hu : uC (nbT l) = 0 := (u_yes (by omega) (by omega) hb).2
  refine ⟨nfO_some hu ((nbT_iff hu l).1 rfl), fun e0 => ?_⟩
  rw [e0] at h4
  have : (⟨#[]⟩ : ByteArray).size = 0 := rfl
  omega
theorem nb_read {s : ByteArray} (h : (nfO s).2 = 0) : acesB (nfO s).1 = true ∧ nbT (nfO s).1 = s := by
  by_cases hu : uC s = 0
  · cases hr : rdNb (uT s) with
    | none => rw [nfO_none hu hr] at h; cases h
    | some l =>
      rw [nfO_some hu hr]
      exact ⟨((rdNb_iff _ _).1 hr).1, (nbT_iff hu l).2 hr⟩
  · rw [nfO_ill hu] at h; exact absurd h hu
theorem nfO_len (s : ByteArray) : (nfO s).1.length ≤ 32 := by
  by_cases h : (nfO s).2 = 0
  · exact aces_len (nb_read h).1
  · unfold nfO at h ⊢
    split
    · exact Nat.zero_le _
    · rename_i h1
      cases hr : rdNb (uT s) with
      | none => exact Nat.zero_le _
      | some l => exact aces_len ((rdNb_iff _ _).1 hr).1
end Go.Proofs.YtedahdncincgjaaGreatDoor
/- The draws of FnNfsText. -/
namespace Go.Proofs.YtedahdncincgjaaGreatDoor
open Go.RowKit Go.PlainAid Go.Deep
set_option linter.unusedVariables false
theorem Src.belowX {a : Option Addr} {len cap : Nat} {g : Nat → Int} {p : Nat} {w w' : World} (h : Src a len cap g p w) (hb : Below w.heap.size w w') : Src a len cap g p w' := h.kept (fun k hk => hb.block k (by have := h.pos; omega))
theorem sSeal_x (t : ByteArray) (ht : t.size ≤ 20000) (w : World) : Calls Tryz.prog 41 #[.string t] w fun e w' => ∃ s, s.size ≤ 8000 ∧ e = .returned (.string s) ∧ Below w.heap.size w w' := by
  by_cases h : t.size ≤ 7996
  · exact (sSeal_yes t h w).mono fun e w' ⟨h1, h2⟩ => ⟨_, by rw [sealOf_size]; omega, h1, h2⟩
  · exact (sSeal_no t (by omega) (by unfold maxLen; omega) w).mono fun e w' ⟨h1, h2⟩ => ⟨_, Nat.zero_le _, h1, h2⟩
theorem fldTxtX (v0 v1 v2 : Value) (w : World) : (Instr.field 57 (.agg #[v0, v1, v2]) 0).run Tryz.prog w = .ok v0 w := by kernel_rfl
attribute [local go_sem] fldTxtX
theorem uT_size (s : ByteArray) : (uT s).size ≤ s.size := by
  unfold uT
  split
  · rename_i h
    rw [body_size h.1]; omega
  · exact Nat.zero_le _
theorem lits9 (w : World) (a b c d e f g h i : ByteArray) (t : TypeId) (hh : a.size ≤ 1000 ∧ b.size ≤ 1000 ∧ c.size ≤ 1000 ∧ d.size ≤ 1000 ∧ e.size ≤ 1000 ∧ f.size ≤ 1000 ∧ g.size ≤ 1000 ∧ h.size ≤ 1000 ∧ i.size ≤ 1000) : ∀ j, j < 9 → ∃ x, (w.alloc (.cells #[.string a, .string b, .string c, .string d, .string e, .string f, .string g, .string h, .string i] t)).cell? ⟨w.heap.size, j, none⟩ = some (.string x) ∧ x.size ≤ 1000 := by
  intro j hj
  rw [lit_cell]
  match j, hj with
  | 0, _ => exact ⟨a, rfl, hh.1⟩
  | 1, _ => exact ⟨b, rfl, hh.2.1⟩
  | 2, _ => exact ⟨c, rfl, hh.2.2.1⟩
  | 3, _ => exact ⟨d, rfl, hh.2.2.2.1⟩
  | 4, _ => exact ⟨e, rfl, hh.2.2.2.2.1⟩
  | 5, _ => exact ⟨f, rfl, hh.2.2.2.2.2.1⟩
  | 6, _ => exact ⟨g, rfl, hh.2.2.2.2.2.2.1⟩
  | 7, _ => exact ⟨h, rfl, hh.2.2.2.2.2.2.2.1⟩
  | 8, _ => exact ⟨i, rfl, hh.2.2.2.2.2.2.2.2⟩
set_option maxRecDepth 100000 in
set_option maxHeartbeats 4000000 in
theorem dDrawAceText_any (a : Option Addr) (len cap : Nat) (g : Nat → Int) (w : World) (hc : Code a len g w.heap.size w) :
    Calls Tryz.prog 4 #[.slice a len cap] w fun e w' => ∃ x : Ac, e = .returned (.agg #[.bool x.al, .int .i64 x.wh, .int .i64 x.id, .int .i64 x.fl, .int .i64 x.ma]) ∧ Below w.heap.size w w' := by
  have hbA := bel_alloc w (.cells #[.bool false, .int .i64 0, .int .i64 0, .int .i64 0, .int .i64 0] 24)
  have eA : (w.alloc (.cells #[.bool false, .int .i64 0, .int .i64 0, .int .i64 0, .int .i64 0] 24)).heap.size = w.heap.size + 1 := by simp
  have hT : Fr5 (w.alloc (.cells #[.bool false, .int .i64 0, .int .i64 0, .int .i64 0, .int .i64 0] 24)) w.heap.size acZ := fr5_new w acZ 24
  have HC : Hid _ := hc.up hbA
  clear hc
  go_enter Tryz.func4, Tryz.ntmps4
  go_wp2_with fail
  refine (source_any a len cap g _ HC.out).mono ?_
  rintro e w1 ⟨rfl, hs1, hb1⟩
  have hT1 := hT.below hb1
  have hB1 : Below w.heap.size w w1 := Below.on hbA hb1
  rw [eA] at hs1
  have hp1 := hs1.pos
  clear hb1 hT HC hbA eA
  go_wp2_with fail
  refine (drAce_any a len cap g _ _ hs1).mono ?_
  rintro e w2 ⟨x, rfl, hs2, ho2⟩
  have hT2 := hT1.keep ho2.size (ho2.block w.heap.size hT1.lt (by simp))
  have HB2 : Hid (Below w.heap.size w w2) := ho2.below hB1 (by omega) hB1.size
  have HF : Hid (Five (set5 w2 w.heap.size 0 x) w.heap.size 0 x) := hT2.sets x
  obtain ⟨q0, q1, q2, q3, q4⟩ := hT2.f
  have zf := hT2.z
  have f0 := zf 0
  have f1 := zf 1
  have f2 := zf 2
  have f3 := zf 3
  have f4 := zf 4
  simp only [Nat.zero_add] at q1 q2 q3 q4
  clear hT1 hT2 hs1 hs2 ho2 hB1 zf
  go_wp2
  refine bodyPost_ret (v := .agg #[.bool x.al, .int .i64 x.wh, .int .i64 x.id, .int .i64 x.fl, .int .i64 x.ma]) (by
    obtain ⟨y0, y1, y2, y3, y4⟩ := HF.out
    simp only [Nat.zero_add, set5] at y0 y1 y2 y3 y4
    clear q0 q1 q2 q3 q4 f0 f1 f2 f3 f4
    generalize World.setCell _ _ _ = wf at y0 y1 y2 y3 y4 ⊢
    simp [results, Tryz.results4, go_sem, y0, y1, y2, y3, y4]) rfl ⟨x, rfl, ?_⟩
  iterate 5 (refine setD ?_ (Nat.le_refl _))
  exact HB2.out
set_option maxRecDepth 100000 in
set_option maxHeartbeats 4000000 in
theorem dDrawNfsText_any (a : Option Addr) (len cap : Nat) (g : Nat → Int) (w : World) (hc : Code a len g w.heap.size w) :
    Calls Tryz.prog 8 #[.slice a len cap] w fun e w' => ∃ (la : Option Addr) (lc : Nat) (l : List Ac), e = .returned (.slice la l.length lc) ∧ Acs la l.length l w' ∧ l.length ≤ 50 ∧ Below w.heap.size w w' := by
  go_enter Tryz.func8, Tryz.ntmps8
  go_wp2_with fail
  refine (source_any a len cap g _ hc).mono ?_
  rintro e w1 ⟨rfl, hs1, hb1⟩
  go_wp2_with fail
  refine (drList_any a len cap g _ _ hs1).mono ?_
  rintro e w2 ⟨la, lc, l, rfl, hD2, hl⟩
  have HB : Hid (Below w.heap.size w w2) := hD2.own.below hb1 (Nat.le_refl _) hb1.size
  have HA : Hid (Acs la l.length l w2) := rowL_acs hD2.row
  clear hD2 hs1 hb1 hc
  go_wp2
  go_ret
  exact ⟨la, lc, l, rfl, HA.out, hl, HB.out⟩
set_option maxRecDepth 100000 in
set_option maxHeartbeats 4000000 in
theorem dDrawNfsBytes_any (a : Option Addr) (len cap : Nat) (g : Nat → Int) (w : World) (hc : Code a len g w.heap.size w) :
    Calls Tryz.prog 9 #[.slice a len cap] w fun e w' => ∃ (la : Option Addr) (lc : Nat) (l : List Ac), e = .returned (.slice la l.length lc) ∧ Acs la l.length l w' ∧ l.length ≤ 50 ∧ Below w.heap.size w w' := by
  go_enter Tryz.func9, Tryz.ntmps9
  go_wp2_with fail
  refine (source_any a len cap g _ hc).mono ?_
  rintro e w1 ⟨rfl, hs1, hb1⟩
  go_wp2_with fail
  refine (drList_any a len cap g _ _ hs1).mono ?_
  rintro e w2 ⟨la, lc, l, rfl, hD2, hl⟩
  have HB : Hid (Below w.heap.size w w2) := hD2.own.below hb1 (Nat.le_refl _) hb1.size
  have HA : Hid (Acs la l.length l w2) := rowL_acs hD2.row
  clear hD2 hs1 hb1 hc
  go_wp2
  go_ret
  exact ⟨la, lc, l, rfl, HA.out, hl, HB.out⟩
set_option maxRecDepth 100000 in
set_option maxHeartbeats 4000000 in
theorem dDrawAceRead_any (a : Option Addr) (len cap : Nat) (g : Nat → Int) (w : World) (hc : Code a len g w.heap.size w) :
    Calls Tryz.prog 6 #[.slice a len cap] w fun e w' => ∃ t, t.size ≤ 8000 ∧ e = .returned (.string t) ∧ Below w.heap.size w w' := by
  go_enter Tryz.func6, Tryz.ntmps6
  go_wp2_with fail
  refine (source_any a len cap g _ hc).mono ?_
  rintro e w1 ⟨rfl, hs1, hb1⟩
  go_wp2_with fail
  refine (drAce_any a len cap g _ _ hs1).mono ?_
  rintro e w2 ⟨y, rfl, hs2, ho2⟩
  have hB2 : Below w.heap.size w w2 := ho2.below hb1 (Nat.le_refl _) hb1.size
  clear ho2 hb1 hs1 hc
  go_wp2_with fail
  refine (sAceText_any y _).mono ?_
  rintro e w3 ⟨rfl, hb3⟩
  have ht := aceT_size y
  generalize aceT y = t at ht ⊢
  have hs3 := hs2.belowX hb3
  have hB3 : Below w.heap.size w w3 := Below.on hB2 hb3
  clear hs2 hB2 hb3
  go_wp2_with fail
  refine (n_any a len cap g _ _ (by decide) _ hs3).mono ?_
  rintro e w4 ⟨x, rfl, x1, x2, hs4, ho4⟩
  have HB : Hid (Below w.heap.size w w4) := ho4.below hB3 (Nat.le_refl _) hB3.size
  have hpz := hs4.pos
  clear ho4 hs3 hB3
  by_cases e0 : x = 0
  · subst e0
    go_wp2_with fail
    refine (spoil_any a len cap g _ t (by omega) _ hs4).mono ?_
    rintro e w5 ⟨t', ht', rfl, hs5, ho5⟩
    have HB5 : Hid (Below w.heap.size w w5) := ho5.below HB.out (Nat.le_refl _) HB.out.size
    clear ho5 hs5 hs4
    go_wp2
    go_ret
    exact ⟨t', by omega, rfl, HB5.out⟩
  · have b0 : (x == 0) = false := by simpa using e0
    by_cases e1 : x = 1
    · subst e1
      clear e0
      go_wp2_with fail
      refine (pick_any a len cap g _ _ 9 _ (by omega) (by omega) _ (by simp) (by omega) (lits9 _ _ _ _ _ _ _ _ _ _ _ (by decide)) (src_alloc hs4 _)).mono ?_
      rintro e w5 ⟨t', ht', rfl, hs5, ho5⟩
      have HB5 : Hid (Below w.heap.size w w5) := ho5.below (HB.out.alloc HB.out.size _) (Nat.le_refl _) (by have := HB.out.size; simp; omega)
      clear ho5 hs5 hs4
      go_wp2
      go_ret
      exact ⟨t', by omega, rfl, HB5.out⟩
    · have b1 : (x == 1) = false := by simpa using e1
      clear hs4
      go_wp2
      go_ret
      exact ⟨t, by omega, rfl, HB.out⟩
set_option maxRecDepth 100000 in
set_option maxHeartbeats 4000000 in
theorem dDrawNfsRead_any (a : Option Addr) (len cap : Nat) (g : Nat → Int) (w : World) (hc : Code a len g w.heap.size w) :
    Calls Tryz.prog 12 #[.slice a len cap] w fun e w' => ∃ t, t.size ≤ 8000 ∧ e = .returned (.string t) ∧ Below w.heap.size w w' := by
  go_enter Tryz.func12, Tryz.ntmps12
  go_wp2_with fail
  refine (source_any a len cap g _ hc).mono ?_
  rintro e w1 ⟨rfl, hs1, hb1⟩
  go_wp2_with fail
  refine (drList_any a len cap g _ _ hs1).mono ?_
  rintro e w2 ⟨la, lc, l, rfl, hD2, hl⟩
  have hs2 := hD2.src
  have hB2 : Below w.heap.size w w2 := hD2.own.below hb1 (Nat.le_refl _) hb1.size
  have hA2 := rowL_acs hD2.row
  clear hD2 hb1 hs1 hc
  go_wp2_with fail
  refine (sNfsText_any la l.length lc l (by omega) _ hA2).mono ?_
  rintro e w3 ⟨rfl, hb3⟩
  have ht := nfsT_size l
  generalize nfsT l = t at ht ⊢
  clear hA2
  have hs3 := hs2.belowX hb3
  have hB3 : Below w.heap.size w w3 := Below.on hB2 hb3
  clear hs2 hB2 hb3
  go_wp2_with fail
  refine (n_any a len cap g _ _ (by decide) _ hs3).mono ?_
  rintro e w4 ⟨x, rfl, x1, x2, hs4, ho4⟩
  have HB : Hid (Below w.heap.size w w4) := ho4.below hB3 (Nat.le_refl _) hB3.size
  have hpz := hs4.pos
  clear ho4 hs3 hB3
  by_cases e0 : x = 0
  · subst e0
    go_wp2_with fail
    refine (spoil_any a len cap g _ t (by omega) _ hs4).mono ?_
    rintro e w5 ⟨t', ht', rfl, hs5, ho5⟩
    have HB5 : Hid (Below w.heap.size w w5) := ho5.below HB.out (Nat.le_refl _) HB.out.size
    clear ho5 hs5 hs4
    go_wp2
    go_ret
    exact ⟨t', by omega, rfl, HB5.out⟩
  · have b0 : (x == 0) = false := by simpa using e0
    by_cases e1 : x = 1
    · subst e1
      clear e0
      clear hs4
      have hz : (t ++ (⟨#[44]⟩ : ByteArray)).size ≤ 8000 := by
        have e9 : (⟨#[44]⟩ : ByteArray).size = 1 := rfl
        simp only [ByteArray.size_append, e9]; omega
      go_wp2
      go_ret
      exact ⟨_, hz, rfl, HB.out⟩
    · have b1 : (x == 1) = false := by simpa using e1
      clear hs4
      go_wp2
      go_ret
      exact ⟨t, by omega, rfl, HB.out⟩
set_option maxRecDepth 100000 in
set_option maxHeartbeats 4000000 in
theorem dDrawNfsFrom_any (a : Option Addr) (len cap : Nat) (g : Nat → Int) (w : World) (hc : Code a len g w.heap.size w) :
    Calls Tryz.prog 13 #[.slice a len cap] w fun e w' => ∃ t, t.size ≤ 8000 ∧ e = .returned (.string t) ∧ Below w.heap.size w w' := by
  go_enter Tryz.func13, Tryz.ntmps13
  go_wp2_with fail
  refine (source_any a len cap g _ hc).mono ?_
  rintro e w1 ⟨rfl, hs1, hb1⟩
  go_wp2_with fail
  refine (drList_any a len cap g _ _ hs1).mono ?_
  rintro e w2 ⟨la, lc, l, rfl, hD2, hl⟩
  have hs2 := hD2.src
  have hB2 : Below w.heap.size w w2 := hD2.own.below hb1 (Nat.le_refl _) hb1.size
  have hA2 := rowL_acs hD2.row
  clear hD2 hb1 hs1 hc
  go_wp2_with fail
  refine (sNfsBytes_any la l.length lc l (by omega) _ hA2).mono ?_
  rintro e w3 ⟨rfl, hb3⟩
  have ht := nbT_size l
  generalize nbT l = t at ht ⊢
  clear hA2
  have hs3 := hs2.belowX hb3
  have hB3 : Below w.heap.size w w3 := Below.on hB2 hb3
  clear hs2 hB2 hb3
  go_wp2_with fail
  refine (n_any a len cap g _ _ (by decide) _ hs3).mono ?_
  rintro e w4 ⟨x, rfl, x1, x2, hs4, ho4⟩
  have HB : Hid (Below w.heap.size w w4) := ho4.below hB3 (Nat.le_refl _) hB3.size
  have hpz := hs4.pos
  clear ho4 hs3 hB3
  by_cases e0 : x = 0
  · subst e0
    go_wp2_with fail
    refine (spoil_any a len cap g _ t (by omega) _ hs4).mono ?_
    rintro e w5 ⟨t', ht', rfl, hs5, ho5⟩
    have HB5 : Hid (Below w.heap.size w w5) := ho5.below HB.out (Nat.le_refl _) HB.out.size
    clear ho5 hs5 hs4
    go_wp2
    go_ret
    exact ⟨t', by omega, rfl, HB5.out⟩
  · have b0 : (x == 0) = false := by simpa using e0
    by_cases e1 : x = 1
    · subst e1
      clear e0
      go_wp2_with fail
      refine (n_any a len cap g _ _ (by omega) _ hs4).mono ?_
      rintro e w5 ⟨y, rfl, y1, y2, hs5, ho5⟩
      have HB5 : Hid (Below w.heap.size w w5) := ho5.below HB.out (Nat.le_refl _) HB.out.size
      obtain ⟨k, rfl⟩ := Int.eq_ofNat_of_zero_le y1
      have hk : k ≤ t.size := by omega
      have hk' : (k : Int) ≤ (t.size : Int) := by omega
      have hcs := cut_sizeT t 0 k hk (by omega)
      clear ho5 hs5 hs4 y2
      go_wp2
      go_ret
      exact ⟨t.extract 0 k, by omega, rfl, HB5.out⟩
    · have b1 : (x == 1) = false := by simpa using e1
      by_cases e2 : x = 2
      · subst e2
        clear e0 e1
        go_wp2_with fail
        refine (sUns_any t (by unfold maxLen; omega) _).mono ?_
        rintro e w5 ⟨rfl, hb5⟩
        have hs5 := hs4.belowX hb5
        have HB5 : Hid (Below w.heap.size w w5) := Below.on HB.out hb5
        have hu := uT_size t
        clear hb5 hs4
        go_wp2_with fail
        refine (spoil_any a len cap g _ (uT t) (by omega) _ hs5).mono ?_
        rintro e w6 ⟨t', ht', rfl, hs6, ho6⟩
        have HB6 : Hid (Below w.heap.size w w6) := ho6.below HB5.out (Nat.le_refl _) HB5.out.size
        clear ho6 hs6 hs5 HB5
        go_wp2_with fail
        refine (sSeal_x t' (by omega) _).mono ?_
        rintro e w7 ⟨s7, hs7, rfl, hb7⟩
        have HB7 : Hid (Below w.heap.size w w7) := Below.on HB6.out hb7
        clear hb7 HB6
        go_wp2
        go_ret
        exact ⟨s7, hs7, rfl, HB7.out⟩
      · have b2 : (x == 2) = false := by simpa using e2
        clear hs4
        go_wp2
        go_ret
        exact ⟨t, by omega, rfl, HB.out⟩
end Go.Proofs.YtedahdncincgjaaGreatDoor
