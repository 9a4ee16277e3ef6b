/- Laid together: IAclRd. -/
import Derived.Test.YtgooanaacebncaaDoorRA27
/- AclRead of the program. -/
namespace Go.Proofs.YtgooanaacebncaaDoor
open Go.RowKit Go.PlainAid Go.Deep
set_option linter.unusedVariables false
/-- Is the text taken? -/
def Acc (t : List UInt8) : Prop := (∀ p ∈ spl 44 t, okE p = true) ∧ (rdA t).T.data.toList = t
/-- What readAcl ends in. -/
def AclEnd (t : List UInt8) (w : World) (e : Ending) (w' : World) : Prop := Below w.heap.size w w' ∧ ((¬ Acc t ∧ ∃ a aU cU aG cG, e = .returned (.tuple #[alV a aU cU aG cG, .bool false])) ∨ (Acc t ∧ ∃ aU cU aG cG, e = .returned (.tuple #[alV (rdA t) aU cU aG cG, .bool true]) ∧ New w w' aU (rdA t).us.length (rdA t).us aG (rdA t).gs.length (rdA t).gs))
theorem rdA_fold (t : List UInt8) : foldK (spl 44 t) (spl 44 t).length = rdA t := by
  unfold foldK rdA
  rw [List.take_length]
set_option maxRecDepth 100000 in
set_option maxHeartbeats 4000000 in
theorem iReadAcl_any (s : ByteArray) (m : Int) (hs : s.size ≤ 8000) (w : World) (hm : w.cell? ⟨1, 0, none⟩ = some (.int .i64 m)) (hp : PowW w) :
    Calls Tryd.prog 60 #[.string s] w (AclEnd s.data.toList w) := by
  have hlt0 := block_lt_of_cell hm
  have hls : s.data.toList.length = s.size := (Lib.size_eq s).symm
  have hlen := spl_len 44 s.data.toList
  have HM : Hid (∀ w', Below w.heap.size w w' → w'.cell? ⟨1, 0, none⟩ = some (.int .i64 m)) := (fun w' hb => (hb.cell (p := ⟨_, 0, none⟩) hlt0).trans hm)
  have hW2 : Hid (Below w.heap.size w ((w.alloc (.cells #[.int .i64 0, .int .i64 0, .int .i64 0, .slice none 0 0, .slice none 0 0, .bool false, .int .i64 0] 43)).alloc (.cells #[.int .i64 0, .int .i64 0, .int .i64 0, .slice none 0 0, .slice none 0 0, .bool false, .int .i64 0] 43))) := Below.on (bel_alloc _ _) (bel_alloc _ _)
  have hS0 := splitL_at 44 s m hs ((w.alloc (.cells #[.int .i64 0, .int .i64 0, .int .i64 0, .slice none 0 0, .slice none 0 0, .bool false, .int .i64 0] 43)).alloc (.cells #[.int .i64 0, .int .i64 0, .int .i64 0, .slice none 0 0, .slice none 0 0, .bool false, .int .i64 0] 43)) (HM.out _ hW2.out)
  have hz2 : ((w.alloc (.cells #[.int .i64 0, .int .i64 0, .int .i64 0, .slice none 0 0, .slice none 0 0, .bool false, .int .i64 0] 43)).alloc (.cells #[.int .i64 0, .int .i64 0, .int .i64 0, .slice none 0 0, .slice none 0 0, .bool false, .int .i64 0] 43)).heap.size = w.heap.size + 2 := by simp
  rw [hz2] at hS0
  have hS : Hid (Calls Tryd.prog 80 #[.string s, .string ⟨#[44]⟩] ((w.alloc (.cells #[.int .i64 0, .int .i64 0, .int .i64 0, .slice none 0 0, .slice none 0 0, .bool false, .int .i64 0] 43)).alloc (.cells #[.int .i64 0, .int .i64 0, .int .i64 0, .slice none 0 0, .slice none 0 0, .bool false, .int .i64 0] 43)) fun e w' => e = .returned (.slice (some ⟨w.heap.size + 2, 0, none⟩) (spl 44 s.data.toList).length (spl 44 s.data.toList).length) ∧ w' = ((w.alloc (.cells #[.int .i64 0, .int .i64 0, .int .i64 0, .slice none 0 0, .slice none 0 0, .bool false, .int .i64 0] 43)).alloc (.cells #[.int .i64 0, .int .i64 0, .int .i64 0, .slice none 0 0, .slice none 0 0, .bool false, .int .i64 0] 43)).alloc (.cells ((bts (spl 44 s.data.toList)).map Value.string).toArray 9)) := hS0
  have hC0 : Hid (∀ k (h : k < (spl 44 s.data.toList).length), (((w.alloc (.cells #[.int .i64 0, .int .i64 0, .int .i64 0, .slice none 0 0, .slice none 0 0, .bool false, .int .i64 0] 43)).alloc (.cells #[.int .i64 0, .int .i64 0, .int .i64 0, .slice none 0 0, .slice none 0 0, .bool false, .int .i64 0] 43)).alloc (.cells ((bts (spl 44 s.data.toList)).map Value.string).toArray 9)).cell? ⟨w.heap.size + 2, k, none⟩ = some (.string ⟨((spl 44 s.data.toList)[k]).toArray⟩)) := (fun k h => by
    have := cellsL_at ((w.alloc (.cells #[.int .i64 0, .int .i64 0, .int .i64 0, .slice none 0 0, .slice none 0 0, .bool false, .int .i64 0] 43)).alloc (.cells #[.int .i64 0, .int .i64 0, .int .i64 0, .slice none 0 0, .slice none 0 0, .bool false, .int .i64 0] 43)) (bts (spl 44 s.data.toList)) 9 (btsL_at h)
    rwa [hz2] at this)
  have hY3 : Hid (W7 (((w.alloc (.cells #[.int .i64 0, .int .i64 0, .int .i64 0, .slice none 0 0, .slice none 0 0, .bool false, .int .i64 0] 43)).alloc (.cells #[.int .i64 0, .int .i64 0, .int .i64 0, .slice none 0 0, .slice none 0 0, .bool false, .int .i64 0] 43)).alloc (.cells ((bts (spl 44 s.data.toList)).map Value.string).toArray 9)) w.heap.size (.int .i64 0) (.int .i64 0) (.int .i64 0) (.slice none 0 0) (.slice none 0 0) (.bool false) (.int .i64 0)) := ((w7_new w _ _ _ _ _ _ _ 43).below (bel_alloc _ _)).below (bel_alloc _ _)
  have hP3 : Hid (W7 (((w.alloc (.cells #[.int .i64 0, .int .i64 0, .int .i64 0, .slice none 0 0, .slice none 0 0, .bool false, .int .i64 0] 43)).alloc (.cells #[.int .i64 0, .int .i64 0, .int .i64 0, .slice none 0 0, .slice none 0 0, .bool false, .int .i64 0] 43)).alloc (.cells ((bts (spl 44 s.data.toList)).map Value.string).toArray 9)) (w.heap.size + 1) (.int .i64 0) (.int .i64 0) (.int .i64 0) (.slice none 0 0) (.slice none 0 0) (.bool false) (.int .i64 0)) := (by
    have := (w7_new (w.alloc (.cells #[.int .i64 0, .int .i64 0, .int .i64 0, .slice none 0 0, .slice none 0 0, .bool false, .int .i64 0] 43)) (.int .i64 0) (.int .i64 0) (.int .i64 0) (.slice none 0 0) (.slice none 0 0) (.bool false) (.int .i64 0) 43).below (bel_alloc _ (.cells ((bts (spl 44 s.data.toList)).map Value.string).toArray 9))
    have e : (w.alloc (.cells #[.int .i64 0, .int .i64 0, .int .i64 0, .slice none 0 0, .slice none 0 0, .bool false, .int .i64 0] 43)).heap.size = w.heap.size + 1 := by simp
    rw [e] at this
    exact this)
  have hB3 : Hid (Below w.heap.size w (((w.alloc (.cells #[.int .i64 0, .int .i64 0, .int .i64 0, .slice none 0 0, .slice none 0 0, .bool false, .int .i64 0] 43)).alloc (.cells #[.int .i64 0, .int .i64 0, .int .i64 0, .slice none 0 0, .slice none 0 0, .bool false, .int .i64 0] 43)).alloc (.cells ((bts (spl 44 s.data.toList)).map Value.string).toArray 9))) := Below.on hW2.out (bel_alloc _ _)
  have hZ3 : Hid (w.heap.size + 2 < (((w.alloc (.cells #[.int .i64 0, .int .i64 0, .int .i64 0, .slice none 0 0, .slice none 0 0, .bool false, .int .i64 0] 43)).alloc (.cells #[.int .i64 0, .int .i64 0, .int .i64 0, .slice none 0 0, .slice none 0 0, .bool false, .int .i64 0] 43)).alloc (.cells ((bts (spl 44 s.data.toList)).map Value.string).toArray 9)).heap.size) := (show _ < _ by simp)
  have HPL : Hid (∀ p ∈ spl 44 s.data.toList, p.length ≤ 8000) := (fun p hp => by have := piece_leL 44 s.data.toList p hp; omega)
  have HAC : Hid (∀ k (h : k < (spl 44 s.data.toList).length), okE ((spl 44 s.data.toList)[k]) = false → ¬ Acc s.data.toList) := (fun k h e ha => by rw [ha.1 _ (List.getElem_mem h)] at e; cases e)
  have HRD : Hid (foldK (spl 44 s.data.toList) (spl 44 s.data.toList).length = rdA s.data.toList) := rdA_fold _
  have HAY : Hid ((∀ p ∈ spl 44 s.data.toList, okE p = true) → (rdA s.data.toList).T = s → Acc s.data.toList) := (fun h1 h2 => ⟨h1, by rw [h2]⟩)
  have HAN : Hid ((rdA s.data.toList).T ≠ s → ¬ Acc s.data.toList) := (fun h1 h2 => h1 (by apply ByteArray.ext; apply Array.toList_inj.1; exact h2.2))
  have HPW : Hid (PowW w) := hp
  have hpl : (spl 44 s.data.toList).length ≤ 8001 := by omega
  clear hS0 hz2 hW2 hm hlt0 hls hlen hs hp
  generalize hRE : rdA s.data.toList = RS at HRD HAY HAN
  have HRE : Hid (rdA s.data.toList = RS) := hRE
  clear hRE
  go_enter Tryd.func60, Tryd.ntmps60
  go_wp2_with fail
  refine hS.out.mono ?_
  rintro e w3 ⟨rfl, hw3⟩
  rw [← hw3] at hC0 hY3 hP3 hB3 hZ3
  clear hw3 hS
  generalize spl 44 s.data.toList = ps at hC0 HPL HAC HRD HAY hpl ⊢
  have hA3 : Hid (Ahead w w3 (w.heap.size + 1) (foldK ps 0) none 0 none 0) := ⟨⟨World.ownsRow_nil _ _ _ _, World.ownsRow_nil _ _ _ _, fun A A2 e => (by cases e), hB3.out⟩, hP3.out, by omega, fun A e => (by cases e), fun A e => (by cases e)⟩
  go_wp2
  go_loopw [10] (fun i wr => ∃ (k : Nat) (aU : Option Addr) (cU : Nat) (aG : Option Addr) (cG : Nat), k ≤ ps.length ∧ i = .int .i64 k ∧ Hid (∀ j (h : j < k) (h2 : j < ps.length), okE (ps[j]) = true) ∧ Hid (Ahead w wr (w.heap.size + 1) (foldK ps k) aU cU aG cG) ∧ Hid (W7 wr w.heap.size (.int .i64 0) (.int .i64 0) (.int .i64 0) (.slice none 0 0) (.slice none 0 0) (.bool false) (.int .i64 0)) ∧ Hid (wr.heap[w.heap.size + 2]? = w3.heap[w.heap.size + 2]? ∧ w.heap.size + 2 < wr.heap.size) ∧ Hid ((∀ A, aU = some A → w.heap.size + 2 < A.block) ∧ (∀ A, aG = some A → w.heap.size + 2 < A.block))) (fun i _ => ps.length - (intOf i).toNat)
  case atStart => exact ⟨0, none, 0, none, 0, Nat.zero_le _, rfl, fun j h => absurd h (by omega), hA3, hY3, ⟨rfl, hZ3.out⟩, ⟨fun A e => (by cases e), fun A e => (by cases e)⟩⟩
  case round =>
    obtain ⟨k, aU, cU, aG, cG, hk, rfl, hD, hA, hY, hT, hN⟩ := hrel
    obtain ⟨lu, lg⟩ := foldK_len ps k hk
    by_cases hlt : k < ps.length
    · have hlt' : (k : Int) < (ps.length : Int) := by omega
      have hcz : wr.cell? ⟨w.heap.size + 2, k, none⟩ = some (.string ⟨(ps[k]).toArray⟩) := (World.cell?_of_block (a := ⟨w.heap.size + 2, k, none⟩) hT.out.1).trans (hC0.out k hlt)
      have hEn : Hid (Calls Tryd.prog 92 #[.pointer (some ⟨w.heap.size + 1, 0, none⟩), .string ⟨(ps[k]).toArray⟩] wr (EntEnd w wr (w.heap.size + 1) (foldK ps k) aU aG ps[k])) := (by
        have := iEntryA_any w wr (w.heap.size + 1) (foldK ps k) aU cU aG cG hA.out (by omega) (by omega) m (HM.out _ hA.out.r.bel) ⟨(ps[k]).toArray⟩ (by have := HPL.out _ (List.getElem_mem hlt); simpa [ByteArray.size] using this)
        show Calls _ _ _ _ _
        simpa using this)
      go_wp2_with fail
      refine hEn.out.mono ?_
      rintro e w4 ⟨rfl, hbut, hbel, hEI⟩
      have hYk : ∀ w', ButP (w.heap.size + 1) aU aG wr w' → W7 w' w.heap.size (.int .i64 0) (.int .i64 0) (.int .i64 0) (.slice none 0 0) (.slice none 0 0) (.bool false) (.int .i64 0) := fun w' hb => hY.out.keep hb.1 (hb.2 _ hY.out.lt (by omega) (fun A e => by have := hN.out.1 A e; omega) (fun A e => by have := hN.out.2 A e; omega))
      have hY4 : Hid (W7 w4 w.heap.size (.int .i64 0) (.int .i64 0) (.int .i64 0) (.slice none 0 0) (.slice none 0 0) (.bool false) (.int .i64 0)) := hYk w4 hbut
      have hT4 : Hid (w4.heap[w.heap.size + 2]? = w3.heap[w.heap.size + 2]? ∧ w.heap.size + 2 < w4.heap.size) := ⟨(hbut.2 _ hT.out.2 (by omega) (fun A e => by have := hN.out.1 A e; omega) (fun A e => by have := hN.out.2 A e; omega)).trans hT.out.1, Nat.lt_of_lt_of_le hT.out.2 hbut.1⟩
      have HBL : Hid (Below w.heap.size w w4) := hbel
      cases hok : okE ps[k]
      · have hno : Hid (¬ Acc s.data.toList) := HAC.out k hlt hok
        clear hok hEI hbut hbel hYk hEn hcz hD hA hY hT hN
        obtain ⟨yl, y0, y1, y2, y3, y4, y5, y6, yz⟩ := hY4.out
        have yz0 := yz 0
        have yz1 := yz 1
        have yz2 := yz 2
        have yz3 := yz 3
        have yz4 := yz 4
        have yz5 := yz 5
        have yz6 := yz 6
        clear yz
        go_wp2
        refine bodyPost_ret (v := .tuple #[.agg #[.int .i64 0, .int .i64 0, .int .i64 0, .slice none 0 0, .slice none 0 0, .bool false, .int .i64 0], .bool false]) (by simp [results, Tryd.results60, go_sem, y0, y1, y2, y3, y4, y5, y6]) rfl ⟨?_, .inl ⟨hno.out, alZ, none, 0, none, 0, rfl⟩⟩
        repeat (refine bl_setL ?_ (Nat.le_refl _))
        exact HBL.out
      · obtain ⟨aU', cU', aG', cG', hE⟩ := hEI hok
        have HN4 : Hid ((∀ A, aU' = some A → w.heap.size + 2 < A.block) ∧ (∀ A, aG' = some A → w.heap.size + 2 < A.block)) := ⟨fun A e => by
          rcases hE.fu A e with ⟨A2, e2, e3⟩ | h1
          · rw [e3]; exact hN.out.1 A2 e2
          · exact Nat.lt_of_lt_of_le hT.out.2 h1, fun A e => by
          rcases hE.fg A e with ⟨A2, e2, e3⟩ | h1
          · rw [e3]; exact hN.out.2 A2 e2
          · exact Nat.lt_of_lt_of_le hT.out.2 h1⟩
        have HA4 : Hid (Ahead w w4 (w.heap.size + 1) (foldK ps (k + 1)) aU' cU' aG' cG') := (by
          rw [foldK_next ps hlt]
          exact ⟨hE.r, hE.p, by omega, fun A e => by have := HN4.out.1 A e; omega, fun A e => by have := HN4.out.2 A e; omega⟩)
        have hD2 : Hid (∀ j (h : j < k + 1) (h2 : j < ps.length), okE (ps[j]) = true) := (fun j h h2 => by
          by_cases e : j = k
          · subst e; exact hok
          · exact hD.out j (by omega) h2)
        clear hok hEI hbut hbel hYk hEn hcz hD hA hY hT hN hE
        go_wp2
        go_roundw
        case rel => exact ⟨k + 1, aU', cU', aG', cG', by omega, by go_num, hD2, HA4, hY4, hT4, HN4⟩
        case measure => simp [intOf]; omega
    · have hke : k = ps.length := by omega
      subst hke
      have hall : ∀ p ∈ ps, okE p = true := fun p hp => by
        obtain ⟨j, hj, rfl⟩ := List.mem_iff_getElem.1 hp
        exact hD.out j hj hj
      have hA0 := hA.out
      rw [HRD.out] at hA0 lu lg
      have HA : Hid (Ahead w wr (w.heap.size + 1) RS aU cU aG cG) := hA0
      have HACC : Hid (RS.T = s → Acc s.data.toList) := HAY.out hall
      have HT : Hid (∀ w', Below wr.heap.size wr w' → Calls Tryd.prog 93 #[.agg #[.int .i64 RS.u, .int .i64 RS.g, .int .i64 RS.o, .slice aU RS.us.length cU, .slice aG RS.gs.length cG, .bool RS.r, .int .i64 RS.m]] w' fun e w'' => e = .returned (.string RS.T) ∧ Below w'.heap.size w' w'') := (fun w' hb => iAclText_any RS.u RS.g RS.o aU RS.us.length cU aG RS.gs.length cG RS.r RS.m RS.us RS.gs w' (HA.out.r.prsU.below hb) (HA.out.r.prsG.below hb) (HPW.out.below (Below.on HA.out.r.bel hb)))
      have hcmp : (RS.T.toList == s.toList) = decide (RS.T = s) := by
        by_cases e : RS.T = s
        · rw [e, decide_eq_true rfl]; simp
        · rw [decide_eq_false e, ByteArray.toList_eq, ByteArray.toList_eq]
          exact beq_eq_false_iff_ne.2 (fun e2 => e (by apply ByteArray.ext; apply Array.toList_inj.1; exact e2))
      have HFIN : Hid ((decide (RS.T = s) = true ∧ Acc s.data.toList) ∨ (decide (RS.T = s) = false ∧ ¬ Acc s.data.toList)) := (by
        by_cases e : RS.T = s
        · exact .inl ⟨decide_eq_true e, HACC.out e⟩
        · exact .inr ⟨decide_eq_false e, HAN.out e⟩)
      have HNE : Hid ((∀ A, aU = some A → w.heap.size ≠ A.block) ∧ (∀ A, aG = some A → w.heap.size ≠ A.block)) := ⟨fun A e => by have := hN.out.1 A e; omega, fun A e => by have := hN.out.2 A e; omega⟩
      generalize decide (RS.T = s) = dq at hcmp HFIN
      generalize RS.T = TX at hcmp HT
      clear hall hA0 hA HAC HAY HAN HRD HACC hC0 HPL hA3 hP3 hY3 hD hN hk hlt hT
      obtain ⟨pl, p0, p1, p2, p3, p4, p5, p6, pz⟩ := HA.out.p
      have pz0 := pz 0
      have pz1 := pz 1
      have pz2 := pz 2
      have pz3 := pz 3
      have pz4 := pz 4
      have pz5 := pz 5
      have pz6 := pz 6
      clear pz
      go_upto_region 8 with fail
      go_region_held3 (fun w' => w'.cell? ⟨w.heap.size + 1, 0, none⟩ = some (.int .i64 RS.u) ∧ w'.cell? ⟨w.heap.size + 1, 1, none⟩ = some (.int .i64 RS.g) ∧ w'.cell? ⟨w.heap.size + 1, 2, none⟩ = some (.int .i64 RS.o) ∧ w'.cell? ⟨w.heap.size + 1, 3, none⟩ = some (.slice aU RS.us.length cU) ∧ w'.cell? ⟨w.heap.size + 1, 4, none⟩ = some (.slice aG RS.gs.length cG) ∧ w'.cell? ⟨w.heap.size + 1, 5, none⟩ = some (.bool RS.r) ∧ w'.cell? ⟨w.heap.size + 1, 6, none⟩ = some (.int .i64 RS.m)) (go_keep)
        (first
          | (go_at_call 93; refine (HT.out _ (bdC (Below.refl _ _))).mono ?_; rintro e w4 ⟨rfl, hb4⟩; have hB4 : Hid (Below wr.heap.size wr w4) := bdZ hb4; obtain ⟨ql, q0, q1, q2, q3, q4, q5, q6, _⟩ := W7.below HA.out.p hB4.out; obtain ⟨yl, y0, y1, y2, y3, y4, y5, y6, yz⟩ := hY.out.below hB4.out; have yz0 := yz 0; have yz1 := yz 1; have yz2 := yz 2; have yz3 := yz 3; have yz4 := yz 4; have yz5 := yz 5; have yz6 := yz 6; clear yz))
      have HNZ : Hid (New w w4 aU RS.us.length RS.us aG RS.gs.length RS.gs) := HA.out.r.new.on hB4.out
      clear pl p0 p1 p2 p3 p4 p5 p6 pz0 pz1 pz2 pz3 pz4 pz5 pz6 ql q0 q1 q2 q3 q4 q5 q6 hb4
      go_wp2
      refine bodyPost_ret (v := .tuple #[.agg #[.int .i64 RS.u, .int .i64 RS.g, .int .i64 RS.o, .slice aU RS.us.length cU, .slice aG RS.gs.length cG, .bool RS.r, .int .i64 RS.m], .bool dq]) (by simp [results, Tryd.results60, go_sem, y0, y1, y2, y3, y4, y5, y6]) rfl ?_
      have hNn : ∀ w', New w w' aU RS.us.length RS.us aG RS.gs.length RS.gs → AclEnd s.data.toList w (.returned (.tuple #[.agg #[.int .i64 RS.u, .int .i64 RS.g, .int .i64 RS.o, .slice aU RS.us.length cU, .slice aG RS.gs.length cG, .bool RS.r, .int .i64 RS.m], .bool dq])) w' := fun w' hn => by
        rcases HFIN.out with ⟨e, hac⟩ | ⟨e, hac⟩
        · refine ⟨hn.bel, .inr ⟨hac, aU, cU, aG, cG, ?_, ?_⟩⟩
          · rw [HRE.out, e]; rfl
          · rw [HRE.out]; exact hn
        · refine ⟨hn.bel, .inl ⟨hac, RS, aU, cU, aG, cG, ?_⟩⟩
          rw [e]; rfl
      refine hNn _ ?_
      repeat (refine New.set ?_ (Nat.le_refl _) HNE.out.1 HNE.out.2)
      exact HNZ.out
set_option maxRecDepth 100000 in
set_option maxHeartbeats 2000000 in
/-- impl.AclRead. -/
theorem iAclRead_any (s : ByteArray) (m : Int) (hs : s.size ≤ 1048576) (w : World) (hm : w.cell? ⟨1, 0, none⟩ = some (.int .i64 m)) (hp : PowW w) :
    Calls Tryd.prog 24 #[.string s] w (Answers (aclO s.data.toList) w) := by
  have hlt := block_lt_of_cell hm
  have hls : s.data.toList.length = s.size := (Lib.size_eq s).symm
  have hY : Hid (W8 (w.alloc (.cells #[.int .i64 0, .int .i64 0, .int .i64 0, .slice none 0 0, .slice none 0 0, .bool false, .int .i64 0, .int .i64 0] 45)) w.heap.size) := w8_new w _
  have hW0 : Hid (Below w.heap.size w (w.alloc (.cells #[.int .i64 0, .int .i64 0, .int .i64 0, .slice none 0 0, .slice none 0 0, .bool false, .int .i64 0, .int .i64 0] 45))) := bel_alloc _ _
  by_cases h8 : 8000 < s.size
  · have hO : Hid (aclO s.data.toList = illA 2) := aclO_long (by omega)
    have h8' : (8000 : Int) < (s.size : Int) := by omega
    clear hls h8 hm hlt hp
    go_enter Tryd.func24, Tryd.ntmps24
    go_wp2
    refine bodyPost_ret (v := .agg #[.int .i64 0, .int .i64 0, .int .i64 0, .slice none 0 0, .slice none 0 0, .bool false, .int .i64 0, .int .i64 2]) (by simp [results, Tryd.results24, go_sem]) rfl (answers_ill hO.out ?_)
    repeat (refine bl_setL ?_ (Nat.le_refl _))
    exact bel_alloc _ _
  have h8' : ¬ (8000 : Int) < (s.size : Int) := by omega
  have HR : Hid (Calls Tryd.prog 60 #[.string s] (w.alloc (.cells #[.int .i64 0, .int .i64 0, .int .i64 0, .slice none 0 0, .slice none 0 0, .bool false, .int .i64 0, .int .i64 0] 45)) (AclEnd s.data.toList (w.alloc (.cells #[.int .i64 0, .int .i64 0, .int .i64 0, .slice none 0 0, .slice none 0 0, .bool false, .int .i64 0, .int .i64 0] 45)))) := iReadAcl_any s m (by omega) _ ((hW0.out.cell (p := ⟨_, 0, none⟩) hlt).trans hm) (hp.below hW0.out)
  have HYE : Hid (Acc s.data.toList → aclO s.data.toList = ⟨(rdA s.data.toList).u, (rdA s.data.toList).g, (rdA s.data.toList).o, (rdA s.data.toList).us, (rdA s.data.toList).gs, (rdA s.data.toList).r, (rdA s.data.toList).m, 0⟩) := (fun h => by unfold Acc at h; rw [aclO, if_neg (by omega), if_pos h])
  have HNO : Hid (¬ Acc s.data.toList → aclO s.data.toList = illA 3) := (fun h => by unfold Acc at h; rw [aclO, if_neg (by omega), if_neg h])
  clear hlt hm hls h8 hs hp
  go_enter Tryd.func24, Tryd.ntmps24
  go_wp2_with fail
  refine HR.out.mono ?_
  rintro e w1 ⟨hb1, ⟨hn, a, aU, cU, aG, cG, rfl⟩ | ⟨hac, aU, cU, aG, cG, rfl, hN⟩⟩
  · have hO : Hid (aclO s.data.toList = illA 3) := HNO.out hn
    have hY1 : Hid (W8 w1 w.heap.size) := hY.out.below hb1
    have hW1 : Hid (Below w.heap.size w w1) := Below.on hW0.out hb1
    clear hb1 hY hW0 HR HYE HNO hn
    simp only [alV]
    go_upto_region 4 with fail
    have hY2 : Hid (W8 (w1.alloc (.cells #[.int .i64 a.u, .int .i64 a.g, .int .i64 a.o, .slice aU a.us.length cU, .slice aG a.gs.length cG, .bool a.r, .int .i64 a.m] 43)) w.heap.size) := hY1.out.below (bel_alloc _ _)
    have hW2 : Hid (Below w.heap.size w (w1.alloc (.cells #[.int .i64 a.u, .int .i64 a.g, .int .i64 a.o, .slice aU a.us.length cU, .slice aG a.gs.length cG, .bool a.r, .int .i64 a.m] 43))) := Below.onA hW1.out
    generalize (w1.alloc (.cells #[.int .i64 a.u, .int .i64 a.g, .int .i64 a.o, .slice aU a.us.length cU, .slice aG a.gs.length cG, .bool a.r, .int .i64 a.m] 43)) = w2 at hY2 hW2 ⊢
    clear hY1 hW1
    obtain ⟨yl, y0, y1, y2, y3, y4, y5, y6, y7, yz⟩ := hY2.out
    have yz0 := yz 0
    have yz1 := yz 1
    have yz2 := yz 2
    have yz3 := yz 3
    have yz4 := yz 4
    have yz5 := yz 5
    have yz6 := yz 6
    have yz7 := yz 7
    clear yz
    go_wp2
    refine bodyPost_ret (v := .agg #[.int .i64 0, .int .i64 0, .int .i64 0, .slice none 0 0, .slice none 0 0, .bool false, .int .i64 0, .int .i64 3]) (by simp [results, Tryd.results24, go_sem, y0, y1, y2, y3, y4, y5, y6, y7]) rfl (answers_ill hO.out ?_)
    repeat (refine bl_setL ?_ (Nat.le_refl _))
    exact hW2.out
  · have hO0 := HYE.out hac
    have hY1 : Hid (W8 w1 w.heap.size) := hY.out.below hb1
    have hz : (w.alloc (.cells #[.int .i64 0, .int .i64 0, .int .i64 0, .slice none 0 0, .slice none 0 0, .bool false, .int .i64 0, .int .i64 0] 45)).heap.size = w.heap.size + 1 := by simp
    have hn2 := hN.iu
    have hn3 := hN.ig
    rw [hz] at hn2 hn3
    have HNE : Hid ((∀ A, aU = some A → w.heap.size ≠ A.block) ∧ (∀ A, aG = some A → w.heap.size ≠ A.block)) := ⟨fun A e => by have := (hn2 A e).1; omega, fun A e => by have := (hn3 A e).1; omega⟩
    have hN1 := hN.pre hW0.out
    generalize rdA s.data.toList = RS at hO0 hN1 ⊢
    have hO : Hid (aclO s.data.toList = ⟨RS.u, RS.g, RS.o, RS.us, RS.gs, RS.r, RS.m, 0⟩) := hO0
    have HN1 : Hid (New w w1 aU RS.us.length RS.us aG RS.gs.length RS.gs) := hN1
    clear hb1 hY hW0 HR HYE HNO hac hN hn2 hn3 hz hO0 hN1
    simp only [alV]
    go_upto_region 4 with fail
    have hX2 : Hid (W7 (w1.alloc (.cells #[.int .i64 RS.u, .int .i64 RS.g, .int .i64 RS.o, .slice aU RS.us.length cU, .slice aG RS.gs.length cG, .bool RS.r, .int .i64 RS.m] 43)) w1.heap.size (.int .i64 RS.u) (.int .i64 RS.g) (.int .i64 RS.o) (.slice aU RS.us.length cU) (.slice aG RS.gs.length cG) (.bool RS.r) (.int .i64 RS.m)) := w7_new w1 _ _ _ _ _ _ _ _
    have hY2 : Hid (W8 (w1.alloc (.cells #[.int .i64 RS.u, .int .i64 RS.g, .int .i64 RS.o, .slice aU RS.us.length cU, .slice aG RS.gs.length cG, .bool RS.r, .int .i64 RS.m] 43)) w.heap.size) := hY1.out.below (bel_alloc _ _)
    have HN2 : Hid (New w (w1.alloc (.cells #[.int .i64 RS.u, .int .i64 RS.g, .int .i64 RS.o, .slice aU RS.us.length cU, .slice aG RS.gs.length cG, .bool RS.r, .int .i64 RS.m] 43)) aU RS.us.length RS.us aG RS.gs.length RS.gs) := HN1.out.on (bel_alloc _ _)
    generalize (w1.alloc (.cells #[.int .i64 RS.u, .int .i64 RS.g, .int .i64 RS.o, .slice aU RS.us.length cU, .slice aG RS.gs.length cG, .bool RS.r, .int .i64 RS.m] 43)) = w2 at hX2 hY2 HN2 ⊢
    generalize w1.heap.size = X at hX2 ⊢
    clear hY1 HN1
    obtain ⟨xl, x0, x1, x2, x3, x4, x5, x6, xz⟩ := hX2.out
    have xz0 := xz 0
    have xz1 := xz 1
    have xz2 := xz 2
    have xz3 := xz 3
    have xz4 := xz 4
    have xz5 := xz 5
    have xz6 := xz 6
    clear xz
    obtain ⟨yl, y0, y1, y2, y3, y4, y5, y6, y7, yz⟩ := hY2.out
    have yz0 := yz 0
    have yz1 := yz 1
    have yz2 := yz 2
    have yz3 := yz 3
    have yz4 := yz 4
    have yz5 := yz 5
    have yz6 := yz 6
    have yz7 := yz 7
    clear yz
    go_wp2
    refine bodyPost_ret (v := .agg #[.int .i64 RS.u, .int .i64 RS.g, .int .i64 RS.o, .slice aU RS.us.length cU, .slice aG RS.gs.length cG, .bool RS.r, .int .i64 RS.m, .int .i64 0]) (by simp [results, Tryd.results24, go_sem, y0, y1, y2, y3, y4, y5, y6, y7]) rfl (answers_of hO.out rfl rfl ?_)
    repeat (refine New.set ?_ (Nat.le_refl _) HNE.out.1 HNE.out.2)
    exact HN2.out
end Go.Proofs.YtgooanaacebncaaDoor
