/- Laid together: W8T, SAclRd. -/
import Derived.Test.YtgooanaacebncaaDoorRA24
import Derived.Deep.RegionLaw
import Derived.Test.YtgooanaacebncaaDoorRA23
/- Eight cells of an answer; two rows and a list of names in new memory. -/
namespace Go.Proofs.YtgooanaacebncaaDoor
open Go.RowKit Go.PlainAid Go.Deep
set_option linter.unusedVariables false
/-- Eight cells that may be written: an empty answer. -/
structure W8 (w : World) (b : Nat) : Prop where
  lt : b < w.heap.size
  c0 : w.cell? ⟨b, 0, none⟩ = some (.int .i64 0)
  c1 : w.cell? ⟨b, 1, none⟩ = some (.int .i64 0)
  c2 : w.cell? ⟨b, 2, none⟩ = some (.int .i64 0)
  c3 : w.cell? ⟨b, 3, none⟩ = some (.slice none 0 0)
  c4 : w.cell? ⟨b, 4, none⟩ = some (.slice none 0 0)
  c5 : w.cell? ⟨b, 5, none⟩ = some (.bool false)
  c6 : w.cell? ⟨b, 6, none⟩ = some (.int .i64 0)
  c7 : w.cell? ⟨b, 7, none⟩ = some (.int .i64 0)
  z : ∀ o, w.frozen? ⟨b, o, none⟩ = false
theorem W8.below {w w' : World} {b : Nat} (h : W8 w b) (hb : Below w.heap.size w w') : W8 w' b := by
  have hc := fun o => hb.cell (p := ⟨b, o, none⟩) h.lt
  exact ⟨Nat.lt_of_lt_of_le h.lt hb.size, (hc 0).trans h.c0, (hc 1).trans h.c1, (hc 2).trans h.c2, (hc 3).trans h.c3, (hc 4).trans h.c4, (hc 5).trans h.c5, (hc 6).trans h.c6, (hc 7).trans h.c7, fun o => (hb.frozen (p := ⟨b, o, none⟩) h.lt).trans (h.z o)⟩
theorem w8_new (w : World) (t : TypeId) : W8 (w.alloc (.cells #[.int .i64 0, .int .i64 0, .int .i64 0, .slice none 0 0, .slice none 0 0, .bool false, .int .i64 0, .int .i64 0] t)) w.heap.size := by
  have hb : (w.alloc (.cells #[.int .i64 0, .int .i64 0, .int .i64 0, .slice none 0 0, .slice none 0 0, .bool false, .int .i64 0, .int .i64 0] t)).heap[w.heap.size]? = some (.cells #[.int .i64 0, .int .i64 0, .int .i64 0, .slice none 0 0, .slice none 0 0, .bool false, .int .i64 0, .int .i64 0] t) := by
    rw [World.alloc]
    exact Array.getElem?_push_size
  refine ⟨by simp, ?_, ?_, ?_, ?_, ?_, ?_, ?_, ?_, fun o => ?_⟩
  · simp only [World.cell?, hb]; rfl
  · simp only [World.cell?, hb]; rfl
  · simp only [World.cell?, hb]; rfl
  · simp only [World.cell?, hb]; rfl
  · simp only [World.cell?, hb]; rfl
  · simp only [World.cell?, hb]; rfl
  · simp only [World.cell?, hb]; rfl
  · simp only [World.cell?, hb]; rfl
  · unfold World.frozen?
    simp only [hb]
    simp
theorem R2.drew {w0 w : World} {a : Al} {aU aG : Option Addr} {cU cG : Nat} (h : R2 w0 w a aU cU aG cG) : R2 w0 w.drew a aU cU aG cG := ⟨h.ou, h.og, h.ne, bdC h.bel⟩
theorem R2.new {w0 w : World} {a : Al} {aU aG : Option Addr} {cU cG : Nat} (h : R2 w0 w a aU cU aG cG) : New w0 w aU a.us.length a.us aG a.gs.length a.gs := by
  obtain ⟨a1, c1, e1, o1, i1⟩ := own_of_row h.ou
  obtain ⟨a2, c2, e2, o2, i2⟩ := own_of_row h.og
  cases e1
  cases e2
  exact ⟨o1, o2, i1, i2, h.ne, h.bel⟩
theorem W7.drew {w : World} {b : Nat} {v0 v1 v2 v3 v4 v5 v6 : Value} (h : W7 w b v0 v1 v2 v3 v4 v5 v6) : W7 w.drew b v0 v1 v2 v3 v4 v5 v6 := h.keep (Nat.le_refl _) rfl
theorem W7.all {w : World} {b : Nat} {v0 v1 v2 v3 v4 v5 v6 : Value} (h : W7 w b v0 v1 v2 v3 v4 v5 v6) (u0 u1 u2 u3 u4 u5 u6 : Value) : W7 (((((((w.setCell ⟨b, 0, none⟩ u0).setCell ⟨b, 1, none⟩ u1).setCell ⟨b, 2, none⟩ u2).setCell ⟨b, 3, none⟩ u3).setCell ⟨b, 4, none⟩ u4).setCell ⟨b, 5, none⟩ u5).setCell ⟨b, 6, none⟩ u6) b u0 u1 u2 u3 u4 u5 u6 :=
  ((((((h.set0).set1).set2).set3).set4).set5).set6
theorem R2.all {w0 w : World} {a : Al} {aU aG : Option Addr} {cU cG b : Nat} (h : R2 w0 w a aU cU aG cG) (hb : w0.heap.size ≤ b) (h1 : ∀ A, aU = some A → b ≠ A.block) (h2 : ∀ A, aG = some A → b ≠ A.block) (u0 u1 u2 u3 u4 u5 u6 : Value) : R2 w0 (((((((w.setCell ⟨b, 0, none⟩ u0).setCell ⟨b, 1, none⟩ u1).setCell ⟨b, 2, none⟩ u2).setCell ⟨b, 3, none⟩ u3).setCell ⟨b, 4, none⟩ u4).setCell ⟨b, 5, none⟩ u5).setCell ⟨b, 6, none⟩ u6) a aU cU aG cG :=
  ((((((h.set hb h1 h2).set hb h1 h2).set hb h1 h2).set hb h1 h2).set hb h1 h2).set hb h1 h2).set hb h1 h2
/-- AclRead. -/
def aclO (t : List UInt8) : Ans := if 8000 < t.length then illA 2 else if (∀ p ∈ spl 44 t, okE p = true) ∧ (rdA t).T.data.toList = t then ⟨(rdA t).u, (rdA t).g, (rdA t).o, (rdA t).us, (rdA t).gs, (rdA t).r, (rdA t).m, 0⟩ else illA 3
theorem aclO_long {t : List UInt8} (h : 8000 < t.length) : aclO t = illA 2 := by rw [aclO, if_pos h]
theorem aclO_cases {t : List UInt8} (h : ¬ 8000 < t.length) : (∃ a : Al, t ≠ [] ∧ (∀ p ∈ spl 44 t, okE p = true) ∧ rdA t = a ∧ rdS t = a ∧ a.T.data.toList = t ∧ aclO t = ⟨a.u, a.g, a.o, a.us, a.gs, a.r, a.m, 0⟩) ∨ (¬ ((∀ p ∈ spl 44 t, okE p = true) ∧ (rdA t).T.data.toList = t) ∧ (t = [] ∨ (rdS t).T.data.toList ≠ t) ∧ aclO t = illA 3) := by
  rcases acl_key t with ⟨a, h1, h2, h3, h4, h5, h6⟩ | ⟨h1, h2⟩
  · left
    refine ⟨a, h6, h3, h4, h5, h2, ?_⟩
    rw [aclO, if_neg h, if_pos ⟨h3, by rw [h4]; exact h2⟩, h4]
  · right
    refine ⟨h1, h2, ?_⟩
    rw [aclO, if_neg h, if_neg h1]
theorem entS_len (a : Al) (t : List UInt8) : (entS a t).us.length ≤ a.us.length + 1 ∧ (entS a t).gs.length ≤ a.gs.length + 1 := by
  unfold entS
  split
  · unfold entK
    repeat' split
    all_goals simp
  · simp
/-- The list behind k entries. -/
def foldK (ps : List (List UInt8)) (k : Nat) : Al := (ps.take k).foldl entS alZ
theorem foldK_len (ps : List (List UInt8)) : ∀ k, k ≤ ps.length → (foldK ps k).us.length ≤ k ∧ (foldK ps k).gs.length ≤ k := by
  intro k
  induction k with
  | zero => intro _; simp [foldK, alZ]
  | succ k ih =>
    intro hk
    obtain ⟨h1, h2⟩ := ih (by omega)
    have e : foldK ps (k + 1) = entS (foldK ps k) ps[k] := by
      unfold foldK
      rw [← List.take_append_getElem (by omega), List.foldl_append]
      rfl
    have h3 := entS_len (foldK ps k) ps[k]
    rw [e]
    omega
theorem foldK_next (ps : List (List UInt8)) {k : Nat} (h : k < ps.length) : foldK ps (k + 1) = entS (foldK ps k) ps[k] := by
  unfold foldK
  rw [← List.take_append_getElem h, List.foldl_append]
  rfl
theorem piece_leL (c : UInt8) (t : List UInt8) : ∀ p ∈ spl c t, p.length ≤ t.length := by
  have key : ∀ (ps : List (List UInt8)), ∀ p ∈ ps, p.length ≤ (unspl c ps).length := by
    intro ps
    induction ps with
    | nil => intro p hp; cases hp
    | cons x r ih =>
      intro p hp
      cases r with
      | nil => simp at hp; subst hp; simp [unspl]
      | cons y r =>
        simp only [unspl, List.length_append, List.length_cons]
        rcases List.mem_cons.1 hp with rfl | hp
        · omega
        · have := ih p hp
          omega
  intro p hp
  have := key _ p hp
  rwa [unspl_spl] at this
theorem btsL_at {ps : List (List UInt8)} {k : Nat} (h : k < ps.length) : (bts ps)[k]? = some ⟨(ps[k]).toArray⟩ := by simp [bts, h]
set_option maxRecDepth 100000 in
set_option maxHeartbeats 4000000 in
/-- spec.AclRead. -/
theorem sAclRead_any (s : ByteArray) (hs : s.size ≤ 1048576) (w : World) :
    Calls Tryd.prog 23 #[.string s] w (Answers (aclO s.data.toList) w) := by
  have hls : s.data.toList.length = s.size := (Lib.size_eq s).symm
  have hY : Hid (W8 (w.alloc (.cells #[.int .i64 0, .int .i64 0, .int .i64 0, .slice none 0 0, .slice none 0 0, .bool false, .int .i64 0, .int .i64 0] 45)) w.heap.size) := w8_new w _
  have hW0 : Hid (Below w.heap.size w (w.alloc (.cells #[.int .i64 0, .int .i64 0, .int .i64 0, .slice none 0 0, .slice none 0 0, .bool false, .int .i64 0, .int .i64 0] 45))) := bel_alloc _ _
  by_cases h8 : 8000 < s.size
  · have hO : Hid (aclO s.data.toList = illA 2) := aclO_long (by omega)
    have h8' : (8000 : Int) < (s.size : Int) := by omega
    clear hls h8
    go_enter Tryd.func23, Tryd.ntmps23
    go_wp2
    refine bodyPost_ret (v := .agg #[.int .i64 0, .int .i64 0, .int .i64 0, .slice none 0 0, .slice none 0 0, .bool false, .int .i64 0, .int .i64 2]) (by simp [results, Tryd.results23, go_sem]) rfl (answers_ill hO.out ?_)
    repeat (refine bl_setL ?_ (Nat.le_refl _))
    exact bel_alloc _ _
  have h8' : ¬ (8000 : Int) < (s.size : Int) := by omega
  have hlen := spl_len 44 s.data.toList
  have hS : Hid (∀ w, Calls Tryd.prog 50 #[.string s, .int .u8 44] w fun e w' => ∃ v, e = .returned v ∧ w'.ownsRow w.heap.size 9 1 v (bts (spl 44 s.data.toList)).length (tv (bts (spl 44 s.data.toList))) ∧ Below w.heap.size w w') := sSplit_any s 44 (by omega)
  have HPL : Hid (∀ p ∈ spl 44 s.data.toList, p.length ≤ 8000) := (fun p hp => by have := piece_leL 44 s.data.toList p hp; omega)
  have hend : Hid ((s.data.toList ≠ [] ∧ (rdS s.data.toList).T = s ∧ aclO s.data.toList = ⟨(rdS s.data.toList).u, (rdS s.data.toList).g, (rdS s.data.toList).o, (rdS s.data.toList).us, (rdS s.data.toList).gs, (rdS s.data.toList).r, (rdS s.data.toList).m, 0⟩) ∨ (s.data.toList = [] ∧ aclO s.data.toList = illA 3) ∨ (s.data.toList ≠ [] ∧ (rdS s.data.toList).T ≠ s ∧ aclO s.data.toList = illA 3)) := (by
    rcases aclO_cases (t := s.data.toList) (by omega) with ⟨a, h1, _, _, h4, h5, h6⟩ | ⟨_, h2, h3⟩
    · left
      refine ⟨h1, ?_, by rw [h4]; exact h6⟩
      rw [h4]
      apply ByteArray.ext
      apply Array.toList_inj.1
      exact h5
    · right
      by_cases h0 : s.data.toList = []
      · exact .inl ⟨h0, h3⟩
      · exact .inr ⟨h0, fun e => h2.elim h0 (fun h => h (by rw [e])), h3⟩)
  have HRS : Hid (∀ k, k ≤ (spl 44 s.data.toList).length → k ≤ 20 → ¬ (k < (spl 44 s.data.toList).length ∧ k < 20) → foldK (spl 44 s.data.toList) k = rdS s.data.toList) := (fun k h1 h2 h3 => by
    unfold foldK rdS
    by_cases e : k = 20
    · rw [e]
    · have : k = (spl 44 s.data.toList).length := by omega
      rw [this, List.take_length, List.take_of_length_le (by omega)])
  have hpl : (spl 44 s.data.toList).length ≤ 8001 := by omega
  clear hls hlen hs h8
  generalize rdS s.data.toList = RS at hend HRS
  generalize spl 44 s.data.toList = ps at hS HPL HRS hpl
  go_enter Tryd.func23, Tryd.ntmps23
  go_wp2_with fail
  refine (hS.out _).mono ?_
  rintro e w1 ⟨v, rfl, hOt, hb1⟩
  obtain ⟨ta, tcp, rfl, htc, hcl⟩ := own_texts hOt
  rw [bts_len] at htc hcl ⊢
  have HC : Hid (∀ k (h : k < ps.length), ∃ b, ta = some ⟨b, 0, none⟩ ∧ b < w1.heap.size ∧ w1.cell? ⟨b, k, none⟩ = some (.string ⟨(ps[k]).toArray⟩)) := (fun k h => by
    obtain ⟨b, e1, e2, e3⟩ := hcl (by omega)
    have := e3 k _ (btsL_at h)
    rw [Nat.zero_add] at this
    exact ⟨b, e1, e2, this⟩)
  have hY1 : Hid (W8 w1 w.heap.size) := hY.out.below hb1
  have hW1 : Hid (Below w.heap.size w w1) := Below.on hW0.out hb1
  have hP1 : Hid (W7 (w1.alloc (.cells #[.int .i64 0, .int .i64 0, .int .i64 0, .slice none 0 0, .slice none 0 0, .bool false, .int .i64 0] 43)) w1.heap.size (.int .i64 (foldK ps 0).u) (.int .i64 (foldK ps 0).g) (.int .i64 (foldK ps 0).o) (.slice none (foldK ps 0).us.length 0) (.slice none (foldK ps 0).gs.length 0) (.bool (foldK ps 0).r) (.int .i64 (foldK ps 0).m)) := w7_new w1 _ _ _ _ _ _ _ 43
  have hR1 : Hid (R2 w1 (w1.alloc (.cells #[.int .i64 0, .int .i64 0, .int .i64 0, .slice none 0 0, .slice none 0 0, .bool false, .int .i64 0] 43)) (foldK ps 0) none 0 none 0) := (r2_start w1).below (bel_alloc _ _)
  clear hcl hOt hb1 hY hW0 hS htc
  go_wp2
  go_loopw [5] (fun i wr => ∃ (k : Nat) (aU : Option Addr) (cU : Nat) (aG : Option Addr) (cG : Nat), k ≤ ps.length ∧ k ≤ 20 ∧ i = .int .i64 k ∧ Hid (W7 wr w1.heap.size (.int .i64 (foldK ps k).u) (.int .i64 (foldK ps k).g) (.int .i64 (foldK ps k).o) (.slice aU (foldK ps k).us.length cU) (.slice aG (foldK ps k).gs.length cG) (.bool (foldK ps k).r) (.int .i64 (foldK ps k).m)) ∧ Hid (R2 w1 wr (foldK ps k) aU cU aG cG) ∧ Hid ((∀ A, aU = some A → w1.heap.size < A.block) ∧ (∀ A, aG = some A → w1.heap.size < A.block))) (fun i _ => 20 - (intOf i).toNat)
  case atStart => exact ⟨0, none, 0, none, 0, Nat.zero_le _, by omega, rfl, hP1, hR1, ⟨fun A e => (by cases e), fun A e => (by cases e)⟩⟩
  case round =>
    obtain ⟨k, aU, cU, aG, cG, hk, h20, rfl, hP, hR, hN⟩ := hrel
    obtain ⟨lu, lg⟩ := foldK_len ps k hk
    by_cases hgo : k < ps.length ∧ k < 20
    · obtain ⟨g1, g2⟩ := hgo
      have g1' : (k : Int) < (ps.length : Int) := by omega
      have g2' : (k : Int) < 20 := by omega
      obtain ⟨b, rfl, hbl, hcell⟩ := HC.out k g1
      have hcz : wr.cell? ⟨b, k, none⟩ = some (.string ⟨(ps[k]).toArray⟩) := (hR.out.bel.cell (p := ⟨b, k, none⟩) hbl).trans hcell
      have HEN : Hid (∀ w', R2 w1 w' (foldK ps k) aU cU aG cG → Calls Tryd.prog 58 #[.agg #[.int .i64 (foldK ps k).u, .int .i64 (foldK ps k).g, .int .i64 (foldK ps k).o, .slice aU (foldK ps k).us.length cU, .slice aG (foldK ps k).gs.length cG, .bool (foldK ps k).r, .int .i64 (foldK ps k).m], .string ⟨(ps[k]).toArray⟩] w' (fun e w'' => ∃ aU' cU' aG' cG', e = .returned (alV (foldK ps (k + 1)) aU' cU' aG' cG') ∧ EntW w1 w' w'' (foldK ps k) (foldK ps (k + 1)) aU cU aG cG aU' cU' aG' cG')) := (fun w' hr => by
        have := sEntry_any w1 w' (foldK ps k) aU cU aG cG hr (by omega) (by omega) ⟨(ps[k]).toArray⟩ (by have := HPL.out _ (List.getElem_mem g1); simpa [ByteArray.size] using this)
        rw [foldK_next ps g1]
        simpa using this)
      have HBB : Hid (foldK ps (k + 1) = foldK ps (k + 1)) := rfl
      generalize hbb : foldK ps (k + 1) = bb at HEN
      generalize foldK ps k = aa at hP hR HEN lu lg
      have HC0 : Hid _ := hcz
      have HBE : Hid (foldK ps (k + 1) = bb) := hbb
      clear hbb HBB
      obtain ⟨pl, p0, p1, p2, p3, p4, p5, p6, pz⟩ := hP.out
      have pz0 := pz 0
      have pz1 := pz 1
      have pz2 := pz 2
      have pz3 := pz 3
      have pz4 := pz 4
      have pz5 := pz 5
      have pz6 := pz 6
      clear pz
      go_upto_region 8 with fail
      go_region_law (go_simp; go_at_call 58; refine (HEN.out _ hR.out.drew).mono ?_; rintro e w4 ⟨aU', cU', aG', cG', rfl, hE⟩; simp only [alV]; have hP4 : W7 w4 w1.heap.size (.int .i64 aa.u) (.int .i64 aa.g) (.int .i64 aa.o) (.slice aU aa.us.length cU) (.slice aG aa.gs.length cG) (.bool aa.r) (.int .i64 aa.m) := hP.out.drew.keep hE.but.1 (hE.but.2 _ hP.out.lt (fun A e => by have := hN.out.1 A e; omega) (fun A e => by have := hN.out.2 A e; omega)); have HN4 : Hid ((∀ A, aU' = some A → w1.heap.size < A.block) ∧ (∀ A, aG' = some A → w1.heap.size < A.block)) := ⟨fun A e => by rcases hE.fu A e with ⟨A2, e2, e3⟩ | h1; (· rw [e3]; exact hN.out.1 A2 e2); (· exact Nat.lt_of_lt_of_le hP.out.lt h1), fun A e => by rcases hE.fg A e with ⟨A2, e2, e3⟩ | h1; (· rw [e3]; exact hN.out.2 A2 e2); (· exact Nat.lt_of_lt_of_le hP.out.lt h1)⟩; have HP4 : Hid (W7 (((((((w4.setCell ⟨w1.heap.size, 0, none⟩ (.int .i64 bb.u)).setCell ⟨w1.heap.size, 1, none⟩ (.int .i64 bb.g)).setCell ⟨w1.heap.size, 2, none⟩ (.int .i64 bb.o)).setCell ⟨w1.heap.size, 3, none⟩ (.slice aU' bb.us.length cU')).setCell ⟨w1.heap.size, 4, none⟩ (.slice aG' bb.gs.length cG')).setCell ⟨w1.heap.size, 5, none⟩ (.bool bb.r)).setCell ⟨w1.heap.size, 6, none⟩ (.int .i64 bb.m)) w1.heap.size (.int .i64 bb.u) (.int .i64 bb.g) (.int .i64 bb.o) (.slice aU' bb.us.length cU') (.slice aG' bb.gs.length cG') (.bool bb.r) (.int .i64 bb.m)) := hP4.all _ _ _ _ _ _ _; have HR4 : Hid (R2 w1 (((((((w4.setCell ⟨w1.heap.size, 0, none⟩ (.int .i64 bb.u)).setCell ⟨w1.heap.size, 1, none⟩ (.int .i64 bb.g)).setCell ⟨w1.heap.size, 2, none⟩ (.int .i64 bb.o)).setCell ⟨w1.heap.size, 3, none⟩ (.slice aU' bb.us.length cU')).setCell ⟨w1.heap.size, 4, none⟩ (.slice aG' bb.gs.length cG')).setCell ⟨w1.heap.size, 5, none⟩ (.bool bb.r)).setCell ⟨w1.heap.size, 6, none⟩ (.int .i64 bb.m)) bb aU' cU' aG' cG') := hE.r.all (Nat.le_refl _) (fun A e => by have := HN4.out.1 A e; omega) (fun A e => by have := HN4.out.2 A e; omega) _ _ _ _ _ _ _; obtain ⟨rl, r0, r1, r2, r3, r4, r5, r6, rz⟩ := hP4; have rz0 := rz 0; have rz1 := rz 1; have rz2 := rz 2; have rz3 := rz 3; have rz4 := rz 4; have rz5 := rz 5; have rz6 := rz 6; clear rz hE)
      all_goals
        generalize (((((((w4.setCell ⟨w1.heap.size, 0, none⟩ (.int .i64 bb.u)).setCell ⟨w1.heap.size, 1, none⟩ (.int .i64 bb.g)).setCell ⟨w1.heap.size, 2, none⟩ (.int .i64 bb.o)).setCell ⟨w1.heap.size, 3, none⟩ (.slice aU' bb.us.length cU')).setCell ⟨w1.heap.size, 4, none⟩ (.slice aG' bb.gs.length cG')).setCell ⟨w1.heap.size, 5, none⟩ (.bool bb.r)).setCell ⟨w1.heap.size, 6, none⟩ (.int .i64 bb.m)) = w5 at HP4 HR4 ⊢
        clear pl p0 p1 p2 p3 p4 p5 p6 pz0 pz1 pz2 pz3 pz4 pz5 pz6 rl r0 r1 r2 r3 r4 r5 r6 rz0 rz1 rz2 rz3 rz4 rz5 rz6 hcz HC0
        go_wp2
        go_roundw
        case rel => exact ⟨k + 1, aU', cU', aG', cG', by omega, by omega, by go_num, by rw [HBE.out]; exact HP4, by rw [HBE.out]; exact HR4, HN4⟩
        case measure => simp [intOf]; omega
    · have hE := HRS.out k hk h20 hgo
      rw [hE] at hP hR lu lg
      have hstop : Hid ((¬ (k : Int) < (ps.length : Int)) ∨ ((k : Int) < (ps.length : Int) ∧ ¬ (k : Int) < 20)) := (by
        by_cases g1 : k < ps.length
        · exact .inr ⟨by omega, fun g2 => hgo ⟨g1, by omega⟩⟩
        · exact .inl (by omega))
      have HT : Hid (∀ w', Below wr.heap.size wr w' → Calls Tryd.prog 59 #[.agg #[.int .i64 RS.u, .int .i64 RS.g, .int .i64 RS.o, .slice aU RS.us.length cU, .slice aG RS.gs.length cG, .bool RS.r, .int .i64 RS.m]] w' fun e w'' => e = .returned (.string RS.T) ∧ Below w'.heap.size w' w'') := (fun w' hb => sAclText_any RS.u RS.g RS.o aU RS.us.length cU aG RS.gs.length cG RS.r RS.m RS.us RS.gs (by omega) (by omega) w' (hR.out.prsU.below hb) (hR.out.prsG.below hb))
      have hYr : Hid (W8 wr w.heap.size) := hY1.out.below hR.out.bel
      have hWr : Hid (Below w.heap.size w wr) := Below.on hW1.out hR.out.bel
      have HNA : Hid (New w wr aU RS.us.length RS.us aG RS.gs.length RS.gs) := hR.out.new.pre hW1.out
      have HNE : Hid ((∀ A, aU = some A → w.heap.size ≠ A.block) ∧ (∀ A, aG = some A → w.heap.size ≠ A.block)) := ⟨fun A e => by have := hN.out.1 A e; have := hY1.out.lt; omega, fun A e => by have := hN.out.2 A e; have := hY1.out.lt; omega⟩
      clear hE hgo HC HPL HRS hR hN hY1 hW1 hP1 hR1 hk h20
      rcases hstop.out with q | ⟨q, q2⟩
      all_goals (
        clear hstop
        obtain ⟨pl, p0, p1, p2, p3, p4, p5, p6, pz⟩ := hP.out
        have pz0 := pz 0
        have pz1 := pz 1
        have pz2 := pz 2
        have pz3 := pz 3
        have pz4 := pz 4
        have pz5 := pz 5
        have pz6 := pz 6
        clear pz
        rcases hend.out with ⟨h0, h1, h2⟩ | ⟨h0, h2⟩ | ⟨h0, h1, h2⟩
        · have e0 := tlL_full h0
          rw [h1] at HT
          have hO2 : Hid _ := h2
          clear h0 h1 h2 hend
          go_wp2_with fail
          refine (HT.out _ (Below.refl _ _)).mono ?_
          rintro e w4 ⟨rfl, hb4⟩
          have hP4 : Hid (W7 w4 w1.heap.size (.int .i64 RS.u) (.int .i64 RS.g) (.int .i64 RS.o) (.slice aU RS.us.length cU) (.slice aG RS.gs.length cG) (.bool RS.r) (.int .i64 RS.m)) := hP.out.below hb4
          have hY4 : Hid (W8 w4 w.heap.size) := hYr.out.below hb4
          have HNZ : Hid (New w w4 aU RS.us.length RS.us aG RS.gs.length RS.gs) := HNA.out.on hb4
          clear pl p0 p1 p2 p3 p4 p5 p6 pz0 pz1 pz2 pz3 pz4 pz5 pz6 hb4 HT
          obtain ⟨pl, p0, p1, p2, p3, p4, p5, p6, pz⟩ := hP4.out
          have pz0 := pz 0
          have pz1 := pz 1
          have pz2 := pz 2
          have pz3 := pz 3
          have pz4 := pz 4
          have pz5 := pz 5
          have pz6 := pz 6
          clear pz
          obtain ⟨yl, y0, y1, y2, y3, y4, y5, y6, y7, yz⟩ := hY4.out
          have yz0 := yz 0
          have yz1 := yz 1
          have yz2 := yz 2
          have yz3 := yz 3
          have yz4 := yz 4
          have yz5 := yz 5
          have yz6 := yz 6
          have yz7 := yz 7
          clear yz
          go_wp2
          refine bodyPost_ret (v := .agg #[.int .i64 RS.u, .int .i64 RS.g, .int .i64 RS.o, .slice aU RS.us.length cU, .slice aG RS.gs.length cG, .bool RS.r, .int .i64 RS.m, .int .i64 0]) (by simp [results, Tryd.results23, go_sem, y0, y1, y2, y3, y4, y5, y6, y7]) rfl (answers_of hO2.out rfl rfl ?_)
          repeat (refine New.set ?_ (Nat.le_refl _) HNE.out.1 HNE.out.2)
          exact HNZ.out
        · have e0 := tlL_empty h0
          have hO2 : Hid (aclO s.data.toList = illA 3) := h2
          clear h0 h2 hend HT
          obtain ⟨yl, y0, y1, y2, y3, y4, y5, y6, y7, yz⟩ := hYr.out
          have yz0 := yz 0
          have yz1 := yz 1
          have yz2 := yz 2
          have yz3 := yz 3
          have yz4 := yz 4
          have yz5 := yz 5
          have yz6 := yz 6
          have yz7 := yz 7
          clear yz
          go_wp2
          refine bodyPost_ret (v := .agg #[.int .i64 0, .int .i64 0, .int .i64 0, .slice none 0 0, .slice none 0 0, .bool false, .int .i64 0, .int .i64 3]) (by simp [results, Tryd.results23, go_sem, y0, y1, y2, y3, y4, y5, y6, y7]) rfl (answers_ill hO2.out ?_)
          repeat (refine bl_setL ?_ (Nat.le_refl _))
          exact hWr.out
        · have e0 := tlL_full h0
          have e1 : (RS.T.toList == s.toList) = false := by
            rw [ByteArray.toList_eq, ByteArray.toList_eq]
            exact beq_eq_false_iff_ne.2 (fun e => h1 (by apply ByteArray.ext; apply Array.toList_inj.1; exact e))
          have hO2 : Hid (aclO s.data.toList = illA 3) := h2
          clear h0 h1 h2 hend
          generalize RS.T = TX at HT e1
          go_wp2_with fail
          refine (HT.out _ (Below.refl _ _)).mono ?_
          rintro e w4 ⟨rfl, hb4⟩
          have hY4 : Hid (W8 w4 w.heap.size) := hYr.out.below hb4
          have hW4 : Hid (Below w.heap.size w w4) := Below.on hWr.out hb4
          clear pl p0 p1 p2 p3 p4 p5 p6 pz0 pz1 pz2 pz3 pz4 pz5 pz6 hb4 HT
          obtain ⟨yl, y0, y1, y2, y3, y4, y5, y6, y7, yz⟩ := hY4.out
          have yz0 := yz 0
          have yz1 := yz 1
          have yz2 := yz 2
          have yz3 := yz 3
          have yz4 := yz 4
          have yz5 := yz 5
          have yz6 := yz 6
          have yz7 := yz 7
          clear yz
          go_wp2
          refine bodyPost_ret (v := .agg #[.int .i64 0, .int .i64 0, .int .i64 0, .slice none 0 0, .slice none 0 0, .bool false, .int .i64 0, .int .i64 3]) (by simp [results, Tryd.results23, go_sem, y0, y1, y2, y3, y4, y5, y6, y7]) rfl (answers_ill hO2.out ?_)
          repeat (refine bl_setL ?_ (Nat.le_refl _))
          exact hW4.out)
end Go.Proofs.YtgooanaacebncaaDoor
