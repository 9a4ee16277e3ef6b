/- What marks write into a row of nodes. Nothing here names a program but by marks of texts. -/
import Derived.Test.YtgodbelcddgdmaaMkE
namespace Go.Proofs.Ytgodbelcddgdmaa
open Go.RowKit Go.PlainAid Go.Deep
set_option linter.unusedVariables false
/-- How many numbers a node takes. -/
def cntMk (x : Nd) : Nat := 19 + 2 * x.A.us.length + 2 * x.A.gs.length + 2 * x.D.us.length + 2 * x.D.gs.length + 2 * x.ns.length
/-- The first number of each node. -/
def kAt (k : Nat) (F : Nat → Nd) : Nat → Nat | 0 => k | i + 1 => kAt k F i + cntMk (F i)
theorem kAt_pos {k : Nat} {F : Nat → Nd} (h : 0 < k) : ∀ i, 0 < kAt k F i | 0 => h | i + 1 => by rw [kAt]; have := kAt_pos h (F := F) i; omega
theorem kAt_mono (k : Nat) (F : Nat → Nd) (i : Nat) : ∀ n, i ≤ n → kAt k F i ≤ kAt k F n
  | 0, h => by rw [Nat.le_zero.1 h]; exact Nat.le_refl _
  | n + 1, h => by
    by_cases e : i = n + 1
    · rw [e]; exact Nat.le_refl _
    · have := kAt_mono k F i n (by omega)
      rw [kAt]; omega
theorem kAt_le {k : Nat} {F : Nat → Nd} {M n i : Nat} (h : kAt k F n ≤ M) (hi : i < n) : kAt k F i + cntMk (F i) ≤ M := by
  have := kAt_mono k F (i + 1) n (by omega)
  rw [kAt] at this; omega
theorem kAt_congr {k : Nat} {F G : Nat → Nd} : ∀ n, (∀ i, i < n → cntMk (F i) = cntMk (G i)) → kAt k F n = kAt k G n
  | 0, _ => rfl
  | n + 1, h => by rw [kAt, kAt, kAt_congr n (fun i hi => h i (by omega)), h n (by omega)]
def mk1 (x : Nd) (K : Nat) : Nat := K + 7 + 2 * x.A.us.length
def mk2 (x : Nd) (K : Nat) : Nat := mk1 x K + 2 * x.A.gs.length
def mk3 (x : Nd) (K : Nat) : Nat := mk2 x K + 6 + 2 * x.D.us.length
def mk4 (x : Nd) (K : Nat) : Nat := mk3 x K + 2 * x.D.gs.length
def mk5 (x : Nd) (K : Nat) : Nat := mk4 x K + 5 + 2 * x.ns.length
theorem mk5_cnt (x : Nd) (K : Nat) : mk5 x K + 1 = K + cntMk x := by unfold mk5 mk4 mk3 mk2 mk1 cntMk; omega
/-- A node that is written over. -/
def mkNd (x : Nd) (K : Nat) : Nd :=
  ⟨K, (K : Int) + 1, (K : Int) + 2, (K : Int) + 3, ⟨(K : Int) + 4, (K : Int) + 5, (K : Int) + 6, marks ((K : Int) + 7) x.A.us.length, marks (mk1 x K : Nat) x.A.gs.length, (mk2 x K % 3 == 0), (mk2 x K : Int) + 1⟩, ((mk2 x K + 2) % 3 == 0),
   ⟨(mk2 x K : Int) + 3, (mk2 x K : Int) + 4, (mk2 x K : Int) + 5, marks ((mk2 x K : Int) + 6) x.D.us.length, marks (mk3 x K : Nat) x.D.gs.length, (mk4 x K % 3 == 0), (mk4 x K : Int) + 1⟩, (mk4 x K : Int) + 2, (mk4 x K : Int) + 3, mkT (mk4 x K + 4), marksE (mk4 x K + 5) x.ns.length, (mk5 x K : Nat)⟩
def mkRow (k : Nat) (F : Nat → Nd) : Nat → Nd := fun i => mkNd (F i) (kAt k F i)
theorem mkNd_ln (x : Nd) (K : Nat) (j : Nat) : lnAt (mkNd x K) j = lnAt x j := by
  match j with
  | 0 => exact marks_len _ _
  | 1 => exact marks_len _ _
  | 2 => exact marks_len _ _
  | 3 => exact marks_len _ _
  | _ + 4 => exact marksE_len _ _
theorem mkNd_cnt (x : Nd) (K : Nat) : cntMk (mkNd x K) = cntMk x := by
  have h0 := mkNd_ln x K 0
  have h1 := mkNd_ln x K 1
  have h2 := mkNd_ln x K 2
  have h3 := mkNd_ln x K 3
  have h4 := mkNd_ln x K 4
  simp only [lnAt] at h0 h1 h2 h3 h4
  unfold cntMk
  rw [h0, h1, h2, h3, h4]
/-- A row of nodes, one of which is another one. -/
structure OwnU (w : World) (lo hi B : Nat) (F : Nat → Nd) (Y : Nat → Na) (n j : Nat) (x : Nd) : Prop where
  own : OwnT w lo hi B (updN F j x) Y n
theorem updN_self (F : Nat → Nd) (j : Nat) : updN F j (F j) = F := by
  funext k
  by_cases h : k = j
  · subst h; rw [updN_at]
  · rw [updN_ne _ h]
theorem OwnT.ownU {w : World} {lo hi B n : Nat} {F : Nat → Nd} {Y : Nat → Na} (h : OwnT w lo hi B F Y n) (j : Nat) : OwnU w lo hi B F Y n j (F j) := ⟨by rw [updN_self]; exact h⟩
section
variable {w w' : World} {lo hi B n j : Nat} {F : Nat → Nd} {Y : Nat → Na} {x : Nd}
theorem OwnU.below (h : OwnU w lo hi B F Y n j x) (hb : Below w.heap.size w w') : OwnU w' lo hi B F Y n j x := ⟨h.own.below hb⟩
theorem OwnU.row (h : OwnU w lo hi B F Y n j x) (hj : j < n) : N24 w B (j * 24) x (Y j) := by
  have := h.own.row.at' j hj
  rwa [updN_at] at this
theorem OwnU.nd (h : OwnU w lo hi B F Y n j x) (hj : j < n) : NdOwn w x (Y j) := by
  have := h.own.own j hj
  rwa [updN_at] at this
theorem OwnU.frz (h : OwnU w lo hi B F Y n j x) : ∀ o, w.frozen? ⟨B, o, none⟩ = false := h.own.row.frz
theorem OwnU.cell (h : OwnU w lo hi B F Y n j x) (hj : j < n) (c : Nat) (hc : c < 24) (v : Value) (x' : Nd) (hV : ndV x' (Y j) = (ndV x (Y j)).set c v) (h1 : x'.A.us = x.A.us) (h2 : x'.A.gs = x.A.gs) (h3 : x'.D.us = x.D.us) (h4 : x'.D.gs = x.D.gs) (h5 : x'.ns = x.ns) :
    OwnU (w.setCell ⟨B, j * 24 + c, none⟩ v) lo hi B F Y n j x' := by
  have := h.own.cell j hj c hc v x' (by rw [updN_at]; exact hV) (by rw [updN_at]; exact h1) (by rw [updN_at]; exact h2) (by rw [updN_at]; exact h3) (by rw [updN_at]; exact h4) (by rw [updN_at]; exact h5)
  rw [updN_upd] at this
  exact ⟨this⟩
theorem OwnU.list (h : OwnU w lo hi B F Y n j x) (hj : j < n) (j0 : Nat) (hj0 : j0 < 5) (x' : Nd) (hb : ButS (if 0 < lnAt x j0 then laAt (Y j) j0 else none) w w') (hV : ndV x' (Y j) = ndV x (Y j)) (hln : ∀ t, lnAt x' t = lnAt x t) (ho : NdOwn w' x' (Y j)) :
    OwnU w' lo hi B F Y n j x' := by
  have := h.own.list j hj j0 hj0 x' (by rw [updN_at]; exact hb) (by rw [updN_at]; exact hV) (fun t => by rw [updN_at]; exact hln t) ho
  rw [updN_upd] at this
  exact ⟨this⟩
theorem OwnU.others (h : OwnU w lo hi B F Y n j x) (hj : j < n) (j0 : Nat) (hj0 : j0 < 5) (hb : ButS (if 0 < lnAt x j0 then laAt (Y j) j0 else none) w w') :
    (j0 ≠ 0 → Own (Y j).aU x.A.us.length x.A.us w') ∧ (j0 ≠ 1 → Own (Y j).aG x.A.gs.length x.A.gs w') ∧ (j0 ≠ 2 → Own (Y j).dU x.D.us.length x.D.us w') ∧ (j0 ≠ 3 → Own (Y j).dG x.D.gs.length x.D.gs w') ∧ (j0 ≠ 4 → OwnE (Y j).nA x.ns.length x.ns w') := by
  have := h.own.others j hj j0 hj0 (by rw [updN_at]; exact hb)
  rwa [updN_at] at this
theorem OwnU.rngIf (h : OwnU w lo hi B F Y n j x) (hj : j < n) (j0 : Nat) (hj0 : j0 < 5) : ∀ A, (if 0 < lnAt x j0 then laAt (Y j) j0 else none) = some A → lo ≤ A.block ∧ A.block < hi := by
  have := h.own.rngIf j hj j0 hj0
  rwa [updN_at] at this
theorem OwnU.inB (h : OwnU w lo hi B F Y n j x) : lo ≤ B ∧ B < hi := h.own.inB
/-- The first list is written over. -/
theorem OwnU.us (h : OwnU w lo hi B F Y n j x) (hj : j < n) (l : List (Int × Int)) (hl : l.length = x.A.us.length) (hb : ButS (if 0 < x.A.us.length then (Y j).aU else none) w w') (ho : Own (Y j).aU x.A.us.length l w') :
    OwnU w' lo hi B F Y n j { x with A := { x.A with us := l } } := by
  obtain ⟨q0, q1, q2, q3, q4⟩ := h.others hj 0 (by omega) hb
  refine h.list hj 0 (by omega) _ hb (by simp only [ndV, hl]) (fun t => by match t with | 0 => exact hl | 1 => rfl | 2 => rfl | 3 => rfl | _ + 4 => rfl) ⟨?_, q1 (by omega), q2 (by omega), q3 (by omega), q4 (by omega)⟩
  simp only [hl]; exact ho
theorem OwnU.gs (h : OwnU w lo hi B F Y n j x) (hj : j < n) (l : List (Int × Int)) (hl : l.length = x.A.gs.length) (hb : ButS (if 0 < x.A.gs.length then (Y j).aG else none) w w') (ho : Own (Y j).aG x.A.gs.length l w') :
    OwnU w' lo hi B F Y n j { x with A := { x.A with gs := l } } := by
  obtain ⟨q0, q1, q2, q3, q4⟩ := h.others hj 1 (by omega) hb
  refine h.list hj 1 (by omega) _ hb (by simp only [ndV, hl]) (fun t => by match t with | 0 => rfl | 1 => exact hl | 2 => rfl | 3 => rfl | _ + 4 => rfl) ⟨q0 (by omega), ?_, q2 (by omega), q3 (by omega), q4 (by omega)⟩
  simp only [hl]; exact ho
theorem OwnU.dus (h : OwnU w lo hi B F Y n j x) (hj : j < n) (l : List (Int × Int)) (hl : l.length = x.D.us.length) (hb : ButS (if 0 < x.D.us.length then (Y j).dU else none) w w') (ho : Own (Y j).dU x.D.us.length l w') :
    OwnU w' lo hi B F Y n j { x with D := { x.D with us := l } } := by
  obtain ⟨q0, q1, q2, q3, q4⟩ := h.others hj 2 (by omega) hb
  refine h.list hj 2 (by omega) _ hb (by simp only [ndV, hl]) (fun t => by match t with | 0 => rfl | 1 => rfl | 2 => exact hl | 3 => rfl | _ + 4 => rfl) ⟨q0 (by omega), q1 (by omega), ?_, q3 (by omega), q4 (by omega)⟩
  simp only [hl]; exact ho
theorem OwnU.dgs (h : OwnU w lo hi B F Y n j x) (hj : j < n) (l : List (Int × Int)) (hl : l.length = x.D.gs.length) (hb : ButS (if 0 < x.D.gs.length then (Y j).dG else none) w w') (ho : Own (Y j).dG x.D.gs.length l w') :
    OwnU w' lo hi B F Y n j { x with D := { x.D with gs := l } } := by
  obtain ⟨q0, q1, q2, q3, q4⟩ := h.others hj 3 (by omega) hb
  refine h.list hj 3 (by omega) _ hb (by simp only [ndV, hl]) (fun t => by match t with | 0 => rfl | 1 => rfl | 2 => rfl | 3 => exact hl | _ + 4 => rfl) ⟨q0 (by omega), q1 (by omega), q2 (by omega), ?_, q4 (by omega)⟩
  simp only [hl]; exact ho
theorem OwnU.names (h : OwnU w lo hi B F Y n j x) (hj : j < n) (l : List (ByteArray × Int)) (hl : l.length = x.ns.length) (hb : ButS (if 0 < x.ns.length then (Y j).nA else none) w w') (ho : OwnE (Y j).nA x.ns.length l w') :
    OwnU w' lo hi B F Y n j { x with ns := l } := by
  obtain ⟨q0, q1, q2, q3, q4⟩ := h.others hj 4 (by omega) hb
  refine h.list hj 4 (by omega) _ hb (by simp only [ndV, hl]) (fun t => by match t with | 0 => rfl | 1 => rfl | 2 => rfl | 3 => rfl | _ + 4 => exact hl) ⟨q0 (by omega), q1 (by omega), q2 (by omega), q3 (by omega), ?_⟩
  simp only [hl]; exact ho
end
end Go.Proofs.Ytgodbelcddgdmaa
