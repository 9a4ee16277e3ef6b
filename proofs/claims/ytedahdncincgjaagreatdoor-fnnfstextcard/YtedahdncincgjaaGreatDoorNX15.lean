/- Laid together: PutMath, PutRight, PutI, PutS. -/
import Derived.Test.YtedahdncincgjaaGreatDoorNX14
/- impl.withNamed, spec.l03Put: an entry put in its place. -/
namespace Go.Proofs.YtedahdncincgjaaGreatDoor
open Go.RowKit Go.PlainAid Go.Deep
set_option linter.unusedVariables false
/-- The list with an entry in its place. -/
def putL (l : List (Int × Int)) (id bt : Int) : List (Int × Int) := l.take (plc l id) ++ [(id, bt)] ++ l.drop (plc l id + (if fnd l id then 1 else 0))
def putN (l : List (Int × Int)) (id : Int) : Nat := l.length + 1 - (if fnd l id then 1 else 0)
theorem putL_len (l : List (Int × Int)) (id bt : Int) : (putL l id bt).length = putN l id := by
  have h := plc_le l id
  unfold putL putN
  cases hf : fnd l id
  · simp; omega
  · have := fnd_lt hf
    simp; omega
/-- Ids that rise, and limits that are kept. -/
def nmP (l : List (Int × Int)) : Prop := l.Pairwise (fun a b => a.1 < b.1) ∧ ∀ x ∈ l, (0 ≤ x.1 ∧ x.1 ≤ 9999) ∧ (0 ≤ x.2 ∧ x.2 ≤ 7)
theorem bt_get {l : List (Int × Int)} {k : Nat} (h : k < l.length) : btAt l k = (l[k]).2 := by simp [btAt, List.getD, h]
theorem nmP_of {l : List (Int × Int)} (h : nmB l = true) : nmP l := by
  refine ⟨List.pairwise_iff_getElem.2 (fun i j hi hj hij => ?_), fun x hx => ?_⟩
  · rw [← idAt_get hi, ← idAt_get hj]
    exact nm_up h j hj i hij
  · obtain ⟨k, hk, rfl⟩ := List.getElem_of_mem hx
    rw [← idAt_get hk, ← bt_get hk]
    exact ⟨nm_id h k hk, nm_bt h k hk⟩
theorem of_nmP {l : List (Int × Int)} (hl : l.length ≤ 6) (h : nmP l) : nmB l = true := by
  refine nm_yes hl ?_
  have key : ∀ n, n ≤ l.length → nmRises l n = true := by
    intro n
    induction n with
    | zero => exact fun _ => rfl
    | succ n ih =>
      intro hn
      have hk : n < l.length := by omega
      obtain ⟨⟨a0, a1⟩, b0, b1⟩ := h.2 _ (List.getElem_mem hk)
      simp only [nmRises, ih (by omega), Bool.true_and, okN, idAt_get hk, bt_get hk, Bool.and_eq_true]
      refine ⟨inR_yes a0 a1, inR_yes b0 b1, ?_⟩
      by_cases h0 : n = 0
      · simp [h0]
      · have := List.pairwise_iff_getElem.1 h.1 (n - 1) n (by omega) hk (by omega)
        rw [idAt_get (show n - 1 < l.length by omega)]
        simp [this]
  exact key _ (Nat.le_refl _)
theorem plc_lo {l : List (Int × Int)} {id : Int} {x : Int × Int} (hx : x ∈ l.take (plc l id)) : x.1 < id := by
  obtain ⟨k, hk, rfl⟩ := List.getElem_of_mem hx
  simp only [List.length_take] at hk
  rw [List.getElem_take]
  have := List.not_of_lt_findIdx (show k < l.findIdx (fun p => decide (id ≤ p.1)) from (by show k < plc l id; omega))
  simp at this
  exact this
theorem plc_hi {l : List (Int × Int)} {id : Int} (hs : l.Pairwise (fun a b => a.1 < b.1)) {x : Int × Int} (hx : x ∈ l.drop (plc l id + (if fnd l id then 1 else 0))) : id < x.1 := by
  obtain ⟨k, hk, rfl⟩ := List.getElem_of_mem hx
  simp only [List.length_drop] at hk
  rw [List.getElem_drop, ← idAt_get (by omega)]
  have hp : plc l id < l.length := by omega
  have hge : id ≤ idAt l (plc l id) := by
    rw [idAt_get hp]
    have : (fun p : Int × Int => decide (id ≤ p.1)) l[plc l id] = true := List.findIdx_getElem (xs := l) (p := fun p : Int × Int => decide (id ≤ p.1)) (w := hp)
    simpa using this
  have up : ∀ i j, i < j → j < l.length → idAt l i < idAt l j := fun i j hij hj => by
    rw [idAt_get (show i < l.length by omega), idAt_get hj]
    exact List.pairwise_iff_getElem.1 hs i j (by omega) hj hij
  by_cases hf : fnd l id = true
  · rw [if_pos hf] at hk ⊢
    have := up (plc l id) (plc l id + 1 + k) (by omega) (by omega)
    omega
  · rw [if_neg hf] at hk ⊢
    have hne : idAt l (plc l id) ≠ id := by
      intro e
      exact hf (by simp [fnd, hp, e])
    by_cases h0 : k = 0
    · subst h0
      simp only [Nat.add_zero]
      omega
    · have := up (plc l id) (plc l id + 0 + k) (by omega) (by omega)
      omega
/-- Right again. -/
theorem put_right {l : List (Int × Int)} (h : nmB l = true) {id bt : Int} (h1 : 0 ≤ id ∧ id ≤ 9999) (h2 : 0 ≤ bt ∧ bt ≤ 7) (h6 : putN l id ≤ 6) : nmB (putL l id bt) = true := by
  have hP := nmP_of h
  refine of_nmP (by rw [putL_len]; exact h6) ⟨?_, fun x hx => ?_⟩
  · unfold putL
    rw [List.pairwise_append, List.pairwise_append]
    refine ⟨⟨hP.1.sublist (List.take_sublist _ _), List.pairwise_singleton _ _, fun a ha b hb => ?_⟩, hP.1.sublist (List.drop_sublist _ _), fun a ha b hb => ?_⟩
    · simp only [List.mem_singleton] at hb
      rw [hb]
      exact plc_lo ha
    · have q := plc_hi hP.1 hb
      rcases List.mem_append.1 ha with ha | ha
      · exact Int.lt_trans (plc_lo ha) q
      · simp only [List.mem_singleton] at ha
        rw [ha]
        exact q
  · unfold putL at hx
    rcases List.mem_append.1 hx with hx | hx
    · rcases List.mem_append.1 hx with hx | hx
      · exact hP.2 x (List.mem_of_mem_take hx)
      · simp only [List.mem_singleton] at hx
        rw [hx]
        exact ⟨h1, h2⟩
    · exact hP.2 x (List.mem_of_mem_drop hx)
/-- An id above all others: it comes last. -/
theorem put_last {l : List (Int × Int)} {id bt : Int} (h : ∀ k, k < l.length → idAt l k < id) : putL l id bt = l ++ [(id, bt)] ∧ putN l id = l.length + 1 := by
  have e := plc_none h
  have f := fnd_none e
  constructor
  · unfold putL; rw [e, f]; simp
  · unfold putN; rw [f]; simp
/-- Ids stay below a bound. -/
theorem put_below {l : List (Int × Int)} {id bt B : Int} (h : ∀ x ∈ l, x.1 < B) (hi : id < B) : ∀ x ∈ putL l id bt, x.1 < B := by
  intro x hx
  unfold putL at hx
  rcases List.mem_append.1 hx with hx | hx
  · rcases List.mem_append.1 hx with hx | hx
    · exact h x (List.mem_of_mem_take hx)
    · simp only [List.mem_singleton] at hx
      rw [hx]
      exact hi
  · exact h x (List.mem_of_mem_drop hx)
theorem prs_one2 (w : World) (x y : Int) (t : TypeId) : Prs (some ⟨w.heap.size, 0, none⟩) 1 [(x, y)] (w.alloc (.cells #[.int .i64 x, .int .i64 y] t)) := by
  obtain ⟨h0, h1⟩ := pair_new w (.int .i64 x) (.int .i64 y) t
  refine ⟨rfl, fun _ => ⟨w.heap.size, 0, rfl, by simp, fun i hi => ?_⟩⟩
  have : i = 0 := by omega
  subst this
  exact ⟨h0, h1⟩
/-- The first two appends. -/
theorem put_two (W : World) (X : Nat) (hX : X = W.heap.size) (a : Option Addr) (k cap : Nat) (lk : List (Int × Int)) (hp : Prs a k lk W) (hk : k ≤ 1000) (id bt : Int) :
    ∃ a1 c1 w1, (Builtin.append_ #[81, 81] 81 #[.slice (some ⟨X, 0, none⟩) 0 0, .slice a k cap]).run Tryz.prog (W.alloc (.cells #[] 116)) = .ok (.slice a1 k c1) w1 ∧ Below W.heap.size W w1 ∧
      ∃ a2 c2 w2, (Builtin.append_ #[81, 81] 81 #[.slice a1 k c1, .slice (some ⟨w1.heap.size, 0, none⟩) 1 1]).run Tryz.prog (w1.alloc (.cells #[.int .i64 id, .int .i64 bt] 116)) = .ok (.slice a2 (k + 1) c2) w2 ∧ w2.ownsRow W.heap.size 116 2 (.slice a2 (k + 1) c2) (lk ++ [(id, bt)]).length (pc (lk ++ [(id, bt)])) ∧ Below W.heap.size W w2 := by
  subst hX
  have ho := own_start2 W W.heap.size rfl 116
  have hb0 := bel_alloc W (.cells #[] 116)
  obtain ⟨a1, c1, w1, hr1, hO1, hb1⟩ := append_own W (W.alloc (.cells #[] 116)) _ 0 [] 0 ho a k cap lk (hp.below hb0) (by simp; omega) hb0
  rw [List.nil_append] at hr1 hO1
  rw [hp.1] at hr1
  have hO1k := hO1
  rw [hp.1] at hO1k
  have hba := bel_alloc w1 (.cells #[.int .i64 id, .int .i64 bt] 116)
  have hO1a := hO1.alloc (.cells #[.int .i64 id, .int .i64 bt] 116)
  rw [hp.1] at hO1a
  have hO1b : (w1.alloc (.cells #[.int .i64 id, .int .i64 bt] 116)).ownsRow W.heap.size 116 2 (.slice a1 k c1) lk.length (pc lk) := by rw [hp.1]; exact hO1a
  obtain ⟨a2, c2, w2, hr2, hO2, hb2⟩ := append_own W (w1.alloc (.cells #[.int .i64 id, .int .i64 bt] 116)) a1 c1 lk k hO1b (some ⟨w1.heap.size, 0, none⟩) 1 1 [(id, bt)] (prs_one2 w1 id bt _) (by rw [hp.1]; omega) (Below.on hb1 hba)
  have el : (lk ++ [(id, bt)]).length = k + 1 := by simp [hp.1]
  rw [el] at hr2
  have hO2' := hO2
  rw [el] at hO2'
  refine ⟨a1, c1, w1, hr1, hb1, a2, c2, w2, hr2, ?_, hb2⟩
  rw [el]
  exact hO2'
theorem owns_drewN {w : World} {B : Nat} {t : TypeId} {v : Value} {n : Nat} {xs : List Value} (h : w.ownsRow B t 2 v n xs) (nq : Nat) : (w.drewN nq).ownsRow B t 2 v n xs := by
  have e : (w.drewN nq).heap = w.heap := by simp
  unfold World.ownsRow at h ⊢
  rw [e]
  exact h
end Go.Proofs.YtedahdncincgjaaGreatDoor
