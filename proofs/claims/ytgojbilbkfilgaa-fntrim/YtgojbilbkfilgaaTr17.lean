/- Laid together: SDrop, PutMath, PutRight. -/
import Derived.Test.YtgojbilbkfilgaaTr16
/- spec.l03Drop: a list without one entry. -/
namespace Go.Proofs.Ytgojbilbkfilgaa
open Go.RowKit Go.PlainAid Go.Deep
set_option linter.unusedVariables false
/-- append onto a list that the call owns, said by where the lists lie. -/
theorem append_own (w w1 : World) (a1 : Option Addr) (c1 : Nat) (acc : List (Int × Int)) (n : Nat) (hO : w1.ownsRow w.heap.size 69 2 (.slice a1 n c1) acc.length (pc acc)) (a : Option Addr) (len cap : Nat) (l : List (Int × Int)) (hp : Prs a len l w1) (hsm : acc.length + len ≤ 1000000) (hb1 : Below w.heap.size w w1) :
    ∃ a' c' w', (Builtin.append_ #[23, 23] 23 #[.slice a1 n c1, .slice a len cap]).run Try.prog w1 = .ok (.slice a' (acc ++ l).length c') w' ∧ w'.ownsRow w.heap.size 69 2 (.slice a' (acc ++ l).length c') (acc ++ l).length (pc (acc ++ l)) ∧ Below w.heap.size w w' := by
  obtain ⟨v2, w2, hr2, hO2, hg2⟩ := run_append_prs (P := Try.prog) w1 w.heap.size 23 23 69 Try.underlying23 infoNamedC _ acc hO a len cap l hp (by omega) hb1.size
  have h2 := hO2
  obtain ⟨a', c', rfl, _, _⟩ := own_of_row hO2
  exact ⟨a', c', w2, hr2, h2, hb1.grown hg2 hb1.size (own_blockN hO)⟩
set_option maxRecDepth 100000 in
set_option maxHeartbeats 4000000 in
/-- spec.l03Drop. -/
theorem sDrop_any (a : Option Addr) (len cap : Nat) (l : List (Int × Int)) (k : Nat) (hk : k < len) (hcap : len ≤ cap) (hm : len ≤ 1000) (w : World) (hp : Prs a len l w) :
    Calls Try.prog 80 #[.slice a len cap, .int .i64 k] w fun e w' => ∃ a' c', e = .returned (.slice a' (len - 1) c') ∧ Own a' (len - 1) (cutL l k) w' ∧ (∀ Ad, a' = some Ad → w.heap.size ≤ Ad.block ∧ Ad.block < w'.heap.size) ∧ Below w.heap.size w w' := by
  obtain ⟨hln, hp⟩ := hp
  obtain ⟨b, off, rfl, hlt, hc⟩ := hp (by omega)
  rw [← hln] at hc
  have hh := prs_take (n := k) (by omega) hlt hc
  have ht := prs_drop (n := k + 1) (by omega) hlt hc
  rw [hln] at ht
  have hb0 := bel_alloc w (.cells #[] 69)
  have ho := own_start2 w w.heap.size rfl 69
  obtain ⟨v1, w1, hr1, hO1, hg1⟩ := run_append_prs (P := Try.prog) (w.alloc (.cells #[] 69)) w.heap.size 23 23 69 Try.underlying23 infoNamedC _ [] ho (some ⟨b, off, none⟩) k cap (l.take k) (hh.below hb0) (by simp; omega) (by simp)
  have hb1 : Below w.heap.size w w1 := hb0.grown hg1 (by simp) (own_blockN ho)
  rw [List.nil_append] at hO1
  have htk : (l.take k).length = k := by simp; omega
  have hO1' := hO1
  obtain ⟨a1, c1, rfl, _, _⟩ := own_of_row hO1
  have hcut : (cutL l k) = l.take k ++ l.drop (k + 1) := by simp [cutL]
  have hcl : (cutL l k).length = len - 1 := by rw [cutL_len (by omega), hln]
  have k1 : (k : Int) ≤ (cap : Int) := by omega
  have k2 : (k : Int) + 1 ≤ (len : Int) := by omega
  have k3 : (len : Int) ≤ (cap : Int) := by omega
  have fin : ∀ (a' : Option Addr) (c' : Nat) (w' : World), w'.ownsRow w.heap.size 69 2 (.slice a' (l.take k ++ l.drop (k + 1)).length c') (l.take k ++ l.drop (k + 1)).length (pc (l.take k ++ l.drop (k + 1))) → Below w.heap.size w w' → (l.take k ++ l.drop (k + 1)).length = len - 1 ∧ Own a' (len - 1) (cutL l k) w' ∧ (∀ Ad, a' = some Ad → w.heap.size ≤ Ad.block ∧ Ad.block < w'.heap.size) ∧ Below w.heap.size w w' := by
    intro a' c' w' h hb
    rw [← hcut] at h ⊢
    obtain ⟨x, y, e, h1, h2⟩ := own_of_row h
    cases e
    rw [hcl] at h1 ⊢
    exact ⟨rfl, h1, h2, hb⟩
  by_cases hq : cap = k + 1
  · have hlk : len = k + 1 := by omega
    subst hq
    obtain ⟨a2, c2, w2, hr2, hO2, hb2⟩ := append_own w w1 a1 c1 (l.take k) (l.take k).length hO1' (some ⟨b, off, none⟩) (len - (k + 1)) 0 (l.drop (k + 1)) ⟨ht.1, fun h => absurd h (by omega)⟩ (by omega) hb1
    obtain ⟨fe, R⟩ := fin a2 c2 w2 hO2 hb2
    rw [fe] at hr2
    have HR : Hid (Own a2 (len - 1) (cutL l k) w2 ∧ (∀ Ad, a2 = some Ad → w.heap.size ≤ Ad.block ∧ Ad.block < w2.heap.size) ∧ Below w.heap.size w w2) := R
    rw [htk] at hr1 hr2
    clear hh ht hb0 ho hO1 hO1' hg1 hb1 hO2 hb2 htk hcut hcl hc hp hlt hln fin fe R
    subst hlk
    simp only [Nat.sub_self] at hr2
    go_enter Try.func80, Try.ntmps80
    go_wp2_with (at_builtin; first | refine wpList_append_run _ rfl (.tmp 6) (.tmp 9) 23 23 rfl _ _ _ _ rfl rfl hr1 ?_ | refine wpList_append_run _ rfl (.tmp 11) (.tmp 15) 23 23 rfl _ _ _ _ rfl rfl hr2 ?_)
    go_ret
    exact ⟨a2, c2, rfl, HR.out⟩
  · have k4 : (k : Int) + 1 < (cap : Int) := by omega
    obtain ⟨a2, c2, w2, hr2, hO2, hb2⟩ := append_own w w1 a1 c1 (l.take k) (l.take k).length hO1' (some ⟨b, off + (k + 1) * 2, none⟩) (len - (k + 1)) (cap - (k + 1)) (l.drop (k + 1)) (ht.below hb1) (by omega) hb1
    obtain ⟨fe, R⟩ := fin a2 c2 w2 hO2 hb2
    rw [fe] at hr2
    have HR : Hid (Own a2 (len - 1) (cutL l k) w2 ∧ (∀ Ad, a2 = some Ad → w.heap.size ≤ Ad.block ∧ Ad.block < w2.heap.size) ∧ Below w.heap.size w w2) := R
    rw [htk] at hr1 hr2
    clear hh ht hb0 ho hO1 hO1' hg1 hb1 hO2 hb2 htk hcut hcl hc hp hlt hln fin fe R hq
    go_enter Try.func80, Try.ntmps80
    go_wp2_with (at_builtin; first | refine wpList_append_run _ rfl (.tmp 6) (.tmp 9) 23 23 rfl _ _ _ _ rfl rfl hr1 ?_ | refine wpList_append_run _ rfl (.tmp 11) (.tmp 15) 23 23 rfl _ _ _ _ rfl rfl hr2 ?_)
    all_goals (
      go_ret
      exact ⟨a2, c2, rfl, HR.out⟩)
end Go.Proofs.Ytgojbilbkfilgaa
/- impl.withNamed, spec.l03Put: an entry put in its place. -/
namespace Go.Proofs.Ytgojbilbkfilgaa
open Go.RowKit Go.PlainAid Go.Deep
set_option linter.unusedVariables false
/-- The list with an entry in its place. -/
def putL (l : List (Int × Int)) (id bt : Int) : List (Int × Int) := l.take (plc l id) ++ [(id, bt)] ++ l.drop (plc l id + (if fnd l id then 1 else 0))
def putN (l : List (Int × Int)) (id : Int) : Nat := l.length + 1 - (if fnd l id then 1 else 0)
theorem putL_len (l : List (Int × Int)) (id bt : Int) : (putL l id bt).length = putN l id := by
  have h := plc_le l id
  unfold putL putN
  cases hf : fnd l id
  · simp; omega
  · have := fnd_lt hf
    simp; omega
/-- What is there already is put in: the list is as it was. -/
theorem putL_same {l : List (Int × Int)} {id bt : Int} (hf : fnd l id = true) (hb : btAt l (plc l id) = bt) : putL l id bt = l := by
  have hlt := fnd_lt hf
  have hi : idAt l (plc l id) = id := by
    unfold fnd at hf
    simp at hf
    exact hf.2
  have he : (id, bt) = l[plc l id] := by
    rw [idAt_get hlt] at hi
    rw [btAt_get hlt] at hb
    exact Prod.ext hi.symm hb.symm
  unfold putL
  rw [hf, he]
  simp only [if_pos]
  rw [List.append_assoc, List.singleton_append, ← List.drop_eq_getElem_cons hlt, List.take_append_drop]
set_option maxRecDepth 100000 in
set_option maxHeartbeats 4000000 in
/-- impl.spliced of a list that is empty. -/
theorem spliced_zero (a : Option Addr) (cap : Nat) (ai : Option Addr) (li ci : Nat) (ins : List (Int × Int)) (hli : li ≤ 1000) (w : World) (hi : Prs ai li ins w) :
    Calls Try.prog 118 #[.slice a 0 cap, .int .i64 0, .int .i64 0, .slice ai li ci] w fun e w' => ∃ a c, e = .returned (.slice a li c) ∧ Own a li ins w' ∧ (∀ Ad, a = some Ad → w.heap.size ≤ Ad.block ∧ Ad.block < w'.heap.size) ∧ Below w.heap.size w w' := by
  have HI : Hid (Prs ai li ins w) := hi
  have k1 : (0 : Int) ≤ (cap : Int) := by omega
  clear hi
  cases a with
  | none =>
    go_enter Try.func118, Try.ntmps118
    go_wp2_with fail
    all_goals (
      refine (concat_tri w w.heap.size rfl 23 3 _ 0 _ [] ai li ci ins _ 0 _ [] (by omega) ⟨rfl, fun h => absurd h (by omega)⟩ HI.out ⟨rfl, fun h => absurd h (by omega)⟩).mono ?_
      rintro e w1 ⟨a, c, rfl, hca, ho, hin, hbl⟩
      have R : Hid (Own a li ins w1 ∧ (∀ Ad, a = some Ad → w.heap.size ≤ Ad.block ∧ Ad.block < w1.heap.size) ∧ Below w.heap.size w w1) := ⟨by simpa using ho, hin, hbl⟩
      clear ho hin hbl HI hca
      simp only [Nat.zero_add, Nat.add_zero]
      go_wp2
      go_ret
      exact ⟨a, c, rfl, R.out⟩)
  | some A =>
    go_enter Try.func118, Try.ntmps118
    go_wp2_with fail
    all_goals (
      refine (concat_tri w w.heap.size rfl 23 3 _ 0 _ [] ai li ci ins _ 0 _ [] (by omega) ⟨rfl, fun h => absurd h (by omega)⟩ HI.out ⟨rfl, fun h => absurd h (by omega)⟩).mono ?_
      rintro e w1 ⟨a, c, rfl, hca, ho, hin, hbl⟩
      have R : Hid (Own a li ins w1 ∧ (∀ Ad, a = some Ad → w.heap.size ≤ Ad.block ∧ Ad.block < w1.heap.size) ∧ Below w.heap.size w w1) := ⟨by simpa using ho, hin, hbl⟩
      clear ho hin hbl HI hca
      simp only [Nat.zero_add, Nat.add_zero]
      go_wp2
      go_ret
      exact ⟨a, c, rfl, R.out⟩)
end Go.Proofs.Ytgojbilbkfilgaa
/- An entry put into a right list of names: it is right again. -/
namespace Go.Proofs.Ytgojbilbkfilgaa
open Go.RowKit Go.PlainAid Go.Deep
set_option linter.unusedVariables false
/-- Ids that rise, and limits that are kept. -/
def nmP (l : List (Int × Int)) : Prop := l.Pairwise (fun a b => a.1 < b.1) ∧ ∀ x ∈ l, (0 ≤ x.1 ∧ x.1 ≤ 9999) ∧ (0 ≤ x.2 ∧ x.2 ≤ 7)
theorem bt_get {l : List (Int × Int)} {k : Nat} (h : k < l.length) : btAt l k = (l[k]).2 := by simp [btAt, List.getD, h]
theorem nmP_of {l : List (Int × Int)} (h : nmB l = true) : nmP l := by
  refine ⟨List.pairwise_iff_getElem.2 (fun i j hi hj hij => ?_), fun x hx => ?_⟩
  · rw [← idAt_get hi, ← idAt_get hj]
    exact nm_up h j hj i hij
  · obtain ⟨k, hk, rfl⟩ := List.getElem_of_mem hx
    rw [← idAt_get hk, ← bt_get hk]
    exact ⟨nm_id h k hk, nm_bt h k hk⟩
theorem of_nmP {l : List (Int × Int)} (hl : l.length ≤ 6) (h : nmP l) : nmB l = true := by
  refine nm_yes hl ?_
  have key : ∀ n, n ≤ l.length → nmRises l n = true := by
    intro n
    induction n with
    | zero => exact fun _ => rfl
    | succ n ih =>
      intro hn
      have hk : n < l.length := by omega
      obtain ⟨⟨a0, a1⟩, b0, b1⟩ := h.2 _ (List.getElem_mem hk)
      simp only [nmRises, ih (by omega), Bool.true_and, okN, idAt_get hk, bt_get hk, Bool.and_eq_true]
      refine ⟨inR_yes a0 a1, inR_yes b0 b1, ?_⟩
      by_cases h0 : n = 0
      · simp [h0]
      · have := List.pairwise_iff_getElem.1 h.1 (n - 1) n (by omega) hk (by omega)
        rw [idAt_get (show n - 1 < l.length by omega)]
        simp [this]
  exact key _ (Nat.le_refl _)
theorem plc_lo {l : List (Int × Int)} {id : Int} {x : Int × Int} (hx : x ∈ l.take (plc l id)) : x.1 < id := by
  obtain ⟨k, hk, rfl⟩ := List.getElem_of_mem hx
  simp only [List.length_take] at hk
  rw [List.getElem_take]
  have := List.not_of_lt_findIdx (show k < l.findIdx (fun p => decide (id ≤ p.1)) from (by show k < plc l id; omega))
  simp at this
  exact this
theorem plc_hi {l : List (Int × Int)} {id : Int} (hs : l.Pairwise (fun a b => a.1 < b.1)) {x : Int × Int} (hx : x ∈ l.drop (plc l id + (if fnd l id then 1 else 0))) : id < x.1 := by
  obtain ⟨k, hk, rfl⟩ := List.getElem_of_mem hx
  simp only [List.length_drop] at hk
  rw [List.getElem_drop, ← idAt_get (by omega)]
  have hp : plc l id < l.length := by omega
  have hge : id ≤ idAt l (plc l id) := by
    rw [idAt_get hp]
    have : (fun p : Int × Int => decide (id ≤ p.1)) l[plc l id] = true := List.findIdx_getElem (xs := l) (p := fun p : Int × Int => decide (id ≤ p.1)) (w := hp)
    simpa using this
  have up : ∀ i j, i < j → j < l.length → idAt l i < idAt l j := fun i j hij hj => by
    rw [idAt_get (show i < l.length by omega), idAt_get hj]
    exact List.pairwise_iff_getElem.1 hs i j (by omega) hj hij
  by_cases hf : fnd l id = true
  · rw [if_pos hf] at hk ⊢
    have := up (plc l id) (plc l id + 1 + k) (by omega) (by omega)
    omega
  · rw [if_neg hf] at hk ⊢
    have hne : idAt l (plc l id) ≠ id := by
      intro e
      exact hf (by simp [fnd, hp, e])
    by_cases h0 : k = 0
    · subst h0
      simp only [Nat.add_zero]
      omega
    · have := up (plc l id) (plc l id + 0 + k) (by omega) (by omega)
      omega
/-- Right again. -/
theorem put_right {l : List (Int × Int)} (h : nmB l = true) {id bt : Int} (h1 : 0 ≤ id ∧ id ≤ 9999) (h2 : 0 ≤ bt ∧ bt ≤ 7) (h6 : putN l id ≤ 6) : nmB (putL l id bt) = true := by
  have hP := nmP_of h
  refine of_nmP (by rw [putL_len]; exact h6) ⟨?_, fun x hx => ?_⟩
  · unfold putL
    rw [List.pairwise_append, List.pairwise_append]
    refine ⟨⟨hP.1.sublist (List.take_sublist _ _), List.pairwise_singleton _ _, fun a ha b hb => ?_⟩, hP.1.sublist (List.drop_sublist _ _), fun a ha b hb => ?_⟩
    · simp only [List.mem_singleton] at hb
      rw [hb]
      exact plc_lo ha
    · have q := plc_hi hP.1 hb
      rcases List.mem_append.1 ha with ha | ha
      · exact Int.lt_trans (plc_lo ha) q
      · simp only [List.mem_singleton] at ha
        rw [ha]
        exact q
  · unfold putL at hx
    rcases List.mem_append.1 hx with hx | hx
    · rcases List.mem_append.1 hx with hx | hx
      · exact hP.2 x (List.mem_of_mem_take hx)
      · simp only [List.mem_singleton] at hx
        rw [hx]
        exact ⟨h1, h2⟩
    · exact hP.2 x (List.mem_of_mem_drop hx)
/-- An id above all others: it comes last. -/
theorem put_last {l : List (Int × Int)} {id bt : Int} (h : ∀ k, k < l.length → idAt l k < id) : putL l id bt = l ++ [(id, bt)] ∧ putN l id = l.length + 1 := by
  have e := plc_none h
  have f := fnd_none e
  constructor
  · unfold putL; rw [e, f]; simp
  · unfold putN; rw [f]; simp
/-- Ids stay below a bound. -/
theorem put_below {l : List (Int × Int)} {id bt B : Int} (h : ∀ x ∈ l, x.1 < B) (hi : id < B) : ∀ x ∈ putL l id bt, x.1 < B := by
  intro x hx
  unfold putL at hx
  rcases List.mem_append.1 hx with hx | hx
  · rcases List.mem_append.1 hx with hx | hx
    · exact h x (List.mem_of_mem_take hx)
    · simp only [List.mem_singleton] at hx
      rw [hx]
      exact hi
  · exact h x (List.mem_of_mem_drop hx)
end Go.Proofs.Ytgojbilbkfilgaa
