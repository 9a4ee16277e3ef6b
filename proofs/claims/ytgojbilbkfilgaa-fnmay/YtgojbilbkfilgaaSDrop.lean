/- spec.l03Drop: a list without one entry. -/
import Derived.Test.YtgojbilbkfilgaaDropMath
namespace Go.Proofs.Ytgojbilbkfilgaa
open Go.RowKit Go.PlainAid Go.Deep
set_option linter.unusedVariables false
/-- append onto a list that the call owns, said by where the lists lie. -/
theorem append_own (w w1 : World) (a1 : Option Addr) (c1 : Nat) (acc : List (Int × Int)) (n : Nat) (hO : w1.ownsRow w.heap.size 69 2 (.slice a1 n c1) acc.length (pc acc)) (a : Option Addr) (len cap : Nat) (l : List (Int × Int)) (hp : Prs a len l w1) (hsm : acc.length + len ≤ 1000000) (hb1 : Below w.heap.size w w1) :
    ∃ a' c' w', (Builtin.append_ #[23, 23] 23 #[.slice a1 n c1, .slice a len cap]).run Try.prog w1 = .ok (.slice a' (acc ++ l).length c') w' ∧ w'.ownsRow w.heap.size 69 2 (.slice a' (acc ++ l).length c') (acc ++ l).length (pc (acc ++ l)) ∧ Below w.heap.size w w' := by
  obtain ⟨v2, w2, hr2, hO2, hg2⟩ := run_append_prs (P := Try.prog) w1 w.heap.size 23 23 69 Try.underlying23 infoNamedC _ acc hO a len cap l hp (by omega) hb1.size
  have h2 := hO2
  obtain ⟨a', c', rfl, _, _⟩ := own_of_row hO2
  exact ⟨a', c', w2, hr2, h2, hb1.grown hg2 hb1.size (own_blockN hO)⟩
set_option maxRecDepth 100000 in
set_option maxHeartbeats 4000000 in
/-- spec.l03Drop. -/
theorem sDrop_any (a : Option Addr) (len cap : Nat) (l : List (Int × Int)) (k : Nat) (hk : k < len) (hcap : len ≤ cap) (hm : len ≤ 1000) (w : World) (hp : Prs a len l w) :
    Calls Try.prog 80 #[.slice a len cap, .int .i64 k] w fun e w' => ∃ a' c', e = .returned (.slice a' (len - 1) c') ∧ Own a' (len - 1) (cutL l k) w' ∧ (∀ Ad, a' = some Ad → w.heap.size ≤ Ad.block ∧ Ad.block < w'.heap.size) ∧ Below w.heap.size w w' := by
  obtain ⟨hln, hp⟩ := hp
  obtain ⟨b, off, rfl, hlt, hc⟩ := hp (by omega)
  rw [← hln] at hc
  have hh := prs_take (n := k) (by omega) hlt hc
  have ht := prs_drop (n := k + 1) (by omega) hlt hc
  rw [hln] at ht
  have hb0 := bel_alloc w (.cells #[] 69)
  have ho := own_start2 w w.heap.size rfl 69
  obtain ⟨v1, w1, hr1, hO1, hg1⟩ := run_append_prs (P := Try.prog) (w.alloc (.cells #[] 69)) w.heap.size 23 23 69 Try.underlying23 infoNamedC _ [] ho (some ⟨b, off, none⟩) k cap (l.take k) (hh.below hb0) (by simp; omega) (by simp)
  have hb1 : Below w.heap.size w w1 := hb0.grown hg1 (by simp) (own_blockN ho)
  rw [List.nil_append] at hO1
  have htk : (l.take k).length = k := by simp; omega
  have hO1' := hO1
  obtain ⟨a1, c1, rfl, _, _⟩ := own_of_row hO1
  have hcut : (cutL l k) = l.take k ++ l.drop (k + 1) := by simp [cutL]
  have hcl : (cutL l k).length = len - 1 := by rw [cutL_len (by omega), hln]
  have k1 : (k : Int) ≤ (cap : Int) := by omega
  have k2 : (k : Int) + 1 ≤ (len : Int) := by omega
  have k3 : (len : Int) ≤ (cap : Int) := by omega
  have fin : ∀ (a' : Option Addr) (c' : Nat) (w' : World), w'.ownsRow w.heap.size 69 2 (.slice a' (l.take k ++ l.drop (k + 1)).length c') (l.take k ++ l.drop (k + 1)).length (pc (l.take k ++ l.drop (k + 1))) → Below w.heap.size w w' → (l.take k ++ l.drop (k + 1)).length = len - 1 ∧ Own a' (len - 1) (cutL l k) w' ∧ (∀ Ad, a' = some Ad → w.heap.size ≤ Ad.block ∧ Ad.block < w'.heap.size) ∧ Below w.heap.size w w' := by
    intro a' c' w' h hb
    rw [← hcut] at h ⊢
    obtain ⟨x, y, e, h1, h2⟩ := own_of_row h
    cases e
    rw [hcl] at h1 ⊢
    exact ⟨rfl, h1, h2, hb⟩
  by_cases hq : cap = k + 1
  · have hlk : len = k + 1 := by omega
    subst hq
    obtain ⟨a2, c2, w2, hr2, hO2, hb2⟩ := append_own w w1 a1 c1 (l.take k) (l.take k).length hO1' (some ⟨b, off, none⟩) (len - (k + 1)) 0 (l.drop (k + 1)) ⟨ht.1, fun h => absurd h (by omega)⟩ (by omega) hb1
    obtain ⟨fe, R⟩ := fin a2 c2 w2 hO2 hb2
    rw [fe] at hr2
    have HR : Hid (Own a2 (len - 1) (cutL l k) w2 ∧ (∀ Ad, a2 = some Ad → w.heap.size ≤ Ad.block ∧ Ad.block < w2.heap.size) ∧ Below w.heap.size w w2) := R
    rw [htk] at hr1 hr2
    clear hh ht hb0 ho hO1 hO1' hg1 hb1 hO2 hb2 htk hcut hcl hc hp hlt hln fin fe R
    subst hlk
    simp only [Nat.sub_self] at hr2
    go_enter Try.func80, Try.ntmps80
    go_wp2_with (at_builtin; first | refine wpList_append_run _ rfl (.tmp 6) (.tmp 9) 23 23 rfl _ _ _ _ rfl rfl hr1 ?_ | refine wpList_append_run _ rfl (.tmp 11) (.tmp 15) 23 23 rfl _ _ _ _ rfl rfl hr2 ?_)
    go_ret
    exact ⟨a2, c2, rfl, HR.out⟩
  · have k4 : (k : Int) + 1 < (cap : Int) := by omega
    obtain ⟨a2, c2, w2, hr2, hO2, hb2⟩ := append_own w w1 a1 c1 (l.take k) (l.take k).length hO1' (some ⟨b, off + (k + 1) * 2, none⟩) (len - (k + 1)) (cap - (k + 1)) (l.drop (k + 1)) (ht.below hb1) (by omega) hb1
    obtain ⟨fe, R⟩ := fin a2 c2 w2 hO2 hb2
    rw [fe] at hr2
    have HR : Hid (Own a2 (len - 1) (cutL l k) w2 ∧ (∀ Ad, a2 = some Ad → w.heap.size ≤ Ad.block ∧ Ad.block < w2.heap.size) ∧ Below w.heap.size w w2) := R
    rw [htk] at hr1 hr2
    clear hh ht hb0 ho hO1 hO1' hg1 hb1 hO2 hb2 htk hcut hcl hc hp hlt hln fin fe R hq
    go_enter Try.func80, Try.ntmps80
    go_wp2_with (at_builtin; first | refine wpList_append_run _ rfl (.tmp 6) (.tmp 9) 23 23 rfl _ _ _ _ rfl rfl hr1 ?_ | refine wpList_append_run _ rfl (.tmp 11) (.tmp 15) 23 23 rfl _ _ _ _ rfl rfl hr2 ?_)
    all_goals (
      go_ret
      exact ⟨a2, c2, rfl, HR.out⟩)
end Go.Proofs.Ytgojbilbkfilgaa
