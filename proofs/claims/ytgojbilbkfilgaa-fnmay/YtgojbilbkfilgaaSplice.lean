/- impl.spliced at lists of pairs. -/
import Derived.Test.YtgojbilbkfilgaaCopy
import Derived.Test.YtgojbilbkfilgaaPlace
namespace Go.Proofs.Ytgojbilbkfilgaa
open Go.RowKit Go.PlainAid Go.Deep
set_option linter.unusedVariables false
/-- Of three things one. -/
def tri {α : Type} (x y z : α) (j : Nat) : α := if j = 0 then x else if j = 1 then y else z
theorem cat_tri (p q s : List (Int × Int)) : cat (tri p q s) 3 = p ++ q ++ s := by simp [cat, tri]
theorem row3_new (w : World) (v0 v1 v2 : Value) (t : TypeId) : (w.alloc (.cells #[v0, v1, v2] t)).cell? ⟨w.heap.size, 0, none⟩ = some v0 ∧ (w.alloc (.cells #[v0, v1, v2] t)).cell? ⟨w.heap.size, 1, none⟩ = some v1 ∧ (w.alloc (.cells #[v0, v1, v2] t)).cell? ⟨w.heap.size, 2, none⟩ = some v2 := by
  have hb : (w.alloc (.cells #[v0, v1, v2] t)).heap[w.heap.size]? = some (.cells #[v0, v1, v2] t) := by
    rw [World.alloc]
    exact Array.getElem?_push_size
  refine ⟨?_, ?_, ?_⟩ <;> (simp only [World.cell?, hb]; rfl)
/-- slices.Concat of three lists, the row of which has just been made. -/
theorem concat_tri (w0 : World) (X : Nat) (hX : X = w0.heap.size) (t : TypeId) (cap : Nat) (a0 : Option Addr) (l0 c0 : Nat) (p0 : List (Int × Int)) (a1 : Option Addr) (l1 c1 : Nat) (p1 : List (Int × Int)) (a2 : Option Addr) (l2 c2 : Nat) (p2 : List (Int × Int)) (hN : l0 + l1 + l2 ≤ 1000000) (h0 : Prs a0 l0 p0 w0) (h1 : Prs a1 l1 p1 w0) (h2 : Prs a2 l2 p2 w0) :
    Calls Try.prog 119 #[.slice (some ⟨X, 0, none⟩) 3 cap] (w0.alloc (.cells #[.slice a0 l0 c0, .slice a1 l1 c1, .slice a2 l2 c2] t)) fun e w' => ∃ a c, e = .returned (.slice a (l0 + l1 + l2) c) ∧ l0 + l1 + l2 ≤ c ∧ Own a (l0 + l1 + l2) (p0 ++ p1 ++ p2) w' ∧ (∀ Ad, a = some Ad → w0.heap.size ≤ Ad.block ∧ Ad.block < w'.heap.size) ∧ Below w0.heap.size w0 w' := by
  subst hX
  have hb := bel_alloc w0 (.cells #[.slice a0 l0 c0, .slice a1 l1 c1, .slice a2 l2 c2] t)
  obtain ⟨r0, r1, r2⟩ := row3_new w0 (.slice a0 l0 c0) (.slice a1 l1 c1) (.slice a2 l2 c2) t
  have e0 := h0.1
  have e1 := h1.1
  have e2 := h2.1
  have hl : (cat (tri p0 p1 p2) 3).length = l0 + l1 + l2 := by rw [cat_tri, List.length_append, List.length_append, e0, e1, e2]
  refine (concat_any w0.heap.size 3 cap (tri a0 a1 a2) (tri c0 c1 c2) (tri p0 p1 p2) (by omega) (by rw [hl]; omega) _ (by simp) ?_).mono ?_
  · intro j hj
    rcases (by omega : j = 0 ∨ j = 1 ∨ j = 2) with rfl | rfl | rfl
    · refine ⟨?_, ?_⟩
      · show _ = some (Value.slice a0 p0.length c0)
        rw [e0]
        exact r0
      · show Prs a0 p0.length p0 _
        rw [e0]
        exact h0.below hb
    · refine ⟨?_, ?_⟩
      · show _ = some (Value.slice a1 p1.length c1)
        rw [e1]
        exact r1
      · show Prs a1 p1.length p1 _
        rw [e1]
        exact h1.below hb
    · refine ⟨?_, ?_⟩
      · show _ = some (Value.slice a2 p2.length c2)
        rw [e2]
        exact r2
      · show Prs a2 p2.length p2 _
        rw [e2]
        exact h2.below hb
  · rintro e w' ⟨a, c, rfl, hc, ho, hin, hbel⟩
    rw [hl] at ho hc ⊢
    rw [cat_tri] at ho
    refine ⟨a, c, rfl, hc, ho, fun Ad e => ?_, Below.on hb hbel⟩
    have := hin Ad e
    have h2 := hb.size
    exact ⟨by omega, this.2⟩
theorem idAt_take {l : List (Int × Int)} {n i : Nat} (h : i < n) : idAt (l.take n) i = idAt l i ∧ btAt (l.take n) i = btAt l i := by
  unfold idAt btAt
  simp [List.getD, List.getElem?_take_of_lt h]
theorem idAt_drop {l : List (Int × Int)} {n i : Nat} : idAt (l.drop n) i = idAt l (n + i) ∧ btAt (l.drop n) i = btAt l (n + i) := by
  unfold idAt btAt
  simp [List.getD, List.getElem?_drop]
/-- A slice's head, and its tail. -/
theorem prs_take {b off : Nat} {l : List (Int × Int)} {w : World} {n : Nat} (hn : n ≤ l.length) (hlt : b < w.heap.size) (hc : ∀ i, i < l.length → w.cell? ⟨b, off + i * 2, none⟩ = some (.int .i64 (idAt l i)) ∧ w.cell? ⟨b, off + i * 2 + 1, none⟩ = some (.int .i64 (btAt l i))) : Prs (some ⟨b, off, none⟩) n (l.take n) w := by
  refine ⟨by simp; omega, fun _ => ⟨b, off, rfl, hlt, fun i hi => ?_⟩⟩
  rw [(idAt_take hi).1, (idAt_take hi).2]
  exact hc i (by omega)
theorem prs_drop {b off : Nat} {l : List (Int × Int)} {w : World} {n : Nat} (hn : n ≤ l.length) (hlt : b < w.heap.size) (hc : ∀ i, i < l.length → w.cell? ⟨b, off + i * 2, none⟩ = some (.int .i64 (idAt l i)) ∧ w.cell? ⟨b, off + i * 2 + 1, none⟩ = some (.int .i64 (btAt l i))) : Prs (some ⟨b, off + n * 2, none⟩) (l.length - n) (l.drop n) w := by
  refine ⟨by simp, fun _ => ⟨b, off + n * 2, rfl, hlt, fun i hi => ?_⟩⟩
  rw [idAt_drop.1, idAt_drop.2]
  have := hc (n + i) (by omega)
  have e1 : off + (n + i) * 2 = off + n * 2 + i * 2 := by omega
  rw [e1] at this
  exact this
set_option maxRecDepth 100000 in
set_option maxHeartbeats 4000000 in
/-- impl.spliced of a list that is not empty. -/
theorem spliced_some (b off cap : Nat) (l : List (Int × Int)) (len : Nat) (hlen : l.length = len) (k out : Nat) (hk : k + out ≤ len) (hcap : len ≤ cap) (hm : len ≤ 1000) (ai : Option Addr) (li ci : Nat) (ins : List (Int × Int)) (hli : li ≤ 1000) (w : World) (hb : b < w.heap.size)
    (hc : ∀ i, i < l.length → w.cell? ⟨b, off + i * 2, none⟩ = some (.int .i64 (idAt l i)) ∧ w.cell? ⟨b, off + i * 2 + 1, none⟩ = some (.int .i64 (btAt l i))) (hi : Prs ai li ins w) :
    Calls Try.prog 118 #[.slice (some ⟨b, off, none⟩) len cap, .int .i64 k, .int .i64 out, .slice ai li ci] w fun e w' => ∃ a c, e = .returned (.slice a (k + li + (len - (k + out))) c) ∧ Own a (k + li + (len - (k + out))) (l.take k ++ ins ++ l.drop (k + out)) w' ∧ (∀ Ad, a = some Ad → w.heap.size ≤ Ad.block ∧ Ad.block < w'.heap.size) ∧ Below w.heap.size w w' := by
  have hh := prs_take (n := k) (by omega) hb hc
  have ht := prs_drop (n := k + out) (by omega) hb hc
  rw [hlen] at ht
  have k1 : (k : Int) ≤ (cap : Int) := by omega
  have k2 : (k : Int) + (out : Int) ≤ (len : Int) := by omega
  have k3 : (len : Int) ≤ (cap : Int) := by omega
  have HH : Hid (Prs (some ⟨b, off, none⟩) k (l.take k) w) := hh
  have HT : Hid (Prs (some ⟨b, off + (k + out) * 2, none⟩) (len - (k + out)) (l.drop (k + out)) w) := ht
  have HI : Hid (Prs ai li ins w) := hi
  clear hh ht hi hc hlen
  go_enter Try.func118, Try.ntmps118
  go_wp2_with fail
  all_goals (
    first
      | refine (concat_tri w w.heap.size rfl 23 3 (some ⟨b, off, none⟩) k k (l.take k) ai li ci ins (some ⟨b, off + (k + out) * 2, none⟩) (len - (k + out)) (cap - (k + out)) (l.drop (k + out)) (by omega) HH.out HI.out HT.out).mono ?_
      | refine (concat_tri w w.heap.size rfl 23 3 (some ⟨b, off, none⟩) k k (l.take k) ai li ci ins (some ⟨b, off, none⟩) (len - (k + out)) 0 (l.drop (k + out)) (by omega) HH.out HI.out ⟨HT.out.1, fun h => absurd h (by omega)⟩).mono ?_
    rintro e w1 ⟨a, c, rfl, hca, ho, hin, hbl⟩
    have R : Hid (Own a (k + li + (len - (k + out))) (l.take k ++ ins ++ l.drop (k + out)) w1 ∧ (∀ Ad, a = some Ad → w.heap.size ≤ Ad.block ∧ Ad.block < w1.heap.size) ∧ Below w.heap.size w w1) := ⟨ho, hin, hbl⟩
    clear ho hin hbl HH HT HI
    go_wp2
    go_ret
    exact ⟨a, c, rfl, R.out⟩)
/-- impl.spliced. -/
theorem spliced_any {w0 : World} (a : Option Addr) (len cap : Nat) (l : List (Int × Int)) (hp : Prs a len l w0) (k out : Nat) (hk : k + out ≤ len) (hcap : len ≤ cap) (hm : len ≤ 1000) (h0 : 0 < len) (ai : Option Addr) (li ci : Nat) (ins : List (Int × Int)) (hli : li ≤ 1000) (hi : Prs ai li ins w0) :
    Calls Try.prog 118 #[.slice a len cap, .int .i64 k, .int .i64 out, .slice ai li ci] w0 fun e w' => ∃ a c, e = .returned (.slice a (k + li + (len - (k + out))) c) ∧ Own a (k + li + (len - (k + out))) (l.take k ++ ins ++ l.drop (k + out)) w' ∧ (∀ Ad, a = some Ad → w0.heap.size ≤ Ad.block ∧ Ad.block < w'.heap.size) ∧ Below w0.heap.size w0 w' := by
  obtain ⟨hln, hp⟩ := hp
  obtain ⟨b, off, rfl, hlt, hc⟩ := hp h0
  exact spliced_some b off cap l len hln k out hk hcap hm ai li ci ins hli w0 hlt (by rw [hln]; exact hc) hi
end Go.Proofs.Ytgojbilbkfilgaa
