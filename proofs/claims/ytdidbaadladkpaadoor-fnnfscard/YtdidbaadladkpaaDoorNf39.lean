/- Laid together: AceConcat, AceSplice, AceDrop. -/
import Derived.Test.YtdidbaadladkpaaDoorNf29
import Derived.Test.YtdidbaadladkpaaDoorNf30
/- slices.Grow and slices.Concat at lists of aces. -/
namespace Go.Proofs.YtdidbaadladkpaaDoor
open Go.RowKit Go.PlainAid Go.Deep
set_option linter.unusedVariables false
set_option maxRecDepth 100000 in
/-- append of n zero values onto nil. -/
theorem append_zerosA (n : Nat) (h0 : 0 < n) (h1 : n ≤ 1000000) (ty : TypeId) (w : World) :
    ∃ c w', (Builtin.append_ #[23, 3] ty #[.slice none 0 0, .int .i64 n]).run Tryd.prog w = .ok (.slice (some ⟨w.heap.size, 0, none⟩) n c) w' ∧ n ≤ c ∧ w'.ownsRow w.heap.size 33 5 (.slice (some ⟨w.heap.size, 0, none⟩) 0 c) 0 [] ∧ Below w.heap.size w w' := by
  obtain ⟨i, hi, hzz⟩ := Option.map_eq_some_iff.1 infoAce
  simp only [Prod.mk.injEq] at hzz
  obtain ⟨hz, hs, hb⟩ := hzz
  have hr := Go.Lib.run_append_nil_zeros (P := Tryd.prog) w 23 3 ty 33 i _ .i64 .i64 Tryd.underlying23 Tryd.underlying3 hi hz n h0 (by omega) (by omega) (by rw [hb]; omega)
  have hge := grownCap_ge w n 0 33
  have hcm : grownCap w n 0 33 ≤ maxLen := grownCap_le_maxLen w n 0 33 (by unfold maxLen; omega)
  refine ⟨_, _, hr, hge, ?_, ?_⟩
  · refine World.ownsRow_made w.drew _ _ (Nat.le_refl _) hcm ?_
    simp only [Array.size_append, size_zeroCells]
    rw [← Nat.add_mul]
    congr 1
    omega
  · exact Below.trans (b := w.drew) ⟨rfl, rfl, rfl, Nat.le_refl _, fun _ _ => rfl⟩ (bel_alloc w.drew _)
set_option maxRecDepth 100000 in
set_option maxHeartbeats 2000000 in
theorem grow_nilA (n : Nat) (h1 : n ≤ 1000000) (w : World) :
    Calls Tryd.prog 101 #[.slice none 0 0, .int .i64 n] w fun e w' => ∃ v, e = .returned v ∧ w'.ownsRow w.heap.size 33 5 v 0 [] ∧ Below w.heap.size w w' := by
  have d0 : decide ((n : Int) < 0) = false := decide_eq_false (by omega)
  by_cases h0 : n = 0
  · subst h0
    go_enter Tryd.func101, Tryd.ntmps101
    go_wp2
    go_ret
    exact ⟨_, rfl, World.ownsRow_nil _ _ _ _, Below.refl _ _⟩
  · have hp : 0 < (n : Int) := by omega
    obtain ⟨c, w1, hr, hnc, hown, hbel⟩ := append_zerosA n (by omega) h1 23 w
    have hc0 : (0 : Int) ≤ (c : Int) := by omega
    have HO : Hid (w1.ownsRow w.heap.size 33 5 (.slice (some ⟨w.heap.size, 0, none⟩) 0 c) 0 []) := hown
    have HB : Hid (Below w.heap.size w w1) := hbel
    clear h0 hown hbel
    go_enter Tryd.func101, Tryd.ntmps101
    go_wp2_with (at_builtin; refine wpList_append_runA _ rfl (.tmp 20) (.tmp 21) 23 3 rfl _ _ _ _ rfl rfl hr ?_)
    go_ret
    exact ⟨_, rfl, HO.out, HB.out⟩
theorem own_capA {w : World} {B : Nat} {t : TypeId} {a : Option Addr} {n c : Nat} {xs : List Value} (h : w.ownsRow B t 5 (.slice a n c) n xs) : n ≤ c := by
  obtain ⟨_, ⟨h, hn⟩ | ⟨g, cap, cur, h, _, _, hc, _⟩⟩ := h
  · omega
  · cases h
    exact hc
/-- The first k lists, one behind the other. -/
def catA (ls : Nat → List Ac) : Nat → List Ac
  | 0 => []
  | k + 1 => catA ls k ++ ls k
theorem cat_monoA (ls : Nat → List Ac) {j k : Nat} (h : j ≤ k) : (catA ls j).length ≤ (catA ls k).length := by
  induction k with
  | zero => have : j = 0 := by omega
            subst this; exact Nat.le_refl _
  | succ k ih =>
    by_cases e : j = k + 1
    · subst e; exact Nat.le_refl _
    · have := ih (by omega)
      simp only [catA, List.length_append]
      omega
set_option maxRecDepth 100000 in
set_option maxHeartbeats 4000000 in
/-- slices.Concat of n lists that lie in a row. -/
theorem concat_anyA (A n : Nat) (cap : Nat) (ads : Nat → Option Addr) (cs : Nat → Nat) (ls : Nat → List Ac) (hn : n ≤ 1000) (hN : (catA ls n).length ≤ 1000000) (w : World) (hA : A < w.heap.size)
    (hc : ∀ j, j < n → w.cell? ⟨A, j, none⟩ = some (.slice (ads j) (ls j).length (cs j)) ∧ Acs (ads j) (ls j).length (ls j) w) :
    Calls Tryd.prog 79 #[.slice (some ⟨A, 0, none⟩) n cap] w fun e w' => ∃ a c, e = .returned (.slice a (catA ls n).length c) ∧ (catA ls n).length ≤ c ∧ OwnA a (catA ls n).length (catA ls n) w' ∧ (∀ Ad, a = some Ad → w.heap.size ≤ Ad.block ∧ Ad.block < w'.heap.size) ∧ Below w.heap.size w w' := by
  have HC : Hid (∀ j, j < n → w.cell? ⟨A, j, none⟩ = some (.slice (ads j) (ls j).length (cs j)) ∧ Acs (ads j) (ls j).length (ls j) w) := hc
  have HM : Hid (∀ k, k ≤ n → (catA ls k).length ≤ 1000000) := (fun k hk => Nat.le_trans (cat_monoA ls hk) hN)
  clear hc
  go_enter Tryd.func79, Tryd.ntmps79
  go_wp2
  go_loop [3, 11] (fun s i => ∃ k : Nat, k ≤ n ∧ i = .int .i64 k ∧ s = .int .i64 ((catA ls k).length : Nat)) (fun _ i => n - (intOf i).toNat)
  case atStart => exact ⟨0, Nat.zero_le _, rfl, rfl⟩
  case round =>
    obtain ⟨k, hk, rfl, rfl⟩ := hrel
    by_cases hlt : k < n
    · have hlt' : (k : Int) < (n : Int) := by omega
      obtain ⟨g0, _⟩ := HC.out k hlt
      have hm := HM.out k hk
      have hm1 := HM.out (k + 1) hlt
      have el : (catA ls (k + 1)).length = (catA ls k).length + (ls k).length := by simp [catA]
      have EL : Hid ((catA ls (k + 1)).length = (catA ls k).length + (ls k).length) := el
      have hsum : ((catA ls k).length : Int) + ((ls k).length : Int) ≤ 1000000 := by omega
      have d1 : decide (((catA ls k).length : Int) + ((ls k).length : Int) < 0) = false := decide_eq_false (by omega)
      clear el hm1
      go_wp2
      go_round
      case rel => exact ⟨k + 1, by omega, by go_num, by rw [EL.out]; go_num⟩
      case measure => simp [intOf]; omega
    · have : k = n := by omega
      subst this
      have hm := HM.out k hk
      go_wp2_with fail
      refine (grow_nilA (catA ls k).length hm _).mono ?_
      rintro e w1 ⟨v, rfl, hown, hb1⟩
      have HO : Hid (w1.ownsRow w.heap.size 33 5 v 0 []) := hown
      have HB1 : Hid (Below w.heap.size w w1) := hb1
      clear hown hb1
      go_wp2
      go_loopw [6, 27] (fun v i wr => ∃ j : Nat, j ≤ k ∧ i = .int .i64 j ∧ Hid (wr.ownsRow w.heap.size 33 5 v (catA ls j).length (pcA (catA ls j))) ∧ Hid (Below w.heap.size w wr)) (fun _ i _ => k - (intOf i).toNat)
      case atStart => exact ⟨0, Nat.zero_le _, rfl, HO, HB1⟩
      case round =>
        obtain ⟨j, hj, rfl, hO, hB⟩ := hrel
        by_cases hlt2 : j < k
        · have hlt' : (j : Int) < (k : Int) := by omega
          obtain ⟨g0, hp⟩ := HC.out j hlt2
          have g1 : wr.cell? ⟨A, j, none⟩ = some (.slice (ads j) (ls j).length (cs j)) := (hB.out.cell (p := ⟨A, j, none⟩) hA).trans g0
          have hm1 := HM.out (j + 1) hlt2
          have el : (catA ls (j + 1)).length = (catA ls j).length + (ls j).length := by simp [catA]
          obtain ⟨v2, w2, hr, hO2, hg2⟩ := run_append_acs (P := Tryd.prog) wr w.heap.size 23 23 33 Tryd.underlying23 infoAce u6 (catA ls j) hO.out (ads j) (ls j).length (cs j) (ls j) (hp.below hB.out) (by omega) hB.out.size
          have HO2 : Hid (w2.ownsRow w.heap.size 33 5 v2 (catA ls (j + 1)).length (pcA (catA ls (j + 1)))) := hO2
          have HB2 : Hid (Below w.heap.size w w2) := hB.out.grown hg2 hB.out.size (own_blockA hO.out)
          clear el hm1 hO2 hg2 g0 hp hO hB HO HB1
          go_wp2_with (at_builtin; refine wpList_append_runA _ rfl (.tmp 31) (.tmp 32) 23 23 rfl _ _ _ _ rfl rfl hr ?_)
          go_roundw
          case rel => exact ⟨j + 1, by omega, by go_num, HO2, HB2⟩
          case measure => simp [intOf]; omega
        · have : j = k := by omega
          subst this
          go_wp2
          go_ret
          obtain ⟨a, c, rfl, h1, h2⟩ := ownA_of_row hO.out
          exact ⟨a, c, rfl, own_capA hO.out, h1, h2, hB.out⟩
end Go.Proofs.YtdidbaadladkpaaDoor
/- impl.spliced at lists of aces. -/
namespace Go.Proofs.YtdidbaadladkpaaDoor
open Go.RowKit Go.PlainAid Go.Deep
set_option linter.unusedVariables false
/-- Of three things one. -/
def triA {α : Type} (x y z : α) (j : Nat) : α := if j = 0 then x else if j = 1 then y else z
theorem cat_triA (p q s : List Ac) : catA (triA p q s) 3 = p ++ q ++ s := by simp [catA, triA]
theorem row3_newA (w : World) (v0 v1 v2 : Value) (t : TypeId) : (w.alloc (.cells #[v0, v1, v2] t)).cell? ⟨w.heap.size, 0, none⟩ = some v0 ∧ (w.alloc (.cells #[v0, v1, v2] t)).cell? ⟨w.heap.size, 1, none⟩ = some v1 ∧ (w.alloc (.cells #[v0, v1, v2] t)).cell? ⟨w.heap.size, 2, none⟩ = some v2 := by
  have hb : (w.alloc (.cells #[v0, v1, v2] t)).heap[w.heap.size]? = some (.cells #[v0, v1, v2] t) := by
    rw [World.alloc]
    exact Array.getElem?_push_size
  refine ⟨?_, ?_, ?_⟩ <;> (simp only [World.cell?, hb]; rfl)
/-- slices.Concat of three lists, the row of which has just been made. -/
theorem concat_triA (w0 : World) (X : Nat) (hX : X = w0.heap.size) (t : TypeId) (cap : Nat) (a0 : Option Addr) (l0 c0 : Nat) (p0 : List Ac) (a1 : Option Addr) (l1 c1 : Nat) (p1 : List Ac) (a2 : Option Addr) (l2 c2 : Nat) (p2 : List Ac) (hN : l0 + l1 + l2 ≤ 1000000) (h0 : Acs a0 l0 p0 w0) (h1 : Acs a1 l1 p1 w0) (h2 : Acs a2 l2 p2 w0) :
    Calls Tryd.prog 79 #[.slice (some ⟨X, 0, none⟩) 3 cap] (w0.alloc (.cells #[.slice a0 l0 c0, .slice a1 l1 c1, .slice a2 l2 c2] t)) fun e w' => ∃ a c, e = .returned (.slice a (l0 + l1 + l2) c) ∧ l0 + l1 + l2 ≤ c ∧ OwnA a (l0 + l1 + l2) (p0 ++ p1 ++ p2) w' ∧ (∀ Ad, a = some Ad → w0.heap.size ≤ Ad.block ∧ Ad.block < w'.heap.size) ∧ Below w0.heap.size w0 w' := by
  subst hX
  have hb := bel_alloc w0 (.cells #[.slice a0 l0 c0, .slice a1 l1 c1, .slice a2 l2 c2] t)
  obtain ⟨r0, r1, r2⟩ := row3_newA w0 (.slice a0 l0 c0) (.slice a1 l1 c1) (.slice a2 l2 c2) t
  have e0 := h0.1
  have e1 := h1.1
  have e2 := h2.1
  have hl : (catA (triA p0 p1 p2) 3).length = l0 + l1 + l2 := by rw [cat_triA, List.length_append, List.length_append, e0, e1, e2]
  refine (concat_anyA w0.heap.size 3 cap (triA a0 a1 a2) (triA c0 c1 c2) (triA p0 p1 p2) (by omega) (by rw [hl]; omega) _ (by simp) ?_).mono ?_
  · intro j hj
    rcases (by omega : j = 0 ∨ j = 1 ∨ j = 2) with rfl | rfl | rfl
    · refine ⟨?_, ?_⟩
      · show _ = some (Value.slice a0 p0.length c0)
        rw [e0]
        exact r0
      · show Acs a0 p0.length p0 _
        rw [e0]
        exact h0.below hb
    · refine ⟨?_, ?_⟩
      · show _ = some (Value.slice a1 p1.length c1)
        rw [e1]
        exact r1
      · show Acs a1 p1.length p1 _
        rw [e1]
        exact h1.below hb
    · refine ⟨?_, ?_⟩
      · show _ = some (Value.slice a2 p2.length c2)
        rw [e2]
        exact r2
      · show Acs a2 p2.length p2 _
        rw [e2]
        exact h2.below hb
  · rintro e w' ⟨a, c, rfl, hc, ho, hin, hbel⟩
    rw [hl] at ho hc ⊢
    rw [cat_triA] at ho
    refine ⟨a, c, rfl, hc, ho, fun Ad e => ?_, Below.on hb hbel⟩
    have := hin Ad e
    have h2 := hb.size
    exact ⟨by omega, this.2⟩
theorem acAt_take {l : List Ac} {n i : Nat} (h : i < n) : acAt (l.take n) i = acAt l i := by
  unfold acAt
  simp [List.getD, List.getElem?_take_of_lt h]
theorem acAt_drop {l : List Ac} {n i : Nat} : acAt (l.drop n) i = acAt l (n + i) := by
  unfold acAt
  simp [List.getD, List.getElem?_drop]
/-- A slice's head, and its tail. -/
theorem acs_take {b off : Nat} {l : List Ac} {w : World} {n : Nat} (hn : n ≤ l.length) (hlt : b < w.heap.size) (hc : ∀ i, i < l.length → Five w b (off + i * 5) (acAt l i)) : Acs (some ⟨b, off, none⟩) n (l.take n) w := by
  refine ⟨by simp; omega, fun _ => ⟨b, off, rfl, hlt, fun i hi => ?_⟩⟩
  rw [acAt_take hi]
  exact hc i (by omega)
theorem acs_drop {b off : Nat} {l : List Ac} {w : World} {n : Nat} (hn : n ≤ l.length) (hlt : b < w.heap.size) (hc : ∀ i, i < l.length → Five w b (off + i * 5) (acAt l i)) : Acs (some ⟨b, off + n * 5, none⟩) (l.length - n) (l.drop n) w := by
  refine ⟨by simp, fun _ => ⟨b, off + n * 5, rfl, hlt, fun i hi => ?_⟩⟩
  rw [acAt_drop]
  have := hc (n + i) (by omega)
  have e1 : off + (n + i) * 5 = off + n * 5 + i * 5 := by omega
  rw [e1] at this
  exact this
set_option maxRecDepth 100000 in
set_option maxHeartbeats 4000000 in
/-- impl.spliced of a list that is not empty. -/
theorem spliced_someC (b off cap : Nat) (l : List Ac) (len : Nat) (hlen : l.length = len) (k out : Nat) (hk : k + out ≤ len) (hcap : len ≤ cap) (hm : len ≤ 1000) (ai : Option Addr) (li ci : Nat) (ins : List Ac) (hli : li ≤ 1000) (w : World) (hb : b < w.heap.size)
    (hc : ∀ i, i < l.length → Five w b (off + i * 5) (acAt l i)) (hi : Acs ai li ins w) :
    Calls Tryd.prog 50 #[.slice (some ⟨b, off, none⟩) len cap, .int .i64 k, .int .i64 out, .slice ai li ci] w fun e w' => ∃ a c, e = .returned (.slice a (k + li + (len - (k + out))) c) ∧ OwnA a (k + li + (len - (k + out))) (l.take k ++ ins ++ l.drop (k + out)) w' ∧ (∀ Ad, a = some Ad → w.heap.size ≤ Ad.block ∧ Ad.block < w'.heap.size) ∧ Below w.heap.size w w' ∧ k + li + (len - (k + out)) ≤ c := by
  have hh := acs_take (n := k) (by omega) hb hc
  have ht := acs_drop (n := k + out) (by omega) hb hc
  rw [hlen] at ht
  have k1 : (k : Int) ≤ (cap : Int) := by omega
  have k2 : (k : Int) + (out : Int) ≤ (len : Int) := by omega
  have k3 : (len : Int) ≤ (cap : Int) := by omega
  have HH : Hid (Acs (some ⟨b, off, none⟩) k (l.take k) w) := hh
  have HT : Hid (Acs (some ⟨b, off + (k + out) * 5, none⟩) (len - (k + out)) (l.drop (k + out)) w) := ht
  have HI : Hid (Acs ai li ins w) := hi
  clear hh ht hi hc hlen
  go_enter Tryd.func50, Tryd.ntmps50
  go_wp2_with fail
  all_goals (
    first
      | refine (concat_triA w w.heap.size rfl 23 3 (some ⟨b, off, none⟩) k k (l.take k) ai li ci ins (some ⟨b, off + (k + out) * 5, none⟩) (len - (k + out)) (cap - (k + out)) (l.drop (k + out)) (by omega) HH.out HI.out HT.out).mono ?_
      | refine (concat_triA w w.heap.size rfl 23 3 (some ⟨b, off, none⟩) k k (l.take k) ai li ci ins (some ⟨b, off, none⟩) (len - (k + out)) 0 (l.drop (k + out)) (by omega) HH.out HI.out ⟨HT.out.1, fun h => absurd h (by omega)⟩).mono ?_
    rintro e w1 ⟨a, c, rfl, hca, ho, hin, hbl⟩
    have R : Hid (OwnA a (k + li + (len - (k + out))) (l.take k ++ ins ++ l.drop (k + out)) w1 ∧ (∀ Ad, a = some Ad → w.heap.size ≤ Ad.block ∧ Ad.block < w1.heap.size) ∧ Below w.heap.size w w1 ∧ k + li + (len - (k + out)) ≤ c) := ⟨ho, hin, hbl, hca⟩
    clear ho hin hbl hca HH HT HI
    go_wp2
    go_ret
    exact ⟨a, c, rfl, R.out⟩)
theorem spliced_someA (b off cap : Nat) (l : List Ac) (len : Nat) (hlen : l.length = len) (k out : Nat) (hk : k + out ≤ len) (hcap : len ≤ cap) (hm : len ≤ 1000) (ai : Option Addr) (li ci : Nat) (ins : List Ac) (hli : li ≤ 1000) (w : World) (hb : b < w.heap.size)
    (hc : ∀ i, i < l.length → Five w b (off + i * 5) (acAt l i)) (hi : Acs ai li ins w) :
    Calls Tryd.prog 50 #[.slice (some ⟨b, off, none⟩) len cap, .int .i64 k, .int .i64 out, .slice ai li ci] w fun e w' => ∃ a c, e = .returned (.slice a (k + li + (len - (k + out))) c) ∧ OwnA a (k + li + (len - (k + out))) (l.take k ++ ins ++ l.drop (k + out)) w' ∧ (∀ Ad, a = some Ad → w.heap.size ≤ Ad.block ∧ Ad.block < w'.heap.size) ∧ Below w.heap.size w w' := by
  refine (spliced_someC b off cap l len hlen k out hk hcap hm ai li ci ins hli w hb hc hi).mono ?_
  rintro e w' ⟨a, c, h1, h2, h3, h4, _⟩
  exact ⟨a, c, h1, h2, h3, h4⟩
/-- impl.spliced. -/
theorem spliced_anyA {w0 : World} (a : Option Addr) (len cap : Nat) (l : List Ac) (hp : Acs a len l w0) (k out : Nat) (hk : k + out ≤ len) (hcap : len ≤ cap) (hm : len ≤ 1000) (h0 : 0 < len) (ai : Option Addr) (li ci : Nat) (ins : List Ac) (hli : li ≤ 1000) (hi : Acs ai li ins w0) :
    Calls Tryd.prog 50 #[.slice a len cap, .int .i64 k, .int .i64 out, .slice ai li ci] w0 fun e w' => ∃ a c, e = .returned (.slice a (k + li + (len - (k + out))) c) ∧ OwnA a (k + li + (len - (k + out))) (l.take k ++ ins ++ l.drop (k + out)) w' ∧ (∀ Ad, a = some Ad → w0.heap.size ≤ Ad.block ∧ Ad.block < w'.heap.size) ∧ Below w0.heap.size w0 w' := by
  obtain ⟨hln, hp⟩ := hp
  obtain ⟨b, off, rfl, hlt, hc⟩ := hp h0
  exact spliced_someA b off cap l len hln k out hk hcap hm ai li ci ins hli w0 hlt (by rw [hln]; exact hc) hi
theorem spliced_anyC {w0 : World} (a : Option Addr) (len cap : Nat) (l : List Ac) (hp : Acs a len l w0) (k out : Nat) (hk : k + out ≤ len) (hcap : len ≤ cap) (hm : len ≤ 1000) (h0 : 0 < len) (ai : Option Addr) (li ci : Nat) (ins : List Ac) (hli : li ≤ 1000) (hi : Acs ai li ins w0) :
    Calls Tryd.prog 50 #[.slice a len cap, .int .i64 k, .int .i64 out, .slice ai li ci] w0 fun e w' => ∃ a c, e = .returned (.slice a (k + li + (len - (k + out))) c) ∧ OwnA a (k + li + (len - (k + out))) (l.take k ++ ins ++ l.drop (k + out)) w' ∧ (∀ Ad, a = some Ad → w0.heap.size ≤ Ad.block ∧ Ad.block < w'.heap.size) ∧ Below w0.heap.size w0 w' ∧ k + li + (len - (k + out)) ≤ c := by
  obtain ⟨hln, hp⟩ := hp
  obtain ⟨b, off, rfl, hlt, hc⟩ := hp h0
  exact spliced_someC b off cap l len hln k out hk hcap hm ai li ci ins hli w0 hlt (by rw [hln]; exact hc) hi
end Go.Proofs.YtdidbaadladkpaaDoor
/- AceDrop, the program's and the specification's. -/
namespace Go.Proofs.YtdidbaadladkpaaDoor
open Go.RowKit Go.PlainAid Go.Deep
set_option linter.unusedVariables false
/-- What a call that answers a list and a code ends in, by the pair. -/
def AnsP (p : List Ac × Int) (w : World) (e : Ending) (w' : World) : Prop := AnsN p.1 p.2 w e w'
theorem ansP_ill {p : List Ac × Int} {c : Int} (h : p = ([], c)) {w w' : World} (hb : Below w.heap.size w w') : AnsP p w (.returned (.agg #[.slice none 0 0, .int .i64 c])) w' := by
  subst h
  exact ⟨none, 0, rfl, newA_nil hb⟩
theorem ansP_of {p : List Ac × Int} {xs : List Ac} {c : Int} (h : p = (xs, c)) {n : Nat} (hn : xs.length = n) {w w' : World} {a : Option Addr} {cp : Nat} (hN : NewA w w' a n xs) : AnsP p w (.returned (.agg #[.slice a n cp, .int .i64 c])) w' := by
  subst h hn
  exact ⟨a, cp, rfl, hN⟩
/-- AceDrop. -/
def dropP (l : List Ac) (at_ : Int) : List Ac × Int :=
  if 400 < l.length then ([], 2) else if acesB l = false then ([], 1) else if at_ < 0 ∨ (l.length : Int) ≤ at_ then ([], 8) else (l.take at_.toNat ++ [] ++ l.drop (at_.toNat + 1), 0)
theorem dropP_long {l : List Ac} {n : Int} (h : 400 < l.length) : dropP l n = ([], 2) := by rw [dropP, if_pos h]
theorem dropP_form {l : List Ac} {n : Int} (h : ¬ 400 < l.length) (h1 : acesB l = false) : dropP l n = ([], 1) := by rw [dropP, if_neg h, if_pos h1]
theorem dropP_range {l : List Ac} {n : Int} (h : ¬ 400 < l.length) (h1 : acesB l = true) (h2 : n < 0 ∨ (l.length : Int) ≤ n) : dropP l n = ([], 8) := by rw [dropP, if_neg h, if_neg (by rw [h1]; simp), if_pos h2]
theorem dropP_yes {l : List Ac} {k : Nat} (h1 : acesB l = true) (h2 : k < l.length) : dropP l (k : Int) = (l.take k ++ [] ++ l.drop (k + 1), 0) := by
  have hl := aces_len h1
  rw [dropP, if_neg (by omega), if_neg (by rw [h1]; simp), if_neg (by omega)]
  simp
theorem dropP_len (l : List Ac) (n : Int) : (dropP l n).1.length ≤ 400 := by
  unfold dropP
  split
  · simp
  · split
    · simp
    · split
      · simp
      · simp only [List.append_nil, List.length_append, List.length_take, List.length_drop]
        omega
set_option maxHeartbeats 4000000 in
/-- impl.AceDrop. -/
theorem iAceDrop_any (a : Option Addr) (len cap : Nat) (l : List Ac) (n : Int) (hcap : len ≤ cap) (hlen : len ≤ 1048576) (w : World) (hi : Acs a len l w) :
    Calls Tryd.prog 19 #[.slice a len cap, .int .i64 n] w (AnsP (dropP l n) w) := by
  have e1 := hi.1
  by_cases h4 : 400 < len
  · have hp : Hid (dropP l n = ([], 2)) := dropP_long (by omega)
    have h4' : (400 : Int) < (len : Int) := by omega
    clear hi e1
    go_enter Tryd.func19, Tryd.ntmps19
    go_wp2
    exact bodyPost_ret (v := .agg #[.slice none 0 0, .int .i64 2]) (by simp [results, Tryd.results19, go_sem]) rfl (ansP_ill hp.out (bel_alloc _ _))
  have h4' : ¬ (400 : Int) < (len : Int) := by omega
  have hbA := bel_alloc w (.cells #[.slice none 0 0, .int .i64 0] 37)
  have hX := box2_new w (.slice none 0 0) (.int .i64 0) 37
  have hR : Hid (∀ w', Below w.heap.size w w' → Calls Tryd.prog 23 #[.slice a len cap] w' fun e w'' => e = .returned (.bool (acesB l)) ∧ Below w'.heap.size w' w'') := (fun w' hb => iNfsRight_any a len cap l w' (hi.below hb))
  cases ha : acesB l
  · have hp : Hid (dropP l n = ([], 1)) := dropP_form (by omega) ha
    rw [ha] at hR
    clear hi e1
    go_enter Tryd.func19, Tryd.ntmps19
    go_wp2_with fail
    refine (hR.out _ hbA).mono ?_
    rintro e w1 ⟨rfl, hb1⟩
    have hB : Hid (Below w.heap.size w w1) := Below.on hbA hb1
    obtain ⟨xl, x0, x1⟩ := hX.below hb1
    obtain ⟨f0, f1⟩ : w1.frozen? ⟨w.heap.size, 0, none⟩ = false ∧ w1.frozen? ⟨w.heap.size, 1, none⟩ = false := by
      constructor <;> (rw [hb1.frozen (p := ⟨w.heap.size, _, none⟩) (by simp)]; simp [go_sem])
    clear hb1 hX hR hbA
    go_wp2
    refine bodyPost_ret (v := .agg #[.slice none 0 0, .int .i64 1]) (by simp [results, Tryd.results19, go_sem, x0, x1]) rfl (ansP_ill hp.out ?_)
    exact bl_setA (bl_setA hB.out (Nat.le_refl _)) (Nat.le_refl _)
  rw [ha] at hR
  by_cases hn : n < 0 ∨ (l.length : Int) ≤ n
  · have hp : Hid (dropP l n = ([], 8)) := dropP_range (by omega) ha hn
    rw [e1] at hn
    clear hi e1
    go_enter Tryd.func19, Tryd.ntmps19
    go_wp2_with fail
    refine (hR.out _ hbA).mono ?_
    rintro e w1 ⟨rfl, hb1⟩
    have hB : Hid (Below w.heap.size w w1) := Below.on hbA hb1
    obtain ⟨xl, x0, x1⟩ := hX.below hb1
    obtain ⟨f0, f1⟩ : w1.frozen? ⟨w.heap.size, 0, none⟩ = false ∧ w1.frozen? ⟨w.heap.size, 1, none⟩ = false := by
      constructor <;> (rw [hb1.frozen (p := ⟨w.heap.size, _, none⟩) (by simp)]; simp [go_sem])
    clear hb1 hX hR hbA
    by_cases h0 : n < 0
    · clear hn
      go_wp2
      refine bodyPost_ret (v := .agg #[.slice none 0 0, .int .i64 8]) (by simp [results, Tryd.results19, go_sem, x0, x1]) rfl (ansP_ill hp.out ?_)
      exact bl_setA (bl_setA hB.out (Nat.le_refl _)) (Nat.le_refl _)
    · have h9 : (len : Int) ≤ n := by omega
      clear hn
      go_wp2
      refine bodyPost_ret (v := .agg #[.slice none 0 0, .int .i64 8]) (by simp [results, Tryd.results19, go_sem, x0, x1]) rfl (ansP_ill hp.out ?_)
      exact bl_setA (bl_setA hB.out (Nat.le_refl _)) (Nat.le_refl _)
  obtain ⟨k, rfl⟩ := Int.eq_ofNat_of_zero_le (by omega : 0 ≤ n)
  have hk : k < len := by omega
  have hk' : (k : Int) < (len : Int) := by omega
  have hp : Hid (dropP l (k : Int) = (l.take k ++ [] ++ l.drop (k + 1), 0)) := dropP_yes ha (by omega)
  have hS : Hid (∀ w', Below w.heap.size w w' → Calls Tryd.prog 50 #[.slice a len cap, .int .i64 k, .int .i64 1, .slice none 0 0] w' fun e w'' => ∃ a c, e = .returned (.slice a (k + 0 + (len - (k + 1))) c) ∧ OwnA a (k + 0 + (len - (k + 1))) (l.take k ++ [] ++ l.drop (k + 1)) w'' ∧ (∀ Ad, a = some Ad → w'.heap.size ≤ Ad.block ∧ Ad.block < w''.heap.size) ∧ Below w'.heap.size w' w'') := (fun w' hb => spliced_anyA a len cap l (hi.below hb) k 1 (by omega) hcap (by omega) (by omega) none 0 0 [] (by omega) ⟨rfl, fun h => absurd h (by omega)⟩)
  have HLN : Hid ((l.take k ++ [] ++ l.drop (k + 1)).length = k + 0 + (len - (k + 1))) := (by show _ = _; simp; omega)
  generalize hres : l.take k ++ [] ++ l.drop (k + 1) = res at hp hS HLN
  generalize hsz : k + 0 + (len - (k + 1)) = sz at hS HLN
  clear hi e1 hn hres hsz
  go_enter Tryd.func19, Tryd.ntmps19
  go_wp2_with fail
  refine (hR.out _ hbA).mono ?_
  rintro e w1 ⟨rfl, hb1⟩
  have hB : Hid (Below w.heap.size w w1) := Below.on hbA hb1
  have hX1 := hX.below hb1
  have hF1 : w1.frozen? ⟨w.heap.size, 0, none⟩ = false ∧ w1.frozen? ⟨w.heap.size, 1, none⟩ = false := by
    constructor <;> (rw [hb1.frozen (p := ⟨w.heap.size, _, none⟩) (by simp)]; simp [go_sem])
  clear hb1 hX hR hbA
  go_wp2_with fail
  refine (hS.out _ hB.out).mono ?_
  rintro e w2 ⟨a2, c2, rfl, hO2, hin2, hb2⟩
  obtain ⟨xl, x0, x1⟩ := hX1.below hb2
  obtain ⟨f0, f1⟩ : w2.frozen? ⟨w.heap.size, 0, none⟩ = false ∧ w2.frozen? ⟨w.heap.size, 1, none⟩ = false :=
    ⟨(hb2.frozen (p := ⟨w.heap.size, 0, none⟩) hX1.lt).trans hF1.1, (hb2.frozen (p := ⟨w.heap.size, 1, none⟩) hX1.lt).trans hF1.2⟩
  have HN : Hid (NewA w w2 a2 sz res) := ⟨hO2, fun A e => ⟨Nat.le_trans hB.out.size (hin2 A e).1, (hin2 A e).2⟩, Below.on hB.out hb2⟩
  have HNE : Hid (∀ A, a2 = some A → w.heap.size ≠ A.block) := (fun A e => by have h1 := (hin2 A e).1; have h2 := hX1.lt; omega)
  clear hS hO2 hin2 hb2 hX1 hF1
  go_wp2
  refine bodyPost_ret (v := .agg #[.slice a2 sz c2, .int .i64 0]) (by simp [results, Tryd.results19, go_sem, x0, x1]) rfl (ansP_of hp.out HLN.out ?_)
  exact (HN.out.set (Nat.le_refl _) HNE.out).set (Nat.le_refl _) HNE.out
/-- append onto a list that the call owns, said by where the lists lie. -/
theorem append_ownA (w w1 : World) (a1 : Option Addr) (c1 : Nat) (acc : List Ac) (n : Nat) (hO : w1.ownsRow w.heap.size 33 5 (.slice a1 n c1) acc.length (pcA acc)) (a : Option Addr) (len cap : Nat) (l : List Ac) (hp : Acs a len l w1) (hsm : acc.length + len ≤ 1000000) (hb1 : Below w.heap.size w w1) (m : Nat) (hm : (acc ++ l).length = m) :
    ∃ a' c' w', (Builtin.append_ #[23, 23] 23 #[.slice a1 n c1, .slice a len cap]).run Tryd.prog w1 = .ok (.slice a' m c') w' ∧ w'.ownsRow w.heap.size 33 5 (.slice a' m c') (acc ++ l).length (pcA (acc ++ l)) ∧ NewA w w' a' m (acc ++ l) := by
  obtain ⟨v2, w2, hr2, hO2, hg2⟩ := run_append_acs (P := Tryd.prog) w1 w.heap.size 23 23 33 Tryd.underlying23 infoAce _ acc hO a len cap l hp (by omega) hb1.size
  have h2 := hO2
  obtain ⟨a', c', rfl, h3, h4⟩ := ownA_of_row hO2
  subst hm
  exact ⟨a', c', w2, hr2, h2, h3, h4, hb1.grown hg2 hb1.size (own_blockA hO)⟩
/-- The head of a list, put into a new one. -/
theorem cut_head (w : World) (b off len cap : Nat) (l : List Ac) (hln : l.length = len) (hlt : b < w.heap.size) (hc : ∀ i, i < len → Five w b (off + i * 5) (acAt l i)) (k : Nat) (hk : k ≤ len) (hl : len ≤ 1000) :
    ∃ a' c' w', (Builtin.append_ #[23, 23] 23 #[.slice (some ⟨w.heap.size, 0, none⟩) 0 0, .slice (some ⟨b, off, none⟩) k cap]).run Tryd.prog (w.alloc (.cells #[] 33)) = .ok (.slice a' k c') w' ∧ w'.ownsRow w.heap.size 33 5 (.slice a' k c') (l.take k).length (pcA (l.take k)) ∧ NewA w w' a' k (l.take k) := by
  rw [← hln] at hc
  have hh := acs_take (n := k) (by omega) hlt hc
  have hb0 := bel_alloc w (.cells #[] 33)
  obtain ⟨a1, c1, w1, hr, h1, h2⟩ := append_ownA w (w.alloc (.cells #[] 33)) _ _ [] 0 (rowA_start w _ rfl 33) (some ⟨b, off, none⟩) k cap (l.take k) (hh.below hb0) (by simp; omega) hb0 k (by simp; omega)
  exact ⟨a1, c1, w1, hr, h1, h2⟩
set_option maxHeartbeats 1000000 in
/-- spec.l04Ill. -/
theorem sIll4_any (c : Int) (w : World) :
    Calls Tryd.prog 56 #[.int .i64 c] w fun e w' => e = .returned (.agg #[.slice none 0 0, .int .i64 c]) ∧ Below w.heap.size w w' := by
  go_enter Tryd.func56, Tryd.ntmps56
  go_wp2
  exact bodyPost_ret (v := .agg #[.slice none 0 0, .int .i64 c]) (by simp [results, Tryd.results56, go_sem]) rfl ⟨rfl, bel_alloc _ _⟩
set_option maxRecDepth 100000 in
set_option maxHeartbeats 4000000 in
/-- spec.AceDrop. -/
theorem sAceDrop_any (a : Option Addr) (len cap : Nat) (l : List Ac) (n : Int) (hcap : len ≤ cap) (hlen : len ≤ 1048576) (w : World) (hi : Acs a len l w) :
    Calls Tryd.prog 20 #[.slice a len cap, .int .i64 n] w (AnsP (dropP l n) w) := by
  have e1 := hi.1
  have hbA := bel_alloc w (.cells #[.slice none 0 0, .int .i64 0] 37)
  have hX := box2_new w (.slice none 0 0) (.int .i64 0) 37
  have hF : (w.alloc (.cells #[.slice none 0 0, .int .i64 0] 37)).frozen? ⟨w.heap.size, 0, none⟩ = false ∧ (w.alloc (.cells #[.slice none 0 0, .int .i64 0] 37)).frozen? ⟨w.heap.size, 1, none⟩ = false := by constructor <;> simp [go_sem]
  by_cases h4 : 400 < len
  · have hp : Hid (dropP l n = ([], 2)) := dropP_long (by omega)
    have h4' : (400 : Int) < (len : Int) := by omega
    clear hi e1
    go_enter Tryd.func20, Tryd.ntmps20
    go_wp2_with fail
    refine (sIll4_any _ _).mono ?_
    rintro e w1 ⟨rfl, hb1⟩
    have hB : Hid (Below w.heap.size w w1) := Below.on hbA hb1
    obtain ⟨xl, x0, x1⟩ := hX.below hb1
    obtain ⟨f0, f1⟩ : w1.frozen? ⟨w.heap.size, 0, none⟩ = false ∧ w1.frozen? ⟨w.heap.size, 1, none⟩ = false := ⟨(hb1.frozen (p := ⟨w.heap.size, 0, none⟩) hX.lt).trans hF.1, (hb1.frozen (p := ⟨w.heap.size, 1, none⟩) hX.lt).trans hF.2⟩
    clear hb1 hX hF hbA
    go_wp2
    refine bodyPost_ret (v := .agg #[.slice none 0 0, .int .i64 2]) (by simp [results, Tryd.results20, go_sem, x0, x1]) rfl (ansP_ill hp.out ?_)
    exact bl_setA (bl_setA hB.out (Nat.le_refl _)) (Nat.le_refl _)
  have h4' : ¬ (400 : Int) < (len : Int) := by omega
  have hR : Hid (∀ w', Below w.heap.size w w' → Calls Tryd.prog 24 #[.slice a len cap] w' fun e w'' => e = .returned (.bool (acesB l)) ∧ Below w'.heap.size w' w'') := (fun w' hb => sNfsRight_any a len cap l hlen w' (hi.below hb))
  cases ha : acesB l
  · have hp : Hid (dropP l n = ([], 1)) := dropP_form (by omega) ha
    rw [ha] at hR
    clear hi e1
    go_enter Tryd.func20, Tryd.ntmps20
    go_wp2_with fail
    refine (hR.out _ hbA).mono ?_
    rintro e w0 ⟨rfl, hb0⟩
    have hB0 : Hid (Below w.heap.size w w0) := Below.on hbA hb0
    have hX0 := hX.below hb0
    have hF0 : w0.frozen? ⟨w.heap.size, 0, none⟩ = false ∧ w0.frozen? ⟨w.heap.size, 1, none⟩ = false := ⟨(hb0.frozen (p := ⟨w.heap.size, 0, none⟩) hX.lt).trans hF.1, (hb0.frozen (p := ⟨w.heap.size, 1, none⟩) hX.lt).trans hF.2⟩
    clear hb0 hX hF hbA hR
    go_wp2_with fail
    refine (sIll4_any _ _).mono ?_
    rintro e w1 ⟨rfl, hb1⟩
    have hB : Hid (Below w.heap.size w w1) := Below.on hB0.out hb1
    obtain ⟨xl, x0, x1⟩ := hX0.below hb1
    obtain ⟨f0, f1⟩ : w1.frozen? ⟨w.heap.size, 0, none⟩ = false ∧ w1.frozen? ⟨w.heap.size, 1, none⟩ = false := ⟨(hb1.frozen (p := ⟨w.heap.size, 0, none⟩) hX0.lt).trans hF0.1, (hb1.frozen (p := ⟨w.heap.size, 1, none⟩) hX0.lt).trans hF0.2⟩
    clear hb1 hX0 hF0 hB0
    go_wp2
    refine bodyPost_ret (v := .agg #[.slice none 0 0, .int .i64 1]) (by simp [results, Tryd.results20, go_sem, x0, x1]) rfl (ansP_ill hp.out ?_)
    exact bl_setA (bl_setA hB.out (Nat.le_refl _)) (Nat.le_refl _)
  rw [ha] at hR
  by_cases hn : n < 0 ∨ (l.length : Int) ≤ n
  · have hp : Hid (dropP l n = ([], 8)) := dropP_range (by omega) ha hn
    rw [e1] at hn
    have hno : inR 0 ((len : Int) - 1) n = false := inR_no (by omega)
    have hIs : Hid (∀ w, Calls Tryd.prog 54 #[.int .i64 n, .int .i64 0, .int .i64 ((len : Int) - 1)] w fun e w' => e = .returned (.bool false) ∧ w' = w) := (fun w => by have := sIs_any n 0 ((len : Int) - 1) w; rwa [hno] at this)
    clear hi e1 hno hn
    go_enter Tryd.func20, Tryd.ntmps20
    go_wp2_with fail
    refine (hR.out _ hbA).mono ?_
    rintro e w0 ⟨rfl, hb0⟩
    have hB0 : Hid (Below w.heap.size w w0) := Below.on hbA hb0
    have hX0 := hX.below hb0
    have hF0 : w0.frozen? ⟨w.heap.size, 0, none⟩ = false ∧ w0.frozen? ⟨w.heap.size, 1, none⟩ = false := ⟨(hb0.frozen (p := ⟨w.heap.size, 0, none⟩) hX.lt).trans hF.1, (hb0.frozen (p := ⟨w.heap.size, 1, none⟩) hX.lt).trans hF.2⟩
    clear hb0 hX hF hbA hR
    go_wp2_with fail
    refine (hIs.out _).mono ?_
    rintro e w0 ⟨rfl, rfl⟩
    go_wp2_with fail
    refine (sIll4_any _ _).mono ?_
    rintro e w1 ⟨rfl, hb1⟩
    have hB : Hid (Below w.heap.size w w1) := Below.on hB0.out hb1
    obtain ⟨xl, x0, x1⟩ := hX0.below hb1
    obtain ⟨f0, f1⟩ : w1.frozen? ⟨w.heap.size, 0, none⟩ = false ∧ w1.frozen? ⟨w.heap.size, 1, none⟩ = false := ⟨(hb1.frozen (p := ⟨w.heap.size, 0, none⟩) hX0.lt).trans hF0.1, (hb1.frozen (p := ⟨w.heap.size, 1, none⟩) hX0.lt).trans hF0.2⟩
    clear hb1 hX0 hF0 hB0 hIs
    go_wp2
    refine bodyPost_ret (v := .agg #[.slice none 0 0, .int .i64 8]) (by simp [results, Tryd.results20, go_sem, x0, x1]) rfl (ansP_ill hp.out ?_)
    exact bl_setA (bl_setA hB.out (Nat.le_refl _)) (Nat.le_refl _)
  obtain ⟨k, rfl⟩ := Int.eq_ofNat_of_zero_le (by omega : 0 ≤ n)
  have hk : k < len := by omega
  have hk' : (k : Int) < (len : Int) := by omega
  have hp : Hid (dropP l (k : Int) = (l.take k ++ l.drop (k + 1), 0)) := (by have := dropP_yes (k := k) ha (by omega); rw [List.append_nil] at this; exact this)
  have hyes : inR 0 ((len : Int) - 1) (k : Int) = true := inR_yes (by omega) (by omega)
  have hIs : Hid (∀ (m : Int) w, m = (len : Int) - 1 → Calls Tryd.prog 54 #[.int .i64 k, .int .i64 0, .int .i64 m] w fun e w' => e = .returned (.bool true) ∧ w' = w) := (fun m w hm => by have := sIs_any k 0 m w; rw [hm, hyes] at this; rw [hm]; exact this)
  obtain ⟨hln, hpp⟩ := hi
  obtain ⟨b, off, rfl, hlt, hc⟩ := hpp (by omega)
  have HC : Hid (b < w.heap.size ∧ ∀ i, i < len → Five w b (off + i * 5) (acAt l i)) := ⟨hlt, hc⟩
  have HLN : Hid (l.length = len) := hln
  have k1 : (k : Int) ≤ (cap : Int) := by omega
  have k2 : (k : Int) + 1 ≤ (len : Int) := by omega
  have k3 : (len : Int) ≤ (cap : Int) := by omega
  clear hpp hn hyes hln hlt hc e1
  go_enter Tryd.func20, Tryd.ntmps20
  go_wp2_with fail
  refine (hR.out _ hbA).mono ?_
  rintro e w0 ⟨rfl, hb0⟩
  have hB0 : Hid (Below w.heap.size w w0) := Below.on hbA hb0
  have hX0 := hX.below hb0
  have hF0 : w0.frozen? ⟨w.heap.size, 0, none⟩ = false ∧ w0.frozen? ⟨w.heap.size, 1, none⟩ = false := ⟨(hb0.frozen (p := ⟨w.heap.size, 0, none⟩) hX.lt).trans hF.1, (hb0.frozen (p := ⟨w.heap.size, 1, none⟩) hX.lt).trans hF.2⟩
  clear hb0 hX hF hbA hR
  obtain ⟨a1, c1, w1, hr1, hO1, hN1⟩ := cut_head w0 b off len cap l HLN.out (Nat.lt_of_lt_of_le HC.out.1 hB0.out.size) (fun i hi => (HC.out.2 i hi).below HC.out.1 hB0.out) k (by omega) (by omega)
  have hc1 : ∀ i, i < l.length → Five w1 b (off + i * 5) (acAt l i) := (fun i hi => (HC.out.2 i (by rw [← HLN.out]; exact hi)).below HC.out.1 (Below.on hB0.out hN1.bel))
  have ht := acs_drop (n := k + 1) (by rw [HLN.out]; omega) (Nat.lt_of_lt_of_le HC.out.1 (Below.on hB0.out hN1.bel).size) hc1
  rw [HLN.out] at ht
  have hsum : (l.take k ++ l.drop (k + 1)).length = k + (len - (k + 1)) := by simp [HLN.out]; omega
  have fin : Hid (∀ a2 w2, NewA w0 w2 a2 (k + (len - (k + 1))) (l.take k ++ l.drop (k + 1)) → (Box2 w2 w.heap.size (.slice none 0 0) (.int .i64 0) ∧ w2.frozen? ⟨w.heap.size, 0, none⟩ = false ∧ w2.frozen? ⟨w.heap.size, 1, none⟩ = false) ∧ NewA w w2 a2 (k + (len - (k + 1))) (l.take k ++ l.drop (k + 1)) ∧ (∀ A, a2 = some A → w.heap.size ≠ A.block)) := (fun a2 w2 hN => by
    refine ⟨⟨hX0.below hN.bel, (hN.bel.frozen (p := ⟨w.heap.size, 0, none⟩) hX0.lt).trans hF0.1, (hN.bel.frozen (p := ⟨w.heap.size, 1, none⟩) hX0.lt).trans hF0.2⟩, hN.pre hB0.out, fun A e => ?_⟩
    have h1 := (hN.inn A e).1
    have h2 := hX0.lt
    omega)
  by_cases hq : cap = k + 1
  · obtain ⟨a2, c2, w2, hr2, hzz, hN2⟩ := append_ownA w0 w1 a1 c1 (l.take k) k hO1 (some ⟨b, off, none⟩) (len - (k + 1)) 0 (l.drop (k + 1)) ⟨ht.1, fun h => absurd h (by omega)⟩ (by simp; omega) hN1.bel _ hsum
    clear hzz
    obtain ⟨⟨⟨xl, x0, x1⟩, f0, f1⟩, hN3, hne⟩ := fin.out a2 w2 hN2
    have HN : Hid (NewA w w2 a2 (k + (len - (k + 1))) (l.take k ++ l.drop (k + 1)) ∧ ∀ A, a2 = some A → w.heap.size ≠ A.block) := ⟨hN3, hne⟩
    have HS : Hid ((l.take k ++ l.drop (k + 1)).length = k + (len - (k + 1))) := hsum
    have hlk : len = k + 1 := by omega
    clear fin hO1 hN1 hc1 ht hsum hN2 hN3 hne hX0 hF0 HC hB0
    obtain ⟨sz, hsz⟩ : ∃ sz, sz = k + (len - (k + 1)) := ⟨_, rfl⟩
    rw [← hsz] at hr2 HN HS
    clear hsz
    subst hq
    subst hlk
    simp only [Nat.sub_self] at hr2
    go_wp2_with (first | (go_at_call 54; refine (hIs.out _ _ (by omega)).mono ?_; rintro e w0 ⟨rfl, rfl⟩) | (at_builtin; first | refine wpList_append_runA _ rfl (.tmp 21) (.tmp 24) 23 23 rfl _ _ _ _ rfl rfl hr1 ?_ | refine wpList_append_runA _ rfl (.tmp 26) (.tmp 30) 23 23 rfl _ _ _ _ rfl rfl hr2 ?_))
    refine bodyPost_ret (v := .agg #[.slice a2 sz c2, .int .i64 0]) (by simp [results, Tryd.results20, go_sem, x0, x1]) rfl (ansP_of hp.out HS.out ?_)
    exact (HN.out.1.set (Nat.le_refl _) HN.out.2).set (Nat.le_refl _) HN.out.2
  · have k4 : (k : Int) + 1 < (cap : Int) := by omega
    obtain ⟨a2, c2, w2, hr2, hzz, hN2⟩ := append_ownA w0 w1 a1 c1 (l.take k) k hO1 (some ⟨b, off + (k + 1) * 5, none⟩) (len - (k + 1)) (cap - (k + 1)) (l.drop (k + 1)) ht (by simp; omega) hN1.bel _ hsum
    clear hzz
    obtain ⟨⟨⟨xl, x0, x1⟩, f0, f1⟩, hN3, hne⟩ := fin.out a2 w2 hN2
    have HN : Hid (NewA w w2 a2 (k + (len - (k + 1))) (l.take k ++ l.drop (k + 1)) ∧ ∀ A, a2 = some A → w.heap.size ≠ A.block) := ⟨hN3, hne⟩
    have HS : Hid ((l.take k ++ l.drop (k + 1)).length = k + (len - (k + 1))) := hsum
    clear fin hO1 hN1 hc1 ht hsum hN2 hN3 hne hX0 hF0 HC hB0 hq
    obtain ⟨sz, hsz⟩ : ∃ sz, sz = k + (len - (k + 1)) := ⟨_, rfl⟩
    rw [← hsz] at hr2 HN HS
    clear hsz
    go_wp2_with (first | (go_at_call 54; refine (hIs.out _ _ (by omega)).mono ?_; rintro e w0 ⟨rfl, rfl⟩) | (at_builtin; first | refine wpList_append_runA _ rfl (.tmp 21) (.tmp 24) 23 23 rfl _ _ _ _ rfl rfl hr1 ?_ | refine wpList_append_runA _ rfl (.tmp 26) (.tmp 30) 23 23 rfl _ _ _ _ rfl rfl hr2 ?_))
    all_goals (
      refine bodyPost_ret (v := .agg #[.slice a2 sz c2, .int .i64 0]) (by simp [results, Tryd.results20, go_sem, x0, x1]) rfl (ansP_of hp.out HS.out ?_)
      exact (HN.out.1.set (Nat.le_refl _) HN.out.2).set (Nat.le_refl _) HN.out.2)
end Go.Proofs.YtdidbaadladkpaaDoor
