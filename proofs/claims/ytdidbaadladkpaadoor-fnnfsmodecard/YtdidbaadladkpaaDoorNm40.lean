/- Laid together: AceConcat, ChmodM, ChmodM2. -/
import Derived.Test.YtdidbaadladkpaaDoorNm29
import Derived.Test.YtdidbaadladkpaaDoorNm39
import Derived.Test.YtdidbaadladkpaaDoorNm24
/- slices.Grow and slices.Concat at lists of aces. -/
namespace Go.Proofs.YtdidbaadladkpaaDoor
open Go.RowKit Go.PlainAid Go.Deep
set_option linter.unusedVariables false
set_option maxRecDepth 100000 in
/-- append of n zero values onto nil. -/
theorem append_zerosA (n : Nat) (h0 : 0 < n) (h1 : n ≤ 1000000) (ty : TypeId) (w : World) :
    ∃ c w', (Builtin.append_ #[23, 3] ty #[.slice none 0 0, .int .i64 n]).run Tryd.prog w = .ok (.slice (some ⟨w.heap.size, 0, none⟩) n c) w' ∧ n ≤ c ∧ w'.ownsRow w.heap.size 33 5 (.slice (some ⟨w.heap.size, 0, none⟩) 0 c) 0 [] ∧ Below w.heap.size w w' := by
  obtain ⟨i, hi, hzz⟩ := Option.map_eq_some_iff.1 infoAce
  simp only [Prod.mk.injEq] at hzz
  obtain ⟨hz, hs, hb⟩ := hzz
  have hr := Go.Lib.run_append_nil_zeros (P := Tryd.prog) w 23 3 ty 33 i _ .i64 .i64 Tryd.underlying23 Tryd.underlying3 hi hz n h0 (by omega) (by omega) (by rw [hb]; omega)
  have hge := grownCap_ge w n 0 33
  have hcm : grownCap w n 0 33 ≤ maxLen := grownCap_le_maxLen w n 0 33 (by unfold maxLen; omega)
  refine ⟨_, _, hr, hge, ?_, ?_⟩
  · refine World.ownsRow_made w.drew _ _ (Nat.le_refl _) hcm ?_
    simp only [Array.size_append, size_zeroCells]
    rw [← Nat.add_mul]
    congr 1
    omega
  · exact Below.trans (b := w.drew) ⟨rfl, rfl, rfl, Nat.le_refl _, fun _ _ => rfl⟩ (bel_alloc w.drew _)
set_option maxRecDepth 100000 in
set_option maxHeartbeats 2000000 in
theorem grow_nilA (n : Nat) (h1 : n ≤ 1000000) (w : World) :
    Calls Tryd.prog 101 #[.slice none 0 0, .int .i64 n] w fun e w' => ∃ v, e = .returned v ∧ w'.ownsRow w.heap.size 33 5 v 0 [] ∧ Below w.heap.size w w' := by
  have d0 : decide ((n : Int) < 0) = false := decide_eq_false (by omega)
  by_cases h0 : n = 0
  · subst h0
    go_enter Tryd.func101, Tryd.ntmps101
    go_wp2
    go_ret
    exact ⟨_, rfl, World.ownsRow_nil _ _ _ _, Below.refl _ _⟩
  · have hp : 0 < (n : Int) := by omega
    obtain ⟨c, w1, hr, hnc, hown, hbel⟩ := append_zerosA n (by omega) h1 23 w
    have hc0 : (0 : Int) ≤ (c : Int) := by omega
    have HO : Hid (w1.ownsRow w.heap.size 33 5 (.slice (some ⟨w.heap.size, 0, none⟩) 0 c) 0 []) := hown
    have HB : Hid (Below w.heap.size w w1) := hbel
    clear h0 hown hbel
    go_enter Tryd.func101, Tryd.ntmps101
    go_wp2_with (at_builtin; refine wpList_append_runA _ rfl (.tmp 20) (.tmp 21) 23 3 rfl _ _ _ _ rfl rfl hr ?_)
    go_ret
    exact ⟨_, rfl, HO.out, HB.out⟩
theorem own_capA {w : World} {B : Nat} {t : TypeId} {a : Option Addr} {n c : Nat} {xs : List Value} (h : w.ownsRow B t 5 (.slice a n c) n xs) : n ≤ c := by
  obtain ⟨_, ⟨h, hn⟩ | ⟨g, cap, cur, h, _, _, hc, _⟩⟩ := h
  · omega
  · cases h
    exact hc
/-- The first k lists, one behind the other. -/
def catA (ls : Nat → List Ac) : Nat → List Ac
  | 0 => []
  | k + 1 => catA ls k ++ ls k
theorem cat_monoA (ls : Nat → List Ac) {j k : Nat} (h : j ≤ k) : (catA ls j).length ≤ (catA ls k).length := by
  induction k with
  | zero => have : j = 0 := by omega
            subst this; exact Nat.le_refl _
  | succ k ih =>
    by_cases e : j = k + 1
    · subst e; exact Nat.le_refl _
    · have := ih (by omega)
      simp only [catA, List.length_append]
      omega
set_option maxRecDepth 100000 in
set_option maxHeartbeats 4000000 in
/-- slices.Concat of n lists that lie in a row. -/
theorem concat_anyA (A n : Nat) (cap : Nat) (ads : Nat → Option Addr) (cs : Nat → Nat) (ls : Nat → List Ac) (hn : n ≤ 1000) (hN : (catA ls n).length ≤ 1000000) (w : World) (hA : A < w.heap.size)
    (hc : ∀ j, j < n → w.cell? ⟨A, j, none⟩ = some (.slice (ads j) (ls j).length (cs j)) ∧ Acs (ads j) (ls j).length (ls j) w) :
    Calls Tryd.prog 79 #[.slice (some ⟨A, 0, none⟩) n cap] w fun e w' => ∃ a c, e = .returned (.slice a (catA ls n).length c) ∧ (catA ls n).length ≤ c ∧ OwnA a (catA ls n).length (catA ls n) w' ∧ (∀ Ad, a = some Ad → w.heap.size ≤ Ad.block ∧ Ad.block < w'.heap.size) ∧ Below w.heap.size w w' := by
  have HC : Hid (∀ j, j < n → w.cell? ⟨A, j, none⟩ = some (.slice (ads j) (ls j).length (cs j)) ∧ Acs (ads j) (ls j).length (ls j) w) := hc
  have HM : Hid (∀ k, k ≤ n → (catA ls k).length ≤ 1000000) := (fun k hk => Nat.le_trans (cat_monoA ls hk) hN)
  clear hc
  go_enter Tryd.func79, Tryd.ntmps79
  go_wp2
  go_loop [3, 11] (fun s i => ∃ k : Nat, k ≤ n ∧ i = .int .i64 k ∧ s = .int .i64 ((catA ls k).length : Nat)) (fun _ i => n - (intOf i).toNat)
  case atStart => exact ⟨0, Nat.zero_le _, rfl, rfl⟩
  case round =>
    obtain ⟨k, hk, rfl, rfl⟩ := hrel
    by_cases hlt : k < n
    · have hlt' : (k : Int) < (n : Int) := by omega
      obtain ⟨g0, _⟩ := HC.out k hlt
      have hm := HM.out k hk
      have hm1 := HM.out (k + 1) hlt
      have el : (catA ls (k + 1)).length = (catA ls k).length + (ls k).length := by simp [catA]
      have EL : Hid ((catA ls (k + 1)).length = (catA ls k).length + (ls k).length) := el
      have hsum : ((catA ls k).length : Int) + ((ls k).length : Int) ≤ 1000000 := by omega
      have d1 : decide (((catA ls k).length : Int) + ((ls k).length : Int) < 0) = false := decide_eq_false (by omega)
      clear el hm1
      go_wp2
      go_round
      case rel => exact ⟨k + 1, by omega, by go_num, by rw [EL.out]; go_num⟩
      case measure => simp [intOf]; omega
    · have : k = n := by omega
      subst this
      have hm := HM.out k hk
      go_wp2_with fail
      refine (grow_nilA (catA ls k).length hm _).mono ?_
      rintro e w1 ⟨v, rfl, hown, hb1⟩
      have HO : Hid (w1.ownsRow w.heap.size 33 5 v 0 []) := hown
      have HB1 : Hid (Below w.heap.size w w1) := hb1
      clear hown hb1
      go_wp2
      go_loopw [6, 27] (fun v i wr => ∃ j : Nat, j ≤ k ∧ i = .int .i64 j ∧ Hid (wr.ownsRow w.heap.size 33 5 v (catA ls j).length (pcA (catA ls j))) ∧ Hid (Below w.heap.size w wr)) (fun _ i _ => k - (intOf i).toNat)
      case atStart => exact ⟨0, Nat.zero_le _, rfl, HO, HB1⟩
      case round =>
        obtain ⟨j, hj, rfl, hO, hB⟩ := hrel
        by_cases hlt2 : j < k
        · have hlt' : (j : Int) < (k : Int) := by omega
          obtain ⟨g0, hp⟩ := HC.out j hlt2
          have g1 : wr.cell? ⟨A, j, none⟩ = some (.slice (ads j) (ls j).length (cs j)) := (hB.out.cell (p := ⟨A, j, none⟩) hA).trans g0
          have hm1 := HM.out (j + 1) hlt2
          have el : (catA ls (j + 1)).length = (catA ls j).length + (ls j).length := by simp [catA]
          obtain ⟨v2, w2, hr, hO2, hg2⟩ := run_append_acs (P := Tryd.prog) wr w.heap.size 23 23 33 Tryd.underlying23 infoAce u6 (catA ls j) hO.out (ads j) (ls j).length (cs j) (ls j) (hp.below hB.out) (by omega) hB.out.size
          have HO2 : Hid (w2.ownsRow w.heap.size 33 5 v2 (catA ls (j + 1)).length (pcA (catA ls (j + 1)))) := hO2
          have HB2 : Hid (Below w.heap.size w w2) := hB.out.grown hg2 hB.out.size (own_blockA hO.out)
          clear el hm1 hO2 hg2 g0 hp hO hB HO HB1
          go_wp2_with (at_builtin; refine wpList_append_runA _ rfl (.tmp 31) (.tmp 32) 23 23 rfl _ _ _ _ rfl rfl hr ?_)
          go_roundw
          case rel => exact ⟨j + 1, by omega, by go_num, HO2, HB2⟩
          case measure => simp [intOf]; omega
        · have : j = k := by omega
          subst this
          go_wp2
          go_ret
          obtain ⟨a, c, rfl, h1, h2⟩ := ownA_of_row hO.out
          exact ⟨a, c, rfl, own_capA hO.out, h1, h2, hB.out⟩
end Go.Proofs.YtdidbaadladkpaaDoor
/- modeAces of the program. -/
namespace Go.Proofs.YtdidbaadladkpaaDoor
open Go.RowKit Go.PlainAid Go.Deep
set_option linter.unusedVariables false
/-- The owner's two. -/
def ownL (u : Int) : List Ac := [⟨true, 1, 0, 0, bits .or .i64 (bits .or .i64 (bitsZ u) 32) 64⟩, ⟨false, 1, 0, 0, bitsZ (7 - u)⟩]
/-- The last three. -/
def rstL (g o : Int) : List Ac := [⟨true, 2, 0, 0, bitsZ g⟩, ⟨false, 2, 0, 0, bitsZ (7 - g)⟩, ⟨true, 3, 0, 0, bits .or .i64 (bitsZ o) 32⟩]
/-- modeAces. -/
def moL (l : List Ac) (u g o : Int) : List Ac := hdTo l l.length ++ ownL u ++ (fltP nmdB l l.length).map (ctA g) ++ rstL g o
theorem acs_two (w : World) (x y : Ac) (t : TypeId) : Acs (some ⟨w.heap.size, 0, none⟩) 2 [x, y] (w.alloc (.cells #[.bool x.al, .int .i64 x.wh, .int .i64 x.id, .int .i64 x.fl, .int .i64 x.ma, .bool y.al, .int .i64 y.wh, .int .i64 y.id, .int .i64 y.fl, .int .i64 y.ma] t)) := by
  refine ⟨rfl, fun _ => ⟨w.heap.size, 0, rfl, by simp, fun i hi => ?_⟩⟩
  have hb : (w.alloc (.cells #[.bool x.al, .int .i64 x.wh, .int .i64 x.id, .int .i64 x.fl, .int .i64 x.ma, .bool y.al, .int .i64 y.wh, .int .i64 y.id, .int .i64 y.fl, .int .i64 y.ma] t)).heap[w.heap.size]? = some (.cells #[.bool x.al, .int .i64 x.wh, .int .i64 x.id, .int .i64 x.fl, .int .i64 x.ma, .bool y.al, .int .i64 y.wh, .int .i64 y.id, .int .i64 y.fl, .int .i64 y.ma] t) := World.alloc_heap_new w _
  rcases (by omega : i = 0 ∨ i = 1) with rfl | rfl <;> refine ⟨?_, ?_, ?_, ?_, ?_⟩ <;> (simp only [World.cell?, hb]; rfl)
theorem acs_three (w : World) (x y z : Ac) (t : TypeId) : Acs (some ⟨w.heap.size, 0, none⟩) 3 [x, y, z] (w.alloc (.cells #[.bool x.al, .int .i64 x.wh, .int .i64 x.id, .int .i64 x.fl, .int .i64 x.ma, .bool y.al, .int .i64 y.wh, .int .i64 y.id, .int .i64 y.fl, .int .i64 y.ma, .bool z.al, .int .i64 z.wh, .int .i64 z.id, .int .i64 z.fl, .int .i64 z.ma] t)) := by
  refine ⟨rfl, fun _ => ⟨w.heap.size, 0, rfl, by simp, fun i hi => ?_⟩⟩
  have hb : (w.alloc (.cells #[.bool x.al, .int .i64 x.wh, .int .i64 x.id, .int .i64 x.fl, .int .i64 x.ma, .bool y.al, .int .i64 y.wh, .int .i64 y.id, .int .i64 y.fl, .int .i64 y.ma, .bool z.al, .int .i64 z.wh, .int .i64 z.id, .int .i64 z.fl, .int .i64 z.ma] t)).heap[w.heap.size]? = some (.cells #[.bool x.al, .int .i64 x.wh, .int .i64 x.id, .int .i64 x.fl, .int .i64 x.ma, .bool y.al, .int .i64 y.wh, .int .i64 y.id, .int .i64 y.fl, .int .i64 y.ma, .bool z.al, .int .i64 z.wh, .int .i64 z.id, .int .i64 z.fl, .int .i64 z.ma] t) := World.alloc_heap_new w _
  rcases (by omega : i = 0 ∨ i = 1 ∨ i = 2) with rfl | rfl | rfl <;> refine ⟨?_, ?_, ?_, ?_, ?_⟩ <;> (simp only [World.cell?, hb]; rfl)
theorem four_new (w : World) (a b c d : Value) (t : TypeId) : (w.alloc (.cells #[a, b, c, d] t)).cell? ⟨w.heap.size, 0, none⟩ = some a ∧ (w.alloc (.cells #[a, b, c, d] t)).cell? ⟨w.heap.size, 1, none⟩ = some b ∧ (w.alloc (.cells #[a, b, c, d] t)).cell? ⟨w.heap.size, 2, none⟩ = some c ∧ (w.alloc (.cells #[a, b, c, d] t)).cell? ⟨w.heap.size, 3, none⟩ = some d := by
  have hb : (w.alloc (.cells #[a, b, c, d] t)).heap[w.heap.size]? = some (.cells #[a, b, c, d] t) := World.alloc_heap_new w _
  refine ⟨?_, ?_, ?_, ?_⟩ <;> (simp only [World.cell?, hb]; rfl)
theorem fltP_length_le (p : Ac → Bool) (l : List Ac) (k : Nat) : (fltP p l k).length ≤ k := fltP_len p l k
/-- slices.Concat of four lists. -/
theorem concat_four (w : World) (a0 a1 a2 a3 : Option Addr) (n0 n1 n2 n3 c0 c1 c2 c3 : Nat) (l0 l1 l2 l3 : List Ac) (h0 : Acs a0 n0 l0 w) (h1 : Acs a1 n1 l1 w) (h2 : Acs a2 n2 l2 w) (h3 : Acs a3 n3 l3 w) (hs : n0 + n1 + n2 + n3 ≤ 100000) (t : TypeId) :
    Calls Tryd.prog 79 #[.slice (some ⟨w.heap.size, 0, none⟩) 4 4] (w.alloc (.cells #[.slice a0 n0 c0, .slice a1 n1 c1, .slice a2 n2 c2, .slice a3 n3 c3] t)) fun e w' => ∃ a c, e = .returned (.slice a (l0 ++ l1 ++ l2 ++ l3).length c) ∧ (l0 ++ l1 ++ l2 ++ l3).length ≤ c ∧ OwnA a (l0 ++ l1 ++ l2 ++ l3).length (l0 ++ l1 ++ l2 ++ l3) w' ∧ (∀ Ad, a = some Ad → w.heap.size ≤ Ad.block ∧ Ad.block < w'.heap.size) ∧ Below w.heap.size w w' := by
  have hb := bel_alloc w (.cells #[.slice a0 n0 c0, .slice a1 n1 c1, .slice a2 n2 c2, .slice a3 n3 c3] t)
  obtain ⟨q0, q1, q2, q3⟩ := four_new w (.slice a0 n0 c0) (.slice a1 n1 c1) (.slice a2 n2 c2) (.slice a3 n3 c3) t
  have hz : (w.alloc (.cells #[.slice a0 n0 c0, .slice a1 n1 c1, .slice a2 n2 c2, .slice a3 n3 c3] t)).heap.size = w.heap.size + 1 := by simp
  have e0 := h0.1
  have e1 := h1.1
  have e2 := h2.1
  have e3 := h3.1
  have hcat : catA (fun j => match j with | 0 => l0 | 1 => l1 | 2 => l2 | _ => l3) 4 = l0 ++ l1 ++ l2 ++ l3 := by simp [catA]
  have := concat_anyA w.heap.size 4 4 (fun j => match j with | 0 => a0 | 1 => a1 | 2 => a2 | _ => a3) (fun j => match j with | 0 => c0 | 1 => c1 | 2 => c2 | _ => c3) (fun j => match j with | 0 => l0 | 1 => l1 | 2 => l2 | _ => l3) (by omega) (by rw [hcat]; simp; omega) _ (by rw [hz]; omega) (fun j hj => by
    rcases (by omega : j = 0 ∨ j = 1 ∨ j = 2 ∨ j = 3) with rfl | rfl | rfl | rfl
    · exact ⟨by show _ = some (Value.slice a0 l0.length c0); rw [q0, e0], by show Acs a0 l0.length l0 _; rw [e0]; exact h0.below hb⟩
    · exact ⟨by show _ = some (Value.slice a1 l1.length c1); rw [q1, e1], by show Acs a1 l1.length l1 _; rw [e1]; exact h1.below hb⟩
    · exact ⟨by show _ = some (Value.slice a2 l2.length c2); rw [q2, e2], by show Acs a2 l2.length l2 _; rw [e2]; exact h2.below hb⟩
    · exact ⟨by show _ = some (Value.slice a3 l3.length c3); rw [q3, e3], by show Acs a3 l3.length l3 _; rw [e3]; exact h3.below hb⟩)
  rw [hcat] at this
  refine this.mono ?_
  rintro e w' ⟨a, c, rfl, g1, g2, g3, g4⟩
  exact ⟨a, c, rfl, g1, g2, fun Ad e => ⟨by have := (g3 Ad e).1; omega, (g3 Ad e).2⟩, Below.on hb g4⟩
end Go.Proofs.YtdidbaadladkpaaDoor
/- modeAces of the program: the walk. -/
namespace Go.Proofs.YtdidbaadladkpaaDoor
open Go.RowKit Go.PlainAid Go.Deep
set_option linter.unusedVariables false
set_option maxRecDepth 100000 in
set_option maxHeartbeats 4000000 in
/-- impl.modeAces. -/
theorem modeAces_any (a : Option Addr) (len cap : Nat) (l : List Ac) (hb : acesB l = true) (k : Nat) (hk : k ≤ 4095) (w : World) (hi : Acs a len l w) (hp : PlW w) :
    Calls Tryd.prog 66 #[.slice a len cap, .int .i64 (k : Int)] w fun e w' => ∃ a' c, e = .returned (.slice a' (moL l ((k : Int) / 64 % 8) ((k : Int) / 8 % 8) ((k : Int) % 8)).length c) ∧ (moL l ((k : Int) / 64 % 8) ((k : Int) / 8 % 8) ((k : Int) % 8)).length ≤ c ∧ NewA w w' a' (moL l ((k : Int) / 64 % 8) ((k : Int) / 8 % 8) ((k : Int) % 8)).length (moL l ((k : Int) / 64 % 8) ((k : Int) / 8 % 8) ((k : Int) % 8)) := by
  have hln : len ≤ 32 := by rw [← hi.1]; exact aces_len hb
  have HT : Hid (∀ w, Calls Tryd.prog 85 #[.int .i64 (k : Int)] w fun e w' => e = .returned (.tuple #[.int .i64 ((k : Int) / 64 % 8), .int .i64 ((k : Int) / 8 % 8), .int .i64 ((k : Int) % 8)]) ∧ w' = w) := threeBits_in k hk
  have hu0 : 0 ≤ (k : Int) / 64 % 8 := by omega
  have hu1 : (k : Int) / 64 % 8 ≤ 7 := by omega
  have hg0 : 0 ≤ (k : Int) / 8 % 8 := by omega
  have hg1 : (k : Int) / 8 % 8 ≤ 7 := by omega
  have ho0 : 0 ≤ (k : Int) % 8 := by omega
  have ho1 : (k : Int) % 8 ≤ 7 := by omega
  generalize (k : Int) / 64 % 8 = u at HT hu0 hu1 ⊢
  generalize (k : Int) / 8 % 8 = g at HT hg0 hg1 ⊢
  generalize (k : Int) % 8 = o at HT ho0 ho1 ⊢
  have HNB : Hid (∀ n W, Below w.heap.size w W → Calls Tryd.prog 25 #[.int .i64 n] W fun e w' => e = .returned (.int .i64 (bitsZ n)) ∧ Below W.heap.size W w') := (fun n W hb => iNfsBits_any n W (hp.below hb))
  have HH : Hid (∀ W, Below w.heap.size w W → Calls Tryd.prog 86 #[.slice a len cap] W (AnsL (hdTo l len) W)) := (fun W h => handed_any a len cap l hb W (hi.below h))
  have HNM : Hid (∀ W, Below w.heap.size w W → Calls Tryd.prog 87 #[.slice a len cap, .int .i64 g] W (AnsL ((fltP nmdB l len).map (ctA g)) W)) := (fun W h => named_anyC a len cap l g (by omega) (fun i h2 => (ace_range hb (by rw [hi.1]; exact h2)).1) W (hi.below h) (hp.below h))
  have HL : Hid (moL l u g o = hdTo l len ++ ownL u ++ (fltP nmdB l len).map (ctA g) ++ rstL g o) := (by show _ = _; rw [moL, hi.1])
  have HLE : Hid ((hdTo l len).length ≤ len ∧ ((fltP nmdB l len).map (ctA g)).length ≤ len) := ⟨hd_len l len, by rw [List.length_map]; exact fltP_len _ _ _⟩
  generalize moL l u g o = ML at HL ⊢
  generalize hdTo l len = L0 at HH HL HLE
  generalize (fltP nmdB l len).map (ctA g) = L2 at HNM HL HLE
  have HOW : Hid (ownL u = [⟨true, 1, 0, 0, bits .or .i64 (bits .or .i64 (bitsZ u) 32) 64⟩, ⟨false, 1, 0, 0, bitsZ (7 - u)⟩]) := rfl
  have HRS : Hid (rstL g o = [⟨true, 2, 0, 0, bitsZ g⟩, ⟨false, 2, 0, 0, bitsZ (7 - g)⟩, ⟨true, 3, 0, 0, bits .or .i64 (bitsZ o) 32⟩]) := rfl
  clear hp hi hb hk
  go_enter Tryd.func66, Tryd.ntmps66
  go_wp2_with fail
  refine (HT.out _).mono ?_
  rintro e w1 ⟨rfl, rfl⟩
  clear HT
  go_wp2_with fail
  refine (HNB.out u _ (Below.refl _ _)).mono ?_
  rintro e w2 ⟨rfl, hb2⟩
  have hW2 : Hid (Below w1.heap.size w1 w2) := hb2
  clear hb2
  go_wp2_with fail
  refine (HNB.out (7 - u) _ hW2.out).mono ?_
  rintro e w3 ⟨rfl, hb3⟩
  have hW3 : Hid (Below w1.heap.size w1 w3) := Below.on hW2.out hb3
  clear hb3 hW2
  generalize bitsZ (7 - u) = bu7 at HOW ⊢
  generalize bits .or .i64 (bits .or .i64 (bitsZ u) 32) 64 = bu at HOW ⊢
  have hA1 : Hid (Acs (some ⟨w3.heap.size, 0, none⟩) 2 (ownL u) (w3.alloc (.cells #[.bool true, .int .i64 1, .int .i64 0, .int .i64 0, .int .i64 bu, .bool false, .int .i64 1, .int .i64 0, .int .i64 0, .int .i64 bu7] 33))) := (by rw [HOW.out]; exact acs_two w3 ⟨true, 1, 0, 0, bu⟩ ⟨false, 1, 0, 0, bu7⟩ _)
  have hW4 : Hid (Below w1.heap.size w1 (w3.alloc (.cells #[.bool true, .int .i64 1, .int .i64 0, .int .i64 0, .int .i64 bu, .bool false, .int .i64 1, .int .i64 0, .int .i64 0, .int .i64 bu7] 33))) := Below.on hW3.out (bel_alloc _ _)
  go_wp2_with fail
  generalize (w3.alloc (.cells #[.bool true, .int .i64 1, .int .i64 0, .int .i64 0, .int .i64 bu, .bool false, .int .i64 1, .int .i64 0, .int .i64 0, .int .i64 bu7] 33)) = w4 at hA1 hW4 ⊢
  refine (HNB.out g _ hW4.out).mono ?_
  rintro e w5 ⟨rfl, hb5⟩
  have hW5 : Hid (Below w1.heap.size w1 w5) := Below.on hW4.out hb5
  have hA5 : Hid (Acs (some ⟨w3.heap.size, 0, none⟩) 2 (ownL u) w5) := hA1.out.below hb5
  clear hb5 hW4 hA1
  go_wp2_with fail
  refine (HNB.out (7 - g) _ hW5.out).mono ?_
  rintro e w6 ⟨rfl, hb6⟩
  have hW6 : Hid (Below w1.heap.size w1 w6) := Below.on hW5.out hb6
  have hA6 : Hid (Acs (some ⟨w3.heap.size, 0, none⟩) 2 (ownL u) w6) := hA5.out.below hb6
  clear hb6 hW5 hA5
  go_wp2_with fail
  refine (HNB.out o _ hW6.out).mono ?_
  rintro e w7 ⟨rfl, hb7⟩
  have hW7 : Hid (Below w1.heap.size w1 w7) := Below.on hW6.out hb7
  have hA7 : Hid (Acs (some ⟨w3.heap.size, 0, none⟩) 2 (ownL u) w7) := hA6.out.below hb7
  clear hb7 hW6 hA6
  generalize bitsZ o = bo at HRS ⊢
  generalize bitsZ (7 - g) = bg7 at HRS ⊢
  generalize bitsZ g = bg at HRS ⊢
  have hA3 : Hid (Acs (some ⟨w7.heap.size, 0, none⟩) 3 (rstL g o) (w7.alloc (.cells #[.bool true, .int .i64 2, .int .i64 0, .int .i64 0, .int .i64 bg, .bool false, .int .i64 2, .int .i64 0, .int .i64 0, .int .i64 bg7, .bool true, .int .i64 3, .int .i64 0, .int .i64 0, .int .i64 (bits .or .i64 bo 32)] 33))) := (by rw [HRS.out]; exact acs_three w7 ⟨true, 2, 0, 0, bg⟩ ⟨false, 2, 0, 0, bg7⟩ ⟨true, 3, 0, 0, bits .or .i64 bo 32⟩ _)
  have hW8 : Hid (Below w1.heap.size w1 (w7.alloc (.cells #[.bool true, .int .i64 2, .int .i64 0, .int .i64 0, .int .i64 bg, .bool false, .int .i64 2, .int .i64 0, .int .i64 0, .int .i64 bg7, .bool true, .int .i64 3, .int .i64 0, .int .i64 0, .int .i64 (bits .or .i64 bo 32)] 33))) := Below.on hW7.out (bel_alloc _ _)
  have hA8 : Hid (Acs (some ⟨w3.heap.size, 0, none⟩) 2 (ownL u) (w7.alloc (.cells #[.bool true, .int .i64 2, .int .i64 0, .int .i64 0, .int .i64 bg, .bool false, .int .i64 2, .int .i64 0, .int .i64 0, .int .i64 bg7, .bool true, .int .i64 3, .int .i64 0, .int .i64 0, .int .i64 (bits .or .i64 bo 32)] 33))) := hA7.out.below (bel_alloc _ _)
  go_wp2_with fail
  generalize (w7.alloc (.cells #[.bool true, .int .i64 2, .int .i64 0, .int .i64 0, .int .i64 bg, .bool false, .int .i64 2, .int .i64 0, .int .i64 0, .int .i64 bg7, .bool true, .int .i64 3, .int .i64 0, .int .i64 0, .int .i64 (bits .or .i64 bo 32)] 33)) = w8 at hA3 hW8 hA8 ⊢
  refine (HH.out _ hW8.out).mono ?_
  rintro e w9 ⟨a9, c9, rfl, hN9⟩
  have hW9 : Hid (Below w1.heap.size w1 w9) := Below.on hW8.out hN9.bel
  have hB9 : Hid (Acs (some ⟨w3.heap.size, 0, none⟩) 2 (ownL u) w9) := hA8.out.below hN9.bel
  have hC9 : Hid (Acs (some ⟨w7.heap.size, 0, none⟩) 3 (rstL g o) w9) := hA3.out.below hN9.bel
  have hD9 : Hid (Acs a9 L0.length L0 w9) := hN9.own.acs
  clear hN9 hW8 hA8 hA3 hA7 hW7
  go_wp2_with fail
  refine (HNM.out _ hW9.out).mono ?_
  rintro e w10 ⟨a10, c10, rfl, hN10⟩
  have hW10 : Hid (Below w1.heap.size w1 w10) := Below.on hW9.out hN10.bel
  have hB10 : Hid (Acs (some ⟨w3.heap.size, 0, none⟩) 2 (ownL u) w10) := hB9.out.below hN10.bel
  have hC10 : Hid (Acs (some ⟨w7.heap.size, 0, none⟩) 3 (rstL g o) w10) := hC9.out.below hN10.bel
  have hD10 : Hid (Acs a9 L0.length L0 w10) := hD9.out.below hN10.bel
  have hE10 : Hid (Acs a10 L2.length L2 w10) := hN10.own.acs
  clear hN10 hB9 hC9 hD9 hW9
  go_wp2_with fail
  refine (concat_four w10 a9 (some ⟨w3.heap.size, 0, none⟩) a10 (some ⟨w7.heap.size, 0, none⟩) L0.length 2 L2.length 3 c9 2 c10 3 L0 (ownL u) L2 (rstL g o) hD10.out hB10.out hE10.out hC10.out (by have := HLE.out; omega) 23).mono ?_
  rintro e w11 ⟨a11, c11, rfl, q1, q2, q3, q4⟩
  rw [← HL.out] at q1 q2 ⊢
  have HF : Hid (ML.length ≤ c11 ∧ NewA w1 w11 a11 ML.length ML) := ⟨q1, q2, fun A e => ⟨Nat.le_trans hW10.out.size (q3 A e).1, (q3 A e).2⟩, Below.on hW10.out q4⟩
  clear q1 q2 q3 q4
  go_wp2
  go_ret
  exact ⟨a11, c11, rfl, HF.out⟩
end Go.Proofs.YtdidbaadladkpaaDoor
