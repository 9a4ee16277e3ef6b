/- Laid together: Sgn. -/
import Derived.Test.YtgooanaacebncaaDoorRC8
import Derived.Test.YtgooanaacebncaaDoorRC9
import Derived.Test.YtgooanaacebncaaDoorRC10
/- Signs of a set: spec.l05Signs, impl.signsOf. -/
namespace Go.Proofs.YtgooanaacebncaaDoor
open Go.RowKit Go.PlainAid
set_option linter.unusedVariables false
/-- The signs at the places below k whose number is in the set. -/
def sgTo (s : Nat) (S : List UInt8) : Nat → List UInt8
  | 0 => []
  | k + 1 => sgTo s S k ++ (if s / 2 ^ k % 2 = 1 then [S.getD k 0] else [])
def sgT (s : Nat) (S : ByteArray) : ByteArray := ⟨(sgTo s S.data.toList S.size).toArray⟩
theorem sgTo_len (s : Nat) (S : List UInt8) (k : Nat) : (sgTo s S k).length ≤ k := by
  induction k with
  | zero => simp [sgTo]
  | succ k ih =>
    have : (if s / 2 ^ k % 2 = 1 then [S.getD k 0] else []).length ≤ 1 := by split <;> simp
    simp only [sgTo, List.length_append]
    omega
theorem sgT_size (s : Nat) (S : ByteArray) : (sgT s S).size ≤ S.size := by
  have := sgTo_len s S.data.toList S.size
  show (sgTo s S.data.toList S.size).toArray.size ≤ S.size
  rw [List.size_toArray]
  exact this
theorem sgTo_yes {s : Nat} {S : ByteArray} {k : Nat} (hk : k < S.size) (h : s / 2 ^ k % 2 = 1) : sgTo s S.data.toList (k + 1) = sgTo s S.data.toList k ++ [S[k]] := by
  have hl : k < S.data.toList.length := by rw [← Lib.size_eq]; exact hk
  have e : S.data.toList.getD k 0 = S[k] := by
    rw [List.getD, List.getElem?_eq_getElem hl]
    rfl
  rw [sgTo, if_pos h, e]
theorem sgTo_no {s : Nat} {S : ByteArray} {k : Nat} (h : ¬ s / 2 ^ k % 2 = 1) : sgTo s S.data.toList (k + 1) = sgTo s S.data.toList k := by
  rw [sgTo, if_neg h, List.append_nil]
theorem run_convert_nil (w : World) : (convert 22 9 (.slice none 0 0)).run Tryd.prog w = .ok (.string ⟨([] : List UInt8).toArray⟩) w := by kernel_rfl
/-- A row of bytes that is owned, as a text. -/
theorem conv_own {w : World} {B : Nat} {v : Value} {l : List UInt8} (h : w.ownsRow B 5 1 v l.length (Lib.byteCells l)) : (convert 22 9 v).run Tryd.prog w = .ok (.string ⟨l.toArray⟩) w := by
  obtain ⟨_, ⟨rfl, hn⟩ | ⟨g, cap, cur, rfl, _, hg, hc, _, hs, ht⟩⟩ := h
  · have : l = [] := List.eq_nil_of_length_eq_zero hn
    subst this
    exact run_convert_nil w
  · refine run_convert_text (P := Tryd.prog) w 22 5 9 Tryd.underlying22 Tryd.underlying5 Tryd.underlying9 g 0 l l.length cap rfl ?_
    intro i hi
    have hi' : i < l.length := by simpa [ByteArray.size] using hi
    have e1 : (Lib.byteCells l)[i]? = some (.int .u8 (l[i].toNat : Int)) := by simp [Lib.byteCells, hi']
    have e2 : cur[i]? = some (.int .u8 (l[i].toNat : Int)) := by
      rw [← ht, List.getElem?_take_of_lt (by omega)] at e1
      simpa using e1
    have : w.cell? ⟨g, 0 + i, none⟩ = cur[i]? := by simp [World.cell?, hg]
    rw [this, e2]
    rfl
/-- append of one byte onto a row that was owned ahead of the byte's making. -/
theorem append_byte (w0 w : World) (v : Value) (l : List UInt8) (hown : w.ownsRow w0.heap.size 5 1 v l.length (Lib.byteCells l)) (hB : Below w0.heap.size w0 w) (x : UInt8) (hsm : l.length ≤ 100000000) :
    ∃ v' w', (Builtin.append_ #[22, 22] 22 #[v, .slice (some ⟨w.heap.size, 0, none⟩) 1 1]).run Tryd.prog (w.alloc (.cells #[.int .u8 (x.toNat : Int)] 5)) = .ok v' w' ∧ w'.ownsRow w0.heap.size 5 1 v' (l ++ [x]).length (Lib.byteCells (l ++ [x])) ∧ Below w0.heap.size w0 w' := by
  obtain ⟨i, hi, hzz⟩ := Option.map_eq_some_iff.1 infoU8
  simp only [Prod.mk.injEq] at hzz
  obtain ⟨hz, hs, hb⟩ := hzz
  have hb1 := bel_alloc w (.cells #[.int .u8 (x.toNat : Int)] 5)
  have hB1 := Below.on hB hb1
  have hown1 := rowT_below hown hb1
  obtain ⟨v', w', hr, h1, h2, _⟩ := run_append_own (P := Tryd.prog) _ w0.heap.size 22 22 5 i _ 1 1 Tryd.underlying22 hi hz hs hb rfl (by decide) v l.length (Lib.byteCells l) hown1 ⟨w.heap.size, 0, none⟩ 1 1 [.int .u8 (x.toNat : Int)] rfl (cell_one_new _ _ _) (one_cell _) (by unfold maxLen; omega) (by omega) hB1.size
  refine ⟨v', w', hr, ?_, hB1.grown h2 hB1.size (own_blockT hown1)⟩
  have := own_snoc (x := x.toNat) rfl x.toNat_lt h1
  rwa [UInt8.ofNat_toNat] at this
set_option maxRecDepth 100000 in
set_option maxHeartbeats 4000000 in
/-- spec.l05Signs. -/
theorem sSigns_any (s : Nat) (hs : s ≤ 65535) (S : ByteArray) (hS : S.size ≤ 8) (w : World) :
    Calls Tryd.prog 121 #[.int .i64 s, .string S] w fun e w' => e = .returned (.string (sgT s S)) ∧ Below w.heap.size w w' := by
  have hO : Hid _ := own_start w 5
  have hB0 : Hid (Below w.heap.size w (w.alloc (.cells #[] 5))) := bel_alloc _ _
  go_enter Tryd.func121, Tryd.ntmps121
  go_wp2
  go_loopw [0, 5, 6] (fun n v i wr => ∃ k : Nat, k ≤ S.size ∧ n = .int .i64 ((s / 2 ^ k : Nat) : Int) ∧ i = .int .i64 k ∧ Hid (wr.ownsRow w.heap.size 5 1 v (sgTo s S.data.toList k).length (Lib.byteCells (sgTo s S.data.toList k))) ∧ Hid (Below w.heap.size w wr)) (fun _ _ i _ => S.size - (intOf i).toNat)
  case atStart => exact ⟨0, Nat.zero_le _, by simp, rfl, hO, hB0⟩
  case round =>
    obtain ⟨k, hk, rfl, rfl, hOw, hB⟩ := hrel
    have hd : s / 2 ^ k ≤ s := Nat.div_le_self _ _
    have hd2 : Hid (s / 2 ^ (k + 1) = s / 2 ^ k / 2) := (by show _ = _; rw [Nat.pow_succ, Nat.div_div_eq_div_mul])
    by_cases hlt : k < S.size
    · have hlt' : (k : Int) < (S.size : Int) := by omega
      by_cases h1 : s / 2 ^ k % 2 = 1
      · have hn := sgTo_yes hlt h1
        have hll := sgTo_len s S.data.toList k
        obtain ⟨v2, w2, hr, hO2, hB2⟩ := append_byte w wr u5 _ hOw.out hB.out S[k] (by omega)
        rw [← hn] at hO2
        have HO2 : Hid _ := hO2
        have HB2 : Hid _ := hB2
        generalize s / 2 ^ k = q at h1 hd hd2 ⊢
        have e1 : (q : Int) % 2 = 1 := by omega
        clear hO2 hB2 hOw hB hn hll h1
        go_wp2_with (at_builtin; refine wpList_append_runT _ rfl (.tmp 17) (.tmp 21) 22 22 rfl _ _ _ _ rfl rfl hr ?_)
        go_roundw
        case rel => exact ⟨k + 1, by omega, by rw [hd2.out]; go_num, by go_num, HO2, HB2⟩
        case measure => simp [intOf]; omega
      · have hn := sgTo_no (S := S) h1
        have HO2 : Hid (wr.ownsRow w.heap.size 5 1 u5 (sgTo s S.data.toList (k + 1)).length (Lib.byteCells (sgTo s S.data.toList (k + 1)))) := (by show World.ownsRow _ _ _ _ _ _ _; rw [hn]; exact hOw.out)
        generalize s / 2 ^ k = q at h1 hd hd2 ⊢
        have e1 : (q : Int) % 2 = 0 := by omega
        clear hOw hn h1
        go_wp2
        go_roundw
        case rel => exact ⟨k + 1, by omega, by rw [hd2.out]; go_num, by go_num, HO2, hB⟩
        case measure => simp [intOf]; omega
    · have : k = S.size := by omega
      subst this
      have hcv := conv_own hOw.out
      generalize s / 2 ^ S.size = q at hd hd2 ⊢
      clear hOw
      go_wp2
      go_ret
      exact ⟨rfl, hB.out⟩
end Go.Proofs.YtgooanaacebncaaDoor
