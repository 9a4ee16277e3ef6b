/- Laid together: Texts, Sgn, AceTx, AceTx2. -/
import Derived.Test.YtedahdncincgjaaGreatDoorNX30
import Derived.Test.YtedahdncincgjaaGreatDoorNX28
/- Rows of texts that are owned; append of one text; the builtin append by what it runs to. -/
namespace Go.Proofs.YtedahdncincgjaaGreatDoor
open Go.RowKit Go.PlainAid Go.Deep
set_option linter.unusedVariables false
end Go.Proofs.YtedahdncincgjaaGreatDoor
/- Signs of a set: spec.l05Signs, impl.signsOf. -/
namespace Go.Proofs.YtedahdncincgjaaGreatDoor
open Go.RowKit Go.PlainAid
set_option linter.unusedVariables false
/-- The signs at the places below k whose number is in the set. -/
def sgTo (s : Nat) (S : List UInt8) : Nat → List UInt8
  | 0 => []
  | k + 1 => sgTo s S k ++ (if s / 2 ^ k % 2 = 1 then [S.getD k 0] else [])
def sgT (s : Nat) (S : ByteArray) : ByteArray := ⟨(sgTo s S.data.toList S.size).toArray⟩
theorem sgTo_len (s : Nat) (S : List UInt8) (k : Nat) : (sgTo s S k).length ≤ k := by
  induction k with
  | zero => simp [sgTo]
  | succ k ih =>
    have : (if s / 2 ^ k % 2 = 1 then [S.getD k 0] else []).length ≤ 1 := by split <;> simp
    simp only [sgTo, List.length_append]
    omega
theorem sgT_size (s : Nat) (S : ByteArray) : (sgT s S).size ≤ S.size := by
  have := sgTo_len s S.data.toList S.size
  show (sgTo s S.data.toList S.size).toArray.size ≤ S.size
  rw [List.size_toArray]
  exact this
theorem sgTo_yes {s : Nat} {S : ByteArray} {k : Nat} (hk : k < S.size) (h : s / 2 ^ k % 2 = 1) : sgTo s S.data.toList (k + 1) = sgTo s S.data.toList k ++ [S[k]] := by
  have hl : k < S.data.toList.length := by rw [← Lib.size_eq]; exact hk
  have e : S.data.toList.getD k 0 = S[k] := by
    rw [List.getD, List.getElem?_eq_getElem hl]
    rfl
  rw [sgTo, if_pos h, e]
theorem sgTo_no {s : Nat} {S : ByteArray} {k : Nat} (h : ¬ s / 2 ^ k % 2 = 1) : sgTo s S.data.toList (k + 1) = sgTo s S.data.toList k := by
  rw [sgTo, if_neg h, List.append_nil]
theorem hasB_bit (s k : Nat) : hasB s (2 ^ k) = decide (s / 2 ^ k % 2 = 1) := by
  have h2 := Nat.testBit_eq_decide_div_mod_eq (x := s) (i := k)
  rw [← h2]
  unfold hasB
  cases h : s.testBit k
  · have : ¬ (s &&& 2 ^ k) = 2 ^ k := fun e => by
      have h3 := congrArg (fun x => Nat.testBit x k) e
      simp [Nat.testBit_and, h] at h3
    simpa using this
  · have : (s &&& 2 ^ k) = 2 ^ k := by
      apply Nat.eq_of_testBit_eq
      intro i
      rw [Nat.testBit_and, Nat.testBit_two_pow]
      by_cases e : k = i
      · subst e; simp [h]
      · simp [e]
    simpa using this
theorem run_convert_nil (w : World) : (convert 22 9 (.slice none 0 0)).run Tryz.prog w = .ok (.string ⟨([] : List UInt8).toArray⟩) w := by kernel_rfl
/-- A row of bytes that is owned, as a text. -/
theorem conv_own {w : World} {B : Nat} {v : Value} {l : List UInt8} (h : w.ownsRow B 5 1 v l.length (Lib.byteCells l)) : (convert 22 9 v).run Tryz.prog w = .ok (.string ⟨l.toArray⟩) w := by
  obtain ⟨_, ⟨rfl, hn⟩ | ⟨g, cap, cur, rfl, _, hg, hc, _, hs, ht⟩⟩ := h
  · have : l = [] := List.eq_nil_of_length_eq_zero hn
    subst this
    exact run_convert_nil w
  · refine run_convert_text (P := Tryz.prog) w 22 5 9 Tryz.underlying22 Tryz.underlying5 Tryz.underlying9 g 0 l l.length cap rfl ?_
    intro i hi
    have hi' : i < l.length := by simpa [ByteArray.size] using hi
    have e1 : (Lib.byteCells l)[i]? = some (.int .u8 (l[i].toNat : Int)) := by simp [Lib.byteCells, hi']
    have e2 : cur[i]? = some (.int .u8 (l[i].toNat : Int)) := by
      rw [← ht, List.getElem?_take_of_lt (by omega)] at e1
      simpa using e1
    have : w.cell? ⟨g, 0 + i, none⟩ = cur[i]? := by simp [World.cell?, hg]
    rw [this, e2]
    rfl
/-- append of one byte onto a row that was owned ahead of the byte's making. -/
theorem append_byte (w0 w : World) (v : Value) (l : List UInt8) (hown : w.ownsRow w0.heap.size 5 1 v l.length (Lib.byteCells l)) (hB : Below w0.heap.size w0 w) (x : UInt8) (hsm : l.length ≤ 100000000) :
    ∃ v' w', (Builtin.append_ #[22, 22] 22 #[v, .slice (some ⟨w.heap.size, 0, none⟩) 1 1]).run Tryz.prog (w.alloc (.cells #[.int .u8 (x.toNat : Int)] 5)) = .ok v' w' ∧ w'.ownsRow w0.heap.size 5 1 v' (l ++ [x]).length (Lib.byteCells (l ++ [x])) ∧ Below w0.heap.size w0 w' := by
  obtain ⟨i, hi, hzz⟩ := Option.map_eq_some_iff.1 infoU8
  simp only [Prod.mk.injEq] at hzz
  obtain ⟨hz, hs, hb⟩ := hzz
  have hb1 := bel_alloc w (.cells #[.int .u8 (x.toNat : Int)] 5)
  have hB1 := Below.on hB hb1
  have hown1 := rowT_below hown hb1
  obtain ⟨v', w', hr, h1, h2, _⟩ := run_append_own (P := Tryz.prog) _ w0.heap.size 22 22 5 i _ 1 1 Tryz.underlying22 hi hz hs hb rfl (by decide) v l.length (Lib.byteCells l) hown1 ⟨w.heap.size, 0, none⟩ 1 1 [.int .u8 (x.toNat : Int)] rfl (cell_one_new _ _ _) (one_cell _) (by unfold maxLen; omega) (by omega) hB1.size
  refine ⟨v', w', hr, ?_, hB1.grown h2 hB1.size (own_blockT hown1)⟩
  have := own_snoc (x := x.toNat) rfl x.toNat_lt h1
  rwa [UInt8.ofNat_toNat] at this
set_option maxRecDepth 100000 in
set_option maxHeartbeats 4000000 in
/-- spec.l05Signs. -/
theorem sSigns_any (s : Nat) (hs : s ≤ 65535) (S : ByteArray) (hS : S.size ≤ 8) (w : World) :
    Calls Tryz.prog 75 #[.int .i64 s, .string S] w fun e w' => e = .returned (.string (sgT s S)) ∧ Below w.heap.size w w' := by
  have hO : Hid _ := own_start w 5
  have hB0 : Hid (Below w.heap.size w (w.alloc (.cells #[] 5))) := bel_alloc _ _
  go_enter Tryz.func75, Tryz.ntmps75
  go_wp2
  go_loopw [0, 5, 6] (fun n v i wr => ∃ k : Nat, k ≤ S.size ∧ n = .int .i64 ((s / 2 ^ k : Nat) : Int) ∧ i = .int .i64 k ∧ Hid (wr.ownsRow w.heap.size 5 1 v (sgTo s S.data.toList k).length (Lib.byteCells (sgTo s S.data.toList k))) ∧ Hid (Below w.heap.size w wr)) (fun _ _ i _ => S.size - (intOf i).toNat)
  case atStart => exact ⟨0, Nat.zero_le _, by simp, rfl, hO, hB0⟩
  case round =>
    obtain ⟨k, hk, rfl, rfl, hOw, hB⟩ := hrel
    have hd : s / 2 ^ k ≤ s := Nat.div_le_self _ _
    have hd2 : Hid (s / 2 ^ (k + 1) = s / 2 ^ k / 2) := (by show _ = _; rw [Nat.pow_succ, Nat.div_div_eq_div_mul])
    by_cases hlt : k < S.size
    · have hlt' : (k : Int) < (S.size : Int) := by omega
      by_cases h1 : s / 2 ^ k % 2 = 1
      · have hn := sgTo_yes hlt h1
        have hll := sgTo_len s S.data.toList k
        obtain ⟨v2, w2, hr, hO2, hB2⟩ := append_byte w wr u5 _ hOw.out hB.out S[k] (by omega)
        rw [← hn] at hO2
        have HO2 : Hid _ := hO2
        have HB2 : Hid _ := hB2
        generalize s / 2 ^ k = q at h1 hd hd2 ⊢
        have e1 : (q : Int) % 2 = 1 := by omega
        clear hO2 hB2 hOw hB hn hll h1
        go_wp2_with (at_builtin; refine wpList_append_runT _ rfl (.tmp 17) (.tmp 21) 22 22 rfl _ _ _ _ rfl rfl hr ?_)
        go_roundw
        case rel => exact ⟨k + 1, by omega, by rw [hd2.out]; go_num, by go_num, HO2, HB2⟩
        case measure => simp [intOf]; omega
      · have hn := sgTo_no (S := S) h1
        have HO2 : Hid (wr.ownsRow w.heap.size 5 1 u5 (sgTo s S.data.toList (k + 1)).length (Lib.byteCells (sgTo s S.data.toList (k + 1)))) := (by show World.ownsRow _ _ _ _ _ _ _; rw [hn]; exact hOw.out)
        generalize s / 2 ^ k = q at h1 hd hd2 ⊢
        have e1 : (q : Int) % 2 = 0 := by omega
        clear hOw hn h1
        go_wp2
        go_roundw
        case rel => exact ⟨k + 1, by omega, by rw [hd2.out]; go_num, by go_num, HO2, hB⟩
        case measure => simp [intOf]; omega
    · have : k = S.size := by omega
      subst this
      have hcv := conv_own hOw.out
      generalize s / 2 ^ S.size = q at hd hd2 ⊢
      clear hOw
      go_wp2
      go_ret
      exact ⟨rfl, hB.out⟩
set_option maxRecDepth 100000 in
set_option maxHeartbeats 4000000 in
/-- impl.signsOf. -/
theorem iSigns_any (s : Nat) (hs : s ≤ 65535) (S : ByteArray) (hS : S.size ≤ 8) (w : World) :
    Calls Tryz.prog 28 #[.int .i64 s, .string S] w fun e w' => e = .returned (.string (sgT s S)) ∧ Below w.heap.size w w' := by
  obtain ⟨i0, hi, hzz⟩ := Option.map_eq_some_iff.1 infoU8
  simp only [Prod.mk.injEq] at hzz
  obtain ⟨hz, hz1, hz2⟩ := hzz
  obtain ⟨wm, hmk, hOm, hGm⟩ := run_make_own (P := Tryz.prog) w w.heap.size 22 5 i0 _ 1 Tryz.underlying22 hi hz hz1 .i64 .i64 S.size (by rw [hz2]; omega) (by unfold maxLen; omega) (Nat.le_refl _)
  have hO : Hid (wm.ownsRow w.heap.size 5 1 (.slice (some ⟨w.heap.size, 0, none⟩) 0 S.size) (sgTo s S.data.toList 0).length (Lib.byteCells (sgTo s S.data.toList 0))) := hOm
  have hB0 : Hid (Below w.heap.size w wm) := (Below.refl _ _).grown hGm (Nat.le_refl _) (fun k hk => by simp at hk)
  clear hOm hGm hi hz hz1 hz2 i0
  have hH : Hid (∀ k w, k < 8 → Calls Tryz.prog 58 #[.int .i64 s, .int .i64 ((2 ^ k : Nat) : Int)] w fun e w' => e = .returned (.bool (decide (s / 2 ^ k % 2 = 1))) ∧ w' = w) := (fun k w hk => by
    have h := iHas_any (s : Int) ((2 ^ k : Nat) : Int) w
    have hp : 2 ^ k ≤ 2 ^ 8 := Nat.pow_le_pow_right (by decide) (by omega)
    rw [hasZ_in hs (by omega), hasB_bit] at h
    exact h)
  go_enter Tryz.func28, Tryz.ntmps28
  go_wp2
  clear hmk
  go_loopw [5, 12] (fun v i wr => ∃ k : Nat, k ≤ S.size ∧ i = .int .i64 k ∧ Hid (wr.ownsRow w.heap.size 5 1 v (sgTo s S.data.toList k).length (Lib.byteCells (sgTo s S.data.toList k))) ∧ Hid (Below w.heap.size w wr)) (fun _ i _ => S.size - (intOf i).toNat)
  case atStart => exact ⟨0, Nat.zero_le _, rfl, hO, hB0⟩
  case round =>
    obtain ⟨k, hk, rfl, hOw, hB⟩ := hrel
    by_cases hlt : k < S.size
    · have hlt' : (k : Int) < (S.size : Int) := by omega
      have hHk : Hid (∀ w, Calls Tryz.prog 58 #[.int .i64 s, .int .i64 ((2 ^ k : Nat) : Int)] w fun e w' => e = .returned (.bool (decide (s / 2 ^ k % 2 = 1))) ∧ w' = w) := (fun w => hH.out k w (by omega))
      by_cases h1 : s / 2 ^ k % 2 = 1
      · have hn := sgTo_yes hlt h1
        have hll := sgTo_len s S.data.toList k
        obtain ⟨v2, w2, hr, hO2, hB2⟩ := append_byte w wr u5 _ hOw.out hB.out S[k] (by omega)
        rw [← hn] at hO2
        have HO2 : Hid _ := hO2
        have HB2 : Hid _ := hB2
        rw [decide_eq_true h1] at hHk
        clear hO2 hB2 hOw hB hn hll h1 hH
        have h8 : k < 8 := by omega
        rcases (by omega : k = 0 ∨ k = 1 ∨ k = 2 ∨ k = 3 ∨ k = 4 ∨ k = 5 ∨ k = 6 ∨ k = 7) with rfl | rfl | rfl | rfl | rfl | rfl | rfl | rfl
        all_goals (
        clear h8
        go_wp2_with (first | (go_at_call 58; refine (hHk.out _).mono ?_; rintro e w' ⟨rfl, rfl⟩) | (at_builtin; refine wpList_append_runT _ rfl (.tmp 19) (.tmp 23) 22 22 rfl _ _ _ _ rfl rfl hr ?_))
        go_roundw
        case rel => exact ⟨_, by omega, by go_num, HO2, HB2⟩
        case measure => simp [intOf]; omega)
      · have hn := sgTo_no (S := S) h1
        have HO2 : Hid (wr.ownsRow w.heap.size 5 1 u5 (sgTo s S.data.toList (k + 1)).length (Lib.byteCells (sgTo s S.data.toList (k + 1)))) := (by show World.ownsRow _ _ _ _ _ _ _; rw [hn]; exact hOw.out)
        rw [decide_eq_false h1] at hHk
        clear hOw hn h1 hH
        rcases (by omega : k = 0 ∨ k = 1 ∨ k = 2 ∨ k = 3 ∨ k = 4 ∨ k = 5 ∨ k = 6 ∨ k = 7) with rfl | rfl | rfl | rfl | rfl | rfl | rfl | rfl
        all_goals (
        go_wp2_with (go_at_call 58; refine (hHk.out _).mono ?_; rintro e w' ⟨rfl, rfl⟩)
        go_roundw
        case rel => exact ⟨_, by omega, by go_num, HO2, hB⟩
        case measure => simp [intOf]; omega)
    · have : k = S.size := by omega
      subst this
      have hcv := conv_own hOw.out
      clear hOw
      go_wp2
      go_ret
      exact ⟨rfl, hB.out⟩
end Go.Proofs.YtedahdncincgjaaGreatDoor
/- An ace as text: l05Who, whoText, l05Ace, AceText of both sides. -/
namespace Go.Proofs.YtedahdncincgjaaGreatDoor
open Go.RowKit Go.PlainAid Go.Deep
set_option linter.unusedVariables false
def fdni : ByteArray := ⟨#[102, 100, 110, 105]⟩
def rwxs : ByteArray := ⟨#[114, 119, 120, 97, 100, 99, 67, 111]⟩
/-- Of whom an ace is. -/
def whoT (wh id : Nat) : ByteArray :=
  if wh = 1 then ⟨#[79, 87, 78, 69, 82, 64]⟩ else if wh = 2 then ⟨#[71, 82, 79, 85, 80, 64]⟩ else if wh = 3 then ⟨#[69, 86, 69, 82, 89, 79, 78, 69, 64]⟩ else if wh = 4 then ⟨#[117]⟩ ++ decT id else ⟨#[103]⟩ ++ decT id
theorem whoT_size {wh id : Nat} (h : id ≤ 9999) : (whoT wh id).size ≤ 9 := by
  have h1 := (decT_size h).2
  have e1 : (⟨#[79, 87, 78, 69, 82, 64]⟩ : ByteArray).size = 6 := rfl
  have e2 : (⟨#[71, 82, 79, 85, 80, 64]⟩ : ByteArray).size = 6 := rfl
  have e3 : (⟨#[69, 86, 69, 82, 89, 79, 78, 69, 64]⟩ : ByteArray).size = 9 := rfl
  have e4 : (⟨#[117]⟩ : ByteArray).size = 1 := rfl
  have e5 : (⟨#[103]⟩ : ByteArray).size = 1 := rfl
  unfold whoT
  split
  · omega
  split
  · omega
  split
  · omega
  split
  · rw [ByteArray.size_append]; omega
  · rw [ByteArray.size_append]; omega
/-- The text of an ace. -/
def aceTx (al : Bool) (wh id fl ma : Nat) : ByteArray := (if al then ⟨#[65, 58]⟩ else ⟨#[68, 58]⟩) ++ sgT fl fdni ++ ⟨#[58]⟩ ++ whoT wh id ++ ⟨#[58]⟩ ++ sgT ma rwxs
theorem aceTx_size {al : Bool} {wh id fl ma : Nat} (h : id ≤ 9999) : (aceTx al wh id fl ma).size ≤ 25 := by
  have h1 := whoT_size (wh := wh) h
  have h2 := sgT_size fl fdni
  have h3 := sgT_size ma rwxs
  have e2 : fdni.size = 4 := rfl
  have e3 : rwxs.size = 8 := rfl
  have e4 : (⟨#[58]⟩ : ByteArray).size = 1 := rfl
  have e5 : (if al then (⟨#[65, 58]⟩ : ByteArray) else ⟨#[68, 58]⟩).size = 2 := by cases al <;> rfl
  unfold aceTx
  simp only [ByteArray.size_append, e5]
  omega
/-- AceText. -/
def aceT (x : Ac) : ByteArray := if aceB x then aceTx x.al x.wh.toNat x.id.toNat x.fl.toNat x.ma.toNat else ⟨#[]⟩
theorem aceT_size (x : Ac) : (aceT x).size ≤ 25 := by
  unfold aceT
  split
  next h =>
    obtain ⟨_, h2, _⟩ := aceB_iff.1 h
    exact aceTx_size (by omega)
  · exact Nat.zero_le _
theorem ret_txt {a b : ByteArray} (h : a = b) : Ending.returned (.string a) = .returned (.string b) := by rw [h]
set_option maxRecDepth 100000 in
set_option maxHeartbeats 2000000 in
/-- spec.l05Who. -/
theorem sWho_any (al : Bool) (wh id : Nat) (fl ma : Int) (h1 : 1 ≤ wh) (h5 : wh ≤ 5) (hid : id ≤ 9999) (w : World) :
    Calls Tryz.prog 76 #[.agg #[.bool al, .int .i64 wh, .int .i64 id, .int .i64 fl, .int .i64 ma]] w fun e w' => e = .returned (.string (whoT wh id)) ∧ Below w.heap.size w w' := by
  have hd : Hid (∀ w, Calls Tryz.prog 97 #[.int .i64 id] w fun e w' => e = .returned (.string (decT id)) ∧ Below w.heap.size w w') := sDec_any id hid
  have sd := decT_size hid
  have hF : Hid (Five (w.alloc (.cells #[.bool al, .int .i64 wh, .int .i64 id, .int .i64 fl, .int .i64 ma] 24)) w.heap.size 0 ⟨al, wh, id, fl, ma⟩) := five_new w ⟨al, wh, id, fl, ma⟩ 24
  have hB : Hid (Below w.heap.size w (w.alloc (.cells #[.bool al, .int .i64 wh, .int .i64 id, .int .i64 fl, .int .i64 ma] 24))) := bel_alloc _ _
  obtain ⟨c0, c1, c2, c3, c4⟩ := hF.out
  simp only [Nat.zero_add] at c0 c1 c2 c3 c4
  rcases (by omega : wh = 1 ∨ wh = 2 ∨ wh = 3 ∨ wh = 4 ∨ wh = 5) with rfl | rfl | rfl | rfl | rfl
  all_goals (
    clear h1 h5 hF
    go_enter Tryz.func76, Tryz.ntmps76
    go_wp2_with (go_at_call 97; refine (hd.out _).mono ?_; rintro e w1 ⟨rfl, hb1⟩)
    go_ret
    first
      | exact ⟨ret_txt rfl, hB.out⟩
      | exact ⟨ret_txt rfl, Below.on hB.out hb1⟩)
set_option maxRecDepth 100000 in
set_option maxHeartbeats 2000000 in
/-- impl.whoText. -/
theorem iWho_any (al : Bool) (wh id : Nat) (fl ma : Int) (h1 : 1 ≤ wh) (h5 : wh ≤ 5) (hid : id ≤ 9999) (w : World) (hp : PowW w) :
    Calls Tryz.prog 29 #[.agg #[.bool al, .int .i64 wh, .int .i64 id, .int .i64 fl, .int .i64 ma]] w fun e w' => e = .returned (.string (whoT wh id)) ∧ Below w.heap.size w w' := by
  have sd := decT_size hid
  have hd : Hid (∀ w', Below w.heap.size w w' → Calls Tryz.prog 59 #[.int .i64 id] w' fun e w'' => e = .returned (.string (decT id)) ∧ Below w'.heap.size w' w'') := (fun w' hb => iDigits_any id hid w' (hp.below hb))
  have hj : Hid (∀ (t : ByteArray) w, t.size = 1 → Calls Tryz.prog 27 #[.slice (some ⟨w.heap.size, 0, none⟩) 2 2] (w.alloc (.cells #[.string t, .string (decT id)] 9)) fun e w' => e = .returned (.string (t ++ decT id)) ∧ Below w.heap.size w w') := (fun t w ht => join_two t (decT id) w (by omega))
  have hB : Hid (Below w.heap.size w (w.alloc (.cells #[.bool al, .int .i64 wh, .int .i64 id, .int .i64 fl, .int .i64 ma] 24))) := bel_alloc _ _
  have hF : Hid (Five (w.alloc (.cells #[.bool al, .int .i64 wh, .int .i64 id, .int .i64 fl, .int .i64 ma] 24)) w.heap.size 0 ⟨al, wh, id, fl, ma⟩) := five_new w ⟨al, wh, id, fl, ma⟩ 24
  obtain ⟨c0, c1, c2, c3, c4⟩ := hF.out
  simp only [Nat.zero_add] at c0 c1 c2 c3 c4
  clear hp
  rcases (by omega : wh = 1 ∨ wh = 2 ∨ wh = 3 ∨ wh = 4 ∨ wh = 5) with rfl | rfl | rfl | rfl | rfl
  all_goals (
    clear h1 h5 hF
    go_enter Tryz.func29, Tryz.ntmps29
    go_wp2_with (first
      | (go_at_call 59; refine (hd.out _ hB.out).mono ?_; rintro e w1 ⟨rfl, hb1⟩; have hB1 : Hid (Below w.heap.size w w1) := Below.on hB.out hb1; clear hb1 c0 c1 c2 c3 c4)
      | (go_at_call 27; refine (hj.out _ _ rfl).mono ?_; rintro e w2 ⟨rfl, hb2⟩))
    go_ret
    first
      | exact ⟨ret_txt rfl, hB.out⟩
      | exact ⟨ret_txt rfl, Below.on hB1.out hb2⟩)
def pick7 (a b c d e f g : ByteArray) : Nat → ByteArray := fun i => if i = 0 then a else if i = 1 then b else if i = 2 then c else if i = 3 then d else if i = 4 then e else if i = 5 then f else g
theorem cat7 (a b c d e f g : ByteArray) : (⟨(catTo (pick7 a b c d e f g) 7).toArray⟩ : ByteArray) = a ++ b ++ c ++ d ++ e ++ f ++ g := by
  apply ByteArray.ext
  apply Array.toList_inj.1
  simp [ByteArray.data_append, catTo, pick7]
theorem tot7 (a b c d e f g : ByteArray) : totTo (pick7 a b c d e f g) 7 = a.size + b.size + c.size + d.size + e.size + f.size + g.size := by
  simp [totTo, pick7]
/-- impl.join of seven texts that were just laid in a row. -/
theorem join_seven (a b c d e f g : ByteArray) (w : World) (h : a.size + b.size + c.size + d.size + e.size + f.size + g.size ≤ 1000000) (cap : Nat) :
    Calls Tryz.prog 27 #[.slice (some ⟨w.heap.size, 0, none⟩) 7 cap] (w.alloc (.cells #[.string a, .string b, .string c, .string d, .string e, .string f, .string g] 9)) fun e' w' => e' = .returned (.string (a ++ b ++ c ++ d ++ e ++ f ++ g)) ∧ Below w.heap.size w w' := by
  have hb : (w.alloc (.cells #[.string a, .string b, .string c, .string d, .string e, .string f, .string g] 9)).heap[w.heap.size]? = some (.cells #[.string a, .string b, .string c, .string d, .string e, .string f, .string g] 9) := by
    rw [World.alloc]
    exact Array.getElem?_push_size
  have hc : ∀ k, k < 7 → (w.alloc (.cells #[.string a, .string b, .string c, .string d, .string e, .string f, .string g] 9)).cell? ⟨w.heap.size, 0 + k, none⟩ = some (.string (pick7 a b c d e f g k)) := by
    intro k hk
    simp only [World.cell?, hb, Nat.zero_add]
    match k, hk with
    | 0, _ => rfl
    | 1, _ => rfl
    | 2, _ => rfl
    | 3, _ => rfl
    | 4, _ => rfl
    | 5, _ => rfl
    | 6, _ => rfl
  refine (join_any (pick7 a b c d e f g) w.heap.size 0 7 cap _ hc (by simp) (by omega) (by rw [tot7]; omega)).mono ?_
  rintro e' w' ⟨rfl, hbl⟩
  exact ⟨by rw [cat7], Below.on (bel_alloc _ _) hbl⟩
theorem cell_regrownA {w : World} {p : Addr} {v : Value} (h : w.cell? p = some v) (d : Nat) (os : Array Obj) : (Go.Sort.grow (redrawn w d) os).cell? p = some v := cell_regrown h d os
set_option maxRecDepth 100000 in
set_option maxHeartbeats 4000000 in
/-- spec.l05Ace. -/
theorem sAce_in (al : Bool) (wh id fl ma : Nat) (h1 : 1 ≤ wh) (h5 : wh ≤ 5) (hid : id ≤ 9999) (hf : fl ≤ 15) (hm : ma ≤ 255) (w : World) :
    Calls Tryz.prog 46 #[.agg #[.bool al, .int .i64 wh, .int .i64 id, .int .i64 fl, .int .i64 ma]] w fun e w' => e = .returned (.string (aceTx al wh id fl ma)) ∧ Below w.heap.size w w' := by
  have hS1 : Hid (∀ w, Calls Tryz.prog 75 #[.int .i64 fl, .string ⟨#[102, 100, 110, 105]⟩] w fun e w' => e = .returned (.string (sgT fl fdni)) ∧ Below w.heap.size w w') := sSigns_any fl (by omega) fdni (by decide)
  have hS2 : Hid (∀ w, Calls Tryz.prog 75 #[.int .i64 ma, .string ⟨#[114, 119, 120, 97, 100, 99, 67, 111]⟩] w fun e w' => e = .returned (.string (sgT ma rwxs)) ∧ Below w.heap.size w w') := sSigns_any ma (by omega) rwxs (by decide)
  have hWh : Hid (∀ w, Calls Tryz.prog 76 #[.agg #[.bool al, .int .i64 wh, .int .i64 id, .int .i64 fl, .int .i64 ma]] w fun e w' => e = .returned (.string (whoT wh id)) ∧ Below w.heap.size w w') := sWho_any al wh id fl ma h1 h5 hid
  have HT : Hid (aceTx al wh id fl ma = (if al then ⟨#[65, 58]⟩ else ⟨#[68, 58]⟩) ++ sgT fl fdni ++ ⟨#[58]⟩ ++ whoT wh id ++ ⟨#[58]⟩ ++ sgT ma rwxs) := rfl
  have z1 : (sgT fl fdni).size ≤ 4 := sgT_size fl fdni
  have z2 : (sgT ma rwxs).size ≤ 8 := sgT_size ma rwxs
  have z3 : (whoT wh id).size ≤ 9 := whoT_size hid
  have hF : Hid (Five (w.alloc (.cells #[.bool al, .int .i64 wh, .int .i64 id, .int .i64 fl, .int .i64 ma] 24)) w.heap.size 0 ⟨al, wh, id, fl, ma⟩) := five_new w ⟨al, wh, id, fl, ma⟩ 24
  have hW1 : Hid (Below w.heap.size w (w.alloc (.cells #[.bool al, .int .i64 wh, .int .i64 id, .int .i64 fl, .int .i64 ma] 24))) := bel_alloc _ _
  clear h1 h5 hid hf hm
  generalize sgT fl fdni = A1 at hS1 HT z1
  generalize sgT ma rwxs = A2 at hS2 HT z2
  generalize whoT wh id = A3 at hWh HT z3
  generalize aceTx al wh id fl ma = R at HT ⊢
  go_enter Tryz.func46, Tryz.ntmps46
  obtain ⟨c0, c1, c2, c3, c4⟩ := hF.out
  simp only [Nat.zero_add] at c0 c1 c2 c3 c4
  have k0 : (⟨#[58]⟩ : ByteArray).size = 1 := rfl
  have y1 : (⟨#[65, 58]⟩ : ByteArray).size = 2 := rfl
  have y2 : (⟨#[68, 58]⟩ : ByteArray).size = 2 := rfl
  cases al
  · go_wp2_with fail
    clear c0 c1 c2 c3 c4
    generalize w.alloc (.cells #[.bool false, .int .i64 wh, .int .i64 id, .int .i64 fl, .int .i64 ma] 24) = w1 at hF hW1 ⊢
    obtain ⟨c0, c1, c2, c3, c4⟩ := hF.out
    simp only [Nat.zero_add] at c0 c1 c2 c3 c4
    have q0 := fun d os => cell_regrownA c0 d os
    have q1 := fun d os => cell_regrownA c1 d os
    have q2 := fun d os => cell_regrownA c2 d os
    have q3 := fun d os => cell_regrownA c3 d os
    have q4 := fun d os => cell_regrownA c4 d os
    have r1 : ∀ d os, Calls Tryz.prog 75 #[.int .i64 fl, .string ⟨#[102, 100, 110, 105]⟩] (Go.Sort.grow (redrawn w1 d) os) fun e w'' => e = .returned (.string A1) ∧ ∃ p : Regrown, w'' = Go.Sort.grow (redrawn w1 p.d) p.os := fun d os => Calls.regrown_of (hS1.out _)
    have r2 : ∀ d os, Calls Tryz.prog 75 #[.int .i64 ma, .string ⟨#[114, 119, 120, 97, 100, 99, 67, 111]⟩] (Go.Sort.grow (redrawn w1 d) os) fun e w'' => e = .returned (.string A2) ∧ ∃ p : Regrown, w'' = Go.Sort.grow (redrawn w1 p.d) p.os := fun d os => Calls.regrown_of (hS2.out _)
    have r3 : ∀ d os, Calls Tryz.prog 76 #[.agg #[.bool false, .int .i64 wh, .int .i64 id, .int .i64 fl, .int .i64 ma]] (Go.Sort.grow (redrawn w1 d) os) fun e w'' => e = .returned (.string A3) ∧ ∃ p : Regrown, w'' = Go.Sort.grow (redrawn w1 p.d) p.os := fun d os => Calls.regrown_of (hWh.out _)
    refine wp_region_quiet_below (by kernel_rfl) (by kernel_rfl) ?_
    repeat (go_big_quiet_step (fail))
    go_big_quiet_step (exact r1 _ _)
    repeat (go_big_quiet_step (fail))
    go_big_quiet_step (exact r3 _ _)
    repeat (go_big_quiet_step (fail))
    go_big_quiet_step (exact r2 _ _)
    repeat (go_big_quiet_step (fail))
    refine wpQuiet_nil ?_
    intro _ hw'
    obtain ⟨⟨dq, osq⟩, hw''⟩ := hw'
    subst hw''
    have hbq := below_regrown w1 dq osq
    have hW2 : Hid (Below w.heap.size w (Go.Sort.grow (redrawn w1 dq) osq)) := Below.on hW1.out hbq
    generalize Go.Sort.grow (redrawn w1 dq) osq = w2 at hW2 ⊢
    clear q0 q1 q2 q3 q4 r1 r2 r3 hbq c0 c1 c2 c3 c4
    go_wp2
    go_ret
    exact ⟨ret_txt HT.out.symm, hW2.out⟩
  · go_wp2_with fail
    clear c0 c1 c2 c3 c4
    generalize w.alloc (.cells #[.bool true, .int .i64 wh, .int .i64 id, .int .i64 fl, .int .i64 ma] 24) = w1 at hF hW1 ⊢
    obtain ⟨c0, c1, c2, c3, c4⟩ := hF.out
    simp only [Nat.zero_add] at c0 c1 c2 c3 c4
    have q0 := fun d os => cell_regrownA c0 d os
    have q1 := fun d os => cell_regrownA c1 d os
    have q2 := fun d os => cell_regrownA c2 d os
    have q3 := fun d os => cell_regrownA c3 d os
    have q4 := fun d os => cell_regrownA c4 d os
    have r1 : ∀ d os, Calls Tryz.prog 75 #[.int .i64 fl, .string ⟨#[102, 100, 110, 105]⟩] (Go.Sort.grow (redrawn w1 d) os) fun e w'' => e = .returned (.string A1) ∧ ∃ p : Regrown, w'' = Go.Sort.grow (redrawn w1 p.d) p.os := fun d os => Calls.regrown_of (hS1.out _)
    have r2 : ∀ d os, Calls Tryz.prog 75 #[.int .i64 ma, .string ⟨#[114, 119, 120, 97, 100, 99, 67, 111]⟩] (Go.Sort.grow (redrawn w1 d) os) fun e w'' => e = .returned (.string A2) ∧ ∃ p : Regrown, w'' = Go.Sort.grow (redrawn w1 p.d) p.os := fun d os => Calls.regrown_of (hS2.out _)
    have r3 : ∀ d os, Calls Tryz.prog 76 #[.agg #[.bool true, .int .i64 wh, .int .i64 id, .int .i64 fl, .int .i64 ma]] (Go.Sort.grow (redrawn w1 d) os) fun e w'' => e = .returned (.string A3) ∧ ∃ p : Regrown, w'' = Go.Sort.grow (redrawn w1 p.d) p.os := fun d os => Calls.regrown_of (hWh.out _)
    refine wp_region_quiet_below (by kernel_rfl) (by kernel_rfl) ?_
    repeat (go_big_quiet_step (fail))
    go_big_quiet_step (exact r1 _ _)
    repeat (go_big_quiet_step (fail))
    go_big_quiet_step (exact r3 _ _)
    repeat (go_big_quiet_step (fail))
    go_big_quiet_step (exact r2 _ _)
    repeat (go_big_quiet_step (fail))
    refine wpQuiet_nil ?_
    intro _ hw'
    obtain ⟨⟨dq, osq⟩, hw''⟩ := hw'
    subst hw''
    have hbq := below_regrown w1 dq osq
    have hW2 : Hid (Below w.heap.size w (Go.Sort.grow (redrawn w1 dq) osq)) := Below.on hW1.out hbq
    generalize Go.Sort.grow (redrawn w1 dq) osq = w2 at hW2 ⊢
    clear q0 q1 q2 q3 q4 r1 r2 r3 hbq c0 c1 c2 c3 c4
    go_wp2
    go_ret
    exact ⟨ret_txt HT.out.symm, hW2.out⟩
/-- spec.l05Ace of a right ace. -/
theorem sAce_any (x : Ac) (h : aceB x = true) (w : World) :
    Calls Tryz.prog 46 #[.agg #[.bool x.al, .int .i64 x.wh, .int .i64 x.id, .int .i64 x.fl, .int .i64 x.ma]] w fun e w' => e = .returned (.string (aceT x)) ∧ Below w.heap.size w w' := by
  obtain ⟨⟨w1, w5⟩, ⟨i0, i9⟩, hz, ⟨⟨f0, f15⟩, hf⟩, m1, m255⟩ := aceB_iff.1 h
  rw [aceT, if_pos h]
  obtain ⟨al, wh, id, fl, ma⟩ := x
  simp only at w1 w5 i0 i9 f0 f15 m1 m255 ⊢
  clear h hz hf
  obtain ⟨wh, rfl⟩ := Int.eq_ofNat_of_zero_le (by omega : 0 ≤ wh)
  obtain ⟨id, rfl⟩ := Int.eq_ofNat_of_zero_le i0
  obtain ⟨fl, rfl⟩ := Int.eq_ofNat_of_zero_le f0
  obtain ⟨ma, rfl⟩ := Int.eq_ofNat_of_zero_le (by omega : 0 ≤ ma)
  simp only [Int.toNat_natCast]
  exact sAce_in al wh id fl ma (by omega) (by omega) (by omega) (by omega) (by omega) w
set_option maxRecDepth 100000 in
set_option maxHeartbeats 2000000 in
/-- spec.AceText. -/
theorem sAceText_any (x : Ac) (w : World) :
    Calls Tryz.prog 16 #[.agg #[.bool x.al, .int .i64 x.wh, .int .i64 x.id, .int .i64 x.fl, .int .i64 x.ma]] w fun e w' => e = .returned (.string (aceT x)) ∧ Below w.heap.size w w' := by
  have hR : Hid (∀ w, Calls Tryz.prog 45 #[.agg #[.bool x.al, .int .i64 x.wh, .int .i64 x.id, .int .i64 x.fl, .int .i64 x.ma]] w fun e w' => e = .returned (.bool (aceB x)) ∧ Below w.heap.size w w') := sAceRight_any x
  have hF : Hid (Five (w.alloc (.cells #[.bool x.al, .int .i64 x.wh, .int .i64 x.id, .int .i64 x.fl, .int .i64 x.ma] 24)) w.heap.size 0 x) := five_new w x 24
  have hB : Hid (Below w.heap.size w (w.alloc (.cells #[.bool x.al, .int .i64 x.wh, .int .i64 x.id, .int .i64 x.fl, .int .i64 x.ma] 24))) := bel_alloc _ _
  have hA : Hid (aceB x = true → ∀ w, Calls Tryz.prog 46 #[.agg #[.bool x.al, .int .i64 x.wh, .int .i64 x.id, .int .i64 x.fl, .int .i64 x.ma]] w fun e w' => e = .returned (.string (aceT x)) ∧ Below w.heap.size w w') := (fun h w => sAce_any x h w)
  have hN : Hid (aceB x = false → aceT x = ⟨#[]⟩) := (fun h => by rw [aceT, h]; rfl)
  generalize aceT x = R at hA hN ⊢
  generalize aceB x = b at hR hA hN
  go_enter Tryz.func16, Tryz.ntmps16
  obtain ⟨c0, c1, c2, c3, c4⟩ := hF.out
  simp only [Nat.zero_add] at c0 c1 c2 c3 c4
  go_wp2_with fail
  refine (hR.out _).mono ?_
  rintro e w1 ⟨rfl, hb1⟩
  have hF1 : Hid (Five w1 w.heap.size 0 x) := hF.out.below (by simp) hb1
  have hW1 : Hid (Below w.heap.size w w1) := Below.on hB.out hb1
  clear c0 c1 c2 c3 c4 hb1 hF hB hR
  cases b
  · have hn := hN.out rfl
    subst hn
    go_wp2
    go_ret
    exact ⟨rfl, hW1.out⟩
  · have hA1 : Hid (∀ w, Calls Tryz.prog 46 #[.agg #[.bool x.al, .int .i64 x.wh, .int .i64 x.id, .int .i64 x.fl, .int .i64 x.ma]] w fun e w' => e = .returned (.string R) ∧ Below w.heap.size w w') := hA.out rfl
    obtain ⟨c0, c1, c2, c3, c4⟩ := hF1.out
    simp only [Nat.zero_add] at c0 c1 c2 c3 c4
    clear hA hN
    go_wp2_with fail
    refine (hA1.out _).mono ?_
    rintro e w2 ⟨rfl, hb2⟩
    have hW2 : Hid (Below w.heap.size w w2) := Below.on hW1.out hb2
    clear hb2 c0 c1 c2 c3 c4
    go_wp2
    go_ret
    exact ⟨rfl, hW2.out⟩
theorem sign_split (al : Bool) : (if al then (⟨#[65]⟩ : ByteArray) else ⟨#[68]⟩) ++ ⟨#[58]⟩ = (if al then ⟨#[65, 58]⟩ else ⟨#[68, 58]⟩) := by
  cases al <;> rfl
set_option maxRecDepth 100000 in
set_option maxHeartbeats 4000000 in
/-- impl.AceText of a right ace. -/
theorem iAce_in (al : Bool) (wh id fl ma : Nat) (hb : aceB ⟨al, wh, id, fl, ma⟩ = true) (h1 : 1 ≤ wh) (h5 : wh ≤ 5) (hid : id ≤ 9999) (hf : fl ≤ 15) (hm : ma ≤ 255) (w : World) (hp : PowW w) :
    Calls Tryz.prog 5 #[.agg #[.bool al, .int .i64 wh, .int .i64 id, .int .i64 fl, .int .i64 ma]] w fun e w' => e = .returned (.string (aceTx al wh id fl ma)) ∧ Below w.heap.size w w' := by
  have hR : Hid (∀ w, Calls Tryz.prog 26 #[.agg #[.bool al, .int .i64 wh, .int .i64 id, .int .i64 fl, .int .i64 ma]] w fun e w' => e = .returned (.bool true) ∧ Below w.heap.size w w') := (fun w => by have := iAceRight_any ⟨al, wh, id, fl, ma⟩ w; rwa [hb] at this)
  have hS1 : Hid (∀ w, Calls Tryz.prog 28 #[.int .i64 fl, .string ⟨#[102, 100, 110, 105]⟩] w fun e w' => e = .returned (.string (sgT fl fdni)) ∧ Below w.heap.size w w') := iSigns_any fl (by omega) fdni (by decide)
  have hS2 : Hid (∀ w, Calls Tryz.prog 28 #[.int .i64 ma, .string ⟨#[114, 119, 120, 97, 100, 99, 67, 111]⟩] w fun e w' => e = .returned (.string (sgT ma rwxs)) ∧ Below w.heap.size w w') := iSigns_any ma (by omega) rwxs (by decide)
  have hWh : Hid (∀ w', Below w.heap.size w w' → Calls Tryz.prog 29 #[.agg #[.bool al, .int .i64 wh, .int .i64 id, .int .i64 fl, .int .i64 ma]] w' fun e w'' => e = .returned (.string (whoT wh id)) ∧ Below w'.heap.size w' w'') := (fun w' hb => iWho_any al wh id fl ma h1 h5 hid w' (hp.below hb))
  have HT : Hid (aceTx al wh id fl ma = (if al then ⟨#[65]⟩ else ⟨#[68]⟩) ++ ⟨#[58]⟩ ++ sgT fl fdni ++ ⟨#[58]⟩ ++ whoT wh id ++ ⟨#[58]⟩ ++ sgT ma rwxs) := (by show _ = _; rw [sign_split]; rfl)
  have z1 : (sgT fl fdni).size ≤ 4 := sgT_size fl fdni
  have z2 : (sgT ma rwxs).size ≤ 8 := sgT_size ma rwxs
  have z3 : (whoT wh id).size ≤ 9 := whoT_size hid
  have hF : Hid (Five (w.alloc (.cells #[.bool al, .int .i64 wh, .int .i64 id, .int .i64 fl, .int .i64 ma] 24)) w.heap.size 0 ⟨al, wh, id, fl, ma⟩) := five_new w ⟨al, wh, id, fl, ma⟩ 24
  have hW0 : Hid (Below w.heap.size w (w.alloc (.cells #[.bool al, .int .i64 wh, .int .i64 id, .int .i64 fl, .int .i64 ma] 24))) := bel_alloc _ _
  clear h1 h5 hid hf hm hp hb
  have J7 : Hid (∀ w (s : ByteArray), s.size = 1 → Calls Tryz.prog 27 #[.slice (some ⟨w.heap.size, 0, none⟩) 7 7] (w.alloc (.cells #[.string s, .string ⟨#[58]⟩, .string (sgT fl fdni), .string ⟨#[58]⟩, .string (whoT wh id), .string ⟨#[58]⟩, .string (sgT ma rwxs)] 9)) fun e' w' => e' = .returned (.string (s ++ ⟨#[58]⟩ ++ sgT fl fdni ++ ⟨#[58]⟩ ++ whoT wh id ++ ⟨#[58]⟩ ++ sgT ma rwxs)) ∧ Below w.heap.size w w') := (fun w s hs => join_seven s _ _ _ _ _ _ w (by have k0 : (⟨#[58]⟩ : ByteArray).size = 1 := rfl; omega) 7)
  generalize sgT fl fdni = A1 at hS1 HT J7
  generalize sgT ma rwxs = A2 at hS2 HT J7
  generalize whoT wh id = A3 at hWh HT J7
  generalize aceTx al wh id fl ma = R at HT ⊢
  clear z1 z2 z3
  go_enter Tryz.func5, Tryz.ntmps5
  obtain ⟨c0, c1, c2, c3, c4⟩ := hF.out
  simp only [Nat.zero_add] at c0 c1 c2 c3 c4
  go_wp2_with fail
  refine (hR.out _).mono ?_
  rintro e w1 ⟨rfl, hb1⟩
  have hF1 : Hid (Five w1 w.heap.size 0 ⟨al, wh, id, fl, ma⟩) := hF.out.below (by simp) hb1
  have hW1 : Hid (Below w.heap.size w w1) := Below.on hW0.out hb1
  have hlt : w.heap.size < w1.heap.size := Nat.lt_of_lt_of_le (by simp) hb1.size
  have HLT : Hid (w.heap.size < w1.heap.size) := hlt
  clear c0 c1 c2 c3 c4 hb1 hF hW0 hR hlt
  obtain ⟨c0, c1, c2, c3, c4⟩ := hF1.out
  simp only [Nat.zero_add] at c0 c1 c2 c3 c4
  cases al
  · go_wp2_with fail
    go_region_held3 (fun w' => w'.cell? ⟨w.heap.size, 0, none⟩ = some (.bool false) ∧ w'.cell? ⟨w.heap.size, 1, none⟩ = some (.int .i64 wh) ∧ w'.cell? ⟨w.heap.size, 2, none⟩ = some (.int .i64 id) ∧ w'.cell? ⟨w.heap.size, 3, none⟩ = some (.int .i64 fl) ∧ w'.cell? ⟨w.heap.size, 4, none⟩ = some (.int .i64 ma)) (go_keep)
      (first
        | (go_at_call 28; refine (hS1.out _).mono ?_; rintro e wa ⟨rfl, hba⟩; clear hS1; have hA : Hid (Below w1.heap.size w1 wa) := bdZ hba; obtain ⟨ya0, ya1, ya2, ya3, ya4⟩ := hF1.out.below HLT.out hA.out; simp only [Nat.zero_add] at ya0 ya1 ya2 ya3 ya4)
        | (go_at_call 29; refine (hWh.out _ (Below.on hW1.out hA.out)).mono ?_; rintro e wb ⟨rfl, hbb⟩; have hBb : Hid (Below w1.heap.size w1 wb) := Below.on hA.out hbb; obtain ⟨yb0, yb1, yb2, yb3, yb4⟩ := hF1.out.below HLT.out hBb.out; simp only [Nat.zero_add] at yb0 yb1 yb2 yb3 yb4)
        | (go_at_call 28; refine (hS2.out _).mono ?_; rintro e wc ⟨rfl, hbc⟩; clear hS2; have hC : Hid (Below w1.heap.size w1 wc) := Below.on hBb.out hbc; obtain ⟨yc0, yc1, yc2, yc3, yc4⟩ := hF1.out.below HLT.out hC.out; simp only [Nat.zero_add] at yc0 yc1 yc2 yc3 yc4)
        | (go_at_call 27; refine (J7.out _ _ rfl).mono ?_; rintro e wd ⟨rfl, hbd⟩; have hD : Hid (Below w1.heap.size w1 wd) := Below.on hC.out hbd; obtain ⟨yd0, yd1, yd2, yd3, yd4⟩ := hF1.out.below HLT.out hD.out; simp only [Nat.zero_add] at yd0 yd1 yd2 yd3 yd4))
    have hW2 : Hid (Below w.heap.size w wd) := Below.on hW1.out hD.out
    clear c0 c1 c2 c3 c4 ya0 ya1 ya2 ya3 ya4 yb0 yb1 yb2 yb3 yb4 yc0 yc1 yc2 yc3 yc4 yd0 yd1 yd2 yd3 yd4 hba hbb hbc hbd hA hBb hC hD
    go_wp2
    go_ret
    exact ⟨ret_txt HT.out.symm, hW2.out⟩
  · go_wp2_with fail
    go_region_held3 (fun w' => w'.cell? ⟨w.heap.size, 0, none⟩ = some (.bool true) ∧ w'.cell? ⟨w.heap.size, 1, none⟩ = some (.int .i64 wh) ∧ w'.cell? ⟨w.heap.size, 2, none⟩ = some (.int .i64 id) ∧ w'.cell? ⟨w.heap.size, 3, none⟩ = some (.int .i64 fl) ∧ w'.cell? ⟨w.heap.size, 4, none⟩ = some (.int .i64 ma)) (go_keep)
      (first
        | (go_at_call 28; refine (hS1.out _).mono ?_; rintro e wa ⟨rfl, hba⟩; clear hS1; have hA : Hid (Below w1.heap.size w1 wa) := bdZ hba; obtain ⟨ya0, ya1, ya2, ya3, ya4⟩ := hF1.out.below HLT.out hA.out; simp only [Nat.zero_add] at ya0 ya1 ya2 ya3 ya4)
        | (go_at_call 29; refine (hWh.out _ (Below.on hW1.out hA.out)).mono ?_; rintro e wb ⟨rfl, hbb⟩; have hBb : Hid (Below w1.heap.size w1 wb) := Below.on hA.out hbb; obtain ⟨yb0, yb1, yb2, yb3, yb4⟩ := hF1.out.below HLT.out hBb.out; simp only [Nat.zero_add] at yb0 yb1 yb2 yb3 yb4)
        | (go_at_call 28; refine (hS2.out _).mono ?_; rintro e wc ⟨rfl, hbc⟩; clear hS2; have hC : Hid (Below w1.heap.size w1 wc) := Below.on hBb.out hbc; obtain ⟨yc0, yc1, yc2, yc3, yc4⟩ := hF1.out.below HLT.out hC.out; simp only [Nat.zero_add] at yc0 yc1 yc2 yc3 yc4)
        | (go_at_call 27; refine (J7.out _ _ rfl).mono ?_; rintro e wd ⟨rfl, hbd⟩; have hD : Hid (Below w1.heap.size w1 wd) := Below.on hC.out hbd; obtain ⟨yd0, yd1, yd2, yd3, yd4⟩ := hF1.out.below HLT.out hD.out; simp only [Nat.zero_add] at yd0 yd1 yd2 yd3 yd4))
    have hW2 : Hid (Below w.heap.size w wd) := Below.on hW1.out hD.out
    clear c0 c1 c2 c3 c4 ya0 ya1 ya2 ya3 ya4 yb0 yb1 yb2 yb3 yb4 yc0 yc1 yc2 yc3 yc4 yd0 yd1 yd2 yd3 yd4 hba hbb hbc hbd hA hBb hC hD
    go_wp2
    go_ret
    exact ⟨ret_txt HT.out.symm, hW2.out⟩
set_option maxRecDepth 100000 in
set_option maxHeartbeats 2000000 in
/-- impl.AceText. -/
theorem iAceText_any (x : Ac) (w : World) (hp : PowW w) :
    Calls Tryz.prog 5 #[.agg #[.bool x.al, .int .i64 x.wh, .int .i64 x.id, .int .i64 x.fl, .int .i64 x.ma]] w fun e w' => e = .returned (.string (aceT x)) ∧ Below w.heap.size w w' := by
  cases h : aceB x
  · have hR : Hid (∀ w, Calls Tryz.prog 26 #[.agg #[.bool x.al, .int .i64 x.wh, .int .i64 x.id, .int .i64 x.fl, .int .i64 x.ma]] w fun e w' => e = .returned (.bool false) ∧ Below w.heap.size w w') := (fun w => by have := iAceRight_any x w; rwa [h] at this)
    have hB : Hid (Below w.heap.size w (w.alloc (.cells #[.bool x.al, .int .i64 x.wh, .int .i64 x.id, .int .i64 x.fl, .int .i64 x.ma] 24))) := bel_alloc _ _
    obtain ⟨c0, c1, c2, c3, c4⟩ := five_new w x 24
    simp only [Nat.zero_add] at c0 c1 c2 c3 c4
    have hn : aceT x = ⟨#[]⟩ := by rw [aceT, h]; rfl
    rw [hn]
    clear hn h hp
    go_enter Tryz.func5, Tryz.ntmps5
    go_wp2_with fail
    refine (hR.out _).mono ?_
    rintro e w1 ⟨rfl, hb1⟩
    have hW1 : Hid (Below w.heap.size w w1) := Below.on hB.out hb1
    clear c0 c1 c2 c3 c4 hb1 hB hR
    go_wp2
    go_ret
    exact ⟨rfl, hW1.out⟩
  · obtain ⟨⟨w1, w5⟩, ⟨i0, i9⟩, hz, ⟨⟨f0, f15⟩, hf⟩, m1, m255⟩ := aceB_iff.1 h
    rw [aceT, if_pos h]
    obtain ⟨al, wh, id, fl, ma⟩ := x
    simp only at w1 w5 i0 i9 f0 f15 m1 m255 ⊢
    clear hz hf
    obtain ⟨wh, rfl⟩ := Int.eq_ofNat_of_zero_le (by omega : 0 ≤ wh)
    obtain ⟨id, rfl⟩ := Int.eq_ofNat_of_zero_le i0
    obtain ⟨fl, rfl⟩ := Int.eq_ofNat_of_zero_le f0
    obtain ⟨ma, rfl⟩ := Int.eq_ofNat_of_zero_le (by omega : 0 ≤ ma)
    simp only [Int.toNat_natCast]
    exact iAce_in al wh id fl ma h (by omega) (by omega) (by omega) (by omega) (by omega) w hp
end Go.Proofs.YtedahdncincgjaaGreatDoor
