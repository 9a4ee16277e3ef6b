/- Laid together: EntW, PpM. -/
import Derived.Test.YtcgkkeooigjbbaaDoorRows
import Derived.WalkKit
import Derived.PlainAid
import Derived.WalkSpells
import Derived.WalkLawsBesides
import Derived.Lib.IndexAny
import Derived.Test.YtcgkkeooigjbbaaDoorPP4
/- isSigns, LinkBody, EntryName, the program's and the specification's: each answers just whether the text may be. -/
namespace Go.Proofs.YtcgkkeooigjbbaaDoor
open Go.RowKit Go.PlainAid
set_option linter.unusedVariables false
/-- A byte from 33 to 126. -/
def sgB (b : Int) : Bool := decide (33 ≤ b) && decide (b ≤ 126)
def sgTo (s : ByteArray) : Nat → Bool
  | 0 => true
  | k + 1 => sgTo s k && sgB (bt s k)
/-- So many bytes from 33 to 126. -/
def signsB (s : ByteArray) (most : Nat) : Bool := decide (1 ≤ s.size) && decide (s.size ≤ most) && sgTo s s.size
def nsTo (s : ByteArray) : Nat → Bool
  | 0 => true
  | k + 1 => nsTo s k && bt s k != 47
/-- EntryName. -/
def entB (s : ByteArray) : Bool := signsB s 12 && ((s.toList != [46]) && ((s.toList != [46, 46]) && nsTo s s.size))
theorem sgB_yes {b : Int} (h1 : 33 ≤ b) (h2 : b ≤ 126) : sgB b = true := by simp [sgB, h1, h2]
theorem sgB_no {b : Int} (h : b < 33 ∨ 126 < b) : sgB b = false := by simp [sgB]; omega
theorem sgTo_false {s : ByteArray} {k n : Nat} (h : k < n) (hk : sgB (bt s k) = false) : sgTo s n = false := by
  induction n with
  | zero => omega
  | succ n ih =>
    by_cases e : k = n
    · subst e; simp [sgTo, hk]
    · simp [sgTo, ih (by omega)]
theorem nsTo_false {s : ByteArray} {k n : Nat} (h : k < n) (hk : bt s k = 47) : nsTo s n = false := by
  induction n with
  | zero => omega
  | succ n ih =>
    by_cases e : k = n
    · subst e; simp [nsTo, hk]
    · simp [nsTo, ih (by omega)]
theorem signs_no {s : ByteArray} {k m : Nat} (h : k < s.size) (hk : sgB (bt s k) = false) : signsB s m = false := by simp [signsB, sgTo_false h hk]
theorem signs_short {s : ByteArray} {m : Nat} (h : s.size < 1) : signsB s m = false := by
  have : ¬ 1 ≤ s.size := by omega
  simp [signsB, this]
theorem signs_long {s : ByteArray} {m : Nat} (h : m < s.size) : signsB s m = false := by
  have : ¬ s.size ≤ m := by omega
  simp [signsB, this]
theorem signs_yes {s : ByteArray} {m : Nat} (h1 : 1 ≤ s.size) (h2 : s.size ≤ m) (h : sgTo s s.size = true) : signsB s m = true := by simp [signsB, h1, h2, h]
theorem sgTo_next {s : ByteArray} {k : Nat} (h : sgTo s k = true) (hk : sgB (bt s k) = true) : sgTo s (k + 1) = true := by simp [sgTo, h, hk]
theorem nsTo_next {s : ByteArray} {k : Nat} (h : nsTo s k = true) (hk : ¬ bt s k = 47) : nsTo s (k + 1) = true := by simp [nsTo, h, hk]
theorem ret_boolS {a b : Bool} (h : a = b) : Ending.returned (.bool a) = .returned (.bool b) := by rw [h]
theorem signs_len {s : ByteArray} {m : Nat} (h : signsB s m = true) : 1 ≤ s.size ∧ s.size ≤ m := by
  simp only [signsB, Bool.and_eq_true, decide_eq_true_eq] at h
  exact h.1
set_option maxHeartbeats 1000000 in
theorem iSigns_in (s : ByteArray) (n : Nat) (hn : n ≤ 1000) (h1 : 1 ≤ s.size) (hs : s.size ≤ n) (w : World) :
    Calls Tryd.prog 11 #[.string s, .int .i64 n] w fun e w' => e = .returned (.bool (signsB s n)) ∧ w' = w := by
  have hbt := get_bt s
  have d1 : decide ((s.size : Int) < 1) = false := by simp; omega
  have d2 : decide ((n : Int) < (s.size : Int)) = false := by simp; omega
  go_enter Tryd.func11, Tryd.ntmps11
  go_wp2
  go_loop [17] (fun i => ∃ k : Nat, k ≤ s.size ∧ i = .int .i64 k ∧ Hid (sgTo s k = true)) (fun i => s.size - (intOf i).toNat)
  case atStart => exact ⟨0, Nat.zero_le _, rfl, rfl⟩
  case round =>
    obtain ⟨k, hk, rfl, hto⟩ := hrel
    by_cases hlt : k < s.size
    · by_cases c1 : bt s k < 33
      · have hno : Hid (signsB s n = false) := signs_no hlt (sgB_no (.inl c1))
        go_wp2
        go_ret
        exact ⟨ret_boolS hno.out.symm, rfl⟩
      · have e1 : decide (bt s k < 33) = false := by simp; omega
        by_cases c2 : 126 < bt s k
        · have hno : Hid (signsB s n = false) := signs_no hlt (sgB_no (.inr c2))
          clear c1
          go_wp2
          go_ret
          exact ⟨ret_boolS hno.out.symm, rfl⟩
        · have hok : Hid (sgB (bt s k) = true) := sgB_yes (by omega) (by omega)
          have e2 : decide (126 < bt s k) = false := by simp; omega
          clear c1 c2
          go_wp2
          go_round
          case rel => exact ⟨k + 1, by omega, by go_num, sgTo_next hto.out hok.out⟩
          case measure => simp [intOf]; omega
    · have : k = s.size := by omega
      subst this
      have hyes : Hid (signsB s n = true) := signs_yes h1 hs hto.out
      go_wp2
      go_ret
      exact ⟨ret_boolS hyes.out.symm, rfl⟩
theorem iSigns_short (s : ByteArray) (n : Nat) (h : (s.size : Int) < 1) (w : World) :
    Calls Tryd.prog 11 #[.string s, .int .i64 n] w fun e w' => e = .returned (.bool (signsB s n)) ∧ w' = w := by
  have hno : Hid (signsB s n = false) := signs_short (by omega)
  go_enter Tryd.func11, Tryd.ntmps11
  go_wp2
  go_ret
  exact ⟨ret_boolS hno.out.symm, rfl⟩
theorem iSigns_long (s : ByteArray) (n : Nat) (h : (n : Int) < (s.size : Int)) (hs : s.size ≤ maxLen) (w : World) :
    Calls Tryd.prog 11 #[.string s, .int .i64 n] w fun e w' => e = .returned (.bool (signsB s n)) ∧ w' = w := by
  unfold maxLen at hs
  have hno : Hid (signsB s n = false) := signs_long (by omega)
  have d1 : decide ((s.size : Int) < 1) = false := by simp; omega
  go_enter Tryd.func11, Tryd.ntmps11
  go_wp2
  go_ret
  exact ⟨ret_boolS hno.out.symm, rfl⟩
/-- impl.isSigns. -/
theorem iSigns_any (s : ByteArray) (n : Nat) (hn : n ≤ 1000) (hs : s.size ≤ maxLen) (w : World) :
    Calls Tryd.prog 11 #[.string s, .int .i64 n] w fun e w' => e = .returned (.bool (signsB s n)) ∧ w' = w := by
  by_cases h1 : (s.size : Int) < 1
  · exact iSigns_short s n h1 w
  · by_cases h2 : (n : Int) < (s.size : Int)
    · exact iSigns_long s n h2 hs w
    · exact iSigns_in s n hn (by omega) (by omega) w
set_option maxHeartbeats 1000000 in
/-- spec.l08Bytes. -/
theorem sBytes_any (s : ByteArray) (n : Nat) (hn : n ≤ 1000) (hs : s.size ≤ maxLen) (w : World) :
    Calls Tryd.prog 9 #[.string s, .int .i64 n] w fun e w' => e = .returned (.bool (signsB s n)) ∧ w' = w := by
  have hbt := get_bt s
  unfold maxLen at hs
  go_enter Tryd.func9, Tryd.ntmps9
  go_wp2
  go_loop [5] (fun i => ∃ k : Nat, k ≤ s.size ∧ k ≤ n + 1 ∧ i = .int .i64 k ∧ Hid (sgTo s k = true)) (fun i => s.size - (intOf i).toNat)
  case atStart => exact ⟨0, Nat.zero_le _, Nat.zero_le _, rfl, rfl⟩
  case round =>
    obtain ⟨k, hk, hk2, rfl, hto⟩ := hrel
    by_cases hlt : k < s.size
    · by_cases hle : k ≤ n
      · have f0 : (k : Int) < (s.size : Int) := by omega
        have f1 : (k : Int) ≤ (n : Int) := by omega
        by_cases c1 : bt s k < 33
        · have hno : Hid (signsB s n = false) := signs_no hlt (sgB_no (.inl c1))
          go_wp2
          go_ret
          exact ⟨ret_boolS hno.out.symm, rfl⟩
        · have e1 : decide (bt s k < 33) = false := by simp; omega
          by_cases c2 : 126 < bt s k
          · have hno : Hid (signsB s n = false) := signs_no hlt (sgB_no (.inr c2))
            clear c1
            go_wp2
            go_ret
            exact ⟨ret_boolS hno.out.symm, rfl⟩
          · have hok : Hid (sgB (bt s k) = true) := sgB_yes (by omega) (by omega)
            have e2 : decide (126 < bt s k) = false := by simp; omega
            clear c1 c2
            go_wp2
            go_round
            case rel => exact ⟨k + 1, by omega, by omega, by go_num, sgTo_next hto.out hok.out⟩
            case measure => simp [intOf]; omega
      · have hno : Hid (signsB s n = false) := signs_long (by omega)
        have f0 : (k : Int) < (s.size : Int) := by omega
        have f1 : decide ((k : Int) ≤ (n : Int)) = false := by simp; omega
        have f2 : decide (1 ≤ (s.size : Int)) = true := by simp; omega
        go_wp2
        go_ret
        exact ⟨ret_boolS (by rw [hno.out]; first | done | (simp; omega)), rfl⟩
    · have : k = s.size := by omega
      subst this
      have f0 : decide ((s.size : Int) < (s.size : Int)) = false := by simp
      by_cases h1 : 1 ≤ s.size
      · have f2 : decide (1 ≤ (s.size : Int)) = true := by simp; omega
        by_cases h2 : s.size ≤ n
        · have hyes : Hid (signsB s n = true) := signs_yes h1 h2 hto.out
          have f3 : s.size ≤ n := h2
          go_wp2
          go_ret
          exact ⟨ret_boolS (by rw [hyes.out]; first | done | simp [f3]), rfl⟩
        · have hno : Hid (signsB s n = false) := signs_long (by omega)
          go_wp2
          go_ret
          exact ⟨ret_boolS (by rw [hno.out]; first | done | (simp; omega)), rfl⟩
      · have hno : Hid (signsB s n = false) := signs_short (by omega)
        have f2 : decide (1 ≤ (s.size : Int)) = false := by simp; omega
        go_wp2
        go_ret
        exact ⟨ret_boolS hno.out.symm, rfl⟩
end Go.Proofs.YtcgkkeooigjbbaaDoor
/- The parts of a path: mathematics. -/
namespace Go.Proofs.YtcgkkeooigjbbaaDoor
open Go.RowKit Go.PlainAid Go.Deep
set_option linter.unusedVariables false
theorem strB_of {s : ByteArray} {b : Bool} {l : List UInt8} (h : (s.toList == l) = b) : (s.toList == l) = b ∧ (s.toList != l) = !b := ⟨h, by rw [bne, h]⟩
theorem piece_fold (c : UInt8) (N : Nat) : ∀ (l : List UInt8) (o : List (List UInt8)) (z : List UInt8), (∀ p ∈ o, p.length ≤ N) → z.length + l.length ≤ N → ∀ p ∈ (l.foldl (splF c) (o, z)).1 ++ [(l.foldl (splF c) (o, z)).2], p.length ≤ N
  | [], o, z, ho, hz, p, hp => by
    simp only [List.foldl_nil, List.mem_append, List.mem_singleton] at hp
    rcases hp with hp | rfl
    · exact ho p hp
    · simp at hz; omega
  | x :: l, o, z, ho, hz, p, hp => by
    simp only [List.foldl_cons] at hp
    by_cases e : x = c
    · have e1 : splF c (o, z) x = (o ++ [z], []) := by simp [splF, e]
      rw [e1] at hp
      refine piece_fold c N l _ _ ?_ (by simp at hz ⊢; omega) p hp
      intro q hq
      simp only [List.mem_append, List.mem_singleton] at hq
      rcases hq with hq | rfl
      · exact ho q hq
      · simp at hz; omega
    · have e1 : splF c (o, z) x = (o, z ++ [x]) := by simp [splF, e]
      rw [e1] at hp
      exact piece_fold c N l _ _ ho (by simp at hz ⊢; omega) p hp
theorem piece_len (c : UInt8) (t : List UInt8) : ∀ p ∈ spl c t, p.length ≤ t.length := fun p hp => piece_fold c t.length t [] [] (fun q hq => by simp at hq) (by simp) p hp
theorem ret_boolP {a b : Bool} (h : a = b) : Ending.returned (.bool a) = .returned (.bool b) := by rw [h]
/-- What is not empty. -/
def nes (l : List (List UInt8)) : List (List UInt8) := l.filter fun x => !x.isEmpty
theorem nes_next {l : List (List UInt8)} {k : Nat} (h : k < l.length) : nes (l.take (k + 1)) = nes (l.take k) ++ (if l[k].isEmpty then [] else [l[k]]) := by
  rw [List.take_add_one, nes, List.filter_append, List.getElem?_eq_getElem h]
  cases e : l[k].isEmpty <;> simp [nes, e]
theorem nes_len (l : List (List UInt8)) : (nes l).length ≤ l.length := List.length_filter_le _ _
/-- The parts of a text. -/
def prt (l : List UInt8) : List (List UInt8) := nes (spl 47 l)
theorem prt_len (l : List UInt8) : (prt l).length ≤ l.length + 1 := Nat.le_trans (nes_len _) (spl_len 47 l)
/-- One of the parts is too long. -/
def lngTo (l : List (List UInt8)) : Nat → Bool
  | 0 => false
  | k + 1 => lngTo l k || decide (12 < (l.getD k []).length)
def lng (l : List (List UInt8)) : Bool := lngTo l l.length
theorem lngTo_yes {l : List (List UInt8)} {k n : Nat} (h : k < n) (hk : 12 < (l.getD k []).length) : lngTo l n = true := by
  induction n with
  | zero => omega
  | succ n ih =>
    by_cases e : k = n
    · subst e; simp only [lngTo, decide_eq_true hk, Bool.or_true]
    · simp [lngTo, ih (by omega)]
theorem lngTo_next {l : List (List UInt8)} {k : Nat} (h : lngTo l k = false) (hk : ¬ 12 < (l.getD k []).length) : lngTo l (k + 1) = false := by simp only [lngTo, h, decide_eq_false hk, Bool.or_self]
def firB (s : ByteArray) : Bool := bt s 0 == 47
def lasB (s : ByteArray) : Bool := bt s (s.size - 1) == 47
/-- The code of a path's parts. -/
def ppC (s : ByteArray) : Int := if 8000 < s.size then 2 else if signsB s 60 && firB s then (if lng (prt s.data.toList) then 8 else 0) else 1
theorem ppC_size {s : ByteArray} (h : 8000 < s.size) : ppC s = 2 := by simp [ppC, h]
theorem ppC_form {s : ByteArray} (h : ¬ 8000 < s.size) (h2 : (signsB s 60 && firB s) = false) : ppC s = 1 := by simp only [ppC, if_neg h, h2, Bool.false_eq_true, if_false]
theorem ppC_range {s : ByteArray} (h : ¬ 8000 < s.size) (h2 : (signsB s 60 && firB s) = true) (h3 : lng (prt s.data.toList) = true) : ppC s = 8 := by simp only [ppC, if_neg h, h2, h3, if_true]
theorem ppC_ok {s : ByteArray} (h : ¬ 8000 < s.size) (h2 : (signsB s 60 && firB s) = true) (h3 : lng (prt s.data.toList) = false) : ppC s = 0 := by simp only [ppC, if_neg h, h2, h3, if_true, Bool.false_eq_true, if_false]
theorem bt_raw {s : ByteArray} {k : Nat} (h : k < s.size) : bt s k = ((s.data.toList[k]'(by rw [← Lib.size_eq]; exact h)).toNat : Int) := by
  rw [bt, dif_pos h]
  rfl
theorem bt47 {s : ByteArray} {k : Nat} (h : k < s.size) : (bt s k == 47) = (s.data.toList[k]'(by rw [← Lib.size_eq]; exact h) == (47 : UInt8)) := by
  rw [bt_raw h]
  generalize s.data.toList[k]'(by rw [← Lib.size_eq]; exact h) = b
  cases e : (b == (47 : UInt8))
  · have h1 : b ≠ 47 := by simpa using e
    have h2 : b.toNat ≠ 47 := fun q => h1 (UInt8.toNat_inj.1 q)
    simp
    omega
  · have h1 : b = 47 := by simpa using e
    rw [h1]
    rfl
theorem pre_l (l : List UInt8) (h : 0 < l.length) : Lib.hasPrefix l [47] = (l[0] == (47 : UInt8)) := by
  rw [← Lib.hasPrefix_of_take]
  cases l with
  | nil => simp at h
  | cons b r => simp
theorem suf_l (l : List UInt8) (h : 0 < l.length) : Lib.hasSuffix l [47] = (l[l.length - 1] == (47 : UInt8)) := by
  rw [← Lib.hasSuffix_of_drop]
  have e1 : l.drop (l.length - 1) = l[l.length - 1] :: l.drop (l.length - 1 + 1) := List.drop_eq_getElem_cons (by omega)
  have e2 : l.drop (l.length - 1 + 1) = [] := List.drop_eq_nil_of_le (by omega)
  have e3 : ([47] : List UInt8).length = 1 := rfl
  have e4 : decide (1 ≤ l.length) = true := by simp; omega
  rw [e3, e1, e2, e4]
  simp
theorem pre_fir {s : ByteArray} (h : 1 ≤ s.size) : Lib.hasPrefix s.data.toList [47] = firB s := by
  have hl : s.data.toList.length = s.size := (Lib.size_eq s).symm
  rw [firB, bt47 (by omega), pre_l _ (by omega)]
theorem suf_las {s : ByteArray} (h : 1 ≤ s.size) : Lib.hasSuffix s.data.toList [47] = lasB s := by
  have hl : s.data.toList.length = s.size := (Lib.size_eq s).symm
  rw [lasB, bt47 (by omega), suf_l _ (by omega)]
  simp only [hl]
end Go.Proofs.YtcgkkeooigjbbaaDoor
