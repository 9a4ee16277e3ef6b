/- Laid together: Runes, NumM, ReadM, DecRd. -/
import Derived.Laws.RangeAny
import Derived.Test.YtedahdncincgjaaGreatDoorNX29
/- A range over a text, sign by sign: a byte below 128 is its own rune; another byte's rune is none of these. Nothing here names a program. -/
namespace Go.Proofs.YtedahdncincgjaaGreatDoor
open Go.RowKit Go.PlainAid
set_option linter.unusedVariables false
theorem bt_at {s : ByteArray} {k : Nat} (hk : k < s.size) : bt s k = ((s[k]'hk).toNat : Int) := by unfold bt; rw [dif_pos hk]
theorem run_sign (P : Program) (w : World) (s : ByteArray) (k : Nat) (c : Nat) (hk : k < s.size) (hb : bt s k = (c : Int)) (hc : c < 128) (ty : TypeId) :
    (Instr.next (.pointer (some ⟨w.heap.size, 0, none⟩)) true ty).run P (w.iter s k) = .ok (.tuple #[.bool true, .int .i64 k, .int .i32 c]) (w.iter s (k + 1)) := by
  rw [bt_at hk] at hb
  have e : (s[k]'hk).toNat = c := by omega
  have h := run_next_ascii (P := P) w s k ty hk (by omega)
  rw [e] at h
  exact h
theorem run_other (P : Program) (w : World) (s : ByteArray) (k : Nat) (hk : k < s.size) :
    ∃ (r p : Nat), (∀ c : Nat, c < 128 → bt s k ≠ (c : Int) → ((r : Int) == (c : Int)) = false) ∧ (bt s k < 128 → (r : Int) = bt s k) ∧ (128 ≤ bt s k → 128 ≤ (r : Int)) ∧ ∀ ty, (Instr.next (.pointer (some ⟨w.heap.size, 0, none⟩)) true ty).run P (w.iter s k) = .ok (.tuple #[.bool true, .int .i64 k, .int .i32 r]) (w.iter s p) := by
  refine ⟨(Utf8.decode s k).1, k + (Utf8.decode s k).2, ?_, ?_, ?_, fun ty => run_next_any w s k ty hk⟩
  · intro c hc hne
    rw [bt_at hk] at hne
    rw [beq_eq_false_iff_ne]
    by_cases ha : (s[k]'hk).toNat < 128
    · rw [decode_ascii s k hk ha]
      exact hne
    · have := (decode_high s k hk (by omega)).1
      omega
  · intro ha
    rw [bt_at hk] at ha ⊢
    rw [decode_ascii s k hk (by omega)]
  · intro ha
    rw [bt_at hk] at ha
    have := (decode_high s k hk (by omega)).1
    omega
theorem iter_below (w : World) (s : ByteArray) (k : Nat) : Below w.heap.size w (w.iter s k) := (Below.refl _ _).alloc (Nat.le_refl _) _
theorem run_signs_end (P : Program) (w : World) (s : ByteArray) (k : Nat) (hk : ¬ k < s.size) (ty : TypeId) :
    (Instr.next (.pointer (some ⟨w.heap.size, 0, none⟩)) true ty).run P (w.iter s k) = .ok (.tuple #[.bool false]) (w.iter s k) := run_next_end w s k ty hk
/-- Is it a digit? -/
def dgB (x : UInt8) : Bool := decide (48 ≤ x.toNat) && decide (x.toNat ≤ 57)
theorem dgB_iff {x : UInt8} : dgB x = true ↔ 48 ≤ x.toNat ∧ x.toNat ≤ 57 := by simp [dgB]
/-- The number of some digits. -/
def valD (l : List UInt8) : Nat := l.foldl (fun n x => 10 * n + (x.toNat - 48)) 0
theorem valD_snoc (l : List UInt8) (x : UInt8) : valD (l ++ [x]) = 10 * valD l + (x.toNat - 48) := by simp [valD]
/-- At least one and at most m digits, no zero ahead of others. -/
def okD (m : Nat) (l : List UInt8) : Bool := decide (1 ≤ l.length) && (decide (l.length ≤ m) && (!(decide (1 < l.length) && decide (l.headD 0 = 48)) && l.all dgB))
theorem okD_iff {m : Nat} {l : List UInt8} : okD m l = true ↔ 1 ≤ l.length ∧ l.length ≤ m ∧ ¬ (1 < l.length ∧ l.headD 0 = 48) ∧ ∀ x ∈ l, dgB x = true := by
  simp only [okD, Bool.and_eq_true, decide_eq_true_eq, Bool.not_eq_true', Bool.and_eq_false_iff, decide_eq_false_iff_not, List.all_eq_true]
  constructor
  · rintro ⟨h1, h2, h3, h4⟩
    exact ⟨h1, h2, fun h => h3.elim (fun h5 => h5 h.1) (fun h5 => h5 h.2), h4⟩
  · rintro ⟨h1, h2, h3, h4⟩
    refine ⟨h1, h2, ?_, h4⟩
    by_cases h5 : 1 < l.length
    · exact .inr (fun h6 => h3 ⟨h5, h6⟩)
    · exact .inl h5
theorem okD_no {m : Nat} {l : List UInt8} (h : ¬ (1 ≤ l.length ∧ l.length ≤ m ∧ ¬ (1 < l.length ∧ l.headD 0 = 48) ∧ ∀ x ∈ l, dgB x = true)) : okD m l = false := by
  cases e : okD m l
  · rfl
  · exact absurd (okD_iff.1 e) h
theorem valD_lt {l : List UInt8} (h : ∀ x ∈ l, dgB x = true) : valD l < 10 ^ l.length := by
  have all : ∀ (l : List UInt8) (n k : Nat), (∀ x ∈ l, dgB x = true) → n < 10 ^ k → l.foldl (fun n x => 10 * n + (x.toNat - 48)) n < 10 ^ (k + l.length) := by
    intro l
    induction l with
    | nil => intro n k _ hn; simpa using hn
    | cons x l ih =>
      intro n k hd hn
      have hx := dgB_iff.1 (hd x (by simp))
      have h2 : 10 * n + (x.toNat - 48) < 10 ^ (k + 1) := by
        rw [Nat.pow_succ]
        omega
      have := ih _ (k + 1) (fun y hy => hd y (by simp [hy])) h2
      simp only [List.foldl_cons, List.length_cons]
      have e : k + (l.length + 1) = k + 1 + l.length := by omega
      rw [e]
      exact this
  have := all l 0 0 h (by simp)
  simpa [valD] using this
/-- l02Num. -/
def numI (l : List UInt8) : Int := if okD 9 l then (valD l : Nat) else -1
theorem take_all {l : List UInt8} {k : Nat} (h : ∀ x ∈ l.take k, dgB x = true) (hk : k < l.length) (hx : dgB l[k] = true) : ∀ x ∈ l.take (k + 1), dgB x = true := by
  intro x hm
  rw [← List.take_append_getElem hk] at hm
  rcases List.mem_append.1 hm with h1 | h1
  · exact h x h1
  · rw [List.mem_singleton.1 h1]; exact hx
theorem valD_take {l : List UInt8} {k : Nat} (hk : k < l.length) : valD (l.take (k + 1)) = 10 * valD (l.take k) + (l[k].toNat - 48) := by
  rw [← List.take_append_getElem hk, valD_snoc]
theorem pow9 {k : Nat} (h : k ≤ 9) : 10 ^ k ≤ 1000000000 := by
  have := Nat.pow_le_pow_right (n := 10) (by decide) h
  simpa using this
theorem head_at {s : ByteArray} (h : 0 < s.size) : s.data.toList.headD 0 = s[0] := by
  have hl : s.data.toList.length = s.size := (Lib.size_eq s).symm
  cases e : s.data.toList with
  | nil => rw [e] at hl; simp at hl; omega
  | cons x l =>
    have : s[0] = s.data.toList[0]'(by rw [hl]; exact h) := rfl
    rw [this]
    simp [e]
theorem text_nil {s : ByteArray} (h : s.size = 0) : s = ⟨#[]⟩ := by
  have h1 : s.data.size = 0 := h
  have h2 : s.data = #[] := Array.eq_empty_of_size_eq_zero h1
  apply ByteArray.ext
  rw [h2]
theorem ret_intN {a b : Int} (h : a = b) : Ending.returned (.int .i64 a) = .returned (.int .i64 b) := by rw [h]
set_option maxRecDepth 100000 in
set_option maxHeartbeats 4000000 in
/-- spec.l02Num. -/
theorem sNum_any (s : ByteArray) (hs : s.size ≤ 100000000) (w : World) :
    Calls Tryz.prog 78 #[.string s] w fun e w' => e = .returned (.int .i64 (numI s.data.toList)) ∧ w' = w := by
  have hl : s.data.toList.length = s.size := (Lib.size_eq s).symm
  have HL : Hid (s.data.toList.length = s.size) := hl
  by_cases h0 : s.size = 0
  · have hn : Hid (numI s.data.toList = -1) := (by show _ = _; rw [numI, okD_no (fun h => by omega)]; rfl)
    have hi : (s.size : Int) < 1 := by omega
    clear h0 hl
    go_enter Tryz.func78, Tryz.ntmps78
    go_wp2
    go_ret
    exact ⟨ret_intN hn.out.symm, rfl⟩
  have i1 : decide ((s.size : Int) < 1) = false := by simp; omega
  by_cases h9 : 9 < s.size
  · have hn : Hid (numI s.data.toList = -1) := (by show _ = _; rw [numI, okD_no (fun h => by omega)]; rfl)
    have hi : 9 < (s.size : Int) := by omega
    clear h0 hl h9
    go_enter Tryz.func78, Tryz.ntmps78
    go_wp2
    go_ret
    exact ⟨ret_intN hn.out.symm, rfl⟩
  have i9 : decide (9 < (s.size : Int)) = false := by simp; omega
  have hpos : 0 < s.size := by omega
  have hh := head_at hpos
  by_cases hz : 1 < s.size ∧ s[0] = 48
  · have hn : Hid (numI s.data.toList = -1) := (by show _ = _; rw [numI, okD_no (fun h => h.2.2.1 ⟨by omega, by rw [hh]; exact hz.2⟩)]; rfl)
    have j1 : 1 < (s.size : Int) := by omega
    have j2 : (((s[0]).toNat : Int) == 48) = true := by rw [hz.2]; rfl
    clear h0 hl h9 hz hh
    go_enter Tryz.func78, Tryz.ntmps78
    go_wp2
    go_ret
    exact ⟨ret_intN hn.out.symm, rfl⟩
  have HZ : Hid (¬ (1 < s.data.toList.length ∧ s.data.toList.headD 0 = 48)) := (fun h => hz ⟨by omega, by rw [← hh]; exact h.2⟩)
  have HN : Hid (∀ k (hk : k < s.size), dgB (s[k]'hk) = false → numI s.data.toList = -1) := (fun k hk hd => by
    have hm : (s[k]'hk) ∈ s.data.toList := List.getElem_mem (l := s.data.toList) (n := k) (by rw [hl]; exact hk)
    rw [numI, okD_no (fun h => by rw [h.2.2.2 _ hm] at hd; cases hd)]; rfl)
  have HE : Hid ((∀ x ∈ s.data.toList, dgB x = true) → numI s.data.toList = (valD s.data.toList : Nat)) := (fun h => by rw [numI, okD_iff.2 ⟨by omega, by omega, HZ.out, h⟩]; rfl)
  have HB : Hid (∀ k, k ≤ s.size → (∀ x ∈ s.data.toList.take k, dgB x = true) → valD (s.data.toList.take k) < 1000000000) := (fun k hk h => by
    have h1 := valD_lt h
    have h2 : 10 ^ (s.data.toList.take k).length ≤ 1000000000 := pow9 (by simp; omega)
    omega)
  have main : Hid (∀ z : Bool, (decide (1 < (s.size : Int)) = z) → (z = true → (((s[0]).toNat : Int) == 48) = false) → Calls Tryz.prog 78 #[.string s] w fun e w' => e = .returned (.int .i64 (numI s.data.toList)) ∧ w' = w) := (by
    intro z hz1 hz2
    have hz3 : z = false ∨ (z = true ∧ (((s[0]).toNat : Int) == 48) = false) := by cases z <;> simp_all
    clear hz2 h0 hl h9 hz hh HZ
    rcases hz3 with rfl | ⟨rfl, hz2⟩
    all_goals (
      try (have j1 : 1 < (s.size : Int) := of_decide_eq_true hz1)
      go_enter Tryz.func78, Tryz.ntmps78
      go_wp2
      go_loop [3, 4] (fun n i => ∃ k : Nat, k ≤ s.size ∧ i = .int .i64 k ∧ n = .int .i64 (valD (s.data.toList.take k) : Nat) ∧ Hid (∀ x ∈ s.data.toList.take k, dgB x = true)) (fun _ i => s.size - (intOf i).toNat)
      case atStart => exact ⟨0, Nat.zero_le _, rfl, rfl, fun x hx => by simp at hx⟩
      case round =>
        obtain ⟨k, hk, rfl, rfl, hD⟩ := hrel
        have hb := HB.out k hk hD.out
        by_cases hlt : k < s.size
        · have hlt' : (k : Int) < (s.size : Int) := by omega
          have hix : s.data.toList[k]'(by rw [HL.out]; exact hlt) = s[k] := rfl
          cases hd : dgB s[k]
          · have hn : Hid (numI s.data.toList = -1) := HN.out k hlt hd
            have hdd : ¬ (48 ≤ (s[k]).toNat ∧ (s[k]).toNat ≤ 57) := fun h => by rw [dgB_iff.2 h] at hd; cases hd
            clear hD hix hd hb
            by_cases hc : ((s[k]).toNat : Int) < 48
            · go_wp2
              go_ret
              exact ⟨ret_intN hn.out.symm, rfl⟩
            · have hc0 : decide (((s[k]).toNat : Int) < 48) = false := by simpa using hc
              have hc1 : 57 < ((s[k]).toNat : Int) := by omega
              clear hc
              go_wp2
              go_ret
              exact ⟨ret_intN hn.out.symm, rfl⟩
          · obtain ⟨d0, d1⟩ := dgB_iff.1 hd
            have hD2 : Hid (∀ x ∈ s.data.toList.take (k + 1), dgB x = true) := take_all hD.out (by rw [HL.out]; exact hlt) (by rw [hix]; exact hd)
            have hv : Hid (valD (s.data.toList.take (k + 1)) = 10 * valD (s.data.toList.take k) + ((s[k]).toNat - 48)) := valD_take (by rw [HL.out]; exact hlt)
            have c0 : decide (((s[k]).toNat : Int) < 48) = false := by simp; omega
            have c1 : decide (57 < ((s[k]).toNat : Int)) = false := by simp; omega
            have e0 : 48 ≤ ((s[k]).toNat : Int) := by omega
            have e1 : ((s[k]).toNat : Int) ≤ 57 := by omega
            clear hD hix hd d0 d1
            go_wp2
            go_round
            case rel => exact ⟨k + 1, by omega, by go_num, by rw [hv.out]; go_num, hD2⟩
            case measure => simp [intOf]; omega
        · have hke : k = s.size := by omega
          have hn : Hid (numI s.data.toList = (valD (s.data.toList.take k) : Nat)) := (by
            have ht : s.data.toList.take k = s.data.toList := by rw [hke, ← HL.out, List.take_length]
            have hD2 := hD.out
            rw [ht] at hD2
            show _ = _
            rw [ht]
            exact HE.out hD2)
          subst hke
          go_wp2
          go_ret
          exact ⟨ret_intN hn.out.symm, rfl⟩))
  refine main.out _ rfl (fun h => ?_)
  have h1 := of_decide_eq_true h
  cases e : (((s[0]).toNat : Int) == 48)
  · rfl
  · exact absurd ⟨by omega, UInt8.toNat_inj.1 (by have := beq_iff_eq.1 e; show (s[0]).toNat = 48; omega)⟩ hz
/-- readId. -/
def rdI (l : List UInt8) : Option Nat := if okD 4 l then some (valD l) else none
theorem rdI_no {l : List UInt8} (h : ¬ (1 ≤ l.length ∧ l.length ≤ 4 ∧ ¬ (1 < l.length ∧ l.headD 0 = 48) ∧ ∀ x ∈ l, dgB x = true)) : rdI l = none := by rw [rdI, okD_no h]; rfl
/-- A number that may be none, as a pair. -/
def optI (o : Option Nat) : Value := .tuple #[.int .i64 (o.getD 0 : Nat), .bool o.isSome]
theorem ret_none {o : Option Nat} (h : o = none) : Ending.returned (.tuple #[.int .i64 0, .bool false]) = .returned (optI o) := by subst h; rfl
theorem ret_some {o : Option Nat} {n : Nat} (h : o = some n) : Ending.returned (.tuple #[.int .i64 (n : Int), .bool true]) = .returned (optI o) := by subst h; rfl
theorem full_text {s : ByteArray} (h : 0 < s.size) : s.toList.isEmpty = false := by
  rw [ByteArray.toList_eq, List.isEmpty_eq_false_iff]
  intro e
  have h3 : s.data.toList.length = 0 := by rw [e]; rfl
  have h2 : s.size = s.data.toList.length := Lib.size_eq _
  omega
theorem odd_digit (w : World) (s : ByteArray) (k : Nat) (hk : k < s.size) (h : dgB s[k] = false) :
    ∃ (r p : Nat), ((r : Int) < 48 ∨ 57 < (r : Int)) ∧ ∀ ty, (Instr.next (.pointer (some ⟨w.heap.size, 0, none⟩)) true ty).run Tryz.prog (w.iter s k) = .ok (.tuple #[.bool true, .int .i64 k, .int .i32 r]) (w.iter s p) := by
  obtain ⟨r, p, -, h1, h2, hn⟩ := run_other Tryz.prog w s k hk
  refine ⟨r, p, ?_, hn⟩
  have hd : ¬ (48 ≤ (s[k]).toNat ∧ (s[k]).toNat ≤ 57) := fun h3 => by rw [dgB_iff.2 h3] at h; cases h
  rw [bt_at hk] at h1 h2
  by_cases e : ((s[k]).toNat : Int) < 128
  · have := h1 e
    omega
  · have := h2 (by omega)
    omega
set_option maxRecDepth 100000 in
set_option maxHeartbeats 4000000 in
/-- impl.readDigits. -/
theorem iReadDigits_any (s : ByteArray) (w : World) :
    Calls Tryz.prog 102 #[.string s, .int .i64 4] w fun e w' => e = .returned (optI (rdI s.data.toList)) ∧ Below w.heap.size w w' := by
  have hl : s.data.toList.length = s.size := (Lib.size_eq s).symm
  have HL : Hid (s.data.toList.length = s.size) := hl
  by_cases h0 : s.size = 0
  · have hn : Hid (rdI s.data.toList = none) := rdI_no (fun h => by omega)
    obtain rfl := text_nil h0
    clear h0 hl HL
    go_enter Tryz.func102, Tryz.ntmps102
    go_wp2
    go_ret2
    exact ⟨ret_none hn.out, Below.refl _ _⟩
  have hpos : 0 < s.size := by omega
  have hne := full_text hpos
  by_cases h4 : 4 < s.size
  · have hn : Hid (rdI s.data.toList = none) := rdI_no (fun h => by omega)
    have hi : 4 < (s.size : Int) := by omega
    clear h0 hl h4
    go_enter Tryz.func102, Tryz.ntmps102
    go_wp2
    go_ret2
    exact ⟨ret_none hn.out, Below.refl _ _⟩
  have i4 : decide (4 < (s.size : Int)) = false := by simp; omega
  have hh := head_at hpos
  by_cases hz : 1 < s.size ∧ s[0] = 48
  · have hn : Hid (rdI s.data.toList = none) := rdI_no (fun h => h.2.2.1 ⟨by omega, by rw [hh]; exact hz.2⟩)
    have j1 : 1 < (s.size : Int) := by omega
    have j2 : (((s[0]).toNat : Int) == 48) = true := by rw [hz.2]; rfl
    clear h0 hl h4 hz hh
    go_enter Tryz.func102, Tryz.ntmps102
    go_wp2
    go_ret2
    exact ⟨ret_none hn.out, Below.refl _ _⟩
  have HZ : Hid (¬ (1 < s.data.toList.length ∧ s.data.toList.headD 0 = 48)) := (fun h => hz ⟨by omega, by rw [← hh]; exact h.2⟩)
  have HN : Hid (∀ k (hk : k < s.size), dgB (s[k]'hk) = false → rdI s.data.toList = none) := (fun k hk hd => by
    have hm : (s[k]'hk) ∈ s.data.toList := List.getElem_mem (l := s.data.toList) (n := k) (by rw [hl]; exact hk)
    exact rdI_no (fun h => by rw [h.2.2.2 _ hm] at hd; cases hd))
  have HE : Hid ((∀ x ∈ s.data.toList, dgB x = true) → rdI s.data.toList = some (valD s.data.toList)) := (fun h => by rw [rdI, okD_iff.2 ⟨by omega, by omega, HZ.out, h⟩]; rfl)
  have HB : Hid (∀ k, k ≤ s.size → (∀ x ∈ s.data.toList.take k, dgB x = true) → valD (s.data.toList.take k) < 1000000000) := (fun k hk h => by
    have h1 := valD_lt h
    have h2 : 10 ^ (s.data.toList.take k).length ≤ 1000000000 := pow9 (by simp; omega)
    omega)
  have main : Hid (∀ z : Bool, (decide (1 < (s.size : Int)) = z) → (z = true → (((s[0]).toNat : Int) == 48) = false) → Calls Tryz.prog 102 #[.string s, .int .i64 4] w fun e w' => e = .returned (optI (rdI s.data.toList)) ∧ Below w.heap.size w w') := (by
    intro z hz1 hz2
    have hz3 : z = false ∨ (z = true ∧ (((s[0]).toNat : Int) == 48) = false) := by cases z <;> simp_all
    clear hz2 h0 hl h4 hz hh HZ
    rcases hz3 with rfl | ⟨rfl, hz2⟩
    all_goals (
      try (have j1 : 1 < (s.size : Int) := of_decide_eq_true hz1)
      go_enter Tryz.func102, Tryz.ntmps102
      go_wp2
      go_loopw [6] (fun n wr => ∃ k : Nat, k ≤ s.size ∧ wr = w.iter s k ∧ n = .int .i64 (valD (s.data.toList.take k) : Nat) ∧ Hid (∀ x ∈ s.data.toList.take k, dgB x = true)) (fun _ wr => s.size - wr.iterPos w.heap.size)
      case atStart => exact ⟨0, Nat.zero_le _, rfl, rfl, fun x hx => by simp at hx⟩
      case round =>
        obtain ⟨k, hk, rfl, rfl, hD⟩ := hrel
        have hb := HB.out k hk hD.out
        by_cases hlt : k < s.size
        · have hix : s.data.toList[k]'(by rw [HL.out]; exact hlt) = s[k] := rfl
          cases hd : dgB s[k]
          · have hn : Hid (rdI s.data.toList = none) := HN.out k hlt hd
            obtain ⟨r, p, hr, hnx⟩ := odd_digit w s k hlt hd
            clear hD hix hd hb
            by_cases hc : (r : Int) < 48
            · clear hr
              go_wp2
              go_ret2
              exact ⟨ret_none hn.out, iter_below _ _ _⟩
            · have hc0 : decide ((r : Int) < 48) = false := by simpa using hc
              have hc1 : 57 < (r : Int) := by omega
              clear hc hr
              go_wp2
              go_ret2
              exact ⟨ret_none hn.out, iter_below _ _ _⟩
          · obtain ⟨d0, d1⟩ := dgB_iff.1 hd
            have hnx := run_sign Tryz.prog w s k (s[k]).toNat hlt (bt_at hlt) (by omega)
            have hD2 : Hid (∀ x ∈ s.data.toList.take (k + 1), dgB x = true) := take_all hD.out (by rw [HL.out]; exact hlt) (by rw [hix]; exact hd)
            have hv : Hid (valD (s.data.toList.take (k + 1)) = 10 * valD (s.data.toList.take k) + ((s[k]).toNat - 48)) := valD_take (by rw [HL.out]; exact hlt)
            have c0 : decide (((s[k]).toNat : Int) < 48) = false := by simp; omega
            have c1 : decide (57 < ((s[k]).toNat : Int)) = false := by simp; omega
            have e0 : 48 ≤ ((s[k]).toNat : Int) := by omega
            have e1 : ((s[k]).toNat : Int) ≤ 57 := by omega
            clear hD hix hd d0 d1
            go_wp2
            go_roundw
            case rel => exact ⟨k + 1, by omega, rfl, by rw [hv.out]; go_num, hD2⟩
            case measure => simp; omega
        · have hke : k = s.size := by omega
          have hnx := run_signs_end Tryz.prog w s k hlt
          have hn : Hid (rdI s.data.toList = some (valD (s.data.toList.take k))) := (by
            have ht : s.data.toList.take k = s.data.toList := by rw [hke, ← HL.out, List.take_length]
            have hD2 := hD.out
            rw [ht] at hD2
            show _ = _
            rw [ht]
            exact HE.out hD2)
          clear hke
          go_wp2
          go_ret2
          exact ⟨ret_some hn.out, iter_below _ _ _⟩))
  refine main.out _ rfl (fun h => ?_)
  have h1 := of_decide_eq_true h
  cases e : (((s[0]).toNat : Int) == 48)
  · rfl
  · exact absurd ⟨by omega, UInt8.toNat_inj.1 (by have := beq_iff_eq.1 e; show (s[0]).toNat = 48; omega)⟩ hz
set_option maxRecDepth 100000 in
set_option maxHeartbeats 4000000 in
/-- impl.readId. -/
theorem iReadId_any (s : ByteArray) (w : World) :
    Calls Tryz.prog 86 #[.string s] w fun e w' => e = .returned (optI (rdI s.data.toList)) ∧ Below w.heap.size w w' := by
  have HD : Hid (Calls Tryz.prog 102 #[.string s, .int .i64 4] w fun e w' => e = .returned (optI (rdI s.data.toList)) ∧ Below w.heap.size w w') := iReadDigits_any s w
  have HC : Hid (rdI s.data.toList = none ∨ ∃ n, rdI s.data.toList = some n) := (by cases rdI s.data.toList with | none => exact .inl rfl | some n => exact .inr ⟨n, rfl⟩)
  go_enter Tryz.func86, Tryz.ntmps86
  go_wp2_with fail
  refine HD.out.mono ?_
  rintro e w1 ⟨rfl, hB⟩
  have HB : Hid (Below w.heap.size w w1) := hB
  clear hB HD
  rcases HC.out with h | ⟨n, h⟩
  · rw [h]
    simp only [optI]
    go_wp2
    go_ret2
    exact ⟨ret_none h, HB.out⟩
  · rw [h]
    simp only [optI]
    go_wp2
    go_ret2
    exact ⟨ret_some h, HB.out⟩
/-- The pieces, put together again. -/
def unspl (c : UInt8) : List (List UInt8) → List UInt8
  | [] => []
  | [x] => x
  | x :: y :: r => x ++ c :: unspl c (y :: r)
theorem unspl_snoc (c : UInt8) (o : List (List UInt8)) (z : List UInt8) (x : UInt8) : unspl c (o ++ [z ++ [x]]) = unspl c (o ++ [z]) ++ [x] := by
  induction o with
  | nil => rfl
  | cons y o ih =>
    cases o with
    | nil => simp [unspl]
    | cons y2 o => simpa [unspl] using ih
theorem unspl_more (c : UInt8) (o : List (List UInt8)) (z : List UInt8) : unspl c (o ++ [z] ++ [[]]) = unspl c (o ++ [z]) ++ [c] := by
  induction o with
  | nil => simp [unspl]
  | cons y o ih =>
    cases o with
    | nil => simp [unspl]
    | cons y2 o => simpa [unspl] using ih
theorem unspl_fold (c : UInt8) (l : List UInt8) : ∀ o z, unspl c ((l.foldl (splF c) (o, z)).1 ++ [(l.foldl (splF c) (o, z)).2]) = unspl c (o ++ [z]) ++ l := by
  induction l with
  | nil => intro o z; simp
  | cons x l ih =>
    intro o z
    simp only [List.foldl_cons]
    by_cases h : x = c
    · have e : splF c (o, z) x = (o ++ [z], []) := by simp [splF, h]
      rw [e, ih, unspl_more, h]
      simp
    · have e : splF c (o, z) x = (o, z ++ [x]) := by simp [splF, h]
      rw [e, ih, unspl_snoc]
      simp
theorem unspl_spl (c : UInt8) (l : List UInt8) : unspl c (spl c l) = l := by
  have := unspl_fold c l [] []
  simpa [spl, splS, unspl] using this
/-- Digits that are read are the digits of what is read. -/
theorem dec_back {m : Nat} : ∀ (n : Nat) (l : List UInt8), l.length = n → okD m l = true → Lib.decDigits (valD l) = l := by
  intro n
  induction n with
  | zero =>
    intro l hl h
    have := (okD_iff.1 h).1
    omega
  | succ n ih =>
    intro l hl h
    obtain ⟨h1, h2, h3, h4⟩ := okD_iff.1 h
    have hne : l ≠ [] := fun e => by rw [e] at hl; simp at hl
    obtain ⟨l', x, rfl⟩ : ∃ l' x, l = l' ++ [x] := ⟨l.dropLast, l.getLast hne, (List.dropLast_concat_getLast hne).symm⟩
    have hx := dgB_iff.1 (h4 x (by simp))
    have hxe : UInt8.ofNat (48 + (x.toNat - 48)) = x := by
      have : 48 + (x.toNat - 48) = x.toNat := by omega
      rw [this, UInt8.ofNat_toNat]
    by_cases h0 : l' = []
    · subst h0
      have hv : valD ([] ++ [x]) = x.toNat - 48 := by simp [valD]
      rw [hv, dec_one (by omega), hxe]
      rfl
    · have hl' : 1 ≤ l'.length := by
        cases l' with
        | nil => exact absurd rfl h0
        | cons y t => simp
      have hhd : (l' ++ [x]).headD 0 = l'.headD 0 := by
        cases l' with
        | nil => exact absurd rfl h0
        | cons y t => rfl
      have hnz : ¬ l'.headD 0 = 48 := fun e => h3 ⟨by simp; omega, by rw [hhd]; exact e⟩
      have hok : okD m l' = true := okD_iff.2 ⟨hl', by simp at h2; omega, fun e => hnz e.2, fun y hy => h4 y (by simp [hy])⟩
      have hr := ih l' (by simp at hl; omega) hok
      have hpos : 1 ≤ valD l' := by
        cases hv : valD l' with
        | zero =>
          rw [hv, dec_one (by omega)] at hr
          rw [← hr] at hnz
          exact absurd rfl hnz
        | succ k => omega
      rw [valD_snoc, dec_more (by omega)]
      have e1 : (10 * valD l' + (x.toNat - 48)) / 10 = valD l' := by omega
      have e2 : (10 * valD l' + (x.toNat - 48)) % 10 = x.toNat - 48 := by omega
      rw [e1, e2, hr, hxe]
theorem okD_less {l : List UInt8} (h : okD 9 l = true) (hv : valD l ≤ 9999) : okD 4 l = true := by
  obtain ⟨h1, h2, h3, h4⟩ := okD_iff.1 h
  have hb := dec_back l.length l rfl h
  have := (dec_len hv).2
  rw [hb] at this
  exact okD_iff.2 ⟨h1, this, h3, h4⟩
theorem okD_more {l : List UInt8} (h : okD 4 l = true) : okD 9 l = true ∧ valD l ≤ 9999 := by
  obtain ⟨h1, h2, h3, h4⟩ := okD_iff.1 h
  refine ⟨okD_iff.2 ⟨h1, by omega, h3, h4⟩, ?_⟩
  have h5 := valD_lt h4
  have h6 := Nat.pow_le_pow_right (n := 10) (by decide) h2
  have h7 : (10 : Nat) ^ 4 = 10000 := by decide
  omega
/-- A number that is an id is read as one, and the other way round. -/
theorem num_id (l : List UInt8) : (inR 0 9999 (numI l) = true ∧ rdI l = some (numI l).toNat ∧ Lib.decDigits (numI l).toNat = l) ∨ (inR 0 9999 (numI l) = false ∧ rdI l = none) := by
  by_cases h4 : okD 4 l = true
  · obtain ⟨h9, hv⟩ := okD_more h4
    have hn : numI l = (valD l : Nat) := by rw [numI, h9]; rfl
    left
    rw [hn, Int.toNat_natCast]
    exact ⟨inR_yes (by omega) (by omega), by rw [rdI, h4]; rfl, dec_back l.length l rfl h9⟩
  · right
    have hr : rdI l = none := by
      rw [rdI, if_neg h4]
    refine ⟨?_, hr⟩
    apply inR_no
    rintro ⟨ha, hb⟩
    by_cases h9 : okD 9 l = true
    · have hn : numI l = (valD l : Nat) := by rw [numI, h9]; rfl
      rw [hn] at hb
      exact h4 (okD_less h9 (by omega))
    · have hn : numI l = -1 := by rw [numI, if_neg h9]
      rw [hn] at ha
      omega
/-- Digits of a number: digits alone, none ahead that is 0, and the number again. -/
theorem dec_right : ∀ (m n : Nat), n ≤ m → (∀ x ∈ Lib.decDigits n, dgB x = true) ∧ valD (Lib.decDigits n) = n ∧ (0 < n → (Lib.decDigits n).headD 0 ≠ 48) ∧ Lib.decDigits n ≠ [] := by
  intro m
  induction m with
  | zero =>
    intro n hn
    have : n = 0 := by omega
    subst this
    rw [dec_one (by omega)]
    exact ⟨by decide, by decide, by omega, by decide⟩
  | succ m ih =>
    intro n hn
    have hd : ∀ k, k < 10 → dgB (UInt8.ofNat (48 + k)) = true ∧ (UInt8.ofNat (48 + k)).toNat - 48 = k ∧ (0 < k → UInt8.ofNat (48 + k) ≠ 48) := by decide
    by_cases h : n < 10
    · rw [dec_one h]
      obtain ⟨h1, h2, h3⟩ := hd n h
      refine ⟨fun x hx => ?_, ?_, fun h0 => h3 h0, by simp⟩
      · rw [List.mem_singleton.1 hx]; exact h1
      · simp only [valD, List.foldl_cons, List.foldl_nil]
        omega
    · rw [dec_more h]
      obtain ⟨i1, i2, i3, i4⟩ := ih (n / 10) (by omega)
      obtain ⟨h1, h2, _⟩ := hd (n % 10) (by omega)
      refine ⟨fun x hx => ?_, ?_, fun _ => ?_, by simp⟩
      · rcases List.mem_append.1 hx with hx | hx
        · exact i1 x hx
        · rw [List.mem_singleton.1 hx]; exact h1
      · rw [valD_snoc, i2, h2]
        omega
      · cases e : Lib.decDigits (n / 10) with
        | nil => exact absurd e i4
        | cons y t =>
          have := i3 (by omega)
          rw [e] at this
          exact this
theorem dec_read {n : Nat} (h : n ≤ 9999) : rdI (Lib.decDigits n) = some n ∧ numI (Lib.decDigits n) = n := by
  obtain ⟨h1, h2, h3, h4⟩ := dec_right n n (Nat.le_refl _)
  have hl := dec_len h
  have hok : okD 4 (Lib.decDigits n) = true := okD_iff.2 ⟨hl.1, hl.2, fun ⟨q1, q2⟩ => by
    by_cases h0 : 0 < n
    · exact h3 h0 q2
    · have : n = 0 := by omega
      subst this
      rw [dec_one (by omega)] at q1
      simp at q1, h1⟩
  refine ⟨by rw [rdI, if_pos hok, h2], ?_⟩
  rw [numI, if_pos (okD_more hok).1, h2]
theorem dec_no {n : Nat} {c : UInt8} (hc : dgB c = false) : c ∉ Lib.decDigits n := fun hm => by
  rw [(dec_right n n (Nat.le_refl _)).1 c hm] at hc
  cases hc
theorem spl_last {c : UInt8} {x y : List UInt8} (h : c ∉ y) : spl c (x ++ c :: y) = spl c x ++ [y] := by
  unfold spl splS
  rw [List.foldl_append, List.foldl_cons]
  generalize x.foldl (splF c) ([], []) = s
  have e : splF c s c = (s.1 ++ [s.2], []) := by simp [splF]
  rw [e, splF_fold, splF_none c y h]
  simp
end Go.Proofs.YtedahdncincgjaaGreatDoor
