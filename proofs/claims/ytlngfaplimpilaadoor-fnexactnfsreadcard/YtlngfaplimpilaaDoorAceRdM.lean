/- An ace read: what the two sides read of a text, and that it is told by just that text. -/
import Derived.Test.YtlngfaplimpilaaDoorAceTx
import Derived.Test.YtlngfaplimpilaaDoorDecRd
namespace Go.Proofs.YtlngfaplimpilaaDoor
open Go.RowKit Go.PlainAid
set_option linter.unusedVariables false
/-- readSigns: the set, and the place in the text, behind k signs. -/
def rsTo (t S : List UInt8) : Nat → Nat × Nat
  | 0 => (0, 0)
  | k + 1 => if (rsTo t S k).2 < t.length ∧ t.getD (rsTo t S k).2 0 = S.getD k 0 then ((rsTo t S k).1 + 2 ^ k, (rsTo t S k).2 + 1) else rsTo t S k
theorem sgTo_low (s d : Nat) (S : List UInt8) (n : Nat) : ∀ k, k ≤ n → sgTo (s + 2 ^ n * d) S k = sgTo s S k := by
  intro k
  induction k with
  | zero => intro _; rfl
  | succ k ih =>
    intro hk
    have e : (s + 2 ^ n * d) / 2 ^ k % 2 = s / 2 ^ k % 2 := by
      have h1 : n = k + 1 + (n - k - 1) := by omega
      have h2 : 2 ^ n * d = 2 ^ k * (2 * (2 ^ (n - k - 1) * d)) := by
        rw [h1, Nat.pow_add, Nat.pow_succ]
        have : k + 1 + (n - k - 1) - k - 1 = n - k - 1 := by omega
        rw [this]
        simp only [Nat.mul_assoc]
      rw [h2, Nat.add_mul_div_left _ _ (Nat.two_pow_pos k), Nat.add_mul_mod_self_left]
    rw [sgTo, sgTo, ih (by omega), e]
theorem rs_inv (t S : List UInt8) : ∀ k, (rsTo t S k).1 < 2 ^ k ∧ (rsTo t S k).2 ≤ t.length ∧ (rsTo t S k).2 ≤ k ∧ sgTo (rsTo t S k).1 S k = t.take (rsTo t S k).2 := by
  intro k
  induction k with
  | zero => simp [rsTo, sgTo]
  | succ k ih =>
    obtain ⟨h1, h2, h3, h4⟩ := ih
    have hp : 2 ^ (k + 1) = 2 ^ k + 2 ^ k := by rw [Nat.pow_succ]; omega
    rw [rsTo]
    split
    next h =>
      obtain ⟨q1, q2⟩ := h
      refine ⟨by show (rsTo t S k).1 + 2 ^ k < 2 ^ (k + 1); omega, q1, by show (rsTo t S k).2 + 1 ≤ k + 1; omega, ?_⟩
      show sgTo ((rsTo t S k).1 + 2 ^ k) S (k + 1) = t.take ((rsTo t S k).2 + 1)
      have e1 : sgTo ((rsTo t S k).1 + 2 ^ k) S k = sgTo (rsTo t S k).1 S k := by
        have := sgTo_low (rsTo t S k).1 1 S k k (Nat.le_refl _)
        rwa [Nat.mul_one] at this
      have e2 : ((rsTo t S k).1 + 2 ^ k) / 2 ^ k % 2 = 1 := by
        rw [Nat.add_div_right _ (Nat.two_pow_pos k), Nat.div_eq_of_lt h1]
      rw [sgTo, if_pos e2, e1, h4, ← q2]
      have : t.getD (rsTo t S k).2 0 = t[(rsTo t S k).2] := by rw [List.getD, List.getElem?_eq_getElem q1]; rfl
      rw [this, List.take_append_getElem]
    · refine ⟨by omega, h2, by omega, ?_⟩
      rw [sgTo, h4, if_neg, List.append_nil]
      rw [Nat.div_eq_of_lt h1]
      decide
/-- readSigns. -/
def rsI (t S : List UInt8) : Option Nat := if (rsTo t S S.length).2 = t.length then some (rsTo t S S.length).1 else none
theorem rsI_some {t S : List UInt8} {s : Nat} (h : rsI t S = some s) : t = sgTo s S S.length := by
  unfold rsI at h
  split at h
  next e =>
    have := (rs_inv t S S.length).2.2.2
    rw [e, List.take_length] at this
    rw [← Option.some.inj h, this]
  · cases h
/-- l05Set: for each sign how often it comes in the first nine bytes. -/
def cntS (t : List UInt8) (x : UInt8) : Nat := (t.take 9).count x
def setTo (t S : List UInt8) : Nat → Nat
  | 0 => 0
  | k + 1 => setTo t S k + 2 ^ k * cntS t (S.getD k 0)
theorem signs4 : ∀ s, s < 16 → rsI (sgTo s fdni.data.toList 4) fdni.data.toList = some s ∧ setTo (sgTo s fdni.data.toList 4) fdni.data.toList 4 = s ∧ (58 : UInt8) ∉ sgTo s fdni.data.toList 4 := by decide +kernel
theorem signs8 : ∀ s, s < 256 → rsI (sgTo s rwxs.data.toList 8) rwxs.data.toList = some s ∧ setTo (sgTo s rwxs.data.toList 8) rwxs.data.toList 8 = s ∧ (58 : UInt8) ∉ sgTo s rwxs.data.toList 8 := by decide +kernel
def ownL : List UInt8 := [79, 87, 78, 69, 82, 64]
def grpL : List UInt8 := [71, 82, 79, 85, 80, 64]
def evyL : List UInt8 := [69, 86, 69, 82, 89, 79, 78, 69, 64]
/-- What the specification reads of the third piece. -/
def whoS (c : List UInt8) : Int × Int :=
  if c = ownL then (1, 0) else if c = grpL then (2, 0) else if c = evyL then (3, 0) else if c = [] then (0, 0) else (if c.headD 0 = 117 then 4 else 5, numI c.tail)
/-- What the program reads of it. -/
def whoI (c : List UInt8) : Option (Nat × Nat) :=
  if c = [] then none else if c = ownL then some (1, 0) else if c = grpL then some (2, 0) else if c = evyL then some (3, 0) else if c.headD 0 = 117 then (rdI c.tail).map (fun n => (4, n)) else if c.headD 0 = 103 then (rdI c.tail).map (fun n => (5, n)) else none
theorem whoT_l (wh id : Nat) : (whoT wh id).data.toList = if wh = 1 then ownL else if wh = 2 then grpL else if wh = 3 then evyL else if wh = 4 then 117 :: Lib.decDigits id else 103 :: Lib.decDigits id := by
  unfold whoT
  repeat' split
  all_goals first | rfl | simp [decT, ByteArray.data_append]
theorem whoI_some {c : List UInt8} {wh id : Nat} (h : whoI c = some (wh, id)) : c = (whoT wh id).data.toList := by
  unfold whoI at h
  rw [whoT_l]
  split at h
  · cases h
  next h0 =>
  split at h
  next e => simp at h; rw [← h.1]; simpa using e
  split at h
  next e => simp at h; rw [← h.1]; simpa using e
  split at h
  next e => simp at h; rw [← h.1]; simpa using e
  cases c with
  | nil => exact absurd rfl h0
  | cons x c =>
    change (if x = 117 then (rdI c).map (fun n => (4, n)) else if x = 103 then (rdI c).map (fun n => (5, n)) else none) = some (wh, id) at h
    by_cases e : x = 117
    · rw [if_pos e] at h
      rcases num_id c with ⟨_, q2, q3⟩ | ⟨_, q2⟩
      · rw [q2] at h
        simp at h
        rw [← h.1, ← h.2, q3, e]
        simp
      · rw [q2] at h; cases h
    · rw [if_neg e] at h
      by_cases e2 : x = 103
      · rw [if_pos e2] at h
        rcases num_id c with ⟨_, q2, q3⟩ | ⟨_, q2⟩
        · rw [q2] at h
          simp at h
          rw [← h.1, ← h.2, q3, e2]
          simp
        · rw [q2] at h; cases h
      · rw [if_neg e2] at h; cases h
theorem who_back {wh id : Nat} (h1 : 1 ≤ wh) (h5 : wh ≤ 5) (hid : id ≤ 9999) (h0 : wh < 4 → id = 0) : whoI (whoT wh id).data.toList = some (wh, id) ∧ whoS (whoT wh id).data.toList = ((wh : Int), (id : Int)) ∧ (58 : UInt8) ∉ (whoT wh id).data.toList := by
  rw [whoT_l]
  obtain ⟨r1, r2⟩ := dec_read hid
  have hn : (58 : UInt8) ∉ Lib.decDigits id := dec_no (by decide)
  rcases (by omega : wh = 1 ∨ wh = 2 ∨ wh = 3 ∨ wh = 4 ∨ wh = 5) with rfl | rfl | rfl | rfl | rfl
  · rw [h0 (by omega)]; exact ⟨by decide, by decide, by decide⟩
  · rw [h0 (by omega)]; exact ⟨by decide, by decide, by decide⟩
  · rw [h0 (by omega)]; exact ⟨by decide, by decide, by decide⟩
  · refine ⟨?_, ?_, ?_⟩
    · simp [whoI, ownL, grpL, evyL, r1]
    · simp [whoS, ownL, grpL, evyL, r2]
    · simpa using hn
  · refine ⟨?_, ?_, ?_⟩
    · simp [whoI, ownL, grpL, evyL, r1]
    · simp [whoS, ownL, grpL, evyL, r2]
    · simpa using hn
/-- What the specification reads of a text. -/
def aceS (t : List UInt8) : Ac :=
  match spl 58 t with
  | [a, b, c, d] => ⟨decide (a = [65]), (whoS c).1, (whoS c).2, (setTo b fdni.data.toList 4 : Nat), (setTo d rwxs.data.toList 8 : Nat)⟩
  | _ => acZ
/-- What the program reads of it. -/
def aceI (t : List UInt8) : Option Ac :=
  match spl 58 t with
  | [a, b, c, d] =>
    if a = [65] ∨ a = [68] then
      match rsI b fdni.data.toList, whoI c, rsI d rwxs.data.toList with
      | some f, some (wh, id), some m => if aceB ⟨decide (a = [65]), wh, id, f, m⟩ then some ⟨decide (a = [65]), wh, id, f, m⟩ else none
      | _, _, _ => none
    else none
  | _ => none
/-- The text of a right ace, in pieces. -/
theorem aceT_l {x : Ac} (h : aceB x = true) : (aceT x).data.toList = unspl 58 [(if x.al then [65] else [68]), sgTo x.fl.toNat fdni.data.toList 4, (whoT x.wh.toNat x.id.toNat).data.toList, sgTo x.ma.toNat rwxs.data.toList 8] := by
  have e1 : fdni.size = 4 := rfl
  have e2 : rwxs.size = 8 := rfl
  rw [aceT, if_pos h, aceTx]
  simp only [sgT, ByteArray.data_append, Array.toList_append, unspl, e1, e2]
  cases x.al <;> simp
theorem ace_back {x : Ac} (h : aceB x = true) : aceI (aceT x).data.toList = some x ∧ aceS (aceT x).data.toList = x ∧ aceT x ≠ ⟨#[]⟩ := by
  obtain ⟨⟨w1, w5⟩, ⟨i0, i9⟩, hz, ⟨⟨f0, f15⟩, hf⟩, m1, m255⟩ := aceB_iff.1 h
  obtain ⟨p1, p2, p3⟩ := signs4 x.fl.toNat (by omega)
  obtain ⟨q1, q2, q3⟩ := signs8 x.ma.toNat (by omega)
  obtain ⟨r1, r2, r3⟩ := who_back (wh := x.wh.toNat) (id := x.id.toNat) (by omega) (by omega) (by omega) (fun e => by have := hz (by omega); omega)
  have ha : (58 : UInt8) ∉ (if x.al then [65] else [68] : List UInt8) := by cases x.al <;> decide
  have hs : spl 58 (aceT x).data.toList = [(if x.al then [65] else [68]), sgTo x.fl.toNat fdni.data.toList 4, (whoT x.wh.toNat x.id.toNat).data.toList, sgTo x.ma.toNat rwxs.data.toList 8] := by
    rw [aceT_l h]
    simp only [unspl]
    rw [spl_first ha, spl_first p3, spl_first r3, spl_none q3]
  have hx : (⟨x.al, ((x.wh.toNat : Nat) : Int), ((x.id.toNat : Nat) : Int), ((x.fl.toNat : Nat) : Int), ((x.ma.toNat : Nat) : Int)⟩ : Ac) = x := by
    obtain ⟨al, wh, id, fl, ma⟩ := x
    simp only [Ac.mk.injEq, true_and]
    simp only at w1 i0 f0 m1
    omega
  have hal : decide ((if x.al then [65] else [68] : List UInt8) = [65]) = x.al := by cases x.al <;> decide
  have hor : (if x.al then [65] else [68] : List UInt8) = [65] ∨ (if x.al then [65] else [68] : List UInt8) = [68] := by cases x.al <;> simp
  refine ⟨?_, ?_, ?_⟩
  · simp only [aceI, hs, p1, q1, r1, if_pos hor, hal, hx, h, if_true]
  · simp only [aceS, hs, p2, q2, r2, hal, hx]
  · intro e
    rw [e] at hs
    simp [spl, splS] at hs
theorem unspl4 {t : List UInt8} {a b c d : List UInt8} (h : spl 58 t = [a, b, c, d]) : unspl 58 [a, b, c, d] = t := by rw [← h, unspl_spl]
/-- What the program takes is the text of what it reads. -/
theorem aceI_some {t : List UInt8} {x : Ac} (h : aceI t = some x) : aceB x = true ∧ t = (aceT x).data.toList := by
  unfold aceI at h
  split at h
  next a b c d hs =>
    split at h
    next ha =>
      split at h
      next f wh id m hf hw hm =>
        split at h
        next hb =>
          have hx := Option.some.inj h
          subst hx
          refine ⟨hb, ?_⟩
          rw [aceT_l hb, ← unspl4 hs]
          have e1 : (if decide (a = [65]) then [65] else [68] : List UInt8) = a := by
            rcases ha with rfl | rfl <;> decide
          simp only [Int.toNat_natCast, e1]
          rw [rsI_some hf, rsI_some hm, whoI_some hw]
          rfl
        · cases h
      · cases h
    · cases h
  · cases h
/-- Both sides read the same, or neither takes it. -/
theorem ace_key (t : List UInt8) : (∃ x, aceB x = true ∧ t = (aceT x).data.toList ∧ aceI t = some x ∧ aceS t = x) ∨ (aceI t = none ∧ ∀ x, aceB x = true → t ≠ (aceT x).data.toList) := by
  cases h : aceI t with
  | some x =>
    obtain ⟨h1, h2⟩ := aceI_some h
    left
    refine ⟨x, h1, h2, rfl, ?_⟩
    rw [h2]
    exact (ace_back h1).2.1
  | none =>
    right
    refine ⟨rfl, fun x hx e => ?_⟩
    rw [e, (ace_back hx).1] at h
    cases h
end Go.Proofs.YtlngfaplimpilaaDoor
