/- Laid together: AceRdM, RdSg, RdWho, SRead. -/
import Derived.Test.YtedahdncincgjaaGreatDoorNX31
import Derived.Test.YtedahdncincgjaaGreatDoorNX32
/- An ace read: what the two sides read of a text, and that it is told by just that text. -/
namespace Go.Proofs.YtedahdncincgjaaGreatDoor
open Go.RowKit Go.PlainAid
set_option linter.unusedVariables false
/-- readSigns: the set, and the place in the text, behind k signs. -/
def rsTo (t S : List UInt8) : Nat → Nat × Nat
  | 0 => (0, 0)
  | k + 1 => if (rsTo t S k).2 < t.length ∧ t.getD (rsTo t S k).2 0 = S.getD k 0 then ((rsTo t S k).1 + 2 ^ k, (rsTo t S k).2 + 1) else rsTo t S k
theorem sgTo_low (s d : Nat) (S : List UInt8) (n : Nat) : ∀ k, k ≤ n → sgTo (s + 2 ^ n * d) S k = sgTo s S k := by
  intro k
  induction k with
  | zero => intro _; rfl
  | succ k ih =>
    intro hk
    have e : (s + 2 ^ n * d) / 2 ^ k % 2 = s / 2 ^ k % 2 := by
      have h1 : n = k + 1 + (n - k - 1) := by omega
      have h2 : 2 ^ n * d = 2 ^ k * (2 * (2 ^ (n - k - 1) * d)) := by
        rw [h1, Nat.pow_add, Nat.pow_succ]
        have : k + 1 + (n - k - 1) - k - 1 = n - k - 1 := by omega
        rw [this]
        simp only [Nat.mul_assoc]
      rw [h2, Nat.add_mul_div_left _ _ (Nat.two_pow_pos k), Nat.add_mul_mod_self_left]
    rw [sgTo, sgTo, ih (by omega), e]
theorem rs_inv (t S : List UInt8) : ∀ k, (rsTo t S k).1 < 2 ^ k ∧ (rsTo t S k).2 ≤ t.length ∧ (rsTo t S k).2 ≤ k ∧ sgTo (rsTo t S k).1 S k = t.take (rsTo t S k).2 := by
  intro k
  induction k with
  | zero => simp [rsTo, sgTo]
  | succ k ih =>
    obtain ⟨h1, h2, h3, h4⟩ := ih
    have hp : 2 ^ (k + 1) = 2 ^ k + 2 ^ k := by rw [Nat.pow_succ]; omega
    rw [rsTo]
    split
    next h =>
      obtain ⟨q1, q2⟩ := h
      refine ⟨by show (rsTo t S k).1 + 2 ^ k < 2 ^ (k + 1); omega, q1, by show (rsTo t S k).2 + 1 ≤ k + 1; omega, ?_⟩
      show sgTo ((rsTo t S k).1 + 2 ^ k) S (k + 1) = t.take ((rsTo t S k).2 + 1)
      have e1 : sgTo ((rsTo t S k).1 + 2 ^ k) S k = sgTo (rsTo t S k).1 S k := by
        have := sgTo_low (rsTo t S k).1 1 S k k (Nat.le_refl _)
        rwa [Nat.mul_one] at this
      have e2 : ((rsTo t S k).1 + 2 ^ k) / 2 ^ k % 2 = 1 := by
        rw [Nat.add_div_right _ (Nat.two_pow_pos k), Nat.div_eq_of_lt h1]
      rw [sgTo, if_pos e2, e1, h4, ← q2]
      have : t.getD (rsTo t S k).2 0 = t[(rsTo t S k).2] := by rw [List.getD, List.getElem?_eq_getElem q1]; rfl
      rw [this, List.take_append_getElem]
    · refine ⟨by omega, h2, by omega, ?_⟩
      rw [sgTo, h4, if_neg, List.append_nil]
      rw [Nat.div_eq_of_lt h1]
      decide
/-- readSigns. -/
def rsI (t S : List UInt8) : Option Nat := if (rsTo t S S.length).2 = t.length then some (rsTo t S S.length).1 else none
theorem rsI_some {t S : List UInt8} {s : Nat} (h : rsI t S = some s) : t = sgTo s S S.length := by
  unfold rsI at h
  split at h
  next e =>
    have := (rs_inv t S S.length).2.2.2
    rw [e, List.take_length] at this
    rw [← Option.some.inj h, this]
  · cases h
/-- l05Set: for each sign how often it comes in the first nine bytes. -/
def cntS (t : List UInt8) (x : UInt8) : Nat := (t.take 9).count x
def setTo (t S : List UInt8) : Nat → Nat
  | 0 => 0
  | k + 1 => setTo t S k + 2 ^ k * cntS t (S.getD k 0)
theorem signs4 : ∀ s, s < 16 → rsI (sgTo s fdni.data.toList 4) fdni.data.toList = some s ∧ setTo (sgTo s fdni.data.toList 4) fdni.data.toList 4 = s ∧ (58 : UInt8) ∉ sgTo s fdni.data.toList 4 := by decide +kernel
theorem signs8 : ∀ s, s < 256 → rsI (sgTo s rwxs.data.toList 8) rwxs.data.toList = some s ∧ setTo (sgTo s rwxs.data.toList 8) rwxs.data.toList 8 = s ∧ (58 : UInt8) ∉ sgTo s rwxs.data.toList 8 := by decide +kernel
def ownL : List UInt8 := [79, 87, 78, 69, 82, 64]
def grpL : List UInt8 := [71, 82, 79, 85, 80, 64]
def evyL : List UInt8 := [69, 86, 69, 82, 89, 79, 78, 69, 64]
/-- What the specification reads of the third piece. -/
def whoS (c : List UInt8) : Int × Int :=
  if c = ownL then (1, 0) else if c = grpL then (2, 0) else if c = evyL then (3, 0) else if c = [] then (0, 0) else (if c.headD 0 = 117 then 4 else 5, numI c.tail)
/-- What the program reads of it. -/
def whoI (c : List UInt8) : Option (Nat × Nat) :=
  if c = [] then none else if c = ownL then some (1, 0) else if c = grpL then some (2, 0) else if c = evyL then some (3, 0) else if c.headD 0 = 117 then (rdI c.tail).map (fun n => (4, n)) else if c.headD 0 = 103 then (rdI c.tail).map (fun n => (5, n)) else none
theorem whoT_l (wh id : Nat) : (whoT wh id).data.toList = if wh = 1 then ownL else if wh = 2 then grpL else if wh = 3 then evyL else if wh = 4 then 117 :: Lib.decDigits id else 103 :: Lib.decDigits id := by
  unfold whoT
  repeat' split
  all_goals first | rfl | simp [decT, ByteArray.data_append]
theorem whoI_some {c : List UInt8} {wh id : Nat} (h : whoI c = some (wh, id)) : c = (whoT wh id).data.toList := by
  unfold whoI at h
  rw [whoT_l]
  split at h
  · cases h
  next h0 =>
  split at h
  next e => simp at h; rw [← h.1]; simpa using e
  split at h
  next e => simp at h; rw [← h.1]; simpa using e
  split at h
  next e => simp at h; rw [← h.1]; simpa using e
  cases c with
  | nil => exact absurd rfl h0
  | cons x c =>
    change (if x = 117 then (rdI c).map (fun n => (4, n)) else if x = 103 then (rdI c).map (fun n => (5, n)) else none) = some (wh, id) at h
    by_cases e : x = 117
    · rw [if_pos e] at h
      rcases num_id c with ⟨_, q2, q3⟩ | ⟨_, q2⟩
      · rw [q2] at h
        simp at h
        rw [← h.1, ← h.2, q3, e]
        simp
      · rw [q2] at h; cases h
    · rw [if_neg e] at h
      by_cases e2 : x = 103
      · rw [if_pos e2] at h
        rcases num_id c with ⟨_, q2, q3⟩ | ⟨_, q2⟩
        · rw [q2] at h
          simp at h
          rw [← h.1, ← h.2, q3, e2]
          simp
        · rw [q2] at h; cases h
      · rw [if_neg e2] at h; cases h
theorem who_back {wh id : Nat} (h1 : 1 ≤ wh) (h5 : wh ≤ 5) (hid : id ≤ 9999) (h0 : wh < 4 → id = 0) : whoI (whoT wh id).data.toList = some (wh, id) ∧ whoS (whoT wh id).data.toList = ((wh : Int), (id : Int)) ∧ (58 : UInt8) ∉ (whoT wh id).data.toList := by
  rw [whoT_l]
  obtain ⟨r1, r2⟩ := dec_read hid
  have hn : (58 : UInt8) ∉ Lib.decDigits id := dec_no (by decide)
  rcases (by omega : wh = 1 ∨ wh = 2 ∨ wh = 3 ∨ wh = 4 ∨ wh = 5) with rfl | rfl | rfl | rfl | rfl
  · rw [h0 (by omega)]; exact ⟨by decide, by decide, by decide⟩
  · rw [h0 (by omega)]; exact ⟨by decide, by decide, by decide⟩
  · rw [h0 (by omega)]; exact ⟨by decide, by decide, by decide⟩
  · refine ⟨?_, ?_, ?_⟩
    · simp [whoI, ownL, grpL, evyL, r1]
    · simp [whoS, ownL, grpL, evyL, r2]
    · simpa using hn
  · refine ⟨?_, ?_, ?_⟩
    · simp [whoI, ownL, grpL, evyL, r1]
    · simp [whoS, ownL, grpL, evyL, r2]
    · simpa using hn
/-- What the specification reads of a text. -/
def aceS (t : List UInt8) : Ac :=
  match spl 58 t with
  | [a, b, c, d] => ⟨decide (a = [65]), (whoS c).1, (whoS c).2, (setTo b fdni.data.toList 4 : Nat), (setTo d rwxs.data.toList 8 : Nat)⟩
  | _ => acZ
/-- What the program reads of it. -/
def aceI (t : List UInt8) : Option Ac :=
  match spl 58 t with
  | [a, b, c, d] =>
    if a = [65] ∨ a = [68] then
      match rsI b fdni.data.toList, whoI c, rsI d rwxs.data.toList with
      | some f, some (wh, id), some m => if aceB ⟨decide (a = [65]), wh, id, f, m⟩ then some ⟨decide (a = [65]), wh, id, f, m⟩ else none
      | _, _, _ => none
    else none
  | _ => none
/-- The text of a right ace, in pieces. -/
theorem aceT_l {x : Ac} (h : aceB x = true) : (aceT x).data.toList = unspl 58 [(if x.al then [65] else [68]), sgTo x.fl.toNat fdni.data.toList 4, (whoT x.wh.toNat x.id.toNat).data.toList, sgTo x.ma.toNat rwxs.data.toList 8] := by
  have e1 : fdni.size = 4 := rfl
  have e2 : rwxs.size = 8 := rfl
  rw [aceT, if_pos h, aceTx]
  simp only [sgT, ByteArray.data_append, Array.toList_append, unspl, e1, e2]
  cases x.al <;> simp
theorem ace_back {x : Ac} (h : aceB x = true) : aceI (aceT x).data.toList = some x ∧ aceS (aceT x).data.toList = x ∧ aceT x ≠ ⟨#[]⟩ := by
  obtain ⟨⟨w1, w5⟩, ⟨i0, i9⟩, hz, ⟨⟨f0, f15⟩, hf⟩, m1, m255⟩ := aceB_iff.1 h
  obtain ⟨p1, p2, p3⟩ := signs4 x.fl.toNat (by omega)
  obtain ⟨q1, q2, q3⟩ := signs8 x.ma.toNat (by omega)
  obtain ⟨r1, r2, r3⟩ := who_back (wh := x.wh.toNat) (id := x.id.toNat) (by omega) (by omega) (by omega) (fun e => by have := hz (by omega); omega)
  have ha : (58 : UInt8) ∉ (if x.al then [65] else [68] : List UInt8) := by cases x.al <;> decide
  have hs : spl 58 (aceT x).data.toList = [(if x.al then [65] else [68]), sgTo x.fl.toNat fdni.data.toList 4, (whoT x.wh.toNat x.id.toNat).data.toList, sgTo x.ma.toNat rwxs.data.toList 8] := by
    rw [aceT_l h]
    simp only [unspl]
    rw [spl_first ha, spl_first p3, spl_first r3, spl_none q3]
  have hx : (⟨x.al, ((x.wh.toNat : Nat) : Int), ((x.id.toNat : Nat) : Int), ((x.fl.toNat : Nat) : Int), ((x.ma.toNat : Nat) : Int)⟩ : Ac) = x := by
    obtain ⟨al, wh, id, fl, ma⟩ := x
    simp only [Ac.mk.injEq, true_and]
    simp only at w1 i0 f0 m1
    omega
  have hal : decide ((if x.al then [65] else [68] : List UInt8) = [65]) = x.al := by cases x.al <;> decide
  have hor : (if x.al then [65] else [68] : List UInt8) = [65] ∨ (if x.al then [65] else [68] : List UInt8) = [68] := by cases x.al <;> simp
  refine ⟨?_, ?_, ?_⟩
  · simp only [aceI, hs, p1, q1, r1, if_pos hor, hal, hx, h, if_true]
  · simp only [aceS, hs, p2, q2, r2, hal, hx]
  · intro e
    rw [e] at hs
    simp [spl, splS] at hs
theorem unspl4 {t : List UInt8} {a b c d : List UInt8} (h : spl 58 t = [a, b, c, d]) : unspl 58 [a, b, c, d] = t := by rw [← h, unspl_spl]
/-- What the program takes is the text of what it reads. -/
theorem aceI_some {t : List UInt8} {x : Ac} (h : aceI t = some x) : aceB x = true ∧ t = (aceT x).data.toList := by
  unfold aceI at h
  split at h
  next a b c d hs =>
    split at h
    next ha =>
      split at h
      next f wh id m hf hw hm =>
        split at h
        next hb =>
          have hx := Option.some.inj h
          subst hx
          refine ⟨hb, ?_⟩
          rw [aceT_l hb, ← unspl4 hs]
          have e1 : (if decide (a = [65]) then [65] else [68] : List UInt8) = a := by
            rcases ha with rfl | rfl <;> decide
          simp only [Int.toNat_natCast, e1]
          rw [rsI_some hf, rsI_some hm, whoI_some hw]
          rfl
        · cases h
      · cases h
    · cases h
  · cases h
/-- Both sides read the same, or neither takes it. -/
theorem ace_key (t : List UInt8) : (∃ x, aceB x = true ∧ t = (aceT x).data.toList ∧ aceI t = some x ∧ aceS t = x) ∨ (aceI t = none ∧ ∀ x, aceB x = true → t ≠ (aceT x).data.toList) := by
  cases h : aceI t with
  | some x =>
    obtain ⟨h1, h2⟩ := aceI_some h
    left
    refine ⟨x, h1, h2, rfl, ?_⟩
    rw [h2]
    exact (ace_back h1).2.1
  | none =>
    right
    refine ⟨rfl, fun x hx e => ?_⟩
    rw [e, (ace_back hx).1] at h
    cases h
end Go.Proofs.YtedahdncincgjaaGreatDoor
/- Signs read: spec.l05Set, impl.readSigns. -/
namespace Go.Proofs.YtedahdncincgjaaGreatDoor
open Go.RowKit Go.PlainAid Go.Deep
set_option linter.unusedVariables false
theorem count_take {l : List UInt8} {j : Nat} (x : UInt8) (h : j < l.length) : (l.take (j + 1)).count x = (l.take j).count x + (if l[j] = x then 1 else 0) := by
  rw [← List.take_append_getElem h, List.count_append, List.count_singleton]
  by_cases e : l[j] = x <;> simp [e]
theorem cnt_end {l : List UInt8} {j : Nat} (x : UInt8) (h9 : j ≤ 9) (hl : j ≤ l.length) (he : ¬ (j < l.length ∧ j < 9)) : (l.take j).count x = cntS l x := by
  unfold cntS
  by_cases e : j = 9
  · rw [e]
  · have : j = l.length := by omega
    rw [this, List.take_length, List.take_of_length_le (by omega)]
theorem cnt_le (l : List UInt8) (j : Nat) (x : UInt8) : (l.take j).count x ≤ j := Nat.le_trans List.count_le_length (by simp; omega)
theorem setTo_le (t S : List UInt8) : ∀ k, setTo t S k ≤ 9 * 2 ^ k := by
  intro k
  induction k with
  | zero => simp [setTo]
  | succ k ih =>
    have h1 : cntS t (S.getD k 0) ≤ 9 := Nat.le_trans List.count_le_length (by simp; omega)
    have h2 : 2 ^ k * cntS t (S.getD k 0) ≤ 2 ^ k * 9 := Nat.mul_le_mul_left _ h1
    have h3 : 2 ^ (k + 1) = 2 ^ k + 2 ^ k := by rw [Nat.pow_succ]; omega
    simp only [setTo]
    omega
theorem byte_getD {S : ByteArray} {k : Nat} (h : k < S.size) : S.data.toList.getD k 0 = S[k] := by
  have hl : k < S.data.toList.length := by rw [← Lib.size_eq]; exact h
  rw [List.getD, List.getElem?_eq_getElem hl]
  rfl
theorem byte_ne {x y : UInt8} (h : ¬ x = y) : ((x.toNat : Int) == (y.toNat : Int)) = false := by
  cases e : ((x.toNat : Int) == (y.toNat : Int))
  · rfl
  · exact absurd (UInt8.toNat_inj.1 (by have := beq_iff_eq.1 e; omega)) h
theorem byte_eq {x y : UInt8} (h : x = y) : ((x.toNat : Int) == (y.toNat : Int)) = true := by rw [h]; simp
set_option maxRecDepth 100000 in
set_option maxHeartbeats 4000000 in
/-- spec.l05Set. -/
theorem sSet_any (t S : ByteArray) (ht : t.size ≤ 100000000) (hS : S.size ≤ 8) (w : World) :
    Calls Tryz.prog 77 #[.string t, .string S] w fun e w' => e = .returned (.int .i64 (setTo t.data.toList S.data.toList S.size : Nat)) ∧ Below w.heap.size w w' := by
  have HL : Hid (t.data.toList.length = t.size) := (Lib.size_eq t).symm
  go_enter Tryz.func77, Tryz.ntmps77
  go_wp2
  go_loopw [5, 6, 7] (fun n p i wr => ∃ k : Nat, k ≤ S.size ∧ n = .int .i64 (setTo t.data.toList S.data.toList k : Nat) ∧ p = .int .i64 (2 ^ k : Nat) ∧ i = .int .i64 k ∧ Hid (Below w.heap.size w wr)) (fun _ _ i _ => S.size - (intOf i).toNat)
  case atStart => exact ⟨0, Nat.zero_le _, rfl, rfl, rfl, Below.refl _ _⟩
  case round =>
    obtain ⟨k, hk, rfl, rfl, rfl, hB⟩ := hrel
    have hp8 : 2 ^ k ≤ 256 := by
      have := Nat.pow_le_pow_right (n := 2) (by decide) (show k ≤ 8 by omega)
      simpa using this
    have hs9 := setTo_le t.data.toList S.data.toList k
    by_cases hlt : k < S.size
    · have hlt' : (k : Int) < (S.size : Int) := by omega
      have HX : Hid (∀ j, (hj : j < t.size) → (t.data.toList.take (j + 1)).count S[k] = (t.data.toList.take j).count S[k] + (if t[j] = S[k] then 1 else 0)) := (fun j hj => count_take S[k] (by rw [HL.out]; exact hj))
      have HC : Hid (∀ j, (t.data.toList.take j).count S[k] ≤ j) := (fun j => cnt_le _ j _)
      have HE : Hid (∀ j, j ≤ 9 → j ≤ t.size → ¬ (j < t.size ∧ j < 9) → setTo t.data.toList S.data.toList (k + 1) = setTo t.data.toList S.data.toList k + 2 ^ k * (t.data.toList.take j).count S[k]) := (fun j h9 hj he => by
        rw [setTo, byte_getD hlt, cnt_end S[k] h9 (by rw [HL.out]; exact hj) (by rw [HL.out]; exact he)])
      have HP : Hid (2 ^ (k + 1) = 2 * 2 ^ k) := (by show _ = _; rw [Nat.pow_succ]; omega)
      generalize hP : 2 ^ k = P at hp8 hs9 HE HP
      generalize hSK : setTo t.data.toList S.data.toList k = Z at hs9 HE
      have HPP : Hid (2 ^ k = P) := hP
      have HSK : Hid (setTo t.data.toList S.data.toList k = Z) := hSK
      clear hP hSK
      go_wp2
      go_loopw [5, 8] (fun n jj wr => ∃ j : Nat, j ≤ 9 ∧ j ≤ t.size ∧ n = .int .i64 (Z + P * (t.data.toList.take j).count S[k] : Nat) ∧ jj = .int .i64 j ∧ Hid (Below w.heap.size w wr)) (fun _ jj _ => 9 - (intOf jj).toNat)
      case atStart => exact ⟨0, by omega, Nat.zero_le _, by simp, rfl, hB⟩
      case round =>
        obtain ⟨j, h9, hj, rfl, rfl, hB1⟩ := hrel
        have hcj := HC.out j
        have hmul : P * (t.data.toList.take j).count S[k] ≤ 256 * 9 := Nat.mul_le_mul hp8 (by omega)
        by_cases hj1 : j < t.size
        · have hj1' : (j : Int) < (t.size : Int) := by omega
          by_cases hj9 : j < 9
          · have hj9' : (j : Int) < 9 := by omega
            have hst := HX.out j hj1
            by_cases hx : t[j] = S[k]
            · rw [if_pos hx] at hst
              have heq := byte_eq hx
              have HST : Hid (P * (t.data.toList.take (j + 1)).count S[k] = P * (t.data.toList.take j).count S[k] + P) := (by show _ = _; rw [hst, Nat.mul_add, Nat.mul_one])
              clear hst hx
              generalize P * (t.data.toList.take j).count S[k] = Q at hmul HST
              go_wp2_with fail
              refine wp_region_quiet_below (by kernel_rfl) (by kernel_rfl) ?_
              repeat (go_big_quiet_step (fail))
              refine wpQuiet_nil ?_
              intro _ hw'
              obtain ⟨⟨dq, osq⟩, hw''⟩ := hw'
              subst hw''
              have hB2 : Hid (Below w.heap.size w (Go.Sort.grow (redrawn wr dq) osq)) := Below.on hB1.out (below_regrown wr dq osq)
              generalize Go.Sort.grow (redrawn wr dq) osq = w2 at hB2 ⊢
              go_wp2
              go_roundw
              case rel => exact ⟨j + 1, by omega, by omega, by rw [HST.out]; go_num, by go_num, hB2⟩
              case measure => simp [intOf]; omega
            · rw [if_neg hx] at hst
              have heq := byte_ne hx
              have HST : Hid (P * (t.data.toList.take (j + 1)).count S[k] = P * (t.data.toList.take j).count S[k]) := (by show _ = _; rw [hst, Nat.add_zero])
              clear hst hx
              generalize P * (t.data.toList.take j).count S[k] = Q at hmul HST
              go_wp2_with fail
              refine wp_region_quiet_below (by kernel_rfl) (by kernel_rfl) ?_
              repeat (go_big_quiet_step (fail))
              refine wpQuiet_nil ?_
              intro _ hw'
              obtain ⟨⟨dq, osq⟩, hw''⟩ := hw'
              subst hw''
              have hB2 : Hid (Below w.heap.size w (Go.Sort.grow (redrawn wr dq) osq)) := Below.on hB1.out (below_regrown wr dq osq)
              generalize Go.Sort.grow (redrawn wr dq) osq = w2 at hB2 ⊢
              go_wp2
              go_roundw
              case rel => exact ⟨j + 1, by omega, by omega, by rw [HST.out], by go_num, hB2⟩
              case measure => simp [intOf]; omega
          · have hj9' : ¬ (j : Int) < 9 := by omega
            have hend : Hid (setTo t.data.toList S.data.toList (k + 1) = Z + P * (t.data.toList.take j).count S[k]) := HE.out j h9 hj (fun h => hj9 h.2)
            generalize P * (t.data.toList.take j).count S[k] = Q at hmul hend
            go_wp2
            go_roundw
            case rel => exact ⟨k + 1, by omega, by rw [hend.out], by rw [HP.out]; go_num, by go_num, hB1⟩
            case measure => simp [intOf]; omega
        · have hj1' : ¬ (j : Int) < (t.size : Int) := by omega
          have hend : Hid (setTo t.data.toList S.data.toList (k + 1) = Z + P * (t.data.toList.take j).count S[k]) := HE.out j h9 hj (fun h => hj1 h.1)
          generalize P * (t.data.toList.take j).count S[k] = Q at hmul hend
          go_wp2
          go_roundw
          case rel => exact ⟨k + 1, by omega, by rw [hend.out], by rw [HP.out]; go_num, by go_num, hB1⟩
          case measure => simp [intOf]; omega
    · have : k = S.size := by omega
      subst this
      go_wp2
      go_ret
      exact ⟨rfl, hB.out⟩
theorem or_bit (k s p : Nat) (hp : 2 ^ k = p) (h8 : p ≤ 256) (h : s < 2 ^ k) : bits .or .i64 (s : Int) (p : Int) = ((s + p : Nat) : Int) := by
  subst hp
  have e := Nat.two_pow_add_eq_or_of_lt h 1
  rw [Nat.mul_one] at e
  rw [i64_or_nat s (2 ^ k) (by omega) (by omega), Nat.or_comm, ← e, Nat.add_comm]
set_option maxRecDepth 100000 in
set_option maxHeartbeats 4000000 in
/-- impl.readSigns. -/
theorem iRdSg_any (t S : ByteArray) (hS : S.size ≤ 8) (w : World) :
    Calls Tryz.prog 61 #[.string t, .string S] w fun e w' => e = .returned (.tuple #[.int .i64 ((rsTo t.data.toList S.data.toList S.size).1 : Nat), .bool (decide ((rsTo t.data.toList S.data.toList S.size).2 = t.size))]) ∧ Below w.heap.size w w' := by
  have HL : Hid (t.data.toList.length = t.size) := (Lib.size_eq t).symm
  go_enter Tryz.func61, Tryz.ntmps61
  go_wp2
  go_loopw [6, 7, 11] (fun n a i wr => ∃ k : Nat, k ≤ S.size ∧ i = .int .i64 k ∧ n = .int .i64 ((rsTo t.data.toList S.data.toList k).1 : Nat) ∧ a = .int .i64 ((rsTo t.data.toList S.data.toList k).2 : Nat) ∧ Hid (Below w.heap.size w wr)) (fun _ _ i _ => S.size - (intOf i).toNat)
  case atStart => exact ⟨0, Nat.zero_le _, rfl, rfl, rfl, Below.refl _ _⟩
  case round =>
    obtain ⟨k, hk, rfl, rfl, rfl, hB⟩ := hrel
    obtain ⟨i1, i2, i3, _⟩ := rs_inv t.data.toList S.data.toList k
    rw [HL.out] at i2
    by_cases hlt : k < S.size
    · have hlt' : (k : Int) < (S.size : Int) := by omega
      have hg := byte_getD hlt
      have HR : Hid (rsTo t.data.toList S.data.toList (k + 1) = if (rsTo t.data.toList S.data.toList k).2 < t.size ∧ t.data.toList.getD (rsTo t.data.toList S.data.toList k).2 0 = S[k] then ((rsTo t.data.toList S.data.toList k).1 + 2 ^ k, (rsTo t.data.toList S.data.toList k).2 + 1) else rsTo t.data.toList S.data.toList k) := (by
        show _ = _
        rw [rsTo, hg, HL.out])
      by_cases ha : (rsTo t.data.toList S.data.toList k).2 < t.size
      · have hga := byte_getD ha
        rw [hga] at HR
        by_cases hx : t[(rsTo t.data.toList S.data.toList k).2] = S[k]
        · have HN : Hid (rsTo t.data.toList S.data.toList (k + 1) = ((rsTo t.data.toList S.data.toList k).1 + 2 ^ k, (rsTo t.data.toList S.data.toList k).2 + 1)) := (by show _ = _; rw [HR.out, if_pos ⟨ha, hx⟩])
          have heq := byte_eq hx
          clear HR hga hx hg
          have hav : ((rsTo t.data.toList S.data.toList k).2 : Int) < (t.size : Int) := by omega
          generalize (rsTo t.data.toList S.data.toList k).1 = sv at i1 HN
          generalize (rsTo t.data.toList S.data.toList k).2 = av at i2 i3 HN ha heq hav
          have h8 : k < 8 := by omega
          rcases (by omega : k = 0 ∨ k = 1 ∨ k = 2 ∨ k = 3 ∨ k = 4 ∨ k = 5 ∨ k = 6 ∨ k = 7) with rfl | rfl | rfl | rfl | rfl | rfl | rfl | rfl
          · have hor := or_bit 0 sv 1 rfl (by decide) i1
            have hor2 : bits .or .i64 (sv : Int) 1 = (sv : Int) + 1 := by simpa using hor
            have hsv : sv < 1 := i1
            clear hor i1 h8
            go_wp2_with fail
            refine wp_region_quiet_below (by kernel_rfl) (by kernel_rfl) ?_
            repeat (go_big_quiet_step (fail))
            refine wpQuiet_nil ?_
            intro _ hw'
            obtain ⟨⟨dq, osq⟩, hw''⟩ := hw'
            subst hw''
            have hB2 : Hid (Below w.heap.size w (Go.Sort.grow (redrawn wr dq) osq)) := Below.on hB.out (below_regrown wr dq osq)
            generalize Go.Sort.grow (redrawn wr dq) osq = w2 at hB2 ⊢
            go_wp2
            go_roundw
            case rel => exact ⟨1, by omega, by go_num, by rw [HN.out]; simp, by rw [HN.out]; simp, hB2⟩
            case measure => simp [intOf]; omega
          · have hor := or_bit 1 sv 2 rfl (by decide) i1
            have hor2 : bits .or .i64 (sv : Int) 2 = (sv : Int) + 2 := by simpa using hor
            have hsv : sv < 2 := i1
            clear hor i1 h8
            go_wp2_with fail
            refine wp_region_quiet_below (by kernel_rfl) (by kernel_rfl) ?_
            repeat (go_big_quiet_step (fail))
            refine wpQuiet_nil ?_
            intro _ hw'
            obtain ⟨⟨dq, osq⟩, hw''⟩ := hw'
            subst hw''
            have hB2 : Hid (Below w.heap.size w (Go.Sort.grow (redrawn wr dq) osq)) := Below.on hB.out (below_regrown wr dq osq)
            generalize Go.Sort.grow (redrawn wr dq) osq = w2 at hB2 ⊢
            go_wp2
            go_roundw
            case rel => exact ⟨2, by omega, by go_num, by rw [HN.out]; simp, by rw [HN.out]; simp, hB2⟩
            case measure => simp [intOf]; omega
          · have hor := or_bit 2 sv 4 rfl (by decide) i1
            have hor2 : bits .or .i64 (sv : Int) 4 = (sv : Int) + 4 := by simpa using hor
            have hsv : sv < 4 := i1
            clear hor i1 h8
            go_wp2_with fail
            refine wp_region_quiet_below (by kernel_rfl) (by kernel_rfl) ?_
            repeat (go_big_quiet_step (fail))
            refine wpQuiet_nil ?_
            intro _ hw'
            obtain ⟨⟨dq, osq⟩, hw''⟩ := hw'
            subst hw''
            have hB2 : Hid (Below w.heap.size w (Go.Sort.grow (redrawn wr dq) osq)) := Below.on hB.out (below_regrown wr dq osq)
            generalize Go.Sort.grow (redrawn wr dq) osq = w2 at hB2 ⊢
            go_wp2
            go_roundw
            case rel => exact ⟨3, by omega, by go_num, by rw [HN.out]; simp, by rw [HN.out]; simp, hB2⟩
            case measure => simp [intOf]; omega
          · have hor := or_bit 3 sv 8 rfl (by decide) i1
            have hor2 : bits .or .i64 (sv : Int) 8 = (sv : Int) + 8 := by simpa using hor
            have hsv : sv < 8 := i1
            clear hor i1 h8
            go_wp2_with fail
            refine wp_region_quiet_below (by kernel_rfl) (by kernel_rfl) ?_
            repeat (go_big_quiet_step (fail))
            refine wpQuiet_nil ?_
            intro _ hw'
            obtain ⟨⟨dq, osq⟩, hw''⟩ := hw'
            subst hw''
            have hB2 : Hid (Below w.heap.size w (Go.Sort.grow (redrawn wr dq) osq)) := Below.on hB.out (below_regrown wr dq osq)
            generalize Go.Sort.grow (redrawn wr dq) osq = w2 at hB2 ⊢
            go_wp2
            go_roundw
            case rel => exact ⟨4, by omega, by go_num, by rw [HN.out]; simp, by rw [HN.out]; simp, hB2⟩
            case measure => simp [intOf]; omega
          · have hor := or_bit 4 sv 16 rfl (by decide) i1
            have hor2 : bits .or .i64 (sv : Int) 16 = (sv : Int) + 16 := by simpa using hor
            have hsv : sv < 16 := i1
            clear hor i1 h8
            go_wp2_with fail
            refine wp_region_quiet_below (by kernel_rfl) (by kernel_rfl) ?_
            repeat (go_big_quiet_step (fail))
            refine wpQuiet_nil ?_
            intro _ hw'
            obtain ⟨⟨dq, osq⟩, hw''⟩ := hw'
            subst hw''
            have hB2 : Hid (Below w.heap.size w (Go.Sort.grow (redrawn wr dq) osq)) := Below.on hB.out (below_regrown wr dq osq)
            generalize Go.Sort.grow (redrawn wr dq) osq = w2 at hB2 ⊢
            go_wp2
            go_roundw
            case rel => exact ⟨5, by omega, by go_num, by rw [HN.out]; simp, by rw [HN.out]; simp, hB2⟩
            case measure => simp [intOf]; omega
          · have hor := or_bit 5 sv 32 rfl (by decide) i1
            have hor2 : bits .or .i64 (sv : Int) 32 = (sv : Int) + 32 := by simpa using hor
            have hsv : sv < 32 := i1
            clear hor i1 h8
            go_wp2_with fail
            refine wp_region_quiet_below (by kernel_rfl) (by kernel_rfl) ?_
            repeat (go_big_quiet_step (fail))
            refine wpQuiet_nil ?_
            intro _ hw'
            obtain ⟨⟨dq, osq⟩, hw''⟩ := hw'
            subst hw''
            have hB2 : Hid (Below w.heap.size w (Go.Sort.grow (redrawn wr dq) osq)) := Below.on hB.out (below_regrown wr dq osq)
            generalize Go.Sort.grow (redrawn wr dq) osq = w2 at hB2 ⊢
            go_wp2
            go_roundw
            case rel => exact ⟨6, by omega, by go_num, by rw [HN.out]; simp, by rw [HN.out]; simp, hB2⟩
            case measure => simp [intOf]; omega
          · have hor := or_bit 6 sv 64 rfl (by decide) i1
            have hor2 : bits .or .i64 (sv : Int) 64 = (sv : Int) + 64 := by simpa using hor
            have hsv : sv < 64 := i1
            clear hor i1 h8
            go_wp2_with fail
            refine wp_region_quiet_below (by kernel_rfl) (by kernel_rfl) ?_
            repeat (go_big_quiet_step (fail))
            refine wpQuiet_nil ?_
            intro _ hw'
            obtain ⟨⟨dq, osq⟩, hw''⟩ := hw'
            subst hw''
            have hB2 : Hid (Below w.heap.size w (Go.Sort.grow (redrawn wr dq) osq)) := Below.on hB.out (below_regrown wr dq osq)
            generalize Go.Sort.grow (redrawn wr dq) osq = w2 at hB2 ⊢
            go_wp2
            go_roundw
            case rel => exact ⟨7, by omega, by go_num, by rw [HN.out]; simp, by rw [HN.out]; simp, hB2⟩
            case measure => simp [intOf]; omega
          · have hor := or_bit 7 sv 128 rfl (by decide) i1
            have hor2 : bits .or .i64 (sv : Int) 128 = (sv : Int) + 128 := by simpa using hor
            have hsv : sv < 128 := i1
            clear hor i1 h8
            go_wp2_with fail
            refine wp_region_quiet_below (by kernel_rfl) (by kernel_rfl) ?_
            repeat (go_big_quiet_step (fail))
            refine wpQuiet_nil ?_
            intro _ hw'
            obtain ⟨⟨dq, osq⟩, hw''⟩ := hw'
            subst hw''
            have hB2 : Hid (Below w.heap.size w (Go.Sort.grow (redrawn wr dq) osq)) := Below.on hB.out (below_regrown wr dq osq)
            generalize Go.Sort.grow (redrawn wr dq) osq = w2 at hB2 ⊢
            go_wp2
            go_roundw
            case rel => exact ⟨8, by omega, by go_num, by rw [HN.out]; simp, by rw [HN.out]; simp, hB2⟩
            case measure => simp [intOf]; omega
        · have HN : Hid (rsTo t.data.toList S.data.toList (k + 1) = rsTo t.data.toList S.data.toList k) := (by show _ = _; rw [HR.out, if_neg (fun h => hx h.2)])
          have heq := byte_ne hx
          have hav : ((rsTo t.data.toList S.data.toList k).2 : Int) < (t.size : Int) := by omega
          clear HR hga hx hg
          go_wp2_with fail
          refine wp_region_quiet_below (by kernel_rfl) (by kernel_rfl) ?_
          repeat (go_big_quiet_step (fail))
          refine wpQuiet_nil ?_
          intro _ hw'
          obtain ⟨⟨dq, osq⟩, hw''⟩ := hw'
          subst hw''
          have hB2 : Hid (Below w.heap.size w (Go.Sort.grow (redrawn wr dq) osq)) := Below.on hB.out (below_regrown wr dq osq)
          generalize Go.Sort.grow (redrawn wr dq) osq = w2 at hB2 ⊢
          go_wp2
          go_roundw
          case rel => exact ⟨k + 1, by omega, by go_num, by rw [HN.out], by rw [HN.out], hB2⟩
          case measure => simp [intOf]; omega
      · have HN : Hid (rsTo t.data.toList S.data.toList (k + 1) = rsTo t.data.toList S.data.toList k) := (by show _ = _; rw [HR.out, if_neg (fun h => ha h.1)])
        have hav : ¬ ((rsTo t.data.toList S.data.toList k).2 : Int) < (t.size : Int) := by omega
        clear HR hg
        go_wp2_with fail
        refine wp_region_quiet_below (by kernel_rfl) (by kernel_rfl) ?_
        repeat (go_big_quiet_step (fail))
        refine wpQuiet_nil ?_
        intro _ hw'
        obtain ⟨⟨dq, osq⟩, hw''⟩ := hw'
        subst hw''
        have hB2 : Hid (Below w.heap.size w (Go.Sort.grow (redrawn wr dq) osq)) := Below.on hB.out (below_regrown wr dq osq)
        generalize Go.Sort.grow (redrawn wr dq) osq = w2 at hB2 ⊢
        go_wp2
        go_roundw
        case rel => exact ⟨k + 1, by omega, by go_num, by rw [HN.out], by rw [HN.out], hB2⟩
        case measure => simp [intOf]; omega
    · have : k = S.size := by omega
      subst this
      have hdec : (((rsTo t.data.toList S.data.toList S.size).2 : Int) == (t.size : Int)) = decide ((rsTo t.data.toList S.data.toList S.size).2 = t.size) := by
        by_cases e : (rsTo t.data.toList S.data.toList S.size).2 = t.size
        · rw [e]; simp
        · rw [decide_eq_false e]
          rw [beq_eq_false_iff_ne]
          omega
      have HD : Hid _ := hdec
      clear hdec
      go_wp2
      go_ret2
      exact ⟨by rw [← HD.out]; rfl, hB.out⟩
/-- What readWho ends in. -/
def WhoEnd (c : List UInt8) (w : World) (e : Ending) (w' : World) : Prop := (∃ (wh id : Nat) (ok : Bool), e = .returned (.tuple #[.int .i64 wh, .int .i64 id, .bool ok]) ∧ whoI c = (if ok then some (wh, id) else none)) ∧ Below w.heap.size w w'
theorem tl_ne {c : ByteArray} {l : List UInt8} (h : ¬ c.data.toList = l) : (c.toList == l) = false := by
  rw [ByteArray.toList_eq]
  exact beq_eq_false_iff_ne.2 h
theorem tl_eq {c : ByteArray} {l : List UInt8} (h : c.data.toList = l) : (c.toList == l) = true := by
  rw [ByteArray.toList_eq, h]
  simp
theorem tl_empty {c : ByteArray} (h : c.data.toList = []) : c.toList.isEmpty = true := by
  rw [ByteArray.toList_eq, h]
  rfl
theorem tail_text {c : ByteArray} (h : 0 < c.size) : (c.extract 1 c.size).data.toList = c.data.toList.tail := by
  have hl : c.data.toList.length = c.size := (Lib.size_eq c).symm
  rw [cut_text, ← hl, List.take_length]
  simp
theorem tup3 {a b : Nat} {ok : Bool} {c : List UInt8} {w w' : World} (h1 : whoI c = (if ok then some (a, b) else none)) (h2 : Below w.heap.size w w') : WhoEnd c w (.returned (.tuple #[.int .i64 a, .int .i64 b, .bool ok])) w' := ⟨⟨a, b, ok, rfl, h1⟩, h2⟩
set_option maxRecDepth 100000 in
set_option maxHeartbeats 2000000 in
theorem iRdWho_any (c : ByteArray) (hc : c.size ≤ 100000000) (w : World) : Calls Tryz.prog 62 #[.string c] w (WhoEnd c.data.toList w) := by
  have hl : c.data.toList.length = c.size := (Lib.size_eq c).symm
  by_cases h0 : c.data.toList = []
  · have e0 := tl_empty h0
    have hr : Hid (whoI c.data.toList = none) := (by show _ = _; rw [h0]; decide)
    clear h0 hl
    go_enter Tryz.func62, Tryz.ntmps62
    go_wp2
    go_ret3
    exact tup3 (ok := false) hr.out (Below.refl _ _)
  have hpos : 0 < c.size := by
    rcases Nat.eq_zero_or_pos c.size with e | e
    · exact absurd (List.eq_nil_of_length_eq_zero (by omega)) h0
    · exact e
  have e0 := full_text hpos
  by_cases h1 : c.data.toList = ownL
  · have e1 : (c.toList == [79, 87, 78, 69, 82, 64]) = true := tl_eq h1
    have hr : Hid (whoI c.data.toList = some (1, 0)) := (by show _ = _; rw [h1]; decide)
    clear h0 hl h1
    go_enter Tryz.func62, Tryz.ntmps62
    go_wp2
    go_ret3
    exact tup3 (ok := true) hr.out (Below.refl _ _)
  have e1 : (c.toList == [79, 87, 78, 69, 82, 64]) = false := tl_ne h1
  by_cases h2 : c.data.toList = grpL
  · have e2 : (c.toList == [71, 82, 79, 85, 80, 64]) = true := tl_eq h2
    have hr : Hid (whoI c.data.toList = some (2, 0)) := (by show _ = _; rw [h2]; decide)
    clear h0 hl h1 h2
    go_enter Tryz.func62, Tryz.ntmps62
    go_wp2
    go_ret3
    exact tup3 (ok := true) hr.out (Below.refl _ _)
  have e2 : (c.toList == [71, 82, 79, 85, 80, 64]) = false := tl_ne h2
  by_cases h3 : c.data.toList = evyL
  · have e3 : (c.toList == [69, 86, 69, 82, 89, 79, 78, 69, 64]) = true := tl_eq h3
    have hr : Hid (whoI c.data.toList = some (3, 0)) := (by show _ = _; rw [h3]; decide)
    clear h0 hl h1 h2 h3
    go_enter Tryz.func62, Tryz.ntmps62
    go_wp2
    go_ret3
    exact tup3 (ok := true) hr.out (Below.refl _ _)
  have e3 : (c.toList == [69, 86, 69, 82, 89, 79, 78, 69, 64]) = false := tl_ne h3
  have hh := head_at hpos
  have HW : Hid (whoI c.data.toList = if c[0] = 117 then (rdI c.data.toList.tail).map (fun n => (4, n)) else if c[0] = 103 then (rdI c.data.toList.tail).map (fun n => (5, n)) else none) := (by
    show _ = _
    rw [whoI, if_neg h0, if_neg h1, if_neg h2, if_neg h3, hh])
  have HI : Hid (∀ w, Calls Tryz.prog 86 #[.string (c.extract 1 c.size)] w fun e w' => e = .returned (optI (rdI c.data.toList.tail)) ∧ Below w.heap.size w w') := (fun w => by
    have := iReadId_any (c.extract 1 c.size) w
    rwa [tail_text hpos] at this)
  have hp1 : 1 ≤ (c.size : Int) := by omega
  clear hh h0 h1 h2 h3 hl
  by_cases hu : c[0] = 117
  · have u1 : (((c[0]).toNat : Int) == 117) = true := by rw [hu]; rfl
    have hr := HW.out
    rw [if_pos hu] at hr
    have HR : Hid _ := hr
    clear hr hu HW
    cases hri : rdI c.data.toList.tail with
    | none =>
      rw [hri] at HI HR
      simp only [optI] at HI
      go_enter Tryz.func62, Tryz.ntmps62
      go_wp2_with (go_at_call 86; refine (HI.out _).mono ?_; rintro e w1 ⟨rfl, hb1⟩)
      go_ret3
      exact tup3 (a := 4) (b := 0) (ok := false) HR.out hb1
    | some n =>
      rw [hri] at HI HR
      simp only [optI] at HI
      go_enter Tryz.func62, Tryz.ntmps62
      go_wp2_with (go_at_call 86; refine (HI.out _).mono ?_; rintro e w1 ⟨rfl, hb1⟩)
      go_ret3
      exact tup3 (a := 4) (b := n) (ok := true) HR.out hb1
  · have u1 : (((c[0]).toNat : Int) == 117) = false := byte_ne (y := 117) hu
    by_cases hg : c[0] = 103
    · have u2 : (((c[0]).toNat : Int) == 103) = true := by rw [hg]; rfl
      have hr := HW.out
      rw [if_neg hu, if_pos hg] at hr
      have HR : Hid _ := hr
      clear hr hu hg HW
      cases hri : rdI c.data.toList.tail with
      | none =>
        rw [hri] at HI HR
        simp only [optI] at HI
        go_enter Tryz.func62, Tryz.ntmps62
        go_wp2_with (go_at_call 86; refine (HI.out _).mono ?_; rintro e w1 ⟨rfl, hb1⟩)
        go_ret3
        exact tup3 (a := 5) (b := 0) (ok := false) HR.out hb1
      | some n =>
        rw [hri] at HI HR
        simp only [optI] at HI
        go_enter Tryz.func62, Tryz.ntmps62
        go_wp2_with (go_at_call 86; refine (HI.out _).mono ?_; rintro e w1 ⟨rfl, hb1⟩)
        go_ret3
        exact tup3 (a := 5) (b := n) (ok := true) HR.out hb1
    · have u2 : (((c[0]).toNat : Int) == 103) = false := byte_ne (y := 103) hg
      have hr := HW.out
      rw [if_neg hu, if_neg hg] at hr
      have HR : Hid _ := hr
      clear hr hu hg HW
      go_enter Tryz.func62, Tryz.ntmps62
      go_wp2
      go_ret3
      exact tup3 (a := 5) (b := 0) (ok := false) HR.out (Below.refl _ _)
/-- An ace that is written cell by cell: its five cells, which may be written. -/
structure Wr5 (w : World) (b : Nat) (x : Ac) : Prop where
  lt : b < w.heap.size
  f : Five w b 0 x
  z : ∀ o, w.frozen? ⟨b, o, none⟩ = false
theorem Wr5.below {w w' : World} {b : Nat} {x : Ac} (h : Wr5 w b x) (hb : Below w.heap.size w w') : Wr5 w' b x :=
  ⟨Nat.lt_of_lt_of_le h.lt hb.size, h.f.below h.lt hb, fun o => (hb.frozen (p := ⟨b, o, none⟩) h.lt).trans (h.z o)⟩
theorem wr5_new (w : World) (x : Ac) (t : TypeId) : Wr5 (w.alloc (.cells #[.bool x.al, .int .i64 x.wh, .int .i64 x.id, .int .i64 x.fl, .int .i64 x.ma] t)) w.heap.size x := by
  refine ⟨by simp, five_new w x t, fun o => ?_⟩
  have hb : (w.alloc (.cells #[.bool x.al, .int .i64 x.wh, .int .i64 x.id, .int .i64 x.fl, .int .i64 x.ma] t)).heap[w.heap.size]? = some (.cells #[.bool x.al, .int .i64 x.wh, .int .i64 x.id, .int .i64 x.fl, .int .i64 x.ma] t) := by
    rw [World.alloc]
    exact Array.getElem?_push_size
  unfold World.frozen?
  simp only [hb]
  simp
theorem Wr5.other {w : World} {b b2 o : Nat} {x : Ac} {v : Value} (h : Wr5 w b x) (hne : b2 ≠ b) : Wr5 (w.setCell ⟨b2, o, none⟩ v) b x :=
  ⟨by simpa using h.lt, h.f.other hne, fun o2 => by rw [World.frozen?_setCell]; exact h.z o2⟩
theorem Wr5.set0 {w : World} {b : Nat} {x : Ac} (h : Wr5 w b x) (v : Bool) : Wr5 (w.setCell ⟨b, 0, none⟩ (.bool v)) b { x with al := v } := by
  obtain ⟨hl, ⟨c0, c1, c2, c3, c4⟩, hz⟩ := h
  simp only [Nat.zero_add] at c0 c1 c2 c3 c4
  refine ⟨by simpa using hl, ⟨?_, ?_, ?_, ?_, ?_⟩, fun o => by rw [World.frozen?_setCell]; exact hz o⟩ <;> simp [go_sem, *]
theorem Wr5.set1 {w : World} {b : Nat} {x : Ac} (h : Wr5 w b x) (v : Int) : Wr5 (w.setCell ⟨b, 1, none⟩ (.int .i64 v)) b { x with wh := v } := by
  obtain ⟨hl, ⟨c0, c1, c2, c3, c4⟩, hz⟩ := h
  simp only [Nat.zero_add] at c0 c1 c2 c3 c4
  refine ⟨by simpa using hl, ⟨?_, ?_, ?_, ?_, ?_⟩, fun o => by rw [World.frozen?_setCell]; exact hz o⟩ <;> simp [go_sem, *]
theorem Wr5.set2 {w : World} {b : Nat} {x : Ac} (h : Wr5 w b x) (v : Int) : Wr5 (w.setCell ⟨b, 2, none⟩ (.int .i64 v)) b { x with id := v } := by
  obtain ⟨hl, ⟨c0, c1, c2, c3, c4⟩, hz⟩ := h
  simp only [Nat.zero_add] at c0 c1 c2 c3 c4
  refine ⟨by simpa using hl, ⟨?_, ?_, ?_, ?_, ?_⟩, fun o => by rw [World.frozen?_setCell]; exact hz o⟩ <;> simp [go_sem, *]
theorem Wr5.set3 {w : World} {b : Nat} {x : Ac} (h : Wr5 w b x) (v : Int) : Wr5 (w.setCell ⟨b, 3, none⟩ (.int .i64 v)) b { x with fl := v } := by
  obtain ⟨hl, ⟨c0, c1, c2, c3, c4⟩, hz⟩ := h
  simp only [Nat.zero_add] at c0 c1 c2 c3 c4
  refine ⟨by simpa using hl, ⟨?_, ?_, ?_, ?_, ?_⟩, fun o => by rw [World.frozen?_setCell]; exact hz o⟩ <;> simp [go_sem, *]
theorem Wr5.set4 {w : World} {b : Nat} {x : Ac} (h : Wr5 w b x) (v : Int) : Wr5 (w.setCell ⟨b, 4, none⟩ (.int .i64 v)) b { x with ma := v } := by
  obtain ⟨hl, ⟨c0, c1, c2, c3, c4⟩, hz⟩ := h
  simp only [Nat.zero_add] at c0 c1 c2 c3 c4
  refine ⟨by simpa using hl, ⟨?_, ?_, ?_, ?_, ?_⟩, fun o => by rw [World.frozen?_setCell]; exact hz o⟩ <;> simp [go_sem, *]
/-- Four texts in a row. -/
structure Tx4 (w : World) (b : Nat) (ta tb tc td : ByteArray) : Prop where
  lt : b < w.heap.size
  c0 : w.cell? ⟨b, 0, none⟩ = some (.string ta)
  c1 : w.cell? ⟨b, 1, none⟩ = some (.string tb)
  c2 : w.cell? ⟨b, 2, none⟩ = some (.string tc)
  c3 : w.cell? ⟨b, 3, none⟩ = some (.string td)
theorem Tx4.keep {w w' : World} {b : Nat} {ta tb tc td : ByteArray} (h : Tx4 w b ta tb tc td) (hlt : b < w'.heap.size) (hc : ∀ o, w'.cell? ⟨b, o, none⟩ = w.cell? ⟨b, o, none⟩) : Tx4 w' b ta tb tc td :=
  ⟨hlt, (hc 0).trans h.c0, (hc 1).trans h.c1, (hc 2).trans h.c2, (hc 3).trans h.c3⟩
theorem Tx4.below {w w' : World} {b : Nat} {ta tb tc td : ByteArray} (h : Tx4 w b ta tb tc td) (hb : Below w.heap.size w w') : Tx4 w' b ta tb tc td :=
  h.keep (Nat.lt_of_lt_of_le h.lt hb.size) (fun o => hb.cell (p := ⟨b, o, none⟩) h.lt)
theorem Tx4.other {w : World} {b b2 o : Nat} {ta tb tc td : ByteArray} {v : Value} (h : Tx4 w b ta tb tc td) (hne : b2 ≠ b) : Tx4 (w.setCell ⟨b2, o, none⟩ v) b ta tb tc td :=
  h.keep (by simpa using h.lt) (fun o2 => World.cell?_setCell_other _ _ _ _ (by intro h; have h2 := congrArg Addr.block h; simp only at h2; omega))
theorem aceS_four {t a b c d : List UInt8} (h : spl 58 t = [a, b, c, d]) : aceS t = ⟨decide (a = [65]), (whoS c).1, (whoS c).2, (setTo b fdni.data.toList 4 : Nat), (setTo d rwxs.data.toList 8 : Nat)⟩ := by simp only [aceS, h]
theorem aceS_not {t : List UInt8} (h : (spl 58 t).length ≠ 4) : aceS t = acZ := by
  unfold aceS
  split
  next e => rw [e] at h; simp at h
  · rfl
set_option maxRecDepth 100000 in
set_option maxHeartbeats 2000000 in
/-- spec.l05Read of a text that is not of four pieces. -/
theorem sRead_not (s : ByteArray) (hs : s.size ≤ 100000000) (h4 : (spl 58 s.data.toList).length ≠ 4) (w : World) :
    Calls Tryz.prog 47 #[.string s] w fun e w' => e = .returned (.agg #[.bool false, .int .i64 0, .int .i64 0, .int .i64 0, .int .i64 0]) ∧ Below w.heap.size w w' := by
  have hS : Hid (∀ w, Calls Tryz.prog 51 #[.string s, .int .u8 58] w fun e w' => ∃ v, e = .returned v ∧ w'.ownsRow w.heap.size 9 1 v (bts (spl 58 s.data.toList)).length (tv (bts (spl 58 s.data.toList))) ∧ Below w.heap.size w w') := sSplit_any s 58 hs
  rw [← bts_len] at h4
  have hY : Hid (Wr5 (w.alloc (.cells #[.bool false, .int .i64 0, .int .i64 0, .int .i64 0, .int .i64 0] 24)) w.heap.size acZ) := wr5_new w acZ _
  have hW0 : Hid (Below w.heap.size w (w.alloc (.cells #[.bool false, .int .i64 0, .int .i64 0, .int .i64 0, .int .i64 0] 24))) := bel_alloc _ _
  go_enter Tryz.func47, Tryz.ntmps47
  go_wp2_with fail
  refine (hS.out _).mono ?_
  rintro e w1 ⟨v, rfl, hO, hb1⟩
  obtain ⟨a, c, rfl, hc, _⟩ := own_texts hO
  have hne : (((bts (spl 58 s.data.toList)).length : Int) == 4) = false := by rw [beq_eq_false_iff_ne]; omega
  have hY1 : Hid (Wr5 w1 w.heap.size acZ) := hY.out.below hb1
  have hW1 : Hid (Below w.heap.size w w1) := Below.on hW0.out hb1
  generalize (bts (spl 58 s.data.toList)).length = n at hne ⊢
  clear hO hc hb1 h4 hY hW0 hS
  have hY2 := hY1.out.below (bel_alloc w1 (.cells #[.bool false, .int .i64 0, .int .i64 0, .int .i64 0, .int .i64 0] 24))
  obtain ⟨yl, ⟨y0, y1, y2, y3, y4⟩, yz⟩ := hY2
  simp only [Nat.zero_add] at y0 y1 y2 y3 y4
  go_wp2
  refine bodyPost_ret (v := .agg #[.bool false, .int .i64 0, .int .i64 0, .int .i64 0, .int .i64 0]) (by simp [results, Tryz.results47, go_sem, y0, y1, y2, y3, y4]) rfl ⟨rfl, ?_⟩
  repeat (refine bl_setA ?_ (Nat.le_refl _))
  exact Below.onA hW1.out
theorem piece_len {t a b c d : List UInt8} (h : spl 58 t = [a, b, c, d]) : a.length ≤ t.length ∧ b.length ≤ t.length ∧ c.length ≤ t.length ∧ d.length ≤ t.length := by
  have h1 := congrArg List.length (unspl4 h)
  simp [unspl] at h1
  omega
/-- What l05Read holds at work: its answer's place, the pieces, the ace. -/
structure Rd3 (w : World) (Y b X : Nat) (x : Ac) (ta tb tc td : ByteArray) : Prop where
  y : Wr5 w Y acZ
  t : Tx4 w b ta tb tc td
  x : Wr5 w X x
  n1 : Y < b
  n2 : b < X
theorem Rd3.below {w w' : World} {Y b X : Nat} {x : Ac} {ta tb tc td : ByteArray} (h : Rd3 w Y b X x ta tb tc td) (hb : Below w.heap.size w w') : Rd3 w' Y b X x ta tb tc td :=
  ⟨h.y.below hb, h.t.below hb, h.x.below hb, h.n1, h.n2⟩
theorem Rd3.set0 {w : World} {Y b X : Nat} {x : Ac} {ta tb tc td : ByteArray} (h : Rd3 w Y b X x ta tb tc td) (v : Bool) : Rd3 (w.setCell ⟨X, 0, none⟩ (.bool v)) Y b X { x with al := v } ta tb tc td :=
  ⟨h.y.other (by have := h.n1; have := h.n2; omega), h.t.other (by have := h.n2; omega), h.x.set0 v, h.n1, h.n2⟩
theorem Rd3.set1 {w : World} {Y b X : Nat} {x : Ac} {ta tb tc td : ByteArray} (h : Rd3 w Y b X x ta tb tc td) (v : Int) : Rd3 (w.setCell ⟨X, 1, none⟩ (.int .i64 v)) Y b X { x with wh := v } ta tb tc td :=
  ⟨h.y.other (by have := h.n1; have := h.n2; omega), h.t.other (by have := h.n2; omega), h.x.set1 v, h.n1, h.n2⟩
theorem Rd3.set2 {w : World} {Y b X : Nat} {x : Ac} {ta tb tc td : ByteArray} (h : Rd3 w Y b X x ta tb tc td) (v : Int) : Rd3 (w.setCell ⟨X, 2, none⟩ (.int .i64 v)) Y b X { x with id := v } ta tb tc td :=
  ⟨h.y.other (by have := h.n1; have := h.n2; omega), h.t.other (by have := h.n2; omega), h.x.set2 v, h.n1, h.n2⟩
theorem Rd3.set3 {w : World} {Y b X : Nat} {x : Ac} {ta tb tc td : ByteArray} (h : Rd3 w Y b X x ta tb tc td) (v : Int) : Rd3 (w.setCell ⟨X, 3, none⟩ (.int .i64 v)) Y b X { x with fl := v } ta tb tc td :=
  ⟨h.y.other (by have := h.n1; have := h.n2; omega), h.t.other (by have := h.n2; omega), h.x.set3 v, h.n1, h.n2⟩
theorem Rd3.set4 {w : World} {Y b X : Nat} {x : Ac} {ta tb tc td : ByteArray} (h : Rd3 w Y b X x ta tb tc td) (v : Int) : Rd3 (w.setCell ⟨X, 4, none⟩ (.int .i64 v)) Y b X { x with ma := v } ta tb tc td :=
  ⟨h.y.other (by have := h.n1; have := h.n2; omega), h.t.other (by have := h.n2; omega), h.x.set4 v, h.n1, h.n2⟩
set_option maxRecDepth 100000 in
set_option maxHeartbeats 4000000 in
/-- spec.l05Read of four pieces. -/
theorem sRead_four (s ta tb tc td : ByteArray) (hs : s.size ≤ 100000000) (h : spl 58 s.data.toList = [ta.data.toList, tb.data.toList, tc.data.toList, td.data.toList]) (w : World) :
    Calls Tryz.prog 47 #[.string s] w fun e w' => e = .returned (.agg #[.bool (aceS s.data.toList).al, .int .i64 (aceS s.data.toList).wh, .int .i64 (aceS s.data.toList).id, .int .i64 (aceS s.data.toList).fl, .int .i64 (aceS s.data.toList).ma]) ∧ Below w.heap.size w w' := by
  obtain ⟨la, lb, lc, ld⟩ := piece_len h
  have hls : s.data.toList.length = s.size := (Lib.size_eq s).symm
  have hlb : tb.data.toList.length = tb.size := (Lib.size_eq tb).symm
  have hlc : tc.data.toList.length = tc.size := (Lib.size_eq tc).symm
  have hld : td.data.toList.length = td.size := (Lib.size_eq td).symm
  have hS : Hid (∀ w, Calls Tryz.prog 51 #[.string s, .int .u8 58] w fun e w' => ∃ v, e = .returned v ∧ w'.ownsRow w.heap.size 9 1 v ([ta, tb, tc, td] : List ByteArray).length (tv [ta, tb, tc, td]) ∧ Below w.heap.size w w') := (fun w => by
    have h1 := sSplit_any s 58 hs w
    have e : bts (spl 58 s.data.toList) = [ta, tb, tc, td] := by
      rw [h]
      simp [bts]
    rwa [e] at h1)
  have HB : Hid (∀ w, Calls Tryz.prog 77 #[.string tb, .string ⟨#[102, 100, 110, 105]⟩] w fun e w' => e = .returned (.int .i64 (setTo tb.data.toList fdni.data.toList 4 : Nat)) ∧ Below w.heap.size w w') := sSet_any tb fdni (by omega) (by decide)
  have HD : Hid (∀ w, Calls Tryz.prog 77 #[.string td, .string ⟨#[114, 119, 120, 97, 100, 99, 67, 111]⟩] w fun e w' => e = .returned (.int .i64 (setTo td.data.toList rwxs.data.toList 8 : Nat)) ∧ Below w.heap.size w w') := sSet_any td rwxs (by omega) (by decide)
  rw [aceS_four h]
  generalize setTo tb.data.toList fdni.data.toList 4 = FL at HB
  generalize setTo td.data.toList rwxs.data.toList 8 = MA at HD
  have eA : (ta.toList == [65]) = decide (ta.data.toList = [65]) := by
    by_cases e : ta.data.toList = [65]
    · rw [decide_eq_true e]; exact tl_eq e
    · rw [decide_eq_false e]; exact tl_ne e
  generalize decide (ta.data.toList = [65]) = AL at eA ⊢
  have HCS : Hid (tc.size ≤ 100000000) := (show _ ≤ _ by omega)
  have hY : Hid (Wr5 (w.alloc (.cells #[.bool false, .int .i64 0, .int .i64 0, .int .i64 0, .int .i64 0] 24)) w.heap.size acZ) := wr5_new w acZ _
  have hW0 : Hid (Below w.heap.size w (w.alloc (.cells #[.bool false, .int .i64 0, .int .i64 0, .int .i64 0, .int .i64 0] 24))) := bel_alloc _ _
  have hz0 : w.heap.size < (w.alloc (.cells #[.bool false, .int .i64 0, .int .i64 0, .int .i64 0, .int .i64 0] 24)).heap.size := by simp
  clear la lb lc ld hls hlb hlc hld h hs
  go_enter Tryz.func47, Tryz.ntmps47
  go_wp2_with fail
  refine (hS.out _).mono ?_
  rintro e w1 ⟨v, rfl, hO, hb1⟩
  have hlow := hO
  obtain ⟨a, cp, hv, hcp, hcl⟩ := own_texts hO
  obtain ⟨b, rfl, hbl, hcell⟩ := hcl (by simp)
  have hv : v = .slice (some ⟨b, 0, none⟩) 4 cp := hv
  have hbg : w.heap.size < b := by
    have := (hlow.lt b (by rw [hv]; rfl)).1
    omega
  subst hv
  have hT1 : Tx4 w1 b ta tb tc td := ⟨hbl, hcell 0 ta rfl, hcell 1 tb rfl, hcell 2 tc rfl, hcell 3 td rfl⟩
  have hY1 : Wr5 w1 w.heap.size acZ := hY.out.below hb1
  have HR : Hid (Rd3 (w1.alloc (.cells #[.bool AL, .int .i64 0, .int .i64 0, .int .i64 0, .int .i64 0] 24)) w.heap.size b w1.heap.size { acZ with al := AL } ta tb tc td) := ⟨hY1.below (bel_alloc _ _), hT1.below (bel_alloc _ _), wr5_new w1 { acZ with al := AL } _, hbg, hbl⟩
  have hW1 : Hid (Below w.heap.size w (w1.alloc (.cells #[.bool AL, .int .i64 0, .int .i64 0, .int .i64 0, .int .i64 0] 24))) := Below.onA (Below.on hW0.out hb1)
  have hwx : w.heap.size ≤ w1.heap.size := Nat.le_trans (by simp) hb1.size
  have HWX : Hid (w.heap.size ≤ w1.heap.size) := hwx
  obtain ⟨tl, t0, t1, t2, t3⟩ := hT1
  clear hlow hcl hcell hY1 hY hW0 hz0 hb1 hO hbg hS hwx
  go_wp2_with fail
  refine (HB.out _).mono ?_
  rintro e w3 ⟨rfl, hb3⟩
  have HR3 : Hid (Rd3 w3 w.heap.size b w1.heap.size { acZ with al := AL } ta tb tc td) := HR.out.below hb3
  have hW3 : Hid (Below w.heap.size w w3) := Below.on hW1.out hb3
  clear hb3 HR hW1 tl t0 t1 t2 t3 hbl
  obtain ⟨⟨yl, ⟨y0, y1, y2, y3, y4⟩, yz⟩, ⟨tl, t0, t1, t2, t3⟩, ⟨xl, ⟨x0, x1, x2, x3, x4⟩, xz⟩, n1, n2⟩ := HR3.out
  simp only [Nat.zero_add] at y0 y1 y2 y3 y4 x0 x1 x2 x3 x4
  have yz0 := yz 0
  have yz1 := yz 1
  have yz2 := yz 2
  have yz3 := yz 3
  have yz4 := yz 4
  have xz0 := xz 0
  have xz1 := xz 1
  have xz2 := xz 2
  have xz3 := xz 3
  have xz4 := xz 4
  clear yz xz
  go_wp2_with fail
  refine (HD.out _).mono ?_
  rintro e w4 ⟨rfl, hb4⟩
  have HR4 : Hid (Rd3 w4 w.heap.size b w1.heap.size { acZ with al := AL, fl := FL } ta tb tc td) := (HR3.out.set3 FL).below hb4
  have hW4 : Hid (Below w.heap.size w w4) := Below.on (bl_setA hW3.out HWX.out) hb4
  clear yl y0 y1 y2 y3 y4 yz0 yz1 yz2 yz3 yz4 tl t0 t1 t2 t3 xl x0 x1 x2 x3 x4 xz0 xz1 xz2 xz3 xz4 n1 n2
  clear hb4 HR3 hW3
  obtain ⟨⟨yl, ⟨y0, y1, y2, y3, y4⟩, yz⟩, ⟨tl, t0, t1, t2, t3⟩, ⟨xl, ⟨x0, x1, x2, x3, x4⟩, xz⟩, n1, n2⟩ := HR4.out
  simp only [Nat.zero_add] at y0 y1 y2 y3 y4 x0 x1 x2 x3 x4
  have yz0 := yz 0
  have yz1 := yz 1
  have yz2 := yz 2
  have yz3 := yz 3
  have yz4 := yz 4
  have xz0 := xz 0
  have xz1 := xz 1
  have xz2 := xz 2
  have xz3 := xz 3
  have xz4 := xz 4
  clear yz xz
  simp only [acZ] at x0 x1 x2 x3 x4
  go_upto_region 8 with fail
  have HR5 : Hid (Rd3 (w4.setCell ⟨w1.heap.size, 4, none⟩ (.int .i64 MA)) w.heap.size b w1.heap.size { acZ with al := AL, fl := FL, ma := MA } ta tb tc td) := HR4.out.set4 MA
  have hW5 : Hid (Below w.heap.size w (w4.setCell ⟨w1.heap.size, 4, none⟩ (.int .i64 MA))) := bl_setA hW4.out HWX.out
  clear yl y0 y1 y2 y3 y4 yz0 yz1 yz2 yz3 yz4 tl t0 t1 t2 t3 xl x0 x1 x2 x3 x4 xz0 xz1 xz2 xz3 xz4 n1 n2
  clear HR4 hW4
  generalize w4.setCell ⟨w1.heap.size, 4, none⟩ (.int .i64 MA) = w5 at HR5 hW5 ⊢
  obtain ⟨⟨yl, ⟨y0, y1, y2, y3, y4⟩, yz⟩, ⟨tl, t0, t1, t2, t3⟩, ⟨xl, ⟨x0, x1, x2, x3, x4⟩, xz⟩, n1, n2⟩ := HR5.out
  simp only [Nat.zero_add, acZ] at y0 y1 y2 y3 y4 x0 x1 x2 x3 x4
  have yz0 := yz 0
  have yz1 := yz 1
  have yz2 := yz 2
  have yz3 := yz 3
  have yz4 := yz 4
  have xz0 := xz 0
  have xz1 := xz 1
  have xz2 := xz 2
  have xz3 := xz 3
  have xz4 := xz 4
  clear yz xz
  by_cases h1 : tc.data.toList = ownL
  · have e1 : (tc.toList == [79, 87, 78, 69, 82, 64]) = true := tl_eq h1
    have hw : Hid (whoS tc.data.toList = (1, 0)) := (by show _ = _; rw [h1]; decide)
    clear h1
    go_wp2
    refine bodyPost_ret (v := .agg #[.bool AL, .int .i64 1, .int .i64 0, .int .i64 FL, .int .i64 MA]) (by simp [results, Tryz.results47, go_sem, y0, y1, y2, y3, y4]) rfl ⟨by rw [hw.out], ?_⟩
    repeat (refine bl_setA ?_ (by first | exact Nat.le_refl _ | exact HWX.out))
    exact hW5.out
  have e1 : (tc.toList == [79, 87, 78, 69, 82, 64]) = false := tl_ne h1
  by_cases h2 : tc.data.toList = grpL
  · have e2 : (tc.toList == [71, 82, 79, 85, 80, 64]) = true := tl_eq h2
    have hw : Hid (whoS tc.data.toList = (2, 0)) := (by show _ = _; rw [h2]; decide)
    clear h1 h2
    go_wp2
    refine bodyPost_ret (v := .agg #[.bool AL, .int .i64 2, .int .i64 0, .int .i64 FL, .int .i64 MA]) (by simp [results, Tryz.results47, go_sem, y0, y1, y2, y3, y4]) rfl ⟨by rw [hw.out], ?_⟩
    repeat (refine bl_setA ?_ (by first | exact Nat.le_refl _ | exact HWX.out))
    exact hW5.out
  have e2 : (tc.toList == [71, 82, 79, 85, 80, 64]) = false := tl_ne h2
  by_cases h3 : tc.data.toList = evyL
  · have e3 : (tc.toList == [69, 86, 69, 82, 89, 79, 78, 69, 64]) = true := tl_eq h3
    have hw : Hid (whoS tc.data.toList = (3, 0)) := (by show _ = _; rw [h3]; decide)
    clear h1 h2 h3
    go_wp2
    refine bodyPost_ret (v := .agg #[.bool AL, .int .i64 3, .int .i64 0, .int .i64 FL, .int .i64 MA]) (by simp [results, Tryz.results47, go_sem, y0, y1, y2, y3, y4]) rfl ⟨by rw [hw.out], ?_⟩
    repeat (refine bl_setA ?_ (by first | exact Nat.le_refl _ | exact HWX.out))
    exact hW5.out
  have e3 : (tc.toList == [69, 86, 69, 82, 89, 79, 78, 69, 64]) = false := tl_ne h3
  by_cases h0 : tc.data.toList = []
  · have e0 := tl_empty h0
    have hw : Hid (whoS tc.data.toList = (0, 0)) := (by show _ = _; rw [h0]; decide)
    clear h1 h2 h3 h0
    go_wp2
    refine bodyPost_ret (v := .agg #[.bool AL, .int .i64 0, .int .i64 0, .int .i64 FL, .int .i64 MA]) (by simp [results, Tryz.results47, go_sem, y0, y1, y2, y3, y4]) rfl ⟨by rw [hw.out], ?_⟩
    repeat (refine bl_setA ?_ (by first | exact Nat.le_refl _ | exact HWX.out))
    exact hW5.out
  have hpos : 0 < tc.size := by
    rcases Nat.eq_zero_or_pos tc.size with e | e
    · exact absurd (List.eq_nil_of_length_eq_zero (by rw [← Lib.size_eq]; exact e)) h0
    · exact e
  have e0 := full_text hpos
  have hh := head_at hpos
  have hws : whoS tc.data.toList = (if tc[0] = 117 then 4 else 5, numI tc.data.toList.tail) := by rw [whoS, if_neg h1, if_neg h2, if_neg h3, if_neg h0, hh]
  have HN : Hid (∀ w, Calls Tryz.prog 78 #[.string (tc.extract 1 tc.size)] w fun e w' => e = .returned (.int .i64 (numI tc.data.toList.tail)) ∧ w' = w) := (fun w => by
    have := sNum_any (tc.extract 1 tc.size) (by rw [ByteArray.size_extract]; have := HCS.out; omega) w
    rwa [tail_text hpos] at this)
  have hp1 : 1 ≤ (tc.size : Int) := by omega
  generalize numI tc.data.toList.tail = NI at HN hws
  clear hh h0 h1 h2 h3
  go_upto_region 10 with fail
  have HR6 : Hid (Rd3 (w5.setCell ⟨w1.heap.size, 1, none⟩ (.int .i64 5)) w.heap.size b w1.heap.size { acZ with al := AL, wh := 5, fl := FL, ma := MA } ta tb tc td) := HR5.out.set1 5
  have hW6 : Hid (Below w.heap.size w (w5.setCell ⟨w1.heap.size, 1, none⟩ (.int .i64 5))) := bl_setA hW5.out HWX.out
  clear yl y0 y1 y2 y3 y4 yz0 yz1 yz2 yz3 yz4 tl t0 t1 t2 t3 xl x0 x1 x2 x3 x4 xz0 xz1 xz2 xz3 xz4 n1 n2
  clear HR5 hW5
  generalize w5.setCell ⟨w1.heap.size, 1, none⟩ (.int .i64 5) = w6 at HR6 hW6 ⊢
  obtain ⟨⟨yl, ⟨y0, y1, y2, y3, y4⟩, yz⟩, ⟨tl, t0, t1, t2, t3⟩, ⟨xl, ⟨x0, x1, x2, x3, x4⟩, xz⟩, n1, n2⟩ := HR6.out
  simp only [Nat.zero_add, acZ] at y0 y1 y2 y3 y4 x0 x1 x2 x3 x4
  have yz0 := yz 0
  have yz1 := yz 1
  have yz2 := yz 2
  have yz3 := yz 3
  have yz4 := yz 4
  have xz0 := xz 0
  have xz1 := xz 1
  have xz2 := xz 2
  have xz3 := xz 3
  have xz4 := xz 4
  clear yz xz
  by_cases hu : tc[0] = 117
  · have u1 : (((tc[0]).toNat : Int) == 117) = true := by rw [hu]; rfl
    rw [if_pos hu] at hws
    have hw : Hid (whoS tc.data.toList = (4, NI)) := hws
    clear hws hu
    go_upto_region 12 with fail
    have HR7 : Hid (Rd3 (w6.setCell ⟨w1.heap.size, 1, none⟩ (.int .i64 4)) w.heap.size b w1.heap.size { acZ with al := AL, wh := 4, fl := FL, ma := MA } ta tb tc td) := HR6.out.set1 4
    have hW7 : Hid (Below w.heap.size w (w6.setCell ⟨w1.heap.size, 1, none⟩ (.int .i64 4))) := bl_setA hW6.out HWX.out
    clear yl y0 y1 y2 y3 y4 yz0 yz1 yz2 yz3 yz4 tl t0 t1 t2 t3 xl x0 x1 x2 x3 x4 xz0 xz1 xz2 xz3 xz4 n1 n2
    clear HR6 hW6
    generalize w6.setCell ⟨w1.heap.size, 1, none⟩ (.int .i64 4) = w7 at HR7 hW7 ⊢
    obtain ⟨⟨yl, ⟨y0, y1, y2, y3, y4⟩, yz⟩, ⟨tl, t0, t1, t2, t3⟩, ⟨xl, ⟨x0, x1, x2, x3, x4⟩, xz⟩, n1, n2⟩ := HR7.out
    simp only [Nat.zero_add, acZ] at y0 y1 y2 y3 y4 x0 x1 x2 x3 x4
    have yz0 := yz 0
    have yz1 := yz 1
    have yz2 := yz 2
    have yz3 := yz 3
    have yz4 := yz 4
    have xz0 := xz 0
    have xz1 := xz 1
    have xz2 := xz 2
    have xz3 := xz 3
    have xz4 := xz 4
    clear yz xz
    go_wp2_with (go_at_call 78; refine (HN.out _).mono ?_; rintro e w8 ⟨rfl, rfl⟩)
    refine bodyPost_ret (v := .agg #[.bool AL, .int .i64 4, .int .i64 NI, .int .i64 FL, .int .i64 MA]) (by simp [results, Tryz.results47, go_sem, y0, y1, y2, y3, y4]) rfl ⟨by rw [hw.out], ?_⟩
    repeat (refine bl_setA ?_ (by first | exact Nat.le_refl _ | exact HWX.out))
    exact hW7.out
  · have u1 : (((tc[0]).toNat : Int) == 117) = false := byte_ne (y := 117) hu
    rw [if_neg hu] at hws
    have hw : Hid (whoS tc.data.toList = (5, NI)) := hws
    clear hws hu
    go_wp2_with (go_at_call 78; refine (HN.out _).mono ?_; rintro e w8 ⟨rfl, rfl⟩)
    refine bodyPost_ret (v := .agg #[.bool AL, .int .i64 5, .int .i64 NI, .int .i64 FL, .int .i64 MA]) (by simp [results, Tryz.results47, go_sem, y0, y1, y2, y3, y4]) rfl ⟨by rw [hw.out], ?_⟩
    repeat (refine bl_setA ?_ (by first | exact Nat.le_refl _ | exact HWX.out))
    exact hW6.out
/-- spec.l05Read. -/
theorem sRead_any (s : ByteArray) (hs : s.size ≤ 100000000) (w : World) :
    Calls Tryz.prog 47 #[.string s] w fun e w' => e = .returned (.agg #[.bool (aceS s.data.toList).al, .int .i64 (aceS s.data.toList).wh, .int .i64 (aceS s.data.toList).id, .int .i64 (aceS s.data.toList).fl, .int .i64 (aceS s.data.toList).ma]) ∧ Below w.heap.size w w' := by
  by_cases h4 : (spl 58 s.data.toList).length = 4
  · match e : spl 58 s.data.toList, h4 with
    | [a, b, c, d], _ => exact sRead_four s ⟨a.toArray⟩ ⟨b.toArray⟩ ⟨c.toArray⟩ ⟨d.toArray⟩ hs (by rw [e]) w
  · rw [aceS_not h4]
    exact sRead_not s hs h4 w
end Go.Proofs.YtedahdncincgjaaGreatDoor
