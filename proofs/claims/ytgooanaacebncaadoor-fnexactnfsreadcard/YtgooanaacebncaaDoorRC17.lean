/- Laid together: AceRdM, RdSg. -/
import Derived.Test.YtgooanaacebncaaDoorRC13
import Derived.Test.YtgooanaacebncaaDoorRC16
/- An ace read: what the two sides read of a text, and that it is told by just that text. -/
namespace Go.Proofs.YtgooanaacebncaaDoor
open Go.RowKit Go.PlainAid
set_option linter.unusedVariables false
/-- readSigns: the set, and the place in the text, behind k signs. -/
def rsTo (t S : List UInt8) : Nat → Nat × Nat
  | 0 => (0, 0)
  | k + 1 => if (rsTo t S k).2 < t.length ∧ t.getD (rsTo t S k).2 0 = S.getD k 0 then ((rsTo t S k).1 + 2 ^ k, (rsTo t S k).2 + 1) else rsTo t S k
theorem sgTo_low (s d : Nat) (S : List UInt8) (n : Nat) : ∀ k, k ≤ n → sgTo (s + 2 ^ n * d) S k = sgTo s S k := by
  intro k
  induction k with
  | zero => intro _; rfl
  | succ k ih =>
    intro hk
    have e : (s + 2 ^ n * d) / 2 ^ k % 2 = s / 2 ^ k % 2 := by
      have h1 : n = k + 1 + (n - k - 1) := by omega
      have h2 : 2 ^ n * d = 2 ^ k * (2 * (2 ^ (n - k - 1) * d)) := by
        rw [h1, Nat.pow_add, Nat.pow_succ]
        have : k + 1 + (n - k - 1) - k - 1 = n - k - 1 := by omega
        rw [this]
        simp only [Nat.mul_assoc]
      rw [h2, Nat.add_mul_div_left _ _ (Nat.two_pow_pos k), Nat.add_mul_mod_self_left]
    rw [sgTo, sgTo, ih (by omega), e]
theorem rs_inv (t S : List UInt8) : ∀ k, (rsTo t S k).1 < 2 ^ k ∧ (rsTo t S k).2 ≤ t.length ∧ (rsTo t S k).2 ≤ k ∧ sgTo (rsTo t S k).1 S k = t.take (rsTo t S k).2 := by
  intro k
  induction k with
  | zero => simp [rsTo, sgTo]
  | succ k ih =>
    obtain ⟨h1, h2, h3, h4⟩ := ih
    have hp : 2 ^ (k + 1) = 2 ^ k + 2 ^ k := by rw [Nat.pow_succ]; omega
    rw [rsTo]
    split
    next h =>
      obtain ⟨q1, q2⟩ := h
      refine ⟨by show (rsTo t S k).1 + 2 ^ k < 2 ^ (k + 1); omega, q1, by show (rsTo t S k).2 + 1 ≤ k + 1; omega, ?_⟩
      show sgTo ((rsTo t S k).1 + 2 ^ k) S (k + 1) = t.take ((rsTo t S k).2 + 1)
      have e1 : sgTo ((rsTo t S k).1 + 2 ^ k) S k = sgTo (rsTo t S k).1 S k := by
        have := sgTo_low (rsTo t S k).1 1 S k k (Nat.le_refl _)
        rwa [Nat.mul_one] at this
      have e2 : ((rsTo t S k).1 + 2 ^ k) / 2 ^ k % 2 = 1 := by
        rw [Nat.add_div_right _ (Nat.two_pow_pos k), Nat.div_eq_of_lt h1]
      rw [sgTo, if_pos e2, e1, h4, ← q2]
      have : t.getD (rsTo t S k).2 0 = t[(rsTo t S k).2] := by rw [List.getD, List.getElem?_eq_getElem q1]; rfl
      rw [this, List.take_append_getElem]
    · refine ⟨by omega, h2, by omega, ?_⟩
      rw [sgTo, h4, if_neg, List.append_nil]
      rw [Nat.div_eq_of_lt h1]
      decide
/-- readSigns. -/
def rsI (t S : List UInt8) : Option Nat := if (rsTo t S S.length).2 = t.length then some (rsTo t S S.length).1 else none
theorem rsI_some {t S : List UInt8} {s : Nat} (h : rsI t S = some s) : t = sgTo s S S.length := by
  unfold rsI at h
  split at h
  next e =>
    have := (rs_inv t S S.length).2.2.2
    rw [e, List.take_length] at this
    rw [← Option.some.inj h, this]
  · cases h
/-- l05Set: for each sign how often it comes in the first nine bytes. -/
def cntS (t : List UInt8) (x : UInt8) : Nat := (t.take 9).count x
def setTo (t S : List UInt8) : Nat → Nat
  | 0 => 0
  | k + 1 => setTo t S k + 2 ^ k * cntS t (S.getD k 0)
theorem signs4 : ∀ s, s < 16 → rsI (sgTo s fdni.data.toList 4) fdni.data.toList = some s ∧ setTo (sgTo s fdni.data.toList 4) fdni.data.toList 4 = s ∧ (58 : UInt8) ∉ sgTo s fdni.data.toList 4 := by decide +kernel
theorem signs8 : ∀ s, s < 256 → rsI (sgTo s rwxs.data.toList 8) rwxs.data.toList = some s ∧ setTo (sgTo s rwxs.data.toList 8) rwxs.data.toList 8 = s ∧ (58 : UInt8) ∉ sgTo s rwxs.data.toList 8 := by decide +kernel
def ownL : List UInt8 := [79, 87, 78, 69, 82, 64]
def grpL : List UInt8 := [71, 82, 79, 85, 80, 64]
def evyL : List UInt8 := [69, 86, 69, 82, 89, 79, 78, 69, 64]
/-- What the specification reads of the third piece. -/
def whoS (c : List UInt8) : Int × Int :=
  if c = ownL then (1, 0) else if c = grpL then (2, 0) else if c = evyL then (3, 0) else if c = [] then (0, 0) else (if c.headD 0 = 117 then 4 else 5, numI c.tail)
/-- What the program reads of it. -/
def whoI (c : List UInt8) : Option (Nat × Nat) :=
  if c = [] then none else if c = ownL then some (1, 0) else if c = grpL then some (2, 0) else if c = evyL then some (3, 0) else if c.headD 0 = 117 then (rdI c.tail).map (fun n => (4, n)) else if c.headD 0 = 103 then (rdI c.tail).map (fun n => (5, n)) else none
theorem whoT_l (wh id : Nat) : (whoT wh id).data.toList = if wh = 1 then ownL else if wh = 2 then grpL else if wh = 3 then evyL else if wh = 4 then 117 :: Lib.decDigits id else 103 :: Lib.decDigits id := by
  unfold whoT
  repeat' split
  all_goals first | rfl | simp [decT, ByteArray.data_append]
theorem whoI_some {c : List UInt8} {wh id : Nat} (h : whoI c = some (wh, id)) : c = (whoT wh id).data.toList := by
  unfold whoI at h
  rw [whoT_l]
  split at h
  · cases h
  next h0 =>
  split at h
  next e => simp at h; rw [← h.1]; simpa using e
  split at h
  next e => simp at h; rw [← h.1]; simpa using e
  split at h
  next e => simp at h; rw [← h.1]; simpa using e
  cases c with
  | nil => exact absurd rfl h0
  | cons x c =>
    change (if x = 117 then (rdI c).map (fun n => (4, n)) else if x = 103 then (rdI c).map (fun n => (5, n)) else none) = some (wh, id) at h
    by_cases e : x = 117
    · rw [if_pos e] at h
      rcases num_id c with ⟨_, q2, q3⟩ | ⟨_, q2⟩
      · rw [q2] at h
        simp at h
        rw [← h.1, ← h.2, q3, e]
        simp
      · rw [q2] at h; cases h
    · rw [if_neg e] at h
      by_cases e2 : x = 103
      · rw [if_pos e2] at h
        rcases num_id c with ⟨_, q2, q3⟩ | ⟨_, q2⟩
        · rw [q2] at h
          simp at h
          rw [← h.1, ← h.2, q3, e2]
          simp
        · rw [q2] at h; cases h
      · rw [if_neg e2] at h; cases h
theorem who_back {wh id : Nat} (h1 : 1 ≤ wh) (h5 : wh ≤ 5) (hid : id ≤ 9999) (h0 : wh < 4 → id = 0) : whoI (whoT wh id).data.toList = some (wh, id) ∧ whoS (whoT wh id).data.toList = ((wh : Int), (id : Int)) ∧ (58 : UInt8) ∉ (whoT wh id).data.toList := by
  rw [whoT_l]
  obtain ⟨r1, r2⟩ := dec_read hid
  have hn : (58 : UInt8) ∉ Lib.decDigits id := dec_no (by decide)
  rcases (by omega : wh = 1 ∨ wh = 2 ∨ wh = 3 ∨ wh = 4 ∨ wh = 5) with rfl | rfl | rfl | rfl | rfl
  · rw [h0 (by omega)]; exact ⟨by decide, by decide, by decide⟩
  · rw [h0 (by omega)]; exact ⟨by decide, by decide, by decide⟩
  · rw [h0 (by omega)]; exact ⟨by decide, by decide, by decide⟩
  · refine ⟨?_, ?_, ?_⟩
    · simp [whoI, ownL, grpL, evyL, r1]
    · simp [whoS, ownL, grpL, evyL, r2]
    · simpa using hn
  · refine ⟨?_, ?_, ?_⟩
    · simp [whoI, ownL, grpL, evyL, r1]
    · simp [whoS, ownL, grpL, evyL, r2]
    · simpa using hn
/-- What the specification reads of a text. -/
def aceS (t : List UInt8) : Ac :=
  match spl 58 t with
  | [a, b, c, d] => ⟨decide (a = [65]), (whoS c).1, (whoS c).2, (setTo b fdni.data.toList 4 : Nat), (setTo d rwxs.data.toList 8 : Nat)⟩
  | _ => acZ
/-- What the program reads of it. -/
def aceI (t : List UInt8) : Option Ac :=
  match spl 58 t with
  | [a, b, c, d] =>
    if a = [65] ∨ a = [68] then
      match rsI b fdni.data.toList, whoI c, rsI d rwxs.data.toList with
      | some f, some (wh, id), some m => if aceB ⟨decide (a = [65]), wh, id, f, m⟩ then some ⟨decide (a = [65]), wh, id, f, m⟩ else none
      | _, _, _ => none
    else none
  | _ => none
/-- The text of a right ace, in pieces. -/
theorem aceT_l {x : Ac} (h : aceB x = true) : (aceT x).data.toList = unspl 58 [(if x.al then [65] else [68]), sgTo x.fl.toNat fdni.data.toList 4, (whoT x.wh.toNat x.id.toNat).data.toList, sgTo x.ma.toNat rwxs.data.toList 8] := by
  have e1 : fdni.size = 4 := rfl
  have e2 : rwxs.size = 8 := rfl
  rw [aceT, if_pos h, aceTx]
  simp only [sgT, ByteArray.data_append, Array.toList_append, unspl, e1, e2]
  cases x.al <;> simp
theorem ace_back {x : Ac} (h : aceB x = true) : aceI (aceT x).data.toList = some x ∧ aceS (aceT x).data.toList = x ∧ aceT x ≠ ⟨#[]⟩ := by
  obtain ⟨⟨w1, w5⟩, ⟨i0, i9⟩, hz, ⟨⟨f0, f15⟩, hf⟩, m1, m255⟩ := aceB_iff.1 h
  obtain ⟨p1, p2, p3⟩ := signs4 x.fl.toNat (by omega)
  obtain ⟨q1, q2, q3⟩ := signs8 x.ma.toNat (by omega)
  obtain ⟨r1, r2, r3⟩ := who_back (wh := x.wh.toNat) (id := x.id.toNat) (by omega) (by omega) (by omega) (fun e => by have := hz (by omega); omega)
  have ha : (58 : UInt8) ∉ (if x.al then [65] else [68] : List UInt8) := by cases x.al <;> decide
  have hs : spl 58 (aceT x).data.toList = [(if x.al then [65] else [68]), sgTo x.fl.toNat fdni.data.toList 4, (whoT x.wh.toNat x.id.toNat).data.toList, sgTo x.ma.toNat rwxs.data.toList 8] := by
    rw [aceT_l h]
    simp only [unspl]
    rw [spl_first ha, spl_first p3, spl_first r3, spl_none q3]
  have hx : (⟨x.al, ((x.wh.toNat : Nat) : Int), ((x.id.toNat : Nat) : Int), ((x.fl.toNat : Nat) : Int), ((x.ma.toNat : Nat) : Int)⟩ : Ac) = x := by
    obtain ⟨al, wh, id, fl, ma⟩ := x
    simp only [Ac.mk.injEq, true_and]
    simp only at w1 i0 f0 m1
    omega
  have hal : decide ((if x.al then [65] else [68] : List UInt8) = [65]) = x.al := by cases x.al <;> decide
  have hor : (if x.al then [65] else [68] : List UInt8) = [65] ∨ (if x.al then [65] else [68] : List UInt8) = [68] := by cases x.al <;> simp
  refine ⟨?_, ?_, ?_⟩
  · simp only [aceI, hs, p1, q1, r1, if_pos hor, hal, hx, h, if_true]
  · simp only [aceS, hs, p2, q2, r2, hal, hx]
  · intro e
    rw [e] at hs
    simp [spl, splS] at hs
theorem unspl4 {t : List UInt8} {a b c d : List UInt8} (h : spl 58 t = [a, b, c, d]) : unspl 58 [a, b, c, d] = t := by rw [← h, unspl_spl]
/-- What the program takes is the text of what it reads. -/
theorem aceI_some {t : List UInt8} {x : Ac} (h : aceI t = some x) : aceB x = true ∧ t = (aceT x).data.toList := by
  unfold aceI at h
  split at h
  next a b c d hs =>
    split at h
    next ha =>
      split at h
      next f wh id m hf hw hm =>
        split at h
        next hb =>
          have hx := Option.some.inj h
          subst hx
          refine ⟨hb, ?_⟩
          rw [aceT_l hb, ← unspl4 hs]
          have e1 : (if decide (a = [65]) then [65] else [68] : List UInt8) = a := by
            rcases ha with rfl | rfl <;> decide
          simp only [Int.toNat_natCast, e1]
          rw [rsI_some hf, rsI_some hm, whoI_some hw]
          rfl
        · cases h
      · cases h
    · cases h
  · cases h
end Go.Proofs.YtgooanaacebncaaDoor
/- Signs read: spec.l05Set, impl.readSigns. -/
namespace Go.Proofs.YtgooanaacebncaaDoor
open Go.RowKit Go.PlainAid Go.Deep
set_option linter.unusedVariables false
theorem count_take {l : List UInt8} {j : Nat} (x : UInt8) (h : j < l.length) : (l.take (j + 1)).count x = (l.take j).count x + (if l[j] = x then 1 else 0) := by
  rw [← List.take_append_getElem h, List.count_append, List.count_singleton]
  by_cases e : l[j] = x <;> simp [e]
theorem cnt_end {l : List UInt8} {j : Nat} (x : UInt8) (h9 : j ≤ 9) (hl : j ≤ l.length) (he : ¬ (j < l.length ∧ j < 9)) : (l.take j).count x = cntS l x := by
  unfold cntS
  by_cases e : j = 9
  · rw [e]
  · have : j = l.length := by omega
    rw [this, List.take_length, List.take_of_length_le (by omega)]
theorem cnt_le (l : List UInt8) (j : Nat) (x : UInt8) : (l.take j).count x ≤ j := Nat.le_trans List.count_le_length (by simp; omega)
theorem setTo_le (t S : List UInt8) : ∀ k, setTo t S k ≤ 9 * 2 ^ k := by
  intro k
  induction k with
  | zero => simp [setTo]
  | succ k ih =>
    have h1 : cntS t (S.getD k 0) ≤ 9 := Nat.le_trans List.count_le_length (by simp; omega)
    have h2 : 2 ^ k * cntS t (S.getD k 0) ≤ 2 ^ k * 9 := Nat.mul_le_mul_left _ h1
    have h3 : 2 ^ (k + 1) = 2 ^ k + 2 ^ k := by rw [Nat.pow_succ]; omega
    simp only [setTo]
    omega
theorem byte_getD {S : ByteArray} {k : Nat} (h : k < S.size) : S.data.toList.getD k 0 = S[k] := by
  have hl : k < S.data.toList.length := by rw [← Lib.size_eq]; exact h
  rw [List.getD, List.getElem?_eq_getElem hl]
  rfl
theorem byte_ne {x y : UInt8} (h : ¬ x = y) : ((x.toNat : Int) == (y.toNat : Int)) = false := by
  cases e : ((x.toNat : Int) == (y.toNat : Int))
  · rfl
  · exact absurd (UInt8.toNat_inj.1 (by have := beq_iff_eq.1 e; omega)) h
theorem byte_eq {x y : UInt8} (h : x = y) : ((x.toNat : Int) == (y.toNat : Int)) = true := by rw [h]; simp
set_option maxRecDepth 100000 in
set_option maxHeartbeats 4000000 in
/-- spec.l05Set. -/
theorem sSet_any (t S : ByteArray) (ht : t.size ≤ 100000000) (hS : S.size ≤ 8) (w : World) :
    Calls Tryd.prog 97 #[.string t, .string S] w fun e w' => e = .returned (.int .i64 (setTo t.data.toList S.data.toList S.size : Nat)) ∧ Below w.heap.size w w' := by
  have HL : Hid (t.data.toList.length = t.size) := (Lib.size_eq t).symm
  go_enter Tryd.func97, Tryd.ntmps97
  go_wp2
  go_loopw [5, 6, 7] (fun n p i wr => ∃ k : Nat, k ≤ S.size ∧ n = .int .i64 (setTo t.data.toList S.data.toList k : Nat) ∧ p = .int .i64 (2 ^ k : Nat) ∧ i = .int .i64 k ∧ Hid (Below w.heap.size w wr)) (fun _ _ i _ => S.size - (intOf i).toNat)
  case atStart => exact ⟨0, Nat.zero_le _, rfl, rfl, rfl, Below.refl _ _⟩
  case round =>
    obtain ⟨k, hk, rfl, rfl, rfl, hB⟩ := hrel
    have hp8 : 2 ^ k ≤ 256 := by
      have := Nat.pow_le_pow_right (n := 2) (by decide) (show k ≤ 8 by omega)
      simpa using this
    have hs9 := setTo_le t.data.toList S.data.toList k
    by_cases hlt : k < S.size
    · have hlt' : (k : Int) < (S.size : Int) := by omega
      have HX : Hid (∀ j, (hj : j < t.size) → (t.data.toList.take (j + 1)).count S[k] = (t.data.toList.take j).count S[k] + (if t[j] = S[k] then 1 else 0)) := (fun j hj => count_take S[k] (by rw [HL.out]; exact hj))
      have HC : Hid (∀ j, (t.data.toList.take j).count S[k] ≤ j) := (fun j => cnt_le _ j _)
      have HE : Hid (∀ j, j ≤ 9 → j ≤ t.size → ¬ (j < t.size ∧ j < 9) → setTo t.data.toList S.data.toList (k + 1) = setTo t.data.toList S.data.toList k + 2 ^ k * (t.data.toList.take j).count S[k]) := (fun j h9 hj he => by
        rw [setTo, byte_getD hlt, cnt_end S[k] h9 (by rw [HL.out]; exact hj) (by rw [HL.out]; exact he)])
      have HP : Hid (2 ^ (k + 1) = 2 * 2 ^ k) := (by show _ = _; rw [Nat.pow_succ]; omega)
      generalize hP : 2 ^ k = P at hp8 hs9 HE HP
      generalize hSK : setTo t.data.toList S.data.toList k = Z at hs9 HE
      have HPP : Hid (2 ^ k = P) := hP
      have HSK : Hid (setTo t.data.toList S.data.toList k = Z) := hSK
      clear hP hSK
      go_wp2
      go_loopw [5, 8] (fun n jj wr => ∃ j : Nat, j ≤ 9 ∧ j ≤ t.size ∧ n = .int .i64 (Z + P * (t.data.toList.take j).count S[k] : Nat) ∧ jj = .int .i64 j ∧ Hid (Below w.heap.size w wr)) (fun _ jj _ => 9 - (intOf jj).toNat)
      case atStart => exact ⟨0, by omega, Nat.zero_le _, by simp, rfl, hB⟩
      case round =>
        obtain ⟨j, h9, hj, rfl, rfl, hB1⟩ := hrel
        have hcj := HC.out j
        have hmul : P * (t.data.toList.take j).count S[k] ≤ 256 * 9 := Nat.mul_le_mul hp8 (by omega)
        by_cases hj1 : j < t.size
        · have hj1' : (j : Int) < (t.size : Int) := by omega
          by_cases hj9 : j < 9
          · have hj9' : (j : Int) < 9 := by omega
            have hst := HX.out j hj1
            by_cases hx : t[j] = S[k]
            · rw [if_pos hx] at hst
              have heq := byte_eq hx
              have HST : Hid (P * (t.data.toList.take (j + 1)).count S[k] = P * (t.data.toList.take j).count S[k] + P) := (by show _ = _; rw [hst, Nat.mul_add, Nat.mul_one])
              clear hst hx
              generalize P * (t.data.toList.take j).count S[k] = Q at hmul HST
              go_wp2_with fail
              refine wp_region_quiet_below (by kernel_rfl) (by kernel_rfl) ?_
              repeat (go_big_quiet_step (fail))
              refine wpQuiet_nil ?_
              intro _ hw'
              obtain ⟨⟨dq, osq⟩, hw''⟩ := hw'
              subst hw''
              have hB2 : Hid (Below w.heap.size w (Go.Sort.grow (redrawn wr dq) osq)) := Below.on hB1.out (below_regrown wr dq osq)
              generalize Go.Sort.grow (redrawn wr dq) osq = w2 at hB2 ⊢
              go_wp2
              go_roundw
              case rel => exact ⟨j + 1, by omega, by omega, by rw [HST.out]; go_num, by go_num, hB2⟩
              case measure => simp [intOf]; omega
            · rw [if_neg hx] at hst
              have heq := byte_ne hx
              have HST : Hid (P * (t.data.toList.take (j + 1)).count S[k] = P * (t.data.toList.take j).count S[k]) := (by show _ = _; rw [hst, Nat.add_zero])
              clear hst hx
              generalize P * (t.data.toList.take j).count S[k] = Q at hmul HST
              go_wp2_with fail
              refine wp_region_quiet_below (by kernel_rfl) (by kernel_rfl) ?_
              repeat (go_big_quiet_step (fail))
              refine wpQuiet_nil ?_
              intro _ hw'
              obtain ⟨⟨dq, osq⟩, hw''⟩ := hw'
              subst hw''
              have hB2 : Hid (Below w.heap.size w (Go.Sort.grow (redrawn wr dq) osq)) := Below.on hB1.out (below_regrown wr dq osq)
              generalize Go.Sort.grow (redrawn wr dq) osq = w2 at hB2 ⊢
              go_wp2
              go_roundw
              case rel => exact ⟨j + 1, by omega, by omega, by rw [HST.out], by go_num, hB2⟩
              case measure => simp [intOf]; omega
          · have hj9' : ¬ (j : Int) < 9 := by omega
            have hend : Hid (setTo t.data.toList S.data.toList (k + 1) = Z + P * (t.data.toList.take j).count S[k]) := HE.out j h9 hj (fun h => hj9 h.2)
            generalize P * (t.data.toList.take j).count S[k] = Q at hmul hend
            go_wp2
            go_roundw
            case rel => exact ⟨k + 1, by omega, by rw [hend.out], by rw [HP.out]; go_num, by go_num, hB1⟩
            case measure => simp [intOf]; omega
        · have hj1' : ¬ (j : Int) < (t.size : Int) := by omega
          have hend : Hid (setTo t.data.toList S.data.toList (k + 1) = Z + P * (t.data.toList.take j).count S[k]) := HE.out j h9 hj (fun h => hj1 h.1)
          generalize P * (t.data.toList.take j).count S[k] = Q at hmul hend
          go_wp2
          go_roundw
          case rel => exact ⟨k + 1, by omega, by rw [hend.out], by rw [HP.out]; go_num, by go_num, hB1⟩
          case measure => simp [intOf]; omega
    · have : k = S.size := by omega
      subst this
      go_wp2
      go_ret
      exact ⟨rfl, hB.out⟩
theorem or_bit (k s p : Nat) (hp : 2 ^ k = p) (h8 : p ≤ 256) (h : s < 2 ^ k) : bits .or .i64 (s : Int) (p : Int) = ((s + p : Nat) : Int) := by
  subst hp
  have e := Nat.two_pow_add_eq_or_of_lt h 1
  rw [Nat.mul_one] at e
  rw [i64_or_nat s (2 ^ k) (by omega) (by omega), Nat.or_comm, ← e, Nat.add_comm]
set_option maxRecDepth 100000 in
set_option maxHeartbeats 4000000 in
/-- impl.readSigns. -/
theorem iRdSg_any (t S : ByteArray) (hS : S.size ≤ 8) (w : World) :
    Calls Tryd.prog 100 #[.string t, .string S] w fun e w' => e = .returned (.tuple #[.int .i64 ((rsTo t.data.toList S.data.toList S.size).1 : Nat), .bool (decide ((rsTo t.data.toList S.data.toList S.size).2 = t.size))]) ∧ Below w.heap.size w w' := by
  have HL : Hid (t.data.toList.length = t.size) := (Lib.size_eq t).symm
  go_enter Tryd.func100, Tryd.ntmps100
  go_wp2
  go_loopw [6, 7, 11] (fun n a i wr => ∃ k : Nat, k ≤ S.size ∧ i = .int .i64 k ∧ n = .int .i64 ((rsTo t.data.toList S.data.toList k).1 : Nat) ∧ a = .int .i64 ((rsTo t.data.toList S.data.toList k).2 : Nat) ∧ Hid (Below w.heap.size w wr)) (fun _ _ i _ => S.size - (intOf i).toNat)
  case atStart => exact ⟨0, Nat.zero_le _, rfl, rfl, rfl, Below.refl _ _⟩
  case round =>
    obtain ⟨k, hk, rfl, rfl, rfl, hB⟩ := hrel
    obtain ⟨i1, i2, i3, _⟩ := rs_inv t.data.toList S.data.toList k
    rw [HL.out] at i2
    by_cases hlt : k < S.size
    · have hlt' : (k : Int) < (S.size : Int) := by omega
      have hg := byte_getD hlt
      have HR : Hid (rsTo t.data.toList S.data.toList (k + 1) = if (rsTo t.data.toList S.data.toList k).2 < t.size ∧ t.data.toList.getD (rsTo t.data.toList S.data.toList k).2 0 = S[k] then ((rsTo t.data.toList S.data.toList k).1 + 2 ^ k, (rsTo t.data.toList S.data.toList k).2 + 1) else rsTo t.data.toList S.data.toList k) := (by
        show _ = _
        rw [rsTo, hg, HL.out])
      by_cases ha : (rsTo t.data.toList S.data.toList k).2 < t.size
      · have hga := byte_getD ha
        rw [hga] at HR
        by_cases hx : t[(rsTo t.data.toList S.data.toList k).2] = S[k]
        · have HN : Hid (rsTo t.data.toList S.data.toList (k + 1) = ((rsTo t.data.toList S.data.toList k).1 + 2 ^ k, (rsTo t.data.toList S.data.toList k).2 + 1)) := (by show _ = _; rw [HR.out, if_pos ⟨ha, hx⟩])
          have heq := byte_eq hx
          clear HR hga hx hg
          have hav : ((rsTo t.data.toList S.data.toList k).2 : Int) < (t.size : Int) := by omega
          generalize (rsTo t.data.toList S.data.toList k).1 = sv at i1 HN
          generalize (rsTo t.data.toList S.data.toList k).2 = av at i2 i3 HN ha heq hav
          have h8 : k < 8 := by omega
          rcases (by omega : k = 0 ∨ k = 1 ∨ k = 2 ∨ k = 3 ∨ k = 4 ∨ k = 5 ∨ k = 6 ∨ k = 7) with rfl | rfl | rfl | rfl | rfl | rfl | rfl | rfl
          · have hor := or_bit 0 sv 1 rfl (by decide) i1
            have hor2 : bits .or .i64 (sv : Int) 1 = (sv : Int) + 1 := by simpa using hor
            have hsv : sv < 1 := i1
            clear hor i1 h8
            go_wp2_with fail
            refine wp_region_quiet_below (by kernel_rfl) (by kernel_rfl) ?_
            repeat (go_big_quiet_step (fail))
            refine wpQuiet_nil ?_
            intro _ hw'
            obtain ⟨⟨dq, osq⟩, hw''⟩ := hw'
            subst hw''
            have hB2 : Hid (Below w.heap.size w (Go.Sort.grow (redrawn wr dq) osq)) := Below.on hB.out (below_regrown wr dq osq)
            generalize Go.Sort.grow (redrawn wr dq) osq = w2 at hB2 ⊢
            go_wp2
            go_roundw
            case rel => exact ⟨1, by omega, by go_num, by rw [HN.out]; simp, by rw [HN.out]; simp, hB2⟩
            case measure => simp [intOf]; omega
          · have hor := or_bit 1 sv 2 rfl (by decide) i1
            have hor2 : bits .or .i64 (sv : Int) 2 = (sv : Int) + 2 := by simpa using hor
            have hsv : sv < 2 := i1
            clear hor i1 h8
            go_wp2_with fail
            refine wp_region_quiet_below (by kernel_rfl) (by kernel_rfl) ?_
            repeat (go_big_quiet_step (fail))
            refine wpQuiet_nil ?_
            intro _ hw'
            obtain ⟨⟨dq, osq⟩, hw''⟩ := hw'
            subst hw''
            have hB2 : Hid (Below w.heap.size w (Go.Sort.grow (redrawn wr dq) osq)) := Below.on hB.out (below_regrown wr dq osq)
            generalize Go.Sort.grow (redrawn wr dq) osq = w2 at hB2 ⊢
            go_wp2
            go_roundw
            case rel => exact ⟨2, by omega, by go_num, by rw [HN.out]; simp, by rw [HN.out]; simp, hB2⟩
            case measure => simp [intOf]; omega
          · have hor := or_bit 2 sv 4 rfl (by decide) i1
            have hor2 : bits .or .i64 (sv : Int) 4 = (sv : Int) + 4 := by simpa using hor
            have hsv : sv < 4 := i1
            clear hor i1 h8
            go_wp2_with fail
            refine wp_region_quiet_below (by kernel_rfl) (by kernel_rfl) ?_
            repeat (go_big_quiet_step (fail))
            refine wpQuiet_nil ?_
            intro _ hw'
            obtain ⟨⟨dq, osq⟩, hw''⟩ := hw'
            subst hw''
            have hB2 : Hid (Below w.heap.size w (Go.Sort.grow (redrawn wr dq) osq)) := Below.on hB.out (below_regrown wr dq osq)
            generalize Go.Sort.grow (redrawn wr dq) osq = w2 at hB2 ⊢
            go_wp2
            go_roundw
            case rel => exact ⟨3, by omega, by go_num, by rw [HN.out]; simp, by rw [HN.out]; simp, hB2⟩
            case measure => simp [intOf]; omega
          · have hor := or_bit 3 sv 8 rfl (by decide) i1
            have hor2 : bits .or .i64 (sv : Int) 8 = (sv : Int) + 8 := by simpa using hor
            have hsv : sv < 8 := i1
            clear hor i1 h8
            go_wp2_with fail
            refine wp_region_quiet_below (by kernel_rfl) (by kernel_rfl) ?_
            repeat (go_big_quiet_step (fail))
            refine wpQuiet_nil ?_
            intro _ hw'
            obtain ⟨⟨dq, osq⟩, hw''⟩ := hw'
            subst hw''
            have hB2 : Hid (Below w.heap.size w (Go.Sort.grow (redrawn wr dq) osq)) := Below.on hB.out (below_regrown wr dq osq)
            generalize Go.Sort.grow (redrawn wr dq) osq = w2 at hB2 ⊢
            go_wp2
            go_roundw
            case rel => exact ⟨4, by omega, by go_num, by rw [HN.out]; simp, by rw [HN.out]; simp, hB2⟩
            case measure => simp [intOf]; omega
          · have hor := or_bit 4 sv 16 rfl (by decide) i1
            have hor2 : bits .or .i64 (sv : Int) 16 = (sv : Int) + 16 := by simpa using hor
            have hsv : sv < 16 := i1
            clear hor i1 h8
            go_wp2_with fail
            refine wp_region_quiet_below (by kernel_rfl) (by kernel_rfl) ?_
            repeat (go_big_quiet_step (fail))
            refine wpQuiet_nil ?_
            intro _ hw'
            obtain ⟨⟨dq, osq⟩, hw''⟩ := hw'
            subst hw''
            have hB2 : Hid (Below w.heap.size w (Go.Sort.grow (redrawn wr dq) osq)) := Below.on hB.out (below_regrown wr dq osq)
            generalize Go.Sort.grow (redrawn wr dq) osq = w2 at hB2 ⊢
            go_wp2
            go_roundw
            case rel => exact ⟨5, by omega, by go_num, by rw [HN.out]; simp, by rw [HN.out]; simp, hB2⟩
            case measure => simp [intOf]; omega
          · have hor := or_bit 5 sv 32 rfl (by decide) i1
            have hor2 : bits .or .i64 (sv : Int) 32 = (sv : Int) + 32 := by simpa using hor
            have hsv : sv < 32 := i1
            clear hor i1 h8
            go_wp2_with fail
            refine wp_region_quiet_below (by kernel_rfl) (by kernel_rfl) ?_
            repeat (go_big_quiet_step (fail))
            refine wpQuiet_nil ?_
            intro _ hw'
            obtain ⟨⟨dq, osq⟩, hw''⟩ := hw'
            subst hw''
            have hB2 : Hid (Below w.heap.size w (Go.Sort.grow (redrawn wr dq) osq)) := Below.on hB.out (below_regrown wr dq osq)
            generalize Go.Sort.grow (redrawn wr dq) osq = w2 at hB2 ⊢
            go_wp2
            go_roundw
            case rel => exact ⟨6, by omega, by go_num, by rw [HN.out]; simp, by rw [HN.out]; simp, hB2⟩
            case measure => simp [intOf]; omega
          · have hor := or_bit 6 sv 64 rfl (by decide) i1
            have hor2 : bits .or .i64 (sv : Int) 64 = (sv : Int) + 64 := by simpa using hor
            have hsv : sv < 64 := i1
            clear hor i1 h8
            go_wp2_with fail
            refine wp_region_quiet_below (by kernel_rfl) (by kernel_rfl) ?_
            repeat (go_big_quiet_step (fail))
            refine wpQuiet_nil ?_
            intro _ hw'
            obtain ⟨⟨dq, osq⟩, hw''⟩ := hw'
            subst hw''
            have hB2 : Hid (Below w.heap.size w (Go.Sort.grow (redrawn wr dq) osq)) := Below.on hB.out (below_regrown wr dq osq)
            generalize Go.Sort.grow (redrawn wr dq) osq = w2 at hB2 ⊢
            go_wp2
            go_roundw
            case rel => exact ⟨7, by omega, by go_num, by rw [HN.out]; simp, by rw [HN.out]; simp, hB2⟩
            case measure => simp [intOf]; omega
          · have hor := or_bit 7 sv 128 rfl (by decide) i1
            have hor2 : bits .or .i64 (sv : Int) 128 = (sv : Int) + 128 := by simpa using hor
            have hsv : sv < 128 := i1
            clear hor i1 h8
            go_wp2_with fail
            refine wp_region_quiet_below (by kernel_rfl) (by kernel_rfl) ?_
            repeat (go_big_quiet_step (fail))
            refine wpQuiet_nil ?_
            intro _ hw'
            obtain ⟨⟨dq, osq⟩, hw''⟩ := hw'
            subst hw''
            have hB2 : Hid (Below w.heap.size w (Go.Sort.grow (redrawn wr dq) osq)) := Below.on hB.out (below_regrown wr dq osq)
            generalize Go.Sort.grow (redrawn wr dq) osq = w2 at hB2 ⊢
            go_wp2
            go_roundw
            case rel => exact ⟨8, by omega, by go_num, by rw [HN.out]; simp, by rw [HN.out]; simp, hB2⟩
            case measure => simp [intOf]; omega
        · have HN : Hid (rsTo t.data.toList S.data.toList (k + 1) = rsTo t.data.toList S.data.toList k) := (by show _ = _; rw [HR.out, if_neg (fun h => hx h.2)])
          have heq := byte_ne hx
          have hav : ((rsTo t.data.toList S.data.toList k).2 : Int) < (t.size : Int) := by omega
          clear HR hga hx hg
          go_wp2_with fail
          refine wp_region_quiet_below (by kernel_rfl) (by kernel_rfl) ?_
          repeat (go_big_quiet_step (fail))
          refine wpQuiet_nil ?_
          intro _ hw'
          obtain ⟨⟨dq, osq⟩, hw''⟩ := hw'
          subst hw''
          have hB2 : Hid (Below w.heap.size w (Go.Sort.grow (redrawn wr dq) osq)) := Below.on hB.out (below_regrown wr dq osq)
          generalize Go.Sort.grow (redrawn wr dq) osq = w2 at hB2 ⊢
          go_wp2
          go_roundw
          case rel => exact ⟨k + 1, by omega, by go_num, by rw [HN.out], by rw [HN.out], hB2⟩
          case measure => simp [intOf]; omega
      · have HN : Hid (rsTo t.data.toList S.data.toList (k + 1) = rsTo t.data.toList S.data.toList k) := (by show _ = _; rw [HR.out, if_neg (fun h => ha h.1)])
        have hav : ¬ ((rsTo t.data.toList S.data.toList k).2 : Int) < (t.size : Int) := by omega
        clear HR hg
        go_wp2_with fail
        refine wp_region_quiet_below (by kernel_rfl) (by kernel_rfl) ?_
        repeat (go_big_quiet_step (fail))
        refine wpQuiet_nil ?_
        intro _ hw'
        obtain ⟨⟨dq, osq⟩, hw''⟩ := hw'
        subst hw''
        have hB2 : Hid (Below w.heap.size w (Go.Sort.grow (redrawn wr dq) osq)) := Below.on hB.out (below_regrown wr dq osq)
        generalize Go.Sort.grow (redrawn wr dq) osq = w2 at hB2 ⊢
        go_wp2
        go_roundw
        case rel => exact ⟨k + 1, by omega, by go_num, by rw [HN.out], by rw [HN.out], hB2⟩
        case measure => simp [intOf]; omega
    · have : k = S.size := by omega
      subst this
      have hdec : (((rsTo t.data.toList S.data.toList S.size).2 : Int) == (t.size : Int)) = decide ((rsTo t.data.toList S.data.toList S.size).2 = t.size) := by
        by_cases e : (rsTo t.data.toList S.data.toList S.size).2 = t.size
        · rw [e]; simp
        · rw [decide_eq_false e]
          rw [beq_eq_false_iff_ne]
          omega
      have HD : Hid _ := hdec
      clear hdec
      go_wp2
      go_ret2
      exact ⟨by rw [← HD.out]; rfl, hB.out⟩
end Go.Proofs.YtgooanaacebncaaDoor
