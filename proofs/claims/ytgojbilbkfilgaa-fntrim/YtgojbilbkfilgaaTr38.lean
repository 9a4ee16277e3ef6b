/- Laid together: RmMath, Said, GiveDef. -/
import Derived.Test.YtgojbilbkfilgaaTr10
import Derived.Test.YtgojbilbkfilgaaTr29
/- A set without another one: plain mathematics. Nothing here names a program. -/
namespace Go.Proofs.Ytgojbilbkfilgaa
open Go.RowKit
set_option linter.unusedVariables false
/-- m without what s has. -/
def rmN (m s : Nat) : Nat := m &&& (m ^^^ s)
theorem rm_bit (m s i : Nat) : Nat.testBit (rmN m s) i = (Nat.testBit m i && !Nat.testBit s i) := by
  unfold rmN
  simp only [Nat.testBit_and, Nat.testBit_xor]
  cases Nat.testBit m i <;> cases Nat.testBit s i <;> rfl
theorem rm_le (m s : Nat) : rmN m s ≤ m := Nat.and_le_left
theorem rm_rm (m a b : Nat) : rmN (rmN m a) b = rmN m (a ||| b) := by
  apply Nat.eq_of_testBit_eq
  intro i
  simp only [rm_bit, Nat.testBit_or]
  cases Nat.testBit m i <;> cases Nat.testBit a i <;> cases Nat.testBit b i <;> rfl
theorem rm_zero (m : Nat) : rmN m 0 = m := by
  apply Nat.eq_of_testBit_eq
  intro i
  simp [rm_bit]
theorem and_half (a b : Nat) : (a &&& b) / 2 = (a / 2) &&& (b / 2) := by
  apply Nat.eq_of_testBit_eq
  intro i
  simp [Nat.testBit_div_two]
theorem rm_half (a b : Nat) : rmN a b / 2 = rmN (a / 2) (b / 2) := by
  apply Nat.eq_of_testBit_eq
  intro i
  simp [Nat.testBit_div_two, rm_bit]
theorem rm_mod (a b : Nat) : rmN a b % 2 = (a % 2) * (1 - b % 2) := by
  have h := rm_bit a b 0
  simp only [Nat.testBit_zero] at h
  rcases Nat.mod_two_eq_zero_or_one (rmN a b) with e | e <;> rcases Nat.mod_two_eq_zero_or_one a with e1 | e1 <;> rcases Nat.mod_two_eq_zero_or_one b with e2 | e2 <;> simp [e, e1, e2] at h ⊢
theorem rm_add : ∀ (n m s : Nat), m < 2 ^ n → (m &&& s) + rmN m s = m := by
  intro n
  induction n with
  | zero =>
    intro m s h
    have : m = 0 := by simpa using h
    subst this
    have := rm_le 0 s
    have h2 : 0 &&& s = 0 := by simp
    omega
  | succ n ih =>
    intro m s h
    have h1 := ih (m / 2) (s / 2) (by rw [Nat.pow_succ] at h; omega)
    have h2 := and_half m s
    have h3 := rm_half m s
    have h4 := and_two m s
    have h5 := rm_mod m s
    rw [← h2, ← h3] at h1
    rcases Nat.mod_two_eq_zero_or_one m with e1 | e1 <;> rcases Nat.mod_two_eq_zero_or_one s with e2 | e2 <;> rw [e1, e2] at h4 h5 <;> omega
theorem rm_sub {m s : Nat} (hm : m ≤ 65535) : m - (m &&& s) = rmN m s := by
  have := rm_add 16 m s (by omega)
  omega
theorem or_le {a b : Nat} (ha : a ≤ 255) (hb : b ≤ 255) : a ||| b ≤ 255 := by
  have := Nat.or_lt_two_pow (x := a) (y := b) (n := 8) (by omega) (by omega)
  omega
/-- What is put to a set that has none of it. -/
theorem or_rm (s m : Nat) (hm : m ≤ 65535) (hs : s ≤ 65535) : s ||| m = s + rmN m s := by
  have h := rm_add 17 (s ||| m) s (by have := Nat.or_lt_two_pow (x := s) (y := m) (n := 16) (by omega) (by omega); omega)
  have e1 : (s ||| m) &&& s = s := by
    apply Nat.eq_of_testBit_eq
    intro i
    simp only [Nat.testBit_and, Nat.testBit_or]
    cases Nat.testBit s i <;> cases Nat.testBit m i <;> rfl
  have e2 : rmN (s ||| m) s = rmN m s := by
    apply Nat.eq_of_testBit_eq
    intro i
    simp only [rm_bit, Nat.testBit_or]
    cases Nat.testBit s i <;> cases Nat.testBit m i <;> rfl
  omega
theorem andNot_nat (m s : Nat) (hm : m ≤ 65535) (hs : s ≤ 65535) : bits .andNot .i64 (m : Int) (s : Int) = ((rmN m s : Nat) : Int) := by
  have hx : rmN m s ≤ m := rm_le m s
  show IntKind.i64.wrap ((BitVec.ofInt 64 (m : Int) &&& ~~~BitVec.ofInt 64 (s : Int)).toNat : Int) = _
  rw [BitVec.toNat_and, BitVec.toNat_not, ofInt_u64 m (by omega), ofInt_u64 s (by omega), IntKind.wrap_i64]
  have e : m &&& (2 ^ 64 - 1 - s) = rmN m s := by
    apply Nat.eq_of_testBit_eq
    intro i
    have e2 : 2 ^ 64 - 1 - s = 2 ^ 64 - (s + 1) := by omega
    rw [Nat.testBit_and, e2, Nat.testBit_two_pow_sub_succ (by omega), rm_bit]
    by_cases hi : i < 64
    · simp [hi]
    · have : Nat.testBit m i = false := Nat.testBit_lt_two_pow (Nat.lt_of_lt_of_le (show m < 2 ^ 64 by omega) (Nat.pow_le_pow_right (by omega) (by omega)))
      simp [this]
  rw [e]
  omega
end Go.Proofs.Ytgojbilbkfilgaa
/- impl.ofAllLike, impl.saidAhead: what the aces ahead say of whom one is of. -/
namespace Go.Proofs.Ytgojbilbkfilgaa
open Go.RowKit Go.PlainAid Go.Shelf
set_option linter.unusedVariables false
attribute [local go_sem] Oper.semAt_some
/-- It is of everybody whom the one is of. -/
def likeB (one x : Ac) : Bool := decide (x.wh = 3) || (decide (x.wh = one.wh) && decide (x.id = one.id))
/-- What several say. -/
def saidI (l : List Ac) : Int := l.foldl (fun s x => bits .or .i64 s x.ma) 0
theorem saidI_snoc (l : List Ac) (x : Ac) : saidI (l ++ [x]) = bits .or .i64 (saidI l) x.ma := by simp [saidI]
set_option maxHeartbeats 1000000 in
theorem ofAllLike_any (x : Ac) (w : World) :
    Calls Try.prog 131 #[.agg #[.bool x.al, .int .i64 x.wh, .int .i64 x.id, .int .i64 x.fl, .int .i64 x.ma]] w fun e w' => e = .returned (.func (.func 141) #[] #[.pointer (some ⟨w.heap.size, 0, none⟩)]) ∧ w' = w.alloc (.cells #[.bool x.al, .int .i64 x.wh, .int .i64 x.id, .int .i64 x.fl, .int .i64 x.ma] 61) := by
  go_enter Try.func131, Try.ntmps131
  go_wp2
  go_ret
  exact ⟨rfl, rfl⟩
set_option maxHeartbeats 4000000 in
theorem ofAllLike1_any (x one : Ac) (C : Nat) (w : World) (hC : C < w.heap.size) (hF : Five w C 0 one) :
    Calls Try.prog 141 #[.agg #[.bool x.al, .int .i64 x.wh, .int .i64 x.id, .int .i64 x.fl, .int .i64 x.ma], .pointer (some ⟨C, 0, none⟩)] w fun e w' => e = .returned (.bool (likeB one x)) ∧ Below w.heap.size w w' := by
  obtain ⟨c0, c1, c2, c3, c4⟩ := hF.below hC (bel_alloc w (.cells #[.bool x.al, .int .i64 x.wh, .int .i64 x.id, .int .i64 x.fl, .int .i64 x.ma] 61))
  simp only [Nat.zero_add] at c1 c2 c3 c4
  have hB : Hid (Below w.heap.size w (w.alloc (.cells #[.bool x.al, .int .i64 x.wh, .int .i64 x.id, .int .i64 x.fl, .int .i64 x.ma] 61))) := bel_alloc _ _
  have hl0 : Hid (likeB one x = ((x.wh == 3) || ((x.wh == one.wh) && (x.id == one.id)))) := rfl
  cases h3 : (x.wh == 3)
  · cases h4 : (x.wh == one.wh)
    · have hr : Hid (likeB one x = false) := (by show _ = _; rw [hl0.out, h3, h4]; rfl)
      clear hl0
      go_enter Try.func141, Try.ntmps141
      go_wp2
      go_ret
      exact ⟨ret_boolW hr.out.symm, hB.out⟩
    · cases h5 : (x.id == one.id)
      · have hr : Hid (likeB one x = false) := (by show _ = _; rw [hl0.out, h3, h4, h5]; rfl)
        clear hl0
        go_enter Try.func141, Try.ntmps141
        go_wp2
        go_ret
        exact ⟨ret_boolW hr.out.symm, hB.out⟩
      · have hr : Hid (likeB one x = true) := (by show _ = _; rw [hl0.out, h3, h4, h5]; rfl)
        clear hl0
        go_enter Try.func141, Try.ntmps141
        go_wp2
        go_ret
        exact ⟨ret_boolW hr.out.symm, hB.out⟩
  · have hr : Hid (likeB one x = true) := (by show _ = _; rw [hl0.out, h3]; rfl)
    clear hl0
    go_enter Try.func141, Try.ntmps141
    go_wp2
    go_ret
    exact ⟨ret_boolW hr.out.symm, hB.out⟩
theorem cell_newA (w : World) (v : Value) (t : TypeId) : (w.alloc (.cells #[v] t)).cell? ⟨w.heap.size, 0, none⟩ = some v ∧ (w.alloc (.cells #[v] t)).frozen? ⟨w.heap.size, 0, none⟩ = false := by
  have hb : (w.alloc (.cells #[v] t)).heap[w.heap.size]? = some (.cells #[v] t) := by
    rw [World.alloc]
    exact Array.getElem?_push_size
  constructor
  · simp only [World.cell?, hb]; rfl
  · simp only [World.frozen?, hb]; simp
theorem five_kept {b o : Nat} {x : Ac} {W W' : World} {row : Option Nat} (h : Five W b o x) (hg : W.grownBy W' row) (hr : ∀ r, row = some r → ∃ o : Obj, W.heap[r]? = some o ∧ o.isCells = false) : Five W' b o x :=
  ⟨cell_kept h.c0 hg hr, cell_kept h.c1 hg hr, cell_kept h.c2 hg hr, cell_kept h.c3 hg hr, cell_kept h.c4 hg hr⟩
set_option maxRecDepth 100000 in
set_option maxHeartbeats 4000000 in
/-- impl.saidAhead. -/
theorem saidAhead_any (a : Option Addr) (len cap : Nat) (l : List Ac) (one : Ac) (hl : len ≤ 1000) (hfl : ∀ i, i < len → 0 ≤ (acAt l i).fl ∧ (acAt l i).fl ≤ 15) (w : World) (hA : Acs a len l w) :
    Calls Try.prog 105 #[.slice a len cap, .agg #[.bool one.al, .int .i64 one.wh, .int .i64 one.id, .int .i64 one.fl, .int .i64 one.ma]] w fun e w' => e = .returned (.int .i64 (saidI (fltP (likeB one) l len))) ∧ Below w.heap.size w w' := by
  refine (callsIn_wide (n := 6)).1 ?_
  refine callsIn_of_wp_marks Try.func105 rfl trivial ?_ rfl
  simp only [Try.ntmps105, List.size_toArray, List.length_cons, List.length_nil, Nat.reduceAdd, Nat.reduceSub, Array.replicate_succ, Array.replicate_zero, List.push_toArray, List.append_toArray, List.nil_append, List.cons_append]
  gi_wp2_with (first | (refine ⟨trivial, ?_⟩; gi_at_call 131; refine (callsIn_wide.2 (ofAllLike_any one _)).mono ?_; rintro e w1 ⟨rfl, rfl⟩) | (refine ⟨trivial, ?_⟩; gi_at_call 130; refine (callsIn_wide.2 (holding_any _ _ _ _ _ _)).mono ?_; rintro e w2 ⟨rfl, rfl⟩))
  have z1 : (w.alloc (.cells #[.bool one.al, .int .i64 one.wh, .int .i64 one.id, .int .i64 one.fl, .int .i64 one.ma] 61)).heap.size = w.heap.size + 1 := by simp
  have z2 : ((w.alloc (.cells #[.bool one.al, .int .i64 one.wh, .int .i64 one.id, .int .i64 one.fl, .int .i64 one.ma] 61)).alloc (.cells #[.int .i64 0] 2)).heap.size = w.heap.size + 1 + 1 := by simp
  have z3 : (((w.alloc (.cells #[.bool one.al, .int .i64 one.wh, .int .i64 one.id, .int .i64 one.fl, .int .i64 one.ma] 61)).alloc (.cells #[.int .i64 0] 2)).alloc (.cells #[.bool one.al, .int .i64 one.wh, .int .i64 one.id, .int .i64 one.fl, .int .i64 one.ma] 61)).heap.size = w.heap.size + 1 + 1 + 1 := by simp
  have z4 : ((((w.alloc (.cells #[.bool one.al, .int .i64 one.wh, .int .i64 one.id, .int .i64 one.fl, .int .i64 one.ma] 61)).alloc (.cells #[.int .i64 0] 2)).alloc (.cells #[.bool one.al, .int .i64 one.wh, .int .i64 one.id, .int .i64 one.fl, .int .i64 one.ma] 61)).alloc (.cells #[.slice a len cap] 49)).heap.size = w.heap.size + 1 + 1 + 1 + 1 := by simp
  have z5 : (((((w.alloc (.cells #[.bool one.al, .int .i64 one.wh, .int .i64 one.id, .int .i64 one.fl, .int .i64 one.ma] 61)).alloc (.cells #[.int .i64 0] 2)).alloc (.cells #[.bool one.al, .int .i64 one.wh, .int .i64 one.id, .int .i64 one.fl, .int .i64 one.ma] 61)).alloc (.cells #[.slice a len cap] 49)).alloc (.cells #[.func (.func 141) #[] #[.pointer (some ⟨w.heap.size + 1 + 1, 0, none⟩)]] 95)).heap.size = w.heap.size + 1 + 1 + 1 + 1 + 1 := by simp
  have b1 := bel_alloc w (.cells #[.bool one.al, .int .i64 one.wh, .int .i64 one.id, .int .i64 one.fl, .int .i64 one.ma] 61)
  have b2 := bel_alloc (w.alloc (.cells #[.bool one.al, .int .i64 one.wh, .int .i64 one.id, .int .i64 one.fl, .int .i64 one.ma] 61)) (.cells #[.int .i64 0] 2)
  have b3 := bel_alloc ((w.alloc (.cells #[.bool one.al, .int .i64 one.wh, .int .i64 one.id, .int .i64 one.fl, .int .i64 one.ma] 61)).alloc (.cells #[.int .i64 0] 2)) (.cells #[.bool one.al, .int .i64 one.wh, .int .i64 one.id, .int .i64 one.fl, .int .i64 one.ma] 61)
  have b4 := bel_alloc (((w.alloc (.cells #[.bool one.al, .int .i64 one.wh, .int .i64 one.id, .int .i64 one.fl, .int .i64 one.ma] 61)).alloc (.cells #[.int .i64 0] 2)).alloc (.cells #[.bool one.al, .int .i64 one.wh, .int .i64 one.id, .int .i64 one.fl, .int .i64 one.ma] 61)) (.cells #[.slice a len cap] 49)
  have b5 := bel_alloc ((((w.alloc (.cells #[.bool one.al, .int .i64 one.wh, .int .i64 one.id, .int .i64 one.fl, .int .i64 one.ma] 61)).alloc (.cells #[.int .i64 0] 2)).alloc (.cells #[.bool one.al, .int .i64 one.wh, .int .i64 one.id, .int .i64 one.fl, .int .i64 one.ma] 61)).alloc (.cells #[.slice a len cap] 49)) (.cells #[.func (.func 141) #[] #[.pointer (some ⟨w.heap.size + 1 + 1, 0, none⟩)]] 95)
  have hB0 : Below w.heap.size w (((((w.alloc (.cells #[.bool one.al, .int .i64 one.wh, .int .i64 one.id, .int .i64 one.fl, .int .i64 one.ma] 61)).alloc (.cells #[.int .i64 0] 2)).alloc (.cells #[.bool one.al, .int .i64 one.wh, .int .i64 one.id, .int .i64 one.fl, .int .i64 one.ma] 61)).alloc (.cells #[.slice a len cap] 49)).alloc (.cells #[.func (.func 141) #[] #[.pointer (some ⟨w.heap.size + 1 + 1, 0, none⟩)]] 95)) := Below.on (Below.on (Below.on (Below.on b1 b2) b3) b4) b5
  have b25 : Below ((w.alloc (.cells #[.bool one.al, .int .i64 one.wh, .int .i64 one.id, .int .i64 one.fl, .int .i64 one.ma] 61)).alloc (.cells #[.int .i64 0] 2)).heap.size ((w.alloc (.cells #[.bool one.al, .int .i64 one.wh, .int .i64 one.id, .int .i64 one.fl, .int .i64 one.ma] 61)).alloc (.cells #[.int .i64 0] 2)) (((((w.alloc (.cells #[.bool one.al, .int .i64 one.wh, .int .i64 one.id, .int .i64 one.fl, .int .i64 one.ma] 61)).alloc (.cells #[.int .i64 0] 2)).alloc (.cells #[.bool one.al, .int .i64 one.wh, .int .i64 one.id, .int .i64 one.fl, .int .i64 one.ma] 61)).alloc (.cells #[.slice a len cap] 49)).alloc (.cells #[.func (.func 141) #[] #[.pointer (some ⟨w.heap.size + 1 + 1, 0, none⟩)]] 95)) := Below.on (Below.on b3 b4) b5
  have hs := cell_newA (w.alloc (.cells #[.bool one.al, .int .i64 one.wh, .int .i64 one.id, .int .i64 one.fl, .int .i64 one.ma] 61)) (.int .i64 0) 2
  rw [z1] at hs
  have hs0 : (((((w.alloc (.cells #[.bool one.al, .int .i64 one.wh, .int .i64 one.id, .int .i64 one.fl, .int .i64 one.ma] 61)).alloc (.cells #[.int .i64 0] 2)).alloc (.cells #[.bool one.al, .int .i64 one.wh, .int .i64 one.id, .int .i64 one.fl, .int .i64 one.ma] 61)).alloc (.cells #[.slice a len cap] 49)).alloc (.cells #[.func (.func 141) #[] #[.pointer (some ⟨w.heap.size + 1 + 1, 0, none⟩)]] 95)).cell? ⟨w.heap.size + 1, 0, none⟩ = some (.int .i64 0) := (b25.cell (p := ⟨w.heap.size + 1, 0, none⟩) (by rw [z2]; show w.heap.size + 1 < _; omega)).trans hs.1
  have hs1 : (((((w.alloc (.cells #[.bool one.al, .int .i64 one.wh, .int .i64 one.id, .int .i64 one.fl, .int .i64 one.ma] 61)).alloc (.cells #[.int .i64 0] 2)).alloc (.cells #[.bool one.al, .int .i64 one.wh, .int .i64 one.id, .int .i64 one.fl, .int .i64 one.ma] 61)).alloc (.cells #[.slice a len cap] 49)).alloc (.cells #[.func (.func 141) #[] #[.pointer (some ⟨w.heap.size + 1 + 1, 0, none⟩)]] 95)).frozen? ⟨w.heap.size + 1, 0, none⟩ = false := (b25.frozen (p := ⟨w.heap.size + 1, 0, none⟩) (by rw [z2]; show w.heap.size + 1 < _; omega)).trans hs.2
  have hC0 := five_new ((w.alloc (.cells #[.bool one.al, .int .i64 one.wh, .int .i64 one.id, .int .i64 one.fl, .int .i64 one.ma] 61)).alloc (.cells #[.int .i64 0] 2)) one 61
  rw [z2] at hC0
  have hC := hC0.below (by rw [z3]; omega) (Below.on b4 b5)
  have hBl := cell_newA (((w.alloc (.cells #[.bool one.al, .int .i64 one.wh, .int .i64 one.id, .int .i64 one.fl, .int .i64 one.ma] 61)).alloc (.cells #[.int .i64 0] 2)).alloc (.cells #[.bool one.al, .int .i64 one.wh, .int .i64 one.id, .int .i64 one.fl, .int .i64 one.ma] 61)) (.slice a len cap) 49
  rw [z3] at hBl
  have hBl0 : (((((w.alloc (.cells #[.bool one.al, .int .i64 one.wh, .int .i64 one.id, .int .i64 one.fl, .int .i64 one.ma] 61)).alloc (.cells #[.int .i64 0] 2)).alloc (.cells #[.bool one.al, .int .i64 one.wh, .int .i64 one.id, .int .i64 one.fl, .int .i64 one.ma] 61)).alloc (.cells #[.slice a len cap] 49)).alloc (.cells #[.func (.func 141) #[] #[.pointer (some ⟨w.heap.size + 1 + 1, 0, none⟩)]] 95)).cell? ⟨w.heap.size + 1 + 1 + 1, 0, none⟩ = some (.slice a len cap) := (b5.cell (p := ⟨w.heap.size + 1 + 1 + 1, 0, none⟩) (by rw [z4]; show w.heap.size + 1 + 1 + 1 < _; omega)).trans hBl.1
  have hBf := cell_newA ((((w.alloc (.cells #[.bool one.al, .int .i64 one.wh, .int .i64 one.id, .int .i64 one.fl, .int .i64 one.ma] 61)).alloc (.cells #[.int .i64 0] 2)).alloc (.cells #[.bool one.al, .int .i64 one.wh, .int .i64 one.id, .int .i64 one.fl, .int .i64 one.ma] 61)).alloc (.cells #[.slice a len cap] 49)) (.func (.func 141) #[] #[.pointer (some ⟨w.heap.size + 1 + 1, 0, none⟩)]) 95
  rw [z4] at hBf
  generalize (((((w.alloc (.cells #[.bool one.al, .int .i64 one.wh, .int .i64 one.id, .int .i64 one.fl, .int .i64 one.ma] 61)).alloc (.cells #[.int .i64 0] 2)).alloc (.cells #[.bool one.al, .int .i64 one.wh, .int .i64 one.id, .int .i64 one.fl, .int .i64 one.ma] 61)).alloc (.cells #[.slice a len cap] 49)).alloc (.cells #[.func (.func 141) #[] #[.pointer (some ⟨w.heap.size + 1 + 1, 0, none⟩)]] 95)) = W0 at hB0 hs0 hs1 hC hBl0 hBf z5 ⊢
  clear b1 b2 b3 b4 b5 b25 hs hC0 hBl z1 z2 z3 z4
  refine wpIn_rangeFunc_ownH rfl (by omega) (gf := 139) (lb := #[.pointer (some ⟨w.heap.size + 1 + 1 + 1, 0, none⟩), .pointer (some ⟨w.heap.size + 1 + 1 + 1 + 1, 0, none⟩)]) rfl trivial (enters_of Try.func139 (by kernel_rfl) rfl)
    (holdL_stops 5 (by omega) (w.heap.size + 1 + 1 + 1) (w.heap.size + 1 + 1 + 1 + 1) w.heap.size (w.heap.size + 1 + 1) W0.heap.size (w.heap.size + 1 + 1) a len cap l (likeB one) hl W0 (hA.below hB0) (fun h A e => by obtain ⟨b, off, e2, hb, _⟩ := hA.2 h; rw [e2] at e; cases e; exact hb) (by omega) (by omega) hfl hB0.size (Nat.le_refl _)
      (fun x W' hK => ofAllLike1_any x one (w.heap.size + 1 + 1) W' (block_lt_of_cell (hK.five (by omega) (by omega) hC).c0) (hK.five (by omega) (by omega) hC)) hBl0 hBf.1)
    kpC_t (kpC_b hB0.size) (Below.refl _ _) (fun _ => rfl)
    (fun pre W => (W.cell? ⟨w.heap.size + 1, 0, none⟩ = some (.int .i64 (saidI pre)) ∧ W.frozen? ⟨w.heap.size + 1, 0, none⟩ = false) ∧ (Below w.heap.size w W ∧ W0.heap.size ≤ W.heap.size))
    (fun _ _ _ => False)
    (OwnFrom.and (Own.from (fun s A B row hs hg hr => ⟨cell_kept hs.1 hg hr, (frozen_kept hs.1 hg hr).trans hs.2⟩) _) (OwnFrom.and (ownFrom_below (Nat.le_refl _) hB0.size) (fun _ _ _ _ hs hg _ => Nat.le_trans hs hg.size)))
    (fun _ _ _ _ _ hs _ _ => hs)
    ⟨⟨hs0, hs1⟩, hB0, Nat.le_refl _⟩
    (fun x a' W => ∃ Bx, W0.heap.size ≤ Bx ∧ Five W Bx 0 x ∧ a' = { tmps := #[.slice a len cap, .agg #[.bool one.al, .int .i64 one.wh, .int .i64 one.id, .int .i64 one.fl, .int .i64 one.ma], undef, .pointer (some ⟨w.heap.size, 0, none⟩), .int .i64 0, .pointer (some ⟨w.heap.size + 1, 0, none⟩), .pointer (some ⟨Bx, 0, none⟩), .slice a len cap, .agg #[.bool one.al, .int .i64 one.wh, .int .i64 one.id, .int .i64 one.fl, .int .i64 one.ma], .func (.func 141) #[] #[.pointer (some ⟨w.heap.size + 1 + 1, 0, none⟩)], .func (.func 139) #[] #[.pointer (some ⟨w.heap.size + 1 + 1 + 1, 0, none⟩), .pointer (some ⟨w.heap.size + 1 + 1 + 1 + 1, 0, none⟩)], .agg #[.bool x.al, .int .i64 x.wh, .int .i64 x.id, .int .i64 x.fl, .int .i64 x.ma], undef, undef, undef, undef, undef], defers := [] })
    (fun x a' s A B row hs hg hr => by obtain ⟨Bx, h1, h2, h3⟩ := hs; exact ⟨Bx, h1, five_kept h2 hg (fun r e => (hr r e).2), h3⟩)
    ?assign ?body ?done ?stop
  case assign =>
    rintro lp pre x W K ⟨⟨hc, hf⟩, hB, hsz⟩ hK
    gi_wp2
    have hba := bel_alloc W (.cells #[.bool x.al, .int .i64 x.wh, .int .i64 x.id, .int .i64 x.fl, .int .i64 x.ma] 61)
    have hlt1 := block_lt_of_cell hc
    exact hK _ _ ((KeepsOthers.alloc _ _).from _) (kpC_grow hba hB.size hsz) ⟨⟨(hba.cell (p := ⟨w.heap.size + 1, 0, none⟩) hlt1).trans hc, (hba.frozen (p := ⟨w.heap.size + 1, 0, none⟩) hlt1).trans hf⟩, Below.on hB hba, Nat.le_trans hsz hba.size⟩ ⟨W.heap.size, hsz, five_new W x _, rfl⟩
  case body =>
    rintro lp pre x a' W hlp hr ⟨⟨hc, hf⟩, hB, hsz⟩ ⟨Bx, hBx, hF, rfl⟩ hlt
    obtain ⟨c0, c1, c2, c3, c4⟩ := hF
    simp only [Nat.zero_add] at c1 c2 c3 c4
    gi_wp2
    refine ⟨(KeepsOthers.setCell _ _ _).from _, ⟨bl_setA (Below.refl _ _) (by omega), fun c o v h1 h2 hv => ?_⟩, ⟨⟨?_, ?_⟩, bl_setA hB (by omega), by simpa using hsz⟩⟩
    · rw [World.cell?_setCell_other _ _ _ _ (by intro h; have h2 := congrArg Addr.block h; simp only at h2; omega)]
      exact hv
    · rw [saidI_snoc]
      exact World.cell?_setCell_same' _ _ _ (by rw [hc]; rfl)
    · rw [World.frozen?_setCell]
      exact hf
  case done =>
    rintro D ys W hD rfl ⟨⟨hc, hf⟩, hB, hsz⟩ hK
    gi_wp2
    refine ⟨by simp, .inl ⟨_, _, rfl, run_takeDeferred hK, ?_⟩⟩
    exact ⟨_, results_tmp rfl _ _ _, rfl, hB.trans (belowK_b (w := w) (Nat.le_refl _) W D _ _ (Nat.le_trans hB0.size hD) hK rfl rfl)⟩
  case stop =>
    rintro D c pre W _ _ h _
    exact h.elim
end Go.Proofs.Ytgojbilbkfilgaa
/- What aces give, one after another. -/
namespace Go.Proofs.Ytgojbilbkfilgaa
open Go.RowKit Go.PlainAid Go.Shelf
set_option linter.unusedVariables false
attribute [local go_sem] Oper.semAt_some
/-- What one more ace makes of what is allowed and what is said. -/
def giveS (q : Int × Int) (x : Ac) : Int × Int := (if x.al then bits .or .i64 q.1 (bits .andNot .i64 x.ma q.2) else q.1, bits .or .i64 q.2 x.ma)
/-- What several give, and say. -/
def giveI (l : List Ac) : Int × Int := l.foldl giveS (0, 0)
theorem giveI_snoc (l : List Ac) (x : Ac) : giveI (l ++ [x]) = giveS (giveI l) x := by simp [giveI]
theorem giveI_al {l : List Ac} {x : Ac} (h : x.al = true) : (giveI (l ++ [x])).1 = bits .or .i64 (giveI l).1 (bits .andNot .i64 x.ma (giveI l).2) := by rw [giveI_snoc, giveS, h]; rfl
theorem giveI_no {l : List Ac} {x : Ac} (h : x.al = false) : (giveI (l ++ [x])).1 = (giveI l).1 := by rw [giveI_snoc, giveS, h]; rfl
theorem giveI_said (l : List Ac) (x : Ac) : (giveI (l ++ [x])).2 = bits .or .i64 (giveI l).2 x.ma := by rw [giveI_snoc]; rfl
theorem cell_newG (w : World) (v : Value) (t : TypeId) : (w.alloc (.cells #[v] t)).cell? ⟨w.heap.size, 0, none⟩ = some v ∧ (w.alloc (.cells #[v] t)).frozen? ⟨w.heap.size, 0, none⟩ = false := by
  have hb : (w.alloc (.cells #[v] t)).heap[w.heap.size]? = some (.cells #[v] t) := by
    rw [World.alloc]
    exact Array.getElem?_push_size
  constructor
  · simp only [World.cell?, hb]; rfl
  · simp only [World.frozen?, hb]; simp
theorem five_keptG {b o : Nat} {x : Ac} {W W' : World} {row : Option Nat} (h : Five W b o x) (hg : W.grownBy W' row) (hr : ∀ r, row = some r → ∃ o : Obj, W.heap[r]? = some o ∧ o.isCells = false) : Five W' b o x :=
  ⟨cell_kept h.c0 hg hr, cell_kept h.c1 hg hr, cell_kept h.c2 hg hr, cell_kept h.c3 hg hr, cell_kept h.c4 hg hr⟩
end Go.Proofs.Ytgojbilbkfilgaa
