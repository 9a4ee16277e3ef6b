/- Laid together: Digs, Texts, JoinL. -/
import Derived.Test.YtgooanaacebncaaGreatDoorAT25
import Derived.Test.YtgooanaacebncaaGreatDoorAT26
import Derived.Test.YtgooanaacebncaaGreatDoorAT22
/- An id as digits by the program, five texts joined. -/
namespace Go.Proofs.YtgooanaacebncaaGreatDoor
open Go.RowKit Go.PlainAid
set_option linter.unusedVariables false
/-- The table of the powers of ten lies where it is laid. -/
def PowW (w : World) : Prop := Lib.TabIs Tryz.prog w "internal/strconv.uint64pow10" .u64 Lib.pow10Tab
theorem gPow : Tryz.prog.globalNamed "internal/strconv.uint64pow10" = some 1 := by kernel_rfl
theorem PowW.below {w w' : World} (h : PowW w) (hb : Below w.heap.size w w') : PowW w' := Go.Joins.var_stays gPow h hb (Nat.le_refl _)
theorem itoa_nat (n : Nat) : Lib.itoa (n : Int) = Lib.decDigits n := by
  have h : ¬ ((n : Int) < 0) := by omega
  rw [Lib.itoa, if_neg h, Int.toNat_natCast]
theorem below_grewD (w : World) (k : Nat) (os : Array Obj) : Below w.heap.size w (Go.Sort.grow (w.drewN k) os) := below_regrown w (w.drawn + k) os
set_option maxHeartbeats 1000000 in
/-- impl.digits of an id. -/
theorem iDigits_any (n : Nat) (h : n ≤ 9999) (w : World) (hp : PowW w) :
    Calls Tryz.prog 52 #[.int .i64 n] w fun e w' => e = .returned (.string (decT n)) ∧ Below w.heap.size w w' := by
  have hc : Hid (Calls Tryz.prog 73 #[.int .i64 (n : Int), .int .i64 10] w fun e w' => e = .returned (.string (decT n)) ∧ Below w.heap.size w w') := (by
    refine (Tryz.strconv_FormatInt_10 (n : Int) (by omega) (by omega) w hp).mono ?_
    rintro e w' ⟨rfl, k, os, rfl⟩
    exact ⟨by rw [itoa_nat]; rfl, below_grewD w k os⟩)
  clear hp
  go_enter Tryz.func52, Tryz.ntmps52
  go_wp2_with fail
  refine hc.out.mono ?_
  rintro e w1 ⟨rfl, hb⟩
  have HB : Hid (Below w.heap.size w w1) := hb
  clear hb hc
  go_wp2
  go_ret
  exact ⟨rfl, HB.out⟩
end Go.Proofs.YtgooanaacebncaaGreatDoor
/- Rows of texts that are owned; append of one text; the builtin append by what it runs to. -/
namespace Go.Proofs.YtgooanaacebncaaGreatDoor
open Go.RowKit Go.PlainAid Go.Deep
set_option linter.unusedVariables false
/-- The first k texts, a comma between each two. -/
def jl (f : Nat → ByteArray) : Nat → List UInt8
  | 0 => []
  | k + 1 => jl f k ++ (if k = 0 then [] else [44]) ++ (f k).data.toList
def jlT (f : Nat → ByteArray) (k : Nat) : ByteArray := ⟨(jl f k).toArray⟩
theorem jl_len {f : Nat → ByteArray} {n m : Nat} (h : ∀ i, i < n → (f i).size ≤ m) : ∀ k, k ≤ n → (jl f k).length ≤ (m + 1) * k := by
  intro k
  induction k with
  | zero => intro _; simp [jl]
  | succ k ih =>
    intro hk
    have h1 := ih (by omega)
    have h2 := h k (by omega)
    rw [Lib.size_eq] at h2
    have h3 : (if k = 0 then ([] : List UInt8) else [44]).length ≤ 1 := by split <;> simp
    have h4 : (m + 1) * (k + 1) = (m + 1) * k + (m + 1) := by rw [Nat.mul_add, Nat.mul_one]
    simp only [jl, List.length_append]
    omega
/-- The first k texts. -/
def txl (f : Nat → ByteArray) (k : Nat) : List ByteArray := (List.range k).map f
theorem txl_len (f : Nat → ByteArray) (k : Nat) : (txl f k).length = k := by simp [txl]
theorem txl_snoc (f : Nat → ByteArray) (k : Nat) : txl f (k + 1) = txl f k ++ [f k] := by simp [txl, List.range_succ]
theorem joinTail_snocL (sep : List UInt8) (r : List (List UInt8)) (y : List UInt8) : Lib.joinTail sep (r ++ [y]) = Lib.joinTail sep r ++ sep ++ y := by simp [Lib.joinTail]
theorem join_jl (f : Nat → ByteArray) (k : Nat) : Lib.join ((txl f k).map (·.data.toList)) [44] = jl f k := by
  induction k with
  | zero => rfl
  | succ k ih =>
    rw [txl_snoc, List.map_append]
    cases hx : (txl f k).map (·.data.toList) with
    | nil =>
      have hk : k = 0 := by
        have := congrArg List.length hx
        simpa [txl_len] using this
      subst hk
      simp [jl, Lib.join_one]
    | cons x r =>
      have hk : ¬ k = 0 := by
        intro e
        subst e
        simp [txl] at hx
      rw [hx, Lib.join_cons] at ih
      rw [List.cons_append, List.map_cons, List.map_nil, Lib.join_cons, joinTail_snocL, jl, if_neg hk, ← ih]
      simp
/-- strings.Join of the first n texts, by a comma. -/
theorem joinC_any (f : Nat → ByteArray) (n m : Nat) (hn : n ≤ 10000) (hm : ∀ i, i < n → (f i).size ≤ m) (hs : (m + 1) * n ≤ 1000000) (a : Option Addr) (c : Nat) (w : World) (hcap : n ≤ c)
    (hcells : 0 < n → ∃ b, a = some ⟨b, 0, none⟩ ∧ b < w.heap.size ∧ ∀ (j : Nat) x, (txl f n)[j]? = some x → w.cell? ⟨b, 0 + j, none⟩ = some (.string x)) :
    Calls Tryz.prog 23 #[.slice a n c, .string ⟨#[44]⟩] w fun e w' => e = .returned (.string (jlT f n)) ∧ Below w.heap.size w w' := by
  by_cases h0 : n = 0
  · subst h0
    refine (Tryz.strings_Join_none a c ⟨#[44]⟩ w).mono ?_
    rintro e w'' ⟨rfl, rfl⟩
    exact ⟨rfl, Below.refl _ _⟩
  · obtain ⟨b, rfl, hb, hc2⟩ := hcells (by omega)
    have hl := txl_len f n
    have hjj := join_jl f n
    have hjl : (jl f n).length ≤ 1000000 := by have := jl_len hm n (Nat.le_refl _); omega
    have hsep : (⟨#[44]⟩ : ByteArray).data.toList = [44] := rfl
    have h := Tryz.strings_Join b 0 c (txl f n) ⟨#[44]⟩ w hc2 hb (by omega) (by omega) (by rw [hsep, hjj]; omega)
    rw [hsep, hjj, hl] at h
    exact h
end Go.Proofs.YtgooanaacebncaaGreatDoor
