/- Who asks, as text: the digits of ids, joined. -/
import Derived.Test.YtlngfaplimpilaaDoorDigs
import Derived.Test.YtlngfaplimpilaaDoorGroups
import Derived.Test.YtlngfaplimpilaaDoorBox7
namespace Go.Proofs.YtlngfaplimpilaaDoor
open Go.RowKit Go.PlainAid
set_option linter.unusedVariables false
/-- The first k ids, a comma between each two. -/
def jn (f : Nat → Int) : Nat → List UInt8
  | 0 => []
  | k + 1 => jn f k ++ (if k = 0 then [] else [44]) ++ Lib.decDigits (f k).toNat
def jnT (f : Nat → Int) (k : Nat) : ByteArray := ⟨(jn f k).toArray⟩
theorem jn_len {f : Nat → Int} {n : Nat} (h : ∀ i, i < n → 0 ≤ f i ∧ f i ≤ 9999) : ∀ k, k ≤ n → (jn f k).length ≤ 5 * k := by
  intro k
  induction k with
  | zero => intro _; simp [jn]
  | succ k ih =>
    intro hk
    have h1 := ih (by omega)
    have h2 := (dec_len (n := (f k).toNat) (by have := h k (by omega); omega)).2
    have h3 : (if k = 0 then ([] : List UInt8) else [44]).length ≤ 1 := by split <;> simp
    simp only [jn, List.length_append]
    omega
theorem jnT_size {f : Nat → Int} {n : Nat} (h : ∀ i, i < n → 0 ≤ f i ∧ f i ≤ 9999) {k : Nat} (hk : k ≤ n) : (jnT f k).size ≤ 5 * k := by
  have := jn_len h k hk
  simpa [jnT, ByteArray.size] using this
/-- The texts of the first k ids. -/
def txs (f : Nat → Int) (k : Nat) : List ByteArray := (List.range k).map fun i => decT (f i).toNat
theorem txs_len (f : Nat → Int) (k : Nat) : (txs f k).length = k := by simp [txs]
theorem txs_snoc (f : Nat → Int) (k : Nat) : txs f (k + 1) = txs f k ++ [decT (f k).toNat] := by simp [txs, List.range_succ]
theorem joinTail_snoc (sep : List UInt8) (r : List (List UInt8)) (y : List UInt8) : Lib.joinTail sep (r ++ [y]) = Lib.joinTail sep r ++ sep ++ y := by simp [Lib.joinTail]
theorem join_jn (f : Nat → Int) (k : Nat) : Lib.join ((txs f k).map (·.data.toList)) [44] = jn f k := by
  induction k with
  | zero => rfl
  | succ k ih =>
    rw [txs_snoc, List.map_append]
    cases hx : (txs f k).map (·.data.toList) with
    | nil =>
      have hk : k = 0 := by
        have := congrArg List.length hx
        simpa [txs_len] using this
      subst hk
      simp [jn, decT, Lib.join_one]
    | cons x r =>
      have hk : ¬ k = 0 := by
        intro e
        subst e
        simp [txs] at hx
      rw [hx, Lib.join_cons] at ih
      rw [List.cons_append, List.map_cons, List.map_nil, Lib.join_cons, joinTail_snoc, jn, if_neg hk, ← ih]
      simp [decT]
/-- The text ahead of the groups. -/
def preT (u g : Nat) : ByteArray := decT u ++ ⟨#[58]⟩ ++ decT g ++ ⟨#[58]⟩
theorem preT_size {u g : Nat} (hu : u ≤ 9999) (hg : g ≤ 9999) : (preT u g).size ≤ 10 := by
  have a := (decT_size hu).2
  have b := (decT_size hg).2
  have c : (⟨#[58]⟩ : ByteArray).size = 1 := rfl
  simp only [preT, ByteArray.size_append]
  omega
/-- CredText. -/
def credT (u g : Int) (cl : Nat) (f : Nat → Int) (cr : Bool) : ByteArray :=
  if credB u g cl f then (if cr then preT u.toNat g.toNat ++ jnT f cl ++ ⟨#[42]⟩ else preT u.toNat g.toNat ++ jnT f cl) else ⟨#[]⟩
theorem cat_end (a : ByteArray) : a ++ (⟨(([] : List UInt8)).toArray⟩ : ByteArray) = a := by
  apply ByteArray.ext
  rw [ByteArray.data_append]
  simp
theorem jnT_first (p : ByteArray) (f : Nat → Int) : p ++ jnT f 0 ++ decT (f 0).toNat = p ++ jnT f 1 := by
  apply ByteArray.ext
  simp [ByteArray.data_append, jnT, jn, decT]
theorem jnT_next (p : ByteArray) (f : Nat → Int) {k : Nat} (h : ¬ k = 0) : p ++ jnT f k ++ ⟨#[44]⟩ ++ decT (f k).toNat = p ++ jnT f (k + 1) := by
  apply ByteArray.ext
  apply Array.toList_inj.1
  simp [ByteArray.data_append, jnT, jn, decT, h]
end Go.Proofs.YtlngfaplimpilaaDoor
