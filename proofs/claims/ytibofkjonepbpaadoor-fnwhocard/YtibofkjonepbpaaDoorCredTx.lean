/- Who asks, as text: the digits of ids, joined. -/
import Derived.Test.YtibofkjonepbpaaDoorDec
import Derived.Test.YtibofkjonepbpaaDoorJoin2
import Derived.Test.YtibofkjonepbpaaDoorGroups
import Derived.Test.YtibofkjonepbpaaDoorBox7
namespace Go.Proofs.YtibofkjonepbpaaDoor
open Go.RowKit Go.PlainAid
set_option linter.unusedVariables false
/-- The table of the powers of ten lies where it is laid. -/
def PowW (w : World) : Prop := Lib.TabIs Tryd.prog w "internal/strconv.uint64pow10" .u64 Lib.pow10Tab
theorem gPow : Tryd.prog.globalNamed "internal/strconv.uint64pow10" = some 2 := by kernel_rfl
theorem PowW.below {w w' : World} (h : PowW w) (hb : Below w.heap.size w w') : PowW w' := Go.Joins.var_stays gPow h hb (Nat.le_refl _)
theorem itoa_nat (n : Nat) : Lib.itoa (n : Int) = Lib.decDigits n := by
  have h : ¬ ((n : Int) < 0) := by omega
  rw [Lib.itoa, if_neg h, Int.toNat_natCast]
theorem below_grewD (w : World) (k : Nat) (os : Array Obj) : Below w.heap.size w (Go.Sort.grow (w.drewN k) os) := below_regrown w (w.drawn + k) os
set_option maxHeartbeats 1000000 in
/-- impl.digits of an id. -/
theorem iDigits_any (n : Nat) (h : n ≤ 9999) (w : World) (hp : PowW w) :
    Calls Tryd.prog 67 #[.int .i64 n] w fun e w' => e = .returned (.string (decT n)) ∧ Below w.heap.size w w' := by
  have hc : Hid (Calls Tryd.prog 116 #[.int .i64 (n : Int), .int .i64 10] w fun e w' => e = .returned (.string (decT n)) ∧ Below w.heap.size w w') := (by
    refine (Tryd.strconv_FormatInt_10 (n : Int) (by omega) (by omega) w hp).mono ?_
    rintro e w' ⟨rfl, k, os, rfl⟩
    exact ⟨by rw [itoa_nat]; rfl, below_grewD w k os⟩)
  clear hp
  go_enter Tryd.func67, Tryd.ntmps67
  go_wp2_with fail
  refine hc.out.mono ?_
  rintro e w1 ⟨rfl, hb⟩
  have HB : Hid (Below w.heap.size w w1) := hb
  clear hb hc
  go_wp2
  go_ret
  exact ⟨rfl, HB.out⟩
/-- The first k ids, a comma between each two. -/
def jn (f : Nat → Int) : Nat → List UInt8
  | 0 => []
  | k + 1 => jn f k ++ (if k = 0 then [] else [44]) ++ Lib.decDigits (f k).toNat
def jnT (f : Nat → Int) (k : Nat) : ByteArray := ⟨(jn f k).toArray⟩
theorem jn_len {f : Nat → Int} {n : Nat} (h : ∀ i, i < n → 0 ≤ f i ∧ f i ≤ 9999) : ∀ k, k ≤ n → (jn f k).length ≤ 5 * k := by
  intro k
  induction k with
  | zero => intro _; simp [jn]
  | succ k ih =>
    intro hk
    have h1 := ih (by omega)
    have h2 := (dec_len (n := (f k).toNat) (by have := h k (by omega); omega)).2
    have h3 : (if k = 0 then ([] : List UInt8) else [44]).length ≤ 1 := by split <;> simp
    simp only [jn, List.length_append]
    omega
theorem jnT_size {f : Nat → Int} {n : Nat} (h : ∀ i, i < n → 0 ≤ f i ∧ f i ≤ 9999) {k : Nat} (hk : k ≤ n) : (jnT f k).size ≤ 5 * k := by
  have := jn_len h k hk
  simpa [jnT, ByteArray.size] using this
/-- The texts of the first k ids. -/
def txs (f : Nat → Int) (k : Nat) : List ByteArray := (List.range k).map fun i => decT (f i).toNat
theorem txs_len (f : Nat → Int) (k : Nat) : (txs f k).length = k := by simp [txs]
theorem txs_snoc (f : Nat → Int) (k : Nat) : txs f (k + 1) = txs f k ++ [decT (f k).toNat] := by simp [txs, List.range_succ]
theorem joinTail_snoc (sep : List UInt8) (r : List (List UInt8)) (y : List UInt8) : Lib.joinTail sep (r ++ [y]) = Lib.joinTail sep r ++ sep ++ y := by simp [Lib.joinTail]
theorem join_jn (f : Nat → Int) (k : Nat) : Lib.join ((txs f k).map (·.data.toList)) [44] = jn f k := by
  induction k with
  | zero => rfl
  | succ k ih =>
    rw [txs_snoc, List.map_append]
    cases hx : (txs f k).map (·.data.toList) with
    | nil =>
      have hk : k = 0 := by
        have := congrArg List.length hx
        simpa [txs_len] using this
      subst hk
      simp [jn, decT, Lib.join_one]
    | cons x r =>
      have hk : ¬ k = 0 := by
        intro e
        subst e
        simp [txs] at hx
      rw [hx, Lib.join_cons] at ih
      rw [List.cons_append, List.map_cons, List.map_nil, Lib.join_cons, joinTail_snoc, jn, if_neg hk, ← ih]
      simp [decT]
/-- The text ahead of the groups. -/
def preT (u g : Nat) : ByteArray := decT u ++ ⟨#[58]⟩ ++ decT g ++ ⟨#[58]⟩
theorem preT_size {u g : Nat} (hu : u ≤ 9999) (hg : g ≤ 9999) : (preT u g).size ≤ 10 := by
  have a := (decT_size hu).2
  have b := (decT_size hg).2
  have c : (⟨#[58]⟩ : ByteArray).size = 1 := rfl
  simp only [preT, ByteArray.size_append]
  omega
/-- CredText. -/
def credT (u g : Int) (cl : Nat) (f : Nat → Int) (cr : Bool) : ByteArray :=
  if credB u g cl f then (if cr then preT u.toNat g.toNat ++ jnT f cl ++ ⟨#[42]⟩ else preT u.toNat g.toNat ++ jnT f cl) else ⟨#[]⟩
theorem cat_end (a : ByteArray) : a ++ (⟨(([] : List UInt8)).toArray⟩ : ByteArray) = a := by
  apply ByteArray.ext
  rw [ByteArray.data_append]
  simp
theorem jnT_first (p : ByteArray) (f : Nat → Int) : p ++ jnT f 0 ++ decT (f 0).toNat = p ++ jnT f 1 := by
  apply ByteArray.ext
  simp [ByteArray.data_append, jnT, jn, decT]
theorem jnT_next (p : ByteArray) (f : Nat → Int) {k : Nat} (h : ¬ k = 0) : p ++ jnT f k ++ ⟨#[44]⟩ ++ decT (f k).toNat = p ++ jnT f (k + 1) := by
  apply ByteArray.ext
  apply Array.toList_inj.1
  simp [ByteArray.data_append, jnT, jn, decT, h]
def pick5 (a b c d e : ByteArray) : Nat → ByteArray := fun i => if i = 0 then a else if i = 1 then b else if i = 2 then c else if i = 3 then d else e
theorem cat5 (a b c d e : ByteArray) : (⟨(catTo (pick5 a b c d e) 5).toArray⟩ : ByteArray) = a ++ b ++ c ++ d ++ e := by
  apply ByteArray.ext
  apply Array.toList_inj.1
  simp [ByteArray.data_append, catTo, pick5]
theorem tot5 (a b c d e : ByteArray) : totTo (pick5 a b c d e) 5 = a.size + b.size + c.size + d.size + e.size := by
  simp [totTo, pick5]
/-- impl.join of five texts that were just laid in a row. -/
theorem join_five (a b c d e : ByteArray) (w : World) (h : a.size + b.size + c.size + d.size + e.size ≤ 1000000) (cap : Nat) :
    Calls Tryd.prog 68 #[.slice (some ⟨w.heap.size, 0, none⟩) 5 cap] (w.alloc (.cells #[.string a, .string b, .string c, .string d, .string e] 9)) fun e' w' => e' = .returned (.string (a ++ b ++ c ++ d ++ e)) ∧ Below w.heap.size w w' := by
  have hb : (w.alloc (.cells #[.string a, .string b, .string c, .string d, .string e] 9)).heap[w.heap.size]? = some (.cells #[.string a, .string b, .string c, .string d, .string e] 9) := by
    rw [World.alloc]
    exact Array.getElem?_push_size
  have hc : ∀ k, k < 5 → (w.alloc (.cells #[.string a, .string b, .string c, .string d, .string e] 9)).cell? ⟨w.heap.size, 0 + k, none⟩ = some (.string (pick5 a b c d e k)) := by
    intro k hk
    simp only [World.cell?, hb, Nat.zero_add]
    match k, hk with
    | 0, _ => rfl
    | 1, _ => rfl
    | 2, _ => rfl
    | 3, _ => rfl
    | 4, _ => rfl
  refine (join_any (pick5 a b c d e) w.heap.size 0 5 cap _ hc (by simp) (by omega) (by rw [tot5]; omega)).mono ?_
  rintro e' w' ⟨rfl, hbl⟩
  exact ⟨by rw [cat5], Below.on (bel_alloc _ _) hbl⟩
end Go.Proofs.YtibofkjonepbpaaDoor
