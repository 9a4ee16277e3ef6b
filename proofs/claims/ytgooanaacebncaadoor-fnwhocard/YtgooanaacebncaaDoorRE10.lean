/- Laid together: Join5, Digs. -/
import Derived.Test.YtgooanaacebncaaDoorRE8
import Derived.Test.YtgooanaacebncaaDoorRE9
import Derived.Test.YtgooanaacebncaaDoorRE7
/- Five texts joined. -/
namespace Go.Proofs.YtgooanaacebncaaDoor
open Go.RowKit Go.PlainAid
set_option linter.unusedVariables false
def pick5 (a b c d e : ByteArray) : Nat → ByteArray := fun i => if i = 0 then a else if i = 1 then b else if i = 2 then c else if i = 3 then d else e
theorem cat5 (a b c d e : ByteArray) : (⟨(catTo (pick5 a b c d e) 5).toArray⟩ : ByteArray) = a ++ b ++ c ++ d ++ e := by
  apply ByteArray.ext
  apply Array.toList_inj.1
  simp [ByteArray.data_append, catTo, pick5]
theorem tot5 (a b c d e : ByteArray) : totTo (pick5 a b c d e) 5 = a.size + b.size + c.size + d.size + e.size := by
  simp [totTo, pick5]
/-- impl.join of five texts that were just laid in a row. -/
theorem join_five (a b c d e : ByteArray) (w : World) (h : a.size + b.size + c.size + d.size + e.size ≤ 1000000) (cap : Nat) :
    Calls Tryd.prog 39 #[.slice (some ⟨w.heap.size, 0, none⟩) 5 cap] (w.alloc (.cells #[.string a, .string b, .string c, .string d, .string e] 9)) fun e' w' => e' = .returned (.string (a ++ b ++ c ++ d ++ e)) ∧ Below w.heap.size w w' := by
  have hb : (w.alloc (.cells #[.string a, .string b, .string c, .string d, .string e] 9)).heap[w.heap.size]? = some (.cells #[.string a, .string b, .string c, .string d, .string e] 9) := by
    rw [World.alloc]
    exact Array.getElem?_push_size
  have hc : ∀ k, k < 5 → (w.alloc (.cells #[.string a, .string b, .string c, .string d, .string e] 9)).cell? ⟨w.heap.size, 0 + k, none⟩ = some (.string (pick5 a b c d e k)) := by
    intro k hk
    simp only [World.cell?, hb, Nat.zero_add]
    match k, hk with
    | 0, _ => rfl
    | 1, _ => rfl
    | 2, _ => rfl
    | 3, _ => rfl
    | 4, _ => rfl
  refine (join_any (pick5 a b c d e) w.heap.size 0 5 cap _ hc (by simp) (by omega) (by rw [tot5]; omega)).mono ?_
  rintro e' w' ⟨rfl, hbl⟩
  exact ⟨by rw [cat5], Below.on (bel_alloc _ _) hbl⟩
/-- The table of the powers of ten lies where it is laid. -/
def PowW (w : World) : Prop := Lib.TabIs Tryd.prog w "internal/strconv.uint64pow10" .u64 Lib.pow10Tab
theorem gPow : Tryd.prog.globalNamed "internal/strconv.uint64pow10" = some 0 := by kernel_rfl
theorem PowW.below {w w' : World} (h : PowW w) (hb : Below w.heap.size w w') : PowW w' := Go.Joins.var_stays gPow h hb (Nat.le_refl _)
theorem itoa_nat (n : Nat) : Lib.itoa (n : Int) = Lib.decDigits n := by
  have h : ¬ ((n : Int) < 0) := by omega
  rw [Lib.itoa, if_neg h, Int.toNat_natCast]
theorem below_grewD (w : World) (k : Nat) (os : Array Obj) : Below w.heap.size w (Go.Sort.grow (w.drewN k) os) := below_regrown w (w.drawn + k) os
set_option maxHeartbeats 1000000 in
/-- impl.digits of an id. -/
theorem iDigits_any (n : Nat) (h : n ≤ 9999) (w : World) (hp : PowW w) :
    Calls Tryd.prog 38 #[.int .i64 n] w fun e w' => e = .returned (.string (decT n)) ∧ Below w.heap.size w w' := by
  have hc : Hid (Calls Tryd.prog 75 #[.int .i64 (n : Int), .int .i64 10] w fun e w' => e = .returned (.string (decT n)) ∧ Below w.heap.size w w') := (by
    refine (Tryd.strconv_FormatInt_10 (n : Int) (by omega) (by omega) w hp).mono ?_
    rintro e w' ⟨rfl, k, os, rfl⟩
    exact ⟨by rw [itoa_nat]; rfl, below_grewD w k os⟩)
  clear hp
  go_enter Tryd.func38, Tryd.ntmps38
  go_wp2_with fail
  refine hc.out.mono ?_
  rintro e w1 ⟨rfl, hb⟩
  have HB : Hid (Below w.heap.size w w1) := hb
  clear hb hc
  go_wp2
  go_ret
  exact ⟨rfl, HB.out⟩
end Go.Proofs.YtgooanaacebncaaDoor
