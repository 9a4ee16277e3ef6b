/- Laid together: WhoIs, CredMath. -/
import Derived.Test.YtgooanaacebncaaDoorRows
import Derived.PlainAid
import Derived.WalkKit
import Derived.WalkSpells
import Derived.WalkLawsBesides
import Derived.Below
/- The little tests of a number against its limits, the program's and the specification's: each answers whether the number is from the one limit to the other. -/
namespace Go.Proofs.YtgooanaacebncaaDoor
open Go.RowKit Go.PlainAid
set_option linter.unusedVariables false
theorem ret_boolW {a b : Bool} (h : a = b) : Ending.returned (.bool a) = .returned (.bool b) := by rw [h]
/-- Is n from lo to hi? -/
def inR (lo hi n : Int) : Bool := decide (lo ≤ n) && decide (n ≤ hi)
theorem inR_yes {lo hi n : Int} (h0 : lo ≤ n) (h1 : n ≤ hi) : inR lo hi n = true := by simp [inR, *]
theorem inR_no {lo hi n : Int} (h : ¬ (lo ≤ n ∧ n ≤ hi)) : inR lo hi n = false := by
  cases e : inR lo hi n
  · rfl
  · simp [inR] at e
    exact absurd e h
theorem inR_iff {lo hi n : Int} : inR lo hi n = true ↔ lo ≤ n ∧ n ≤ hi := by simp [inR]
theorem isId_any (n : Int) (w : World) :
    Calls Tryd.prog 47 #[.int .i64 n] w fun e w' => e = .returned (.bool (inR 0 9999 n)) ∧ w' = w := by
  go_enter Tryd.func47, Tryd.ntmps47
  go_wp2
  · go_ret
    exact ⟨ret_boolW (by simp [inR, *]), rfl⟩
  · go_ret
    exact ⟨ret_boolW (by have h : ¬ 0 ≤ n := by omega
                         simp [inR, h]), rfl⟩
theorem sIs_any (n lo hi : Int) (w : World) :
    Calls Tryd.prog 83 #[.int .i64 n, .int .i64 lo, .int .i64 hi] w fun e w' => e = .returned (.bool (inR lo hi n)) ∧ w' = w := by
  go_enter Tryd.func83, Tryd.ntmps83
  go_wp2
  · go_ret
    exact ⟨ret_boolW (by simp [inR, *]), rfl⟩
  · go_ret
    exact ⟨ret_boolW (by have h : ¬ lo ≤ n := by omega
                         simp [inR, h]), rfl⟩
theorem sId_any (n : Int) (w : World) :
    Calls Tryd.prog 49 #[.int .i64 n] w fun e w' => e = .returned (.bool (inR 0 9999 n)) ∧ w' = w := by
  go_enter Tryd.func49, Tryd.ntmps49
  go_wp2_with (go_at_call 83; refine (sIs_any _ _ _ _).mono ?_; rintro e w' ⟨rfl, rfl⟩)
  go_ret
  exact ⟨rfl, rfl⟩
/-- What a world holds of a list of numbers. -/
def Ints (a : Option Addr) (len : Nat) (f : Nat → Int) (w : World) : Prop := 0 < len → ∃ b off, a = some ⟨b, off, none⟩ ∧ b < w.heap.size ∧ ∀ i, i < len → w.cell? ⟨b, off + i, none⟩ = some (.int .i64 (f i))
theorem Ints.below {a : Option Addr} {len : Nat} {f : Nat → Int} {w w' : World} (h : Ints a len f w) (hb : Below w.heap.size w w') : Ints a len f w' := by
  intro hl
  obtain ⟨b, off, ha, hlt, hc⟩ := h hl
  exact ⟨b, off, ha, Nat.lt_of_lt_of_le hlt hb.size, fun i hi => (hb.cell (p := ⟨b, off + i, none⟩) hlt).trans (hc i hi)⟩
/-- The number at place k may stand there. -/
def okG (f : Nat → Int) (k : Nat) : Bool := inR 0 9999 (f k) && (k == 0 || decide (f (k - 1) < f k))
def risesB (f : Nat → Int) : Nat → Bool
  | 0 => true
  | k + 1 => risesB f k && okG f k
/-- At most eight ids, rising. -/
def grB (len : Nat) (f : Nat → Int) : Bool := decide (len ≤ 8) && risesB f len
/-- CredRight. -/
def credB (u g : Int) (len : Nat) (f : Nat → Int) : Bool := inR 0 9999 u && (inR 0 9999 g && grB len f)
theorem rises_false {f : Nat → Int} {k n : Nat} (h : k < n) (hk : okG f k = false) : risesB f n = false := by
  induction n with
  | zero => omega
  | succ n ih =>
    by_cases e : k = n
    · subst e; simp [risesB, hk]
    · simp [risesB, ih (by omega)]
theorem gr_no {len : Nat} {f : Nat → Int} {k : Nat} (h : k < len) (hk : okG f k = false) : grB len f = false := by simp [grB, rises_false h hk]
theorem gr_long {len : Nat} {f : Nat → Int} (h : 8 < len) : grB len f = false := by
  have : ¬ len ≤ 8 := by omega
  simp [grB, this]
theorem gr_yes {len : Nat} {f : Nat → Int} (h : len ≤ 8) (hr : risesB f len = true) : grB len f = true := by simp [grB, h, hr]
theorem rises_next {f : Nat → Int} {k : Nat} (h : risesB f k = true) (hk : okG f k = true) : risesB f (k + 1) = true := by simp [risesB, h, hk]
theorem okG_id {f : Nat → Int} {k : Nat} (h : inR 0 9999 (f k) = false) : okG f k = false := by simp [okG, h]
theorem okG_first {f : Nat → Int} (h : inR 0 9999 (f 0) = true) : okG f 0 = true := by simp [okG, h]
theorem okG_up {f : Nat → Int} {k : Nat} (h : inR 0 9999 (f (k + 1)) = true) (h1 : f k < f (k + 1)) : okG f (k + 1) = true := by simp [okG, h, h1]
theorem okG_down {f : Nat → Int} {k : Nat} (h1 : ¬ f k < f (k + 1)) : okG f (k + 1) = false := by simp [okG, h1]
/-- Is gid among the numbers? -/
def anyG (f : Nat → Int) (gid : Int) : Nat → Bool
  | 0 => false
  | k + 1 => anyG f gid k || f k == gid
/-- InGroup. -/
def inGB (u g : Int) (len : Nat) (f : Nat → Int) (gid : Int) : Bool := credB u g len f && (g == gid || anyG f gid len)
theorem credB_iff {u g : Int} {len : Nat} {f : Nat → Int} : credB u g len f = true ↔ inR 0 9999 u = true ∧ inR 0 9999 g = true ∧ grB len f = true := by simp [credB]
theorem gr_len {len : Nat} {f : Nat → Int} (h : grB len f = true) : len ≤ 8 := by
  simp [grB] at h
  exact h.1
end Go.Proofs.YtgooanaacebncaaDoor
