/- Laid together: WhoIs, AclMath. -/
import Derived.Test.YtgooanaacebncaaDoorRows
import Derived.PlainAid
import Derived.WalkKit
import Derived.WalkSpells
import Derived.WalkLawsBesides
import Derived.Below
import Derived.WideShapes
import Derived.ChangeArms
import Derived.Lib.SmallJoins
import Derived.Deep.SlicePairs
/- The little tests of a number against its limits, the program's and the specification's: each answers whether the number is from the one limit to the other. -/
namespace Go.Proofs.YtgooanaacebncaaDoor
open Go.RowKit Go.PlainAid
set_option linter.unusedVariables false
theorem ret_boolW {a b : Bool} (h : a = b) : Ending.returned (.bool a) = .returned (.bool b) := by rw [h]
/-- Is n from lo to hi? -/
def inR (lo hi n : Int) : Bool := decide (lo ≤ n) && decide (n ≤ hi)
theorem inR_yes {lo hi n : Int} (h0 : lo ≤ n) (h1 : n ≤ hi) : inR lo hi n = true := by simp [inR, *]
theorem inR_no {lo hi n : Int} (h : ¬ (lo ≤ n ∧ n ≤ hi)) : inR lo hi n = false := by
  cases e : inR lo hi n
  · rfl
  · simp [inR] at e
    exact absurd e h
theorem inR_iff {lo hi n : Int} : inR lo hi n = true ↔ lo ≤ n ∧ n ≤ hi := by simp [inR]
theorem isId_any (n : Int) (w : World) :
    Calls Tryd.prog 47 #[.int .i64 n] w fun e w' => e = .returned (.bool (inR 0 9999 n)) ∧ w' = w := by
  go_enter Tryd.func47, Tryd.ntmps47
  go_wp2
  · go_ret
    exact ⟨ret_boolW (by simp [inR, *]), rfl⟩
  · go_ret
    exact ⟨ret_boolW (by have h : ¬ 0 ≤ n := by omega
                         simp [inR, h]), rfl⟩
theorem isBits_any (n : Int) (w : World) :
    Calls Tryd.prog 135 #[.int .i64 n] w fun e w' => e = .returned (.bool (inR 0 7 n)) ∧ w' = w := by
  go_enter Tryd.func135, Tryd.ntmps135
  go_wp2
  · go_ret
    exact ⟨ret_boolW (by simp [inR, *]), rfl⟩
  · go_ret
    exact ⟨ret_boolW (by have h : ¬ 0 ≤ n := by omega
                         simp [inR, h]), rfl⟩
theorem sIs_any (n lo hi : Int) (w : World) :
    Calls Tryd.prog 83 #[.int .i64 n, .int .i64 lo, .int .i64 hi] w fun e w' => e = .returned (.bool (inR lo hi n)) ∧ w' = w := by
  go_enter Tryd.func83, Tryd.ntmps83
  go_wp2
  · go_ret
    exact ⟨ret_boolW (by simp [inR, *]), rfl⟩
  · go_ret
    exact ⟨ret_boolW (by have h : ¬ lo ≤ n := by omega
                         simp [inR, h]), rfl⟩
theorem sId_any (n : Int) (w : World) :
    Calls Tryd.prog 49 #[.int .i64 n] w fun e w' => e = .returned (.bool (inR 0 9999 n)) ∧ w' = w := by
  go_enter Tryd.func49, Tryd.ntmps49
  go_wp2_with (go_at_call 83; refine (sIs_any _ _ _ _).mono ?_; rintro e w' ⟨rfl, rfl⟩)
  go_ret
  exact ⟨rfl, rfl⟩
theorem sBits_any (n : Int) (w : World) :
    Calls Tryd.prog 111 #[.int .i64 n] w fun e w' => e = .returned (.bool (inR 0 7 n)) ∧ w' = w := by
  go_enter Tryd.func111, Tryd.ntmps111
  go_wp2_with (go_at_call 83; refine (sIs_any _ _ _ _).mono ?_; rintro e w' ⟨rfl, rfl⟩)
  go_ret
  exact ⟨rfl, rfl⟩
end Go.Proofs.YtgooanaacebncaaDoor
/- A list of pairs of numbers that lies in a world; lists of names, right or not. Nothing here names a program. -/
namespace Go.Proofs.YtgooanaacebncaaDoor
open Go.RowKit Go.PlainAid Go.ChangeShapes Go.WideShapes Go.ChangeAt Go.Joins Go.Deep
set_option linter.unusedVariables false
def idAt (l : List (Int × Int)) (k : Nat) : Int := (l.getD k (0, 0)).1
def btAt (l : List (Int × Int)) (k : Nat) : Int := (l.getD k (0, 0)).2
/-- What a world holds of a list of pairs. -/
def Prs (a : Option Addr) (len : Nat) (l : List (Int × Int)) (w : World) : Prop :=
  l.length = len ∧ (0 < len → ∃ b off, a = some ⟨b, off, none⟩ ∧ b < w.heap.size ∧ ∀ i, i < len → w.cell? ⟨b, off + i * 2, none⟩ = some (.int .i64 (idAt l i)) ∧ w.cell? ⟨b, off + i * 2 + 1, none⟩ = some (.int .i64 (btAt l i)))
theorem Prs.below {a : Option Addr} {len : Nat} {l : List (Int × Int)} {w w' : World} (h : Prs a len l w) (hb : Below w.heap.size w w') : Prs a len l w' := by
  refine ⟨h.1, fun hl => ?_⟩
  obtain ⟨b, off, ha, hlt, hc⟩ := h.2 hl
  exact ⟨b, off, ha, Nat.lt_of_lt_of_le hlt hb.size, fun i hi => ⟨(hb.cell (p := ⟨b, off + i * 2, none⟩) hlt).trans (hc i hi).1, (hb.cell (p := ⟨b, off + i * 2 + 1, none⟩) hlt).trans (hc i hi).2⟩⟩
/-- The pair at place k may stand there. -/
def okN (l : List (Int × Int)) (k : Nat) : Bool := inR 0 9999 (idAt l k) && (inR 0 7 (btAt l k) && (k == 0 || decide (idAt l (k - 1) < idAt l k)))
def nmRises (l : List (Int × Int)) : Nat → Bool
  | 0 => true
  | k + 1 => nmRises l k && okN l k
/-- At most six, rising. -/
def nmB (l : List (Int × Int)) : Bool := decide (l.length ≤ 6) && nmRises l l.length
theorem nmRises_false {l : List (Int × Int)} {k n : Nat} (h : k < n) (hk : okN l k = false) : nmRises l n = false := by
  induction n with
  | zero => omega
  | succ n ih =>
    by_cases e : k = n
    · subst e; simp [nmRises, hk]
    · simp [nmRises, ih (by omega)]
theorem nm_no {l : List (Int × Int)} {k : Nat} (h : k < l.length) (hk : okN l k = false) : nmB l = false := by simp [nmB, nmRises_false h hk]
theorem nm_long {l : List (Int × Int)} (h : 6 < l.length) : nmB l = false := by
  have : ¬ l.length ≤ 6 := by omega
  simp [nmB, this]
theorem nm_yes {l : List (Int × Int)} (h : l.length ≤ 6) (hr : nmRises l l.length = true) : nmB l = true := by simp [nmB, h, hr]
theorem nm_len {l : List (Int × Int)} (h : nmB l = true) : l.length ≤ 6 := by
  simp [nmB] at h
  exact h.1
theorem nmRises_next {l : List (Int × Int)} {k : Nat} (h : nmRises l k = true) (hk : okN l k = true) : nmRises l (k + 1) = true := by simp [nmRises, h, hk]
theorem okN_id {l : List (Int × Int)} {k : Nat} (h : inR 0 9999 (idAt l k) = false) : okN l k = false := by simp [okN, h]
theorem okN_bt {l : List (Int × Int)} {k : Nat} (h : inR 0 7 (btAt l k) = false) : okN l k = false := by simp [okN, h]
theorem okN_first {l : List (Int × Int)} (h : inR 0 9999 (idAt l 0) = true) (h1 : inR 0 7 (btAt l 0) = true) : okN l 0 = true := by simp [okN, h, h1]
theorem okN_up {l : List (Int × Int)} {k : Nat} (h : inR 0 9999 (idAt l (k + 1)) = true) (h1 : inR 0 7 (btAt l (k + 1)) = true) (h2 : idAt l k < idAt l (k + 1)) : okN l (k + 1) = true := by simp [okN, h, h1, h2]
theorem okN_down {l : List (Int × Int)} {k : Nat} (h1 : ¬ idAt l k < idAt l (k + 1)) : okN l (k + 1) = false := by simp [okN, h1]
/-- AclRight. -/
def aclB (u g o : Int) (us gs : List (Int × Int)) (r : Bool) (m : Int) : Bool :=
  inR 0 7 u && (inR 0 7 g && (inR 0 7 o && (inR 0 7 m && (nmB us && (nmB gs && (r || (m == 0 && (us.length == 0 && gs.length == 0))))))))
theorem idAt_map (q : Nat → Int × Int) (len i : Nat) (h : i < len) : idAt ((List.range len).map q) i = (q i).1 := by simp [idAt, List.getD, h]
theorem btAt_map (q : Nat → Int × Int) (len i : Nat) (h : i < len) : btAt ((List.range len).map q) i = (q i).2 := by simp [btAt, List.getD, h]
end Go.Proofs.YtgooanaacebncaaDoor
