/- Laid together: WhoIs, AclMath, NamedTo. -/
import Derived.Test.YtgooanaacebncaaGreatDoorRows
import Derived.PlainAid
import Derived.WalkKit
import Derived.WalkSpells
import Derived.WalkLawsBesides
import Derived.Below
import Derived.WideShapes
import Derived.ChangeArms
import Derived.Lib.SmallJoins
import Derived.Deep.SlicePairs
import Derived.Deep.OwnRows
import Derived.Deep.QuietTactic
import Derived.BigQuiet
import Derived.Handy
/- The little tests of a number against its limits, the program's and the specification's: each answers whether the number is from the one limit to the other. -/
namespace Go.Proofs.YtgooanaacebncaaGreatDoor
open Go.RowKit Go.PlainAid
set_option linter.unusedVariables false
theorem ret_boolW {a b : Bool} (h : a = b) : Ending.returned (.bool a) = .returned (.bool b) := by rw [h]
/-- Is n from lo to hi? -/
def inR (lo hi n : Int) : Bool := decide (lo ≤ n) && decide (n ≤ hi)
theorem inR_yes {lo hi n : Int} (h0 : lo ≤ n) (h1 : n ≤ hi) : inR lo hi n = true := by simp [inR, *]
theorem inR_no {lo hi n : Int} (h : ¬ (lo ≤ n ∧ n ≤ hi)) : inR lo hi n = false := by
  cases e : inR lo hi n
  · rfl
  · simp [inR] at e
    exact absurd e h
theorem inR_iff {lo hi n : Int} : inR lo hi n = true ↔ lo ≤ n ∧ n ≤ hi := by simp [inR]
theorem isId_any (n : Int) (w : World) :
    Calls Tryz.prog 71 #[.int .i64 n] w fun e w' => e = .returned (.bool (inR 0 9999 n)) ∧ w' = w := by
  go_enter Tryz.func71, Tryz.ntmps71
  go_wp2
  · go_ret
    exact ⟨ret_boolW (by simp [inR, *]), rfl⟩
  · go_ret
    exact ⟨ret_boolW (by have h : ¬ 0 ≤ n := by omega
                         simp [inR, h]), rfl⟩
theorem isBits_any (n : Int) (w : World) :
    Calls Tryz.prog 47 #[.int .i64 n] w fun e w' => e = .returned (.bool (inR 0 7 n)) ∧ w' = w := by
  go_enter Tryz.func47, Tryz.ntmps47
  go_wp2
  · go_ret
    exact ⟨ret_boolW (by simp [inR, *]), rfl⟩
  · go_ret
    exact ⟨ret_boolW (by have h : ¬ 0 ≤ n := by omega
                         simp [inR, h]), rfl⟩
theorem sIs_any (n lo hi : Int) (w : World) :
    Calls Tryz.prog 81 #[.int .i64 n, .int .i64 lo, .int .i64 hi] w fun e w' => e = .returned (.bool (inR lo hi n)) ∧ w' = w := by
  go_enter Tryz.func81, Tryz.ntmps81
  go_wp2
  · go_ret
    exact ⟨ret_boolW (by simp [inR, *]), rfl⟩
  · go_ret
    exact ⟨ret_boolW (by have h : ¬ lo ≤ n := by omega
                         simp [inR, h]), rfl⟩
theorem sId_any (n : Int) (w : World) :
    Calls Tryz.prog 66 #[.int .i64 n] w fun e w' => e = .returned (.bool (inR 0 9999 n)) ∧ w' = w := by
  go_enter Tryz.func66, Tryz.ntmps66
  go_wp2_with (go_at_call 81; refine (sIs_any _ _ _ _).mono ?_; rintro e w' ⟨rfl, rfl⟩)
  go_ret
  exact ⟨rfl, rfl⟩
theorem sBits_any (n : Int) (w : World) :
    Calls Tryz.prog 59 #[.int .i64 n] w fun e w' => e = .returned (.bool (inR 0 7 n)) ∧ w' = w := by
  go_enter Tryz.func59, Tryz.ntmps59
  go_wp2_with (go_at_call 81; refine (sIs_any _ _ _ _).mono ?_; rintro e w' ⟨rfl, rfl⟩)
  go_ret
  exact ⟨rfl, rfl⟩
theorem sMode_any (n : Int) (w : World) :
    Calls Tryz.prog 65 #[.int .i64 n] w fun e w' => e = .returned (.bool (inR 0 4095 n)) ∧ w' = w := by
  go_enter Tryz.func65, Tryz.ntmps65
  go_wp2_with (go_at_call 81; refine (sIs_any _ _ _ _).mono ?_; rintro e w' ⟨rfl, rfl⟩)
  go_ret
  exact ⟨rfl, rfl⟩
end Go.Proofs.YtgooanaacebncaaGreatDoor
/- A list of pairs of numbers that lies in a world; lists of names, right or not. Nothing here names a program. -/
namespace Go.Proofs.YtgooanaacebncaaGreatDoor
open Go.RowKit Go.PlainAid Go.ChangeShapes Go.WideShapes Go.ChangeAt Go.Joins Go.Deep
set_option linter.unusedVariables false
def idAt (l : List (Int × Int)) (k : Nat) : Int := (l.getD k (0, 0)).1
def btAt (l : List (Int × Int)) (k : Nat) : Int := (l.getD k (0, 0)).2
/-- What a world holds of a list of pairs. -/
def Prs (a : Option Addr) (len : Nat) (l : List (Int × Int)) (w : World) : Prop :=
  l.length = len ∧ (0 < len → ∃ b off, a = some ⟨b, off, none⟩ ∧ b < w.heap.size ∧ ∀ i, i < len → w.cell? ⟨b, off + i * 2, none⟩ = some (.int .i64 (idAt l i)) ∧ w.cell? ⟨b, off + i * 2 + 1, none⟩ = some (.int .i64 (btAt l i)))
theorem Prs.below {a : Option Addr} {len : Nat} {l : List (Int × Int)} {w w' : World} (h : Prs a len l w) (hb : Below w.heap.size w w') : Prs a len l w' := by
  refine ⟨h.1, fun hl => ?_⟩
  obtain ⟨b, off, ha, hlt, hc⟩ := h.2 hl
  exact ⟨b, off, ha, Nat.lt_of_lt_of_le hlt hb.size, fun i hi => ⟨(hb.cell (p := ⟨b, off + i * 2, none⟩) hlt).trans (hc i hi).1, (hb.cell (p := ⟨b, off + i * 2 + 1, none⟩) hlt).trans (hc i hi).2⟩⟩
/-- The pair at place k may stand there. -/
def okN (l : List (Int × Int)) (k : Nat) : Bool := inR 0 9999 (idAt l k) && (inR 0 7 (btAt l k) && (k == 0 || decide (idAt l (k - 1) < idAt l k)))
def nmRises (l : List (Int × Int)) : Nat → Bool
  | 0 => true
  | k + 1 => nmRises l k && okN l k
/-- At most six, rising. -/
def nmB (l : List (Int × Int)) : Bool := decide (l.length ≤ 6) && nmRises l l.length
theorem nmRises_false {l : List (Int × Int)} {k n : Nat} (h : k < n) (hk : okN l k = false) : nmRises l n = false := by
  induction n with
  | zero => omega
  | succ n ih =>
    by_cases e : k = n
    · subst e; simp [nmRises, hk]
    · simp [nmRises, ih (by omega)]
theorem nm_no {l : List (Int × Int)} {k : Nat} (h : k < l.length) (hk : okN l k = false) : nmB l = false := by simp [nmB, nmRises_false h hk]
theorem nm_long {l : List (Int × Int)} (h : 6 < l.length) : nmB l = false := by
  have : ¬ l.length ≤ 6 := by omega
  simp [nmB, this]
theorem nm_yes {l : List (Int × Int)} (h : l.length ≤ 6) (hr : nmRises l l.length = true) : nmB l = true := by simp [nmB, h, hr]
theorem nm_len {l : List (Int × Int)} (h : nmB l = true) : l.length ≤ 6 := by
  simp [nmB] at h
  exact h.1
theorem nmRises_next {l : List (Int × Int)} {k : Nat} (h : nmRises l k = true) (hk : okN l k = true) : nmRises l (k + 1) = true := by simp [nmRises, h, hk]
theorem okN_id {l : List (Int × Int)} {k : Nat} (h : inR 0 9999 (idAt l k) = false) : okN l k = false := by simp [okN, h]
theorem okN_bt {l : List (Int × Int)} {k : Nat} (h : inR 0 7 (btAt l k) = false) : okN l k = false := by simp [okN, h]
theorem okN_first {l : List (Int × Int)} (h : inR 0 9999 (idAt l 0) = true) (h1 : inR 0 7 (btAt l 0) = true) : okN l 0 = true := by simp [okN, h, h1]
theorem okN_up {l : List (Int × Int)} {k : Nat} (h : inR 0 9999 (idAt l (k + 1)) = true) (h1 : inR 0 7 (btAt l (k + 1)) = true) (h2 : idAt l k < idAt l (k + 1)) : okN l (k + 1) = true := by simp [okN, h, h1, h2]
theorem okN_down {l : List (Int × Int)} {k : Nat} (h1 : ¬ idAt l k < idAt l (k + 1)) : okN l (k + 1) = false := by simp [okN, h1]
/-- AclRight. -/
def aclB (u g o : Int) (us gs : List (Int × Int)) (r : Bool) (m : Int) : Bool :=
  inR 0 7 u && (inR 0 7 g && (inR 0 7 o && (inR 0 7 m && (nmB us && (nmB gs && (r || (m == 0 && (us.length == 0 && gs.length == 0))))))))
end Go.Proofs.YtgooanaacebncaaGreatDoor
/- laws.toNamed, laws.toNamedS: a copy of a list of pairs. -/
namespace Go.Proofs.YtgooanaacebncaaGreatDoor
open Go.RowKit Go.PlainAid
set_option linter.unusedVariables false
theorem bl_setN {B b o : Nat} {W w1 : World} {x : Value} (hb : Below B W w1) (h : B ≤ b) : Below B W (w1.setCell ⟨b, o, none⟩ x) := hb.setCell h _
theorem bl_cellN {W w1 : World} (hb : Below W.heap.size W w1) : (∀ b o, b < W.heap.size → w1.cell? ⟨b, o, none⟩ = W.cell? ⟨b, o, none⟩) ∧ (∀ b o, b < W.heap.size → w1.frozen? ⟨b, o, none⟩ = W.frozen? ⟨b, o, none⟩) :=
  ⟨fun b o h => hb.cell (p := ⟨b, o, none⟩) h, fun b o h => hb.frozen (p := ⟨b, o, none⟩) h⟩
/-- What a world holds of a row of pairs that may be written. -/
def PHold (w : World) (B : Nat) (F G : Nat → Int) (n : Nat) : Prop := ∀ i, i < n → (w.cell? ⟨B, i * 2, none⟩ = some (.int .i64 (F i)) ∧ w.cell? ⟨B, i * 2 + 1, none⟩ = some (.int .i64 (G i))) ∧ w.frozen? ⟨B, i * 2, none⟩ = false ∧ w.frozen? ⟨B, i * 2 + 1, none⟩ = false
theorem PHold.below {w w' : World} {B : Nat} {F G : Nat → Int} {n : Nat} (h : PHold w B F G n) (hlt : B < w.heap.size) (hb : Below w.heap.size w w') : PHold w' B F G n := fun i hi =>
  ⟨⟨(hb.cell (p := ⟨B, i * 2, none⟩) hlt).trans (h i hi).1.1, (hb.cell (p := ⟨B, i * 2 + 1, none⟩) hlt).trans (h i hi).1.2⟩, (hb.frozen (p := ⟨B, i * 2, none⟩) hlt).trans (h i hi).2.1, (hb.frozen (p := ⟨B, i * 2 + 1, none⟩) hlt).trans (h i hi).2.2⟩
theorem PHold.set0 {w : World} {B : Nat} {F G : Nat → Int} {n : Nat} (h : PHold w B F G n) (k : Nat) (hk : k < n) (v : Int) : PHold (w.setCell ⟨B, k * 2, none⟩ (.int .i64 v)) B (fun i => if i = k then v else F i) G n := by
  intro i hi
  have h1 := h i hi
  rw [World.frozen?_setCell, World.frozen?_setCell]
  refine ⟨⟨?_, ?_⟩, h1.2⟩
  · by_cases e : i = k
    · subst e
      simp only [if_pos]
      simp [go_sem, h1.1.1]
    · simp only [if_neg e]
      rw [← h1.1.1]
      exact World.cell?_setCell_other _ _ _ _ (by intro h; have h2 := congrArg Addr.off h; simp only at h2; omega)
  · rw [← h1.1.2]
    exact World.cell?_setCell_other _ _ _ _ (by intro h; have h2 := congrArg Addr.off h; simp only at h2; omega)
theorem PHold.set1 {w : World} {B : Nat} {F G : Nat → Int} {n : Nat} (h : PHold w B F G n) (k : Nat) (hk : k < n) (v : Int) : PHold (w.setCell ⟨B, k * 2 + 1, none⟩ (.int .i64 v)) B F (fun i => if i = k then v else G i) n := by
  intro i hi
  have h1 := h i hi
  rw [World.frozen?_setCell, World.frozen?_setCell]
  refine ⟨⟨?_, ?_⟩, h1.2⟩
  · rw [← h1.1.1]
    exact World.cell?_setCell_other _ _ _ _ (by intro h; have h2 := congrArg Addr.off h; simp only at h2; omega)
  · by_cases e : i = k
    · subst e
      simp only [if_pos]
      simp [go_sem, h1.1.2]
    · simp only [if_neg e]
      rw [← h1.1.2]
      exact World.cell?_setCell_other _ _ _ _ (by intro h; have h2 := congrArg Addr.off h; simp only at h2; omega)
/-- A list of pairs in memory of its own, that may be written. -/
def Own (a : Option Addr) (len : Nat) (l : List (Int × Int)) (w : World) : Prop :=
  l.length = len ∧ (0 < len → ∃ B, a = some ⟨B, 0, none⟩ ∧ B < w.heap.size ∧ PHold w B (idAt l) (btAt l) len)
theorem Own.prs {a : Option Addr} {len : Nat} {l : List (Int × Int)} {w : World} (h : Own a len l w) : Prs a len l w := by
  refine ⟨h.1, fun h0 => ?_⟩
  obtain ⟨B, ha, hlt, hp⟩ := h.2 h0
  exact ⟨B, 0, ha, hlt, fun i hi => by simpa using (hp i hi).1⟩
theorem Own.below {a : Option Addr} {len : Nat} {l : List (Int × Int)} {w w' : World} (h : Own a len l w) (hb : Below w.heap.size w w') : Own a len l w' := by
  refine ⟨h.1, fun h0 => ?_⟩
  obtain ⟨B, ha, hlt, hp⟩ := h.2 h0
  exact ⟨B, ha, Nat.lt_of_lt_of_le hlt hb.size, hp.below hlt hb⟩
end Go.Proofs.YtgooanaacebncaaGreatDoor
