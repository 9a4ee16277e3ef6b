/- Laid together: WhoIs, AclMath, Box7, AceMath. -/
import Derived.Test.YtedahdncincgjaaGreatDoorRows
import Derived.PlainAid
import Derived.WalkKit
import Derived.WalkSpells
import Derived.WalkLawsBesides
import Derived.Below
import Derived.WideShapes
import Derived.ChangeArms
import Derived.Lib.SmallJoins
import Derived.Deep.SlicePairs
/- The little tests of a number against its limits, the program's and the specification's: each answers whether the number is from the one limit to the other. -/
namespace Go.Proofs.YtedahdncincgjaaGreatDoor
open Go.RowKit Go.PlainAid
set_option linter.unusedVariables false
theorem ret_boolW {a b : Bool} (h : a = b) : Ending.returned (.bool a) = .returned (.bool b) := by rw [h]
/-- Is n from lo to hi? -/
def inR (lo hi n : Int) : Bool := decide (lo ≤ n) && decide (n ≤ hi)
theorem inR_yes {lo hi n : Int} (h0 : lo ≤ n) (h1 : n ≤ hi) : inR lo hi n = true := by simp [inR, *]
theorem inR_no {lo hi n : Int} (h : ¬ (lo ≤ n ∧ n ≤ hi)) : inR lo hi n = false := by
  cases e : inR lo hi n
  · rfl
  · simp [inR] at e
    exact absurd e h
theorem inR_iff {lo hi n : Int} : inR lo hi n = true ↔ lo ≤ n ∧ n ≤ hi := by simp [inR]
theorem inR_off {lo hi n : Int} (h : inR lo hi n = false) : n < lo ∨ hi < n := by
  rcases Decidable.em (lo ≤ n ∧ n ≤ hi) with h1 | h1
  · rw [inR_yes h1.1 h1.2] at h
    cases h
  · omega
theorem isId_any (n : Int) (w : World) :
    Calls Tryz.prog 82 #[.int .i64 n] w fun e w' => e = .returned (.bool (inR 0 9999 n)) ∧ w' = w := by
  go_enter Tryz.func82, Tryz.ntmps82
  go_wp2
  · go_ret
    exact ⟨ret_boolW (by simp [inR, *]), rfl⟩
  · go_ret
    exact ⟨ret_boolW (by have h : ¬ 0 ≤ n := by omega
                         simp [inR, h]), rfl⟩
theorem isSet_any (n : Int) (w : World) :
    Calls Tryz.prog 83 #[.int .i64 n] w fun e w' => e = .returned (.bool (inR 0 65535 n)) ∧ w' = w := by
  go_enter Tryz.func83, Tryz.ntmps83
  go_wp2
  · go_ret
    exact ⟨ret_boolW (by simp [inR, *]), rfl⟩
  · go_ret
    exact ⟨ret_boolW (by have h : ¬ 0 ≤ n := by omega
                         simp [inR, h]), rfl⟩
theorem sIs_any (n lo hi : Int) (w : World) :
    Calls Tryz.prog 73 #[.int .i64 n, .int .i64 lo, .int .i64 hi] w fun e w' => e = .returned (.bool (inR lo hi n)) ∧ w' = w := by
  go_enter Tryz.func73, Tryz.ntmps73
  go_wp2
  · go_ret
    exact ⟨ret_boolW (by simp [inR, *]), rfl⟩
  · go_ret
    exact ⟨ret_boolW (by have h : ¬ lo ≤ n := by omega
                         simp [inR, h]), rfl⟩
theorem sId_any (n : Int) (w : World) :
    Calls Tryz.prog 74 #[.int .i64 n] w fun e w' => e = .returned (.bool (inR 0 9999 n)) ∧ w' = w := by
  go_enter Tryz.func74, Tryz.ntmps74
  go_wp2_with (go_at_call 73; refine (sIs_any _ _ _ _).mono ?_; rintro e w' ⟨rfl, rfl⟩)
  go_ret
  exact ⟨rfl, rfl⟩
theorem sBits_any (n : Int) (w : World) :
    Calls Tryz.prog 103 #[.int .i64 n] w fun e w' => e = .returned (.bool (inR 0 7 n)) ∧ w' = w := by
  go_enter Tryz.func103, Tryz.ntmps103
  go_wp2_with (go_at_call 73; refine (sIs_any _ _ _ _).mono ?_; rintro e w' ⟨rfl, rfl⟩)
  go_ret
  exact ⟨rfl, rfl⟩
theorem sMode_any (n : Int) (w : World) :
    Calls Tryz.prog 109 #[.int .i64 n] w fun e w' => e = .returned (.bool (inR 0 4095 n)) ∧ w' = w := by
  go_enter Tryz.func109, Tryz.ntmps109
  go_wp2_with (go_at_call 73; refine (sIs_any _ _ _ _).mono ?_; rintro e w' ⟨rfl, rfl⟩)
  go_ret
  exact ⟨rfl, rfl⟩
end Go.Proofs.YtedahdncincgjaaGreatDoor
/- A list of pairs of numbers that lies in a world; lists of names, right or not. Nothing here names a program. -/
namespace Go.Proofs.YtedahdncincgjaaGreatDoor
open Go.RowKit Go.PlainAid Go.ChangeShapes Go.WideShapes Go.ChangeAt Go.Joins Go.Deep
set_option linter.unusedVariables false
def idAt (l : List (Int × Int)) (k : Nat) : Int := (l.getD k (0, 0)).1
def btAt (l : List (Int × Int)) (k : Nat) : Int := (l.getD k (0, 0)).2
/-- What a world holds of a list of pairs. -/
def Prs (a : Option Addr) (len : Nat) (l : List (Int × Int)) (w : World) : Prop :=
  l.length = len ∧ (0 < len → ∃ b off, a = some ⟨b, off, none⟩ ∧ b < w.heap.size ∧ ∀ i, i < len → w.cell? ⟨b, off + i * 2, none⟩ = some (.int .i64 (idAt l i)) ∧ w.cell? ⟨b, off + i * 2 + 1, none⟩ = some (.int .i64 (btAt l i)))
theorem Prs.below {a : Option Addr} {len : Nat} {l : List (Int × Int)} {w w' : World} (h : Prs a len l w) (hb : Below w.heap.size w w') : Prs a len l w' := by
  refine ⟨h.1, fun hl => ?_⟩
  obtain ⟨b, off, ha, hlt, hc⟩ := h.2 hl
  exact ⟨b, off, ha, Nat.lt_of_lt_of_le hlt hb.size, fun i hi => ⟨(hb.cell (p := ⟨b, off + i * 2, none⟩) hlt).trans (hc i hi).1, (hb.cell (p := ⟨b, off + i * 2 + 1, none⟩) hlt).trans (hc i hi).2⟩⟩
/-- The pair at place k may stand there. -/
def okN (l : List (Int × Int)) (k : Nat) : Bool := inR 0 9999 (idAt l k) && (inR 0 7 (btAt l k) && (k == 0 || decide (idAt l (k - 1) < idAt l k)))
def nmRises (l : List (Int × Int)) : Nat → Bool
  | 0 => true
  | k + 1 => nmRises l k && okN l k
/-- At most six, rising. -/
def nmB (l : List (Int × Int)) : Bool := decide (l.length ≤ 6) && nmRises l l.length
theorem nmRises_false {l : List (Int × Int)} {k n : Nat} (h : k < n) (hk : okN l k = false) : nmRises l n = false := by
  induction n with
  | zero => omega
  | succ n ih =>
    by_cases e : k = n
    · subst e; simp [nmRises, hk]
    · simp [nmRises, ih (by omega)]
theorem nm_no {l : List (Int × Int)} {k : Nat} (h : k < l.length) (hk : okN l k = false) : nmB l = false := by simp [nmB, nmRises_false h hk]
theorem nm_yes {l : List (Int × Int)} (h : l.length ≤ 6) (hr : nmRises l l.length = true) : nmB l = true := by simp [nmB, h, hr]
theorem nm_len {l : List (Int × Int)} (h : nmB l = true) : l.length ≤ 6 := by
  simp [nmB] at h
  exact h.1
theorem nmRises_next {l : List (Int × Int)} {k : Nat} (h : nmRises l k = true) (hk : okN l k = true) : nmRises l (k + 1) = true := by simp [nmRises, h, hk]
theorem okN_id {l : List (Int × Int)} {k : Nat} (h : inR 0 9999 (idAt l k) = false) : okN l k = false := by simp [okN, h]
theorem okN_bt {l : List (Int × Int)} {k : Nat} (h : inR 0 7 (btAt l k) = false) : okN l k = false := by simp [okN, h]
theorem okN_first {l : List (Int × Int)} (h : inR 0 9999 (idAt l 0) = true) (h1 : inR 0 7 (btAt l 0) = true) : okN l 0 = true := by simp [okN, h, h1]
theorem okN_up {l : List (Int × Int)} {k : Nat} (h : inR 0 9999 (idAt l (k + 1)) = true) (h1 : inR 0 7 (btAt l (k + 1)) = true) (h2 : idAt l k < idAt l (k + 1)) : okN l (k + 1) = true := by simp [okN, h, h1, h2]
theorem okN_down {l : List (Int × Int)} {k : Nat} (h1 : ¬ idAt l k < idAt l (k + 1)) : okN l (k + 1) = false := by simp [okN, h1]
/-- AclRight. -/
def aclB (u g o : Int) (us gs : List (Int × Int)) (r : Bool) (m : Int) : Bool :=
  inR 0 7 u && (inR 0 7 g && (inR 0 7 o && (inR 0 7 m && (nmB us && (nmB gs && (r || (m == 0 && (us.length == 0 && gs.length == 0))))))))
end Go.Proofs.YtedahdncincgjaaGreatDoor
/- Seven cells of a block. -/
namespace Go.Proofs.YtedahdncincgjaaGreatDoor
open Go.RowKit Go.PlainAid
set_option linter.unusedVariables false
/-- Seven cells of a block. -/
structure Box7 (w : World) (B : Nat) (v0 v1 v2 v3 v4 v5 v6 : Value) : Prop where
  lt : B < w.heap.size
  c0 : w.cell? ⟨B, 0, none⟩ = some v0
  c1 : w.cell? ⟨B, 1, none⟩ = some v1
  c2 : w.cell? ⟨B, 2, none⟩ = some v2
  c3 : w.cell? ⟨B, 3, none⟩ = some v3
  c4 : w.cell? ⟨B, 4, none⟩ = some v4
  c5 : w.cell? ⟨B, 5, none⟩ = some v5
  c6 : w.cell? ⟨B, 6, none⟩ = some v6
theorem Box7.keep {w w' : World} {B : Nat} {v0 v1 v2 v3 v4 v5 v6 : Value} (h : Box7 w B v0 v1 v2 v3 v4 v5 v6) (hlt : B < w'.heap.size) (hc : ∀ o, w'.cell? ⟨B, o, none⟩ = w.cell? ⟨B, o, none⟩) : Box7 w' B v0 v1 v2 v3 v4 v5 v6 :=
  ⟨hlt, (hc 0).trans h.c0, (hc 1).trans h.c1, (hc 2).trans h.c2, (hc 3).trans h.c3, (hc 4).trans h.c4, (hc 5).trans h.c5, (hc 6).trans h.c6⟩
theorem Box7.below {w w' : World} {B : Nat} {v0 v1 v2 v3 v4 v5 v6 : Value} (h : Box7 w B v0 v1 v2 v3 v4 v5 v6) (hb : Below w.heap.size w w') : Box7 w' B v0 v1 v2 v3 v4 v5 v6 :=
  h.keep (Nat.lt_of_lt_of_le h.lt hb.size) (fun o => hb.cell (p := ⟨B, o, none⟩) h.lt)
theorem box7_new (w : World) (v0 v1 v2 v3 v4 v5 v6 : Value) (t : TypeId) : Box7 (w.alloc (.cells #[v0, v1, v2, v3, v4, v5, v6] t)) w.heap.size v0 v1 v2 v3 v4 v5 v6 := by
  have hb : (w.alloc (.cells #[v0, v1, v2, v3, v4, v5, v6] t)).heap[w.heap.size]? = some (.cells #[v0, v1, v2, v3, v4, v5, v6] t) := by
    rw [World.alloc]
    exact Array.getElem?_push_size
  refine ⟨by simp, ?_, ?_, ?_, ?_, ?_, ?_, ?_⟩ <;> (simp only [World.cell?, hb]; rfl)
theorem bel_alloc (w : World) (o : Obj) : Below w.heap.size w (w.alloc o) := (Below.refl _ _).alloc (Nat.le_refl _) _
theorem Below.on {w w1 w2 : World} (h1 : Below w.heap.size w w1) (h2 : Below w1.heap.size w1 w2) : Below w.heap.size w w2 := h1.trans (h2.mono h1.size)
theorem Below.onA {w w1 : World} {o : Obj} (h1 : Below w.heap.size w w1) : Below w.heap.size w (w1.alloc o) := h1.trans ((bel_alloc w1 o).mono h1.size)
theorem Box7.set3 {w : World} {B : Nat} {v0 v1 v2 v3 v4 v5 v6 v : Value} (h : Box7 w B v0 v1 v2 v3 v4 v5 v6) : Box7 (w.setCell ⟨B, 3, none⟩ v) B v0 v1 v2 v v4 v5 v6 := by
  obtain ⟨hl, c0, c1, c2, c3, c4, c5, c6⟩ := h
  refine ⟨by simpa using hl, ?_, ?_, ?_, ?_, ?_, ?_, ?_⟩ <;> simp [go_sem, *]
theorem Box7.set4 {w : World} {B : Nat} {v0 v1 v2 v3 v4 v5 v6 v : Value} (h : Box7 w B v0 v1 v2 v3 v4 v5 v6) : Box7 (w.setCell ⟨B, 4, none⟩ v) B v0 v1 v2 v3 v v5 v6 := by
  obtain ⟨hl, c0, c1, c2, c3, c4, c5, c6⟩ := h
  refine ⟨by simpa using hl, ?_, ?_, ?_, ?_, ?_, ?_, ?_⟩ <;> simp [go_sem, *]
theorem Box7.other {w : World} {B b o : Nat} {v0 v1 v2 v3 v4 v5 v6 v : Value} (h : Box7 w B v0 v1 v2 v3 v4 v5 v6) (hne : b ≠ B) : Box7 (w.setCell ⟨b, o, none⟩ v) B v0 v1 v2 v3 v4 v5 v6 :=
  h.keep (by simpa using h.lt) (fun o2 => World.cell?_setCell_other _ _ _ _ (by intro h; have h2 := congrArg Addr.block h; simp only at h2; omega))
end Go.Proofs.YtedahdncincgjaaGreatDoor
/- A list of aces (a bool and four numbers each) that lies in a world; right aces and lists of them. Nothing here names a program. -/
namespace Go.Proofs.YtedahdncincgjaaGreatDoor
open Go.RowKit Go.PlainAid Go.ChangeShapes Go.WideShapes Go.ChangeAt Go.Joins Go.Deep
set_option linter.unusedVariables false
/-- An ace. -/
structure Ac where
  al : Bool
  wh : Int
  id : Int
  fl : Int
  ma : Int
def acZ : Ac := ⟨false, 0, 0, 0, 0⟩
instance : Inhabited Ac := ⟨acZ⟩
def acAt (l : List Ac) (k : Nat) : Ac := l.getD k acZ
theorem acAt_get {l : List Ac} {k : Nat} (h : k < l.length) : acAt l k = l[k] := by simp [acAt, List.getD, h]
/-- Five cells that hold an ace. -/
structure Five (w : World) (b o : Nat) (x : Ac) : Prop where
  c0 : w.cell? ⟨b, o, none⟩ = some (.bool x.al)
  c1 : w.cell? ⟨b, o + 1, none⟩ = some (.int .i64 x.wh)
  c2 : w.cell? ⟨b, o + 2, none⟩ = some (.int .i64 x.id)
  c3 : w.cell? ⟨b, o + 3, none⟩ = some (.int .i64 x.fl)
  c4 : w.cell? ⟨b, o + 4, none⟩ = some (.int .i64 x.ma)
theorem Five.keep {w w' : World} {b o : Nat} {x : Ac} (h : Five w b o x) (hc : ∀ j, w'.cell? ⟨b, j, none⟩ = w.cell? ⟨b, j, none⟩) : Five w' b o x :=
  ⟨(hc _).trans h.c0, (hc _).trans h.c1, (hc _).trans h.c2, (hc _).trans h.c3, (hc _).trans h.c4⟩
theorem Five.below {w w' : World} {b o : Nat} {x : Ac} (h : Five w b o x) (hlt : b < w.heap.size) (hb : Below w.heap.size w w') : Five w' b o x :=
  h.keep (fun j => hb.cell (p := ⟨b, j, none⟩) hlt)
theorem Five.other {w : World} {b o b2 o2 : Nat} {x : Ac} {v : Value} (h : Five w b o x) (hne : b2 ≠ b) : Five (w.setCell ⟨b2, o2, none⟩ v) b o x :=
  h.keep (fun j => World.cell?_setCell_other _ _ _ _ (by intro h; have h2 := congrArg Addr.block h; simp only at h2; omega))
theorem five_new (w : World) (x : Ac) (t : TypeId) : Five (w.alloc (.cells #[.bool x.al, .int .i64 x.wh, .int .i64 x.id, .int .i64 x.fl, .int .i64 x.ma] t)) w.heap.size 0 x := by
  have hb : (w.alloc (.cells #[.bool x.al, .int .i64 x.wh, .int .i64 x.id, .int .i64 x.fl, .int .i64 x.ma] t)).heap[w.heap.size]? = some (.cells #[.bool x.al, .int .i64 x.wh, .int .i64 x.id, .int .i64 x.fl, .int .i64 x.ma] t) := by
    rw [World.alloc]
    exact Array.getElem?_push_size
  refine ⟨?_, ?_, ?_, ?_, ?_⟩ <;> (simp only [World.cell?, hb]; rfl)
/-- What a world holds of a list of aces. -/
def Acs (a : Option Addr) (len : Nat) (l : List Ac) (w : World) : Prop :=
  l.length = len ∧ (0 < len → ∃ b off, a = some ⟨b, off, none⟩ ∧ b < w.heap.size ∧ ∀ i, i < len → Five w b (off + i * 5) (acAt l i))
theorem Acs.below {a : Option Addr} {len : Nat} {l : List Ac} {w w' : World} (h : Acs a len l w) (hb : Below w.heap.size w w') : Acs a len l w' := by
  refine ⟨h.1, fun hl => ?_⟩
  obtain ⟨b, off, ha, hlt, hc⟩ := h.2 hl
  exact ⟨b, off, ha, Nat.lt_of_lt_of_le hlt hb.size, fun i hi => (hc i hi).below hlt hb⟩
/-- Flags that may stand there. -/
def flB (f : Int) : Bool := inR 0 15 f && (decide (f < 4) || !decide (f % 4 = 0))
/-- AceRight. -/
def aceB (x : Ac) : Bool := inR 1 5 x.wh && (inR 0 9999 x.id && ((!decide (x.wh < 4) || decide (x.id = 0)) && (flB x.fl && inR 1 255 x.ma)))
def allA (l : List Ac) : Nat → Bool
  | 0 => true
  | k + 1 => allA l k && aceB (acAt l k)
/-- NfsRight. -/
def acesB (l : List Ac) : Bool := decide (l.length ≤ 32) && allA l l.length
theorem allA_false {l : List Ac} {k n : Nat} (h : k < n) (hk : aceB (acAt l k) = false) : allA l n = false := by
  induction n with
  | zero => omega
  | succ n ih =>
    by_cases e : k = n
    · subst e; simp [allA, hk]
    · simp [allA, ih (by omega)]
theorem allA_at {l : List Ac} {k n : Nat} (h : k < n) (hk : allA l n = true) : aceB (acAt l k) = true := by
  cases e : aceB (acAt l k)
  · rw [allA_false h e] at hk; cases hk
  · rfl
theorem aces_no {l : List Ac} {k : Nat} (h : k < l.length) (hk : aceB (acAt l k) = false) : acesB l = false := by simp [acesB, allA_false h hk]
theorem aces_long {l : List Ac} (h : 32 < l.length) : acesB l = false := by
  have : ¬ l.length ≤ 32 := by omega
  simp [acesB, this]
theorem aces_yes {l : List Ac} (h : l.length ≤ 32) (hr : allA l l.length = true) : acesB l = true := by simp [acesB, h, hr]
theorem aces_len {l : List Ac} (h : acesB l = true) : l.length ≤ 32 := by
  simp [acesB] at h
  exact h.1
theorem aces_at {l : List Ac} {k : Nat} (h : acesB l = true) (hk : k < l.length) : aceB (acAt l k) = true := by
  simp [acesB] at h
  exact allA_at hk h.2
theorem aces_mem {l : List Ac} (h : acesB l = true) {x : Ac} (hx : x ∈ l) : aceB x = true := by
  obtain ⟨k, hk, rfl⟩ := List.mem_iff_getElem.1 hx
  rw [← acAt_get hk]
  exact aces_at h hk
theorem allA_next {l : List Ac} {k : Nat} (h : allA l k = true) (hk : aceB (acAt l k) = true) : allA l (k + 1) = true := by simp [allA, h, hk]
theorem aceB_iff {x : Ac} : aceB x = true ↔ (1 ≤ x.wh ∧ x.wh ≤ 5) ∧ (0 ≤ x.id ∧ x.id ≤ 9999) ∧ (x.wh < 4 → x.id = 0) ∧ ((0 ≤ x.fl ∧ x.fl ≤ 15) ∧ (x.fl < 4 ∨ x.fl % 4 ≠ 0)) ∧ (1 ≤ x.ma ∧ x.ma ≤ 255) := by
  simp only [aceB, flB, Bool.and_eq_true, inR_iff, Bool.or_eq_true, Bool.not_eq_true', decide_eq_true_eq, decide_eq_false_iff_not]
  constructor
  · rintro ⟨h1, h2, h3, h4, h5⟩
    exact ⟨h1, h2, fun h => h3.resolve_left (fun h6 => h6 h), h4, h5⟩
  · rintro ⟨h1, h2, h3, h4, h5⟩
    exact ⟨h1, h2, (Decidable.em (x.wh < 4)).elim (fun h => Or.inr (h3 h)) Or.inl, h4, h5⟩
end Go.Proofs.YtedahdncincgjaaGreatDoor
