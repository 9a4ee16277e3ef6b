/- Laid together: WhoIs, AclMath, AlT. -/
import Derived.Test.YtgodbelcddgdmaaGreatRows
import Derived.PlainAid
import Derived.WalkKit
import Derived.WalkSpells
import Derived.WalkLawsBesides
import Derived.Below
import Derived.WideShapes
import Derived.ChangeArms
import Derived.Lib.SmallJoins
import Derived.Deep.SlicePairs
/- The little tests of a number against its limits, the program's and the specification's: each answers whether the number is from the one limit to the other. -/
namespace Go.Proofs.YtgodbelcddgdmaaGreat
open Go.RowKit Go.PlainAid
set_option linter.unusedVariables false
theorem ret_boolW {a b : Bool} (h : a = b) : Ending.returned (.bool a) = .returned (.bool b) := by rw [h]
/-- Is n from lo to hi? -/
def inR (lo hi n : Int) : Bool := decide (lo ≤ n) && decide (n ≤ hi)
theorem inR_yes {lo hi n : Int} (h0 : lo ≤ n) (h1 : n ≤ hi) : inR lo hi n = true := by simp [inR, *]
theorem inR_no {lo hi n : Int} (h : ¬ (lo ≤ n ∧ n ≤ hi)) : inR lo hi n = false := by
  cases e : inR lo hi n
  · rfl
  · simp [inR] at e
    exact absurd e h
theorem inR_iff {lo hi n : Int} : inR lo hi n = true ↔ lo ≤ n ∧ n ≤ hi := by simp [inR]
theorem isId_any (n : Int) (w : World) :
    Calls Tryz.prog 81 #[.int .i64 n] w fun e w' => e = .returned (.bool (inR 0 9999 n)) ∧ w' = w := by
  go_enter Tryz.func81, Tryz.ntmps81
  go_wp2
  · go_ret
    exact ⟨ret_boolW (by simp [inR, *]), rfl⟩
  · go_ret
    exact ⟨ret_boolW (by have h : ¬ 0 ≤ n := by omega
                         simp [inR, h]), rfl⟩
theorem isBits_any (n : Int) (w : World) :
    Calls Tryz.prog 93 #[.int .i64 n] w fun e w' => e = .returned (.bool (inR 0 7 n)) ∧ w' = w := by
  go_enter Tryz.func93, Tryz.ntmps93
  go_wp2
  · go_ret
    exact ⟨ret_boolW (by simp [inR, *]), rfl⟩
  · go_ret
    exact ⟨ret_boolW (by have h : ¬ 0 ≤ n := by omega
                         simp [inR, h]), rfl⟩
theorem sIs_any (n lo hi : Int) (w : World) :
    Calls Tryz.prog 33 #[.int .i64 n, .int .i64 lo, .int .i64 hi] w fun e w' => e = .returned (.bool (inR lo hi n)) ∧ w' = w := by
  go_enter Tryz.func33, Tryz.ntmps33
  go_wp2
  · go_ret
    exact ⟨ret_boolW (by simp [inR, *]), rfl⟩
  · go_ret
    exact ⟨ret_boolW (by have h : ¬ lo ≤ n := by omega
                         simp [inR, h]), rfl⟩
theorem sId_any (n : Int) (w : World) :
    Calls Tryz.prog 53 #[.int .i64 n] w fun e w' => e = .returned (.bool (inR 0 9999 n)) ∧ w' = w := by
  go_enter Tryz.func53, Tryz.ntmps53
  go_wp2_with (go_at_call 33; refine (sIs_any _ _ _ _).mono ?_; rintro e w' ⟨rfl, rfl⟩)
  go_ret
  exact ⟨rfl, rfl⟩
theorem sBits_any (n : Int) (w : World) :
    Calls Tryz.prog 70 #[.int .i64 n] w fun e w' => e = .returned (.bool (inR 0 7 n)) ∧ w' = w := by
  go_enter Tryz.func70, Tryz.ntmps70
  go_wp2_with (go_at_call 33; refine (sIs_any _ _ _ _).mono ?_; rintro e w' ⟨rfl, rfl⟩)
  go_ret
  exact ⟨rfl, rfl⟩
end Go.Proofs.YtgodbelcddgdmaaGreat
/- A list of pairs of numbers that lies in a world; lists of names, right or not. Nothing here names a program. -/
namespace Go.Proofs.YtgodbelcddgdmaaGreat
open Go.RowKit Go.PlainAid Go.ChangeShapes Go.WideShapes Go.ChangeAt Go.Joins Go.Deep
set_option linter.unusedVariables false
def idAt (l : List (Int × Int)) (k : Nat) : Int := (l.getD k (0, 0)).1
def btAt (l : List (Int × Int)) (k : Nat) : Int := (l.getD k (0, 0)).2
/-- What a world holds of a list of pairs. -/
def Prs (a : Option Addr) (len : Nat) (l : List (Int × Int)) (w : World) : Prop :=
  l.length = len ∧ (0 < len → ∃ b off, a = some ⟨b, off, none⟩ ∧ b < w.heap.size ∧ ∀ i, i < len → w.cell? ⟨b, off + i * 2, none⟩ = some (.int .i64 (idAt l i)) ∧ w.cell? ⟨b, off + i * 2 + 1, none⟩ = some (.int .i64 (btAt l i)))
theorem Prs.below {a : Option Addr} {len : Nat} {l : List (Int × Int)} {w w' : World} (h : Prs a len l w) (hb : Below w.heap.size w w') : Prs a len l w' := by
  refine ⟨h.1, fun hl => ?_⟩
  obtain ⟨b, off, ha, hlt, hc⟩ := h.2 hl
  exact ⟨b, off, ha, Nat.lt_of_lt_of_le hlt hb.size, fun i hi => ⟨(hb.cell (p := ⟨b, off + i * 2, none⟩) hlt).trans (hc i hi).1, (hb.cell (p := ⟨b, off + i * 2 + 1, none⟩) hlt).trans (hc i hi).2⟩⟩
/-- The pair at place k may stand there. -/
def okN (l : List (Int × Int)) (k : Nat) : Bool := inR 0 9999 (idAt l k) && (inR 0 7 (btAt l k) && (k == 0 || decide (idAt l (k - 1) < idAt l k)))
def nmRises (l : List (Int × Int)) : Nat → Bool
  | 0 => true
  | k + 1 => nmRises l k && okN l k
/-- At most six, rising. -/
def nmB (l : List (Int × Int)) : Bool := decide (l.length ≤ 6) && nmRises l l.length
theorem nmRises_false {l : List (Int × Int)} {k n : Nat} (h : k < n) (hk : okN l k = false) : nmRises l n = false := by
  induction n with
  | zero => omega
  | succ n ih =>
    by_cases e : k = n
    · subst e; simp [nmRises, hk]
    · simp [nmRises, ih (by omega)]
theorem nm_no {l : List (Int × Int)} {k : Nat} (h : k < l.length) (hk : okN l k = false) : nmB l = false := by simp [nmB, nmRises_false h hk]
theorem nm_long {l : List (Int × Int)} (h : 6 < l.length) : nmB l = false := by
  have : ¬ l.length ≤ 6 := by omega
  simp [nmB, this]
theorem nm_yes {l : List (Int × Int)} (h : l.length ≤ 6) (hr : nmRises l l.length = true) : nmB l = true := by simp [nmB, h, hr]
theorem nmRises_next {l : List (Int × Int)} {k : Nat} (h : nmRises l k = true) (hk : okN l k = true) : nmRises l (k + 1) = true := by simp [nmRises, h, hk]
theorem okN_id {l : List (Int × Int)} {k : Nat} (h : inR 0 9999 (idAt l k) = false) : okN l k = false := by simp [okN, h]
theorem okN_bt {l : List (Int × Int)} {k : Nat} (h : inR 0 7 (btAt l k) = false) : okN l k = false := by simp [okN, h]
theorem okN_first {l : List (Int × Int)} (h : inR 0 9999 (idAt l 0) = true) (h1 : inR 0 7 (btAt l 0) = true) : okN l 0 = true := by simp [okN, h, h1]
theorem okN_up {l : List (Int × Int)} {k : Nat} (h : inR 0 9999 (idAt l (k + 1)) = true) (h1 : inR 0 7 (btAt l (k + 1)) = true) (h2 : idAt l k < idAt l (k + 1)) : okN l (k + 1) = true := by simp [okN, h, h1, h2]
theorem okN_down {l : List (Int × Int)} {k : Nat} (h1 : ¬ idAt l k < idAt l (k + 1)) : okN l (k + 1) = false := by simp [okN, h1]
/-- AclRight. -/
def aclB (u g o : Int) (us gs : List (Int × Int)) (r : Bool) (m : Int) : Bool :=
  inR 0 7 u && (inR 0 7 g && (inR 0 7 o && (inR 0 7 m && (nmB us && (nmB gs && (r || (m == 0 && (us.length == 0 && gs.length == 0))))))))
/-- A struct of one-cell fields, by value, opened: each field's cell with its reading. -/
theorem open_aggN {H : Type} {enc : TypeId × Value → H} {P : Program} {w : World} {base : Nat} {spare : Nat → Bool} {held : Bool} {r : Reach} {b0 : Nat} {t : TypeId} {fs : Array Field} {v : Value} {d : DataW H} {p : List MemPlace}
    (hs : P.underlying t = some (.struct fs)) (hone : oneCellFields P fs = true) (hC : P.cellsOf t = fs.size) (hv : Value.okWide P w r b0 t v) (h : DataW.Trod enc P w base spare held t v d p) :
    ∃ (cs : List Value) (n : Nat), v = .agg cs.toArray ∧ cs.length = fs.size ∧ ∀ (i : Nat) (f : Field) (c : Value), fs[i]? = some f → cs[i]? = some c → ∃ y, DataW.trod enc P w base spare held n f.type [c] = some y := by
  obtain ⟨cs, rfl, hsz⟩ := okWide_struct hs hv
  obtain ⟨fuel, hf⟩ := h
  obtain ⟨xs, n, _, _, _, hxl, hx⟩ := DataW.trod_struct hs hf
  refine ⟨cs.toList, n, by simp, by simp [hsz, hC], fun i f c hfi hci => ?_⟩
  obtain ⟨o0, k0⟩ := hone_of hone i f hfi
  have h1 := hx i f hfi
  have hi : i < fs.size := (Array.getElem?_eq_some_iff.1 hfi).1
  refine ⟨xs[i]'(by omega), ?_⟩
  rw [List.getElem?_eq_getElem (by omega)] at h1
  rw [← h1]
  have e : List.take (P.cellsOf f.type) (List.drop f.offset (Value.agg cs).cells.toList) = [c] := by
    rw [o0, k0]
    obtain ⟨hl, e⟩ := List.getElem?_eq_some_iff.1 hci
    have : (Value.agg cs).cells.toList = cs.toList := by simp [Value.cells]
    rw [this, List.drop_eq_getElem_cons hl, e]
    rfl
  rw [e]
theorem idAt_map (q : Nat → Int × Int) (len i : Nat) (h : i < len) : idAt ((List.range len).map q) i = (q i).1 := by simp [idAt, List.getD, h]
theorem btAt_map (q : Nat → Int × Int) (len i : Nat) (h : i < len) : btAt ((List.range len).map q) i = (q i).2 := by simp [btAt, List.getD, h]
/-- A slice of pairs of numbers, opened as a list. -/
theorem open_prs {H : Type} {enc : TypeId × Value → H} {P : Program} {w : World} {base : Nat} {spare : Nat → Bool} {held : Bool} {t e : TypeId} {f0 f1 : Field} {fuel : Nat} {c : Value} {x : DataW H × List MemPlace}
    (ht : P.underlying t = some (.slice e)) (he : P.underlying e = some (.struct #[f0, f1])) (ce : P.cellsOf e = 2) (o0 : f0.offset = 0) (o1 : f1.offset = 1) (c0 : P.cellsOf f0.type = 1) (c1 : P.cellsOf f1.type = 1)
    (i0 : P.underlying f0.type = some (.int .i64)) (i1 : P.underlying f1.type = some (.int .i64)) (h : DataW.trod enc P w base spare held fuel t [c] = some x) :
    ∃ (a : Option Addr) (len cap : Nat) (l : List (Int × Int)), c = .slice a len cap ∧ Prs a len l w ∧ len ≤ maxLen := by
  rcases open_slice_pairs ht he ce o0 o1 c0 c1 h with ⟨hc, _⟩ | ⟨a, len, cap, m, n, V0, V1, D0, D1, P0, P1, hc, _, hl, hm, hmm, _, hx⟩
  · exact ⟨none, 0, 0, [], by simpa using hc, ⟨rfl, fun h => absurd h (by omega)⟩, by omega⟩
  · have hlm : len ≤ m := by rw [hmm]; split <;> omega
    have each : ∀ i, i < len → ∃ q : Int × Int, w.cell? (a.add (i * 2)) = some (.int .i64 q.1) ∧ w.cell? (a.add (i * 2 + 1)) = some (.int .i64 q.2) := by
      intro i hi
      obtain ⟨g0, g1, t0, t1⟩ := hx i (by omega)
      obtain ⟨n0, e0, _, _⟩ := DataW.trod_int i0 t0
      obtain ⟨n1, e1, _, _⟩ := DataW.trod_int i1 t1
      simp at e0 e1
      exact ⟨(n0, n1), by rw [g0, e0], by rw [g1, e1]⟩
    obtain ⟨q, hq⟩ := choose_lt each
    refine ⟨some a, len, cap, (List.range len).map q, by simpa using hc, ⟨by simp, fun h0 => ?_⟩, by omega⟩
    obtain ⟨b, off, spot⟩ := a
    have hs : spot = none := by
      have := (hq 0 h0).1
      simpa [Addr.add] using World.cell?_spot this
    subst hs
    have hadd : ∀ i, (⟨b, off, none⟩ : Addr).add i = ⟨b, off + i, none⟩ := by
      intro i
      by_cases e : i = 0
      · subst e; simp [Addr.add]
      · simp [Addr.add, e]
    refine ⟨b, off, rfl, ?_, fun i hi => ?_⟩
    · have := (hq 0 h0).1
      rw [hadd] at this
      exact block_lt_of_cell this
    · obtain ⟨g0, g1⟩ := hq i hi
      rw [hadd] at g0 g1
      rw [idAt_map q len i hi, btAt_map q len i hi]
      exact ⟨g0, g1⟩
end Go.Proofs.YtgodbelcddgdmaaGreat
/- A list of names as a whole. -/
namespace Go.Proofs.YtgodbelcddgdmaaGreat
open Go.RowKit Go.PlainAid Go.Deep
set_option linter.unusedVariables false
/-- A list of names. -/
structure Al where
  u : Int
  g : Int
  o : Int
  us : List (Int × Int)
  gs : List (Int × Int)
  r : Bool
  m : Int
def alZ : Al := ⟨0, 0, 0, [], [], false, 0⟩
def Al.B (a : Al) : Bool := aclB a.u a.g a.o a.us a.gs a.r a.m
end Go.Proofs.YtgodbelcddgdmaaGreat
