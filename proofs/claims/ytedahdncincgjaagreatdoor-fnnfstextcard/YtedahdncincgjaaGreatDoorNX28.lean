/- Laid together: HasWalks, Which, NfsDr, NfsDrA. -/
import Derived.Test.YtedahdncincgjaaGreatDoorNX27
import Derived.Test.YtedahdncincgjaaGreatDoorNX25
/- The contracts of Has: the program's and the specification's both answer whether each number of the one set is in the other. -/
namespace Go.Proofs.YtedahdncincgjaaGreatDoor
open Go.RowKit Go.PlainAid
set_option linter.unusedVariables false
theorem hasZ_def (h v : Int) (h0 : inR 0 65535 h = true) (h1 : inR 0 65535 v = true) : hasZ h v = hasB h.toNat v.toNat := by
  rw [inR_iff] at h0 h1
  simp [hasZ, h0, h1]
theorem and_i64 (a b : Nat) (h1 : a ≤ 65535) (h2 : b ≤ 65535) : bits .and .i64 (a : Int) (b : Int) = ((a &&& b : Nat) : Int) := i64_and_nat a b (by omega) (by omega)
set_option maxHeartbeats 1000000 in
theorem iHas_any (h v : Int) (w : World) :
    Calls Tryz.prog 58 #[.int .i64 h, .int .i64 v] w fun e w' => e = .returned (.bool (hasZ h v)) ∧ w' = w := by
  cases e1 : inR 0 65535 h
  · have hy : Hid (hasZ h v = false) := hasZ_off (fun e => by rw [inR_yes e.1 e.2] at e1; cases e1)
    go_enter Tryz.func58, Tryz.ntmps58
    go_wp2_with (go_at_call 83; refine (isSet_any _ _).mono ?_; rintro e w' ⟨rfl, rfl⟩)
    go_ret
    exact ⟨ret_boolW hy.out.symm, rfl⟩
  · cases e2 : inR 0 65535 v
    · have hy : Hid (hasZ h v = false) := hasZ_off2 (fun e => by rw [inR_yes e.1 e.2] at e2; cases e2)
      go_enter Tryz.func58, Tryz.ntmps58
      go_wp2_with (go_at_call 83; refine (isSet_any _ _).mono ?_; rintro e w' ⟨rfl, rfl⟩)
      go_ret
      exact ⟨ret_boolW hy.out.symm, rfl⟩
    · have hy : Hid (hasZ h v = hasB h.toNat v.toNat) := hasZ_def h v e1 e2
      obtain ⟨a, rfl⟩ := Int.eq_ofNat_of_zero_le (inR_iff.mp e1).1
      obtain ⟨b, rfl⟩ := Int.eq_ofNat_of_zero_le (inR_iff.mp e2).1
      have hab := and_i64 a b (by have := (inR_iff.mp e1).2; omega) (by have := (inR_iff.mp e2).2; omega)
      have hz : Hid ((((a &&& b : Nat) : Int) == (b : Int)) = hasB a b) := (show (((a &&& b : Nat) : Int) == (b : Int)) = hasB a b by unfold hasB; rw [Bool.eq_iff_iff]; simp only [beq_iff_eq]; omega)
      go_enter Tryz.func58, Tryz.ntmps58
      go_wp2_with (go_at_call 83; refine (isSet_any _ _).mono ?_; rintro e w' ⟨rfl, rfl⟩)
      go_ret
      exact ⟨ret_boolW (hz.out.trans hy.out.symm), rfl⟩
end Go.Proofs.YtedahdncincgjaaGreatDoor
/- impl.groupOrOther: by the group, and the named groups, or as others. -/
namespace Go.Proofs.YtedahdncincgjaaGreatDoor
open Go.RowKit Go.PlainAid Go.Deep
set_option linter.unusedVariables false
/-- Four cells of a block. -/
structure Box4 (w : World) (B : Nat) (v0 v1 v2 v3 : Value) : Prop where
  lt : B < w.heap.size
  c0 : w.cell? ⟨B, 0, none⟩ = some v0
  c1 : w.cell? ⟨B, 1, none⟩ = some v1
  c2 : w.cell? ⟨B, 2, none⟩ = some v2
  c3 : w.cell? ⟨B, 3, none⟩ = some v3
theorem Box4.below {w w' : World} {B : Nat} {v0 v1 v2 v3 : Value} (h : Box4 w B v0 v1 v2 v3) (hb : Below w.heap.size w w') : Box4 w' B v0 v1 v2 v3 :=
  ⟨Nat.lt_of_lt_of_le h.lt hb.size, (hb.cell (p := ⟨B, 0, none⟩) h.lt).trans h.c0, (hb.cell (p := ⟨B, 1, none⟩) h.lt).trans h.c1, (hb.cell (p := ⟨B, 2, none⟩) h.lt).trans h.c2, (hb.cell (p := ⟨B, 3, none⟩) h.lt).trans h.c3⟩
theorem rowL_acs {w : World} {B : Nat} {la : Option Addr} {lc : Nat} {l : List Ac} (h : w.ownsRow B 24 5 (.slice la l.length lc) l.length (pcA l)) : Acs la l.length l w := by
  obtain ⟨a', c', e, ho, _⟩ := ownA_of_row h
  cases e
  exact ho.acs
/-- A result block of five cells. -/
structure Fr5 (w : World) (B : Nat) (x : Ac) : Prop where
  lt : B < w.heap.size
  f : Five w B 0 x
  z : ∀ o, w.frozen? ⟨B, o, none⟩ = false
theorem Fr5.keep {w w' : World} {B : Nat} {x : Ac} (h : Fr5 w B x) (hs : w.heap.size ≤ w'.heap.size) (hb : w'.heap[B]? = w.heap[B]?) : Fr5 w' B x :=
  ⟨Nat.lt_of_lt_of_le h.lt hs, h.f.keep (fun j => by simp only [World.cell?, hb]), fun o => by have := h.z o; simp only [World.frozen?, hb] at this ⊢; exact this⟩
theorem Fr5.below {w w' : World} {B : Nat} {x : Ac} (h : Fr5 w B x) (hb : Below w.heap.size w w') : Fr5 w' B x := h.keep hb.size (hb.block B h.lt)
theorem fr5_new (w : World) (x : Ac) (t : TypeId) : Fr5 (w.alloc (.cells #[.bool x.al, .int .i64 x.wh, .int .i64 x.id, .int .i64 x.fl, .int .i64 x.ma] t)) w.heap.size x :=
  ⟨by simp, five_new w x t, fun o => lit_frozen _ _ _ _⟩
theorem Fr5.sets {w : World} {B : Nat} {x : Ac} (h : Fr5 w B x) (y : Ac) : Five (set5 w B 0 y) B 0 y := five_set5 h.f
end Go.Proofs.YtedahdncincgjaaGreatDoor
