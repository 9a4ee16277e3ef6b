/- Of whom an ace is, read by the program: impl.readWho. -/
import Derived.Test.YtlngfaplimpilaaDoorRdSg
namespace Go.Proofs.YtlngfaplimpilaaDoor
open Go.RowKit Go.PlainAid Go.Deep
set_option linter.unusedVariables false
/-- What readWho ends in. -/
def WhoEnd (c : List UInt8) (w : World) (e : Ending) (w' : World) : Prop := (∃ (wh id : Nat) (ok : Bool), e = .returned (.tuple #[.int .i64 wh, .int .i64 id, .bool ok]) ∧ whoI c = (if ok then some (wh, id) else none)) ∧ Below w.heap.size w w'
theorem tl_ne {c : ByteArray} {l : List UInt8} (h : ¬ c.data.toList = l) : (c.toList == l) = false := by
  rw [ByteArray.toList_eq]
  exact beq_eq_false_iff_ne.2 h
theorem tl_eq {c : ByteArray} {l : List UInt8} (h : c.data.toList = l) : (c.toList == l) = true := by
  rw [ByteArray.toList_eq, h]
  simp
theorem tl_empty {c : ByteArray} (h : c.data.toList = []) : c.toList.isEmpty = true := by
  rw [ByteArray.toList_eq, h]
  rfl
theorem tail_text {c : ByteArray} (h : 0 < c.size) : (c.extract 1 c.size).data.toList = c.data.toList.tail := by
  have hl : c.data.toList.length = c.size := (Lib.size_eq c).symm
  rw [cut_text, ← hl, List.take_length]
  simp
theorem tup3 {a b : Nat} {ok : Bool} {c : List UInt8} {w w' : World} (h1 : whoI c = (if ok then some (a, b) else none)) (h2 : Below w.heap.size w w') : WhoEnd c w (.returned (.tuple #[.int .i64 a, .int .i64 b, .bool ok])) w' := ⟨⟨a, b, ok, rfl, h1⟩, h2⟩
set_option maxRecDepth 100000 in
set_option maxHeartbeats 2000000 in
theorem iRdWho_any (c : ByteArray) (hc : c.size ≤ 100000000) (w : World) : Calls Tryd.prog 102 #[.string c] w (WhoEnd c.data.toList w) := by
  have hl : c.data.toList.length = c.size := (Lib.size_eq c).symm
  by_cases h0 : c.data.toList = []
  · have e0 := tl_empty h0
    have hr : Hid (whoI c.data.toList = none) := (by show _ = _; rw [h0]; decide)
    clear h0 hl
    go_enter Tryd.func102, Tryd.ntmps102
    go_wp2
    go_ret3
    exact tup3 (ok := false) hr.out (Below.refl _ _)
  have hpos : 0 < c.size := by
    rcases Nat.eq_zero_or_pos c.size with e | e
    · exact absurd (List.eq_nil_of_length_eq_zero (by omega)) h0
    · exact e
  have e0 := full_text hpos
  by_cases h1 : c.data.toList = ownL
  · have e1 : (c.toList == [79, 87, 78, 69, 82, 64]) = true := tl_eq h1
    have hr : Hid (whoI c.data.toList = some (1, 0)) := (by show _ = _; rw [h1]; decide)
    clear h0 hl h1
    go_enter Tryd.func102, Tryd.ntmps102
    go_wp2
    go_ret3
    exact tup3 (ok := true) hr.out (Below.refl _ _)
  have e1 : (c.toList == [79, 87, 78, 69, 82, 64]) = false := tl_ne h1
  by_cases h2 : c.data.toList = grpL
  · have e2 : (c.toList == [71, 82, 79, 85, 80, 64]) = true := tl_eq h2
    have hr : Hid (whoI c.data.toList = some (2, 0)) := (by show _ = _; rw [h2]; decide)
    clear h0 hl h1 h2
    go_enter Tryd.func102, Tryd.ntmps102
    go_wp2
    go_ret3
    exact tup3 (ok := true) hr.out (Below.refl _ _)
  have e2 : (c.toList == [71, 82, 79, 85, 80, 64]) = false := tl_ne h2
  by_cases h3 : c.data.toList = evyL
  · have e3 : (c.toList == [69, 86, 69, 82, 89, 79, 78, 69, 64]) = true := tl_eq h3
    have hr : Hid (whoI c.data.toList = some (3, 0)) := (by show _ = _; rw [h3]; decide)
    clear h0 hl h1 h2 h3
    go_enter Tryd.func102, Tryd.ntmps102
    go_wp2
    go_ret3
    exact tup3 (ok := true) hr.out (Below.refl _ _)
  have e3 : (c.toList == [69, 86, 69, 82, 89, 79, 78, 69, 64]) = false := tl_ne h3
  have hh := head_at hpos
  have HW : Hid (whoI c.data.toList = if c[0] = 117 then (rdI c.data.toList.tail).map (fun n => (4, n)) else if c[0] = 103 then (rdI c.data.toList.tail).map (fun n => (5, n)) else none) := (by
    show _ = _
    rw [whoI, if_neg h0, if_neg h1, if_neg h2, if_neg h3, hh])
  have HI : Hid (∀ w, Calls Tryd.prog 91 #[.string (c.extract 1 c.size)] w fun e w' => e = .returned (optI (rdI c.data.toList.tail)) ∧ Below w.heap.size w w') := (fun w => by
    have := iReadId_any (c.extract 1 c.size) w
    rwa [tail_text hpos] at this)
  have hp1 : 1 ≤ (c.size : Int) := by omega
  clear hh h0 h1 h2 h3 hl
  by_cases hu : c[0] = 117
  · have u1 : (((c[0]).toNat : Int) == 117) = true := by rw [hu]; rfl
    have hr := HW.out
    rw [if_pos hu] at hr
    have HR : Hid _ := hr
    clear hr hu HW
    cases hri : rdI c.data.toList.tail with
    | none =>
      rw [hri] at HI HR
      simp only [optI] at HI
      go_enter Tryd.func102, Tryd.ntmps102
      go_wp2_with (go_at_call 91; refine (HI.out _).mono ?_; rintro e w1 ⟨rfl, hb1⟩)
      go_ret3
      exact tup3 (a := 4) (b := 0) (ok := false) HR.out hb1
    | some n =>
      rw [hri] at HI HR
      simp only [optI] at HI
      go_enter Tryd.func102, Tryd.ntmps102
      go_wp2_with (go_at_call 91; refine (HI.out _).mono ?_; rintro e w1 ⟨rfl, hb1⟩)
      go_ret3
      exact tup3 (a := 4) (b := n) (ok := true) HR.out hb1
  · have u1 : (((c[0]).toNat : Int) == 117) = false := byte_ne (y := 117) hu
    by_cases hg : c[0] = 103
    · have u2 : (((c[0]).toNat : Int) == 103) = true := by rw [hg]; rfl
      have hr := HW.out
      rw [if_neg hu, if_pos hg] at hr
      have HR : Hid _ := hr
      clear hr hu hg HW
      cases hri : rdI c.data.toList.tail with
      | none =>
        rw [hri] at HI HR
        simp only [optI] at HI
        go_enter Tryd.func102, Tryd.ntmps102
        go_wp2_with (go_at_call 91; refine (HI.out _).mono ?_; rintro e w1 ⟨rfl, hb1⟩)
        go_ret3
        exact tup3 (a := 5) (b := 0) (ok := false) HR.out hb1
      | some n =>
        rw [hri] at HI HR
        simp only [optI] at HI
        go_enter Tryd.func102, Tryd.ntmps102
        go_wp2_with (go_at_call 91; refine (HI.out _).mono ?_; rintro e w1 ⟨rfl, hb1⟩)
        go_ret3
        exact tup3 (a := 5) (b := n) (ok := true) HR.out hb1
    · have u2 : (((c[0]).toNat : Int) == 103) = false := byte_ne (y := 103) hg
      have hr := HW.out
      rw [if_neg hu, if_neg hg] at hr
      have HR : Hid _ := hr
      clear hr hu hg HW
      go_enter Tryd.func102, Tryd.ntmps102
      go_wp2
      go_ret3
      exact tup3 (a := 5) (b := 0) (ok := false) HR.out (Below.refl _ _)
end Go.Proofs.YtlngfaplimpilaaDoor
