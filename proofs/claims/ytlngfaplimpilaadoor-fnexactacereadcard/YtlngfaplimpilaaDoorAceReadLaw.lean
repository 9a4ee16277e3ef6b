/- The law FnExactAceRead, of a text that is not too long, and of one that is. -/
import Derived.Test.YtlngfaplimpilaaDoorAceRd
namespace Go.Proofs.YtlngfaplimpilaaDoor
open Go.RowKit Go.PlainAid Go.Deep
set_option linter.unusedVariables false
set_option maxHeartbeats 2000000 in
theorem aceRead_long (s : ByteArray) (hl : 1048576 < s.size) (hm : s.size ≤ 9223372036854775807) (w : World) :
    Calls Tryd.prog 5 #[.string s] w fun e w' => e = .returned (.bool true) ∧ Below w.heap.size w w' := by
  have hl' : (1048576 : Int) < (s.size : Int) := by omega
  clear hl hm
  go_enter Tryd.func5, Tryd.ntmps5
  go_wp2
  go_ret
  exact ⟨rfl, Below.refl _ _⟩
theorem six_new (w : World) (x : Ac) (c : Int) (t : TypeId) : Five (w.alloc (.cells #[.bool x.al, .int .i64 x.wh, .int .i64 x.id, .int .i64 x.fl, .int .i64 x.ma, .int .i64 c] t)) w.heap.size 0 x ∧ (w.alloc (.cells #[.bool x.al, .int .i64 x.wh, .int .i64 x.id, .int .i64 x.fl, .int .i64 x.ma, .int .i64 c] t)).cell? ⟨w.heap.size, 5, none⟩ = some (.int .i64 c) := by
  have hb : (w.alloc (.cells #[.bool x.al, .int .i64 x.wh, .int .i64 x.id, .int .i64 x.fl, .int .i64 x.ma, .int .i64 c] t)).heap[w.heap.size]? = some (.cells #[.bool x.al, .int .i64 x.wh, .int .i64 x.id, .int .i64 x.fl, .int .i64 x.ma, .int .i64 c] t) := by
    rw [World.alloc]
    exact Array.getElem?_push_size
  refine ⟨⟨?_, ?_, ?_, ?_, ?_⟩, ?_⟩ <;> (simp only [World.cell?, hb]; rfl)
set_option maxHeartbeats 2000000 in
theorem eqAceOut_same (x : Ac) (c : Int) (w : World) :
    Calls Tryd.prog 26 #[.agg #[.bool x.al, .int .i64 x.wh, .int .i64 x.id, .int .i64 x.fl, .int .i64 x.ma, .int .i64 c], .agg #[.bool x.al, .int .i64 x.wh, .int .i64 x.id, .int .i64 x.fl, .int .i64 x.ma, .int .i64 c]] w fun e w' => e = .returned (.bool true) ∧ Below w.heap.size w w' := by
  have hE : Hid (∀ w, Calls Tryd.prog 68 #[.agg #[.bool x.al, .int .i64 x.wh, .int .i64 x.id, .int .i64 x.fl, .int .i64 x.ma], .agg #[.bool x.al, .int .i64 x.wh, .int .i64 x.id, .int .i64 x.fl, .int .i64 x.ma]] w fun e w' => e = .returned (.bool true) ∧ Below w.heap.size w w') := eqAce_same x
  have hcc : (c != c) = false := by simp
  go_enter Tryd.func26, Tryd.ntmps26
  obtain ⟨hF1, hC1⟩ := six_new w x c 45
  obtain ⟨hF2, hC2⟩ := six_new (w.alloc (.cells #[.bool x.al, .int .i64 x.wh, .int .i64 x.id, .int .i64 x.fl, .int .i64 x.ma, .int .i64 c] 45)) x c 45
  go_wp2_with fail
  refine (hE.out _).mono ?_
  rintro e w1 ⟨rfl, hb1⟩
  have hB : Hid (Below w.heap.size w w1) := Below.on (bl2A _ _ _) hb1
  have d1 := (hb1.cell (p := ⟨w.heap.size, 5, none⟩) (by simp; omega)).trans (((bel_alloc _ _).cell (p := ⟨w.heap.size, 5, none⟩) (by simp)).trans hC1)
  have d2 : w1.cell? ⟨w.heap.size + 1, 5, none⟩ = some (.int .i64 c) := by
    have h3 := (hb1.cell (p := ⟨(w.alloc (.cells #[.bool x.al, .int .i64 x.wh, .int .i64 x.id, .int .i64 x.fl, .int .i64 x.ma, .int .i64 c] 45)).heap.size, 5, none⟩) (by simp)).trans hC2
    have e : (w.alloc (.cells #[.bool x.al, .int .i64 x.wh, .int .i64 x.id, .int .i64 x.fl, .int .i64 x.ma, .int .i64 c] 45)).heap.size = w.heap.size + 1 := by simp
    rwa [e] at h3
  clear hF1 hF2 hC1 hC2 hb1
  go_wp2
  go_ret
  exact ⟨rfl, hB.out⟩
set_option maxRecDepth 100000 in
set_option maxHeartbeats 4000000 in
theorem aceRead_short (s : ByteArray) (m : Int) (hl : s.size ≤ 1048576) (w : World) (hm : w.cell? ⟨1, 0, none⟩ = some (.int .i64 m)) :
    Calls Tryd.prog 5 #[.string s] w fun e w' => e = .returned (.bool true) ∧ Below w.heap.size w w' := by
  have hlt := block_lt_of_cell hm
  have hl' : ¬ (1048576 : Int) < (s.size : Int) := by omega
  have HS := sAceRead_any s hl w
  have HI : ∀ w', Below w.heap.size w w' → _ := fun w' hb => iAceRead_any s m hl w' ((hb.cell (p := ⟨_, 0, none⟩) hlt).trans hm)
  generalize (aceO s.data.toList).1 = x at HS HI
  generalize (aceO s.data.toList).2 = c at HS HI
  have HS' : Hid (Calls Tryd.prog 24 #[.string s] w fun e w' => e = .returned (.agg #[.bool x.al, .int .i64 x.wh, .int .i64 x.id, .int .i64 x.fl, .int .i64 x.ma, .int .i64 c]) ∧ Below w.heap.size w w') := HS
  have HI' : Hid (∀ w', Below w.heap.size w w' → Calls Tryd.prog 25 #[.string s] w' fun e w'' => e = .returned (.agg #[.bool x.al, .int .i64 x.wh, .int .i64 x.id, .int .i64 x.fl, .int .i64 x.ma, .int .i64 c]) ∧ Below w'.heap.size w' w'') := HI
  have HE : Hid (∀ w, Calls Tryd.prog 26 #[.agg #[.bool x.al, .int .i64 x.wh, .int .i64 x.id, .int .i64 x.fl, .int .i64 x.ma, .int .i64 c], .agg #[.bool x.al, .int .i64 x.wh, .int .i64 x.id, .int .i64 x.fl, .int .i64 x.ma, .int .i64 c]] w fun e w' => e = .returned (.bool true) ∧ Below w.heap.size w w') := eqAceOut_same x c
  clear HS HI hlt hm hl
  go_enter Tryd.func5, Tryd.ntmps5
  go_wp2_with fail
  refine HS'.out.mono ?_
  rintro e w1 ⟨rfl, hb1⟩
  have hb2 : Hid (Below w.heap.size w (w1.alloc (.cells #[.bool x.al, .int .i64 x.wh, .int .i64 x.id, .int .i64 x.fl, .int .i64 x.ma, .int .i64 c] 45))) := Below.onA hb1
  have hs2 := six_new w1 x c 45
  have HS2 : Hid _ := hs2
  clear hs2 hb1
  go_wp2_with fail
  refine (HI'.out _ hb2.out).mono ?_
  rintro e w3 ⟨rfl, hb3⟩
  have hW3 : Hid (Below w.heap.size w w3) := Below.on hb2.out hb3
  have hF3 := HS2.out.1.below (by simp) hb3
  have hC3 := (hb3.cell (p := ⟨w1.heap.size, 5, none⟩) (by simp)).trans HS2.out.2
  have hlt3 : w1.heap.size < w3.heap.size := Nat.lt_of_lt_of_le (by simp) hb3.size
  obtain ⟨c0, c1, c2, c3, c4⟩ := hF3
  simp only [Nat.zero_add] at c0 c1 c2 c3 c4
  clear hb3 HS2 hb2 HI' HS'
  go_wp2_with fail
  refine (HE.out _).mono ?_
  rintro e w4 ⟨rfl, hb4⟩
  have hW4 : Hid (Below w.heap.size w w4) := Below.on (Below.onA hW3.out) hb4
  clear hb4
  go_wp2
  go_ret
  exact ⟨rfl, hW4.out⟩
end Go.Proofs.YtlngfaplimpilaaDoor
