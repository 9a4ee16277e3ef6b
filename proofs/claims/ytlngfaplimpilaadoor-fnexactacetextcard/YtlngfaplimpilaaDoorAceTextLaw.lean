/- The law FnExactAceText. -/
import Derived.Test.YtlngfaplimpilaaDoorAceTx2
namespace Go.Proofs.YtlngfaplimpilaaDoor
open Go.RowKit Go.PlainAid
set_option linter.unusedVariables false
set_option maxHeartbeats 4000000 in
theorem aceText_law (x : Ac) (w : World) (hp : PowW w) :
    Calls Tryd.prog 4 #[.agg #[.bool x.al, .int .i64 x.wh, .int .i64 x.id, .int .i64 x.fl, .int .i64 x.ma]] w fun e w' => e = .returned (.bool true) ∧ Below w.heap.size w w' := by
  have ht : Hid (∀ w, Calls Tryd.prog 22 #[.agg #[.bool x.al, .int .i64 x.wh, .int .i64 x.id, .int .i64 x.fl, .int .i64 x.ma]] w fun e w' => e = .returned (.agg #[.bool x.al, .int .i64 x.wh, .int .i64 x.id, .int .i64 x.fl, .int .i64 x.ma]) ∧ Below w.heap.size w w') := toAce_any x
  have HP : Hid (PowW w) := hp
  clear hp
  have hF := five_new w x 39
  have hB0 : Hid (Below w.heap.size w (w.alloc (.cells #[.bool x.al, .int .i64 x.wh, .int .i64 x.id, .int .i64 x.fl, .int .i64 x.ma] 39))) := bel_alloc _ _
  have hlt0 : w.heap.size < (w.alloc (.cells #[.bool x.al, .int .i64 x.wh, .int .i64 x.id, .int .i64 x.fl, .int .i64 x.ma] 39)).heap.size := by simp
  go_enter Tryd.func4, Tryd.ntmps4
  go_wp2_with fail
  refine (ht.out _).mono ?_
  rintro e w1 ⟨rfl, hb1⟩
  have hlt1 := Nat.lt_of_lt_of_le hlt0 hb1.size
  have hF1 := hF.below hlt0 hb1
  have hW1 : Hid (Below w.heap.size w w1) := Below.on hB0.out hb1
  clear hb1 hF hlt0 hB0
  go_wp2_with fail
  refine (sAceText_any x _).mono ?_
  rintro e w2 ⟨rfl, hb2⟩
  have hlt2 := Nat.lt_of_lt_of_le hlt1 hb2.size
  have hF2 := hF1.below hlt1 hb2
  obtain ⟨c0, c1, c2, c3, c4⟩ := hF2
  simp only [Nat.zero_add] at c1 c2 c3 c4
  have hW2 : Hid (Below w.heap.size w w2) := Below.on hW1.out hb2
  clear hb2 hF1 hlt1 hW1
  go_wp2_with fail
  refine (ht.out _).mono ?_
  rintro e w3 ⟨rfl, hb3⟩
  have hW3 : Hid (Below w.heap.size w w3) := Below.on hW2.out hb3
  clear hb3 c0 c1 c2 c3 c4 hlt2 hW2
  go_wp2_with fail
  refine (iAceText_any x _ (HP.out.below hW3.out)).mono ?_
  rintro e w4 ⟨rfl, hb4⟩
  have hW4 : Hid (Below w.heap.size w w4) := Below.on hW3.out hb4
  clear hb4 hW3
  generalize aceT x = b
  go_wp2
  go_ret
  exact ⟨rfl, hW4.out⟩
end Go.Proofs.YtlngfaplimpilaaDoor
