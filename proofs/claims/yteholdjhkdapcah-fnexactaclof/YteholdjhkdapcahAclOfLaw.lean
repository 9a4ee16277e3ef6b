/- The law FnExactAclOf. -/
import Derived.Test.YteholdjhkdapcahAclOfWalks
import Derived.Test.YteholdjhkdapcahAclMark
import Derived.Test.YteholdjhkdapcahBox7
namespace Go.Proofs.Yteholdjhkdapcah
open Go.RowKit Go.PlainAid
set_option linter.unusedVariables false
theorem own_nil (w : World) : Own none 0 [] w := ⟨rfl, fun h => absurd h (by omega)⟩
theorem own_nil2 (k : Int) (w : World) : Own none 0 (marks k 0) w := ⟨rfl, fun h => absurd h (by omega)⟩
theorem eqAcl_nil (u g o : Int) (w : World) :
    Calls Try.prog 17 #[.agg #[.int .i64 u, .int .i64 g, .int .i64 o, .slice none 0 0, .slice none 0 0, .bool false, .int .i64 0], .agg #[.int .i64 u, .int .i64 g, .int .i64 o, .slice none 0 0, .slice none 0 0, .bool false, .int .i64 0]] w fun e w' => e = .returned (.bool true) ∧ Below w.heap.size w w' :=
  eqAcl_any u g o none none 0 0 0 none none 0 0 0 false 0 [] [] (by omega) (by omega) w (own_nil w).prs (own_nil w).prs (own_nil w).prs (own_nil w).prs
theorem markAcl_nil (u g o : Int) (w : World) :
    Calls Try.prog 20 #[.agg #[.int .i64 u, .int .i64 g, .int .i64 o, .slice none 0 0, .slice none 0 0, .bool false, .int .i64 0], .int .i64 1] w fun e w' => e = .returned (.int .i64 1) ∧ Below w.heap.size w w' :=
  (markAcl_any u g o none 0 0 none 0 0 false 0 [] [] 1 (by omega) (by omega) (by omega) (by omega) w (own_nil w) (own_nil w) (fun A e => by cases e) (fun A e => by cases e) (fun A A2 e => by cases e)).mono fun e w' ⟨h1, _, _, h4⟩ => ⟨by rw [h1]; rfl, h4.below _ (Nat.le_refl _) (fun A e => by cases e) (fun A e => by cases e)⟩
theorem heldAcl_nil (u g o : Int) (w : World) :
    Calls Try.prog 21 #[.agg #[.int .i64 u, .int .i64 g, .int .i64 o, .slice none 0 0, .slice none 0 0, .bool false, .int .i64 0], .int .i64 1] w fun e w' => e = .returned (.int .i64 1) ∧ Below w.heap.size w w' :=
  (heldAcl_any u g o none 0 0 none 0 0 false 0 1 (by omega) (by omega) (by omega) (by omega) w (own_nil2 _ w) (own_nil2 _ w)).mono fun e w' ⟨h1, h4⟩ => ⟨by rw [h1]; rfl, h4⟩
set_option maxHeartbeats 4000000 in
theorem aclOf_law (n : Int) (w : World) :
    Calls Try.prog 6 #[.int .i64 n] w fun e w' => e = .returned (.bool true) ∧ Below w.heap.size w w' := by
  go_enter Try.func6, Try.ntmps6
  go_wp2_with fail
  refine (sAclOf_any n _).mono ?_
  rintro e w1 ⟨rfl, hb1⟩
  have hX := box7_new w1 (.int .i64 (mU n)) (.int .i64 (mG n)) (.int .i64 (mO n)) (.slice none 0 0) (.slice none 0 0) (.bool false) (.int .i64 0) 36
  have hW1 : Hid (Below w.heap.size w (w1.alloc (.cells #[.int .i64 (mU n), .int .i64 (mG n), .int .i64 (mO n), .slice none 0 0, .slice none 0 0, .bool false, .int .i64 0] 36))) := Below.onA hb1
  clear hb1
  go_wp2_with fail
  refine (iAclOf_any n _).mono ?_
  rintro e w2 ⟨rfl, hb2⟩
  have hX2 := (hX.below hb2).below (bel_alloc w2 (.cells #[.int .i64 (mU n), .int .i64 (mG n), .int .i64 (mO n), .slice none 0 0, .slice none 0 0, .bool false, .int .i64 0] 36))
  obtain ⟨xl, x0, x1, x2, x3, x4, x5, x6⟩ := hX.below hb2
  have hY := box7_new w2 (.int .i64 (mU n)) (.int .i64 (mG n)) (.int .i64 (mO n)) (.slice none 0 0) (.slice none 0 0) (.bool false) (.int .i64 0) 36
  have hW2 : Hid (Below w.heap.size w (w2.alloc (.cells #[.int .i64 (mU n), .int .i64 (mG n), .int .i64 (mO n), .slice none 0 0, .slice none 0 0, .bool false, .int .i64 0] 36))) := Below.onA (Below.on hW1.out hb2)
  clear hb2 hW1 hX
  generalize w1.heap.size = X at xl x0 x1 x2 x3 x4 x5 x6 hX2 ⊢
  go_wp2_with fail
  refine (eqAcl_nil (mU n) (mG n) (mO n) _).mono ?_
  rintro e w3 ⟨rfl, hb3⟩
  have hX3 := hX2.below hb3
  have hY3 := hY.below hb3
  have hW3 : Hid (Below w.heap.size w w3) := Below.on hW2.out hb3
  clear xl x0 x1 x2 x3 x4 x5 x6 hX2 hW2 hY hb3
  generalize w2.heap.size = Y at hY3 ⊢
  obtain ⟨yl, y0, y1, y2, y3, y4, y5, y6⟩ := hY3
  go_wp2_with fail
  refine (markAcl_nil (mU n) (mG n) (mO n) _).mono ?_
  rintro e w4 ⟨rfl, hb4⟩
  have hX4 := hX3.below hb4
  have hY4 := (Box7.mk yl y0 y1 y2 y3 y4 y5 y6).below hb4
  have hW4 : Hid (Below w.heap.size w w4) := Below.on hW3.out hb4
  clear yl y0 y1 y2 y3 y4 y5 y6 hX3 hW3 hb4
  obtain ⟨yl, y0, y1, y2, y3, y4, y5, y6⟩ := hY4
  go_wp2_with fail
  refine (heldAcl_nil (mU n) (mG n) (mO n) _).mono ?_
  rintro e w5 ⟨rfl, hb5⟩
  have hX5 := hX4.below hb5
  have hY5 := (Box7.mk yl y0 y1 y2 y3 y4 y5 y6).below hb5
  have hW5 : Hid (Below w.heap.size w w5) := Below.on hW4.out hb5
  clear yl y0 y1 y2 y3 y4 y5 y6 hX4 hW4 hb5
  go_wp2_with fail
  refine (iAclOf_any n _).mono ?_
  rintro e w6 ⟨rfl, hb6⟩
  have hX6 := (hX5.below hb6)
  have hY6 := (hY5.below hb6).below (bel_alloc w6 (.cells #[.int .i64 (mU n), .int .i64 (mG n), .int .i64 (mO n), .slice none 0 0, .slice none 0 0, .bool false, .int .i64 0] 36))
  have hW6 : Hid (Below w.heap.size w (w6.alloc (.cells #[.int .i64 (mU n), .int .i64 (mG n), .int .i64 (mO n), .slice none 0 0, .slice none 0 0, .bool false, .int .i64 0] 36))) := Below.onA (Below.on hW5.out hb6)
  obtain ⟨xl, x0, x1, x2, x3, x4, x5, x6⟩ := hX6
  clear hb6 hX5 hY5 hW5
  go_wp2_with fail
  refine (eqAcl_nil (mU n) (mG n) (mO n) _).mono ?_
  rintro e w7 ⟨rfl, hb7⟩
  have hY7 := hY6.below hb7
  have hW7 : Hid (Below w.heap.size w w7) := Below.on hW6.out hb7
  clear xl x0 x1 x2 x3 x4 x5 x6 hY6 hW6 hb7
  obtain ⟨yl, y0, y1, y2, y3, y4, y5, y6⟩ := hY7
  go_wp2_with fail
  refine (heldAcl_nil (mU n) (mG n) (mO n) _).mono ?_
  rintro e w8 ⟨rfl, hb8⟩
  have hW8 : Hid (Below w.heap.size w w8) := Below.on hW7.out hb8
  clear yl y0 y1 y2 y3 y4 y5 y6 hW7 hb8
  go_wp2
  go_ret
  exact ⟨rfl, hW8.out⟩
end Go.Proofs.Yteholdjhkdapcah
