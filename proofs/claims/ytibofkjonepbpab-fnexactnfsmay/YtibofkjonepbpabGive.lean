/- impl.ofAsker, impl.given: what a list in order gives somebody. -/
import Derived.Test.YtibofkjonepbpabHoldK
import Derived.Test.YtibofkjonepbpabInGroupWalks
import Derived.Test.YtibofkjonepbpabRmMath
namespace Go.Proofs.Ytibofkjonepbpab
open Go.RowKit Go.PlainAid Go.Shelf
set_option linter.unusedVariables false
attribute [local go_sem] Oper.semAt_some
/-- It is of somebody. -/
def askB (owner group u g : Int) (len : Nat) (f : Nat → Int) (x : Ac) : Bool :=
  if x.wh = 1 then u == owner else if x.wh = 2 then inGB u g len f group else if x.wh = 3 then true else if x.wh = 4 then u == x.id else if x.wh = 5 then inGB u g len f x.id else false
/-- Four cells of a block. -/
structure Box4A (w : World) (B : Nat) (v0 v1 v2 v3 : Value) : Prop where
  lt : B < w.heap.size
  c0 : w.cell? ⟨B, 0, none⟩ = some v0
  c1 : w.cell? ⟨B, 1, none⟩ = some v1
  c2 : w.cell? ⟨B, 2, none⟩ = some v2
  c3 : w.cell? ⟨B, 3, none⟩ = some v3
theorem Box4A.keep {w w' : World} {B : Nat} {v0 v1 v2 v3 : Value} (h : Box4A w B v0 v1 v2 v3) (hlt : B < w'.heap.size) (hc : ∀ o, w'.cell? ⟨B, o, none⟩ = w.cell? ⟨B, o, none⟩) : Box4A w' B v0 v1 v2 v3 := ⟨hlt, (hc 0).trans h.c0, (hc 1).trans h.c1, (hc 2).trans h.c2, (hc 3).trans h.c3⟩
theorem Box4A.below {w w' : World} {B : Nat} {v0 v1 v2 v3 : Value} (h : Box4A w B v0 v1 v2 v3) {n : Nat} (hn : B < n) (hb : Below n w w') : Box4A w' B v0 v1 v2 v3 :=
  h.keep (Nat.lt_of_lt_of_le h.lt hb.size) (fun o => hb.cell (p := ⟨B, o, none⟩) hn)
theorem box4A_new (w : World) (v0 v1 v2 v3 : Value) (t : TypeId) : Box4A (w.alloc (.cells #[v0, v1, v2, v3] t)) w.heap.size v0 v1 v2 v3 := by
  have hb : (w.alloc (.cells #[v0, v1, v2, v3] t)).heap[w.heap.size]? = some (.cells #[v0, v1, v2, v3] t) := by
    rw [World.alloc]
    exact Array.getElem?_push_size
  refine ⟨by simp, ?_, ?_, ?_, ?_⟩ <;> (simp only [World.cell?, hb]; rfl)
set_option maxHeartbeats 1000000 in
theorem ofAsker_any (owner group u g : Int) (a : Option Addr) (len cap : Nat) (r : Bool) (w : World) :
    Calls Try.prog 36 #[.int .i64 owner, .int .i64 group, .agg #[.int .i64 u, .int .i64 g, .slice a len cap, .bool r]] w fun e w' => e = .returned (.func (.func 54) #[] #[.pointer (some ⟨w.heap.size + 1 + 1, 0, none⟩), .pointer (some ⟨w.heap.size, 0, none⟩), .pointer (some ⟨w.heap.size + 1, 0, none⟩)]) ∧ w' = ((w.alloc (.cells #[.int .i64 owner] 2)).alloc (.cells #[.int .i64 group] 2)).alloc (.cells #[.int .i64 u, .int .i64 g, .slice a len cap, .bool r] 40) := by
  go_enter Try.func36, Try.ntmps36
  go_wp2
  go_ret
  exact ⟨rfl, rfl⟩
set_option maxHeartbeats 4000000 in
theorem ofAsker1_any (x : Ac) (owner group u g : Int) (a : Option Addr) (len cap : Nat) (r : Bool) (f : Nat → Int) (Cc Co Cg : Nat) (w : World) (hi : Ints a len f w) (hb : Box4A w Cc (.int .i64 u) (.int .i64 g) (.slice a len cap) (.bool r)) (ho : w.cell? ⟨Co, 0, none⟩ = some (.int .i64 owner)) (hg : w.cell? ⟨Cg, 0, none⟩ = some (.int .i64 group)) :
    Calls Try.prog 54 #[.agg #[.bool x.al, .int .i64 x.wh, .int .i64 x.id, .int .i64 x.fl, .int .i64 x.ma], .pointer (some ⟨Cc, 0, none⟩), .pointer (some ⟨Co, 0, none⟩), .pointer (some ⟨Cg, 0, none⟩)] w fun e w' => e = .returned (.bool (askB owner group u g len f x)) ∧ Below w.heap.size w w' := by
  have hba := bel_alloc w (.cells #[.bool x.al, .int .i64 x.wh, .int .i64 x.id, .int .i64 x.fl, .int .i64 x.ma] 30)
  obtain ⟨bl, b0, b1, b2, b3⟩ := hb.below hb.lt hba
  have o1 := (hba.cell (p := ⟨Co, 0, none⟩) (block_lt_of_cell ho)).trans ho
  have g1 := (hba.cell (p := ⟨Cg, 0, none⟩) (block_lt_of_cell hg)).trans hg
  have hG : Hid (∀ gid, Calls Try.prog 55 #[.agg #[.int .i64 u, .int .i64 g, .slice a len cap, .bool r], .int .i64 gid] (w.alloc (.cells #[.bool x.al, .int .i64 x.wh, .int .i64 x.id, .int .i64 x.fl, .int .i64 x.ma] 30)) fun e w' => e = .returned (.bool (inGB u g len f gid)) ∧ Below w.heap.size w w') := (fun gid => (iInGroup_any u g a len cap r gid f _ (hi.below hba)).mono (fun e w' ⟨h1, h2⟩ => ⟨h1, Below.on hba h2⟩))
  have hB : Hid (Below w.heap.size w (w.alloc (.cells #[.bool x.al, .int .i64 x.wh, .int .i64 x.id, .int .i64 x.fl, .int .i64 x.ma] 30))) := hba
  have hQ : Hid (askB owner group u g len f x = (if x.wh = 1 then u == owner else if x.wh = 2 then inGB u g len f group else if x.wh = 3 then true else if x.wh = 4 then u == x.id else if x.wh = 5 then inGB u g len f x.id else false)) := rfl
  clear hi hb ho hg hba
  cases h1 : (x.wh == 1)
  · have n1 : ¬ x.wh = 1 := by simpa using h1
    cases h2 : (x.wh == 2)
    · have n2 : ¬ x.wh = 2 := by simpa using h2
      cases h3 : (x.wh == 3)
      · have n3 : ¬ x.wh = 3 := by simpa using h3
        cases h4 : (x.wh == 4)
        · have n4 : ¬ x.wh = 4 := by simpa using h4
          cases h5 : (x.wh == 5)
          · have n5 : ¬ x.wh = 5 := by simpa using h5
            have hr : Hid (askB owner group u g len f x = false) := (by show _ = _; rw [hQ.out, if_neg n1, if_neg n2, if_neg n3, if_neg n4, if_neg n5])
            clear n1 n2 n3 n4 n5 hQ hG
            go_enter Try.func54, Try.ntmps54
            go_wp2
            go_ret
            exact ⟨ret_boolW hr.out.symm, hB.out⟩
          · have n5 : x.wh = 5 := by simpa using h5
            have hr : Hid (askB owner group u g len f x = inGB u g len f x.id) := (by show _ = _; rw [hQ.out, if_neg n1, if_neg n2, if_neg n3, if_neg n4, if_pos n5])
            clear n1 n2 n3 n4 n5 hQ
            go_enter Try.func54, Try.ntmps54
            go_wp2_with (go_at_call 55; refine (hG.out _).mono ?_; rintro e w1 ⟨rfl, hb1⟩)
            go_ret
            exact ⟨ret_boolW hr.out.symm, hb1⟩
        · have n4 : x.wh = 4 := by simpa using h4
          have hr : Hid (askB owner group u g len f x = (u == x.id)) := (by show _ = _; rw [hQ.out, if_neg n1, if_neg n2, if_neg n3, if_pos n4])
          clear n1 n2 n3 n4 hQ hG
          go_enter Try.func54, Try.ntmps54
          go_wp2
          go_ret
          exact ⟨ret_boolW hr.out.symm, hB.out⟩
      · have n3 : x.wh = 3 := by simpa using h3
        have hr : Hid (askB owner group u g len f x = true) := (by show _ = _; rw [hQ.out, if_neg n1, if_neg n2, if_pos n3])
        clear n1 n2 n3 hQ hG
        go_enter Try.func54, Try.ntmps54
        go_wp2
        go_ret
        exact ⟨ret_boolW hr.out.symm, hB.out⟩
    · have n2 : x.wh = 2 := by simpa using h2
      have hr : Hid (askB owner group u g len f x = inGB u g len f group) := (by show _ = _; rw [hQ.out, if_neg n1, if_pos n2])
      clear n1 n2 hQ
      go_enter Try.func54, Try.ntmps54
      go_wp2_with (go_at_call 55; refine (hG.out _).mono ?_; rintro e w1 ⟨rfl, hb1⟩)
      go_ret
      exact ⟨ret_boolW hr.out.symm, hb1⟩
  · have n1 : x.wh = 1 := by simpa using h1
    have hr : Hid (askB owner group u g len f x = (u == owner)) := (by show _ = _; rw [hQ.out, if_pos n1])
    clear n1 hQ hG
    go_enter Try.func54, Try.ntmps54
    go_wp2
    go_ret
    exact ⟨ret_boolW hr.out.symm, hB.out⟩
end Go.Proofs.Ytibofkjonepbpab
