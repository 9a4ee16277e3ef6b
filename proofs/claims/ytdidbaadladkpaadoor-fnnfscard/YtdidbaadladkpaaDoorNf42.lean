/- Laid together: Give, Given, Gives. -/
import Derived.Test.YtdidbaadladkpaaDoorNf28
import Derived.Test.YtdidbaadladkpaaDoorNf35
import Derived.Test.YtdidbaadladkpaaDoorNf41
import Derived.Test.YtdidbaadladkpaaDoorNf30
/- impl.ofAsker, impl.given: what a list in order gives somebody. -/
namespace Go.Proofs.YtdidbaadladkpaaDoor
open Go.RowKit Go.PlainAid Go.Shelf
set_option linter.unusedVariables false
attribute [local go_sem] Oper.semAt_some
/-- It is of somebody. -/
def askB (owner group u g : Int) (len : Nat) (f : Nat → Int) (x : Ac) : Bool :=
  if x.wh = 1 then u == owner else if x.wh = 2 then inGB u g len f group else if x.wh = 3 then true else if x.wh = 4 then u == x.id else if x.wh = 5 then inGB u g len f x.id else false
/-- Four cells of a block. -/
structure Box4A (w : World) (B : Nat) (v0 v1 v2 v3 : Value) : Prop where
  lt : B < w.heap.size
  c0 : w.cell? ⟨B, 0, none⟩ = some v0
  c1 : w.cell? ⟨B, 1, none⟩ = some v1
  c2 : w.cell? ⟨B, 2, none⟩ = some v2
  c3 : w.cell? ⟨B, 3, none⟩ = some v3
theorem Box4A.keep {w w' : World} {B : Nat} {v0 v1 v2 v3 : Value} (h : Box4A w B v0 v1 v2 v3) (hlt : B < w'.heap.size) (hc : ∀ o, w'.cell? ⟨B, o, none⟩ = w.cell? ⟨B, o, none⟩) : Box4A w' B v0 v1 v2 v3 := ⟨hlt, (hc 0).trans h.c0, (hc 1).trans h.c1, (hc 2).trans h.c2, (hc 3).trans h.c3⟩
theorem Box4A.below {w w' : World} {B : Nat} {v0 v1 v2 v3 : Value} (h : Box4A w B v0 v1 v2 v3) {n : Nat} (hn : B < n) (hb : Below n w w') : Box4A w' B v0 v1 v2 v3 :=
  h.keep (Nat.lt_of_lt_of_le h.lt hb.size) (fun o => hb.cell (p := ⟨B, o, none⟩) hn)
theorem box4A_new (w : World) (v0 v1 v2 v3 : Value) (t : TypeId) : Box4A (w.alloc (.cells #[v0, v1, v2, v3] t)) w.heap.size v0 v1 v2 v3 := by
  have hb : (w.alloc (.cells #[v0, v1, v2, v3] t)).heap[w.heap.size]? = some (.cells #[v0, v1, v2, v3] t) := by
    rw [World.alloc]
    exact Array.getElem?_push_size
  refine ⟨by simp, ?_, ?_, ?_, ?_⟩ <;> (simp only [World.cell?, hb]; rfl)
set_option maxHeartbeats 1000000 in
theorem ofAsker_any (owner group u g : Int) (a : Option Addr) (len cap : Nat) (r : Bool) (w : World) :
    Calls Tryd.prog 45 #[.int .i64 owner, .int .i64 group, .agg #[.int .i64 u, .int .i64 g, .slice a len cap, .bool r]] w fun e w' => e = .returned (.func (.func 77) #[] #[.pointer (some ⟨w.heap.size + 1 + 1, 0, none⟩), .pointer (some ⟨w.heap.size, 0, none⟩), .pointer (some ⟨w.heap.size + 1, 0, none⟩)]) ∧ w' = ((w.alloc (.cells #[.int .i64 owner] 2)).alloc (.cells #[.int .i64 group] 2)).alloc (.cells #[.int .i64 u, .int .i64 g, .slice a len cap, .bool r] 26) := by
  go_enter Tryd.func45, Tryd.ntmps45
  go_wp2
  go_ret
  exact ⟨rfl, rfl⟩
set_option maxHeartbeats 4000000 in
theorem ofAsker1_any (x : Ac) (owner group u g : Int) (a : Option Addr) (len cap : Nat) (r : Bool) (f : Nat → Int) (Cc Co Cg : Nat) (w : World) (hi : Ints a len f w) (hb : Box4A w Cc (.int .i64 u) (.int .i64 g) (.slice a len cap) (.bool r)) (ho : w.cell? ⟨Co, 0, none⟩ = some (.int .i64 owner)) (hg : w.cell? ⟨Cg, 0, none⟩ = some (.int .i64 group)) :
    Calls Tryd.prog 77 #[.agg #[.bool x.al, .int .i64 x.wh, .int .i64 x.id, .int .i64 x.fl, .int .i64 x.ma], .pointer (some ⟨Cc, 0, none⟩), .pointer (some ⟨Co, 0, none⟩), .pointer (some ⟨Cg, 0, none⟩)] w fun e w' => e = .returned (.bool (askB owner group u g len f x)) ∧ Below w.heap.size w w' := by
  have hba := bel_alloc w (.cells #[.bool x.al, .int .i64 x.wh, .int .i64 x.id, .int .i64 x.fl, .int .i64 x.ma] 33)
  obtain ⟨bl, b0, b1, b2, b3⟩ := hb.below hb.lt hba
  have o1 := (hba.cell (p := ⟨Co, 0, none⟩) (block_lt_of_cell ho)).trans ho
  have g1 := (hba.cell (p := ⟨Cg, 0, none⟩) (block_lt_of_cell hg)).trans hg
  have hG : Hid (∀ gid, Calls Tryd.prog 78 #[.agg #[.int .i64 u, .int .i64 g, .slice a len cap, .bool r], .int .i64 gid] (w.alloc (.cells #[.bool x.al, .int .i64 x.wh, .int .i64 x.id, .int .i64 x.fl, .int .i64 x.ma] 33)) fun e w' => e = .returned (.bool (inGB u g len f gid)) ∧ Below w.heap.size w w') := (fun gid => (iInGroup_any u g a len cap r gid f _ (hi.below hba)).mono (fun e w' ⟨h1, h2⟩ => ⟨h1, Below.on hba h2⟩))
  have hB : Hid (Below w.heap.size w (w.alloc (.cells #[.bool x.al, .int .i64 x.wh, .int .i64 x.id, .int .i64 x.fl, .int .i64 x.ma] 33))) := hba
  have hQ : Hid (askB owner group u g len f x = (if x.wh = 1 then u == owner else if x.wh = 2 then inGB u g len f group else if x.wh = 3 then true else if x.wh = 4 then u == x.id else if x.wh = 5 then inGB u g len f x.id else false)) := rfl
  clear hi hb ho hg hba
  cases h1 : (x.wh == 1)
  · have n1 : ¬ x.wh = 1 := by simpa using h1
    cases h2 : (x.wh == 2)
    · have n2 : ¬ x.wh = 2 := by simpa using h2
      cases h3 : (x.wh == 3)
      · have n3 : ¬ x.wh = 3 := by simpa using h3
        cases h4 : (x.wh == 4)
        · have n4 : ¬ x.wh = 4 := by simpa using h4
          cases h5 : (x.wh == 5)
          · have n5 : ¬ x.wh = 5 := by simpa using h5
            have hr : Hid (askB owner group u g len f x = false) := (by show _ = _; rw [hQ.out, if_neg n1, if_neg n2, if_neg n3, if_neg n4, if_neg n5])
            clear n1 n2 n3 n4 n5 hQ hG
            go_enter Tryd.func77, Tryd.ntmps77
            go_wp2
            go_ret
            exact ⟨ret_boolW hr.out.symm, hB.out⟩
          · have n5 : x.wh = 5 := by simpa using h5
            have hr : Hid (askB owner group u g len f x = inGB u g len f x.id) := (by show _ = _; rw [hQ.out, if_neg n1, if_neg n2, if_neg n3, if_neg n4, if_pos n5])
            clear n1 n2 n3 n4 n5 hQ
            go_enter Tryd.func77, Tryd.ntmps77
            go_wp2_with (go_at_call 78; refine (hG.out _).mono ?_; rintro e w1 ⟨rfl, hb1⟩)
            go_ret
            exact ⟨ret_boolW hr.out.symm, hb1⟩
        · have n4 : x.wh = 4 := by simpa using h4
          have hr : Hid (askB owner group u g len f x = (u == x.id)) := (by show _ = _; rw [hQ.out, if_neg n1, if_neg n2, if_neg n3, if_pos n4])
          clear n1 n2 n3 n4 hQ hG
          go_enter Tryd.func77, Tryd.ntmps77
          go_wp2
          go_ret
          exact ⟨ret_boolW hr.out.symm, hB.out⟩
      · have n3 : x.wh = 3 := by simpa using h3
        have hr : Hid (askB owner group u g len f x = true) := (by show _ = _; rw [hQ.out, if_neg n1, if_neg n2, if_pos n3])
        clear n1 n2 n3 hQ hG
        go_enter Tryd.func77, Tryd.ntmps77
        go_wp2
        go_ret
        exact ⟨ret_boolW hr.out.symm, hB.out⟩
    · have n2 : x.wh = 2 := by simpa using h2
      have hr : Hid (askB owner group u g len f x = inGB u g len f group) := (by show _ = _; rw [hQ.out, if_neg n1, if_pos n2])
      clear n1 n2 hQ
      go_enter Tryd.func77, Tryd.ntmps77
      go_wp2_with (go_at_call 78; refine (hG.out _).mono ?_; rintro e w1 ⟨rfl, hb1⟩)
      go_ret
      exact ⟨ret_boolW hr.out.symm, hb1⟩
  · have n1 : x.wh = 1 := by simpa using h1
    have hr : Hid (askB owner group u g len f x = (u == owner)) := (by show _ = _; rw [hQ.out, if_pos n1])
    clear n1 hQ hG
    go_enter Tryd.func77, Tryd.ntmps77
    go_wp2
    go_ret
    exact ⟨ret_boolW hr.out.symm, hB.out⟩
end Go.Proofs.YtdidbaadladkpaaDoor
/- impl.given: what the aces that hold and are of somebody give. -/
namespace Go.Proofs.YtdidbaadladkpaaDoor
open Go.RowKit Go.PlainAid Go.Shelf
set_option linter.unusedVariables false
attribute [local go_sem] Oper.semAt_some
set_option maxRecDepth 100000 in
set_option maxHeartbeats 4000000 in
/-- impl.given at the test of who asks. -/
theorem givenK_any (a : Option Addr) (len cap : Nat) (l : List Ac) (Cc Co Cg : Nat) (p : Ac → Bool) (hl : len ≤ 1000) (hfl : ∀ i, i < len → 0 ≤ (acAt l i).fl ∧ (acAt l i).fl ≤ 15) (w : World) (hA : Acs a len l w)
    (hP : ∀ x W', Below w.heap.size w W' → Calls Tryd.prog 77 #[.agg #[.bool x.al, .int .i64 x.wh, .int .i64 x.id, .int .i64 x.fl, .int .i64 x.ma], .pointer (some ⟨Cc, 0, none⟩), .pointer (some ⟨Co, 0, none⟩), .pointer (some ⟨Cg, 0, none⟩)] W' fun e W'' => e = .returned (.bool (p x)) ∧ Below W'.heap.size W' W'') :
    Calls Tryd.prog 44 #[.slice a len cap, .func (.func 77) #[] #[.pointer (some ⟨Cc, 0, none⟩), .pointer (some ⟨Co, 0, none⟩), .pointer (some ⟨Cg, 0, none⟩)]] w fun e w' => e = .returned (.int .i64 (giveI (fltP p l len)).1) ∧ Below w.heap.size w w' := by
  refine (callsIn_wide (n := 6)).1 ?_
  refine callsIn_of_wp_marks Tryd.func44 rfl trivial ?_ rfl
  simp only [Tryd.ntmps44, List.size_toArray, List.length_cons, List.length_nil, Nat.reduceAdd, Nat.reduceSub, Array.replicate_succ, Array.replicate_zero, List.push_toArray, List.append_toArray, List.nil_append, List.cons_append]
  gi_wp2_with (refine ⟨trivial, ?_⟩; gi_at_call 76; refine (callsIn_wide.2 (holding_any _ _ _ _ _ _)).mono ?_; rintro e w2 ⟨rfl, rfl⟩)
  have z1 : (w.alloc (.cells #[.int .i64 0] 2)).heap.size = w.heap.size + 1 := by simp
  have z2 : ((w.alloc (.cells #[.int .i64 0] 2)).alloc (.cells #[.int .i64 0] 2)).heap.size = w.heap.size + 1 + 1 := by simp
  have z3 : (((w.alloc (.cells #[.int .i64 0] 2)).alloc (.cells #[.int .i64 0] 2)).alloc (.cells #[.slice a len cap] 23)).heap.size = w.heap.size + 1 + 1 + 1 := by simp
  have z4 : ((((w.alloc (.cells #[.int .i64 0] 2)).alloc (.cells #[.int .i64 0] 2)).alloc (.cells #[.slice a len cap] 23)).alloc (.cells #[.func (.func 77) #[] #[.pointer (some ⟨Cc, 0, none⟩), .pointer (some ⟨Co, 0, none⟩), .pointer (some ⟨Cg, 0, none⟩)]] 46)).heap.size = w.heap.size + 1 + 1 + 1 + 1 := by simp
  have b1 := bel_alloc w (.cells #[.int .i64 0] 2)
  have b2 := bel_alloc (w.alloc (.cells #[.int .i64 0] 2)) (.cells #[.int .i64 0] 2)
  have b3 := bel_alloc ((w.alloc (.cells #[.int .i64 0] 2)).alloc (.cells #[.int .i64 0] 2)) (.cells #[.slice a len cap] 23)
  have b4 := bel_alloc (((w.alloc (.cells #[.int .i64 0] 2)).alloc (.cells #[.int .i64 0] 2)).alloc (.cells #[.slice a len cap] 23)) (.cells #[.func (.func 77) #[] #[.pointer (some ⟨Cc, 0, none⟩), .pointer (some ⟨Co, 0, none⟩), .pointer (some ⟨Cg, 0, none⟩)]] 46)
  have hB0 : Below w.heap.size w ((((w.alloc (.cells #[.int .i64 0] 2)).alloc (.cells #[.int .i64 0] 2)).alloc (.cells #[.slice a len cap] 23)).alloc (.cells #[.func (.func 77) #[] #[.pointer (some ⟨Cc, 0, none⟩), .pointer (some ⟨Co, 0, none⟩), .pointer (some ⟨Cg, 0, none⟩)]] 46)) := Below.on (Below.on (Below.on b1 b2) b3) b4
  have b14 : Below (w.alloc (.cells #[.int .i64 0] 2)).heap.size (w.alloc (.cells #[.int .i64 0] 2)) ((((w.alloc (.cells #[.int .i64 0] 2)).alloc (.cells #[.int .i64 0] 2)).alloc (.cells #[.slice a len cap] 23)).alloc (.cells #[.func (.func 77) #[] #[.pointer (some ⟨Cc, 0, none⟩), .pointer (some ⟨Co, 0, none⟩), .pointer (some ⟨Cg, 0, none⟩)]] 46)) := Below.on (Below.on b2 b3) b4
  have b24 : Below ((w.alloc (.cells #[.int .i64 0] 2)).alloc (.cells #[.int .i64 0] 2)).heap.size ((w.alloc (.cells #[.int .i64 0] 2)).alloc (.cells #[.int .i64 0] 2)) ((((w.alloc (.cells #[.int .i64 0] 2)).alloc (.cells #[.int .i64 0] 2)).alloc (.cells #[.slice a len cap] 23)).alloc (.cells #[.func (.func 77) #[] #[.pointer (some ⟨Cc, 0, none⟩), .pointer (some ⟨Co, 0, none⟩), .pointer (some ⟨Cg, 0, none⟩)]] 46)) := Below.on b3 b4
  have ha := cell_newG w (.int .i64 0) 2
  have ha0 : ((((w.alloc (.cells #[.int .i64 0] 2)).alloc (.cells #[.int .i64 0] 2)).alloc (.cells #[.slice a len cap] 23)).alloc (.cells #[.func (.func 77) #[] #[.pointer (some ⟨Cc, 0, none⟩), .pointer (some ⟨Co, 0, none⟩), .pointer (some ⟨Cg, 0, none⟩)]] 46)).cell? ⟨w.heap.size, 0, none⟩ = some (.int .i64 0) := (b14.cell (p := ⟨w.heap.size, 0, none⟩) (by rw [z1]; show w.heap.size < _; omega)).trans ha.1
  have ha1 : ((((w.alloc (.cells #[.int .i64 0] 2)).alloc (.cells #[.int .i64 0] 2)).alloc (.cells #[.slice a len cap] 23)).alloc (.cells #[.func (.func 77) #[] #[.pointer (some ⟨Cc, 0, none⟩), .pointer (some ⟨Co, 0, none⟩), .pointer (some ⟨Cg, 0, none⟩)]] 46)).frozen? ⟨w.heap.size, 0, none⟩ = false := (b14.frozen (p := ⟨w.heap.size, 0, none⟩) (by rw [z1]; show w.heap.size < _; omega)).trans ha.2
  have hs := cell_newG (w.alloc (.cells #[.int .i64 0] 2)) (.int .i64 0) 2
  rw [z1] at hs
  have hs0 : ((((w.alloc (.cells #[.int .i64 0] 2)).alloc (.cells #[.int .i64 0] 2)).alloc (.cells #[.slice a len cap] 23)).alloc (.cells #[.func (.func 77) #[] #[.pointer (some ⟨Cc, 0, none⟩), .pointer (some ⟨Co, 0, none⟩), .pointer (some ⟨Cg, 0, none⟩)]] 46)).cell? ⟨w.heap.size + 1, 0, none⟩ = some (.int .i64 0) := (b24.cell (p := ⟨w.heap.size + 1, 0, none⟩) (by rw [z2]; show w.heap.size + 1 < _; omega)).trans hs.1
  have hs1 : ((((w.alloc (.cells #[.int .i64 0] 2)).alloc (.cells #[.int .i64 0] 2)).alloc (.cells #[.slice a len cap] 23)).alloc (.cells #[.func (.func 77) #[] #[.pointer (some ⟨Cc, 0, none⟩), .pointer (some ⟨Co, 0, none⟩), .pointer (some ⟨Cg, 0, none⟩)]] 46)).frozen? ⟨w.heap.size + 1, 0, none⟩ = false := (b24.frozen (p := ⟨w.heap.size + 1, 0, none⟩) (by rw [z2]; show w.heap.size + 1 < _; omega)).trans hs.2
  have hBl := cell_newG ((w.alloc (.cells #[.int .i64 0] 2)).alloc (.cells #[.int .i64 0] 2)) (.slice a len cap) 23
  rw [z2] at hBl
  have hBl0 : ((((w.alloc (.cells #[.int .i64 0] 2)).alloc (.cells #[.int .i64 0] 2)).alloc (.cells #[.slice a len cap] 23)).alloc (.cells #[.func (.func 77) #[] #[.pointer (some ⟨Cc, 0, none⟩), .pointer (some ⟨Co, 0, none⟩), .pointer (some ⟨Cg, 0, none⟩)]] 46)).cell? ⟨w.heap.size + 1 + 1, 0, none⟩ = some (.slice a len cap) := (b4.cell (p := ⟨w.heap.size + 1 + 1, 0, none⟩) (by rw [z3]; show w.heap.size + 1 + 1 < _; omega)).trans hBl.1
  have hBf := cell_newG (((w.alloc (.cells #[.int .i64 0] 2)).alloc (.cells #[.int .i64 0] 2)).alloc (.cells #[.slice a len cap] 23)) (.func (.func 77) #[] #[.pointer (some ⟨Cc, 0, none⟩), .pointer (some ⟨Co, 0, none⟩), .pointer (some ⟨Cg, 0, none⟩)]) 46
  rw [z3] at hBf
  generalize ((((w.alloc (.cells #[.int .i64 0] 2)).alloc (.cells #[.int .i64 0] 2)).alloc (.cells #[.slice a len cap] 23)).alloc (.cells #[.func (.func 77) #[] #[.pointer (some ⟨Cc, 0, none⟩), .pointer (some ⟨Co, 0, none⟩), .pointer (some ⟨Cg, 0, none⟩)]] 46)) = W0 at hB0 ha0 ha1 hs0 hs1 hBl0 hBf z4 ⊢
  clear b1 b2 b3 b4 b14 b24 hs ha hBl z1 z2 z3
  refine wpIn_rangeFunc_ownH rfl (by omega) (gf := 99) (lb := #[.pointer (some ⟨w.heap.size + 1 + 1, 0, none⟩), .pointer (some ⟨w.heap.size + 1 + 1 + 1, 0, none⟩)]) rfl trivial (enters_of Tryd.func99 (by kernel_rfl) rfl)
    (holdK_stops 5 (by omega) (w.heap.size + 1 + 1) (w.heap.size + 1 + 1 + 1) w.heap.size (w.heap.size + 1 + 1) W0.heap.size Cc Co Cg a len cap l p hl W0 (hA.below hB0) (fun h A e => by obtain ⟨b, off, e2, hb, _⟩ := hA.2 h; rw [e2] at e; cases e; exact hb) (by omega) (by omega) hfl hB0.size (Nat.le_refl _)
      (fun x W' hK => hP x W' (hB0.trans hK.1)) hBl0 hBf.1)
    kpC_t (kpC_b hB0.size) (Below.refl _ _) (fun _ => rfl)
    (fun pre W => ((W.cell? ⟨w.heap.size, 0, none⟩ = some (.int .i64 (giveI pre).1) ∧ W.frozen? ⟨w.heap.size, 0, none⟩ = false) ∧ (W.cell? ⟨w.heap.size + 1, 0, none⟩ = some (.int .i64 (giveI pre).2) ∧ W.frozen? ⟨w.heap.size + 1, 0, none⟩ = false)) ∧ (Below w.heap.size w W ∧ W0.heap.size ≤ W.heap.size))
    (fun _ _ _ => False)
    (OwnFrom.and (Own.from (fun s A B row hs hg hr => ⟨⟨cell_kept hs.1.1 hg hr, (frozen_kept hs.1.1 hg hr).trans hs.1.2⟩, ⟨cell_kept hs.2.1 hg hr, (frozen_kept hs.2.1 hg hr).trans hs.2.2⟩⟩) _) (OwnFrom.and (ownFrom_below (Nat.le_refl _) hB0.size) (fun _ _ _ _ hs hg _ => Nat.le_trans hs hg.size)))
    (fun _ _ _ _ _ hs _ _ => hs)
    ⟨⟨⟨ha0, ha1⟩, hs0, hs1⟩, hB0, Nat.le_refl _⟩
    (fun x a' W => ∃ Bx, W0.heap.size ≤ Bx ∧ Five W Bx 0 x ∧ a' = { tmps := #[.slice a len cap, .func (.func 77) #[] #[.pointer (some ⟨Cc, 0, none⟩), .pointer (some ⟨Co, 0, none⟩), .pointer (some ⟨Cg, 0, none⟩)], undef, undef, .int .i64 0, .pointer (some ⟨w.heap.size, 0, none⟩), .pointer (some ⟨w.heap.size + 1, 0, none⟩), .pointer (some ⟨Bx, 0, none⟩), .slice a len cap, .func (.func 77) #[] #[.pointer (some ⟨Cc, 0, none⟩), .pointer (some ⟨Co, 0, none⟩), .pointer (some ⟨Cg, 0, none⟩)], .func (.func 99) #[] #[.pointer (some ⟨w.heap.size + 1 + 1, 0, none⟩), .pointer (some ⟨w.heap.size + 1 + 1 + 1, 0, none⟩)], .agg #[.bool x.al, .int .i64 x.wh, .int .i64 x.id, .int .i64 x.fl, .int .i64 x.ma], undef, undef, undef, undef, undef, undef, undef, undef, undef, undef, undef, undef, undef], defers := [] })
    (fun x a' s A B row hs hg hr => by obtain ⟨Bx, h1, h2, h3⟩ := hs; exact ⟨Bx, h1, five_keptG h2 hg (fun r e => (hr r e).2), h3⟩)
    ?assign ?body ?done ?stop
  case assign =>
    rintro lp pre x W K ⟨⟨⟨hc, hf⟩, hc2, hf2⟩, hB, hsz⟩ hK
    gi_wp2
    have hba := bel_alloc W (.cells #[.bool x.al, .int .i64 x.wh, .int .i64 x.id, .int .i64 x.fl, .int .i64 x.ma] 33)
    have hlt1 := block_lt_of_cell hc
    have hlt2 := block_lt_of_cell hc2
    exact hK _ _ ((KeepsOthers.alloc _ _).from _) (kpC_grow hba hB.size hsz) ⟨⟨⟨(hba.cell (p := ⟨w.heap.size, 0, none⟩) hlt1).trans hc, (hba.frozen (p := ⟨w.heap.size, 0, none⟩) hlt1).trans hf⟩, (hba.cell (p := ⟨w.heap.size + 1, 0, none⟩) hlt2).trans hc2, (hba.frozen (p := ⟨w.heap.size + 1, 0, none⟩) hlt2).trans hf2⟩, Below.on hB hba, Nat.le_trans hsz hba.size⟩ ⟨W.heap.size, hsz, five_new W x _, rfl⟩
  case body =>
    rintro lp pre x a' W hlp hr ⟨⟨⟨hc, hf⟩, hc2, hf2⟩, hB, hsz⟩ ⟨Bx, hBx, hF, rfl⟩ hlt
    obtain ⟨c0, c1, c2, c3, c4⟩ := hF
    simp only [Nat.zero_add] at c1 c2 c3 c4
    have hne1 : ¬ Bx = w.heap.size := by omega
    have hne2 : ¬ w.heap.size = Bx := by omega
    cases hal : x.al
    · rw [hal] at c0
      gi_wp2
      refine ⟨(KeepsOthers.setCell _ _ _).from _, ⟨bl_setA (Below.refl _ _) (by omega), fun c o v h1 h2 hv => ?_⟩, ⟨⟨⟨?_, ?_⟩, ?_, ?_⟩, bl_setA hB (by omega), by simpa using hsz⟩⟩
      · rw [World.cell?_setCell_other _ _ _ _ (by intro h; have h2 := congrArg Addr.block h; simp only at h2; omega)]
        exact hv
      · rw [World.cell?_setCell_other _ _ _ _ (by intro h; have h2 := congrArg Addr.block h; simp only at h2; omega), giveI_no hal]
        exact hc
      · rw [World.frozen?_setCell]
        exact hf
      · rw [giveI_said]
        exact World.cell?_setCell_same' _ _ _ (by rw [hc2]; rfl)
      · rw [World.frozen?_setCell]
        exact hf2
    · rw [hal] at c0
      gi_wp2
      refine ⟨((KeepsOthers.setCell _ _ _).trans (KeepsOthers.setCell _ _ _)).from _, ⟨bl_setA (bl_setA (Below.refl _ _) (by omega)) (by omega), fun c o v h1 h2 hv => ?_⟩, ⟨⟨⟨?_, ?_⟩, ?_, ?_⟩, bl_setA (bl_setA hB (by omega)) (by omega), by simpa using hsz⟩⟩
      · rw [World.cell?_setCell_other _ _ _ _ (by intro h; have h2 := congrArg Addr.block h; simp only at h2; omega), World.cell?_setCell_other _ _ _ _ (by intro h; have h2 := congrArg Addr.block h; simp only at h2; omega)]
        exact hv
      · rw [World.cell?_setCell_other _ _ _ _ (by intro h; have h2 := congrArg Addr.block h; simp only at h2; omega), giveI_al hal]
        exact World.cell?_setCell_same' _ _ _ (by rw [hc]; rfl)
      · rw [World.frozen?_setCell, World.frozen?_setCell]
        exact hf
      · rw [giveI_said]
        exact World.cell?_setCell_same' _ _ _ (by rw [World.cell?_setCell_other _ _ _ _ (by intro h; have h2 := congrArg Addr.block h; simp only at h2; omega), hc2]; rfl)
      · rw [World.frozen?_setCell, World.frozen?_setCell]
        exact hf2
  case done =>
    rintro D ys W hD rfl ⟨⟨⟨hc, hf⟩, hc2, hf2⟩, hB, hsz⟩ hK
    gi_wp2
    refine ⟨by simp, .inl ⟨_, _, rfl, run_takeDeferred hK, ?_⟩⟩
    exact ⟨_, results_tmp rfl _ _ _, rfl, hB.trans (belowK_b (w := w) (Nat.le_refl _) W D _ _ (Nat.le_trans hB0.size hD) hK rfl rfl)⟩
  case stop =>
    rintro D c pre W _ _ h _
    exact h.elim
end Go.Proofs.YtdidbaadladkpaaDoor
/- impl.NfsGives. -/
namespace Go.Proofs.YtdidbaadladkpaaDoor
open Go.RowKit Go.PlainAid Go.Deep
set_option linter.unusedVariables false
theorem ret_intG {a b : Int} (h : a = b) : Ending.returned (.int .i64 a) = .returned (.int .i64 b) := by rw [h]
/-- NfsGives. -/
def givesI (l : List Ac) (owner group u g : Int) (cl : Nat) (f : Nat → Int) : Int :=
  if acesB l = true ∧ inR 0 9999 owner = true ∧ inR 0 9999 group = true ∧ credB u g cl f = true then (giveI (fltP (askB owner group u g cl f) l l.length)).1 else 0
theorem givesI_no {l : List Ac} {owner group u g : Int} {cl : Nat} {f : Nat → Int} (h : ¬ (acesB l = true ∧ inR 0 9999 owner = true ∧ inR 0 9999 group = true ∧ credB u g cl f = true)) : givesI l owner group u g cl f = 0 := by rw [givesI, if_neg h]
theorem aces_parts {l : List Ac} (h : acesB l = true) : l.length ≤ 32 ∧ ∀ i, i < l.length → aceB (acAt l i) = true := by
  simp only [acesB, Bool.and_eq_true, decide_eq_true_eq] at h
  exact ⟨h.1, fun i hi => allA_at hi h.2⟩
theorem asker_world (w : World) (owner group : Int) (v0 v1 v2 v3 : Value) (t t2 : TypeId) :
    Below w.heap.size w (((w.alloc (.cells #[.int .i64 owner] t)).alloc (.cells #[.int .i64 group] t)).alloc (.cells #[v0, v1, v2, v3] t2)) ∧ Box4A (((w.alloc (.cells #[.int .i64 owner] t)).alloc (.cells #[.int .i64 group] t)).alloc (.cells #[v0, v1, v2, v3] t2)) (w.heap.size + 1 + 1) v0 v1 v2 v3 ∧ (((w.alloc (.cells #[.int .i64 owner] t)).alloc (.cells #[.int .i64 group] t)).alloc (.cells #[v0, v1, v2, v3] t2)).cell? ⟨w.heap.size, 0, none⟩ = some (.int .i64 owner) ∧ (((w.alloc (.cells #[.int .i64 owner] t)).alloc (.cells #[.int .i64 group] t)).alloc (.cells #[v0, v1, v2, v3] t2)).cell? ⟨w.heap.size + 1, 0, none⟩ = some (.int .i64 group) := by
  have b1 := bel_alloc w (.cells #[.int .i64 owner] t)
  have b2 := bel_alloc (w.alloc (.cells #[.int .i64 owner] t)) (.cells #[.int .i64 group] t)
  have b3 := bel_alloc ((w.alloc (.cells #[.int .i64 owner] t)).alloc (.cells #[.int .i64 group] t)) (.cells #[v0, v1, v2, v3] t2)
  have z1 : (w.alloc (.cells #[.int .i64 owner] t)).heap.size = w.heap.size + 1 := by simp
  have z2 : ((w.alloc (.cells #[.int .i64 owner] t)).alloc (.cells #[.int .i64 group] t)).heap.size = w.heap.size + 1 + 1 := by simp
  have c1 := (cell_newG w (.int .i64 owner) t).1
  have c2 := (cell_newG (w.alloc (.cells #[.int .i64 owner] t)) (.int .i64 group) t).1
  have bx := box4A_new ((w.alloc (.cells #[.int .i64 owner] t)).alloc (.cells #[.int .i64 group] t)) v0 v1 v2 v3 t2
  rw [z2] at bx b3
  rw [z1] at c2 b2
  refine ⟨?_, bx, ?_, ?_⟩
  · exact b1.trans ((b2.mono (by omega)).trans (b3.mono (by omega)))
  · exact (b3.cell (p := ⟨w.heap.size, 0, none⟩) (by show w.heap.size < _; omega)).trans ((b2.cell (p := ⟨w.heap.size, 0, none⟩) (by show w.heap.size < _; omega)).trans c1)
  · exact (b3.cell (p := ⟨w.heap.size + 1, 0, none⟩) (by show w.heap.size + 1 < _; omega)).trans c2
theorem ofAskerW (owner group u g : Int) (ca : Option Addr) (cl cc : Nat) (cr : Bool) (w : World) :
    Calls Tryd.prog 45 #[.int .i64 owner, .int .i64 group, .agg #[.int .i64 u, .int .i64 g, .slice ca cl cc, .bool cr]] w fun e w' => ∃ Cc Co Cg, e = .returned (.func (.func 77) #[] #[.pointer (some ⟨Cc, 0, none⟩), .pointer (some ⟨Co, 0, none⟩), .pointer (some ⟨Cg, 0, none⟩)]) ∧ Below w.heap.size w w' ∧ Box4A w' Cc (.int .i64 u) (.int .i64 g) (.slice ca cl cc) (.bool cr) ∧ w'.cell? ⟨Co, 0, none⟩ = some (.int .i64 owner) ∧ w'.cell? ⟨Cg, 0, none⟩ = some (.int .i64 group) := by
  refine (ofAsker_any owner group u g ca cl cc cr w).mono ?_
  rintro e w' ⟨rfl, rfl⟩
  exact ⟨_, _, _, rfl, asker_world w owner group (.int .i64 u) (.int .i64 g) (.slice ca cl cc) (.bool cr) _ _⟩
/-- askRight. -/
def askR (l : List Ac) (owner group u g : Int) (cl : Nat) (f : Nat → Int) : Bool := acesB l && (inR 0 9999 owner && (inR 0 9999 group && credB u g cl f))
theorem askR_iff {l : List Ac} {owner group u g : Int} {cl : Nat} {f : Nat → Int} : askR l owner group u g cl f = true ↔ (acesB l = true ∧ inR 0 9999 owner = true ∧ inR 0 9999 group = true ∧ credB u g cl f = true) := by simp [askR]
theorem givesI_askN {l : List Ac} {owner group u g : Int} {cl : Nat} {f : Nat → Int} (h : askR l owner group u g cl f = false) : givesI l owner group u g cl f = 0 := givesI_no (fun h2 => by rw [askR_iff.2 h2] at h; cases h)
theorem givesI_askY {l : List Ac} {owner group u g : Int} {cl : Nat} {f : Nat → Int} (h : askR l owner group u g cl f = true) : givesI l owner group u g cl f = (giveI (fltP (askB owner group u g cl f) l l.length)).1 := by rw [givesI, if_pos (askR_iff.1 h)]
set_option maxRecDepth 100000 in
set_option maxHeartbeats 4000000 in
/-- impl.askRight. -/
theorem iAskRight_any (a : Option Addr) (len cap : Nat) (l : List Ac) (owner group u g : Int) (ca : Option Addr) (cl cc : Nat) (cr : Bool) (f : Nat → Int) (w : World) (hA : Acs a len l w) (hi : Ints ca cl f w) :
    Calls Tryd.prog 43 #[.slice a len cap, .int .i64 owner, .int .i64 group, .agg #[.int .i64 u, .int .i64 g, .slice ca cl cc, .bool cr]] w fun e w' => e = .returned (.bool (askR l owner group u g cl f)) ∧ Below w.heap.size w w' := by
  have hr : Hid (∀ w', Below w.heap.size w w' → Calls Tryd.prog 23 #[.slice a len cap] w' fun e w'' => e = .returned (.bool (acesB l)) ∧ Below w'.heap.size w' w'') := (fun w' hb => iNfsRight_any a len cap l w' (hA.below hb))
  have hcr : Hid (∀ w', Below w.heap.size w w' → Calls Tryd.prog 75 #[.agg #[.int .i64 u, .int .i64 g, .slice ca cl cc, .bool cr]] w' fun e w'' => e = .returned (.bool (credB u g cl f)) ∧ Below w'.heap.size w' w'') := (fun w' hb => iCredRight_any u g ca cl cc cr f w' (hi.below hb))
  have HX : Hid (Box4A (w.alloc (.cells #[.int .i64 u, .int .i64 g, .slice ca cl cc, .bool cr] 26)) w.heap.size (.int .i64 u) (.int .i64 g) (.slice ca cl cc) (.bool cr)) := box4A_new _ _ _ _ _ _
  have hW : Hid (Below w.heap.size w (w.alloc (.cells #[.int .i64 u, .int .i64 g, .slice ca cl cc, .bool cr] 26))) := bel_alloc _ _
  clear hA hi
  go_enter Tryd.func43, Tryd.ntmps43
  go_wp2_with fail
  refine (hr.out _ hW.out).mono ?_
  rintro e w1 ⟨rfl, hb1⟩
  have hW1 : Hid (Below w.heap.size w w1) := Below.on hW.out hb1
  have hX1 : Hid (Box4A w1 w.heap.size (.int .i64 u) (.int .i64 g) (.slice ca cl cc) (.bool cr)) := HX.out.below HX.out.lt hb1
  clear hr hb1 HX hW
  cases h : acesB l
  · have hno : Hid (askR l owner group u g cl f = false) := (by show _ = _; simp [askR, h])
    clear h hcr hX1
    go_wp2
    go_ret
    exact ⟨ret_boolW hno.out.symm, hW1.out⟩
  cases h2 : inR 0 9999 owner
  · have hno : Hid (askR l owner group u g cl f = false) := (by show _ = _; simp [askR, h2])
    clear h hcr hX1
    go_wp2_with (go_at_call 74; refine (isId_any _ _).mono ?_; rintro e w' ⟨rfl, rfl⟩)
    go_ret
    exact ⟨ret_boolW hno.out.symm, hW1.out⟩
  cases h3 : inR 0 9999 group
  · have hno : Hid (askR l owner group u g cl f = false) := (by show _ = _; simp [askR, h3])
    clear h hcr hX1
    go_wp2_with (go_at_call 74; refine (isId_any _ _).mono ?_; rintro e w' ⟨rfl, rfl⟩)
    go_ret
    exact ⟨ret_boolW hno.out.symm, hW1.out⟩
  obtain ⟨xl, x0, x1, x2, x3⟩ := hX1.out
  have hyes : Hid (askR l owner group u g cl f = credB u g cl f) := (by show _ = _; simp [askR, h, h2, h3])
  clear h hX1
  go_wp2_with (first | (go_at_call 74; refine (isId_any _ _).mono ?_; rintro e w' ⟨rfl, rfl⟩) | (go_at_call 75; refine (hcr.out _ hW1.out).mono ?_; rintro e w2 ⟨rfl, hb2⟩))
  go_ret
  exact ⟨ret_boolW hyes.out.symm, Below.on hW1.out hb2⟩
set_option maxRecDepth 100000 in
set_option maxHeartbeats 4000000 in
/-- impl.NfsGives. -/
theorem iNfsGives_any (a : Option Addr) (len cap : Nat) (l : List Ac) (owner group u g : Int) (ca : Option Addr) (cl cc : Nat) (cr : Bool) (f : Nat → Int) (w : World) (hA : Acs a len l w) (hi : Ints ca cl f w) :
    Calls Tryd.prog 6 #[.slice a len cap, .int .i64 owner, .int .i64 group, .agg #[.int .i64 u, .int .i64 g, .slice ca cl cc, .bool cr]] w fun e w' => e = .returned (.int .i64 (givesI l owner group u g cl f)) ∧ Below w.heap.size w w' := by
  have hln := hA.1
  have hr : Hid (∀ w', Below w.heap.size w w' → Calls Tryd.prog 43 #[.slice a len cap, .int .i64 owner, .int .i64 group, .agg #[.int .i64 u, .int .i64 g, .slice ca cl cc, .bool cr]] w' fun e w'' => e = .returned (.bool (askR l owner group u g cl f)) ∧ Below w'.heap.size w' w'') := (fun w' hb => iAskRight_any a len cap l owner group u g ca cl cc cr f w' (hA.below hb) (hi.below hb))
  have hgv : Hid (acesB l = true → ∀ Cc Co Cg w', Below w.heap.size w w' → Box4A w' Cc (.int .i64 u) (.int .i64 g) (.slice ca cl cc) (.bool cr) → w'.cell? ⟨Co, 0, none⟩ = some (.int .i64 owner) → w'.cell? ⟨Cg, 0, none⟩ = some (.int .i64 group) → Calls Tryd.prog 44 #[.slice a len cap, (.func (.func 77) #[] #[.pointer (some ⟨Cc, 0, none⟩), .pointer (some ⟨Co, 0, none⟩), .pointer (some ⟨Cg, 0, none⟩)])] w' fun e w'' => e = .returned (.int .i64 (giveI (fltP (askB owner group u g cl f) l len)).1) ∧ Below w'.heap.size w' w'') := (fun h Cc Co Cg w' hb hbx ho hg => by
    obtain ⟨h1, h2⟩ := aces_parts h
    exact givenK_any a len cap l Cc Co Cg (askB owner group u g cl f) (by omega) (fun i hi => (aceB_iff.1 (h2 i (by omega))).2.2.2.1.1) w' (hA.below hb) (fun x W' hB => ofAsker1_any x owner group u g ca cl cc cr f Cc Co Cg W' (hi.below (Below.on hb hB)) (hbx.below hbx.lt hB) ((hB.cell (p := ⟨Co, 0, none⟩) (block_lt_of_cell ho)).trans ho) ((hB.cell (p := ⟨Cg, 0, none⟩) (block_lt_of_cell hg)).trans hg)))
  rw [← hln] at hgv
  have HX : Hid (Box4A (w.alloc (.cells #[.int .i64 u, .int .i64 g, .slice ca cl cc, .bool cr] 26)) w.heap.size (.int .i64 u) (.int .i64 g) (.slice ca cl cc) (.bool cr)) := box4A_new _ _ _ _ _ _
  have hW : Hid (Below w.heap.size w (w.alloc (.cells #[.int .i64 u, .int .i64 g, .slice ca cl cc, .bool cr] 26))) := bel_alloc _ _
  have HL : Hid (l.length = len) := hln
  clear hA hi hln
  go_enter Tryd.func6, Tryd.ntmps6
  obtain ⟨xl, x0, x1, x2, x3⟩ := HX.out
  go_wp2_with fail
  refine (hr.out _ hW.out).mono ?_
  rintro e w1 ⟨rfl, hb1⟩
  have hW1 : Hid (Below w.heap.size w w1) := Below.on hW.out hb1
  have hX1 : Hid (Box4A w1 w.heap.size (.int .i64 u) (.int .i64 g) (.slice ca cl cc) (.bool cr)) := HX.out.below HX.out.lt hb1
  clear hr hb1 HX hW xl x0 x1 x2 x3
  cases h : askR l owner group u g cl f
  · have hno : Hid (givesI l owner group u g cl f = 0) := givesI_askN h
    clear h hgv hX1
    go_wp2
    go_ret
    exact ⟨ret_intG hno.out.symm, hW1.out⟩
  obtain ⟨xl, x0, x1, x2, x3⟩ := hX1.out
  have hyes : Hid (givesI l owner group u g cl f = (giveI (fltP (askB owner group u g cl f) l l.length)).1) := givesI_askY h
  have hgv2 := hgv.out (askR_iff.1 h).1
  have HG : Hid (∀ Cc Co Cg w', Below w.heap.size w w' → Box4A w' Cc (.int .i64 u) (.int .i64 g) (.slice ca cl cc) (.bool cr) → w'.cell? ⟨Co, 0, none⟩ = some (.int .i64 owner) → w'.cell? ⟨Cg, 0, none⟩ = some (.int .i64 group) → Calls Tryd.prog 44 #[.slice a len cap, (.func (.func 77) #[] #[.pointer (some ⟨Cc, 0, none⟩), .pointer (some ⟨Co, 0, none⟩), .pointer (some ⟨Cg, 0, none⟩)])] w' fun e w'' => e = .returned (.int .i64 (givesI l owner group u g cl f)) ∧ Below w'.heap.size w' w'') := (fun Cc Co Cg w' h5 h6 h7 h8 => by rw [hyes.out]; rw [HL.out] at hgv2 ⊢; exact hgv2 Cc Co Cg w' h5 h6 h7 h8)
  clear h hgv hgv2 hyes HL
  generalize hR : givesI l owner group u g cl f = R at HG ⊢
  have HR : Hid (givesI l owner group u g cl f = R) := hR
  clear hR
  go_wp2_with (first | (go_at_call 45; refine (ofAskerW _ _ _ _ _ _ _ _ _).mono ?_; rintro e w3 ⟨Cc, Co, Cg, rfl, hb3, hbx, hco, hcg⟩) | (go_at_call 44; refine (HG.out _ _ _ _ (Below.on hW1.out hb3) hbx hco hcg).mono ?_; rintro e w4 ⟨rfl, hb4⟩))
  go_ret
  exact ⟨ret_intG HR.out.symm, Below.on (Below.on hW1.out hb3) hb4⟩
end Go.Proofs.YtdidbaadladkpaaDoor
