/- The law FnExactCredRead, of a text that is not too long, and of one that is. -/
import Derived.Test.YtibofkjonepbpabDoorCredMark
import Derived.Test.YtibofkjonepbpabDoorSCredRead
namespace Go.Proofs.YtibofkjonepbpabDoor
open Go.RowKit Go.PlainAid
set_option linter.unusedVariables false
theorem rdG_len {l : List UInt8} {G : List Int} (h : rdG l = some G) : G.length ≤ 8 := by
  rw [rdG] at h
  split at h
  · cases h; simp
  · split at h
    · rename_i h2
      cases h
      have := h2.2
      rw [grB, Bool.and_eq_true] at this
      exact of_decide_eq_true this.1
    · cases h
theorem CrO.len {l : List UInt8} {u v c : Int} {G : List Int} {r : Bool} (h : CrO l u v G r c) : G.length ≤ 8 := by
  cases h with
  | long h => simp
  | no h hr => simp
  | yes h u v G hr =>
    cases hr with
    | yes a b g u v G h0 h1 h2 h3 => exact rdG_len h3
/-- A row that is owned may be written; where it lies. -/
theorem own_N {w : World} {B : Nat} {t : TypeId} {v : Value} {l : List Int} (h : w.ownsRow B t 1 v l.length (iv l)) :
    ∃ a c, v = .slice a l.length c ∧ OwnN a l.length (atN l) w ∧ (∀ A, a = some A → B ≤ A.block ∧ A.block < w.heap.size) := by
  obtain ⟨_, ⟨rfl, hn⟩ | ⟨g, cap, cur, rfl, hb, hg, hc, _, hs, ht⟩⟩ := h
  · exact ⟨none, 0, by rw [hn], fun h => absurd h (by omega), fun A e => by cases e⟩
  · have hlt : g < w.heap.size := (Array.getElem?_eq_some_iff.1 hg).1
    refine ⟨some ⟨g, 0, none⟩, cap, rfl, fun _ => ⟨g, rfl, hlt, fun i hi => ?_, fun i hi => ?_⟩, fun A e => by cases e; exact ⟨hb, hlt⟩⟩
    · have hj2 : (iv l)[i]? = some (.int .i64 (atN l i)) := by simp [iv, atN, List.getElem?_eq_getElem hi, List.getD]
      rw [← ht, List.getElem?_take_of_lt (by omega)] at hj2
      have : w.cell? ⟨g, i, none⟩ = cur[i]? := by simp [World.cell?, hg]
      rw [this]
      simpa using hj2
    · simp only [World.frozen?, hg]
      simp
theorem Bf5.but {a : Option Addr} {w w' : World} {X : Nat} {v0 v1 v2 v3 v4 : Value} (h : Bf5 w X v0 v1 v2 v3 v4) (hb : ButA a w w') (hne : ∀ A, a = some A → X ≠ A.block) : Bf5 w' X v0 v1 v2 v3 v4 := by
  have hc := fun o => hb.cell X o h.lt hne
  exact ⟨Nat.lt_of_lt_of_le h.lt hb.size, (hc 0).1.trans h.c0, (hc 1).1.trans h.c1, (hc 2).1.trans h.c2, (hc 3).1.trans h.c3, (hc 4).1.trans h.c4, fun o => (hc o).2.trans (h.fz o)⟩
theorem OwnN.but {a a2 : Option Addr} {len : Nat} {f : Nat → Int} {w w' : World} (h : OwnN a2 len f w) (hb : ButA a w w') (hne : ∀ A A2, a = some A → a2 = some A2 → A2.block ≠ A.block) : OwnN a2 len f w' := by
  intro h0
  obtain ⟨B, ha, hlt, hi⟩ := h h0
  have hc := fun o => hb.cell B o hlt (fun A e => hne A _ e ha)
  exact ⟨B, ha, Nat.lt_of_lt_of_le hlt hb.size, fun i hi2 => (hc i).1.trans (hi.1 i hi2), fun i hi2 => (hc i).2.trans (hi.2 i hi2)⟩
theorem crEnd_open {l : List UInt8} {w : World} {e : Ending} {w' : World} (h : CrEnd l w e w') : Below w.heap.size w w' ∧ ∃ (u v : Int) (G : List Int) (r : Bool) (c : Int) (a : Option Addr) (cap : Nat), e = .returned (.agg #[.int .i64 u, .int .i64 v, .slice a G.length cap, .bool r, .int .i64 c]) ∧ CrO l u v G r c ∧ OwnN a G.length (atN G) w' ∧ (∀ A, a = some A → w.heap.size ≤ A.block ∧ A.block < w'.heap.size) := by
  obtain ⟨hb, u, v, G, r, c, x, rfl, hO, ho⟩ := h
  obtain ⟨a, cap, rfl, h1, h2⟩ := own_N ho
  exact ⟨hb, u, v, G, r, c, a, cap, rfl, hO, h1, h2⟩
theorem sCredRead_any (s : ByteArray) (hs : s.size ≤ 1048576) (w : World) : Calls Tryd.prog 22 #[.string s] w (CrEnd s.data.toList w) := by
  by_cases h : 8000 < s.size
  · exact sCredRead_long s hs h w
  · exact sCredRead_short s (by omega) w
set_option maxHeartbeats 2000000 in
theorem credRead_long (s : ByteArray) (hl : 1048576 < s.size) (hm : s.size ≤ 9223372036854775807) (w : World) :
    Calls Tryd.prog 5 #[.string s] w fun e w' => e = .returned (.bool true) ∧ Below w.heap.size w w' := by
  have hl' : (1048576 : Int) < (s.size : Int) := by omega
  clear hl hm
  go_enter Tryd.func5, Tryd.ntmps5
  go_wp2
  go_ret
  exact ⟨rfl, Below.refl _ _⟩
set_option maxRecDepth 100000 in
set_option maxHeartbeats 4000000 in
theorem credRead_short (s : ByteArray) (m : Int) (hs : s.size ≤ 1048576) (w : World) (hm : w.cell? ⟨2, 0, none⟩ = some (.int .i64 m)) (hml : 2 < w.heap.size) :
    Calls Tryd.prog 5 #[.string s] w fun e w' => e = .returned (.bool true) ∧ Below w.heap.size w w' := by
  have hs' : ¬ (1048576 : Int) < (s.size : Int) := by omega
  have hS : Hid (∀ w, Calls Tryd.prog 22 #[.string s] w (CrEnd s.data.toList w)) := sCredRead_any s hs
  have hI : Hid (∀ w', Below w.heap.size w w' → Calls Tryd.prog 23 #[.string s] w' (CrEnd s.data.toList w')) := (fun w' hb => iCredRead_any s m hs w' ((hb.cell (p := ⟨2, 0, none⟩) hml).trans hm) (Nat.lt_of_lt_of_le hml hb.size))
  clear hs hm hml
  go_enter Tryd.func5, Tryd.ntmps5
  go_wp2_with fail
  refine (hS.out _).mono ?_
  intro e w1 he
  obtain ⟨hb1, u, v, G, r, c, ga, gc, rfl, hO, hoA, hlA⟩ := crEnd_open he
  have HO : Hid (CrO s.data.toList u v G r c) := hO
  have hX0' : Hid (w.heap.size ≤ w1.heap.size) := hb1.size
  have hG := hO.len
  have hb2 := bel_alloc w1 (.cells #[.int .i64 u, .int .i64 v, .slice ga G.length gc, .bool r, .int .i64 c] 47)
  have HX2 : Hid (Bf5 (w1.alloc (.cells #[.int .i64 u, .int .i64 v, .slice ga G.length gc, .bool r, .int .i64 c] 47)) w1.heap.size (.int .i64 u) (.int .i64 v) (.slice ga G.length gc) (.bool r) (.int .i64 c)) := bf5_new _ _ _ _ _ _ _
  have HA2 : Hid (OwnN ga G.length (atN G) (w1.alloc (.cells #[.int .i64 u, .int .i64 v, .slice ga G.length gc, .bool r, .int .i64 c] 47))) := hoA.below hb2
  have HW2 : Hid (Below w.heap.size w (w1.alloc (.cells #[.int .i64 u, .int .i64 v, .slice ga G.length gc, .bool r, .int .i64 c] 47))) := Below.on hb1 hb2
  have HLA : Hid (∀ A, ga = some A → A.block < w1.heap.size) := (fun A e => (hlA A e).2)
  clear he hO hoA hlA hb1 hb2 hS
  go_wp2_with fail
  refine (hI.out _ HW2.out).mono ?_
  intro e w3 he
  obtain ⟨hb3, u', v', G', r', c', gb, gd, rfl, hO', hoB, hlB⟩ := crEnd_open he
  obtain ⟨rfl, rfl, rfl, rfl, rfl⟩ := HO.out.one hO'
  have hb4 := bel_alloc w3 (.cells #[.int .i64 u, .int .i64 v, .slice gb G.length gd, .bool r, .int .i64 c] 47)
  have HX4 : Hid (Bf5 (w3.alloc (.cells #[.int .i64 u, .int .i64 v, .slice gb G.length gd, .bool r, .int .i64 c] 47)) w1.heap.size (.int .i64 u) (.int .i64 v) (.slice ga G.length gc) (.bool r) (.int .i64 c)) := (HX2.out.below hb3).below hb4
  have HY4 : Hid (Bf5 (w3.alloc (.cells #[.int .i64 u, .int .i64 v, .slice gb G.length gd, .bool r, .int .i64 c] 47)) w3.heap.size (.int .i64 u) (.int .i64 v) (.slice gb G.length gd) (.bool r) (.int .i64 c)) := bf5_new _ _ _ _ _ _ _
  have HA4 : Hid (OwnN ga G.length (atN G) (w3.alloc (.cells #[.int .i64 u, .int .i64 v, .slice gb G.length gd, .bool r, .int .i64 c] 47))) := (HA2.out.below hb3).below hb4
  have HB4 : Hid (OwnN gb G.length (atN G) (w3.alloc (.cells #[.int .i64 u, .int .i64 v, .slice gb G.length gd, .bool r, .int .i64 c] 47))) := hoB.below hb4
  have HW4 : Hid (Below w.heap.size w (w3.alloc (.cells #[.int .i64 u, .int .i64 v, .slice gb G.length gd, .bool r, .int .i64 c] 47))) := Below.on (Below.on HW2.out hb3) hb4
  have hz2 : (w1.alloc (.cells #[.int .i64 u, .int .i64 v, .slice ga G.length gc, .bool r, .int .i64 c] 47)).heap.size = w1.heap.size + 1 := by simp
  rw [hz2] at hlB
  have HLB : Hid (∀ A, gb = some A → w1.heap.size < A.block ∧ A.block < w3.heap.size) := (fun A e => ⟨by have := (hlB A e).1; omega, (hlB A e).2⟩)
  clear he hO' hoB hlB hb3 hb4 HX2 HA2 HW2 hz2
  go_upto_region 5 with fail
  generalize hX1 : w3.heap.size = X1 at HY4 HLB ⊢
  generalize hX00 : w1.heap.size = X0 at HX4 HLA HLB hX0' ⊢
  have hwx : Hid (w3.heap.size = X1) := hX1
  generalize w3.alloc (.cells #[.int .i64 u, .int .i64 v, .slice gb G.length gd, .bool r, .int .i64 c] 47) = w4 at HX4 HY4 HA4 HB4 HW4 ⊢
  clear hX1 hX00 hwx
  obtain ⟨xl, x0, x1, x2, x3, x4, _⟩ := HX4.out
  obtain ⟨yl, y0, y1, y2, y3, y4, _⟩ := HY4.out
  go_wp2_with fail
  refine (eqCredOut_any u v gb ga G.length gd gc r c (atN G) (by omega) w4 HB4.out.ints HA4.out.ints).mono ?_
  rintro e w5 ⟨rfl, hb5⟩
  have HX5 : Hid (Bf5 w5 X0 (.int .i64 u) (.int .i64 v) (.slice ga G.length gc) (.bool r) (.int .i64 c)) := HX4.out.below hb5
  have HY5 : Hid (Bf5 w5 X1 (.int .i64 u) (.int .i64 v) (.slice gb G.length gd) (.bool r) (.int .i64 c)) := HY4.out.below hb5
  have HA5 : Hid (OwnN ga G.length (atN G) w5) := HA4.out.below hb5
  have HB5 : Hid (OwnN gb G.length (atN G) w5) := HB4.out.below hb5
  have HW5 : Hid (Below w.heap.size w w5) := Below.on HW4.out hb5
  clear hb5 x0 x1 x2 x3 x4 xl y0 y1 y2 y3 y4 yl HX4 HY4 HA4 HB4 HW4
  obtain ⟨yl, y0, y1, y2, y3, y4, _⟩ := HY5.out
  go_wp2_with fail
  refine (markCredOut_any u v gb G.length gd r c 1 (atN G) (by decide) (by decide) (by omega) w5 HB5.out).mono ?_
  rintro e w6 ⟨rfl, hB6, hbut⟩
  have HX6 : Hid (Bf5 w6 X0 (.int .i64 u) (.int .i64 v) (.slice ga G.length gc) (.bool r) (.int .i64 c)) := HX5.out.but hbut (fun A e => by have := (HLB.out A e).1; omega)
  have HY6 : Hid (Bf5 w6 X1 (.int .i64 u) (.int .i64 v) (.slice gb G.length gd) (.bool r) (.int .i64 c)) := HY5.out.but hbut (fun A e => by have := (HLB.out A e).2; omega)
  have HA6 : Hid (OwnN ga G.length (atN G) w6) := HA5.out.but hbut (fun A A2 e e2 => by have h1 := (HLB.out A e).1; have h2 := HLA.out A2 e2; omega)
  have HB6 : Hid (OwnN gb G.length (fun i => 1 + (i : Int)) w6) := hB6
  have HW6 : Hid (Below w.heap.size w w6) := HW5.out.trans (hbut.below _ HW5.out.size (fun A e => by have h1 := (HLB.out A e).1; have h2 := hX0'.out; omega))
  clear hbut hB6 y0 y1 y2 y3 y4 yl HX5 HY5 HA5 HB5 HW5
  obtain ⟨yl, y0, y1, y2, y3, y4, _⟩ := HY6.out
  have hn1 : ¬ 1 + (G.length : Int) < 0 := by omega
  go_wp2_with fail
  refine (heldCredOut_any u v gb G.length gd r c 1 (by decide) (by decide) (by omega) w6 HB6.out).mono ?_
  rintro e w7 ⟨rfl, hb7⟩
  have HX7 : Hid (Bf5 w7 X0 (.int .i64 u) (.int .i64 v) (.slice ga G.length gc) (.bool r) (.int .i64 c)) := HX6.out.below hb7
  have HY7 : Hid (Bf5 w7 X1 (.int .i64 u) (.int .i64 v) (.slice gb G.length gd) (.bool r) (.int .i64 c)) := HY6.out.below hb7
  have HA7 : Hid (OwnN ga G.length (atN G) w7) := HA6.out.below hb7
  have HB7 : Hid (OwnN gb G.length (fun i => 1 + (i : Int)) w7) := HB6.out.below hb7
  have HW7 : Hid (Below w.heap.size w w7) := Below.on HW6.out hb7
  clear hb7 y0 y1 y2 y3 y4 yl HX6 HY6 HA6 HB6 HW6
  go_wp2_with fail
  refine (hI.out _ HW7.out).mono ?_
  intro e w8 he
  obtain ⟨hb8, u', v', G', r', c', ge, gf, rfl, hO', hoE, hlE⟩ := crEnd_open he
  obtain ⟨rfl, rfl, rfl, rfl, rfl⟩ := HO.out.one hO'
  have hb9 := bel_alloc w8 (.cells #[.int .i64 u, .int .i64 v, .slice ge G.length gf, .bool r, .int .i64 c] 47)
  have HX9 : Hid (Bf5 (w8.alloc (.cells #[.int .i64 u, .int .i64 v, .slice ge G.length gf, .bool r, .int .i64 c] 47)) X0 (.int .i64 u) (.int .i64 v) (.slice ga G.length gc) (.bool r) (.int .i64 c)) := (HX7.out.below hb8).below hb9
  have HY9 : Hid (Bf5 (w8.alloc (.cells #[.int .i64 u, .int .i64 v, .slice ge G.length gf, .bool r, .int .i64 c] 47)) X1 (.int .i64 u) (.int .i64 v) (.slice gb G.length gd) (.bool r) (.int .i64 c)) := (HY7.out.below hb8).below hb9
  have HZ9 : Hid (Bf5 (w8.alloc (.cells #[.int .i64 u, .int .i64 v, .slice ge G.length gf, .bool r, .int .i64 c] 47)) w8.heap.size (.int .i64 u) (.int .i64 v) (.slice ge G.length gf) (.bool r) (.int .i64 c)) := bf5_new _ _ _ _ _ _ _
  have HA9 : Hid (OwnN ga G.length (atN G) (w8.alloc (.cells #[.int .i64 u, .int .i64 v, .slice ge G.length gf, .bool r, .int .i64 c] 47))) := (HA7.out.below hb8).below hb9
  have HB9 : Hid (OwnN gb G.length (fun i => 1 + (i : Int)) (w8.alloc (.cells #[.int .i64 u, .int .i64 v, .slice ge G.length gf, .bool r, .int .i64 c] 47))) := (HB7.out.below hb8).below hb9
  have HE9 : Hid (OwnN ge G.length (atN G) (w8.alloc (.cells #[.int .i64 u, .int .i64 v, .slice ge G.length gf, .bool r, .int .i64 c] 47))) := hoE.below hb9
  have HW9 : Hid (Below w.heap.size w (w8.alloc (.cells #[.int .i64 u, .int .i64 v, .slice ge G.length gf, .bool r, .int .i64 c] 47))) := Below.on (Below.on HW7.out hb8) hb9
  clear he hO' hoE hlE hb8 hb9 HX7 HY7 HA7 HB7 HW7 hI HO
  go_upto_region 16 with fail
  generalize w8.heap.size = X2 at HZ9 ⊢
  generalize w8.alloc (.cells #[.int .i64 u, .int .i64 v, .slice ge G.length gf, .bool r, .int .i64 c] 47) = w9 at HX9 HY9 HZ9 HA9 HB9 HE9 HW9 ⊢
  obtain ⟨xl, x0, x1, x2, x3, x4, _⟩ := HX9.out
  obtain ⟨zl, z0, z1, z2, z3, z4, _⟩ := HZ9.out
  go_wp2_with fail
  refine (eqCredOut_any u v ge ga G.length gf gc r c (atN G) (by omega) w9 HE9.out.ints HA9.out.ints).mono ?_
  rintro e w10 ⟨rfl, hb10⟩
  have HY10 : Hid (Bf5 w10 X1 (.int .i64 u) (.int .i64 v) (.slice gb G.length gd) (.bool r) (.int .i64 c)) := HY9.out.below hb10
  have HB10 : Hid (OwnN gb G.length (fun i => 1 + (i : Int)) w10) := HB9.out.below hb10
  have HW10 : Hid (Below w.heap.size w w10) := Below.on HW9.out hb10
  clear hb10 x0 x1 x2 x3 x4 xl z0 z1 z2 z3 z4 zl HX9 HY9 HZ9 HA9 HB9 HE9 HW9
  obtain ⟨yl, y0, y1, y2, y3, y4, _⟩ := HY10.out
  go_wp2_with fail
  refine (heldCredOut_any u v gb G.length gd r c 1 (by decide) (by decide) (by omega) w10 HB10.out).mono ?_
  rintro e w11 ⟨rfl, hb11⟩
  have HW11 : Hid (Below w.heap.size w w11) := Below.on HW10.out hb11
  clear hb11 y0 y1 y2 y3 y4 yl HY10 HB10 HW10
  go_wp2
  go_ret
  exact ⟨rfl, HW11.out⟩
end Go.Proofs.YtibofkjonepbpabDoor
