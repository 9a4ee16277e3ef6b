/- The draw of a text for CredRead. -/
import Derived.Test.YtlngfaplimpilaaDoorDrawWho
import Derived.Test.YtlngfaplimpilaaDoorSCredText
namespace Go.Proofs.YtlngfaplimpilaaDoor
open Go.RowKit Go.PlainAid Go.Deep
set_option linter.unusedVariables false
theorem credT_size (u g : Int) (n : Nat) (f : Nat → Int) (r : Bool) : (credT u g n f r).size ≤ 60 := by
  cases hc : credB u g n f
  · rw [credT_no hc]; decide
  · have hc2 := hc
    rw [credB, Bool.and_eq_true, Bool.and_eq_true, grB, Bool.and_eq_true] at hc2
    obtain ⟨h1, h2, h3, h4⟩ := hc2
    have hn := of_decide_eq_true h3
    have a1 := inR_iff.1 h1
    have a2 := inR_iff.1 h2
    have p1 := preT_size (u := u.toNat) (g := g.toNat) (by omega) (by omega)
    have p2 := jnT_size (f := f) (n := n) (fun i hi => rises_at h4 hi) (Nat.le_refl n)
    have p3 : (⟨#[42]⟩ : ByteArray).size = 1 := rfl
    rw [credT, if_pos hc]
    cases r
    · simp only [Bool.false_eq_true, if_false, ByteArray.size_append]
      omega
    · simp only [if_true, ByteArray.size_append]
      omega
theorem lits8 (w : World) (a b c d e f g h : ByteArray) (t : TypeId) (hh : a.size ≤ 1000 ∧ b.size ≤ 1000 ∧ c.size ≤ 1000 ∧ d.size ≤ 1000 ∧ e.size ≤ 1000 ∧ f.size ≤ 1000 ∧ g.size ≤ 1000 ∧ h.size ≤ 1000) : ∀ j, j < 8 → ∃ x, (w.alloc (.cells #[.string a, .string b, .string c, .string d, .string e, .string f, .string g, .string h] t)).cell? ⟨w.heap.size, j, none⟩ = some (.string x) ∧ x.size ≤ 1000 := by
  intro j hj
  rw [lit_cell]
  match j, hj with
  | 0, _ => exact ⟨a, rfl, hh.1⟩
  | 1, _ => exact ⟨b, rfl, hh.2.1⟩
  | 2, _ => exact ⟨c, rfl, hh.2.2.1⟩
  | 3, _ => exact ⟨d, rfl, hh.2.2.2.1⟩
  | 4, _ => exact ⟨e, rfl, hh.2.2.2.2.1⟩
  | 5, _ => exact ⟨f, rfl, hh.2.2.2.2.2.1⟩
  | 6, _ => exact ⟨g, rfl, hh.2.2.2.2.2.2.1⟩
  | 7, _ => exact ⟨h, rfl, hh.2.2.2.2.2.2.2⟩
/-- The number at a place. -/
def atD (l : List Int) (i : Nat) : Int := l.getD i 0
theorem own_intsD {w : World} {B : Nat} {t : TypeId} {a : Option Addr} {c : Nat} {l : List Int} (h : w.ownsRow B t 1 (.slice a l.length c) l.length (ivD l)) : Ints a l.length (atD l) w := by
  obtain ⟨_, ⟨q1, hn⟩ | ⟨g, cap, cur, q1, hb, hg, hc, _, hs, ht⟩⟩ := h
  · exact fun h0 => absurd h0 (by omega)
  · cases q1
    have hlt : g < w.heap.size := (Array.getElem?_eq_some_iff.1 hg).1
    refine fun _ => ⟨g, 0, rfl, hlt, fun i hi => ?_⟩
    have hj2 : (ivD l)[i]? = some (.int .i64 (atD l i)) := by simp [ivD, atD, List.getElem?_eq_getElem hi, List.getD]
    rw [← ht, List.getElem?_take_of_lt (by omega)] at hj2
    have : w.cell? ⟨g, 0 + i, none⟩ = cur[i]? := by simp [World.cell?, hg]
    rw [this]
    simpa using hj2
theorem Src.belowD {a : Option Addr} {len cap : Nat} {g : Nat → Int} {p : Nat} {w w' : World} (h : Src a len cap g p w) (hb : Below w.heap.size w w') : Src a len cap g p w' :=
  h.kept (fun k hk => hb.block k (Nat.lt_of_le_of_lt hk h.pos))
set_option maxRecDepth 100000 in
set_option maxHeartbeats 2000000 in
theorem dDrawCredRead_any (a : Option Addr) (len cap : Nat) (g : Nat → Int) (w : World) (hc : Code a len g w.heap.size w) :
    Calls Tryd.prog 11 #[.slice a len cap] w fun e w' => ∃ t : ByteArray, t.size ≤ 1000 ∧ e = .returned (.string t) ∧ Below w.heap.size w w' := by
  have HC : Hid (Code a len g w.heap.size w) := hc
  clear hc
  go_enter Tryd.func11, Tryd.ntmps11
  go_wp2_with fail
  refine (source_any a len cap g _ HC.out).mono ?_
  rintro e w1 ⟨rfl, hs1, hb1⟩
  go_wp2_with fail
  refine (drCred_any a len cap g _ _ hs1).mono ?_
  rintro e w2 ⟨u, v, l, x, r, rfl, hl, ho, hs2, ho2⟩
  have hb2 : Below w.heap.size w w2 := ho2.below hb1 (Nat.le_refl _) hb1.size
  obtain ⟨ga, gc, hx⟩ := row_shapeD ho
  subst hx
  have hT : Hid (Calls Tryd.prog 14 #[.agg #[.int .i64 u, .int .i64 v, .slice ga l.length gc, .bool r]] w2 fun e w' => e = .returned (.string (credT u v l.length (atD l) r)) ∧ Below w2.heap.size w2 w') := sCredText_any u v ga l.length gc r (atD l) w2 (own_intsD ho)
  have hz := credT_size u v l.length (atD l) r
  generalize credT u v l.length (atD l) r = t at hT hz
  clear hs1 ho2 hb1 HC ho
  go_wp2_with fail
  refine hT.out.mono ?_
  rintro e w3 ⟨rfl, hb3⟩
  have hs3 := hs2.belowD hb3
  have hB3 : Below w.heap.size w w3 := hb2.trans (hb3.mono hb2.size)
  clear hs2 hb2 hb3 hT
  go_wp2_with fail
  refine (n_any a len cap g _ _ (by decide) _ hs3).mono ?_
  rintro e w4 ⟨x, rfl, x1, x2, hs4, ho4⟩
  have HB : Hid (Below w.heap.size w w4) := ho4.below hB3 (Nat.le_refl _) hB3.size
  have hpz := hs4.pos
  clear ho4 hs3 hB3
  by_cases e0 : x = 0
  · subst e0
    go_wp2_with fail
    refine (spoil_any a len cap g _ t (by omega) _ hs4).mono ?_
    rintro e w5 ⟨t', ht', rfl, hs5, ho5⟩
    have HB5 : Hid (Below w.heap.size w w5) := ho5.below HB.out (Nat.le_refl _) HB.out.size
    clear ho5 hs5 hs4
    go_wp2
    go_ret
    exact ⟨t', by omega, rfl, HB5.out⟩
  · have b0 : (x == 0) = false := by simpa using e0
    by_cases e1 : x = 1
    · subst e1
      clear e0
      go_wp2_with fail
      refine (pick_any a len cap g _ _ 8 _ (by omega) (by omega) _ (by simp) (by omega) (lits8 _ _ _ _ _ _ _ _ _ _ (by decide)) (src_alloc hs4 _)).mono ?_
      rintro e w5 ⟨t', ht', rfl, hs5, ho5⟩
      have HB5 : Hid (Below w.heap.size w w5) := ho5.below (HB.out.alloc HB.out.size _) (Nat.le_refl _) (by have := HB.out.size; simp; omega)
      clear ho5 hs5 hs4
      go_wp2
      go_ret
      exact ⟨t', ht', rfl, HB5.out⟩
    · have b1 : (x == 1) = false := by simpa using e1
      clear hs4
      go_wp2
      go_ret
      exact ⟨t, by omega, rfl, HB.out⟩
end Go.Proofs.YtlngfaplimpilaaDoor
