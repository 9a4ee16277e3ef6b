/- NfsChmod: the program's list is the specification's. -/
import Derived.Test.YtddkmlkfphmdoaaDoorChmodM
import Derived.Test.YtddkmlkfphmdoaaDoorChmodD
namespace Go.Proofs.YtddkmlkfphmdoaaDoor
open Go.RowKit Go.PlainAid Go.Deep
set_option linter.unusedVariables false
def sayA (l : List Ac) : List Ac := l.filter (fun x => !decide (x.ma = 0))
theorem kpA_take (l : List Ac) (k : Nat) (hk : k ≤ l.length) : kpA l k = sayA (l.take k) := by
  induction k with
  | zero => rfl
  | succ k ih =>
    have h1 : k < l.length := by omega
    rw [List.take_add_one, List.getElem?_eq_getElem h1]
    simp only [kpA, Option.toList_some, sayA, List.filter_append]
    rw [ih (by omega), acAt_get h1]
    by_cases h : l[k].ma = 0
    · rw [if_pos h]
      simp [sayA, h]
    · rw [if_neg h]
      simp [sayA, h]
theorem kpA_say (l : List Ac) : kpA l l.length = sayA l := by
  rw [kpA_take l l.length (Nat.le_refl _), List.take_length]
theorem sayA_app (xs ys : List Ac) : sayA (xs ++ ys) = sayA xs ++ sayA ys := List.filter_append ..
theorem more_say (acc : List Ac) (al : Bool) (wh id ma : Int) : moreA acc al wh id ma = acc ++ sayA [⟨al, wh, id, 0, ma⟩] := by
  unfold moreA sayA
  by_cases h : ma = 0
  · rw [if_pos h]; simp [h]
  · rw [if_neg h]; simp [h]
theorem say_hd {l : List Ac} (hb : acesB l = true) (k : Nat) (hk : k ≤ l.length) : sayA (hdTo l k) = hdTo l k := by
  induction k with
  | zero => rfl
  | succ k ih =>
    have hr := (ace_range hb (show k < l.length by omega)).2
    simp only [hdTo]
    split
    · rw [sayA_app, ih (by omega)]
      have : (hnd (acAt l k)).ma ≠ 0 := by show (acAt l k).ma ≠ 0; omega
      simp [sayA, this]
    · exact ih (by omega)
theorem bitsZ_nb {b : Int} (h0 : 0 ≤ b) (h1 : b ≤ 7) : bitsZ b = nb b := by
  rcases (by omega : b = 0 ∨ b = 1 ∨ b = 2 ∨ b = 3 ∨ b = 4 ∨ b = 5 ∨ b = 6 ∨ b = 7) with rfl | rfl | rfl | rfl | rfl | rfl | rfl | rfl <;> decide
theorem or_own {b : Int} (h0 : 0 ≤ b) (h1 : b ≤ 7) : bits .or .i64 (bits .or .i64 (bitsZ b) 32) 64 = nb b + 32 + 64 := by
  rcases (by omega : b = 0 ∨ b = 1 ∨ b = 2 ∨ b = 3 ∨ b = 4 ∨ b = 5 ∨ b = 6 ∨ b = 7) with rfl | rfl | rfl | rfl | rfl | rfl | rfl | rfl <;> decide
theorem or_oth {b : Int} (h0 : 0 ≤ b) (h1 : b ≤ 7) : bits .or .i64 (bitsZ b) 32 = nb b + 32 := by
  rcases (by omega : b = 0 ∨ b = 1 ∨ b = 2 ∨ b = 3 ∨ b = 4 ∨ b = 5 ∨ b = 6 ∨ b = 7) with rfl | rfl | rfl | rfl | rfl | rfl | rfl | rfl <;> decide
theorem cut_nat : ∀ m : Fin 256, ∀ g : Fin 8, bits .andNot .i64 ((m.val : Nat) : Int) (bits .andNot .i64 15 (bitsZ ((g.val : Nat) : Int))) = ((m.val : Nat) : Int) - andI ((m.val : Nat) : Int) (nb (7 - ((g.val : Nat) : Int))) := by decide +kernel
theorem ct_cut {x : Ac} {g : Int} (h0 : 0 ≤ g) (h1 : g ≤ 7) (n0 : 1 ≤ x.ma) (n1 : x.ma ≤ 255) : ctM g x = cutM x g := by
  unfold ctM cutM
  split
  · obtain ⟨m, hm⟩ := Int.eq_ofNat_of_zero_le (by omega : 0 ≤ x.ma)
    obtain ⟨q, hq⟩ := Int.eq_ofNat_of_zero_le h0
    have := cut_nat ⟨m, by omega⟩ ⟨q, by omega⟩
    rw [hm, hq]
    exact this
  · rfl
theorem nm_say {l : List Ac} (hb : acesB l = true) {g : Int} (h0 : 0 ≤ g) (h1 : g ≤ 7) (base : List Ac) (k : Nat) (hk : k ≤ l.length) : nmAc base l g k = base ++ sayA ((fltP nmdB l k).map (ctA g)) := by
  induction k with
  | zero => simp [nmAc, fltP, sayA]
  | succ k ih =>
    have hlt : k < l.length := by omega
    have hr := (ace_range hb hlt).2
    have hw := (aceB_iff.1 (aces_at hb hlt)).1
    have hiff : (hldB (acAt l k) = true ∧ 4 ≤ (acAt l k).wh) ↔ (hldB (acAt l k) && nmdB (acAt l k)) = true := by
      unfold nmdB
      simp only [Bool.and_eq_true, Bool.or_eq_true, decide_eq_true_eq]
      constructor
      · rintro ⟨a, b⟩; exact ⟨a, by omega⟩
      · rintro ⟨a, b⟩; exact ⟨a, by omega⟩
    simp only [nmAc, ih (by omega)]
    by_cases h : hldB (acAt l k) = true ∧ 4 ≤ (acAt l k).wh
    · rw [if_pos h, fltP_yes (hiff.1 h), List.map_append, sayA_app, ← List.append_assoc, more_say, ← ct_cut h0 h1 hr.1 hr.2]
      rfl
    · rw [if_neg h, fltP_no (by cases q : (hldB (acAt l k) && nmdB (acAt l k)) with | false => rfl | true => exact absurd (hiff.2 q) h)]
/-- What is left of the program's list is the specification's. -/
theorem mo_ch {l : List Ac} (hb : acesB l = true) {u g o : Int} (u0 : 0 ≤ u) (u1 : u ≤ 7) (g0 : 0 ≤ g) (g1 : g ≤ 7) (o0 : 0 ≤ o) (o1 : o ≤ 7) : kpA (moL l u g o) (moL l u g o).length = chL l u g o := by
  rw [kpA_say]
  unfold moL chL chOwn ownL rstL
  rw [nm_say hb g0 g1 _ l.length (Nat.le_refl _), sayA_app, sayA_app, sayA_app, say_hd hb l.length (Nat.le_refl _), or_own u0 u1, or_oth o0 o1, bitsZ_nb g0 g1, bitsZ_nb (b := 7 - u) (by omega) (by omega), bitsZ_nb (b := 7 - g) (by omega) (by omega)]
  simp only [more_say]
  have e2 : ∀ x y : Ac, sayA [x, y] = sayA [x] ++ sayA [y] := fun x y => sayA_app [x] [y]
  have e3 : ∀ x y z : Ac, sayA [x, y, z] = sayA [x] ++ sayA [y] ++ sayA [z] := fun x y z => by rw [show [x, y, z] = [x] ++ [y] ++ [z] from rfl, sayA_app, sayA_app]
  rw [e2, e3]
  simp only [List.append_assoc]
theorem moL_len {l : List Ac} (u g o : Int) (h : l.length ≤ 32) : (moL l u g o).length ≤ 100 ∧ 0 < (moL l u g o).length := by
  have h1 := hd_len l l.length
  have h2 := fltP_len nmdB l l.length
  simp only [moL, ownL, rstL, List.length_append, List.length_map, List.length_cons, List.length_nil]
  omega
end Go.Proofs.YtddkmlkfphmdoaaDoor
