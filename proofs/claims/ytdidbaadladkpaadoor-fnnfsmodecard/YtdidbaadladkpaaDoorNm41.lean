/- Laid together: ChmodD, ChmodE, ChmodD2. -/
import Derived.Test.YtdidbaadladkpaaDoorNm29
import Derived.Test.YtdidbaadladkpaaDoorNm5
import Derived.Test.YtdidbaadladkpaaDoorNm4
import Derived.Lib.SliceRun
import Derived.Test.YtdidbaadladkpaaDoorNm40
/- slices.IndexFunc and slices.DeleteFunc at a list of aces and impl.saysNothing. -/
namespace Go.Proofs.YtdidbaadladkpaaDoor
open Go.RowKit Go.PlainAid Go.Deep
set_option linter.unusedVariables false
/-- Those of the first k that say something. -/
def kpA (l : List Ac) : Nat → List Ac
  | 0 => []
  | k + 1 => if (acAt l k).ma = 0 then kpA l k else kpA l k ++ [acAt l k]
theorem kpA_len (l : List Ac) (k : Nat) : (kpA l k).length ≤ k := by
  induction k with
  | zero => exact Nat.le_refl _
  | succ k ih =>
    simp only [kpA]
    split
    · omega
    · simp; omega
theorem acAt_app {xs : List Ac} {x : Ac} {t : Nat} (h : t < xs.length) : acAt (xs ++ [x]) t = acAt xs t := by
  rw [acAt_get (by simp; omega), acAt_get h, List.getElem_append_left h]
theorem acAt_last (xs : List Ac) (x : Ac) : acAt (xs ++ [x]) xs.length = x := by
  rw [acAt_get (by simp)]
  simp
theorem kpA_all {l : List Ac} {k : Nat} (h : ∀ i, i < k → (acAt l i).ma ≠ 0) : (kpA l k).length = k ∧ ∀ t, t < k → acAt (kpA l k) t = acAt l t := by
  induction k with
  | zero => exact ⟨rfl, fun t ht => by omega⟩
  | succ k ih =>
    obtain ⟨h1, h2⟩ := ih (fun i hi => h i (by omega))
    simp only [kpA]
    rw [if_neg (h k (by omega))]
    refine ⟨by simp [h1], fun t ht => ?_⟩
    by_cases e : t < k
    · rw [acAt_app (by omega)]
      exact h2 t e
    · have : t = (kpA l k).length := by omega
      rw [this, acAt_last, h1]
theorem bl_setCs {B b : Nat} {a : World} (hb : B ≤ b) : ∀ (vs : List Value) (o : Nat) (w : World), Below B a w → Below B a (w.setCells b o vs)
  | [], _, _, h => h
  | v :: r, o, w, h => bl_setCs hb r (o + 1) (w.setCell ⟨b, o, none⟩ v) (bl_setA h hb)
theorem sz_setCs (b : Nat) : ∀ (vs : List Value) (o : Nat) (w : World), (w.setCells b o vs).heap.size = w.heap.size
  | [], _, _ => rfl
  | v :: r, o, w => (sz_setCs b r (o + 1) (w.setCell ⟨b, o, none⟩ v)).trans (by simp)
set_option maxHeartbeats 1000000 in
theorem saysN_any (x : Ac) (w : World) :
    Calls Tryd.prog 67 #[.agg #[.bool x.al, .int .i64 x.wh, .int .i64 x.id, .int .i64 x.fl, .int .i64 x.ma]] w fun e w' => e = .returned (.bool (decide (x.ma = 0))) ∧ Below w.heap.size w w' := by
  go_enter Tryd.func67, Tryd.ntmps67
  go_wp2
  go_ret
  exact ⟨ret_boolW rfl, (Below.refl _ _).alloc (Nat.le_refl _) _⟩
/-- clear of some aces. -/
theorem run_clearA (w : World) (ty : TypeId) (b o n c : Nat) (hn : 0 < n) (hc : ∀ j, j < n * 5 → (w.cell? ⟨b, o + j, none⟩).isSome = true) (hf : ∀ j, j < n * 5 → w.frozen? ⟨b, o + j, none⟩ = false) :
    (Builtin.clear_ #[23] ty #[.slice (some ⟨b, o, none⟩) n c]).run Tryd.prog w = .ok (.tuple #[]) (w.setCells b o (Builtin.zeroCells #[.bool false, .int .i64 0, .int .i64 0, .int .i64 0, .int .i64 0] n).toList) := by
  have hlen : (Builtin.zeroCells #[Value.bool false, .int .i64 0, .int .i64 0, .int .i64 0, .int .i64 0] n).toList.length = n * 5 := by simp [Builtin.zeroCells]
  have hst := run_storeCells_cells (P := Tryd.prog) b o (Builtin.zeroCells #[Value.bool false, .int .i64 0, .int .i64 0, .int .i64 0, .int .i64 0] n).toList 0 w (by rw [hlen]; simpa using hc) (by rw [hlen]; simpa using hf) (by
    intro v hv
    simp only [Builtin.zeroCells, Array.toList_map, List.mem_map] at hv
    obtain ⟨i, _, rfl⟩ := hv
    have h5 : i % 5 = 0 ∨ i % 5 = 1 ∨ i % 5 = 2 ∨ i % 5 = 3 ∨ i % 5 = 4 := by omega
    show ((#[Value.bool false, .int .i64 0, .int .i64 0, .int .i64 0, .int .i64 0] : Array Value)[i % 5]!).oneCell' = true
    rcases h5 with h | h | h | h | h <;> rw [h] <;> rfl)
  simp only [Nat.add_zero] at hst
  obtain ⟨m, rfl⟩ : ∃ m, n = m + 1 := ⟨n - 1, by omega⟩
  simp [Builtin.clear_, run_underlying Tryd.underlying23, Value.cells, hst]
end Go.Proofs.YtdidbaadladkpaaDoor
/- NfsChmod: the program's list is the specification's. -/
namespace Go.Proofs.YtdidbaadladkpaaDoor
open Go.RowKit Go.PlainAid Go.Deep
set_option linter.unusedVariables false
def sayA (l : List Ac) : List Ac := l.filter (fun x => !decide (x.ma = 0))
theorem kpA_take (l : List Ac) (k : Nat) (hk : k ≤ l.length) : kpA l k = sayA (l.take k) := by
  induction k with
  | zero => rfl
  | succ k ih =>
    have h1 : k < l.length := by omega
    rw [List.take_add_one, List.getElem?_eq_getElem h1]
    simp only [kpA, Option.toList_some, sayA, List.filter_append]
    rw [ih (by omega), acAt_get h1]
    by_cases h : l[k].ma = 0
    · rw [if_pos h]
      simp [sayA, h]
    · rw [if_neg h]
      simp [sayA, h]
theorem kpA_say (l : List Ac) : kpA l l.length = sayA l := by
  rw [kpA_take l l.length (Nat.le_refl _), List.take_length]
theorem sayA_app (xs ys : List Ac) : sayA (xs ++ ys) = sayA xs ++ sayA ys := List.filter_append ..
theorem more_say (acc : List Ac) (al : Bool) (wh id ma : Int) : moreA acc al wh id ma = acc ++ sayA [⟨al, wh, id, 0, ma⟩] := by
  unfold moreA sayA
  by_cases h : ma = 0
  · rw [if_pos h]; simp [h]
  · rw [if_neg h]; simp [h]
theorem say_hd {l : List Ac} (hb : acesB l = true) (k : Nat) (hk : k ≤ l.length) : sayA (hdTo l k) = hdTo l k := by
  induction k with
  | zero => rfl
  | succ k ih =>
    have hr := (ace_range hb (show k < l.length by omega)).2
    simp only [hdTo]
    split
    · rw [sayA_app, ih (by omega)]
      have : (hnd (acAt l k)).ma ≠ 0 := by show (acAt l k).ma ≠ 0; omega
      simp [sayA, this]
    · exact ih (by omega)
theorem bitsZ_nb {b : Int} (h0 : 0 ≤ b) (h1 : b ≤ 7) : bitsZ b = nb b := by
  rcases (by omega : b = 0 ∨ b = 1 ∨ b = 2 ∨ b = 3 ∨ b = 4 ∨ b = 5 ∨ b = 6 ∨ b = 7) with rfl | rfl | rfl | rfl | rfl | rfl | rfl | rfl <;> decide
theorem or_own {b : Int} (h0 : 0 ≤ b) (h1 : b ≤ 7) : bits .or .i64 (bits .or .i64 (bitsZ b) 32) 64 = nb b + 32 + 64 := by
  rcases (by omega : b = 0 ∨ b = 1 ∨ b = 2 ∨ b = 3 ∨ b = 4 ∨ b = 5 ∨ b = 6 ∨ b = 7) with rfl | rfl | rfl | rfl | rfl | rfl | rfl | rfl <;> decide
theorem or_oth {b : Int} (h0 : 0 ≤ b) (h1 : b ≤ 7) : bits .or .i64 (bitsZ b) 32 = nb b + 32 := by
  rcases (by omega : b = 0 ∨ b = 1 ∨ b = 2 ∨ b = 3 ∨ b = 4 ∨ b = 5 ∨ b = 6 ∨ b = 7) with rfl | rfl | rfl | rfl | rfl | rfl | rfl | rfl <;> decide
theorem cut_nat : ∀ m : Fin 256, ∀ g : Fin 8, bits .andNot .i64 ((m.val : Nat) : Int) (bits .andNot .i64 15 (bitsZ ((g.val : Nat) : Int))) = ((m.val : Nat) : Int) - andI ((m.val : Nat) : Int) (nb (7 - ((g.val : Nat) : Int))) := by decide +kernel
theorem ct_cut {x : Ac} {g : Int} (h0 : 0 ≤ g) (h1 : g ≤ 7) (n0 : 1 ≤ x.ma) (n1 : x.ma ≤ 255) : ctM g x = cutM x g := by
  unfold ctM cutM
  split
  · obtain ⟨m, hm⟩ := Int.eq_ofNat_of_zero_le (by omega : 0 ≤ x.ma)
    obtain ⟨q, hq⟩ := Int.eq_ofNat_of_zero_le h0
    have := cut_nat ⟨m, by omega⟩ ⟨q, by omega⟩
    rw [hm, hq]
    exact this
  · rfl
theorem nm_say {l : List Ac} (hb : acesB l = true) {g : Int} (h0 : 0 ≤ g) (h1 : g ≤ 7) (base : List Ac) (k : Nat) (hk : k ≤ l.length) : nmAc base l g k = base ++ sayA ((fltP nmdB l k).map (ctA g)) := by
  induction k with
  | zero => simp [nmAc, fltP, sayA]
  | succ k ih =>
    have hlt : k < l.length := by omega
    have hr := (ace_range hb hlt).2
    have hw := (aceB_iff.1 (aces_at hb hlt)).1
    have hiff : (hldB (acAt l k) = true ∧ 4 ≤ (acAt l k).wh) ↔ (hldB (acAt l k) && nmdB (acAt l k)) = true := by
      unfold nmdB
      simp only [Bool.and_eq_true, Bool.or_eq_true, decide_eq_true_eq]
      constructor
      · rintro ⟨a, b⟩; exact ⟨a, by omega⟩
      · rintro ⟨a, b⟩; exact ⟨a, by omega⟩
    simp only [nmAc, ih (by omega)]
    by_cases h : hldB (acAt l k) = true ∧ 4 ≤ (acAt l k).wh
    · rw [if_pos h, fltP_yes (hiff.1 h), List.map_append, sayA_app, ← List.append_assoc, more_say, ← ct_cut h0 h1 hr.1 hr.2]
      rfl
    · rw [if_neg h, fltP_no (by cases q : (hldB (acAt l k) && nmdB (acAt l k)) with | false => rfl | true => exact absurd (hiff.2 q) h)]
/-- What is left of the program's list is the specification's. -/
theorem mo_ch {l : List Ac} (hb : acesB l = true) {u g o : Int} (u0 : 0 ≤ u) (u1 : u ≤ 7) (g0 : 0 ≤ g) (g1 : g ≤ 7) (o0 : 0 ≤ o) (o1 : o ≤ 7) : kpA (moL l u g o) (moL l u g o).length = chL l u g o := by
  rw [kpA_say]
  unfold moL chL chOwn ownL rstL
  rw [nm_say hb g0 g1 _ l.length (Nat.le_refl _), sayA_app, sayA_app, sayA_app, say_hd hb l.length (Nat.le_refl _), or_own u0 u1, or_oth o0 o1, bitsZ_nb g0 g1, bitsZ_nb (b := 7 - u) (by omega) (by omega), bitsZ_nb (b := 7 - g) (by omega) (by omega)]
  simp only [more_say]
  have e2 : ∀ x y : Ac, sayA [x, y] = sayA [x] ++ sayA [y] := fun x y => sayA_app [x] [y]
  have e3 : ∀ x y z : Ac, sayA [x, y, z] = sayA [x] ++ sayA [y] ++ sayA [z] := fun x y z => by rw [show [x, y, z] = [x] ++ [y] ++ [z] from rfl, sayA_app, sayA_app]
  rw [e2, e3]
  simp only [List.append_assoc]
theorem moL_len {l : List Ac} (u g o : Int) (h : l.length ≤ 32) : (moL l u g o).length ≤ 100 ∧ 0 < (moL l u g o).length := by
  have h1 := hd_len l l.length
  have h2 := fltP_len nmdB l l.length
  simp only [moL, ownL, rstL, List.length_append, List.length_map, List.length_cons, List.length_nil]
  omega
end Go.Proofs.YtdidbaadladkpaaDoor
/- slices.IndexFunc and slices.DeleteFunc at a list of aces and impl.saysNothing. -/
namespace Go.Proofs.YtdidbaadladkpaaDoor
open Go.RowKit Go.PlainAid Go.Deep
set_option linter.unusedVariables false
set_option maxRecDepth 100000 in
set_option maxHeartbeats 4000000 in
/-- slices.IndexFunc. -/
theorem indexFn_any (B len cap : Nat) (l : List Ac) (hl : len ≤ 1000) (w : World) (hlt : B < w.heap.size) (hA : AHold w B (acAt l) len) :
    Calls Tryd.prog 84 #[.slice (some ⟨B, 0, none⟩) len cap, .func (.func 67) #[] #[]] w fun e w' => ((e = .returned (.int .i64 (-1)) ∧ ∀ i, i < len → (acAt l i).ma ≠ 0) ∨ ∃ k : Nat, k < len ∧ e = .returned (.int .i64 k) ∧ (acAt l k).ma = 0 ∧ ∀ i, i < k → (acAt l i).ma ≠ 0) ∧ Below w.heap.size w w' := by
  have HA : Hid (AHold w B (acAt l) len) := hA
  have HS : Hid (∀ (x : Ac) (w : World), Calls Tryd.prog 67 #[.agg #[.bool x.al, .int .i64 x.wh, .int .i64 x.id, .int .i64 x.fl, .int .i64 x.ma]] w fun e w' => e = .returned (.bool (decide (x.ma = 0))) ∧ Below w.heap.size w w') := saysN_any
  clear hA
  go_enter Tryd.func84, Tryd.ntmps84
  go_wp2
  go_loopw [5, 8] (fun _ i wr => ∃ k : Nat, k ≤ len ∧ i = .int .i64 k ∧ Hid (∀ t, t < k → (acAt l t).ma ≠ 0) ∧ Hid (Below w.heap.size w wr)) (fun _ i _ => len - (intOf i).toNat)
  case atStart => exact ⟨0, Nat.zero_le _, rfl, fun t ht => absurd ht (by omega), Below.refl _ _⟩
  case round =>
    obtain ⟨k, hk, rfl, hne, hB⟩ := hrel
    by_cases hlt2 : k < len
    · have hlt' : (k : Int) < (len : Int) := by omega
      obtain ⟨c0, c1, c2, c3, c4⟩ := (HA.out k hlt2).1.keep (fun j => hB.out.cell (p := ⟨B, j, none⟩) hlt)
      have HN : Hid (∀ y : Ac, y = acAt l k → y.ma ≠ 0 → ∀ t, t < k + 1 → (acAt l t).ma ≠ 0) := (fun y hy h0 t ht => by
        by_cases e : t = k
        · rw [e, ← hy]; exact h0
        · exact hne.out t (by omega))
      have hx : Hid (∀ y : Ac, y = acAt l k → y.ma = 0 → (acAt l k).ma = 0) := (fun y hy h0 => by rw [← hy]; exact h0)
      generalize hy : acAt l k = x at c0 c1 c2 c3 c4
      have HY : Hid (x = acAt l k) := hy.symm
      clear hy
      go_wp2_with fail
      refine (HS.out x _).mono ?_
      rintro e w1 ⟨rfl, hb1⟩
      have hB1 : Hid (Below w.heap.size w w1) := Below.on hB.out hb1
      clear hb1 hB c0 c1 c2 c3 c4
      by_cases hz : x.ma = 0
      · have hzd : decide (x.ma = 0) = true := by simpa using hz
        have HZ : Hid ((acAt l k).ma = 0) := hx.out x HY.out hz
        clear hx HN hz
        go_wp2
        go_ret
        exact ⟨.inr ⟨k, hlt2, rfl, HZ.out, hne.out⟩, hB1.out⟩
      · have hzd : decide (x.ma = 0) = false := by simpa using hz
        have HZ : Hid (∀ t, t < k + 1 → (acAt l t).ma ≠ 0) := HN.out x HY.out hz
        clear hx HN hz hne
        go_wp2
        go_roundw
        case rel => exact ⟨k + 1, by omega, by go_num, HZ, hB1⟩
        case measure => simp [intOf]; omega
    · have : k = len := by omega
      subst this
      go_wp2
      go_ret
      exact ⟨.inl ⟨rfl, hne.out⟩, hB.out⟩
end Go.Proofs.YtdidbaadladkpaaDoor
