/- Laid together: CrossT, GrZ, GrY. -/
import Derived.Test.YthgcobglecomcaaDoorDf39
import Derived.Test.YthgcobglecomcaaDoorDf10
import Derived.Test.YthgcobglecomcaaDoorDf35
/- ToNfs of the specification, of any list. -/
namespace Go.Proofs.YthgcobglecomcaaDoor
open Go.RowKit Go.PlainAid Go.Deep
set_option linter.unusedVariables false
/-- A list of names as one in order; none, if it is not right. -/
def toN (A : Al) : List Ac := if A.B = true then nfsA A else []
theorem nfs_len {A : Al} (hA : A.B = true) : (nfsA A).length ≤ 50 := by
  have hB : aclB A.u A.g A.o A.us A.gs A.r A.m = true := hA
  obtain ⟨_, _, _, _, b1, b2⟩ := aclB_parts hB
  have hl1 := nm_len b1
  have hl2 := nm_len b2
  have h1 := usN_len (pairA [] 1 0 A.u) A.us A.m A.us.length
  have h2 := pair_len [] 1 0 A.u
  have h3 := gaN_len (moreA (nfs1 A) true 2 0 (nb (ownG A))) A.gs A.m A.gs.length
  have h4 := more_len (nfs1 A) true 2 0 (nb (ownG A))
  have h5 := gdN_len (moreA (nfs2 A) false 2 0 (nb (7 - ownG A))) A.gs A.m A.gs.length
  have h6 := more_len (nfs2 A) false 2 0 (nb (7 - ownG A))
  have h7 := more_len (nfs3 A) true 3 0 (nb A.o)
  have e1 : (nfs1 A).length = (usN (pairA [] 1 0 A.u) A.us A.m A.us.length).length := rfl
  have e2 : (nfs2 A).length = (gaN (moreA (nfs1 A) true 2 0 (nb (ownG A))) A.gs A.m A.gs.length).length := rfl
  have e3 : (nfs3 A).length = (gdN (moreA (nfs2 A) false 2 0 (nb (7 - ownG A))) A.gs A.m A.gs.length).length := rfl
  have e4 : (nfsA A).length = (moreA (nfs3 A) true 3 0 (nb A.o)).length := rfl
  simp only [List.length_nil] at h2
  omega
theorem row_some {w : World} {B : Nat} {t : TypeId} {s : Nat} {a : Option Addr} {m c n : Nat} {xs : List Value} (h : w.ownsRow B t s (.slice a m c) n xs) (hn : 0 < m) : ∃ Ad, a = some Ad := by
  obtain ⟨_, ⟨h1, h2⟩ | ⟨g1, cap1, cur1, h1, _, _, hc1, _, _, _⟩⟩ := h
  · cases h1; omega
  · cases h1; exact ⟨_, rfl⟩
theorem more_ge (l : List Ac) (al : Bool) (wh id ma : Int) : l.length ≤ (moreA l al wh id ma).length := by
  unfold moreA
  split
  · omega
  · simp
theorem pair_ge (l : List Ac) (wh id b : Int) : l.length ≤ (pairA l wh id b).length := by
  have h1 := more_ge l true wh id (nb b)
  have h2 := more_ge (moreA l true wh id (nb b)) false wh id (nb (7 - b))
  unfold pairA
  omega
theorem usN_ge (l : List Ac) (us : List (Int × Int)) (m : Int) : ∀ k, l.length ≤ (usN l us m k).length := by
  intro k
  induction k with
  | zero => exact Nat.le_refl _
  | succ k ih => exact Nat.le_trans ih (pair_ge _ _ _ _)
theorem gaN_ge (l : List Ac) (us : List (Int × Int)) (m : Int) : ∀ k, l.length ≤ (gaN l us m k).length := by
  intro k
  induction k with
  | zero => exact Nat.le_refl _
  | succ k ih => exact Nat.le_trans ih (more_ge _ _ _ _ _)
theorem gdN_ge (l : List Ac) (us : List (Int × Int)) (m : Int) : ∀ k, l.length ≤ (gdN l us m k).length := by
  intro k
  induction k with
  | zero => exact Nat.le_refl _
  | succ k ih => exact Nat.le_trans ih (more_ge _ _ _ _ _)
theorem pair_pos {b : Int} (h0 : 0 ≤ b) (h1 : b ≤ 7) : 0 < (pairA [] 1 0 b).length := by
  rcases (by omega : b = 0 ∨ b = 1 ∨ b = 2 ∨ b = 3 ∨ b = 4 ∨ b = 5 ∨ b = 6 ∨ b = 7) with rfl | rfl | rfl | rfl | rfl | rfl | rfl | rfl <;> decide
theorem nfs_pos {A : Al} (hA : A.B = true) : 0 < (nfsA A).length := by
  have hB : aclB A.u A.g A.o A.us A.gs A.r A.m = true := hA
  obtain ⟨⟨u0, u1⟩, _⟩ := aclB_parts hB
  have h0 := pair_pos u0 u1
  have h1 := usN_ge (pairA [] 1 0 A.u) A.us A.m A.us.length
  have h3 := gaN_ge (moreA (nfs1 A) true 2 0 (nb (ownG A))) A.gs A.m A.gs.length
  have h4 := more_ge (nfs1 A) true 2 0 (nb (ownG A))
  have h5 := gdN_ge (moreA (nfs2 A) false 2 0 (nb (7 - ownG A))) A.gs A.m A.gs.length
  have h6 := more_ge (nfs2 A) false 2 0 (nb (7 - ownG A))
  have h7 := more_ge (nfs3 A) true 3 0 (nb A.o)
  have e1 : (nfs1 A).length = (usN (pairA [] 1 0 A.u) A.us A.m A.us.length).length := rfl
  have e2 : (nfs2 A).length = (gaN (moreA (nfs1 A) true 2 0 (nb (ownG A))) A.gs A.m A.gs.length).length := rfl
  have e3 : (nfs3 A).length = (gdN (moreA (nfs2 A) false 2 0 (nb (7 - ownG A))) A.gs A.m A.gs.length).length := rfl
  have e4 : (nfsA A).length = (moreA (nfs3 A) true 3 0 (nb A.o)).length := rfl
  omega
theorem toN_len (A : Al) : (toN A).length ≤ 50 := by
  unfold toN
  split
  · rename_i h; exact nfs_len h
  · simp
set_option maxRecDepth 100000 in
set_option maxHeartbeats 2000000 in
theorem sToNfs_any (A : Al) (aU : Option Addr) (cU : Nat) (aG : Option Addr) (cG : Nat) (hlu : A.us.length ≤ 1048576) (hlg : A.gs.length ≤ 1048576) (w : World) (hu : Prs aU A.us.length A.us w) (hg : Prs aG A.gs.length A.gs w) :
    Calls Tryd.prog 25 #[.agg #[.int .i64 A.u, .int .i64 A.g, .int .i64 A.o, .slice aU A.us.length cU, .slice aG A.gs.length cG, .bool A.r, .int .i64 A.m]] w fun e w' => ∃ a c, e = .returned (.slice a (toN A).length c) ∧ RowO w w' a c (toN A) ∧ ∃ Ad, a = some Ad := by
  have hc : Hid (∀ w', Below w.heap.size w w' → Calls Tryd.prog 9 #[.agg #[.int .i64 A.u, .int .i64 A.g, .int .i64 A.o, .slice aU A.us.length cU, .slice aG A.gs.length cG, .bool A.r, .int .i64 A.m]] w' fun e w'' => e = .returned (.bool A.B) ∧ Below w'.heap.size w' w'') := (fun w' hb => sAclRight_any A.u A.g A.o aU _ cU aG _ cG A.r A.m A.us A.gs hlu hlg w' (hu.below hb) (hg.below hb))
  have hn : Hid (A.B = true → ∀ w', Below w.heap.size w w' → Calls Tryd.prog 49 #[.agg #[.int .i64 A.u, .int .i64 A.g, .int .i64 A.o, .slice aU A.us.length cU, .slice aG A.gs.length cG, .bool A.r, .int .i64 A.m]] w' fun e w'' => ∃ a c, e = .returned (.slice a (nfsA A).length c) ∧ RowO w' w'' a c (nfsA A)) := (fun hA w' hb => sNfs_any A aU cU aG cG hA w' (hu.below hb) (hg.below hb))
  have HT : Hid (A.B = true → toN A = nfsA A) := (fun h => by rw [toN, if_pos h])
  have HF : Hid (A.B = false → toN A = []) := (fun h => by rw [toN, h]; rfl)
  have hb0 := bel_alloc w (.cells #[.int .i64 A.u, .int .i64 A.g, .int .i64 A.o, .slice aU A.us.length cU, .slice aG A.gs.length cG, .bool A.r, .int .i64 A.m] 25)
  have HX := box7_new w (.int .i64 A.u) (.int .i64 A.g) (.int .i64 A.o) (.slice aU A.us.length cU) (.slice aG A.gs.length cG) (.bool A.r) (.int .i64 A.m) 25
  have HW0 : Hid (Below w.heap.size w (w.alloc (.cells #[.int .i64 A.u, .int .i64 A.g, .int .i64 A.o, .slice aU A.us.length cU, .slice aG A.gs.length cG, .bool A.r, .int .i64 A.m] 25))) := hb0
  clear hu hg hlu hlg hb0
  generalize toN A = T at HT HF ⊢
  go_enter Tryd.func25, Tryd.ntmps25
  go_wp2_with fail
  refine (hc.out _ HW0.out).mono ?_
  rintro e w1 ⟨rfl, hb1⟩
  have HW1 : Hid (Below w.heap.size w w1) := Below.on HW0.out hb1
  obtain ⟨xl, x0, x1, x2, x3, x4, x5, x6⟩ := HX.below hb1
  clear hb1 HX HW0 hc
  cases hB : A.B
  · have e0 := HF.out hB
    subst e0
    have HRE : Hid (RowO w1 (w1.alloc (.cells #[] 49)) (some ⟨w1.heap.size, 0, none⟩) 0 []) := rowO_empty w1 49 rfl
    clear hn HT HF hB x0 x1 x2 x3 x4 x5 x6 xl
    go_wp2
    go_ret
    exact ⟨_, _, rfl, rowO_from HRE.out HW1.out, _, rfl⟩
  · have e0 := HT.out hB
    have hpos := nfs_pos hB
    have HN : Hid _ := hn.out hB
    subst e0
    clear hn HT HF hB
    go_wp2_with fail
    refine (HN.out _ HW1.out).mono ?_
    rintro e w2 ⟨a, c, rfl, hR⟩
    have HR : Hid (RowO w1 w2 a c (nfsA A)) := hR
    clear hR HN x0 x1 x2 x3 x4 x5 x6 xl
    go_wp2
    go_ret
    exact ⟨a, c, rfl, rowO_from HR.out HW1.out, row_some HR.out.1 hpos⟩
end Go.Proofs.YthgcobglecomcaaDoor
/- The aces of impl.ToNfs are those of the specification. -/
namespace Go.Proofs.YthgcobglecomcaaDoor
open Go.RowKit Go.PlainAid Go.Deep
set_option linter.unusedVariables false
/-- Those with a mask. -/
def flt (l : List Ac) : List Ac := l.filter (fun x => decide (x.ma ≠ 0))
theorem flt_app (l r : List Ac) : flt (l ++ r) = flt l ++ flt r := List.filter_append ..
theorem flt_nil : flt [] = [] := rfl
theorem more_flt (l : List Ac) (al : Bool) (wh id ma : Int) : moreA l al wh id ma = l ++ flt [⟨al, wh, id, 0, ma⟩] := by
  unfold moreA
  by_cases h : ma = 0
  · rw [if_pos h]; simp [flt, h]
  · rw [if_neg h]; simp [flt, h]
theorem pair_flt (l : List Ac) (wh id b : Int) : pairA l wh id b = l ++ (flt [⟨true, wh, id, 0, nb b⟩] ++ flt [⟨false, wh, id, 0, nb (7 - b)⟩]) := by
  rw [pairA, more_flt, more_flt, List.append_assoc]
theorem kpA_flt (l : List Ac) : ∀ k, k ≤ l.length → kpA l k = flt (l.take k) := by
  intro k
  induction k with
  | zero => intro _; simp [kpA, flt]
  | succ k ih =>
    intro hk
    have hk2 : k < l.length := by omega
    have e : l.take (k + 1) = l.take k ++ [acAt l k] := by
      rw [List.take_succ_eq_append_getElem hk2, acAt_get hk2]
    rw [e, flt_app, ← ih (by omega), kpA]
    by_cases h : (acAt l k).ma = 0
    · rw [if_pos h]; simp [flt, h]
    · rw [if_neg h]; simp [flt, h]
theorem kpA_full (l : List Ac) : kpA l l.length = flt l := by
  rw [kpA_flt l _ (Nat.le_refl _), List.take_length]
theorem bz_nb {b : Int} (h0 : 0 ≤ b) (h1 : b ≤ 7) : bitsZ b = nb b := by
  rcases (by omega : b = 0 ∨ b = 1 ∨ b = 2 ∨ b = 3 ∨ b = 4 ∨ b = 5 ∨ b = 6 ∨ b = 7) with rfl | rfl | rfl | rfl | rfl | rfl | rfl | rfl <;> decide
theorem an_nb {b : Int} (h0 : 0 ≤ b) (h1 : b ≤ 7) : bits .andNot .i64 15 (nb b) = nb (7 - b) := by
  rcases (by omega : b = 0 ∨ b = 1 ∨ b = 2 ∨ b = 3 ∨ b = 4 ∨ b = 5 ∨ b = 6 ∨ b = 7) with rfl | rfl | rfl | rfl | rfl | rfl | rfl | rfl <;> decide
theorem whN_at (x q : Int) (l : List (Int × Int)) : ∀ n j, j < n → (whN x q l n).getD (j + 1) (0, 0) = (q, idAt l j) := by
  intro n
  induction n with
  | zero => intro j h; omega
  | succ n ih =>
    intro j h
    have hl := whN_len x q l n
    rw [whN]
    by_cases e : j = n
    · subst e
      simp [List.getD, hl]
    · have := ih j (by omega)
      simp only [List.getD] at this ⊢
      rw [List.getElem?_append_left (by omega)]
      exact this
theorem whN_at0 (x q : Int) (l : List (Int × Int)) : ∀ n, (whN x q l n).getD 0 (0, 0) = (x, 0) := by
  intro n
  induction n with
  | zero => rfl
  | succ n ih =>
    have hl := whN_len x q l n
    rw [whN]
    simp only [List.getD] at ih ⊢
    rw [List.getElem?_append_left (by omega)]
    exact ih
theorem atW_zero (x q : Int) (l : List (Int × Int)) (n : Nat) : atW (whN x q l n) 0 = (x, 0) := by
  simp only [atW, idAt, btAt, whN_at0]
theorem atW_succ (x q : Int) (l : List (Int × Int)) (n j : Nat) (h : j < n) : atW (whN x q l n) (j + 1) = (q, idAt l j) := by
  simp only [atW, idAt, btAt, whN_at x q l n j h]
theorem lft_keep {φ : Int → Int → Int} {L : List (Int × Int)} {x y : Int} : ∀ k, (∀ i, i < k → atW L i ≠ (x, y)) → lftN φ L k x y = φ x y := by
  intro k
  induction k with
  | zero => intro _; rfl
  | succ k ih =>
    intro h
    rw [lftN, dropF, if_neg (fun e => h k (by omega) (by simp only [atW]; rw [← e.1, ← e.2])), ih (fun i hi => h i (by omega))]
theorem nm_upZ {l : List (Int × Int)} (h : nmB l = true) {i j : Nat} (hij : i < j) (hj : j < l.length) : idAt l i < idAt l j := by
  have hs : ∀ k, k + 1 < l.length → idAt l k < idAt l (k + 1) := fun k hk => by
    by_cases e : idAt l k < idAt l (k + 1)
    · exact e
    · rw [nm_no hk (okN_down e)] at h
      cases h
  induction j with
  | zero => omega
  | succ j ih =>
    by_cases e : i = j
    · subst e; exact hs _ hj
    · exact Int.lt_trans (ih (by omega) (by omega)) (hs _ hj)
theorem nm_ne {l : List (Int × Int)} (h : nmB l = true) {i j : Nat} (hi : i < l.length) (hj : j < l.length) (hij : i ≠ j) : idAt l i ≠ idAt l j := by
  rcases Nat.lt_or_gt_of_ne hij with e | e
  · have := nm_upZ h e hj; omega
  · have := nm_upZ h e hi; omega
theorem wh_ne {x q : Int} {l : List (Int × Int)} (hxq : x ≠ q) (h : nmB l = true) {k : Nat} (hk : k < l.length) : ∀ i, i < k + 1 → atW (whN x q l l.length) i ≠ (q, idAt l k) := by
  intro i hi
  cases i with
  | zero => rw [atW_zero]; intro e; exact hxq (congrArg Prod.fst e)
  | succ i =>
    rw [atW_succ _ _ _ _ _ (by omega)]
    intro e
    have e2 : idAt l i = idAt l k := congrArg Prod.snd e
    exact nm_ne h (by omega) hk (by omega) e2
theorem wh_other {x q : Int} {l : List (Int × Int)} {a b : Int} (h1 : a ≠ x) (h2 : a ≠ q) {k : Nat} (hk : k ≤ l.length + 1) : ∀ i, i < k → atW (whN x q l l.length) i ≠ (a, b) := by
  intro i hi
  cases i with
  | zero => rw [atW_zero]; intro e; exact h1 (congrArg Prod.fst e).symm
  | succ i => rw [atW_succ _ _ _ _ _ (by omega)]; intro e; exact h2 (congrArg Prod.fst e).symm
theorem nmP_other {φ : Int → Int → Int} {q : Int} {l : List (Int × Int)} {c x y : Int} (h : x ≠ q) : ∀ k, nmPg φ q l c k x y = φ x y := by
  intro k
  induction k with
  | zero => rfl
  | succ k ih =>
    show (if x = q ∧ y = idAt l k then _ else nmPg φ q l c k x y) = _
    rw [if_neg (fun e => h e.1), ih]
theorem nmP_at {φ : Int → Int → Int} {q : Int} {l : List (Int × Int)} {c : Int} (h : nmB l = true) {j : Nat} : ∀ k, k ≤ l.length → j < k → nmPg φ q l c k q (idAt l j) = bitsZ (bits .and .i64 (btAt l j) c) := by
  intro k
  induction k with
  | zero => intro _ h0; omega
  | succ k ih =>
    intro hk hj
    show (if q = q ∧ idAt l j = idAt l k then _ else nmPg φ q l c k q (idAt l j)) = _
    by_cases e : j = k
    · subst e; rw [if_pos ⟨rfl, rfl⟩]
    · rw [if_neg (fun h2 => nm_ne h (by omega) (by omega) e h2.2), ih (by omega) (by omega)]
/-- What a right list holds. -/
structure AlR (A : Al) : Prop where
  u : 0 ≤ A.u ∧ A.u ≤ 7
  g : 0 ≤ A.g ∧ A.g ≤ 7
  o : 0 ≤ A.o ∧ A.o ≤ 7
  m : 0 ≤ A.m ∧ A.m ≤ 7
  us : nmB A.us = true
  gs : nmB A.gs = true
  r : A.r = true ∨ (A.us.length = 0 ∧ A.gs.length = 0)
theorem alR {A : Al} (hA : A.B = true) : AlR A := by
  have hB : aclB A.u A.g A.o A.us A.gs A.r A.m = true := hA
  obtain ⟨h1, h2, h3, h4, h5, h6⟩ := aclB_parts hB
  refine ⟨h1, h2, h3, h4, h5, h6, ?_⟩
  unfold aclB at hB
  simp only [Bool.and_eq_true, Bool.or_eq_true, beq_iff_eq] at hB
  rcases hB.2.2.2.2.2.2 with h | h
  · exact .inl h
  · exact .inr ⟨h.2.1, h.2.2⟩
theorem bz_and {a c : Int} (a0 : 0 ≤ a) (a1 : a ≤ 7) (c0 : 0 ≤ c) (c1 : c ≤ 7) : bitsZ (bits .and .i64 a c) = nb (andI a c) := by
  rw [and_bits a0 (by omega) c0 (by omega)]
  obtain ⟨h0, h1⟩ := and7 a c a0 a1 c0 c1
  exact bz_nb h0 h1
theorem gr_u {A : Al} (h : AlR A) : grF A 1 0 = nb A.u := by
  rw [grF, nmP_other (by decide), nmP_other (by decide)]
  show bitsZ A.u = nb A.u
  exact bz_nb h.u.1 h.u.2
theorem cls_in {A : Al} (h : AlR A) : 0 ≤ clsOf A.g A.r A.m ∧ clsOf A.g A.r A.m ≤ 7 := by
  unfold clsOf
  split
  · exact h.m
  · exact h.g
theorem gr_g {A : Al} (h : AlR A) : grF A 2 0 = nb (ownG A) := by
  rw [grF, nmP_other (by decide), nmP_other (by decide)]
  show bitsZ (bits .and .i64 A.g (clsOf A.g A.r A.m)) = nb (ownG A)
  obtain ⟨c0, c1⟩ := cls_in h
  exact bz_and h.g.1 h.g.2 c0 c1
theorem gr_o {A : Al} (h : AlR A) : grF A 3 0 = nb A.o := by
  rw [grF, nmP_other (by decide), nmP_other (by decide)]
  show bitsZ A.o = nb A.o
  exact bz_nb h.o.1 h.o.2
theorem gr_us {A : Al} (h : AlR A) {k : Nat} (hk : k < A.us.length) : grF A 4 (idAt A.us k) = nb (andI (btAt A.us k) A.m) := by
  have hr : clsOf A.g A.r A.m = A.m := by
    rcases h.r with e | e
    · rw [e]; rfl
    · omega
  obtain ⟨t0, t1⟩ := nm_bt h.us k hk
  rw [grF, nmP_other (by decide), nmP_at h.us _ (Nat.le_refl _) hk, hr, bz_and t0 t1 h.m.1 h.m.2]
theorem gr_gs {A : Al} (h : AlR A) {k : Nat} (hk : k < A.gs.length) : grF A 5 (idAt A.gs k) = nb (andI (btAt A.gs k) A.m) := by
  have hr : clsOf A.g A.r A.m = A.m := by
    rcases h.r with e | e
    · rw [e]; rfl
    · omega
  obtain ⟨t0, t1⟩ := nm_bt h.gs k hk
  rw [grF, nmP_at h.gs _ (Nat.le_refl _) hk, hr, bz_and t0 t1 h.m.1 h.m.2]
theorem pr_us {A : Al} (h : AlR A) : ∀ k, k ≤ A.us.length → flt (prN (grF A) (whN 1 4 A.us A.us.length) (k + 1)) = usN (pairA [] 1 0 A.u) A.us A.m k := by
  intro k
  induction k with
  | zero =>
    intro _
    have e0 : prN (grF A) (whN 1 4 A.us A.us.length) (0 + 1) = [alwX (grF A) (1, 0)] ++ [dnyX (grF A) (1, 0)] := by
      simp only [prN, lftN, atW_zero, List.nil_append, List.cons_append]
    rw [e0, flt_app, usN, pairA, more_flt, more_flt, alwX, dnyX]
    simp only [gr_u h, an_nb h.u.1 h.u.2, List.nil_append]
  | succ k ih =>
    intro hk
    obtain ⟨t0, t1⟩ := nm_bt h.us k (by omega)
    obtain ⟨v0, v1⟩ := and7 _ _ t0 t1 h.m.1 h.m.2
    have e1 : lftN (grF A) (whN 1 4 A.us A.us.length) (k + 1) 4 (idAt A.us k) = nb (andI (btAt A.us k) A.m) := by
      rw [lft_keep _ (wh_ne (by decide) h.us (by omega)), gr_us h (by omega)]
    have e0 : prN (grF A) (whN 1 4 A.us A.us.length) (k + 1 + 1) = prN (grF A) (whN 1 4 A.us A.us.length) (k + 1) ++ ([alwX (lftN (grF A) (whN 1 4 A.us A.us.length) (k + 1)) (4, idAt A.us k)] ++ [dnyX (lftN (grF A) (whN 1 4 A.us A.us.length) (k + 1)) (4, idAt A.us k)]) := by
      rw [prN, atW_succ _ _ _ _ _ (by omega)]
      rfl
    rw [e0, flt_app, flt_app, ih (by omega), usN, pair_flt (usN (pairA [] 1 0 A.u) A.us A.m k), alwX, dnyX]
    simp only [e1, an_nb v0 v1]
theorem al_gs {A : Al} (h : AlR A) {φ : Int → Int → Int} (h0 : φ 2 0 = nb (ownG A)) (h1 : ∀ k, k < A.gs.length → φ 5 (idAt A.gs k) = nb (andI (btAt A.gs k) A.m)) (acc : List Ac) : ∀ k, k ≤ A.gs.length → acc ++ flt (alwN φ (whN 2 5 A.gs A.gs.length) (k + 1)) = gaN (moreA acc true 2 0 (nb (ownG A))) A.gs A.m k := by
  intro k
  induction k with
  | zero =>
    intro _
    simp only [alwN, atW_zero, List.nil_append, gaN, more_flt, alwX, h0]
  | succ k ih =>
    intro hk
    rw [gaN, ← ih (by omega), more_flt, alwN, flt_app, atW_succ _ _ _ _ _ (by omega), alwX]
    simp only [h1 k (by omega), List.append_assoc]
theorem og_in {A : Al} (h : AlR A) : 0 ≤ ownG A ∧ ownG A ≤ 7 := by
  obtain ⟨c0, c1⟩ := cls_in h
  exact and7 _ _ h.g.1 h.g.2 c0 c1
theorem dn_gs {A : Al} (h : AlR A) {φ : Int → Int → Int} (h0 : φ 2 0 = nb (ownG A)) (h1 : ∀ k, k < A.gs.length → φ 5 (idAt A.gs k) = nb (andI (btAt A.gs k) A.m)) (acc : List Ac) : ∀ k, k ≤ A.gs.length → acc ++ flt (dnyN φ (whN 2 5 A.gs A.gs.length) (k + 1)) = gdN (moreA acc false 2 0 (nb (7 - ownG A))) A.gs A.m k := by
  intro k
  induction k with
  | zero =>
    intro _
    simp only [dnyN, lftN, atW_zero, List.nil_append, gdN, more_flt, dnyX, h0, an_nb (og_in h).1 (og_in h).2]
  | succ k ih =>
    intro hk
    obtain ⟨t0, t1⟩ := nm_bt h.gs k (by omega)
    obtain ⟨v0, v1⟩ := and7 _ _ t0 t1 h.m.1 h.m.2
    have e1 : lftN φ (whN 2 5 A.gs A.gs.length) (k + 1) 5 (idAt A.gs k) = nb (andI (btAt A.gs k) A.m) := by
      rw [lft_keep _ (wh_ne (by decide) h.gs (by omega)), h1 k (by omega)]
    rw [gdN, ← ih (by omega), more_flt, dnyN, flt_app, atW_succ _ _ _ _ _ (by omega), dnyX]
    simp only [e1, an_nb v0 v1, List.append_assoc]
/-- The aces are the same. -/
theorem all_nfs {A : Al} (hA : A.B = true) : kpA (allL A) (allL A).length = nfsA A := by
  have h := alR hA
  rw [kpA_full]
  have hk : ∀ a b : Int, a ≠ 1 → a ≠ 4 → lftN (grF A) (whN 1 4 A.us A.us.length) (A.us.length + 1) a b = grF A a b := fun a b n1 n4 => lft_keep _ (wh_other n1 n4 (Nat.le_refl _))
  have h0 : lftN (grF A) (whN 1 4 A.us A.us.length) (A.us.length + 1) 2 0 = nb (ownG A) := by rw [hk _ _ (by decide) (by decide), gr_g h]
  have h1 : ∀ k, k < A.gs.length → lftN (grF A) (whN 1 4 A.us A.us.length) (A.us.length + 1) 5 (idAt A.gs k) = nb (andI (btAt A.gs k) A.m) := fun k hk2 => by rw [hk _ _ (by decide) (by decide), gr_gs h hk2]
  have h2 : lftN (lftN (grF A) (whN 1 4 A.us A.us.length) (A.us.length + 1)) (whN 2 5 A.gs A.gs.length) (A.gs.length + 1) 3 0 = nb A.o := by rw [lft_keep _ (wh_other (by decide) (by decide) (Nat.le_refl _)), hk _ _ (by decide) (by decide), gr_o h]
  rw [allL, flt_app, flt_app, flt_app, pr_us h _ (Nat.le_refl _), al_gs h h0 h1 _ _ (Nat.le_refl _), dn_gs h h0 h1 _ _ (Nat.le_refl _), alwX]
  simp only [h2]
  rw [← more_flt]
  rfl
end Go.Proofs.YthgcobglecomcaaDoor
/- ToNfs, the program's and the specification's, of any list. -/
namespace Go.Proofs.YthgcobglecomcaaDoor
open Go.RowKit Go.PlainAid Go.Deep
set_option linter.unusedVariables false
theorem rowO_ans {w w' : World} {a : Option Addr} {c : Nat} {l : List Ac} (h : RowO w w' a c l) : AnsL l w (.returned (.slice a l.length c)) w' := by
  obtain ⟨a2, c2, e, ho, hin⟩ := ownA_of_row h.1
  cases e
  exact ⟨a, c, rfl, ⟨ho, hin, h.2⟩⟩
set_option maxRecDepth 100000 in
set_option maxHeartbeats 2000000 in
theorem iToNfs_no (A : Al) (aU : Option Addr) (cU : Nat) (aG : Option Addr) (cG : Nat) (hA : A.B = false) (w : World) (hu : Prs aU A.us.length A.us w) (hg : Prs aG A.gs.length A.gs w) :
    Calls Tryd.prog 12 #[.agg #[.int .i64 A.u, .int .i64 A.g, .int .i64 A.o, .slice aU A.us.length cU, .slice aG A.gs.length cG, .bool A.r, .int .i64 A.m]] w (AnsL [] w) := by
  have hb0 := bel_alloc w (.cells #[.int .i64 A.u, .int .i64 A.g, .int .i64 A.o, .slice aU A.us.length cU, .slice aG A.gs.length cG, .bool A.r, .int .i64 A.m] 25)
  have HB0 : Hid (Below w.heap.size w (w.alloc (.cells #[.int .i64 A.u, .int .i64 A.g, .int .i64 A.o, .slice aU A.us.length cU, .slice aG A.gs.length cG, .bool A.r, .int .i64 A.m] 25))) := hb0
  have HR : Hid (∀ W, Below w.heap.size w W → Calls Tryd.prog 28 #[.agg #[.int .i64 A.u, .int .i64 A.g, .int .i64 A.o, .slice aU A.us.length cU, .slice aG A.gs.length cG, .bool A.r, .int .i64 A.m]] W fun e w' => e = .returned (.bool false) ∧ Below W.heap.size W w') := (fun W hW => by
    have h := iAclRight_any A.u A.g A.o aU _ cU aG _ cG A.r A.m A.us A.gs W (hu.below hW) (hg.below hW)
    have hB : aclB A.u A.g A.o A.us A.gs A.r A.m = false := hA
    rw [hB] at h
    exact h)
  clear hu hg hb0 hA
  go_enter Tryd.func12, Tryd.ntmps12
  go_wp2_with fail
  refine (HR.out _ HB0.out).mono ?_
  rintro e w1 ⟨rfl, hb1⟩
  have HB1 : Hid (Below w.heap.size w w1) := Below.on HB0.out hb1
  clear hb1 HB0 HR
  go_wp2
  go_ret
  exact ⟨none, 0, rfl, ⟨ownA_nil _ _, (fun _ e => nomatch e), HB1.out⟩⟩
theorem iToNfs_any (A : Al) (aU : Option Addr) (cU : Nat) (aG : Option Addr) (cG : Nat) (w : World) (hp : PlW w) (hu : Prs aU A.us.length A.us w) (hg : Prs aG A.gs.length A.gs w) :
    Calls Tryd.prog 12 #[.agg #[.int .i64 A.u, .int .i64 A.g, .int .i64 A.o, .slice aU A.us.length cU, .slice aG A.gs.length cG, .bool A.r, .int .i64 A.m]] w (AnsL (toN A) w) := by
  cases hB : A.B
  · have e : toN A = [] := by rw [toN, hB]; rfl
    rw [e]
    exact iToNfs_no A aU cU aG cG hB w hu hg
  · have e : toN A = nfsA A := by rw [toN, if_pos hB]
    rw [e, ← all_nfs hB]
    exact iToNfs_yes A aU cU aG cG hB w hp hu hg
theorem sToNfs_ans (A : Al) (aU : Option Addr) (cU : Nat) (aG : Option Addr) (cG : Nat) (hlu : A.us.length ≤ 1048576) (hlg : A.gs.length ≤ 1048576) (w : World) (hu : Prs aU A.us.length A.us w) (hg : Prs aG A.gs.length A.gs w) :
    Calls Tryd.prog 25 #[.agg #[.int .i64 A.u, .int .i64 A.g, .int .i64 A.o, .slice aU A.us.length cU, .slice aG A.gs.length cG, .bool A.r, .int .i64 A.m]] w (AnsL (toN A) w) := by
  refine (sToNfs_any A aU cU aG cG hlu hlg w hu hg).mono ?_
  rintro e w' ⟨a, c, rfl, hR, _⟩
  exact rowO_ans hR
end Go.Proofs.YthgcobglecomcaaDoor
