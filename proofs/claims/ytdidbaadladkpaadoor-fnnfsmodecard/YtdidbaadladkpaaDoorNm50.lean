/- Laid together: GiveNat, NfsModeM. -/
import Derived.Test.YtdidbaadladkpaaDoorNm46
import Derived.Test.YtdidbaadladkpaaDoorNm5
import Derived.Test.YtdidbaadladkpaaDoorNm39
import Derived.Test.YtdidbaadladkpaaDoorNm33
import Derived.Test.YtdidbaadladkpaaDoorNm44
import Derived.Test.YtdidbaadladkpaaDoorNm47
import Derived.Test.YtdidbaadladkpaaDoorNm49
/- Little laws on aces: one more, in plain numbers; a list all of whose aces are right. -/
namespace Go.Proofs.YtdidbaadladkpaaDoor
open Go.RowKit Go.PlainAid Go.Deep
set_option linter.unusedVariables false
theorem snoc_rec {α : Type} {P : List α → Prop} (nil : P []) (snoc : ∀ (L : List α) (x : α), P L → P (L ++ [x])) (L : List α) : P L := by
  have h : ∀ n, ∀ L : List α, L.length = n → P L := by
    intro n
    induction n with
    | zero => intro L h; rw [List.eq_nil_of_length_eq_zero h]; exact nil
    | succ n ih =>
      intro L h
      have hne : L ≠ [] := by intro e; rw [e] at h; cases h
      rw [← List.dropLast_concat_getLast hne]
      exact snoc _ _ (ih _ (by simp [h]))
  exact h _ L rfl
theorem inGB_not {u v w : Int} {f : Nat → Int} (h : v ≠ w) : inGB u v 0 f w = false := by
  unfold inGB
  have : (v == w) = false := by simpa using h
  simp [this, anyG]
/-- One ace more, in plain numbers. -/
theorem giveS_plain {x : Ac} {g s : Nat} (m0 : 0 ≤ x.ma) (m1 : x.ma ≤ 255) (hg : g ≤ 255) (hs : s ≤ 255) :
    giveS ((g : Int), (s : Int)) x = (if x.al then (((g ||| rmN x.ma.toNat s : Nat)) : Int) else (g : Int), ((s ||| x.ma.toNat : Nat) : Int)) := by
  obtain ⟨m, hm⟩ := Int.eq_ofNat_of_zero_le m0
  have hrl := rm_le m s
  have e1 : bits .andNot .i64 x.ma (s : Int) = ((rmN m s : Nat) : Int) := by rw [hm]; exact andNot_nat m s (by omega) (by omega)
  have e2 : bits .or .i64 (g : Int) ((rmN m s : Nat) : Int) = ((g ||| rmN m s : Nat) : Int) := by
    rw [or_bits (by omega) (by omega) (by omega) (by omega)]; simp [orI]
  have e3 : bits .or .i64 (s : Int) x.ma = ((s ||| m : Nat) : Int) := by
    rw [hm, or_bits (by omega) (by omega) (by omega) (by omega)]; simp [orI]
  have e4 : x.ma.toNat = m := by omega
  show (if x.al then bits .or .i64 (g : Int) (bits .andNot .i64 x.ma (s : Int)) else (g : Int), bits .or .i64 (s : Int) x.ma) = _
  rw [e1, e2, e3, e4]
theorem aces_all {l : List Ac} (h : l.length ≤ 32) (hm : ∀ x ∈ l, aceB x = true) : acesB l = true := by
  refine aces_yes h ?_
  have : ∀ k, k ≤ l.length → allA l k = true := by
    intro k
    induction k with
    | zero => intro _; rfl
    | succ k ih =>
      intro hk
      refine allA_next (ih (by omega)) ?_
      rw [acAt_get (by omega)]
      exact hm _ (List.getElem_mem _)
  exact this _ (Nat.le_refl _)
end Go.Proofs.YtdidbaadladkpaaDoor
/- A list that is set to a mode has that mode, and gives nobody who is named more than the group or all may. -/
namespace Go.Proofs.YtdidbaadladkpaaDoor
open Go.RowKit Go.PlainAid Go.Deep
set_option linter.unusedVariables false
def kF (p : Ac → Bool) (l : List Ac) : List Ac := l.filter (fun x => hldB x && p x)
theorem fltP_kF_take (p : Ac → Bool) (l : List Ac) : ∀ k, k ≤ l.length → fltP p l k = kF p (l.take k) := by
  intro k
  induction k with
  | zero => intro _; rfl
  | succ k ih =>
    intro hk
    have h1 : k < l.length := by omega
    rw [fltP, ih (by omega), List.take_succ_eq_append_getElem h1, acAt_get h1]
    unfold kF
    rw [List.filter_append]
    congr 1
    by_cases h : (hldB l[k] && p l[k]) = true
    · rw [if_pos h]; exact (List.filter_cons_of_pos (p := fun x => hldB x && p x) (l := []) h).symm
    · rw [if_neg h]; exact (List.filter_cons_of_neg (p := fun x => hldB x && p x) (l := []) h).symm
theorem fltP_kF (p : Ac → Bool) (l : List Ac) : fltP p l l.length = kF p l := by
  rw [fltP_kF_take p l l.length (Nat.le_refl _), List.take_length]
theorem kF_app (p : Ac → Bool) (a b : List Ac) : kF p (a ++ b) = kF p a ++ kF p b := List.filter_append ..
theorem kF_more_no {p : Ac → Bool} (l : List Ac) (al : Bool) (wh id ma : Int) (h : p ⟨al, wh, id, 0, ma⟩ = false) : kF p (moreA l al wh id ma) = kF p l := by
  unfold moreA
  split
  · rfl
  · rw [kF_app]
    have : kF p [⟨al, wh, id, 0, ma⟩] = [] := by
      unfold kF
      rw [List.filter_cons_of_neg (by simp [h])]
      rfl
    rw [this, List.append_nil]
theorem kF_more_yes {p : Ac → Bool} (l : List Ac) (al : Bool) (wh id ma : Int) (h : p ⟨al, wh, id, 0, ma⟩ = true) : kF p (moreA l al wh id ma) = moreA (kF p l) al wh id ma := by
  unfold moreA
  split
  · rfl
  · rw [kF_app]
    have : kF p [⟨al, wh, id, 0, ma⟩] = [⟨al, wh, id, 0, ma⟩] := by
      unfold kF
      rw [List.filter_cons_of_pos (by simp [h, hldB])]
      rfl
    rw [this]
theorem kF_hd (p : Ac → Bool) (l : List Ac) : ∀ k, k ≤ l.length → kF p (hdTo l k) = [] := by
  intro k
  induction k with
  | zero => intro _; rfl
  | succ k ih =>
    intro hk
    rw [hdTo]
    split
    · rw [kF_app, ih (by omega)]
      unfold kF
      have hh : hldB (hnd (acAt l k)) = false := decide_eq_false (by show ¬ ((acAt l k).fl % 8 + 8 < 8); omega)
      rw [List.filter_cons_of_neg (by simp [hh])]
      rfl
    · exact ih (by omega)
theorem kF_nm {who : Int} (hw : who ≤ 3) (base l : List Ac) (g : Int) : ∀ k, k ≤ l.length → kF (kindB who) (nmAc base l g k) = kF (kindB who) base := by
  intro k
  induction k with
  | zero => intro _; rfl
  | succ k ih =>
    intro hk
    rw [nmAc]
    split
    · rename_i h
      rw [kF_more_no, ih (by omega)]
      unfold kindB
      have h1 : (acAt l k).wh ≠ who := by omega
      have h2 : (acAt l k).wh ≠ 3 := by omega
      simp [h1, h2]
    · exact ih (by omega)
def kOwn (u o : Int) : List Ac := moreA (moreA (moreA [] true 1 0 (nb u + 32 + 64)) false 1 0 (nb (7 - u))) true 3 0 (nb o + 32)
def kGrp (g o : Int) : List Ac := moreA (moreA (moreA [] true 2 0 (nb g)) false 2 0 (nb (7 - g))) true 3 0 (nb o + 32)
def kEvy (o : Int) : List Ac := moreA [] true 3 0 (nb o + 32)
theorem kF_own (l : List Ac) (u g o : Int) : kF (kindB 1) (chL l u g o) = kOwn u o := by
  unfold chL chOwn kOwn
  rw [kF_more_yes _ _ _ _ _ rfl, kF_more_no _ _ _ _ _ rfl, kF_more_no _ _ _ _ _ rfl, kF_nm (by omega) _ _ _ _ (Nat.le_refl _), kF_more_yes _ _ _ _ _ rfl, kF_more_yes _ _ _ _ _ rfl, kF_hd _ _ _ (Nat.le_refl _)]
theorem kF_grp (l : List Ac) (u g o : Int) : kF (kindB 2) (chL l u g o) = kGrp g o := by
  unfold chL chOwn kGrp
  rw [kF_more_yes _ _ _ _ _ rfl, kF_more_yes _ _ _ _ _ rfl, kF_more_yes _ _ _ _ _ rfl, kF_nm (by omega) _ _ _ _ (Nat.le_refl _), kF_more_no _ _ _ _ _ rfl, kF_more_no _ _ _ _ _ rfl, kF_hd _ _ _ (Nat.le_refl _)]
theorem kF_evy (l : List Ac) (u g o : Int) : kF (kindB 3) (chL l u g o) = kEvy o := by
  unfold chL chOwn kEvy
  rw [kF_more_yes _ _ _ _ _ rfl, kF_more_no _ _ _ _ _ rfl, kF_more_no _ _ _ _ _ rfl, kF_nm (by omega) _ _ _ _ (Nat.le_refl _), kF_more_no _ _ _ _ _ rfl, kF_more_no _ _ _ _ _ rfl, kF_hd _ _ _ (Nat.le_refl _)]
theorem own_fin : ∀ u o : Fin 8, rwxZ (giveI (kOwn ((u.val : Nat) : Int) ((o.val : Nat) : Int))).1 = ((u.val : Nat) : Int) := by decide +kernel
theorem grp_fin : ∀ u o : Fin 8, rwxZ (giveI (kGrp ((u.val : Nat) : Int) ((o.val : Nat) : Int))).1 = ((u.val : Nat) : Int) := by decide +kernel
theorem evy_fin : ∀ o : Fin 8, rwxZ (giveI (kEvy ((o.val : Nat) : Int))).1 = ((o.val : Nat) : Int) := by decide +kernel
theorem ch_mode {l : List Ac} {u g o : Int} (u0 : 0 ≤ u) (u1 : u ≤ 7) (g0 : 0 ≤ g) (g1 : g ≤ 7) (o0 : 0 ≤ o) (o1 : o ≤ 7) : 64 * kindI (chL l u g o) 1 + 8 * kindI (chL l u g o) 2 + kindI (chL l u g o) 3 = 64 * u + 8 * g + o := by
  obtain ⟨u', rfl⟩ := Int.eq_ofNat_of_zero_le u0
  obtain ⟨g', rfl⟩ := Int.eq_ofNat_of_zero_le g0
  obtain ⟨o', rfl⟩ := Int.eq_ofNat_of_zero_le o0
  unfold kindI
  rw [fltP_kF, fltP_kF, fltP_kF, kF_own, kF_grp, kF_evy]
  have h1 := own_fin ⟨u', by omega⟩ ⟨o', by omega⟩
  have h2 := grp_fin ⟨g', by omega⟩ ⟨o', by omega⟩
  have h3 := evy_fin ⟨o', by omega⟩
  simp only at h1 h2 h3
  rw [h1, h2, h3]
/-- The masks of l04Chmod's list are masks. -/
theorem ma_cut {x : Ac} {g : Int} (h0 : 1 ≤ x.ma) (h1 : x.ma ≤ 255) (g0 : 0 ≤ g) (g1 : g ≤ 7) : 0 ≤ cutM x g ∧ cutM x g ≤ 255 := by
  unfold cutM
  split
  · obtain ⟨m, hm⟩ := Int.eq_ofNat_of_zero_le (show 0 ≤ x.ma by omega)
    obtain ⟨q, hq⟩ := Int.eq_ofNat_of_zero_le g0
    have := (show ∀ m : Fin 256, ∀ g : Fin 8, 0 ≤ ((m.val : Nat) : Int) - andI ((m.val : Nat) : Int) (nb (7 - ((g.val : Nat) : Int))) ∧ ((m.val : Nat) : Int) - andI ((m.val : Nat) : Int) (nb (7 - ((g.val : Nat) : Int))) ≤ 255 by decide +kernel) ⟨m, by omega⟩ ⟨q, by omega⟩
    rw [hm, hq]
    exact this
  · omega
theorem more_mem {l : List Ac} {al : Bool} {wh id ma : Int} {x : Ac} (h : x ∈ moreA l al wh id ma) : x ∈ l ∨ (x = ⟨al, wh, id, 0, ma⟩ ∧ ma ≠ 0) := by
  unfold moreA at h
  split at h
  · exact .inl h
  · rcases List.mem_append.1 h with h1 | h1
    · exact .inl h1
    · exact .inr ⟨by simpa using h1, by assumption⟩
theorem hd_mem {l : List Ac} {x : Ac} : ∀ k, k ≤ l.length → x ∈ hdTo l k → ∃ j, j < l.length ∧ 0 < (acAt l j).fl % 4 ∧ x = hnd (acAt l j) := by
  intro k
  induction k with
  | zero => intro _ h; cases h
  | succ k ih =>
    intro hk h
    rw [hdTo] at h
    split at h
    · rcases List.mem_append.1 h with h1 | h1
      · exact ih (by omega) h1
      · exact ⟨k, by omega, by assumption, by simpa using h1⟩
    · exact ih (by omega) h
theorem nm_mem {base l : List Ac} {g : Int} {x : Ac} : ∀ k, k ≤ l.length → x ∈ nmAc base l g k → x ∈ base ∨ ∃ j, j < l.length ∧ hldB (acAt l j) = true ∧ 4 ≤ (acAt l j).wh ∧ x = ⟨(acAt l j).al, (acAt l j).wh, (acAt l j).id, 0, cutM (acAt l j) g⟩ ∧ cutM (acAt l j) g ≠ 0 := by
  intro k
  induction k with
  | zero => intro _ h; exact .inl h
  | succ k ih =>
    intro hk h
    rw [nmAc] at h
    split at h
    · rename_i hh
      rcases more_mem h with h1 | ⟨h1, h2⟩
      · exact ih (by omega) h1
      · exact .inr ⟨k, by omega, hh.1, hh.2, h1, h2⟩
    · exact ih (by omega) h
/-- What may stand in l04Chmod's list. -/
theorem ch_mem {l : List Ac} {u g o : Int} {x : Ac} (h : x ∈ chL l u g o) :
    (∃ j, j < l.length ∧ 0 < (acAt l j).fl % 4 ∧ x = hnd (acAt l j)) ∨ (x = ⟨true, 1, 0, 0, nb u + 32 + 64⟩) ∨ (x = ⟨false, 1, 0, 0, nb (7 - u)⟩ ∧ nb (7 - u) ≠ 0) ∨
    (∃ j, j < l.length ∧ hldB (acAt l j) = true ∧ 4 ≤ (acAt l j).wh ∧ x = ⟨(acAt l j).al, (acAt l j).wh, (acAt l j).id, 0, cutM (acAt l j) g⟩ ∧ cutM (acAt l j) g ≠ 0) ∨
    (x = ⟨true, 2, 0, 0, nb g⟩ ∧ nb g ≠ 0) ∨ (x = ⟨false, 2, 0, 0, nb (7 - g)⟩ ∧ nb (7 - g) ≠ 0) ∨ x = ⟨true, 3, 0, 0, nb o + 32⟩ := by
  unfold chL chOwn at h
  rcases more_mem h with h | ⟨h, _⟩
  · rcases more_mem h with h | ⟨h, hz⟩
    · rcases more_mem h with h | ⟨h, hz⟩
      · rcases nm_mem _ (Nat.le_refl _) h with h | h
        · rcases more_mem h with h | ⟨h, hz⟩
          · rcases more_mem h with h | ⟨h, hz⟩
            · exact .inl (hd_mem _ (Nat.le_refl _) h)
            · exact .inr (.inl h)
          · exact .inr (.inr (.inl ⟨h, hz⟩))
        · exact .inr (.inr (.inr (.inl h)))
      · exact .inr (.inr (.inr (.inr (.inl ⟨h, hz⟩))))
    · exact .inr (.inr (.inr (.inr (.inr (.inl ⟨h, hz⟩)))))
  · exact .inr (.inr (.inr (.inr (.inr (.inr h)))))
theorem nb_bd {b : Int} (h0 : 0 ≤ b) (h1 : b ≤ 7) : 0 ≤ nb b ∧ nb b ≤ 15 := by
  unfold nb
  omega
theorem ace_lone1 {al : Bool} {wh ma : Int} (hw : 1 ≤ wh ∧ wh ≤ 3) (h0 : 1 ≤ ma) (h1 : ma ≤ 255) : aceB ⟨al, wh, 0, 0, ma⟩ = true := by
  exact aceB_iff.2 ⟨⟨by show 1 ≤ wh; omega, by show wh ≤ 5; omega⟩, ⟨by show (0 : Int) ≤ 0; decide, by show (0 : Int) ≤ 9999; decide⟩, fun _ => rfl, ⟨⟨by show (0 : Int) ≤ 0; decide, by show (0 : Int) ≤ 15; decide⟩, .inl (by show (0 : Int) < 4; decide)⟩, h0, h1⟩
/-- l04Chmod of a right list is right, where it is not too long. -/
theorem ch_right {l : List Ac} {u g o : Int} (hR : acesB l = true) (u0 : 0 ≤ u) (u1 : u ≤ 7) (g0 : 0 ≤ g) (g1 : g ≤ 7) (o0 : 0 ≤ o) (o1 : o ≤ 7) (hl : (chL l u g o).length ≤ 32) : acesB (chL l u g o) = true := by
  have hall : ∀ x ∈ chL l u g o, aceB x = true := by
    intro x hx
    have b1 := nb_bd u0 u1
    have b2 := nb_bd (b := 7 - u) (by omega) (by omega)
    have b3 := nb_bd g0 g1
    have b4 := nb_bd (b := 7 - g) (by omega) (by omega)
    have b5 := nb_bd o0 o1
    rcases ch_mem hx with ⟨j, hj, hf, rfl⟩ | rfl | ⟨rfl, hz⟩ | ⟨j, hj, hh, hw, rfl, hz⟩ | ⟨rfl, hz⟩ | ⟨rfl, hz⟩ | rfl
    · have h := aceB_iff.1 (aces_at hR hj)
      obtain ⟨a1, a2, a3, a4, a5⟩ := h
      exact aceB_iff.2 ⟨a1, a2, a3, ⟨⟨by show 0 ≤ (acAt l j).fl % 8 + 8; omega, by show (acAt l j).fl % 8 + 8 ≤ 15; omega⟩, .inr (by show ((acAt l j).fl % 8 + 8) % 4 ≠ 0; omega)⟩, a5⟩
    · exact ace_lone1 (by omega) (by omega) (by omega)
    · exact ace_lone1 (by omega) (by omega) (by omega)
    · have h := aceB_iff.1 (aces_at hR hj)
      have hc := ma_cut (x := acAt l j) h.2.2.2.2.1 h.2.2.2.2.2 g0 g1
      obtain ⟨a1, a2, a3, a4, a5⟩ := h
      exact aceB_iff.2 ⟨a1, a2, a3, ⟨⟨by show (0 : Int) ≤ 0; decide, by show (0 : Int) ≤ 15; decide⟩, .inl (by show (0 : Int) < 4; decide)⟩, by show 1 ≤ cutM (acAt l j) g; omega, hc.2⟩
    · exact ace_lone1 (by omega) (by omega) (by omega)
    · exact ace_lone1 (by omega) (by omega) (by omega)
    · exact ace_lone1 (by omega) (by omega) (by omega)
  exact aces_all hl hall
/-- The mode of a list that was set to one. -/
theorem chP_mode {l : List Ac} {n : Int} (h : (chP l n).2 = 0) : acesB (chP l n).1 = true ∧ modeI (chP l n).1 = n % 512 := by
  by_cases h1 : 400 < l.length
  · rw [chP_big h1] at h; cases h
  by_cases h2 : acesB l = true ∧ inR 0 4095 n = true
  · by_cases h3 : 32 < (chL l (n / 64 % 8) (n / 8 % 8) (n % 8)).length
    · rw [chP_full h1 h2 h3] at h; cases h
    · rw [chP_yes h1 h2 h3]
      have hR := ch_right h2.1 (u := n / 64 % 8) (g := n / 8 % 8) (o := n % 8) (by omega) (by omega) (by omega) (by omega) (by omega) (by omega) (by omega)
      refine ⟨hR, ?_⟩
      show modeI _ = _
      rw [modeI, if_pos hR, ch_mode (by omega) (by omega) (by omega) (by omega) (by omega) (by omega)]
      omega
  · rw [chP_ill h1 h2] at h; cases h
theorem chP_in {l : List Ac} {n : Int} (h : (chP l n).2 = 0) : 0 ≤ n ∧ n ≤ 4095 := by
  by_cases h1 : 400 < l.length
  · rw [chP_big h1] at h; cases h
  by_cases h2 : acesB l = true ∧ inR 0 4095 n = true
  · exact inR_iff.1 h2.2
  · rw [chP_ill h1 h2] at h; cases h
/-- What no allow says is not given. -/
theorem give_none (M : Nat) : ∀ L : List Ac, (∀ x ∈ L, 0 ≤ x.ma ∧ x.ma ≤ 255) → (∀ x ∈ L, x.al = true → x.ma.toNat &&& M = 0) → ∃ g s : Nat, giveI L = ((g : Int), (s : Int)) ∧ g ≤ 255 ∧ s ≤ 255 ∧ g &&& M = 0 := by
  intro L
  induction L using snoc_rec with
  | nil => intro _ _; exact ⟨0, 0, rfl, by omega, by omega, by simp⟩
  | snoc L x ih =>
    intro h1 h2
    obtain ⟨g, s, e, hg, hs, hz⟩ := ih (fun y hy => h1 y (by simp [hy])) (fun y hy => h2 y (by simp [hy]))
    obtain ⟨m0, m1⟩ := h1 x (by simp)
    have hmn : x.ma.toNat ≤ 255 := by omega
    have hrl := rm_le x.ma.toNat s
    rw [giveI_snoc, e, giveS_plain m0 m1 hg hs]
    cases ha : x.al
    · exact ⟨g, _, rfl, hg, or_le hs hmn, hz⟩
    · refine ⟨g ||| rmN x.ma.toNat s, _, rfl, or_le hg (by omega), or_le hs hmn, ?_⟩
      have hx := h2 x (by simp) ha
      apply Nat.eq_of_testBit_eq
      intro i
      have z1 := congrArg (fun n => Nat.testBit n i) hz
      have z2 := congrArg (fun n => Nat.testBit n i) hx
      simp only [Nat.testBit_and, Nat.zero_testBit] at z1 z2
      simp only [Nat.testBit_and, Nat.testBit_or, rm_bit, Nat.zero_testBit]
      cases hb : M.testBit i
      · simp
      · rw [hb] at z1 z2
        simp only [Bool.and_true] at z1 z2
        rw [z1, z2]
        rfl
theorem cut_fin : ∀ m : Fin 256, ∀ g : Fin 8, (hasZ ((g.val : Nat) : Int) 1 = false → (((m.val : Nat) : Int) - andI ((m.val : Nat) : Int) (nb (7 - ((g.val : Nat) : Int)))).toNat &&& 4 = 0) ∧ (hasZ ((g.val : Nat) : Int) 2 = false → (((m.val : Nat) : Int) - andI ((m.val : Nat) : Int) (nb (7 - ((g.val : Nat) : Int)))).toNat &&& 10 = 0) ∧ (hasZ ((g.val : Nat) : Int) 4 = false → (((m.val : Nat) : Int) - andI ((m.val : Nat) : Int) (nb (7 - ((g.val : Nat) : Int)))).toNat &&& 1 = 0) := by decide +kernel
theorem oth_fin : ∀ g : Fin 8, (hasZ ((g.val : Nat) : Int) 1 = false → (nb ((g.val : Nat) : Int) + 32).toNat &&& 4 = 0) ∧ (hasZ ((g.val : Nat) : Int) 2 = false → (nb ((g.val : Nat) : Int) + 32).toNat &&& 10 = 0) ∧ (hasZ ((g.val : Nat) : Int) 4 = false → (nb ((g.val : Nat) : Int) + 32).toNat &&& 1 = 0) := by decide +kernel
theorem rwx_fin : ∀ v : Fin 256, (v.val &&& 4 = 0 → hasZ (rwxZ ((v.val : Nat) : Int)) 1 = false) ∧ (v.val &&& 10 = 0 → hasZ (rwxZ ((v.val : Nat) : Int)) 2 = false) ∧ (v.val &&& 1 = 0 → hasZ (rwxZ ((v.val : Nat) : Int)) 4 = false) := by decide +kernel
/-- Who is not the owner nor in the group. -/
theorem ch_named {l : List Ac} {g o u : Int} (hR : acesB l = true) (g0 : 0 ≤ g) (g1 : g ≤ 7) (o0 : 0 ≤ o) (o1 : o ≤ 7) (u0 : 0 ≤ u) (u1 : u ≤ 7) (p : Ac → Bool) (p1 : ∀ x : Ac, x.wh = 1 → p x = false) (p2 : ∀ x : Ac, x.wh = 2 → p x = false)
    (M : Nat) (hc : ∀ m : Fin 256, (((m.val : Nat) : Int) - andI ((m.val : Nat) : Int) (nb (7 - g))).toNat &&& M = 0) (ho : (nb o + 32).toNat &&& M = 0) :
    ∃ gv s : Nat, giveI (fltP p (chL l u g o) (chL l u g o).length) = ((gv : Int), (s : Int)) ∧ gv ≤ 255 ∧ s ≤ 255 ∧ gv &&& M = 0 := by
  rw [fltP_kF]
  have hin : ∀ x ∈ kF p (chL l u g o), x ∈ chL l u g o ∧ hldB x = true ∧ p x = true := by
    intro x hx
    have := List.mem_filter.1 hx
    simp only [Bool.and_eq_true] at this
    exact ⟨this.1, this.2.1, this.2.2⟩
  have b1 := nb_bd u0 u1
  have b3 := nb_bd g0 g1
  have b5 := nb_bd o0 o1
  refine give_none M _ ?_ ?_
  · intro x hx
    obtain ⟨hx1, hx2, hx3⟩ := hin x hx
    rcases ch_mem hx1 with ⟨j, hj, hf, rfl⟩ | rfl | ⟨rfl, hz⟩ | ⟨j, hj, hh, hw, rfl, hz⟩ | ⟨rfl, hz⟩ | ⟨rfl, hz⟩ | rfl
    · have h := aceB_iff.1 (aces_at hR hj)
      show 0 ≤ (acAt l j).ma ∧ (acAt l j).ma ≤ 255
      omega
    · rw [p1 _ rfl] at hx3; cases hx3
    · rw [p1 _ rfl] at hx3; cases hx3
    · have h := aceB_iff.1 (aces_at hR hj)
      exact ma_cut (x := acAt l j) h.2.2.2.2.1 h.2.2.2.2.2 g0 g1
    · rw [p2 _ rfl] at hx3; cases hx3
    · rw [p2 _ rfl] at hx3; cases hx3
    · simp only
      omega
  · intro x hx ha
    obtain ⟨hx1, hx2, hx3⟩ := hin x hx
    rcases ch_mem hx1 with ⟨j, hj, hf, rfl⟩ | rfl | ⟨rfl, hz⟩ | ⟨j, hj, hh, hw, rfl, hz⟩ | ⟨rfl, hz⟩ | ⟨rfl, hz⟩ | rfl
    · unfold hldB hnd at hx2
      simp only [decide_eq_true_eq] at hx2
      omega
    · rw [p1 _ rfl] at hx3; cases hx3
    · cases ha
    · simp only at ha
      have h := aceB_iff.1 (aces_at hR hj)
      simp only [cutM, ha, if_true]
      obtain ⟨m, hm⟩ := Int.eq_ofNat_of_zero_le (show 0 ≤ (acAt l j).ma by omega)
      rw [hm]
      exact hc ⟨m, by omega⟩
    · rw [p2 _ rfl] at hx3; cases hx3
    · cases ha
    · exact ho
/-- Of each bit that neither the group nor all may. -/
theorem ch_gives {l : List Ac} {n u v : Int} {f : Nat → Int} (h : (chP l n).2 = 0) (hu : u ≠ 77) (hv : v ≠ 88) :
    (hasZ (n / 8 % 8) 1 = false → hasZ (n % 8) 1 = false → hasZ (rwxZ (givesI (chP l n).1 77 88 u v 0 f)) 1 = false) ∧
    (hasZ (n / 8 % 8) 2 = false → hasZ (n % 8) 2 = false → hasZ (rwxZ (givesI (chP l n).1 77 88 u v 0 f)) 2 = false) ∧
    (hasZ (n / 8 % 8) 4 = false → hasZ (n % 8) 4 = false → hasZ (rwxZ (givesI (chP l n).1 77 88 u v 0 f)) 4 = false) := by
  by_cases h1 : 400 < l.length
  · rw [chP_big h1] at h; cases h
  by_cases h2 : acesB l = true ∧ inR 0 4095 n = true
  · by_cases h3 : 32 < (chL l (n / 64 % 8) (n / 8 % 8) (n % 8)).length
    · rw [chP_full h1 h2 h3] at h; cases h
    · rw [chP_yes h1 h2 h3]
      obtain ⟨g', hg'⟩ := Int.eq_ofNat_of_zero_le (show 0 ≤ n / 8 % 8 by omega)
      obtain ⟨o', ho'⟩ := Int.eq_ofNat_of_zero_le (show 0 ≤ n % 8 by omega)
      have p1 : ∀ x : Ac, x.wh = 1 → askB 77 88 u v 0 f x = false := fun x hx => by rw [askB, if_pos hx]; simpa using hu
      have p2 : ∀ x : Ac, x.wh = 2 → askB 77 88 u v 0 f x = false := fun x hx => by rw [askB, if_neg (by omega), if_pos hx]; exact inGB_not hv
      have hof := oth_fin ⟨o', by omega⟩
      simp only at hof
      rw [← show n % 8 = ((o' : Nat) : Int) from ho'] at hof
      have gen : ∀ M : Nat, (∀ m : Fin 256, (((m.val : Nat) : Int) - andI ((m.val : Nat) : Int) (nb (7 - n / 8 % 8))).toNat &&& M = 0) → (nb (n % 8) + 32).toNat &&& M = 0 → ∃ gv : Nat, gv ≤ 255 ∧ gv &&& M = 0 ∧ givesI (chL l (n / 64 % 8) (n / 8 % 8) (n % 8)) 77 88 u v 0 f = (gv : Int) := by
        intro M hc ho
        unfold givesI
        split
        · obtain ⟨gv, s, e, hg, hs, hz⟩ := ch_named h2.1 (g := n / 8 % 8) (o := n % 8) (u := n / 64 % 8) (by omega) (by omega) (by omega) (by omega) (by omega) (by omega) (askB 77 88 u v 0 f) p1 p2 M hc ho
          exact ⟨gv, hg, hz, by rw [e]⟩
        · exact ⟨0, by omega, by simp, rfl⟩
      have hcf := fun m => cut_fin m ⟨g', by omega⟩
      simp only at hcf
      rw [← show n / 8 % 8 = ((g' : Nat) : Int) from hg'] at hcf
      refine ⟨fun a b => ?_, fun a b => ?_, fun a b => ?_⟩
      · obtain ⟨gv, hg, hz, e⟩ := gen 4 (fun m => (hcf m).1 a) (hof.1 b)
        simp only
        rw [e]
        exact (rwx_fin ⟨gv, by omega⟩).1 hz
      · obtain ⟨gv, hg, hz, e⟩ := gen 10 (fun m => (hcf m).2.1 a) (hof.2.1 b)
        simp only
        rw [e]
        exact (rwx_fin ⟨gv, by omega⟩).2.1 hz
      · obtain ⟨gv, hg, hz, e⟩ := gen 1 (fun m => (hcf m).2.2 a) (hof.2.2 b)
        simp only
        rw [e]
        exact (rwx_fin ⟨gv, by omega⟩).2.2 hz
  · rw [chP_ill h1 h2] at h; cases h
end Go.Proofs.YtdidbaadladkpaaDoor
