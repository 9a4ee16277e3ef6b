/- Laid together: TrE, TrF. -/
import Derived.Test.YtgodbelcddgdmaaGreatNF12
/- TreeRight of the program and of the specification: the same. -/
namespace Go.Proofs.YtgodbelcddgdmaaGreat
open Go.RowKit Go.PlainAid Go.Deep
set_option linter.unusedVariables false
theorem E_B {A : Al} (h : A.E = true) : A.B = true := by
  simp only [Al.E, Bool.and_eq_true, beq_iff_eq, Bool.not_eq_true'] at h
  obtain ⟨h1, h2, h3, h4, h5, h6, h7⟩ := h
  have e1 : A.us = [] := List.eq_nil_of_length_eq_zero h6
  have e2 : A.gs = [] := List.eq_nil_of_length_eq_zero h7
  simp [Al.B, aclB, h1, h2, h3, h4, h5, e1, e2, inR, nmB, nmRises]
theorem dB_is (x : Nd) : x.dB = (x.D.B && (x.sh || x.D.E)) := by
  unfold Nd.dB
  cases hs : x.sh
  · cases he : x.D.E
    · simp
    · simp [E_B he]
  · simp
/-- Nodes that are no directories name nothing. -/
def noNs (l : List Nd) : Prop := ∀ i, i < l.length → ((ndAt l i).k == 1) = false → (ndAt l i).ns.length = 0
theorem cd_cnt {l : List Nd} (h : noNs l) (n : Int) : ∀ k, k ≤ l.length → cdD l n k = cntN l n k
  | 0, _ => rfl
  | k + 1, hk => by
    simp only [cdD, cntN, cd_cnt h n k (by omega)]
    cases e : ((ndAt l k).k == 1)
    · rw [h k (by omega) e]
      simp [cntE]
    · simp
theorem lnk_same {l : List Nd} (h : noNs l) (d : Nat) : lnkD l d = lnkN l d := by
  unfold lnkD lnkN
  rw [cd_cnt h _ _ (Nat.le_refl _)]
theorem treeT_at {l : List Nd} {now : Int} : ∀ {n : Nat}, treeT l now n = true → ∀ k, k < n → (if (ndAt l k).k == 0 then (ndAt l k).zero else nodeB l now k) = true
  | 0, _, k, hk => absurd hk (by omega)
  | n + 1, h, k, hk => by
    simp only [treeT, Bool.and_eq_true] at h
    by_cases e : k = n
    · subst e; exact h.2
    · exact treeT_at h.1 k (by omega)
theorem treeT_of {l : List Nd} {now : Int} : ∀ {n : Nat}, (∀ k, k < n → (if (ndAt l k).k == 0 then (ndAt l k).zero else nodeB l now k) = true) → treeT l now n = true
  | 0, _ => rfl
  | n + 1, h => by
    rw [treeT, treeT_of (n := n) (fun k hk => h k (by omega)), h n (by omega)]
    rfl
theorem nodT_at {l : List Nd} {now : Int} : ∀ {n : Nat}, nodT l now n = true → ∀ k, k < n → nodI l now k = true
  | 0, _, k, hk => absurd hk (by omega)
  | n + 1, h, k, hk => by
    simp only [nodT, Bool.and_eq_true] at h
    by_cases e : k = n
    · subst e; exact h.2
    · exact nodT_at h.1 k (by omega)
theorem nodT_of {l : List Nd} {now : Int} : ∀ {n : Nat}, (∀ k, k < n → nodI l now k = true) → nodT l now n = true
  | 0, _ => rfl
  | n + 1, h => by
    rw [nodT, nodT_of (n := n) (fun k hk => h k (by omega)), h n (by omega)]
    rfl
theorem allR_at {l : List Nd} {f : Nat} : ∀ {n : Nat}, allR l f n = true → ∀ k, k < n → ((ndAt l k).k == 1) = true → riB l f ((k : Int) + 1) (ndAt l k).up = true
  | 0, _, k, hk, _ => absurd hk (by omega)
  | n + 1, h, k, hk, hd => by
    simp only [allR, Bool.and_eq_true] at h
    by_cases e : k = n
    · subst e
      have h2 := h.2
      rwa [hd, if_pos rfl] at h2
    · exact allR_at h.1 k (by omega) hd
theorem allR_of {l : List Nd} {f : Nat} : ∀ {n : Nat}, (∀ k, k < n → ((ndAt l k).k == 1) = true → riB l f ((k : Int) + 1) (ndAt l k).up = true) → allR l f n = true
  | 0, _ => rfl
  | n + 1, h => by
    rw [allR, allR_of (n := n) (fun k hk => h k (by omega)), Bool.true_and]
    cases e : ((ndAt l n).k == 1)
    · rfl
    · rw [if_pos rfl]; exact h n (by omega) e
theorem bare_ns {x : Nd} (h : x.bare = true) : x.ns.length = 0 := by
  simp only [Nd.bare, Bool.and_eq_true, beq_iff_eq] at h
  exact h.2.2.2
theorem noNs_s {l : List Nd} {now : Int} (h : treeT l now l.length = true) : noNs l := by
  intro i hi hk
  have h1 := treeT_at h i hi
  cases h0 : ((ndAt l i).k == 0)
  · rw [h0, if_neg (by decide)] at h1
    simp only [nodeB, kindB, Bool.and_eq_true] at h1
    have h2 := h1.2.2.2.2.2.2.2
    rw [hk, if_neg (by decide)] at h2
    cases k2 : ((ndAt l i).k == 2)
    · rw [k2, if_neg (by decide)] at h2
      cases k3 : ((ndAt l i).k == 3)
      · rw [k3, if_neg (by decide)] at h2; cases h2
      · rw [k3, if_pos rfl, Bool.and_eq_true] at h2; exact bare_ns h2.1
    · rw [k2, if_pos rfl, Bool.and_eq_true] at h2; exact bare_ns h2.1
  · rw [h0, if_pos rfl] at h1
    simp only [Nd.zero, Bool.and_eq_true] at h1
    exact bare_ns h1.1
theorem noNs_i {l : List Nd} {now : Int} (h : nodT l now l.length = true) : noNs l := by
  intro i hi hk
  have h1 := nodT_at h i hi
  simp only [nodI, Nd.nI] at h1
  cases h0 : ((ndAt l i).k == 0)
  · rw [h0, if_neg (by decide), hk, if_neg (by decide)] at h1
    cases k2 : ((ndAt l i).k == 2)
    · rw [k2, if_neg (by decide)] at h1
      cases k3 : ((ndAt l i).k == 3)
      · rw [k3, if_neg (by decide)] at h1; cases h1
      · rw [k3, if_pos rfl, Bool.and_eq_true, Bool.and_eq_true] at h1; exact bare_ns h1.2.1
    · rw [k2, if_pos rfl, Bool.and_eq_true, Bool.and_eq_true] at h1; exact bare_ns h1.2.1
  · rw [h0, if_pos rfl, Bool.and_eq_true] at h1
    have h2 := h1.1
    simp only [Nd.z0, Bool.and_eq_true, beq_iff_eq] at h2
    exact h2.2.2.2.2.2.2.2.2.2.2
theorem di_one {l : List Nd} (h : 1 ≤ l.length) (hk : ((ndAt l 0).k == 1) = true) : diB l 1 = true := by
  have hk1 : (ndAt l 0).k = 1 := by simpa using hk
  have hr : inR 1 l.length 1 = true := inR_yes (by omega) (by omega)
  simp [diB, thB, hr, hk1]
theorem di_zero (l : List Nd) : diB l 0 = false := by
  have hr : inR 1 l.length 0 = false := inR_no (by omega)
  simp [diB, thB, hr]
theorem ri_zero (l : List Nd) : ∀ f, riB l f 0 0 = false
  | 0 => rfl
  | f + 1 => by
    have h0 : ((0 : Int) == 1) = false := by decide
    simp only [riB, di_zero, h0, ri_zero l f]
    rfl
theorem ri_rt {l : List Nd} (h1 : diB l 1 = true) : ∀ (f : Nat) (n : Int), diB l n = true → riB l f n (ndAt l (n - 1).toNat).up = rtB l f n
  | 0, _, _ => rfl
  | f + 1, n, hn => by
    simp only [riB, rtB, hn, Bool.true_and]
    cases hu : diB l (ndAt l (n - 1).toNat).up
    · rw [if_neg (by decide), ri_zero]
      cases f with
      | zero => rfl
      | succ f =>
        simp only [rtB, hu, Bool.false_and, Bool.or_false]
        cases e : ((ndAt l (n - 1).toNat).up == 1)
        · simp
        · have e2 : (ndAt l (n - 1).toNat).up = 1 := by simpa using e
          rw [e2, h1] at hu
          cases hu
    · rw [if_pos rfl, ri_rt h1 f _ hu]
theorem rt_mono {l : List Nd} : ∀ (f : Nat) (n : Int), rtB l f n = true → rtB l (f + 1) n = true
  | 0, n, h => by cases h
  | f + 1, n, h => by
    rw [rtB] at h ⊢
    simp only [Bool.or_eq_true, Bool.and_eq_true] at h ⊢
    rcases h with h | ⟨h1, h2⟩
    · exact .inl h
    · exact .inr ⟨h1, rt_mono f _ h2⟩
theorem rt_le {l : List Nd} {f g : Nat} {n : Int} (h : rtB l f n = true) (hfg : f ≤ g) : rtB l g n = true := by
  induction g with
  | zero =>
    have : f = 0 := by omega
    subst this
    exact h
  | succ g ih =>
    by_cases e : f = g + 1
    · subst e; exact h
    · exact rt_mono g n (ih (by omega))
theorem pigeon : ∀ (len f : Nat) (m : Nat → Nat), (∀ i j, i ≤ f → j ≤ f → m i = m j → i = j) → (∀ i, i ≤ f → m i < len) → f < len
  | 0, f, m, _, hr => absurd (hr 0 (Nat.zero_le _)) (by omega)
  | len + 1, 0, m, _, _ => by omega
  | len + 1, f + 1, m, hi, hr => by
    have h := pigeon len f (fun i => if m i = len then m (f + 1) else m i) (fun i j hi2 hj2 e => by
      by_cases a : m i = len
      · by_cases b : m j = len
        · exact hi i j (by omega) (by omega) (by rw [a, b])
        · rw [if_pos a, if_neg b] at e
          have := hi (f + 1) j (by omega) (by omega) e
          omega
      · by_cases b : m j = len
        · rw [if_neg a, if_pos b] at e
          have := hi i (f + 1) (by omega) (by omega) e
          omega
        · rw [if_neg a, if_neg b] at e
          exact hi i j (by omega) (by omega) e) (fun i hi2 => by
      show (if m i = len then m (f + 1) else m i) < len
      by_cases a : m i = len
      · rw [if_pos a]
        have h1 := hr (f + 1) (by omega)
        have h2 : m (f + 1) ≠ len := fun e => by
          have := hi (f + 1) i (by omega) (by omega) (by rw [e, a])
          omega
        omega
      · rw [if_neg a]
        have := hr i (by omega)
        omega)
    omega
/-- A number from which just f steps lead to the first node. -/
def exD (l : List Nd) (f : Nat) (n : Int) : Prop := rtB l (f + 1) n = true ∧ rtB l f n = false
theorem exD_down {l : List Nd} {f : Nat} {n : Int} (h : exD l (f + 1) n) : exD l f (ndAt l (n - 1).toNat).up := by
  obtain ⟨h1, h2⟩ := h
  rw [rtB] at h1 h2
  simp only [Bool.or_eq_true, Bool.and_eq_true, Bool.or_eq_false_iff, Bool.and_eq_false_iff] at h1 h2
  rcases h1 with h1 | ⟨h3, h4⟩
  · rw [h1] at h2; exact absurd h2.1 (by decide)
  · rcases h2.2 with h5 | h5
    · rw [h3] at h5; cases h5
    · exact ⟨h4, h5⟩
theorem exD_all {l : List Nd} : ∀ {f : Nat} {n : Int}, exD l f n → ∀ i, i ≤ f → ∃ m, exD l i m
  | 0, n, h, i, hi => ⟨n, by have : i = 0 := by omega
                             subst this; exact h⟩
  | f + 1, n, h, i, hi => by
    by_cases e : i = f + 1
    · subst e; exact ⟨n, h⟩
    · exact exD_all (exD_down h) i (by omega)
theorem exD_in {l : List Nd} {f : Nat} {n : Int} (hl : 1 ≤ l.length) (h : exD l f n) : 1 ≤ n ∧ n ≤ l.length := by
  obtain ⟨h1, h2⟩ := h
  rw [rtB] at h1
  simp only [Bool.or_eq_true, Bool.and_eq_true, beq_iff_eq] at h1
  rcases h1 with h1 | ⟨h3, _⟩
  · omega
  · exact inR_iff.1 (thB_num (diB_th h3))
theorem exD_eq {l : List Nd} {f g : Nat} {n : Int} (h : exD l f n) (k : exD l g n) : f = g := by
  rcases Nat.lt_trichotomy f g with h1 | h1 | h1
  · have := rt_le h.1 (show f + 1 ≤ g by omega)
    rw [k.2] at this; cases this
  · exact h1
  · have := rt_le k.1 (show g + 1 ≤ f by omega)
    rw [h.2] at this; cases this
theorem exD_lt {l : List Nd} {f : Nat} {n : Int} (hl : 1 ≤ l.length) (h : exD l f n) : f < l.length := by
  have hc := exD_all h
  let m : Nat → Nat := fun i => if hi : i ≤ f then ((Classical.choose (hc i hi)) - 1).toNat else 0
  have hm : ∀ i (hi : i ≤ f), exD l i (Classical.choose (hc i hi)) := fun i hi => Classical.choose_spec (hc i hi)
  refine pigeon l.length f m (fun i j hi hj e => ?_) (fun i hi => ?_)
  · simp only [m, dif_pos hi, dif_pos hj] at e
    have b1 := exD_in hl (hm i hi)
    have b2 := exD_in hl (hm j hj)
    have e2 : Classical.choose (hc i hi) = Classical.choose (hc j hj) := by omega
    have h1 := hm i hi
    rw [e2] at h1
    exact exD_eq h1 (hm j hj)
  · simp only [m, dif_pos hi]
    have b1 := exD_in hl (hm i hi)
    omega
theorem rt_short {l : List Nd} (hl : 1 ≤ l.length) : ∀ (f : Nat) (n : Int), rtB l f n = true → rtB l l.length n = true
  | 0, n, h => by cases h
  | f + 1, n, h => by
    cases e : rtB l f n
    · exact rt_le h (exD_lt hl ⟨h, e⟩)
    · exact rt_short hl f n e
theorem rt_len {l : List Nd} (hl : 1 ≤ l.length) (h12 : l.length ≤ 12) (n : Int) : rtB l 13 n = rtB l l.length n := by
  cases e : rtB l l.length n
  · cases e2 : rtB l 13 n
    · rfl
    · rw [rt_short hl 13 n e2] at e; cases e
  · exact rt_le e (by omega)
theorem zero_z {x : Nd} (h : (x.k == 0) = true) : (x.z0 && x.ti == 0) = x.zero := by
  simp only [Nd.z0, Nd.zero, Nd.bare, h, Bool.true_and]
  simp only [Bool.and_assoc, Bool.and_comm, Bool.and_left_comm]
theorem isE (x : Nd) : x.bo.toList.isEmpty = (x.bo.toList == []) := by cases x.bo.toList <;> rfl
theorem al_node {x : Nd} {now lk : Int} (hn : now ≤ 1000000) (c : Bool) : (x.alI now lk && c) = (inR 0 9999 x.ow && (inR 0 9999 x.gr && (inR 0 7 x.ex && (x.A.B && (inR 0 now x.ti && (x.li == lk && (inR 1 5 lk && c))))))) := by
  have e1 : (!decide (x.ex < 0) && !decide (7 < x.ex)) = inR 0 7 x.ex := by
    unfold inR
    by_cases h : x.ex < 0 <;> by_cases h2 : 7 < x.ex <;> simp [h, h2] <;> omega
  have e2 : (inR 0 1000000 x.ti && !decide (now < x.ti)) = inR 0 now x.ti := by
    unfold inR
    by_cases h : 0 ≤ x.ti <;> by_cases h2 : now < x.ti <;> simp [h, h2] <;> omega
  have e3 : (decide (1 ≤ x.li) && (decide (x.li ≤ 5) && (x.li == lk && c))) = (x.li == lk && (inR 1 5 lk && c)) := by
    cases h : (x.li == lk)
    · simp
    · have h2 : x.li = lk := by simpa using h
      rw [h2]
      unfold inR
      simp [Bool.and_assoc]
  unfold Nd.alI
  simp only [Bool.and_assoc]
  rw [e3, ← e1, ← e2]
  simp only [Bool.and_assoc]
/-- One node, asked by the program and by the specification. -/
theorem node_same {l : List Nd} {now : Int} (hn : now ≤ 1000000) (hN : noNs l) (d : Nat) (hdir : ((ndAt l d).k == 1) = true → dirB l d = (ndAt l d).dirI l ((d : Int) + 1)) : nodI l now d = (if (ndAt l d).k == 0 then (ndAt l d).zero else nodeB l now d) := by
  unfold nodI Nd.nI nodeB kindB
  rw [lnk_same hN]
  cases h0 : ((ndAt l d).k == 0)
  · cases h1 : ((ndAt l d).k == 1)
    · cases h2 : ((ndAt l d).k == 2)
      · cases h3 : ((ndAt l d).k == 3)
        · simp only [Bool.false_eq_true, if_false, Bool.and_false]
        · simp only [Bool.false_eq_true, if_false, if_true]
          exact al_node hn _
      · simp only [Bool.false_eq_true, if_false, if_true]
        rw [al_node hn, isE]
    · simp only [Bool.false_eq_true, if_false, if_true]
      rw [al_node hn, hdir h1]
  · simp only [if_true]
    exact zero_z h0
theorem dir_same0 {l : List Nd} (hup : ((ndAt l 0).up == 1) = true) (h1 : diB l 1 = true) : dirB l 0 = (ndAt l 0).dirI l (((0 : Nat) : Int) + 1) := by
  have hu : (ndAt l 0).up = 1 := by simpa using hup
  have hn : ((((0 : Nat) : Int) + 1) == 1) = true := by decide
  unfold dirB Nd.dirI
  rw [dB_is, hn, Bool.true_or]
  have e : (diB l (ndAt l 0).up && dirU l 0 (ndAt l 0).up) = true := by rw [hu, h1]; rfl
  rw [e]
  generalize (ndAt l 0).D.B = p
  generalize ((ndAt l 0).sh || (ndAt l 0).D.E) = q
  generalize ((ndAt l 0).bo.toList == []) = r
  generalize ((ndAt l 0).li == 1) = s
  generalize nsB l (ndAt l 0).ns = t
  cases p <;> cases q <;> cases r <;> cases s <;> cases t <;> rfl
theorem dir_sameS {l : List Nd} {d : Nat} (hd : 0 < d) (hr : rtB l 13 ((d : Int) + 1) = true) : dirB l d = (ndAt l d).dirI l ((d : Int) + 1) := by
  have hn : (((d : Int) + 1) == 1) = false := by rw [beq_eq_false_iff_ne]; omega
  unfold dirB Nd.dirI
  rw [dB_is, hn, Bool.false_or, dirU_pos hd, hr, Bool.and_true]
  generalize (ndAt l d).D.B = p
  generalize ((ndAt l d).sh || (ndAt l d).D.E) = q
  generalize ((ndAt l d).bo.toList == []) = r
  generalize ((ndAt l d).li == 1) = s
  generalize nsB l (ndAt l d).ns = t
  cases p <;> cases q <;> cases r <;> cases s <;> cases t <;> rfl
theorem di_of {l : List Nd} {d : Nat} (hd : d < l.length) (hk : ((ndAt l d).k == 1) = true) : diB l ((d : Int) + 1) = true := by
  have hr : inR 1 l.length ((d : Int) + 1) = true := inR_yes (by omega) (by omega)
  have hk1 : (ndAt l d).k = 1 := by simpa using hk
  have ht : thB l ((d : Int) + 1) = true := by rw [thB_in hr, hk1]; rfl
  rw [diB_in ht, hk1]
  rfl
theorem ri_13 {l : List Nd} (hl : 1 ≤ l.length) (h12 : l.length ≤ 12) (h1 : diB l 1 = true) {d : Nat} (hd : d < l.length) (hk : ((ndAt l d).k == 1) = true) : riB l l.length ((d : Int) + 1) (ndAt l d).up = rtB l 13 ((d : Int) + 1) := by
  have h := ri_rt h1 l.length ((d : Int) + 1) (di_of hd hk)
  rw [at_succ] at h
  rw [h, rt_len hl h12]
theorem tree_core {l : List Nd} {now : Int} (hl : 1 ≤ l.length) (h12 : l.length ≤ 12) (hn : inR 0 1000000 now = true) (hk : ((ndAt l 0).k == 1) = true) :
    ((ndAt l 0).up == 1 && (nodT l now l.length && allR l l.length l.length)) = treeT l now l.length := by
  have h1 : diB l 1 = true := di_one hl hk
  have hnow : now ≤ 1000000 := (inR_iff.1 hn).2
  rw [Bool.eq_iff_iff]
  constructor
  · intro h
    simp only [Bool.and_eq_true] at h
    obtain ⟨hu, hT, hA⟩ := h
    have hN := noNs_i hT
    refine treeT_of (fun d hd => ?_)
    rw [← node_same hnow hN d (fun hkd => ?_)]
    · exact nodT_at hT d hd
    · by_cases hz : d = 0
      · subst hz; exact dir_same0 hu h1
      · exact dir_sameS (by omega) (by rw [← ri_13 hl h12 h1 hd hkd]; exact allR_at hA d hd hkd)
  · intro h
    have hN := noNs_s h
    have hdir : ∀ d, d < l.length → ((ndAt l d).k == 1) = true → dirB l d = true := fun d hd hkd => by
      have h2 := treeT_at h d hd
      have hk0 : ((ndAt l d).k == 0) = false := by
        have : (ndAt l d).k = 1 := by simpa using hkd
        rw [this]; rfl
      rw [hk0] at h2
      simp only [Bool.false_eq_true, if_false, nodeB, kindB, hkd, if_true, Bool.and_eq_true] at h2
      exact h2.2.2.2.2.2.2.2
    have hu : ((ndAt l 0).up == 1) = true := by
      have h2 := hdir 0 (by omega) hk
      simp only [dirB, Bool.and_eq_true] at h2
      exact h2.2.2.2.2.2.2
    have hr : ∀ d, 0 < d → d < l.length → ((ndAt l d).k == 1) = true → rtB l 13 ((d : Int) + 1) = true := fun d h0 hd hkd => by
      have h2 := hdir d hd hkd
      simp only [dirB, Bool.and_eq_true] at h2
      have h3 := h2.2.2.2.2.2.2
      rw [dirU_pos h0, Bool.and_eq_true] at h3
      exact h3.2
    simp only [Bool.and_eq_true]
    refine ⟨hu, nodT_of (fun d hd => ?_), allR_of (fun d hd hkd => ?_)⟩
    · rw [node_same hnow hN d (fun hkd => ?_)]
      · exact treeT_at h d hd
      · by_cases hz : d = 0
        · subst hz; exact dir_same0 hu h1
        · exact dir_sameS (by omega) (hr d (by omega) hd hkd)
    · by_cases hz : d = 0
      · subst hz
        obtain ⟨f, hf⟩ : ∃ f, l.length = f + 1 := ⟨l.length - 1, by omega⟩
        rw [hf]
        have e : ((((0 : Nat) : Int) + 1) == 1) = true := by decide
        simp only [riB, e, Bool.true_or]
      · rw [ri_13 hl h12 h1 hd hkd]
        exact hr d (by omega) hd hkd
/-- TreeRight, the program's and the specification's. -/
theorem tree_same (l : List Nd) (now : Int) : treeI l now = treeB l now := by
  unfold treeI treeB
  by_cases hl : 1 ≤ l.length
  · by_cases h12 : l.length ≤ 12
    · cases hn : inR 0 1000000 now
      · simp
      · cases hk : ((ndAt l 0).k == 1)
        · simp
        · simp only [hl, h12, decide_true, Bool.true_and]
          exact tree_core hl h12 hn hk
    · simp [h12]
  · simp [hl]
end Go.Proofs.YtgodbelcddgdmaaGreat
