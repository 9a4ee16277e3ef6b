/- Laid together: TrG, TrN, PathM. -/
import Derived.Test.YtdgejnaceeoooaaGreatDoorBR13
import Derived.Test.YtdgejnaceeoooaaGreatDoorBR15
/- What a right tree has: little facts. -/
namespace Go.Proofs.YtdgejnaceeoooaaGreatDoor
open Go.RowKit Go.PlainAid Go.Deep
set_option linter.unusedVariables false
theorem tree_len {l : List Nd} {now : Int} (h : treeB l now = true) : l.length ≤ 12 := by
  simp only [treeB, Bool.and_eq_true, decide_eq_true_eq] at h
  exact h.2.1
theorem tree_all {l : List Nd} {now : Int} (h : treeB l now = true) : treeT l now l.length = true := by
  simp only [treeB, Bool.and_eq_true, decide_eq_true_eq] at h
  exact h.2.2.2.2
theorem tree_one {l : List Nd} {now : Int} (h : treeB l now = true) : 1 ≤ l.length := by
  simp only [treeB, Bool.and_eq_true, decide_eq_true_eq] at h
  exact h.1
end Go.Proofs.YtdgejnaceeoooaaGreatDoor
/- A node of a right tree. -/
namespace Go.Proofs.YtdgejnaceeoooaaGreatDoor
open Go.RowKit Go.PlainAid Go.Deep
set_option linter.unusedVariables false
theorem treeT_node {l : List Nd} {now : Int} {k : Nat} (hk : ((ndAt l k).k == 0) = false) : ∀ n, treeT l now n = true → k < n → nodeB l now k = true
  | 0, _, h => by omega
  | n + 1, ht, h => by
    simp only [treeT, Bool.and_eq_true] at ht
    by_cases e : k = n
    · subst e
      have h2 := ht.2
      simp only [hk, Bool.false_eq_true, if_false] at h2
      exact h2
    · exact treeT_node hk n ht.1 (by omega)
theorem node_is {l : List Nd} {now : Int} {k : Nat} (ht : treeB l now = true) (hth : thB l ((k : Int) + 1) = true) : nodeB l now k = true := by
  have hn := thB_num hth
  rw [thB_in hn] at hth
  have hin := inR_iff.1 hn
  exact treeT_node (by simpa using hth) _ (tree_all ht) (by omega)
theorem node_facts {l : List Nd} {now : Int} {k : Nat} (h : nodeB l now k = true) : (0 ≤ (ndAt l k).ex ∧ (ndAt l k).ex ≤ 7) ∧ aclB (ndAt l k).A.u (ndAt l k).A.g (ndAt l k).A.o (ndAt l k).A.us (ndAt l k).A.gs (ndAt l k).A.r (ndAt l k).A.m = true ∧ inR 0 9999 (ndAt l k).ow = true ∧ inR 0 9999 (ndAt l k).gr = true := by
  simp only [nodeB, Bool.and_eq_true] at h
  exact ⟨inR_iff.1 h.2.2.1, h.2.2.2.1, h.1, h.2.1⟩
end Go.Proofs.YtdgejnaceeoooaaGreatDoor
/- The path of a directory: mathematics. -/
namespace Go.Proofs.YtdgejnaceeoooaaGreatDoor
open Go.RowKit Go.PlainAid Go.Deep
set_option linter.unusedVariables false
def nfT (ns : List (ByteArray × Int)) (n : Int) : Nat → ByteArray
  | 0 => ⟨#[]⟩
  | k + 1 => if hasE ns n k then nfT ns n k else if noAt ns k == n then nmAt ns k else ⟨#[]⟩
theorem nfT_at {ns : List (ByteArray × Int)} {n : Int} {k : Nat} (h : hasE ns n k = false) (e : (noAt ns k == n) = true) : ∀ m, k < m → nfT ns n m = nmAt ns k
  | 0, h0 => by omega
  | m + 1, h0 => by
    by_cases q : k = m
    · subst q; simp only [nfT, h, e, if_true, Bool.false_eq_true, if_false]
    · have h1 : hasE ns n m = true := hasE_next (k := k + 1) (by simp only [hasE, e, Bool.or_true]) (by omega)
      simp only [nfT, h1, if_true]; exact nfT_at h e m (by omega)
theorem nfT_none {ns : List (ByteArray × Int)} {n : Int} : ∀ m, hasE ns n m = false → nfT ns n m = ⟨#[]⟩
  | 0, _ => rfl
  | m + 1, h => by
    simp only [hasE, Bool.or_eq_false_iff] at h
    simp only [nfT, h.1, h.2, Bool.false_eq_true, if_false]
theorem ent_len {s : ByteArray} (h : entB s = true) : s.size ≤ 12 := by
  simp only [entB, Bool.and_eq_true] at h
  exact (signs_len h.1).2
theorem nfT_len {l : List Nd} {ns : List (ByteArray × Int)} {n : Int} : ∀ m, nsT l ns m = true → (nfT ns n m).size ≤ 12
  | 0, _ => Nat.zero_le _
  | m + 1, h => by
    simp only [nsT, okE, Bool.and_eq_true] at h
    simp only [nfT]
    split
    · exact nfT_len m h.1
    · split
      · exact ent_len h.2.1
      · exact Nat.zero_le _
def stLen : Value → Nat
  | .string s => s.size
  | _ => 0
theorem st_less (a p : ByteArray) (h : p.size ≤ 169) : 170 - stLen (.string (⟨#[47]⟩ ++ a ++ p)) < 170 - stLen (.string p) := by
  have h3 : (⟨#[47]⟩ : ByteArray).size = 1 := rfl
  simp only [stLen, ByteArray.size_append, h3]
  omega
def upN (l : List Nd) (n : Int) : Int := (ndAt l (n - 1).toNat).up
def pNm (l : List Nd) (n : Int) : ByteArray := nfT (ndAt l (upN l n - 1).toNat).ns n (ndAt l (upN l n - 1).toNat).ns.length
def ptG (l : List Nd) : Nat → Int → ByteArray → ByteArray
  | 0, _, p => p
  | f + 1, n, p => if n == 1 then p else ptG l f (upN l n) (⟨#[47]⟩ ++ pNm l n ++ p)
def orP (p : ByteArray) : ByteArray := if p.toList == [] then ⟨#[47]⟩ else p
def ptO (l : List Nd) (now n : Int) : ByteArray := if treeB l now && diB l n then orP (ptG l 13 n ⟨#[]⟩) else ⟨#[]⟩
theorem dir_is {l : List Nd} {now : Int} {k : Nat} (ht : treeB l now = true) (hd : diB l ((k : Int) + 1) = true) : dirB l k = true := by
  have h := node_is ht (diB_th hd)
  have hk := diB_in (diB_th hd)
  rw [hd] at hk
  simp only [nodeB, Bool.and_eq_true] at h
  have h2 := h.2.2.2.2.2.2.2
  simp only [kindB, ← hk, if_true] at h2
  exact h2
structure DirF (l : List Nd) (k : Nat) : Prop where
  ns : nsB l (ndAt l k).ns = true
  up : diB l (ndAt l k).up = true
  du : dirU l k (ndAt l k).up = true
theorem dir_facts {l : List Nd} {now : Int} {k : Nat} (ht : treeB l now = true) (hd : diB l ((k : Int) + 1) = true) : DirF l k := by
  have h := dir_is ht hd
  simp only [dirB, Bool.and_eq_true] at h
  exact ⟨h.2.2.2.2.1, h.2.2.2.2.2.1, h.2.2.2.2.2.2⟩
theorem nsB_T {l : List Nd} {ns : List (ByteArray × Int)} (h : nsB l ns = true) : ns.length ≤ 6 ∧ nsT l ns ns.length = true := by
  simp only [nsB, Bool.and_eq_true, decide_eq_true_eq] at h
  exact h
theorem di_num {l : List Nd} {n : Int} (hd : diB l n = true) : ∃ k : Nat, n = (k : Int) + 1 ∧ k < l.length := by
  have hin := inR_iff.1 (thB_num (diB_th hd))
  exact ⟨(n - 1).toNat, by omega, by omega⟩
theorem rt_start {l : List Nd} {now n : Int} (ht : treeB l now = true) (hd : diB l n = true) : rtB l 13 n = true := by
  obtain ⟨k, rfl, hk⟩ := di_num hd
  by_cases h0 : k = 0
  · subst h0; simp [rtB]
  · have h := (dir_facts ht hd).du
    rw [dirU_pos (by omega)] at h
    simp only [Bool.and_eq_true] at h
    exact h.2
/-- On the way up: the number is of a directory, the steps left are enough, the text is short. -/
structure PtI (l : List Nd) (r : ByteArray) (f : Nat) (n : Int) (p : ByteArray) : Prop where
  di : diB l n = true
  rt : rtB l f n = true
  le : f ≤ 13
  sz : p.size ≤ 13 * (13 - f)
  eq : r = ptG l f n p
theorem pt_start {l : List Nd} {now n : Int} (ht : treeB l now = true) (hd : diB l n = true) : PtI l (ptG l 13 n ⟨#[]⟩) 13 n ⟨#[]⟩ := ⟨hd, rt_start ht hd, by omega, Nat.zero_le _, rfl⟩
theorem pt_end {l : List Nd} {r : ByteArray} {f : Nat} {p : ByteArray} (h : PtI l r f 1 p) : r = p := by
  rw [h.eq]
  cases f with
  | zero => rfl
  | succ f => simp [ptG]
theorem pt_size {l : List Nd} {r : ByteArray} {f : Nat} {n : Int} {p : ByteArray} (h : PtI l r f n p) : p.size ≤ 169 := by
  have := h.sz
  omega
theorem pt_next {l : List Nd} {now : Int} {r : ByteArray} {f : Nat} {n : Int} {p : ByteArray} (ht : treeB l now = true) (h : PtI l r f n p) (hn : n ≠ 1) :
    ∃ g k j : Nat, f = g + 1 ∧ n = (k : Int) + 1 ∧ k < l.length ∧ (ndAt l k).up = (j : Int) + 1 ∧ j < l.length ∧ diB l ((j : Int) + 1) = true ∧ (nfT (ndAt l j).ns n (ndAt l j).ns.length).size ≤ 12 ∧ PtI l r g ((j : Int) + 1) (⟨#[47]⟩ ++ nfT (ndAt l j).ns n (ndAt l j).ns.length ++ p) := by
  obtain ⟨k, hk, hkl⟩ := di_num h.di
  have hd : diB l ((k : Int) + 1) = true := by rw [← hk]; exact h.di
  have hf := dir_facts ht hd
  obtain ⟨j, hj, hjl⟩ := di_num hf.up
  have hdj : diB l ((j : Int) + 1) = true := by rw [← hj]; exact hf.up
  have hns := nsB_T (dir_facts ht hdj).ns
  have hsz := nfT_len (n := n) _ hns.2
  cases hfe : f with
  | zero =>
    have := h.rt
    rw [hfe] at this
    simp [rtB] at this
  | succ g =>
    have hr := h.rt
    rw [hfe] at hr
    have hn1 : (n == 1) = false := by simp [hn]
    simp only [rtB, hn1, Bool.false_or, Bool.and_eq_true] at hr
    have hup : upN l n = (j : Int) + 1 := by rw [upN, hk, at_succ, hj]
    have hnm : pNm l n = nfT (ndAt l j).ns n (ndAt l j).ns.length := by rw [pNm, hup, at_succ]
    refine ⟨g, k, j, rfl, hk, hkl, hj, hjl, hdj, hsz, ⟨hdj, ?_, ?_, ?_, ?_⟩⟩
    · have := hr.2
      rw [hk, at_succ, hj] at this
      exact this
    · have := h.le; omega
    · have h1 := h.sz
      have h2 := h.le
      have h3 : (⟨#[47]⟩ : ByteArray).size = 1 := rfl
      rw [ByteArray.size_append, ByteArray.size_append, h3]
      omega
    · rw [h.eq, hfe]
      simp only [ptG, hn1, Bool.false_eq_true, if_false, hup, hnm]
end Go.Proofs.YtdgejnaceeoooaaGreatDoor
