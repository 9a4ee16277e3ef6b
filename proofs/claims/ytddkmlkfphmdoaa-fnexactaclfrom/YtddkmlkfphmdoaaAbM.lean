/- A list of names as bytes: what it comes to, and that it is read back. Nothing here names a program. -/
import Derived.Test.YtddkmlkfphmdoaaAlT
import Derived.Test.YtddkmlkfphmdoaaGetMath
namespace Go.Proofs.Ytddkmlkfphmdoaa
open Go.RowKit Go.PlainAid
set_option linter.unusedVariables false
/-- The four bytes of an entry: its kind, its bits, its id. -/
def ebL (k : Nat) (b i : Int) : List UInt8 := [UInt8.ofNat k, UInt8.ofNat b.toNat, UInt8.ofNat (i / 256).toNat, UInt8.ofNat (i % 256).toNat]
def ebE (e : Nat × Int × Int) : List UInt8 := ebL e.1 e.2.1 e.2.2
def flE (E : List (Nat × Int × Int)) : List UInt8 := E.flatMap ebE
/-- The entries of who is named. -/
def nmEn (k : Nat) (l : List (Int × Int)) : List (Nat × Int × Int) := l.map (fun p => (k, p.2, p.1))
/-- The entries of a list of names. -/
def Al.E (a : Al) : List (Nat × Int × Int) := [(1, a.u, 65535)] ++ nmEn 2 a.us ++ [(4, a.g, 65535)] ++ nmEn 8 a.gs ++ (if a.r then [(16, a.m, 65535)] else []) ++ [(32, a.o, 65535)]
/-- AclBytes. -/
def Al.Y (a : Al) : List UInt8 := if a.B then 2 :: flE a.E else []
/-- An entry may be written so. -/
def OkB (e : Nat × Int × Int) : Prop := e.1 < 256 ∧ 0 ≤ e.2.1 ∧ e.2.1 ≤ 7 ∧ 0 ≤ e.2.2 ∧ e.2.2 ≤ 65535
theorem flE_len (E : List (Nat × Int × Int)) : (flE E).length = 4 * E.length := by
  induction E with
  | nil => rfl
  | cons e E ih =>
    have : flE (e :: E) = ebE e ++ flE E := rfl
    rw [this, List.length_append, ih, List.length_cons]
    have : (ebE e).length = 4 := rfl
    omega
theorem flE_app (E F : List (Nat × Int × Int)) : flE (E ++ F) = flE E ++ flE F := by simp [flE]
theorem flE_cons (e : Nat × Int × Int) (E : List (Nat × Int × Int)) : flE (e :: E) = ebE e ++ flE E := rfl
theorem flE_nil : flE [] = [] := rfl
theorem flE_one (e : Nat × Int × Int) : flE [e] = ebE e := by simp [flE]
theorem flE_at (E : List (Nat × Int × Int)) : ∀ j (h : j < E.length) i, i < 4 → (flE E)[4 * j + i]? = (ebE E[j])[i]? := by
  induction E with
  | nil => intro j h; simp at h
  | cons e E ih =>
    intro j h i hi
    have e1 : flE (e :: E) = ebE e ++ flE E := rfl
    have e2 : (ebE e).length = 4 := rfl
    rw [e1]
    cases j with
    | zero =>
      rw [List.getElem?_append_left (by omega), Nat.mul_zero, Nat.zero_add]
      rfl
    | succ j =>
      rw [List.getElem?_append_right (by omega), e2, show 4 * (j + 1) + i - 4 = 4 * j + i by omega, ih j (Nat.lt_of_succ_lt_succ h) i hi]
      rfl
theorem small_byte {x : Nat} (h : x < 256) : (UInt8.ofNat x).toNat = x := by
  rw [UInt8.toNat_ofNat_of_lt' (by simpa [UInt8.size] using h)]
theorem byte_at {s : ByteArray} {i : Nat} {x : UInt8} (h : s.data.toList[i]? = some x) : byte s i = x.toNat := by
  have hi : i < s.data.toList.length := (List.getElem?_eq_some_iff.1 h).1
  have hi2 : i < s.size := by rw [Lib.size_eq]; exact hi
  unfold byte
  rw [dif_pos hi2]
  have e : s[i] = s.data.toList[i] := by rw [Array.getElem_toList]; rfl
  rw [e, (List.getElem?_eq_some_iff.1 h).2]
/-- An entry taken in. -/
def takeE (a : Al) (k : Nat) (b i : Int) : Al :=
  if k = 1 then { a with u := b } else if k = 2 then { a with us := a.us ++ [(i, b)] } else if k = 4 then { a with g := b } else if k = 8 then { a with gs := a.gs ++ [(i, b)] } else if k = 16 then { a with r := true, m := b } else if k = 32 then { a with o := b } else a
/-- The first j entries of a text, taken in. -/
def fB (s : ByteArray) : Nat → Al
  | 0 => alZ
  | j + 1 => takeE (fB s j) (byte s (4 * j + 1)) (byte s (4 * j + 2)) (256 * (byte s (4 * j + 3) : Int) + byte s (4 * j + 4))
theorem takeE_len (a : Al) (k : Nat) (b i : Int) : (takeE a k b i).us.length ≤ a.us.length + 1 ∧ (takeE a k b i).gs.length ≤ a.gs.length + 1 := by
  unfold takeE
  repeat' split
  all_goals simp
theorem fB_len (s : ByteArray) : ∀ j, (fB s j).us.length ≤ j ∧ (fB s j).gs.length ≤ j := by
  intro j
  induction j with
  | zero => simp [fB, alZ]
  | succ j ih =>
    have h := takeE_len (fB s j) (byte s (4 * j + 1)) (byte s (4 * j + 2)) (256 * (byte s (4 * j + 3) : Int) + byte s (4 * j + 4))
    show (takeE _ _ _ _).us.length ≤ _ ∧ (takeE _ _ _ _).gs.length ≤ _
    omega
def foldE (a : Al) (E : List (Nat × Int × Int)) : Al := E.foldl (fun a e => takeE a e.1 e.2.1 e.2.2) a
theorem fB_E {s : ByteArray} {E : List (Nat × Int × Int)} (hs : s.data.toList = 2 :: flE E) (hE : ∀ e ∈ E, OkB e) : ∀ j, j ≤ E.length → fB s j = foldE alZ (E.take j) := by
  intro j
  induction j with
  | zero => intro _; rfl
  | succ j ih =>
    intro hj
    have hlt : j < E.length := by omega
    obtain ⟨h1, h2, h3, h4, h5⟩ := hE E[j] (List.getElem_mem hlt)
    have hb : ∀ i, i < 4 → s.data.toList[4 * j + 1 + i]? = (ebE E[j])[i]? := fun i hi => by
      rw [hs, show 4 * j + 1 + i = (4 * j + i) + 1 by omega, List.getElem?_cons_succ]
      exact flE_at E j hlt i hi
    have b0 : byte s (4 * j + 1) = E[j].1 := (byte_at (hb 0 (by omega))).trans (small_byte h1)
    have b1 : byte s (4 * j + 2) = E[j].2.1.toNat := (byte_at (hb 1 (by omega))).trans (small_byte (by omega))
    have b2 : byte s (4 * j + 3) = (E[j].2.2 / 256).toNat := (byte_at (hb 2 (by omega))).trans (small_byte (by omega))
    have b3 : byte s (4 * j + 4) = (E[j].2.2 % 256).toNat := (byte_at (hb 3 (by omega))).trans (small_byte (by omega))
    have e1 : ((byte s (4 * j + 2) : Nat) : Int) = E[j].2.1 := by rw [b1]; omega
    have e2 : 256 * (byte s (4 * j + 3) : Int) + byte s (4 * j + 4) = E[j].2.2 := by rw [b2, b3]; omega
    have e3 : E.take (j + 1) = E.take j ++ [E[j]] := (List.take_append_getElem hlt).symm
    rw [fB, b0, e1, e2, ih (by omega), e3]
    unfold foldE
    rw [List.foldl_append]
    rfl
theorem foldE_app (a : Al) (E F : List (Nat × Int × Int)) : foldE a (E ++ F) = foldE (foldE a E) F := by simp [foldE]
theorem foldE_us (l : List (Int × Int)) : ∀ a : Al, foldE a (nmEn 2 l) = { a with us := a.us ++ l } := by
  induction l with
  | nil => intro a; simp [foldE, nmEn]
  | cons p l ih =>
    intro a
    have e : foldE a (nmEn 2 (p :: l)) = foldE { a with us := a.us ++ [(p.1, p.2)] } (nmEn 2 l) := rfl
    rw [e, ih]
    simp
theorem foldE_gs (l : List (Int × Int)) : ∀ a : Al, foldE a (nmEn 8 l) = { a with gs := a.gs ++ l } := by
  induction l with
  | nil => intro a; simp [foldE, nmEn]
  | cons p l ih =>
    intro a
    have e : foldE a (nmEn 8 (p :: l)) = foldE { a with gs := a.gs ++ [(p.1, p.2)] } (nmEn 8 l) := rfl
    rw [e, ih]
    simp
theorem al_parts {a : Al} (h : a.B = true) : (0 ≤ a.u ∧ a.u ≤ 7) ∧ (0 ≤ a.g ∧ a.g ≤ 7) ∧ (0 ≤ a.o ∧ a.o ≤ 7) ∧ (0 ≤ a.m ∧ a.m ≤ 7) ∧ nmB a.us = true ∧ nmB a.gs = true ∧ (a.r = true ∨ a.m = 0) := by
  simp only [Al.B, aclB, Bool.and_eq_true, Bool.or_eq_true, beq_iff_eq] at h
  exact ⟨inR_iff.1 h.1, inR_iff.1 h.2.1, inR_iff.1 h.2.2.1, inR_iff.1 h.2.2.2.1, h.2.2.2.2.1, h.2.2.2.2.2.1, h.2.2.2.2.2.2.imp id (fun x => x.1)⟩
theorem nm_ok {k : Nat} (hk : k < 256) {l : List (Int × Int)} (h : nmB l = true) : ∀ e ∈ nmEn k l, OkB e := by
  intro e he
  simp only [nmEn, List.mem_map] at he
  obtain ⟨p, hp, rfl⟩ := he
  obtain ⟨j, hj, rfl⟩ := List.getElem_of_mem hp
  obtain ⟨⟨i0, i9⟩, b0, b7⟩ := ok_at h hj
  have e1 : idAt l j = l[j].1 := by simp [idAt, List.getD, hj]
  have e2 : btAt l j = l[j].2 := by simp [btAt, List.getD, hj]
  rw [e1] at i0 i9
  rw [e2] at b0 b7
  exact ⟨hk, b0, b7, i0, by show l[j].1 ≤ 65535; omega⟩
theorem okB_one {k : Nat} (hk : k < 256) {b : Int} (h : 0 ≤ b ∧ b ≤ 7) : OkB (k, b, 65535) := ⟨hk, h.1, h.2, (by decide : (0 : Int) ≤ 65535), (by decide : (65535 : Int) ≤ 65535)⟩
theorem E_ok {a : Al} (h : a.B = true) : ∀ e ∈ a.E, OkB e := by
  obtain ⟨hu, hg, ho, hm, nu, ng, _⟩ := al_parts h
  intro e he
  simp only [Al.E, List.mem_append, List.mem_singleton] at he
  rcases he with ((((rfl | he) | rfl) | he) | he) | rfl
  · exact okB_one (by decide) hu
  · exact nm_ok (by decide) nu e he
  · exact okB_one (by decide) hg
  · exact nm_ok (by decide) ng e he
  · cases hr : a.r
    · rw [hr] at he; simp at he
    · rw [hr] at he
      simp at he
      subst he
      exact okB_one (by decide) hm
  · exact okB_one (by decide) ho
theorem E_len {a : Al} (h : a.B = true) : a.E.length ≤ 16 := by
  obtain ⟨hu, hg, ho, hm, nu, ng, _⟩ := al_parts h
  have h1 := nm_len nu
  have h2 := nm_len ng
  simp only [Al.E, List.length_append, List.length_singleton, nmEn, List.length_map]
  split <;> simp <;> omega
theorem E_back {a : Al} (h : a.B = true) : foldE alZ a.E = a := by
  obtain ⟨hu, hg, ho, hm, nu, ng, hr⟩ := al_parts h
  obtain ⟨u, g, o, us, gs, r, m⟩ := a
  simp only [Al.E, foldE_app, foldE_us, foldE_gs]
  cases r
  · have h0 : m = 0 := hr.resolve_left (by simp)
    subst h0
    simp [foldE, takeE, alZ]
  · simp [foldE, takeE, alZ]
/-- How many entries stand in a text. -/
def nE (s : ByteArray) : Nat := (s.size - 1) / 4
def nS (s : ByteArray) : Nat := if nE s ≤ 23 then nE s else 23
theorem acl_bkey (s : ByteArray) : (∃ a : Al, a.B = true ∧ a.Y = s.data.toList ∧ fB s (nE s) = a ∧ fB s (nS s) = a) ∨ ∀ a : Al, a.Y = s.data.toList → s.data.toList = [] := by
  by_cases h : ∃ a : Al, a.B = true ∧ a.Y = s.data.toList
  · obtain ⟨a, h1, h2⟩ := h
    left
    have h3 := h2
    rw [Al.Y, if_pos h1] at h3
    have hl := congrArg List.length h3
    rw [List.length_cons, flE_len] at hl
    have hz : s.size = 4 * a.E.length + 1 := by rw [Lib.size_eq]; omega
    have hn : nE s = a.E.length := by unfold nE; omega
    have h16 := E_len h1
    have hns : nS s = a.E.length := by unfold nS; rw [if_pos (by omega)]; exact hn
    have hf := fB_E h3.symm (E_ok h1) a.E.length (Nat.le_refl _)
    rw [List.take_length, E_back h1] at hf
    exact ⟨a, h1, h2, by rw [hn]; exact hf, by rw [hns]; exact hf⟩
  · right
    intro a e
    cases hb : a.B
    · rw [Al.Y, hb] at e
      exact e.symm
    · exact absurd ⟨a, hb, e⟩ h
theorem Y_len (a : Al) : a.Y.length ≤ 65 := by
  unfold Al.Y
  split
  · rename_i h
    have := E_len h
    rw [List.length_cons, flE_len]
    omega
  · simp
end Go.Proofs.Ytddkmlkfphmdoaa
