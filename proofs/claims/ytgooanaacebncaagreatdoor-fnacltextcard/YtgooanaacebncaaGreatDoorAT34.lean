/- Laid together: GetMath, AbM, SAb. -/
import Derived.Test.YtgooanaacebncaaGreatDoorAT22
/- Plain mathematics of GetNum: what stands at a place of a text, byte by byte. Nothing here names a program. -/
namespace Go.Proofs.YtgooanaacebncaaGreatDoor
open Go.RowKit
set_option linter.unusedVariables false
/-- Byte i of a text as a number; 0 behind its end. -/
def byte (s : ByteArray) (i : Nat) : Nat := if h : i < s.size then (s[i]'h).toNat else 0
theorem get_byte (s : ByteArray) : ∀ (n : Nat) (h : n < s.size), ((s[n]'h).toNat : Int) = (byte s n : Int) := fun n h => by unfold byte; rw [dif_pos h]
theorem byte_le (s : ByteArray) (i : Nat) : byte s i ≤ 255 := by
  unfold byte; split
  · have := (s[i]).toNat_lt; omega
  · omega
theorem fuel {k : Nat} (h : k ≤ 9) : ∃ f, 10 - k = f + 1 ∧ f = 10 - (k + 1) := ⟨9 - k, by omega, by omega⟩
end Go.Proofs.YtgooanaacebncaaGreatDoor
/- A list of names as bytes: what it comes to, and that it is read back. Nothing here names a program. -/
namespace Go.Proofs.YtgooanaacebncaaGreatDoor
open Go.RowKit Go.PlainAid
set_option linter.unusedVariables false
/-- The four bytes of an entry: its kind, its bits, its id. -/
def ebL (k : Nat) (b i : Int) : List UInt8 := [UInt8.ofNat k, UInt8.ofNat b.toNat, UInt8.ofNat (i / 256).toNat, UInt8.ofNat (i % 256).toNat]
def ebE (e : Nat × Int × Int) : List UInt8 := ebL e.1 e.2.1 e.2.2
def flE (E : List (Nat × Int × Int)) : List UInt8 := E.flatMap ebE
/-- The entries of who is named. -/
def nmEn (k : Nat) (l : List (Int × Int)) : List (Nat × Int × Int) := l.map (fun p => (k, p.2, p.1))
/-- The entries of a list of names. -/
def Al.E (a : Al) : List (Nat × Int × Int) := [(1, a.u, 65535)] ++ nmEn 2 a.us ++ [(4, a.g, 65535)] ++ nmEn 8 a.gs ++ (if a.r then [(16, a.m, 65535)] else []) ++ [(32, a.o, 65535)]
/-- AclBytes. -/
def Al.Y (a : Al) : List UInt8 := if a.B then 2 :: flE a.E else []
/-- An entry may be written so. -/
def OkB (e : Nat × Int × Int) : Prop := e.1 < 256 ∧ 0 ≤ e.2.1 ∧ e.2.1 ≤ 7 ∧ 0 ≤ e.2.2 ∧ e.2.2 ≤ 65535
theorem flE_len (E : List (Nat × Int × Int)) : (flE E).length = 4 * E.length := by
  induction E with
  | nil => rfl
  | cons e E ih =>
    have : flE (e :: E) = ebE e ++ flE E := rfl
    rw [this, List.length_append, ih, List.length_cons]
    have : (ebE e).length = 4 := rfl
    omega
theorem flE_app (E F : List (Nat × Int × Int)) : flE (E ++ F) = flE E ++ flE F := by simp [flE]
theorem flE_cons (e : Nat × Int × Int) (E : List (Nat × Int × Int)) : flE (e :: E) = ebE e ++ flE E := rfl
theorem flE_nil : flE [] = [] := rfl
theorem flE_one (e : Nat × Int × Int) : flE [e] = ebE e := by simp [flE]
theorem flE_at (E : List (Nat × Int × Int)) : ∀ j (h : j < E.length) i, i < 4 → (flE E)[4 * j + i]? = (ebE E[j])[i]? := by
  induction E with
  | nil => intro j h; simp at h
  | cons e E ih =>
    intro j h i hi
    have e1 : flE (e :: E) = ebE e ++ flE E := rfl
    have e2 : (ebE e).length = 4 := rfl
    rw [e1]
    cases j with
    | zero =>
      rw [List.getElem?_append_left (by omega), Nat.mul_zero, Nat.zero_add]
      rfl
    | succ j =>
      rw [List.getElem?_append_right (by omega), e2, show 4 * (j + 1) + i - 4 = 4 * j + i by omega, ih j (Nat.lt_of_succ_lt_succ h) i hi]
      rfl
theorem small_byte {x : Nat} (h : x < 256) : (UInt8.ofNat x).toNat = x := by
  rw [UInt8.toNat_ofNat_of_lt' (by simpa [UInt8.size] using h)]
theorem byte_at {s : ByteArray} {i : Nat} {x : UInt8} (h : s.data.toList[i]? = some x) : byte s i = x.toNat := by
  have hi : i < s.data.toList.length := (List.getElem?_eq_some_iff.1 h).1
  have hi2 : i < s.size := by rw [Lib.size_eq]; exact hi
  unfold byte
  rw [dif_pos hi2]
  have e : s[i] = s.data.toList[i] := by rw [Array.getElem_toList]; rfl
  rw [e, (List.getElem?_eq_some_iff.1 h).2]
/-- An entry taken in. -/
def takeE (a : Al) (k : Nat) (b i : Int) : Al :=
  if k = 1 then { a with u := b } else if k = 2 then { a with us := a.us ++ [(i, b)] } else if k = 4 then { a with g := b } else if k = 8 then { a with gs := a.gs ++ [(i, b)] } else if k = 16 then { a with r := true, m := b } else if k = 32 then { a with o := b } else a
/-- The first j entries of a text, taken in. -/
def fB (s : ByteArray) : Nat → Al
  | 0 => alZ
  | j + 1 => takeE (fB s j) (byte s (4 * j + 1)) (byte s (4 * j + 2)) (256 * (byte s (4 * j + 3) : Int) + byte s (4 * j + 4))
theorem takeE_len (a : Al) (k : Nat) (b i : Int) : (takeE a k b i).us.length ≤ a.us.length + 1 ∧ (takeE a k b i).gs.length ≤ a.gs.length + 1 := by
  unfold takeE
  repeat' split
  all_goals simp
theorem fB_len (s : ByteArray) : ∀ j, (fB s j).us.length ≤ j ∧ (fB s j).gs.length ≤ j := by
  intro j
  induction j with
  | zero => simp [fB, alZ]
  | succ j ih =>
    have h := takeE_len (fB s j) (byte s (4 * j + 1)) (byte s (4 * j + 2)) (256 * (byte s (4 * j + 3) : Int) + byte s (4 * j + 4))
    show (takeE _ _ _ _).us.length ≤ _ ∧ (takeE _ _ _ _).gs.length ≤ _
    omega
def foldE (a : Al) (E : List (Nat × Int × Int)) : Al := E.foldl (fun a e => takeE a e.1 e.2.1 e.2.2) a
theorem fB_E {s : ByteArray} {E : List (Nat × Int × Int)} (hs : s.data.toList = 2 :: flE E) (hE : ∀ e ∈ E, OkB e) : ∀ j, j ≤ E.length → fB s j = foldE alZ (E.take j) := by
  intro j
  induction j with
  | zero => intro _; rfl
  | succ j ih =>
    intro hj
    have hlt : j < E.length := by omega
    obtain ⟨h1, h2, h3, h4, h5⟩ := hE E[j] (List.getElem_mem hlt)
    have hb : ∀ i, i < 4 → s.data.toList[4 * j + 1 + i]? = (ebE E[j])[i]? := fun i hi => by
      rw [hs, show 4 * j + 1 + i = (4 * j + i) + 1 by omega, List.getElem?_cons_succ]
      exact flE_at E j hlt i hi
    have b0 : byte s (4 * j + 1) = E[j].1 := (byte_at (hb 0 (by omega))).trans (small_byte h1)
    have b1 : byte s (4 * j + 2) = E[j].2.1.toNat := (byte_at (hb 1 (by omega))).trans (small_byte (by omega))
    have b2 : byte s (4 * j + 3) = (E[j].2.2 / 256).toNat := (byte_at (hb 2 (by omega))).trans (small_byte (by omega))
    have b3 : byte s (4 * j + 4) = (E[j].2.2 % 256).toNat := (byte_at (hb 3 (by omega))).trans (small_byte (by omega))
    have e1 : ((byte s (4 * j + 2) : Nat) : Int) = E[j].2.1 := by rw [b1]; omega
    have e2 : 256 * (byte s (4 * j + 3) : Int) + byte s (4 * j + 4) = E[j].2.2 := by rw [b2, b3]; omega
    have e3 : E.take (j + 1) = E.take j ++ [E[j]] := (List.take_append_getElem hlt).symm
    rw [fB, b0, e1, e2, ih (by omega), e3]
    unfold foldE
    rw [List.foldl_append]
    rfl
theorem foldE_app (a : Al) (E F : List (Nat × Int × Int)) : foldE a (E ++ F) = foldE (foldE a E) F := by simp [foldE]
theorem foldE_us (l : List (Int × Int)) : ∀ a : Al, foldE a (nmEn 2 l) = { a with us := a.us ++ l } := by
  induction l with
  | nil => intro a; simp [foldE, nmEn]
  | cons p l ih =>
    intro a
    have e : foldE a (nmEn 2 (p :: l)) = foldE { a with us := a.us ++ [(p.1, p.2)] } (nmEn 2 l) := rfl
    rw [e, ih]
    simp
theorem foldE_gs (l : List (Int × Int)) : ∀ a : Al, foldE a (nmEn 8 l) = { a with gs := a.gs ++ l } := by
  induction l with
  | nil => intro a; simp [foldE, nmEn]
  | cons p l ih =>
    intro a
    have e : foldE a (nmEn 8 (p :: l)) = foldE { a with gs := a.gs ++ [(p.1, p.2)] } (nmEn 8 l) := rfl
    rw [e, ih]
    simp
theorem al_parts {a : Al} (h : a.B = true) : (0 ≤ a.u ∧ a.u ≤ 7) ∧ (0 ≤ a.g ∧ a.g ≤ 7) ∧ (0 ≤ a.o ∧ a.o ≤ 7) ∧ (0 ≤ a.m ∧ a.m ≤ 7) ∧ nmB a.us = true ∧ nmB a.gs = true ∧ (a.r = true ∨ a.m = 0) := by
  simp only [Al.B, aclB, Bool.and_eq_true, Bool.or_eq_true, beq_iff_eq] at h
  exact ⟨inR_iff.1 h.1, inR_iff.1 h.2.1, inR_iff.1 h.2.2.1, inR_iff.1 h.2.2.2.1, h.2.2.2.2.1, h.2.2.2.2.2.1, h.2.2.2.2.2.2.imp id (fun x => x.1)⟩
theorem nm_ok {k : Nat} (hk : k < 256) {l : List (Int × Int)} (h : nmB l = true) : ∀ e ∈ nmEn k l, OkB e := by
  intro e he
  simp only [nmEn, List.mem_map] at he
  obtain ⟨p, hp, rfl⟩ := he
  obtain ⟨j, hj, rfl⟩ := List.getElem_of_mem hp
  obtain ⟨⟨i0, i9⟩, b0, b7⟩ := ok_at h hj
  have e1 : idAt l j = l[j].1 := by simp [idAt, List.getD, hj]
  have e2 : btAt l j = l[j].2 := by simp [btAt, List.getD, hj]
  rw [e1] at i0 i9
  rw [e2] at b0 b7
  exact ⟨hk, b0, b7, i0, by show l[j].1 ≤ 65535; omega⟩
theorem okB_one {k : Nat} (hk : k < 256) {b : Int} (h : 0 ≤ b ∧ b ≤ 7) : OkB (k, b, 65535) := ⟨hk, h.1, h.2, (by decide : (0 : Int) ≤ 65535), (by decide : (65535 : Int) ≤ 65535)⟩
theorem E_ok {a : Al} (h : a.B = true) : ∀ e ∈ a.E, OkB e := by
  obtain ⟨hu, hg, ho, hm, nu, ng, _⟩ := al_parts h
  intro e he
  simp only [Al.E, List.mem_append, List.mem_singleton] at he
  rcases he with ((((rfl | he) | rfl) | he) | he) | rfl
  · exact okB_one (by decide) hu
  · exact nm_ok (by decide) nu e he
  · exact okB_one (by decide) hg
  · exact nm_ok (by decide) ng e he
  · cases hr : a.r
    · rw [hr] at he; simp at he
    · rw [hr] at he
      simp at he
      subst he
      exact okB_one (by decide) hm
  · exact okB_one (by decide) ho
theorem E_len {a : Al} (h : a.B = true) : a.E.length ≤ 16 := by
  obtain ⟨hu, hg, ho, hm, nu, ng, _⟩ := al_parts h
  have h1 := nm_len nu
  have h2 := nm_len ng
  simp only [Al.E, List.length_append, List.length_singleton, nmEn, List.length_map]
  split <;> simp <;> omega
theorem E_back {a : Al} (h : a.B = true) : foldE alZ a.E = a := by
  obtain ⟨hu, hg, ho, hm, nu, ng, hr⟩ := al_parts h
  obtain ⟨u, g, o, us, gs, r, m⟩ := a
  simp only [Al.E, foldE_app, foldE_us, foldE_gs]
  cases r
  · have h0 : m = 0 := hr.resolve_left (by simp)
    subst h0
    simp [foldE, takeE, alZ]
  · simp [foldE, takeE, alZ]
/-- How many entries stand in a text. -/
def nE (s : ByteArray) : Nat := (s.size - 1) / 4
def nS (s : ByteArray) : Nat := if nE s ≤ 23 then nE s else 23
theorem acl_bkey (s : ByteArray) : (∃ a : Al, a.B = true ∧ a.Y = s.data.toList ∧ fB s (nE s) = a ∧ fB s (nS s) = a) ∨ ∀ a : Al, a.Y = s.data.toList → s.data.toList = [] := by
  by_cases h : ∃ a : Al, a.B = true ∧ a.Y = s.data.toList
  · obtain ⟨a, h1, h2⟩ := h
    left
    have h3 := h2
    rw [Al.Y, if_pos h1] at h3
    have hl := congrArg List.length h3
    rw [List.length_cons, flE_len] at hl
    have hz : s.size = 4 * a.E.length + 1 := by rw [Lib.size_eq]; omega
    have hn : nE s = a.E.length := by unfold nE; omega
    have h16 := E_len h1
    have hns : nS s = a.E.length := by unfold nS; rw [if_pos (by omega)]; exact hn
    have hf := fB_E h3.symm (E_ok h1) a.E.length (Nat.le_refl _)
    rw [List.take_length, E_back h1] at hf
    exact ⟨a, h1, h2, by rw [hn]; exact hf, by rw [hns]; exact hf⟩
  · right
    intro a e
    cases hb : a.B
    · rw [Al.Y, hb] at e
      exact e.symm
    · exact absurd ⟨a, hb, e⟩ h
theorem Y_len (a : Al) : a.Y.length ≤ 65 := by
  unfold Al.Y
  split
  · rename_i h
    have := E_len h
    rw [List.length_cons, flE_len]
    omega
  · simp
end Go.Proofs.YtgooanaacebncaaGreatDoor
/- A list of names as bytes: l06Entry, l06Named, AclBytes of the specification. -/
namespace Go.Proofs.YtgooanaacebncaaGreatDoor
open Go.RowKit Go.PlainAid Go.Deep
set_option linter.unusedVariables false
theorem ebL_row {k : Nat} (hk : k < 256) {b i : Int} (hb : 0 ≤ b ∧ b ≤ 7) (hi : 0 ≤ i ∧ i ≤ 65535) : (#[.int .u8 k, .int .u8 b, .int .u8 (i / 256), .int .u8 (i % 256)] : Array Value) = (Lib.byteCells (ebL k b i)).toArray := by
  simp only [ebL, Lib.byteCells, List.map_cons, List.map_nil]
  rw [small_byte hk, small_byte (x := b.toNat) (by omega), small_byte (x := (i / 256).toNat) (by omega), small_byte (x := (i % 256).toNat) (by omega)]
  rw [Int.toNat_of_nonneg hb.1, Int.toNat_of_nonneg (by omega), Int.toNat_of_nonneg (by omega)]
theorem row_allocB (w : World) (c : Array Value) (t : TypeId) : (w.alloc (.cells c t)).heap[w.heap.size]? = some (.cells c t (0, 0)) := by
  rw [World.alloc]
  exact Array.getElem?_push_size
theorem ent_text {k : Nat} (hk : k < 256) {b i : Int} (hb : 0 ≤ b ∧ b ≤ 7) (hi : 0 ≤ i ∧ i ≤ 65535) (w : World) :
    (convert 22 9 (.slice (some ⟨w.heap.size, 0, none⟩) 4 4)).run Tryz.prog (w.alloc (.cells #[.int .u8 k, .int .u8 b, .int .u8 (i / 256), .int .u8 (i % 256)] 5)) =
      .ok (.string ⟨(ebL k b i).toArray⟩) (w.alloc (.cells #[.int .u8 k, .int .u8 b, .int .u8 (i / 256), .int .u8 (i % 256)] 5)) := by
  rw [ebL_row hk hb hi]
  exact run_convert_text (P := Tryz.prog) _ 22 5 9 Tryz.underlying22 Tryz.underlying5 Tryz.underlying9 w.heap.size 0 (ebL k b i) 4 4 rfl (row_bytes (row_allocB w _ _))
set_option maxHeartbeats 1000000 in
/-- spec.l06Entry of an id. -/
theorem sEntB_id (k : Nat) (hk : k < 256) (b i : Int) (hb : 0 ≤ b ∧ b ≤ 7) (hi : 0 ≤ i ∧ i ≤ 65535) (w : World) :
    Calls Tryz.prog 34 #[.int .u8 k, .int .i64 b, .int .i64 i] w fun e w' => e = .returned (.string ⟨(ebL k b i).toArray⟩) ∧ Below w.heap.size w w' := by
  have hcv := ent_text hk hb hi
  obtain ⟨b0, b7⟩ := hb
  obtain ⟨i0, i9⟩ := hi
  go_enter Tryz.func34, Tryz.ntmps34
  go_wp2
  go_ret
  exact ⟨rfl, (Below.refl _ _).alloc (Nat.le_refl _) _⟩
set_option maxHeartbeats 1000000 in
/-- spec.l06Entry of none. -/
theorem sEntB_no (k : Nat) (hk : k < 256) (b : Int) (hb : 0 ≤ b ∧ b ≤ 7) (w : World) :
    Calls Tryz.prog 34 #[.int .u8 k, .int .i64 b, .int .i64 (-1)] w fun e w' => e = .returned (.string ⟨(ebL k b 65535).toArray⟩) ∧ Below w.heap.size w w' := by
  have hcv := ent_text hk hb (i := 65535) ⟨by decide, by decide⟩
  have e1 : (65535 : Int) / 256 = 255 := by decide
  have e2 : (65535 : Int) % 256 = 255 := by decide
  rw [e1, e2] at hcv
  obtain ⟨b0, b7⟩ := hb
  clear e1 e2
  go_enter Tryz.func34, Tryz.ntmps34
  go_wp2
  go_ret
  exact ⟨rfl, (Below.refl _ _).alloc (Nat.le_refl _) _⟩
/-- The bytes of an entry without an id; of the first j who are named. -/
def enB (k : Nat) (b : Int) : ByteArray := ⟨(ebL k b 65535).toArray⟩
def nbJ (k : Nat) (l : List (Int × Int)) (j : Nat) : ByteArray := ⟨(flE (nmEn k (l.take j))).toArray⟩
theorem enB_size (k : Nat) (b : Int) : (enB k b).size = 4 := rfl
theorem nbJ_size (k : Nat) (l : List (Int × Int)) (j : Nat) : (nbJ k l j).size ≤ 4 * j := by
  have e : (nbJ k l j).size = (flE (nmEn k (l.take j))).length := by simp [nbJ, ByteArray.size]
  rw [e, flE_len]
  simp [nmEn]
  omega
theorem nbJ_next {k : Nat} {l : List (Int × Int)} {j : Nat} (h : j < l.length) : nbJ k l (j + 1) = nbJ k l j ++ ⟨(ebL k (btAt l j) (idAt l j)).toArray⟩ := by
  apply ByteArray.ext
  apply Array.toList_inj.1
  rw [nbJ, take_next2 h]
  simp [nbJ, nmEn, flE_app, flE_one, ebE, ByteArray.data_append]
def abX (u g : Int) (us gs : List (Int × Int)) : ByteArray := ⟨#[2]⟩ ++ enB 1 u ++ nbJ 2 us us.length ++ enB 4 g ++ nbJ 8 gs gs.length
def abZ (x : ByteArray) (r : Bool) (m : Int) : ByteArray := if r then x ++ enB 16 m else x
/-- AclBytes. -/
def abT (u g o : Int) (us gs : List (Int × Int)) (r : Bool) (m : Int) : ByteArray := ⟨(Al.Y ⟨u, g, o, us, gs, r, m⟩).toArray⟩
theorem abT_no {u g o : Int} {us gs : List (Int × Int)} {r : Bool} {m : Int} (h : aclB u g o us gs r m = false) : abT u g o us gs r m = ⟨#[]⟩ := by
  have h2 : Al.B ⟨u, g, o, us, gs, r, m⟩ = false := h
  rw [abT, Al.Y, h2]
  rfl
theorem abT_yes {u g o : Int} {us gs : List (Int × Int)} {r : Bool} {m : Int} (h : aclB u g o us gs r m = true) : abT u g o us gs r m = abZ (abX u g us gs) r m ++ enB 32 o := by
  have h2 : Al.B ⟨u, g, o, us, gs, r, m⟩ = true := h
  rw [abT, Al.Y, if_pos h2]
  apply ByteArray.ext
  apply Array.toList_inj.1
  cases r <;> simp [abZ, abX, Al.E, flE_app, flE_cons, flE_nil, ebE, enB, nbJ, ByteArray.data_append]
theorem abX_size {u g : Int} {us gs : List (Int × Int)} (hu : us.length ≤ 6) (hg : gs.length ≤ 6) : (abX u g us gs).size ≤ 250 := by
  have h1 := nbJ_size 2 us us.length
  have h2 := nbJ_size 8 gs gs.length
  have e1 : (⟨#[2]⟩ : ByteArray).size = 1 := rfl
  simp only [abX, ByteArray.size_append, enB_size]
  omega
theorem ret_strB {a b : ByteArray} (h : a = b) : Ending.returned (.string a) = .returned (.string b) := by rw [h]
/-- Ids and bits that may stand there. -/
def PrsIn (l : List (Int × Int)) : Prop := ∀ k, k < l.length → (0 ≤ idAt l k ∧ idAt l k ≤ 9999) ∧ (0 ≤ btAt l k ∧ btAt l k ≤ 7)
theorem nm_prs {l : List (Int × Int)} (h : nmB l = true) : PrsIn l := fun k hk => ok_at h hk
set_option maxRecDepth 100000 in
set_option maxHeartbeats 4000000 in
/-- spec.l06Named. -/
theorem sNamB_any (kd : Nat) (hkd : kd < 256) (a : Option Addr) (len cap : Nat) (l : List (Int × Int)) (hl : len ≤ 6) (hid : PrsIn l) (w : World) (hi : Prs a len l w) :
    Calls Tryz.prog 35 #[.int .u8 kd, .slice a len cap] w fun e w' => e = .returned (.string (nbJ kd l len)) ∧ Below w.heap.size w w' := by
  have HD : Hid (∀ k w, k < len → Calls Tryz.prog 34 #[.int .u8 kd, .int .i64 (btAt l k), .int .i64 (idAt l k)] w fun e w' => e = .returned (.string ⟨(ebL kd (btAt l k) (idAt l k)).toArray⟩) ∧ Below w.heap.size w w') := (fun k w hk => by
    have h1 := hid k (by rw [hi.1]; exact hk)
    exact sEntB_id kd hkd _ _ h1.2 ⟨h1.1.1, by omega⟩ w)
  have HS : Hid (∀ k, k ≤ len → (nbJ kd l k).size ≤ 24) := (fun k hk => by have := nbJ_size kd l k; omega)
  have HN : Hid (∀ k, k < len → nbJ kd l (k + 1) = nbJ kd l k ++ ⟨(ebL kd (btAt l k) (idAt l k)).toArray⟩) := (fun k hk => nbJ_next (by rw [hi.1]; exact hk))
  have HI : Hid (Prs a len l w) := hi
  clear hi hid hkd
  go_enter Tryz.func35, Tryz.ntmps35
  go_wp2
  go_loopw [5, 6] (fun s i wr => ∃ k : Nat, k ≤ len ∧ i = .int .i64 k ∧ s = .string (nbJ kd l k) ∧ Hid (Below w.heap.size w wr)) (fun _ i _ => len - (intOf i).toNat)
  case atStart => exact ⟨0, Nat.zero_le _, rfl, rfl, Below.refl _ _⟩
  case round =>
    obtain ⟨k, hk, rfl, rfl, hB⟩ := hrel
    by_cases hlt : k < len
    · have hlt' : (k : Int) < (len : Int) := by omega
      obtain ⟨b, off, rfl, hbl, hcl⟩ := HI.out.2 (by omega)
      have c0 : wr.cell? ⟨b, off + k * 2, none⟩ = some (.int .i64 (idAt l k)) := (hB.out.cell (p := ⟨b, off + k * 2, none⟩) hbl).trans (hcl k hlt).1
      have c1 : wr.cell? ⟨b, off + k * 2 + 1, none⟩ = some (.int .i64 (btAt l k)) := (hB.out.cell (p := ⟨b, off + k * 2 + 1, none⟩) hbl).trans (hcl k hlt).2
      have d0 : Hid (∀ w, Calls Tryz.prog 34 #[.int .u8 kd, .int .i64 (btAt l k), .int .i64 (idAt l k)] w fun e w' => e = .returned (.string ⟨(ebL kd (btAt l k) (idAt l k)).toArray⟩) ∧ Below w.heap.size w w') := (fun w => HD.out k w hlt)
      have hn : Hid _ := HN.out k hlt
      have s0 := HS.out k hk
      have s1 : (⟨(ebL kd (btAt l k) (idAt l k)).toArray⟩ : ByteArray).size = 4 := rfl
      clear hcl
      generalize nbJ kd l k = T at s0 hn
      generalize (⟨(ebL kd (btAt l k) (idAt l k)).toArray⟩ : ByteArray) = D at d0 s1 hn
      generalize idAt l k = x at c0 d0
      generalize btAt l k = y at c1 d0
      have q0 := fun d os => cell_regrown c0 d os
      have q1 := fun d os => cell_regrown c1 d os
      have r0 : ∀ d os, Calls Tryz.prog 34 #[.int .u8 kd, .int .i64 y, .int .i64 x] (Go.Sort.grow (redrawn wr d) os) fun e w'' => e = .returned (.string D) ∧ ∃ p : Regrown, w'' = Go.Sort.grow (redrawn wr p.d) p.os := fun d os => Calls.regrown_of (d0.out _)
      go_wp2_with fail
      refine wp_region_quiet_below (by kernel_rfl) (by kernel_rfl) ?_
      repeat (go_big_quiet_step (first | (go_at_call 34; exact r0 _ _)))
      refine wpQuiet_nil ?_
      intro _ hw'
      obtain ⟨⟨dq, osq⟩, hw''⟩ := hw'
      subst hw''
      have hB2 : Hid (Below w.heap.size w (Go.Sort.grow (redrawn wr dq) osq)) := Below.on hB.out (below_regrown wr dq osq)
      generalize Go.Sort.grow (redrawn wr dq) osq = w2 at hB2 ⊢
      clear q0 q1 r0 c0 c1 d0
      go_wp2
      go_roundw
      case rel => exact ⟨k + 1, by omega, by go_num, by rw [hn.out], hB2⟩
      case measure => simp [intOf]; omega
    · have : k = len := by omega
      subst this
      go_wp2
      go_ret
      exact ⟨rfl, hB.out⟩
set_option maxRecDepth 100000 in
set_option maxHeartbeats 4000000 in
/-- spec.AclBytes. -/
theorem sAclBytes_any (u g o : Int) (au : Option Addr) (lu cu : Nat) (ag : Option Addr) (lg cg : Nat) (r : Bool) (m : Int) (us gs : List (Int × Int)) (hlu : lu ≤ 1048576) (hlg : lg ≤ 1048576) (w : World) (hu : Prs au lu us w) (hg : Prs ag lg gs w) :
    Calls Tryz.prog 13 #[.agg #[.int .i64 u, .int .i64 g, .int .i64 o, .slice au lu cu, .slice ag lg cg, .bool r, .int .i64 m]] w fun e w' => e = .returned (.string (abT u g o us gs r m)) ∧ Below w.heap.size w w' := by
  have hR : Hid (∀ w', Below w.heap.size w w' → Calls Tryz.prog 31 #[.agg #[.int .i64 u, .int .i64 g, .int .i64 o, .slice au lu cu, .slice ag lg cg, .bool r, .int .i64 m]] w' fun e w'' => e = .returned (.bool (aclB u g o us gs r m)) ∧ Below w'.heap.size w' w'') := (fun w' hb => sAclRight_any u g o au lu cu ag lg cg r m us gs hlu hlg w' (hu.below hb) (hg.below hb))
  have hX0 : Hid (Box7 (w.alloc (.cells #[.int .i64 u, .int .i64 g, .int .i64 o, .slice au lu cu, .slice ag lg cg, .bool r, .int .i64 m] 25)) w.heap.size (.int .i64 u) (.int .i64 g) (.int .i64 o) (.slice au lu cu) (.slice ag lg cg) (.bool r) (.int .i64 m)) := box7_new w _ _ _ _ _ _ _ _
  have hW0 : Hid (Below w.heap.size w (w.alloc (.cells #[.int .i64 u, .int .i64 g, .int .i64 o, .slice au lu cu, .slice ag lg cg, .bool r, .int .i64 m] 25))) := bel_alloc _ _
  cases hb : aclB u g o us gs r m
  · rw [abT_no hb]
    rw [hb] at hR
    clear hb hu hg hlu hlg
    obtain ⟨xl, x0, x1, x2, x3, x4, x5, x6⟩ := hX0.out
    go_enter Tryz.func13, Tryz.ntmps13
    go_wp2_with fail
    refine (hR.out _ hW0.out).mono ?_
    rintro e w1 ⟨rfl, hb1⟩
    have hW1 : Hid (Below w.heap.size w w1) := Below.on hW0.out hb1
    clear hb1 hR xl x0 x1 x2 x3 x4 x5 x6
    go_wp2
    go_ret
    exact ⟨rfl, hW1.out⟩
  · obtain ⟨pu, pg, po, pm, nu, ng, _⟩ := al_parts (a := ⟨u, g, o, us, gs, r, m⟩) hb
    have pu : 0 ≤ u ∧ u ≤ 7 := pu
    have pg : 0 ≤ g ∧ g ≤ 7 := pg
    have po : 0 ≤ o ∧ o ≤ 7 := po
    have pm : 0 ≤ m ∧ m ≤ 7 := pm
    have nu : nmB us = true := nu
    have ng : nmB gs = true := ng
    have HT : Hid (abT u g o us gs r m = abZ (abX u g us gs) r m ++ enB 32 o) := abT_yes hb
    rw [hb] at hR
    have eu := hu.1
    have eg := hg.1
    have lu6 := nm_len nu
    have lg6 := nm_len ng
    have HU : Hid (∀ w', Below w.heap.size w w' → Calls Tryz.prog 35 #[.int .u8 2, .slice au lu cu] w' fun e w'' => e = .returned (.string (nbJ 2 us us.length)) ∧ Below w'.heap.size w' w'') := (fun w' hb => by rw [eu]; exact sNamB_any 2 (by decide) au lu cu us (by omega) (nm_prs nu) w' (hu.below hb))
    have HG : Hid (∀ w', Below w.heap.size w w' → Calls Tryz.prog 35 #[.int .u8 8, .slice ag lg cg] w' fun e w'' => e = .returned (.string (nbJ 8 gs gs.length)) ∧ Below w'.heap.size w' w'') := (fun w' hb => by rw [eg]; exact sNamB_any 8 (by decide) ag lg cg gs (by omega) (nm_prs ng) w' (hg.below hb))
    have zu : (nbJ 2 us us.length).size ≤ 24 := by have := nbJ_size 2 us us.length; omega
    have zg : (nbJ 8 gs gs.length).size ≤ 24 := by have := nbJ_size 8 gs gs.length; omega
    have HX : Hid (abX u g us gs = ⟨#[2]⟩ ++ enB 1 u ++ nbJ 2 us us.length ++ enB 4 g ++ nbJ 8 gs gs.length) := rfl
    have zx : (abX u g us gs).size ≤ 250 := abX_size lu6 lg6
    have b0 := enB_size 1 u
    have b1 := enB_size 4 g
    have b2 := enB_size 32 o
    have b3 := enB_size 16 m
    have hu0 : Hid (∀ w, Calls Tryz.prog 34 #[.int .u8 1, .int .i64 u, .int .i64 (-1)] w fun e w' => e = .returned (.string (enB 1 u)) ∧ Below w.heap.size w w') := sEntB_no 1 (by decide) u pu
    have hg0 : Hid (∀ w, Calls Tryz.prog 34 #[.int .u8 4, .int .i64 g, .int .i64 (-1)] w fun e w' => e = .returned (.string (enB 4 g)) ∧ Below w.heap.size w w') := sEntB_no 4 (by decide) g pg
    have ho0 : Hid (∀ w, Calls Tryz.prog 34 #[.int .u8 32, .int .i64 o, .int .i64 (-1)] w fun e w' => e = .returned (.string (enB 32 o)) ∧ Below w.heap.size w w') := sEntB_no 32 (by decide) o po
    have hm0 : Hid (∀ w, Calls Tryz.prog 34 #[.int .u8 16, .int .i64 m, .int .i64 (-1)] w fun e w' => e = .returned (.string (enB 16 m)) ∧ Below w.heap.size w w') := sEntB_no 16 (by decide) m pm
    have HY : Hid (∀ X, abZ X r m = if r then X ++ enB 16 m else X) := (fun X => rfl)
    clear hb hu hg hlu hlg nu ng eu eg lu6 lg6 pu pg po pm
    generalize abT u g o us gs r m = R at HT ⊢
    generalize abX u g us gs = XX at HX zx HT
    generalize nbJ 2 us us.length = NU at HU zu HX
    generalize nbJ 8 gs gs.length = NG at HG zg HX
    generalize enB 1 u = BU at hu0 b0 HX
    generalize enB 4 g = BG at hg0 b1 HX
    generalize enB 32 o = BO at ho0 b2 HT
    generalize enB 16 m = BM at hm0 b3 HY
    have y0 : (⟨#[2]⟩ : ByteArray).size = 1 := rfl
    obtain ⟨xl, x0, x1, x2, x3, x4, x5, x6⟩ := hX0.out
    go_enter Tryz.func13, Tryz.ntmps13
    go_wp2_with fail
    refine (hR.out _ hW0.out).mono ?_
    rintro e w1 ⟨rfl, hb1⟩
    have hW1 : Hid (Below w.heap.size w w1) := Below.on hW0.out hb1
    have hX1 : Hid (Box7 w1 w.heap.size (.int .i64 u) (.int .i64 g) (.int .i64 o) (.slice au lu cu) (.slice ag lg cg) (.bool r) (.int .i64 m)) := hX0.out.below hb1
    clear hb1 hR xl x0 x1 x2 x3 x4 x5 x6 hX0 hW0
    obtain ⟨xl, x0, x1, x2, x3, x4, x5, x6⟩ := hX1.out
    have q0 := fun d os => cell_regrown x0 d os
    have q1 := fun d os => cell_regrown x1 d os
    have q3 := fun d os => cell_regrown x3 d os
    have q4 := fun d os => cell_regrown x4 d os
    have r0 : ∀ d os, Calls Tryz.prog 34 #[.int .u8 1, .int .i64 u, .int .i64 (-1)] (Go.Sort.grow (redrawn w1 d) os) fun e w'' => e = .returned (.string BU) ∧ ∃ p : Regrown, w'' = Go.Sort.grow (redrawn w1 p.d) p.os := fun d os => Calls.regrown_of (hu0.out _)
    have r1 : ∀ d os, Calls Tryz.prog 35 #[.int .u8 2, .slice au lu cu] (Go.Sort.grow (redrawn w1 d) os) fun e w'' => e = .returned (.string NU) ∧ ∃ p : Regrown, w'' = Go.Sort.grow (redrawn w1 p.d) p.os := fun d os => Calls.regrown_of (HU.out _ (Below.on hW1.out (below_regrown w1 d os)))
    have r2 : ∀ d os, Calls Tryz.prog 34 #[.int .u8 4, .int .i64 g, .int .i64 (-1)] (Go.Sort.grow (redrawn w1 d) os) fun e w'' => e = .returned (.string BG) ∧ ∃ p : Regrown, w'' = Go.Sort.grow (redrawn w1 p.d) p.os := fun d os => Calls.regrown_of (hg0.out _)
    have r3 : ∀ d os, Calls Tryz.prog 35 #[.int .u8 8, .slice ag lg cg] (Go.Sort.grow (redrawn w1 d) os) fun e w'' => e = .returned (.string NG) ∧ ∃ p : Regrown, w'' = Go.Sort.grow (redrawn w1 p.d) p.os := fun d os => Calls.regrown_of (HG.out _ (Below.on hW1.out (below_regrown w1 d os)))
    go_wp2_with fail
    refine wp_region_quiet_below (by kernel_rfl) (by kernel_rfl) ?_
    repeat (go_big_quiet_step (fail))
    go_big_quiet_step (exact r0 _ _)
    repeat (go_big_quiet_step (fail))
    go_big_quiet_step (exact r1 _ _)
    repeat (go_big_quiet_step (fail))
    go_big_quiet_step (exact r2 _ _)
    repeat (go_big_quiet_step (fail))
    go_big_quiet_step (exact r3 _ _)
    repeat (go_big_quiet_step (fail))
    refine wpQuiet_nil ?_
    intro _ hw'
    obtain ⟨⟨dq, osq⟩, hw''⟩ := hw'
    subst hw''
    have hbq := below_regrown w1 dq osq
    have hW2 : Hid (Below w.heap.size w (Go.Sort.grow (redrawn w1 dq) osq)) := Below.on hW1.out hbq
    have hX2 : Hid (Box7 (Go.Sort.grow (redrawn w1 dq) osq) w.heap.size (.int .i64 u) (.int .i64 g) (.int .i64 o) (.slice au lu cu) (.slice ag lg cg) (.bool r) (.int .i64 m)) := hX1.out.below hbq
    generalize Go.Sort.grow (redrawn w1 dq) osq = w2 at hW2 hX2 ⊢
    rw [← HX.out]
    clear q0 q1 q3 q4 r0 r1 r2 r3 hbq xl x0 x1 x2 x3 x4 x5 x6 hX1 hW1 HU HG hu0 hg0 HX zu zg b0 b1 y0
    obtain ⟨xl, x0, x1, x2, x3, x4, x5, x6⟩ := hX2.out
    cases r
    · have hy : Hid (R = XX ++ BO) := (by show _ = _; rw [HT.out, HY.out]; rfl)
      go_wp2_with fail
      refine (ho0.out _).mono ?_
      rintro e w3 ⟨rfl, hb3⟩
      have hW3 : Hid (Below w.heap.size w w3) := Below.on hW2.out hb3
      clear hb3 xl x0 x1 x2 x3 x4 x5 x6
      go_wp2
      go_ret
      exact ⟨ret_strB hy.out.symm, hW3.out⟩
    · have hy : Hid (R = XX ++ BM ++ BO) := (by show _ = _; rw [HT.out, HY.out]; rfl)
      go_wp2_with fail
      refine (hm0.out _).mono ?_
      rintro e w3 ⟨rfl, hb3⟩
      have hW3 : Hid (Below w.heap.size w w3) := Below.on hW2.out hb3
      have hX3 : Hid (Box7 w3 w.heap.size (.int .i64 u) (.int .i64 g) (.int .i64 o) (.slice au lu cu) (.slice ag lg cg) (.bool true) (.int .i64 m)) := hX2.out.below hb3
      clear hb3 xl x0 x1 x2 x3 x4 x5 x6
      obtain ⟨xl, x0, x1, x2, x3, x4, x5, x6⟩ := hX3.out
      go_wp2_with fail
      refine (ho0.out _).mono ?_
      rintro e w4 ⟨rfl, hb4⟩
      have hW4 : Hid (Below w.heap.size w w4) := Below.on hW3.out hb4
      clear hb4 xl x0 x1 x2 x3 x4 x5 x6
      go_wp2
      go_ret
      exact ⟨ret_strB hy.out.symm, hW4.out⟩
end Go.Proofs.YtgooanaacebncaaGreatDoor
