/- Laid together: NfsRdM. -/
import Derived.Test.YtgooanaacebncaaDoorRC20
import Derived.Test.YtgooanaacebncaaDoorRC21
/- A list in order read: what the two sides read of a text. -/
namespace Go.Proofs.YtgooanaacebncaaDoor
open Go.RowKit Go.PlainAid
set_option linter.unusedVariables false
theorem noComma4 : ∀ s, s < 16 → (44 : UInt8) ∉ sgTo s fdni.data.toList 4 := by decide +kernel
theorem noComma8 : ∀ s, s < 256 → (44 : UInt8) ∉ sgTo s rwxs.data.toList 8 := by decide +kernel
theorem noCommaW (wh id : Nat) : (44 : UInt8) ∉ (whoT wh id).data.toList := by
  rw [whoT_l]
  have hn : (44 : UInt8) ∉ Lib.decDigits id := dec_no (by decide)
  split
  · decide
  split
  · decide
  split
  · decide
  split
  · simpa using hn
  · simpa using hn
theorem noComma {x : Ac} (h : aceB x = true) : (44 : UInt8) ∉ (aceT x).data.toList := by
  obtain ⟨_, _, _, ⟨⟨f0, f15⟩, _⟩, m1, m255⟩ := aceB_iff.1 h
  rw [aceT_l h]
  have h1 := noComma4 x.fl.toNat (by omega)
  have h2 := noComma8 x.ma.toNat (by omega)
  have h3 := noCommaW x.wh.toNat x.id.toNat
  have h4 : (44 : UInt8) ∉ (if x.al then [65] else [68] : List UInt8) := by cases x.al <;> decide
  simp only [unspl, List.mem_append, List.mem_cons, not_or]
  exact ⟨h4, by decide, h1, by decide, h3, by decide, h2⟩
/-- The pieces of joined texts. -/
theorem spl_jl (f : Nat → ByteArray) (m : Nat) (hf : ∀ i, i < m → (44 : UInt8) ∉ (f i).data.toList) : ∀ n, n + 1 ≤ m → spl 44 (jl f (n + 1)) = (List.range (n + 1)).map fun i => (f i).data.toList := by
  intro n
  induction n with
  | zero =>
    intro hm
    have e : jl f 1 = (f 0).data.toList := by simp [jl]
    rw [e, spl_none (hf 0 (by omega))]
    rfl
  | succ n ih =>
    intro hm
    have e : jl f (n + 2) = jl f (n + 1) ++ 44 :: (f (n + 1)).data.toList := by
      rw [jl]
      simp
    rw [e, spl_last (hf (n + 1) (by omega)), ih (by omega), List.range_succ (n := n + 1)]
    simp
theorem jl_unspl (f : Nat → ByteArray) : ∀ (n : Nat) (ps : List (List UInt8)), ps.length = n → (∀ k (h : k < ps.length), (f k).data.toList = ps[k]) → jl f n = unspl 44 ps := by
  intro n
  induction n with
  | zero =>
    intro ps hl _
    rw [List.eq_nil_of_length_eq_zero hl]
    rfl
  | succ n ih =>
    intro ps hl h
    have hne : ps ≠ [] := fun e => by rw [e] at hl; simp at hl
    obtain ⟨qs, x, rfl⟩ : ∃ qs x, ps = qs ++ [x] := ⟨ps.dropLast, ps.getLast hne, (List.dropLast_concat_getLast hne).symm⟩
    have hq : qs.length = n := by simp at hl; omega
    have e1 := ih qs hq (fun k hk => by
      have := h k (by simp; omega)
      rwa [List.getElem_append_left hk] at this)
    have e2 : (f n).data.toList = x := by
      have := h n (by simp; omega)
      rw [this]
      simp [hq]
    have e3 : ∀ (qs : List (List UInt8)), unspl 44 (qs ++ [x]) = unspl 44 qs ++ (if qs.length = 0 then [] else [44]) ++ x := by
      intro qs
      induction qs with
      | nil => simp [unspl]
      | cons y o ih2 =>
        cases o with
        | nil => simp [unspl]
        | cons y2 o => simpa [unspl] using ih2
    rw [jl, e1, e2, e3, hq]
/-- The aces of some pieces. -/
def xsOf (ps : List (List UInt8)) : List Ac := ps.map fun p => (aceI p).getD acZ
theorem xsOf_len (ps : List (List UInt8)) : (xsOf ps).length = ps.length := by simp [xsOf]
theorem xsOf_take (ps : List (List UInt8)) {k : Nat} {x : Ac} (h : k < ps.length) (hx : aceI ps[k] = some x) : xsOf (ps.take (k + 1)) = xsOf (ps.take k) ++ [x] := by
  unfold xsOf
  rw [← List.take_append_getElem h, List.map_append, List.map_singleton, hx]
  rfl
/-- What the program reads. -/
def nfsI (t : List UInt8) : Option (List Ac) := if t = [] then some [] else (if (∀ p ∈ spl 44 t, aceI p ≠ none) ∧ acesB (xsOf (spl 44 t)) = true then some (xsOf (spl 44 t)) else none)
/-- What the specification reads. -/
def nfsS (t : List UInt8) : List Ac := if t = [] then [] else ((spl 44 t).take 33).map aceS
theorem nfsT_l {l : List Ac} (h : acesB l = true) : (nfsT l).data.toList = jl (aceF l) l.length := by
  rw [nfsT, if_pos h]
  simp [jlT]
theorem range_at (l : List Ac) {b : Type} (g : Ac → b) : (List.range l.length).map (fun i => g (acAt l i)) = l.map g := by
  apply List.ext_getElem
  · simp
  · intro i h1 h2
    simp at h1
    simp [acAt_get h1]
theorem nfs_back {l : List Ac} (h : acesB l = true) : nfsI (nfsT l).data.toList = some l ∧ nfsS (nfsT l).data.toList = l := by
  rw [nfsT_l h]
  cases hl : l.length with
  | zero =>
    have : l = [] := List.eq_nil_of_length_eq_zero hl
    subst this
    exact ⟨rfl, rfl⟩
  | succ n =>
    have hb : ∀ i, i < l.length → aceB (acAt l i) = true := fun i hi => aces_at h hi
    have hs := spl_jl (aceF l) l.length (fun i hi => noComma (hb i hi)) n (by omega)
    have hp : (List.range (n + 1)).map (fun i => (aceF l i).data.toList) = l.map fun x => (aceT x).data.toList := by
      rw [← hl]
      exact range_at l fun x => (aceT x).data.toList
    rw [hp] at hs
    have hne : jl (aceF l) (n + 1) ≠ [] := by
      intro e
      rw [e] at hs
      have h1 := (ace_back (hb 0 (by omega))).2.2
      cases l with
      | nil => simp at hl
      | cons x r =>
        simp [spl, splS] at hs
        apply h1
        apply ByteArray.ext
        simpa [acAt] using hs.1
    have hx : xsOf (l.map fun x => (aceT x).data.toList) = l := by
      unfold xsOf
      rw [List.map_map]
      conv => rhs; rw [← List.map_id l]
      apply List.map_congr_left
      intro x hx
      simp [(ace_back (aces_mem h hx)).1]
    refine ⟨?_, ?_⟩
    · rw [nfsI, if_neg hne, hs, hx, if_pos]
      refine ⟨fun p hp => ?_, h⟩
      obtain ⟨x, hx, rfl⟩ := List.mem_map.1 hp
      rw [(ace_back (aces_mem h hx)).1]
      simp
    · rw [nfsS, if_neg hne, hs, List.take_of_length_le (by have := aces_len h; simp; omega), List.map_map]
      conv => rhs; rw [← List.map_id l]
      apply List.map_congr_left
      intro x hx
      exact (ace_back (aces_mem h hx)).2.1
theorem nfsI_some {t : List UInt8} {l : List Ac} (h : nfsI t = some l) : acesB l = true ∧ t = (nfsT l).data.toList := by
  unfold nfsI at h
  by_cases h0 : t = []
  · rw [if_pos h0] at h
    cases h
    exact ⟨rfl, by rw [h0]; rfl⟩
  · rw [if_neg h0] at h
    split at h
    next hc =>
      cases h
      refine ⟨hc.2, ?_⟩
      rw [nfsT_l hc.2, jl_unspl (aceF (xsOf (spl 44 t))) _ (spl 44 t) (xsOf_len _).symm, unspl_spl]
      intro k hk
      have h1 := hc.1 _ (List.getElem_mem hk)
      cases e : aceI (spl 44 t)[k] with
      | none => exact absurd e h1
      | some x =>
        have h2 := aceI_some e
        have h3 : acAt (xsOf (spl 44 t)) k = x := by
          rw [acAt_get (by rw [xsOf_len]; exact hk)]
          simp [xsOf, e]
        rw [aceF, h3, ← h2.2]
    · cases h
theorem nfs_key (t : List UInt8) : (∃ l, acesB l = true ∧ t = (nfsT l).data.toList ∧ nfsI t = some l ∧ nfsS t = l) ∨ (nfsI t = none ∧ nfsT (nfsS t) ≠ ⟨t.toArray⟩) := by
  cases h : nfsI t with
  | some l =>
    obtain ⟨h1, h2⟩ := nfsI_some h
    left
    refine ⟨l, h1, h2, rfl, ?_⟩
    rw [h2]
    exact (nfs_back h1).2
  | none =>
    right
    refine ⟨rfl, fun e => ?_⟩
    cases hb : acesB (nfsS t)
    · rw [nfsT, hb] at e
      have h0 : t = [] := by
        have := congrArg (fun x : ByteArray => x.data.toList) e
        simpa using this.symm
      rw [h0] at h
      cases h
    · have e2 : t = (nfsT (nfsS t)).data.toList := by rw [e]
      rw [e2, (nfs_back hb).1] at h
      cases h
/-- NfsRead. -/
def nfsO (t : List UInt8) : List Ac × Int := if 8000 < t.length then ([], 2) else match nfsI t with
  | some l => (l, 0)
  | none => ([], 3)
theorem nfsO_long {t : List UInt8} (h : 8000 < t.length) : nfsO t = ([], 2) := by rw [nfsO, if_pos h]
theorem nfsO_yes {t : List UInt8} {l : List Ac} (h : ¬ 8000 < t.length) (hx : nfsI t = some l) : nfsO t = (l, 0) := by rw [nfsO, if_neg h, hx]
theorem nfsO_no {t : List UInt8} (h : ¬ 8000 < t.length) (hx : nfsI t = none) : nfsO t = ([], 3) := by rw [nfsO, if_neg h, hx]
theorem nfsO_len (t : List UInt8) : (nfsO t).1.length ≤ 32 := by
  unfold nfsO
  split
  · simp
  · cases h : nfsI t with
    | some l => exact aces_len (nfsI_some h).1
    | none => simp
end Go.Proofs.YtgooanaacebncaaDoor
