/- A list in order as bytes: what it comes to, and that it, and none other, is read back. Nothing here names a program. -/
import Derived.Test.YtddkmlkfphmdoabScanM
import Derived.Test.YtddkmlkfphmdoabAceMath
namespace Go.Proofs.Ytddkmlkfphmdoab
open Go.RowKit Go.PlainAid
set_option linter.unusedVariables false
def alN (x : Ac) : Int := if x.al then 1 else 0
/-- The bytes of an ace, of some, of a list. -/
def aceBs (x : Ac) : List UInt8 := encI (alN x) ++ (encI x.wh ++ (encI x.id ++ (encI x.fl ++ encI x.ma)))
def acesBs (l : List Ac) : List UInt8 := l.flatMap aceBs
def nbB (l : List Ac) : List UInt8 := encI (l.length : Int) ++ acesBs l
theorem encI_len {n : Int} (h1 : -9223372036854775808 ≤ n) (h2 : n ≤ 9223372036854775807) : (encI n).length ≤ 10 := enc_ten (fold_le h1 h2)
theorem aceBs_len {x : Ac} (h : aceB x = true) : (aceBs x).length ≤ 50 := by
  obtain ⟨h1, h2, _, h4, h5⟩ := aceB_iff.1 h
  have a0 : (encI (alN x)).length ≤ 10 := encI_len (by unfold alN; split <;> omega) (by unfold alN; split <;> omega)
  have a1 := encI_len (n := x.wh) (by omega) (by omega)
  have a2 := encI_len (n := x.id) (by omega) (by omega)
  have a3 := encI_len (n := x.fl) (by omega) (by omega)
  have a4 := encI_len (n := x.ma) (by omega) (by omega)
  simp only [aceBs, List.length_append]
  omega
theorem acesBs_app (l k : List Ac) : acesBs (l ++ k) = acesBs l ++ acesBs k := by simp [acesBs]
theorem acesBs_one (x : Ac) : acesBs [x] = aceBs x := by simp [acesBs]
theorem acesBs_cons (x : Ac) (l : List Ac) : acesBs (x :: l) = aceBs x ++ acesBs l := rfl
theorem acesBs_len (l : List Ac) (h : ∀ x ∈ l, aceB x = true) : (acesBs l).length ≤ 50 * l.length := by
  induction l with
  | nil => simp [acesBs]
  | cons x l ih =>
    have h1 := aceBs_len (h x (by simp))
    have h2 := ih (fun y hy => h y (by simp [hy]))
    rw [acesBs_cons, List.length_append, List.length_cons]
    omega
theorem nbB_len {l : List Ac} (h : acesB l = true) : (nbB l).length ≤ 1700 := by
  have h1 := acesBs_len l (fun x hx => aces_mem h hx)
  have h2 := aces_len h
  have h3 := encI_len (n := (l.length : Int)) (by omega) (by omega)
  simp only [nbB, List.length_append]
  omega
theorem at_app {s : ByteArray} {a : Nat} {l m : List UInt8} : At s a (l ++ m) ↔ At s a l ∧ At s (a + l.length) m := by
  constructor
  · rintro ⟨h1, h2⟩
    rw [List.length_append] at h1
    refine ⟨⟨by omega, fun k hk => ?_⟩, ⟨by omega, fun k hk => ?_⟩⟩
    · rw [h2 k (by rw [List.length_append]; omega), List.getElem_append_left hk]
    · rw [Nat.add_assoc, h2 (l.length + k) (by rw [List.length_append]; omega), List.getElem_append_right (by omega)]
      simp
  · rintro ⟨⟨h1, h2⟩, h3, h4⟩
    refine ⟨by rw [List.length_append]; omega, fun k hk => ?_⟩
    by_cases e : k < l.length
    · rw [h2 k e, List.getElem_append_left e]
    · rw [List.length_append] at hk
      have := h4 (k - l.length) (by omega)
      rw [show a + l.length + (k - l.length) = a + k by omega] at this
      rw [this, List.getElem_append_right (by omega)]
theorem at_all {s : ByteArray} {l : List UInt8} (h : At s 0 l) (hz : l.length = s.size) : s.data.toList = l := by
  have hl : s.data.toList.length = s.size := (Lib.size_eq s).symm
  apply List.ext_getElem
  · omega
  · intro i h1 h2
    have := h.2 i h2
    rw [Nat.zero_add] at this
    unfold byte at this
    rw [dif_pos (by omega)] at this
    have e : s.data.toList[i] = s[i]'(by omega) := by rw [Array.getElem_toList]; rfl
    rw [e]
    exact UInt8.toNat_inj.1 this
theorem at_self {s : ByteArray} {l : List UInt8} (h : s.data.toList = l) : At s 0 l := by
  have hl : s.data.toList.length = s.size := (Lib.size_eq s).symm
  subst h
  refine ⟨by omega, fun k hk => ?_⟩
  rw [Nat.zero_add]
  unfold byte
  rw [dif_pos (by omega)]
  have e : s.data.toList[k] = s[k]'(by omega) := by rw [Array.getElem_toList]; rfl
  rw [e]
/-- A number read at a place, and the place behind it. -/
def rd1 (s : ByteArray) (a : Nat) : Option (Int × Nat) := if (scan s a 10 0 0).2.2 = 0 then some ((scan s a 10 0 0).1, (scan s a 10 0 0).2.1.toNat) else none
theorem rd1_yes {s : ByteArray} {a : Nat} {n : Int} (h1 : -9223372036854775808 ≤ n) (h2 : n ≤ 9223372036854775807) (hat : At s a (encI n)) : rd1 s a = some (n, a + (encI n).length) := by
  unfold rd1
  rw [scan_yes h1 h2 hat]
  simp
  omega
theorem rd1_of {s : ByteArray} {a p : Nat} {n : Int} (h : rd1 s a = some (n, p)) : At s a (encI n) ∧ p = a + (encI n).length := by
  unfold rd1 at h
  split at h
  · rename_i hc
    simp only [Option.some.injEq, Prod.mk.injEq] at h
    obtain ⟨h1, h2, h3, h4⟩ := scan_of (s := s) (a := a) (n := (scan s a 10 0 0).1) (p := (scan s a 10 0 0).2.1) (c := (scan s a 10 0 0).2.2) rfl hc
    rw [h.1] at h1 h2
    rw [h2] at h
    refine ⟨h1, ?_⟩
    have := h.2
    omega
  · cases h
/-- An ace read. -/
def rdAc (s : ByteArray) (a : Nat) : Option (Ac × Nat) := match rd1 s a with
  | none => none
  | some (n0, p0) => match rd1 s p0 with
    | none => none
    | some (n1, p1) => match rd1 s p1 with
      | none => none
      | some (n2, p2) => match rd1 s p2 with
        | none => none
        | some (n3, p3) => match rd1 s p3 with
          | none => none
          | some (n4, p4) => if (n0 = 0 ∨ n0 = 1) ∧ aceB ⟨n0 == 1, n1, n2, n3, n4⟩ = true then some (⟨n0 == 1, n1, n2, n3, n4⟩, p4) else none
theorem rdAc_yes {s : ByteArray} {a : Nat} {x : Ac} (h : aceB x = true) (hat : At s a (aceBs x)) : rdAc s a = some (x, a + (aceBs x).length) := by
  obtain ⟨h1, h2, _, h4, h5⟩ := aceB_iff.1 h
  unfold aceBs at hat
  rw [at_app] at hat
  obtain ⟨t0, hat⟩ := hat
  rw [at_app] at hat
  obtain ⟨t1, hat⟩ := hat
  rw [at_app] at hat
  obtain ⟨t2, hat⟩ := hat
  rw [at_app] at hat
  obtain ⟨t3, t4⟩ := hat
  have r0 := rd1_yes (n := alN x) (by unfold alN; split <;> omega) (by unfold alN; split <;> omega) t0
  have r1 := rd1_yes (n := x.wh) (by omega) (by omega) t1
  have r2 := rd1_yes (n := x.id) (by omega) (by omega) t2
  have r3 := rd1_yes (n := x.fl) (by omega) (by omega) t3
  have r4 := rd1_yes (n := x.ma) (by omega) (by omega) t4
  have e0 : (alN x == 1) = x.al := by unfold alN; cases x.al <;> rfl
  have e1 : alN x = 0 ∨ alN x = 1 := by unfold alN; cases x.al <;> simp
  unfold rdAc
  simp only [r0, r1, r2, r3, r4, e0]
  rw [if_pos ⟨e1, h⟩]
  simp only [aceBs, List.length_append, Option.some.injEq, Prod.mk.injEq, true_and]
  omega
theorem rdAc_of {s : ByteArray} {a p : Nat} {x : Ac} (h : rdAc s a = some (x, p)) : aceB x = true ∧ At s a (aceBs x) ∧ p = a + (aceBs x).length := by
  unfold rdAc at h
  split at h
  · cases h
  · rename_i n0 p0 e0
    split at h
    · cases h
    · rename_i n1 p1 e1
      split at h
      · cases h
      · rename_i n2 p2 e2
        split at h
        · cases h
        · rename_i n3 p3 e3
          split at h
          · cases h
          · rename_i n4 p4 e4
            split at h
            · rename_i hc
              simp only [Option.some.injEq, Prod.mk.injEq] at h
              obtain ⟨rfl, rfl⟩ := h
              obtain ⟨t0, q0⟩ := rd1_of e0
              obtain ⟨t1, q1⟩ := rd1_of e1
              obtain ⟨t2, q2⟩ := rd1_of e2
              obtain ⟨t3, q3⟩ := rd1_of e3
              obtain ⟨t4, q4⟩ := rd1_of e4
              have en : alN ⟨n0 == 1, n1, n2, n3, n4⟩ = n0 := by
                rcases hc.1 with h0 | h0 <;> subst h0 <;> rfl
              refine ⟨hc.2, ?_, ?_⟩
              · unfold aceBs
                rw [en]
                subst q0 q1 q2 q3
                exact at_app.2 ⟨t0, at_app.2 ⟨t1, at_app.2 ⟨t2, at_app.2 ⟨t3, t4⟩⟩⟩⟩
              · simp only [aceBs, List.length_append, en]
                omega
            · cases h
/-- Some aces read, one behind the other. -/
def rdAcs (s : ByteArray) : Nat → Nat → Option (List Ac × Nat)
  | 0, a => some ([], a)
  | c + 1, a => match rdAc s a with
    | none => none
    | some (x, p) => match rdAcs s c p with
      | none => none
      | some (l, q) => some (x :: l, q)
theorem rdAcs_yes {s : ByteArray} : ∀ (l : List Ac) (a : Nat), (∀ x ∈ l, aceB x = true) → At s a (acesBs l) → rdAcs s l.length a = some (l, a + (acesBs l).length) := by
  intro l
  induction l with
  | nil => intro a _ _; rfl
  | cons x l ih =>
    intro a h hat
    rw [acesBs_cons, at_app] at hat
    have e1 := rdAc_yes (h x (by simp)) hat.1
    have e2 := ih _ (fun y hy => h y (by simp [hy])) hat.2
    rw [List.length_cons, rdAcs, e1]
    simp only [e2, acesBs_cons, List.length_append, Option.some.injEq, Prod.mk.injEq, true_and]
    omega
theorem rdAcs_of {s : ByteArray} : ∀ (c a : Nat) (l : List Ac) (p : Nat), a ≤ s.size → rdAcs s c a = some (l, p) → l.length = c ∧ (∀ x ∈ l, aceB x = true) ∧ At s a (acesBs l) ∧ p = a + (acesBs l).length := by
  intro c
  induction c with
  | zero =>
    intro a l p ha h
    simp only [rdAcs, Option.some.injEq, Prod.mk.injEq] at h
    obtain ⟨rfl, rfl⟩ := h
    exact ⟨rfl, by simp, at_nil ha, by simp [acesBs]⟩
  | succ c ih =>
    intro a l p ha h
    rw [rdAcs] at h
    split at h
    · cases h
    · rename_i x q e
      split at h
      · cases h
      · rename_i l' p' e'
        simp only [Option.some.injEq, Prod.mk.injEq] at h
        obtain ⟨rfl, rfl⟩ := h
        obtain ⟨h1, h2, h3⟩ := rdAc_of e
        obtain ⟨g1, g2, g3, g4⟩ := ih q l' p' (by have := h2.1; omega) e'
        refine ⟨by simp [g1], fun y hy => ?_, ?_, ?_⟩
        · rcases List.mem_cons.1 hy with rfl | hy
          · exact h1
          · exact g2 y hy
        · rw [acesBs_cons, at_app]
          subst h3
          exact ⟨h2, g3⟩
        · rw [acesBs_cons, List.length_append]
          omega
/-- A list read of a whole text. -/
def rdNb (s : ByteArray) : Option (List Ac) := match rd1 s 0 with
  | none => none
  | some (c, p) => if c < 0 ∨ 32 < c then none else match rdAcs s c.toNat p with
    | none => none
    | some (l, q) => if q = s.size then some l else none
theorem allA_mem {l : List Ac} (h : ∀ x ∈ l, aceB x = true) : ∀ k, k ≤ l.length → allA l k = true := by
  intro k
  induction k with
  | zero => intro _; rfl
  | succ k ih =>
    intro hk
    refine allA_next (ih (by omega)) ?_
    rw [acAt_get (by omega)]
    exact h _ (List.getElem_mem _)
theorem rdNb_iff (s : ByteArray) (l : List Ac) : rdNb s = some l ↔ acesB l = true ∧ s.data.toList = nbB l := by
  constructor
  · intro h
    unfold rdNb at h
    split at h
    · cases h
    · rename_i c p e
      split at h
      · cases h
      · rename_i hc
        split at h
        · cases h
        · rename_i l' q e'
          split at h
          · rename_i hq
            simp only [Option.some.injEq] at h
            subst h
            obtain ⟨t0, q0⟩ := rd1_of e
            obtain ⟨g1, g2, g3, g4⟩ := rdAcs_of _ _ _ _ (by have := t0.1; omega) e'
            have ec : (l'.length : Int) = c := by omega
            refine ⟨aces_yes (by omega) (allA_mem g2 _ (Nat.le_refl _)), at_all ?_ ?_⟩
            · unfold nbB
              rw [at_app, ec]
              subst q0
              exact ⟨t0, g3⟩
            · simp only [nbB, List.length_append, ec]
              omega
          · cases h
  · rintro ⟨h1, h2⟩
    have hat := at_self h2
    have hz : s.size = (nbB l).length := by rw [Lib.size_eq, h2]
    unfold nbB at hat hz
    rw [at_app] at hat
    have hl := aces_len h1
    have r0 := rd1_yes (n := (l.length : Int)) (by omega) (by omega) hat.1
    have r1 := rdAcs_yes l _ (fun x hx => aces_mem h1 hx) hat.2
    unfold rdNb
    rw [r0]
    simp only [Int.toNat_natCast]
    rw [if_neg (by omega), r1]
    simp only
    rw [if_pos (by rw [hz, List.length_append]; omega)]
/-- The reader of the specification: the place, and whether something was wrong. -/
def rs1 (s : ByteArray) (σ : Nat × Bool) : Int × (Nat × Bool) := if σ.2 = true ∨ (scan s σ.1 10 0 0).2.2 ≠ 0 then (0, (σ.1, true)) else ((scan s σ.1 10 0 0).1, ((scan s σ.1 10 0 0).2.1.toNat, false))
theorem rs1_yes {s : ByteArray} {a : Nat} {n : Int} (h1 : -9223372036854775808 ≤ n) (h2 : n ≤ 9223372036854775807) (hat : At s a (encI n)) : rs1 s (a, false) = (n, (a + (encI n).length, false)) := by
  unfold rs1
  simp only []
  rw [scan_yes h1 h2 hat]
  rw [if_neg (by simp)]
  simp
  omega
def rsAc (s : ByteArray) (σ : Nat × Bool) : Ac × (Nat × Bool) :=
  (⟨(rs1 s σ).1 == 1, (rs1 s (rs1 s σ).2).1, (rs1 s (rs1 s (rs1 s σ).2).2).1, (rs1 s (rs1 s (rs1 s (rs1 s σ).2).2).2).1, (rs1 s (rs1 s (rs1 s (rs1 s (rs1 s σ).2).2).2).2).1⟩, (rs1 s (rs1 s (rs1 s (rs1 s (rs1 s σ).2).2).2).2).2)
theorem rsAc_yes {s : ByteArray} {a : Nat} {x : Ac} (h : aceB x = true) (hat : At s a (aceBs x)) : rsAc s (a, false) = (x, (a + (aceBs x).length, false)) := by
  obtain ⟨h1, h2, _, h4, h5⟩ := aceB_iff.1 h
  unfold aceBs at hat
  rw [at_app] at hat
  obtain ⟨t0, hat⟩ := hat
  rw [at_app] at hat
  obtain ⟨t1, hat⟩ := hat
  rw [at_app] at hat
  obtain ⟨t2, hat⟩ := hat
  rw [at_app] at hat
  obtain ⟨t3, t4⟩ := hat
  have r0 := rs1_yes (n := alN x) (by unfold alN; split <;> omega) (by unfold alN; split <;> omega) t0
  have r1 := rs1_yes (n := x.wh) (by omega) (by omega) t1
  have r2 := rs1_yes (n := x.id) (by omega) (by omega) t2
  have r3 := rs1_yes (n := x.fl) (by omega) (by omega) t3
  have r4 := rs1_yes (n := x.ma) (by omega) (by omega) t4
  have e0 : (alN x == 1) = x.al := by unfold alN; cases x.al <;> rfl
  unfold rsAc
  simp only [r0, r1, r2, r3, r4, e0]
  simp only [aceBs, List.length_append, Prod.mk.injEq, true_and, and_true]
  omega
/-- The aces that it has read behind k rounds, and where it stands. -/
def rsK (s : ByteArray) (σ : Nat × Bool) : Nat → List Ac × (Nat × Bool)
  | 0 => ([], σ)
  | k + 1 => ((rsK s σ k).1 ++ [(rsAc s (rsK s σ k).2).1], (rsAc s (rsK s σ k).2).2)
theorem rsK_len (s : ByteArray) (σ : Nat × Bool) (k : Nat) : (rsK s σ k).1.length = k := by
  induction k with
  | zero => rfl
  | succ k ih => simp [rsK, ih]
theorem rsK_yes {s : ByteArray} {l : List Ac} {a : Nat} (h : ∀ x ∈ l, aceB x = true) (hat : At s a (acesBs l)) : ∀ k, k ≤ l.length → rsK s (a, false) k = (l.take k, (a + (acesBs (l.take k)).length, false)) := by
  intro k
  induction k with
  | zero => intro _; simp [rsK, acesBs]
  | succ k ih =>
    intro hk
    have hlt : k < l.length := by omega
    have e := ih (by omega)
    have hs : l = l.take k ++ (l[k] :: l.drop (k + 1)) := by
      rw [List.getElem_cons_drop]
      exact (List.take_append_drop k l).symm
    have hat2 : At s (a + (acesBs (l.take k)).length) (aceBs l[k]) := by
      rw [hs, acesBs_app, at_app, acesBs_cons, at_app] at hat
      have := hat.2.1
      simpa using this
    have r := rsAc_yes (h _ (List.getElem_mem hlt)) hat2
    rw [rsK, e]
    simp only [r]
    rw [← List.take_append_getElem hlt, acesBs_app, acesBs_one, List.length_append, Nat.add_assoc]
/-- Of the bytes of a right list. -/
theorem rs_all {s : ByteArray} {l : List Ac} (h1 : acesB l = true) (h2 : s.data.toList = nbB l) : (rs1 s (0, false)).1 = (l.length : Int) ∧ ∀ k, k ≤ l.length → (rsK s (rs1 s (0, false)).2 k).1 = l.take k ∧ (rsK s (rs1 s (0, false)).2 k).2.2 = false := by
  have hat := at_self h2
  unfold nbB at hat
  rw [at_app] at hat
  have hl := aces_len h1
  have r0 := rs1_yes (n := (l.length : Int)) (by omega) (by omega) hat.1
  refine ⟨by rw [r0], fun k hk => ?_⟩
  rw [r0]
  simp only
  rw [rsK_yes (fun x hx => aces_mem h1 hx) hat.2 k hk]
  exact ⟨rfl, rfl⟩
end Go.Proofs.Ytddkmlkfphmdoab
