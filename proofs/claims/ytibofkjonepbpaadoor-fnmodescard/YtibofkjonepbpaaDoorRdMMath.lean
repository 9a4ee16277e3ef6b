/- Nine signs read back: which mode they are. Nothing here names a program. -/
import Derived.Test.YtibofkjonepbpaaDoorRdMath
import Derived.Test.YtibofkjonepbpaaDoorModeMath
namespace Go.Proofs.YtibofkjonepbpaaDoor
open Go.RowKit Go.PlainAid
set_option linter.unusedVariables false
/-- The three signs with the last one put back. -/
def fixT (t : ByteArray) (lo hi : UInt8) : ByteArray := if bt t 2 = (lo.toNat : Int) then t.extract 0 2 ++ ⟨#[120]⟩ else if bt t 2 = (hi.toNat : Int) then t.extract 0 2 ++ ⟨#[45]⟩ else t
def isX (t : ByteArray) (lo hi : UInt8) : Bool := decide (bt t 2 = (lo.toNat : Int)) || decide (bt t 2 = (hi.toNat : Int))
def bl (b : Bool) (n : Nat) : Nat := if b then n else 0
/-- The mode whose nine signs a text is. -/
def rdM (s : ByteArray) : Option Nat :=
  if s.size = 9 then
    match rdB (fixT (s.extract 0 3) 115 83), rdB (fixT (s.extract 3 6) 115 83), rdB (fixT (s.extract 6 9) 116 84) with
    | some u, some g, some o => some (64 * u + 8 * g + o + bl (isX (s.extract 0 3) 115 83) 2048 + bl (isX (s.extract 3 6) 115 83) 1024 + bl (isX (s.extract 6 9) 116 84) 512)
    | _, _, _ => none
  else none
theorem list9 {α : Type} {l : List α} (h : l.length = 9) : ∃ a b c d e f g i j, l = [a, b, c, d, e, f, g, i, j] := by
  match l, h with
  | [a, b, c, d, e, f, g, i, j], _ => exact ⟨a, b, c, d, e, f, g, i, j, rfl⟩
theorem three_of {s : ByteArray} (h : s.size = 3) : ∃ a b c : UInt8, s = ⟨#[a, b, c]⟩ := by
  obtain ⟨⟨l⟩⟩ := s
  have hl : l.length = 3 := h
  match l, hl with
  | [a, b, c], _ => exact ⟨a, b, c, rfl⟩
theorem nine {s : ByteArray} (h : s.size = 9) : ∃ a b c d e f g i j : UInt8, s = ⟨#[a, b, c, d, e, f, g, i, j]⟩ := by
  obtain ⟨⟨l⟩⟩ := s
  obtain ⟨a, b, c, d, e, f, g, i, j, rfl⟩ := list9 (l := l) h
  exact ⟨a, b, c, d, e, f, g, i, j, rfl⟩
theorem thr_part (m : Nat) (hm : m ≤ 7) (st : Bool) : rdB (fixT (thr m st 115 83) 115 83) = some m ∧ isX (thr m st 115 83) 115 83 = st ∧ rdB (fixT (thr m st 116 84) 116 84) = some m ∧ isX (thr m st 116 84) 116 84 = st := by
  rcases eight hm with rfl | rfl | rfl | rfl | rfl | rfl | rfl | rfl <;> cases st <;> decide
theorem bt3 (a b c : UInt8) : bt ⟨#[a, b, c]⟩ 0 = (a.toNat : Int) ∧ bt ⟨#[a, b, c]⟩ 1 = (b.toNat : Int) ∧ bt ⟨#[a, b, c]⟩ 2 = (c.toNat : Int) := ⟨rfl, rfl, rfl⟩
theorem three_eq {a b c x y z : UInt8} (h : (⟨#[a, b, c]⟩ : ByteArray) = ⟨#[x, y, z]⟩) : a = x ∧ b = y ∧ c = z := by
  have := congrArg (fun s : ByteArray => s.data.toList) h
  simpa using this
theorem part_inv {a b c lo hi : UInt8} {m : Nat} (h1 : lo ≠ 120 ∧ lo ≠ 45) (h2 : hi ≠ 120 ∧ hi ≠ 45) (h : rdB (fixT ⟨#[a, b, c]⟩ lo hi) = some m) : m ≤ 7 ∧ (⟨#[a, b, c]⟩ : ByteArray) = thr m (isX ⟨#[a, b, c]⟩ lo hi) lo hi := by
  obtain ⟨hm, ht⟩ := rdB_inv h
  refine ⟨hm, ?_⟩
  unfold fixT at ht
  have e2 := (bt3 a b c).2.2
  by_cases hl : c = lo
  · subst hl
    rw [if_pos e2] at ht
    have ht' : bitsT m = ⟨#[a, b, 120]⟩ := ht
    obtain ⟨q0, q1, q2⟩ := three_eq ht'
    have hb : b1 m = true := by
      cases hb : b1 m
      · rw [hb] at q2; exact absurd q2 (by decide)
      · rfl
    have hx : isX ⟨#[a, b, c]⟩ c hi = true := by simp [isX, e2]
    rw [hx, ← q0, ← q1]
    simp [thr, third, hb]
  · have n1 : ¬ bt (⟨#[a, b, c]⟩ : ByteArray) 2 = (lo.toNat : Int) := by
      rw [e2]
      intro e
      exact hl (UInt8.toNat_inj.1 (by omega))
    rw [if_neg n1] at ht
    by_cases hh : c = hi
    · subst hh
      rw [if_pos e2] at ht
      have ht' : bitsT m = ⟨#[a, b, 45]⟩ := ht
      obtain ⟨q0, q1, q2⟩ := three_eq ht'
      have hb : b1 m = false := by
        cases hb : b1 m
        · rfl
        · rw [hb] at q2; exact absurd q2 (by decide)
      have hx : isX ⟨#[a, b, c]⟩ lo c = true := by simp [isX, e2]
      rw [hx, ← q0, ← q1]
      simp [thr, third, hb]
    · have n2 : ¬ bt (⟨#[a, b, c]⟩ : ByteArray) 2 = (hi.toNat : Int) := by
        rw [e2]
        intro e
        exact hh (UInt8.toNat_inj.1 (by omega))
      rw [if_neg n2] at ht
      have hx : isX ⟨#[a, b, c]⟩ lo hi = false := by simp [isX, n1, n2]
      rw [hx, ← ht]
      rfl
theorem m_parts {u g o : Nat} {x y z : Bool} (hu : u ≤ 7) (hg : g ≤ 7) (ho : o ≤ 7) : (64 * u + 8 * g + o + bl x 2048 + bl y 1024 + bl z 512 ≤ 4095) ∧ modeT (64 * u + 8 * g + o + bl x 2048 + bl y 1024 + bl z 512) = thr u x 115 83 ++ thr g y 115 83 ++ thr o z 116 84 := by
  have hx : bl x 2048 = 2048 ∧ x = true ∨ bl x 2048 = 0 ∧ x = false := by cases x <;> simp [bl]
  have hy : bl y 1024 = 1024 ∧ y = true ∨ bl y 1024 = 0 ∧ y = false := by cases y <;> simp [bl]
  have hz : bl z 512 = 512 ∧ z = true ∨ bl z 512 = 0 ∧ z = false := by cases z <;> simp [bl]
  refine ⟨by omega, ?_⟩
  generalize hn : 64 * u + 8 * g + o + bl x 2048 + bl y 1024 + bl z 512 = n
  have e1 : n / 64 % 8 = u := by omega
  have e2 : n / 8 % 8 = g := by omega
  have e3 : n % 8 = o := by omega
  have e4 : s1 n = x := by
    unfold s1
    rcases hx with ⟨h, rfl⟩ | ⟨h, rfl⟩
    · simp; omega
    · simp; omega
  have e5 : s2 n = y := by
    unfold s2
    rcases hy with ⟨h, rfl⟩ | ⟨h, rfl⟩
    · simp; omega
    · simp; omega
  have e6 : s3 n = z := by
    unfold s3
    rcases hz with ⟨h, rfl⟩ | ⟨h, rfl⟩
    · simp; omega
    · simp; omega
  unfold modeT m1 m2 m3
  rw [e1, e2, e3, e4, e5, e6]
theorem ext_parts (A B C : ByteArray) (a : A.size = 3) (b : B.size = 3) (c : C.size = 3) : (A ++ B ++ C).size = 9 ∧ (A ++ B ++ C).extract 0 3 = A ∧ (A ++ B ++ C).extract 3 6 = B ∧ (A ++ B ++ C).extract 6 9 = C := by
  obtain ⟨a0, a1, a2, rfl⟩ := three_of a
  obtain ⟨b0, b1, b2, rfl⟩ := three_of b
  obtain ⟨c0, c1, c2, rfl⟩ := three_of c
  exact ⟨rfl, rfl, rfl, rfl⟩
/-- A mode comes back from its signs. -/
theorem rdM_modeT {n : Nat} (h : n ≤ 4095) : rdM (modeT n) = some n := by
  obtain ⟨z, x1, x2, x3⟩ := ext_parts (m1 n) (m2 n) (m3 n) rfl rfl rfl
  unfold rdM
  rw [show modeT n = m1 n ++ m2 n ++ m3 n from rfl, if_pos z, x1, x2, x3]
  have p1 := thr_part (n / 64 % 8) (by omega) (s1 n)
  have p2 := thr_part (n / 8 % 8) (by omega) (s2 n)
  have p3 := thr_part (n % 8) (by omega) (s3 n)
  rw [show m1 n = thr (n / 64 % 8) (s1 n) 115 83 from rfl, show m2 n = thr (n / 8 % 8) (s2 n) 115 83 from rfl, show m3 n = thr (n % 8) (s3 n) 116 84 from rfl, p1.1, p1.2.1, p2.1, p2.2.1, p3.2.2.1, p3.2.2.2]
  simp only [Option.some.injEq]
  have hx : bl (s1 n) 2048 = 2048 * (n / 2048) := by
    unfold s1 bl
    rcases (by omega : n / 2048 = 0 ∨ n / 2048 = 1) with e | e <;> rw [e] <;> rfl
  have hy : bl (s2 n) 1024 = 1024 * (n / 1024 % 2) := by
    unfold s2 bl
    rcases Nat.mod_two_eq_zero_or_one (n / 1024) with e | e <;> rw [e] <;> rfl
  have hz : bl (s3 n) 512 = 512 * (n / 512 % 2) := by
    unfold s3 bl
    rcases Nat.mod_two_eq_zero_or_one (n / 512) with e | e <;> rw [e] <;> rfl
  omega
theorem rdM_inv {s : ByteArray} {n : Nat} (h : rdM s = some n) : n ≤ 4095 ∧ modeT n = s := by
  unfold rdM at h
  split at h
  · rename_i h9
    obtain ⟨a, b, c, d, e, f, g, i, j, rfl⟩ := nine h9
    have x1 : (⟨#[a, b, c, d, e, f, g, i, j]⟩ : ByteArray).extract 0 3 = ⟨#[a, b, c]⟩ := rfl
    have x2 : (⟨#[a, b, c, d, e, f, g, i, j]⟩ : ByteArray).extract 3 6 = ⟨#[d, e, f]⟩ := rfl
    have x3 : (⟨#[a, b, c, d, e, f, g, i, j]⟩ : ByteArray).extract 6 9 = ⟨#[g, i, j]⟩ := rfl
    rw [x1, x2, x3] at h
    split at h
    · rename_i u v o r1 r2 r3
      obtain ⟨hu, eu⟩ := part_inv (by decide) (by decide) r1
      obtain ⟨hv, ev⟩ := part_inv (by decide) (by decide) r2
      obtain ⟨ho, eo⟩ := part_inv (by decide) (by decide) r3
      obtain ⟨hn, hm⟩ := m_parts (x := isX ⟨#[a, b, c]⟩ 115 83) (y := isX ⟨#[d, e, f]⟩ 115 83) (z := isX ⟨#[g, i, j]⟩ 116 84) hu hv ho
      rw [← eu, ← ev, ← eo] at hm
      have hs := Option.some.inj h
      rw [hs] at hn hm
      exact ⟨hn, hm⟩
    · cases h
  · cases h
theorem rdM_size {s : ByteArray} (h : s.size ≠ 9) : rdM s = none := by unfold rdM; rw [if_neg h]
end Go.Proofs.YtibofkjonepbpaaDoor
