/- A range over a text, sign by sign: a byte below 128 is its own rune; another byte's rune is none of these. Nothing here names a program. -/
import Derived.WalkKit
import Derived.PlainAid
import Derived.Laws.RangeAny
namespace Go.Proofs.YtlngfaplimpilabDoor
open Go.RowKit Go.PlainAid
set_option linter.unusedVariables false
theorem bt_at {s : ByteArray} {k : Nat} (hk : k < s.size) : bt s k = ((s[k]'hk).toNat : Int) := by unfold bt; rw [dif_pos hk]
theorem run_sign (P : Program) (w : World) (s : ByteArray) (k : Nat) (c : Nat) (hk : k < s.size) (hb : bt s k = (c : Int)) (hc : c < 128) (ty : TypeId) :
    (Instr.next (.pointer (some ⟨w.heap.size, 0, none⟩)) true ty).run P (w.iter s k) = .ok (.tuple #[.bool true, .int .i64 k, .int .i32 c]) (w.iter s (k + 1)) := by
  rw [bt_at hk] at hb
  have e : (s[k]'hk).toNat = c := by omega
  have h := run_next_ascii (P := P) w s k ty hk (by omega)
  rw [e] at h
  exact h
theorem run_other (P : Program) (w : World) (s : ByteArray) (k : Nat) (hk : k < s.size) :
    ∃ (r p : Nat), (∀ c : Nat, c < 128 → bt s k ≠ (c : Int) → ((r : Int) == (c : Int)) = false) ∧ (bt s k < 128 → (r : Int) = bt s k) ∧ (128 ≤ bt s k → 128 ≤ (r : Int)) ∧ ∀ ty, (Instr.next (.pointer (some ⟨w.heap.size, 0, none⟩)) true ty).run P (w.iter s k) = .ok (.tuple #[.bool true, .int .i64 k, .int .i32 r]) (w.iter s p) := by
  refine ⟨(Utf8.decode s k).1, k + (Utf8.decode s k).2, ?_, ?_, ?_, fun ty => run_next_any w s k ty hk⟩
  · intro c hc hne
    rw [bt_at hk] at hne
    rw [beq_eq_false_iff_ne]
    by_cases ha : (s[k]'hk).toNat < 128
    · rw [decode_ascii s k hk ha]
      exact hne
    · have := (decode_high s k hk (by omega)).1
      omega
  · intro ha
    rw [bt_at hk] at ha ⊢
    rw [decode_ascii s k hk (by omega)]
  · intro ha
    rw [bt_at hk] at ha
    have := (decode_high s k hk (by omega)).1
    omega
theorem iter_below (w : World) (s : ByteArray) (k : Nat) : Below w.heap.size w (w.iter s k) := (Below.refl _ _).alloc (Nat.le_refl _) _
theorem run_signs_end (P : Program) (w : World) (s : ByteArray) (k : Nat) (hk : ¬ k < s.size) (ty : TypeId) :
    (Instr.next (.pointer (some ⟨w.heap.size, 0, none⟩)) true ty).run P (w.iter s k) = .ok (.tuple #[.bool false]) (w.iter s k) := run_next_end w s k ty hk
end Go.Proofs.YtlngfaplimpilabDoor
