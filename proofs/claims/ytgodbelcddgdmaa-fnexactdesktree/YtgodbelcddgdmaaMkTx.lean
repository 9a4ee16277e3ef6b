/- laws.markText. -/
import Derived.Test.YtgodbelcddgdmaaTreeM
import Derived.Test.YtgodbelcddgdmaaBytes
namespace Go.Proofs.Ytgodbelcddgdmaa
open Go.RowKit Go.PlainAid Go.Deep
set_option linter.unusedVariables false
theorem digit_textM (w : World) (d : Nat) (h : d ≤ 9) (z : Int) (hz : z = 48 + (d : Int)) :
    (convert 57 9 (.slice (some ⟨w.heap.size, 0, none⟩) 1 1)).run Try.prog (w.alloc (.cells #[.int .u8 z] 5)) = .ok (.string ⟨#[UInt8.ofNat (48 + d)]⟩) (w.alloc (.cells #[.int .u8 z] 5)) := by
  have e : ((UInt8.ofNat (48 + d)).toNat : Int) = z := by
    rw [UInt8.toNat_ofNat']
    omega
  have hb : (w.alloc (.cells #[.int .u8 z] 5)).heap[w.heap.size]? = some (.cells #[.int .u8 z] 5) := by
    rw [World.alloc]
    exact Array.getElem?_push_size
  rw [← e] at hb ⊢
  exact run_convert_text _ 57 5 9 Try.underlying57 Try.underlying5 Try.underlying9 _ 0 [UInt8.ofNat (48 + d)] 1 1 rfl (row_bytes (l := [UInt8.ofNat (48 + d)]) hb)
/-- The digits of a number ahead of a text. -/
def dgF : Nat → Nat → ByteArray → ByteArray
  | 0, _, p => p
  | f + 1, k, p => if k = 0 then p else dgF f (k / 10) (⟨#[UInt8.ofNat (48 + k % 10)]⟩ ++ p)
def mkT (k : Nat) : ByteArray := ⟨#[109]⟩ ++ dgF k k ⟨#[]⟩
theorem dgF_zero (f : Nat) (p : ByteArray) : dgF f 0 p = p := by cases f <;> simp [dgF]
set_option maxHeartbeats 4000000 in
theorem markText_any (k : Nat) (h0 : 0 < k) (h1 : k ≤ 1000000000) (w : World) :
    Calls Try.prog 29 #[.int .i64 k] w fun e w' => e = .returned (.string (mkT k)) ∧ Below w.heap.size w w' := by
  have HM : Hid (mkT k = ⟨#[109]⟩ ++ dgF k k ⟨#[]⟩) := rfl
  have h0' : ¬ ((k : Int) ≤ 0) := by omega
  go_enter Try.func29, Try.ntmps29
  go_wp2
  go_loopw [0, 3] (fun i v wr => ∃ (f j : Nat) (p : ByteArray), j ≤ f ∧ j ≤ 1000000000 ∧ p.size + f ≤ k ∧ i = .int .i64 j ∧ v = .string p ∧ Hid (dgF k k ⟨#[]⟩ = dgF f j p) ∧ Hid (Below w.heap.size w wr)) (fun i _ _ => (intOf i).toNat)
  case atStart => exact ⟨k, k, ⟨#[]⟩, Nat.le_refl _, h1, by show 0 + k ≤ k; omega, rfl, rfl, rfl, Below.refl _ _⟩
  case round =>
    obtain ⟨f, j, p, hjf, hj, hps, rfl, rfl, hD, hB⟩ := hrel
    by_cases hz : j = 0
    · subst hz
      have HEnd : Hid (mkT k = ⟨#[109]⟩ ++ p) := (by show _ = _; rw [HM.out, hD.out, dgF_zero])
      clear hD HM
      go_wp2
      go_ret
      exact ⟨by rw [HEnd.out]; rfl, hB.out⟩
    · have hj0 : (0 : Int) < (j : Int) := by omega
      obtain ⟨g, rfl⟩ : ∃ g, f = g + 1 := ⟨f - 1, by omega⟩
      have hD2 : Hid (dgF k k ⟨#[]⟩ = dgF g (j / 10) (⟨#[UInt8.ofNat (48 + j % 10)]⟩ ++ p)) := (by show _ = _; rw [hD.out, dgF, if_neg hz])
      have hcv : ∀ W : World, (convert 57 9 (.slice (some ⟨W.heap.size, 0, none⟩) 1 1)).run Try.prog (W.alloc (.cells #[.int .u8 (48 + (j : Int) % 10)] 5)) = .ok (.string ⟨#[UInt8.ofNat (48 + j % 10)]⟩) (W.alloc (.cells #[.int .u8 (48 + (j : Int) % 10)] 5)) := fun W => digit_textM W (j % 10) (by omega) _ (by omega)
      obtain ⟨z, hzz⟩ : ∃ z, z = (⟨#[UInt8.ofNat (48 + j % 10)]⟩ : ByteArray) := ⟨_, rfl⟩
      have hz1 : z.size = 1 := by rw [hzz]; rfl
      simp only [← hzz] at hcv hD2
      have hpi : (p.size : Int) ≤ 1000000000 := by omega
      have hB2 : Hid (Below w.heap.size w (wr.alloc (.cells #[.int .u8 (48 + (j : Int) % 10)] 5))) := hB.out.alloc hB.out.size _
      clear hD hzz
      go_wp2
      go_roundw
      case rel => exact ⟨g, j / 10, z ++ p, by omega, by omega, by rw [ByteArray.size_append, hz1]; omega, by go_num, rfl, hD2, hB2⟩
      case measure => simp [intOf]; omega
end Go.Proofs.Ytgodbelcddgdmaa
