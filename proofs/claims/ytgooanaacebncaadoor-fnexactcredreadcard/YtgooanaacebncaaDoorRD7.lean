/- Laid together: Bytes, Dec. -/
import Derived.Laws.CopyOwn
import Derived.Lib.BufferWrite
import Derived.Lib.SlBytesRow
import Derived.Test.YtgooanaacebncaaDoorRD6
import Derived.Lib.LaidTab
import Derived.Lib.QuietBelow
/- Plain laws on bytes and rows that several functions lean on: what lies in a row of bytes that is being filled, 'copy' from a string into such a row, the row as a text. Nothing here names a program. -/
namespace Go.Proofs.YtgooanaacebncaaDoor
open Go.RowKit Go.Lib
set_option linter.unusedVariables false
/-- A row of bytes reads as a text. -/
theorem row_bytes {w : World} {g : Nat} {t : TypeId} {l : List UInt8} (hg : w.heap[g]? = some (.cells (byteCells l).toArray t (0, 0))) : Bytes w g 0 ⟨l.toArray⟩ := by
  intro i hi
  have hi' : i < l.length := by simpa [ByteArray.size] using hi
  have hb : (byteCells l)[i]? = some (.int .u8 (l[i].toNat : Int)) := by simp [byteCells, hi']
  have : w.cell? ⟨g, 0 + i, none⟩ = (byteCells l)[i]? := by
    simp [World.cell?, hg]
  rw [this, hb]
  rfl
/-- 'string(row)'. -/
theorem run_convert_text {P : Program} (w : World) (src e dst : TypeId) (hs : P.underlying src = some (.slice e)) (he : P.underlying e = some (.int .u8)) (hd : P.underlying dst = some .string) (b o : Nat) (l : List UInt8) (n cap : Nat) (hn : n = l.length)
    (hc : Bytes w b o ⟨l.toArray⟩) : (convert src dst (.slice (some ⟨b, o, none⟩) n cap)).run P w = .ok (.string ⟨l.toArray⟩) w := by
  have h := run_convert_whole (P := P) w src e dst hs he hd b o ⟨l.toArray⟩ hc cap
  have e1 : (⟨l.toArray⟩ : ByteArray).size = n := by rw [hn]; simp [ByteArray.size]
  rw [e1] at h
  exact h
end Go.Proofs.YtgooanaacebncaaDoor
/- An id as digits: spec.l01Dec, impl.digits. -/
namespace Go.Proofs.YtgooanaacebncaaDoor
open Go.RowKit Go.PlainAid
set_option linter.unusedVariables false
/-- The digits of a number. -/
def decT (n : Nat) : ByteArray := ⟨(Lib.decDigits n).toArray⟩
theorem dec_one {m : Nat} (h : m < 10) : Lib.decDigits m = [UInt8.ofNat (48 + m)] := by rw [Lib.decDigits, dif_pos h]
theorem dec_more {m : Nat} (h : ¬ m < 10) : Lib.decDigits m = Lib.decDigits (m / 10) ++ [UInt8.ofNat (48 + m % 10)] := by rw [Lib.decDigits, dif_neg h]
theorem dec_len {n : Nat} (h : n ≤ 9999) : 1 ≤ (Lib.decDigits n).length ∧ (Lib.decDigits n).length ≤ 4 := by
  by_cases h1 : n < 10
  · rw [dec_one h1]; simp
  · rw [dec_more h1]
    by_cases h2 : n / 10 < 10
    · rw [dec_one h2]; simp
    · rw [dec_more h2]
      by_cases h3 : n / 10 / 10 < 10
      · rw [dec_one h3]; simp
      · rw [dec_more h3, dec_one (by omega : n / 10 / 10 / 10 < 10)]; simp
theorem decT_size {n : Nat} (h : n ≤ 9999) : 1 ≤ (decT n).size ∧ (decT n).size ≤ 4 := by
  have : (decT n).size = (Lib.decDigits n).length := by simp [decT, ByteArray.size]
  rw [this]
  exact dec_len h
/-- What stands behind the digits that are still to come. -/
def decTail (n m : Nat) (acc : List UInt8) : Prop := (m = 0 → acc = Lib.decDigits n) ∧ (0 < m → Lib.decDigits n = Lib.decDigits m ++ acc)
theorem decTail_next {n m : Nat} {acc : List UInt8} (h : decTail n m acc) (hm : 0 < m) : decTail n (m / 10) (UInt8.ofNat (48 + m % 10) :: acc) := by
  have h2 := h.2 hm
  by_cases h1 : m < 10
  · refine ⟨fun _ => ?_, fun h0 => by omega⟩
    rw [h2, dec_one h1, Nat.mod_eq_of_lt h1]
    rfl
  · refine ⟨fun h0 => by omega, fun _ => ?_⟩
    rw [h2, dec_more h1]
    simp
theorem cat_cons (z : UInt8) (acc : List UInt8) : (⟨#[z]⟩ : ByteArray) ++ ⟨acc.toArray⟩ = ⟨(z :: acc).toArray⟩ := by
  apply ByteArray.ext
  rw [ByteArray.data_append]
  apply Array.toList_inj.1
  simp
theorem digit_text (w : World) (d : Nat) (h : d ≤ 9) (z : Int) (hz : z = 48 + (d : Int)) :
    (convert 22 9 (.slice (some ⟨w.heap.size, 0, none⟩) 1 1)).run Tryd.prog (w.alloc (.cells #[.int .u8 z] 5)) = .ok (.string ⟨#[UInt8.ofNat (48 + d)]⟩) (w.alloc (.cells #[.int .u8 z] 5)) := by
  have e : ((UInt8.ofNat (48 + d)).toNat : Int) = z := by
    rw [UInt8.toNat_ofNat']
    omega
  have hb : (w.alloc (.cells #[.int .u8 z] 5)).heap[w.heap.size]? = some (.cells #[.int .u8 z] 5) := by
    rw [World.alloc]
    exact Array.getElem?_push_size
  rw [← e] at hb ⊢
  exact run_convert_text _ 22 5 9 Tryd.underlying22 Tryd.underlying5 Tryd.underlying9 _ 0 [UInt8.ofNat (48 + d)] 1 1 rfl (row_bytes (l := [UInt8.ofNat (48 + d)]) hb)
set_option maxRecDepth 100000 in
set_option maxHeartbeats 4000000 in
/-- spec.l01Dec of a number that is not too great. -/
theorem sDec_any (n : Nat) (h : n ≤ 9999) (w : World) :
    Calls Tryd.prog 46 #[.int .i64 n] w fun e w' => e = .returned (.string (decT n)) ∧ Below w.heap.size w w' := by
  by_cases hz : n = 0
  · subst hz
    have hd : decT 0 = ⟨#[48]⟩ := by rw [decT, dec_one (by omega)]; rfl
    rw [hd]
    go_enter Tryd.func46, Tryd.ntmps46
    go_wp2
    go_ret
    exact ⟨rfl, Below.refl _ _⟩
  · have hn : ((n : Int) == 0) = false := by simpa using hz
    have hn2 : decide ((n : Int) < 0) = false := by simp
    go_enter Tryd.func46, Tryd.ntmps46
    go_wp2
    go_loopw [0, 4, 5] (fun i s d wr => ∃ (m : Nat) (acc : List UInt8), m ≤ n ∧ i = .int .i64 m ∧ s = .string ⟨acc.toArray⟩ ∧ Hid (decTail n m acc) ∧ Hid (Below w.heap.size w wr)) (fun i _ _ _ => (intOf i).toNat)
    case atStart => exact ⟨n, [], Nat.le_refl _, rfl, rfl, ⟨fun h0 => absurd h0 hz, fun _ => by simp⟩, Below.refl _ _⟩
    case round =>
      obtain ⟨m, acc, hm, rfl, rfl, hT, hB⟩ := hrel
      by_cases h0 : m = 0
      · subst h0
        have hA : Hid (acc = Lib.decDigits n) := hT.out.1 rfl
        clear hT
        go_wp2
        go_ret
        exact ⟨by rw [hA.out]; rfl, hB.out⟩
      · have hm0 : ((m : Int) == 0) = false := by simp; omega
        have hT2 : Hid (decTail n (m / 10) (UInt8.ofNat (48 + m % 10) :: acc)) := decTail_next hT.out (by omega)
        have hcv : ∀ W : World, (convert 22 9 (.slice (some ⟨W.heap.size, 0, none⟩) 1 1)).run Tryd.prog (W.alloc (.cells #[.int .u8 (48 + (m : Int) % 10)] 5)) = .ok (.string ⟨#[UInt8.ofNat (48 + m % 10)]⟩) (W.alloc (.cells #[.int .u8 (48 + (m : Int) % 10)] 5)) := fun W => digit_text W (m % 10) (by omega) _ (by omega)
        have hd0 : decide ((m : Int) % 10 < 0) = false := by simp; omega
        have hal : acc.length ≤ 4 := by
          have h1 := congrArg List.length (hT.out.2 (by omega))
          have h2 := (dec_len h).2
          simp at h1
          omega
        have hsz : (⟨acc.toArray⟩ : ByteArray).size ≤ 4 := by simpa [ByteArray.size] using hal
        obtain ⟨z, hzz⟩ : ∃ z, z = UInt8.ofNat (48 + m % 10) := ⟨_, rfl⟩
        rw [← hzz] at hT2
        simp only [← hzz] at hcv
        have hcat : Hid ((⟨#[z]⟩ : ByteArray) ++ ⟨acc.toArray⟩ = ⟨(z :: acc).toArray⟩) := cat_cons z acc
        have hi : ((acc.length : Nat) : Int) ≤ 4 := by omega
        clear hzz
        have hB2 : Hid (Below w.heap.size w (wr.alloc (.cells #[.int .u8 (48 + (m : Int) % 10)] 5))) := hB.out.alloc hB.out.size _
        clear hT
        go_wp2
        go_roundw
        case rel => exact ⟨m / 10, z :: acc, by omega, by go_num, by rw [hcat.out], hT2, hB2⟩
        case measure => simp [intOf]; omega
end Go.Proofs.YtgooanaacebncaaDoor
