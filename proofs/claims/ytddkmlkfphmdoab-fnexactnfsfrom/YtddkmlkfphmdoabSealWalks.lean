/- The contracts of the functions on the road of Seal: the four bytes of a CRC, a text with them behind it. -/
import Derived.Test.YtddkmlkfphmdoabJoin2
import Derived.Test.YtddkmlkfphmdoabCrcWalks
import Derived.LoopN
namespace Go.Proofs.Ytddkmlkfphmdoab
open Go.RowKit Go.PlainAid
set_option linter.unusedVariables false
/-- The four bytes of a number, the lowest first. -/
def fourOf (n : Int) : List UInt8 := [UInt8.ofNat (n % 256).toNat, UInt8.ofNat (n / 256 % 256).toNat, UInt8.ofNat (n / 65536 % 256).toNat, UInt8.ofNat (n / 16777216).toNat]
theorem u8_back {x : Int} (h0 : 0 ≤ x) (h1 : x < 256) : ((UInt8.ofNat x.toNat).toNat : Int) = x := by
  rw [UInt8.toNat_ofNat_of_lt' (by simp [UInt8.size]; omega)]
  omega
theorem four_row {n : Int} (h : Reg n) : (#[.int .u8 (n % 256), .int .u8 (n / 256 % 256), .int .u8 (n / 65536 % 256), .int .u8 (n / 16777216)] : Array Value) = (Lib.byteCells (fourOf n)).toArray := by
  obtain ⟨h1, h2⟩ := h
  simp only [fourOf, Lib.byteCells, List.map_cons, List.map_nil]
  rw [u8_back (by omega) (by omega), u8_back (by omega) (by omega), u8_back (by omega) (by omega), u8_back (by omega) (by omega)]
theorem row_alloc (w : World) (c : Array Value) (t : TypeId) : (w.alloc (.cells c t)).heap[w.heap.size]? = some (.cells c t (0, 0)) := by
  rw [World.alloc]
  exact Array.getElem?_push_size
/-- The four cells as a text. -/
theorem four_text {n : Int} (h : Reg n) (w : World) :
    (convert 60 9 (.slice (some ⟨w.heap.size, 0, none⟩) 4 4)).run Try.prog (w.alloc (.cells #[.int .u8 (n % 256), .int .u8 (n / 256 % 256), .int .u8 (n / 65536 % 256), .int .u8 (n / 16777216)] 5)) =
      .ok (.string ⟨(fourOf n).toArray⟩) (w.alloc (.cells #[.int .u8 (n % 256), .int .u8 (n / 256 % 256), .int .u8 (n / 65536 % 256), .int .u8 (n / 16777216)] 5)) := by
  rw [four_row h]
  exact run_convert_text (P := Try.prog) _ 60 5 9 Try.underlying60 Try.underlying5 Try.underlying9 w.heap.size 0 (fourOf n) 4 4 rfl (row_bytes (row_alloc w _ _))
set_option maxHeartbeats 400000 in
/-- spec.l01Four. -/
theorem l01Four_any (n : Int) (hn : Reg n) (w : World) :
    Calls Try.prog 18 #[.int .i64 n] w fun e w' => e = .returned (.string ⟨(fourOf n).toArray⟩) ∧ Below w.heap.size w w' := by
  have hcv := four_text hn
  obtain ⟨hr1, hr2⟩ := hn
  go_enter Try.func18, Try.ntmps18
  go_wp2
  go_ret
  exact ⟨rfl, (Below.refl _ _).alloc (Nat.le_refl _) _⟩
theorem make4 (w : World) : (Instr.makeSlice 60 (.int .i64 4) (.int .i64 4)).run Try.prog w = .ok (.slice (some ⟨w.heap.size, 0, none⟩) 4 4) (w.alloc (.cells #[.int .u8 0, .int .u8 0, .int .u8 0, .int .u8 0] 5)) := by kernel_rfl
set_option maxHeartbeats 1000000 in
/-- impl.sumOf. -/
theorem sumOf_any (s : ByteArray) (hs : s.size ≤ 8000) (w : World) :
    Calls Try.prog 31 #[.string s] w fun e w' => e = .returned (.string ⟨(fourOf (crcOf s 0)).toArray⟩) ∧ Below w.heap.size w w' := by
  have hmk := make4
  have hcv := four_text (crcOf_Reg s 0)
  obtain ⟨hr1, hr2⟩ := crcOf_Reg s 0
  go_enter Try.func31, Try.ntmps31
  go_wp2_with (go_at_call 35; refine (iCrc_yes _ hs _).mono ?_; rintro e w' ⟨rfl, rfl⟩)
  refine wp_loop_rounds 5 ?_
  rw [rounds_succ]
  go_wp2
  rw [rounds_succ]
  go_wp2
  rw [rounds_succ]
  go_wp2
  rw [rounds_succ]
  go_wp2
  rw [rounds_succ]
  go_wp2
  go_ret
  exact ⟨rfl, (Below.refl _ _).alloc (Nat.le_refl _) _⟩
/-- What both Seals come to. -/
def sealOf (s : ByteArray) : ByteArray := s ++ ⟨(fourOf (crcOf s 0)).toArray⟩
theorem four_size (n : Int) : (⟨(fourOf n).toArray⟩ : ByteArray).size = 4 := rfl
theorem sealOf_size (s : ByteArray) : (sealOf s).size = s.size + 4 := by
  rw [sealOf, ByteArray.size_append, four_size]
set_option maxHeartbeats 400000 in
/-- spec.Seal, of what is taken. -/
theorem sSeal_yes (s : ByteArray) (hs : s.size ≤ 7996) (w : World) :
    Calls Try.prog 23 #[.string s] w fun e w' => e = .returned (.string (sealOf s)) ∧ Below w.heap.size w w' := by
  have hreg := crcOf_Reg s 0
  have hl : (fourOf (crcOf s 0)).length ≤ 4 := Nat.le_refl _
  go_enter Try.func23, Try.ntmps23
  go_wp2_with (first | (go_at_call 19; refine (l01Crc_any _ _ ⟨by decide, by decide⟩ (by omega) _).mono ?_; rintro e w' ⟨rfl, rfl⟩) | (go_at_call 18; refine (l01Four_any _ hreg _).mono ?_; rintro e w' ⟨rfl, hb⟩))
  go_ret
  exact ⟨rfl, hb⟩
set_option maxHeartbeats 400000 in
/-- spec.Seal, of what is refused. -/
theorem sSeal_no (s : ByteArray) (h1 : 7996 < (s.size : Int)) (hs : s.size ≤ maxLen) (w : World) :
    Calls Try.prog 23 #[.string s] w fun e w' => e = .returned (.string ⟨#[]⟩) ∧ Below w.heap.size w w' := by
  unfold maxLen at hs
  go_enter Try.func23, Try.ntmps23
  go_wp2
  go_ret
  exact ⟨rfl, Below.refl _ _⟩
set_option maxHeartbeats 400000 in
/-- impl.Seal, of what is taken. -/
theorem iSeal_yes (s : ByteArray) (hs : s.size ≤ 7996) (w : World) :
    Calls Try.prog 24 #[.string s] w fun e w' => e = .returned (.string (sealOf s)) ∧ Below w.heap.size w w' := by
  have hl : s.size + (⟨(fourOf (crcOf s 0)).toArray⟩ : ByteArray).size ≤ 1099511627776 := by rw [four_size]; omega
  go_enter Try.func24, Try.ntmps24
  go_wp2_with (first | (go_at_call 31; refine (sumOf_any _ (by omega) _).mono ?_; rintro e w' ⟨rfl, hb⟩) | (go_at_call 25; refine (join_two _ _ _ hl).mono ?_; rintro e w2 ⟨rfl, hb2⟩))
  go_ret
  exact ⟨rfl, hb.trans (hb2.mono hb.size)⟩
set_option maxHeartbeats 400000 in
/-- impl.Seal, of what is refused. -/
theorem iSeal_no (s : ByteArray) (h1 : 7996 < (s.size : Int)) (hs : s.size ≤ maxLen) (w : World) :
    Calls Try.prog 24 #[.string s] w fun e w' => e = .returned (.string ⟨#[]⟩) ∧ Below w.heap.size w w' := by
  unfold maxLen at hs
  go_enter Try.func24, Try.ntmps24
  go_wp2
  go_ret
  exact ⟨rfl, Below.refl _ _⟩
end Go.Proofs.Ytddkmlkfphmdoab
