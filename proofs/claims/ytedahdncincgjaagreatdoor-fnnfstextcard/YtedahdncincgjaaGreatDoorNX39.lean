/- Laid together: Math, CrcWalks, SealWalks, NbW. -/
import Derived.Test.YtedahdncincgjaaGreatDoorNX30
import Derived.LoopN
import Derived.Test.YtedahdncincgjaaGreatDoorNX37
import Derived.Test.YtedahdncincgjaaGreatDoorNX24
import Derived.Test.YtedahdncincgjaaGreatDoorNX38
import Derived.Deep.Cut
/- Plain mathematics of the CRC register, in the walk's own words: the step of one bit, of one byte, of the first k bytes of a text, and their bounds. -/
namespace Go.Proofs.YtedahdncincgjaaGreatDoor
open Go.RowKit Go.PlainAid
/-- One bit. -/
def stp (r : Int) : Int := if (bits .and .u32 r 1 == 1) = true then bits .xor .u32 (r / 2) 3988292384 else r / 2
/-- k bits. -/
def stpN : Nat → Int → Int
  | 0, r => r
  | k + 1, r => stp (stpN k r)
/-- The register behind the first k bytes of s. -/
def regTo (s : ByteArray) (r : Int) : Nat → Int
  | 0 => r
  | k + 1 => stpN 8 (bits .xor .u32 (regTo s r k) (bt s k))
/-- The register is one of 32 bits. -/
def Reg (r : Int) : Prop := 0 ≤ r ∧ r ≤ 4294967295
theorem Reg_bits (op : BinOp) (x y : Int) : Reg (bits op .u32 x y) := by
  have h := bounds_u32 (wf_bits op .u32 x y)
  exact ⟨h.1, by have := h.2; omega⟩
theorem Reg_stp {r : Int} (h : Reg r) : Reg (stp r) := by
  unfold stp
  split
  · exact Reg_bits _ _ _
  · obtain ⟨a, b⟩ := h; exact ⟨by omega, by omega⟩
theorem Reg_stpN (k : Nat) {r : Int} (h : Reg r) : Reg (stpN k r) := by
  induction k with
  | zero => exact h
  | succ k ih => exact Reg_stp ih
theorem Reg_regTo (s : ByteArray) {r : Int} (h : Reg r) (k : Nat) : Reg (regTo s r k) := by
  cases k with
  | zero => exact h
  | succ k => exact Reg_stpN _ (Reg_bits _ _ _)
end Go.Proofs.YtedahdncincgjaaGreatDoor
/- The contracts of the functions on the road of Crc and CrcMore: each returns just what the plain functions of the Math text say, and leaves the world as it was. -/
namespace Go.Proofs.YtedahdncincgjaaGreatDoor
open Go.RowKit Go.PlainAid
set_option linter.unusedVariables false
theorem val_u32 {a b : Int} (h : a = b) : Value.int .u32 a = Value.int .u32 b := by rw [h]
theorem stp_one {r : Int} (h : (bits BinOp.and IntKind.u32 r 1 == 1) = true) : bits BinOp.xor IntKind.u32 (r / 2) 3988292384 = stp r := by unfold stp; rw [if_pos h]
theorem stp_zero {r : Int} (h : (bits BinOp.and IntKind.u32 r 1 == 1) = false) : r / 2 = stp r := by unfold stp; rw [if_neg (by rw [h]; decide)]
set_option maxHeartbeats 400000 in
/-- impl.crcByte. -/
theorem crcByte_any (r b : Int) (hr : Reg r) (hb : 0 ≤ b) (hb2 : b ≤ 255) (w : World) :
    Calls Tryz.prog 126 #[.int .u32 r, .int .u8 b] w fun e w' => e = .returned (.int .u32 (stpN 8 (bits .xor .u32 r b))) ∧ w' = w := by
  obtain ⟨hr1, hr2⟩ := hr
  go_enter Tryz.func126, Tryz.ntmps126
  go_wp2
  go_loop [0, 10] (fun t i => ∃ k : Nat, k ≤ 8 ∧ i = .int .i64 k ∧ t = .int .u32 (stpN k (bits .xor .u32 r b))) (fun _ i => 8 - (intOf i).toNat)
  case atStart => exact ⟨0, Nat.zero_le _, rfl, rfl⟩
  case round =>
    obtain ⟨k, hk, rfl, rfl⟩ := hrel
    obtain ⟨hx1, hx2⟩ := Reg_stpN k (Reg_bits .xor r b)
    by_cases hlt : k < 8
    · go_wp2
      · go_round
        case rel => exact ⟨k + 1, by omega, by go_num, val_u32 (stp_one ‹_›)⟩
        case measure => simp [intOf]; omega
      · go_round
        case rel => exact ⟨k + 1, by omega, by go_num, val_u32 (stp_zero ‹_›)⟩
        case measure => simp [intOf]; omega
    · go_wp2
      go_ret
      have : k = 8 := by omega
      subst this
      exact ⟨rfl, rfl⟩
set_option maxHeartbeats 400000 in
/-- spec.l01Crc. -/
theorem l01Crc_any (r : Int) (s : ByteArray) (hr : Reg r) (hs : s.size ≤ 8000) (w : World) :
    Calls Tryz.prog 70 #[.int .i64 r, .string s] w fun e w' => e = .returned (.int .i64 (bits .xor .u32 (regTo s (bits .xor .u32 r 4294967295) s.size) 4294967295)) ∧ w' = w := by
  obtain ⟨hr1, hr2⟩ := hr
  have hbt := get_bt s
  go_enter Tryz.func70, Tryz.ntmps70
  go_wp2
  go_loop [5, 6] (fun t i => ∃ k : Nat, k ≤ s.size ∧ i = .int .i64 k ∧ t = .int .u32 (regTo s (bits .xor .u32 r 4294967295) k)) (fun _ i => s.size - (intOf i).toNat)
  case atStart => exact ⟨0, Nat.zero_le _, rfl, rfl⟩
  case round =>
    obtain ⟨k, hk, rfl, rfl⟩ := hrel
    obtain ⟨hx1, hx2⟩ := Reg_regTo s (Reg_bits .xor r 4294967295) k
    have b1 := bt_nonneg s k
    have b2 := bt_le s k
    by_cases hlt : k < s.size
    · go_wp2
      go_loop [5, 7] (fun t i => ∃ m : Nat, m ≤ 8 ∧ i = .int .i64 m ∧ t = .int .u32 (stpN m (bits .xor .u32 (regTo s (bits .xor .u32 r 4294967295) k) (bt s k)))) (fun _ i => 8 - (intOf i).toNat)
      case atStart => exact ⟨0, Nat.zero_le _, rfl, rfl⟩
      case round =>
        obtain ⟨m, hm, rfl, rfl⟩ := hrel
        obtain ⟨hy1, hy2⟩ := Reg_stpN m (Reg_bits .xor (regTo s (bits .xor .u32 r 4294967295) k) (bt s k))
        by_cases hlm : m < 8
        · go_wp2
          · go_round
            case rel => exact ⟨m + 1, by omega, by go_num, val_u32 (stp_one ‹_›)⟩
            case measure => simp [intOf]; omega
          · go_round
            case rel => exact ⟨m + 1, by omega, by go_num, val_u32 (stp_zero ‹_›)⟩
            case measure => simp [intOf]; omega
        · have : m = 8 := by omega
          subst this
          go_wp2
          go_round
          case rel => exact ⟨k + 1, by omega, by go_num, rfl⟩
          case measure => simp [intOf]; omega
    · have : k = s.size := by omega
      subst this
      obtain ⟨hz1, hz2⟩ := Reg_bits .xor (regTo s (bits .xor .u32 r 4294967295) s.size) 4294967295
      go_wp2
      go_ret
      exact ⟨rfl, rfl⟩
theorem xor_max {r : Int} (h : Reg r) : bits .xor .u32 IntKind.u32.max r = bits .xor .u32 r 4294967295 := by
  obtain ⟨h1, h2⟩ := h
  have e : IntKind.u32.max = 4294967295 := by decide
  rw [e, u32_xor _ _ (by decide) (by decide) h1 (by omega), u32_xor _ _ h1 (by omega) (by decide) (by decide), Nat.xor_comm]
/-- What both CRCs come to. -/
def crcOf (s : ByteArray) (r : Int) : Int := bits .xor .u32 (regTo s (bits .xor .u32 r 4294967295) s.size) 4294967295
theorem crcOf_Reg (s : ByteArray) (r : Int) : Reg (crcOf s r) := Reg_bits _ _ _
set_option maxHeartbeats 400000 in
/-- impl.CrcMore, of what is taken. -/
theorem iCrcMore_yes (r : Int) (s : ByteArray) (hr : Reg r) (hs : s.size ≤ 8000) (w : World) :
    Calls Tryz.prog 116 #[.int .i64 r, .string s] w fun e w' => e = .returned (.int .i64 (crcOf s r)) ∧ w' = w := by
  have hm := xor_max hr
  obtain ⟨hr1, hr2⟩ := hr
  have hbt := get_bt s
  have d1 : decide (8000 < (s.size : Int)) = false := by simp; omega
  have d2 : decide (r < 0) = false := by simp; omega
  have d3 : decide (4294967295 < r) = false := by simp; omega
  go_enter Tryz.func116, Tryz.ntmps116
  go_wp2
  go_loop [5, 23] (fun t i => ∃ k : Nat, k ≤ s.size ∧ i = .int .i64 k ∧ t = .int .u32 (regTo s (bits .xor .u32 r 4294967295) k)) (fun _ i => s.size - (intOf i).toNat)
  case atStart => exact ⟨0, Nat.zero_le _, rfl, rfl⟩
  case round =>
    obtain ⟨k, hk, rfl, rfl⟩ := hrel
    have hreg := Reg_regTo s (Reg_bits .xor r 4294967295) k
    have hx := hreg
    obtain ⟨hx1, hx2⟩ := hx
    have b1 := bt_nonneg s k
    have b2 := bt_le s k
    by_cases hlt : k < s.size
    · go_wp2_with (go_at_call 126; refine (crcByte_any _ _ hreg b1 b2 _).mono ?_; rintro e w' ⟨rfl, rfl⟩)
      go_round
      case rel => exact ⟨k + 1, by omega, by go_num, rfl⟩
      case measure => simp [intOf]; omega
    · have : k = s.size := by omega
      subst this
      have hm2 := xor_max hreg
      obtain ⟨hz1, hz2⟩ := Reg_bits .xor (regTo s (bits .xor .u32 r 4294967295) s.size) 4294967295
      go_wp2
      go_ret
      exact ⟨rfl, rfl⟩
theorem iCrc_yes (s : ByteArray) (hs : s.size ≤ 8000) (w : World) :
    Calls Tryz.prog 96 #[.string s] w fun e w' => e = .returned (.int .i64 (crcOf s 0)) ∧ w' = w := by
  go_enter Tryz.func96, Tryz.ntmps96
  go_wp2_with (go_at_call 116; refine (iCrcMore_yes _ _ ⟨by decide, by decide⟩ hs _).mono ?_; rintro e w' ⟨rfl, rfl⟩)
  go_ret
  exact ⟨rfl, rfl⟩
/-- The four bytes of a number, the lowest first. -/
def fourOf (n : Int) : List UInt8 := [UInt8.ofNat (n % 256).toNat, UInt8.ofNat (n / 256 % 256).toNat, UInt8.ofNat (n / 65536 % 256).toNat, UInt8.ofNat (n / 16777216).toNat]
theorem u8_back {x : Int} (h0 : 0 ≤ x) (h1 : x < 256) : ((UInt8.ofNat x.toNat).toNat : Int) = x := by
  rw [UInt8.toNat_ofNat_of_lt' (by simp [UInt8.size]; omega)]
  omega
theorem four_row {n : Int} (h : Reg n) : (#[.int .u8 (n % 256), .int .u8 (n / 256 % 256), .int .u8 (n / 65536 % 256), .int .u8 (n / 16777216)] : Array Value) = (Lib.byteCells (fourOf n)).toArray := by
  obtain ⟨h1, h2⟩ := h
  simp only [fourOf, Lib.byteCells, List.map_cons, List.map_nil]
  rw [u8_back (by omega) (by omega), u8_back (by omega) (by omega), u8_back (by omega) (by omega), u8_back (by omega) (by omega)]
theorem row_alloc (w : World) (c : Array Value) (t : TypeId) : (w.alloc (.cells c t)).heap[w.heap.size]? = some (.cells c t (0, 0)) := by
  rw [World.alloc]
  exact Array.getElem?_push_size
/-- The four cells as a text. -/
theorem four_text {n : Int} (h : Reg n) (w : World) :
    (convert 22 9 (.slice (some ⟨w.heap.size, 0, none⟩) 4 4)).run Tryz.prog (w.alloc (.cells #[.int .u8 (n % 256), .int .u8 (n / 256 % 256), .int .u8 (n / 65536 % 256), .int .u8 (n / 16777216)] 5)) =
      .ok (.string ⟨(fourOf n).toArray⟩) (w.alloc (.cells #[.int .u8 (n % 256), .int .u8 (n / 256 % 256), .int .u8 (n / 65536 % 256), .int .u8 (n / 16777216)] 5)) := by
  rw [four_row h]
  exact run_convert_text (P := Tryz.prog) _ 22 5 9 Tryz.underlying22 Tryz.underlying5 Tryz.underlying9 w.heap.size 0 (fourOf n) 4 4 rfl (row_bytes (row_alloc w _ _))
set_option maxHeartbeats 400000 in
/-- spec.l01Four. -/
theorem l01Four_any (n : Int) (hn : Reg n) (w : World) :
    Calls Tryz.prog 69 #[.int .i64 n] w fun e w' => e = .returned (.string ⟨(fourOf n).toArray⟩) ∧ Below w.heap.size w w' := by
  have hcv := four_text hn
  obtain ⟨hr1, hr2⟩ := hn
  go_enter Tryz.func69, Tryz.ntmps69
  go_wp2
  go_ret
  exact ⟨rfl, (Below.refl _ _).alloc (Nat.le_refl _) _⟩
theorem make4 (w : World) : (Instr.makeSlice 22 (.int .i64 4) (.int .i64 4)).run Tryz.prog w = .ok (.slice (some ⟨w.heap.size, 0, none⟩) 4 4) (w.alloc (.cells #[.int .u8 0, .int .u8 0, .int .u8 0, .int .u8 0] 5)) := by kernel_rfl
set_option maxHeartbeats 1000000 in
/-- impl.sumOf. -/
theorem sumOf_any (s : ByteArray) (hs : s.size ≤ 8000) (w : World) :
    Calls Tryz.prog 68 #[.string s] w fun e w' => e = .returned (.string ⟨(fourOf (crcOf s 0)).toArray⟩) ∧ Below w.heap.size w w' := by
  have hmk := make4
  have hcv := four_text (crcOf_Reg s 0)
  obtain ⟨hr1, hr2⟩ := crcOf_Reg s 0
  go_enter Tryz.func68, Tryz.ntmps68
  go_wp2_with (go_at_call 96; refine (iCrc_yes _ hs _).mono ?_; rintro e w' ⟨rfl, rfl⟩)
  refine wp_loop_rounds 5 ?_
  rw [rounds_succ]
  go_wp2
  rw [rounds_succ]
  go_wp2
  rw [rounds_succ]
  go_wp2
  rw [rounds_succ]
  go_wp2
  rw [rounds_succ]
  go_wp2
  go_ret
  exact ⟨rfl, (Below.refl _ _).alloc (Nat.le_refl _) _⟩
/-- What both Seals come to. -/
def sealOf (s : ByteArray) : ByteArray := s ++ ⟨(fourOf (crcOf s 0)).toArray⟩
theorem four_size (n : Int) : (⟨(fourOf n).toArray⟩ : ByteArray).size = 4 := rfl
theorem sealOf_size (s : ByteArray) : (sealOf s).size = s.size + 4 := by
  rw [sealOf, ByteArray.size_append, four_size]
set_option maxHeartbeats 400000 in
/-- spec.Seal, of what is taken. -/
theorem sSeal_yes (s : ByteArray) (hs : s.size ≤ 7996) (w : World) :
    Calls Tryz.prog 41 #[.string s] w fun e w' => e = .returned (.string (sealOf s)) ∧ Below w.heap.size w w' := by
  have hreg := crcOf_Reg s 0
  have hl : (fourOf (crcOf s 0)).length ≤ 4 := Nat.le_refl _
  go_enter Tryz.func41, Tryz.ntmps41
  go_wp2_with (first | (go_at_call 70; refine (l01Crc_any _ _ ⟨by decide, by decide⟩ (by omega) _).mono ?_; rintro e w' ⟨rfl, rfl⟩) | (go_at_call 69; refine (l01Four_any _ hreg _).mono ?_; rintro e w' ⟨rfl, hb⟩))
  go_ret
  exact ⟨rfl, hb⟩
set_option maxHeartbeats 400000 in
/-- spec.Seal, of what is refused. -/
theorem sSeal_no (s : ByteArray) (h1 : 7996 < (s.size : Int)) (hs : s.size ≤ maxLen) (w : World) :
    Calls Tryz.prog 41 #[.string s] w fun e w' => e = .returned (.string ⟨#[]⟩) ∧ Below w.heap.size w w' := by
  unfold maxLen at hs
  go_enter Tryz.func41, Tryz.ntmps41
  go_wp2
  go_ret
  exact ⟨rfl, Below.refl _ _⟩
set_option maxHeartbeats 400000 in
/-- impl.Seal, of what is taken. -/
theorem iSeal_yes (s : ByteArray) (hs : s.size ≤ 7996) (w : World) :
    Calls Tryz.prog 39 #[.string s] w fun e w' => e = .returned (.string (sealOf s)) ∧ Below w.heap.size w w' := by
  have hl : s.size + (⟨(fourOf (crcOf s 0)).toArray⟩ : ByteArray).size ≤ 1099511627776 := by rw [four_size]; omega
  go_enter Tryz.func39, Tryz.ntmps39
  go_wp2_with (first | (go_at_call 68; refine (sumOf_any _ (by omega) _).mono ?_; rintro e w' ⟨rfl, hb⟩) | (go_at_call 27; refine (join_two _ _ _ hl).mono ?_; rintro e w2 ⟨rfl, hb2⟩))
  go_ret
  exact ⟨rfl, hb.trans (hb2.mono hb.size)⟩
end Go.Proofs.YtedahdncincgjaaGreatDoor
/- A list in order as bytes: aceBytes, NfsBytes of the program and of the specification. -/
namespace Go.Proofs.YtedahdncincgjaaGreatDoor
open Go.RowKit Go.PlainAid Go.Deep
set_option linter.unusedVariables false
def encB (n : Int) : ByteArray := ⟨(encI n).toArray⟩
theorem encB_size {n : Int} (h1 : -9223372036854775808 ≤ n) (h2 : n ≤ 9223372036854775807) : (encB n).size ≤ 10 := by
  have := encI_len h1 h2
  simpa [encB, ByteArray.size] using this
def acB (x : Ac) : ByteArray := ⟨(aceBs x).toArray⟩
theorem acB_parts (x : Ac) : acB x = encB (alN x) ++ encB x.wh ++ encB x.id ++ encB x.fl ++ encB x.ma := by
  apply ByteArray.ext
  apply Array.toList_inj.1
  simp [acB, aceBs, encB, ByteArray.data_append]
/-- What has been written behind k aces. -/
def nbP (l : List Ac) (k : Nat) : ByteArray := ⟨(encI (l.length : Int) ++ acesBs (l.take k)).toArray⟩
theorem take_nextA {l : List Ac} {k : Nat} (h : k < l.length) : l.take (k + 1) = l.take k ++ [acAt l k] := by
  rw [acAt_get h, List.take_append_getElem]
theorem nbP_next {l : List Ac} {k : Nat} (h : k < l.length) : nbP l (k + 1) = nbP l k ++ encB (alN (acAt l k)) ++ encB (acAt l k).wh ++ encB (acAt l k).id ++ encB (acAt l k).fl ++ encB (acAt l k).ma := by
  apply ByteArray.ext
  apply Array.toList_inj.1
  rw [nbP, take_nextA h]
  simp [nbP, acesBs_app, acesBs_one, aceBs, encB, ByteArray.data_append]
theorem nbP_zero (l : List Ac) : nbP l 0 = encB (l.length : Int) := by simp [nbP, encB, acesBs]
theorem nbP_all (l : List Ac) : nbP l l.length = ⟨(nbB l).toArray⟩ := by simp [nbP, nbB]
theorem nbP_size {l : List Ac} (h : acesB l = true) (k : Nat) : (nbP l k).size ≤ 1700 := by
  have h1 := acesBs_len (l.take k) (fun x hx => aces_mem h (List.mem_of_mem_take hx))
  have h2 := aces_len h
  have h3 := encI_len (n := (l.length : Int)) (by omega) (by omega)
  have h4 : (l.take k).length ≤ l.length := by simp; omega
  have e : (nbP l k).size = (encI (l.length : Int) ++ acesBs (l.take k)).length := by simp [nbP, ByteArray.size]
  rw [e, List.length_append]
  omega
/-- NfsBytes. -/
def nbT (l : List Ac) : ByteArray := if acesB l then sealOf ⟨(nbB l).toArray⟩ else ⟨#[]⟩
theorem ret_strN {a b : ByteArray} (h : a = b) : Ending.returned (.string a) = .returned (.string b) := by rw [h]
set_option maxRecDepth 100000 in
set_option maxHeartbeats 8000000 in
/-- spec.NfsBytes of a right list. -/
theorem sNfsBytes_yes (a : Option Addr) (len cap : Nat) (l : List Ac) (hb : acesB l = true) (w : World) (hi : Acs a len l w) :
    Calls Tryz.prog 19 #[.slice a len cap] w fun e w' => e = .returned (.string (nbT l)) ∧ Below w.heap.size w w' := by
  have h32 := aces_len hb
  have hl := hi.1
  have hl32 : len ≤ 32 := by omega
  have hR : Hid (Calls Tryz.prog 48 #[.slice a len cap] w fun e w' => e = .returned (.bool true) ∧ Below w.heap.size w w') := (by have := sNfsRight_any a len cap l (by omega) w hi; rwa [hb] at this)
  have HN0 : Hid (∀ w, Calls Tryz.prog 49 #[.int .i64 (len : Int)] w fun e w' => e = .returned (.string (nbP l 0)) ∧ Below w.heap.size w w') := (fun w => by rw [nbP_zero, hl]; exact sPutNum_any (len : Int) (by omega) (by omega) w)
  have HSE : Hid (∀ w, Calls Tryz.prog 41 #[.string (nbP l len)] w fun e w' => e = .returned (.string (nbT l)) ∧ Below w.heap.size w w') := (fun w => by
    have h1 := sSeal_yes (nbP l len) (by have := nbP_size hb len; omega) w
    have e : nbT l = sealOf (nbP l len) := by rw [nbT, if_pos hb, ← nbP_all, hl]
    rw [e]
    exact h1)
  have HS : Hid (∀ k, (nbP l k).size ≤ 1700) := nbP_size hb
  have HN : Hid (∀ k, k < len → nbP l (k + 1) = nbP l k ++ encB (alN (acAt l k)) ++ encB (acAt l k).wh ++ encB (acAt l k).id ++ encB (acAt l k).fl ++ encB (acAt l k).ma) := (fun k hk => nbP_next (by omega))
  have HB : Hid (∀ k, k < len → (1 ≤ (acAt l k).wh ∧ (acAt l k).wh ≤ 5) ∧ (0 ≤ (acAt l k).id ∧ (acAt l k).id ≤ 9999) ∧ (0 ≤ (acAt l k).fl ∧ (acAt l k).fl ≤ 15) ∧ (1 ≤ (acAt l k).ma ∧ (acAt l k).ma ≤ 255)) := (fun k hk => by
    obtain ⟨h1, h2, _, h4, h5⟩ := aceB_iff.1 (aces_at hb (show k < l.length by omega))
    exact ⟨h1, h2, h4.1, h5⟩)
  have HI : Hid (Acs a len l w) := hi
  clear hi hb h32 hl
  go_enter Tryz.func19, Tryz.ntmps19
  go_wp2_with fail
  refine hR.out.mono ?_
  rintro e w1 ⟨rfl, hb1⟩
  have hW1 : Hid (Below w.heap.size w w1) := hb1
  clear hb1 hR
  go_wp2_with fail
  refine (HN0.out _).mono ?_
  rintro e w2 ⟨rfl, hb2⟩
  have hW2 : Hid (Below w.heap.size w w2) := Below.on hW1.out hb2
  clear hb2 hW1 HN0
  go_wp2
  go_loopw [3, 4] (fun s i wr => ∃ k : Nat, k ≤ len ∧ i = .int .i64 k ∧ s = .string (nbP l k) ∧ Hid (Below w.heap.size w wr)) (fun _ i _ => len - (intOf i).toNat)
  case atStart => exact ⟨0, Nat.zero_le _, rfl, rfl, hW2⟩
  case round =>
    obtain ⟨k, hk, rfl, rfl, hB⟩ := hrel
    by_cases hlt : k < len
    · have hlt' : (k : Int) < (len : Int) := by omega
      obtain ⟨b, off, rfl, hbl, hcl⟩ := HI.out.2 (by omega)
      obtain ⟨c0, c1, c2, c3, c4⟩ := (hcl k hlt).below hbl hB.out
      have hn : Hid _ := HN.out k hlt
      obtain ⟨v1, v2, v3, v4⟩ := HB.out k hlt
      have v0 : -9223372036854775808 ≤ alN (acAt l k) ∧ alN (acAt l k) ≤ 9223372036854775807 := by unfold alN; split <;> omega
      have d0 : Hid (∀ w, Calls Tryz.prog 49 #[.int .i64 (alN (acAt l k))] w fun e w' => e = .returned (.string (encB (alN (acAt l k)))) ∧ Below w.heap.size w w') := sPutNum_any _ v0.1 v0.2
      have d1 : Hid (∀ w, Calls Tryz.prog 49 #[.int .i64 (acAt l k).wh] w fun e w' => e = .returned (.string (encB (acAt l k).wh)) ∧ Below w.heap.size w w') := sPutNum_any _ (by omega) (by omega)
      have d2 : Hid (∀ w, Calls Tryz.prog 49 #[.int .i64 (acAt l k).id] w fun e w' => e = .returned (.string (encB (acAt l k).id)) ∧ Below w.heap.size w w') := sPutNum_any _ (by omega) (by omega)
      have d3 : Hid (∀ w, Calls Tryz.prog 49 #[.int .i64 (acAt l k).fl] w fun e w' => e = .returned (.string (encB (acAt l k).fl)) ∧ Below w.heap.size w w') := sPutNum_any _ (by omega) (by omega)
      have d4 : Hid (∀ w, Calls Tryz.prog 49 #[.int .i64 (acAt l k).ma] w fun e w' => e = .returned (.string (encB (acAt l k).ma)) ∧ Below w.heap.size w w') := sPutNum_any _ (by omega) (by omega)
      have s0 := HS.out k
      have s1 := encB_size v0.1 v0.2
      have s2 := encB_size (n := (acAt l k).wh) (by omega) (by omega)
      have s3 := encB_size (n := (acAt l k).id) (by omega) (by omega)
      have s4 := encB_size (n := (acAt l k).fl) (by omega) (by omega)
      have s5 := encB_size (n := (acAt l k).ma) (by omega) (by omega)
      clear hcl v0 v1 v2 v3 v4
      generalize nbP l k = T at s0 hn
      generalize encB (acAt l k).wh = E1 at d1 s2 hn
      generalize encB (acAt l k).id = E2 at d2 s3 hn
      generalize encB (acAt l k).fl = E3 at d3 s4 hn
      generalize encB (acAt l k).ma = E4 at d4 s5 hn
      generalize (acAt l k).wh = x1 at c1 d1
      generalize (acAt l k).id = x2 at c2 d2
      generalize (acAt l k).fl = x3 at c3 d3
      generalize (acAt l k).ma = x4 at c4 d4
      have q1 := fun d os => cell_regrown c1 d os
      have q2 := fun d os => cell_regrown c2 d os
      have q3 := fun d os => cell_regrown c3 d os
      have q4 := fun d os => cell_regrown c4 d os
      have r1 : ∀ d os, Calls Tryz.prog 49 #[.int .i64 x1] (Go.Sort.grow (redrawn wr d) os) fun e w'' => e = .returned (.string E1) ∧ ∃ p : Regrown, w'' = Go.Sort.grow (redrawn wr p.d) p.os := fun d os => Calls.regrown_of (d1.out _)
      have r2 : ∀ d os, Calls Tryz.prog 49 #[.int .i64 x2] (Go.Sort.grow (redrawn wr d) os) fun e w'' => e = .returned (.string E2) ∧ ∃ p : Regrown, w'' = Go.Sort.grow (redrawn wr p.d) p.os := fun d os => Calls.regrown_of (d2.out _)
      have r3 : ∀ d os, Calls Tryz.prog 49 #[.int .i64 x3] (Go.Sort.grow (redrawn wr d) os) fun e w'' => e = .returned (.string E3) ∧ ∃ p : Regrown, w'' = Go.Sort.grow (redrawn wr p.d) p.os := fun d os => Calls.regrown_of (d3.out _)
      have r4 : ∀ d os, Calls Tryz.prog 49 #[.int .i64 x4] (Go.Sort.grow (redrawn wr d) os) fun e w'' => e = .returned (.string E4) ∧ ∃ p : Regrown, w'' = Go.Sort.grow (redrawn wr p.d) p.os := fun d os => Calls.regrown_of (d4.out _)
      cases hal : (acAt l k).al
      · have e0 : alN (acAt l k) = 0 := by simp [alN, hal]
        rw [e0] at hn d0 s1
        generalize encB 0 = E0 at d0 s1 hn
        have r0 : ∀ d os, Calls Tryz.prog 49 #[.int .i64 0] (Go.Sort.grow (redrawn wr d) os) fun e w'' => e = .returned (.string E0) ∧ ∃ p : Regrown, w'' = Go.Sort.grow (redrawn wr p.d) p.os := fun d os => Calls.regrown_of (d0.out _)
        rw [hal] at c0
        clear e0
        go_upto_region 10 with fail
        refine wp_region_quiet_below (by kernel_rfl) (by kernel_rfl) ?_
        repeat (go_big_quiet_step (fail))
        go_big_quiet_step (exact r0 _ _)
        repeat (go_big_quiet_step (fail))
        go_big_quiet_step (exact r1 _ _)
        repeat (go_big_quiet_step (fail))
        go_big_quiet_step (exact r2 _ _)
        repeat (go_big_quiet_step (fail))
        go_big_quiet_step (exact r3 _ _)
        repeat (go_big_quiet_step (fail))
        go_big_quiet_step (exact r4 _ _)
        repeat (go_big_quiet_step (fail))
        refine wpQuiet_nil ?_
        intro _ hw'
        obtain ⟨⟨dq, osq⟩, hw''⟩ := hw'
        subst hw''
        have hB2 : Hid (Below w.heap.size w (Go.Sort.grow (redrawn wr dq) osq)) := Below.on hB.out (below_regrown wr dq osq)
        generalize Go.Sort.grow (redrawn wr dq) osq = w2 at hB2 ⊢
        clear q1 q2 q3 q4 r0 r1 r2 r3 r4 c0 c1 c2 c3 c4 d0 d1 d2 d3 d4
        go_wp2
        go_roundw
        case rel => exact ⟨k + 1, by omega, by go_num, by rw [hn.out], hB2⟩
        case measure => simp [intOf]; omega
      · have e0 : alN (acAt l k) = 1 := by simp [alN, hal]
        rw [e0] at hn d0 s1
        generalize encB 1 = E0 at d0 s1 hn
        have r0 : ∀ d os, Calls Tryz.prog 49 #[.int .i64 1] (Go.Sort.grow (redrawn wr d) os) fun e w'' => e = .returned (.string E0) ∧ ∃ p : Regrown, w'' = Go.Sort.grow (redrawn wr p.d) p.os := fun d os => Calls.regrown_of (d0.out _)
        rw [hal] at c0
        clear e0
        go_upto_region 10 with fail
        refine wp_region_quiet_below (by kernel_rfl) (by kernel_rfl) ?_
        repeat (go_big_quiet_step (fail))
        go_big_quiet_step (exact r0 _ _)
        repeat (go_big_quiet_step (fail))
        go_big_quiet_step (exact r1 _ _)
        repeat (go_big_quiet_step (fail))
        go_big_quiet_step (exact r2 _ _)
        repeat (go_big_quiet_step (fail))
        go_big_quiet_step (exact r3 _ _)
        repeat (go_big_quiet_step (fail))
        go_big_quiet_step (exact r4 _ _)
        repeat (go_big_quiet_step (fail))
        refine wpQuiet_nil ?_
        intro _ hw'
        obtain ⟨⟨dq, osq⟩, hw''⟩ := hw'
        subst hw''
        have hB2 : Hid (Below w.heap.size w (Go.Sort.grow (redrawn wr dq) osq)) := Below.on hB.out (below_regrown wr dq osq)
        generalize Go.Sort.grow (redrawn wr dq) osq = w2 at hB2 ⊢
        clear q1 q2 q3 q4 r0 r1 r2 r3 r4 c0 c1 c2 c3 c4 d0 d1 d2 d3 d4
        go_wp2
        go_roundw
        case rel => exact ⟨k + 1, by omega, by go_num, by rw [hn.out], hB2⟩
        case measure => simp [intOf]; omega
    · have : k = len := by omega
      subst this
      go_wp2_with fail
      refine (HSE.out _).mono ?_
      rintro e w3 ⟨rfl, hb3⟩
      have hW3 : Hid (Below w.heap.size w w3) := Below.on hB.out hb3
      clear hb3
      go_wp2
      go_ret
      exact ⟨rfl, hW3.out⟩
set_option maxHeartbeats 2000000 in
/-- spec.NfsBytes. -/
theorem sNfsBytes_any (a : Option Addr) (len cap : Nat) (l : List Ac) (hlen : len ≤ 1048576) (w : World) (hi : Acs a len l w) :
    Calls Tryz.prog 19 #[.slice a len cap] w fun e w' => e = .returned (.string (nbT l)) ∧ Below w.heap.size w w' := by
  cases hb : acesB l
  · have hR : Hid (Calls Tryz.prog 48 #[.slice a len cap] w fun e w' => e = .returned (.bool false) ∧ Below w.heap.size w w') := (by have := sNfsRight_any a len cap l hlen w hi; rwa [hb] at this)
    have hn : nbT l = ⟨#[]⟩ := by rw [nbT, hb]; rfl
    rw [hn]
    clear hn hb hi
    go_enter Tryz.func19, Tryz.ntmps19
    go_wp2_with fail
    refine hR.out.mono ?_
    rintro e w1 ⟨rfl, hb1⟩
    have hW1 : Hid (Below w.heap.size w w1) := hb1
    clear hb1 hR
    go_wp2
    go_ret
    exact ⟨rfl, hW1.out⟩
  · exact sNfsBytes_yes a len cap l hb w hi
set_option maxRecDepth 100000 in
set_option maxHeartbeats 4000000 in
/-- impl.aceBytes of a right ace. -/
theorem iAceBytes_yes (x : Ac) (hx : aceB x = true) (w : World) :
    Calls Tryz.prog 38 #[.agg #[.bool x.al, .int .i64 x.wh, .int .i64 x.id, .int .i64 x.fl, .int .i64 x.ma]] w fun e w' => e = .returned (.string (acB x)) ∧ Below w.heap.size w w' := by
  obtain ⟨v1, v2, _, v3, v4⟩ := aceB_iff.1 hx
  have v0 : -9223372036854775808 ≤ alN x ∧ alN x ≤ 9223372036854775807 := by unfold alN; split <;> omega
  have d0 : Hid (∀ w, Calls Tryz.prog 37 #[.int .i64 (alN x)] w fun e w' => e = .returned (.string (encB (alN x))) ∧ Below w.heap.size w w') := iPutNum_any _ v0.1 v0.2
  have d1 : Hid (∀ w, Calls Tryz.prog 37 #[.int .i64 x.wh] w fun e w' => e = .returned (.string (encB x.wh)) ∧ Below w.heap.size w w') := iPutNum_any _ (by omega) (by omega)
  have d2 : Hid (∀ w, Calls Tryz.prog 37 #[.int .i64 x.id] w fun e w' => e = .returned (.string (encB x.id)) ∧ Below w.heap.size w w') := iPutNum_any _ (by omega) (by omega)
  have d3 : Hid (∀ w, Calls Tryz.prog 37 #[.int .i64 x.fl] w fun e w' => e = .returned (.string (encB x.fl)) ∧ Below w.heap.size w w') := iPutNum_any _ (by omega) (by omega)
  have d4 : Hid (∀ w, Calls Tryz.prog 37 #[.int .i64 x.ma] w fun e w' => e = .returned (.string (encB x.ma)) ∧ Below w.heap.size w w') := iPutNum_any _ (by omega) (by omega)
  have s1 := encB_size v0.1 v0.2
  have s2 := encB_size (n := x.wh) (by omega) (by omega)
  have s3 := encB_size (n := x.id) (by omega) (by omega)
  have s4 := encB_size (n := x.fl) (by omega) (by omega)
  have s5 := encB_size (n := x.ma) (by omega) (by omega)
  have HT : Hid (acB x = encB (alN x) ++ encB x.wh ++ encB x.id ++ encB x.fl ++ encB x.ma) := acB_parts x
  have HJ : Hid (∀ w, Calls Tryz.prog 27 #[.slice (some ⟨w.heap.size, 0, none⟩) 5 5] (w.alloc (.cells #[.string (encB (alN x)), .string (encB x.wh), .string (encB x.id), .string (encB x.fl), .string (encB x.ma)] 9)) fun e' w' => e' = .returned (.string (encB (alN x) ++ encB x.wh ++ encB x.id ++ encB x.fl ++ encB x.ma)) ∧ Below w.heap.size w w') := (fun w => join_five _ _ _ _ _ w (by omega) 5)
  clear s1 s2 s3 s4 s5 v0 v1 v2 v3 v4 hx
  generalize acB x = R at HT ⊢
  have hF1 : Hid (Five (w.alloc (.cells #[.bool x.al, .int .i64 x.wh, .int .i64 x.id, .int .i64 x.fl, .int .i64 x.ma] 24)) w.heap.size 0 x) := five_new w x 24
  have hW1 : Hid (Below w.heap.size w (w.alloc (.cells #[.bool x.al, .int .i64 x.wh, .int .i64 x.id, .int .i64 x.fl, .int .i64 x.ma] 24))) := bel_alloc _ _
  have HLT : Hid (w.heap.size < (w.alloc (.cells #[.bool x.al, .int .i64 x.wh, .int .i64 x.id, .int .i64 x.fl, .int .i64 x.ma] 24)).heap.size) := (show _ < _ by simp)
  go_enter Tryz.func38, Tryz.ntmps38
  go_upto_region 1 with fail
  generalize w.alloc (.cells #[.bool x.al, .int .i64 x.wh, .int .i64 x.id, .int .i64 x.fl, .int .i64 x.ma] 24) = w1 at hF1 hW1 HLT ⊢
  obtain ⟨c0, c1, c2, c3, c4⟩ := hF1.out
  simp only [Nat.zero_add] at c0 c1 c2 c3 c4
  cases hal : x.al
  · have e0 : alN x = 0 := by simp [alN, hal]
    rw [e0] at d0 HJ HT
    rw [hal] at c0
    clear e0
    go_upto_region 4 with fail
    go_region_held3 (fun w' => w'.cell? ⟨w.heap.size, 0, none⟩ = some (.bool false) ∧ w'.cell? ⟨w.heap.size, 1, none⟩ = some (.int .i64 x.wh) ∧ w'.cell? ⟨w.heap.size, 2, none⟩ = some (.int .i64 x.id) ∧ w'.cell? ⟨w.heap.size, 3, none⟩ = some (.int .i64 x.fl) ∧ w'.cell? ⟨w.heap.size, 4, none⟩ = some (.int .i64 x.ma)) (go_keep)
        (first
          | (go_at_call 37; refine (d0.out _).mono ?_; rintro e wa ⟨rfl, hba⟩; clear d0; have hAa : Hid (Below w1.heap.size w1 wa) := bdZ hba; obtain ⟨ya0, ya1, ya2, ya3, ya4⟩ := hF1.out.below HLT.out hAa.out; simp only [Nat.zero_add] at ya0 ya1 ya2 ya3 ya4; rw [hal] at ya0)
          | (go_at_call 37; refine (d1.out _).mono ?_; rintro e wb ⟨rfl, hbb⟩; clear d1; have hAb : Hid (Below w1.heap.size w1 wb) := Below.on hAa.out hbb; obtain ⟨yb0, yb1, yb2, yb3, yb4⟩ := hF1.out.below HLT.out hAb.out; simp only [Nat.zero_add] at yb0 yb1 yb2 yb3 yb4; rw [hal] at yb0)
          | (go_at_call 37; refine (d2.out _).mono ?_; rintro e wc ⟨rfl, hbc⟩; clear d2; have hAc : Hid (Below w1.heap.size w1 wc) := Below.on hAb.out hbc; obtain ⟨yc0, yc1, yc2, yc3, yc4⟩ := hF1.out.below HLT.out hAc.out; simp only [Nat.zero_add] at yc0 yc1 yc2 yc3 yc4; rw [hal] at yc0)
          | (go_at_call 37; refine (d3.out _).mono ?_; rintro e wd ⟨rfl, hbd⟩; clear d3; have hAd : Hid (Below w1.heap.size w1 wd) := Below.on hAc.out hbd; obtain ⟨yd0, yd1, yd2, yd3, yd4⟩ := hF1.out.below HLT.out hAd.out; simp only [Nat.zero_add] at yd0 yd1 yd2 yd3 yd4; rw [hal] at yd0)
          | (go_at_call 37; refine (d4.out _).mono ?_; rintro e we ⟨rfl, hbe⟩; clear d4; have hAe : Hid (Below w1.heap.size w1 we) := Below.on hAd.out hbe; obtain ⟨ye0, ye1, ye2, ye3, ye4⟩ := hF1.out.below HLT.out hAe.out; simp only [Nat.zero_add] at ye0 ye1 ye2 ye3 ye4; rw [hal] at ye0)
          | (go_at_call 27; refine (HJ.out _).mono ?_; rintro e wf ⟨rfl, hbf⟩; have hAf : Hid (Below w1.heap.size w1 wf) := Below.on hAe.out hbf; obtain ⟨yf0, yf1, yf2, yf3, yf4⟩ := hF1.out.below HLT.out hAf.out; simp only [Nat.zero_add] at yf0 yf1 yf2 yf3 yf4; rw [hal] at yf0))
    have hW2 : Hid (Below w.heap.size w wf) := Below.on hW1.out hAf.out
    clear c0 c1 c2 c3 c4 ya0 ya1 ya2 ya3 ya4 yb0 yb1 yb2 yb3 yb4 yc0 yc1 yc2 yc3 yc4 yd0 yd1 yd2 yd3 yd4 ye0 ye1 ye2 ye3 ye4 yf0 yf1 yf2 yf3 yf4 hba hbb hbc hbd hbe hbf hAa hAb hAc hAd hAe hAf
    go_wp2
    go_ret
    exact ⟨ret_strN HT.out.symm, hW2.out⟩
  · have e0 : alN x = 1 := by simp [alN, hal]
    rw [e0] at d0 HJ HT
    rw [hal] at c0
    clear e0
    go_upto_region 4 with fail
    go_region_held3 (fun w' => w'.cell? ⟨w.heap.size, 0, none⟩ = some (.bool true) ∧ w'.cell? ⟨w.heap.size, 1, none⟩ = some (.int .i64 x.wh) ∧ w'.cell? ⟨w.heap.size, 2, none⟩ = some (.int .i64 x.id) ∧ w'.cell? ⟨w.heap.size, 3, none⟩ = some (.int .i64 x.fl) ∧ w'.cell? ⟨w.heap.size, 4, none⟩ = some (.int .i64 x.ma)) (go_keep)
        (first
          | (go_at_call 37; refine (d0.out _).mono ?_; rintro e wa ⟨rfl, hba⟩; clear d0; have hAa : Hid (Below w1.heap.size w1 wa) := bdZ hba; obtain ⟨ya0, ya1, ya2, ya3, ya4⟩ := hF1.out.below HLT.out hAa.out; simp only [Nat.zero_add] at ya0 ya1 ya2 ya3 ya4; rw [hal] at ya0)
          | (go_at_call 37; refine (d1.out _).mono ?_; rintro e wb ⟨rfl, hbb⟩; clear d1; have hAb : Hid (Below w1.heap.size w1 wb) := Below.on hAa.out hbb; obtain ⟨yb0, yb1, yb2, yb3, yb4⟩ := hF1.out.below HLT.out hAb.out; simp only [Nat.zero_add] at yb0 yb1 yb2 yb3 yb4; rw [hal] at yb0)
          | (go_at_call 37; refine (d2.out _).mono ?_; rintro e wc ⟨rfl, hbc⟩; clear d2; have hAc : Hid (Below w1.heap.size w1 wc) := Below.on hAb.out hbc; obtain ⟨yc0, yc1, yc2, yc3, yc4⟩ := hF1.out.below HLT.out hAc.out; simp only [Nat.zero_add] at yc0 yc1 yc2 yc3 yc4; rw [hal] at yc0)
          | (go_at_call 37; refine (d3.out _).mono ?_; rintro e wd ⟨rfl, hbd⟩; clear d3; have hAd : Hid (Below w1.heap.size w1 wd) := Below.on hAc.out hbd; obtain ⟨yd0, yd1, yd2, yd3, yd4⟩ := hF1.out.below HLT.out hAd.out; simp only [Nat.zero_add] at yd0 yd1 yd2 yd3 yd4; rw [hal] at yd0)
          | (go_at_call 37; refine (d4.out _).mono ?_; rintro e we ⟨rfl, hbe⟩; clear d4; have hAe : Hid (Below w1.heap.size w1 we) := Below.on hAd.out hbe; obtain ⟨ye0, ye1, ye2, ye3, ye4⟩ := hF1.out.below HLT.out hAe.out; simp only [Nat.zero_add] at ye0 ye1 ye2 ye3 ye4; rw [hal] at ye0)
          | (go_at_call 27; refine (HJ.out _).mono ?_; rintro e wf ⟨rfl, hbf⟩; have hAf : Hid (Below w1.heap.size w1 wf) := Below.on hAe.out hbf; obtain ⟨yf0, yf1, yf2, yf3, yf4⟩ := hF1.out.below HLT.out hAf.out; simp only [Nat.zero_add] at yf0 yf1 yf2 yf3 yf4; rw [hal] at yf0))
    have hW2 : Hid (Below w.heap.size w wf) := Below.on hW1.out hAf.out
    clear c0 c1 c2 c3 c4 ya0 ya1 ya2 ya3 ya4 yb0 yb1 yb2 yb3 yb4 yc0 yc1 yc2 yc3 yc4 yd0 yd1 yd2 yd3 yd4 ye0 ye1 ye2 ye3 ye4 yf0 yf1 yf2 yf3 yf4 hba hbb hbc hbd hbe hbf hAa hAb hAc hAd hAe hAf
    go_wp2
    go_ret
    exact ⟨ret_strN HT.out.symm, hW2.out⟩
/-- The texts that the program joins. -/
def nbL (l : List Ac) (k : Nat) : List ByteArray := encB (l.length : Int) :: (l.take k).map acB
theorem nbL_len {l : List Ac} {k : Nat} (h : k ≤ l.length) : (nbL l k).length = k + 1 := by simp [nbL]; omega
theorem nbL_next {l : List Ac} {k : Nat} (h : k < l.length) : nbL l (k + 1) = nbL l k ++ [acB (acAt l k)] := by
  rw [nbL, take_nextA h]
  simp [nbL]
theorem cat_list (L : List ByteArray) : ∀ k, k ≤ L.length → catTo (fun i => L.getD i ⟨#[]⟩) k = (L.take k).flatMap (·.data.toList) ∧ totTo (fun i => L.getD i ⟨#[]⟩) k = ((L.take k).flatMap (·.data.toList)).length := by
  intro k
  induction k with
  | zero => intro _; simp [catTo, totTo]
  | succ k ih =>
    intro hk
    obtain ⟨h1, h2⟩ := ih (by omega)
    have e : L.getD k ⟨#[]⟩ = L[k] := by simp [List.getD, show k < L.length by omega]
    have e2 : L.take (k + 1) = L.take k ++ [L[k]] := (List.take_append_getElem (by omega)).symm
    rw [e2, catTo, totTo, h1, h2, e]
    have e3 : [L[k]].flatMap (·.data.toList) = L[k].data.toList := by simp
    rw [List.flatMap_append, e3, List.length_append]
    refine ⟨rfl, ?_⟩
    rw [Lib.size_eq]
theorem nbL_flat (l : List Ac) : (nbL l l.length).flatMap (·.data.toList) = nbB l := by
  have e : ∀ l : List Ac, (l.map acB).flatMap (·.data.toList) = acesBs l := by
    intro l
    induction l with
    | nil => rfl
    | cons x l ih => rw [List.map_cons, List.flatMap_cons, ih, acesBs_cons]; simp [acB]
  rw [nbL, List.flatMap_cons, List.take_length, e]
  simp [nbB, encB]
/-- impl.join of a row of texts. -/
theorem join_row (L : List ByteArray) (hl : L.length ≤ 1000) (hp : 0 < L.length) (ht : (L.flatMap (·.data.toList)).length ≤ 100000) {B : Nat} (v : Value) (w : World) (ho : w.ownsRow B 9 1 v L.length (tv L)) :
    Calls Tryz.prog 27 #[v] w fun e w' => e = .returned (.string ⟨(L.flatMap (·.data.toList)).toArray⟩) ∧ Below w.heap.size w w' := by
  obtain ⟨a, c, rfl, hc, hcell⟩ := own_texts ho
  obtain ⟨b, rfl, hlt, hcl⟩ := hcell hp
  obtain ⟨h1, h2⟩ := cat_list L L.length (Nat.le_refl _)
  rw [List.take_length] at h1 h2
  have h := join_any (fun i => L.getD i ⟨#[]⟩) b 0 L.length c w (fun k hk => by
    have e : L.getD k ⟨#[]⟩ = L[k] := by simp [List.getD, hk]
    show w.cell? ⟨b, 0 + k, none⟩ = some (.string (L.getD k ⟨#[]⟩))
    rw [e]
    exact hcl k L[k] (List.getElem?_eq_getElem hk)) hlt (by omega) (by omega)
  rw [h1] at h
  exact h
set_option maxRecDepth 100000 in
set_option maxHeartbeats 4000000 in
/-- impl.NfsBytes of a right list. -/
theorem iNfsBytes_yes (a : Option Addr) (len cap : Nat) (l : List Ac) (hb : acesB l = true) (w : World) (hi : Acs a len l w) :
    Calls Tryz.prog 11 #[.slice a len cap] w fun e w' => e = .returned (.string (nbT l)) ∧ Below w.heap.size w w' := by
  have h32 := aces_len hb
  have hl := hi.1
  have hl32 : len ≤ 32 := by omega
  have hR : Hid (Calls Tryz.prog 35 #[.slice a len cap] w fun e w' => e = .returned (.bool true) ∧ Below w.heap.size w w') := (by have := iNfsRight_any a len cap l w hi; rwa [hb] at this)
  have HN0 : Hid (∀ w, Calls Tryz.prog 37 #[.int .i64 (len : Int)] w fun e w' => e = .returned (.string (encB (l.length : Int))) ∧ Below w.heap.size w w') := (fun w => by rw [hl]; exact iPutNum_any (len : Int) (by omega) (by omega) w)
  have HSE : Hid (∀ w, Calls Tryz.prog 39 #[.string ⟨(nbB l).toArray⟩] w fun e w' => e = .returned (.string (nbT l)) ∧ Below w.heap.size w w') := (fun w => by
    have e1 : (⟨(nbB l).toArray⟩ : ByteArray).size = (nbB l).length := by simp [ByteArray.size]
    have h1 := iSeal_yes ⟨(nbB l).toArray⟩ (by have := nbB_len hb; omega) w
    have e : nbT l = sealOf ⟨(nbB l).toArray⟩ := by rw [nbT, if_pos hb]
    rw [e]
    exact h1)
  have HJ : Hid (∀ {B : Nat} (v : Value) (w : World), w.ownsRow B 9 1 v (nbL l len).length (tv (nbL l len)) → Calls Tryz.prog 27 #[v] w fun e w' => e = .returned (.string ⟨(nbB l).toArray⟩) ∧ Below w.heap.size w w') := (fun {B} v w ho => by
    have hk := nbL_len (l := l) (k := len) (by omega)
    have e : (nbL l len).flatMap (·.data.toList) = nbB l := by rw [← hl]; exact nbL_flat l
    have h1 := join_row (nbL l len) (by omega) (by omega) (by rw [e]; have := nbB_len hb; omega) v w ho
    rwa [e] at h1)
  have HA : Hid (∀ k w, k < len → Calls Tryz.prog 38 #[.agg #[.bool (acAt l k).al, .int .i64 (acAt l k).wh, .int .i64 (acAt l k).id, .int .i64 (acAt l k).fl, .int .i64 (acAt l k).ma]] w fun e w' => e = .returned (.string (acB (acAt l k))) ∧ Below w.heap.size w w') := (fun k w hk => iAceBytes_yes _ (aces_at hb (by omega)) w)
  have HN : Hid (∀ k, k < len → nbL l (k + 1) = nbL l k ++ [acB (acAt l k)]) := (fun k hk => nbL_next (by omega))
  have HNL : Hid (∀ k, k ≤ len → (nbL l k).length = k + 1) := (fun k hk => nbL_len (by omega))
  have HN1 : Hid (nbL l 0 = [encB (l.length : Int)]) := rfl
  have HI : Hid (Acs a len l w) := hi
  clear hi hb h32 hl
  go_enter Tryz.func11, Tryz.ntmps11
  go_wp2_with fail
  refine hR.out.mono ?_
  rintro e w1 ⟨rfl, hb1⟩
  have hW1 : Hid (Below w.heap.size w w1) := hb1
  clear hb1 hR
  go_wp2_with fail
  refine (HN0.out _).mono ?_
  rintro e w2 ⟨rfl, hb2⟩
  have hW2 : Hid (Below w.heap.size w w2) := Below.on hW1.out hb2
  have hO2 : Hid ((w2.alloc (.cells #[.string (encB (l.length : Int))] 9)).ownsRow w.heap.size 9 1 (.slice (some ⟨w2.heap.size, 0, none⟩) 1 1) (nbL l 0).length (tv (nbL l 0))) := (by
    show World.ownsRow _ _ _ _ _ _ _
    rw [HN1.out]
    refine ⟨rfl, .inr ⟨w2.heap.size, 1, #[.string (encB (l.length : Int))], rfl, hW2.out.size, ?_, Nat.le_refl _, by unfold maxLen; decide, rfl, rfl⟩⟩
    rw [World.alloc]
    exact Array.getElem?_push_size)
  have hW3 : Hid (Below w.heap.size w (w2.alloc (.cells #[.string (encB (l.length : Int))] 9))) := Below.onA hW2.out
  clear hb2 hW1 HN0 HN1 hW2
  go_wp2
  go_loopw [3, 15] (fun v i wr => ∃ k : Nat, k ≤ len ∧ i = .int .i64 k ∧ Hid (wr.ownsRow w.heap.size 9 1 v (nbL l k).length (tv (nbL l k))) ∧ Hid (Below w.heap.size w wr)) (fun _ i _ => len - (intOf i).toNat)
  case atStart => exact ⟨0, Nat.zero_le _, rfl, hO2, hW3⟩
  case round =>
    obtain ⟨k, hk, rfl, hOw, hB⟩ := hrel
    by_cases hlt : k < len
    · have hlt' : (k : Int) < (len : Int) := by omega
      obtain ⟨b, off, rfl, hbl, hcl⟩ := HI.out.2 (by omega)
      obtain ⟨c0, c1, c2, c3, c4⟩ := (hcl k hlt).below hbl hB.out
      have hn : Hid _ := HN.out k hlt
      have d0 : Hid (∀ w, Calls Tryz.prog 38 #[.agg #[.bool (acAt l k).al, .int .i64 (acAt l k).wh, .int .i64 (acAt l k).id, .int .i64 (acAt l k).fl, .int .i64 (acAt l k).ma]] w fun e w' => e = .returned (.string (acB (acAt l k))) ∧ Below w.heap.size w w') := (fun w => HA.out k w hlt)
      have hlk := HNL.out k hk
      clear hcl
      generalize acB (acAt l k) = EN at d0 hn
      generalize acAt l k = x at c0 c1 c2 c3 c4 d0
      go_upto_region 7 with fail
      obtain ⟨p0, p1, p2, p3, p4⟩ := five_new wr x 24
      simp only [Nat.zero_add] at p0 p1 p2 p3 p4
      have HB1 : Hid (Below w.heap.size w (wr.alloc (.cells #[.bool x.al, .int .i64 x.wh, .int .i64 x.id, .int .i64 x.fl, .int .i64 x.ma] 24))) := Below.onA hB.out
      have HO1 : Hid ((wr.alloc (.cells #[.bool x.al, .int .i64 x.wh, .int .i64 x.id, .int .i64 x.fl, .int .i64 x.ma] 24)).ownsRow w.heap.size 9 1 u3 (nbL l k).length (tv (nbL l k))) := rowT_below hOw.out (bel_alloc _ _)
      clear c0 c1 c2 c3 c4 hOw hB
      generalize wr.alloc (.cells #[.bool x.al, .int .i64 x.wh, .int .i64 x.id, .int .i64 x.fl, .int .i64 x.ma] 24) = wa at HB1 HO1 p0 p1 p2 p3 p4 ⊢
      generalize wr.heap.size = X at p0 p1 p2 p3 p4 ⊢
      go_wp2_with fail
      refine (d0.out _).mono ?_
      rintro e wb ⟨rfl, hbb⟩
      obtain ⟨v2, wc, hr, hO3, hB3⟩ := append_text w wb u3 (nbL l k) (rowT_below HO1.out hbb) (Below.on HB1.out hbb) EN (by omega)
      rw [← hn.out] at hO3
      have HO3 : Hid _ := hO3
      have HB3 : Hid _ := hB3
      clear hO3 hB3 hbb p0 p1 p2 p3 p4 HB1 HO1 hn
      go_wp2_with (at_builtin; refine wpList_append_runT _ rfl (.tmp 19) (.tmp 22) 49 49 rfl _ _ _ _ rfl rfl hr ?_)
      clear hr
      go_wp2
      go_roundw
      case rel => exact ⟨k + 1, by omega, by go_num, HO3, HB3⟩
      case measure => simp [intOf]; omega
    · have : k = len := by omega
      subst this
      go_wp2_with fail
      refine (HJ.out _ _ hOw.out).mono ?_
      rintro e w4 ⟨rfl, hb4⟩
      have hW4 : Hid (Below w.heap.size w w4) := Below.on hB.out hb4
      clear hb4
      go_wp2_with fail
      refine (HSE.out _).mono ?_
      rintro e w5 ⟨rfl, hb5⟩
      have hW5 : Hid (Below w.heap.size w w5) := Below.on hW4.out hb5
      clear hb5
      go_wp2
      go_ret
      exact ⟨rfl, hW5.out⟩
set_option maxHeartbeats 2000000 in
/-- impl.NfsBytes. -/
theorem iNfsBytes_any (a : Option Addr) (len cap : Nat) (l : List Ac) (w : World) (hi : Acs a len l w) :
    Calls Tryz.prog 11 #[.slice a len cap] w fun e w' => e = .returned (.string (nbT l)) ∧ Below w.heap.size w w' := by
  cases hb : acesB l
  · have hR : Hid (Calls Tryz.prog 35 #[.slice a len cap] w fun e w' => e = .returned (.bool false) ∧ Below w.heap.size w w') := (by have := iNfsRight_any a len cap l w hi; rwa [hb] at this)
    have hn : nbT l = ⟨#[]⟩ := by rw [nbT, hb]; rfl
    rw [hn]
    clear hn hb hi
    go_enter Tryz.func11, Tryz.ntmps11
    go_wp2_with fail
    refine hR.out.mono ?_
    rintro e w1 ⟨rfl, hb1⟩
    have hW1 : Hid (Below w.heap.size w w1) := hb1
    clear hb1 hR
    go_wp2
    go_ret
    exact ⟨rfl, hW1.out⟩
  · exact iNfsBytes_yes a len cap l hb w hi
end Go.Proofs.YtedahdncincgjaaGreatDoor
