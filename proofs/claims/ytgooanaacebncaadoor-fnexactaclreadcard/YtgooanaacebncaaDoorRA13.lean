/- Laid together: BitsMath, Signs. -/
import Derived.Test.YtgooanaacebncaaDoorRA8
import Derived.Laws.RangeAny
import Derived.Handy
import Derived.Lib.SlBytesConst
/- Bits as three signs, and back: plain mathematics. Nothing here names a program. -/
namespace Go.Proofs.YtgooanaacebncaaDoor
open Go.RowKit Go.PlainAid
set_option linter.unusedVariables false
/-- A sign, or a stroke. -/
def sg (x : Bool) (c : UInt8) : UInt8 := if x then c else 45
def b4 (n : Nat) : Bool := n / 4 % 2 == 1
def b2 (n : Nat) : Bool := n / 2 % 2 == 1
def b1 (n : Nat) : Bool := n % 2 == 1
/-- The three signs of bits. -/
def bitsT (n : Nat) : ByteArray := ⟨#[sg (b4 n) 114, sg (b2 n) 119, sg (b1 n) 120]⟩
/-- BitsText, of whatever number. -/
def bitsS (n : Int) : ByteArray := if 0 ≤ n ∧ n ≤ 7 then bitsT n.toNat else ⟨#[]⟩
theorem bitsS_in {n : Nat} (h : n ≤ 7) : bitsS n = bitsT n := by
  have : 0 ≤ (n : Int) ∧ (n : Int) ≤ 7 := by omega
  simp [bitsS, this]
theorem bitsS_off {n : Int} (h : ¬ (0 ≤ n ∧ n ≤ 7)) : bitsS n = ⟨#[]⟩ := by rw [bitsS, if_neg h]
theorem eight {n : Nat} (h : n ≤ 7) : n = 0 ∨ n = 1 ∨ n = 2 ∨ n = 3 ∨ n = 4 ∨ n = 5 ∨ n = 6 ∨ n = 7 := by omega
theorem sg_toNat (x : Bool) (c : UInt8) : ((sg x c).toNat : Int) = if x then (c.toNat : Int) else 45 := by cases x <;> rfl
end Go.Proofs.YtgooanaacebncaaDoor
/- impl.bitsSigns: the world that it leaves, and its contract: three signs in a row of its own. -/
namespace Go.Proofs.YtgooanaacebncaaDoor
open Go.RowKit Go.PlainAid
set_option linter.unusedVariables false
set_option linter.unusedSimpArgs false
theorem cells3_bytes {w : World} {B : Nat} {a b c : UInt8} (h0 : w.cell? ⟨B, 0, none⟩ = some (.int .u8 a.toNat)) (h1 : w.cell? ⟨B, 1, none⟩ = some (.int .u8 b.toNat)) (h2 : w.cell? ⟨B, 2, none⟩ = some (.int .u8 c.toNat)) : Lib.Bytes w B 0 ⟨#[a, b, c]⟩ := by
  intro i hi
  have hi3 : i < 3 := hi
  rcases (by omega : i = 0 ∨ i = 1 ∨ i = 2) with rfl | rfl | rfl
  · exact h0
  · exact h1
  · exact h2
/-- The world of bitsSigns: its three signs, and the iterator over 'rwx'. -/
def sW (w : World) (a b c : Int) (k : Nat) : World := (w.alloc (.cells #[.int .u8 a, .int .u8 b, .int .u8 c] 5 (3, 4))).iter ⟨#[114, 119, 120]⟩ k
theorem sW_next (w : World) (a b c : Int) (k : Nat) (x : UInt8) (hk : k < (⟨#[114, 119, 120]⟩ : ByteArray).size) (hb : (⟨#[114, 119, 120]⟩ : ByteArray)[k]'hk = x) (hc : x.toNat < 128) (ty : TypeId) :
    (Instr.next (.pointer (some ⟨w.heap.size + 1, 0, none⟩)) true ty).run Tryd.prog (sW w a b c k) = .ok (.tuple #[.bool true, .int .i64 k, .int .i32 x.toNat]) (sW w a b c (k + 1)) := by
  have h := run_next_ascii (P := Tryd.prog) (w.alloc (.cells #[.int .u8 a, .int .u8 b, .int .u8 c] 5 (3, 4))) ⟨#[114, 119, 120]⟩ k ty hk (by rw [hb]; exact hc)
  have e : (w.alloc (.cells #[.int .u8 a, .int .u8 b, .int .u8 c] 5 (3, 4))).heap.size = w.heap.size + 1 := by simp
  rw [e, hb] at h
  exact h
theorem sW_end (w : World) (a b c : Int) (ty : TypeId) :
    (Instr.next (.pointer (some ⟨w.heap.size + 1, 0, none⟩)) true ty).run Tryd.prog (sW w a b c 3) = .ok (.tuple #[.bool false]) (sW w a b c 3) := by
  have h := run_next_end (P := Tryd.prog) (w.alloc (.cells #[.int .u8 a, .int .u8 b, .int .u8 c] 5 (3, 4))) ⟨#[114, 119, 120]⟩ 3 ty (by decide)
  have e : (w.alloc (.cells #[.int .u8 a, .int .u8 b, .int .u8 c] 5 (3, 4))).heap.size = w.heap.size + 1 := by simp
  rw [e] at h
  exact h
theorem sW_block (w : World) (a b c : Int) (k : Nat) : (sW w a b c k).heap[w.heap.size]? = some (.cells #[.int .u8 a, .int .u8 b, .int .u8 c] 5 (3, 4)) := by
  unfold sW World.iter World.alloc
  simp [Array.getElem?_push]
theorem sW_cell (w : World) (a b c : Int) (k : Nat) : (sW w a b c k).cell? ⟨w.heap.size, 0, none⟩ = some (.int .u8 a) ∧ (sW w a b c k).cell? ⟨w.heap.size, 1, none⟩ = some (.int .u8 b) ∧ (sW w a b c k).cell? ⟨w.heap.size, 2, none⟩ = some (.int .u8 c) := by
  refine ⟨?_, ?_, ?_⟩ <;> simp [World.cell?, sW_block]
theorem sW_frozen (w : World) (a b c : Int) (k : Nat) : (sW w a b c k).frozen? ⟨w.heap.size, 0, none⟩ = false ∧ (sW w a b c k).frozen? ⟨w.heap.size, 1, none⟩ = false ∧ (sW w a b c k).frozen? ⟨w.heap.size, 2, none⟩ = false := by
  refine ⟨?_, ?_, ?_⟩ <;> simp [World.frozen?, sW_block]
theorem modify_push2 (h : Array Obj) (x y : Obj) (f : Obj → Obj) : ((h.push x).push y).modify h.size f = (h.push (f x)).push y := by
  apply Array.ext
  · simp
  · intro i h1 h2
    simp only [Array.getElem_modify, Array.getElem_push, Array.size_push]
    by_cases e : h.size = i
    · subst e
      simp
    · simp at h1
      by_cases e2 : i < h.size
      · simp [e, e2]
      · obtain rfl : i = h.size + 1 := by omega
        simp
theorem sW_set (w : World) (a b c : Int) (k : Nat) (x : Int) : (sW w a b c k).setCell ⟨w.heap.size, 0, none⟩ (.int .u8 x) = sW w x b c k ∧ (sW w a b c k).setCell ⟨w.heap.size, 1, none⟩ (.int .u8 x) = sW w a x c k ∧ (sW w a b c k).setCell ⟨w.heap.size, 2, none⟩ (.int .u8 x) = sW w a b x k := by
  refine ⟨?_, ?_, ?_⟩ <;> (unfold sW World.iter World.alloc World.setCell; simp only [modify_push2]; simp)
set_option maxHeartbeats 1000000 in
theorem bs_any (n : Int) (x4 x2 x1 : Bool) (h4 : (bits .and .i64 n 4 != 0) = x4) (h2 : (bits .and .i64 n 2 != 0) = x2) (h1 : (bits .and .i64 n 1 != 0) = x1) (w : World) :
    Calls Tryd.prog 149 #[.int .i64 n] w fun e w' => e = .returned (.slice (some ⟨w.heap.size, 0, none⟩) 3 3) ∧ w' = sW w (if x4 then 114 else 45) (if x2 then 119 else 45) (if x1 then 120 else 45) 3 := by
  have kc := fun (w : World) (C : Array Value) (n c : Nat) => Lib.run_convert_bytes_const (P := Tryd.prog) w 22 5 C n c Tryd.underlying22 Tryd.underlying5
  have s0 : (w.alloc (.cells #[.int .u8 45, .int .u8 45, .int .u8 45] 5 (3, 4))).iter ⟨#[114, 119, 120]⟩ 0 = sW w 45 45 45 0 := rfl
  have n0 := fun a b c => sW_next w a b c 0 114 (by decide) rfl (by decide)
  have n1 := fun a b c => sW_next w a b c 1 119 (by decide) rfl (by decide)
  have n2 := fun a b c => sW_next w a b c 2 120 (by decide) rfl (by decide)
  have n3 := sW_end w
  have c0 := sW_cell w
  have f0 := sW_frozen w
  have t0 := sW_set w
  cases x4 <;> cases x2 <;> cases x1
  all_goals (
    go_enter Tryd.func149, Tryd.ntmps149
    go_wp2
    go_rounds 4)
  all_goals (go_ret; exact ⟨rfl, rfl⟩)
theorem sW_text (w : World) (a b c : UInt8) (k : Nat) :
    (convert 22 9 (.slice (some ⟨w.heap.size, 0, none⟩) 3 3)).run Tryd.prog (sW w a.toNat b.toNat c.toNat k) = .ok (.string ⟨#[a, b, c]⟩) (sW w a.toNat b.toNat c.toNat k) :=
  run_convert_text (P := Tryd.prog) _ 22 5 9 Tryd.underlying22 Tryd.underlying5 Tryd.underlying9 w.heap.size 0 [a, b, c] 3 3 rfl (cells3_bytes (sW_cell w _ _ _ k).1 (sW_cell w _ _ _ k).2.1 (sW_cell w _ _ _ k).2.2)
theorem sW_below (w : World) (a b c : Int) (k : Nat) : Below w.heap.size w (sW w a b c k) :=
  ((Below.refl _ _).alloc (Nat.le_refl _) _).alloc (by simp) _
/-- impl.bitsSigns of bits. -/
theorem bitsSigns_in (n : Nat) (h : n ≤ 7) (w : World) :
    Calls Tryd.prog 149 #[.int .i64 n] w fun e w' => e = .returned (.slice (some ⟨w.heap.size, 0, none⟩) 3 3) ∧ w' = sW w (sg (b4 n) 114).toNat (sg (b2 n) 119).toNat (sg (b1 n) 120).toNat 3 := by
  simp only [sg_toNat]
  rcases eight h with rfl | rfl | rfl | rfl | rfl | rfl | rfl | rfl <;> exact bs_any _ _ _ _ (by decide) (by decide) (by decide) w
end Go.Proofs.YtgooanaacebncaaDoor
