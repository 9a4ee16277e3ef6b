/- Laid together: NumMath, Source. -/
import Derived.WalkKit
import Derived.WalkSpells
import Derived.PlainAid
import Derived.Laws.BitsAllLaws
import Derived.Laws.Bits128
import Derived.Test.YtgojbilbkfilgaaNb1
import Derived.Maps.AppendAt
/- Plain mathematics of PutNum: the number that is written, its bytes, and rows of bytes that grow. Nothing here names a program. -/
namespace Go.Proofs.Ytgojbilbkfilgaa
open Go.RowKit Go.PlainAid
set_option linter.unusedVariables false
/-- n of int64 as a number from 0 to 2^64-1. -/
def foldN (n : Int) : Nat := if n < 0 then (-2 * n - 1).toNat else (2 * n).toNat
theorem fold_neg {n : Int} (h : n < 0) : (foldN n : Int) = 2 * -(n + 1) + 1 := by unfold foldN; rw [if_pos h]; omega
theorem fold_pos {n : Int} (h : 0 ≤ n) : (foldN n : Int) = 2 * n := by unfold foldN; rw [if_neg (by omega)]; omega
theorem fold_le {n : Int} (h1 : -9223372036854775808 ≤ n) (h2 : n ≤ 9223372036854775807) : foldN n ≤ 18446744073709551615 := by
  unfold foldN; split <;> omega
theorem xor_ones (x : Nat) (h : x < 2 ^ 64) : x ^^^ 18446744073709551615 = 18446744073709551615 - x := by
  apply Nat.eq_of_testBit_eq
  intro i
  have e : (18446744073709551615 : Nat) = 2 ^ 64 - 1 := by decide
  have e2 : 18446744073709551615 - x = 2 ^ 64 - (x + 1) := by omega
  rw [Nat.testBit_xor, e2, Nat.testBit_two_pow_sub_succ h, e, Nat.testBit_two_pow_sub_one]
  by_cases hi : i < 64
  · simp [hi]
  · have hx : x.testBit i = false := Nat.testBit_lt_two_pow (Nat.lt_of_lt_of_le h (Nat.pow_le_pow_right (by decide) (by omega)))
    simp [hi, hx]
/-- impl's way to it: 'uint64(n)<<1 ^ uint64(n>>63)'. -/
theorem fold_bits {n : Int} (h1 : -9223372036854775808 ≤ n) (h2 : n ≤ 9223372036854775807) :
    bits .xor .u64 (IntKind.u64.wrap (IntKind.u64.wrap n * 2)) (IntKind.u64.wrap (n / 9223372036854775808)) = (foldN n : Int) := by
  by_cases hn : n < 0
  · have e1 : n / 9223372036854775808 = -1 := by omega
    rw [fold_neg hn, e1, IntKind.wrap_u64, IntKind.wrap_u64, IntKind.wrap_u64]
    have e2 : n % 18446744073709551616 * 2 % 18446744073709551616 = 2 * n + 18446744073709551616 := by omega
    have e3 : (-1 : Int) % 18446744073709551616 = 18446744073709551615 := by decide
    rw [e2, e3, u64_xor _ _ (by omega) (by omega) (by decide) (by decide)]
    have e4 : ((18446744073709551615 : Int)).toNat = 18446744073709551615 := rfl
    rw [e4, xor_ones _ (by omega)]
    omega
  · have e1 : n / 9223372036854775808 = 0 := by omega
    rw [fold_pos (by omega), e1, IntKind.wrap_u64, IntKind.wrap_u64, IntKind.wrap_u64]
    have e2 : n % 18446744073709551616 * 2 % 18446744073709551616 = 2 * n := by omega
    have e3 : (0 : Int) % 18446744073709551616 = 0 := by decide
    rw [e2, e3, u64_xor _ _ (by omega) (by omega) (by decide) (by decide)]
    have e4 : ((0 : Int)).toNat = 0 := rfl
    rw [e4, Nat.xor_zero]
    omega
/-- The bytes of a number, seven bits a byte, the lowest first, 128 more in all but the last. -/
def encF : Nat → Nat → List UInt8
  | 0, _ => []
  | f + 1, u => if u < 128 then [UInt8.ofNat u] else UInt8.ofNat (u % 128 + 128) :: encF f (u / 128)
/-- Ten bytes at most: a number below 2^64. -/
def enc (u : Nat) : List UInt8 := encF (u + 1) u
theorem encF_more (f g u : Nat) (hf : u < f) (hg : u < g) : encF f u = encF g u := by
  induction f generalizing g u with
  | zero => omega
  | succ f ih =>
    cases g with
    | zero => omega
    | succ g =>
      unfold encF
      by_cases h : u < 128
      · simp [h]
      · simp only [h, if_false]
        rw [ih g (u / 128) (by omega) (by omega)]
theorem enc_last {u : Nat} (h : u < 128) : enc u = [UInt8.ofNat u] := by simp [enc, encF, h]
theorem enc_more {u : Nat} (h : 128 ≤ u) : enc u = UInt8.ofNat (u % 128 + 128) :: enc (u / 128) := by
  have h2 : ¬ u < 128 := by omega
  unfold enc
  rw [encF, if_neg h2, encF_more u (u / 128 + 1) (u / 128) (by omega) (by omega)]
theorem enc_length (k : Nat) : ∀ u, u < 128 ^ (k + 1) → (enc u).length ≤ k + 1 := by
  induction k with
  | zero => intro u hu; rw [enc_last (by simpa using hu)]; simp
  | succ k ih =>
    intro u hu
    by_cases h : u < 128
    · rw [enc_last h]; simp
    · rw [enc_more (by omega)]
      have := ih (u / 128) (by rw [Nat.div_lt_iff_lt_mul (by decide), ← Nat.pow_succ]; exact hu)
      simp only [List.length_cons]
      omega
theorem enc_ten {u : Nat} (h : u ≤ 18446744073709551615) : (enc u).length ≤ 10 := enc_length 9 u (by omega)
theorem enc_pos (u : Nat) : 0 < (enc u).length := by
  by_cases h : u < 128
  · rw [enc_last h]; simp
  · rw [enc_more (by omega)]; simp
theorem enc_step {acc : List UInt8} {u m : Nat} (h : 128 ≤ u) (e : acc ++ enc u = enc m) : (acc ++ [UInt8.ofNat (u % 128 + 128)]) ++ enc (u / 128) = enc m := by
  rw [← e, enc_more h]; simp
theorem enc_end {acc : List UInt8} {u m : Nat} (h : u < 128) (e : acc ++ enc u = enc m) : acc ++ [UInt8.ofNat u] = enc m := by
  rw [← e, enc_last h]
theorem acc_le {acc : List UInt8} {u m : Nat} (hm : m ≤ 18446744073709551615) (e : acc ++ enc u = enc m) : acc.length ≤ 9 := by
  have h1 := enc_ten hm
  have h2 := enc_pos u
  rw [← e] at h1
  simp only [List.length_append] at h1
  omega
/-- A byte put behind a row of bytes. -/
theorem cells_snoc (acc : List UInt8) (x : Nat) (h : x < 256) : Lib.byteCells acc ++ [Value.int .u8 (x : Int)] = Lib.byteCells (acc ++ [UInt8.ofNat x]) := by
  simp [Lib.byteCells]
  omega
theorem own_snoc {w : World} {B : Nat} {t : TypeId} {v : Value} {acc : List UInt8} {x : Nat} {y : Int} (hy : y = (x : Int)) (h : x < 256) (ho : w.ownsRow B t 1 v (acc.length + 1) (Lib.byteCells acc ++ [Value.int .u8 y])) :
    w.ownsRow B t 1 v (acc ++ [UInt8.ofNat x]).length (Lib.byteCells (acc ++ [UInt8.ofNat x])) := by
  subst hy
  rw [← cells_snoc acc x h, List.length_append]
  exact ho
theorem own_start (w : World) (t : TypeId) : (w.alloc (.cells #[] t)).ownsRow w.heap.size t 1 (.slice (some ⟨w.heap.size, 0, none⟩) 0 0) ([] : List UInt8).length (Lib.byteCells []) := by
  refine ⟨rfl, .inr ⟨w.heap.size, 0, #[], rfl, Nat.le_refl _, ?_, Nat.le_refl _, by decide, rfl, rfl⟩⟩
  rw [World.alloc]
  exact Array.getElem?_push_size
/-- Of a row that is owned and not empty: where it lies, and that it reads as a text. -/
theorem own_bytes {w : World} {B : Nat} {t : TypeId} {v : Value} {l : List UInt8} (h : w.ownsRow B t 1 v l.length (Lib.byteCells l)) (hl : 0 < l.length) :
    ∃ g cap, v = .slice (some ⟨g, 0, none⟩) l.length cap ∧ Lib.Bytes w g 0 ⟨l.toArray⟩ := by
  obtain ⟨_, h | ⟨g, cap, cur, rfl, _, hg, hc, _, hs, ht⟩⟩ := h
  · omega
  · refine ⟨g, cap, rfl, ?_⟩
    intro i hi
    have hi' : i < l.length := by simpa [ByteArray.size] using hi
    have e1 : (Lib.byteCells l)[i]? = some (.int .u8 (l[i].toNat : Int)) := by simp [Lib.byteCells, hi']
    have e2 : cur[i]? = some (.int .u8 (l[i].toNat : Int)) := by
      rw [← ht, List.getElem?_take_of_lt (by omega)] at e1
      simpa using e1
    have : w.cell? ⟨g, 0 + i, none⟩ = cur[i]? := by simp [World.cell?, hg]
    rw [this, e2]
    rfl
/-- Behind the last byte. -/
theorem own_last {w : World} {B : Nat} {t : TypeId} {v : Value} {acc : List UInt8} {u m : Nat} {y : Int} (hy : y = (u : Int)) (h : u < 128) (e : acc ++ enc u = enc m) (ho : w.ownsRow B t 1 v (acc.length + 1) (Lib.byteCells acc ++ [Value.int .u8 y])) :
    ∃ g cap, v = .slice (some ⟨g, 0, none⟩) (enc m).length cap ∧ Lib.Bytes w g 0 ⟨(enc m).toArray⟩ := by
  have h1 := own_snoc hy (by omega) ho
  rw [enc_end h e] at h1
  exact own_bytes h1 (enc_pos m)
theorem own_block {w : World} {B : Nat} {t : TypeId} {v : Value} {n : Nat} {xs : List Value} (h : w.ownsRow B t 1 v n xs) : ∀ k, v.ownBlock = some k → B ≤ k := by
  obtain ⟨_, ⟨rfl, _⟩ | ⟨g, cap, cur, rfl, hb, _⟩⟩ := h
  · intro k hk; simp [Value.ownBlock] at hk
  · intro k hk; simp [Value.ownBlock] at hk; omega
theorem one_cell (x : Int) : ∀ u ∈ [Value.int .u8 x], u.oneCell' = true := by
  intro u hu
  simp at hu
  subst hu
  rfl
end Go.Proofs.Ytgojbilbkfilgaa
/- The contracts of spec.l01Source and of the source's bytes and edge. -/
namespace Go.Proofs.Ytgojbilbkfilgaa
open Go.RowKit
set_option linter.unusedVariables false
theorem Code.below {a : Option Addr} {len : Nat} {g : Nat → Int} {w w' : World} (h : Code a len g w.heap.size w) (hb : Below w.heap.size w w') : Code a len g w.heap.size w' :=
  ⟨h.1, h.2.1, fun hl => by
    obtain ⟨b, off, e, hlt, hc⟩ := h.2.2 hl
    exact ⟨b, off, e, hlt, fun i hi => (hb.cell (p := ⟨b, off + i, none⟩) hlt).trans (hc i hi)⟩⟩
theorem infoB : (Try.prog.info? 5).map (fun i => (i.zero, i.size, i.bytes)) = some (some (.int .u8 0), 1, 1) := by kernel_rfl
theorem src_alloc {a : Option Addr} {len cap : Nat} {g : Nat → Int} {p : Nat} {w : World} (h : Src a len cap g p w) (o : Obj) : Src a len cap g p (w.alloc o) :=
  h.kept fun k hk => (World.grownBy_alloc w o none).block k (by have := h.pos; omega) (by simp)
/-- A row of the call's own, behind a draw. -/
theorem own_keep {w w1 : World} {B p : Nat} {t : TypeId} {v : Value} {n : Nat} {xs : List Value} (h : w.ownsRow B t 1 v n xs) (ho : Ownp p w w1) (hp : p < B) : w1.ownsRow B t 1 v n xs := by
  refine h.kept ho ?_
  cases hv : v.ownBlock with
  | none => exact .inl rfl
  | some k => exact .inr (by have := own_block h k hv; intro e; cases e; omega)
theorem own_grown {p : Nat} {w w1 w2 : World} {row : Option Nat} (h : Ownp p w w1) (hg : w1.grownBy w2 row) (hr : ∀ k, row = some k → w.heap.size ≤ k) : Ownp p w w2 :=
  ⟨hg.os.trans h.os, hg.tape.trans h.tape, hg.output.trans h.output, Nat.le_trans h.size hg.size, fun k hk hne =>
    (hg.block k (Nat.lt_of_lt_of_le hk h.size) (fun e => by have := hr k e.symm; omega)).trans (h.block k hk hne)⟩
theorem src_grown {a : Option Addr} {len cap : Nat} {g : Nat → Int} {p : Nat} {w w' : World} {row : Option Nat} (h : Src a len cap g p w) (hg : w.grownBy w' row) (hr : ∀ k, row = some k → p < k) : Src a len cap g p w' :=
  h.kept fun k hk => hg.block k (by have := h.pos; omega) (fun e => by have := hr k e.symm; omega)
/-- A row that is owned, as a text; an empty one too. -/
theorem own_text {P : Program} (src e dst : TypeId) (hs : P.underlying src = some (.slice e)) (he : P.underlying e = some (.int .u8)) (hd : P.underlying dst = some .string) {w : World} {B : Nat} {t : TypeId} {v : Value} {l : List UInt8} (h : w.ownsRow B t 1 v l.length (Lib.byteCells l)) :
    ∃ a cap, v = .slice a l.length cap ∧ (convert src dst (.slice a l.length cap)).run P w = .ok (.string ⟨l.toArray⟩) w := by
  by_cases hl : 0 < l.length
  · obtain ⟨g, cap, rfl, hb⟩ := own_bytes h hl
    exact ⟨_, cap, rfl, run_convert_text w src e dst hs he hd g 0 l _ cap rfl hb⟩
  · obtain rfl : l = [] := List.eq_nil_of_length_eq_zero (by omega)
    obtain ⟨_, ⟨rfl, _⟩ | ⟨g, cap, cur, rfl, _, hg, _⟩⟩ := h
    · exact ⟨none, 0, rfl, run_convert_bytes_nil (P := P) w src e hs he 0 0 dst hd⟩
    · exact ⟨_, cap, rfl, run_convert_text w src e dst hs he hd g 0 [] 0 cap rfl (fun i hi => absurd hi (by simp [ByteArray.size]))⟩
theorem wrap_bd (x : Int) : 0 ≤ IntKind.u64.wrap x ∧ IntKind.u64.wrap x ≤ 18446744073709551615 := bounds_u64 (wf_wrap .u64 x)
theorem blk_new (w : World) (x : Obj) : (w.alloc x).heap[w.heap.size]? = some x := by
  rw [World.alloc]
  exact Array.getElem?_push_size
set_option maxRecDepth 100000 in
set_option maxHeartbeats 2000000 in
theorem source_any (a : Option Addr) (len cap : Nat) (g : Nat → Int) (w : World) (hc : Code a len g w.heap.size w) :
    Calls Try.prog 59 #[.slice a len cap] w fun e w' => e = .returned (.pointer (some ⟨w.heap.size, 0, none⟩)) ∧ Src a len cap g w.heap.size w' ∧ Below w.heap.size w w' := by
  have HC : Hid (Code a len g w.heap.size w) := hc
  obtain ⟨hlen, hg, hrow⟩ := hc
  have HR : Hid (0 < len → ∃ b off, a = some ⟨b, off, none⟩ ∧ b < w.heap.size ∧ ∀ i, i < len → w.cell? ⟨b, off + i, none⟩ = some (.int .u8 (g i))) := hrow
  have HG : Hid (∀ i, 0 ≤ g i ∧ g i ≤ 255) := hg
  clear hrow hg
  go_enter Try.func59, Try.ntmps59
  go_wp2
  go_loopw [4] (fun i wr => ∃ (k : Nat) (mix : Int), k ≤ len ∧ k ≤ 64 ∧ i = .int .i64 k ∧ 0 ≤ mix ∧ mix ≤ 18446744073709551615 ∧ Hid (wr.heap[w.heap.size]? = some (srcBlk a len cap 0 mix 0)) ∧ Below w.heap.size w wr) (fun i _ => len - (intOf i).toNat)
  case atStart => exact ⟨0, _, Nat.zero_le _, Nat.zero_le _, rfl, by decide, by decide, blk_new w _, (Below.refl _ _).alloc (Nat.le_refl _) _⟩
  case round =>
    obtain ⟨k, mix, hk, hk2, rfl, m1, m2, hblk, hbel⟩ := hrel
    obtain ⟨⟨k0, k1, k2, k3⟩, f1, f2, f3⟩ := blk_cells hblk.out
    by_cases hlt : k < len ∧ k < 64
    · obtain ⟨b, off, hae, hbp, hcell⟩ := HR.out (by omega)
      have hz : wr.cell? ⟨b, off + k, none⟩ = some (.int .u8 (g k)) := (hbel.cell (by exact hbp)).trans (hcell k hlt.1)
      obtain ⟨z1, z2⟩ := HG.out k
      have t1 : (k : Int) < (len : Int) := by omega
      have t2 : (k : Int) < 64 := by omega
      clear hcell hlt
      subst hae
      go_wp2
      go_region
      go_wp2
      go_roundw
      case rel => exact ⟨k + 1, _, by omega, by omega, by go_num, (wrap_bd _).1, (wrap_bd _).2, blk_set2 hblk.out _, (hbel.setCell (Nat.le_refl _) _).drew⟩
      case measure => simp [intOf]; omega
    · by_cases h1 : k < len
      · have t1 : (k : Int) < (len : Int) := by omega
        have t2 : decide ((k : Int) < 64) = false := by simp; omega
        clear hlt
        by_cases h12 : 12 < (len : Int) / 20
        · go_wp2
          go_ret
          exact ⟨rfl, ⟨HC.out.below ((hbel.setCell (Nat.le_refl _) _).setCell (Nat.le_refl _) _), 0, mix, 12, Nat.zero_le _, m1, m2, by decide, by decide, blk_set3 (blk_set3 hblk.out _) _⟩, (hbel.setCell (Nat.le_refl _) _).setCell (Nat.le_refl _) _⟩
        · have h13 : 0 ≤ (len : Int) / 20 := by omega
          have h14 : (len : Int) / 20 ≤ 12 := by omega
          go_wp2
          go_ret
          exact ⟨rfl, ⟨HC.out.below (hbel.setCell (Nat.le_refl _) _), 0, mix, (len : Int) / 20, Nat.zero_le _, m1, m2, h13, h14, blk_set3 hblk.out _⟩, hbel.setCell (Nat.le_refl _) _⟩
      · have t1 : decide ((k : Int) < (len : Int)) = false := by simp; omega
        have h13 : 0 ≤ (len : Int) / 20 := by omega
        have h14 : (len : Int) / 20 ≤ 12 := by omega
        clear hlt
        go_wp2
        go_ret
        exact ⟨rfl, ⟨HC.out.below (hbel.setCell (Nat.le_refl _) _), 0, mix, (len : Int) / 20, Nat.zero_le _, m1, m2, h13, h14, blk_set3 hblk.out _⟩, hbel.setCell (Nat.le_refl _) _⟩
end Go.Proofs.Ytgojbilbkfilgaa
