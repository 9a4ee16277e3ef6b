/- Laid together: Bytes, Draws, NumMath, Source. -/
import Derived.WalkKit
import Derived.WalkSpells
import Derived.Laws.CopyOwn
import Derived.Lib.BufferWrite
import Derived.Lib.SlBytesRow
import Derived.Test.YtedahdncincgjaaGreatDoorRows
import Derived.WalkLawsBesides
import Derived.BigRegion
import Derived.OpenShut
import Derived.PlainAid
import Derived.Laws.BitsAllLaws
import Derived.Laws.Bits128
import Derived.Maps.AppendAt
/- Plain laws on bytes and rows that several functions lean on: what lies in a row of bytes that is being filled, 'copy' from a string into such a row, the row as a text. Nothing here names a program. -/
namespace Go.Proofs.YtedahdncincgjaaGreatDoor
open Go.RowKit Go.Lib
set_option linter.unusedVariables false
/-- The bytes of the first k parts. -/
def catTo (f : Nat → ByteArray) : Nat → List UInt8
  | 0 => []
  | k + 1 => catTo f k ++ (f k).data.toList
/-- How many they are. -/
def totTo (f : Nat → ByteArray) : Nat → Nat
  | 0 => 0
  | k + 1 => totTo f k + (f k).size
theorem catTo_length (f : Nat → ByteArray) (k : Nat) : (catTo f k).length = totTo f k := by
  induction k with
  | zero => rfl
  | succ k ih => simp [catTo, totTo, ih]
theorem totTo_mono (f : Nat → ByteArray) {k n : Nat} (h : k ≤ n) : totTo f k ≤ totTo f n := by
  induction n with
  | zero => obtain rfl : k = 0 := by omega
            exact Nat.le_refl _
  | succ n ih =>
    by_cases hk : k = n + 1
    · subst hk; exact Nat.le_refl _
    · have := ih (by omega); simp only [totTo]; omega
theorem totTo_part (f : Nat → ByteArray) {k n : Nat} (h : k < n) : totTo f k + (f k).size ≤ totTo f n := totTo_mono f (k := k + 1) h
/-- The row: the bytes that have come, zeros behind them. -/
def rowTo (l : List UInt8) (n : Nat) : List Value := byteCells l ++ List.replicate (n - l.length) (.int .u8 0)
theorem rowTo_length (l : List UInt8) (n : Nat) (h : l.length ≤ n) : (rowTo l n).length = n := by
  simp [rowTo, byteCells_length]; omega
theorem rowTo_full (l : List UInt8) : rowTo l l.length = byteCells l := by simp [rowTo]
theorem rowTo_splice (l m : List UInt8) (n : Nat) (h : l.length + m.length ≤ n) : splice (rowTo l n) l.length (byteCells m) = rowTo (l ++ m) n := by
  have hl : (byteCells l).length = l.length := byteCells_length l
  have hm : (byteCells m).length = m.length := byteCells_length m
  unfold splice rowTo
  rw [List.take_append_of_le_length (by omega), List.take_of_length_le (by omega), hm, List.drop_append, List.drop_of_length_le (by omega), hl, List.nil_append,
    Nat.add_sub_cancel_left, List.drop_replicate]
  have e1 : byteCells (l ++ m) = byteCells l ++ byteCells m := by simp [byteCells]
  rw [e1, List.append_assoc, List.length_append, Nat.sub_sub]
theorem made_row (n : Nat) : madeCells #[Value.int .u8 0] n = (rowTo [] n).toArray := by
  apply Array.ext
  · simp [size_madeCells, rowTo, byteCells]
  · intro i h1 h2
    simp [madeCells, rowTo, byteCells, Nat.mod_one]
/-- 'copy(dst, s)', s a string, into a row of the call's own: the place given by the prover. -/
theorem wpList_copy_str {P : Program} {w : World} {ops : Array Oper} {rest : List Oper} {o : Oper} {a : Act} {Q : Exit → Act → World → Prop} (hgd : o.guard = none) (d s : Operand) (dT sT : TypeId)
    (ho : o.op = .call { callee := .builtin .copy, args := #[d, s], argTypes := #[dT, sT] }) (elem : TypeId) (hu : P.underlying dT = some (.slice elem)) (hsz : (P.info? elem).map (·.size) = some 1)
    (dp : Option Addr) (dLen dCap : Nat) (x : ByteArray) (hd : a.eval d = .slice dp dLen dCap) (hs : a.eval s = .string x)
    (g off : Nat) (cur : List Value) (t : TypeId) (hg : w.heap[g]? = some (.cells cur.toArray t (0, 0))) (hle : x.size ≤ dLen)
    (hpos : 0 < x.size → dp = some ⟨g, off, none⟩) (hfit : off + x.size ≤ cur.length) (B : Nat) (w0 : World) (hb : Below B w0 w) (hBg : B ≤ g)
    (h : ∀ w', Hid (w'.heap[g]? = some (.cells (splice cur off (byteCells x.data.toList)).toArray t (0, 0))) → Below B w0 w' → wpList P ops Q rest (a.put o.dst (goInt x.size)) w') :
    wpList P ops Q (o :: rest) a w := by
  have hxl : (byteCells x.data.toList).length = x.size := by rw [byteCells_length, ← size_eq]
  by_cases h0 : x.size = 0
  · refine wpList_plain hgd fun K hK => ?_
    have hrun := run_copy_empty_string (P := P) w dT sT o.type elem dp dLen dCap x hu (by rw [hsz]; rfl) h0
    unfold Oper.wp
    simp [execOp, ho, resolve, invoke, builtin, hd, hs, hrun, Result.andThen]
    have e0 : byteCells x.data.toList = [] := List.eq_nil_of_length_eq_zero (by omega)
    have := h w (show _ = _ by rw [e0]; simpa [splice] using hg) hb
    rw [h0] at this
    exact hK _ _ this
  · have hdp := hpos (by omega)
    subst hdp
    refine wpList_plain hgd fun K hK => ?_
    have hrun := run_copy_row_string (P := P) w dT sT o.type elem g off dLen dCap x cur.toArray t hu hsz hg hle (by simpa using hfit)
    unfold Oper.wp
    simp [execOp, ho, resolve, invoke, builtin, hd, hs, hrun, Result.andThen]
    refine hK _ _ ?_
    have hw := h (w.setRow g (cur.take off ++ byteCells x.data.toList ++ cur.drop (off + x.size)).toArray) (show _ = _ by
      rw [splice, hxl, ← List.append_assoc]
      exact setRow_heap w g _ _ t _ hg) (below_setRow hb hBg _)
    simpa using hw
/-- A row of bytes reads as a text. -/
theorem row_bytes {w : World} {g : Nat} {t : TypeId} {l : List UInt8} (hg : w.heap[g]? = some (.cells (byteCells l).toArray t (0, 0))) : Bytes w g 0 ⟨l.toArray⟩ := by
  intro i hi
  have hi' : i < l.length := by simpa [ByteArray.size] using hi
  have hb : (byteCells l)[i]? = some (.int .u8 (l[i].toNat : Int)) := by simp [byteCells, hi']
  have : w.cell? ⟨g, 0 + i, none⟩ = (byteCells l)[i]? := by
    simp [World.cell?, hg]
  rw [this, hb]
  rfl
/-- What a callee leaves that turns nothing old: every old cell, every old mark. -/
theorem bcell {W w1 : World} (hb : Below W.heap.size W w1) : (∀ b o, b < W.heap.size → w1.cell? ⟨b, o, none⟩ = W.cell? ⟨b, o, none⟩) ∧ (∀ b o, b < W.heap.size → w1.frozen? ⟨b, o, none⟩ = W.frozen? ⟨b, o, none⟩) :=
  ⟨fun b o h => hb.cell (p := ⟨b, o, none⟩) h, fun b o h => hb.frozen (p := ⟨b, o, none⟩) h⟩
theorem str_eq {a b : ByteArray} (h : a = b) : (a.toList == b.toList) = true := by subst h; simp
theorem str_ne {a b : ByteArray} (h : ¬ a = b) : (a.toList == b.toList) = false := by
  rw [beq_eq_false_iff_ne]
  intro h2
  rw [ByteArray.toList_eq, ByteArray.toList_eq] at h2
  exact h (ByteArray.ext (Array.toList_inj.1 h2))
/-- 'string(row)'. -/
theorem run_convert_text {P : Program} (w : World) (src e dst : TypeId) (hs : P.underlying src = some (.slice e)) (he : P.underlying e = some (.int .u8)) (hd : P.underlying dst = some .string) (b o : Nat) (l : List UInt8) (n cap : Nat) (hn : n = l.length)
    (hc : Bytes w b o ⟨l.toArray⟩) : (convert src dst (.slice (some ⟨b, o, none⟩) n cap)).run P w = .ok (.string ⟨l.toArray⟩) w := by
  have h := run_convert_whole (P := P) w src e dst hs he hd b o ⟨l.toArray⟩ hc cap
  have e1 : (⟨l.toArray⟩ : ByteArray).size = n := by rw [hn]; simp [ByteArray.size]
  rw [e1] at h
  exact h
end Go.Proofs.YtedahdncincgjaaGreatDoor
/- Contracts of the draws: a source of numbers over the bytes that came in. What is drawn is not told, but its bounds; only the source's own block is written. -/
namespace Go.Proofs.YtedahdncincgjaaGreatDoor
open Go.RowKit
set_option linter.unusedVariables false
/-- Nothing but block p has turned; blocks may have come. -/
def Ownp (p : Nat) (w w' : World) : Prop := w.grownBy w' (some p)
theorem Ownp.refl (p : Nat) (w : World) : Ownp p w w := ⟨rfl, rfl, rfl, Nat.le_refl _, fun _ _ _ => rfl⟩
theorem Ownp.drew {p : Nat} {w w' : World} (h : Ownp p w w') : Ownp p w w'.drew := ⟨h.os, h.tape, h.output, h.size, h.block⟩
theorem Ownp.set {p o : Nat} {w w' : World} (h : Ownp p w w') (v : Value) : Ownp p w (w'.setCell ⟨p, o, none⟩ v) :=
  ⟨h.os, h.tape, h.output, by simpa [World.setCell] using h.size, fun k hk hne => (Lib.grownBy_setCell w' p o v).block k (Nat.lt_of_lt_of_le hk h.size) hne |>.trans (h.block k hk hne)⟩
theorem Ownp.trans {p : Nat} {w w1 w2 : World} (h : Ownp p w w1) (h2 : Ownp p w1 w2) : Ownp p w w2 :=
  ⟨h2.os.trans h.os, h2.tape.trans h.tape, h2.output.trans h.output, Nat.le_trans h.size h2.size, fun k hk hne => (h2.block k (Nat.lt_of_lt_of_le hk h.size) hne).trans (h.block k hk hne)⟩
theorem Ownp.alloc {p : Nat} {w w' : World} (h : Ownp p w w') (o : Obj) : Ownp p w (w'.alloc o) := h.trans (World.grownBy_alloc w' o (some p))
theorem Ownp.cell {p : Nat} {w w' : World} (h : Ownp p w w') {b o : Nat} (hb : b < w.heap.size) (hne : b ≠ p) : w'.cell? ⟨b, o, none⟩ = w.cell? ⟨b, o, none⟩ :=
  World.cell?_of_block (h.block b hb (by simpa using hne))
theorem Ownp.below {p B : Nat} {w0 w w' : World} (h : Ownp p w w') (hb : Below B w0 w) (hB : B ≤ p) (hs : B ≤ w.heap.size) : Below B w0 w' :=
  hb.grown h hs (fun k hk => by cases hk; exact hB)
/-- The block of a source. -/
abbrev srcBlk (a : Option Addr) (len cap : Nat) (at_ : Nat) (mix sz : Int) : Obj := .cells #[.slice a len cap, .int .i64 at_, .int .u64 mix, .int .i64 sz] 70 (0, 0)
theorem blk_cells {w : World} {p : Nat} {x0 x1 x2 x3 : Value} {t : TypeId} (h : w.heap[p]? = some (.cells #[x0, x1, x2, x3] t (0, 0))) :
    (w.cell? ⟨p, 0, none⟩ = some x0 ∧ w.cell? ⟨p, 1, none⟩ = some x1 ∧ w.cell? ⟨p, 2, none⟩ = some x2 ∧ w.cell? ⟨p, 3, none⟩ = some x3) ∧
    (w.frozen? ⟨p, 1, none⟩ = false ∧ w.frozen? ⟨p, 2, none⟩ = false ∧ w.frozen? ⟨p, 3, none⟩ = false) := by
  simp [World.cell?, World.frozen?, h]
theorem blk_size {w : World} {p : Nat} {o : Obj} (h : w.heap[p]? = some o) : p < w.heap.size := (Array.getElem?_eq_some_iff.1 h).1
theorem blk_set1 {w : World} {p : Nat} {x0 x1 x2 x3 : Value} {t : TypeId} (h : w.heap[p]? = some (.cells #[x0, x1, x2, x3] t (0, 0))) (v : Value) :
    (w.setCell ⟨p, 1, none⟩ v).heap[p]? = some (.cells #[x0, v, x2, x3] t (0, 0)) := by
  have := Lib.heap_setCell_same (i := 1) h v
  simpa using this
theorem blk_set2 {w : World} {p : Nat} {x0 x1 x2 x3 : Value} {t : TypeId} (h : w.heap[p]? = some (.cells #[x0, x1, x2, x3] t (0, 0))) (v : Value) :
    (w.setCell ⟨p, 2, none⟩ v).heap[p]? = some (.cells #[x0, x1, v, x3] t (0, 0)) := by
  have := Lib.heap_setCell_same (i := 2) h v
  simpa using this
theorem blk_set3 {w : World} {p : Nat} {x0 x1 x2 x3 : Value} {t : TypeId} (h : w.heap[p]? = some (.cells #[x0, x1, x2, x3] t (0, 0))) (v : Value) :
    (w.setCell ⟨p, 3, none⟩ v).heap[p]? = some (.cells #[x0, x1, x2, v] t (0, 0)) := by
  have := Lib.heap_setCell_same (i := 3) h v
  simpa using this
/-- The bytes that came in. -/
def Code (a : Option Addr) (len : Nat) (g : Nat → Int) (p : Nat) (w : World) : Prop :=
  len ≤ 1048576 ∧ (∀ i, 0 ≤ g i ∧ g i ≤ 255) ∧ (0 < len → ∃ b off, a = some ⟨b, off, none⟩ ∧ b < p ∧ ∀ i, i < len → w.cell? ⟨b, off + i, none⟩ = some (.int .u8 (g i)))
/-- What a world holds of a source at block p. -/
def Src (a : Option Addr) (len cap : Nat) (g : Nat → Int) (p : Nat) (w : World) : Prop :=
  Code a len g p w ∧ ∃ (at_ : Nat) (mix sz : Int), at_ ≤ len ∧ 0 ≤ mix ∧ mix ≤ 18446744073709551615 ∧ 0 ≤ sz ∧ sz ≤ 12 ∧ w.heap[p]? = some (srcBlk a len cap at_ mix sz)
theorem Code.own {a : Option Addr} {len : Nat} {g : Nat → Int} {p : Nat} {w w' : World} (h : Code a len g p w) (hp : p < w.heap.size) (ho : Ownp p w w') : Code a len g p w' :=
  ⟨h.1, h.2.1, fun hl => by
    obtain ⟨b, off, e, hb, hc⟩ := h.2.2 hl
    exact ⟨b, off, e, hb, fun i hi => (ho.cell (by omega) (by omega)).trans (hc i hi)⟩⟩
theorem Src.pos {a : Option Addr} {len cap : Nat} {g : Nat → Int} {p : Nat} {w : World} (h : Src a len cap g p w) : p < w.heap.size := by
  obtain ⟨_, _, _, _, _, _, _, _, _, hb⟩ := h
  exact blk_size hb
/-- A source is as it was where nothing but new blocks, or rows of others, have turned. -/
theorem Src.kept {a : Option Addr} {len cap : Nat} {g : Nat → Int} {p : Nat} {w w' : World} (h : Src a len cap g p w) (hb : ∀ k, k ≤ p → w'.heap[k]? = w.heap[k]?) : Src a len cap g p w' := by
  obtain ⟨⟨c1, c2, c3⟩, at_, mix, sz, e1, e2, e3, e4, e5, hk⟩ := h
  exact ⟨⟨c1, c2, fun hl => by
    obtain ⟨b, off, e, hlt, hc⟩ := c3 hl
    exact ⟨b, off, e, hlt, fun i hi => (World.cell?_of_block (hb b (by omega))).trans (hc i hi)⟩⟩, at_, mix, sz, e1, e2, e3, e4, e5, (hb p (Nat.le_refl _)).trans hk⟩
theorem mix_bd (x y : Int) : 0 ≤ bits .xor .u64 x y ∧ bits .xor .u64 x y ≤ 18446744073709551615 := bounds_u64 (wf_bits .xor .u64 x y)
theorem rem_bd {x m : Int} (h : 0 ≤ x) (hm : 1 < m) : 0 ≤ x % m ∧ x % m < m := ⟨Int.emod_nonneg _ (by omega), Int.emod_lt_of_pos _ (by omega)⟩
theorem n_small (p : Nat) (most : Int) (h : most ≤ 1) (w : World) :
    Calls Tryz.prog 30 #[.pointer (some ⟨p, 0, none⟩), .int .i64 most] w fun e w' => e = .returned (.int .i64 0) ∧ w' = w := by
  go_enter Tryz.func30, Tryz.ntmps30
  go_wp2
  go_ret
  exact ⟨rfl, rfl⟩
theorem draw_bd (y : Int) {most : Int} (h1 : 1 < most) (h2 : most ≤ 9223372036854775807) : 0 ≤ wrap64 ((IntKind.u64.wrap y).tmod most) ∧ wrap64 ((IntKind.u64.wrap y).tmod most) < most := by
  rw [IntKind.wrap_u64]
  have h0 : 0 ≤ y % 18446744073709551616 := by omega
  rw [Int.tmod_eq_emod_of_nonneg h0]
  obtain ⟨a, b⟩ := rem_bd h0 h1
  generalize y % 18446744073709551616 % most = z at a b ⊢
  unfold wrap64
  omega
theorem mix_step {a : Option Addr} {len cap at_ : Nat} {m sz : Int} {p : Nat} {w W : World} (hb : W.heap[p]? = some (srcBlk a len cap at_ m sz)) (ho : Ownp p w W) (m' : Int) :
    Hid ((W.setCell ⟨p, 2, none⟩ (.int .u64 m')).drew.heap[p]? = some (srcBlk a len cap at_ m' sz)) ∧ Hid (Ownp p w (W.setCell ⟨p, 2, none⟩ (.int .u64 m')).drew) :=
  ⟨blk_set2 hb _, (ho.set _).drew⟩
set_option maxRecDepth 100000 in
set_option maxHeartbeats 2000000 in
/-- behind the bytes' end. -/
theorem n_over (a : Option Addr) (len cap : Nat) (p : Nat) (most mix sz : Int) (at_ : Nat) (w : World) (hlen : len ≤ 1048576) (h1 : 1 < most) (h2 : most ≤ 9223372036854775807) (hat : at_ ≤ len)
    (hb : w.heap[p]? = some (srcBlk a len cap at_ mix sz)) (m1 : 0 ≤ mix) (m2 : mix ≤ 18446744073709551615) (hov : ¬ at_ < len) :
    Calls Tryz.prog 30 #[.pointer (some ⟨p, 0, none⟩), .int .i64 most] w fun e w' => ∃ (r mix' : Int), e = .returned (.int .i64 r) ∧ 0 ≤ r ∧ r < most ∧ 0 ≤ mix' ∧ mix' ≤ 18446744073709551615 ∧ w'.heap[p]? = some (srcBlk a len cap at_ mix' sz) ∧ Ownp p w w' := by
  have d1 : decide ((at_ : Int) < (len : Int)) = false := by simp; omega
  obtain ⟨⟨k0, k1, k2, k3⟩, f1, f2, f3⟩ := blk_cells hb
  have HB : Hid (w.heap[p]? = some (srcBlk a len cap at_ mix sz)) := hb
  clear hb
  go_enter Tryz.func30, Tryz.ntmps30
  go_wp2
  go_region
  go_wp2
  go_region
  go_wp2
  have B1 : Hid ((w.setCell ⟨p, 2, none⟩ (.int .u64 (bits .xor .u64 mix (IntKind.u64.wrap (mix * 8192))))).drew.drew.heap[p]? = some (srcBlk a len cap at_ (bits .xor .u64 mix (IntKind.u64.wrap (mix * 8192))) sz)) := blk_set2 HB.out _
  have O1 : Hid (Ownp p w (w.setCell ⟨p, 2, none⟩ (.int .u64 (bits .xor .u64 mix (IntKind.u64.wrap (mix * 8192))))).drew.drew) := (((Ownp.refl p w).set _).drew).drew
  obtain ⟨x1, y1⟩ := mix_bd mix (IntKind.u64.wrap (mix * 8192))
  generalize (w.setCell ⟨p, 2, none⟩ (.int .u64 (bits .xor .u64 mix (IntKind.u64.wrap (mix * 8192))))).drew.drew = W1 at B1 O1 ⊢
  generalize bits .xor .u64 mix (IntKind.u64.wrap (mix * 8192)) = mx1 at B1 x1 y1 ⊢
  obtain ⟨⟨p0, p1, p2, p3⟩, q1, q2, q3⟩ := blk_cells B1.out
  go_region
  go_wp2
  obtain ⟨B2, O2⟩ := mix_step B1.out O1.out (bits .xor .u64 mx1 (mx1 / 128))
  obtain ⟨x2, y2⟩ := mix_bd mx1 (mx1 / 128)
  generalize (W1.setCell ⟨p, 2, none⟩ (.int .u64 (bits .xor .u64 mx1 (mx1 / 128)))).drew = W2 at B2 O2 ⊢
  generalize bits .xor .u64 mx1 (mx1 / 128) = mx2 at B2 x2 y2 ⊢
  clear p0 p1 p2 p3 q1 q2 q3 B1 O1
  obtain ⟨⟨p0, p1, p2, p3⟩, q1, q2, q3⟩ := blk_cells B2.out
  go_region
  go_wp2
  obtain ⟨B3, O3⟩ := mix_step B2.out O2.out (bits .xor .u64 mx2 (IntKind.u64.wrap (mx2 * 131072)))
  obtain ⟨x3, y3⟩ := mix_bd mx2 (IntKind.u64.wrap (mx2 * 131072))
  go_ret
  exact ⟨_, _, rfl, (draw_bd _ h1 h2).1, (draw_bd _ h1 h2).2, x3, y3, B3.out, O3.out⟩
set_option maxRecDepth 100000 in
set_option maxHeartbeats 2000000 in
/-- within the bytes. -/
theorem n_in (b off len cap : Nat) (p : Nat) (most mix sz z : Int) (at_ : Nat) (w : World) (hlen : len ≤ 1048576) (h1 : 1 < most) (h2 : most ≤ 9223372036854775807) (hat : at_ < len)
    (hb : w.heap[p]? = some (srcBlk (some ⟨b, off, none⟩) len cap at_ mix sz)) (m1 : 0 ≤ mix) (m2 : mix ≤ 18446744073709551615) (hz : w.cell? ⟨b, off + at_, none⟩ = some (.int .u8 z)) (z1 : 0 ≤ z) (z2 : z ≤ 255) :
    Calls Tryz.prog 30 #[.pointer (some ⟨p, 0, none⟩), .int .i64 most] w fun e w' => ∃ (r mix' : Int), e = .returned (.int .i64 r) ∧ 0 ≤ r ∧ r < most ∧ 0 ≤ mix' ∧ mix' ≤ 18446744073709551615 ∧ w'.heap[p]? = some (srcBlk (some ⟨b, off, none⟩) len cap (at_ + 1) mix' sz) ∧ Ownp p w w' := by
  have d1 : (at_ : Int) < (len : Int) := by omega
  obtain ⟨⟨k0, k1, k2, k3⟩, f1, f2, f3⟩ := blk_cells hb
  have HB : Hid (w.heap[p]? = some (srcBlk (some ⟨b, off, none⟩) len cap at_ mix sz)) := hb
  clear hb
  go_enter Tryz.func30, Tryz.ntmps30
  go_wp2
  go_region
  go_wp2
  go_region
  go_wp2
  have B0 : Hid ((w.setCell ⟨p, 1, none⟩ (.int .i64 ((at_ : Int) + 1))).drew.drew.heap[p]? = some (srcBlk (some ⟨b, off, none⟩) len cap (at_ + 1) mix sz)) := blk_set1 HB.out _
  have O0 : Hid (Ownp p w (w.setCell ⟨p, 1, none⟩ (.int .i64 ((at_ : Int) + 1))).drew.drew) := (((Ownp.refl p w).set _).drew).drew
  generalize (w.setCell ⟨p, 1, none⟩ (.int .i64 ((at_ : Int) + 1))).drew.drew = W0 at B0 O0 ⊢
  clear k0 k1 k2 k3 f1 f2 f3 HB
  obtain ⟨⟨k0, k1, k2, k3⟩, f1, f2, f3⟩ := blk_cells B0.out
  go_region
  go_wp2
  obtain ⟨B1, O1⟩ := mix_step B0.out O0.out (bits .xor .u64 mix (IntKind.u64.wrap (mix * 8192)))
  obtain ⟨x1, y1⟩ := mix_bd mix (IntKind.u64.wrap (mix * 8192))
  generalize (W0.setCell ⟨p, 2, none⟩ (.int .u64 (bits .xor .u64 mix (IntKind.u64.wrap (mix * 8192))))).drew = W1 at B1 O1 ⊢
  generalize bits .xor .u64 mix (IntKind.u64.wrap (mix * 8192)) = mx1 at B1 x1 y1 ⊢
  obtain ⟨⟨p0, p1, p2, p3⟩, q1, q2, q3⟩ := blk_cells B1.out
  go_region
  go_wp2
  obtain ⟨B2, O2⟩ := mix_step B1.out O1.out (bits .xor .u64 mx1 (mx1 / 128))
  obtain ⟨x2, y2⟩ := mix_bd mx1 (mx1 / 128)
  generalize (W1.setCell ⟨p, 2, none⟩ (.int .u64 (bits .xor .u64 mx1 (mx1 / 128)))).drew = W2 at B2 O2 ⊢
  generalize bits .xor .u64 mx1 (mx1 / 128) = mx2 at B2 x2 y2 ⊢
  clear p0 p1 p2 p3 q1 q2 q3 B1 O1
  obtain ⟨⟨p0, p1, p2, p3⟩, q1, q2, q3⟩ := blk_cells B2.out
  go_region
  go_wp2
  obtain ⟨B3, O3⟩ := mix_step B2.out O2.out (bits .xor .u64 mx2 (IntKind.u64.wrap (mx2 * 131072)))
  obtain ⟨x3, y3⟩ := mix_bd mx2 (IntKind.u64.wrap (mx2 * 131072))
  go_ret
  exact ⟨_, _, rfl, (draw_bd _ h1 h2).1, (draw_bd _ h1 h2).2, x3, y3, B3.out, O3.out⟩
/-- A number below most: of whatever source. -/
theorem n_any (a : Option Addr) (len cap : Nat) (g : Nat → Int) (p : Nat) (most : Int) (h2 : most ≤ 9223372036854775807) (w : World) (hs : Src a len cap g p w) :
    Calls Tryz.prog 30 #[.pointer (some ⟨p, 0, none⟩), .int .i64 most] w fun e w' => ∃ r : Int, e = .returned (.int .i64 r) ∧ 0 ≤ r ∧ (r < most ∨ r = 0) ∧ Src a len cap g p w' ∧ Ownp p w w' := by
  have hp := hs.pos
  by_cases h1 : most ≤ 1
  · refine (n_small p most h1 w).mono ?_
    rintro e w' ⟨rfl, rfl⟩
    exact ⟨0, rfl, Int.le_refl _, .inr rfl, hs, Ownp.refl _ _⟩
  · obtain ⟨hc, at_, mix, sz, e1, e2, e3, e4, e5, hb⟩ := hs
    by_cases h3 : at_ < len
    · obtain ⟨b, off, rfl, hlt, hcell⟩ := hc.2.2 (by omega)
      refine (n_in b off len cap p most mix sz (g at_) at_ w hc.1 (by omega) h2 h3 hb e2 e3 (hcell at_ h3) (hc.2.1 at_).1 (hc.2.1 at_).2).mono ?_
      rintro e w' ⟨r, mx, rfl, r1, r2, x1, x2, hb', ho⟩
      exact ⟨r, rfl, r1, .inl r2, ⟨hc.own hp ho, at_ + 1, mx, sz, h3, x1, x2, e4, e5, hb'⟩, ho⟩
    · refine (n_over a len cap p most mix sz at_ w hc.1 (by omega) h2 e1 hb e2 e3 h3).mono ?_
      rintro e w' ⟨r, mx, rfl, r1, r2, x1, x2, hb', ho⟩
      exact ⟨r, rfl, r1, .inl r2, ⟨hc.own hp ho, at_, mx, sz, e1, x1, x2, e4, e5, hb'⟩, ho⟩
/-- One of so many. -/
theorem one_any (a : Option Addr) (len cap : Nat) (g : Nat → Int) (p : Nat) (most : Int) (h2 : most ≤ 9223372036854775807) (w : World) (hs : Src a len cap g p w) :
    Calls Tryz.prog 53 #[.pointer (some ⟨p, 0, none⟩), .int .i64 most] w fun e w' => ∃ r : Bool, e = .returned (.bool r) ∧ Src a len cap g p w' ∧ Ownp p w w' := by
  go_enter Tryz.func53, Tryz.ntmps53
  go_wp2_with (go_at_call 30; refine (n_any a len cap g p most h2 _ hs).mono ?_; rintro e w' ⟨r, rfl, r1, r2, hs', ho⟩)
  go_ret
  exact ⟨_, rfl, hs', ho⟩
end Go.Proofs.YtedahdncincgjaaGreatDoor
/- Plain mathematics of PutNum: the number that is written, its bytes, and rows of bytes that grow. Nothing here names a program. -/
namespace Go.Proofs.YtedahdncincgjaaGreatDoor
open Go.RowKit Go.PlainAid
set_option linter.unusedVariables false
/-- n of int64 as a number from 0 to 2^64-1. -/
def foldN (n : Int) : Nat := if n < 0 then (-2 * n - 1).toNat else (2 * n).toNat
theorem fold_neg {n : Int} (h : n < 0) : (foldN n : Int) = 2 * -(n + 1) + 1 := by unfold foldN; rw [if_pos h]; omega
theorem fold_pos {n : Int} (h : 0 ≤ n) : (foldN n : Int) = 2 * n := by unfold foldN; rw [if_neg (by omega)]; omega
theorem fold_le {n : Int} (h1 : -9223372036854775808 ≤ n) (h2 : n ≤ 9223372036854775807) : foldN n ≤ 18446744073709551615 := by
  unfold foldN; split <;> omega
theorem xor_ones (x : Nat) (h : x < 2 ^ 64) : x ^^^ 18446744073709551615 = 18446744073709551615 - x := by
  apply Nat.eq_of_testBit_eq
  intro i
  have e : (18446744073709551615 : Nat) = 2 ^ 64 - 1 := by decide
  have e2 : 18446744073709551615 - x = 2 ^ 64 - (x + 1) := by omega
  rw [Nat.testBit_xor, e2, Nat.testBit_two_pow_sub_succ h, e, Nat.testBit_two_pow_sub_one]
  by_cases hi : i < 64
  · simp [hi]
  · have hx : x.testBit i = false := Nat.testBit_lt_two_pow (Nat.lt_of_lt_of_le h (Nat.pow_le_pow_right (by decide) (by omega)))
    simp [hi, hx]
/-- impl's way to it: 'uint64(n)<<1 ^ uint64(n>>63)'. -/
theorem fold_bits {n : Int} (h1 : -9223372036854775808 ≤ n) (h2 : n ≤ 9223372036854775807) :
    bits .xor .u64 (IntKind.u64.wrap (IntKind.u64.wrap n * 2)) (IntKind.u64.wrap (n / 9223372036854775808)) = (foldN n : Int) := by
  by_cases hn : n < 0
  · have e1 : n / 9223372036854775808 = -1 := by omega
    rw [fold_neg hn, e1, IntKind.wrap_u64, IntKind.wrap_u64, IntKind.wrap_u64]
    have e2 : n % 18446744073709551616 * 2 % 18446744073709551616 = 2 * n + 18446744073709551616 := by omega
    have e3 : (-1 : Int) % 18446744073709551616 = 18446744073709551615 := by decide
    rw [e2, e3, u64_xor _ _ (by omega) (by omega) (by decide) (by decide)]
    have e4 : ((18446744073709551615 : Int)).toNat = 18446744073709551615 := rfl
    rw [e4, xor_ones _ (by omega)]
    omega
  · have e1 : n / 9223372036854775808 = 0 := by omega
    rw [fold_pos (by omega), e1, IntKind.wrap_u64, IntKind.wrap_u64, IntKind.wrap_u64]
    have e2 : n % 18446744073709551616 * 2 % 18446744073709551616 = 2 * n := by omega
    have e3 : (0 : Int) % 18446744073709551616 = 0 := by decide
    rw [e2, e3, u64_xor _ _ (by omega) (by omega) (by decide) (by decide)]
    have e4 : ((0 : Int)).toNat = 0 := rfl
    rw [e4, Nat.xor_zero]
    omega
/-- The bytes of a number, seven bits a byte, the lowest first, 128 more in all but the last. -/
def encF : Nat → Nat → List UInt8
  | 0, _ => []
  | f + 1, u => if u < 128 then [UInt8.ofNat u] else UInt8.ofNat (u % 128 + 128) :: encF f (u / 128)
/-- Ten bytes at most: a number below 2^64. -/
def enc (u : Nat) : List UInt8 := encF (u + 1) u
theorem encF_more (f g u : Nat) (hf : u < f) (hg : u < g) : encF f u = encF g u := by
  induction f generalizing g u with
  | zero => omega
  | succ f ih =>
    cases g with
    | zero => omega
    | succ g =>
      unfold encF
      by_cases h : u < 128
      · simp [h]
      · simp only [h, if_false]
        rw [ih g (u / 128) (by omega) (by omega)]
theorem enc_last {u : Nat} (h : u < 128) : enc u = [UInt8.ofNat u] := by simp [enc, encF, h]
theorem enc_more {u : Nat} (h : 128 ≤ u) : enc u = UInt8.ofNat (u % 128 + 128) :: enc (u / 128) := by
  have h2 : ¬ u < 128 := by omega
  unfold enc
  rw [encF, if_neg h2, encF_more u (u / 128 + 1) (u / 128) (by omega) (by omega)]
theorem enc_length (k : Nat) : ∀ u, u < 128 ^ (k + 1) → (enc u).length ≤ k + 1 := by
  induction k with
  | zero => intro u hu; rw [enc_last (by simpa using hu)]; simp
  | succ k ih =>
    intro u hu
    by_cases h : u < 128
    · rw [enc_last h]; simp
    · rw [enc_more (by omega)]
      have := ih (u / 128) (by rw [Nat.div_lt_iff_lt_mul (by decide), ← Nat.pow_succ]; exact hu)
      simp only [List.length_cons]
      omega
theorem enc_ten {u : Nat} (h : u ≤ 18446744073709551615) : (enc u).length ≤ 10 := enc_length 9 u (by omega)
theorem enc_pos (u : Nat) : 0 < (enc u).length := by
  by_cases h : u < 128
  · rw [enc_last h]; simp
  · rw [enc_more (by omega)]; simp
theorem enc_step {acc : List UInt8} {u m : Nat} (h : 128 ≤ u) (e : acc ++ enc u = enc m) : (acc ++ [UInt8.ofNat (u % 128 + 128)]) ++ enc (u / 128) = enc m := by
  rw [← e, enc_more h]; simp
theorem enc_end {acc : List UInt8} {u m : Nat} (h : u < 128) (e : acc ++ enc u = enc m) : acc ++ [UInt8.ofNat u] = enc m := by
  rw [← e, enc_last h]
theorem acc_le {acc : List UInt8} {u m : Nat} (hm : m ≤ 18446744073709551615) (e : acc ++ enc u = enc m) : acc.length ≤ 9 := by
  have h1 := enc_ten hm
  have h2 := enc_pos u
  rw [← e] at h1
  simp only [List.length_append] at h1
  omega
/-- A byte put behind a row of bytes. -/
theorem cells_snoc (acc : List UInt8) (x : Nat) (h : x < 256) : Lib.byteCells acc ++ [Value.int .u8 (x : Int)] = Lib.byteCells (acc ++ [UInt8.ofNat x]) := by
  simp [Lib.byteCells]
  omega
theorem own_snoc {w : World} {B : Nat} {t : TypeId} {v : Value} {acc : List UInt8} {x : Nat} {y : Int} (hy : y = (x : Int)) (h : x < 256) (ho : w.ownsRow B t 1 v (acc.length + 1) (Lib.byteCells acc ++ [Value.int .u8 y])) :
    w.ownsRow B t 1 v (acc ++ [UInt8.ofNat x]).length (Lib.byteCells (acc ++ [UInt8.ofNat x])) := by
  subst hy
  rw [← cells_snoc acc x h, List.length_append]
  exact ho
theorem own_start (w : World) (t : TypeId) : (w.alloc (.cells #[] t)).ownsRow w.heap.size t 1 (.slice (some ⟨w.heap.size, 0, none⟩) 0 0) ([] : List UInt8).length (Lib.byteCells []) := by
  refine ⟨rfl, .inr ⟨w.heap.size, 0, #[], rfl, Nat.le_refl _, ?_, Nat.le_refl _, by decide, rfl, rfl⟩⟩
  rw [World.alloc]
  exact Array.getElem?_push_size
/-- Of a row that is owned and not empty: where it lies, and that it reads as a text. -/
theorem own_bytes {w : World} {B : Nat} {t : TypeId} {v : Value} {l : List UInt8} (h : w.ownsRow B t 1 v l.length (Lib.byteCells l)) (hl : 0 < l.length) :
    ∃ g cap, v = .slice (some ⟨g, 0, none⟩) l.length cap ∧ Lib.Bytes w g 0 ⟨l.toArray⟩ := by
  obtain ⟨_, h | ⟨g, cap, cur, rfl, _, hg, hc, _, hs, ht⟩⟩ := h
  · omega
  · refine ⟨g, cap, rfl, ?_⟩
    intro i hi
    have hi' : i < l.length := by simpa [ByteArray.size] using hi
    have e1 : (Lib.byteCells l)[i]? = some (.int .u8 (l[i].toNat : Int)) := by simp [Lib.byteCells, hi']
    have e2 : cur[i]? = some (.int .u8 (l[i].toNat : Int)) := by
      rw [← ht, List.getElem?_take_of_lt (by omega)] at e1
      simpa using e1
    have : w.cell? ⟨g, 0 + i, none⟩ = cur[i]? := by simp [World.cell?, hg]
    rw [this, e2]
    rfl
/-- Behind the last byte. -/
theorem own_last {w : World} {B : Nat} {t : TypeId} {v : Value} {acc : List UInt8} {u m : Nat} {y : Int} (hy : y = (u : Int)) (h : u < 128) (e : acc ++ enc u = enc m) (ho : w.ownsRow B t 1 v (acc.length + 1) (Lib.byteCells acc ++ [Value.int .u8 y])) :
    ∃ g cap, v = .slice (some ⟨g, 0, none⟩) (enc m).length cap ∧ Lib.Bytes w g 0 ⟨(enc m).toArray⟩ := by
  have h1 := own_snoc hy (by omega) ho
  rw [enc_end h e] at h1
  exact own_bytes h1 (enc_pos m)
theorem own_block {w : World} {B : Nat} {t : TypeId} {v : Value} {n : Nat} {xs : List Value} (h : w.ownsRow B t 1 v n xs) : ∀ k, v.ownBlock = some k → B ≤ k := by
  obtain ⟨_, ⟨rfl, _⟩ | ⟨g, cap, cur, rfl, hb, _⟩⟩ := h
  · intro k hk; simp [Value.ownBlock] at hk
  · intro k hk; simp [Value.ownBlock] at hk; omega
theorem one_cell (x : Int) : ∀ u ∈ [Value.int .u8 x], u.oneCell' = true := by
  intro u hu
  simp at hu
  subst hu
  rfl
end Go.Proofs.YtedahdncincgjaaGreatDoor
/- The contracts of spec.l01Source and of the source's bytes and edge. -/
namespace Go.Proofs.YtedahdncincgjaaGreatDoor
open Go.RowKit
set_option linter.unusedVariables false
theorem Code.below {a : Option Addr} {len : Nat} {g : Nat → Int} {w w' : World} (h : Code a len g w.heap.size w) (hb : Below w.heap.size w w') : Code a len g w.heap.size w' :=
  ⟨h.1, h.2.1, fun hl => by
    obtain ⟨b, off, e, hlt, hc⟩ := h.2.2 hl
    exact ⟨b, off, e, hlt, fun i hi => (hb.cell (p := ⟨b, off + i, none⟩) hlt).trans (hc i hi)⟩⟩
theorem src_alloc {a : Option Addr} {len cap : Nat} {g : Nat → Int} {p : Nat} {w : World} (h : Src a len cap g p w) (o : Obj) : Src a len cap g p (w.alloc o) :=
  h.kept fun k hk => (World.grownBy_alloc w o none).block k (by have := h.pos; omega) (by simp)
theorem wrap_bd (x : Int) : 0 ≤ IntKind.u64.wrap x ∧ IntKind.u64.wrap x ≤ 18446744073709551615 := bounds_u64 (wf_wrap .u64 x)
theorem blk_new (w : World) (x : Obj) : (w.alloc x).heap[w.heap.size]? = some x := by
  rw [World.alloc]
  exact Array.getElem?_push_size
set_option maxRecDepth 100000 in
set_option maxHeartbeats 2000000 in
theorem source_any (a : Option Addr) (len cap : Nat) (g : Nat → Int) (w : World) (hc : Code a len g w.heap.size w) :
    Calls Tryz.prog 24 #[.slice a len cap] w fun e w' => e = .returned (.pointer (some ⟨w.heap.size, 0, none⟩)) ∧ Src a len cap g w.heap.size w' ∧ Below w.heap.size w w' := by
  have HC : Hid (Code a len g w.heap.size w) := hc
  obtain ⟨hlen, hg, hrow⟩ := hc
  have HR : Hid (0 < len → ∃ b off, a = some ⟨b, off, none⟩ ∧ b < w.heap.size ∧ ∀ i, i < len → w.cell? ⟨b, off + i, none⟩ = some (.int .u8 (g i))) := hrow
  have HG : Hid (∀ i, 0 ≤ g i ∧ g i ≤ 255) := hg
  clear hrow hg
  go_enter Tryz.func24, Tryz.ntmps24
  go_wp2
  go_loopw [4] (fun i wr => ∃ (k : Nat) (mix : Int), k ≤ len ∧ k ≤ 64 ∧ i = .int .i64 k ∧ 0 ≤ mix ∧ mix ≤ 18446744073709551615 ∧ Hid (wr.heap[w.heap.size]? = some (srcBlk a len cap 0 mix 0)) ∧ Below w.heap.size w wr) (fun i _ => len - (intOf i).toNat)
  case atStart => exact ⟨0, _, Nat.zero_le _, Nat.zero_le _, rfl, by decide, by decide, blk_new w _, (Below.refl _ _).alloc (Nat.le_refl _) _⟩
  case round =>
    obtain ⟨k, mix, hk, hk2, rfl, m1, m2, hblk, hbel⟩ := hrel
    obtain ⟨⟨k0, k1, k2, k3⟩, f1, f2, f3⟩ := blk_cells hblk.out
    by_cases hlt : k < len ∧ k < 64
    · obtain ⟨b, off, hae, hbp, hcell⟩ := HR.out (by omega)
      have hz : wr.cell? ⟨b, off + k, none⟩ = some (.int .u8 (g k)) := (hbel.cell (by exact hbp)).trans (hcell k hlt.1)
      obtain ⟨z1, z2⟩ := HG.out k
      have t1 : (k : Int) < (len : Int) := by omega
      have t2 : (k : Int) < 64 := by omega
      clear hcell hlt
      subst hae
      go_wp2
      go_region
      go_wp2
      go_roundw
      case rel => exact ⟨k + 1, _, by omega, by omega, by go_num, (wrap_bd _).1, (wrap_bd _).2, blk_set2 hblk.out _, (hbel.setCell (Nat.le_refl _) _).drew⟩
      case measure => simp [intOf]; omega
    · by_cases h1 : k < len
      · have t1 : (k : Int) < (len : Int) := by omega
        have t2 : decide ((k : Int) < 64) = false := by simp; omega
        clear hlt
        by_cases h12 : 12 < (len : Int) / 20
        · go_wp2
          go_ret
          exact ⟨rfl, ⟨HC.out.below ((hbel.setCell (Nat.le_refl _) _).setCell (Nat.le_refl _) _), 0, mix, 12, Nat.zero_le _, m1, m2, by decide, by decide, blk_set3 (blk_set3 hblk.out _) _⟩, (hbel.setCell (Nat.le_refl _) _).setCell (Nat.le_refl _) _⟩
        · have h13 : 0 ≤ (len : Int) / 20 := by omega
          have h14 : (len : Int) / 20 ≤ 12 := by omega
          go_wp2
          go_ret
          exact ⟨rfl, ⟨HC.out.below (hbel.setCell (Nat.le_refl _) _), 0, mix, (len : Int) / 20, Nat.zero_le _, m1, m2, h13, h14, blk_set3 hblk.out _⟩, hbel.setCell (Nat.le_refl _) _⟩
      · have t1 : decide ((k : Int) < (len : Int)) = false := by simp; omega
        have h13 : 0 ≤ (len : Int) / 20 := by omega
        have h14 : (len : Int) / 20 ≤ 12 := by omega
        clear hlt
        go_wp2
        go_ret
        exact ⟨rfl, ⟨HC.out.below (hbel.setCell (Nat.le_refl _) _), 0, mix, (len : Int) / 20, Nat.zero_le _, m1, m2, h13, h14, blk_set3 hblk.out _⟩, hbel.setCell (Nat.le_refl _) _⟩
end Go.Proofs.YtedahdncincgjaaGreatDoor
