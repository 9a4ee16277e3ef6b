/- Plain laws on bytes and rows that several functions lean on: what lies in a row of bytes that is being filled, 'copy' from a string into such a row, the row as a text. Nothing here names a program. -/
import Derived.WalkKit
import Derived.WalkSpells
import Derived.Laws.CopyOwn
import Derived.Lib.BufferWrite
import Derived.Lib.SlBytesRow
namespace Go.Proofs.Ytgodbelcddgdmaa
open Go.RowKit Go.Lib
set_option linter.unusedVariables false
/-- The bytes of the first k parts. -/
def catTo (f : Nat → ByteArray) : Nat → List UInt8
  | 0 => []
  | k + 1 => catTo f k ++ (f k).data.toList
/-- How many they are. -/
def totTo (f : Nat → ByteArray) : Nat → Nat
  | 0 => 0
  | k + 1 => totTo f k + (f k).size
theorem catTo_length (f : Nat → ByteArray) (k : Nat) : (catTo f k).length = totTo f k := by
  induction k with
  | zero => rfl
  | succ k ih => simp [catTo, totTo, ih]
theorem totTo_mono (f : Nat → ByteArray) {k n : Nat} (h : k ≤ n) : totTo f k ≤ totTo f n := by
  induction n with
  | zero => obtain rfl : k = 0 := by omega
            exact Nat.le_refl _
  | succ n ih =>
    by_cases hk : k = n + 1
    · subst hk; exact Nat.le_refl _
    · have := ih (by omega); simp only [totTo]; omega
theorem totTo_part (f : Nat → ByteArray) {k n : Nat} (h : k < n) : totTo f k + (f k).size ≤ totTo f n := totTo_mono f (k := k + 1) h
/-- The row: the bytes that have come, zeros behind them. -/
def rowTo (l : List UInt8) (n : Nat) : List Value := byteCells l ++ List.replicate (n - l.length) (.int .u8 0)
theorem rowTo_length (l : List UInt8) (n : Nat) (h : l.length ≤ n) : (rowTo l n).length = n := by
  simp [rowTo, byteCells_length]; omega
theorem rowTo_full (l : List UInt8) : rowTo l l.length = byteCells l := by simp [rowTo]
theorem rowTo_splice (l m : List UInt8) (n : Nat) (h : l.length + m.length ≤ n) : splice (rowTo l n) l.length (byteCells m) = rowTo (l ++ m) n := by
  have hl : (byteCells l).length = l.length := byteCells_length l
  have hm : (byteCells m).length = m.length := byteCells_length m
  unfold splice rowTo
  rw [List.take_append_of_le_length (by omega), List.take_of_length_le (by omega), hm, List.drop_append, List.drop_of_length_le (by omega), hl, List.nil_append,
    Nat.add_sub_cancel_left, List.drop_replicate]
  have e1 : byteCells (l ++ m) = byteCells l ++ byteCells m := by simp [byteCells]
  rw [e1, List.append_assoc, List.length_append, Nat.sub_sub]
theorem made_row (n : Nat) : madeCells #[Value.int .u8 0] n = (rowTo [] n).toArray := by
  apply Array.ext
  · simp [size_madeCells, rowTo, byteCells]
  · intro i h1 h2
    simp [madeCells, rowTo, byteCells, Nat.mod_one]
/-- 'copy(dst, s)', s a string, into a row of the call's own: the place given by the prover. -/
theorem wpList_copy_str {P : Program} {w : World} {ops : Array Oper} {rest : List Oper} {o : Oper} {a : Act} {Q : Exit → Act → World → Prop} (hgd : o.guard = none) (d s : Operand) (dT sT : TypeId)
    (ho : o.op = .call { callee := .builtin .copy, args := #[d, s], argTypes := #[dT, sT] }) (elem : TypeId) (hu : P.underlying dT = some (.slice elem)) (hsz : (P.info? elem).map (·.size) = some 1)
    (dp : Option Addr) (dLen dCap : Nat) (x : ByteArray) (hd : a.eval d = .slice dp dLen dCap) (hs : a.eval s = .string x)
    (g off : Nat) (cur : List Value) (t : TypeId) (hg : w.heap[g]? = some (.cells cur.toArray t (0, 0))) (hle : x.size ≤ dLen)
    (hpos : 0 < x.size → dp = some ⟨g, off, none⟩) (hfit : off + x.size ≤ cur.length) (B : Nat) (w0 : World) (hb : Below B w0 w) (hBg : B ≤ g)
    (h : ∀ w', Hid (w'.heap[g]? = some (.cells (splice cur off (byteCells x.data.toList)).toArray t (0, 0))) → Below B w0 w' → wpList P ops Q rest (a.put o.dst (goInt x.size)) w') :
    wpList P ops Q (o :: rest) a w := by
  have hxl : (byteCells x.data.toList).length = x.size := by rw [byteCells_length, ← size_eq]
  by_cases h0 : x.size = 0
  · refine wpList_plain hgd fun K hK => ?_
    have hrun := run_copy_empty_string (P := P) w dT sT o.type elem dp dLen dCap x hu (by rw [hsz]; rfl) h0
    unfold Oper.wp
    simp [execOp, ho, resolve, invoke, builtin, hd, hs, hrun, Result.andThen]
    have e0 : byteCells x.data.toList = [] := List.eq_nil_of_length_eq_zero (by omega)
    have := h w (show _ = _ by rw [e0]; simpa [splice] using hg) hb
    rw [h0] at this
    exact hK _ _ this
  · have hdp := hpos (by omega)
    subst hdp
    refine wpList_plain hgd fun K hK => ?_
    have hrun := run_copy_row_string (P := P) w dT sT o.type elem g off dLen dCap x cur.toArray t hu hsz hg hle (by simpa using hfit)
    unfold Oper.wp
    simp [execOp, ho, resolve, invoke, builtin, hd, hs, hrun, Result.andThen]
    refine hK _ _ ?_
    have hw := h (w.setRow g (cur.take off ++ byteCells x.data.toList ++ cur.drop (off + x.size)).toArray) (show _ = _ by
      rw [splice, hxl, ← List.append_assoc]
      exact setRow_heap w g _ _ t _ hg) (below_setRow hb hBg _)
    simpa using hw
/-- A row of bytes reads as a text. -/
theorem row_bytes {w : World} {g : Nat} {t : TypeId} {l : List UInt8} (hg : w.heap[g]? = some (.cells (byteCells l).toArray t (0, 0))) : Bytes w g 0 ⟨l.toArray⟩ := by
  intro i hi
  have hi' : i < l.length := by simpa [ByteArray.size] using hi
  have hb : (byteCells l)[i]? = some (.int .u8 (l[i].toNat : Int)) := by simp [byteCells, hi']
  have : w.cell? ⟨g, 0 + i, none⟩ = (byteCells l)[i]? := by
    simp [World.cell?, hg]
  rw [this, hb]
  rfl
/-- What a callee leaves that turns nothing old: every old cell, every old mark. -/
theorem bcell {W w1 : World} (hb : Below W.heap.size W w1) : (∀ b o, b < W.heap.size → w1.cell? ⟨b, o, none⟩ = W.cell? ⟨b, o, none⟩) ∧ (∀ b o, b < W.heap.size → w1.frozen? ⟨b, o, none⟩ = W.frozen? ⟨b, o, none⟩) :=
  ⟨fun b o h => hb.cell (p := ⟨b, o, none⟩) h, fun b o h => hb.frozen (p := ⟨b, o, none⟩) h⟩
theorem str_eq {a b : ByteArray} (h : a = b) : (a.toList == b.toList) = true := by subst h; simp
theorem str_ne {a b : ByteArray} (h : ¬ a = b) : (a.toList == b.toList) = false := by
  rw [beq_eq_false_iff_ne]
  intro h2
  rw [ByteArray.toList_eq, ByteArray.toList_eq] at h2
  exact h (ByteArray.ext (Array.toList_inj.1 h2))
/-- 'string(row)'. -/
theorem run_convert_text {P : Program} (w : World) (src e dst : TypeId) (hs : P.underlying src = some (.slice e)) (he : P.underlying e = some (.int .u8)) (hd : P.underlying dst = some .string) (b o : Nat) (l : List UInt8) (n cap : Nat) (hn : n = l.length)
    (hc : Bytes w b o ⟨l.toArray⟩) : (convert src dst (.slice (some ⟨b, o, none⟩) n cap)).run P w = .ok (.string ⟨l.toArray⟩) w := by
  have h := run_convert_whole (P := P) w src e dst hs he hd b o ⟨l.toArray⟩ hc cap
  have e1 : (⟨l.toArray⟩ : ByteArray).size = n := by rw [hn]; simp [ByteArray.size]
  rw [e1] at h
  exact h
end Go.Proofs.Ytgodbelcddgdmaa
