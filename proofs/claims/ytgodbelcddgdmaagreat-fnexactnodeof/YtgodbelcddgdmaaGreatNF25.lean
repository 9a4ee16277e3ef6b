/- Laid together: Bytes, Join, Join2. -/
import Derived.WalkKit
import Derived.WalkSpells
import Derived.Laws.CopyOwn
import Derived.Lib.BufferWrite
import Derived.Lib.SlBytesRow
import Derived.Test.YtgodbelcddgdmaaGreatRows
import Derived.WalkLawsBesides
import Derived.Deep.OwnRows
/- Plain laws on bytes and rows that several functions lean on: what lies in a row of bytes that is being filled, 'copy' from a string into such a row, the row as a text. Nothing here names a program. -/
namespace Go.Proofs.YtgodbelcddgdmaaGreat
open Go.RowKit Go.Lib
set_option linter.unusedVariables false
/-- The bytes of the first k parts. -/
def catTo (f : Nat → ByteArray) : Nat → List UInt8
  | 0 => []
  | k + 1 => catTo f k ++ (f k).data.toList
/-- How many they are. -/
def totTo (f : Nat → ByteArray) : Nat → Nat
  | 0 => 0
  | k + 1 => totTo f k + (f k).size
theorem catTo_length (f : Nat → ByteArray) (k : Nat) : (catTo f k).length = totTo f k := by
  induction k with
  | zero => rfl
  | succ k ih => simp [catTo, totTo, ih]
theorem totTo_mono (f : Nat → ByteArray) {k n : Nat} (h : k ≤ n) : totTo f k ≤ totTo f n := by
  induction n with
  | zero => obtain rfl : k = 0 := by omega
            exact Nat.le_refl _
  | succ n ih =>
    by_cases hk : k = n + 1
    · subst hk; exact Nat.le_refl _
    · have := ih (by omega); simp only [totTo]; omega
theorem totTo_part (f : Nat → ByteArray) {k n : Nat} (h : k < n) : totTo f k + (f k).size ≤ totTo f n := totTo_mono f (k := k + 1) h
/-- The row: the bytes that have come, zeros behind them. -/
def rowTo (l : List UInt8) (n : Nat) : List Value := byteCells l ++ List.replicate (n - l.length) (.int .u8 0)
theorem rowTo_length (l : List UInt8) (n : Nat) (h : l.length ≤ n) : (rowTo l n).length = n := by
  simp [rowTo, byteCells_length]; omega
theorem rowTo_full (l : List UInt8) : rowTo l l.length = byteCells l := by simp [rowTo]
theorem rowTo_splice (l m : List UInt8) (n : Nat) (h : l.length + m.length ≤ n) : splice (rowTo l n) l.length (byteCells m) = rowTo (l ++ m) n := by
  have hl : (byteCells l).length = l.length := byteCells_length l
  have hm : (byteCells m).length = m.length := byteCells_length m
  unfold splice rowTo
  rw [List.take_append_of_le_length (by omega), List.take_of_length_le (by omega), hm, List.drop_append, List.drop_of_length_le (by omega), hl, List.nil_append,
    Nat.add_sub_cancel_left, List.drop_replicate]
  have e1 : byteCells (l ++ m) = byteCells l ++ byteCells m := by simp [byteCells]
  rw [e1, List.append_assoc, List.length_append, Nat.sub_sub]
theorem made_row (n : Nat) : madeCells #[Value.int .u8 0] n = (rowTo [] n).toArray := by
  apply Array.ext
  · simp [size_madeCells, rowTo, byteCells]
  · intro i h1 h2
    simp [madeCells, rowTo, byteCells, Nat.mod_one]
/-- 'copy(dst, s)', s a string, into a row of the call's own: the place given by the prover. -/
theorem wpList_copy_str {P : Program} {w : World} {ops : Array Oper} {rest : List Oper} {o : Oper} {a : Act} {Q : Exit → Act → World → Prop} (hgd : o.guard = none) (d s : Operand) (dT sT : TypeId)
    (ho : o.op = .call { callee := .builtin .copy, args := #[d, s], argTypes := #[dT, sT] }) (elem : TypeId) (hu : P.underlying dT = some (.slice elem)) (hsz : (P.info? elem).map (·.size) = some 1)
    (dp : Option Addr) (dLen dCap : Nat) (x : ByteArray) (hd : a.eval d = .slice dp dLen dCap) (hs : a.eval s = .string x)
    (g off : Nat) (cur : List Value) (t : TypeId) (hg : w.heap[g]? = some (.cells cur.toArray t (0, 0))) (hle : x.size ≤ dLen)
    (hpos : 0 < x.size → dp = some ⟨g, off, none⟩) (hfit : off + x.size ≤ cur.length) (B : Nat) (w0 : World) (hb : Below B w0 w) (hBg : B ≤ g)
    (h : ∀ w', Hid (w'.heap[g]? = some (.cells (splice cur off (byteCells x.data.toList)).toArray t (0, 0))) → Below B w0 w' → wpList P ops Q rest (a.put o.dst (goInt x.size)) w') :
    wpList P ops Q (o :: rest) a w := by
  have hxl : (byteCells x.data.toList).length = x.size := by rw [byteCells_length, ← size_eq]
  by_cases h0 : x.size = 0
  · refine wpList_plain hgd fun K hK => ?_
    have hrun := run_copy_empty_string (P := P) w dT sT o.type elem dp dLen dCap x hu (by rw [hsz]; rfl) h0
    unfold Oper.wp
    simp [execOp, ho, resolve, invoke, builtin, hd, hs, hrun, Result.andThen]
    have e0 : byteCells x.data.toList = [] := List.eq_nil_of_length_eq_zero (by omega)
    have := h w (show _ = _ by rw [e0]; simpa [splice] using hg) hb
    rw [h0] at this
    exact hK _ _ this
  · have hdp := hpos (by omega)
    subst hdp
    refine wpList_plain hgd fun K hK => ?_
    have hrun := run_copy_row_string (P := P) w dT sT o.type elem g off dLen dCap x cur.toArray t hu hsz hg hle (by simpa using hfit)
    unfold Oper.wp
    simp [execOp, ho, resolve, invoke, builtin, hd, hs, hrun, Result.andThen]
    refine hK _ _ ?_
    have hw := h (w.setRow g (cur.take off ++ byteCells x.data.toList ++ cur.drop (off + x.size)).toArray) (show _ = _ by
      rw [splice, hxl, ← List.append_assoc]
      exact setRow_heap w g _ _ t _ hg) (below_setRow hb hBg _)
    simpa using hw
/-- A row of bytes reads as a text. -/
theorem row_bytes {w : World} {g : Nat} {t : TypeId} {l : List UInt8} (hg : w.heap[g]? = some (.cells (byteCells l).toArray t (0, 0))) : Bytes w g 0 ⟨l.toArray⟩ := by
  intro i hi
  have hi' : i < l.length := by simpa [ByteArray.size] using hi
  have hb : (byteCells l)[i]? = some (.int .u8 (l[i].toNat : Int)) := by simp [byteCells, hi']
  have : w.cell? ⟨g, 0 + i, none⟩ = (byteCells l)[i]? := by
    simp [World.cell?, hg]
  rw [this, hb]
  rfl
/-- 'string(row)'. -/
theorem run_convert_text {P : Program} (w : World) (src e dst : TypeId) (hs : P.underlying src = some (.slice e)) (he : P.underlying e = some (.int .u8)) (hd : P.underlying dst = some .string) (b o : Nat) (l : List UInt8) (n cap : Nat) (hn : n = l.length)
    (hc : Bytes w b o ⟨l.toArray⟩) : (convert src dst (.slice (some ⟨b, o, none⟩) n cap)).run P w = .ok (.string ⟨l.toArray⟩) w := by
  have h := run_convert_whole (P := P) w src e dst hs he hd b o ⟨l.toArray⟩ hc cap
  have e1 : (⟨l.toArray⟩ : ByteArray).size = n := by rw [hn]; simp [ByteArray.size]
  rw [e1] at h
  exact h
end Go.Proofs.YtgodbelcddgdmaaGreat
/- The contract of impl.join: of a slice of texts it hands back their bytes one behind the other, and turns nothing that was there. -/
namespace Go.Proofs.YtgodbelcddgdmaaGreat
open Go.RowKit
set_option linter.unusedVariables false
theorem infoU8 : (Tryz.prog.info? 5).map (fun i => (i.zero, i.size, i.bytes)) = some (some (.int .u8 0), 1, 1) := by kernel_rfl
theorem sizeU8 : (Tryz.prog.info? 5).map (·.size) = some 1 := by kernel_rfl
theorem row_new (w : World) (n : Nat) (t : TypeId) : Hid ((w.alloc (.cells (rowTo [] n).toArray t)).heap[w.heap.size]? = some (.cells (rowTo [] n).toArray t (0, 0))) := by
  show _ = _
  rw [World.alloc]
  exact Array.getElem?_push_size
theorem row_room (f : Nat → ByteArray) {j k : Nat} (h : j < k) : totTo f j + (f j).size ≤ (rowTo (catTo f j) (totTo f k)).length := by
  have h1 := totTo_part f h
  rw [rowTo_length _ _ (by rw [catTo_length]; omega)]
  exact h1
theorem row_next (f : Nat → ByteArray) {j k g : Nat} {t : TypeId} {w : World} (h : j < k) (hr : Hid (w.heap[g]? = some (.cells (splice (rowTo (catTo f j) (totTo f k)) (totTo f j) (Lib.byteCells (f j).data.toList)).toArray t (0, 0)))) :
    Hid (w.heap[g]? = some (.cells (rowTo (catTo f (j + 1)) (totTo f k)).toArray t (0, 0))) := by
  have h1 := totTo_part f h
  have h2 := hr.out
  have h3 := catTo_length f j
  rw [← h3, rowTo_splice _ _ _ (by rw [h3]; simpa using h1)] at h2
  exact h2
theorem row_end (f : Nat → ByteArray) {k g : Nat} {t : TypeId} {w : World} (hr : Hid (w.heap[g]? = some (.cells (rowTo (catTo f k) (totTo f k)).toArray t (0, 0)))) :
    w.heap[g]? = some (.cells (Lib.byteCells (catTo f k)).toArray t (0, 0)) := by
  have h2 := hr.out
  rw [← catTo_length f k, rowTo_full] at h2
  exact h2
set_option maxHeartbeats 1000000 in
theorem join_any (f : Nat → ByteArray) (b off n c : Nat) (w : World) (hcell : ∀ k, k < n → w.cell? ⟨b, off + k, none⟩ = some (.string (f k))) (hb : b < w.heap.size) (hn : n ≤ 1000000) (ht : totTo f n ≤ 1099511627776) :
    Calls Tryz.prog 41 #[.slice (some ⟨b, off, none⟩) n c] w fun e w' => e = .returned (.string ⟨(catTo f n).toArray⟩) ∧ Below w.heap.size w w' := by
  go_enter Tryz.func41, Tryz.ntmps41
  go_wp2
  go_loop [3, 12] (fun s i => ∃ k : Nat, k ≤ n ∧ i = .int .i64 k ∧ s = .int .i64 (totTo f k)) (fun _ i => n - (intOf i).toNat)
  case atStart => exact ⟨0, Nat.zero_le _, rfl, rfl⟩
  case round =>
    obtain ⟨k, hk, rfl, rfl⟩ := hrel
    have hm := totTo_mono f hk
    by_cases hlt : k < n
    · have hc := hcell k hlt
      have hp := totTo_part f hlt
      go_wp2
      go_round
      case rel => exact ⟨k + 1, by omega, by go_num, by simp only [totTo]; go_num⟩
      case measure => simp [intOf]; omega
    · have : k = n := by omega
      subst this
      have hmk := run_make_row' (P := Tryz.prog) 92 5 (.int .u8 0) 1 Tryz.underlying92 infoU8 rfl .i64 .i64 (totTo f k) (by omega) (by omega) w
      rw [made_row] at hmk
      go_wp2
      go_loopw [7, 25] (fun a i wr => ∃ j : Nat, j ≤ k ∧ i = .int .i64 j ∧ a = .int .i64 (totTo f j) ∧ Hid (wr.heap[w.heap.size]? = some (.cells (rowTo (catTo f j) (totTo f k)).toArray 5 (0, 0))) ∧ Below w.heap.size w wr) (fun _ i _ => k - (intOf i).toNat)
      case atStart => exact ⟨0, Nat.zero_le _, rfl, rfl, row_new w _ _, (Below.refl _ _).alloc (Nat.le_refl _) _⟩
      case round =>
        obtain ⟨j, hj, rfl, rfl, hrow, hbel⟩ := hrel
        have hmj := totTo_mono f hj
        clear hmk
        by_cases hlt : j < k
        · have hc : wr.cell? ⟨b, off + j, none⟩ = some (.string (f j)) := (hbel.cell (by exact hb)).trans (hcell j hlt)
          have hp := totTo_part f hlt
          rcases Nat.lt_or_eq_of_le hmj with hl | heq
          · have hne : ¬ totTo f k = totTo f j := by omega
            go_wp2_with (refine wpList_copy_str rfl (.tmp 32) (.tmp 33) 92 9 rfl 5 Tryz.underlying92 sizeU8 _ _ _ (f j) rfl rfl w.heap.size (totTo f j) (rowTo (catTo f j) (totTo f k)) 5 hrow.out (by omega) (fun _ => rfl) (row_room f hlt) w.heap.size w hbel (Nat.le_refl _) ?_; intro w2 hrow2 hbel2)
            go_roundw
            case rel => exact ⟨j + 1, by omega, by go_num, by simp only [totTo]; go_num, row_next f hlt hrow2, hbel2⟩
            case measure => simp [intOf]; omega
          · go_wp2_with (refine wpList_copy_str rfl (.tmp 32) (.tmp 33) 92 9 rfl 5 Tryz.underlying92 sizeU8 _ _ _ (f j) rfl rfl w.heap.size (totTo f j) (rowTo (catTo f j) (totTo f k)) 5 hrow.out (by omega) (fun h => absurd h (by omega)) (row_room f hlt) w.heap.size w hbel (Nat.le_refl _) ?_; intro w2 hrow2 hbel2)
            go_roundw
            case rel => exact ⟨j + 1, by omega, by go_num, by simp only [totTo]; go_num, row_next f hlt hrow2, hbel2⟩
            case measure => simp [intOf]; omega
        · have : j = k := by omega
          subst this
          have hby := row_bytes (row_end f hrow)
          have hcv := run_convert_text (P := Tryz.prog) wr 92 5 9 Tryz.underlying92 Tryz.underlying5 Tryz.underlying9 w.heap.size 0 (catTo f j) (totTo f j) (totTo f j) (catTo_length f j).symm hby
          clear hby
          go_wp2
          go_ret
          exact ⟨rfl, hbel⟩
theorem cat1 (s : ByteArray) : (⟨(catTo (fun _ => s) 1).toArray⟩ : ByteArray) = s := by
  apply ByteArray.ext
  simp [catTo]
theorem join_one (s : ByteArray) (w : World) (h : s.size ≤ 1099511627776) :
    Calls Tryz.prog 41 #[.slice (some ⟨w.heap.size, 0, none⟩) 1 1] (w.alloc (.cells #[.string s] 9)) fun e w' => e = .returned (.string s) ∧ Below w.heap.size w w' := by
  refine (join_any (fun _ => s) w.heap.size 0 1 1 (w.alloc (.cells #[.string s] 9)) ?_ (by simp) (by decide) (by simp [totTo]; omega)).mono ?_
  · intro k hk
    match k, hk with
    | 0, _ => simp
  · rintro e w' ⟨rfl, hb⟩
    rw [cat1]
    exact ⟨rfl, ((Below.refl _ _).alloc (Nat.le_refl _) _).trans (hb.mono (by simp))⟩
end Go.Proofs.YtgodbelcddgdmaaGreat
