/- Laid together: Join, Join2, Join5, Digs. -/
import Derived.Test.YtedahdncincgjaaGreatDoorNX29
/- The contract of impl.join: of a slice of texts it hands back their bytes one behind the other, and turns nothing that was there. -/
namespace Go.Proofs.YtedahdncincgjaaGreatDoor
open Go.RowKit
set_option linter.unusedVariables false
theorem infoU8 : (Tryz.prog.info? 5).map (fun i => (i.zero, i.size, i.bytes)) = some (some (.int .u8 0), 1, 1) := by kernel_rfl
theorem sizeU8 : (Tryz.prog.info? 5).map (·.size) = some 1 := by kernel_rfl
theorem row_new (w : World) (n : Nat) (t : TypeId) : Hid ((w.alloc (.cells (rowTo [] n).toArray t)).heap[w.heap.size]? = some (.cells (rowTo [] n).toArray t (0, 0))) := by
  show _ = _
  rw [World.alloc]
  exact Array.getElem?_push_size
theorem row_room (f : Nat → ByteArray) {j k : Nat} (h : j < k) : totTo f j + (f j).size ≤ (rowTo (catTo f j) (totTo f k)).length := by
  have h1 := totTo_part f h
  rw [rowTo_length _ _ (by rw [catTo_length]; omega)]
  exact h1
theorem row_next (f : Nat → ByteArray) {j k g : Nat} {t : TypeId} {w : World} (h : j < k) (hr : Hid (w.heap[g]? = some (.cells (splice (rowTo (catTo f j) (totTo f k)) (totTo f j) (Lib.byteCells (f j).data.toList)).toArray t (0, 0)))) :
    Hid (w.heap[g]? = some (.cells (rowTo (catTo f (j + 1)) (totTo f k)).toArray t (0, 0))) := by
  have h1 := totTo_part f h
  have h2 := hr.out
  have h3 := catTo_length f j
  rw [← h3, rowTo_splice _ _ _ (by rw [h3]; simpa using h1)] at h2
  exact h2
theorem row_end (f : Nat → ByteArray) {k g : Nat} {t : TypeId} {w : World} (hr : Hid (w.heap[g]? = some (.cells (rowTo (catTo f k) (totTo f k)).toArray t (0, 0)))) :
    w.heap[g]? = some (.cells (Lib.byteCells (catTo f k)).toArray t (0, 0)) := by
  have h2 := hr.out
  rw [← catTo_length f k, rowTo_full] at h2
  exact h2
set_option maxHeartbeats 1000000 in
theorem join_any (f : Nat → ByteArray) (b off n c : Nat) (w : World) (hcell : ∀ k, k < n → w.cell? ⟨b, off + k, none⟩ = some (.string (f k))) (hb : b < w.heap.size) (hn : n ≤ 1000000) (ht : totTo f n ≤ 1099511627776) :
    Calls Tryz.prog 27 #[.slice (some ⟨b, off, none⟩) n c] w fun e w' => e = .returned (.string ⟨(catTo f n).toArray⟩) ∧ Below w.heap.size w w' := by
  go_enter Tryz.func27, Tryz.ntmps27
  go_wp2
  go_loop [3, 12] (fun s i => ∃ k : Nat, k ≤ n ∧ i = .int .i64 k ∧ s = .int .i64 (totTo f k)) (fun _ i => n - (intOf i).toNat)
  case atStart => exact ⟨0, Nat.zero_le _, rfl, rfl⟩
  case round =>
    obtain ⟨k, hk, rfl, rfl⟩ := hrel
    have hm := totTo_mono f hk
    by_cases hlt : k < n
    · have hc := hcell k hlt
      have hp := totTo_part f hlt
      go_wp2
      go_round
      case rel => exact ⟨k + 1, by omega, by go_num, by simp only [totTo]; go_num⟩
      case measure => simp [intOf]; omega
    · have : k = n := by omega
      subst this
      have hmk := run_make_row' (P := Tryz.prog) 22 5 (.int .u8 0) 1 Tryz.underlying22 infoU8 rfl .i64 .i64 (totTo f k) (by omega) (by omega) w
      rw [made_row] at hmk
      go_wp2
      go_loopw [7, 25] (fun a i wr => ∃ j : Nat, j ≤ k ∧ i = .int .i64 j ∧ a = .int .i64 (totTo f j) ∧ Hid (wr.heap[w.heap.size]? = some (.cells (rowTo (catTo f j) (totTo f k)).toArray 5 (0, 0))) ∧ Below w.heap.size w wr) (fun _ i _ => k - (intOf i).toNat)
      case atStart => exact ⟨0, Nat.zero_le _, rfl, rfl, row_new w _ _, (Below.refl _ _).alloc (Nat.le_refl _) _⟩
      case round =>
        obtain ⟨j, hj, rfl, rfl, hrow, hbel⟩ := hrel
        have hmj := totTo_mono f hj
        clear hmk
        by_cases hlt : j < k
        · have hc : wr.cell? ⟨b, off + j, none⟩ = some (.string (f j)) := (hbel.cell (by exact hb)).trans (hcell j hlt)
          have hp := totTo_part f hlt
          rcases Nat.lt_or_eq_of_le hmj with hl | heq
          · have hne : ¬ totTo f k = totTo f j := by omega
            go_wp2_with (refine wpList_copy_str rfl (.tmp 32) (.tmp 33) 22 9 rfl 5 Tryz.underlying22 sizeU8 _ _ _ (f j) rfl rfl w.heap.size (totTo f j) (rowTo (catTo f j) (totTo f k)) 5 hrow.out (by omega) (fun _ => rfl) (row_room f hlt) w.heap.size w hbel (Nat.le_refl _) ?_; intro w2 hrow2 hbel2)
            go_roundw
            case rel => exact ⟨j + 1, by omega, by go_num, by simp only [totTo]; go_num, row_next f hlt hrow2, hbel2⟩
            case measure => simp [intOf]; omega
          · go_wp2_with (refine wpList_copy_str rfl (.tmp 32) (.tmp 33) 22 9 rfl 5 Tryz.underlying22 sizeU8 _ _ _ (f j) rfl rfl w.heap.size (totTo f j) (rowTo (catTo f j) (totTo f k)) 5 hrow.out (by omega) (fun h => absurd h (by omega)) (row_room f hlt) w.heap.size w hbel (Nat.le_refl _) ?_; intro w2 hrow2 hbel2)
            go_roundw
            case rel => exact ⟨j + 1, by omega, by go_num, by simp only [totTo]; go_num, row_next f hlt hrow2, hbel2⟩
            case measure => simp [intOf]; omega
        · have : j = k := by omega
          subst this
          have hby := row_bytes (row_end f hrow)
          have hcv := run_convert_text (P := Tryz.prog) wr 22 5 9 Tryz.underlying22 Tryz.underlying5 Tryz.underlying9 w.heap.size 0 (catTo f j) (totTo f j) (totTo f j) (catTo_length f j).symm hby
          clear hby
          go_wp2
          go_ret
          exact ⟨rfl, hbel⟩
def pick2 (s t : ByteArray) (k : Nat) : ByteArray := match k with
  | 0 => s
  | _ => t
theorem cat2 (s t : ByteArray) : (⟨(catTo (pick2 s t) 2).toArray⟩ : ByteArray) = s ++ t := by
  apply ByteArray.ext
  simp [catTo, pick2]
theorem cat1 (s : ByteArray) : (⟨(catTo (fun _ => s) 1).toArray⟩ : ByteArray) = s := by
  apply ByteArray.ext
  simp [catTo]
theorem join_two (s t : ByteArray) (w : World) (h : s.size + t.size ≤ 1099511627776) :
    Calls Tryz.prog 27 #[.slice (some ⟨w.heap.size, 0, none⟩) 2 2] (w.alloc (.cells #[.string s, .string t] 9)) fun e w' => e = .returned (.string (s ++ t)) ∧ Below w.heap.size w w' := by
  refine (join_any (pick2 s t) w.heap.size 0 2 2 (w.alloc (.cells #[.string s, .string t] 9)) ?_ (by simp) (by decide) (by simp [totTo, pick2]; omega)).mono ?_
  · intro k hk
    match k, hk with
    | 0, _ => simp [pick2]
    | 1, _ => simp [pick2]
  · rintro e w' ⟨rfl, hb⟩
    rw [cat2]
    exact ⟨rfl, ((Below.refl _ _).alloc (Nat.le_refl _) _).trans (hb.mono (by simp))⟩
theorem join_one (s : ByteArray) (w : World) (h : s.size ≤ 1099511627776) :
    Calls Tryz.prog 27 #[.slice (some ⟨w.heap.size, 0, none⟩) 1 1] (w.alloc (.cells #[.string s] 9)) fun e w' => e = .returned (.string s) ∧ Below w.heap.size w w' := by
  refine (join_any (fun _ => s) w.heap.size 0 1 1 (w.alloc (.cells #[.string s] 9)) ?_ (by simp) (by decide) (by simp [totTo]; omega)).mono ?_
  · intro k hk
    match k, hk with
    | 0, _ => simp
  · rintro e w' ⟨rfl, hb⟩
    rw [cat1]
    exact ⟨rfl, ((Below.refl _ _).alloc (Nat.le_refl _) _).trans (hb.mono (by simp))⟩
end Go.Proofs.YtedahdncincgjaaGreatDoor
/- Five texts joined. -/
namespace Go.Proofs.YtedahdncincgjaaGreatDoor
open Go.RowKit Go.PlainAid
set_option linter.unusedVariables false
def pick5 (a b c d e : ByteArray) : Nat → ByteArray := fun i => if i = 0 then a else if i = 1 then b else if i = 2 then c else if i = 3 then d else e
theorem cat5 (a b c d e : ByteArray) : (⟨(catTo (pick5 a b c d e) 5).toArray⟩ : ByteArray) = a ++ b ++ c ++ d ++ e := by
  apply ByteArray.ext
  apply Array.toList_inj.1
  simp [ByteArray.data_append, catTo, pick5]
theorem tot5 (a b c d e : ByteArray) : totTo (pick5 a b c d e) 5 = a.size + b.size + c.size + d.size + e.size := by
  simp [totTo, pick5]
/-- impl.join of five texts that were just laid in a row. -/
theorem join_five (a b c d e : ByteArray) (w : World) (h : a.size + b.size + c.size + d.size + e.size ≤ 1000000) (cap : Nat) :
    Calls Tryz.prog 27 #[.slice (some ⟨w.heap.size, 0, none⟩) 5 cap] (w.alloc (.cells #[.string a, .string b, .string c, .string d, .string e] 9)) fun e' w' => e' = .returned (.string (a ++ b ++ c ++ d ++ e)) ∧ Below w.heap.size w w' := by
  have hb : (w.alloc (.cells #[.string a, .string b, .string c, .string d, .string e] 9)).heap[w.heap.size]? = some (.cells #[.string a, .string b, .string c, .string d, .string e] 9) := by
    rw [World.alloc]
    exact Array.getElem?_push_size
  have hc : ∀ k, k < 5 → (w.alloc (.cells #[.string a, .string b, .string c, .string d, .string e] 9)).cell? ⟨w.heap.size, 0 + k, none⟩ = some (.string (pick5 a b c d e k)) := by
    intro k hk
    simp only [World.cell?, hb, Nat.zero_add]
    match k, hk with
    | 0, _ => rfl
    | 1, _ => rfl
    | 2, _ => rfl
    | 3, _ => rfl
    | 4, _ => rfl
  refine (join_any (pick5 a b c d e) w.heap.size 0 5 cap _ hc (by simp) (by omega) (by rw [tot5]; omega)).mono ?_
  rintro e' w' ⟨rfl, hbl⟩
  exact ⟨by rw [cat5], Below.on (bel_alloc _ _) hbl⟩
/-- The table of the powers of ten lies where it is laid. -/
def PowW (w : World) : Prop := Lib.TabIs Tryz.prog w "internal/strconv.uint64pow10" .u64 Lib.pow10Tab
theorem gPow : Tryz.prog.globalNamed "internal/strconv.uint64pow10" = some 1 := by kernel_rfl
theorem PowW.below {w w' : World} (h : PowW w) (hb : Below w.heap.size w w') : PowW w' := Go.Joins.var_stays gPow h hb (Nat.le_refl _)
theorem itoa_nat (n : Nat) : Lib.itoa (n : Int) = Lib.decDigits n := by
  have h : ¬ ((n : Int) < 0) := by omega
  rw [Lib.itoa, if_neg h, Int.toNat_natCast]
theorem below_grewD (w : World) (k : Nat) (os : Array Obj) : Below w.heap.size w (Go.Sort.grow (w.drewN k) os) := below_regrown w (w.drawn + k) os
set_option maxHeartbeats 1000000 in
/-- impl.digits of an id. -/
theorem iDigits_any (n : Nat) (h : n ≤ 9999) (w : World) (hp : PowW w) :
    Calls Tryz.prog 59 #[.int .i64 n] w fun e w' => e = .returned (.string (decT n)) ∧ Below w.heap.size w w' := by
  have hc : Hid (Calls Tryz.prog 84 #[.int .i64 (n : Int), .int .i64 10] w fun e w' => e = .returned (.string (decT n)) ∧ Below w.heap.size w w') := (by
    refine (Tryz.strconv_FormatInt_10 (n : Int) (by omega) (by omega) w hp).mono ?_
    rintro e w' ⟨rfl, k, os, rfl⟩
    exact ⟨by rw [itoa_nat]; rfl, below_grewD w k os⟩)
  clear hp
  go_enter Tryz.func59, Tryz.ntmps59
  go_wp2_with fail
  refine hc.out.mono ?_
  rintro e w1 ⟨rfl, hb⟩
  have HB : Hid (Below w.heap.size w w1) := hb
  clear hb hc
  go_wp2
  go_ret
  exact ⟨rfl, HB.out⟩
end Go.Proofs.YtedahdncincgjaaGreatDoor
