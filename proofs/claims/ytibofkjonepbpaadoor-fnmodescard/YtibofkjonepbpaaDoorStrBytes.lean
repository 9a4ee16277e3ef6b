/- A text turned into bytes of the call's own: its cells, and that they may be written; one byte turned; the bytes as a text again. -/
import Derived.Test.YtibofkjonepbpaaDoorBytes
import Derived.Laws.IdiomStrings
import Derived.PlainAid
namespace Go.Proofs.YtibofkjonepbpaaDoor
open Go.RowKit Go.PlainAid
set_option linter.unusedVariables false
/-- What a world holds of a text s as bytes at block B. -/
def Holds (w : World) (B : Nat) (f : Nat → Int) (n : Nat) : Prop := (∀ i, i < n → w.cell? ⟨B, i, none⟩ = some (.int .u8 (f i))) ∧ ∀ i, i < n → w.frozen? ⟨B, i, none⟩ = false
theorem conv_holds (w : World) (s : ByteArray) (cap : Nat) (t : TypeId) : Holds (w.drew.alloc (.cells (bytesRow s cap) t ((bytesRow s cap).size, (bytesRow s cap).size + 1))) w.heap.size (bt s) s.size := by
  have hb : (w.drew.alloc (.cells (bytesRow s cap) t ((bytesRow s cap).size, (bytesRow s cap).size + 1))).heap[w.heap.size]? = some (.cells (bytesRow s cap) t ((bytesRow s cap).size, (bytesRow s cap).size + 1)) := by
    rw [World.alloc]
    exact Array.getElem?_push_size
  constructor
  · intro i hi
    have e : (bytesRow s cap)[i]? = some (.int .u8 (bt s i)) := by
      unfold bt bytesRow
      have hi' : i < s.data.size := hi
      rw [dif_pos hi, Array.getElem?_append_left (by simpa using hi'), Array.getElem?_map, Array.getElem?_eq_getElem hi']
      rfl
    simp only [World.cell?, hb]
    exact e
  · intro i hi
    simp only [World.frozen?, hb]
    have : i < (bytesRow s cap).size := by simp [bytesRow]; omega
    simp
    omega
theorem Holds.set {w : World} {B : Nat} {f : Nat → Int} {n : Nat} (h : Holds w B f n) (i : Nat) (hi : i < n) (v : Int) : Holds (w.setCell ⟨B, i, none⟩ (.int .u8 v)) B (fun k => if k = i then v else f k) n := by
  constructor
  · intro k hk
    by_cases e : k = i
    · subst e
      simp only [if_pos]
      have := h.1 k hk
      simp [go_sem, this]
    · simp only [if_neg e]
      rw [← h.1 k hk]
      exact World.cell?_setCell_other _ _ _ _ (by intro h; cases h; exact e rfl)
  · intro k hk
    rw [World.frozen?_setCell]
    exact h.2 k hk
theorem Holds.drew {w : World} {B : Nat} {f : Nat → Int} {n : Nat} (h : Holds w B f n) : Holds w.drew B f n := h
/-- The bytes as a text. -/
def txtOf (f : Nat → Int) (n : Nat) : ByteArray := ⟨((List.range n).map fun i => UInt8.ofNat (f i).toNat).toArray⟩
theorem txtOf_size (f : Nat → Int) (n : Nat) : (txtOf f n).size = n := by simp [txtOf, ByteArray.size]
theorem txtOf_bt {f : Nat → Int} {n k : Nat} (hk : k < n) (hf : 0 ≤ f k ∧ f k ≤ 255) : bt (txtOf f n) k = f k := by
  have g : k < (txtOf f n).size := by rw [txtOf_size]; exact hk
  unfold bt
  rw [dif_pos g]
  show (((((List.range n).map fun i => UInt8.ofNat (f i).toNat).toArray)[k]'(by simpa using hk)).toNat : Int) = _
  simp
  omega
theorem Holds.text {P : Program} (src e dst : TypeId) (hs : P.underlying src = some (.slice e)) (he : P.underlying e = some (.int .u8)) (hd : P.underlying dst = some .string) {w : World} {B : Nat} {f : Nat → Int} {n : Nat} (h : Holds w B f n) (hf : ∀ i, i < n → 0 ≤ f i ∧ f i ≤ 255) (cap : Nat) :
    (convert src dst (.slice (some ⟨B, 0, none⟩) n cap)).run P w = .ok (.string (txtOf f n)) w := by
  have hl : ((List.range n).map fun i => UInt8.ofNat (f i).toNat).length = n := by simp
  refine run_convert_text w src e dst hs he hd B 0 _ n cap hl.symm ?_
  intro i hi
  have hi' : i < n := by simpa [ByteArray.size] using hi
  have b := hf i hi'
  rw [Nat.zero_add, h.1 i hi']
  show _ = some (Value.int .u8 ((((List.range n).map fun i => UInt8.ofNat (f i).toNat).toArray)[i]'(by simpa using hi')).toNat)
  simp
  omega
theorem Holds.below {w w' : World} {B : Nat} {f : Nat → Int} {n : Nat} (h : Holds w B f n) (hB : B < w.heap.size) (hb : Below w.heap.size w w') : Holds w' B f n :=
  ⟨fun i hi => (hb.cell (p := ⟨B, i, none⟩) hB).trans (h.1 i hi), fun i hi => (hb.frozen (p := ⟨B, i, none⟩) hB).trans (h.2 i hi)⟩
end Go.Proofs.YtibofkjonepbpaaDoor
