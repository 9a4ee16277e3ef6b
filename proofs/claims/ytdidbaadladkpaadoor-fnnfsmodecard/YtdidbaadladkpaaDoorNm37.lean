/- Laid together: NfsBorn, ChmodI. -/
import Derived.Test.YtdidbaadladkpaaDoorNm29
import Derived.Test.YtdidbaadladkpaaDoorNm30
import Derived.Test.YtdidbaadladkpaaDoorNm31
/- NfsBorn, the program's and the specification's. -/
namespace Go.Proofs.YtdidbaadladkpaaDoor
open Go.RowKit Go.PlainAid Go.Deep
set_option linter.unusedVariables false
/-- Does an ace of these flags come into what is new? -/
def bornT (dir : Bool) (f : Int) : Bool := if dir then (decide (f / 2 % 2 = 1) || (decide (f % 2 = 1) && !decide (f / 4 % 2 = 1))) else decide (f % 2 = 1)
/-- With which flags? -/
def bornG (dir : Bool) (f : Int) : Int := if dir then (if f / 2 % 2 = 1 then (if f / 4 % 2 = 1 then 0 else f % 8) else 9) else 0
def bornX (dir : Bool) (x : Ac) : Ac := ⟨x.al, x.wh, x.id, bornG dir x.fl, x.ma⟩
def bornO (dir : Bool) (x : Ac) : List Ac := if bornT dir x.fl then [bornX dir x] else []
/-- What the first k of a list give. -/
def bornP (dir : Bool) (l : List Ac) : Nat → List Ac
  | 0 => []
  | k + 1 => bornP dir l k ++ bornO dir (acAt l k)
/-- NfsBorn. -/
def bornL (dir : Bool) (l : List Ac) : List Ac := if acesB l then bornP dir l l.length else []
theorem bornP_len (dir : Bool) (l : List Ac) (k : Nat) : (bornP dir l k).length ≤ k := by
  induction k with
  | zero => exact Nat.le_refl _
  | succ k ih =>
    have : (bornO dir (acAt l k)).length ≤ 1 := by unfold bornO; split <;> simp
    simp only [bornP, List.length_append]
    omega
theorem bornL_len (dir : Bool) (l : List Ac) : (bornL dir l).length ≤ 32 := by
  unfold bornL
  split
  · rename_i h
    have := bornP_len dir l l.length
    have h2 := aces_len h
    omega
  · simp
theorem bornP_yes {dir : Bool} {l : List Ac} {k : Nat} (h : bornT dir (acAt l k).fl = true) : bornP dir l (k + 1) = bornP dir l k ++ [bornX dir (acAt l k)] := by simp [bornP, bornO, h]
theorem bornP_no {dir : Bool} {l : List Ac} {k : Nat} (h : bornT dir (acAt l k).fl = false) : bornP dir l (k + 1) = bornP dir l k := by simp [bornP, bornO, h]
theorem ansL_nil {xs : List Ac} (h : xs = []) {w w' : World} {a : Option Addr} {c : Nat} (hin : ∀ A, a = some A → w.heap.size ≤ A.block ∧ A.block < w'.heap.size) (hb : Below w.heap.size w w') : AnsL xs w (.returned (.slice a 0 c)) w' := by
  subst h
  exact ⟨a, c, rfl, ownA_nil _ _, hin, hb⟩
theorem ansL_row {xs : List Ac} {w w' : World} {t : TypeId} {v : Value} (h : w'.ownsRow w.heap.size t 5 v xs.length (pcA xs)) (hb : Below w.heap.size w w') : AnsL xs w (.returned v) w' := by
  obtain ⟨a, c, rfl, ho, hin⟩ := ownA_of_row h
  exact ⟨a, c, rfl, ho, hin, hb⟩
end Go.Proofs.YtdidbaadladkpaaDoor
/- handedAces of the program. -/
namespace Go.Proofs.YtdidbaadladkpaaDoor
open Go.RowKit Go.PlainAid Go.Deep
set_option linter.unusedVariables false
theorem or8 {f : Int} (h0 : 0 ≤ f) (h1 : f ≤ 15) : bits .or .i64 f 8 = f % 8 + 8 := by
  rcases (by omega : f = 0 ∨ f = 1 ∨ f = 2 ∨ f = 3 ∨ f = 4 ∨ f = 5 ∨ f = 6 ∨ f = 7 ∨ f = 8 ∨ f = 9 ∨ f = 10 ∨ f = 11 ∨ f = 12 ∨ f = 13 ∨ f = 14 ∨ f = 15) with rfl | rfl | rfl | rfl | rfl | rfl | rfl | rfl | rfl | rfl | rfl | rfl | rfl | rfl | rfl | rfl <;> rfl
theorem and3h {f : Int} (h0 : 0 ≤ f) (h1 : f ≤ 15) : bits .and .i64 f 3 = f % 4 := by
  rcases (by omega : f = 0 ∨ f = 1 ∨ f = 2 ∨ f = 3 ∨ f = 4 ∨ f = 5 ∨ f = 6 ∨ f = 7 ∨ f = 8 ∨ f = 9 ∨ f = 10 ∨ f = 11 ∨ f = 12 ∨ f = 13 ∨ f = 14 ∨ f = 15) with rfl | rfl | rfl | rfl | rfl | rfl | rfl | rfl | rfl | rfl | rfl | rfl | rfl | rfl | rfl | rfl <;> rfl
set_option maxRecDepth 100000 in
set_option maxHeartbeats 4000000 in
/-- impl.handedAces. -/
theorem handed_any (a : Option Addr) (len cap : Nat) (l : List Ac) (hb : acesB l = true) (w : World) (hi : Acs a len l w) :
    Calls Tryd.prog 86 #[.slice a len cap] w (AnsL (hdTo l len) w) := by
  have hln : len ≤ 32 := by rw [← hi.1]; exact aces_len hb
  have HRG : Hid (∀ k, k < len → (0 ≤ (acAt l k).fl ∧ (acAt l k).fl ≤ 15) ∧ (1 ≤ (acAt l k).ma ∧ (acAt l k).ma ≤ 255)) := (fun k hk => ace_range hb (by rw [hi.1]; exact hk))
  have HHL : Hid (∀ k, (hdTo l k).length ≤ k) := hd_len l
  have HI : Hid (Acs a len l w) := hi
  clear hb hi
  go_enter Tryd.func86, Tryd.ntmps86
  go_wp2
  go_loopw [3, 8] (fun v i wr => ∃ k : Nat, k ≤ len ∧ i = .int .i64 k ∧ Hid (wr.ownsRow w.heap.size 33 5 v (hdTo l k).length (pcA (hdTo l k))) ∧ Hid (Below w.heap.size w wr)) (fun _ i _ => len - (intOf i).toNat)
  case atStart => exact ⟨0, Nat.zero_le _, rfl, World.ownsRow_nil _ _ _ _, Below.refl _ _⟩
  case round =>
    obtain ⟨k, hk, rfl, hO, hB⟩ := hrel
    have hhl := HHL.out k
    by_cases hlt : k < len
    · have hlt' : (k : Int) < (len : Int) := by omega
      obtain ⟨b, off, rfl, hbl, hcl⟩ := HI.out.2 (by omega)
      obtain ⟨g0, g1, g2, g3, g4⟩ := (hcl k hlt).keep (fun j => hB.out.cell (p := ⟨b, j, none⟩) hbl)
      obtain ⟨⟨f0, f1⟩, _⟩ := HRG.out k hlt
      by_cases hf : 0 < (acAt l k).fl % 4
      · have HN : Hid (hdTo l (k + 1) = hdTo l k ++ [hnd (acAt l k)]) := (by show _ = _; rw [hdTo, if_pos hf])
        generalize acAt l k = x at g0 g1 g2 g3 g4 f0 f1 hf HN
        have ea := and3h f0 f1
        have eo := or8 f0 f1
        have hne : (x.fl % 4 != 0) = true := by simp; omega
        have hbS : Below wr.heap.size wr (wr.alloc (.cells #[.bool x.al, .int .i64 x.wh, .int .i64 x.id, .int .i64 (x.fl % 8 + 8), .int .i64 x.ma] 33)) := bel_alloc _ _
        obtain ⟨v2, w2, hr, hO2, hB2⟩ := append_one (P := Tryd.prog) w _ 23 23 33 Tryd.underlying23 infoAce u3 (hdTo l k) (rowA_below hO.out hbS) (Below.on hB.out hbS) (hnd x) (by omega)
        have hz : (wr.alloc (.cells #[.bool x.al, .int .i64 x.wh, .int .i64 x.id, .int .i64 (x.fl % 8 + 8), .int .i64 x.ma] 33)).heap.size = wr.heap.size + 1 := by simp
        rw [hz] at hr
        rw [← HN.out] at hO2
        simp only [hnd] at hr
        have HO2 : Hid (w2.ownsRow w.heap.size 33 5 v2 (hdTo l (k + 1)).length (pcA (hdTo l (k + 1)))) := hO2
        have HB2 : Hid (Below w.heap.size w w2) := hB2
        clear hO hbS hO2 hB2 hz hB hcl HRG f0 f1 hf
        go_wp2_with (at_builtin; refine wpList_append_runA _ rfl (.tmp 20) (.tmp 22) 23 23 rfl _ _ _ _ rfl rfl hr ?_)
        go_roundw
        case rel => exact ⟨k + 1, by omega, by go_num, HO2, HB2⟩
        case measure => simp [intOf]; omega
      · have HN : Hid (hdTo l (k + 1) = hdTo l k) := (by show _ = _; rw [hdTo, if_neg hf])
        have hbA := bel_alloc wr (.cells #[.bool (acAt l k).al, .int .i64 (acAt l k).wh, .int .i64 (acAt l k).id, .int .i64 (acAt l k).fl, .int .i64 (acAt l k).ma] 33)
        have HO2 : Hid ((wr.alloc (.cells #[.bool (acAt l k).al, .int .i64 (acAt l k).wh, .int .i64 (acAt l k).id, .int .i64 (acAt l k).fl, .int .i64 (acAt l k).ma] 33)).ownsRow w.heap.size 33 5 u3 (hdTo l (k + 1)).length (pcA (hdTo l (k + 1)))) := (by rw [HN.out]; exact rowA_below hO.out hbA)
        have HB2 : Hid (Below w.heap.size w (wr.alloc (.cells #[.bool (acAt l k).al, .int .i64 (acAt l k).wh, .int .i64 (acAt l k).id, .int .i64 (acAt l k).fl, .int .i64 (acAt l k).ma] 33))) := Below.on hB.out hbA
        clear hbA
        generalize acAt l k = x at g0 g1 g2 g3 g4 f0 f1 hf HO2 HB2
        have ea := and3h f0 f1
        have hne : (x.fl % 4 != 0) = false := by simp; omega
        clear hcl HRG hO hB
        go_wp2
        go_roundw
        case rel => exact ⟨k + 1, by omega, by go_num, HO2, HB2⟩
        case measure => simp [intOf]; omega
    · have : k = len := by omega
      subst this
      go_wp2
      go_ret
      exact ansL_row hO.out hB.out
end Go.Proofs.YtdidbaadladkpaaDoor
