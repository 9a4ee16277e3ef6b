/- Laid together: MaskOf. -/
import Derived.Test.YthgcobglecomcaaDoorDf9
import Derived.Test.YthgcobglecomcaaDoorDf3
import Derived.Test.YthgcobglecomcaaDoorDf10
/- MaskOf, the program's and the specification's: the bits in Group, or in one of Users or Groups. -/
namespace Go.Proofs.YthgcobglecomcaaDoor
open Go.RowKit Go.PlainAid Go.Deep
set_option linter.unusedVariables false
/-- Of two things the first, or the second. -/
def two {α : Type} (x y : α) (j : Nat) : α := if j = 0 then x else y
theorem cat_two (us gs : List (Int × Int)) : cat (two us gs) 2 = us ++ gs := by simp [cat, two]
theorem row2_new (w : World) (v0 v1 : Value) (t : TypeId) : (w.alloc (.cells #[v0, v1] t)).cell? ⟨w.heap.size, 0, none⟩ = some v0 ∧ (w.alloc (.cells #[v0, v1] t)).cell? ⟨w.heap.size, 1, none⟩ = some v1 := by
  have hb : (w.alloc (.cells #[v0, v1] t)).heap[w.heap.size]? = some (.cells #[v0, v1] t) := by
    rw [World.alloc]
    exact Array.getElem?_push_size
  refine ⟨?_, ?_⟩ <;> (simp only [World.cell?, hb]; rfl)
/-- slices.Concat of two lists, the row of which has just been made. -/
theorem concat_two (w0 : World) (X : Nat) (hX : X = w0.heap.size) (t : TypeId) (cap : Nat) (au : Option Addr) (lu cu : Nat) (us : List (Int × Int)) (ag : Option Addr) (lg cg : Nat) (gs : List (Int × Int)) (hN : lu + lg ≤ 1000000) (hu : Prs au lu us w0) (hg : Prs ag lg gs w0) :
    Calls Tryd.prog 95 #[.slice (some ⟨X, 0, none⟩) 2 cap] (w0.alloc (.cells #[.slice au lu cu, .slice ag lg cg] t)) fun e w' => ∃ a c, e = .returned (.slice a (lu + lg) c) ∧ lu + lg ≤ c ∧ Own a (lu + lg) (us ++ gs) w' ∧ (∀ Ad, a = some Ad → w0.heap.size ≤ Ad.block ∧ Ad.block < w'.heap.size) ∧ Below w0.heap.size w0 w' := by
  subst hX
  have hb := bel_alloc w0 (.cells #[.slice au lu cu, .slice ag lg cg] t)
  obtain ⟨r0, r1⟩ := row2_new w0 (.slice au lu cu) (.slice ag lg cg) t
  have e1 := hu.1
  have e2 := hg.1
  have hl : (cat (two us gs) 2).length = lu + lg := by rw [cat_two, List.length_append, e1, e2]
  refine (concat_any w0.heap.size 2 cap (two au ag) (two cu cg) (two us gs) (by omega) (by rw [hl]; omega) _ (by simp) ?_).mono ?_
  · intro j hj
    rcases (by omega : j = 0 ∨ j = 1) with rfl | rfl
    · refine ⟨?_, ?_⟩
      · show _ = some (Value.slice au us.length cu)
        rw [e1]
        exact r0
      · show Prs au us.length us _
        rw [e1]
        exact hu.below hb
    · refine ⟨?_, ?_⟩
      · show _ = some (Value.slice ag gs.length cg)
        rw [e2]
        exact r1
      · show Prs ag gs.length gs _
        rw [e2]
        exact hg.below hb
  · rintro e w' ⟨a, c, rfl, hc, ho, hin, hbel⟩
    rw [hl] at ho hc ⊢
    rw [cat_two] at ho
    refine ⟨a, c, rfl, hc, ho, fun Ad e => ?_, Below.on hb hbel⟩
    have := hin Ad e
    have h2 := hb.size
    exact ⟨by omega, this.2⟩
theorem zero_len {l : List (Int × Int)} (h : l.length = 0) (g : Int) : orTo g l l.length = g := by rw [h]; rfl
set_option maxRecDepth 100000 in
set_option maxHeartbeats 4000000 in
/-- impl.groupBits. -/
theorem groupBits_any (u g o : Int) (au : Option Addr) (lu cu : Nat) (ag : Option Addr) (lg cg : Nat) (r : Bool) (m : Int) (us gs : List (Int × Int)) (w : World) (hu : Prs au lu us w) (hg : Prs ag lg gs w) (g0 : 0 ≤ g) (g1 : g ≤ 7) (bu : ∀ k, k < us.length → 0 ≤ btAt us k ∧ btAt us k ≤ 7) (bg : ∀ k, k < gs.length → 0 ≤ btAt gs k ∧ btAt gs k ≤ 7) (hN : lu + lg ≤ 1000000) :
    Calls Tryd.prog 104 #[.agg #[.int .i64 u, .int .i64 g, .int .i64 o, .slice au lu cu, .slice ag lg cg, .bool r, .int .i64 m]] w fun e w' => e = .returned (.int .i64 (maskL g us gs)) ∧ Below w.heap.size w w' := by
  have e1 := hu.1
  have e2 := hg.1
  have hlen : (us ++ gs).length = lu + lg := by rw [List.length_append, e1, e2]
  have BB : Hid (∀ k, k < lu + lg → 0 ≤ btAt (us ++ gs) k ∧ btAt (us ++ gs) k ≤ 7) := (fun k hk => by
    by_cases h : k < us.length
    · rw [btAt_left h]; exact bu k h
    · have e : k = us.length + (k - us.length) := by omega
      rw [e, btAt_right]
      exact bg _ (by omega))
  have BT : Hid (∀ k, k ≤ lu + lg → 0 ≤ orTo g (us ++ gs) k ∧ orTo g (us ++ gs) k ≤ 7) := (fun k hk => orTo_in g0 g1 (by rw [hlen]; exact BB.out) k (by rw [hlen]; exact hk))
  have BE : Hid (orTo g (us ++ gs) (lu + lg) = maskL g us gs) := (by show _ = _; rw [← hlen]; exact maskL_cat g us gs)
  have hc : Hid (∀ w' X, X = w'.heap.size → Below w.heap.size w w' → Calls Tryd.prog 95 #[.slice (some ⟨X, 0, none⟩) 2 2] (w'.alloc (.cells #[.slice au lu cu, .slice ag lg cg] 23)) fun e w'' => ∃ a c, e = .returned (.slice a (lu + lg) c) ∧ lu + lg ≤ c ∧ Own a (lu + lg) (us ++ gs) w'' ∧ (∀ Ad, a = some Ad → w'.heap.size ≤ Ad.block ∧ Ad.block < w''.heap.size) ∧ Below w'.heap.size w' w'') := (fun w' X hX hb => concat_two w' X hX 23 2 au lu cu us ag lg cg gs hN (hu.below hb) (hg.below hb))
  clear hu hg bu bg e1 e2 hlen
  generalize maskL g us gs = mm at BE ⊢
  generalize us ++ gs = l at BB BT BE hc
  go_enter Tryd.func104, Tryd.ntmps104
  go_wp2_with fail
  refine (hc.out _ _ (by simp) (bel_alloc _ _)).mono ?_
  rintro e w1 ⟨a, c, rfl, hcap, ho, _, hb⟩
  have HO : Hid (Own a (lu + lg) l w1) := ho
  have hW1 : Hid (Below w.heap.size w w1) := Below.on (bel_alloc _ _) hb
  clear hb hc ho
  generalize lu + lg = n at HO hcap BB BT BE hN ⊢
  go_wp2
  go_loopw [3, 15] (fun s i wr => ∃ k : Nat, k ≤ n ∧ i = .int .i64 k ∧ s = .int .i64 (orTo g l k) ∧ Hid (Below w1.heap.size w1 wr)) (fun _ i _ => n - (intOf i).toNat)
  case atStart => exact ⟨0, Nat.zero_le _, rfl, rfl, Below.refl _ _⟩
  case round =>
    obtain ⟨k, hk, rfl, rfl, hB⟩ := hrel
    by_cases hlt : k < n
    · have hlt' : (k : Int) < (n : Int) := by omega
      obtain ⟨B, rfl, hBl, hp⟩ := HO.out.2 (by omega)
      have q := (hp k hlt).1
      have c0 : wr.cell? ⟨B, k * 2, none⟩ = some (.int .i64 (idAt l k)) := (hB.out.cell (p := ⟨B, k * 2, none⟩) hBl).trans q.1
      have c1 : wr.cell? ⟨B, k * 2 + 1, none⟩ = some (.int .i64 (btAt l k)) := (hB.out.cell (p := ⟨B, k * 2 + 1, none⟩) hBl).trans q.2
      obtain ⟨o0, o1⟩ := BT.out k hk
      obtain ⟨b0, b1⟩ := BB.out k hlt
      have eo : bits .or .i64 (orTo g l k) (btAt l k) = orTo g l (k + 1) := or_bits o0 (by omega) b0 (by omega)
      have hB2 : Hid (Below w1.heap.size w1 (wr.alloc (.cells #[.int .i64 (idAt l k), .int .i64 (btAt l k)] 89))) := Below.onA hB.out
      clear q hp
      go_wp2
      go_roundw
      case rel => exact ⟨k + 1, by omega, by go_num, rfl, hB2⟩
      case measure => simp [intOf]; omega
    · have : k = n := by omega
      subst this
      go_wp2
      go_ret
      exact ⟨ret_intM BE.out, Below.on hW1.out hB.out⟩
set_option maxRecDepth 100000 in
set_option maxHeartbeats 4000000 in
/-- spec.l03Mask. -/
theorem sMask_any (u g o : Int) (au : Option Addr) (lu cu : Nat) (ag : Option Addr) (lg cg : Nat) (r : Bool) (m : Int) (us gs : List (Int × Int)) (w : World) (hu : Prs au lu us w) (hg : Prs ag lg gs w) (g0 : 0 ≤ g) (g1 : g ≤ 7) (bu : ∀ k, k < us.length → 0 ≤ btAt us k ∧ btAt us k ≤ 7) (bg : ∀ k, k < gs.length → 0 ≤ btAt gs k ∧ btAt gs k ≤ 7) (hN : lu + lg ≤ 1000000) :
    Calls Tryd.prog 79 #[.agg #[.int .i64 u, .int .i64 g, .int .i64 o, .slice au lu cu, .slice ag lg cg, .bool r, .int .i64 m]] w fun e w' => e = .returned (.int .i64 (maskL g us gs)) ∧ Below w.heap.size w w' := by
  obtain ⟨e1, hu⟩ := hu
  obtain ⟨e2, hg⟩ := hg
  have HU : Hid (0 < lu → ∃ b off, au = some ⟨b, off, none⟩ ∧ b < w.heap.size ∧ ∀ i, i < lu → w.cell? ⟨b, off + i * 2, none⟩ = some (.int .i64 (idAt us i)) ∧ w.cell? ⟨b, off + i * 2 + 1, none⟩ = some (.int .i64 (btAt us i))) := hu
  have HG : Hid (0 < lg → ∃ b off, ag = some ⟨b, off, none⟩ ∧ b < w.heap.size ∧ ∀ i, i < lg → w.cell? ⟨b, off + i * 2, none⟩ = some (.int .i64 (idAt gs i)) ∧ w.cell? ⟨b, off + i * 2 + 1, none⟩ = some (.int .i64 (btAt gs i))) := hg
  have BU : Hid (∀ k, k < lu → 0 ≤ btAt us k ∧ btAt us k ≤ 7) := (by show ∀ k, _; rw [← e1]; exact bu)
  have BG : Hid (∀ k, k < lg → 0 ≤ btAt gs k ∧ btAt gs k ≤ 7) := (by show ∀ k, _; rw [← e2]; exact bg)
  have TU : Hid (∀ k, k ≤ lu → 0 ≤ orTo g us k ∧ orTo g us k ≤ 7) := (by show ∀ k, _; rw [← e1]; exact orTo_in g0 g1 bu)
  have TG : Hid (∀ k, k ≤ lg → 0 ≤ orTo (orTo g us lu) gs k ∧ orTo (orTo g us lu) gs k ≤ 7) := (by
    obtain ⟨t0, t1⟩ := TU.out lu (Nat.le_refl _)
    show ∀ k, _
    rw [← e2]
    exact orTo_in t0 t1 bg)
  have BE : Hid (orTo (orTo g us lu) gs lg = maskL g us gs) := (by show _ = _; rw [← e1, ← e2]; rfl)
  clear hu hg bu bg e1 e2
  generalize maskL g us gs = mm at BE ⊢
  go_enter Tryd.func79, Tryd.ntmps79
  obtain ⟨xl, x0, x1, x2, x3, x4, x5, x6⟩ := box7_new w (.int .i64 u) (.int .i64 g) (.int .i64 o) (.slice au lu cu) (.slice ag lg cg) (.bool r) (.int .i64 m) 25
  have hW1 : Hid (Below w.heap.size w (w.alloc (.cells #[.int .i64 u, .int .i64 g, .int .i64 o, .slice au lu cu, .slice ag lg cg, .bool r, .int .i64 m] 25))) := bel_alloc _ _
  go_wp2
  generalize w.alloc (.cells #[.int .i64 u, .int .i64 g, .int .i64 o, .slice au lu cu, .slice ag lg cg, .bool r, .int .i64 m] 25) = w1 at xl x0 x1 x2 x3 x4 x5 x6 hW1 ⊢
  go_loop [3, 4] (fun s i => ∃ k : Nat, k ≤ lu ∧ i = .int .i64 k ∧ s = .int .i64 (orTo g us k)) (fun _ i => lu - (intOf i).toNat)
  case atStart => exact ⟨0, Nat.zero_le _, rfl, rfl⟩
  case round =>
    obtain ⟨k, hk, rfl, rfl⟩ := hrel
    by_cases hlt : k < lu
    · have hlt' : (k : Int) < (lu : Int) := by omega
      obtain ⟨b, off, rfl, hb, hc⟩ := HU.out (by omega)
      have c1 : w1.cell? ⟨b, off + k * 2 + 1, none⟩ = some (.int .i64 (btAt us k)) := (hW1.out.cell (p := ⟨b, off + k * 2 + 1, none⟩) hb).trans (hc k hlt).2
      obtain ⟨o0, o1⟩ := TU.out k hk
      obtain ⟨b0, b1⟩ := BU.out k hlt
      clear hc
      go_wp2_with fail
      refine (sEither_any (orTo g us k) (btAt us k) o0 (by omega) b0 (by omega) _).mono ?_
      rintro e w2 ⟨rfl, rfl⟩
      go_wp2
      go_round
      case rel => exact ⟨k + 1, by omega, by go_num, rfl⟩
      case measure => simp [intOf]; omega
    · have : k = lu := by omega
      subst this
      go_wp2
      go_loop [3, 5] (fun s i => ∃ j : Nat, j ≤ lg ∧ i = .int .i64 j ∧ s = .int .i64 (orTo (orTo g us k) gs j)) (fun _ i => lg - (intOf i).toNat)
      case atStart => exact ⟨0, Nat.zero_le _, rfl, rfl⟩
      case round =>
        obtain ⟨j, hj, rfl, rfl⟩ := hrel
        by_cases hlt2 : j < lg
        · have hlt' : (j : Int) < (lg : Int) := by omega
          obtain ⟨b, off, rfl, hb, hc⟩ := HG.out (by omega)
          have c1 : w1.cell? ⟨b, off + j * 2 + 1, none⟩ = some (.int .i64 (btAt gs j)) := (hW1.out.cell (p := ⟨b, off + j * 2 + 1, none⟩) hb).trans (hc j hlt2).2
          obtain ⟨o0, o1⟩ := TG.out j hj
          obtain ⟨b0, b1⟩ := BG.out j hlt2
          clear hc
          go_wp2_with fail
          refine (sEither_any (orTo (orTo g us k) gs j) (btAt gs j) o0 (by omega) b0 (by omega) _).mono ?_
          rintro e w2 ⟨rfl, rfl⟩
          go_wp2
          go_round
          case rel => exact ⟨j + 1, by omega, by go_num, rfl⟩
          case measure => simp [intOf]; omega
        · have : j = lg := by omega
          subst this
          go_wp2
          go_ret
          exact ⟨ret_intM BE.out, hW1.out⟩
end Go.Proofs.YthgcobglecomcaaDoor
