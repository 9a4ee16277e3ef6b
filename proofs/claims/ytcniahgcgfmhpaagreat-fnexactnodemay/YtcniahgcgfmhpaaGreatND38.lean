/- Laid together: LawCred, ClassF. -/
import Derived.Test.YtcniahgcgfmhpaaGreatND28
import Derived.Deep.OwnRows
import Derived.Test.YtcniahgcgfmhpaaGreatND37
/- What the laws do with a Cred: its size, a copy of it, two of them compared. -/
namespace Go.Proofs.YtcniahgcgfmhpaaGreat
open Go.RowKit Go.PlainAid
set_option linter.unusedVariables false
/-- What a world holds of a row of numbers that may be written. -/
def IHolds (w : World) (B : Nat) (f : Nat → Int) (n : Nat) : Prop := (∀ i, i < n → w.cell? ⟨B, i, none⟩ = some (.int .i64 (f i))) ∧ ∀ i, i < n → w.frozen? ⟨B, i, none⟩ = false
theorem IHolds.set {w : World} {B : Nat} {f : Nat → Int} {n : Nat} (h : IHolds w B f n) (i : Nat) (hi : i < n) (v : Int) : IHolds (w.setCell ⟨B, i, none⟩ (.int .i64 v)) B (fun k => if k = i then v else f k) n := by
  constructor
  · intro k hk
    by_cases e : k = i
    · subst e
      simp only [if_pos]
      have := h.1 k hk
      simp [go_sem, this]
    · simp only [if_neg e]
      rw [← h.1 k hk]
      exact World.cell?_setCell_other _ _ _ _ (by intro h; cases h; exact e rfl)
  · intro k hk
    rw [World.frozen?_setCell]
    exact h.2 k hk
theorem made_holds (w : World) (n : Nat) (t : TypeId) : IHolds (w.alloc (.cells (madeCells #[.int .i64 0] n) t)) w.heap.size (fun _ => 0) n := by
  have hb : (w.alloc (.cells (madeCells #[.int .i64 0] n) t)).heap[w.heap.size]? = some (.cells (madeCells #[.int .i64 0] n) t) := by
    rw [World.alloc]
    exact Array.getElem?_push_size
  constructor
  · intro i hi
    simp only [World.cell?, hb]
    simp [madeCells, hi, Nat.mod_one]
  · intro i hi
    simp only [World.frozen?, hb]
    simp
theorem infoI64 : (Tryz.prog.info? 2).map (fun i => (i.zero, i.size, i.bytes)) = some (some (.int .i64 0), 1, 8) := by kernel_rfl
set_option maxHeartbeats 2000000 in
/-- laws.toInt64S. -/
theorem toInts_any (a : Option Addr) (len cap : Nat) (f : Nat → Int) (hl : len ≤ 1048576) (w : World) (hi : Ints a len f w) :
    Calls Tryz.prog 27 #[.slice a len cap] w fun e w' => e = .returned (.slice (some ⟨w.heap.size, 0, none⟩) len len) ∧ Ints (some ⟨w.heap.size, 0, none⟩) len f w' ∧ w.heap.size < w'.heap.size ∧ Below w.heap.size w w' := by
  have hmk := run_make_row' (P := Tryz.prog) 25 2 (.int .i64 0) 8 Tryz.underlying25 infoI64 rfl .i64 .i64 len (by omega) (by omega) w
  have hH0 : Hid (IHolds (w.alloc (.cells (madeCells #[.int .i64 0] len) 2)) w.heap.size (fun _ => 0) len) := made_holds w len _
  have hB0 : Hid (Below w.heap.size w (w.alloc (.cells (madeCells #[.int .i64 0] len) 2))) := (Below.refl _ _).alloc (Nat.le_refl _) _
  have hZ0 : Hid (w.heap.size < (w.alloc (.cells (madeCells #[.int .i64 0] len) 2)).heap.size) := (by show _ < _; simp)
  generalize w.alloc (.cells (madeCells #[.int .i64 0] len) 2) = w0 at hmk hH0 hB0 hZ0
  have HI : Hid (Ints a len f w) := hi
  clear hi
  go_enter Tryz.func27, Tryz.ntmps27
  go_wp2
  go_loopw [4] (fun i wr => ∃ (k : Nat) (g : Nat → Int), k ≤ len ∧ i = .int .i64 k ∧ Hid (IHolds wr w.heap.size g len) ∧ Hid (∀ j, j < k → g j = f j) ∧ Hid (Below w.heap.size w wr) ∧ Hid (w.heap.size < wr.heap.size)) (fun i _ => len - (intOf i).toNat)
  case atStart => exact ⟨0, fun _ => 0, Nat.zero_le _, rfl, hH0, fun j hj => absurd hj (by omega), hB0, hZ0⟩
  case round =>
    obtain ⟨k, g, hk, rfl, hH, hg, hB, hZ⟩ := hrel
    by_cases hlt : k < len
    · obtain ⟨b, off, rfl, hb, hc⟩ := HI.out (by omega)
      have g0 : wr.cell? ⟨b, off + k, none⟩ = some (.int .i64 (f k)) := (hB.out.cell (p := ⟨b, off + k, none⟩) hb).trans (hc k hlt)
      have g1 := hH.out.1 k hlt
      have g2 := hH.out.2 k hlt
      have hH2 : Hid (IHolds (wr.setCell ⟨w.heap.size, k, none⟩ (.int .i64 (f k))) w.heap.size (fun j => if j = k then f k else g j) len) := hH.out.set k hlt (f k)
      have hg2 : Hid (∀ j, j < k + 1 → (fun j => if j = k then f k else g j) j = f j) := (fun j hj => by
        show (if j = k then f k else g j) = f j
        by_cases e : j = k
        · rw [if_pos e, e]
        · rw [if_neg e]; exact hg.out j (by omega))
      have hB2 : Hid (Below w.heap.size w (wr.setCell ⟨w.heap.size, k, none⟩ (.int .i64 (f k)))) := hB.out.setCell (Nat.le_refl _) _
      have hZ2 : Hid (w.heap.size < (wr.setCell ⟨w.heap.size, k, none⟩ (.int .i64 (f k))).heap.size) := (by show _ < _; simp; exact hZ.out)
      clear hc hH hg hB hmk hH0 hB0 hZ0 HI
      go_wp2
      go_roundw
      case rel => exact ⟨k + 1, _, by omega, by go_num, hH2, hg2, hB2, hZ2⟩
      case measure => simp [intOf]; omega
    · have : k = len := by omega
      subst this
      go_wp2
      go_ret
      refine ⟨rfl, fun _ => ⟨w.heap.size, 0, rfl, hZ.out, fun i hi => ?_⟩, hZ.out, hB.out⟩
      rw [Nat.zero_add, hH.out.1 i hi, hg.out i hi]
set_option maxHeartbeats 2000000 in
/-- laws.szCred: too long, or not. -/
theorem szCred_long (u g : Int) (a : Option Addr) (len cap : Nat) (r : Bool) (hl : 1048576 < len) (hm : len ≤ 9223372036854775807) (w : World) :
    Calls Tryz.prog 6 #[.agg #[.int .i64 u, .int .i64 g, .slice a len cap, .bool r], .int .i64 1048576] w fun e w' => e = .returned (.int .i64 (-1)) ∧ Below w.heap.size w w' := by
  have d1 : 1048576 - (len : Int) < 0 := by omega
  have hc : Hid (∀ w, Calls Tryz.prog 20 #[.slice a len cap, .int .i64 1048576] w fun e w' => e = .returned (.int .i64 (-1)) ∧ w' = w) := (by
    intro w
    go_enter Tryz.func20, Tryz.ntmps20
    go_wp2
    go_ret
    exact ⟨rfl, rfl⟩)
  go_enter Tryz.func6, Tryz.ntmps6
  go_wp2_with (go_at_call 20; refine (hc.out _).mono ?_; rintro e w' ⟨rfl, rfl⟩)
  go_ret
  exact ⟨rfl, (Below.refl _ _).alloc (Nat.le_refl _) _⟩
set_option maxHeartbeats 2000000 in
theorem szCred_short (u g : Int) (a : Option Addr) (len cap : Nat) (r : Bool) (hl : len ≤ 1048576) (w : World) :
    Calls Tryz.prog 6 #[.agg #[.int .i64 u, .int .i64 g, .slice a len cap, .bool r], .int .i64 1048576] w fun e w' => e = .returned (.int .i64 (1048576 - len)) ∧ Below w.heap.size w w' := by
  have d1 : decide (1048576 - (len : Int) < 0) = false := by simp; omega
  have hc : Hid (∀ w, Calls Tryz.prog 20 #[.slice a len cap, .int .i64 1048576] w fun e w' => e = .returned (.int .i64 (1048576 - len)) ∧ w' = w) := (by
    intro w
    go_enter Tryz.func20, Tryz.ntmps20
    go_wp2
    go_ret
    exact ⟨rfl, rfl⟩)
  go_enter Tryz.func6, Tryz.ntmps6
  go_wp2_with (go_at_call 20; refine (hc.out _).mono ?_; rintro e w' ⟨rfl, rfl⟩)
  go_ret
  exact ⟨rfl, (Below.refl _ _).alloc (Nat.le_refl _) _⟩
theorem ints_set {B len : Nat} {f : Nat → Int} {w : World} {b o : Nat} {v : Value} (h : Ints (some ⟨B, 0, none⟩) len f w) (hne : b ≠ B) : Ints (some ⟨B, 0, none⟩) len f (w.setCell ⟨b, o, none⟩ v) := by
  intro hl
  obtain ⟨b', off', e, hlt, hc⟩ := h hl
  cases e
  refine ⟨B, 0, rfl, by simpa using hlt, fun i hi => ?_⟩
  rw [← hc i hi]
  exact World.cell?_setCell_other _ _ _ _ (by intro h; cases h; exact hne rfl)
theorem bl_setC {B b o : Nat} {W w1 : World} {x : Value} (hb : Below B W w1) (h : B ≤ b) : Below B W (w1.setCell ⟨b, o, none⟩ x) := hb.setCell h _
theorem bl3_size {w : World} {o1 o2 o3 : Obj} : (((w.alloc o1).alloc o2).alloc o3).heap.size = w.heap.size + 1 + 1 + 1 := by simp
theorem bl3 (w : World) (o1 o2 o3 : Obj) : Below w.heap.size w (((w.alloc o1).alloc o2).alloc o3) := (((Below.refl _ _).alloc (Nat.le_refl _) _).alloc (by simp) _).alloc (by simp; omega) _
theorem bl_cellC {W w1 : World} (hb : Below W.heap.size W w1) : (∀ b o, b < W.heap.size → w1.cell? ⟨b, o, none⟩ = W.cell? ⟨b, o, none⟩) ∧ (∀ b o, b < W.heap.size → w1.frozen? ⟨b, o, none⟩ = W.frozen? ⟨b, o, none⟩) :=
  ⟨fun b o h => hb.cell (p := ⟨b, o, none⟩) h, fun b o h => hb.frozen (p := ⟨b, o, none⟩) h⟩
set_option maxHeartbeats 4000000 in
/-- laws.toCred. -/
theorem toCred_any (u g : Int) (a : Option Addr) (len cap : Nat) (r : Bool) (f : Nat → Int) (hl : len ≤ 1048576) (w : World) (hi : Ints a len f w) :
    Calls Tryz.prog 9 #[.agg #[.int .i64 u, .int .i64 g, .slice a len cap, .bool r]] w fun e w' => ∃ B, e = .returned (.agg #[.int .i64 u, .int .i64 g, .slice (some ⟨B, 0, none⟩) len len, .bool r]) ∧ Ints (some ⟨B, 0, none⟩) len f w' ∧ w.heap.size ≤ B ∧ Below w.heap.size w w' := by
  have hc : Hid (∀ w', Below w.heap.size w w' → Calls Tryz.prog 27 #[.slice a len cap] w' fun e w'' => e = .returned (.slice (some ⟨w'.heap.size, 0, none⟩) len len) ∧ Ints (some ⟨w'.heap.size, 0, none⟩) len f w'' ∧ w'.heap.size < w''.heap.size ∧ Below w'.heap.size w' w'') := (fun w' hb => toInts_any a len cap f hl w' (hi.below hb))
  clear hi
  go_enter Tryz.func9, Tryz.ntmps9
  go_wp2_with (go_at_call 27; refine (hc.out _ (bl3 _ _ _ _)).mono ?_; rintro e w1 ⟨rfl, hI, hz, hb⟩; obtain ⟨hcl, hfz⟩ := bl_cellC hb; simp at hcl hfz hz)
  have e3 : (((w.alloc (Obj.cells #[Value.int IntKind.i64 u, Value.int IntKind.i64 g, Value.slice a len cap, Value.bool r] 27)).alloc (Obj.cells #[Value.int IntKind.i64 0, Value.int IntKind.i64 0, Value.slice none 0 0, Value.bool false] 35)).alloc (Obj.cells #[Value.int IntKind.i64 u, Value.int IntKind.i64 g, Value.slice none 0 0, Value.bool false] 35)).heap.size = w.heap.size + 1 + 1 + 1 := bl3_size
  have hI2 : Ints (some ⟨w.heap.size + 1 + 1 + 1, 0, none⟩) len f w1 := by rw [e3] at hI; exact hI
  have hb2 : Below w.heap.size w w1 := (bl3 _ _ _ _).trans (hb.mono (by rw [e3]; omega))
  refine bodyPost_ret (v := .agg #[.int .i64 u, .int .i64 g, .slice (some ⟨w.heap.size + 1 + 1 + 1, 0, none⟩) len len, .bool r]) (by simp [results, Tryz.results9, go_sem, hcl]) rfl ⟨_, rfl, ?_, by omega, ?_⟩
  · exact ints_set (ints_set (ints_set (ints_set (ints_set (ints_set hI2 (by omega)) (by omega)) (by omega)) (by omega)) (by omega)) (by omega)
  · exact bl_setC (bl_setC (bl_setC (bl_setC (bl_setC (bl_setC hb2 (by omega)) (by omega)) (by omega)) (by omega)) (by omega)) (by omega)
set_option maxHeartbeats 2000000 in
theorem eqInts_none (a a2 : Option Addr) (cap cap2 : Nat) (w : World) :
    Calls Tryz.prog 34 #[.slice a 0 cap, .slice a2 0 cap2] w fun e w' => e = .returned (.bool true) ∧ Below w.heap.size w w' := by
  go_enter Tryz.func34, Tryz.ntmps34
  go_wp2
  go_rounds 1
  go_ret
  exact ⟨rfl, Below.refl _ _⟩
set_option maxHeartbeats 2000000 in
theorem eqInts_some (b off b2 off2 len cap cap2 : Nat) (f : Nat → Int) (hl : len ≤ 1048576) (w : World) (hb : b < w.heap.size) (hb2 : b2 < w.heap.size) (hc : Hid (∀ i, i < len → w.cell? ⟨b, off + i, none⟩ = some (.int .i64 (f i)))) (hc2 : Hid (∀ i, i < len → w.cell? ⟨b2, off2 + i, none⟩ = some (.int .i64 (f i)))) :
    Calls Tryz.prog 34 #[.slice (some ⟨b, off, none⟩) len cap, .slice (some ⟨b2, off2, none⟩) len cap2] w fun e w' => e = .returned (.bool true) ∧ Below w.heap.size w w' := by
  go_enter Tryz.func34, Tryz.ntmps34
  go_wp2
  go_loopw [5] (fun i wr => ∃ (k n : Nat), k ≤ len ∧ i = .int .i64 k ∧ wr = w.drewN n) (fun i _ => len - (intOf i).toNat)
  case atStart => exact ⟨0, 0, Nat.zero_le _, rfl, rfl⟩
  case round =>
    obtain ⟨k, n, hk, rfl, rfl⟩ := hrel
    by_cases hlt : k < len
    · have g0 : (w.drewN n).cell? ⟨b, off + k, none⟩ = some (.int .i64 (f k)) := hc.out k hlt
      have g1 : (w.drewN n).cell? ⟨b2, off2 + k, none⟩ = some (.int .i64 (f k)) := hc2.out k hlt
      have hlt' : (k : Int) < (len : Int) := by omega
      have hB : Hid (Below w.heap.size w (w.drewN n)) := below_drewN (Below.refl _ _) n
      generalize hW : w.drewN n = W at g0 g1 hB ⊢
      go_wp2
      go_quiet (fail)
      go_wp2
      go_roundw
      case rel =>
        rename_i nq
        exact ⟨k + 1, n + nq, by omega, by go_num, by rw [← hW]; simp⟩
      case measure => simp [intOf]; omega
    · have : k = len := by omega
      subst this
      go_wp2
      go_ret
      exact ⟨rfl, below_drewN (Below.refl _ _) n⟩
/-- laws.eqInt64S of two lists that hold the same. -/
theorem eqInts_any (a a2 : Option Addr) (len cap cap2 : Nat) (f : Nat → Int) (hl : len ≤ 1048576) (w : World) (h1 : Ints a len f w) (h2 : Ints a2 len f w) :
    Calls Tryz.prog 34 #[.slice a len cap, .slice a2 len cap2] w fun e w' => e = .returned (.bool true) ∧ Below w.heap.size w w' := by
  by_cases h0 : len = 0
  · subst h0
    exact eqInts_none a a2 cap cap2 w
  · obtain ⟨b, off, rfl, hb, hc⟩ := h1 (by omega)
    obtain ⟨b2, off2, rfl, hb2, hc2⟩ := h2 (by omega)
    exact eqInts_some b off b2 off2 len cap cap2 f hl w hb hb2 hc hc2
theorem bl2 (w : World) (o1 o2 : Obj) : Below w.heap.size w ((w.alloc o1).alloc o2) := ((Below.refl _ _).alloc (Nat.le_refl _) _).alloc (by simp) _
set_option maxHeartbeats 4000000 in
/-- laws.eqCred of two that hold the same. -/
theorem eqCred_any (u g : Int) (a a2 : Option Addr) (len cap cap2 : Nat) (r : Bool) (f : Nat → Int) (hl : len ≤ 1048576) (w : World) (h1 : Ints a len f w) (h2 : Ints a2 len f w) :
    Calls Tryz.prog 12 #[.agg #[.int .i64 u, .int .i64 g, .slice a len cap, .bool r], .agg #[.int .i64 u, .int .i64 g, .slice a2 len cap2, .bool r]] w fun e w' => e = .returned (.bool true) ∧ Below w.heap.size w w' := by
  have hc : Hid (∀ w', Below w.heap.size w w' → Calls Tryz.prog 34 #[.slice a len cap, .slice a2 len cap2] w' fun e w'' => e = .returned (.bool true) ∧ Below w'.heap.size w' w'') := (fun w' hb => eqInts_any a a2 len cap cap2 f hl w' (h1.below hb) (h2.below hb))
  clear h1 h2
  go_enter Tryz.func12, Tryz.ntmps12
  go_wp2_with (go_at_call 34; refine (hc.out _ (bl2 _ _ _)).mono ?_; rintro e w1 ⟨rfl, hb⟩; obtain ⟨hcl, hfz⟩ := bl_cellC hb; simp at hcl hfz)
  go_ret
  exact ⟨rfl, (bl2 _ _ _).trans (hb.mono (by simp; omega))⟩
end Go.Proofs.YtcniahgcgfmhpaaGreat
/- spec.AclClass; laws.szCred of whatever is left. -/
namespace Go.Proofs.YtcniahgcgfmhpaaGreat
open Go.RowKit Go.PlainAid Go.Deep
set_option linter.unusedVariables false
set_option maxHeartbeats 2000000 in
theorem szCredN_long (u g : Int) (a : Option Addr) (len cap : Nat) (r : Bool) (n : Int) (h0 : 0 ≤ n) (h1 : n ≤ 1048576) (hl : n - (len : Int) < 0) (hm : len ≤ 9223372036854775807) (w : World) :
    Calls Tryz.prog 6 #[.agg #[.int .i64 u, .int .i64 g, .slice a len cap, .bool r], .int .i64 n] w fun e w' => e = .returned (.int .i64 (-1)) ∧ Below w.heap.size w w' := by
  have hc : Hid (∀ w, Calls Tryz.prog 20 #[.slice a len cap, .int .i64 n] w fun e w' => e = .returned (.int .i64 (-1)) ∧ w' = w) := (by
    intro w
    go_enter Tryz.func20, Tryz.ntmps20
    go_wp2
    go_ret
    exact ⟨rfl, rfl⟩)
  clear hl
  go_enter Tryz.func6, Tryz.ntmps6
  go_wp2_with (go_at_call 20; refine (hc.out _).mono ?_; rintro e w' ⟨rfl, rfl⟩)
  go_ret
  exact ⟨rfl, (Below.refl _ _).alloc (Nat.le_refl _) _⟩
set_option maxHeartbeats 2000000 in
theorem szCredN_short (u g : Int) (a : Option Addr) (len cap : Nat) (r : Bool) (n : Int) (h0 : 0 ≤ n) (h1 : n ≤ 1048576) (hl : 0 ≤ n - (len : Int)) (w : World) :
    Calls Tryz.prog 6 #[.agg #[.int .i64 u, .int .i64 g, .slice a len cap, .bool r], .int .i64 n] w fun e w' => e = .returned (.int .i64 (n - len)) ∧ Below w.heap.size w w' := by
  have d1 : decide (n - (len : Int) < 0) = false := by simp; omega
  have hc : Hid (∀ w, Calls Tryz.prog 20 #[.slice a len cap, .int .i64 n] w fun e w' => e = .returned (.int .i64 (n - len)) ∧ w' = w) := (by
    intro w
    go_enter Tryz.func20, Tryz.ntmps20
    go_wp2
    go_ret
    exact ⟨rfl, rfl⟩)
  go_enter Tryz.func6, Tryz.ntmps6
  go_wp2_with (go_at_call 20; refine (hc.out _).mono ?_; rintro e w' ⟨rfl, rfl⟩)
  go_ret
  exact ⟨rfl, (Below.refl _ _).alloc (Nat.le_refl _) _⟩
end Go.Proofs.YtcniahgcgfmhpaaGreat
