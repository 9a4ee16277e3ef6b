/- Laid together: Groups, LawCred. -/
import Derived.Test.YtgooanaacebncaaDoorRD1
import Derived.Deep.QuietTactic
import Derived.BigQuiet
import Derived.Handy
import Derived.Deep.OwnRows
/- impl.groupsRight and CredRight, the program's and the specification's. -/
namespace Go.Proofs.YtgooanaacebncaaDoor
open Go.RowKit Go.PlainAid
set_option linter.unusedVariables false
set_option maxHeartbeats 1000000 in
theorem groups_long (a : Option Addr) (len cap : Nat) (h : 8 < (len : Int)) (w : World) :
    Calls Tryd.prog 48 #[.slice a len cap] w fun e w' => e = .returned (.bool false) ∧ w' = w := by
  go_enter Tryd.func48, Tryd.ntmps48
  go_wp2
  go_ret
  exact ⟨rfl, rfl⟩
set_option maxHeartbeats 1000000 in
theorem groups_none (a : Option Addr) (cap : Nat) (w : World) :
    Calls Tryd.prog 48 #[.slice a 0 cap] w fun e w' => e = .returned (.bool true) ∧ w' = w := by
  go_enter Tryd.func48, Tryd.ntmps48
  go_wp2
  go_rounds 1
  go_ret
  exact ⟨rfl, rfl⟩
set_option maxHeartbeats 2000000 in
theorem groups_some (b off len cap : Nat) (f : Nat → Int) (hl : len ≤ 8) (w : World) (hc : ∀ i, i < len → w.cell? ⟨b, off + i, none⟩ = some (.int .i64 (f i))) :
    Calls Tryd.prog 48 #[.slice (some ⟨b, off, none⟩) len cap] w fun e w' => e = .returned (.bool (grB len f)) ∧ w' = w := by
  have d0 : decide (8 < (len : Int)) = false := by simp; omega
  go_enter Tryd.func48, Tryd.ntmps48
  go_wp2
  have HC : Hid (∀ i, i < len → w.cell? ⟨b, off + i, none⟩ = some (.int .i64 (f i))) := hc
  clear hc
  go_loop [10] (fun i => ∃ k : Nat, k ≤ len ∧ i = .int .i64 k ∧ Hid (risesB f k = true)) (fun i => len - (intOf i).toNat)
  case atStart => exact ⟨0, Nat.zero_le _, rfl, rfl⟩
  case round =>
    obtain ⟨k, hk, rfl, hto⟩ := hrel
    by_cases hlt : k < len
    · have g0 := HC.out k hlt
      cases hid : inR 0 9999 (f k)
      · have hno : Hid (grB len f = false) := gr_no hlt (okG_id hid)
        go_wp2_with (go_at_call 47; refine (isId_any _ _).mono ?_; rintro e w' ⟨rfl, rfl⟩)
        go_ret
        exact ⟨ret_boolW hno.out.symm, rfl⟩
      · cases k with
        | zero =>
          have hok : Hid (okG f 0 = true) := okG_first hid
          simp only [Nat.add_zero] at g0
          go_wp2_with (go_at_call 47; refine (isId_any _ _).mono ?_; rintro e w' ⟨rfl, rfl⟩)
          go_round
          case rel => exact ⟨1, by omega, by go_num, rises_next hto.out hok.out⟩
          case measure => simp [intOf]; omega
        | succ j =>
          have g1 := HC.out j (by omega)
          by_cases hup : f j < f (j + 1)
          · have hok : Hid (okG f (j + 1) = true) := okG_up hid hup
            have dd : decide (f (j + 1) ≤ f j) = false := by simp; omega
            go_wp2_with (go_at_call 47; refine (isId_any _ _).mono ?_; rintro e w' ⟨rfl, rfl⟩)
            go_round
            case rel => exact ⟨j + 1 + 1, by omega, by go_num, rises_next hto.out hok.out⟩
            case measure => simp [intOf]; omega
          · have hno : Hid (grB len f = false) := gr_no hlt (okG_down hup)
            have dd : f (j + 1) ≤ f j := by omega
            clear hup
            go_wp2_with (go_at_call 47; refine (isId_any _ _).mono ?_; rintro e w' ⟨rfl, rfl⟩)
            go_ret
            exact ⟨ret_boolW hno.out.symm, rfl⟩
    · have : k = len := by omega
      subst this
      have hyes : Hid (grB k f = true) := gr_yes hl hto.out
      go_wp2
      go_ret
      exact ⟨ret_boolW hyes.out.symm, rfl⟩
/-- impl.groupsRight. -/
theorem groups_any (a : Option Addr) (len cap : Nat) (f : Nat → Int) (w : World) (hi : Ints a len f w) :
    Calls Tryd.prog 48 #[.slice a len cap] w fun e w' => e = .returned (.bool (grB len f)) ∧ w' = w := by
  by_cases h8 : 8 < len
  · rw [gr_long h8]
    exact groups_long a len cap (by omega) w
  · by_cases h0 : len = 0
    · subst h0
      exact groups_none a cap w
    · obtain ⟨b, off, rfl, hlt, hc⟩ := hi (by omega)
      exact groups_some b off len cap f (by omega) w hc
theorem below_drewN {B : Nat} {w w' : World} (h : Below B w w') (n : Nat) : Below B w (w'.drewN n) := h.trans ⟨rfl, rfl, rfl, Nat.le_refl _, fun _ _ => rfl⟩
theorem credB_u {u g : Int} {len : Nat} {f : Nat → Int} (h : inR 0 9999 u = false) : credB u g len f = false := by simp [credB, h]
theorem credB_g {u g : Int} {len : Nat} {f : Nat → Int} (h : inR 0 9999 g = false) : credB u g len f = false := by simp [credB, h]
theorem credB_gr {u g : Int} {len : Nat} {f : Nat → Int} (h0 : inR 0 9999 u = true) (h1 : inR 0 9999 g = true) : credB u g len f = grB len f := by simp [credB, h0, h1]
set_option maxHeartbeats 2000000 in
theorem sCredRight_u (u g : Int) (a : Option Addr) (len cap : Nat) (r : Bool) (h0 : inR 0 9999 u = false) (w : World) :
    Calls Tryd.prog 15 #[.agg #[.int .i64 u, .int .i64 g, .slice a len cap, .bool r]] w fun e w' => e = .returned (.bool false) ∧ Below w.heap.size w w' := by
  go_enter Tryd.func15, Tryd.ntmps15
  go_wp2_with (go_at_call 49; refine (sId_any _ _).mono ?_; rintro e w' ⟨rfl, rfl⟩)
  go_ret
  exact ⟨rfl, (Below.refl _ _).alloc (Nat.le_refl _) _⟩
set_option maxHeartbeats 2000000 in
theorem sCredRight_g (u g : Int) (a : Option Addr) (len cap : Nat) (r : Bool) (h0 : inR 0 9999 u = true) (h1 : inR 0 9999 g = false) (w : World) :
    Calls Tryd.prog 15 #[.agg #[.int .i64 u, .int .i64 g, .slice a len cap, .bool r]] w fun e w' => e = .returned (.bool false) ∧ Below w.heap.size w w' := by
  go_enter Tryd.func15, Tryd.ntmps15
  go_wp2_with (go_at_call 49; refine (sId_any _ _).mono ?_; rintro e w' ⟨rfl, rfl⟩)
  go_ret
  exact ⟨rfl, (Below.refl _ _).alloc (Nat.le_refl _) _⟩
set_option maxHeartbeats 2000000 in
theorem sCredRight_long (u g : Int) (a : Option Addr) (len cap : Nat) (r : Bool) (h0 : inR 0 9999 u = true) (h1 : inR 0 9999 g = true) (hl : 8 < (len : Int)) (w : World) :
    Calls Tryd.prog 15 #[.agg #[.int .i64 u, .int .i64 g, .slice a len cap, .bool r]] w fun e w' => e = .returned (.bool false) ∧ Below w.heap.size w w' := by
  go_enter Tryd.func15, Tryd.ntmps15
  go_wp2_with (go_at_call 49; refine (sId_any _ _).mono ?_; rintro e w' ⟨rfl, rfl⟩)
  go_ret
  exact ⟨rfl, (Below.refl _ _).alloc (Nat.le_refl _) _⟩
set_option maxHeartbeats 2000000 in
theorem sCredRight_none (u g : Int) (a : Option Addr) (cap : Nat) (r : Bool) (h0 : inR 0 9999 u = true) (h1 : inR 0 9999 g = true) (w : World) :
    Calls Tryd.prog 15 #[.agg #[.int .i64 u, .int .i64 g, .slice a 0 cap, .bool r]] w fun e w' => e = .returned (.bool true) ∧ Below w.heap.size w w' := by
  go_enter Tryd.func15, Tryd.ntmps15
  go_wp2_with (go_at_call 49; refine (sId_any _ _).mono ?_; rintro e w' ⟨rfl, rfl⟩)
  go_rounds 1
  go_ret
  exact ⟨rfl, (Below.refl _ _).alloc (Nat.le_refl _) _⟩
set_option maxHeartbeats 4000000 in
theorem sCredRight_some (u g : Int) (b off len cap : Nat) (r : Bool) (f : Nat → Int) (h0 : inR 0 9999 u = true) (h1 : inR 0 9999 g = true) (hl : len ≤ 8) (w : World) (hb : b < w.heap.size) (hc : ∀ i, i < len → w.cell? ⟨b, off + i, none⟩ = some (.int .i64 (f i))) :
    Calls Tryd.prog 15 #[.agg #[.int .i64 u, .int .i64 g, .slice (some ⟨b, off, none⟩) len cap, .bool r]] w fun e w' => e = .returned (.bool (grB len f)) ∧ Below w.heap.size w w' := by
  have d0 : decide (8 < (len : Int)) = false := by simp; omega
  have HC : Hid (∀ i, i < len → w.cell? ⟨b, off + i, none⟩ = some (.int .i64 (f i))) := hc
  clear hc
  go_enter Tryd.func15, Tryd.ntmps15
  go_wp2_with (go_at_call 49; refine (sId_any _ _).mono ?_; rintro e w' ⟨rfl, rfl⟩)
  go_loopw [3] (fun i wr => ∃ (k : Nat), k ≤ len ∧ i = .int .i64 k ∧ Hid (Below w.heap.size w wr) ∧ Hid (w.heap.size < wr.heap.size) ∧ wr.cell? ⟨w.heap.size, 2, none⟩ = some (.slice (some ⟨b, off, none⟩) len cap) ∧ Hid (risesB f k = true)) (fun i _ => len - (intOf i).toNat)
  case atStart => exact ⟨0, Nat.zero_le _, rfl, (Below.refl _ _).alloc (Nat.le_refl _) _, (by simp : w.heap.size < (w.alloc _).heap.size), by simp, rfl⟩
  case round =>
    obtain ⟨k, hk, rfl, hbel, hsz, hcl, hto⟩ := hrel
    by_cases hlt : k < len
    · have g0 : wr.cell? ⟨b, off + k, none⟩ = some (.int .i64 (f k)) := (hbel.out.cell (p := ⟨b, off + k, none⟩) hb).trans (HC.out k hlt)
      have hlt' : (k : Int) < (len : Int) := by omega
      cases hid : inR 0 9999 (f k)
      · have hno : Hid (grB len f = false) := gr_no hlt (okG_id hid)
        go_wp2
        go_quiet ((go_at_call 49; exact Calls.quiet_of_same (sId_any _ _)))
        go_wp2
        go_ret
        exact ⟨ret_boolW hno.out.symm, below_drewN hbel.out _⟩
      · cases k with
        | zero =>
          have hok : Hid (okG f 0 = true) := okG_first hid
          simp only [Nat.add_zero] at g0
          go_wp2
          go_quiet ((go_at_call 49; exact Calls.quiet_of_same (sId_any _ _)))
          go_wp2
          go_roundw
          case rel => exact ⟨1, by omega, by go_num, below_drewN hbel.out _, hsz, hcl, rises_next hto.out hok.out⟩
          case measure => simp [intOf]; omega
        | succ j =>
          have g1 : wr.cell? ⟨b, off + j, none⟩ = some (.int .i64 (f j)) := (hbel.out.cell (p := ⟨b, off + j, none⟩) hb).trans (HC.out j (by omega))
          have hj' : (j : Int) < (len : Int) := by omega
          have hj2 : (j : Int) + 1 < (len : Int) := by omega
          have hj0 : (0 : Int) < (j : Int) + 1 := by omega
          have hj3 : (j : Int) + 1 - 1 = (j : Int) := by omega
          by_cases hup : f j < f (j + 1)
          · have hok : Hid (okG f (j + 1) = true) := okG_up hid hup
            have dd : decide (f (j + 1) ≤ f j) = false := by simp; omega
            go_wp2
            go_quiet ((go_at_call 49; exact Calls.quiet_of_same (sId_any _ _)))
            go_wp2
            go_roundw
            case rel => exact ⟨j + 1 + 1, by omega, by go_num, below_drewN hbel.out _, hsz, hcl, rises_next hto.out hok.out⟩
            case measure => simp [intOf]; omega
          · have hno : Hid (grB len f = false) := gr_no hlt (okG_down hup)
            have dd : f (j + 1) ≤ f j := by omega
            clear hup
            go_wp2
            go_quiet ((go_at_call 49; exact Calls.quiet_of_same (sId_any _ _)))
            go_wp2
            go_ret
            exact ⟨ret_boolW hno.out.symm, below_drewN hbel.out _⟩
    · have : k = len := by omega
      subst this
      have hyes : Hid (grB k f = true) := gr_yes hl hto.out
      go_wp2
      go_ret
      exact ⟨ret_boolW hyes.out.symm, hbel.out⟩
/-- spec.CredRight. -/
theorem sCredRight_any (u g : Int) (a : Option Addr) (len cap : Nat) (r : Bool) (f : Nat → Int) (w : World) (hi : Ints a len f w) :
    Calls Tryd.prog 15 #[.agg #[.int .i64 u, .int .i64 g, .slice a len cap, .bool r]] w fun e w' => e = .returned (.bool (credB u g len f)) ∧ Below w.heap.size w w' := by
  cases h0 : inR 0 9999 u
  · rw [credB_u h0]
    exact sCredRight_u u g a len cap r h0 w
  · cases h1 : inR 0 9999 g
    · rw [credB_g h1]
      exact sCredRight_g u g a len cap r h0 h1 w
    · rw [credB_gr h0 h1]
      by_cases h8 : 8 < len
      · rw [gr_long h8]
        exact sCredRight_long u g a len cap r h0 h1 (by omega) w
      · by_cases hz : len = 0
        · subst hz
          exact sCredRight_none u g a cap r h0 h1 w
        · obtain ⟨b, off, rfl, hlt, hc⟩ := hi (by omega)
          exact sCredRight_some u g b off len cap r f h0 h1 (by omega) w hlt hc
/-- What a world holds of a row of numbers that may be written. -/
def IHolds (w : World) (B : Nat) (f : Nat → Int) (n : Nat) : Prop := (∀ i, i < n → w.cell? ⟨B, i, none⟩ = some (.int .i64 (f i))) ∧ ∀ i, i < n → w.frozen? ⟨B, i, none⟩ = false
theorem IHolds.set {w : World} {B : Nat} {f : Nat → Int} {n : Nat} (h : IHolds w B f n) (i : Nat) (hi : i < n) (v : Int) : IHolds (w.setCell ⟨B, i, none⟩ (.int .i64 v)) B (fun k => if k = i then v else f k) n := by
  constructor
  · intro k hk
    by_cases e : k = i
    · subst e
      simp only [if_pos]
      have := h.1 k hk
      simp [go_sem, this]
    · simp only [if_neg e]
      rw [← h.1 k hk]
      exact World.cell?_setCell_other _ _ _ _ (by intro h; cases h; exact e rfl)
  · intro k hk
    rw [World.frozen?_setCell]
    exact h.2 k hk
theorem bl_cellC {W w1 : World} (hb : Below W.heap.size W w1) : (∀ b o, b < W.heap.size → w1.cell? ⟨b, o, none⟩ = W.cell? ⟨b, o, none⟩) ∧ (∀ b o, b < W.heap.size → w1.frozen? ⟨b, o, none⟩ = W.frozen? ⟨b, o, none⟩) :=
  ⟨fun b o h => hb.cell (p := ⟨b, o, none⟩) h, fun b o h => hb.frozen (p := ⟨b, o, none⟩) h⟩
set_option maxHeartbeats 2000000 in
theorem eqInts_none (a a2 : Option Addr) (cap cap2 : Nat) (w : World) :
    Calls Tryd.prog 85 #[.slice a 0 cap, .slice a2 0 cap2] w fun e w' => e = .returned (.bool true) ∧ Below w.heap.size w w' := by
  go_enter Tryd.func85, Tryd.ntmps85
  go_wp2
  go_rounds 1
  go_ret
  exact ⟨rfl, Below.refl _ _⟩
set_option maxHeartbeats 2000000 in
theorem eqInts_some (b off b2 off2 len cap cap2 : Nat) (f : Nat → Int) (hl : len ≤ 1048576) (w : World) (hb : b < w.heap.size) (hb2 : b2 < w.heap.size) (hc : Hid (∀ i, i < len → w.cell? ⟨b, off + i, none⟩ = some (.int .i64 (f i)))) (hc2 : Hid (∀ i, i < len → w.cell? ⟨b2, off2 + i, none⟩ = some (.int .i64 (f i)))) :
    Calls Tryd.prog 85 #[.slice (some ⟨b, off, none⟩) len cap, .slice (some ⟨b2, off2, none⟩) len cap2] w fun e w' => e = .returned (.bool true) ∧ Below w.heap.size w w' := by
  go_enter Tryd.func85, Tryd.ntmps85
  go_wp2
  go_loopw [5] (fun i wr => ∃ (k n : Nat), k ≤ len ∧ i = .int .i64 k ∧ wr = w.drewN n) (fun i _ => len - (intOf i).toNat)
  case atStart => exact ⟨0, 0, Nat.zero_le _, rfl, rfl⟩
  case round =>
    obtain ⟨k, n, hk, rfl, rfl⟩ := hrel
    by_cases hlt : k < len
    · have g0 : (w.drewN n).cell? ⟨b, off + k, none⟩ = some (.int .i64 (f k)) := hc.out k hlt
      have g1 : (w.drewN n).cell? ⟨b2, off2 + k, none⟩ = some (.int .i64 (f k)) := hc2.out k hlt
      have hlt' : (k : Int) < (len : Int) := by omega
      have hB : Hid (Below w.heap.size w (w.drewN n)) := below_drewN (Below.refl _ _) n
      generalize hW : w.drewN n = W at g0 g1 hB ⊢
      go_wp2
      go_quiet (fail)
      go_wp2
      go_roundw
      case rel =>
        rename_i nq
        exact ⟨k + 1, n + nq, by omega, by go_num, by rw [← hW]; simp⟩
      case measure => simp [intOf]; omega
    · have : k = len := by omega
      subst this
      go_wp2
      go_ret
      exact ⟨rfl, below_drewN (Below.refl _ _) n⟩
/-- laws.eqInt64S of two lists that hold the same. -/
theorem eqInts_any (a a2 : Option Addr) (len cap cap2 : Nat) (f : Nat → Int) (hl : len ≤ 1048576) (w : World) (h1 : Ints a len f w) (h2 : Ints a2 len f w) :
    Calls Tryd.prog 85 #[.slice a len cap, .slice a2 len cap2] w fun e w' => e = .returned (.bool true) ∧ Below w.heap.size w w' := by
  by_cases h0 : len = 0
  · subst h0
    exact eqInts_none a a2 cap cap2 w
  · obtain ⟨b, off, rfl, hb, hc⟩ := h1 (by omega)
    obtain ⟨b2, off2, rfl, hb2, hc2⟩ := h2 (by omega)
    exact eqInts_some b off b2 off2 len cap cap2 f hl w hb hb2 hc hc2
theorem bl2 (w : World) (o1 o2 : Obj) : Below w.heap.size w ((w.alloc o1).alloc o2) := ((Below.refl _ _).alloc (Nat.le_refl _) _).alloc (by simp) _
set_option maxHeartbeats 4000000 in
/-- laws.eqCred of two that hold the same. -/
theorem eqCred_any (u g : Int) (a a2 : Option Addr) (len cap cap2 : Nat) (r : Bool) (f : Nat → Int) (hl : len ≤ 1048576) (w : World) (h1 : Ints a len f w) (h2 : Ints a2 len f w) :
    Calls Tryd.prog 55 #[.agg #[.int .i64 u, .int .i64 g, .slice a len cap, .bool r], .agg #[.int .i64 u, .int .i64 g, .slice a2 len cap2, .bool r]] w fun e w' => e = .returned (.bool true) ∧ Below w.heap.size w w' := by
  have hc : Hid (∀ w', Below w.heap.size w w' → Calls Tryd.prog 85 #[.slice a len cap, .slice a2 len cap2] w' fun e w'' => e = .returned (.bool true) ∧ Below w'.heap.size w' w'') := (fun w' hb => eqInts_any a a2 len cap cap2 f hl w' (h1.below hb) (h2.below hb))
  clear h1 h2
  go_enter Tryd.func55, Tryd.ntmps55
  go_wp2_with (go_at_call 85; refine (hc.out _ (bl2 _ _ _)).mono ?_; rintro e w1 ⟨rfl, hb⟩; obtain ⟨hcl, hfz⟩ := bl_cellC hb; simp at hcl hfz)
  go_ret
  exact ⟨rfl, (bl2 _ _ _).trans (hb.mono (by simp; omega))⟩
end Go.Proofs.YtgooanaacebncaaDoor
