/- Laid together: NamedRight, AclRight, TrI1. -/
import Derived.Test.YtgodbelcddgdmaaGreatNF5
import Derived.Test.YtgodbelcddgdmaaGreatNF6
/- impl.namedRight and spec.l03Named: at most six, rising. -/
namespace Go.Proofs.YtgodbelcddgdmaaGreat
open Go.RowKit Go.PlainAid
set_option linter.unusedVariables false
theorem below_drewM {B : Nat} {w w' : World} (h : Below B w w') (n : Nat) : Below B w (w'.drewN n) := h.trans ⟨rfl, rfl, rfl, Nat.le_refl _, fun _ _ => rfl⟩
theorem pair_new (w : World) (v0 v1 : Value) (t : TypeId) : (w.alloc (.cells #[v0, v1] t)).cell? ⟨w.heap.size, 0, none⟩ = some v0 ∧ (w.alloc (.cells #[v0, v1] t)).cell? ⟨w.heap.size, 1, none⟩ = some v1 := by
  have hb : (w.alloc (.cells #[v0, v1] t)).heap[w.heap.size]? = some (.cells #[v0, v1] t) := by
    rw [World.alloc]
    exact Array.getElem?_push_size
  refine ⟨?_, ?_⟩ <;> (simp only [World.cell?, hb]; rfl)
set_option maxHeartbeats 1000000 in
theorem named_long (a : Option Addr) (len cap : Nat) (h : 6 < (len : Int)) (w : World) :
    Calls Tryz.prog 94 #[.slice a len cap] w fun e w' => e = .returned (.bool false) ∧ w' = w := by
  go_enter Tryz.func94, Tryz.ntmps94
  go_wp2
  go_ret
  exact ⟨rfl, rfl⟩
set_option maxHeartbeats 1000000 in
theorem named_none (a : Option Addr) (cap : Nat) (w : World) :
    Calls Tryz.prog 94 #[.slice a 0 cap] w fun e w' => e = .returned (.bool true) ∧ w' = w := by
  go_enter Tryz.func94, Tryz.ntmps94
  go_wp2
  go_rounds 1
  go_ret
  exact ⟨rfl, rfl⟩
set_option maxHeartbeats 4000000 in
theorem named_some (b off cap : Nat) (l : List (Int × Int)) (hl : l.length ≤ 6) (w : World) (hb : b < w.heap.size) (hc : ∀ i, i < l.length → w.cell? ⟨b, off + i * 2, none⟩ = some (.int .i64 (idAt l i)) ∧ w.cell? ⟨b, off + i * 2 + 1, none⟩ = some (.int .i64 (btAt l i))) :
    Calls Tryz.prog 94 #[.slice (some ⟨b, off, none⟩) l.length cap] w fun e w' => e = .returned (.bool (nmB l)) ∧ Below w.heap.size w w' := by
  have HC : Hid (∀ i, i < l.length → w.cell? ⟨b, off + i * 2, none⟩ = some (.int .i64 (idAt l i)) ∧ w.cell? ⟨b, off + i * 2 + 1, none⟩ = some (.int .i64 (btAt l i))) := hc
  have HN : Hid (∀ k, k < l.length → okN l k = false → nmB l = false) := (fun k => nm_no)
  have HY : Hid (nmRises l l.length = true → nmB l = true) := nm_yes hl
  clear hc
  generalize hlen : l.length = len at hl HC HN HY ⊢
  clear hlen
  have d0 : decide (6 < (len : Int)) = false := by simp; omega
  go_enter Tryz.func94, Tryz.ntmps94
  go_wp2
  go_loopw [10] (fun i wr => ∃ k : Nat, k ≤ len ∧ i = .int .i64 k ∧ Hid (nmRises l k = true) ∧ Hid (Below w.heap.size w wr)) (fun i _ => len - (intOf i).toNat)
  case atStart => exact ⟨0, Nat.zero_le _, rfl, rfl, Below.refl _ _⟩
  case round =>
    obtain ⟨k, hk, rfl, hto, hB⟩ := hrel
    by_cases hlt : k < len
    · have hlt' : (k : Int) < (len : Int) := by omega
      have g0 : wr.cell? ⟨b, off + k * 2, none⟩ = some (.int .i64 (idAt l k)) := (hB.out.cell (p := ⟨b, off + k * 2, none⟩) hb).trans (HC.out k hlt).1
      have g1 : wr.cell? ⟨b, off + k * 2 + 1, none⟩ = some (.int .i64 (btAt l k)) := (hB.out.cell (p := ⟨b, off + k * 2 + 1, none⟩) hb).trans (HC.out k hlt).2
      obtain ⟨n0, n1⟩ := pair_new wr (.int .i64 (idAt l k)) (.int .i64 (btAt l k)) 90
      have hBA : Hid (Below w.heap.size w (wr.alloc (.cells #[.int .i64 (idAt l k), .int .i64 (btAt l k)] 90))) := Below.onA hB.out
      cases hid : inR 0 9999 (idAt l k)
      · have hno : Hid (nmB l = false) := HN.out k hlt (okN_id hid)
        go_wp2
        generalize wr.alloc (.cells #[.int .i64 (idAt l k), .int .i64 (btAt l k)] 90) = W at n0 n1 hBA ⊢
        go_quiet ((first | (go_at_call 81; exact Calls.quiet_of_same (isId_any _ _)) | (go_at_call 93; exact Calls.quiet_of_same (isBits_any _ _))))
        go_wp2
        go_ret
        exact ⟨ret_boolW hno.out.symm, below_drewM hBA.out _⟩
      · cases hbt : inR 0 7 (btAt l k)
        · have hno : Hid (nmB l = false) := HN.out k hlt (okN_bt hbt)
          go_wp2
          generalize wr.alloc (.cells #[.int .i64 (idAt l k), .int .i64 (btAt l k)] 90) = W at n0 n1 hBA ⊢
          go_quiet ((first | (go_at_call 81; exact Calls.quiet_of_same (isId_any _ _)) | (go_at_call 93; exact Calls.quiet_of_same (isBits_any _ _))))
          go_wp2
          go_ret
          exact ⟨ret_boolW hno.out.symm, below_drewM hBA.out _⟩
        · cases k with
          | zero =>
            have hok : Hid (okN l 0 = true) := okN_first hid hbt
            simp only [Nat.zero_mul, Nat.add_zero] at g0 g1
            go_wp2
            generalize wr.alloc (.cells #[.int .i64 (idAt l 0), .int .i64 (btAt l 0)] 90) = W at n0 n1 hBA ⊢
            go_quiet ((first | (go_at_call 81; exact Calls.quiet_of_same (isId_any _ _)) | (go_at_call 93; exact Calls.quiet_of_same (isBits_any _ _))))
            go_wp2
            go_roundw
            case rel => exact ⟨1, by omega, by go_num, nmRises_next hto.out hok.out, below_drewM hBA.out _⟩
            case measure => simp [intOf]; omega
          | succ j =>
            have hj' : (j : Int) < (len : Int) := by omega
            have hj2 : (j : Int) + 1 < (len : Int) := by omega
            have hj0 : (0 : Int) < (j : Int) + 1 := by omega
            have hj3 : (j : Int) + 1 - 1 = (j : Int) := by omega
            have gp : (wr.alloc (.cells #[.int .i64 (idAt l (j + 1)), .int .i64 (btAt l (j + 1))] 90)).cell? ⟨b, off + j * 2, none⟩ = some (.int .i64 (idAt l j)) := (hBA.out.cell (p := ⟨b, off + j * 2, none⟩) hb).trans (HC.out j (by omega)).1
            by_cases hup : idAt l j < idAt l (j + 1)
            · have hok : Hid (okN l (j + 1) = true) := okN_up hid hbt hup
              have dd : decide (idAt l (j + 1) ≤ idAt l j) = false := by simp; omega
              go_wp2
              generalize wr.alloc (.cells #[.int .i64 (idAt l (j + 1)), .int .i64 (btAt l (j + 1))] 90) = W at n0 n1 gp hBA ⊢
              go_quiet ((first | (go_at_call 81; exact Calls.quiet_of_same (isId_any _ _)) | (go_at_call 93; exact Calls.quiet_of_same (isBits_any _ _))))
              go_wp2
              go_roundw
              case rel => exact ⟨j + 1 + 1, by omega, by go_num, nmRises_next hto.out hok.out, below_drewM hBA.out _⟩
              case measure => simp [intOf]; omega
            · have hno : Hid (nmB l = false) := HN.out (j + 1) hlt (okN_down hup)
              have dd : idAt l (j + 1) ≤ idAt l j := by omega
              clear hup
              go_wp2
              generalize wr.alloc (.cells #[.int .i64 (idAt l (j + 1)), .int .i64 (btAt l (j + 1))] 90) = W at n0 n1 gp hBA ⊢
              go_quiet ((first | (go_at_call 81; exact Calls.quiet_of_same (isId_any _ _)) | (go_at_call 93; exact Calls.quiet_of_same (isBits_any _ _))))
              go_wp2
              go_ret
              exact ⟨ret_boolW hno.out.symm, below_drewM hBA.out _⟩
    · have : k = len := by omega
      subst this
      have hyes : Hid (nmB l = true) := HY.out hto.out
      go_wp2
      go_ret
      exact ⟨ret_boolW hyes.out.symm, hB.out⟩
/-- impl.namedRight. -/
theorem named_any (a : Option Addr) (len cap : Nat) (l : List (Int × Int)) (w : World) (hi : Prs a len l w) :
    Calls Tryz.prog 94 #[.slice a len cap] w fun e w' => e = .returned (.bool (nmB l)) ∧ Below w.heap.size w w' := by
  obtain ⟨hln, hp⟩ := hi
  subst hln
  by_cases h8 : 6 < l.length
  · rw [nm_long h8]
    refine (named_long a l.length cap (by omega) w).mono ?_
    rintro e w' ⟨rfl, rfl⟩
    exact ⟨rfl, Below.refl _ _⟩
  · by_cases h0 : l.length = 0
    · have e : nmB l = true := nm_yes (by omega) (by rw [h0]; rfl)
      rw [e, h0]
      refine (named_none a cap w).mono ?_
      rintro e w' ⟨rfl, rfl⟩
      exact ⟨rfl, Below.refl _ _⟩
    · obtain ⟨b, off, rfl, hlt, hc⟩ := hp (by omega)
      exact named_some b off cap l (by omega) w hlt hc
set_option maxHeartbeats 1000000 in
theorem sNamed_none (a : Option Addr) (cap : Nat) (w : World) :
    Calls Tryz.prog 71 #[.slice a 0 cap] w fun e w' => e = .returned (.bool true) ∧ w' = w := by
  go_enter Tryz.func71, Tryz.ntmps71
  go_wp2
  go_rounds 1
  go_ret
  exact ⟨rfl, rfl⟩
theorem nm_end {l : List (Int × Int)} (h : nmRises l l.length = true) : decide ((l.length : Int) ≤ 6) = nmB l := by
  by_cases e : l.length ≤ 6
  · have : (l.length : Int) ≤ 6 := by omega
    simp [nmB, h, e, this]
  · have : ¬ (l.length : Int) ≤ 6 := by omega
    simp [nmB, h, e, this]
set_option maxHeartbeats 4000000 in
theorem sNamed_some (b off cap : Nat) (l : List (Int × Int)) (hl : l.length ≤ 1048576) (w : World) (hb : b < w.heap.size) (hc : ∀ i, i < l.length → w.cell? ⟨b, off + i * 2, none⟩ = some (.int .i64 (idAt l i)) ∧ w.cell? ⟨b, off + i * 2 + 1, none⟩ = some (.int .i64 (btAt l i))) :
    Calls Tryz.prog 71 #[.slice (some ⟨b, off, none⟩) l.length cap] w fun e w' => e = .returned (.bool (nmB l)) ∧ Below w.heap.size w w' := by
  have HC : Hid (∀ i, i < l.length → w.cell? ⟨b, off + i * 2, none⟩ = some (.int .i64 (idAt l i)) ∧ w.cell? ⟨b, off + i * 2 + 1, none⟩ = some (.int .i64 (btAt l i))) := hc
  have HN : Hid (∀ k, k < l.length → okN l k = false → nmB l = false) := (fun k => nm_no)
  have HY : Hid (nmRises l l.length = true → decide ((l.length : Int) ≤ 6) = nmB l) := nm_end
  clear hc
  generalize hlen : l.length = len at hl HC HN HY ⊢
  clear hlen
  go_enter Tryz.func71, Tryz.ntmps71
  go_wp2
  go_loopw [3] (fun i wr => ∃ k : Nat, k ≤ len ∧ i = .int .i64 k ∧ Hid (nmRises l k = true) ∧ Hid (Below w.heap.size w wr)) (fun i _ => len - (intOf i).toNat)
  case atStart => exact ⟨0, Nat.zero_le _, rfl, rfl, Below.refl _ _⟩
  case round =>
    obtain ⟨k, hk, rfl, hto, hB⟩ := hrel
    by_cases hlt : k < len
    · have hlt' : (k : Int) < (len : Int) := by omega
      have g0 : wr.cell? ⟨b, off + k * 2, none⟩ = some (.int .i64 (idAt l k)) := (hB.out.cell (p := ⟨b, off + k * 2, none⟩) hb).trans (HC.out k hlt).1
      have g1 : wr.cell? ⟨b, off + k * 2 + 1, none⟩ = some (.int .i64 (btAt l k)) := (hB.out.cell (p := ⟨b, off + k * 2 + 1, none⟩) hb).trans (HC.out k hlt).2
      cases hid : inR 0 9999 (idAt l k)
      · have hno : Hid (nmB l = false) := HN.out k hlt (okN_id hid)
        go_wp2
        go_quiet ((first | (go_at_call 53; exact Calls.quiet_of_same (sId_any _ _)) | (go_at_call 70; exact Calls.quiet_of_same (sBits_any _ _))))
        go_wp2
        go_ret
        exact ⟨ret_boolW hno.out.symm, below_drewM hB.out _⟩
      · cases hbt : inR 0 7 (btAt l k)
        · have hno : Hid (nmB l = false) := HN.out k hlt (okN_bt hbt)
          go_wp2
          go_quiet ((first | (go_at_call 53; exact Calls.quiet_of_same (sId_any _ _)) | (go_at_call 70; exact Calls.quiet_of_same (sBits_any _ _))))
          go_wp2
          go_ret
          exact ⟨ret_boolW hno.out.symm, below_drewM hB.out _⟩
        · cases k with
          | zero =>
            have hok : Hid (okN l 0 = true) := okN_first hid hbt
            simp only [Nat.zero_mul, Nat.add_zero] at g0 g1
            go_wp2
            go_quiet ((first | (go_at_call 53; exact Calls.quiet_of_same (sId_any _ _)) | (go_at_call 70; exact Calls.quiet_of_same (sBits_any _ _))))
            go_wp2
            go_roundw
            case rel => exact ⟨1, by omega, by go_num, nmRises_next hto.out hok.out, below_drewM hB.out _⟩
            case measure => simp [intOf]; omega
          | succ j =>
            have hj' : (j : Int) < (len : Int) := by omega
            have hj2 : (j : Int) + 1 < (len : Int) := by omega
            have hj0 : (0 : Int) < (j : Int) + 1 := by omega
            have hj3 : (j : Int) + 1 - 1 = (j : Int) := by omega
            have gp : wr.cell? ⟨b, off + j * 2, none⟩ = some (.int .i64 (idAt l j)) := (hB.out.cell (p := ⟨b, off + j * 2, none⟩) hb).trans (HC.out j (by omega)).1
            by_cases hup : idAt l j < idAt l (j + 1)
            · have hok : Hid (okN l (j + 1) = true) := okN_up hid hbt hup
              have dd : decide (idAt l (j + 1) ≤ idAt l j) = false := by simp; omega
              go_wp2
              go_quiet ((first | (go_at_call 53; exact Calls.quiet_of_same (sId_any _ _)) | (go_at_call 70; exact Calls.quiet_of_same (sBits_any _ _))))
              go_wp2
              go_roundw
              case rel => exact ⟨j + 1 + 1, by omega, by go_num, nmRises_next hto.out hok.out, below_drewM hB.out _⟩
              case measure => simp [intOf]; omega
            · have hno : Hid (nmB l = false) := HN.out (j + 1) hlt (okN_down hup)
              have dd : idAt l (j + 1) ≤ idAt l j := by omega
              clear hup
              go_wp2
              go_quiet ((first | (go_at_call 53; exact Calls.quiet_of_same (sId_any _ _)) | (go_at_call 70; exact Calls.quiet_of_same (sBits_any _ _))))
              go_wp2
              go_ret
              exact ⟨ret_boolW hno.out.symm, below_drewM hB.out _⟩
    · have : k = len := by omega
      subst this
      have hyes : Hid (decide ((k : Int) ≤ 6) = nmB l) := HY.out hto.out
      go_wp2
      go_ret
      exact ⟨ret_boolW hyes.out, hB.out⟩
/-- spec.l03Named. -/
theorem sNamed_any (a : Option Addr) (len cap : Nat) (l : List (Int × Int)) (hl : len ≤ 1048576) (w : World) (hi : Prs a len l w) :
    Calls Tryz.prog 71 #[.slice a len cap] w fun e w' => e = .returned (.bool (nmB l)) ∧ Below w.heap.size w w' := by
  obtain ⟨hln, hp⟩ := hi
  subst hln
  by_cases h0 : l.length = 0
  · have e : nmB l = true := nm_yes (by omega) (by rw [h0]; rfl)
    rw [e, h0]
    refine (sNamed_none a cap w).mono ?_
    rintro e w' ⟨rfl, rfl⟩
    exact ⟨rfl, Below.refl _ _⟩
  · obtain ⟨b, off, rfl, hlt, hc⟩ := hp (by omega)
    exact sNamed_some b off cap l hl w hlt hc
set_option maxHeartbeats 1000000 in
/-- impl.hasNamed. -/
theorem hasNamed_any (u g o : Int) (au : Option Addr) (lu cu : Nat) (ag : Option Addr) (lg cg : Nat) (r : Bool) (m : Int) (w : World) :
    Calls Tryz.prog 95 #[.agg #[.int .i64 u, .int .i64 g, .int .i64 o, .slice au lu cu, .slice ag lg cg, .bool r, .int .i64 m]] w fun e w' => e = .returned (.bool (!(lu == 0 && lg == 0))) ∧ Below w.heap.size w w' := by
  by_cases h1 : lu = 0
  · subst h1
    by_cases h2 : lg = 0
    · subst h2
      go_enter Tryz.func95, Tryz.ntmps95
      go_wp2
      go_ret
      exact ⟨rfl, bel_alloc _ _⟩
    · have e : Hid ((!((0 : Nat) == 0 && lg == 0)) = true) := (by show _ = _; simp [h2])
      have d : 0 < (lg : Int) := by omega
      clear h2
      go_enter Tryz.func95, Tryz.ntmps95
      go_wp2
      go_ret
      exact ⟨ret_boolW (by rw [e.out]; simp; omega), bel_alloc _ _⟩
  · have e : Hid ((!(lu == 0 && lg == 0)) = true) := (by show _ = _; simp [h1])
    have d : 0 < (lu : Int) := by omega
    clear h1
    go_enter Tryz.func95, Tryz.ntmps95
    go_wp2
    go_ret
    exact ⟨ret_boolW e.out.symm, bel_alloc _ _⟩
theorem aclB_u {u g o : Int} {us gs : List (Int × Int)} {r : Bool} {m : Int} (h : inR 0 7 u = false) : aclB u g o us gs r m = false := by simp [aclB, h]
theorem aclB_g {u g o : Int} {us gs : List (Int × Int)} {r : Bool} {m : Int} (h : inR 0 7 g = false) : aclB u g o us gs r m = false := by simp [aclB, h]
theorem aclB_o {u g o : Int} {us gs : List (Int × Int)} {r : Bool} {m : Int} (h : inR 0 7 o = false) : aclB u g o us gs r m = false := by simp [aclB, h]
theorem aclB_m {u g o : Int} {us gs : List (Int × Int)} {r : Bool} {m : Int} (h : inR 0 7 m = false) : aclB u g o us gs r m = false := by simp [aclB, h]
theorem aclB_us {u g o : Int} {us gs : List (Int × Int)} {r : Bool} {m : Int} (h : nmB us = false) : aclB u g o us gs r m = false := by simp [aclB, h]
theorem aclB_gs {u g o : Int} {us gs : List (Int × Int)} {r : Bool} {m : Int} (h : nmB gs = false) : aclB u g o us gs r m = false := by simp [aclB, h]
theorem aclB_r {u g o : Int} {us gs : List (Int × Int)} {m : Int} (h0 : inR 0 7 u = true) (h1 : inR 0 7 g = true) (h2 : inR 0 7 o = true) (h3 : inR 0 7 m = true) (h4 : nmB us = true) (h5 : nmB gs = true) : aclB u g o us gs true m = true := by simp [aclB, *]
theorem aclB_f {u g o : Int} {us gs : List (Int × Int)} {m : Int} (h0 : inR 0 7 u = true) (h1 : inR 0 7 g = true) (h2 : inR 0 7 o = true) (h3 : inR 0 7 m = true) (h4 : nmB us = true) (h5 : nmB gs = true) : aclB u g o us gs false m = (m == 0 && (us.length == 0 && gs.length == 0)) := by simp [aclB, *]
set_option maxHeartbeats 4000000 in
/-- impl.AclRight. -/
theorem iAclRight_any (u g o : Int) (au : Option Addr) (lu cu : Nat) (ag : Option Addr) (lg cg : Nat) (r : Bool) (m : Int) (us gs : List (Int × Int)) (w : World) (hu : Prs au lu us w) (hg : Prs ag lg gs w) :
    Calls Tryz.prog 82 #[.agg #[.int .i64 u, .int .i64 g, .int .i64 o, .slice au lu cu, .slice ag lg cg, .bool r, .int .i64 m]] w fun e w' => e = .returned (.bool (aclB u g o us gs r m)) ∧ Below w.heap.size w w' := by
  have e1 := hu.1
  have e2 := hg.1
  have hc : Hid (∀ w', Below w.heap.size w w' → Calls Tryz.prog 94 #[.slice au lu cu] w' fun e w'' => e = .returned (.bool (nmB us)) ∧ Below w'.heap.size w' w'') := (fun w' hb => named_any au lu cu us w' (hu.below hb))
  have hd : Hid (∀ w', Below w.heap.size w w' → Calls Tryz.prog 94 #[.slice ag lg cg] w' fun e w'' => e = .returned (.bool (nmB gs)) ∧ Below w'.heap.size w' w'') := (fun w' hb => named_any ag lg cg gs w' (hg.below hb))
  clear hu hg
  cases h0 : inR 0 7 u
  · have hno : Hid (aclB u g o us gs r m = false) := aclB_u h0
    go_enter Tryz.func82, Tryz.ntmps82
    go_wp2_with (go_at_call 93; refine (isBits_any _ _).mono ?_; rintro e w' ⟨rfl, rfl⟩)
    go_ret
    exact ⟨ret_boolW hno.out.symm, bel_alloc _ _⟩
  cases h1 : inR 0 7 g
  · have hno : Hid (aclB u g o us gs r m = false) := aclB_g h1
    go_enter Tryz.func82, Tryz.ntmps82
    go_wp2_with (go_at_call 93; refine (isBits_any _ _).mono ?_; rintro e w' ⟨rfl, rfl⟩)
    go_ret
    exact ⟨ret_boolW hno.out.symm, bel_alloc _ _⟩
  cases h2 : inR 0 7 o
  · have hno : Hid (aclB u g o us gs r m = false) := aclB_o h2
    go_enter Tryz.func82, Tryz.ntmps82
    go_wp2_with (go_at_call 93; refine (isBits_any _ _).mono ?_; rintro e w' ⟨rfl, rfl⟩)
    go_ret
    exact ⟨ret_boolW hno.out.symm, bel_alloc _ _⟩
  cases h3 : inR 0 7 m
  · have hno : Hid (aclB u g o us gs r m = false) := aclB_m h3
    go_enter Tryz.func82, Tryz.ntmps82
    go_wp2_with (go_at_call 93; refine (isBits_any _ _).mono ?_; rintro e w' ⟨rfl, rfl⟩)
    go_ret
    exact ⟨ret_boolW hno.out.symm, bel_alloc _ _⟩
  have HT : Hid (nmB us = true → nmB gs = true → aclB u g o us gs true m = true ∧ aclB u g o us gs false m = (m == 0 && (lu == 0 && lg == 0))) := (fun h4 h5 => ⟨aclB_r h0 h1 h2 h3 h4 h5, by rw [← e1, ← e2]; exact aclB_f h0 h1 h2 h3 h4 h5⟩)
  clear e1 e2
  go_enter Tryz.func82, Tryz.ntmps82
  go_wp2_with (go_at_call 93; refine (isBits_any _ _).mono ?_; rintro e w' ⟨rfl, rfl⟩)
  refine (hc.out _ (bel_alloc _ _)).mono ?_
  rintro e w1 ⟨rfl, hb⟩
  have hW1 : Hid (Below w.heap.size w w1) := Below.on (bel_alloc _ _) hb
  have hX := (box7_new w (.int .i64 u) (.int .i64 g) (.int .i64 o) (.slice au lu cu) (.slice ag lg cg) (.bool r) (.int .i64 m) 28).below hb
  clear hb hc
  cases h4 : nmB us
  · have hno : Hid (aclB u g o us gs r m = false) := aclB_us h4
    go_wp2
    go_ret
    exact ⟨ret_boolW hno.out.symm, hW1.out⟩
  obtain ⟨xl, x0, x1, x2, x3, x4, x5, x6⟩ := hX
  go_wp2_with fail
  refine (hd.out _ hW1.out).mono ?_
  rintro e w2 ⟨rfl, hb⟩
  have hW2 : Hid (Below w.heap.size w w2) := Below.on hW1.out hb
  have hX2 := (Box7.mk xl x0 x1 x2 x3 x4 x5 x6).below hb
  clear hb hd hW1 xl x0 x1 x2 x3 x4 x5 x6
  cases h5 : nmB gs
  · have hno : Hid (aclB u g o us gs r m = false) := aclB_gs h5
    go_wp2
    go_ret
    exact ⟨ret_boolW hno.out.symm, hW2.out⟩
  obtain ⟨xl, x0, x1, x2, x3, x4, x5, x6⟩ := hX2
  obtain ⟨t1, t2⟩ := HT.out h4 h5
  cases r with
  | true =>
    have hyes : Hid (aclB u g o us gs true m = true) := t1
    clear t1 t2 HT h0 h1 h2 h3 h4 h5
    go_wp2
    go_ret
    exact ⟨ret_boolW hyes.out.symm, hW2.out⟩
  | false =>
    have hyes : Hid (aclB u g o us gs false m = (m == 0 && (lu == 0 && lg == 0))) := t2
    clear t1 t2 HT h0 h1 h2 h3 h4 h5
    by_cases hm : m = 0
    · subst hm
      go_wp2_with fail
      refine (hasNamed_any u g o au lu cu ag lg cg false 0 _).mono ?_
      rintro e w3 ⟨rfl, hb⟩
      have hW3 : Hid (Below w.heap.size w w3) := Below.on hW2.out hb
      have hyes2 : Hid ((!!(lu == 0 && lg == 0)) = aclB u g o us gs false 0) := (by show _ = _; rw [hyes.out]; simp)
      clear hb hyes
      generalize (!(lu == 0 && lg == 0)) = bb at hyes2 ⊢
      go_wp2
      go_ret
      exact ⟨ret_boolW hyes2.out, hW3.out⟩
    · have hno : Hid (aclB u g o us gs false m = false) := (by show _ = _; rw [hyes.out]; simp [hm])
      have hm2 : (m == 0) = false := by simp [hm]
      clear hm hyes
      go_wp2
      go_ret
      exact ⟨ret_boolW hno.out.symm, hW2.out⟩
set_option maxHeartbeats 4000000 in
/-- spec.AclRight. -/
theorem sAclRight_any (u g o : Int) (au : Option Addr) (lu cu : Nat) (ag : Option Addr) (lg cg : Nat) (r : Bool) (m : Int) (us gs : List (Int × Int)) (hlu : lu ≤ 1048576) (hlg : lg ≤ 1048576) (w : World) (hu : Prs au lu us w) (hg : Prs ag lg gs w) :
    Calls Tryz.prog 54 #[.agg #[.int .i64 u, .int .i64 g, .int .i64 o, .slice au lu cu, .slice ag lg cg, .bool r, .int .i64 m]] w fun e w' => e = .returned (.bool (aclB u g o us gs r m)) ∧ Below w.heap.size w w' := by
  have e1 := hu.1
  have e2 := hg.1
  have hc : Hid (∀ w', Below w.heap.size w w' → Calls Tryz.prog 71 #[.slice au lu cu] w' fun e w'' => e = .returned (.bool (nmB us)) ∧ Below w'.heap.size w' w'') := (fun w' hb => sNamed_any au lu cu us hlu w' (hu.below hb))
  have hd : Hid (∀ w', Below w.heap.size w w' → Calls Tryz.prog 71 #[.slice ag lg cg] w' fun e w'' => e = .returned (.bool (nmB gs)) ∧ Below w'.heap.size w' w'') := (fun w' hb => sNamed_any ag lg cg gs hlg w' (hg.below hb))
  clear hu hg
  cases h0 : inR 0 7 u
  · have hno : Hid (aclB u g o us gs r m = false) := aclB_u h0
    go_enter Tryz.func54, Tryz.ntmps54
    go_wp2_with (go_at_call 70; refine (sBits_any _ _).mono ?_; rintro e w' ⟨rfl, rfl⟩)
    go_ret
    exact ⟨ret_boolW hno.out.symm, bel_alloc _ _⟩
  cases h1 : inR 0 7 g
  · have hno : Hid (aclB u g o us gs r m = false) := aclB_g h1
    go_enter Tryz.func54, Tryz.ntmps54
    go_wp2_with (go_at_call 70; refine (sBits_any _ _).mono ?_; rintro e w' ⟨rfl, rfl⟩)
    go_ret
    exact ⟨ret_boolW hno.out.symm, bel_alloc _ _⟩
  cases h2 : inR 0 7 o
  · have hno : Hid (aclB u g o us gs r m = false) := aclB_o h2
    go_enter Tryz.func54, Tryz.ntmps54
    go_wp2_with (go_at_call 70; refine (sBits_any _ _).mono ?_; rintro e w' ⟨rfl, rfl⟩)
    go_ret
    exact ⟨ret_boolW hno.out.symm, bel_alloc _ _⟩
  cases h3 : inR 0 7 m
  · have hno : Hid (aclB u g o us gs r m = false) := aclB_m h3
    go_enter Tryz.func54, Tryz.ntmps54
    go_wp2_with (go_at_call 70; refine (sBits_any _ _).mono ?_; rintro e w' ⟨rfl, rfl⟩)
    go_ret
    exact ⟨ret_boolW hno.out.symm, bel_alloc _ _⟩
  have HT : Hid (nmB us = true → nmB gs = true → aclB u g o us gs true m = true ∧ aclB u g o us gs false m = (m == 0 && (lu == 0 && lg == 0))) := (fun h4 h5 => ⟨aclB_r h0 h1 h2 h3 h4 h5, by rw [← e1, ← e2]; exact aclB_f h0 h1 h2 h3 h4 h5⟩)
  clear e1 e2
  go_enter Tryz.func54, Tryz.ntmps54
  go_wp2_with (go_at_call 70; refine (sBits_any _ _).mono ?_; rintro e w' ⟨rfl, rfl⟩)
  refine (hc.out _ (bel_alloc _ _)).mono ?_
  rintro e w1 ⟨rfl, hb⟩
  have hW1 : Hid (Below w.heap.size w w1) := Below.on (bel_alloc _ _) hb
  have hX := (box7_new w (.int .i64 u) (.int .i64 g) (.int .i64 o) (.slice au lu cu) (.slice ag lg cg) (.bool r) (.int .i64 m) 28).below hb
  clear hb hc
  cases h4 : nmB us
  · have hno : Hid (aclB u g o us gs r m = false) := aclB_us h4
    go_wp2
    go_ret
    exact ⟨ret_boolW hno.out.symm, hW1.out⟩
  obtain ⟨xl, x0, x1, x2, x3, x4, x5, x6⟩ := hX
  go_wp2_with fail
  refine (hd.out _ hW1.out).mono ?_
  rintro e w2 ⟨rfl, hb⟩
  have hW2 : Hid (Below w.heap.size w w2) := Below.on hW1.out hb
  have hX2 := (Box7.mk xl x0 x1 x2 x3 x4 x5 x6).below hb
  clear hb hd hW1 xl x0 x1 x2 x3 x4 x5 x6
  cases h5 : nmB gs
  · have hno : Hid (aclB u g o us gs r m = false) := aclB_gs h5
    go_wp2
    go_ret
    exact ⟨ret_boolW hno.out.symm, hW2.out⟩
  obtain ⟨xl, x0, x1, x2, x3, x4, x5, x6⟩ := hX2
  obtain ⟨t1, t2⟩ := HT.out h4 h5
  cases r with
  | true =>
    have hyes : Hid (aclB u g o us gs true m = true) := t1
    clear t1 t2 HT h0 h1 h2 h3 h4 h5
    go_wp2
    go_ret
    exact ⟨ret_boolW hyes.out.symm, hW2.out⟩
  | false =>
    have hyes : Hid (aclB u g o us gs false m = (m == 0 && (lu == 0 && lg == 0))) := t2
    clear t1 t2 HT h0 h1 h2 h3 h4 h5
    by_cases hm : m = 0
    · subst hm
      by_cases hz : lu = 0
      · subst hz
        by_cases hz2 : lg = 0
        · subst hz2
          have hy : Hid (aclB u g o us gs false 0 = true) := (by show _ = _; rw [hyes.out]; rfl)
          clear hyes
          go_wp2
          go_ret
          exact ⟨ret_boolW hy.out.symm, hW2.out⟩
        · have hy : Hid (aclB u g o us gs false 0 = false) := (by show _ = _; rw [hyes.out]; simp [hz2])
          have d : ((lg : Int) == 0) = false := by simp; omega
          clear hyes hz2
          go_wp2
          go_ret
          exact ⟨ret_boolW hy.out.symm, hW2.out⟩
      · have hy : Hid (aclB u g o us gs false 0 = false) := (by show _ = _; rw [hyes.out]; simp [hz])
        have d : ((lu : Int) == 0) = false := beq_eq_false_iff_ne.2 (by omega)
        clear hyes hz
        go_wp2
        go_ret
        exact ⟨ret_boolW hy.out.symm, hW2.out⟩
    · have hno : Hid (aclB u g o us gs false m = false) := (by show _ = _; rw [hyes.out]; simp [hm])
      have hm2 : (m == 0) = false := by simp [hm]
      clear hm hyes
      go_wp2
      go_ret
      exact ⟨ret_boolW hno.out.symm, hW2.out⟩
theorem iTime_any (n : Int) (w : World) :
    Calls Tryz.prog 36 #[.int .i64 n] w fun e w' => e = .returned (.bool (inR 0 1000000 n)) ∧ w' = w := by
  go_enter Tryz.func36, Tryz.ntmps36
  go_wp2
  · go_ret
    exact ⟨ret_boolW (by simp [inR, *]), rfl⟩
  · go_ret
    exact ⟨ret_boolW (by have h : ¬ 0 ≤ n := by omega
                         simp [inR, h]), rfl⟩
theorem iNumAt_any (k : Nat) (hk : k ≤ 1048576) (w : World) :
    Calls Tryz.prog 38 #[.int .i64 k] w fun e w' => e = .returned (.int .i64 ((k : Int) + 1)) ∧ w' = w := by
  go_enter Tryz.func38, Tryz.ntmps38
  go_wp2
  go_ret
  exact ⟨rfl, rfl⟩
set_option maxHeartbeats 2000000 in
theorem eqE_nil (a b : Option Addr) (n c d : Nat) (hn : n ≤ 9223372036854775807) (w : World) :
    Calls Tryz.prog 80 #[.slice a n c, .slice b 0 d] w fun e w' => e = .returned (.bool (n == 0)) ∧ w' = w := by
  by_cases h : n = 0
  · subst h
    go_enter Tryz.func80, Tryz.ntmps80
    go_wp2
    go_rounds 1
    go_ret
    exact ⟨rfl, rfl⟩
  · have e : Hid ((n == 0) = false) := (by show _ = _; simp [h])
    have e2 : ((n : Int) == 0) = false := by rw [beq_eq_false_iff_ne]; omega
    have e3 : ((n : Int) != 0) = true := by rw [bne, e2]; rfl
    clear h
    go_enter Tryz.func80, Tryz.ntmps80
    go_wp2
    go_ret
    exact ⟨ret_boolW e.out.symm, rfl⟩
set_option maxHeartbeats 2000000 in
theorem eqN_nil (a b : Option Addr) (n c d : Nat) (hn : n ≤ 9223372036854775807) (w : World) :
    Calls Tryz.prog 92 #[.slice a n c, .slice b 0 d] w fun e w' => e = .returned (.bool (n == 0)) ∧ w' = w := by
  by_cases h : n = 0
  · subst h
    go_enter Tryz.func92, Tryz.ntmps92
    go_wp2
    go_rounds 1
    go_ret
    exact ⟨rfl, rfl⟩
  · have e : Hid ((n == 0) = false) := (by show _ = _; simp [h])
    have e2 : ((n : Int) == 0) = false := by rw [beq_eq_false_iff_ne]; omega
    have e3 : ((n : Int) != 0) = true := by rw [bne, e2]; rfl
    clear h
    go_enter Tryz.func92, Tryz.ntmps92
    go_wp2
    go_ret
    exact ⟨ret_boolW e.out.symm, rfl⟩
set_option maxHeartbeats 8000000 in
/-- impl.sameLists, of a list and the zero one. -/
theorem iSameL0_any (A : Al) (aU : Option Addr) (cU : Nat) (aG : Option Addr) (cG : Nat) (h1 : A.us.length ≤ 1048576) (h2 : A.gs.length ≤ 1048576) (w : World) :
    Calls Tryz.prog 79 #[.agg #[.int .i64 A.u, .int .i64 A.g, .int .i64 A.o, .slice aU A.us.length cU, .slice aG A.gs.length cG, .bool A.r, .int .i64 A.m], .agg #[.int .i64 0, .int .i64 0, .int .i64 0, .slice none 0 0, .slice none 0 0, .bool false, .int .i64 0]] w fun e w' => e = .returned (.bool A.E) ∧ Below w.heap.size w w' := by
  have HE : Hid (A.E = (A.u == 0 && (A.g == 0 && (A.o == 0 && (A.m == 0 && (!A.r && (A.us.length == 0 && A.gs.length == 0))))))) := rfl
  have H1 : Hid (∀ w, Calls Tryz.prog 92 #[.slice aU A.us.length cU, .slice none 0 0] w fun e w' => e = .returned (.bool (A.us.length == 0)) ∧ w' = w) := (fun w => eqN_nil _ _ _ _ _ (by omega) w)
  have H2 : Hid (∀ w, Calls Tryz.prog 92 #[.slice aG A.gs.length cG, .slice none 0 0] w fun e w' => e = .returned (.bool (A.gs.length == 0)) ∧ w' = w) := (fun w => eqN_nil _ _ _ _ _ (by omega) w)
  go_enter Tryz.func79, Tryz.ntmps79
  go_wp2_with (first | (go_at_call_of 92 (Value.slice aU A.us.length cU); refine (H1.out _).mono ?_; rintro e w1 ⟨rfl, rfl⟩) | (go_at_call_of 92 (Value.slice aG A.gs.length cG); refine (H2.out _).mono ?_; rintro e w1 ⟨rfl, rfl⟩))
  all_goals go_ret
  all_goals (refine ⟨ret_boolW ?_, bl2T _ _ _⟩; rw [HE.out]; first | (simp [*]; done) | (simp only [bne_iff_ne, ne_eq, bne_eq_false_iff_eq] at *; simp [*]; done) | (simp only [Bool.not_eq_false', Bool.not_eq_true'] at *; simp [*]))
set_option maxHeartbeats 8000000 in
theorem iNoDir_any (x : Nd) (y : Na) (hf : NdFit 1048576 x) (w : World) :
    Calls Tryz.prog 62 #[.agg (ndV x y).toArray] w fun e w' => e = .returned (.bool x.bare) ∧ Below w.heap.size w w' := by
  have HK : Hid (NdFit 1048576 x) := hf
  have HE : Hid (x.bare = (!x.sh && (x.D.E && (x.up == 0 && ((x.ns.length : Int) == 0))))) := (by show _ = _; rw [int_zero]; rfl)
  clear hf
  have HB : Hid (Below w.heap.size w (w.alloc (.cells (ndV x y).toArray 31))) := bel_alloc _ _
  have HX : Hid (BoxR (w.alloc (.cells (ndV x y).toArray 31)) w.heap.size (ndV x y)) := boxR_new _ _ _
  go_enter Tryz.func62, Tryz.ntmps62
  go_upto_region 1 with fail
  generalize (w.alloc (.cells (ndV x y).toArray 31)) = w0 at HB HX ⊢
  obtain ⟨X, hX⟩ : ∃ X, X = w.heap.size := ⟨_, rfl⟩
  rw [← hX] at HX ⊢
  clear hX
  have e11 := NB.c11 HX.out
  have e12 := NB.c12 HX.out
  have e13 := NB.c13 HX.out
  have e14 := NB.c14 HX.out
  have e15 := NB.c15 HX.out
  have e16 := NB.c16 HX.out
  have e17 := NB.c17 HX.out
  have e18 := NB.c18 HX.out
  have e20 := NB.c20 HX.out
  have e22 := NB.c22 HX.out
  go_wp2_with ((go_at_call 79; refine (iSameL0_any x.D _ _ _ _ HK.out.du HK.out.dg _).mono ?_; rintro e w1 ⟨rfl, hb⟩; replace HB : Hid (Below w.heap.size w w1) := Below.on HB.out hb; replace HX : Hid (BoxR w1 X (ndV x y)) := HX.out.below hb; clear hb; replace e11 := NB.c11 HX.out; replace e12 := NB.c12 HX.out; replace e13 := NB.c13 HX.out; replace e14 := NB.c14 HX.out; replace e15 := NB.c15 HX.out; replace e16 := NB.c16 HX.out; replace e17 := NB.c17 HX.out; replace e18 := NB.c18 HX.out; replace e20 := NB.c20 HX.out; replace e22 := NB.c22 HX.out))
  all_goals go_ret
  all_goals (refine ⟨ret_boolW ?_, HB.out⟩; rw [HE.out]; first | (simp [*]; done) | (simp only [bne_iff_ne, ne_eq, bne_eq_false_iff_eq] at *; simp [*]; done) | (simp only [Bool.not_eq_false', Bool.not_eq_true'] at *; simp [*]))
set_option maxHeartbeats 8000000 in
theorem iDefault_any (x : Nd) (y : Na) (hf : NdFit 1048576 x) (w : World) (hi : NdIn w x y) :
    Calls Tryz.prog 84 #[.agg (ndV x y).toArray] w fun e w' => e = .returned (.bool x.dB) ∧ Below w.heap.size w w' := by
  have HK : Hid (NdFit 1048576 x) := hf
  have HM : Hid (NdIn w x y) := hi
  have HE : Hid (x.dB = (if x.sh then aclB x.D.u x.D.g x.D.o x.D.us x.D.gs x.D.r x.D.m else x.D.E)) := rfl
  clear hf hi
  have HB : Hid (Below w.heap.size w (w.alloc (.cells (ndV x y).toArray 31))) := bel_alloc _ _
  have HX : Hid (BoxR (w.alloc (.cells (ndV x y).toArray 31)) w.heap.size (ndV x y)) := boxR_new _ _ _
  go_enter Tryz.func84, Tryz.ntmps84
  go_upto_region 1 with fail
  generalize (w.alloc (.cells (ndV x y).toArray 31)) = w0 at HB HX ⊢
  obtain ⟨X, hX⟩ : ∃ X, X = w.heap.size := ⟨_, rfl⟩
  rw [← hX] at HX ⊢
  clear hX
  have e11 := NB.c11 HX.out
  have e12 := NB.c12 HX.out
  have e13 := NB.c13 HX.out
  have e14 := NB.c14 HX.out
  have e15 := NB.c15 HX.out
  have e16 := NB.c16 HX.out
  have e17 := NB.c17 HX.out
  have e18 := NB.c18 HX.out
  have e20 := NB.c20 HX.out
  have e22 := NB.c22 HX.out
  go_wp2_with (first
    | (go_at_call 79; refine (iSameL0_any x.D _ _ _ _ HK.out.du HK.out.dg _).mono ?_; rintro e w1 ⟨rfl, hb⟩; replace HB : Hid (Below w.heap.size w w1) := Below.on HB.out hb; replace HX : Hid (BoxR w1 X (ndV x y)) := HX.out.below hb; clear hb; replace e11 := NB.c11 HX.out; replace e12 := NB.c12 HX.out; replace e13 := NB.c13 HX.out; replace e14 := NB.c14 HX.out; replace e15 := NB.c15 HX.out; replace e16 := NB.c16 HX.out; replace e17 := NB.c17 HX.out; replace e18 := NB.c18 HX.out; replace e20 := NB.c20 HX.out; replace e22 := NB.c22 HX.out)
    | (go_at_call 82; refine (iAclRight_any x.D.u x.D.g x.D.o _ _ _ _ _ _ x.D.r x.D.m x.D.us x.D.gs _ (HM.out.dU.below HB.out) (HM.out.dG.below HB.out)).mono ?_; rintro e w1 ⟨rfl, hb⟩; replace HB : Hid (Below w.heap.size w w1) := Below.on HB.out hb; replace HX : Hid (BoxR w1 X (ndV x y)) := HX.out.below hb; clear hb; replace e11 := NB.c11 HX.out; replace e12 := NB.c12 HX.out; replace e13 := NB.c13 HX.out; replace e14 := NB.c14 HX.out; replace e15 := NB.c15 HX.out; replace e16 := NB.c16 HX.out; replace e17 := NB.c17 HX.out; replace e18 := NB.c18 HX.out; replace e20 := NB.c20 HX.out; replace e22 := NB.c22 HX.out))
  all_goals go_ret
  all_goals (refine ⟨ret_boolW ?_, HB.out⟩; rw [HE.out]; first | (simp [*]; done) | (simp only [bne_iff_ne, ne_eq, bne_eq_false_iff_eq] at *; simp [*]; done) | (simp only [Bool.not_eq_false', Bool.not_eq_true'] at *; simp [*]))
set_option maxHeartbeats 8000000 in
/-- timesNaming. -/
theorem iTimes_any (x : Nd) (y : Na) (n : Int) (hf : x.ns.length ≤ 1048576) (w : World) (hi : Ens y.nA x.ns.length x.ns w) :
    Calls Tryz.prog 99 #[.agg (ndV x y).toArray, .int .i64 n] w fun e w' => e = .returned (.int .i64 (cntE x.ns n x.ns.length)) ∧ Below w.heap.size w w' := by
  have HM : Hid (Ens y.nA x.ns.length x.ns w) := hi
  clear hi
  have HB : Hid (Below w.heap.size w (w.alloc (.cells (ndV x y).toArray 31))) := bel_alloc _ _
  have HX : Hid (BoxR (w.alloc (.cells (ndV x y).toArray 31)) w.heap.size (ndV x y)) := boxR_new _ _ _
  go_enter Tryz.func99, Tryz.ntmps99
  go_upto_region 1 with fail
  generalize (w.alloc (.cells (ndV x y).toArray 31)) = w0 at HB HX ⊢
  obtain ⟨X, hX⟩ : ∃ X, X = w.heap.size := ⟨_, rfl⟩
  rw [← hX] at HX ⊢
  clear hX
  have e22 := NB.c22 HX.out
  have HQ : Hid (Ens y.nA x.ns.length x.ns w0) := HM.out.below HB.out
  clear HM HX
  go_wp2
  go_loopw [11, 5] (fun i c wr => ∃ m : Nat, m ≤ x.ns.length ∧ i = .int .i64 m ∧ c = .int .i64 (cntE x.ns n m) ∧ Hid (Below w0.heap.size w0 wr)) (fun i _ _ => x.ns.length - (intOf i).toNat)
  case atStart => exact ⟨0, Nat.zero_le _, rfl, rfl, Below.refl _ _⟩
  case round =>
    obtain ⟨m, hm, rfl, rfl, hB⟩ := hrel
    have hcb := cntE_b x.ns n m
    by_cases hml : m < x.ns.length
    · obtain ⟨b2, off2, hbe, hb2, hc2⟩ := (HQ.out.below hB.out).2 (by omega)
      rw [hbe] at e22 ⊢
      have hml' : (m : Int) < (x.ns.length : Int) := by omega
      have g0 := (hc2 m hml).1
      have g1 := (hc2 m hml).2
      have HS2 : Hid (cntE x.ns n (m + 1) = cntE x.ns n m + (if noAt x.ns m == n then 1 else 0)) := rfl
      clear hc2 hbe e22
      generalize noAt x.ns m = v at g1 HS2
      generalize nmAt x.ns m = nm at g0
      generalize cntE x.ns n m = z at hcb HS2 ⊢
      by_cases e : v = n
      · have e2 : (v == n) = true := by simp [e]
        rw [e2] at HS2
        clear e
        go_wp2
        go_roundw
        case rel => exact ⟨m + 1, by omega, by go_num, by rw [HS2.out]; simp, Below.on hB.out (bel_alloc _ _)⟩
        case measure => simp [intOf]; omega
      · have e2 : (v == n) = false := by simp [e]
        rw [e2] at HS2
        clear e
        go_wp2
        go_roundw
        case rel => exact ⟨m + 1, by omega, by go_num, by rw [HS2.out]; simp, Below.on hB.out (bel_alloc _ _)⟩
        case measure => simp [intOf]; omega
    · have : m = x.ns.length := by omega
      subst this
      go_wp2
      go_ret
      exact ⟨rfl, Below.on HB.out hB.out⟩
end Go.Proofs.YtgodbelcddgdmaaGreat
