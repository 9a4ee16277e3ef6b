/- Laid together: NamedRight, AclRight, ModeOf, MaskOf. -/
import Derived.Test.YtedahdncincgjaaGreatDoorNX9
import Derived.Lib.QuietBelow
import Derived.Test.YtedahdncincgjaaGreatDoorNX6
/- impl.namedRight and spec.l03Named: at most six, rising. -/
namespace Go.Proofs.YtedahdncincgjaaGreatDoor
open Go.RowKit Go.PlainAid
set_option linter.unusedVariables false
theorem below_drewM {B : Nat} {w w' : World} (h : Below B w w') (n : Nat) : Below B w (w'.drewN n) := h.trans ⟨rfl, rfl, rfl, Nat.le_refl _, fun _ _ => rfl⟩
theorem pair_new (w : World) (v0 v1 : Value) (t : TypeId) : (w.alloc (.cells #[v0, v1] t)).cell? ⟨w.heap.size, 0, none⟩ = some v0 ∧ (w.alloc (.cells #[v0, v1] t)).cell? ⟨w.heap.size, 1, none⟩ = some v1 := by
  have hb : (w.alloc (.cells #[v0, v1] t)).heap[w.heap.size]? = some (.cells #[v0, v1] t) := by
    rw [World.alloc]
    exact Array.getElem?_push_size
  refine ⟨?_, ?_⟩ <;> (simp only [World.cell?, hb]; rfl)
set_option maxHeartbeats 1000000 in
theorem sNamed_none (a : Option Addr) (cap : Nat) (w : World) :
    Calls Tryz.prog 104 #[.slice a 0 cap] w fun e w' => e = .returned (.bool true) ∧ w' = w := by
  go_enter Tryz.func104, Tryz.ntmps104
  go_wp2
  go_rounds 1
  go_ret
  exact ⟨rfl, rfl⟩
theorem nm_end {l : List (Int × Int)} (h : nmRises l l.length = true) : decide ((l.length : Int) ≤ 6) = nmB l := by
  by_cases e : l.length ≤ 6
  · have : (l.length : Int) ≤ 6 := by omega
    simp [nmB, h, e, this]
  · have : ¬ (l.length : Int) ≤ 6 := by omega
    simp [nmB, h, e, this]
set_option maxHeartbeats 4000000 in
theorem sNamed_some (b off cap : Nat) (l : List (Int × Int)) (hl : l.length ≤ 1048576) (w : World) (hb : b < w.heap.size) (hc : ∀ i, i < l.length → w.cell? ⟨b, off + i * 2, none⟩ = some (.int .i64 (idAt l i)) ∧ w.cell? ⟨b, off + i * 2 + 1, none⟩ = some (.int .i64 (btAt l i))) :
    Calls Tryz.prog 104 #[.slice (some ⟨b, off, none⟩) l.length cap] w fun e w' => e = .returned (.bool (nmB l)) ∧ Below w.heap.size w w' := by
  have HC : Hid (∀ i, i < l.length → w.cell? ⟨b, off + i * 2, none⟩ = some (.int .i64 (idAt l i)) ∧ w.cell? ⟨b, off + i * 2 + 1, none⟩ = some (.int .i64 (btAt l i))) := hc
  have HN : Hid (∀ k, k < l.length → okN l k = false → nmB l = false) := (fun k => nm_no)
  have HY : Hid (nmRises l l.length = true → decide ((l.length : Int) ≤ 6) = nmB l) := nm_end
  clear hc
  generalize hlen : l.length = len at hl HC HN HY ⊢
  clear hlen
  go_enter Tryz.func104, Tryz.ntmps104
  go_wp2
  go_loopw [3] (fun i wr => ∃ k : Nat, k ≤ len ∧ i = .int .i64 k ∧ Hid (nmRises l k = true) ∧ Hid (Below w.heap.size w wr)) (fun i _ => len - (intOf i).toNat)
  case atStart => exact ⟨0, Nat.zero_le _, rfl, rfl, Below.refl _ _⟩
  case round =>
    obtain ⟨k, hk, rfl, hto, hB⟩ := hrel
    by_cases hlt : k < len
    · have hlt' : (k : Int) < (len : Int) := by omega
      have g0 : wr.cell? ⟨b, off + k * 2, none⟩ = some (.int .i64 (idAt l k)) := (hB.out.cell (p := ⟨b, off + k * 2, none⟩) hb).trans (HC.out k hlt).1
      have g1 : wr.cell? ⟨b, off + k * 2 + 1, none⟩ = some (.int .i64 (btAt l k)) := (hB.out.cell (p := ⟨b, off + k * 2 + 1, none⟩) hb).trans (HC.out k hlt).2
      cases hid : inR 0 9999 (idAt l k)
      · have hno : Hid (nmB l = false) := HN.out k hlt (okN_id hid)
        go_wp2
        go_quiet ((first | (go_at_call 74; exact Calls.quiet_of_same (sId_any _ _)) | (go_at_call 103; exact Calls.quiet_of_same (sBits_any _ _))))
        go_wp2
        go_ret
        exact ⟨ret_boolW hno.out.symm, below_drewM hB.out _⟩
      · cases hbt : inR 0 7 (btAt l k)
        · have hno : Hid (nmB l = false) := HN.out k hlt (okN_bt hbt)
          go_wp2
          go_quiet ((first | (go_at_call 74; exact Calls.quiet_of_same (sId_any _ _)) | (go_at_call 103; exact Calls.quiet_of_same (sBits_any _ _))))
          go_wp2
          go_ret
          exact ⟨ret_boolW hno.out.symm, below_drewM hB.out _⟩
        · cases k with
          | zero =>
            have hok : Hid (okN l 0 = true) := okN_first hid hbt
            simp only [Nat.zero_mul, Nat.add_zero] at g0 g1
            go_wp2
            go_quiet ((first | (go_at_call 74; exact Calls.quiet_of_same (sId_any _ _)) | (go_at_call 103; exact Calls.quiet_of_same (sBits_any _ _))))
            go_wp2
            go_roundw
            case rel => exact ⟨1, by omega, by go_num, nmRises_next hto.out hok.out, below_drewM hB.out _⟩
            case measure => simp [intOf]; omega
          | succ j =>
            have hj' : (j : Int) < (len : Int) := by omega
            have hj2 : (j : Int) + 1 < (len : Int) := by omega
            have hj0 : (0 : Int) < (j : Int) + 1 := by omega
            have hj3 : (j : Int) + 1 - 1 = (j : Int) := by omega
            have gp : wr.cell? ⟨b, off + j * 2, none⟩ = some (.int .i64 (idAt l j)) := (hB.out.cell (p := ⟨b, off + j * 2, none⟩) hb).trans (HC.out j (by omega)).1
            by_cases hup : idAt l j < idAt l (j + 1)
            · have hok : Hid (okN l (j + 1) = true) := okN_up hid hbt hup
              have dd : decide (idAt l (j + 1) ≤ idAt l j) = false := by simp; omega
              go_wp2
              go_quiet ((first | (go_at_call 74; exact Calls.quiet_of_same (sId_any _ _)) | (go_at_call 103; exact Calls.quiet_of_same (sBits_any _ _))))
              go_wp2
              go_roundw
              case rel => exact ⟨j + 1 + 1, by omega, by go_num, nmRises_next hto.out hok.out, below_drewM hB.out _⟩
              case measure => simp [intOf]; omega
            · have hno : Hid (nmB l = false) := HN.out (j + 1) hlt (okN_down hup)
              have dd : idAt l (j + 1) ≤ idAt l j := by omega
              clear hup
              go_wp2
              go_quiet ((first | (go_at_call 74; exact Calls.quiet_of_same (sId_any _ _)) | (go_at_call 103; exact Calls.quiet_of_same (sBits_any _ _))))
              go_wp2
              go_ret
              exact ⟨ret_boolW hno.out.symm, below_drewM hB.out _⟩
    · have : k = len := by omega
      subst this
      have hyes : Hid (decide ((k : Int) ≤ 6) = nmB l) := HY.out hto.out
      go_wp2
      go_ret
      exact ⟨ret_boolW hyes.out, hB.out⟩
/-- spec.l03Named. -/
theorem sNamed_any (a : Option Addr) (len cap : Nat) (l : List (Int × Int)) (hl : len ≤ 1048576) (w : World) (hi : Prs a len l w) :
    Calls Tryz.prog 104 #[.slice a len cap] w fun e w' => e = .returned (.bool (nmB l)) ∧ Below w.heap.size w w' := by
  obtain ⟨hln, hp⟩ := hi
  subst hln
  by_cases h0 : l.length = 0
  · have e : nmB l = true := nm_yes (by omega) (by rw [h0]; rfl)
    rw [e, h0]
    refine (sNamed_none a cap w).mono ?_
    rintro e w' ⟨rfl, rfl⟩
    exact ⟨rfl, Below.refl _ _⟩
  · obtain ⟨b, off, rfl, hlt, hc⟩ := hp (by omega)
    exact sNamed_some b off cap l hl w hlt hc
theorem aclB_u {u g o : Int} {us gs : List (Int × Int)} {r : Bool} {m : Int} (h : inR 0 7 u = false) : aclB u g o us gs r m = false := by simp [aclB, h]
theorem aclB_g {u g o : Int} {us gs : List (Int × Int)} {r : Bool} {m : Int} (h : inR 0 7 g = false) : aclB u g o us gs r m = false := by simp [aclB, h]
theorem aclB_o {u g o : Int} {us gs : List (Int × Int)} {r : Bool} {m : Int} (h : inR 0 7 o = false) : aclB u g o us gs r m = false := by simp [aclB, h]
theorem aclB_m {u g o : Int} {us gs : List (Int × Int)} {r : Bool} {m : Int} (h : inR 0 7 m = false) : aclB u g o us gs r m = false := by simp [aclB, h]
theorem aclB_us {u g o : Int} {us gs : List (Int × Int)} {r : Bool} {m : Int} (h : nmB us = false) : aclB u g o us gs r m = false := by simp [aclB, h]
theorem aclB_gs {u g o : Int} {us gs : List (Int × Int)} {r : Bool} {m : Int} (h : nmB gs = false) : aclB u g o us gs r m = false := by simp [aclB, h]
theorem aclB_r {u g o : Int} {us gs : List (Int × Int)} {m : Int} (h0 : inR 0 7 u = true) (h1 : inR 0 7 g = true) (h2 : inR 0 7 o = true) (h3 : inR 0 7 m = true) (h4 : nmB us = true) (h5 : nmB gs = true) : aclB u g o us gs true m = true := by simp [aclB, *]
theorem aclB_f {u g o : Int} {us gs : List (Int × Int)} {m : Int} (h0 : inR 0 7 u = true) (h1 : inR 0 7 g = true) (h2 : inR 0 7 o = true) (h3 : inR 0 7 m = true) (h4 : nmB us = true) (h5 : nmB gs = true) : aclB u g o us gs false m = (m == 0 && (us.length == 0 && gs.length == 0)) := by simp [aclB, *]
set_option maxHeartbeats 4000000 in
/-- spec.AclRight. -/
theorem sAclRight_any (u g o : Int) (au : Option Addr) (lu cu : Nat) (ag : Option Addr) (lg cg : Nat) (r : Bool) (m : Int) (us gs : List (Int × Int)) (hlu : lu ≤ 1048576) (hlg : lg ≤ 1048576) (w : World) (hu : Prs au lu us w) (hg : Prs ag lg gs w) :
    Calls Tryz.prog 87 #[.agg #[.int .i64 u, .int .i64 g, .int .i64 o, .slice au lu cu, .slice ag lg cg, .bool r, .int .i64 m]] w fun e w' => e = .returned (.bool (aclB u g o us gs r m)) ∧ Below w.heap.size w w' := by
  have e1 := hu.1
  have e2 := hg.1
  have hc : Hid (∀ w', Below w.heap.size w w' → Calls Tryz.prog 104 #[.slice au lu cu] w' fun e w'' => e = .returned (.bool (nmB us)) ∧ Below w'.heap.size w' w'') := (fun w' hb => sNamed_any au lu cu us hlu w' (hu.below hb))
  have hd : Hid (∀ w', Below w.heap.size w w' → Calls Tryz.prog 104 #[.slice ag lg cg] w' fun e w'' => e = .returned (.bool (nmB gs)) ∧ Below w'.heap.size w' w'') := (fun w' hb => sNamed_any ag lg cg gs hlg w' (hg.below hb))
  clear hu hg
  cases h0 : inR 0 7 u
  · have hno : Hid (aclB u g o us gs r m = false) := aclB_u h0
    go_enter Tryz.func87, Tryz.ntmps87
    go_wp2_with (go_at_call 103; refine (sBits_any _ _).mono ?_; rintro e w' ⟨rfl, rfl⟩)
    go_ret
    exact ⟨ret_boolW hno.out.symm, bel_alloc _ _⟩
  cases h1 : inR 0 7 g
  · have hno : Hid (aclB u g o us gs r m = false) := aclB_g h1
    go_enter Tryz.func87, Tryz.ntmps87
    go_wp2_with (go_at_call 103; refine (sBits_any _ _).mono ?_; rintro e w' ⟨rfl, rfl⟩)
    go_ret
    exact ⟨ret_boolW hno.out.symm, bel_alloc _ _⟩
  cases h2 : inR 0 7 o
  · have hno : Hid (aclB u g o us gs r m = false) := aclB_o h2
    go_enter Tryz.func87, Tryz.ntmps87
    go_wp2_with (go_at_call 103; refine (sBits_any _ _).mono ?_; rintro e w' ⟨rfl, rfl⟩)
    go_ret
    exact ⟨ret_boolW hno.out.symm, bel_alloc _ _⟩
  cases h3 : inR 0 7 m
  · have hno : Hid (aclB u g o us gs r m = false) := aclB_m h3
    go_enter Tryz.func87, Tryz.ntmps87
    go_wp2_with (go_at_call 103; refine (sBits_any _ _).mono ?_; rintro e w' ⟨rfl, rfl⟩)
    go_ret
    exact ⟨ret_boolW hno.out.symm, bel_alloc _ _⟩
  have HT : Hid (nmB us = true → nmB gs = true → aclB u g o us gs true m = true ∧ aclB u g o us gs false m = (m == 0 && (lu == 0 && lg == 0))) := (fun h4 h5 => ⟨aclB_r h0 h1 h2 h3 h4 h5, by rw [← e1, ← e2]; exact aclB_f h0 h1 h2 h3 h4 h5⟩)
  clear e1 e2
  go_enter Tryz.func87, Tryz.ntmps87
  go_wp2_with (go_at_call 103; refine (sBits_any _ _).mono ?_; rintro e w' ⟨rfl, rfl⟩)
  refine (hc.out _ (bel_alloc _ _)).mono ?_
  rintro e w1 ⟨rfl, hb⟩
  have hW1 : Hid (Below w.heap.size w w1) := Below.on (bel_alloc _ _) hb
  have hX := (box7_new w (.int .i64 u) (.int .i64 g) (.int .i64 o) (.slice au lu cu) (.slice ag lg cg) (.bool r) (.int .i64 m) 83).below hb
  clear hb hc
  cases h4 : nmB us
  · have hno : Hid (aclB u g o us gs r m = false) := aclB_us h4
    go_wp2
    go_ret
    exact ⟨ret_boolW hno.out.symm, hW1.out⟩
  obtain ⟨xl, x0, x1, x2, x3, x4, x5, x6⟩ := hX
  go_wp2_with fail
  refine (hd.out _ hW1.out).mono ?_
  rintro e w2 ⟨rfl, hb⟩
  have hW2 : Hid (Below w.heap.size w w2) := Below.on hW1.out hb
  have hX2 := (Box7.mk xl x0 x1 x2 x3 x4 x5 x6).below hb
  clear hb hd hW1 xl x0 x1 x2 x3 x4 x5 x6
  cases h5 : nmB gs
  · have hno : Hid (aclB u g o us gs r m = false) := aclB_gs h5
    go_wp2
    go_ret
    exact ⟨ret_boolW hno.out.symm, hW2.out⟩
  obtain ⟨xl, x0, x1, x2, x3, x4, x5, x6⟩ := hX2
  obtain ⟨t1, t2⟩ := HT.out h4 h5
  cases r with
  | true =>
    have hyes : Hid (aclB u g o us gs true m = true) := t1
    clear t1 t2 HT h0 h1 h2 h3 h4 h5
    go_wp2
    go_ret
    exact ⟨ret_boolW hyes.out.symm, hW2.out⟩
  | false =>
    have hyes : Hid (aclB u g o us gs false m = (m == 0 && (lu == 0 && lg == 0))) := t2
    clear t1 t2 HT h0 h1 h2 h3 h4 h5
    by_cases hm : m = 0
    · subst hm
      by_cases hz : lu = 0
      · subst hz
        by_cases hz2 : lg = 0
        · subst hz2
          have hy : Hid (aclB u g o us gs false 0 = true) := (by show _ = _; rw [hyes.out]; rfl)
          clear hyes
          go_wp2
          go_ret
          exact ⟨ret_boolW hy.out.symm, hW2.out⟩
        · have hy : Hid (aclB u g o us gs false 0 = false) := (by show _ = _; rw [hyes.out]; simp [hz2])
          have d : ((lg : Int) == 0) = false := by simp; omega
          clear hyes hz2
          go_wp2
          go_ret
          exact ⟨ret_boolW hy.out.symm, hW2.out⟩
      · have hy : Hid (aclB u g o us gs false 0 = false) := (by show _ = _; rw [hyes.out]; simp [hz])
        have d : ((lu : Int) == 0) = false := beq_eq_false_iff_ne.2 (by omega)
        clear hyes hz
        go_wp2
        go_ret
        exact ⟨ret_boolW hy.out.symm, hW2.out⟩
    · have hno : Hid (aclB u g o us gs false m = false) := (by show _ = _; rw [hyes.out]; simp [hm])
      have hm2 : (m == 0) = false := by simp [hm]
      clear hm hyes
      go_wp2
      go_ret
      exact ⟨ret_boolW hno.out.symm, hW2.out⟩
/-- The group class. -/
def clsOf (g : Int) (r : Bool) (m : Int) : Int := if r then m else g
set_option maxHeartbeats 1000000 in
/-- spec.l03Class. -/
theorem sClass_any (u g o : Int) (au : Option Addr) (lu cu : Nat) (ag : Option Addr) (lg cg : Nat) (r : Bool) (m : Int) (w : World) :
    Calls Tryz.prog 107 #[.agg #[.int .i64 u, .int .i64 g, .int .i64 o, .slice au lu cu, .slice ag lg cg, .bool r, .int .i64 m]] w fun e w' => e = .returned (.int .i64 (clsOf g r m)) ∧ Below w.heap.size w w' := by
  cases r <;>
  · go_enter Tryz.func107, Tryz.ntmps107
    go_wp2
    go_ret
    exact ⟨rfl, bel_alloc _ _⟩
theorem aclB_parts {u g o : Int} {us gs : List (Int × Int)} {r : Bool} {m : Int} (h : aclB u g o us gs r m = true) : (0 ≤ u ∧ u ≤ 7) ∧ (0 ≤ g ∧ g ≤ 7) ∧ (0 ≤ o ∧ o ≤ 7) ∧ (0 ≤ m ∧ m ≤ 7) ∧ nmB us = true ∧ nmB gs = true := by
  unfold aclB at h
  simp only [Bool.and_eq_true] at h
  exact ⟨inR_iff.1 h.1, inR_iff.1 h.2.1, inR_iff.1 h.2.2.1, inR_iff.1 h.2.2.2.1, h.2.2.2.2.1, h.2.2.2.2.2.1⟩
theorem clsOf_in {u g o : Int} {us gs : List (Int × Int)} {r : Bool} {m : Int} (h : aclB u g o us gs r m = true) : 0 ≤ clsOf g r m ∧ clsOf g r m ≤ 7 := by
  obtain ⟨_, h1, _, h2, _⟩ := aclB_parts h
  cases r
  · exact h1
  · exact h2
theorem ret_intM {a b : Int} (h : a = b) : Ending.returned (.int .i64 a) = .returned (.int .i64 b) := by rw [h]
end Go.Proofs.YtedahdncincgjaaGreatDoor
/- MaskOf, the program's and the specification's: the bits in Group, or in one of Users or Groups. -/
namespace Go.Proofs.YtedahdncincgjaaGreatDoor
open Go.RowKit Go.PlainAid Go.Deep
set_option linter.unusedVariables false
/-- Of two things the first, or the second. -/
def two {α : Type} (x y : α) (j : Nat) : α := if j = 0 then x else y
set_option maxRecDepth 100000 in
set_option maxHeartbeats 4000000 in
/-- spec.l03Mask. -/
theorem sMask_any (u g o : Int) (au : Option Addr) (lu cu : Nat) (ag : Option Addr) (lg cg : Nat) (r : Bool) (m : Int) (us gs : List (Int × Int)) (w : World) (hu : Prs au lu us w) (hg : Prs ag lg gs w) (g0 : 0 ≤ g) (g1 : g ≤ 7) (bu : ∀ k, k < us.length → 0 ≤ btAt us k ∧ btAt us k ≤ 7) (bg : ∀ k, k < gs.length → 0 ≤ btAt gs k ∧ btAt gs k ≤ 7) (hN : lu + lg ≤ 1000000) :
    Calls Tryz.prog 125 #[.agg #[.int .i64 u, .int .i64 g, .int .i64 o, .slice au lu cu, .slice ag lg cg, .bool r, .int .i64 m]] w fun e w' => e = .returned (.int .i64 (maskL g us gs)) ∧ Below w.heap.size w w' := by
  obtain ⟨e1, hu⟩ := hu
  obtain ⟨e2, hg⟩ := hg
  have HU : Hid (0 < lu → ∃ b off, au = some ⟨b, off, none⟩ ∧ b < w.heap.size ∧ ∀ i, i < lu → w.cell? ⟨b, off + i * 2, none⟩ = some (.int .i64 (idAt us i)) ∧ w.cell? ⟨b, off + i * 2 + 1, none⟩ = some (.int .i64 (btAt us i))) := hu
  have HG : Hid (0 < lg → ∃ b off, ag = some ⟨b, off, none⟩ ∧ b < w.heap.size ∧ ∀ i, i < lg → w.cell? ⟨b, off + i * 2, none⟩ = some (.int .i64 (idAt gs i)) ∧ w.cell? ⟨b, off + i * 2 + 1, none⟩ = some (.int .i64 (btAt gs i))) := hg
  have BU : Hid (∀ k, k < lu → 0 ≤ btAt us k ∧ btAt us k ≤ 7) := (by show ∀ k, _; rw [← e1]; exact bu)
  have BG : Hid (∀ k, k < lg → 0 ≤ btAt gs k ∧ btAt gs k ≤ 7) := (by show ∀ k, _; rw [← e2]; exact bg)
  have TU : Hid (∀ k, k ≤ lu → 0 ≤ orTo g us k ∧ orTo g us k ≤ 7) := (by show ∀ k, _; rw [← e1]; exact orTo_in g0 g1 bu)
  have TG : Hid (∀ k, k ≤ lg → 0 ≤ orTo (orTo g us lu) gs k ∧ orTo (orTo g us lu) gs k ≤ 7) := (by
    obtain ⟨t0, t1⟩ := TU.out lu (Nat.le_refl _)
    show ∀ k, _
    rw [← e2]
    exact orTo_in t0 t1 bg)
  have BE : Hid (orTo (orTo g us lu) gs lg = maskL g us gs) := (by show _ = _; rw [← e1, ← e2]; rfl)
  clear hu hg bu bg e1 e2
  generalize maskL g us gs = mm at BE ⊢
  go_enter Tryz.func125, Tryz.ntmps125
  obtain ⟨xl, x0, x1, x2, x3, x4, x5, x6⟩ := box7_new w (.int .i64 u) (.int .i64 g) (.int .i64 o) (.slice au lu cu) (.slice ag lg cg) (.bool r) (.int .i64 m) 83
  have hW1 : Hid (Below w.heap.size w (w.alloc (.cells #[.int .i64 u, .int .i64 g, .int .i64 o, .slice au lu cu, .slice ag lg cg, .bool r, .int .i64 m] 83))) := bel_alloc _ _
  go_wp2
  generalize w.alloc (.cells #[.int .i64 u, .int .i64 g, .int .i64 o, .slice au lu cu, .slice ag lg cg, .bool r, .int .i64 m] 83) = w1 at xl x0 x1 x2 x3 x4 x5 x6 hW1 ⊢
  go_loop [3, 4] (fun s i => ∃ k : Nat, k ≤ lu ∧ i = .int .i64 k ∧ s = .int .i64 (orTo g us k)) (fun _ i => lu - (intOf i).toNat)
  case atStart => exact ⟨0, Nat.zero_le _, rfl, rfl⟩
  case round =>
    obtain ⟨k, hk, rfl, rfl⟩ := hrel
    by_cases hlt : k < lu
    · have hlt' : (k : Int) < (lu : Int) := by omega
      obtain ⟨b, off, rfl, hb, hc⟩ := HU.out (by omega)
      have c1 : w1.cell? ⟨b, off + k * 2 + 1, none⟩ = some (.int .i64 (btAt us k)) := (hW1.out.cell (p := ⟨b, off + k * 2 + 1, none⟩) hb).trans (hc k hlt).2
      obtain ⟨o0, o1⟩ := TU.out k hk
      obtain ⟨b0, b1⟩ := BU.out k hlt
      clear hc
      go_wp2_with fail
      refine (sEither_any (orTo g us k) (btAt us k) o0 (by omega) b0 (by omega) _).mono ?_
      rintro e w2 ⟨rfl, rfl⟩
      go_wp2
      go_round
      case rel => exact ⟨k + 1, by omega, by go_num, rfl⟩
      case measure => simp [intOf]; omega
    · have : k = lu := by omega
      subst this
      go_wp2
      go_loop [3, 5] (fun s i => ∃ j : Nat, j ≤ lg ∧ i = .int .i64 j ∧ s = .int .i64 (orTo (orTo g us k) gs j)) (fun _ i => lg - (intOf i).toNat)
      case atStart => exact ⟨0, Nat.zero_le _, rfl, rfl⟩
      case round =>
        obtain ⟨j, hj, rfl, rfl⟩ := hrel
        by_cases hlt2 : j < lg
        · have hlt' : (j : Int) < (lg : Int) := by omega
          obtain ⟨b, off, rfl, hb, hc⟩ := HG.out (by omega)
          have c1 : w1.cell? ⟨b, off + j * 2 + 1, none⟩ = some (.int .i64 (btAt gs j)) := (hW1.out.cell (p := ⟨b, off + j * 2 + 1, none⟩) hb).trans (hc j hlt2).2
          obtain ⟨o0, o1⟩ := TG.out j hj
          obtain ⟨b0, b1⟩ := BG.out j hlt2
          clear hc
          go_wp2_with fail
          refine (sEither_any (orTo (orTo g us k) gs j) (btAt gs j) o0 (by omega) b0 (by omega) _).mono ?_
          rintro e w2 ⟨rfl, rfl⟩
          go_wp2
          go_round
          case rel => exact ⟨j + 1, by omega, by go_num, rfl⟩
          case measure => simp [intOf]; omega
        · have : j = lg := by omega
          subst this
          go_wp2
          go_ret
          exact ⟨ret_intM BE.out, hW1.out⟩
end Go.Proofs.YtedahdncincgjaaGreatDoor
