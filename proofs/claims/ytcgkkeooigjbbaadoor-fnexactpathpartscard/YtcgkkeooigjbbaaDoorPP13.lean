/- Laid together: HdSt, PathPartsLaw. -/
import Derived.Test.YtcgkkeooigjbbaaDoorPP12
import Derived.Lib.QuietBelow
import Derived.BigQuiet
import Derived.Deep.Cut
import Derived.Test.YtcgkkeooigjbbaaDoorPP8
import Derived.Test.YtcgkkeooigjbbaaDoorPP11
/- laws.heldStringS, eqStringS; marks of a PartsOut. -/
namespace Go.Proofs.YtcgkkeooigjbbaaDoor
open Go.RowKit Go.PlainAid Go.Deep
set_option linter.unusedVariables false
theorem below_drewS {B : Nat} {w w' : World} (h : Below B w w') (n : Nat) : Below B w (w'.drewN n) := h.trans ⟨rfl, rfl, rfl, Nat.le_refl _, fun _ _ => rfl⟩
set_option maxHeartbeats 4000000 in
theorem heldStr_any (a : Option Addr) (len cap k : Nat) (h0 : 0 < k) (h1 : k ≤ 1000000) (hl : len ≤ 1048576) (w : World) (hp : OwnS a len (mkF k) w) :
    Calls Tryd.prog 19 #[.slice a len cap, .int .i64 k] w fun e w' => e = .returned (.int .i64 ((k : Int) + len)) ∧ Below w.heap.size w w' := by
  by_cases hz : len = 0
  · subst hz
    go_enter Tryd.func19, Tryd.ntmps19
    go_wp2
    go_rounds 1
    go_ret
    exact ⟨by simp, Below.refl _ _⟩
  obtain ⟨B, rfl, hB0, hp⟩ := hp (by omega)
  have HP : Hid (SHolds w B (mkF k) len) := hp
  clear hp
  go_enter Tryd.func19, Tryd.ntmps19
  go_wp2
  go_loopw [5, 1] (fun i q wr => ∃ (j : Nat), j ≤ len ∧ i = .int .i64 j ∧ q = .int .i64 ((k : Int) + j) ∧ Hid (Below w.heap.size w wr)) (fun i _ _ => len - (intOf i).toNat)
  case atStart => exact ⟨0, Nat.zero_le _, rfl, by simp, Below.refl _ _⟩
  case round =>
    obtain ⟨j, hj, rfl, rfl, hB⟩ := hrel
    by_cases hlt : j < len
    · have hlt' : (j : Int) < (len : Int) := by omega
      have h0' : (0 : Int) ≤ (j : Int) := by omega
      have HM : Hid (∀ w, Calls Tryd.prog 26 #[.int .i64 ((k : Int) + j)] w fun e w' => e = .returned (.string (mkT (k + j))) ∧ Below w.heap.size w w') := (fun w => by
        have h := markText_any (k + j) (by omega) (by omega) w
        have e : ((k + j : Nat) : Int) = (k : Int) + j := by omega
        rw [e] at h
        exact h)
      have g0 : ∀ d os, (Go.Sort.grow (redrawn wr d) os).cell? ⟨B, j, none⟩ = some (.string (mkT (k + j))) := fun d os => cell_regrown ((hB.out.cell (p := ⟨B, j, none⟩) hB0).trans (HP.out.1 j hlt)) d os
      have cA : ∀ d os, Calls Tryd.prog 26 #[.int .i64 ((k : Int) + j)] (Go.Sort.grow (redrawn wr d) os) fun e w'' => e = .returned (.string (mkT (k + j))) ∧ ∃ p : Regrown, w'' = Go.Sort.grow (redrawn wr p.d) p.os := fun d os => Calls.regrown_of (HM.out _)
      have hmm : ((mkT (k + j)).toList != (mkT (k + j)).toList) = false := by simp
      generalize mkT (k + j) = mt at g0 cA hmm
      clear HM
      go_upto_region 4 with fail
      refine wp_region_quiet_below (by kernel_rfl) (by kernel_rfl) ?_
      repeat (go_big_quiet_step (exact cA _ _))
      refine wpQuiet_nil ?_
      intro _ hw'
      obtain ⟨⟨dq, osq⟩, hw''⟩ := hw'
      subst hw''
      have HB2 : Hid (Below w.heap.size w (Go.Sort.grow (redrawn wr dq) osq)) := Below.on hB.out (below_regrown wr dq osq)
      generalize Go.Sort.grow (redrawn wr dq) osq = w2 at HB2 ⊢
      clear g0 cA hB
      go_wp2
      go_roundw
      case rel => exact ⟨j + 1, by omega, by go_num, by go_num, HB2⟩
      case measure => simp [intOf]; omega
    · have : j = len := by omega
      subst this
      go_wp2
      go_ret
      exact ⟨rfl, hB.out⟩
set_option maxHeartbeats 4000000 in
theorem eqStr_any (a a2 : Option Addr) (len cap cap2 : Nat) (f : Nat → ByteArray) (hl : len ≤ 1048576) (w : World) (hp : OwnS a len f w) (hp2 : OwnS a2 len f w) :
    Calls Tryd.prog 17 #[.slice a len cap, .slice a2 len cap2] w fun e w' => e = .returned (.bool true) ∧ Below w.heap.size w w' := by
  by_cases hz : len = 0
  · subst hz
    go_enter Tryd.func17, Tryd.ntmps17
    go_wp2
    go_rounds 1
    go_ret
    exact ⟨rfl, Below.refl _ _⟩
  obtain ⟨B, rfl, hB0, hp⟩ := hp (by omega)
  obtain ⟨B2, rfl, hB02, hp2⟩ := hp2 (by omega)
  have HP : Hid (SHolds w B f len) := hp
  have HP2 : Hid (SHolds w B2 f len) := hp2
  clear hp hp2
  go_enter Tryd.func17, Tryd.ntmps17
  go_wp2
  go_loopw [5] (fun i wr => ∃ (j : Nat), j ≤ len ∧ i = .int .i64 j ∧ Hid (Below w.heap.size w wr)) (fun i _ => len - (intOf i).toNat)
  case atStart => exact ⟨0, Nat.zero_le _, rfl, Below.refl _ _⟩
  case round =>
    obtain ⟨j, hj, rfl, hB⟩ := hrel
    by_cases hlt : j < len
    · have hlt' : (j : Int) < (len : Int) := by omega
      have h0' : (0 : Int) ≤ (j : Int) := by omega
      have g0 : wr.cell? ⟨B, j, none⟩ = some (.string (f j)) := (hB.out.cell (p := ⟨B, j, none⟩) hB0).trans (HP.out.1 j hlt)
      have g1 : wr.cell? ⟨B2, j, none⟩ = some (.string (f j)) := (hB.out.cell (p := ⟨B2, j, none⟩) hB02).trans (HP2.out.1 j hlt)
      have hmm : ((f j).toList != (f j).toList) = false := by simp
      generalize f j = mt at g0 g1 hmm
      go_wp2
      go_quiet (fail)
      go_wp2
      go_roundw
      case rel => exact ⟨j + 1, by omega, by go_num, below_drewS hB.out _⟩
      case measure => simp [intOf]; omega
    · have : j = len := by omega
      subst this
      go_wp2
      go_ret
      exact ⟨rfl, hB.out⟩
set_option maxHeartbeats 4000000 in
theorem markPO_any (a : Option Addr) (len cap : Nat) (sl : Bool) (c : Int) (k : Nat) (f : Nat → ByteArray) (h0 : 0 < k) (h1 : k ≤ 1000000) (hl : len ≤ 1048576) (w : World) (ho : OwnS a len f w) :
    Calls Tryd.prog 7 #[.agg #[.slice a len cap, .bool sl, .int .i64 c], .int .i64 k] w fun e w' => e = .returned (.int .i64 ((k : Int) + len)) ∧ OwnS a len (mkF k) w' ∧ ButS a w w' := by
  have hc : Hid (∀ w', Below w.heap.size w w' → Calls Tryd.prog 18 #[.slice a len cap, .int .i64 k] w' fun e w'' => e = .returned (.int .i64 ((k : Int) + len)) ∧ OwnS a len (mkF k) w'' ∧ ButS a w' w'') := (fun w' hb => markStr_any a len cap k f h0 h1 hl w' (ho.below hb))
  have HB : Hid (Below w.heap.size w (w.alloc (.cells #[.slice a len cap, .bool sl, .int .i64 c] 24))) := bel_alloc _ _
  clear ho
  go_enter Tryd.func7, Tryd.ntmps7
  go_wp2_with fail
  refine (hc.out _ HB.out).mono ?_
  rintro e w1 ⟨rfl, ho, hbut⟩
  have HO : Hid (OwnS a len (mkF k) w1 ∧ ButS a w w1) := ⟨ho, ButS.upon HB.out hbut⟩
  clear ho hbut
  go_wp2
  go_ret
  exact ⟨rfl, HO.out⟩
set_option maxHeartbeats 4000000 in
theorem heldPO_any (a : Option Addr) (len cap : Nat) (sl : Bool) (c : Int) (k : Nat) (h0 : 0 < k) (h1 : k ≤ 1000000) (hl : len ≤ 1048576) (w : World) (ho : OwnS a len (mkF k) w) :
    Calls Tryd.prog 8 #[.agg #[.slice a len cap, .bool sl, .int .i64 c], .int .i64 k] w fun e w' => e = .returned (.int .i64 ((k : Int) + len)) ∧ Below w.heap.size w w' := by
  have hc : Hid (∀ w', Below w.heap.size w w' → Calls Tryd.prog 19 #[.slice a len cap, .int .i64 k] w' fun e w'' => e = .returned (.int .i64 ((k : Int) + len)) ∧ Below w'.heap.size w' w'') := (fun w' hb => heldStr_any a len cap k h0 h1 hl w' (ho.below hb))
  have HB : Hid (Below w.heap.size w (w.alloc (.cells #[.slice a len cap, .bool sl, .int .i64 c] 24))) := bel_alloc _ _
  have hn : ¬ ((k : Int) + len < 0) := by omega
  clear ho
  go_enter Tryd.func8, Tryd.ntmps8
  go_wp2_with fail
  refine (hc.out _ HB.out).mono ?_
  rintro e w1 ⟨rfl, hb⟩
  have HB1 : Hid (Below w.heap.size w w1) := Below.on HB.out hb
  clear hb
  go_wp2
  go_ret
  exact ⟨rfl, HB1.out⟩
set_option maxHeartbeats 4000000 in
theorem eqPO_any (a a2 : Option Addr) (len cap cap2 : Nat) (sl : Bool) (c : Int) (f : Nat → ByteArray) (hl : len ≤ 1048576) (w : World) (ho : OwnS a len f w) (ho2 : OwnS a2 len f w) :
    Calls Tryd.prog 6 #[.agg #[.slice a len cap, .bool sl, .int .i64 c], .agg #[.slice a2 len cap2, .bool sl, .int .i64 c]] w fun e w' => e = .returned (.bool true) ∧ Below w.heap.size w w' := by
  have hc : Hid (∀ w', Below w.heap.size w w' → Calls Tryd.prog 17 #[.slice a len cap, .slice a2 len cap2] w' fun e w'' => e = .returned (.bool true) ∧ Below w'.heap.size w' w'') := (fun w' hb => eqStr_any a a2 len cap cap2 f hl w' (ho.below hb) (ho2.below hb))
  have hW : ((w.alloc (.cells #[.slice a len cap, .bool sl, .int .i64 c] 24))).heap.size = w.heap.size + 1 := by simp
  have HX : Hid (BoxR ((w.alloc (.cells #[.slice a len cap, .bool sl, .int .i64 c] 24)).alloc (.cells #[.slice a2 len cap2, .bool sl, .int .i64 c] 24)) w.heap.size [.slice a len cap, .bool sl, .int .i64 c]) := (boxR_new w [.slice a len cap, .bool sl, .int .i64 c] 24).below (bel_alloc _ _)
  have HZ : Hid (BoxR ((w.alloc (.cells #[.slice a len cap, .bool sl, .int .i64 c] 24)).alloc (.cells #[.slice a2 len cap2, .bool sl, .int .i64 c] 24)) (w.heap.size + 1) [.slice a2 len cap2, .bool sl, .int .i64 c]) := (by
    have h := boxR_new (w.alloc (.cells #[.slice a len cap, .bool sl, .int .i64 c] 24)) [.slice a2 len cap2, .bool sl, .int .i64 c] 24
    simp only [World.size_alloc] at h
    exact h)
  have HB : Hid (Below w.heap.size w ((w.alloc (.cells #[.slice a len cap, .bool sl, .int .i64 c] 24)).alloc (.cells #[.slice a2 len cap2, .bool sl, .int .i64 c] 24))) := ((Below.refl _ _).alloc (Nat.le_refl _) _).alloc (by simp) _
  clear ho ho2 hW
  go_enter Tryd.func6, Tryd.ntmps6
  go_upto_region 1 with fail
  generalize ((w.alloc (.cells #[.slice a len cap, .bool sl, .int .i64 c] 24)).alloc (.cells #[.slice a2 len cap2, .bool sl, .int .i64 c] 24)) = w0 at HX HZ HB ⊢
  obtain ⟨X, hX⟩ : ∃ X, X = w.heap.size := ⟨_, rfl⟩
  rw [← hX] at HX HZ ⊢
  clear hX
  have x0 : w0.cell? ⟨X, 0, none⟩ = some (.slice a len cap) := HX.out.at0 0 _ rfl
  have z0 : w0.cell? ⟨X + 1, 0, none⟩ = some (.slice a2 len cap2) := HZ.out.at0 0 _ rfl
  go_wp2_with fail
  refine (hc.out _ HB.out).mono ?_
  rintro e w1 ⟨rfl, hb⟩
  have HB1 : Hid (Below w.heap.size w w1) := Below.on HB.out hb
  have x1 : w1.cell? ⟨X, 1, none⟩ = some (.bool sl) := (HX.out.below hb).at0 1 _ rfl
  have x2 : w1.cell? ⟨X, 2, none⟩ = some (.int .i64 c) := (HX.out.below hb).at0 2 _ rfl
  have z1 : w1.cell? ⟨X + 1, 1, none⟩ = some (.bool sl) := (HZ.out.below hb).at0 1 _ rfl
  have z2 : w1.cell? ⟨X + 1, 2, none⟩ = some (.int .i64 c) := (HZ.out.below hb).at0 2 _ rfl
  clear hb x0 z0
  have q1 : (sl != sl) = false := by simp
  have q2 : (c != c) = false := by simp
  go_wp2
  go_ret
  exact ⟨rfl, HB1.out⟩
end Go.Proofs.YtcgkkeooigjbbaaDoor
/- The law FnExactPathParts. -/
namespace Go.Proofs.YtcgkkeooigjbbaaDoor
open Go.RowKit Go.PlainAid Go.Deep
set_option linter.unusedVariables false
def ppL (s : ByteArray) : List ByteArray := if ppC s = 0 then bts (prt s.data.toList) else []
def ppS (s : ByteArray) : Bool := if ppC s = 0 then lasB s else false
def atS (l : List ByteArray) (k : Nat) : ByteArray := l.getD k ⟨#[]⟩
theorem own_S {w : World} {B : Nat} {t : TypeId} {v : Value} {l : List ByteArray} (h : w.ownsRow B t 1 v l.length (tv l)) :
    ∃ a c, v = .slice a l.length c ∧ OwnS a l.length (atS l) w ∧ (∀ A, a = some A → B ≤ A.block ∧ A.block < w.heap.size) := by
  obtain ⟨_, ⟨rfl, hn⟩ | ⟨g, cap, cur, rfl, hb, hg, hc, _, hs, ht⟩⟩ := h
  · exact ⟨none, 0, by rw [hn], fun h => absurd h (by omega), fun A e => by cases e⟩
  · have hlt : g < w.heap.size := (Array.getElem?_eq_some_iff.1 hg).1
    refine ⟨some ⟨g, 0, none⟩, cap, rfl, fun _ => ⟨g, rfl, hlt, fun i hi => ?_, fun i hi => ?_⟩, fun A e => by cases e; exact ⟨hb, hlt⟩⟩
    · have hj2 : (tv l)[i]? = some (.string (atS l i)) := by simp [tv, atS, List.getElem?_eq_getElem hi, List.getD]
      rw [← ht, List.getElem?_take_of_lt (by omega)] at hj2
      have : w.cell? ⟨g, i, none⟩ = cur[i]? := by simp [World.cell?, hg]
      rw [this]
      simpa using hj2
    · simp only [World.frozen?, hg]
      simp
theorem ppEnd_open {w : World} {s : ByteArray} {e : Ending} {w' : World} (h : PpEnd w s e w') : Below w.heap.size w w' ∧ ∃ (a : Option Addr) (cap : Nat), e = .returned (.agg #[.slice a (ppL s).length cap, .bool (ppS s), .int .i64 (ppC s)]) ∧ OwnS a (ppL s).length (atS (ppL s)) w' ∧ (∀ A, a = some A → w.heap.size ≤ A.block ∧ A.block < w'.heap.size) := by
  rcases h with ⟨h0, rfl, hb⟩ | ⟨h0, v, rfl, hv, hb⟩
  · have e1 : ppL s = [] := by rw [ppL, if_neg h0]
    have e2 : ppS s = false := by rw [ppS, if_neg h0]
    refine ⟨hb, none, 0, by rw [e1, e2]; rfl, ?_, fun A e => by cases e⟩
    rw [e1]
    exact fun h => absurd h (by simp)
  · have e1 : ppL s = bts (prt s.data.toList) := by rw [ppL, if_pos h0]
    have e2 : ppS s = lasB s := by rw [ppS, if_pos h0]
    obtain ⟨a, cap, rfl, h1, h2⟩ := own_S hv
    exact ⟨hb, a, cap, by rw [e1, e2, h0], by rw [e1]; exact h1, h2⟩
theorem BoxR.but {a : Option Addr} {w w' : World} {X : Nat} {cs : List Value} (h : BoxR w X cs) (hb : ButS a w w') (hne : ∀ A, a = some A → X ≠ A.block) : BoxR w' X cs := ⟨Nat.lt_of_lt_of_le h.lt hb.size, range_keep h.at0 (fun j => (hb.cell X j h.lt hne).1)⟩
theorem OwnS.but {a a2 : Option Addr} {len : Nat} {f : Nat → ByteArray} {w w' : World} (h : OwnS a2 len f w) (hb : ButS a w w') (hne : ∀ A A2, a = some A → a2 = some A2 → A2.block ≠ A.block) : OwnS a2 len f w' := by
  intro h0
  obtain ⟨B, ha, hlt, hi⟩ := h h0
  have hc := fun o => hb.cell B o hlt (fun A e => hne A _ e ha)
  exact ⟨B, ha, Nat.lt_of_lt_of_le hlt hb.size, fun i hi2 => (hc i).1.trans (hi.1 i hi2), fun i hi2 => (hc i).2.trans (hi.2 i hi2)⟩
theorem ppL_len (s : ByteArray) (h : s.size ≤ 1048576) : (ppL s).length ≤ 8001 := by
  by_cases h8 : 8000 < s.size
  · rw [ppL, ppC_size h8]
    exact Nat.zero_le _
  · rw [ppL]
    split
    · rw [bts_len]
      have h1 := prt_len s.data.toList
      have h2 : s.data.toList.length = s.size := (Lib.size_eq s).symm
      omega
    · exact Nat.zero_le _
set_option maxHeartbeats 2000000 in
theorem pathParts_long (s : ByteArray) (hl : 1048576 < s.size) (hm : s.size ≤ 9223372036854775807) (w : World) :
    Calls Tryd.prog 3 #[.string s] w fun e w' => e = .returned (.bool true) ∧ Below w.heap.size w w' := by
  have hl' : (1048576 : Int) < (s.size : Int) := by omega
  clear hl hm
  go_enter Tryd.func3, Tryd.ntmps3
  go_wp2
  go_ret
  exact ⟨rfl, Below.refl _ _⟩
set_option maxRecDepth 100000 in
set_option maxHeartbeats 4000000 in
theorem pathParts_short (s : ByteArray) (m : Int) (hs : s.size ≤ 1048576) (w : World) (hm : w.cell? ⟨0, 0, none⟩ = some (.int .i64 m)) :
    Calls Tryd.prog 3 #[.string s] w fun e w' => e = .returned (.bool true) ∧ Below w.heap.size w w' := by
  have hml := block_lt_of_cell hm
  have hs' : ¬ (1048576 : Int) < (s.size : Int) := by omega
  have hnl := ppL_len s hs
  have hS : Hid (∀ w, Calls Tryd.prog 4 #[.string s] w (PpEnd w s)) := (fun w => sPathParts_any s hs w)
  have hI : Hid (∀ w', Below w.heap.size w w' → Calls Tryd.prog 5 #[.string s] w' (PpEnd w' s)) := (fun w' hb => iPathParts_any s m hs w' ((hb.cell (p := ⟨_, 0, none⟩) hml).trans hm))
  have hOpen : Hid (∀ w e w', PpEnd w s e w' → Below w.heap.size w w' ∧ ∃ (a : Option Addr) (cap : Nat), e = .returned (.agg #[.slice a (ppL s).length cap, .bool (ppS s), .int .i64 (ppC s)]) ∧ OwnS a (ppL s).length (atS (ppL s)) w' ∧ (∀ A, a = some A → w.heap.size ≤ A.block ∧ A.block < w'.heap.size)) := (fun w e w' h => ppEnd_open h)
  generalize (ppL s).length = n at hOpen hnl
  generalize atS (ppL s) = F at hOpen
  generalize ppS s = sl at hOpen
  generalize ppC s = c at hOpen
  have hni : (n : Int) ≤ 8001 := by omega
  clear hs hm hml
  go_enter Tryd.func3, Tryd.ntmps3
  go_wp2_with fail
  refine (hS.out _).mono ?_
  intro e w1 he
  obtain ⟨hb1, ga, gc, rfl, hoA, hlA⟩ := hOpen.out _ _ _ he
  have hX0' : Hid (w.heap.size ≤ w1.heap.size) := hb1.size
  have hb2 := bel_alloc w1 (.cells #[.slice ga n gc, .bool sl, .int .i64 c] 24)
  have HX2 : Hid (BoxR (w1.alloc (.cells #[.slice ga n gc, .bool sl, .int .i64 c] 24)) w1.heap.size [.slice ga n gc, .bool sl, .int .i64 c]) := boxR_new _ _ _
  have HA2 : Hid (OwnS ga n F (w1.alloc (.cells #[.slice ga n gc, .bool sl, .int .i64 c] 24))) := hoA.below hb2
  have HW2 : Hid (Below w.heap.size w (w1.alloc (.cells #[.slice ga n gc, .bool sl, .int .i64 c] 24))) := Below.on hb1 hb2
  have HLA : Hid (∀ A, ga = some A → A.block < w1.heap.size) := (fun A e => (hlA A e).2)
  clear he hoA hlA hb1 hb2 hS
  go_wp2_with fail
  refine (hI.out _ HW2.out).mono ?_
  intro e w3 he
  obtain ⟨hb3, gb, gd, rfl, hoB, hlB⟩ := hOpen.out _ _ _ he
  have hb4 := bel_alloc w3 (.cells #[.slice gb n gd, .bool sl, .int .i64 c] 24)
  have HX4 : Hid (BoxR (w3.alloc (.cells #[.slice gb n gd, .bool sl, .int .i64 c] 24)) w1.heap.size [.slice ga n gc, .bool sl, .int .i64 c]) := (HX2.out.below hb3).below hb4
  have HY4 : Hid (BoxR (w3.alloc (.cells #[.slice gb n gd, .bool sl, .int .i64 c] 24)) w3.heap.size [.slice gb n gd, .bool sl, .int .i64 c]) := boxR_new _ _ _
  have HA4 : Hid (OwnS ga n F (w3.alloc (.cells #[.slice gb n gd, .bool sl, .int .i64 c] 24))) := (HA2.out.below hb3).below hb4
  have HB4 : Hid (OwnS gb n F (w3.alloc (.cells #[.slice gb n gd, .bool sl, .int .i64 c] 24))) := hoB.below hb4
  have HW4 : Hid (Below w.heap.size w (w3.alloc (.cells #[.slice gb n gd, .bool sl, .int .i64 c] 24))) := Below.on (Below.on HW2.out hb3) hb4
  have hz2 : (w1.alloc (.cells #[.slice ga n gc, .bool sl, .int .i64 c] 24)).heap.size = w1.heap.size + 1 := by simp
  rw [hz2] at hlB
  have HLB : Hid (∀ A, gb = some A → w1.heap.size < A.block ∧ A.block < w3.heap.size) := (fun A e => ⟨by have := (hlB A e).1; omega, (hlB A e).2⟩)
  clear he hoB hlB hb3 hb4 HX2 HA2 HW2 hz2
  go_upto_region 5 with fail
  generalize w3.alloc (.cells #[.slice gb n gd, .bool sl, .int .i64 c] 24) = w4 at HX4 HY4 HA4 HB4 HW4 ⊢
  generalize w3.heap.size = X1 at HY4 HLB ⊢
  generalize w1.heap.size = X0 at HX4 HLA HLB hX0' ⊢
  have x0 : w4.cell? ⟨X0, 0, none⟩ = some (.slice ga n gc) := HX4.out.at0 0 _ rfl
  have x1 : w4.cell? ⟨X0, 1, none⟩ = some (.bool sl) := HX4.out.at0 1 _ rfl
  have x2 : w4.cell? ⟨X0, 2, none⟩ = some (.int .i64 c) := HX4.out.at0 2 _ rfl
  have y0 : w4.cell? ⟨X1, 0, none⟩ = some (.slice gb n gd) := HY4.out.at0 0 _ rfl
  have y1 : w4.cell? ⟨X1, 1, none⟩ = some (.bool sl) := HY4.out.at0 1 _ rfl
  have y2 : w4.cell? ⟨X1, 2, none⟩ = some (.int .i64 c) := HY4.out.at0 2 _ rfl
  go_wp2_with fail
  refine (eqPO_any gb ga n gd gc sl c F (by omega) w4 HB4.out HA4.out).mono ?_
  rintro e w5 ⟨rfl, hb5⟩
  have HX5 : Hid (BoxR w5 X0 [.slice ga n gc, .bool sl, .int .i64 c]) := HX4.out.below hb5
  have HY5 : Hid (BoxR w5 X1 [.slice gb n gd, .bool sl, .int .i64 c]) := HY4.out.below hb5
  have HA5 : Hid (OwnS ga n F w5) := HA4.out.below hb5
  have HB5 : Hid (OwnS gb n F w5) := HB4.out.below hb5
  have HW5 : Hid (Below w.heap.size w w5) := Below.on HW4.out hb5
  clear hb5 x0 x1 x2 y0 y1 y2 HX4 HY4 HA4 HB4 HW4
  have y0 : w5.cell? ⟨X1, 0, none⟩ = some (.slice gb n gd) := HY5.out.at0 0 _ rfl
  have y1 : w5.cell? ⟨X1, 1, none⟩ = some (.bool sl) := HY5.out.at0 1 _ rfl
  have y2 : w5.cell? ⟨X1, 2, none⟩ = some (.int .i64 c) := HY5.out.at0 2 _ rfl
  go_wp2_with fail
  refine (markPO_any gb n gd sl c 1 F (by decide) (by decide) (by omega) w5 HB5.out).mono ?_
  rintro e w6 ⟨rfl, hB6, hbut⟩
  have HX6 : Hid (BoxR w6 X0 [.slice ga n gc, .bool sl, .int .i64 c]) := HX5.out.but hbut (fun A e => by have := (HLB.out A e).1; omega)
  have HY6 : Hid (BoxR w6 X1 [.slice gb n gd, .bool sl, .int .i64 c]) := HY5.out.but hbut (fun A e => by have := (HLB.out A e).2; omega)
  have HA6 : Hid (OwnS ga n F w6) := HA5.out.but hbut (fun A A2 e e2 => by have h1 := (HLB.out A e).1; have h2 := HLA.out A2 e2; omega)
  have HB6 : Hid (OwnS gb n (mkF 1) w6) := hB6
  have HW6 : Hid (Below w.heap.size w w6) := HW5.out.trans (hbut.below _ HW5.out.size (fun A e => by have h1 := (HLB.out A e).1; have h2 := hX0'.out; omega))
  clear hbut hB6 y0 y1 y2 HX5 HY5 HA5 HB5 HW5
  have y0 : w6.cell? ⟨X1, 0, none⟩ = some (.slice gb n gd) := HY6.out.at0 0 _ rfl
  have y1 : w6.cell? ⟨X1, 1, none⟩ = some (.bool sl) := HY6.out.at0 1 _ rfl
  have y2 : w6.cell? ⟨X1, 2, none⟩ = some (.int .i64 c) := HY6.out.at0 2 _ rfl
  have hn1 : ¬ 1 + (n : Int) < 0 := by omega
  have hone : ((1 : Nat) : Int) = 1 := rfl
  go_wp2_with fail
  refine (heldPO_any gb n gd sl c 1 (by decide) (by decide) (by omega) w6 HB6.out).mono ?_
  rintro e w7 ⟨rfl, hb7⟩
  have HX7 : Hid (BoxR w7 X0 [.slice ga n gc, .bool sl, .int .i64 c]) := HX6.out.below hb7
  have HY7 : Hid (BoxR w7 X1 [.slice gb n gd, .bool sl, .int .i64 c]) := HY6.out.below hb7
  have HA7 : Hid (OwnS ga n F w7) := HA6.out.below hb7
  have HB7 : Hid (OwnS gb n (mkF 1) w7) := HB6.out.below hb7
  have HW7 : Hid (Below w.heap.size w w7) := Below.on HW6.out hb7
  clear hb7 y0 y1 y2 HX6 HY6 HA6 HB6 HW6
  go_wp2_with fail
  refine (hI.out _ HW7.out).mono ?_
  intro e w8 he
  obtain ⟨hb8, ge, gf, rfl, hoE, hlE⟩ := hOpen.out _ _ _ he
  have hb9 := bel_alloc w8 (.cells #[.slice ge n gf, .bool sl, .int .i64 c] 24)
  have HX9 : Hid (BoxR (w8.alloc (.cells #[.slice ge n gf, .bool sl, .int .i64 c] 24)) X0 [.slice ga n gc, .bool sl, .int .i64 c]) := (HX7.out.below hb8).below hb9
  have HY9 : Hid (BoxR (w8.alloc (.cells #[.slice ge n gf, .bool sl, .int .i64 c] 24)) X1 [.slice gb n gd, .bool sl, .int .i64 c]) := (HY7.out.below hb8).below hb9
  have HZ9 : Hid (BoxR (w8.alloc (.cells #[.slice ge n gf, .bool sl, .int .i64 c] 24)) w8.heap.size [.slice ge n gf, .bool sl, .int .i64 c]) := boxR_new _ _ _
  have HA9 : Hid (OwnS ga n F (w8.alloc (.cells #[.slice ge n gf, .bool sl, .int .i64 c] 24))) := (HA7.out.below hb8).below hb9
  have HB9 : Hid (OwnS gb n (mkF 1) (w8.alloc (.cells #[.slice ge n gf, .bool sl, .int .i64 c] 24))) := (HB7.out.below hb8).below hb9
  have HE9 : Hid (OwnS ge n F (w8.alloc (.cells #[.slice ge n gf, .bool sl, .int .i64 c] 24))) := hoE.below hb9
  have HW9 : Hid (Below w.heap.size w (w8.alloc (.cells #[.slice ge n gf, .bool sl, .int .i64 c] 24))) := Below.on (Below.on HW7.out hb8) hb9
  clear he hoE hlE hb8 hb9 HX7 HY7 HA7 HB7 HW7
  go_upto_region 16 with fail
  generalize w8.alloc (.cells #[.slice ge n gf, .bool sl, .int .i64 c] 24) = w9 at HX9 HY9 HZ9 HA9 HB9 HE9 HW9 ⊢
  generalize w8.heap.size = X2 at HZ9 ⊢
  have x0 : w9.cell? ⟨X0, 0, none⟩ = some (.slice ga n gc) := HX9.out.at0 0 _ rfl
  have x1 : w9.cell? ⟨X0, 1, none⟩ = some (.bool sl) := HX9.out.at0 1 _ rfl
  have x2 : w9.cell? ⟨X0, 2, none⟩ = some (.int .i64 c) := HX9.out.at0 2 _ rfl
  have z0 : w9.cell? ⟨X2, 0, none⟩ = some (.slice ge n gf) := HZ9.out.at0 0 _ rfl
  have z1 : w9.cell? ⟨X2, 1, none⟩ = some (.bool sl) := HZ9.out.at0 1 _ rfl
  have z2 : w9.cell? ⟨X2, 2, none⟩ = some (.int .i64 c) := HZ9.out.at0 2 _ rfl
  go_wp2_with fail
  refine (eqPO_any ge ga n gf gc sl c F (by omega) w9 HE9.out HA9.out).mono ?_
  rintro e w10 ⟨rfl, hb10⟩
  have HY10 : Hid (BoxR w10 X1 [.slice gb n gd, .bool sl, .int .i64 c]) := HY9.out.below hb10
  have HB10 : Hid (OwnS gb n (mkF 1) w10) := HB9.out.below hb10
  have HW10 : Hid (Below w.heap.size w w10) := Below.on HW9.out hb10
  clear hb10 x0 x1 x2 z0 z1 z2
  have y0 : w10.cell? ⟨X1, 0, none⟩ = some (.slice gb n gd) := HY10.out.at0 0 _ rfl
  have y1 : w10.cell? ⟨X1, 1, none⟩ = some (.bool sl) := HY10.out.at0 1 _ rfl
  have y2 : w10.cell? ⟨X1, 2, none⟩ = some (.int .i64 c) := HY10.out.at0 2 _ rfl
  go_wp2_with fail
  refine (heldPO_any gb n gd sl c 1 (by decide) (by decide) (by omega) w10 HB10.out).mono ?_
  rintro e w11 ⟨rfl, hb11⟩
  have HW11 : Hid (Below w.heap.size w w11) := Below.on HW10.out hb11
  clear hb11 y0 y1 y2
  go_wp2
  go_ret
  exact ⟨rfl, HW11.out⟩
end Go.Proofs.YtcgkkeooigjbbaaDoor
