/- Laid together: MkTx, MkE, MkM. -/
import Derived.Test.YtgodbelcddgdmaaGreatNF25
import Derived.Test.YtgodbelcddgdmaaGreatNF19
/- laws.markText. -/
namespace Go.Proofs.YtgodbelcddgdmaaGreat
open Go.RowKit Go.PlainAid Go.Deep
set_option linter.unusedVariables false
theorem digit_textM (w : World) (d : Nat) (h : d ≤ 9) (z : Int) (hz : z = 48 + (d : Int)) :
    (convert 92 9 (.slice (some ⟨w.heap.size, 0, none⟩) 1 1)).run Tryz.prog (w.alloc (.cells #[.int .u8 z] 5)) = .ok (.string ⟨#[UInt8.ofNat (48 + d)]⟩) (w.alloc (.cells #[.int .u8 z] 5)) := by
  have e : ((UInt8.ofNat (48 + d)).toNat : Int) = z := by
    rw [UInt8.toNat_ofNat']
    omega
  have hb : (w.alloc (.cells #[.int .u8 z] 5)).heap[w.heap.size]? = some (.cells #[.int .u8 z] 5) := by
    rw [World.alloc]
    exact Array.getElem?_push_size
  rw [← e] at hb ⊢
  exact run_convert_text _ 92 5 9 Tryz.underlying92 Tryz.underlying5 Tryz.underlying9 _ 0 [UInt8.ofNat (48 + d)] 1 1 rfl (row_bytes (l := [UInt8.ofNat (48 + d)]) hb)
/-- The digits of a number ahead of a text. -/
def dgF : Nat → Nat → ByteArray → ByteArray
  | 0, _, p => p
  | f + 1, k, p => if k = 0 then p else dgF f (k / 10) (⟨#[UInt8.ofNat (48 + k % 10)]⟩ ++ p)
def mkT (k : Nat) : ByteArray := ⟨#[109]⟩ ++ dgF k k ⟨#[]⟩
theorem dgF_zero (f : Nat) (p : ByteArray) : dgF f 0 p = p := by cases f <;> simp [dgF]
set_option maxHeartbeats 4000000 in
theorem markText_any (k : Nat) (h0 : 0 < k) (h1 : k ≤ 1000000000) (w : World) :
    Calls Tryz.prog 46 #[.int .i64 k] w fun e w' => e = .returned (.string (mkT k)) ∧ Below w.heap.size w w' := by
  have HM : Hid (mkT k = ⟨#[109]⟩ ++ dgF k k ⟨#[]⟩) := rfl
  have h0' : ¬ ((k : Int) ≤ 0) := by omega
  go_enter Tryz.func46, Tryz.ntmps46
  go_wp2
  go_loopw [0, 3] (fun i v wr => ∃ (f j : Nat) (p : ByteArray), j ≤ f ∧ j ≤ 1000000000 ∧ p.size + f ≤ k ∧ i = .int .i64 j ∧ v = .string p ∧ Hid (dgF k k ⟨#[]⟩ = dgF f j p) ∧ Hid (Below w.heap.size w wr)) (fun i _ _ => (intOf i).toNat)
  case atStart => exact ⟨k, k, ⟨#[]⟩, Nat.le_refl _, h1, by show 0 + k ≤ k; omega, rfl, rfl, rfl, Below.refl _ _⟩
  case round =>
    obtain ⟨f, j, p, hjf, hj, hps, rfl, rfl, hD, hB⟩ := hrel
    by_cases hz : j = 0
    · subst hz
      have HEnd : Hid (mkT k = ⟨#[109]⟩ ++ p) := (by show _ = _; rw [HM.out, hD.out, dgF_zero])
      clear hD HM
      go_wp2
      go_ret
      exact ⟨by rw [HEnd.out]; rfl, hB.out⟩
    · have hj0 : (0 : Int) < (j : Int) := by omega
      obtain ⟨g, rfl⟩ : ∃ g, f = g + 1 := ⟨f - 1, by omega⟩
      have hD2 : Hid (dgF k k ⟨#[]⟩ = dgF g (j / 10) (⟨#[UInt8.ofNat (48 + j % 10)]⟩ ++ p)) := (by show _ = _; rw [hD.out, dgF, if_neg hz])
      have hcv : ∀ W : World, (convert 92 9 (.slice (some ⟨W.heap.size, 0, none⟩) 1 1)).run Tryz.prog (W.alloc (.cells #[.int .u8 (48 + (j : Int) % 10)] 5)) = .ok (.string ⟨#[UInt8.ofNat (48 + j % 10)]⟩) (W.alloc (.cells #[.int .u8 (48 + (j : Int) % 10)] 5)) := fun W => digit_textM W (j % 10) (by omega) _ (by omega)
      obtain ⟨z, hzz⟩ : ∃ z, z = (⟨#[UInt8.ofNat (48 + j % 10)]⟩ : ByteArray) := ⟨_, rfl⟩
      have hz1 : z.size = 1 := by rw [hzz]; rfl
      simp only [← hzz] at hcv hD2
      have hpi : (p.size : Int) ≤ 1000000000 := by omega
      have hB2 : Hid (Below w.heap.size w (wr.alloc (.cells #[.int .u8 (48 + (j : Int) % 10)] 5))) := hB.out.alloc hB.out.size _
      clear hD hzz
      go_wp2
      go_roundw
      case rel => exact ⟨g, j / 10, z ++ p, by omega, by omega, by rw [ByteArray.size_append, hz1]; omega, by go_num, rfl, hD2, hB2⟩
      case measure => simp [intOf]; omega
/-- What mark writes. -/
def marksE (k n : Nat) : List (ByteArray × Int) := (List.range n).map fun (i : Nat) => (mkT (k + 2 * i), ((k + 2 * i + 1 : Nat) : Int))
theorem marksE_len (k n : Nat) : (marksE k n).length = n := by simp [marksE]
theorem marksE_nm (k n i : Nat) (h : i < n) : nmAt (marksE k n) i = mkT (k + 2 * i) := by simp [nmAt, marksE, h]
theorem marksE_no (k n i : Nat) (h : i < n) : noAt (marksE k n) i = ((k + 2 * i + 1 : Nat) : Int) := by simp [noAt, marksE, h]
set_option maxHeartbeats 4000000 in
theorem markEntryS_none (a : Option Addr) (cap : Nat) (k : Int) (w : World) :
    Calls Tryz.prog 26 #[.slice a 0 cap, .int .i64 k] w fun e w' => e = .returned (.int .i64 k) ∧ w' = w := by
  go_enter Tryz.func26, Tryz.ntmps26
  go_wp2
  go_rounds 1
  go_ret
  exact ⟨rfl, rfl⟩
set_option maxHeartbeats 4000000 in
theorem markEntryS_some (B len cap k : Nat) (F0 : Nat → ByteArray) (G0 : Nat → Int) (h0 : 0 < k) (h1 : k ≤ 500000000) (hl : len ≤ 1048576) (w : World) (hlt0 : B < w.heap.size) (hp : EHold w B F0 G0 len) :
    Calls Tryz.prog 26 #[.slice (some ⟨B, 0, none⟩) len cap, .int .i64 k] w fun e w' => e = .returned (.int .i64 ((k : Int) + 2 * len)) ∧ EHold w' B (fun i => mkT (k + 2 * i)) (fun i => ((k + 2 * i + 1 : Nat) : Int)) len ∧ ButS (some ⟨B, 0, none⟩) w w' := by
  have HP : Hid (EHold w B F0 G0 len) := hp
  have HL0 : Hid (B < w.heap.size) := hlt0
  clear hp hlt0
  go_enter Tryz.func26, Tryz.ntmps26
  go_wp2
  go_loopw [5, 1] (fun i q wr => ∃ (j : Nat) (F : Nat → ByteArray) (G : Nat → Int), j ≤ len ∧ i = .int .i64 j ∧ q = .int .i64 ((k : Int) + 2 * j) ∧ Hid (EHold wr B F G len) ∧ Hid (∀ t, t < j → F t = mkT (k + 2 * t) ∧ G t = ((k + 2 * t + 1 : Nat) : Int)) ∧ Hid (ButS (some ⟨B, 0, none⟩) w wr)) (fun i _ _ => len - (intOf i).toNat)
  case atStart => exact ⟨0, F0, G0, Nat.zero_le _, rfl, by simp, HP, fun t ht => absurd ht (by omega), ButS.refl _ _⟩
  case round =>
    obtain ⟨j, F, G, hj, rfl, rfl, hH, hg, hB⟩ := hrel
    by_cases hlt : j < len
    · have hlt' : (j : Int) < (len : Int) := by omega
      have hj0 : (0 : Int) ≤ (j : Int) := by omega
      have hBr : Hid (B < wr.heap.size) := Nat.lt_of_lt_of_le HL0.out hB.out.size
      have HM : Hid (∀ w, Calls Tryz.prog 46 #[.int .i64 ((k : Int) + 2 * j)] w fun e w' => e = .returned (.string (mkT (k + 2 * j))) ∧ Below w.heap.size w w') := (fun w => by
        have h := markText_any (k + 2 * j) (by omega) (by omega) w
        have e : ((k + 2 * j : Nat) : Int) = (k : Int) + 2 * j := by omega
        rw [e] at h
        exact h)
      go_wp2_with fail
      refine (HM.out _).mono ?_
      rintro e w1 ⟨rfl, hb1⟩
      have hH1 : Hid (EHold w1 B F G len) := hH.out.below hBr.out hb1
      have q := hH1.out j hlt
      have g2 := q.1.1
      have g3 := q.1.2
      have g4 := q.2.1
      have g5 := q.2.2
      have ez : ((k + 2 * j + 1 : Nat) : Int) = (k : Int) + 2 * j + 1 := by omega
      have hH2 : Hid (EHold ((w1.setCell ⟨B, j * 2, none⟩ (.string (mkT (k + 2 * j)))).setCell ⟨B, j * 2 + 1, none⟩ (.int .i64 ((k : Int) + 2 * j + 1))) B (fun i => if i = j then mkT (k + 2 * j) else F i) (fun i => if i = j then (k : Int) + 2 * j + 1 else G i) len) := (hH1.out.set0 j hlt _).set1 j hlt _
      have hg2 : Hid (∀ t, t < j + 1 → (fun i => if i = j then mkT (k + 2 * j) else F i) t = mkT (k + 2 * t) ∧ (fun i => if i = j then (k : Int) + 2 * j + 1 else G i) t = ((k + 2 * t + 1 : Nat) : Int)) := (fun t ht => by
        show (if t = j then mkT (k + 2 * j) else F t) = mkT (k + 2 * t) ∧ (if t = j then (k : Int) + 2 * j + 1 else G t) = ((k + 2 * t + 1 : Nat) : Int)
        by_cases e : t = j
        · rw [if_pos e, if_pos e, e]; exact ⟨rfl, ez.symm⟩
        · rw [if_neg e, if_neg e]; exact hg.out t (by omega))
      have hB2 : Hid (ButS (some ⟨B, 0, none⟩) w ((w1.setCell ⟨B, j * 2, none⟩ (.string (mkT (k + 2 * j)))).setCell ⟨B, j * 2 + 1, none⟩ (.int .i64 ((k : Int) + 2 * j + 1)))) := (hB.out.on hb1).set.set
      clear q hH hg hB hb1 hH1 HM ez
      generalize mkT (k + 2 * j) = mt at hH2 hg2 hB2 ⊢
      go_wp2
      go_roundw
      case rel => exact ⟨j + 1, _, _, by omega, by go_num, by go_num, hH2, hg2, hB2⟩
      case measure => simp [intOf]; omega
    · have : j = len := by omega
      subst this
      go_wp2
      go_ret
      refine ⟨rfl, fun i hi => ?_, hB.out⟩
      have h1 := hH.out i hi
      rw [(hg.out i hi).1, (hg.out i hi).2] at h1
      exact h1
/-- laws.markEntryS. -/
theorem markEntryS_any (a : Option Addr) (len cap k : Nat) (l : List (ByteArray × Int)) (h0 : 0 < k) (h1 : k ≤ 500000000) (hl : len ≤ 1048576) (w : World) (ho : OwnE a len l w) :
    Calls Tryz.prog 26 #[.slice a len cap, .int .i64 k] w fun e w' => e = .returned (.int .i64 ((k : Int) + 2 * len)) ∧ OwnE a len (marksE k len) w' ∧ ButS (if 0 < len then a else none) w w' := by
  by_cases hz : len = 0
  · subst hz
    refine (markEntryS_none a cap k w).mono ?_
    rintro e w' ⟨rfl, rfl⟩
    exact ⟨by simp, ⟨marksE_len _ _, fun h => absurd h (by omega)⟩, ButS.refl _ _⟩
  · obtain ⟨B, rfl, hlt, hp⟩ := ho.2 (by omega)
    refine (markEntryS_some B len cap k _ _ h0 h1 hl w hlt hp).mono ?_
    rintro e w' ⟨rfl, hp2, hb⟩
    refine ⟨rfl, ⟨marksE_len _ _, fun _ => ⟨B, rfl, Nat.lt_of_lt_of_le hlt hb.size, fun i hi => ?_⟩⟩, by rw [if_pos (by omega)]; exact hb⟩
    rw [marksE_nm k len i hi, marksE_no k len i hi]
    exact hp2 i hi
/-- laws.markNamedS, of a number. -/
theorem markP_any (a : Option Addr) (len cap k : Nat) (l : List (Int × Int)) (h1 : k ≤ 500000000) (hl : len ≤ 1048576) (w : World) (ho : Own a len l w) :
    Calls Tryz.prog 45 #[.slice a len cap, .int .i64 k] w fun e w' => e = .returned (.int .i64 ((k : Int) + 2 * len)) ∧ Own a len (marks (k : Int) len) w' ∧ ButS (if 0 < len then a else none) w w' := by
  by_cases hz : len = 0
  · subst hz
    refine (markNamedS_none a cap k w).mono ?_
    rintro e w' ⟨rfl, rfl⟩
    exact ⟨by simp, ⟨marks_len _ _, fun h => absurd h (by omega)⟩, ButS.refl _ _⟩
  · rw [if_pos (by omega)]
    exact (markNamedS_any a len cap k l (by omega) (by omega) hl w ho).mono (fun e w' h => ⟨h.1, h.2.1, h.2.2.butS⟩)
set_option maxHeartbeats 4000000 in
theorem heldEntryS_any (a : Option Addr) (len cap k : Nat) (h0 : 0 < k) (h1 : k ≤ 500000000) (hl : len ≤ 1048576) (w : World) (hp : OwnE a len (marksE k len) w) :
    Calls Tryz.prog 28 #[.slice a len cap, .int .i64 k] w fun e w' => e = .returned (.int .i64 ((k : Int) + 2 * len)) ∧ Below w.heap.size w w' := by
  by_cases hz : len = 0
  · subst hz
    go_enter Tryz.func28, Tryz.ntmps28
    go_wp2
    go_rounds 1
    go_ret
    exact ⟨by simp, Below.refl _ _⟩
  obtain ⟨B, rfl, hB0, hp⟩ := hp.2 (by omega)
  have HP : Hid (∀ i, i < len → w.cell? ⟨B, i * 2, none⟩ = some (.string (mkT (k + 2 * i))) ∧ w.cell? ⟨B, i * 2 + 1, none⟩ = some (.int .i64 ((k : Int) + 2 * i + 1))) := (fun i hi => by
    have h := (hp i hi).1
    rw [marksE_nm k len i hi, marksE_no k len i hi] at h
    refine ⟨h.1, ?_⟩
    have ez : ((k + 2 * i + 1 : Nat) : Int) = (k : Int) + 2 * i + 1 := by omega
    rw [← ez]
    exact h.2)
  clear hp
  go_enter Tryz.func28, Tryz.ntmps28
  go_wp2
  go_loopw [5, 1] (fun i q wr => ∃ (j : Nat), j ≤ len ∧ i = .int .i64 j ∧ q = .int .i64 ((k : Int) + 2 * j) ∧ Hid (Below w.heap.size w wr)) (fun i _ _ => len - (intOf i).toNat)
  case atStart => exact ⟨0, Nat.zero_le _, rfl, by simp, Below.refl _ _⟩
  case round =>
    obtain ⟨j, hj, rfl, rfl, hB⟩ := hrel
    by_cases hlt : j < len
    · have hlt' : (j : Int) < (len : Int) := by omega
      have hj0 : (0 : Int) ≤ (j : Int) := by omega
      have HM : Hid (∀ w, Calls Tryz.prog 46 #[.int .i64 ((k : Int) + 2 * j)] w fun e w' => e = .returned (.string (mkT (k + 2 * j))) ∧ Below w.heap.size w w') := (fun w => by
        have h := markText_any (k + 2 * j) (by omega) (by omega) w
        have e : ((k + 2 * j : Nat) : Int) = (k : Int) + 2 * j := by omega
        rw [e] at h
        exact h)
      have g0 : ∀ d os, (Go.Sort.grow (redrawn wr d) os).cell? ⟨B, j * 2, none⟩ = some (.string (mkT (k + 2 * j))) := fun d os => cell_regrown ((hB.out.cell (p := ⟨B, j * 2, none⟩) hB0).trans (HP.out j hlt).1) d os
      have HG1 : Hid (wr.cell? ⟨B, j * 2 + 1, none⟩ = some (.int .i64 ((k : Int) + 2 * j + 1))) := (hB.out.cell (p := ⟨B, j * 2 + 1, none⟩) hB0).trans (HP.out j hlt).2
      have HBr : Hid (B < wr.heap.size) := Nat.lt_of_lt_of_le hB0 hB.out.size
      have cA : ∀ d os, Calls Tryz.prog 46 #[.int .i64 ((k : Int) + 2 * j)] (Go.Sort.grow (redrawn wr d) os) fun e w'' => e = .returned (.string (mkT (k + 2 * j))) ∧ ∃ p : Regrown, w'' = Go.Sort.grow (redrawn wr p.d) p.os := fun d os => Calls.regrown_of (HM.out _)
      have hmm : ((mkT (k + 2 * j)).toList != (mkT (k + 2 * j)).toList) = false := by simp
      generalize mkT (k + 2 * j) = mt at g0 cA hmm
      clear HM
      go_upto_region 4 with fail
      refine wp_region_quiet_below (by kernel_rfl) (by kernel_rfl) ?_
      repeat (go_big_quiet_step (exact cA _ _))
      refine wpQuiet_nil ?_
      intro _ hw'
      obtain ⟨⟨dq, osq⟩, hw''⟩ := hw'
      subst hw''
      have hbq : Below wr.heap.size wr (Go.Sort.grow (redrawn wr dq) osq) := below_regrown wr dq osq
      have HB2 : Hid (Below w.heap.size w (Go.Sort.grow (redrawn wr dq) osq)) := Below.on hB.out hbq
      have g1 : (Go.Sort.grow (redrawn wr dq) osq).cell? ⟨B, j * 2 + 1, none⟩ = some (.int .i64 ((k : Int) + 2 * j + 1)) := (hbq.cell (p := ⟨B, j * 2 + 1, none⟩) HBr.out).trans HG1.out
      clear hbq
      generalize Go.Sort.grow (redrawn wr dq) osq = w2 at HB2 g1 ⊢
      clear g0 cA hB
      go_wp2
      go_roundw
      case rel => exact ⟨j + 1, by omega, by go_num, by go_num, HB2⟩
      case measure => simp [intOf]; omega
    · have : j = len := by omega
      subst this
      go_wp2
      go_ret
      exact ⟨rfl, hB.out⟩
/-- How many numbers a node takes. -/
def cntMk (x : Nd) : Nat := 19 + 2 * x.A.us.length + 2 * x.A.gs.length + 2 * x.D.us.length + 2 * x.D.gs.length + 2 * x.ns.length
/-- The first number of each node. -/
def kAt (k : Nat) (F : Nat → Nd) : Nat → Nat | 0 => k | i + 1 => kAt k F i + cntMk (F i)
theorem kAt_pos {k : Nat} {F : Nat → Nd} (h : 0 < k) : ∀ i, 0 < kAt k F i | 0 => h | i + 1 => by rw [kAt]; have := kAt_pos h (F := F) i; omega
theorem kAt_mono (k : Nat) (F : Nat → Nd) (i : Nat) : ∀ n, i ≤ n → kAt k F i ≤ kAt k F n
  | 0, h => by rw [Nat.le_zero.1 h]; exact Nat.le_refl _
  | n + 1, h => by
    by_cases e : i = n + 1
    · rw [e]; exact Nat.le_refl _
    · have := kAt_mono k F i n (by omega)
      rw [kAt]; omega
theorem kAt_le {k : Nat} {F : Nat → Nd} {M n i : Nat} (h : kAt k F n ≤ M) (hi : i < n) : kAt k F i + cntMk (F i) ≤ M := by
  have := kAt_mono k F (i + 1) n (by omega)
  rw [kAt] at this; omega
def mk1 (x : Nd) (K : Nat) : Nat := K + 7 + 2 * x.A.us.length
def mk2 (x : Nd) (K : Nat) : Nat := mk1 x K + 2 * x.A.gs.length
def mk3 (x : Nd) (K : Nat) : Nat := mk2 x K + 6 + 2 * x.D.us.length
def mk4 (x : Nd) (K : Nat) : Nat := mk3 x K + 2 * x.D.gs.length
def mk5 (x : Nd) (K : Nat) : Nat := mk4 x K + 5 + 2 * x.ns.length
theorem mk5_cnt (x : Nd) (K : Nat) : mk5 x K + 1 = K + cntMk x := by unfold mk5 mk4 mk3 mk2 mk1 cntMk; omega
/-- A node that is written over. -/
def mkNd (x : Nd) (K : Nat) : Nd :=
  ⟨K, (K : Int) + 1, (K : Int) + 2, (K : Int) + 3, ⟨(K : Int) + 4, (K : Int) + 5, (K : Int) + 6, marks ((K : Int) + 7) x.A.us.length, marks (mk1 x K : Nat) x.A.gs.length, (mk2 x K % 3 == 0), (mk2 x K : Int) + 1⟩, ((mk2 x K + 2) % 3 == 0),
   ⟨(mk2 x K : Int) + 3, (mk2 x K : Int) + 4, (mk2 x K : Int) + 5, marks ((mk2 x K : Int) + 6) x.D.us.length, marks (mk3 x K : Nat) x.D.gs.length, (mk4 x K % 3 == 0), (mk4 x K : Int) + 1⟩, (mk4 x K : Int) + 2, (mk4 x K : Int) + 3, mkT (mk4 x K + 4), marksE (mk4 x K + 5) x.ns.length, (mk5 x K : Nat)⟩
def mkRow (k : Nat) (F : Nat → Nd) : Nat → Nd := fun i => mkNd (F i) (kAt k F i)
/-- A row of nodes, one of which is another one. -/
structure OwnU (w : World) (lo hi B : Nat) (F : Nat → Nd) (Y : Nat → Na) (n j : Nat) (x : Nd) : Prop where
  own : OwnT w lo hi B (updN F j x) Y n
theorem updN_self (F : Nat → Nd) (j : Nat) : updN F j (F j) = F := by
  funext k
  by_cases h : k = j
  · subst h; rw [updN_at]
  · rw [updN_ne _ h]
theorem OwnT.ownU {w : World} {lo hi B n : Nat} {F : Nat → Nd} {Y : Nat → Na} (h : OwnT w lo hi B F Y n) (j : Nat) : OwnU w lo hi B F Y n j (F j) := ⟨by rw [updN_self]; exact h⟩
section
variable {w w' : World} {lo hi B n j : Nat} {F : Nat → Nd} {Y : Nat → Na} {x : Nd}
theorem OwnU.below (h : OwnU w lo hi B F Y n j x) (hb : Below w.heap.size w w') : OwnU w' lo hi B F Y n j x := ⟨h.own.below hb⟩
theorem OwnU.row (h : OwnU w lo hi B F Y n j x) (hj : j < n) : N24 w B (j * 24) x (Y j) := by
  have := h.own.row.at' j hj
  rwa [updN_at] at this
theorem OwnU.nd (h : OwnU w lo hi B F Y n j x) (hj : j < n) : NdOwn w x (Y j) := by
  have := h.own.own j hj
  rwa [updN_at] at this
theorem OwnU.frz (h : OwnU w lo hi B F Y n j x) : ∀ o, w.frozen? ⟨B, o, none⟩ = false := h.own.row.frz
theorem OwnU.cell (h : OwnU w lo hi B F Y n j x) (hj : j < n) (c : Nat) (hc : c < 24) (v : Value) (x' : Nd) (hV : ndV x' (Y j) = (ndV x (Y j)).set c v) (h1 : x'.A.us = x.A.us) (h2 : x'.A.gs = x.A.gs) (h3 : x'.D.us = x.D.us) (h4 : x'.D.gs = x.D.gs) (h5 : x'.ns = x.ns) :
    OwnU (w.setCell ⟨B, j * 24 + c, none⟩ v) lo hi B F Y n j x' := by
  have := h.own.cell j hj c hc v x' (by rw [updN_at]; exact hV) (by rw [updN_at]; exact h1) (by rw [updN_at]; exact h2) (by rw [updN_at]; exact h3) (by rw [updN_at]; exact h4) (by rw [updN_at]; exact h5)
  rw [updN_upd] at this
  exact ⟨this⟩
theorem OwnU.list (h : OwnU w lo hi B F Y n j x) (hj : j < n) (j0 : Nat) (hj0 : j0 < 5) (x' : Nd) (hb : ButS (if 0 < lnAt x j0 then laAt (Y j) j0 else none) w w') (hV : ndV x' (Y j) = ndV x (Y j)) (hln : ∀ t, lnAt x' t = lnAt x t) (ho : NdOwn w' x' (Y j)) :
    OwnU w' lo hi B F Y n j x' := by
  have := h.own.list j hj j0 hj0 x' (by rw [updN_at]; exact hb) (by rw [updN_at]; exact hV) (fun t => by rw [updN_at]; exact hln t) ho
  rw [updN_upd] at this
  exact ⟨this⟩
theorem OwnU.others (h : OwnU w lo hi B F Y n j x) (hj : j < n) (j0 : Nat) (hj0 : j0 < 5) (hb : ButS (if 0 < lnAt x j0 then laAt (Y j) j0 else none) w w') :
    (j0 ≠ 0 → Own (Y j).aU x.A.us.length x.A.us w') ∧ (j0 ≠ 1 → Own (Y j).aG x.A.gs.length x.A.gs w') ∧ (j0 ≠ 2 → Own (Y j).dU x.D.us.length x.D.us w') ∧ (j0 ≠ 3 → Own (Y j).dG x.D.gs.length x.D.gs w') ∧ (j0 ≠ 4 → OwnE (Y j).nA x.ns.length x.ns w') := by
  have := h.own.others j hj j0 hj0 (by rw [updN_at]; exact hb)
  rwa [updN_at] at this
theorem OwnU.rngIf (h : OwnU w lo hi B F Y n j x) (hj : j < n) (j0 : Nat) (hj0 : j0 < 5) : ∀ A, (if 0 < lnAt x j0 then laAt (Y j) j0 else none) = some A → lo ≤ A.block ∧ A.block < hi := by
  have := h.own.rngIf j hj j0 hj0
  rwa [updN_at] at this
theorem OwnU.inB (h : OwnU w lo hi B F Y n j x) : lo ≤ B ∧ B < hi := h.own.inB
/-- The first list is written over. -/
theorem OwnU.us (h : OwnU w lo hi B F Y n j x) (hj : j < n) (l : List (Int × Int)) (hl : l.length = x.A.us.length) (hb : ButS (if 0 < x.A.us.length then (Y j).aU else none) w w') (ho : Own (Y j).aU x.A.us.length l w') :
    OwnU w' lo hi B F Y n j { x with A := { x.A with us := l } } := by
  obtain ⟨q0, q1, q2, q3, q4⟩ := h.others hj 0 (by omega) hb
  refine h.list hj 0 (by omega) _ hb (by simp only [ndV, hl]) (fun t => by match t with | 0 => exact hl | 1 => rfl | 2 => rfl | 3 => rfl | _ + 4 => rfl) ⟨?_, q1 (by omega), q2 (by omega), q3 (by omega), q4 (by omega)⟩
  simp only [hl]; exact ho
theorem OwnU.gs (h : OwnU w lo hi B F Y n j x) (hj : j < n) (l : List (Int × Int)) (hl : l.length = x.A.gs.length) (hb : ButS (if 0 < x.A.gs.length then (Y j).aG else none) w w') (ho : Own (Y j).aG x.A.gs.length l w') :
    OwnU w' lo hi B F Y n j { x with A := { x.A with gs := l } } := by
  obtain ⟨q0, q1, q2, q3, q4⟩ := h.others hj 1 (by omega) hb
  refine h.list hj 1 (by omega) _ hb (by simp only [ndV, hl]) (fun t => by match t with | 0 => rfl | 1 => exact hl | 2 => rfl | 3 => rfl | _ + 4 => rfl) ⟨q0 (by omega), ?_, q2 (by omega), q3 (by omega), q4 (by omega)⟩
  simp only [hl]; exact ho
theorem OwnU.dus (h : OwnU w lo hi B F Y n j x) (hj : j < n) (l : List (Int × Int)) (hl : l.length = x.D.us.length) (hb : ButS (if 0 < x.D.us.length then (Y j).dU else none) w w') (ho : Own (Y j).dU x.D.us.length l w') :
    OwnU w' lo hi B F Y n j { x with D := { x.D with us := l } } := by
  obtain ⟨q0, q1, q2, q3, q4⟩ := h.others hj 2 (by omega) hb
  refine h.list hj 2 (by omega) _ hb (by simp only [ndV, hl]) (fun t => by match t with | 0 => rfl | 1 => rfl | 2 => exact hl | 3 => rfl | _ + 4 => rfl) ⟨q0 (by omega), q1 (by omega), ?_, q3 (by omega), q4 (by omega)⟩
  simp only [hl]; exact ho
theorem OwnU.dgs (h : OwnU w lo hi B F Y n j x) (hj : j < n) (l : List (Int × Int)) (hl : l.length = x.D.gs.length) (hb : ButS (if 0 < x.D.gs.length then (Y j).dG else none) w w') (ho : Own (Y j).dG x.D.gs.length l w') :
    OwnU w' lo hi B F Y n j { x with D := { x.D with gs := l } } := by
  obtain ⟨q0, q1, q2, q3, q4⟩ := h.others hj 3 (by omega) hb
  refine h.list hj 3 (by omega) _ hb (by simp only [ndV, hl]) (fun t => by match t with | 0 => rfl | 1 => rfl | 2 => rfl | 3 => exact hl | _ + 4 => rfl) ⟨q0 (by omega), q1 (by omega), q2 (by omega), ?_, q4 (by omega)⟩
  simp only [hl]; exact ho
theorem OwnU.names (h : OwnU w lo hi B F Y n j x) (hj : j < n) (l : List (ByteArray × Int)) (hl : l.length = x.ns.length) (hb : ButS (if 0 < x.ns.length then (Y j).nA else none) w w') (ho : OwnE (Y j).nA x.ns.length l w') :
    OwnU w' lo hi B F Y n j { x with ns := l } := by
  obtain ⟨q0, q1, q2, q3, q4⟩ := h.others hj 4 (by omega) hb
  refine h.list hj 4 (by omega) _ hb (by simp only [ndV, hl]) (fun t => by match t with | 0 => rfl | 1 => rfl | 2 => rfl | 3 => rfl | _ + 4 => exact hl) ⟨q0 (by omega), q1 (by omega), q2 (by omega), q3 (by omega), ?_⟩
  simp only [hl]; exact ho
end
end Go.Proofs.YtgodbelcddgdmaaGreat
