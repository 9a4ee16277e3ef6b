/- A list of names as bytes: l06Entry, l06Named, AclBytes of the specification. -/
import Derived.Test.YtddkmlkfphmdoaaAbM
import Derived.Test.YtddkmlkfphmdoaaBytes
import Derived.Test.YtddkmlkfphmdoaaAclRight
import Derived.Test.YtddkmlkfphmdoaaStepA
import Derived.Lib.QuietBelow
namespace Go.Proofs.Ytddkmlkfphmdoaa
open Go.RowKit Go.PlainAid Go.Deep
set_option linter.unusedVariables false
theorem ebL_row {k : Nat} (hk : k < 256) {b i : Int} (hb : 0 ≤ b ∧ b ≤ 7) (hi : 0 ≤ i ∧ i ≤ 65535) : (#[.int .u8 k, .int .u8 b, .int .u8 (i / 256), .int .u8 (i % 256)] : Array Value) = (Lib.byteCells (ebL k b i)).toArray := by
  simp only [ebL, Lib.byteCells, List.map_cons, List.map_nil]
  rw [small_byte hk, small_byte (x := b.toNat) (by omega), small_byte (x := (i / 256).toNat) (by omega), small_byte (x := (i % 256).toNat) (by omega)]
  rw [Int.toNat_of_nonneg hb.1, Int.toNat_of_nonneg (by omega), Int.toNat_of_nonneg (by omega)]
theorem row_allocB (w : World) (c : Array Value) (t : TypeId) : (w.alloc (.cells c t)).heap[w.heap.size]? = some (.cells c t (0, 0)) := by
  rw [World.alloc]
  exact Array.getElem?_push_size
theorem ent_text {k : Nat} (hk : k < 256) {b i : Int} (hb : 0 ≤ b ∧ b ≤ 7) (hi : 0 ≤ i ∧ i ≤ 65535) (w : World) :
    (convert 51 9 (.slice (some ⟨w.heap.size, 0, none⟩) 4 4)).run Try.prog (w.alloc (.cells #[.int .u8 k, .int .u8 b, .int .u8 (i / 256), .int .u8 (i % 256)] 5)) =
      .ok (.string ⟨(ebL k b i).toArray⟩) (w.alloc (.cells #[.int .u8 k, .int .u8 b, .int .u8 (i / 256), .int .u8 (i % 256)] 5)) := by
  rw [ebL_row hk hb hi]
  exact run_convert_text (P := Try.prog) _ 51 5 9 Try.underlying51 Try.underlying5 Try.underlying9 w.heap.size 0 (ebL k b i) 4 4 rfl (row_bytes (row_allocB w _ _))
set_option maxHeartbeats 1000000 in
/-- spec.l06Entry of an id. -/
theorem sEntB_id (k : Nat) (hk : k < 256) (b i : Int) (hb : 0 ≤ b ∧ b ≤ 7) (hi : 0 ≤ i ∧ i ≤ 65535) (w : World) :
    Calls Try.prog 23 #[.int .u8 k, .int .i64 b, .int .i64 i] w fun e w' => e = .returned (.string ⟨(ebL k b i).toArray⟩) ∧ Below w.heap.size w w' := by
  have hcv := ent_text hk hb hi
  obtain ⟨b0, b7⟩ := hb
  obtain ⟨i0, i9⟩ := hi
  go_enter Try.func23, Try.ntmps23
  go_wp2
  go_ret
  exact ⟨rfl, (Below.refl _ _).alloc (Nat.le_refl _) _⟩
set_option maxHeartbeats 1000000 in
/-- spec.l06Entry of none. -/
theorem sEntB_no (k : Nat) (hk : k < 256) (b : Int) (hb : 0 ≤ b ∧ b ≤ 7) (w : World) :
    Calls Try.prog 23 #[.int .u8 k, .int .i64 b, .int .i64 (-1)] w fun e w' => e = .returned (.string ⟨(ebL k b 65535).toArray⟩) ∧ Below w.heap.size w w' := by
  have hcv := ent_text hk hb (i := 65535) ⟨by decide, by decide⟩
  have e1 : (65535 : Int) / 256 = 255 := by decide
  have e2 : (65535 : Int) % 256 = 255 := by decide
  rw [e1, e2] at hcv
  obtain ⟨b0, b7⟩ := hb
  clear e1 e2
  go_enter Try.func23, Try.ntmps23
  go_wp2
  go_ret
  exact ⟨rfl, (Below.refl _ _).alloc (Nat.le_refl _) _⟩
/-- The bytes of an entry without an id; of the first j who are named. -/
def enB (k : Nat) (b : Int) : ByteArray := ⟨(ebL k b 65535).toArray⟩
def nbJ (k : Nat) (l : List (Int × Int)) (j : Nat) : ByteArray := ⟨(flE (nmEn k (l.take j))).toArray⟩
theorem enB_size (k : Nat) (b : Int) : (enB k b).size = 4 := rfl
theorem nbJ_size (k : Nat) (l : List (Int × Int)) (j : Nat) : (nbJ k l j).size ≤ 4 * j := by
  have e : (nbJ k l j).size = (flE (nmEn k (l.take j))).length := by simp [nbJ, ByteArray.size]
  rw [e, flE_len]
  simp [nmEn]
  omega
theorem nbJ_next {k : Nat} {l : List (Int × Int)} {j : Nat} (h : j < l.length) : nbJ k l (j + 1) = nbJ k l j ++ ⟨(ebL k (btAt l j) (idAt l j)).toArray⟩ := by
  apply ByteArray.ext
  apply Array.toList_inj.1
  rw [nbJ, take_next2 h]
  simp [nbJ, nmEn, flE_app, flE_one, ebE, ByteArray.data_append]
def abX (u g : Int) (us gs : List (Int × Int)) : ByteArray := ⟨#[2]⟩ ++ enB 1 u ++ nbJ 2 us us.length ++ enB 4 g ++ nbJ 8 gs gs.length
def abZ (x : ByteArray) (r : Bool) (m : Int) : ByteArray := if r then x ++ enB 16 m else x
/-- AclBytes. -/
def abT (u g o : Int) (us gs : List (Int × Int)) (r : Bool) (m : Int) : ByteArray := ⟨(Al.Y ⟨u, g, o, us, gs, r, m⟩).toArray⟩
theorem abT_no {u g o : Int} {us gs : List (Int × Int)} {r : Bool} {m : Int} (h : aclB u g o us gs r m = false) : abT u g o us gs r m = ⟨#[]⟩ := by
  have h2 : Al.B ⟨u, g, o, us, gs, r, m⟩ = false := h
  rw [abT, Al.Y, h2]
  rfl
theorem abT_yes {u g o : Int} {us gs : List (Int × Int)} {r : Bool} {m : Int} (h : aclB u g o us gs r m = true) : abT u g o us gs r m = abZ (abX u g us gs) r m ++ enB 32 o := by
  have h2 : Al.B ⟨u, g, o, us, gs, r, m⟩ = true := h
  rw [abT, Al.Y, if_pos h2]
  apply ByteArray.ext
  apply Array.toList_inj.1
  cases r <;> simp [abZ, abX, Al.E, flE_app, flE_cons, flE_nil, ebE, enB, nbJ, ByteArray.data_append]
theorem abX_size {u g : Int} {us gs : List (Int × Int)} (hu : us.length ≤ 6) (hg : gs.length ≤ 6) : (abX u g us gs).size ≤ 250 := by
  have h1 := nbJ_size 2 us us.length
  have h2 := nbJ_size 8 gs gs.length
  have e1 : (⟨#[2]⟩ : ByteArray).size = 1 := rfl
  simp only [abX, ByteArray.size_append, enB_size]
  omega
theorem ret_strB {a b : ByteArray} (h : a = b) : Ending.returned (.string a) = .returned (.string b) := by rw [h]
/-- Ids and bits that may stand there. -/
def PrsIn (l : List (Int × Int)) : Prop := ∀ k, k < l.length → (0 ≤ idAt l k ∧ idAt l k ≤ 9999) ∧ (0 ≤ btAt l k ∧ btAt l k ≤ 7)
theorem nm_prs {l : List (Int × Int)} (h : nmB l = true) : PrsIn l := fun k hk => ok_at h hk
set_option maxRecDepth 100000 in
set_option maxHeartbeats 4000000 in
/-- spec.l06Named. -/
theorem sNamB_any (kd : Nat) (hkd : kd < 256) (a : Option Addr) (len cap : Nat) (l : List (Int × Int)) (hl : len ≤ 6) (hid : PrsIn l) (w : World) (hi : Prs a len l w) :
    Calls Try.prog 24 #[.int .u8 kd, .slice a len cap] w fun e w' => e = .returned (.string (nbJ kd l len)) ∧ Below w.heap.size w w' := by
  have HD : Hid (∀ k w, k < len → Calls Try.prog 23 #[.int .u8 kd, .int .i64 (btAt l k), .int .i64 (idAt l k)] w fun e w' => e = .returned (.string ⟨(ebL kd (btAt l k) (idAt l k)).toArray⟩) ∧ Below w.heap.size w w') := (fun k w hk => by
    have h1 := hid k (by rw [hi.1]; exact hk)
    exact sEntB_id kd hkd _ _ h1.2 ⟨h1.1.1, by omega⟩ w)
  have HS : Hid (∀ k, k ≤ len → (nbJ kd l k).size ≤ 24) := (fun k hk => by have := nbJ_size kd l k; omega)
  have HN : Hid (∀ k, k < len → nbJ kd l (k + 1) = nbJ kd l k ++ ⟨(ebL kd (btAt l k) (idAt l k)).toArray⟩) := (fun k hk => nbJ_next (by rw [hi.1]; exact hk))
  have HI : Hid (Prs a len l w) := hi
  clear hi hid hkd
  go_enter Try.func24, Try.ntmps24
  go_wp2
  go_loopw [5, 6] (fun s i wr => ∃ k : Nat, k ≤ len ∧ i = .int .i64 k ∧ s = .string (nbJ kd l k) ∧ Hid (Below w.heap.size w wr)) (fun _ i _ => len - (intOf i).toNat)
  case atStart => exact ⟨0, Nat.zero_le _, rfl, rfl, Below.refl _ _⟩
  case round =>
    obtain ⟨k, hk, rfl, rfl, hB⟩ := hrel
    by_cases hlt : k < len
    · have hlt' : (k : Int) < (len : Int) := by omega
      obtain ⟨b, off, rfl, hbl, hcl⟩ := HI.out.2 (by omega)
      have c0 : wr.cell? ⟨b, off + k * 2, none⟩ = some (.int .i64 (idAt l k)) := (hB.out.cell (p := ⟨b, off + k * 2, none⟩) hbl).trans (hcl k hlt).1
      have c1 : wr.cell? ⟨b, off + k * 2 + 1, none⟩ = some (.int .i64 (btAt l k)) := (hB.out.cell (p := ⟨b, off + k * 2 + 1, none⟩) hbl).trans (hcl k hlt).2
      have d0 : Hid (∀ w, Calls Try.prog 23 #[.int .u8 kd, .int .i64 (btAt l k), .int .i64 (idAt l k)] w fun e w' => e = .returned (.string ⟨(ebL kd (btAt l k) (idAt l k)).toArray⟩) ∧ Below w.heap.size w w') := (fun w => HD.out k w hlt)
      have hn : Hid _ := HN.out k hlt
      have s0 := HS.out k hk
      have s1 : (⟨(ebL kd (btAt l k) (idAt l k)).toArray⟩ : ByteArray).size = 4 := rfl
      clear hcl
      generalize nbJ kd l k = T at s0 hn
      generalize (⟨(ebL kd (btAt l k) (idAt l k)).toArray⟩ : ByteArray) = D at d0 s1 hn
      generalize idAt l k = x at c0 d0
      generalize btAt l k = y at c1 d0
      have q0 := fun d os => cell_regrown c0 d os
      have q1 := fun d os => cell_regrown c1 d os
      have r0 : ∀ d os, Calls Try.prog 23 #[.int .u8 kd, .int .i64 y, .int .i64 x] (Go.Sort.grow (redrawn wr d) os) fun e w'' => e = .returned (.string D) ∧ ∃ p : Regrown, w'' = Go.Sort.grow (redrawn wr p.d) p.os := fun d os => Calls.regrown_of (d0.out _)
      go_wp2_with fail
      refine wp_region_quiet_below (by kernel_rfl) (by kernel_rfl) ?_
      repeat (go_big_quiet_step (first | (go_at_call 23; exact r0 _ _)))
      refine wpQuiet_nil ?_
      intro _ hw'
      obtain ⟨⟨dq, osq⟩, hw''⟩ := hw'
      subst hw''
      have hB2 : Hid (Below w.heap.size w (Go.Sort.grow (redrawn wr dq) osq)) := Below.on hB.out (below_regrown wr dq osq)
      generalize Go.Sort.grow (redrawn wr dq) osq = w2 at hB2 ⊢
      clear q0 q1 r0 c0 c1 d0
      go_wp2
      go_roundw
      case rel => exact ⟨k + 1, by omega, by go_num, by rw [hn.out], hB2⟩
      case measure => simp [intOf]; omega
    · have : k = len := by omega
      subst this
      go_wp2
      go_ret
      exact ⟨rfl, hB.out⟩
set_option maxRecDepth 100000 in
set_option maxHeartbeats 4000000 in
/-- spec.AclBytes. -/
theorem sAclBytes_any (u g o : Int) (au : Option Addr) (lu cu : Nat) (ag : Option Addr) (lg cg : Nat) (r : Bool) (m : Int) (us gs : List (Int × Int)) (hlu : lu ≤ 1048576) (hlg : lg ≤ 1048576) (w : World) (hu : Prs au lu us w) (hg : Prs ag lg gs w) :
    Calls Try.prog 7 #[.agg #[.int .i64 u, .int .i64 g, .int .i64 o, .slice au lu cu, .slice ag lg cg, .bool r, .int .i64 m]] w fun e w' => e = .returned (.string (abT u g o us gs r m)) ∧ Below w.heap.size w w' := by
  have hR : Hid (∀ w', Below w.heap.size w w' → Calls Try.prog 22 #[.agg #[.int .i64 u, .int .i64 g, .int .i64 o, .slice au lu cu, .slice ag lg cg, .bool r, .int .i64 m]] w' fun e w'' => e = .returned (.bool (aclB u g o us gs r m)) ∧ Below w'.heap.size w' w'') := (fun w' hb => sAclRight_any u g o au lu cu ag lg cg r m us gs hlu hlg w' (hu.below hb) (hg.below hb))
  have hX0 : Hid (Box7 (w.alloc (.cells #[.int .i64 u, .int .i64 g, .int .i64 o, .slice au lu cu, .slice ag lg cg, .bool r, .int .i64 m] 29)) w.heap.size (.int .i64 u) (.int .i64 g) (.int .i64 o) (.slice au lu cu) (.slice ag lg cg) (.bool r) (.int .i64 m)) := box7_new w _ _ _ _ _ _ _ _
  have hW0 : Hid (Below w.heap.size w (w.alloc (.cells #[.int .i64 u, .int .i64 g, .int .i64 o, .slice au lu cu, .slice ag lg cg, .bool r, .int .i64 m] 29))) := bel_alloc _ _
  cases hb : aclB u g o us gs r m
  · rw [abT_no hb]
    rw [hb] at hR
    clear hb hu hg hlu hlg
    obtain ⟨xl, x0, x1, x2, x3, x4, x5, x6⟩ := hX0.out
    go_enter Try.func7, Try.ntmps7
    go_wp2_with fail
    refine (hR.out _ hW0.out).mono ?_
    rintro e w1 ⟨rfl, hb1⟩
    have hW1 : Hid (Below w.heap.size w w1) := Below.on hW0.out hb1
    clear hb1 hR xl x0 x1 x2 x3 x4 x5 x6
    go_wp2
    go_ret
    exact ⟨rfl, hW1.out⟩
  · obtain ⟨pu, pg, po, pm, nu, ng, _⟩ := al_parts (a := ⟨u, g, o, us, gs, r, m⟩) hb
    have pu : 0 ≤ u ∧ u ≤ 7 := pu
    have pg : 0 ≤ g ∧ g ≤ 7 := pg
    have po : 0 ≤ o ∧ o ≤ 7 := po
    have pm : 0 ≤ m ∧ m ≤ 7 := pm
    have nu : nmB us = true := nu
    have ng : nmB gs = true := ng
    have HT : Hid (abT u g o us gs r m = abZ (abX u g us gs) r m ++ enB 32 o) := abT_yes hb
    rw [hb] at hR
    have eu := hu.1
    have eg := hg.1
    have lu6 := nm_len nu
    have lg6 := nm_len ng
    have HU : Hid (∀ w', Below w.heap.size w w' → Calls Try.prog 24 #[.int .u8 2, .slice au lu cu] w' fun e w'' => e = .returned (.string (nbJ 2 us us.length)) ∧ Below w'.heap.size w' w'') := (fun w' hb => by rw [eu]; exact sNamB_any 2 (by decide) au lu cu us (by omega) (nm_prs nu) w' (hu.below hb))
    have HG : Hid (∀ w', Below w.heap.size w w' → Calls Try.prog 24 #[.int .u8 8, .slice ag lg cg] w' fun e w'' => e = .returned (.string (nbJ 8 gs gs.length)) ∧ Below w'.heap.size w' w'') := (fun w' hb => by rw [eg]; exact sNamB_any 8 (by decide) ag lg cg gs (by omega) (nm_prs ng) w' (hg.below hb))
    have zu : (nbJ 2 us us.length).size ≤ 24 := by have := nbJ_size 2 us us.length; omega
    have zg : (nbJ 8 gs gs.length).size ≤ 24 := by have := nbJ_size 8 gs gs.length; omega
    have HX : Hid (abX u g us gs = ⟨#[2]⟩ ++ enB 1 u ++ nbJ 2 us us.length ++ enB 4 g ++ nbJ 8 gs gs.length) := rfl
    have zx : (abX u g us gs).size ≤ 250 := abX_size lu6 lg6
    have b0 := enB_size 1 u
    have b1 := enB_size 4 g
    have b2 := enB_size 32 o
    have b3 := enB_size 16 m
    have hu0 : Hid (∀ w, Calls Try.prog 23 #[.int .u8 1, .int .i64 u, .int .i64 (-1)] w fun e w' => e = .returned (.string (enB 1 u)) ∧ Below w.heap.size w w') := sEntB_no 1 (by decide) u pu
    have hg0 : Hid (∀ w, Calls Try.prog 23 #[.int .u8 4, .int .i64 g, .int .i64 (-1)] w fun e w' => e = .returned (.string (enB 4 g)) ∧ Below w.heap.size w w') := sEntB_no 4 (by decide) g pg
    have ho0 : Hid (∀ w, Calls Try.prog 23 #[.int .u8 32, .int .i64 o, .int .i64 (-1)] w fun e w' => e = .returned (.string (enB 32 o)) ∧ Below w.heap.size w w') := sEntB_no 32 (by decide) o po
    have hm0 : Hid (∀ w, Calls Try.prog 23 #[.int .u8 16, .int .i64 m, .int .i64 (-1)] w fun e w' => e = .returned (.string (enB 16 m)) ∧ Below w.heap.size w w') := sEntB_no 16 (by decide) m pm
    have HY : Hid (∀ X, abZ X r m = if r then X ++ enB 16 m else X) := (fun X => rfl)
    clear hb hu hg hlu hlg nu ng eu eg lu6 lg6 pu pg po pm
    generalize abT u g o us gs r m = R at HT ⊢
    generalize abX u g us gs = XX at HX zx HT
    generalize nbJ 2 us us.length = NU at HU zu HX
    generalize nbJ 8 gs gs.length = NG at HG zg HX
    generalize enB 1 u = BU at hu0 b0 HX
    generalize enB 4 g = BG at hg0 b1 HX
    generalize enB 32 o = BO at ho0 b2 HT
    generalize enB 16 m = BM at hm0 b3 HY
    have y0 : (⟨#[2]⟩ : ByteArray).size = 1 := rfl
    obtain ⟨xl, x0, x1, x2, x3, x4, x5, x6⟩ := hX0.out
    go_enter Try.func7, Try.ntmps7
    go_wp2_with fail
    refine (hR.out _ hW0.out).mono ?_
    rintro e w1 ⟨rfl, hb1⟩
    have hW1 : Hid (Below w.heap.size w w1) := Below.on hW0.out hb1
    have hX1 : Hid (Box7 w1 w.heap.size (.int .i64 u) (.int .i64 g) (.int .i64 o) (.slice au lu cu) (.slice ag lg cg) (.bool r) (.int .i64 m)) := hX0.out.below hb1
    clear hb1 hR xl x0 x1 x2 x3 x4 x5 x6 hX0 hW0
    obtain ⟨xl, x0, x1, x2, x3, x4, x5, x6⟩ := hX1.out
    have q0 := fun d os => cell_regrown x0 d os
    have q1 := fun d os => cell_regrown x1 d os
    have q3 := fun d os => cell_regrown x3 d os
    have q4 := fun d os => cell_regrown x4 d os
    have r0 : ∀ d os, Calls Try.prog 23 #[.int .u8 1, .int .i64 u, .int .i64 (-1)] (Go.Sort.grow (redrawn w1 d) os) fun e w'' => e = .returned (.string BU) ∧ ∃ p : Regrown, w'' = Go.Sort.grow (redrawn w1 p.d) p.os := fun d os => Calls.regrown_of (hu0.out _)
    have r1 : ∀ d os, Calls Try.prog 24 #[.int .u8 2, .slice au lu cu] (Go.Sort.grow (redrawn w1 d) os) fun e w'' => e = .returned (.string NU) ∧ ∃ p : Regrown, w'' = Go.Sort.grow (redrawn w1 p.d) p.os := fun d os => Calls.regrown_of (HU.out _ (Below.on hW1.out (below_regrown w1 d os)))
    have r2 : ∀ d os, Calls Try.prog 23 #[.int .u8 4, .int .i64 g, .int .i64 (-1)] (Go.Sort.grow (redrawn w1 d) os) fun e w'' => e = .returned (.string BG) ∧ ∃ p : Regrown, w'' = Go.Sort.grow (redrawn w1 p.d) p.os := fun d os => Calls.regrown_of (hg0.out _)
    have r3 : ∀ d os, Calls Try.prog 24 #[.int .u8 8, .slice ag lg cg] (Go.Sort.grow (redrawn w1 d) os) fun e w'' => e = .returned (.string NG) ∧ ∃ p : Regrown, w'' = Go.Sort.grow (redrawn w1 p.d) p.os := fun d os => Calls.regrown_of (HG.out _ (Below.on hW1.out (below_regrown w1 d os)))
    go_wp2_with fail
    refine wp_region_quiet_below (by kernel_rfl) (by kernel_rfl) ?_
    repeat (go_big_quiet_step (fail))
    go_big_quiet_step (exact r0 _ _)
    repeat (go_big_quiet_step (fail))
    go_big_quiet_step (exact r1 _ _)
    repeat (go_big_quiet_step (fail))
    go_big_quiet_step (exact r2 _ _)
    repeat (go_big_quiet_step (fail))
    go_big_quiet_step (exact r3 _ _)
    repeat (go_big_quiet_step (fail))
    refine wpQuiet_nil ?_
    intro _ hw'
    obtain ⟨⟨dq, osq⟩, hw''⟩ := hw'
    subst hw''
    have hbq := below_regrown w1 dq osq
    have hW2 : Hid (Below w.heap.size w (Go.Sort.grow (redrawn w1 dq) osq)) := Below.on hW1.out hbq
    have hX2 : Hid (Box7 (Go.Sort.grow (redrawn w1 dq) osq) w.heap.size (.int .i64 u) (.int .i64 g) (.int .i64 o) (.slice au lu cu) (.slice ag lg cg) (.bool r) (.int .i64 m)) := hX1.out.below hbq
    generalize Go.Sort.grow (redrawn w1 dq) osq = w2 at hW2 hX2 ⊢
    rw [← HX.out]
    clear q0 q1 q3 q4 r0 r1 r2 r3 hbq xl x0 x1 x2 x3 x4 x5 x6 hX1 hW1 HU HG hu0 hg0 HX zu zg b0 b1 y0
    obtain ⟨xl, x0, x1, x2, x3, x4, x5, x6⟩ := hX2.out
    cases r
    · have hy : Hid (R = XX ++ BO) := (by show _ = _; rw [HT.out, HY.out]; rfl)
      go_wp2_with fail
      refine (ho0.out _).mono ?_
      rintro e w3 ⟨rfl, hb3⟩
      have hW3 : Hid (Below w.heap.size w w3) := Below.on hW2.out hb3
      clear hb3 xl x0 x1 x2 x3 x4 x5 x6
      go_wp2
      go_ret
      exact ⟨ret_strB hy.out.symm, hW3.out⟩
    · have hy : Hid (R = XX ++ BM ++ BO) := (by show _ = _; rw [HT.out, HY.out]; rfl)
      go_wp2_with fail
      refine (hm0.out _).mono ?_
      rintro e w3 ⟨rfl, hb3⟩
      have hW3 : Hid (Below w.heap.size w w3) := Below.on hW2.out hb3
      have hX3 : Hid (Box7 w3 w.heap.size (.int .i64 u) (.int .i64 g) (.int .i64 o) (.slice au lu cu) (.slice ag lg cg) (.bool true) (.int .i64 m)) := hX2.out.below hb3
      clear hb3 xl x0 x1 x2 x3 x4 x5 x6
      obtain ⟨xl, x0, x1, x2, x3, x4, x5, x6⟩ := hX3.out
      go_wp2_with fail
      refine (ho0.out _).mono ?_
      rintro e w4 ⟨rfl, hb4⟩
      have hW4 : Hid (Below w.heap.size w w4) := Below.on hW3.out hb4
      clear hb4 xl x0 x1 x2 x3 x4 x5 x6
      go_wp2
      go_ret
      exact ⟨ret_strB hy.out.symm, hW4.out⟩
end Go.Proofs.Ytddkmlkfphmdoaa
