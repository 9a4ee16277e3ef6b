/- Laid together: TrI9, TrJ, TrK. -/
import Derived.Test.YtgodbelcddgdmaaGreatNF11
/- The program's isReached, allReached. -/
namespace Go.Proofs.YtgodbelcddgdmaaGreat
open Go.RowKit Go.PlainAid Go.Deep
set_option linter.unusedVariables false
/-- From the directory of number m, whose Up is u, one comes to the first node, in fewer than f steps. -/
def riB (l : List Nd) : Nat → Int → Int → Bool
  | 0, _, _ => false
  | f + 1, m, u => m == 1 || (if diB l u then riB l f u (ndAt l (u - 1).toNat).up else riB l f 0 0)
theorem BoxW.whole {w : World} {B : Nat} {cs vs : List Value} (h : BoxW w B cs) (hl : vs.length = cs.length) : BoxW (w.setCells B 0 vs) B vs :=
  ⟨by rw [size_setCellsT]; exact h.lt, World.rangeAt_setCells_same _ _ _ _ (h.there 0 _ (by omega)), fun j => by rw [World.frozen?_setCells]; exact h.frz j⟩
theorem DW.c {w : World} {B : Nat} {x : Nd} {y : Na} {n : Int} (h : BoxW w B (drV x y n)) : w.cell? ⟨B, 20, none⟩ = some (.int .i64 x.up) ∧ w.cell? ⟨B, 24, none⟩ = some (.int .i64 n) := ⟨h.at0 20 _ rfl, h.at0 24 _ rfl⟩
set_option maxRecDepth 20000 in
set_option maxHeartbeats 8000000 in
/-- impl.isReached. -/
theorem iReached_any (a : Option Addr) (len cap : Nat) (l : List Nd) (now : Int) (x : Nd) (y : Na) (n : Int) (hl : len ≤ 1048576) (w : World) (hi : Nds a len l w) :
    Calls Tryz.prog 65 #[.agg #[.slice a len cap, .int .i64 now], .agg (drV x y n).toArray] w fun e w' => e = .returned (.bool (riB l len n x.up)) ∧ Below w.heap.size w w' := by
  have HI : Hid (Nds a len l w) := hi
  have hll := hi.1
  clear hi
  have HX : Hid (BoxR ((w.alloc (.cells #[.slice a len cap, .int .i64 now] 35)).alloc (.cells (drV x y n).toArray 84)) w.heap.size [.slice a len cap, .int .i64 now]) := (boxR_new w [.slice a len cap, .int .i64 now] 35).below (bel_alloc _ _)
  have HZ : Hid (BoxW ((w.alloc (.cells #[.slice a len cap, .int .i64 now] 35)).alloc (.cells (drV x y n).toArray 84)) (w.heap.size + 1) (drV x y n)) := (by
    have h := boxW_new (w.alloc (.cells #[.slice a len cap, .int .i64 now] 35)) (drV x y n) 84
    simp only [World.size_alloc] at h
    exact h)
  have HB : Hid (Below w.heap.size w ((w.alloc (.cells #[.slice a len cap, .int .i64 now] 35)).alloc (.cells (drV x y n).toArray 84))) := bl2T _ _ _
  go_enter Tryz.func65, Tryz.ntmps65
  go_upto_region 1 with fail
  generalize ((w.alloc (.cells #[.slice a len cap, .int .i64 now] 35)).alloc (.cells (drV x y n).toArray 84)) = w0 at HX HZ HB ⊢
  obtain ⟨X, hX⟩ : ∃ X, X = w.heap.size := ⟨_, rfl⟩
  have HXw : Hid (X = w.heap.size) := hX
  rw [← hX] at HX HZ ⊢
  clear hX
  have t0 : w0.cell? ⟨X, 0, none⟩ = some (.slice a len cap) := HX.out.at0 0 _ rfl
  have t1 : w0.cell? ⟨X, 1, none⟩ = some (.int .i64 now) := HX.out.at0 1 _ rfl
  go_wp2
  go_loopw [8] (fun i wr => ∃ (k : Nat) (u : Nd) (yu : Na) (m : Int), k ≤ len ∧ i = .int .i64 k ∧ Hid (riB l len n x.up = riB l (len - k) m u.up) ∧ Hid (Below w.heap.size w wr) ∧ Hid (BoxR wr X [.slice a len cap, .int .i64 now]) ∧ Hid (BoxW wr (X + 1) (drV u yu m))) (fun i _ => len - (intOf i).toNat)
  case atStart => exact ⟨0, x, y, n, Nat.zero_le _, rfl, rfl, HB, HX, HZ⟩
  case round =>
    obtain ⟨k, u, yu, m, hk, rfl, hR, hB, hX, hZ⟩ := hrel
    clear t0 t1
    have t0 : wr.cell? ⟨X, 0, none⟩ = some (.slice a len cap) := hX.out.at0 0 _ rfl
    have t1 : wr.cell? ⟨X, 1, none⟩ = some (.int .i64 now) := hX.out.at0 1 _ rfl
    obtain ⟨c20, c24⟩ := DW.c hZ.out
    by_cases hlt : k < len
    · have hlt' : (k : Int) < (len : Int) := by omega
      obtain ⟨f, hfu⟩ : ∃ f, len - k = f + 1 := ⟨len - k - 1, by omega⟩
      have hfk : len - (k + 1) = f := by omega
      rw [hfu] at hR
      by_cases e1 : m = 1
      · subst e1
        have hyes : Hid (riB l len n x.up = true) := (by show _ = _; rw [hR.out]; simp [riB])
        go_wp2
        go_ret
        exact ⟨ret_boolW hyes.out.symm, hB.out⟩
      · have e2 : (m == 1) = false := by simp [e1]
        cases hd : diB l u.up
        · have hst : Hid (riB l len n x.up = riB l f 0 ndZ.up) := (by show _ = _; rw [hR.out]; simp [riB, e1, hd, ndZ])
          have HC : Hid (Calls Tryz.prog 88 #[.agg #[.slice a len cap, .int .i64 now], .int .i64 u.up] wr fun e w'' => e = .returned (.tuple #[.agg (drV ndZ naZ 0).toArray, .bool false]) ∧ Below wr.heap.size wr w'') := iDirAt_no a len cap l now u.up hl wr (HI.out.below hB.out) hd
          clear e1 hR hd
          go_wp2_with fail
          refine (HC.out).mono ?_
          rintro e w1 ⟨rfl, hb⟩
          have HB1 : Hid (Below w.heap.size w w1) := Below.on hB.out hb
          have HX1 : Hid (BoxR w1 X [.slice a len cap, .int .i64 now]) := hX.out.below hb
          have HZ1 : Hid (BoxW w1 (X + 1) (drV u yu m)) := hZ.out.below hb
          have HB2 : Hid (Below w.heap.size w (w1.setCells (X + 1) 0 (drV ndZ naZ 0))) := bl_setsT (by have := HXw.out; omega) _ _ HB1.out
          have HX2 : Hid (BoxR (w1.setCells (X + 1) 0 (drV ndZ naZ 0)) X [.slice a len cap, .int .i64 now]) := HX1.out.others (by omega)
          have HZ2 : Hid (BoxW (w1.setCells (X + 1) 0 (drV ndZ naZ 0)) (X + 1) (drV ndZ naZ 0)) := HZ1.out.whole (by rw [drV_len, drV_len])
          clear hb hB hX hZ t0 t1 c20 c24
          go_wp2_with (refine wpList_store_list (by rfl) 84 _ _ (by rfl) _ _ (drV ndZ naZ 0) (by rfl) (by rfl) (by rw [drV_len]; exact HZ1.out.there 0 25 (by rw [drV_len]; omega)) (by kernel_rfl) (drV_ones _ _ _) ?_)
          go_roundw
          case rel => exact ⟨k + 1, ndZ, naZ, 0, by omega, by go_num, by rw [hfk]; exact hst, HB2, HX2, HZ2⟩
          case measure => simp [intOf]; omega
        · have hin := inR_iff.1 (thB_num (diB_th hd))
          obtain ⟨j, hj⟩ : ∃ j : Nat, u.up = (j : Int) + 1 := ⟨(u.up - 1).toNat, by omega⟩
          have hst : Hid (riB l len n x.up = riB l f ((j : Int) + 1) (ndAt l j).up) := (by show _ = _; rw [hR.out]; simp only [riB, e2, hd, if_true, Bool.false_or]; rw [hj, at_succ])
          have HC : Hid (Calls Tryz.prog 88 #[.agg #[.slice a len cap, .int .i64 now], .int .i64 u.up] wr fun e w'' => ∃ yk, e = .returned (.tuple #[.agg (drV (ndAt l j) yk ((j : Int) + 1)).toArray, .bool true]) ∧ NdIn w'' (ndAt l j) yk ∧ Below wr.heap.size wr w'') := (by rw [hj]; exact iDirAt_yes a len cap l now j hl wr (HI.out.below hB.out) (by rw [← hj]; exact hd))
          clear e1 hR hd hin hj
          go_wp2_with fail
          refine (HC.out).mono ?_
          rintro e w1 ⟨yk, rfl, _, hb⟩
          have HB1 : Hid (Below w.heap.size w w1) := Below.on hB.out hb
          have HX1 : Hid (BoxR w1 X [.slice a len cap, .int .i64 now]) := hX.out.below hb
          have HZ1 : Hid (BoxW w1 (X + 1) (drV u yu m)) := hZ.out.below hb
          have HB2 : Hid (Below w.heap.size w (w1.setCells (X + 1) 0 (drV (ndAt l j) yk ((j : Int) + 1)))) := bl_setsT (by have := HXw.out; omega) _ _ HB1.out
          have HX2 : Hid (BoxR (w1.setCells (X + 1) 0 (drV (ndAt l j) yk ((j : Int) + 1))) X [.slice a len cap, .int .i64 now]) := HX1.out.others (by omega)
          have HZ2 : Hid (BoxW (w1.setCells (X + 1) 0 (drV (ndAt l j) yk ((j : Int) + 1))) (X + 1) (drV (ndAt l j) yk ((j : Int) + 1))) := HZ1.out.whole (by rw [drV_len, drV_len])
          clear hb hB hX hZ t0 t1 c20 c24
          go_wp2_with (refine wpList_store_list (by rfl) 84 _ _ (by rfl) _ _ (drV (ndAt l j) yk ((j : Int) + 1)) (by rfl) (by rfl) (by rw [drV_len]; exact HZ1.out.there 0 25 (by rw [drV_len]; omega)) (by kernel_rfl) (drV_ones _ _ _) ?_)
          go_roundw
          case rel => exact ⟨k + 1, ndAt l j, yk, (j : Int) + 1, by omega, by go_num, by rw [hfk]; exact hst, HB2, HX2, HZ2⟩
          case measure => simp [intOf]; omega
    · have : k = len := by omega
      subst this
      have hno : Hid (riB l k n x.up = false) := (by show _ = _; rw [hR.out, Nat.sub_self]; rfl)
      go_wp2
      go_ret
      exact ⟨ret_boolW hno.out.symm, hB.out⟩
def rchB (l : List Nd) (f : Nat) (d : Nd × Na × Int) : Bool := riB l f d.2.2 d.1.up
theorem all_take {p : Nd × Na × Int → Bool} {ds : List (Nd × Na × Int)} {j : Nat} (hj : j < ds.length) : (ds.take (j + 1)).all p = ((ds.take j).all p && p ds[j]) := by
  rw [← List.take_append_getElem hj, List.all_append]
  simp only [List.all_cons, List.all_nil, Bool.and_true]
theorem all_false {p : Nd × Na × Int → Bool} {ds : List (Nd × Na × Int)} {j : Nat} (hj : j < ds.length) (h : p ds[j] = false) : ds.all p = false := by
  cases e : ds.all p
  · rfl
  · rw [List.all_eq_true] at e
    rw [e _ (List.getElem_mem hj)] at h
    cases h
/-- Each directory among the first k nodes is reached. -/
def allR (l : List Nd) (f : Nat) : Nat → Bool
  | 0 => true
  | k + 1 => allR l f k && (if (ndAt l k).k == 1 then riB l f ((k : Int) + 1) (ndAt l k).up else true)
theorem all_dirs (l : List Nd) (Y : Nat → Na) (f : Nat) : ∀ k, (dirsOf l Y k).all (rchB l f) = allR l f k
  | 0 => rfl
  | k + 1 => by
    simp only [dirsOf, allR]
    cases h : ((ndAt l k).k == 1)
    · simp [all_dirs l Y f k]
    · simp only [if_true, List.all_append, all_dirs l Y f k]
      simp [rchB]
set_option maxRecDepth 20000 in
set_option maxHeartbeats 8000000 in
/-- impl.allReached. -/
theorem iAllR_any (a : Option Addr) (len cap : Nat) (l : List Nd) (now : Int) (hl : len ≤ 12) (w : World) (hi : Nds a len l w) :
    Calls Tryz.prog 39 #[.agg #[.slice a len cap, .int .i64 now]] w fun e w' => e = .returned (.bool (allR l len len)) ∧ Below w.heap.size w w' := by
  obtain ⟨b, off, Y, hY⟩ : ∃ (b off : Nat) (Y : Nat → Na), (0 < len → a = some ⟨b, off, none⟩ ∧ b < w.heap.size) ∧ ∀ i, i < len → N24 w b (off + i * 24) (ndAt l i) (Y i) := by
    by_cases h0 : 0 < len
    · obtain ⟨b, off, Y, h1, h2, h3⟩ := hi.2 h0
      exact ⟨b, off, Y, fun _ => ⟨h1, h2⟩, fun i hi => (h3 i hi).1⟩
    · exact ⟨0, 0, fun _ => naZ, fun h => absurd h h0, fun i hi => absurd hi (by omega)⟩
  have HA : Hid (∀ w', Below w.heap.size w w' → (0 < len → a = some ⟨b, off, none⟩ ∧ b < w'.heap.size)) := (fun w' hb h => ⟨(hY.1 h).1, Nat.lt_of_lt_of_le (hY.1 h).2 hb.size⟩)
  have HC : Hid (∀ w', Below w.heap.size w w' → ∀ i, i < len → N24 w' b (off + i * 24) (ndAt l i) (Y i)) := (fun w' hb i hi => range_below (hY.2 i hi) (hY.1 (by omega)).2 hb)
  have HI : Hid (Nds a len l w) := hi
  have HE : Hid ((dirsOf l Y len).all (rchB l len) = allR l len len) := all_dirs l Y len len
  have hdl := dirsOf_len l Y len
  have hlm : len ≤ 1048576 := by omega
  clear hi hY
  have HB : Hid (Below w.heap.size w (w.alloc (.cells #[.slice a len cap, .int .i64 now] 35))) := bel_alloc _ _
  have HX : Hid (BoxR (w.alloc (.cells #[.slice a len cap, .int .i64 now] 35)) w.heap.size [.slice a len cap, .int .i64 now]) := boxR_new _ _ _
  go_enter Tryz.func39, Tryz.ntmps39
  go_upto_region 1 with fail
  generalize (w.alloc (.cells #[.slice a len cap, .int .i64 now] 35)) = w0 at HB HX ⊢
  obtain ⟨X, hX⟩ : ∃ X, X = w.heap.size := ⟨_, rfl⟩
  rw [← hX] at HX ⊢
  clear hX
  have t0 : w0.cell? ⟨X, 0, none⟩ = some (.slice a len cap) := HX.out.at0 0 _ rfl
  have t1 : w0.cell? ⟨X, 1, none⟩ = some (.int .i64 now) := HX.out.at0 1 _ rfl
  go_wp2_with fail
  refine (iDirs_any a len cap l now Y b off hl _ (HA.out _ HB.out) (HC.out _ HB.out)).mono ?_
  rintro e w1 ⟨v, rfl, hO, hb⟩
  have HB1 : Hid (Below w.heap.size w w1) := Below.on HB.out hb
  have HX1 : Hid (BoxR w1 X [.slice a len cap, .int .i64 now]) := HX.out.below hb
  obtain ⟨a1, cap1, rfl, hrow⟩ := ds_of_row hO
  have HR : Hid _ := hrow
  clear hb hO hrow HB HX t0 t1 HA HC
  generalize dirsOf l Y len = ds at HE hdl HR ⊢
  go_wp2
  go_loopw [8] (fun i wr => ∃ j : Nat, j ≤ ds.length ∧ i = .int .i64 j ∧ Hid ((ds.take j).all (rchB l len) = true) ∧ Hid (Below w1.heap.size w1 wr)) (fun i _ => ds.length - (intOf i).toNat)
  case atStart => exact ⟨0, Nat.zero_le _, rfl, rfl, Below.refl _ _⟩
  case round =>
    obtain ⟨j, hj, rfl, hto, hB⟩ := hrel
    by_cases hlt : j < ds.length
    · obtain ⟨g, rfl, hg, hr⟩ := HR.out j hlt
      have hlt' : (j : Int) < (ds.length : Int) := by omega
      have hj0 : (0 : Int) ≤ (j : Int) := by omega
      have HG : Hid (wr.rangeAt g (j * 25) (drV (ds[j]).1 (ds[j]).2.1 (ds[j]).2.2)) := range_below hr hg hB.out
      have HS : Hid ((ds.take (j + 1)).all (rchB l len) = ((ds.take j).all (rchB l len) && riB l len (ds[j]).2.2 (ds[j]).1.up)) := all_take hlt
      have HF : Hid (riB l len (ds[j]).2.2 (ds[j]).1.up = false → allR l len len = false) := (fun h => by rw [← HE.out]; exact all_false hlt h)
      clear hr
      generalize (ds[j]).1 = x at HG HS HF
      generalize (ds[j]).2.1 = y at HG
      generalize (ds[j]).2.2 = m at HG HS HF
      have hbN : Below wr.heap.size wr ((wr.alloc (.cells #[.int .i64 0, .int .i64 0, .int .i64 0, .int .i64 0, .int .i64 0, .int .i64 0, .int .i64 0, .slice none 0 0, .slice none 0 0, .bool false, .int .i64 0, .bool false, .int .i64 0, .int .i64 0, .int .i64 0, .slice none 0 0, .slice none 0 0, .bool false, .int .i64 0, .int .i64 0, .int .i64 0, .string ⟨#[]⟩, .slice none 0 0, .int .i64 0, .int .i64 0] 84)).setCells wr.heap.size 0 (drV x y m)) := bl_setsT (Nat.le_refl _) _ _ (bel_alloc _ _)
      have HBn : Hid (Below w1.heap.size w1 ((wr.alloc (.cells #[.int .i64 0, .int .i64 0, .int .i64 0, .int .i64 0, .int .i64 0, .int .i64 0, .int .i64 0, .slice none 0 0, .slice none 0 0, .bool false, .int .i64 0, .bool false, .int .i64 0, .int .i64 0, .int .i64 0, .slice none 0 0, .slice none 0 0, .bool false, .int .i64 0, .int .i64 0, .int .i64 0, .string ⟨#[]⟩, .slice none 0 0, .int .i64 0, .int .i64 0] 84)).setCells wr.heap.size 0 (drV x y m))) := Below.on hB.out hbN
      have HUn : Hid (BoxR ((wr.alloc (.cells #[.int .i64 0, .int .i64 0, .int .i64 0, .int .i64 0, .int .i64 0, .int .i64 0, .int .i64 0, .slice none 0 0, .slice none 0 0, .bool false, .int .i64 0, .bool false, .int .i64 0, .int .i64 0, .int .i64 0, .slice none 0 0, .slice none 0 0, .bool false, .int .i64 0, .int .i64 0, .int .i64 0, .string ⟨#[]⟩, .slice none 0 0, .int .i64 0, .int .i64 0] 84)).setCells wr.heap.size 0 (drV x y m)) wr.heap.size (drV x y m)) := ⟨by rw [size_setCellsT]; simp, World.rangeAt_setCells_same _ _ _ _ (by rw [drV_len]; exact there25 _)⟩
      clear hbN
      go_upto_region 4 with (first | (refine wpList_load_mid (by rfl) 84 _ (by rfl) _ _ (by rfl) _ _ HG.out Tryz.underlying84 rfl (by kernel_rfl) ?_) | (refine wpList_store_list (by rfl) 84 _ _ (by rfl) _ _ (drV x y m) (by rfl) (by rfl) (by rw [drV_len]; exact there25 _) (by kernel_rfl) (drV_ones _ _ _) ?_))
      generalize ((wr.alloc (.cells #[.int .i64 0, .int .i64 0, .int .i64 0, .int .i64 0, .int .i64 0, .int .i64 0, .int .i64 0, .slice none 0 0, .slice none 0 0, .bool false, .int .i64 0, .bool false, .int .i64 0, .int .i64 0, .int .i64 0, .slice none 0 0, .slice none 0 0, .bool false, .int .i64 0, .int .i64 0, .int .i64 0, .string ⟨#[]⟩, .slice none 0 0, .int .i64 0, .int .i64 0] 84)).setCells wr.heap.size 0 (drV x y m)) = wn at HBn HUn ⊢
      generalize wr.heap.size = U at HUn ⊢
      have HXn : Hid (BoxR wn X [.slice a len cap, .int .i64 now]) := HX1.out.below HBn.out
      have t0 : wn.cell? ⟨X, 0, none⟩ = some (.slice a len cap) := HXn.out.at0 0 _ rfl
      have t1 : wn.cell? ⟨X, 1, none⟩ = some (.int .i64 now) := HXn.out.at0 1 _ rfl
      have HCl : Hid (Calls Tryz.prog 65 #[.agg #[.slice a len cap, .int .i64 now], .agg (drV x y m).toArray] wn fun e w'' => e = .returned (.bool (riB l len m x.up)) ∧ Below wn.heap.size wn w'') := iReached_any a len cap l now x y m hlm wn (HI.out.below (Below.on HB1.out HBn.out))
      cases hq : riB l len m x.up
      · have hno : Hid (allR l len len = false) := HF.out hq
        rw [hq] at HCl
        go_wp2_with (first | (refine wpList_load_mid (by rfl) 84 _ (by rfl) _ _ (by rfl) _ _ HUn.out.at0 Tryz.underlying84 rfl (by kernel_rfl) ?_) | (go_at_call 65; refine (HCl.out).mono ?_; rintro e w3 ⟨rfl, hb⟩; have HB3 : Hid (Below w1.heap.size w1 w3) := Below.on HBn.out hb; clear hb))
        go_ret
        exact ⟨ret_boolW hno.out.symm, Below.on HB1.out HB3.out⟩
      · have hyes : Hid ((ds.take (j + 1)).all (rchB l len) = true) := (by show _ = _; rw [HS.out, hto.out, hq]; rfl)
        rw [hq] at HCl
        go_wp2_with (first | (refine wpList_load_mid (by rfl) 84 _ (by rfl) _ _ (by rfl) _ _ HUn.out.at0 Tryz.underlying84 rfl (by kernel_rfl) ?_) | (go_at_call 65; refine (HCl.out).mono ?_; rintro e w3 ⟨rfl, hb⟩; have HB3 : Hid (Below w1.heap.size w1 w3) := Below.on HBn.out hb; clear hb))
        go_roundw
        case rel => exact ⟨j + 1, by omega, by go_num, hyes, HB3⟩
        case measure => simp [intOf]; omega
    · have : j = ds.length := by omega
      subst this
      have hyes : Hid (allR l len len = true) := (by show _ = _; rw [← HE.out]; have h := hto.out; rwa [List.take_length] at h)
      go_wp2
      go_ret
      exact ⟨ret_boolW hyes.out.symm, Below.on HB1.out hB.out⟩
/-- The nodes as the program asks them. -/
def lnkD (l : List Nd) (d : Nat) : Int := cdD l ((d : Int) + 1) l.length + (if d = 0 then 1 else 0)
def nodI (l : List Nd) (now : Int) (d : Nat) : Bool := (ndAt l d).nI ((ndAt l d).alI now (lnkD l d)) ((ndAt l d).dirI l ((d : Int) + 1))
def nodT (l : List Nd) (now : Int) : Nat → Bool
  | 0 => true
  | k + 1 => nodT l now k && nodI l now k
/-- impl.TreeRight. -/
def treeI (l : List Nd) (now : Int) : Bool := decide (1 ≤ l.length) && (decide (l.length ≤ 12) && (inR 0 1000000 now && ((ndAt l 0).k == 1 && ((ndAt l 0).up == 1 && (nodT l now l.length && allR l l.length l.length)))))
theorem cdD_b (l : List Nd) (n : Int) : ∀ k, k ≤ l.length → (∀ i, i < l.length → (ndAt l i).ns.length ≤ 1048576) → 0 ≤ cdD l n k ∧ cdD l n k ≤ k * 1048576
  | 0, _, _ => by simp [cdD]
  | k + 1, hk, h => by
    have h1 := cdD_b l n k (by omega) h
    have h2 := cntE_b (ndAt l k).ns n (ndAt l k).ns.length
    have h3 := h k (by omega)
    simp only [cdD]
    rw [show ((k + 1 : Nat) : Int) * 1048576 = k * 1048576 + 1048576 by omega]
    split <;> omega
theorem nodT_false {l : List Nd} {now : Int} {k n : Nat} (h : k < n) (hk : nodI l now k = false) : nodT l now n = false := by
  induction n with
  | zero => omega
  | succ n ih =>
    by_cases e : k = n
    · subst e; simp only [nodT, hk, Bool.and_false]
    · simp only [nodT, ih (by omega), Bool.false_and]
theorem treeI_no {l : List Nd} {now : Int} {k : Nat} (h : k < l.length) (hk : nodI l now k = false) : treeI l now = false := by simp only [treeI, nodT_false h hk, Bool.and_false, Bool.false_and]
theorem treeI_short {l : List Nd} {now : Int} (h : l.length < 1) : treeI l now = false := by
  have : ¬ 1 ≤ l.length := by omega
  simp [treeI, this]
theorem treeI_long {l : List Nd} {now : Int} (h : 12 < l.length) : treeI l now = false := by
  have : ¬ l.length ≤ 12 := by omega
  simp [treeI, this]
theorem treeI_yes {l : List Nd} {now : Int} (h1 : 1 ≤ l.length) (h2 : l.length ≤ 12) (h3 : inR 0 1000000 now = true) (h4 : ((ndAt l 0).k == 1) = true) (h6 : ((ndAt l 0).up == 1) = true) (h5 : nodT l now l.length = true) : treeI l now = allR l l.length l.length := by simp only [treeI, h1, h2, h3, h4, h5, h6, decide_true, Bool.true_and]
theorem nodT_next {l : List Nd} {now : Int} {k : Nat} (h : nodT l now k = true) (hk : nodI l now k = true) : nodT l now (k + 1) = true := by simp only [nodT, h, hk, Bool.and_self]
set_option maxRecDepth 20000 in
set_option maxHeartbeats 8000000 in
theorem iTree_any (a : Option Addr) (len cap : Nat) (l : List Nd) (now : Int) (hm : len ≤ 9223372036854775807) (hf : ∀ i, i < len → NdFit 1048576 (ndAt l i)) (w : World) (hi : Nds a len l w) :
    Calls Tryz.prog 18 #[.agg #[.slice a len cap, .int .i64 now]] w fun e w' => e = .returned (.bool (treeI l now)) ∧ Below w.heap.size w w' := by
  have hll := hi.1
  by_cases h1 : len < 1
  · have hno : Hid (treeI l now = false) := treeI_short (by omega)
    have h1' : (len : Int) < 1 := by omega
    have HB : Hid (Below w.heap.size w (w.alloc (.cells #[.slice a len cap, .int .i64 now] 35))) := bel_alloc _ _
    have HX : Hid (BoxR (w.alloc (.cells #[.slice a len cap, .int .i64 now] 35)) w.heap.size [.slice a len cap, .int .i64 now]) := boxR_new _ _ _
    go_enter Tryz.func18, Tryz.ntmps18
    go_upto_region 1 with fail
    generalize (w.alloc (.cells #[.slice a len cap, .int .i64 now] 35)) = w0 at HB HX ⊢
    obtain ⟨X, hX⟩ : ∃ X, X = w.heap.size := ⟨_, rfl⟩
    rw [← hX] at HX ⊢
    clear hX
    have t0 : w0.cell? ⟨X, 0, none⟩ = some (.slice a len cap) := HX.out.at0 0 _ rfl
    have t1 : w0.cell? ⟨X, 1, none⟩ = some (.int .i64 now) := HX.out.at0 1 _ rfl
    go_wp2
    go_ret
    exact ⟨ret_boolW hno.out.symm, HB.out⟩
  have h1' : decide ((len : Int) < 1) = false := by simp; omega
  by_cases h2 : 12 < len
  · have hno : Hid (treeI l now = false) := treeI_long (by omega)
    have h2' : (12 : Int) < (len : Int) := by omega
    have HB : Hid (Below w.heap.size w (w.alloc (.cells #[.slice a len cap, .int .i64 now] 35))) := bel_alloc _ _
    have HX : Hid (BoxR (w.alloc (.cells #[.slice a len cap, .int .i64 now] 35)) w.heap.size [.slice a len cap, .int .i64 now]) := boxR_new _ _ _
    go_enter Tryz.func18, Tryz.ntmps18
    go_upto_region 1 with fail
    generalize (w.alloc (.cells #[.slice a len cap, .int .i64 now] 35)) = w0 at HB HX ⊢
    obtain ⟨X, hX⟩ : ∃ X, X = w.heap.size := ⟨_, rfl⟩
    rw [← hX] at HX ⊢
    clear hX
    have t0 : w0.cell? ⟨X, 0, none⟩ = some (.slice a len cap) := HX.out.at0 0 _ rfl
    have t1 : w0.cell? ⟨X, 1, none⟩ = some (.int .i64 now) := HX.out.at0 1 _ rfl
    go_wp2
    go_ret
    exact ⟨ret_boolW hno.out.symm, HB.out⟩
  have h2' : decide ((12 : Int) < (len : Int)) = false := by simp; omega
  cases h3 : inR 0 1000000 now
  · have hno : Hid (treeI l now = false) := (by show _ = _; simp [treeI, h3])
    have HT : Hid (∀ w, Calls Tryz.prog 36 #[.int .i64 now] w fun e w' => e = .returned (.bool false) ∧ w' = w) := (fun w => by have h := iTime_any now w; rwa [h3] at h)
    have HB : Hid (Below w.heap.size w (w.alloc (.cells #[.slice a len cap, .int .i64 now] 35))) := bel_alloc _ _
    have HX : Hid (BoxR (w.alloc (.cells #[.slice a len cap, .int .i64 now] 35)) w.heap.size [.slice a len cap, .int .i64 now]) := boxR_new _ _ _
    go_enter Tryz.func18, Tryz.ntmps18
    go_upto_region 1 with fail
    generalize (w.alloc (.cells #[.slice a len cap, .int .i64 now] 35)) = w0 at HB HX ⊢
    obtain ⟨X, hX⟩ : ∃ X, X = w.heap.size := ⟨_, rfl⟩
    rw [← hX] at HX ⊢
    clear hX
    have t0 : w0.cell? ⟨X, 0, none⟩ = some (.slice a len cap) := HX.out.at0 0 _ rfl
    have t1 : w0.cell? ⟨X, 1, none⟩ = some (.int .i64 now) := HX.out.at0 1 _ rfl
    go_wp2_with (go_at_call 36; refine (HT.out _).mono ?_; rintro e w1 ⟨rfl, rfl⟩)
    go_ret
    exact ⟨ret_boolW hno.out.symm, HB.out⟩
  have HT : Hid (∀ w, Calls Tryz.prog 36 #[.int .i64 now] w fun e w' => e = .returned (.bool true) ∧ w' = w) := (fun w => by have h := iTime_any now w; rwa [h3] at h)
  have HI : Hid (Nds a len l w) := hi
  have HF : Hid (∀ i, i < len → NdFit 1048576 (ndAt l i)) := hf
  have HL : Hid (l.length = len) := hll
  have H3 : Hid (inR 0 1000000 now = true) := h3
  obtain ⟨b, off, Y, rfl, hb0, hc⟩ := hi.2 (by omega)
  have HN0 : Hid (N24 w b (off + 0 * 24) (ndAt l 0) (Y 0)) := (hc 0 (by omega)).1
  have HCc : Hid (∀ i, i < len → N24 w b (off + i * 24) (ndAt l i) (Y i) ∧ NdIn w (ndAt l i) (Y i)) := hc
  clear hc hi hf hll h3
  have hlen1 : (0 : Int) < (len : Int) := by omega
  cases h4 : ((ndAt l 0).k == 1)
  · have hno : Hid (treeI l now = false) := (by show _ = _; simp only [treeI, h4, Bool.false_and, Bool.and_false])
    have h4' : ((ndAt l 0).k != 1) = true := by rw [bne, h4]; rfl
    have HB : Hid (Below w.heap.size w (w.alloc (.cells #[.slice (some ⟨b, off, none⟩) len cap, .int .i64 now] 35))) := bel_alloc _ _
    have HX : Hid (BoxR (w.alloc (.cells #[.slice (some ⟨b, off, none⟩) len cap, .int .i64 now] 35)) w.heap.size [.slice (some ⟨b, off, none⟩) len cap, .int .i64 now]) := boxR_new _ _ _
    go_enter Tryz.func18, Tryz.ntmps18
    go_upto_region 1 with fail
    generalize (w.alloc (.cells #[.slice (some ⟨b, off, none⟩) len cap, .int .i64 now] 35)) = w0 at HB HX ⊢
    obtain ⟨X, hX⟩ : ∃ X, X = w.heap.size := ⟨_, rfl⟩
    rw [← hX] at HX ⊢
    clear hX
    have t0 : w0.cell? ⟨X, 0, none⟩ = some (.slice (some ⟨b, off, none⟩) len cap) := HX.out.at0 0 _ rfl
    have t1 : w0.cell? ⟨X, 1, none⟩ = some (.int .i64 now) := HX.out.at0 1 _ rfl
    have hn0 := range_below HN0.out hb0 HB.out
    simp only [Nat.zero_mul, Nat.add_zero] at hn0
    have HN0b : Hid (N24 w0 b off (ndAt l 0) (Y 0)) := hn0
    clear hn0
    have hbN : Below w0.heap.size w0 ((w0.alloc (.cells #[.int .i64 0, .int .i64 0, .int .i64 0, .int .i64 0, .int .i64 0, .int .i64 0, .int .i64 0, .slice none 0 0, .slice none 0 0, .bool false, .int .i64 0, .bool false, .int .i64 0, .int .i64 0, .int .i64 0, .slice none 0 0, .slice none 0 0, .bool false, .int .i64 0, .int .i64 0, .int .i64 0, .string ⟨#[]⟩, .slice none 0 0, .int .i64 0] 31)).setCells w0.heap.size 0 (ndV (ndAt l 0) (Y 0))) := bl_setsT (Nat.le_refl _) _ _ (bel_alloc _ _)
    have HBn : Hid (Below w.heap.size w ((w0.alloc (.cells #[.int .i64 0, .int .i64 0, .int .i64 0, .int .i64 0, .int .i64 0, .int .i64 0, .int .i64 0, .slice none 0 0, .slice none 0 0, .bool false, .int .i64 0, .bool false, .int .i64 0, .int .i64 0, .int .i64 0, .slice none 0 0, .slice none 0 0, .bool false, .int .i64 0, .int .i64 0, .int .i64 0, .string ⟨#[]⟩, .slice none 0 0, .int .i64 0] 31)).setCells w0.heap.size 0 (ndV (ndAt l 0) (Y 0)))) := Below.on HB.out hbN
    have HXn : Hid (BoxR ((w0.alloc (.cells #[.int .i64 0, .int .i64 0, .int .i64 0, .int .i64 0, .int .i64 0, .int .i64 0, .int .i64 0, .slice none 0 0, .slice none 0 0, .bool false, .int .i64 0, .bool false, .int .i64 0, .int .i64 0, .int .i64 0, .slice none 0 0, .slice none 0 0, .bool false, .int .i64 0, .int .i64 0, .int .i64 0, .string ⟨#[]⟩, .slice none 0 0, .int .i64 0] 31)).setCells w0.heap.size 0 (ndV (ndAt l 0) (Y 0))) X [.slice (some ⟨b, off, none⟩) len cap, .int .i64 now]) := HX.out.below hbN
    have HZn : Hid (BoxR ((w0.alloc (.cells #[.int .i64 0, .int .i64 0, .int .i64 0, .int .i64 0, .int .i64 0, .int .i64 0, .int .i64 0, .slice none 0 0, .slice none 0 0, .bool false, .int .i64 0, .bool false, .int .i64 0, .int .i64 0, .int .i64 0, .slice none 0 0, .slice none 0 0, .bool false, .int .i64 0, .int .i64 0, .int .i64 0, .string ⟨#[]⟩, .slice none 0 0, .int .i64 0] 31)).setCells w0.heap.size 0 (ndV (ndAt l 0) (Y 0))) w0.heap.size (ndV (ndAt l 0) (Y 0))) := ⟨by rw [size_setCellsT]; simp, World.rangeAt_setCells_same _ _ _ _ ((boxW_new w0 [.int .i64 0, .int .i64 0, .int .i64 0, .int .i64 0, .int .i64 0, .int .i64 0, .int .i64 0, .slice none 0 0, .slice none 0 0, .bool false, .int .i64 0, .bool false, .int .i64 0, .int .i64 0, .int .i64 0, .slice none 0 0, .slice none 0 0, .bool false, .int .i64 0, .int .i64 0, .int .i64 0, .string ⟨#[]⟩, .slice none 0 0, .int .i64 0] 31).there 0 24 (by simp))⟩
    go_upto_region 4 with (first | (go_at_call 36; refine (HT.out _).mono ?_; rintro e w1 ⟨rfl, hw⟩; have hw2 := hw.symm; clear hw; subst hw2) | (refine wpList_load_mid (by rfl) 31 _ (by rfl) _ _ (by rfl) _ _ HN0b.out Tryz.underlying31 rfl (by kernel_rfl) ?_) | (refine wpList_store_list (by rfl) 31 _ _ (by rfl) _ _ (ndV (ndAt l 0) (Y 0)) (by rfl) (by rfl) ((boxW_new w0 [.int .i64 0, .int .i64 0, .int .i64 0, .int .i64 0, .int .i64 0, .int .i64 0, .int .i64 0, .slice none 0 0, .slice none 0 0, .bool false, .int .i64 0, .bool false, .int .i64 0, .int .i64 0, .int .i64 0, .slice none 0 0, .slice none 0 0, .bool false, .int .i64 0, .int .i64 0, .int .i64 0, .string ⟨#[]⟩, .slice none 0 0, .int .i64 0] 31).there 0 24 (by simp)) (by kernel_rfl) (ndV_ones _ _) ?_))
    generalize ((w0.alloc (.cells #[.int .i64 0, .int .i64 0, .int .i64 0, .int .i64 0, .int .i64 0, .int .i64 0, .int .i64 0, .slice none 0 0, .slice none 0 0, .bool false, .int .i64 0, .bool false, .int .i64 0, .int .i64 0, .int .i64 0, .slice none 0 0, .slice none 0 0, .bool false, .int .i64 0, .int .i64 0, .int .i64 0, .string ⟨#[]⟩, .slice none 0 0, .int .i64 0] 31)).setCells w0.heap.size 0 (ndV (ndAt l 0) (Y 0))) = w2 at HBn HXn HZn ⊢
    generalize w0.heap.size = Z at HZn ⊢
    have e0 := NB.c0 HZn.out
    have e20 := NB.c20 HZn.out
    clear hbN HB HX t0 t1 HN0b
    go_wp2
    go_ret
    exact ⟨ret_boolW hno.out.symm, HBn.out⟩
  have h4' : ((ndAt l 0).k != 1) = false := by rw [bne, h4]; rfl
  cases h6 : ((ndAt l 0).up == 1)
  · have hno : Hid (treeI l now = false) := (by show _ = _; simp only [treeI, h6, Bool.false_and, Bool.and_false])
    have h6' : ((ndAt l 0).up != 1) = true := by rw [bne, h6]; rfl
    have HB : Hid (Below w.heap.size w (w.alloc (.cells #[.slice (some ⟨b, off, none⟩) len cap, .int .i64 now] 35))) := bel_alloc _ _
    have HX : Hid (BoxR (w.alloc (.cells #[.slice (some ⟨b, off, none⟩) len cap, .int .i64 now] 35)) w.heap.size [.slice (some ⟨b, off, none⟩) len cap, .int .i64 now]) := boxR_new _ _ _
    go_enter Tryz.func18, Tryz.ntmps18
    go_upto_region 1 with fail
    generalize (w.alloc (.cells #[.slice (some ⟨b, off, none⟩) len cap, .int .i64 now] 35)) = w0 at HB HX ⊢
    obtain ⟨X, hX⟩ : ∃ X, X = w.heap.size := ⟨_, rfl⟩
    rw [← hX] at HX ⊢
    clear hX
    have t0 : w0.cell? ⟨X, 0, none⟩ = some (.slice (some ⟨b, off, none⟩) len cap) := HX.out.at0 0 _ rfl
    have t1 : w0.cell? ⟨X, 1, none⟩ = some (.int .i64 now) := HX.out.at0 1 _ rfl
    have hn0 := range_below HN0.out hb0 HB.out
    simp only [Nat.zero_mul, Nat.add_zero] at hn0
    have HN0b : Hid (N24 w0 b off (ndAt l 0) (Y 0)) := hn0
    clear hn0
    have hbN : Below w0.heap.size w0 ((w0.alloc (.cells #[.int .i64 0, .int .i64 0, .int .i64 0, .int .i64 0, .int .i64 0, .int .i64 0, .int .i64 0, .slice none 0 0, .slice none 0 0, .bool false, .int .i64 0, .bool false, .int .i64 0, .int .i64 0, .int .i64 0, .slice none 0 0, .slice none 0 0, .bool false, .int .i64 0, .int .i64 0, .int .i64 0, .string ⟨#[]⟩, .slice none 0 0, .int .i64 0] 31)).setCells w0.heap.size 0 (ndV (ndAt l 0) (Y 0))) := bl_setsT (Nat.le_refl _) _ _ (bel_alloc _ _)
    have HBn : Hid (Below w.heap.size w ((w0.alloc (.cells #[.int .i64 0, .int .i64 0, .int .i64 0, .int .i64 0, .int .i64 0, .int .i64 0, .int .i64 0, .slice none 0 0, .slice none 0 0, .bool false, .int .i64 0, .bool false, .int .i64 0, .int .i64 0, .int .i64 0, .slice none 0 0, .slice none 0 0, .bool false, .int .i64 0, .int .i64 0, .int .i64 0, .string ⟨#[]⟩, .slice none 0 0, .int .i64 0] 31)).setCells w0.heap.size 0 (ndV (ndAt l 0) (Y 0)))) := Below.on HB.out hbN
    have HXn : Hid (BoxR ((w0.alloc (.cells #[.int .i64 0, .int .i64 0, .int .i64 0, .int .i64 0, .int .i64 0, .int .i64 0, .int .i64 0, .slice none 0 0, .slice none 0 0, .bool false, .int .i64 0, .bool false, .int .i64 0, .int .i64 0, .int .i64 0, .slice none 0 0, .slice none 0 0, .bool false, .int .i64 0, .int .i64 0, .int .i64 0, .string ⟨#[]⟩, .slice none 0 0, .int .i64 0] 31)).setCells w0.heap.size 0 (ndV (ndAt l 0) (Y 0))) X [.slice (some ⟨b, off, none⟩) len cap, .int .i64 now]) := HX.out.below hbN
    have HZn : Hid (BoxR ((w0.alloc (.cells #[.int .i64 0, .int .i64 0, .int .i64 0, .int .i64 0, .int .i64 0, .int .i64 0, .int .i64 0, .slice none 0 0, .slice none 0 0, .bool false, .int .i64 0, .bool false, .int .i64 0, .int .i64 0, .int .i64 0, .slice none 0 0, .slice none 0 0, .bool false, .int .i64 0, .int .i64 0, .int .i64 0, .string ⟨#[]⟩, .slice none 0 0, .int .i64 0] 31)).setCells w0.heap.size 0 (ndV (ndAt l 0) (Y 0))) w0.heap.size (ndV (ndAt l 0) (Y 0))) := ⟨by rw [size_setCellsT]; simp, World.rangeAt_setCells_same _ _ _ _ ((boxW_new w0 [.int .i64 0, .int .i64 0, .int .i64 0, .int .i64 0, .int .i64 0, .int .i64 0, .int .i64 0, .slice none 0 0, .slice none 0 0, .bool false, .int .i64 0, .bool false, .int .i64 0, .int .i64 0, .int .i64 0, .slice none 0 0, .slice none 0 0, .bool false, .int .i64 0, .int .i64 0, .int .i64 0, .string ⟨#[]⟩, .slice none 0 0, .int .i64 0] 31).there 0 24 (by simp))⟩
    go_upto_region 4 with (first | (go_at_call 36; refine (HT.out _).mono ?_; rintro e w1 ⟨rfl, hw⟩; have hw2 := hw.symm; clear hw; subst hw2) | (refine wpList_load_mid (by rfl) 31 _ (by rfl) _ _ (by rfl) _ _ HN0b.out Tryz.underlying31 rfl (by kernel_rfl) ?_) | (refine wpList_store_list (by rfl) 31 _ _ (by rfl) _ _ (ndV (ndAt l 0) (Y 0)) (by rfl) (by rfl) ((boxW_new w0 [.int .i64 0, .int .i64 0, .int .i64 0, .int .i64 0, .int .i64 0, .int .i64 0, .int .i64 0, .slice none 0 0, .slice none 0 0, .bool false, .int .i64 0, .bool false, .int .i64 0, .int .i64 0, .int .i64 0, .slice none 0 0, .slice none 0 0, .bool false, .int .i64 0, .int .i64 0, .int .i64 0, .string ⟨#[]⟩, .slice none 0 0, .int .i64 0] 31).there 0 24 (by simp)) (by kernel_rfl) (ndV_ones _ _) ?_))
    generalize ((w0.alloc (.cells #[.int .i64 0, .int .i64 0, .int .i64 0, .int .i64 0, .int .i64 0, .int .i64 0, .int .i64 0, .slice none 0 0, .slice none 0 0, .bool false, .int .i64 0, .bool false, .int .i64 0, .int .i64 0, .int .i64 0, .slice none 0 0, .slice none 0 0, .bool false, .int .i64 0, .int .i64 0, .int .i64 0, .string ⟨#[]⟩, .slice none 0 0, .int .i64 0] 31)).setCells w0.heap.size 0 (ndV (ndAt l 0) (Y 0))) = w2 at HBn HXn HZn ⊢
    generalize w0.heap.size = Z at HZn ⊢
    have e0 := NB.c0 HZn.out
    have e20 := NB.c20 HZn.out
    clear hbN HB HX t0 t1 HN0b
    go_wp2
    go_ret
    exact ⟨ret_boolW hno.out.symm, HBn.out⟩
  have h6' : ((ndAt l 0).up != 1) = false := by rw [bne, h6]; rfl
  have H4 : Hid (((ndAt l 0).k == 1) = true) := h4
  have H6 : Hid (((ndAt l 0).up == 1) = true) := h6
  clear h4 h6
  have HB : Hid (Below w.heap.size w (w.alloc (.cells #[.slice (some ⟨b, off, none⟩) len cap, .int .i64 now] 35))) := bel_alloc _ _
  have HX : Hid (BoxR (w.alloc (.cells #[.slice (some ⟨b, off, none⟩) len cap, .int .i64 now] 35)) w.heap.size [.slice (some ⟨b, off, none⟩) len cap, .int .i64 now]) := boxR_new _ _ _
  go_enter Tryz.func18, Tryz.ntmps18
  go_upto_region 1 with fail
  generalize (w.alloc (.cells #[.slice (some ⟨b, off, none⟩) len cap, .int .i64 now] 35)) = w0 at HB HX ⊢
  obtain ⟨X, hX⟩ : ∃ X, X = w.heap.size := ⟨_, rfl⟩
  rw [← hX] at HX ⊢
  clear hX
  have t0 : w0.cell? ⟨X, 0, none⟩ = some (.slice (some ⟨b, off, none⟩) len cap) := HX.out.at0 0 _ rfl
  have t1 : w0.cell? ⟨X, 1, none⟩ = some (.int .i64 now) := HX.out.at0 1 _ rfl
  have hn0 := range_below HN0.out hb0 HB.out
  simp only [Nat.zero_mul, Nat.add_zero] at hn0
  have HN0b : Hid (N24 w0 b off (ndAt l 0) (Y 0)) := hn0
  clear hn0
  have hbN : Below w0.heap.size w0 ((w0.alloc (.cells #[.int .i64 0, .int .i64 0, .int .i64 0, .int .i64 0, .int .i64 0, .int .i64 0, .int .i64 0, .slice none 0 0, .slice none 0 0, .bool false, .int .i64 0, .bool false, .int .i64 0, .int .i64 0, .int .i64 0, .slice none 0 0, .slice none 0 0, .bool false, .int .i64 0, .int .i64 0, .int .i64 0, .string ⟨#[]⟩, .slice none 0 0, .int .i64 0] 31)).setCells w0.heap.size 0 (ndV (ndAt l 0) (Y 0))) := bl_setsT (Nat.le_refl _) _ _ (bel_alloc _ _)
  have HBn : Hid (Below w.heap.size w ((w0.alloc (.cells #[.int .i64 0, .int .i64 0, .int .i64 0, .int .i64 0, .int .i64 0, .int .i64 0, .int .i64 0, .slice none 0 0, .slice none 0 0, .bool false, .int .i64 0, .bool false, .int .i64 0, .int .i64 0, .int .i64 0, .slice none 0 0, .slice none 0 0, .bool false, .int .i64 0, .int .i64 0, .int .i64 0, .string ⟨#[]⟩, .slice none 0 0, .int .i64 0] 31)).setCells w0.heap.size 0 (ndV (ndAt l 0) (Y 0)))) := Below.on HB.out hbN
  have HXn : Hid (BoxR ((w0.alloc (.cells #[.int .i64 0, .int .i64 0, .int .i64 0, .int .i64 0, .int .i64 0, .int .i64 0, .int .i64 0, .slice none 0 0, .slice none 0 0, .bool false, .int .i64 0, .bool false, .int .i64 0, .int .i64 0, .int .i64 0, .slice none 0 0, .slice none 0 0, .bool false, .int .i64 0, .int .i64 0, .int .i64 0, .string ⟨#[]⟩, .slice none 0 0, .int .i64 0] 31)).setCells w0.heap.size 0 (ndV (ndAt l 0) (Y 0))) X [.slice (some ⟨b, off, none⟩) len cap, .int .i64 now]) := HX.out.below hbN
  have HZn : Hid (BoxR ((w0.alloc (.cells #[.int .i64 0, .int .i64 0, .int .i64 0, .int .i64 0, .int .i64 0, .int .i64 0, .int .i64 0, .slice none 0 0, .slice none 0 0, .bool false, .int .i64 0, .bool false, .int .i64 0, .int .i64 0, .int .i64 0, .slice none 0 0, .slice none 0 0, .bool false, .int .i64 0, .int .i64 0, .int .i64 0, .string ⟨#[]⟩, .slice none 0 0, .int .i64 0] 31)).setCells w0.heap.size 0 (ndV (ndAt l 0) (Y 0))) w0.heap.size (ndV (ndAt l 0) (Y 0))) := ⟨by rw [size_setCellsT]; simp, World.rangeAt_setCells_same _ _ _ _ ((boxW_new w0 [.int .i64 0, .int .i64 0, .int .i64 0, .int .i64 0, .int .i64 0, .int .i64 0, .int .i64 0, .slice none 0 0, .slice none 0 0, .bool false, .int .i64 0, .bool false, .int .i64 0, .int .i64 0, .int .i64 0, .slice none 0 0, .slice none 0 0, .bool false, .int .i64 0, .int .i64 0, .int .i64 0, .string ⟨#[]⟩, .slice none 0 0, .int .i64 0] 31).there 0 24 (by simp))⟩
  go_upto_region 4 with (first | (go_at_call 36; refine (HT.out _).mono ?_; rintro e w1 ⟨rfl, hw⟩; have hw2 := hw.symm; clear hw; subst hw2) | (refine wpList_load_mid (by rfl) 31 _ (by rfl) _ _ (by rfl) _ _ HN0b.out Tryz.underlying31 rfl (by kernel_rfl) ?_) | (refine wpList_store_list (by rfl) 31 _ _ (by rfl) _ _ (ndV (ndAt l 0) (Y 0)) (by rfl) (by rfl) ((boxW_new w0 [.int .i64 0, .int .i64 0, .int .i64 0, .int .i64 0, .int .i64 0, .int .i64 0, .int .i64 0, .slice none 0 0, .slice none 0 0, .bool false, .int .i64 0, .bool false, .int .i64 0, .int .i64 0, .int .i64 0, .slice none 0 0, .slice none 0 0, .bool false, .int .i64 0, .int .i64 0, .int .i64 0, .string ⟨#[]⟩, .slice none 0 0, .int .i64 0] 31).there 0 24 (by simp)) (by kernel_rfl) (ndV_ones _ _) ?_))
  generalize ((w0.alloc (.cells #[.int .i64 0, .int .i64 0, .int .i64 0, .int .i64 0, .int .i64 0, .int .i64 0, .int .i64 0, .slice none 0 0, .slice none 0 0, .bool false, .int .i64 0, .bool false, .int .i64 0, .int .i64 0, .int .i64 0, .slice none 0 0, .slice none 0 0, .bool false, .int .i64 0, .int .i64 0, .int .i64 0, .string ⟨#[]⟩, .slice none 0 0, .int .i64 0] 31)).setCells w0.heap.size 0 (ndV (ndAt l 0) (Y 0))) = w2 at HBn HXn HZn ⊢
  generalize w0.heap.size = Z at HZn ⊢
  have e0 := NB.c0 HZn.out
  have e20 := NB.c20 HZn.out
  clear hbN HB HX t0 t1 HN0b
  have t0 : w2.cell? ⟨X, 0, none⟩ = some (.slice (some ⟨b, off, none⟩) len cap) := HXn.out.at0 0 _ rfl
  have t1 : w2.cell? ⟨X, 1, none⟩ = some (.int .i64 now) := HXn.out.at0 1 _ rfl
  go_wp2
  clear e0 e20 t0 t1 h4' h6'
  go_loopw [37] (fun i wr => ∃ k : Nat, k ≤ len ∧ i = .int .i64 k ∧ Hid (nodT l now k = true) ∧ Hid (Below w.heap.size w wr) ∧ Hid (BoxR wr X [.slice (some ⟨b, off, none⟩) len cap, .int .i64 now])) (fun i _ => len - (intOf i).toNat)
  case atStart => exact ⟨0, Nat.zero_le _, rfl, rfl, HBn, HXn⟩
  case round =>
    obtain ⟨k, hk, rfl, hto, hB, hX⟩ := hrel
    by_cases hlt : k < len
    · have hlt' : (k : Int) < (len : Int) := by omega
      have hk0 : (0 : Int) ≤ (k : Int) := by omega
      have HNk : Hid (N24 wr b (off + k * 24) (ndAt l k) (Y k)) := range_below (HCc.out k hlt).1 hb0 hB.out
      have HMk : Hid (NdIn wr (ndAt l k) (Y k)) := (HCc.out k hlt).2.below hB.out
      have HFk : Hid (NdFit 1048576 (ndAt l k)) := HF.out k hlt
      have HE : Hid (nodI l now k = (ndAt l k).nI ((ndAt l k).alI now (lnkD l k)) ((ndAt l k).dirI l ((k : Int) + 1))) := rfl
      have hcb := cdD_b l ((k : Int) + 1) len (by rw [HL.out]; exact Nat.le_refl _) (fun i hi => (HF.out i (by rw [← HL.out]; exact hi)).nl)
      have HLk : Hid (lnkD l k = cdD l ((k : Int) + 1) len + (if k = 0 then 1 else 0)) := (by show _ = _; rw [← HL.out]; rfl)
      generalize ndAt l k = x at HNk HMk HFk HE
      generalize Y k = y at HNk HMk
      have HCn : Hid (∀ w', Below wr.heap.size wr w' → Calls Tryz.prog 37 #[.agg #[.slice (some ⟨b, off, none⟩) len cap, .int .i64 now], .agg (ndV x y).toArray, .int .i64 ((k : Int) + 1)] w' fun e w'' => e = .returned (.bool (nodI l now k)) ∧ Below w'.heap.size w' w'') := (fun w' hb => by
        rw [HE.out]
        have hI' : ∀ w'', Below w'.heap.size w' w'' → Nds (some ⟨b, off, none⟩) len l w'' := fun w'' h => ((HI.out.below hB.out).below hb).below h
        refine iNode_any (some ⟨b, off, none⟩) len cap l now x y ((k : Int) + 1) _ _ HFk.out w' ?_ ?_
        · intro w'' h''
          refine iAlike_any (some ⟨b, off, none⟩) len cap l now x y ((k : Int) + 1) _ w'' ((HMk.out.below hb).below h'') ?_
          intro w3 h3
          rw [HLk.out]
          exact iLinks_any (some ⟨b, off, none⟩) len cap l now k (by omega) HF.out w3 ((hI' w'' h'').below h3) (by omega) hcb.1
        · intro w'' h''
          exact iDirR_any (some ⟨b, off, none⟩) len cap l now x y ((k : Int) + 1) (by omega) HF.out HFk.out w'' (hI' w'' h'') ((HMk.out.below hb).below h''))
      have hbR : Below wr.heap.size wr ((wr.alloc (.cells #[.int .i64 0, .int .i64 0, .int .i64 0, .int .i64 0, .int .i64 0, .int .i64 0, .int .i64 0, .slice none 0 0, .slice none 0 0, .bool false, .int .i64 0, .bool false, .int .i64 0, .int .i64 0, .int .i64 0, .slice none 0 0, .slice none 0 0, .bool false, .int .i64 0, .int .i64 0, .int .i64 0, .string ⟨#[]⟩, .slice none 0 0, .int .i64 0] 31)).setCells wr.heap.size 0 (ndV x y)) := bl_setsT (Nat.le_refl _) _ _ (bel_alloc _ _)
      have HBr : Hid (Below w.heap.size w ((wr.alloc (.cells #[.int .i64 0, .int .i64 0, .int .i64 0, .int .i64 0, .int .i64 0, .int .i64 0, .int .i64 0, .slice none 0 0, .slice none 0 0, .bool false, .int .i64 0, .bool false, .int .i64 0, .int .i64 0, .int .i64 0, .slice none 0 0, .slice none 0 0, .bool false, .int .i64 0, .int .i64 0, .int .i64 0, .string ⟨#[]⟩, .slice none 0 0, .int .i64 0] 31)).setCells wr.heap.size 0 (ndV x y))) := Below.on hB.out hbR
      have HXr : Hid (BoxR ((wr.alloc (.cells #[.int .i64 0, .int .i64 0, .int .i64 0, .int .i64 0, .int .i64 0, .int .i64 0, .int .i64 0, .slice none 0 0, .slice none 0 0, .bool false, .int .i64 0, .bool false, .int .i64 0, .int .i64 0, .int .i64 0, .slice none 0 0, .slice none 0 0, .bool false, .int .i64 0, .int .i64 0, .int .i64 0, .string ⟨#[]⟩, .slice none 0 0, .int .i64 0] 31)).setCells wr.heap.size 0 (ndV x y)) X [.slice (some ⟨b, off, none⟩) len cap, .int .i64 now]) := hX.out.below hbR
      have HZr : Hid (BoxR ((wr.alloc (.cells #[.int .i64 0, .int .i64 0, .int .i64 0, .int .i64 0, .int .i64 0, .int .i64 0, .int .i64 0, .slice none 0 0, .slice none 0 0, .bool false, .int .i64 0, .bool false, .int .i64 0, .int .i64 0, .int .i64 0, .slice none 0 0, .slice none 0 0, .bool false, .int .i64 0, .int .i64 0, .int .i64 0, .string ⟨#[]⟩, .slice none 0 0, .int .i64 0] 31)).setCells wr.heap.size 0 (ndV x y)) wr.heap.size (ndV x y)) := ⟨by rw [size_setCellsT]; simp, World.rangeAt_setCells_same _ _ _ _ ((boxW_new wr [.int .i64 0, .int .i64 0, .int .i64 0, .int .i64 0, .int .i64 0, .int .i64 0, .int .i64 0, .slice none 0 0, .slice none 0 0, .bool false, .int .i64 0, .bool false, .int .i64 0, .int .i64 0, .int .i64 0, .slice none 0 0, .slice none 0 0, .bool false, .int .i64 0, .int .i64 0, .int .i64 0, .string ⟨#[]⟩, .slice none 0 0, .int .i64 0] 31).there 0 24 (by simp))⟩
      have HCr : Hid (∀ w', Below (((wr.alloc (.cells #[.int .i64 0, .int .i64 0, .int .i64 0, .int .i64 0, .int .i64 0, .int .i64 0, .int .i64 0, .slice none 0 0, .slice none 0 0, .bool false, .int .i64 0, .bool false, .int .i64 0, .int .i64 0, .int .i64 0, .slice none 0 0, .slice none 0 0, .bool false, .int .i64 0, .int .i64 0, .int .i64 0, .string ⟨#[]⟩, .slice none 0 0, .int .i64 0] 31)).setCells wr.heap.size 0 (ndV x y))).heap.size ((wr.alloc (.cells #[.int .i64 0, .int .i64 0, .int .i64 0, .int .i64 0, .int .i64 0, .int .i64 0, .int .i64 0, .slice none 0 0, .slice none 0 0, .bool false, .int .i64 0, .bool false, .int .i64 0, .int .i64 0, .int .i64 0, .slice none 0 0, .slice none 0 0, .bool false, .int .i64 0, .int .i64 0, .int .i64 0, .string ⟨#[]⟩, .slice none 0 0, .int .i64 0] 31)).setCells wr.heap.size 0 (ndV x y)) w' → Calls Tryz.prog 37 #[.agg #[.slice (some ⟨b, off, none⟩) len cap, .int .i64 now], .agg (ndV x y).toArray, .int .i64 ((k : Int) + 1)] w' fun e w'' => e = .returned (.bool (nodI l now k)) ∧ Below w'.heap.size w' w'') := (fun w' hb => HCn.out w' (Below.on hbR hb))
      clear hbR HCn HE HLk hcb
      go_upto_region 9 with (first | (refine wpList_load_mid (by rfl) 31 _ (by rfl) _ _ (by rfl) _ _ HNk.out Tryz.underlying31 rfl (by kernel_rfl) ?_) | (refine wpList_store_list (by rfl) 31 _ _ (by rfl) _ _ (ndV x y) (by rfl) (by rfl) ((boxW_new wr [.int .i64 0, .int .i64 0, .int .i64 0, .int .i64 0, .int .i64 0, .int .i64 0, .int .i64 0, .slice none 0 0, .slice none 0 0, .bool false, .int .i64 0, .bool false, .int .i64 0, .int .i64 0, .int .i64 0, .slice none 0 0, .slice none 0 0, .bool false, .int .i64 0, .int .i64 0, .int .i64 0, .string ⟨#[]⟩, .slice none 0 0, .int .i64 0] 31).there 0 24 (by simp)) (by kernel_rfl) (ndV_ones _ _) ?_))
      generalize ((wr.alloc (.cells #[.int .i64 0, .int .i64 0, .int .i64 0, .int .i64 0, .int .i64 0, .int .i64 0, .int .i64 0, .slice none 0 0, .slice none 0 0, .bool false, .int .i64 0, .bool false, .int .i64 0, .int .i64 0, .int .i64 0, .slice none 0 0, .slice none 0 0, .bool false, .int .i64 0, .int .i64 0, .int .i64 0, .string ⟨#[]⟩, .slice none 0 0, .int .i64 0] 31)).setCells wr.heap.size 0 (ndV x y)) = wn at HBr HXr HZr HCr ⊢
      generalize wr.heap.size = Z2 at HZr ⊢
      simp only [Act.put]
      have R1 := range_regrown HZr.out.at0
      have y0 : ∀ d os, (Go.Sort.grow (redrawn wn d) os).cell? ⟨X, 0, none⟩ = some (.slice (some ⟨b, off, none⟩) len cap) := fun d os => cell_regrown (HXr.out.at0 0 _ rfl) d os
      have y1 : ∀ d os, (Go.Sort.grow (redrawn wn d) os).cell? ⟨X, 1, none⟩ = some (.int .i64 now) := fun d os => cell_regrown (HXr.out.at0 1 _ rfl) d os
      have hu := Tryz.underlying31
      have cM : ∀ d os, Calls Tryz.prog 38 #[.int .i64 k] (Go.Sort.grow (redrawn wn d) os) fun e w'' => e = .returned (.int .i64 ((k : Int) + 1)) ∧ ∃ p : Regrown, w'' = Go.Sort.grow (redrawn wn p.d) p.os := fun d os => (iNumAt_any k (by omega) _).mono (fun e w'' ⟨h1, h2⟩ => ⟨h1, ⟨d, os⟩, h2⟩)
      have cN : ∀ d os, Calls Tryz.prog 37 #[.agg #[.slice (some ⟨b, off, none⟩) len cap, .int .i64 now], .agg (ndV x y).toArray, .int .i64 ((k : Int) + 1)] (Go.Sort.grow (redrawn wn d) os) fun e w'' => e = .returned (.bool (nodI l now k)) ∧ ∃ p : Regrown, w'' = Go.Sort.grow (redrawn wn p.d) p.os := fun d os => Calls.regrown_of (HCr.out _ (below_regrown wn d os))
      cases hn : nodI l now k
      · have hno : Hid (treeI l now = false) := treeI_no (k := k) (by rw [HL.out]; exact hlt) hn
        rw [hn] at cN
        refine wp_region_quiet_below (by kernel_rfl) (by kernel_rfl) ?_
        repeat (first | go_big_quiet_skip | (go_big_quiet_want; refine quiet_load_mid 31 _ rfl _ _ (by rfl) _ _ R1 hu rfl (by kernel_rfl) ?_; simp only [Act.put, List.setIfInBounds_toArray, List.set_cons_zero, List.set_cons_succ]; go_big_quiet_on) | (go_big_quiet_want; go_big_quiet_op; first | go_big_quiet_on | go_big_quiet_call (first | exact cM _ _ | exact cN _ _)))
        refine wpQuiet_nil ?_
        intro _ hw'
        obtain ⟨⟨dq, osq⟩, hw''⟩ := hw'
        subst hw''
        have HB2 : Hid (Below w.heap.size w (Go.Sort.grow (redrawn wn dq) osq)) := HBr.out.trans ((below_regrown wn dq osq).mono HBr.out.size)
        have HX2 : Hid (BoxR (Go.Sort.grow (redrawn wn dq) osq) X [.slice (some ⟨b, off, none⟩) len cap, .int .i64 now]) := HXr.out.below (below_regrown wn dq osq)
        generalize Go.Sort.grow (redrawn wn dq) osq = w4 at HB2 HX2 ⊢
        clear R1 y0 y1 cM cN
        go_wp2
        go_ret
        exact ⟨ret_boolW hno.out.symm, HB2.out⟩
      · have hyes : Hid (nodT l now (k + 1) = true) := nodT_next hto.out hn
        rw [hn] at cN
        refine wp_region_quiet_below (by kernel_rfl) (by kernel_rfl) ?_
        repeat (first | go_big_quiet_skip | (go_big_quiet_want; refine quiet_load_mid 31 _ rfl _ _ (by rfl) _ _ R1 hu rfl (by kernel_rfl) ?_; simp only [Act.put, List.setIfInBounds_toArray, List.set_cons_zero, List.set_cons_succ]; go_big_quiet_on) | (go_big_quiet_want; go_big_quiet_op; first | go_big_quiet_on | go_big_quiet_call (first | exact cM _ _ | exact cN _ _)))
        refine wpQuiet_nil ?_
        intro _ hw'
        obtain ⟨⟨dq, osq⟩, hw''⟩ := hw'
        subst hw''
        have HB2 : Hid (Below w.heap.size w (Go.Sort.grow (redrawn wn dq) osq)) := HBr.out.trans ((below_regrown wn dq osq).mono HBr.out.size)
        have HX2 : Hid (BoxR (Go.Sort.grow (redrawn wn dq) osq) X [.slice (some ⟨b, off, none⟩) len cap, .int .i64 now]) := HXr.out.below (below_regrown wn dq osq)
        generalize Go.Sort.grow (redrawn wn dq) osq = w4 at HB2 HX2 ⊢
        clear R1 y0 y1 cM cN
        go_wp2
        go_roundw
        case rel => exact ⟨k + 1, by omega, by go_num, hyes, HB2, HX2⟩
        case measure => simp [intOf]; omega
    · have : k = len := by omega
      subst this
      have t0 : wr.cell? ⟨X, 0, none⟩ = some (.slice (some ⟨b, off, none⟩) k cap) := hX.out.at0 0 _ rfl
      have t1 : wr.cell? ⟨X, 1, none⟩ = some (.int .i64 now) := hX.out.at0 1 _ rfl
      have HE : Hid (treeI l now = allR l k k) := (by show _ = _; rw [treeI_yes (by rw [HL.out]; omega) (by rw [HL.out]; omega) H3.out H4.out H6.out (by rw [HL.out]; exact hto.out), HL.out])
      have HAr : Hid (Calls Tryz.prog 39 #[.agg #[.slice (some ⟨b, off, none⟩) k cap, .int .i64 now]] wr fun e w'' => e = .returned (.bool (allR l k k)) ∧ Below wr.heap.size wr w'') := iAllR_any (some ⟨b, off, none⟩) k cap l now (by omega) wr (HI.out.below hB.out)
      go_wp2_with (go_at_call 39; refine (HAr.out).mono ?_; rintro e w3 ⟨rfl, hb⟩; have HB3 : Hid (Below w.heap.size w w3) := Below.on hB.out hb; clear hb)
      go_ret
      exact ⟨ret_boolW (by rw [HE.out]), HB3.out⟩
end Go.Proofs.YtgodbelcddgdmaaGreat
