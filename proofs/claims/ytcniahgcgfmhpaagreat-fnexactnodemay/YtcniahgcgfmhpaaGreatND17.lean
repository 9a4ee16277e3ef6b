/- Laid together: TrI9, TrJ. -/
import Derived.Test.YtcniahgcgfmhpaaGreatND15
import Derived.Test.YtcniahgcgfmhpaaGreatND16
/- The program's isReached, allReached. -/
namespace Go.Proofs.YtcniahgcgfmhpaaGreat
open Go.RowKit Go.PlainAid Go.Deep
set_option linter.unusedVariables false
/-- From the directory of number m, whose Up is u, one comes to the first node, in fewer than f steps. -/
def riB (l : List Nd) : Nat → Int → Int → Bool
  | 0, _, _ => false
  | f + 1, m, u => m == 1 || (if diB l u then riB l f u (ndAt l (u - 1).toNat).up else riB l f 0 0)
theorem BoxW.whole {w : World} {B : Nat} {cs vs : List Value} (h : BoxW w B cs) (hl : vs.length = cs.length) : BoxW (w.setCells B 0 vs) B vs :=
  ⟨by rw [size_setCellsT]; exact h.lt, World.rangeAt_setCells_same _ _ _ _ (h.there 0 _ (by omega)), fun j => by rw [World.frozen?_setCells]; exact h.frz j⟩
theorem DW.c {w : World} {B : Nat} {x : Nd} {y : Na} {n : Int} (h : BoxW w B (drV x y n)) : w.cell? ⟨B, 20, none⟩ = some (.int .i64 x.up) ∧ w.cell? ⟨B, 24, none⟩ = some (.int .i64 n) := ⟨h.at0 20 _ rfl, h.at0 24 _ rfl⟩
set_option maxRecDepth 20000 in
set_option maxHeartbeats 8000000 in
/-- impl.isReached. -/
theorem iReached_any (a : Option Addr) (len cap : Nat) (l : List Nd) (now : Int) (x : Nd) (y : Na) (n : Int) (hl : len ≤ 1048576) (w : World) (hi : Nds a len l w) :
    Calls Tryz.prog 89 #[.agg #[.slice a len cap, .int .i64 now], .agg (drV x y n).toArray] w fun e w' => e = .returned (.bool (riB l len n x.up)) ∧ Below w.heap.size w w' := by
  have HI : Hid (Nds a len l w) := hi
  have hll := hi.1
  clear hi
  have HX : Hid (BoxR ((w.alloc (.cells #[.slice a len cap, .int .i64 now] 33)).alloc (.cells (drV x y n).toArray 106)) w.heap.size [.slice a len cap, .int .i64 now]) := (boxR_new w [.slice a len cap, .int .i64 now] 33).below (bel_alloc _ _)
  have HZ : Hid (BoxW ((w.alloc (.cells #[.slice a len cap, .int .i64 now] 33)).alloc (.cells (drV x y n).toArray 106)) (w.heap.size + 1) (drV x y n)) := (by
    have h := boxW_new (w.alloc (.cells #[.slice a len cap, .int .i64 now] 33)) (drV x y n) 106
    simp only [World.size_alloc] at h
    exact h)
  have HB : Hid (Below w.heap.size w ((w.alloc (.cells #[.slice a len cap, .int .i64 now] 33)).alloc (.cells (drV x y n).toArray 106))) := bl2T _ _ _
  go_enter Tryz.func89, Tryz.ntmps89
  go_upto_region 1 with fail
  generalize ((w.alloc (.cells #[.slice a len cap, .int .i64 now] 33)).alloc (.cells (drV x y n).toArray 106)) = w0 at HX HZ HB ⊢
  obtain ⟨X, hX⟩ : ∃ X, X = w.heap.size := ⟨_, rfl⟩
  have HXw : Hid (X = w.heap.size) := hX
  rw [← hX] at HX HZ ⊢
  clear hX
  have t0 : w0.cell? ⟨X, 0, none⟩ = some (.slice a len cap) := HX.out.at0 0 _ rfl
  have t1 : w0.cell? ⟨X, 1, none⟩ = some (.int .i64 now) := HX.out.at0 1 _ rfl
  go_wp2
  go_loopw [8] (fun i wr => ∃ (k : Nat) (u : Nd) (yu : Na) (m : Int), k ≤ len ∧ i = .int .i64 k ∧ Hid (riB l len n x.up = riB l (len - k) m u.up) ∧ Hid (Below w.heap.size w wr) ∧ Hid (BoxR wr X [.slice a len cap, .int .i64 now]) ∧ Hid (BoxW wr (X + 1) (drV u yu m))) (fun i _ => len - (intOf i).toNat)
  case atStart => exact ⟨0, x, y, n, Nat.zero_le _, rfl, rfl, HB, HX, HZ⟩
  case round =>
    obtain ⟨k, u, yu, m, hk, rfl, hR, hB, hX, hZ⟩ := hrel
    clear t0 t1
    have t0 : wr.cell? ⟨X, 0, none⟩ = some (.slice a len cap) := hX.out.at0 0 _ rfl
    have t1 : wr.cell? ⟨X, 1, none⟩ = some (.int .i64 now) := hX.out.at0 1 _ rfl
    obtain ⟨c20, c24⟩ := DW.c hZ.out
    by_cases hlt : k < len
    · have hlt' : (k : Int) < (len : Int) := by omega
      obtain ⟨f, hfu⟩ : ∃ f, len - k = f + 1 := ⟨len - k - 1, by omega⟩
      have hfk : len - (k + 1) = f := by omega
      rw [hfu] at hR
      by_cases e1 : m = 1
      · subst e1
        have hyes : Hid (riB l len n x.up = true) := (by show _ = _; rw [hR.out]; simp [riB])
        go_wp2
        go_ret
        exact ⟨ret_boolW hyes.out.symm, hB.out⟩
      · have e2 : (m == 1) = false := by simp [e1]
        cases hd : diB l u.up
        · have hst : Hid (riB l len n x.up = riB l f 0 ndZ.up) := (by show _ = _; rw [hR.out]; simp [riB, e1, hd, ndZ])
          have HC : Hid (Calls Tryz.prog 117 #[.agg #[.slice a len cap, .int .i64 now], .int .i64 u.up] wr fun e w'' => e = .returned (.tuple #[.agg (drV ndZ naZ 0).toArray, .bool false]) ∧ Below wr.heap.size wr w'') := iDirAt_no a len cap l now u.up hl wr (HI.out.below hB.out) hd
          clear e1 hR hd
          go_wp2_with fail
          refine (HC.out).mono ?_
          rintro e w1 ⟨rfl, hb⟩
          have HB1 : Hid (Below w.heap.size w w1) := Below.on hB.out hb
          have HX1 : Hid (BoxR w1 X [.slice a len cap, .int .i64 now]) := hX.out.below hb
          have HZ1 : Hid (BoxW w1 (X + 1) (drV u yu m)) := hZ.out.below hb
          have HB2 : Hid (Below w.heap.size w (w1.setCells (X + 1) 0 (drV ndZ naZ 0))) := bl_setsT (by have := HXw.out; omega) _ _ HB1.out
          have HX2 : Hid (BoxR (w1.setCells (X + 1) 0 (drV ndZ naZ 0)) X [.slice a len cap, .int .i64 now]) := HX1.out.others (by omega)
          have HZ2 : Hid (BoxW (w1.setCells (X + 1) 0 (drV ndZ naZ 0)) (X + 1) (drV ndZ naZ 0)) := HZ1.out.whole (by rw [drV_len, drV_len])
          clear hb hB hX hZ t0 t1 c20 c24
          go_wp2_with (refine wpList_store_list (by rfl) 106 _ _ (by rfl) _ _ (drV ndZ naZ 0) (by rfl) (by rfl) (by rw [drV_len]; exact HZ1.out.there 0 25 (by rw [drV_len]; omega)) (by kernel_rfl) (drV_ones _ _ _) ?_)
          go_roundw
          case rel => exact ⟨k + 1, ndZ, naZ, 0, by omega, by go_num, by rw [hfk]; exact hst, HB2, HX2, HZ2⟩
          case measure => simp [intOf]; omega
        · have hin := inR_iff.1 (thB_num (diB_th hd))
          obtain ⟨j, hj⟩ : ∃ j : Nat, u.up = (j : Int) + 1 := ⟨(u.up - 1).toNat, by omega⟩
          have hst : Hid (riB l len n x.up = riB l f ((j : Int) + 1) (ndAt l j).up) := (by show _ = _; rw [hR.out]; simp only [riB, e2, hd, if_true, Bool.false_or]; rw [hj, at_succ])
          have HC : Hid (Calls Tryz.prog 117 #[.agg #[.slice a len cap, .int .i64 now], .int .i64 u.up] wr fun e w'' => ∃ yk, e = .returned (.tuple #[.agg (drV (ndAt l j) yk ((j : Int) + 1)).toArray, .bool true]) ∧ NdIn w'' (ndAt l j) yk ∧ Below wr.heap.size wr w'') := (by rw [hj]; exact iDirAt_yes a len cap l now j hl wr (HI.out.below hB.out) (by rw [← hj]; exact hd))
          clear e1 hR hd hin hj
          go_wp2_with fail
          refine (HC.out).mono ?_
          rintro e w1 ⟨yk, rfl, _, hb⟩
          have HB1 : Hid (Below w.heap.size w w1) := Below.on hB.out hb
          have HX1 : Hid (BoxR w1 X [.slice a len cap, .int .i64 now]) := hX.out.below hb
          have HZ1 : Hid (BoxW w1 (X + 1) (drV u yu m)) := hZ.out.below hb
          have HB2 : Hid (Below w.heap.size w (w1.setCells (X + 1) 0 (drV (ndAt l j) yk ((j : Int) + 1)))) := bl_setsT (by have := HXw.out; omega) _ _ HB1.out
          have HX2 : Hid (BoxR (w1.setCells (X + 1) 0 (drV (ndAt l j) yk ((j : Int) + 1))) X [.slice a len cap, .int .i64 now]) := HX1.out.others (by omega)
          have HZ2 : Hid (BoxW (w1.setCells (X + 1) 0 (drV (ndAt l j) yk ((j : Int) + 1))) (X + 1) (drV (ndAt l j) yk ((j : Int) + 1))) := HZ1.out.whole (by rw [drV_len, drV_len])
          clear hb hB hX hZ t0 t1 c20 c24
          go_wp2_with (refine wpList_store_list (by rfl) 106 _ _ (by rfl) _ _ (drV (ndAt l j) yk ((j : Int) + 1)) (by rfl) (by rfl) (by rw [drV_len]; exact HZ1.out.there 0 25 (by rw [drV_len]; omega)) (by kernel_rfl) (drV_ones _ _ _) ?_)
          go_roundw
          case rel => exact ⟨k + 1, ndAt l j, yk, (j : Int) + 1, by omega, by go_num, by rw [hfk]; exact hst, HB2, HX2, HZ2⟩
          case measure => simp [intOf]; omega
    · have : k = len := by omega
      subst this
      have hno : Hid (riB l k n x.up = false) := (by show _ = _; rw [hR.out, Nat.sub_self]; rfl)
      go_wp2
      go_ret
      exact ⟨ret_boolW hno.out.symm, hB.out⟩
end Go.Proofs.YtcniahgcgfmhpaaGreat
/- The program's allReached, TreeRight. -/
namespace Go.Proofs.YtcniahgcgfmhpaaGreat
open Go.RowKit Go.PlainAid Go.Deep
set_option linter.unusedVariables false
def rchB (l : List Nd) (f : Nat) (d : Nd × Na × Int) : Bool := riB l f d.2.2 d.1.up
theorem all_take {p : Nd × Na × Int → Bool} {ds : List (Nd × Na × Int)} {j : Nat} (hj : j < ds.length) : (ds.take (j + 1)).all p = ((ds.take j).all p && p ds[j]) := by
  rw [← List.take_append_getElem hj, List.all_append]
  simp only [List.all_cons, List.all_nil, Bool.and_true]
theorem all_false {p : Nd × Na × Int → Bool} {ds : List (Nd × Na × Int)} {j : Nat} (hj : j < ds.length) (h : p ds[j] = false) : ds.all p = false := by
  cases e : ds.all p
  · rfl
  · rw [List.all_eq_true] at e
    rw [e _ (List.getElem_mem hj)] at h
    cases h
/-- Each directory among the first k nodes is reached. -/
def allR (l : List Nd) (f : Nat) : Nat → Bool
  | 0 => true
  | k + 1 => allR l f k && (if (ndAt l k).k == 1 then riB l f ((k : Int) + 1) (ndAt l k).up else true)
theorem all_dirs (l : List Nd) (Y : Nat → Na) (f : Nat) : ∀ k, (dirsOf l Y k).all (rchB l f) = allR l f k
  | 0 => rfl
  | k + 1 => by
    simp only [dirsOf, allR]
    cases h : ((ndAt l k).k == 1)
    · simp [all_dirs l Y f k]
    · simp only [if_true, List.all_append, all_dirs l Y f k]
      simp [rchB]
set_option maxRecDepth 20000 in
set_option maxHeartbeats 8000000 in
/-- impl.allReached. -/
theorem iAllR_any (a : Option Addr) (len cap : Nat) (l : List Nd) (now : Int) (hl : len ≤ 12) (w : World) (hi : Nds a len l w) :
    Calls Tryz.prog 57 #[.agg #[.slice a len cap, .int .i64 now]] w fun e w' => e = .returned (.bool (allR l len len)) ∧ Below w.heap.size w w' := by
  obtain ⟨b, off, Y, hY⟩ : ∃ (b off : Nat) (Y : Nat → Na), (0 < len → a = some ⟨b, off, none⟩ ∧ b < w.heap.size) ∧ ∀ i, i < len → N24 w b (off + i * 24) (ndAt l i) (Y i) := by
    by_cases h0 : 0 < len
    · obtain ⟨b, off, Y, h1, h2, h3⟩ := hi.2 h0
      exact ⟨b, off, Y, fun _ => ⟨h1, h2⟩, fun i hi => (h3 i hi).1⟩
    · exact ⟨0, 0, fun _ => naZ, fun h => absurd h h0, fun i hi => absurd hi (by omega)⟩
  have HA : Hid (∀ w', Below w.heap.size w w' → (0 < len → a = some ⟨b, off, none⟩ ∧ b < w'.heap.size)) := (fun w' hb h => ⟨(hY.1 h).1, Nat.lt_of_lt_of_le (hY.1 h).2 hb.size⟩)
  have HC : Hid (∀ w', Below w.heap.size w w' → ∀ i, i < len → N24 w' b (off + i * 24) (ndAt l i) (Y i)) := (fun w' hb i hi => range_below (hY.2 i hi) (hY.1 (by omega)).2 hb)
  have HI : Hid (Nds a len l w) := hi
  have HE : Hid ((dirsOf l Y len).all (rchB l len) = allR l len len) := all_dirs l Y len len
  have hdl := dirsOf_len l Y len
  have hlm : len ≤ 1048576 := by omega
  clear hi hY
  have HB : Hid (Below w.heap.size w (w.alloc (.cells #[.slice a len cap, .int .i64 now] 33))) := bel_alloc _ _
  have HX : Hid (BoxR (w.alloc (.cells #[.slice a len cap, .int .i64 now] 33)) w.heap.size [.slice a len cap, .int .i64 now]) := boxR_new _ _ _
  go_enter Tryz.func57, Tryz.ntmps57
  go_upto_region 1 with fail
  generalize (w.alloc (.cells #[.slice a len cap, .int .i64 now] 33)) = w0 at HB HX ⊢
  obtain ⟨X, hX⟩ : ∃ X, X = w.heap.size := ⟨_, rfl⟩
  rw [← hX] at HX ⊢
  clear hX
  have t0 : w0.cell? ⟨X, 0, none⟩ = some (.slice a len cap) := HX.out.at0 0 _ rfl
  have t1 : w0.cell? ⟨X, 1, none⟩ = some (.int .i64 now) := HX.out.at0 1 _ rfl
  go_wp2_with fail
  refine (iDirs_any a len cap l now Y b off hl _ (HA.out _ HB.out) (HC.out _ HB.out)).mono ?_
  rintro e w1 ⟨v, rfl, hO, hb⟩
  have HB1 : Hid (Below w.heap.size w w1) := Below.on HB.out hb
  have HX1 : Hid (BoxR w1 X [.slice a len cap, .int .i64 now]) := HX.out.below hb
  obtain ⟨a1, cap1, rfl, hrow⟩ := ds_of_row hO
  have HR : Hid _ := hrow
  clear hb hO hrow HB HX t0 t1 HA HC
  generalize dirsOf l Y len = ds at HE hdl HR ⊢
  go_wp2
  go_loopw [8] (fun i wr => ∃ j : Nat, j ≤ ds.length ∧ i = .int .i64 j ∧ Hid ((ds.take j).all (rchB l len) = true) ∧ Hid (Below w1.heap.size w1 wr)) (fun i _ => ds.length - (intOf i).toNat)
  case atStart => exact ⟨0, Nat.zero_le _, rfl, rfl, Below.refl _ _⟩
  case round =>
    obtain ⟨j, hj, rfl, hto, hB⟩ := hrel
    by_cases hlt : j < ds.length
    · obtain ⟨g, rfl, hg, hr⟩ := HR.out j hlt
      have hlt' : (j : Int) < (ds.length : Int) := by omega
      have hj0 : (0 : Int) ≤ (j : Int) := by omega
      have HG : Hid (wr.rangeAt g (j * 25) (drV (ds[j]).1 (ds[j]).2.1 (ds[j]).2.2)) := range_below hr hg hB.out
      have HS : Hid ((ds.take (j + 1)).all (rchB l len) = ((ds.take j).all (rchB l len) && riB l len (ds[j]).2.2 (ds[j]).1.up)) := all_take hlt
      have HF : Hid (riB l len (ds[j]).2.2 (ds[j]).1.up = false → allR l len len = false) := (fun h => by rw [← HE.out]; exact all_false hlt h)
      clear hr
      generalize (ds[j]).1 = x at HG HS HF
      generalize (ds[j]).2.1 = y at HG
      generalize (ds[j]).2.2 = m at HG HS HF
      have hbN : Below wr.heap.size wr ((wr.alloc (.cells #[.int .i64 0, .int .i64 0, .int .i64 0, .int .i64 0, .int .i64 0, .int .i64 0, .int .i64 0, .slice none 0 0, .slice none 0 0, .bool false, .int .i64 0, .bool false, .int .i64 0, .int .i64 0, .int .i64 0, .slice none 0 0, .slice none 0 0, .bool false, .int .i64 0, .int .i64 0, .int .i64 0, .string ⟨#[]⟩, .slice none 0 0, .int .i64 0, .int .i64 0] 106)).setCells wr.heap.size 0 (drV x y m)) := bl_setsT (Nat.le_refl _) _ _ (bel_alloc _ _)
      have HBn : Hid (Below w1.heap.size w1 ((wr.alloc (.cells #[.int .i64 0, .int .i64 0, .int .i64 0, .int .i64 0, .int .i64 0, .int .i64 0, .int .i64 0, .slice none 0 0, .slice none 0 0, .bool false, .int .i64 0, .bool false, .int .i64 0, .int .i64 0, .int .i64 0, .slice none 0 0, .slice none 0 0, .bool false, .int .i64 0, .int .i64 0, .int .i64 0, .string ⟨#[]⟩, .slice none 0 0, .int .i64 0, .int .i64 0] 106)).setCells wr.heap.size 0 (drV x y m))) := Below.on hB.out hbN
      have HUn : Hid (BoxR ((wr.alloc (.cells #[.int .i64 0, .int .i64 0, .int .i64 0, .int .i64 0, .int .i64 0, .int .i64 0, .int .i64 0, .slice none 0 0, .slice none 0 0, .bool false, .int .i64 0, .bool false, .int .i64 0, .int .i64 0, .int .i64 0, .slice none 0 0, .slice none 0 0, .bool false, .int .i64 0, .int .i64 0, .int .i64 0, .string ⟨#[]⟩, .slice none 0 0, .int .i64 0, .int .i64 0] 106)).setCells wr.heap.size 0 (drV x y m)) wr.heap.size (drV x y m)) := ⟨by rw [size_setCellsT]; simp, World.rangeAt_setCells_same _ _ _ _ (by rw [drV_len]; exact there25 _)⟩
      clear hbN
      go_upto_region 4 with (first | (refine wpList_load_mid (by rfl) 106 _ (by rfl) _ _ (by rfl) _ _ HG.out Tryz.underlying106 rfl (by kernel_rfl) ?_) | (refine wpList_store_list (by rfl) 106 _ _ (by rfl) _ _ (drV x y m) (by rfl) (by rfl) (by rw [drV_len]; exact there25 _) (by kernel_rfl) (drV_ones _ _ _) ?_))
      generalize ((wr.alloc (.cells #[.int .i64 0, .int .i64 0, .int .i64 0, .int .i64 0, .int .i64 0, .int .i64 0, .int .i64 0, .slice none 0 0, .slice none 0 0, .bool false, .int .i64 0, .bool false, .int .i64 0, .int .i64 0, .int .i64 0, .slice none 0 0, .slice none 0 0, .bool false, .int .i64 0, .int .i64 0, .int .i64 0, .string ⟨#[]⟩, .slice none 0 0, .int .i64 0, .int .i64 0] 106)).setCells wr.heap.size 0 (drV x y m)) = wn at HBn HUn ⊢
      generalize wr.heap.size = U at HUn ⊢
      have HXn : Hid (BoxR wn X [.slice a len cap, .int .i64 now]) := HX1.out.below HBn.out
      have t0 : wn.cell? ⟨X, 0, none⟩ = some (.slice a len cap) := HXn.out.at0 0 _ rfl
      have t1 : wn.cell? ⟨X, 1, none⟩ = some (.int .i64 now) := HXn.out.at0 1 _ rfl
      have HCl : Hid (Calls Tryz.prog 89 #[.agg #[.slice a len cap, .int .i64 now], .agg (drV x y m).toArray] wn fun e w'' => e = .returned (.bool (riB l len m x.up)) ∧ Below wn.heap.size wn w'') := iReached_any a len cap l now x y m hlm wn (HI.out.below (Below.on HB1.out HBn.out))
      cases hq : riB l len m x.up
      · have hno : Hid (allR l len len = false) := HF.out hq
        rw [hq] at HCl
        go_wp2_with (first | (refine wpList_load_mid (by rfl) 106 _ (by rfl) _ _ (by rfl) _ _ HUn.out.at0 Tryz.underlying106 rfl (by kernel_rfl) ?_) | (go_at_call 89; refine (HCl.out).mono ?_; rintro e w3 ⟨rfl, hb⟩; have HB3 : Hid (Below w1.heap.size w1 w3) := Below.on HBn.out hb; clear hb))
        go_ret
        exact ⟨ret_boolW hno.out.symm, Below.on HB1.out HB3.out⟩
      · have hyes : Hid ((ds.take (j + 1)).all (rchB l len) = true) := (by show _ = _; rw [HS.out, hto.out, hq]; rfl)
        rw [hq] at HCl
        go_wp2_with (first | (refine wpList_load_mid (by rfl) 106 _ (by rfl) _ _ (by rfl) _ _ HUn.out.at0 Tryz.underlying106 rfl (by kernel_rfl) ?_) | (go_at_call 89; refine (HCl.out).mono ?_; rintro e w3 ⟨rfl, hb⟩; have HB3 : Hid (Below w1.heap.size w1 w3) := Below.on HBn.out hb; clear hb))
        go_roundw
        case rel => exact ⟨j + 1, by omega, by go_num, hyes, HB3⟩
        case measure => simp [intOf]; omega
    · have : j = ds.length := by omega
      subst this
      have hyes : Hid (allR l len len = true) := (by show _ = _; rw [← HE.out]; have h := hto.out; rwa [List.take_length] at h)
      go_wp2
      go_ret
      exact ⟨ret_boolW hyes.out.symm, Below.on HB1.out hB.out⟩
/-- The nodes as the program asks them. -/
def lnkD (l : List Nd) (d : Nat) : Int := cdD l ((d : Int) + 1) l.length + (if d = 0 then 1 else 0)
def nodI (l : List Nd) (now : Int) (d : Nat) : Bool := (ndAt l d).nI ((ndAt l d).alI now (lnkD l d)) ((ndAt l d).dirI l ((d : Int) + 1))
def nodT (l : List Nd) (now : Int) : Nat → Bool
  | 0 => true
  | k + 1 => nodT l now k && nodI l now k
/-- impl.TreeRight. -/
def treeI (l : List Nd) (now : Int) : Bool := decide (1 ≤ l.length) && (decide (l.length ≤ 12) && (inR 0 1000000 now && ((ndAt l 0).k == 1 && ((ndAt l 0).up == 1 && (nodT l now l.length && allR l l.length l.length)))))
theorem cdD_b (l : List Nd) (n : Int) : ∀ k, k ≤ l.length → (∀ i, i < l.length → (ndAt l i).ns.length ≤ 1048576) → 0 ≤ cdD l n k ∧ cdD l n k ≤ k * 1048576
  | 0, _, _ => by simp [cdD]
  | k + 1, hk, h => by
    have h1 := cdD_b l n k (by omega) h
    have h2 := cntE_b (ndAt l k).ns n (ndAt l k).ns.length
    have h3 := h k (by omega)
    simp only [cdD]
    rw [show ((k + 1 : Nat) : Int) * 1048576 = k * 1048576 + 1048576 by omega]
    split <;> omega
theorem nodT_false {l : List Nd} {now : Int} {k n : Nat} (h : k < n) (hk : nodI l now k = false) : nodT l now n = false := by
  induction n with
  | zero => omega
  | succ n ih =>
    by_cases e : k = n
    · subst e; simp only [nodT, hk, Bool.and_false]
    · simp only [nodT, ih (by omega), Bool.false_and]
theorem treeI_no {l : List Nd} {now : Int} {k : Nat} (h : k < l.length) (hk : nodI l now k = false) : treeI l now = false := by simp only [treeI, nodT_false h hk, Bool.and_false, Bool.false_and]
end Go.Proofs.YtcniahgcgfmhpaaGreat
