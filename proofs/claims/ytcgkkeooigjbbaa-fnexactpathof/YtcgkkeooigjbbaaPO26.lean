/- Laid together: PathOfI. -/
import Derived.Test.YtcgkkeooigjbbaaPO23
import Derived.Test.YtcgkkeooigjbbaaPO25
/- impl.PathOf. -/
namespace Go.Proofs.Ytcgkkeooigjbbaa
open Go.RowKit Go.PlainAid Go.Deep
set_option linter.unusedVariables false
def pick3 (a b c : ByteArray) : Nat → ByteArray := fun i => if i = 0 then a else if i = 1 then b else c
theorem cat3 (a b c : ByteArray) : (⟨(catTo (pick3 a b c) 3).toArray⟩ : ByteArray) = a ++ b ++ c := by
  apply ByteArray.ext
  apply Array.toList_inj.1
  simp [ByteArray.data_append, catTo, pick3]
theorem join_three (a b c : ByteArray) (w : World) (h : a.size + b.size + c.size ≤ 1000000) (cap : Nat) :
    Calls Try.prog 47 #[.slice (some ⟨w.heap.size, 0, none⟩) 3 cap] (w.alloc (.cells #[.string a, .string b, .string c] 9)) fun e' w' => e' = .returned (.string (a ++ b ++ c)) ∧ Below w.heap.size w w' := by
  have hb : (w.alloc (.cells #[.string a, .string b, .string c] 9)).heap[w.heap.size]? = some (.cells #[.string a, .string b, .string c] 9) := by
    rw [World.alloc]
    exact Array.getElem?_push_size
  have hc : ∀ k, k < 3 → (w.alloc (.cells #[.string a, .string b, .string c] 9)).cell? ⟨w.heap.size, 0 + k, none⟩ = some (.string (pick3 a b c k)) := by
    intro k hk
    simp only [World.cell?, hb, Nat.zero_add]
    match k, hk with
    | 0, _ => rfl
    | 1, _ => rfl
    | 2, _ => rfl
  refine (join_any (pick3 a b c) w.heap.size 0 3 cap _ hc (by simp) (by omega) (by simp [totTo, pick3]; omega)).mono ?_
  rintro e' w' ⟨rfl, hbl⟩
  exact ⟨by (first | (rw [cat3]; rfl) | rw [cat3]), Below.on (bel_alloc _ _) hbl⟩
set_option maxHeartbeats 4000000 in
theorem cmpOr_two (p : ByteArray) (w : World) :
    Calls Try.prog 49 #[.slice (some ⟨w.heap.size, 0, none⟩) 2 2] (w.alloc (.cells #[.string p, .string ⟨#[47]⟩] 9)) fun e w' => e = .returned (.string (orP p)) ∧ Below w.heap.size w w' := by
  have HB : Hid (Below w.heap.size w (w.alloc (.cells #[.string p, .string ⟨#[47]⟩] 9))) := bel_alloc _ _
  have HX : Hid (BoxR (w.alloc (.cells #[.string p, .string ⟨#[47]⟩] 9)) w.heap.size [.string p, .string ⟨#[47]⟩]) := boxR_new _ _ _
  generalize (w.alloc (.cells #[.string p, .string ⟨#[47]⟩] 9)) = w0 at HB HX ⊢
  generalize hX : w.heap.size = X at HX HB ⊢
  clear hX
  have t0 : w0.cell? ⟨X, 0, none⟩ = some (.string p) := HX.out.at0 0 _ rfl
  have t1 : w0.cell? ⟨X, 1, none⟩ = some (.string ⟨#[47]⟩) := HX.out.at0 1 _ rfl
  cases e : (p.toList == [])
  · have HE : Hid (orP p = p) := (by show _ = _; rw [orP, e]; rfl)
    obtain ⟨e1, e2⟩ := strs_of e
    clear HX e
    go_enter Try.func49, Try.ntmps49
    go_wp2
    go_rounds 3
    go_ret
    exact ⟨by (first | (rw [HE.out]; rfl) | rw [HE.out]), HB.out⟩
  · have HE : Hid (orP p = ⟨#[47]⟩) := (by show _ = _; rw [orP, e]; rfl)
    obtain ⟨e1, e2⟩ := strs_of e
    clear HX e
    go_enter Try.func49, Try.ntmps49
    go_wp2
    go_rounds 3
    go_ret
    exact ⟨by (first | (rw [HE.out]; rfl) | rw [HE.out]), HB.out⟩
set_option maxRecDepth 20000 in
set_option maxHeartbeats 4000000 in
theorem iNameFor_any (x : Nd) (y : Na) (n : Int) (hf : x.ns.length ≤ 1048576) (w : World) (hi : Ens y.nA x.ns.length x.ns w) :
    Calls Try.prog 48 #[.agg (ndV x y).toArray, .int .i64 n] w fun e w' => e = .returned (.string (nfT x.ns n x.ns.length)) ∧ Below w.heap.size w w' := by
  have HM : Hid (Ens y.nA x.ns.length x.ns w) := hi
  clear hi
  have HB : Hid (Below w.heap.size w (w.alloc (.cells (ndV x y).toArray 51))) := bel_alloc _ _
  have HX : Hid (BoxR (w.alloc (.cells (ndV x y).toArray 51)) w.heap.size (ndV x y)) := boxR_new _ _ _
  go_enter Try.func48, Try.ntmps48
  go_upto_region 1 with fail
  generalize (w.alloc (.cells (ndV x y).toArray 51)) = w0 at HB HX ⊢
  obtain ⟨X, hX⟩ : ∃ X, X = w.heap.size := ⟨_, rfl⟩
  rw [← hX] at HX ⊢
  clear hX
  have e22 := NB.c22 HX.out
  have HQ : Hid (Ens y.nA x.ns.length x.ns w0) := HM.out.below HB.out
  clear HM HX
  go_wp2
  go_loopw [10] (fun i wr => ∃ m : Nat, m ≤ x.ns.length ∧ i = .int .i64 m ∧ Hid (hasE x.ns n m = false) ∧ Hid (Below w0.heap.size w0 wr)) (fun i _ => x.ns.length - (intOf i).toNat)
  case atStart => exact ⟨0, Nat.zero_le _, rfl, rfl, Below.refl _ _⟩
  case round =>
    obtain ⟨m, hm, rfl, hno, hB⟩ := hrel
    by_cases hml : m < x.ns.length
    · obtain ⟨b2, off2, hbe, hb2, hc2⟩ := (HQ.out.below hB.out).2 (by omega)
      rw [hbe] at e22 ⊢
      have hml' : (m : Int) < (x.ns.length : Int) := by omega
      have g0 := (hc2 m hml).1
      have g1 := (hc2 m hml).2
      have HS2 : Hid ((noAt x.ns m == n) = false → hasE x.ns n (m + 1) = false) := (fun e => by simp only [hasE, hno.out, e, Bool.or_self])
      have HS3 : Hid ((noAt x.ns m == n) = true → nfT x.ns n x.ns.length = nmAt x.ns m) := (fun e => nfT_at hno.out e _ hml)
      clear hc2 hbe e22
      generalize noAt x.ns m = v at g1 HS2 HS3
      generalize nmAt x.ns m = nm at g0 HS3
      cases e : (v == n)
      · have hno2 : Hid (hasE x.ns n (m + 1) = false) := HS2.out e
        go_wp2
        go_roundw
        case rel => exact ⟨m + 1, by omega, by go_num, hno2, Below.on hB.out (bel_alloc _ _)⟩
        case measure => simp [intOf]; omega
      · have hyes : Hid (nfT x.ns n x.ns.length = nm) := HS3.out e
        go_wp2
        go_ret
        exact ⟨by (first | (rw [hyes.out]; rfl) | rw [hyes.out]), Below.on HB.out (Below.on hB.out (bel_alloc _ _))⟩
    · have : m = x.ns.length := by omega
      subst this
      have hyes : Hid (nfT x.ns n x.ns.length = ⟨#[]⟩) := nfT_none _ hno.out
      go_wp2
      go_ret
      exact ⟨by (first | (rw [hyes.out]; rfl) | rw [hyes.out]), Below.on HB.out hB.out⟩
set_option maxRecDepth 20000 in
set_option maxHeartbeats 8000000 in
theorem iPathOf_any (a : Option Addr) (len cap : Nat) (l : List Nd) (now : Int) (n : Int) (hm : len ≤ 9223372036854775807) (hf : ∀ i, i < len → NdFit 1048576 (ndAt l i)) (w : World) (hi : Nds a len l w) :
    Calls Try.prog 21 #[.agg #[.slice a len cap, .int .i64 now], .int .i64 n] w fun e w' => e = .returned (.string (ptO l now n)) ∧ Below w.heap.size w w' := by
  have HT : Hid (∀ w', Below w.heap.size w w' → Calls Try.prog 28 #[.agg #[.slice a len cap, .int .i64 now]] w' fun e w'' => e = .returned (.bool (treeB l now)) ∧ Below w'.heap.size w' w'') := (fun w' hb => by rw [← tree_same]; exact iTree_any a len cap l now hm hf w' (hi.below hb))
  have hll := hi.1
  cases ht : treeB l now
  · have HE : Hid (ptO l now n = ⟨#[]⟩) := (by show _ = _; simp [ptO, ht])
    rw [ht] at HT
    clear hi hf hll
    have HB : Hid (Below w.heap.size w (w.alloc (.cells #[.slice a len cap, .int .i64 now] 29))) := bel_alloc _ _
    have HX : Hid (BoxR (w.alloc (.cells #[.slice a len cap, .int .i64 now] 29)) w.heap.size [.slice a len cap, .int .i64 now]) := boxR_new _ _ _
    go_enter Try.func21, Try.ntmps21
    go_upto_region 1 with fail
    generalize (w.alloc (.cells #[.slice a len cap, .int .i64 now] 29)) = w0 at HB HX ⊢
    obtain ⟨X, hX⟩ : ∃ X, X = w.heap.size := ⟨_, rfl⟩
    rw [← hX] at HX ⊢
    clear hX
    have t0 : w0.cell? ⟨X, 0, none⟩ = some (.slice a len cap) := HX.out.at0 0 _ rfl
    have t1 : w0.cell? ⟨X, 1, none⟩ = some (.int .i64 now) := HX.out.at0 1 _ rfl
    go_wp2_with (go_at_call 28; refine (HT.out _ HB.out).mono ?_; rintro e w1 ⟨rfl, hb⟩; replace HB : Hid (Below w.heap.size w w1) := Below.on HB.out hb; replace HX : Hid (BoxR w1 X [.slice a len cap, .int .i64 now]) := HX.out.below hb; clear hb; replace t0 : w1.cell? ⟨X, 0, none⟩ = some (.slice a len cap) := HX.out.at0 0 _ rfl; replace t1 : w1.cell? ⟨X, 1, none⟩ = some (.int .i64 now) := HX.out.at0 1 _ rfl)
    go_ret
    exact ⟨by (first | (rw [HE.out]; rfl) | rw [HE.out]), HB.out⟩
  have hlen : len ≤ 12 := by rw [← hll]; exact tree_len ht
  rw [ht] at HT
  have HI : Hid (Nds a len l w) := hi
  cases hd : diB l n
  · have HE : Hid (ptO l now n = ⟨#[]⟩) := (by show _ = _; simp [ptO, ht, hd])
    have HC : Hid (∀ w', Below w.heap.size w w' → Calls Try.prog 46 #[.agg #[.slice a len cap, .int .i64 now], .int .i64 n] w' fun e w'' => e = .returned (.tuple #[.agg (drV ndZ naZ 0).toArray, .bool false]) ∧ Below w'.heap.size w' w'') := (fun w' hb => iDirAt_no a len cap l now n (by omega) w' (HI.out.below hb) hd)
    clear hi hf hll ht
    have HB : Hid (Below w.heap.size w (w.alloc (.cells #[.slice a len cap, .int .i64 now] 29))) := bel_alloc _ _
    have HX : Hid (BoxR (w.alloc (.cells #[.slice a len cap, .int .i64 now] 29)) w.heap.size [.slice a len cap, .int .i64 now]) := boxR_new _ _ _
    go_enter Try.func21, Try.ntmps21
    go_upto_region 1 with fail
    generalize (w.alloc (.cells #[.slice a len cap, .int .i64 now] 29)) = w0 at HB HX ⊢
    obtain ⟨X, hX⟩ : ∃ X, X = w.heap.size := ⟨_, rfl⟩
    rw [← hX] at HX ⊢
    clear hX
    have t0 : w0.cell? ⟨X, 0, none⟩ = some (.slice a len cap) := HX.out.at0 0 _ rfl
    have t1 : w0.cell? ⟨X, 1, none⟩ = some (.int .i64 now) := HX.out.at0 1 _ rfl
    go_wp2_with (first
      | (go_at_call 28; refine (HT.out _ HB.out).mono ?_; rintro e w1 ⟨rfl, hb⟩; replace HB : Hid (Below w.heap.size w w1) := Below.on HB.out hb; replace HX : Hid (BoxR w1 X [.slice a len cap, .int .i64 now]) := HX.out.below hb; clear hb; replace t0 : w1.cell? ⟨X, 0, none⟩ = some (.slice a len cap) := HX.out.at0 0 _ rfl; replace t1 : w1.cell? ⟨X, 1, none⟩ = some (.int .i64 now) := HX.out.at0 1 _ rfl)
      | (go_at_call 46; refine (HC.out _ HB.out).mono ?_; rintro e w1 ⟨rfl, hb⟩; replace HB : Hid (Below w.heap.size w w1) := Below.on HB.out hb; replace HX : Hid (BoxR w1 X [.slice a len cap, .int .i64 now]) := HX.out.below hb; clear hb; replace t0 : w1.cell? ⟨X, 0, none⟩ = some (.slice a len cap) := HX.out.at0 0 _ rfl; replace t1 : w1.cell? ⟨X, 1, none⟩ = some (.int .i64 now) := HX.out.at0 1 _ rfl)
      | (refine wpList_store_list (by rfl) 64 _ _ (by rfl) _ _ (drV ndZ naZ 0) (by rfl) (by rfl) (by rw [drV_len]; exact there25 _) (by kernel_rfl) (drV_ones _ _ _) ?_))
    go_ret
    exact ⟨by (first | (rw [HE.out]; rfl) | rw [HE.out]), bl_setsT (by have := HB.out.size; omega) _ _ ((HB.out).trans ((bel_alloc _ _).mono HB.out.size))⟩
  · have HP : Hid (PtI l (ptG l 13 n ⟨#[]⟩) 13 n ⟨#[]⟩) := pt_start ht hd
    have HE : Hid (ptO l now n = orP (ptG l 13 n ⟨#[]⟩)) := (by show _ = _; simp [ptO, ht, hd])
    have HF : Hid (∀ i, i < len → NdFit 1048576 (ndAt l i)) := hf
    have HTr : Hid (treeB l now = true) := ht
    have HL : Hid (l.length = len) := hll
    generalize ptG l 13 n ⟨#[]⟩ = r at HP HE
    obtain ⟨k, hk, hkl⟩ := di_num hd
    have HDA : Hid (∀ (j : Nat) (w' : World), diB l ((j : Int) + 1) = true → Below w.heap.size w w' → Calls Try.prog 46 #[.agg #[.slice a len cap, .int .i64 now], .int .i64 ((j : Int) + 1)] w' fun e w'' => ∃ yu, e = .returned (.tuple #[.agg (drV (ndAt l j) yu ((j : Int) + 1)).toArray, .bool true]) ∧ NdIn w'' (ndAt l j) yu ∧ Below w'.heap.size w' w'') := (fun j w' h hb => iDirAt_yes a len cap l now j (by omega) w' (HI.out.below hb) h)
    have HC : Hid (∀ w', Below w.heap.size w w' → Calls Try.prog 46 #[.agg #[.slice a len cap, .int .i64 now], .int .i64 n] w' fun e w'' => ∃ yu, e = .returned (.tuple #[.agg (drV (ndAt l k) yu ((k : Int) + 1)).toArray, .bool true]) ∧ NdIn w'' (ndAt l k) yu ∧ Below w'.heap.size w' w'') := (fun w' hb => by rw [hk] at hd ⊢; exact HDA.out k w' hd hb)
    have HK : Hid (n = (k : Int) + 1) := hk
    clear hi hf hll ht hd hk hkl
    have HB : Hid (Below w.heap.size w (w.alloc (.cells #[.slice a len cap, .int .i64 now] 29))) := bel_alloc _ _
    have HX : Hid (BoxR (w.alloc (.cells #[.slice a len cap, .int .i64 now] 29)) w.heap.size [.slice a len cap, .int .i64 now]) := boxR_new _ _ _
    go_enter Try.func21, Try.ntmps21
    go_upto_region 1 with fail
    generalize (w.alloc (.cells #[.slice a len cap, .int .i64 now] 29)) = w0 at HB HX ⊢
    obtain ⟨X, hX⟩ : ∃ X, X = w.heap.size := ⟨_, rfl⟩
    have HX0 : Hid (X = w.heap.size) := hX
    rw [← hX] at HX ⊢
    clear hX
    have t0 : w0.cell? ⟨X, 0, none⟩ = some (.slice a len cap) := HX.out.at0 0 _ rfl
    have t1 : w0.cell? ⟨X, 1, none⟩ = some (.int .i64 now) := HX.out.at0 1 _ rfl
    have HXw : Hid (X = w.heap.size) := HX0
    go_upto_region 3 with (go_at_call 28; refine (HT.out _ HB.out).mono ?_; rintro e w1 ⟨rfl, hb⟩; replace HB : Hid (Below w.heap.size w w1) := Below.on HB.out hb; replace HX : Hid (BoxR w1 X [.slice a len cap, .int .i64 now]) := HX.out.below hb; clear hb; replace t0 : w1.cell? ⟨X, 0, none⟩ = some (.slice a len cap) := HX.out.at0 0 _ rfl; replace t1 : w1.cell? ⟨X, 1, none⟩ = some (.int .i64 now) := HX.out.at0 1 _ rfl)
    rename_i w2
    go_wp2_with fail
    refine (HC.out _ HB.out).mono ?_
    rintro e w3 ⟨yk, rfl, _, hb⟩
    replace HB : Hid (Below w.heap.size w w3) := Below.on HB.out hb
    replace HX : Hid (BoxR w3 X [.slice a len cap, .int .i64 now]) := HX.out.below hb
    clear hb t0 t1
    generalize hx0 : ndAt l k = x0
    have HBn : Hid (Below w.heap.size w ((w3.alloc (.cells #[.int .i64 0, .int .i64 0, .int .i64 0, .int .i64 0, .int .i64 0, .int .i64 0, .int .i64 0, .slice none 0 0, .slice none 0 0, .bool false, .int .i64 0, .bool false, .int .i64 0, .int .i64 0, .int .i64 0, .slice none 0 0, .slice none 0 0, .bool false, .int .i64 0, .int .i64 0, .int .i64 0, .string ⟨#[]⟩, .slice none 0 0, .int .i64 0, .int .i64 0] 64)).setCells w3.heap.size 0 (drV x0 yk ((k : Int) + 1)))) := bl_setsT (by have := HB.out.size; omega) _ _ ((HB.out).trans ((bel_alloc _ _).mono HB.out.size))
    have hne : w3.heap.size ≠ X := by have := HX.out.lt; omega
    have HXn : Hid (BoxR ((w3.alloc (.cells #[.int .i64 0, .int .i64 0, .int .i64 0, .int .i64 0, .int .i64 0, .int .i64 0, .int .i64 0, .slice none 0 0, .slice none 0 0, .bool false, .int .i64 0, .bool false, .int .i64 0, .int .i64 0, .int .i64 0, .slice none 0 0, .slice none 0 0, .bool false, .int .i64 0, .int .i64 0, .int .i64 0, .string ⟨#[]⟩, .slice none 0 0, .int .i64 0, .int .i64 0] 64)).setCells w3.heap.size 0 (drV x0 yk ((k : Int) + 1))) X [.slice a len cap, .int .i64 now]) := (HX.out.below (bel_alloc _ _)).others hne
    have HZn : Hid (BoxW ((w3.alloc (.cells #[.int .i64 0, .int .i64 0, .int .i64 0, .int .i64 0, .int .i64 0, .int .i64 0, .int .i64 0, .slice none 0 0, .slice none 0 0, .bool false, .int .i64 0, .bool false, .int .i64 0, .int .i64 0, .int .i64 0, .slice none 0 0, .slice none 0 0, .bool false, .int .i64 0, .int .i64 0, .int .i64 0, .string ⟨#[]⟩, .slice none 0 0, .int .i64 0, .int .i64 0] 64)).setCells w3.heap.size 0 (drV x0 yk ((k : Int) + 1))) w3.heap.size (drV x0 yk ((k : Int) + 1))) := (boxW_new w3 (drV ndZ naZ 0) 64).whole (by rw [drV_len, drV_len])
    have HDx : Hid (w.heap.size ≤ w3.heap.size ∧ X < w3.heap.size) := ⟨HB.out.size, HX.out.lt⟩
    go_upto_region 4 with (refine wpList_store_list (by rfl) 64 _ _ (by rfl) _ _ (drV x0 yk ((k : Int) + 1)) (by rfl) (by rfl) (by rw [drV_len]; exact there25 _) (by kernel_rfl) (drV_ones _ _ _) ?_)
    generalize ((w3.alloc (.cells #[.int .i64 0, .int .i64 0, .int .i64 0, .int .i64 0, .int .i64 0, .int .i64 0, .int .i64 0, .slice none 0 0, .slice none 0 0, .bool false, .int .i64 0, .bool false, .int .i64 0, .int .i64 0, .int .i64 0, .slice none 0 0, .slice none 0 0, .bool false, .int .i64 0, .int .i64 0, .int .i64 0, .string ⟨#[]⟩, .slice none 0 0, .int .i64 0, .int .i64 0] 64)).setCells w3.heap.size 0 (drV x0 yk ((k : Int) + 1))) = w4 at HBn HXn HZn ⊢
    generalize w3.heap.size = D at HZn HDx hne ⊢
    subst hx0
    clear HB HX
    go_wp2
    go_loopw [7] (fun v wr => ∃ (f : Nat) (m : Int) (p : ByteArray) (i : Nat) (yi : Na), v = .string p ∧ m = (i : Int) + 1 ∧ Hid (PtI l r f m p) ∧ Hid (Below w.heap.size w wr) ∧ Hid (BoxR wr X [.slice a len cap, .int .i64 now]) ∧ Hid (BoxW wr D (drV (ndAt l i) yi ((i : Int) + 1)))) (fun v _ => 170 - stLen v)
    case atStart => exact ⟨13, n, ⟨#[]⟩, k, yk, rfl, HK.out, HP, HBn, HXn, HZn⟩
    case round =>
      obtain ⟨f, m, p, i, yi, rfl, hmi, hP, hB, hX, hZ⟩ := hrel
      have t0 : wr.cell? ⟨X, 0, none⟩ = some (.slice a len cap) := hX.out.at0 0 _ rfl
      have t1 : wr.cell? ⟨X, 1, none⟩ = some (.int .i64 now) := hX.out.at0 1 _ rfl
      obtain ⟨c20, c24⟩ := DW.c hZ.out
      by_cases h1 : m = 1
      · have hi0 : i = 0 := by omega
        subst hi0
        subst h1
        have hr : Hid (r = p) := pt_end hP.out
        have HEnd : Hid (ptO l now n = orP p) := (by show _ = _; rw [HE.out, hr.out])
        have c24b : wr.cell? ⟨D, 24, none⟩ = some (.int .i64 1) := c24
        clear hP hr HE hmi HDA HC HK HP HT HTr c24 c20 hZ HZn
        go_wp2_with (go_at_call 49; refine (cmpOr_two p _).mono ?_; rintro e w5 ⟨rfl, hb5⟩; replace hB : Hid (Below w.heap.size w w5) := Below.on hB.out hb5)
        go_ret
        exact ⟨by (first | (rw [HEnd.out]; rfl) | rw [HEnd.out]), hB.out⟩
      · obtain ⟨g, k2, j, rfl, hk2, hk2l, hj, hjl, hdj, hsz, hP2⟩ := pt_next HTr.out hP.out h1
        have hik : k2 = i := by omega
        subst hik
        have h1b : (((k2 : Int) + 1) == 1) = false := by simp; omega
        rw [hk2] at hsz hP2
        have HP2 : Hid (PtI l r g ((j : Int) + 1) (⟨#[47]⟩ ++ nfT (ndAt l j).ns ((k2 : Int) + 1) (ndAt l j).ns.length ++ p)) := hP2
        have hps := pt_size hP.out
        have hj2 : j < len := by have := HL.out; omega
        have HFj : Hid ((ndAt l j).ns.length ≤ 1048576) := (HF.out j hj2).nl
        rw [hj] at c20
        have HCj : Hid (Calls Try.prog 46 #[.agg #[.slice a len cap, .int .i64 now], .int .i64 ((j : Int) + 1)] wr fun e w'' => ∃ yu, e = .returned (.tuple #[.agg (drV (ndAt l j) yu ((j : Int) + 1)).toArray, .bool true]) ∧ NdIn w'' (ndAt l j) yu ∧ Below wr.heap.size wr w'') := HDA.out j wr hdj hB.out
        clear hP hP2 hj hjl hk2l h1 hdj hmi hk2
        go_wp2_with fail
        refine (HCj.out).mono ?_
        rintro e w5 ⟨yj, rfl, hnj, hb5⟩
        have HB5 : Hid (Below w.heap.size w w5) := Below.on hB.out hb5
        have HX5 : Hid (BoxR w5 X [.slice a len cap, .int .i64 now]) := hX.out.below hb5
        have HZ5 : Hid (BoxW w5 D (drV (ndAt l k2) yi ((k2 : Int) + 1))) := hZ.out.below hb5
        clear hb5 t0 t1 c20 c24 HCj
        have hbn : Below w5.heap.size w5 ((w5.alloc (.cells #[.int .i64 0, .int .i64 0, .int .i64 0, .int .i64 0, .int .i64 0, .int .i64 0, .int .i64 0, .slice none 0 0, .slice none 0 0, .bool false, .int .i64 0, .bool false, .int .i64 0, .int .i64 0, .int .i64 0, .slice none 0 0, .slice none 0 0, .bool false, .int .i64 0, .int .i64 0, .int .i64 0, .string ⟨#[]⟩, .slice none 0 0, .int .i64 0, .int .i64 0] 64)).setCells w5.heap.size 0 (drV (ndAt l j) yj ((j : Int) + 1))) := bl_setsT (Nat.le_refl _) _ _ (bel_alloc _ _)
        have HB6 : Hid (Below w.heap.size w ((w5.alloc (.cells #[.int .i64 0, .int .i64 0, .int .i64 0, .int .i64 0, .int .i64 0, .int .i64 0, .int .i64 0, .slice none 0 0, .slice none 0 0, .bool false, .int .i64 0, .bool false, .int .i64 0, .int .i64 0, .int .i64 0, .slice none 0 0, .slice none 0 0, .bool false, .int .i64 0, .int .i64 0, .int .i64 0, .string ⟨#[]⟩, .slice none 0 0, .int .i64 0, .int .i64 0] 64)).setCells w5.heap.size 0 (drV (ndAt l j) yj ((j : Int) + 1)))) := Below.on HB5.out hbn
        have HX6 : Hid (BoxR ((w5.alloc (.cells #[.int .i64 0, .int .i64 0, .int .i64 0, .int .i64 0, .int .i64 0, .int .i64 0, .int .i64 0, .slice none 0 0, .slice none 0 0, .bool false, .int .i64 0, .bool false, .int .i64 0, .int .i64 0, .int .i64 0, .slice none 0 0, .slice none 0 0, .bool false, .int .i64 0, .int .i64 0, .int .i64 0, .string ⟨#[]⟩, .slice none 0 0, .int .i64 0, .int .i64 0] 64)).setCells w5.heap.size 0 (drV (ndAt l j) yj ((j : Int) + 1))) X [.slice a len cap, .int .i64 now]) := HX5.out.below hbn
        have HZ6 : Hid (BoxW ((w5.alloc (.cells #[.int .i64 0, .int .i64 0, .int .i64 0, .int .i64 0, .int .i64 0, .int .i64 0, .int .i64 0, .slice none 0 0, .slice none 0 0, .bool false, .int .i64 0, .bool false, .int .i64 0, .int .i64 0, .int .i64 0, .slice none 0 0, .slice none 0 0, .bool false, .int .i64 0, .int .i64 0, .int .i64 0, .string ⟨#[]⟩, .slice none 0 0, .int .i64 0, .int .i64 0] 64)).setCells w5.heap.size 0 (drV (ndAt l j) yj ((j : Int) + 1))) D (drV (ndAt l k2) yi ((k2 : Int) + 1))) := HZ5.out.below hbn
        have HU6 : Hid (BoxW ((w5.alloc (.cells #[.int .i64 0, .int .i64 0, .int .i64 0, .int .i64 0, .int .i64 0, .int .i64 0, .int .i64 0, .slice none 0 0, .slice none 0 0, .bool false, .int .i64 0, .bool false, .int .i64 0, .int .i64 0, .int .i64 0, .slice none 0 0, .slice none 0 0, .bool false, .int .i64 0, .int .i64 0, .int .i64 0, .string ⟨#[]⟩, .slice none 0 0, .int .i64 0, .int .i64 0] 64)).setCells w5.heap.size 0 (drV (ndAt l j) yj ((j : Int) + 1))) w5.heap.size (drV (ndAt l j) yj ((j : Int) + 1))) := (boxW_new w5 (drV ndZ naZ 0) 64).whole (by rw [drV_len, drV_len])
        have HN6 : Hid (Ens yj.nA (ndAt l j).ns.length (ndAt l j).ns ((w5.alloc (.cells #[.int .i64 0, .int .i64 0, .int .i64 0, .int .i64 0, .int .i64 0, .int .i64 0, .int .i64 0, .slice none 0 0, .slice none 0 0, .bool false, .int .i64 0, .bool false, .int .i64 0, .int .i64 0, .int .i64 0, .slice none 0 0, .slice none 0 0, .bool false, .int .i64 0, .int .i64 0, .int .i64 0, .string ⟨#[]⟩, .slice none 0 0, .int .i64 0, .int .i64 0] 64)).setCells w5.heap.size 0 (drV (ndAt l j) yj ((j : Int) + 1)))) := (hnj.below hbn).nA
        have HD6 : Hid (D < w5.heap.size) := HZ5.out.lt
        clear hbn hnj
        go_upto_region 9 with (refine wpList_store_list (by rfl) 64 _ _ (by rfl) _ _ (drV (ndAt l j) yj ((j : Int) + 1)) (by rfl) (by rfl) (by rw [drV_len]; exact there25 _) (by kernel_rfl) (drV_ones _ _ _) ?_)
        generalize ((w5.alloc (.cells #[.int .i64 0, .int .i64 0, .int .i64 0, .int .i64 0, .int .i64 0, .int .i64 0, .int .i64 0, .slice none 0 0, .slice none 0 0, .bool false, .int .i64 0, .bool false, .int .i64 0, .int .i64 0, .int .i64 0, .slice none 0 0, .slice none 0 0, .bool false, .int .i64 0, .int .i64 0, .int .i64 0, .string ⟨#[]⟩, .slice none 0 0, .int .i64 0, .int .i64 0] 64)).setCells w5.heap.size 0 (drV (ndAt l j) yj ((j : Int) + 1))) = w6 at HB6 HX6 HZ6 HU6 HN6 ⊢
        generalize w5.heap.size = U at HU6 HD6 ⊢
        clear HB5 HX5 HZ5
        have c24 := (DW.c HZ6.out).2
        have HNF : Hid (Calls Try.prog 48 #[.agg (ndV (ndAt l j) yj).toArray, .int .i64 ((k2 : Int) + 1)] w6 fun e w' => e = .returned (.string (nfT (ndAt l j).ns ((k2 : Int) + 1) (ndAt l j).ns.length)) ∧ Below w6.heap.size w6 w') := iNameFor_any _ _ _ HFj.out w6 HN6.out
        have HN24 : Hid (N24 w6 U 0 (ndAt l j) yj) := dr_nd HU6.out.at0
        generalize nfT (ndAt l j).ns ((k2 : Int) + 1) (ndAt l j).ns.length = nm at HNF HP2 hsz
        go_wp2_with (first | (refine wpList_load_mid (by rfl) 51 _ (by rfl) _ _ (by rfl) _ _ HN24.out Try.underlying51 rfl (by kernel_rfl) ?_) | fail)
        go_at_call 48
        refine (HNF.out).mono ?_
        rintro e w7 ⟨rfl, hb7⟩
        have HB7 : Hid (Below w.heap.size w w7) := Below.on HB6.out hb7
        have HX7 : Hid (BoxR w7 X [.slice a len cap, .int .i64 now]) := HX6.out.below hb7
        have HZ7 : Hid (BoxW w7 D (drV (ndAt l k2) yi ((k2 : Int) + 1))) := HZ6.out.below hb7
        have HU7 : Hid (BoxW w7 U (drV (ndAt l j) yj ((j : Int) + 1))) := HU6.out.below hb7
        clear hb7 c24 HNF HN24 HB6 HX6 HZ6 HU6 HN6
        clear HC HP HT HXn HZn HBn
        go_wp2_with fail
        go_at_call 47
        refine (join_three ⟨#[47]⟩ nm p _ (by have h3 : (⟨#[47]⟩ : ByteArray).size = 1 := rfl; omega) _).mono ?_
        rintro e w8 ⟨rfl, hb8⟩
        have HB8 : Hid (Below w.heap.size w w8) := Below.on HB7.out hb8
        have HX8 : Hid (BoxR w8 X [.slice a len cap, .int .i64 now]) := HX7.out.below hb8
        have HZ8 : Hid (BoxW w8 D (drV (ndAt l k2) yi ((k2 : Int) + 1))) := HZ7.out.below hb8
        have HU8 : Hid (BoxW w8 U (drV (ndAt l j) yj ((j : Int) + 1))) := HU7.out.below hb8
        have HB9 : Hid (Below w.heap.size w (w8.setCells D 0 (drV (ndAt l j) yj ((j : Int) + 1)))) := bl_setsT (by have := HDx.out; omega) _ _ HB8.out
        have HX9 : Hid (BoxR (w8.setCells D 0 (drV (ndAt l j) yj ((j : Int) + 1))) X [.slice a len cap, .int .i64 now]) := HX8.out.others (by have := HDx.out; omega)
        have HZ9 : Hid (BoxW (w8.setCells D 0 (drV (ndAt l j) yj ((j : Int) + 1))) D (drV (ndAt l j) yj ((j : Int) + 1))) := HZ8.out.whole (by rw [drV_len, drV_len])
        clear hb8 HB7 HX7 HZ7 HU7
        go_wp2_with (first
          | (refine wpList_load_mid (by rfl) 64 _ (by rfl) _ _ (by rfl) _ _ HU8.out.at0 Try.underlying64 rfl (by kernel_rfl) ?_)
          | (refine wpList_store_list (by rfl) 64 _ _ (by rfl) _ _ (drV (ndAt l j) yj ((j : Int) + 1)) (by rfl) (by rfl) (by rw [drV_len]; exact HZ8.out.there 0 25 (by rw [drV_len]; omega)) (by kernel_rfl) (drV_ones _ _ _) ?_))
        simp only [Act.put, List.setIfInBounds_toArray, List.set_cons_zero, List.set_cons_succ]
        go_roundw
        case rel => exact ⟨g, (j : Int) + 1, _, j, yj, rfl, rfl, HP2, HB9, HX9, HZ9⟩
        case measure => exact st_less _ _ hps
end Go.Proofs.Ytcgkkeooigjbbaa
