/- Laid together: TrI6, TrI7, TrI8. -/
import Derived.Test.YtgodbelcddgdmaaGreatNF10
/- The program's namesIn, linksOf. -/
namespace Go.Proofs.YtgodbelcddgdmaaGreat
open Go.RowKit Go.PlainAid Go.Deep
set_option linter.unusedVariables false
/-- How many entries of the directories among the first k nodes name n. -/
def cdD (l : List Nd) (n : Int) : Nat → Int
  | 0 => 0
  | k + 1 => cdD l n k + (if (ndAt l k).k == 1 then cntE (ndAt l k).ns n (ndAt l k).ns.length else 0)
def sumD (n : Int) : List (Nd × Na × Int) → Int
  | [] => 0
  | d :: l => cntE d.1.ns n d.1.ns.length + sumD n l
theorem sumD_append (n : Int) (l k : List (Nd × Na × Int)) : sumD n (l ++ k) = sumD n l + sumD n k := by
  induction l with
  | nil => simp [sumD]
  | cons d l ih => simp only [List.cons_append, sumD, ih]; omega
theorem sumD_dirs (l : List Nd) (Y : Nat → Na) (n : Int) : ∀ k, sumD n (dirsOf l Y k) = cdD l n k
  | 0 => rfl
  | k + 1 => by
    simp only [dirsOf, cdD]
    cases h : ((ndAt l k).k == 1)
    · simp [sumD_dirs l Y n k]
    · simp only [if_true, sumD_append, sumD_dirs l Y n k]
      simp [sumD]
theorem dirsOf_mem (l : List Nd) (Y : Nat → Na) : ∀ k j (hj : j < (dirsOf l Y k).length), ∃ i, i < k ∧ (dirsOf l Y k)[j] = (ndAt l i, Y i, (i : Int) + 1) ∧ ((ndAt l i).k == 1) = true
  | 0, j, hj => absurd hj (by simp [dirsOf])
  | k + 1, j, hj => by
    cases h : ((ndAt l k).k == 1)
    · have e : dirsOf l Y (k + 1) = dirsOf l Y k := by simp [dirsOf, h]
      have hj2 : j < (dirsOf l Y k).length := by rw [← e]; exact hj
      obtain ⟨i, h1, h2, h3⟩ := dirsOf_mem l Y k j hj2
      exact ⟨i, by omega, by simp only [e]; exact h2, h3⟩
    · have e : dirsOf l Y (k + 1) = dirsOf l Y k ++ [(ndAt l k, Y k, (k : Int) + 1)] := by simp [dirsOf, h]
      by_cases hj2 : j < (dirsOf l Y k).length
      · obtain ⟨i, h1, h2, h3⟩ := dirsOf_mem l Y k j hj2
        refine ⟨i, by omega, ?_, h3⟩
        simp only [e]
        rw [List.getElem_append_left hj2]
        exact h2
      · refine ⟨k, by omega, ?_, h⟩
        have hjl : j = (dirsOf l Y k).length := by
          rw [e] at hj
          simp at hj
          omega
        subst hjl
        simp only [e]
        simp
theorem sumD_take {n : Int} {ds : List (Nd × Na × Int)} {j : Nat} (hj : j < ds.length) : sumD n (ds.take (j + 1)) = sumD n (ds.take j) + cntE (ds[j]).1.ns n (ds[j]).1.ns.length := by
  rw [← List.take_append_getElem hj, sumD_append]
  simp [sumD]
theorem sumD_b {n : Int} {ds : List (Nd × Na × Int)} (h : ∀ j (hj : j < ds.length), (ds[j]).1.ns.length ≤ 1048576) : ∀ j, j ≤ ds.length → 0 ≤ sumD n (ds.take j) ∧ sumD n (ds.take j) ≤ j * 1048576
  | 0, _ => by simp [sumD]
  | j + 1, hj => by
    have ih := sumD_b (n := n) h j (by omega)
    have h1 := h j (by omega)
    have h2 := cntE_b (ds[j]).1.ns n (ds[j]).1.ns.length
    rw [sumD_take (by omega)]
    constructor
    · omega
    · rw [show ((j + 1 : Nat) : Int) * 1048576 = j * 1048576 + 1048576 by omega]
      omega
set_option maxRecDepth 20000 in
set_option maxHeartbeats 8000000 in
/-- impl.namesIn. -/
theorem iNamesIn_any (a : Option Addr) (len cap : Nat) (l : List Nd) (now : Int) (n : Int) (hl : len ≤ 12) (hf : ∀ i, i < len → NdFit 1048576 (ndAt l i)) (w : World) (hi : Nds a len l w) :
    Calls Tryz.prog 96 #[.agg #[.slice a len cap, .int .i64 now], .int .i64 n] w fun e w' => e = .returned (.int .i64 (cdD l n len)) ∧ Below w.heap.size w w' := by
  obtain ⟨b, off, Y, hY⟩ : ∃ (b off : Nat) (Y : Nat → Na), (0 < len → a = some ⟨b, off, none⟩ ∧ b < w.heap.size) ∧ ∀ i, i < len → N24 w b (off + i * 24) (ndAt l i) (Y i) ∧ NdIn w (ndAt l i) (Y i) := by
    by_cases h0 : 0 < len
    · obtain ⟨b, off, Y, h1, h2, h3⟩ := hi.2 h0
      exact ⟨b, off, Y, fun _ => ⟨h1, h2⟩, h3⟩
    · exact ⟨0, 0, fun _ => naZ, fun h => absurd h h0, fun i hi => absurd hi (by omega)⟩
  have HA : Hid (∀ w', Below w.heap.size w w' → (0 < len → a = some ⟨b, off, none⟩ ∧ b < w'.heap.size)) := (fun w' hb h => ⟨(hY.1 h).1, Nat.lt_of_lt_of_le (hY.1 h).2 hb.size⟩)
  have HC : Hid (∀ w', Below w.heap.size w w' → ∀ i, i < len → N24 w' b (off + i * 24) (ndAt l i) (Y i)) := (fun w' hb i hi => range_below (hY.2 i hi).1 (hY.1 (by omega)).2 hb)
  have HM : Hid (∀ j (hj : j < (dirsOf l Y len).length), NdIn w ((dirsOf l Y len)[j]).1 ((dirsOf l Y len)[j]).2.1 ∧ ((dirsOf l Y len)[j]).1.ns.length ≤ 1048576) := (fun j hj => by
    obtain ⟨i, h1, h2, _⟩ := dirsOf_mem l Y len j hj
    rw [h2]
    exact ⟨(hY.2 i h1).2, (hf i h1).nl⟩)
  have HE : Hid (sumD n (dirsOf l Y len) = cdD l n len) := sumD_dirs l Y n len
  have hdl := dirsOf_len l Y len
  clear hi hf hY
  have HB : Hid (Below w.heap.size w (w.alloc (.cells #[.slice a len cap, .int .i64 now] 35))) := bel_alloc _ _
  have HX : Hid (BoxR (w.alloc (.cells #[.slice a len cap, .int .i64 now] 35)) w.heap.size [.slice a len cap, .int .i64 now]) := boxR_new _ _ _
  go_enter Tryz.func96, Tryz.ntmps96
  go_upto_region 1 with fail
  generalize (w.alloc (.cells #[.slice a len cap, .int .i64 now] 35)) = w0 at HB HX ⊢
  obtain ⟨X, hX⟩ : ∃ X, X = w.heap.size := ⟨_, rfl⟩
  rw [← hX] at HX ⊢
  clear hX
  have t0 : w0.cell? ⟨X, 0, none⟩ = some (.slice a len cap) := HX.out.at0 0 _ rfl
  have t1 : w0.cell? ⟨X, 1, none⟩ = some (.int .i64 now) := HX.out.at0 1 _ rfl
  clear t0 t1
  have t0 : w0.cell? ⟨X, 0, none⟩ = some (.slice a len cap) := HX.out.at0 0 _ rfl
  have t1 : w0.cell? ⟨X, 1, none⟩ = some (.int .i64 now) := HX.out.at0 1 _ rfl
  go_wp2_with fail
  refine (iDirs_any a len cap l now Y b off hl _ (HA.out _ HB.out) (HC.out _ HB.out)).mono ?_
  rintro e w1 ⟨v, rfl, hO, hb⟩
  have HB1 : Hid (Below w.heap.size w w1) := Below.on HB.out hb
  obtain ⟨a1, cap1, rfl, hrow⟩ := ds_of_row hO
  have HR : Hid _ := hrow
  clear hb hO hrow HB HX t0 t1 HA HC
  generalize dirsOf l Y len = ds at HM HE hdl HR ⊢
  have HQ : Hid (∀ j, j ≤ ds.length → 0 ≤ sumD n (ds.take j) ∧ sumD n (ds.take j) ≤ j * 1048576) := (fun j hj => sumD_b (fun j hj => (HM.out j hj).2) j hj)
  go_wp2
  go_loopw [11, 5] (fun i c wr => ∃ j : Nat, j ≤ ds.length ∧ i = .int .i64 j ∧ c = .int .i64 (sumD n (ds.take j)) ∧ Hid (Below w1.heap.size w1 wr)) (fun i _ _ => ds.length - (intOf i).toNat)
  case atStart => exact ⟨0, Nat.zero_le _, rfl, by simp [sumD], Below.refl _ _⟩
  case round =>
    obtain ⟨j, hj, rfl, rfl, hB⟩ := hrel
    by_cases hlt : j < ds.length
    · obtain ⟨g, rfl, hg, hr⟩ := HR.out j hlt
      have hlt' : (j : Int) < (ds.length : Int) := by omega
      have hj0 : (0 : Int) ≤ (j : Int) := by omega
      have HG : Hid (wr.rangeAt g (j * 25) (drV (ds[j]).1 (ds[j]).2.1 (ds[j]).2.2)) := range_below hr hg hB.out
      have HN : Hid (Ens (ds[j]).2.1.nA (ds[j]).1.ns.length (ds[j]).1.ns wr) := ((HM.out j hlt).1.below (Below.on HB1.out hB.out)).nA
      have hnl := (HM.out j hlt).2
      have HS : Hid (sumD n (ds.take (j + 1)) = sumD n (ds.take j) + cntE (ds[j]).1.ns n (ds[j]).1.ns.length) := sumD_take hlt
      obtain ⟨q0, q1⟩ := HQ.out j hj
      have q2 := cntE_b (ds[j]).1.ns n (ds[j]).1.ns.length
      clear hr
      generalize (ds[j]).1 = x at HG HN HS hnl q2
      generalize (ds[j]).2.1 = y at HG HN
      generalize (ds[j]).2.2 = m at HG
      generalize sumD n (ds.take j) = q at HS q0 q1 ⊢
      have hbN : Below wr.heap.size wr ((wr.alloc (.cells #[.int .i64 0, .int .i64 0, .int .i64 0, .int .i64 0, .int .i64 0, .int .i64 0, .int .i64 0, .slice none 0 0, .slice none 0 0, .bool false, .int .i64 0, .bool false, .int .i64 0, .int .i64 0, .int .i64 0, .slice none 0 0, .slice none 0 0, .bool false, .int .i64 0, .int .i64 0, .int .i64 0, .string ⟨#[]⟩, .slice none 0 0, .int .i64 0, .int .i64 0] 84)).setCells wr.heap.size 0 (drV x y m)) := bl_setsT (Nat.le_refl _) _ _ (bel_alloc _ _)
      have HBn : Hid (Below w1.heap.size w1 ((wr.alloc (.cells #[.int .i64 0, .int .i64 0, .int .i64 0, .int .i64 0, .int .i64 0, .int .i64 0, .int .i64 0, .slice none 0 0, .slice none 0 0, .bool false, .int .i64 0, .bool false, .int .i64 0, .int .i64 0, .int .i64 0, .slice none 0 0, .slice none 0 0, .bool false, .int .i64 0, .int .i64 0, .int .i64 0, .string ⟨#[]⟩, .slice none 0 0, .int .i64 0, .int .i64 0] 84)).setCells wr.heap.size 0 (drV x y m))) := Below.on hB.out hbN
      have HUn : Hid (BoxR ((wr.alloc (.cells #[.int .i64 0, .int .i64 0, .int .i64 0, .int .i64 0, .int .i64 0, .int .i64 0, .int .i64 0, .slice none 0 0, .slice none 0 0, .bool false, .int .i64 0, .bool false, .int .i64 0, .int .i64 0, .int .i64 0, .slice none 0 0, .slice none 0 0, .bool false, .int .i64 0, .int .i64 0, .int .i64 0, .string ⟨#[]⟩, .slice none 0 0, .int .i64 0, .int .i64 0] 84)).setCells wr.heap.size 0 (drV x y m)) wr.heap.size (drV x y m)) := ⟨by rw [size_setCellsT]; simp, World.rangeAt_setCells_same _ _ _ _ (by rw [drV_len]; exact there25 _)⟩
      have HNn : Hid (Ens y.nA x.ns.length x.ns ((wr.alloc (.cells #[.int .i64 0, .int .i64 0, .int .i64 0, .int .i64 0, .int .i64 0, .int .i64 0, .int .i64 0, .slice none 0 0, .slice none 0 0, .bool false, .int .i64 0, .bool false, .int .i64 0, .int .i64 0, .int .i64 0, .slice none 0 0, .slice none 0 0, .bool false, .int .i64 0, .int .i64 0, .int .i64 0, .string ⟨#[]⟩, .slice none 0 0, .int .i64 0, .int .i64 0] 84)).setCells wr.heap.size 0 (drV x y m))) := HN.out.below hbN
      clear hbN HN
      go_upto_region 5 with (first | (refine wpList_load_mid (by rfl) 84 _ (by rfl) _ _ (by rfl) _ _ HG.out Tryz.underlying84 rfl (by kernel_rfl) ?_) | (refine wpList_store_list (by rfl) 84 _ _ (by rfl) _ _ (drV x y m) (by rfl) (by rfl) (by rw [drV_len]; exact there25 _) (by kernel_rfl) (drV_ones _ _ _) ?_))
      generalize ((wr.alloc (.cells #[.int .i64 0, .int .i64 0, .int .i64 0, .int .i64 0, .int .i64 0, .int .i64 0, .int .i64 0, .slice none 0 0, .slice none 0 0, .bool false, .int .i64 0, .bool false, .int .i64 0, .int .i64 0, .int .i64 0, .slice none 0 0, .slice none 0 0, .bool false, .int .i64 0, .int .i64 0, .int .i64 0, .string ⟨#[]⟩, .slice none 0 0, .int .i64 0, .int .i64 0] 84)).setCells wr.heap.size 0 (drV x y m)) = wn at HBn HUn HNn ⊢
      generalize wr.heap.size = U at HUn ⊢
      go_wp2_with (first | (refine wpList_load_mid (by rfl) 31 _ (by rfl) _ _ (by rfl) _ _ (DB.nd HUn.out) Tryz.underlying31 rfl (by kernel_rfl) ?_) | (go_at_call 99; refine (iTimes_any x y n hnl _ HNn.out).mono ?_; rintro e w3 ⟨rfl, hb⟩; have HB3 : Hid (Below w1.heap.size w1 w3) := Below.on HBn.out hb; clear hb; generalize cntE x.ns n x.ns.length = z at HS q2))
      go_roundw
      case rel => exact ⟨j + 1, by omega, by go_num, by rw [HS.out], HB3⟩
      case measure => simp [intOf]; omega
    · have : j = ds.length := by omega
      subst this
      go_wp2
      go_ret
      refine ⟨?_, Below.on HB1.out hB.out⟩
      show Ending.returned (.int .i64 (sumD n (ds.take ds.length))) = _
      rw [← HE.out, List.take_length]
set_option maxHeartbeats 4000000 in
/-- impl.linksOf. -/
theorem iLinks_any (a : Option Addr) (len cap : Nat) (l : List Nd) (now : Int) (d : Nat) (hl : len ≤ 12) (hf : ∀ i, i < len → NdFit 1048576 (ndAt l i)) (w : World) (hi : Nds a len l w) (hb : cdD l ((d : Int) + 1) len ≤ 100000000) (hb0 : 0 ≤ cdD l ((d : Int) + 1) len) :
    Calls Tryz.prog 83 #[.agg #[.slice a len cap, .int .i64 now], .int .i64 ((d : Int) + 1)] w fun e w' => e = .returned (.int .i64 (cdD l ((d : Int) + 1) len + (if d = 0 then 1 else 0))) ∧ Below w.heap.size w w' := by
  have HC : Hid (∀ w', Below w.heap.size w w' → Calls Tryz.prog 96 #[.agg #[.slice a len cap, .int .i64 now], .int .i64 ((d : Int) + 1)] w' fun e w'' => e = .returned (.int .i64 (cdD l ((d : Int) + 1) len)) ∧ Below w'.heap.size w' w'') := (fun w' hb => iNamesIn_any a len cap l now _ hl hf w' (hi.below hb))
  clear hi hf
  generalize cdD l ((d : Int) + 1) len = q at HC hb hb0 ⊢
  by_cases hz : d = 0
  · subst hz
    have HB : Hid (Below w.heap.size w (w.alloc (.cells #[.slice a len cap, .int .i64 now] 35))) := bel_alloc _ _
    have HX : Hid (BoxR (w.alloc (.cells #[.slice a len cap, .int .i64 now] 35)) w.heap.size [.slice a len cap, .int .i64 now]) := boxR_new _ _ _
    go_enter Tryz.func83, Tryz.ntmps83
    go_upto_region 1 with fail
    generalize (w.alloc (.cells #[.slice a len cap, .int .i64 now] 35)) = w0 at HB HX ⊢
    obtain ⟨X, hX⟩ : ∃ X, X = w.heap.size := ⟨_, rfl⟩
    rw [← hX] at HX ⊢
    clear hX
    have t0 : w0.cell? ⟨X, 0, none⟩ = some (.slice a len cap) := HX.out.at0 0 _ rfl
    have t1 : w0.cell? ⟨X, 1, none⟩ = some (.int .i64 now) := HX.out.at0 1 _ rfl
    go_wp2_with (go_at_call 96; refine (HC.out _ HB.out).mono ?_; rintro e w1 ⟨rfl, hb⟩; have HB1 : Hid (Below w.heap.size w w1) := Below.on HB.out hb; have HX1 : Hid (BoxR w1 X [.slice a len cap, .int .i64 now]) := HX.out.below hb; clear hb)
    go_ret
    exact ⟨rfl, HB1.out⟩
  · rw [if_neg hz, Int.add_zero]
    have hz1 : ((d : Int) + 1 == 1) = false := by rw [beq_eq_false_iff_ne]; omega
    clear hz
    have HB : Hid (Below w.heap.size w (w.alloc (.cells #[.slice a len cap, .int .i64 now] 35))) := bel_alloc _ _
    have HX : Hid (BoxR (w.alloc (.cells #[.slice a len cap, .int .i64 now] 35)) w.heap.size [.slice a len cap, .int .i64 now]) := boxR_new _ _ _
    go_enter Tryz.func83, Tryz.ntmps83
    go_upto_region 1 with fail
    generalize (w.alloc (.cells #[.slice a len cap, .int .i64 now] 35)) = w0 at HB HX ⊢
    obtain ⟨X, hX⟩ : ∃ X, X = w.heap.size := ⟨_, rfl⟩
    rw [← hX] at HX ⊢
    clear hX
    have t0 : w0.cell? ⟨X, 0, none⟩ = some (.slice a len cap) := HX.out.at0 0 _ rfl
    have t1 : w0.cell? ⟨X, 1, none⟩ = some (.int .i64 now) := HX.out.at0 1 _ rfl
    go_wp2_with (go_at_call 96; refine (HC.out _ HB.out).mono ?_; rintro e w1 ⟨rfl, hb⟩; have HB1 : Hid (Below w.heap.size w w1) := Below.on HB.out hb; have HX1 : Hid (BoxR w1 X [.slice a len cap, .int .i64 now]) := HX.out.below hb; clear hb)
    go_ret
    exact ⟨rfl, HB1.out⟩
/-- What is asked of all nodes that are there. -/
def Nd.alI (x : Nd) (now lk : Int) : Bool := inR 0 9999 x.ow && (inR 0 9999 x.gr && (!decide (x.ex < 0) && (!decide (7 < x.ex) && (x.A.B && (inR 0 1000000 x.ti && (!decide (now < x.ti) && (decide (1 ≤ x.li) && (decide (x.li ≤ 5) && x.li == lk))))))))
set_option maxRecDepth 20000 in
set_option maxHeartbeats 16000000 in
/-- impl.alikeRight. -/
theorem iAlike_any (a : Option Addr) (len cap : Nat) (l : List Nd) (now : Int) (x : Nd) (y : Na) (n lk : Int) (w : World) (hy : NdIn w x y)
    (hlk : ∀ w', Below w.heap.size w w' → Calls Tryz.prog 83 #[.agg #[.slice a len cap, .int .i64 now], .int .i64 n] w' fun e w'' => e = .returned (.int .i64 lk) ∧ Below w'.heap.size w' w'') :
    Calls Tryz.prog 60 #[.agg #[.slice a len cap, .int .i64 now], .agg (ndV x y).toArray, .int .i64 n] w fun e w' => e = .returned (.bool (x.alI now lk)) ∧ Below w.heap.size w w' := by
  have HM : Hid (NdIn w x y) := hy
  have HL : Hid (∀ w', Below w.heap.size w w' → Calls Tryz.prog 83 #[.agg #[.slice a len cap, .int .i64 now], .int .i64 n] w' fun e w'' => e = .returned (.int .i64 lk) ∧ Below w'.heap.size w' w'') := hlk
  clear hy hlk
  have HE : Hid (x.alI now lk = (inR 0 9999 x.ow && (inR 0 9999 x.gr && (!decide (x.ex < 0) && (!decide (7 < x.ex) && (aclB x.A.u x.A.g x.A.o x.A.us x.A.gs x.A.r x.A.m && (inR 0 1000000 x.ti && (!decide (now < x.ti) && (decide (1 ≤ x.li) && (decide (x.li ≤ 5) && x.li == lk)))))))))) := rfl
  have H1 : Hid (∀ w, Calls Tryz.prog 81 #[.int .i64 x.ow] w fun e w' => e = .returned (.bool (inR 0 9999 x.ow)) ∧ w' = w) := (fun w => isId_any _ w)
  have H2 : Hid (∀ w, Calls Tryz.prog 81 #[.int .i64 x.gr] w fun e w' => e = .returned (.bool (inR 0 9999 x.gr)) ∧ w' = w) := (fun w => isId_any _ w)
  have H3 : Hid (∀ w, Calls Tryz.prog 36 #[.int .i64 x.ti] w fun e w' => e = .returned (.bool (inR 0 1000000 x.ti)) ∧ w' = w) := (fun w => iTime_any _ w)
  have H4 : Hid (∀ w', Below w.heap.size w w' → Calls Tryz.prog 82 #[.agg #[.int .i64 x.A.u, .int .i64 x.A.g, .int .i64 x.A.o, .slice y.aU x.A.us.length y.cU, .slice y.aG x.A.gs.length y.cG, .bool x.A.r, .int .i64 x.A.m]] w' fun e w'' => e = .returned (.bool (aclB x.A.u x.A.g x.A.o x.A.us x.A.gs x.A.r x.A.m)) ∧ Below w'.heap.size w' w'') := (fun w' hb => iAclRight_any _ _ _ _ _ _ _ _ _ _ _ _ _ w' (HM.out.aU.below hb) (HM.out.aG.below hb))
  generalize inR 0 9999 x.ow = c1 at HE H1
  generalize inR 0 9999 x.gr = c2 at HE H2
  generalize inR 0 1000000 x.ti = c5 at HE H3
  generalize aclB x.A.u x.A.g x.A.o x.A.us x.A.gs x.A.r x.A.m = c4 at HE H4
  cases c1
  · skip
    have HX : Hid (BoxR ((w.alloc (.cells #[.slice a len cap, .int .i64 now] 35)).alloc (.cells (ndV x y).toArray 31)) w.heap.size [.slice a len cap, .int .i64 now]) := (boxR_new w [.slice a len cap, .int .i64 now] 35).below (bel_alloc _ _)
    have HZ : Hid (BoxR ((w.alloc (.cells #[.slice a len cap, .int .i64 now] 35)).alloc (.cells (ndV x y).toArray 31)) (w.heap.size + 1) (ndV x y)) := (by
      have h := boxR_new (w.alloc (.cells #[.slice a len cap, .int .i64 now] 35)) (ndV x y) 31
      simp only [World.size_alloc] at h
      exact h)
    have HB : Hid (Below w.heap.size w ((w.alloc (.cells #[.slice a len cap, .int .i64 now] 35)).alloc (.cells (ndV x y).toArray 31))) := bl2T _ _ _
    go_enter Tryz.func60, Tryz.ntmps60
    go_upto_region 1 with fail
    generalize ((w.alloc (.cells #[.slice a len cap, .int .i64 now] 35)).alloc (.cells (ndV x y).toArray 31)) = w0 at HX HZ HB ⊢
    obtain ⟨X, hX⟩ : ∃ X, X = w.heap.size := ⟨_, rfl⟩
    rw [← hX] at HX HZ ⊢
    clear hX
    have t0 : w0.cell? ⟨X, 0, none⟩ = some (.slice a len cap) := HX.out.at0 0 _ rfl
    have t1 : w0.cell? ⟨X, 1, none⟩ = some (.int .i64 now) := HX.out.at0 1 _ rfl
    have e1 := NB.c1 HZ.out
    have e2 := NB.c2 HZ.out
    have e3 := NB.c3 HZ.out
    have e4 := NB.c4 HZ.out
    have e5 := NB.c5 HZ.out
    have e6 := NB.c6 HZ.out
    have e7 := NB.c7 HZ.out
    have e8 := NB.c8 HZ.out
    have e9 := NB.c9 HZ.out
    have e10 := NB.c10 HZ.out
    have e19 := NB.c19 HZ.out
    have e23 := NB.c23 HZ.out
    go_wp2_with (first
      | (go_at_call_of 81 (Value.int IntKind.i64 x.ow); refine (H1.out _).mono ?_; rintro e w1 ⟨rfl, rfl⟩)
      | (go_at_call 81; refine (H2.out _).mono ?_; rintro e w1 ⟨rfl, rfl⟩)
      | (go_at_call 36; refine (H3.out _).mono ?_; rintro e w1 ⟨rfl, rfl⟩)
      | (go_at_call 82; refine (H4.out _ HB.out).mono ?_; rintro e w1 ⟨rfl, hb⟩; replace HB : Hid (Below w.heap.size w w1) := Below.on HB.out hb; replace HX : Hid (BoxR w1 X [.slice a len cap, .int .i64 now]) := HX.out.below hb; replace HZ : Hid (BoxR w1 (X + 1) (ndV x y)) := HZ.out.below hb; clear hb; replace t0 : w1.cell? ⟨X, 0, none⟩ = some (.slice a len cap) := HX.out.at0 0 _ rfl; replace t1 : w1.cell? ⟨X, 1, none⟩ = some (.int .i64 now) := HX.out.at0 1 _ rfl; replace e1 := NB.c1 HZ.out; replace e2 := NB.c2 HZ.out; replace e3 := NB.c3 HZ.out; replace e4 := NB.c4 HZ.out; replace e5 := NB.c5 HZ.out; replace e6 := NB.c6 HZ.out; replace e7 := NB.c7 HZ.out; replace e8 := NB.c8 HZ.out; replace e9 := NB.c9 HZ.out; replace e10 := NB.c10 HZ.out; replace e19 := NB.c19 HZ.out; replace e23 := NB.c23 HZ.out))
    go_ret
    exact ⟨ret_boolW (by rw [HE.out]; first | done | simp), HB.out⟩
  cases c2
  · skip
    have HX : Hid (BoxR ((w.alloc (.cells #[.slice a len cap, .int .i64 now] 35)).alloc (.cells (ndV x y).toArray 31)) w.heap.size [.slice a len cap, .int .i64 now]) := (boxR_new w [.slice a len cap, .int .i64 now] 35).below (bel_alloc _ _)
    have HZ : Hid (BoxR ((w.alloc (.cells #[.slice a len cap, .int .i64 now] 35)).alloc (.cells (ndV x y).toArray 31)) (w.heap.size + 1) (ndV x y)) := (by
      have h := boxR_new (w.alloc (.cells #[.slice a len cap, .int .i64 now] 35)) (ndV x y) 31
      simp only [World.size_alloc] at h
      exact h)
    have HB : Hid (Below w.heap.size w ((w.alloc (.cells #[.slice a len cap, .int .i64 now] 35)).alloc (.cells (ndV x y).toArray 31))) := bl2T _ _ _
    go_enter Tryz.func60, Tryz.ntmps60
    go_upto_region 1 with fail
    generalize ((w.alloc (.cells #[.slice a len cap, .int .i64 now] 35)).alloc (.cells (ndV x y).toArray 31)) = w0 at HX HZ HB ⊢
    obtain ⟨X, hX⟩ : ∃ X, X = w.heap.size := ⟨_, rfl⟩
    rw [← hX] at HX HZ ⊢
    clear hX
    have t0 : w0.cell? ⟨X, 0, none⟩ = some (.slice a len cap) := HX.out.at0 0 _ rfl
    have t1 : w0.cell? ⟨X, 1, none⟩ = some (.int .i64 now) := HX.out.at0 1 _ rfl
    have e1 := NB.c1 HZ.out
    have e2 := NB.c2 HZ.out
    have e3 := NB.c3 HZ.out
    have e4 := NB.c4 HZ.out
    have e5 := NB.c5 HZ.out
    have e6 := NB.c6 HZ.out
    have e7 := NB.c7 HZ.out
    have e8 := NB.c8 HZ.out
    have e9 := NB.c9 HZ.out
    have e10 := NB.c10 HZ.out
    have e19 := NB.c19 HZ.out
    have e23 := NB.c23 HZ.out
    go_wp2_with (first
      | (go_at_call_of 81 (Value.int IntKind.i64 x.ow); refine (H1.out _).mono ?_; rintro e w1 ⟨rfl, rfl⟩)
      | (go_at_call 81; refine (H2.out _).mono ?_; rintro e w1 ⟨rfl, rfl⟩)
      | (go_at_call 36; refine (H3.out _).mono ?_; rintro e w1 ⟨rfl, rfl⟩)
      | (go_at_call 82; refine (H4.out _ HB.out).mono ?_; rintro e w1 ⟨rfl, hb⟩; replace HB : Hid (Below w.heap.size w w1) := Below.on HB.out hb; replace HX : Hid (BoxR w1 X [.slice a len cap, .int .i64 now]) := HX.out.below hb; replace HZ : Hid (BoxR w1 (X + 1) (ndV x y)) := HZ.out.below hb; clear hb; replace t0 : w1.cell? ⟨X, 0, none⟩ = some (.slice a len cap) := HX.out.at0 0 _ rfl; replace t1 : w1.cell? ⟨X, 1, none⟩ = some (.int .i64 now) := HX.out.at0 1 _ rfl; replace e1 := NB.c1 HZ.out; replace e2 := NB.c2 HZ.out; replace e3 := NB.c3 HZ.out; replace e4 := NB.c4 HZ.out; replace e5 := NB.c5 HZ.out; replace e6 := NB.c6 HZ.out; replace e7 := NB.c7 HZ.out; replace e8 := NB.c8 HZ.out; replace e9 := NB.c9 HZ.out; replace e10 := NB.c10 HZ.out; replace e19 := NB.c19 HZ.out; replace e23 := NB.c23 HZ.out))
    go_ret
    exact ⟨ret_boolW (by rw [HE.out]; first | done | simp), HB.out⟩
  cases c3 : decide (x.ex < 0)
  case true =>
    rw [c3] at HE
    have HX : Hid (BoxR ((w.alloc (.cells #[.slice a len cap, .int .i64 now] 35)).alloc (.cells (ndV x y).toArray 31)) w.heap.size [.slice a len cap, .int .i64 now]) := (boxR_new w [.slice a len cap, .int .i64 now] 35).below (bel_alloc _ _)
    have HZ : Hid (BoxR ((w.alloc (.cells #[.slice a len cap, .int .i64 now] 35)).alloc (.cells (ndV x y).toArray 31)) (w.heap.size + 1) (ndV x y)) := (by
      have h := boxR_new (w.alloc (.cells #[.slice a len cap, .int .i64 now] 35)) (ndV x y) 31
      simp only [World.size_alloc] at h
      exact h)
    have HB : Hid (Below w.heap.size w ((w.alloc (.cells #[.slice a len cap, .int .i64 now] 35)).alloc (.cells (ndV x y).toArray 31))) := bl2T _ _ _
    go_enter Tryz.func60, Tryz.ntmps60
    go_upto_region 1 with fail
    generalize ((w.alloc (.cells #[.slice a len cap, .int .i64 now] 35)).alloc (.cells (ndV x y).toArray 31)) = w0 at HX HZ HB ⊢
    obtain ⟨X, hX⟩ : ∃ X, X = w.heap.size := ⟨_, rfl⟩
    rw [← hX] at HX HZ ⊢
    clear hX
    have t0 : w0.cell? ⟨X, 0, none⟩ = some (.slice a len cap) := HX.out.at0 0 _ rfl
    have t1 : w0.cell? ⟨X, 1, none⟩ = some (.int .i64 now) := HX.out.at0 1 _ rfl
    have e1 := NB.c1 HZ.out
    have e2 := NB.c2 HZ.out
    have e3 := NB.c3 HZ.out
    have e4 := NB.c4 HZ.out
    have e5 := NB.c5 HZ.out
    have e6 := NB.c6 HZ.out
    have e7 := NB.c7 HZ.out
    have e8 := NB.c8 HZ.out
    have e9 := NB.c9 HZ.out
    have e10 := NB.c10 HZ.out
    have e19 := NB.c19 HZ.out
    have e23 := NB.c23 HZ.out
    go_wp2_with (first
      | (go_at_call_of 81 (Value.int IntKind.i64 x.ow); refine (H1.out _).mono ?_; rintro e w1 ⟨rfl, rfl⟩)
      | (go_at_call 81; refine (H2.out _).mono ?_; rintro e w1 ⟨rfl, rfl⟩)
      | (go_at_call 36; refine (H3.out _).mono ?_; rintro e w1 ⟨rfl, rfl⟩)
      | (go_at_call 82; refine (H4.out _ HB.out).mono ?_; rintro e w1 ⟨rfl, hb⟩; replace HB : Hid (Below w.heap.size w w1) := Below.on HB.out hb; replace HX : Hid (BoxR w1 X [.slice a len cap, .int .i64 now]) := HX.out.below hb; replace HZ : Hid (BoxR w1 (X + 1) (ndV x y)) := HZ.out.below hb; clear hb; replace t0 : w1.cell? ⟨X, 0, none⟩ = some (.slice a len cap) := HX.out.at0 0 _ rfl; replace t1 : w1.cell? ⟨X, 1, none⟩ = some (.int .i64 now) := HX.out.at0 1 _ rfl; replace e1 := NB.c1 HZ.out; replace e2 := NB.c2 HZ.out; replace e3 := NB.c3 HZ.out; replace e4 := NB.c4 HZ.out; replace e5 := NB.c5 HZ.out; replace e6 := NB.c6 HZ.out; replace e7 := NB.c7 HZ.out; replace e8 := NB.c8 HZ.out; replace e9 := NB.c9 HZ.out; replace e10 := NB.c10 HZ.out; replace e19 := NB.c19 HZ.out; replace e23 := NB.c23 HZ.out))
    go_ret
    exact ⟨ret_boolW (by rw [HE.out]; first | done | simp), HB.out⟩
  rw [c3] at HE
  cases c6 : decide (7 < x.ex)
  case true =>
    rw [c6] at HE
    have HX : Hid (BoxR ((w.alloc (.cells #[.slice a len cap, .int .i64 now] 35)).alloc (.cells (ndV x y).toArray 31)) w.heap.size [.slice a len cap, .int .i64 now]) := (boxR_new w [.slice a len cap, .int .i64 now] 35).below (bel_alloc _ _)
    have HZ : Hid (BoxR ((w.alloc (.cells #[.slice a len cap, .int .i64 now] 35)).alloc (.cells (ndV x y).toArray 31)) (w.heap.size + 1) (ndV x y)) := (by
      have h := boxR_new (w.alloc (.cells #[.slice a len cap, .int .i64 now] 35)) (ndV x y) 31
      simp only [World.size_alloc] at h
      exact h)
    have HB : Hid (Below w.heap.size w ((w.alloc (.cells #[.slice a len cap, .int .i64 now] 35)).alloc (.cells (ndV x y).toArray 31))) := bl2T _ _ _
    go_enter Tryz.func60, Tryz.ntmps60
    go_upto_region 1 with fail
    generalize ((w.alloc (.cells #[.slice a len cap, .int .i64 now] 35)).alloc (.cells (ndV x y).toArray 31)) = w0 at HX HZ HB ⊢
    obtain ⟨X, hX⟩ : ∃ X, X = w.heap.size := ⟨_, rfl⟩
    rw [← hX] at HX HZ ⊢
    clear hX
    have t0 : w0.cell? ⟨X, 0, none⟩ = some (.slice a len cap) := HX.out.at0 0 _ rfl
    have t1 : w0.cell? ⟨X, 1, none⟩ = some (.int .i64 now) := HX.out.at0 1 _ rfl
    have e1 := NB.c1 HZ.out
    have e2 := NB.c2 HZ.out
    have e3 := NB.c3 HZ.out
    have e4 := NB.c4 HZ.out
    have e5 := NB.c5 HZ.out
    have e6 := NB.c6 HZ.out
    have e7 := NB.c7 HZ.out
    have e8 := NB.c8 HZ.out
    have e9 := NB.c9 HZ.out
    have e10 := NB.c10 HZ.out
    have e19 := NB.c19 HZ.out
    have e23 := NB.c23 HZ.out
    go_wp2_with (first
      | (go_at_call_of 81 (Value.int IntKind.i64 x.ow); refine (H1.out _).mono ?_; rintro e w1 ⟨rfl, rfl⟩)
      | (go_at_call 81; refine (H2.out _).mono ?_; rintro e w1 ⟨rfl, rfl⟩)
      | (go_at_call 36; refine (H3.out _).mono ?_; rintro e w1 ⟨rfl, rfl⟩)
      | (go_at_call 82; refine (H4.out _ HB.out).mono ?_; rintro e w1 ⟨rfl, hb⟩; replace HB : Hid (Below w.heap.size w w1) := Below.on HB.out hb; replace HX : Hid (BoxR w1 X [.slice a len cap, .int .i64 now]) := HX.out.below hb; replace HZ : Hid (BoxR w1 (X + 1) (ndV x y)) := HZ.out.below hb; clear hb; replace t0 : w1.cell? ⟨X, 0, none⟩ = some (.slice a len cap) := HX.out.at0 0 _ rfl; replace t1 : w1.cell? ⟨X, 1, none⟩ = some (.int .i64 now) := HX.out.at0 1 _ rfl; replace e1 := NB.c1 HZ.out; replace e2 := NB.c2 HZ.out; replace e3 := NB.c3 HZ.out; replace e4 := NB.c4 HZ.out; replace e5 := NB.c5 HZ.out; replace e6 := NB.c6 HZ.out; replace e7 := NB.c7 HZ.out; replace e8 := NB.c8 HZ.out; replace e9 := NB.c9 HZ.out; replace e10 := NB.c10 HZ.out; replace e19 := NB.c19 HZ.out; replace e23 := NB.c23 HZ.out))
    go_ret
    exact ⟨ret_boolW (by rw [HE.out]; first | done | simp), HB.out⟩
  rw [c6] at HE
  cases c4
  · skip
    have HX : Hid (BoxR ((w.alloc (.cells #[.slice a len cap, .int .i64 now] 35)).alloc (.cells (ndV x y).toArray 31)) w.heap.size [.slice a len cap, .int .i64 now]) := (boxR_new w [.slice a len cap, .int .i64 now] 35).below (bel_alloc _ _)
    have HZ : Hid (BoxR ((w.alloc (.cells #[.slice a len cap, .int .i64 now] 35)).alloc (.cells (ndV x y).toArray 31)) (w.heap.size + 1) (ndV x y)) := (by
      have h := boxR_new (w.alloc (.cells #[.slice a len cap, .int .i64 now] 35)) (ndV x y) 31
      simp only [World.size_alloc] at h
      exact h)
    have HB : Hid (Below w.heap.size w ((w.alloc (.cells #[.slice a len cap, .int .i64 now] 35)).alloc (.cells (ndV x y).toArray 31))) := bl2T _ _ _
    go_enter Tryz.func60, Tryz.ntmps60
    go_upto_region 1 with fail
    generalize ((w.alloc (.cells #[.slice a len cap, .int .i64 now] 35)).alloc (.cells (ndV x y).toArray 31)) = w0 at HX HZ HB ⊢
    obtain ⟨X, hX⟩ : ∃ X, X = w.heap.size := ⟨_, rfl⟩
    rw [← hX] at HX HZ ⊢
    clear hX
    have t0 : w0.cell? ⟨X, 0, none⟩ = some (.slice a len cap) := HX.out.at0 0 _ rfl
    have t1 : w0.cell? ⟨X, 1, none⟩ = some (.int .i64 now) := HX.out.at0 1 _ rfl
    have e1 := NB.c1 HZ.out
    have e2 := NB.c2 HZ.out
    have e3 := NB.c3 HZ.out
    have e4 := NB.c4 HZ.out
    have e5 := NB.c5 HZ.out
    have e6 := NB.c6 HZ.out
    have e7 := NB.c7 HZ.out
    have e8 := NB.c8 HZ.out
    have e9 := NB.c9 HZ.out
    have e10 := NB.c10 HZ.out
    have e19 := NB.c19 HZ.out
    have e23 := NB.c23 HZ.out
    go_wp2_with (first
      | (go_at_call_of 81 (Value.int IntKind.i64 x.ow); refine (H1.out _).mono ?_; rintro e w1 ⟨rfl, rfl⟩)
      | (go_at_call 81; refine (H2.out _).mono ?_; rintro e w1 ⟨rfl, rfl⟩)
      | (go_at_call 36; refine (H3.out _).mono ?_; rintro e w1 ⟨rfl, rfl⟩)
      | (go_at_call 82; refine (H4.out _ HB.out).mono ?_; rintro e w1 ⟨rfl, hb⟩; replace HB : Hid (Below w.heap.size w w1) := Below.on HB.out hb; replace HX : Hid (BoxR w1 X [.slice a len cap, .int .i64 now]) := HX.out.below hb; replace HZ : Hid (BoxR w1 (X + 1) (ndV x y)) := HZ.out.below hb; clear hb; replace t0 : w1.cell? ⟨X, 0, none⟩ = some (.slice a len cap) := HX.out.at0 0 _ rfl; replace t1 : w1.cell? ⟨X, 1, none⟩ = some (.int .i64 now) := HX.out.at0 1 _ rfl; replace e1 := NB.c1 HZ.out; replace e2 := NB.c2 HZ.out; replace e3 := NB.c3 HZ.out; replace e4 := NB.c4 HZ.out; replace e5 := NB.c5 HZ.out; replace e6 := NB.c6 HZ.out; replace e7 := NB.c7 HZ.out; replace e8 := NB.c8 HZ.out; replace e9 := NB.c9 HZ.out; replace e10 := NB.c10 HZ.out; replace e19 := NB.c19 HZ.out; replace e23 := NB.c23 HZ.out))
    go_ret
    exact ⟨ret_boolW (by rw [HE.out]; first | done | simp), HB.out⟩
  cases c5
  · skip
    have HX : Hid (BoxR ((w.alloc (.cells #[.slice a len cap, .int .i64 now] 35)).alloc (.cells (ndV x y).toArray 31)) w.heap.size [.slice a len cap, .int .i64 now]) := (boxR_new w [.slice a len cap, .int .i64 now] 35).below (bel_alloc _ _)
    have HZ : Hid (BoxR ((w.alloc (.cells #[.slice a len cap, .int .i64 now] 35)).alloc (.cells (ndV x y).toArray 31)) (w.heap.size + 1) (ndV x y)) := (by
      have h := boxR_new (w.alloc (.cells #[.slice a len cap, .int .i64 now] 35)) (ndV x y) 31
      simp only [World.size_alloc] at h
      exact h)
    have HB : Hid (Below w.heap.size w ((w.alloc (.cells #[.slice a len cap, .int .i64 now] 35)).alloc (.cells (ndV x y).toArray 31))) := bl2T _ _ _
    go_enter Tryz.func60, Tryz.ntmps60
    go_upto_region 1 with fail
    generalize ((w.alloc (.cells #[.slice a len cap, .int .i64 now] 35)).alloc (.cells (ndV x y).toArray 31)) = w0 at HX HZ HB ⊢
    obtain ⟨X, hX⟩ : ∃ X, X = w.heap.size := ⟨_, rfl⟩
    rw [← hX] at HX HZ ⊢
    clear hX
    have t0 : w0.cell? ⟨X, 0, none⟩ = some (.slice a len cap) := HX.out.at0 0 _ rfl
    have t1 : w0.cell? ⟨X, 1, none⟩ = some (.int .i64 now) := HX.out.at0 1 _ rfl
    have e1 := NB.c1 HZ.out
    have e2 := NB.c2 HZ.out
    have e3 := NB.c3 HZ.out
    have e4 := NB.c4 HZ.out
    have e5 := NB.c5 HZ.out
    have e6 := NB.c6 HZ.out
    have e7 := NB.c7 HZ.out
    have e8 := NB.c8 HZ.out
    have e9 := NB.c9 HZ.out
    have e10 := NB.c10 HZ.out
    have e19 := NB.c19 HZ.out
    have e23 := NB.c23 HZ.out
    go_wp2_with (first
      | (go_at_call_of 81 (Value.int IntKind.i64 x.ow); refine (H1.out _).mono ?_; rintro e w1 ⟨rfl, rfl⟩)
      | (go_at_call 81; refine (H2.out _).mono ?_; rintro e w1 ⟨rfl, rfl⟩)
      | (go_at_call 36; refine (H3.out _).mono ?_; rintro e w1 ⟨rfl, rfl⟩)
      | (go_at_call 82; refine (H4.out _ HB.out).mono ?_; rintro e w1 ⟨rfl, hb⟩; replace HB : Hid (Below w.heap.size w w1) := Below.on HB.out hb; replace HX : Hid (BoxR w1 X [.slice a len cap, .int .i64 now]) := HX.out.below hb; replace HZ : Hid (BoxR w1 (X + 1) (ndV x y)) := HZ.out.below hb; clear hb; replace t0 : w1.cell? ⟨X, 0, none⟩ = some (.slice a len cap) := HX.out.at0 0 _ rfl; replace t1 : w1.cell? ⟨X, 1, none⟩ = some (.int .i64 now) := HX.out.at0 1 _ rfl; replace e1 := NB.c1 HZ.out; replace e2 := NB.c2 HZ.out; replace e3 := NB.c3 HZ.out; replace e4 := NB.c4 HZ.out; replace e5 := NB.c5 HZ.out; replace e6 := NB.c6 HZ.out; replace e7 := NB.c7 HZ.out; replace e8 := NB.c8 HZ.out; replace e9 := NB.c9 HZ.out; replace e10 := NB.c10 HZ.out; replace e19 := NB.c19 HZ.out; replace e23 := NB.c23 HZ.out))
    go_ret
    exact ⟨ret_boolW (by rw [HE.out]; first | done | simp), HB.out⟩
  cases c7 : decide (now < x.ti)
  case true =>
    rw [c7] at HE
    have HX : Hid (BoxR ((w.alloc (.cells #[.slice a len cap, .int .i64 now] 35)).alloc (.cells (ndV x y).toArray 31)) w.heap.size [.slice a len cap, .int .i64 now]) := (boxR_new w [.slice a len cap, .int .i64 now] 35).below (bel_alloc _ _)
    have HZ : Hid (BoxR ((w.alloc (.cells #[.slice a len cap, .int .i64 now] 35)).alloc (.cells (ndV x y).toArray 31)) (w.heap.size + 1) (ndV x y)) := (by
      have h := boxR_new (w.alloc (.cells #[.slice a len cap, .int .i64 now] 35)) (ndV x y) 31
      simp only [World.size_alloc] at h
      exact h)
    have HB : Hid (Below w.heap.size w ((w.alloc (.cells #[.slice a len cap, .int .i64 now] 35)).alloc (.cells (ndV x y).toArray 31))) := bl2T _ _ _
    go_enter Tryz.func60, Tryz.ntmps60
    go_upto_region 1 with fail
    generalize ((w.alloc (.cells #[.slice a len cap, .int .i64 now] 35)).alloc (.cells (ndV x y).toArray 31)) = w0 at HX HZ HB ⊢
    obtain ⟨X, hX⟩ : ∃ X, X = w.heap.size := ⟨_, rfl⟩
    rw [← hX] at HX HZ ⊢
    clear hX
    have t0 : w0.cell? ⟨X, 0, none⟩ = some (.slice a len cap) := HX.out.at0 0 _ rfl
    have t1 : w0.cell? ⟨X, 1, none⟩ = some (.int .i64 now) := HX.out.at0 1 _ rfl
    have e1 := NB.c1 HZ.out
    have e2 := NB.c2 HZ.out
    have e3 := NB.c3 HZ.out
    have e4 := NB.c4 HZ.out
    have e5 := NB.c5 HZ.out
    have e6 := NB.c6 HZ.out
    have e7 := NB.c7 HZ.out
    have e8 := NB.c8 HZ.out
    have e9 := NB.c9 HZ.out
    have e10 := NB.c10 HZ.out
    have e19 := NB.c19 HZ.out
    have e23 := NB.c23 HZ.out
    go_wp2_with (first
      | (go_at_call_of 81 (Value.int IntKind.i64 x.ow); refine (H1.out _).mono ?_; rintro e w1 ⟨rfl, rfl⟩)
      | (go_at_call 81; refine (H2.out _).mono ?_; rintro e w1 ⟨rfl, rfl⟩)
      | (go_at_call 36; refine (H3.out _).mono ?_; rintro e w1 ⟨rfl, rfl⟩)
      | (go_at_call 82; refine (H4.out _ HB.out).mono ?_; rintro e w1 ⟨rfl, hb⟩; replace HB : Hid (Below w.heap.size w w1) := Below.on HB.out hb; replace HX : Hid (BoxR w1 X [.slice a len cap, .int .i64 now]) := HX.out.below hb; replace HZ : Hid (BoxR w1 (X + 1) (ndV x y)) := HZ.out.below hb; clear hb; replace t0 : w1.cell? ⟨X, 0, none⟩ = some (.slice a len cap) := HX.out.at0 0 _ rfl; replace t1 : w1.cell? ⟨X, 1, none⟩ = some (.int .i64 now) := HX.out.at0 1 _ rfl; replace e1 := NB.c1 HZ.out; replace e2 := NB.c2 HZ.out; replace e3 := NB.c3 HZ.out; replace e4 := NB.c4 HZ.out; replace e5 := NB.c5 HZ.out; replace e6 := NB.c6 HZ.out; replace e7 := NB.c7 HZ.out; replace e8 := NB.c8 HZ.out; replace e9 := NB.c9 HZ.out; replace e10 := NB.c10 HZ.out; replace e19 := NB.c19 HZ.out; replace e23 := NB.c23 HZ.out))
    go_ret
    exact ⟨ret_boolW (by rw [HE.out]; first | done | simp), HB.out⟩
  rw [c7] at HE
  cases c8 : decide (1 ≤ x.li)
  · rw [c8] at HE
    have HX : Hid (BoxR ((w.alloc (.cells #[.slice a len cap, .int .i64 now] 35)).alloc (.cells (ndV x y).toArray 31)) w.heap.size [.slice a len cap, .int .i64 now]) := (boxR_new w [.slice a len cap, .int .i64 now] 35).below (bel_alloc _ _)
    have HZ : Hid (BoxR ((w.alloc (.cells #[.slice a len cap, .int .i64 now] 35)).alloc (.cells (ndV x y).toArray 31)) (w.heap.size + 1) (ndV x y)) := (by
      have h := boxR_new (w.alloc (.cells #[.slice a len cap, .int .i64 now] 35)) (ndV x y) 31
      simp only [World.size_alloc] at h
      exact h)
    have HB : Hid (Below w.heap.size w ((w.alloc (.cells #[.slice a len cap, .int .i64 now] 35)).alloc (.cells (ndV x y).toArray 31))) := bl2T _ _ _
    go_enter Tryz.func60, Tryz.ntmps60
    go_upto_region 1 with fail
    generalize ((w.alloc (.cells #[.slice a len cap, .int .i64 now] 35)).alloc (.cells (ndV x y).toArray 31)) = w0 at HX HZ HB ⊢
    obtain ⟨X, hX⟩ : ∃ X, X = w.heap.size := ⟨_, rfl⟩
    rw [← hX] at HX HZ ⊢
    clear hX
    have t0 : w0.cell? ⟨X, 0, none⟩ = some (.slice a len cap) := HX.out.at0 0 _ rfl
    have t1 : w0.cell? ⟨X, 1, none⟩ = some (.int .i64 now) := HX.out.at0 1 _ rfl
    have e1 := NB.c1 HZ.out
    have e2 := NB.c2 HZ.out
    have e3 := NB.c3 HZ.out
    have e4 := NB.c4 HZ.out
    have e5 := NB.c5 HZ.out
    have e6 := NB.c6 HZ.out
    have e7 := NB.c7 HZ.out
    have e8 := NB.c8 HZ.out
    have e9 := NB.c9 HZ.out
    have e10 := NB.c10 HZ.out
    have e19 := NB.c19 HZ.out
    have e23 := NB.c23 HZ.out
    go_upto_region 5 with (first
      | (go_at_call_of 81 (Value.int IntKind.i64 x.ow); refine (H1.out _).mono ?_; rintro e w1 ⟨rfl, rfl⟩)
      | (go_at_call 81; refine (H2.out _).mono ?_; rintro e w1 ⟨rfl, rfl⟩)
      | (go_at_call 36; refine (H3.out _).mono ?_; rintro e w1 ⟨rfl, rfl⟩)
      | (go_at_call 82; refine (H4.out _ HB.out).mono ?_; rintro e w1 ⟨rfl, hb⟩; replace HB : Hid (Below w.heap.size w w1) := Below.on HB.out hb; replace HX : Hid (BoxR w1 X [.slice a len cap, .int .i64 now]) := HX.out.below hb; replace HZ : Hid (BoxR w1 (X + 1) (ndV x y)) := HZ.out.below hb; clear hb; replace t0 : w1.cell? ⟨X, 0, none⟩ = some (.slice a len cap) := HX.out.at0 0 _ rfl; replace t1 : w1.cell? ⟨X, 1, none⟩ = some (.int .i64 now) := HX.out.at0 1 _ rfl; replace e1 := NB.c1 HZ.out; replace e2 := NB.c2 HZ.out; replace e3 := NB.c3 HZ.out; replace e4 := NB.c4 HZ.out; replace e5 := NB.c5 HZ.out; replace e6 := NB.c6 HZ.out; replace e7 := NB.c7 HZ.out; replace e8 := NB.c8 HZ.out; replace e9 := NB.c9 HZ.out; replace e10 := NB.c10 HZ.out; replace e19 := NB.c19 HZ.out; replace e23 := NB.c23 HZ.out))
    clear t0 t1 e1 e2 e3 e4 e5 e6 e7 e8 e9 e10 e19 e23
    have z19 : ∀ d os, (Go.Sort.grow (redrawn w1 d) os).cell? ⟨X + 1, 19, none⟩ = some (.int .i64 x.li) := fun d os => cell_regrown (NB.c19 HZ.out) d os
    have y0 : ∀ d os, (Go.Sort.grow (redrawn w1 d) os).cell? ⟨X, 0, none⟩ = some (.slice a len cap) := fun d os => cell_regrown (HX.out.at0 0 _ rfl) d os
    have y1 : ∀ d os, (Go.Sort.grow (redrawn w1 d) os).cell? ⟨X, 1, none⟩ = some (.int .i64 now) := fun d os => cell_regrown (HX.out.at0 1 _ rfl) d os
    have cL : ∀ d os, Calls Tryz.prog 83 #[.agg #[.slice a len cap, .int .i64 now], .int .i64 n] (Go.Sort.grow (redrawn w1 d) os) fun e w'' => e = .returned (.int .i64 lk) ∧ ∃ p : Regrown, w'' = Go.Sort.grow (redrawn w1 p.d) p.os := fun d os => Calls.regrown_of (HL.out _ (HB.out.trans ((below_regrown w1 d os).mono HB.out.size)))
    refine wp_region_quiet_below (by kernel_rfl) (by kernel_rfl) ?_
    repeat (go_big_quiet_step (exact cL _ _))
    refine wpQuiet_nil ?_
    intro _ hw'
    obtain ⟨⟨dq, osq⟩, hw''⟩ := hw'
    subst hw''
    have HB2 : Hid (Below w.heap.size w (Go.Sort.grow (redrawn w1 dq) osq)) := HB.out.trans ((below_regrown w1 dq osq).mono HB.out.size)
    generalize Go.Sort.grow (redrawn w1 dq) osq = w2 at HB2 ⊢
    clear z19 y0 y1 cL
    go_wp2
    go_ret
    exact ⟨ret_boolW (by rw [HE.out]; first | done | simp), HB2.out⟩
  rw [c8] at HE
  cases c9 : decide (x.li ≤ 5)
  · rw [c9] at HE
    have HX : Hid (BoxR ((w.alloc (.cells #[.slice a len cap, .int .i64 now] 35)).alloc (.cells (ndV x y).toArray 31)) w.heap.size [.slice a len cap, .int .i64 now]) := (boxR_new w [.slice a len cap, .int .i64 now] 35).below (bel_alloc _ _)
    have HZ : Hid (BoxR ((w.alloc (.cells #[.slice a len cap, .int .i64 now] 35)).alloc (.cells (ndV x y).toArray 31)) (w.heap.size + 1) (ndV x y)) := (by
      have h := boxR_new (w.alloc (.cells #[.slice a len cap, .int .i64 now] 35)) (ndV x y) 31
      simp only [World.size_alloc] at h
      exact h)
    have HB : Hid (Below w.heap.size w ((w.alloc (.cells #[.slice a len cap, .int .i64 now] 35)).alloc (.cells (ndV x y).toArray 31))) := bl2T _ _ _
    go_enter Tryz.func60, Tryz.ntmps60
    go_upto_region 1 with fail
    generalize ((w.alloc (.cells #[.slice a len cap, .int .i64 now] 35)).alloc (.cells (ndV x y).toArray 31)) = w0 at HX HZ HB ⊢
    obtain ⟨X, hX⟩ : ∃ X, X = w.heap.size := ⟨_, rfl⟩
    rw [← hX] at HX HZ ⊢
    clear hX
    have t0 : w0.cell? ⟨X, 0, none⟩ = some (.slice a len cap) := HX.out.at0 0 _ rfl
    have t1 : w0.cell? ⟨X, 1, none⟩ = some (.int .i64 now) := HX.out.at0 1 _ rfl
    have e1 := NB.c1 HZ.out
    have e2 := NB.c2 HZ.out
    have e3 := NB.c3 HZ.out
    have e4 := NB.c4 HZ.out
    have e5 := NB.c5 HZ.out
    have e6 := NB.c6 HZ.out
    have e7 := NB.c7 HZ.out
    have e8 := NB.c8 HZ.out
    have e9 := NB.c9 HZ.out
    have e10 := NB.c10 HZ.out
    have e19 := NB.c19 HZ.out
    have e23 := NB.c23 HZ.out
    go_upto_region 5 with (first
      | (go_at_call_of 81 (Value.int IntKind.i64 x.ow); refine (H1.out _).mono ?_; rintro e w1 ⟨rfl, rfl⟩)
      | (go_at_call 81; refine (H2.out _).mono ?_; rintro e w1 ⟨rfl, rfl⟩)
      | (go_at_call 36; refine (H3.out _).mono ?_; rintro e w1 ⟨rfl, rfl⟩)
      | (go_at_call 82; refine (H4.out _ HB.out).mono ?_; rintro e w1 ⟨rfl, hb⟩; replace HB : Hid (Below w.heap.size w w1) := Below.on HB.out hb; replace HX : Hid (BoxR w1 X [.slice a len cap, .int .i64 now]) := HX.out.below hb; replace HZ : Hid (BoxR w1 (X + 1) (ndV x y)) := HZ.out.below hb; clear hb; replace t0 : w1.cell? ⟨X, 0, none⟩ = some (.slice a len cap) := HX.out.at0 0 _ rfl; replace t1 : w1.cell? ⟨X, 1, none⟩ = some (.int .i64 now) := HX.out.at0 1 _ rfl; replace e1 := NB.c1 HZ.out; replace e2 := NB.c2 HZ.out; replace e3 := NB.c3 HZ.out; replace e4 := NB.c4 HZ.out; replace e5 := NB.c5 HZ.out; replace e6 := NB.c6 HZ.out; replace e7 := NB.c7 HZ.out; replace e8 := NB.c8 HZ.out; replace e9 := NB.c9 HZ.out; replace e10 := NB.c10 HZ.out; replace e19 := NB.c19 HZ.out; replace e23 := NB.c23 HZ.out))
    clear t0 t1 e1 e2 e3 e4 e5 e6 e7 e8 e9 e10 e19 e23
    have z19 : ∀ d os, (Go.Sort.grow (redrawn w1 d) os).cell? ⟨X + 1, 19, none⟩ = some (.int .i64 x.li) := fun d os => cell_regrown (NB.c19 HZ.out) d os
    have y0 : ∀ d os, (Go.Sort.grow (redrawn w1 d) os).cell? ⟨X, 0, none⟩ = some (.slice a len cap) := fun d os => cell_regrown (HX.out.at0 0 _ rfl) d os
    have y1 : ∀ d os, (Go.Sort.grow (redrawn w1 d) os).cell? ⟨X, 1, none⟩ = some (.int .i64 now) := fun d os => cell_regrown (HX.out.at0 1 _ rfl) d os
    have cL : ∀ d os, Calls Tryz.prog 83 #[.agg #[.slice a len cap, .int .i64 now], .int .i64 n] (Go.Sort.grow (redrawn w1 d) os) fun e w'' => e = .returned (.int .i64 lk) ∧ ∃ p : Regrown, w'' = Go.Sort.grow (redrawn w1 p.d) p.os := fun d os => Calls.regrown_of (HL.out _ (HB.out.trans ((below_regrown w1 d os).mono HB.out.size)))
    refine wp_region_quiet_below (by kernel_rfl) (by kernel_rfl) ?_
    repeat (go_big_quiet_step (exact cL _ _))
    refine wpQuiet_nil ?_
    intro _ hw'
    obtain ⟨⟨dq, osq⟩, hw''⟩ := hw'
    subst hw''
    have HB2 : Hid (Below w.heap.size w (Go.Sort.grow (redrawn w1 dq) osq)) := HB.out.trans ((below_regrown w1 dq osq).mono HB.out.size)
    generalize Go.Sort.grow (redrawn w1 dq) osq = w2 at HB2 ⊢
    clear z19 y0 y1 cL
    go_wp2
    go_ret
    exact ⟨ret_boolW (by rw [HE.out]; first | done | simp), HB2.out⟩
  rw [c9] at HE
  have HX : Hid (BoxR ((w.alloc (.cells #[.slice a len cap, .int .i64 now] 35)).alloc (.cells (ndV x y).toArray 31)) w.heap.size [.slice a len cap, .int .i64 now]) := (boxR_new w [.slice a len cap, .int .i64 now] 35).below (bel_alloc _ _)
  have HZ : Hid (BoxR ((w.alloc (.cells #[.slice a len cap, .int .i64 now] 35)).alloc (.cells (ndV x y).toArray 31)) (w.heap.size + 1) (ndV x y)) := (by
    have h := boxR_new (w.alloc (.cells #[.slice a len cap, .int .i64 now] 35)) (ndV x y) 31
    simp only [World.size_alloc] at h
    exact h)
  have HB : Hid (Below w.heap.size w ((w.alloc (.cells #[.slice a len cap, .int .i64 now] 35)).alloc (.cells (ndV x y).toArray 31))) := bl2T _ _ _
  go_enter Tryz.func60, Tryz.ntmps60
  go_upto_region 1 with fail
  generalize ((w.alloc (.cells #[.slice a len cap, .int .i64 now] 35)).alloc (.cells (ndV x y).toArray 31)) = w0 at HX HZ HB ⊢
  obtain ⟨X, hX⟩ : ∃ X, X = w.heap.size := ⟨_, rfl⟩
  rw [← hX] at HX HZ ⊢
  clear hX
  have t0 : w0.cell? ⟨X, 0, none⟩ = some (.slice a len cap) := HX.out.at0 0 _ rfl
  have t1 : w0.cell? ⟨X, 1, none⟩ = some (.int .i64 now) := HX.out.at0 1 _ rfl
  have e1 := NB.c1 HZ.out
  have e2 := NB.c2 HZ.out
  have e3 := NB.c3 HZ.out
  have e4 := NB.c4 HZ.out
  have e5 := NB.c5 HZ.out
  have e6 := NB.c6 HZ.out
  have e7 := NB.c7 HZ.out
  have e8 := NB.c8 HZ.out
  have e9 := NB.c9 HZ.out
  have e10 := NB.c10 HZ.out
  have e19 := NB.c19 HZ.out
  have e23 := NB.c23 HZ.out
  go_upto_region 5 with (first
    | (go_at_call_of 81 (Value.int IntKind.i64 x.ow); refine (H1.out _).mono ?_; rintro e w1 ⟨rfl, rfl⟩)
    | (go_at_call 81; refine (H2.out _).mono ?_; rintro e w1 ⟨rfl, rfl⟩)
    | (go_at_call 36; refine (H3.out _).mono ?_; rintro e w1 ⟨rfl, rfl⟩)
    | (go_at_call 82; refine (H4.out _ HB.out).mono ?_; rintro e w1 ⟨rfl, hb⟩; replace HB : Hid (Below w.heap.size w w1) := Below.on HB.out hb; replace HX : Hid (BoxR w1 X [.slice a len cap, .int .i64 now]) := HX.out.below hb; replace HZ : Hid (BoxR w1 (X + 1) (ndV x y)) := HZ.out.below hb; clear hb; replace t0 : w1.cell? ⟨X, 0, none⟩ = some (.slice a len cap) := HX.out.at0 0 _ rfl; replace t1 : w1.cell? ⟨X, 1, none⟩ = some (.int .i64 now) := HX.out.at0 1 _ rfl; replace e1 := NB.c1 HZ.out; replace e2 := NB.c2 HZ.out; replace e3 := NB.c3 HZ.out; replace e4 := NB.c4 HZ.out; replace e5 := NB.c5 HZ.out; replace e6 := NB.c6 HZ.out; replace e7 := NB.c7 HZ.out; replace e8 := NB.c8 HZ.out; replace e9 := NB.c9 HZ.out; replace e10 := NB.c10 HZ.out; replace e19 := NB.c19 HZ.out; replace e23 := NB.c23 HZ.out))
  clear t0 t1 e1 e2 e3 e4 e5 e6 e7 e8 e9 e10 e19 e23
  have z19 : ∀ d os, (Go.Sort.grow (redrawn w1 d) os).cell? ⟨X + 1, 19, none⟩ = some (.int .i64 x.li) := fun d os => cell_regrown (NB.c19 HZ.out) d os
  have y0 : ∀ d os, (Go.Sort.grow (redrawn w1 d) os).cell? ⟨X, 0, none⟩ = some (.slice a len cap) := fun d os => cell_regrown (HX.out.at0 0 _ rfl) d os
  have y1 : ∀ d os, (Go.Sort.grow (redrawn w1 d) os).cell? ⟨X, 1, none⟩ = some (.int .i64 now) := fun d os => cell_regrown (HX.out.at0 1 _ rfl) d os
  have cL : ∀ d os, Calls Tryz.prog 83 #[.agg #[.slice a len cap, .int .i64 now], .int .i64 n] (Go.Sort.grow (redrawn w1 d) os) fun e w'' => e = .returned (.int .i64 lk) ∧ ∃ p : Regrown, w'' = Go.Sort.grow (redrawn w1 p.d) p.os := fun d os => Calls.regrown_of (HL.out _ (HB.out.trans ((below_regrown w1 d os).mono HB.out.size)))
  refine wp_region_quiet_below (by kernel_rfl) (by kernel_rfl) ?_
  repeat (go_big_quiet_step (exact cL _ _))
  refine wpQuiet_nil ?_
  intro _ hw'
  obtain ⟨⟨dq, osq⟩, hw''⟩ := hw'
  subst hw''
  have HB2 : Hid (Below w.heap.size w (Go.Sort.grow (redrawn w1 dq) osq)) := HB.out.trans ((below_regrown w1 dq osq).mono HB.out.size)
  generalize Go.Sort.grow (redrawn w1 dq) osq = w2 at HB2 ⊢
  clear z19 y0 y1 cL
  go_wp2
  go_ret
  exact ⟨ret_boolW (by rw [HE.out]; first | done | simp), HB2.out⟩
theorem wpList_built2w {P : Program} {ops : Array Oper} {rest : List Oper} {o : Oper} {a : Act} {w : World} {Q : Exit → Act → World → Prop} (hw : Region.wanted o (yielded ops a.tmps) = true) (t : TypeId) (x y : Operand) (ho : o.op = .build t #[(0, x), (1, y)])
    (u v : Value) (hx : a.eval x = u) (hy : a.eval y = v) (cs : Array Value) (hb : P.built t [(0, u), (1, v)] = some cs)
    (h : wpList P ops Q rest (a.put o.dst (.agg cs)) w) : wpList P ops Q (o :: rest) a w := by
  have e : (#[(0, x), (1, y)].map fun (i, z) => (i, a.eval z)).toList = [(0, u), (1, v)] := by simp [hx, hy]
  exact Go.BigFrame.wpList_want hw fun K hK => wp_build t _ ho (by rw [e, hb]; rfl) (by rw [e, hb]; exact hK _ _ h)
/-- nodeRight. -/
def Nd.nI (x : Nd) (al dI : Bool) : Bool := if x.k == 0 then x.z0 && x.ti == 0 else if x.k == 1 then al && dI else if x.k == 2 then al && (x.bare && x.bo.toList.isEmpty) else if x.k == 3 then al && (x.bare && signsB x.bo 40) else false
set_option maxRecDepth 20000 in
set_option maxHeartbeats 16000000 in
/-- impl.nodeRight. -/
theorem iNode_any (a : Option Addr) (len cap : Nat) (l : List Nd) (now : Int) (x : Nd) (y : Na) (n : Int) (al dI : Bool) (hf : NdFit 1048576 x) (w : World)
    (hAl : ∀ w', Below w.heap.size w w' → Calls Tryz.prog 60 #[.agg #[.slice a len cap, .int .i64 now], .agg (ndV x y).toArray, .int .i64 n] w' fun e w'' => e = .returned (.bool al) ∧ Below w'.heap.size w' w'')
    (hDr : ∀ w', Below w.heap.size w w' → Calls Tryz.prog 61 #[.agg #[.slice a len cap, .int .i64 now], .agg (drV x y n).toArray] w' fun e w'' => e = .returned (.bool dI) ∧ Below w'.heap.size w' w'') :
    Calls Tryz.prog 37 #[.agg #[.slice a len cap, .int .i64 now], .agg (ndV x y).toArray, .int .i64 n] w fun e w' => e = .returned (.bool (x.nI al dI)) ∧ Below w.heap.size w w' := by
  have HAl : Hid (∀ w', Below w.heap.size w w' → Calls Tryz.prog 60 #[.agg #[.slice a len cap, .int .i64 now], .agg (ndV x y).toArray, .int .i64 n] w' fun e w'' => e = .returned (.bool al) ∧ Below w'.heap.size w' w'') := hAl
  have HDr : Hid (∀ w', Below w.heap.size w w' → Calls Tryz.prog 61 #[.agg #[.slice a len cap, .int .i64 now], .agg (drV x y n).toArray] w' fun e w'' => e = .returned (.bool dI) ∧ Below w'.heap.size w' w'') := hDr
  have H0 : Hid (∀ w', Calls Tryz.prog 59 #[.agg (ndV x y).toArray, .agg (ndV ndZ naZ).toArray] w' fun e w'' => e = .returned (.bool x.z0) ∧ Below w'.heap.size w' w'') := (fun w' => iSameN0_any x y hf w')
  have HNo : Hid (∀ w', Calls Tryz.prog 62 #[.agg (ndV x y).toArray] w' fun e w'' => e = .returned (.bool x.bare) ∧ Below w'.heap.size w' w'') := (fun w' => iNoDir_any x y hf w')
  have HLb : Hid (∀ w', Calls Tryz.prog 63 #[.string x.bo] w' fun e w'' => e = .returned (.bool (signsB x.bo 40)) ∧ w'' = w') := (fun w' => iLink_any x.bo (by have := hf.bo; unfold maxLen; omega) w')
  have HE : Hid (x.nI al dI = (if x.k == 0 then x.z0 && x.ti == 0 else if x.k == 1 then al && dI else if x.k == 2 then al && (x.bare && x.bo.toList.isEmpty) else if x.k == 3 then al && (x.bare && signsB x.bo 40) else false)) := rfl
  clear hAl hDr hf
  generalize x.z0 = z at HE H0
  generalize x.bare = bz at HE HNo
  generalize signsB x.bo 40 = sg at HE HLb
  cases k0 : (x.k == 0)
  case true =>
    rw [k0, if_pos rfl] at HE
    cases z
    · skip
      have HX : Hid (BoxR ((w.alloc (.cells #[.slice a len cap, .int .i64 now] 35)).alloc (.cells (ndV x y).toArray 31)) w.heap.size [.slice a len cap, .int .i64 now]) := (boxR_new w [.slice a len cap, .int .i64 now] 35).below (bel_alloc _ _)
      have HZ : Hid (BoxR ((w.alloc (.cells #[.slice a len cap, .int .i64 now] 35)).alloc (.cells (ndV x y).toArray 31)) (w.heap.size + 1) (ndV x y)) := (by
        have h := boxR_new (w.alloc (.cells #[.slice a len cap, .int .i64 now] 35)) (ndV x y) 31
        simp only [World.size_alloc] at h
        exact h)
      have HB : Hid (Below w.heap.size w ((w.alloc (.cells #[.slice a len cap, .int .i64 now] 35)).alloc (.cells (ndV x y).toArray 31))) := bl2T _ _ _
      go_enter Tryz.func37, Tryz.ntmps37
      go_upto_region 1 with fail
      generalize ((w.alloc (.cells #[.slice a len cap, .int .i64 now] 35)).alloc (.cells (ndV x y).toArray 31)) = w0 at HX HZ HB ⊢
      obtain ⟨X, hX⟩ : ∃ X, X = w.heap.size := ⟨_, rfl⟩
      rw [← hX] at HX HZ ⊢
      clear hX
      have t0 : w0.cell? ⟨X, 0, none⟩ = some (.slice a len cap) := HX.out.at0 0 _ rfl
      have t1 : w0.cell? ⟨X, 1, none⟩ = some (.int .i64 now) := HX.out.at0 1 _ rfl
      have e0 := NB.c0 HZ.out
      have e21 := NB.c21 HZ.out
      have e23 := NB.c23 HZ.out
      go_wp2_with (first
        | (refine wpList_load_mid (by rfl) 31 _ (by rfl) _ _ (by rfl) _ _ HZ.out.at0 Tryz.underlying31 rfl (by kernel_rfl) ?_)
        | (refine wpList_built (by rfl) 31 _ (by rfl) [] (by rfl) _ built_node0 ?_)
        | (go_at_call 59; refine (H0.out _).mono ?_; rintro e w1 ⟨rfl, hb⟩; replace HB : Hid (Below w.heap.size w w1) := Below.on HB.out hb; replace HX : Hid (BoxR w1 X [.slice a len cap, .int .i64 now]) := HX.out.below hb; replace HZ : Hid (BoxR w1 (X + 1) (ndV x y)) := HZ.out.below hb; clear hb; replace t0 : w1.cell? ⟨X, 0, none⟩ = some (.slice a len cap) := HX.out.at0 0 _ rfl; replace t1 : w1.cell? ⟨X, 1, none⟩ = some (.int .i64 now) := HX.out.at0 1 _ rfl; replace e0 := NB.c0 HZ.out; replace e21 := NB.c21 HZ.out; replace e23 := NB.c23 HZ.out))
      go_ret
      exact ⟨ret_boolW (by rw [HE.out]; first | done | simp), HB.out⟩
    · cases ct : (x.ti == 0)
      · rw [ct] at HE
        have HX : Hid (BoxR ((w.alloc (.cells #[.slice a len cap, .int .i64 now] 35)).alloc (.cells (ndV x y).toArray 31)) w.heap.size [.slice a len cap, .int .i64 now]) := (boxR_new w [.slice a len cap, .int .i64 now] 35).below (bel_alloc _ _)
        have HZ : Hid (BoxR ((w.alloc (.cells #[.slice a len cap, .int .i64 now] 35)).alloc (.cells (ndV x y).toArray 31)) (w.heap.size + 1) (ndV x y)) := (by
          have h := boxR_new (w.alloc (.cells #[.slice a len cap, .int .i64 now] 35)) (ndV x y) 31
          simp only [World.size_alloc] at h
          exact h)
        have HB : Hid (Below w.heap.size w ((w.alloc (.cells #[.slice a len cap, .int .i64 now] 35)).alloc (.cells (ndV x y).toArray 31))) := bl2T _ _ _
        go_enter Tryz.func37, Tryz.ntmps37
        go_upto_region 1 with fail
        generalize ((w.alloc (.cells #[.slice a len cap, .int .i64 now] 35)).alloc (.cells (ndV x y).toArray 31)) = w0 at HX HZ HB ⊢
        obtain ⟨X, hX⟩ : ∃ X, X = w.heap.size := ⟨_, rfl⟩
        rw [← hX] at HX HZ ⊢
        clear hX
        have t0 : w0.cell? ⟨X, 0, none⟩ = some (.slice a len cap) := HX.out.at0 0 _ rfl
        have t1 : w0.cell? ⟨X, 1, none⟩ = some (.int .i64 now) := HX.out.at0 1 _ rfl
        have e0 := NB.c0 HZ.out
        have e21 := NB.c21 HZ.out
        have e23 := NB.c23 HZ.out
        go_wp2_with (first
          | (refine wpList_load_mid (by rfl) 31 _ (by rfl) _ _ (by rfl) _ _ HZ.out.at0 Tryz.underlying31 rfl (by kernel_rfl) ?_)
          | (refine wpList_built (by rfl) 31 _ (by rfl) [] (by rfl) _ built_node0 ?_)
          | (go_at_call 59; refine (H0.out _).mono ?_; rintro e w1 ⟨rfl, hb⟩; replace HB : Hid (Below w.heap.size w w1) := Below.on HB.out hb; replace HX : Hid (BoxR w1 X [.slice a len cap, .int .i64 now]) := HX.out.below hb; replace HZ : Hid (BoxR w1 (X + 1) (ndV x y)) := HZ.out.below hb; clear hb; replace t0 : w1.cell? ⟨X, 0, none⟩ = some (.slice a len cap) := HX.out.at0 0 _ rfl; replace t1 : w1.cell? ⟨X, 1, none⟩ = some (.int .i64 now) := HX.out.at0 1 _ rfl; replace e0 := NB.c0 HZ.out; replace e21 := NB.c21 HZ.out; replace e23 := NB.c23 HZ.out))
        go_ret
        exact ⟨ret_boolW (by rw [HE.out]; first | done | simp), HB.out⟩
      · rw [ct] at HE
        have HX : Hid (BoxR ((w.alloc (.cells #[.slice a len cap, .int .i64 now] 35)).alloc (.cells (ndV x y).toArray 31)) w.heap.size [.slice a len cap, .int .i64 now]) := (boxR_new w [.slice a len cap, .int .i64 now] 35).below (bel_alloc _ _)
        have HZ : Hid (BoxR ((w.alloc (.cells #[.slice a len cap, .int .i64 now] 35)).alloc (.cells (ndV x y).toArray 31)) (w.heap.size + 1) (ndV x y)) := (by
          have h := boxR_new (w.alloc (.cells #[.slice a len cap, .int .i64 now] 35)) (ndV x y) 31
          simp only [World.size_alloc] at h
          exact h)
        have HB : Hid (Below w.heap.size w ((w.alloc (.cells #[.slice a len cap, .int .i64 now] 35)).alloc (.cells (ndV x y).toArray 31))) := bl2T _ _ _
        go_enter Tryz.func37, Tryz.ntmps37
        go_upto_region 1 with fail
        generalize ((w.alloc (.cells #[.slice a len cap, .int .i64 now] 35)).alloc (.cells (ndV x y).toArray 31)) = w0 at HX HZ HB ⊢
        obtain ⟨X, hX⟩ : ∃ X, X = w.heap.size := ⟨_, rfl⟩
        rw [← hX] at HX HZ ⊢
        clear hX
        have t0 : w0.cell? ⟨X, 0, none⟩ = some (.slice a len cap) := HX.out.at0 0 _ rfl
        have t1 : w0.cell? ⟨X, 1, none⟩ = some (.int .i64 now) := HX.out.at0 1 _ rfl
        have e0 := NB.c0 HZ.out
        have e21 := NB.c21 HZ.out
        have e23 := NB.c23 HZ.out
        go_wp2_with (first
          | (refine wpList_load_mid (by rfl) 31 _ (by rfl) _ _ (by rfl) _ _ HZ.out.at0 Tryz.underlying31 rfl (by kernel_rfl) ?_)
          | (refine wpList_built (by rfl) 31 _ (by rfl) [] (by rfl) _ built_node0 ?_)
          | (go_at_call 59; refine (H0.out _).mono ?_; rintro e w1 ⟨rfl, hb⟩; replace HB : Hid (Below w.heap.size w w1) := Below.on HB.out hb; replace HX : Hid (BoxR w1 X [.slice a len cap, .int .i64 now]) := HX.out.below hb; replace HZ : Hid (BoxR w1 (X + 1) (ndV x y)) := HZ.out.below hb; clear hb; replace t0 : w1.cell? ⟨X, 0, none⟩ = some (.slice a len cap) := HX.out.at0 0 _ rfl; replace t1 : w1.cell? ⟨X, 1, none⟩ = some (.int .i64 now) := HX.out.at0 1 _ rfl; replace e0 := NB.c0 HZ.out; replace e21 := NB.c21 HZ.out; replace e23 := NB.c23 HZ.out))
        go_ret
        exact ⟨ret_boolW (by rw [HE.out]; first | done | simp), HB.out⟩
  rw [k0, if_neg (by decide)] at HE
  cases k1 : (x.k == 1)
  case true =>
    rw [k1, if_pos rfl] at HE
    cases al
    · skip
      have HX : Hid (BoxR ((w.alloc (.cells #[.slice a len cap, .int .i64 now] 35)).alloc (.cells (ndV x y).toArray 31)) w.heap.size [.slice a len cap, .int .i64 now]) := (boxR_new w [.slice a len cap, .int .i64 now] 35).below (bel_alloc _ _)
      have HZ : Hid (BoxR ((w.alloc (.cells #[.slice a len cap, .int .i64 now] 35)).alloc (.cells (ndV x y).toArray 31)) (w.heap.size + 1) (ndV x y)) := (by
        have h := boxR_new (w.alloc (.cells #[.slice a len cap, .int .i64 now] 35)) (ndV x y) 31
        simp only [World.size_alloc] at h
        exact h)
      have HB : Hid (Below w.heap.size w ((w.alloc (.cells #[.slice a len cap, .int .i64 now] 35)).alloc (.cells (ndV x y).toArray 31))) := bl2T _ _ _
      go_enter Tryz.func37, Tryz.ntmps37
      go_upto_region 1 with fail
      generalize ((w.alloc (.cells #[.slice a len cap, .int .i64 now] 35)).alloc (.cells (ndV x y).toArray 31)) = w0 at HX HZ HB ⊢
      obtain ⟨X, hX⟩ : ∃ X, X = w.heap.size := ⟨_, rfl⟩
      rw [← hX] at HX HZ ⊢
      clear hX
      have t0 : w0.cell? ⟨X, 0, none⟩ = some (.slice a len cap) := HX.out.at0 0 _ rfl
      have t1 : w0.cell? ⟨X, 1, none⟩ = some (.int .i64 now) := HX.out.at0 1 _ rfl
      have e0 := NB.c0 HZ.out
      have e21 := NB.c21 HZ.out
      have e23 := NB.c23 HZ.out
      go_wp2_with (first
        | (refine wpList_load_mid (by rfl) 31 _ (by rfl) _ _ (by rfl) _ _ HZ.out.at0 Tryz.underlying31 rfl (by kernel_rfl) ?_)
        | (refine wpList_load_want (by rfl) 31 _ (by rfl) _ _ (by rfl) _ _ HZ.out.at0 Tryz.underlying31 rfl (by kernel_rfl) ?_)
        | (refine wpList_built2w (by rfl) 84 _ _ (by rfl) _ _ (by rfl) (by rfl) _ (built_dir x y _) ?_)
        | (go_at_call 60; refine (HAl.out _ HB.out).mono ?_; rintro e w1 ⟨rfl, hb⟩; replace HB : Hid (Below w.heap.size w w1) := Below.on HB.out hb; replace HX : Hid (BoxR w1 X [.slice a len cap, .int .i64 now]) := HX.out.below hb; replace HZ : Hid (BoxR w1 (X + 1) (ndV x y)) := HZ.out.below hb; clear hb; replace t0 : w1.cell? ⟨X, 0, none⟩ = some (.slice a len cap) := HX.out.at0 0 _ rfl; replace t1 : w1.cell? ⟨X, 1, none⟩ = some (.int .i64 now) := HX.out.at0 1 _ rfl; replace e0 := NB.c0 HZ.out; replace e21 := NB.c21 HZ.out; replace e23 := NB.c23 HZ.out)
        | (go_at_call 61; refine (HDr.out _ HB.out).mono ?_; rintro e w1 ⟨rfl, hb⟩; replace HB : Hid (Below w.heap.size w w1) := Below.on HB.out hb; replace HX : Hid (BoxR w1 X [.slice a len cap, .int .i64 now]) := HX.out.below hb; replace HZ : Hid (BoxR w1 (X + 1) (ndV x y)) := HZ.out.below hb; clear hb; replace t0 : w1.cell? ⟨X, 0, none⟩ = some (.slice a len cap) := HX.out.at0 0 _ rfl; replace t1 : w1.cell? ⟨X, 1, none⟩ = some (.int .i64 now) := HX.out.at0 1 _ rfl; replace e0 := NB.c0 HZ.out; replace e21 := NB.c21 HZ.out; replace e23 := NB.c23 HZ.out))
      go_ret
      exact ⟨ret_boolW (by rw [HE.out]; first | done | simp), HB.out⟩
    · cases dI
      · skip
        have HX : Hid (BoxR ((w.alloc (.cells #[.slice a len cap, .int .i64 now] 35)).alloc (.cells (ndV x y).toArray 31)) w.heap.size [.slice a len cap, .int .i64 now]) := (boxR_new w [.slice a len cap, .int .i64 now] 35).below (bel_alloc _ _)
        have HZ : Hid (BoxR ((w.alloc (.cells #[.slice a len cap, .int .i64 now] 35)).alloc (.cells (ndV x y).toArray 31)) (w.heap.size + 1) (ndV x y)) := (by
          have h := boxR_new (w.alloc (.cells #[.slice a len cap, .int .i64 now] 35)) (ndV x y) 31
          simp only [World.size_alloc] at h
          exact h)
        have HB : Hid (Below w.heap.size w ((w.alloc (.cells #[.slice a len cap, .int .i64 now] 35)).alloc (.cells (ndV x y).toArray 31))) := bl2T _ _ _
        go_enter Tryz.func37, Tryz.ntmps37
        go_upto_region 1 with fail
        generalize ((w.alloc (.cells #[.slice a len cap, .int .i64 now] 35)).alloc (.cells (ndV x y).toArray 31)) = w0 at HX HZ HB ⊢
        obtain ⟨X, hX⟩ : ∃ X, X = w.heap.size := ⟨_, rfl⟩
        rw [← hX] at HX HZ ⊢
        clear hX
        have t0 : w0.cell? ⟨X, 0, none⟩ = some (.slice a len cap) := HX.out.at0 0 _ rfl
        have t1 : w0.cell? ⟨X, 1, none⟩ = some (.int .i64 now) := HX.out.at0 1 _ rfl
        have e0 := NB.c0 HZ.out
        have e21 := NB.c21 HZ.out
        have e23 := NB.c23 HZ.out
        go_wp2_with (first
          | (refine wpList_load_mid (by rfl) 31 _ (by rfl) _ _ (by rfl) _ _ HZ.out.at0 Tryz.underlying31 rfl (by kernel_rfl) ?_)
          | (refine wpList_load_want (by rfl) 31 _ (by rfl) _ _ (by rfl) _ _ HZ.out.at0 Tryz.underlying31 rfl (by kernel_rfl) ?_)
          | (refine wpList_built2w (by rfl) 84 _ _ (by rfl) _ _ (by rfl) (by rfl) _ (built_dir x y _) ?_)
          | (go_at_call 60; refine (HAl.out _ HB.out).mono ?_; rintro e w1 ⟨rfl, hb⟩; replace HB : Hid (Below w.heap.size w w1) := Below.on HB.out hb; replace HX : Hid (BoxR w1 X [.slice a len cap, .int .i64 now]) := HX.out.below hb; replace HZ : Hid (BoxR w1 (X + 1) (ndV x y)) := HZ.out.below hb; clear hb; replace t0 : w1.cell? ⟨X, 0, none⟩ = some (.slice a len cap) := HX.out.at0 0 _ rfl; replace t1 : w1.cell? ⟨X, 1, none⟩ = some (.int .i64 now) := HX.out.at0 1 _ rfl; replace e0 := NB.c0 HZ.out; replace e21 := NB.c21 HZ.out; replace e23 := NB.c23 HZ.out)
          | (go_at_call 61; refine (HDr.out _ HB.out).mono ?_; rintro e w1 ⟨rfl, hb⟩; replace HB : Hid (Below w.heap.size w w1) := Below.on HB.out hb; replace HX : Hid (BoxR w1 X [.slice a len cap, .int .i64 now]) := HX.out.below hb; replace HZ : Hid (BoxR w1 (X + 1) (ndV x y)) := HZ.out.below hb; clear hb; replace t0 : w1.cell? ⟨X, 0, none⟩ = some (.slice a len cap) := HX.out.at0 0 _ rfl; replace t1 : w1.cell? ⟨X, 1, none⟩ = some (.int .i64 now) := HX.out.at0 1 _ rfl; replace e0 := NB.c0 HZ.out; replace e21 := NB.c21 HZ.out; replace e23 := NB.c23 HZ.out))
        go_ret
        exact ⟨ret_boolW (by rw [HE.out]; first | done | simp), HB.out⟩
      · skip
        have HX : Hid (BoxR ((w.alloc (.cells #[.slice a len cap, .int .i64 now] 35)).alloc (.cells (ndV x y).toArray 31)) w.heap.size [.slice a len cap, .int .i64 now]) := (boxR_new w [.slice a len cap, .int .i64 now] 35).below (bel_alloc _ _)
        have HZ : Hid (BoxR ((w.alloc (.cells #[.slice a len cap, .int .i64 now] 35)).alloc (.cells (ndV x y).toArray 31)) (w.heap.size + 1) (ndV x y)) := (by
          have h := boxR_new (w.alloc (.cells #[.slice a len cap, .int .i64 now] 35)) (ndV x y) 31
          simp only [World.size_alloc] at h
          exact h)
        have HB : Hid (Below w.heap.size w ((w.alloc (.cells #[.slice a len cap, .int .i64 now] 35)).alloc (.cells (ndV x y).toArray 31))) := bl2T _ _ _
        go_enter Tryz.func37, Tryz.ntmps37
        go_upto_region 1 with fail
        generalize ((w.alloc (.cells #[.slice a len cap, .int .i64 now] 35)).alloc (.cells (ndV x y).toArray 31)) = w0 at HX HZ HB ⊢
        obtain ⟨X, hX⟩ : ∃ X, X = w.heap.size := ⟨_, rfl⟩
        rw [← hX] at HX HZ ⊢
        clear hX
        have t0 : w0.cell? ⟨X, 0, none⟩ = some (.slice a len cap) := HX.out.at0 0 _ rfl
        have t1 : w0.cell? ⟨X, 1, none⟩ = some (.int .i64 now) := HX.out.at0 1 _ rfl
        have e0 := NB.c0 HZ.out
        have e21 := NB.c21 HZ.out
        have e23 := NB.c23 HZ.out
        go_wp2_with (first
          | (refine wpList_load_mid (by rfl) 31 _ (by rfl) _ _ (by rfl) _ _ HZ.out.at0 Tryz.underlying31 rfl (by kernel_rfl) ?_)
          | (refine wpList_load_want (by rfl) 31 _ (by rfl) _ _ (by rfl) _ _ HZ.out.at0 Tryz.underlying31 rfl (by kernel_rfl) ?_)
          | (refine wpList_built2w (by rfl) 84 _ _ (by rfl) _ _ (by rfl) (by rfl) _ (built_dir x y _) ?_)
          | (go_at_call 60; refine (HAl.out _ HB.out).mono ?_; rintro e w1 ⟨rfl, hb⟩; replace HB : Hid (Below w.heap.size w w1) := Below.on HB.out hb; replace HX : Hid (BoxR w1 X [.slice a len cap, .int .i64 now]) := HX.out.below hb; replace HZ : Hid (BoxR w1 (X + 1) (ndV x y)) := HZ.out.below hb; clear hb; replace t0 : w1.cell? ⟨X, 0, none⟩ = some (.slice a len cap) := HX.out.at0 0 _ rfl; replace t1 : w1.cell? ⟨X, 1, none⟩ = some (.int .i64 now) := HX.out.at0 1 _ rfl; replace e0 := NB.c0 HZ.out; replace e21 := NB.c21 HZ.out; replace e23 := NB.c23 HZ.out)
          | (go_at_call 61; refine (HDr.out _ HB.out).mono ?_; rintro e w1 ⟨rfl, hb⟩; replace HB : Hid (Below w.heap.size w w1) := Below.on HB.out hb; replace HX : Hid (BoxR w1 X [.slice a len cap, .int .i64 now]) := HX.out.below hb; replace HZ : Hid (BoxR w1 (X + 1) (ndV x y)) := HZ.out.below hb; clear hb; replace t0 : w1.cell? ⟨X, 0, none⟩ = some (.slice a len cap) := HX.out.at0 0 _ rfl; replace t1 : w1.cell? ⟨X, 1, none⟩ = some (.int .i64 now) := HX.out.at0 1 _ rfl; replace e0 := NB.c0 HZ.out; replace e21 := NB.c21 HZ.out; replace e23 := NB.c23 HZ.out))
        go_ret
        exact ⟨ret_boolW (by rw [HE.out]; first | done | simp), HB.out⟩
  rw [k1, if_neg (by decide)] at HE
  cases k2 : (x.k == 2)
  case true =>
    rw [k2, if_pos rfl] at HE
    cases al
    · skip
      have HX : Hid (BoxR ((w.alloc (.cells #[.slice a len cap, .int .i64 now] 35)).alloc (.cells (ndV x y).toArray 31)) w.heap.size [.slice a len cap, .int .i64 now]) := (boxR_new w [.slice a len cap, .int .i64 now] 35).below (bel_alloc _ _)
      have HZ : Hid (BoxR ((w.alloc (.cells #[.slice a len cap, .int .i64 now] 35)).alloc (.cells (ndV x y).toArray 31)) (w.heap.size + 1) (ndV x y)) := (by
        have h := boxR_new (w.alloc (.cells #[.slice a len cap, .int .i64 now] 35)) (ndV x y) 31
        simp only [World.size_alloc] at h
        exact h)
      have HB : Hid (Below w.heap.size w ((w.alloc (.cells #[.slice a len cap, .int .i64 now] 35)).alloc (.cells (ndV x y).toArray 31))) := bl2T _ _ _
      go_enter Tryz.func37, Tryz.ntmps37
      go_upto_region 1 with fail
      generalize ((w.alloc (.cells #[.slice a len cap, .int .i64 now] 35)).alloc (.cells (ndV x y).toArray 31)) = w0 at HX HZ HB ⊢
      obtain ⟨X, hX⟩ : ∃ X, X = w.heap.size := ⟨_, rfl⟩
      rw [← hX] at HX HZ ⊢
      clear hX
      have t0 : w0.cell? ⟨X, 0, none⟩ = some (.slice a len cap) := HX.out.at0 0 _ rfl
      have t1 : w0.cell? ⟨X, 1, none⟩ = some (.int .i64 now) := HX.out.at0 1 _ rfl
      have e0 := NB.c0 HZ.out
      have e21 := NB.c21 HZ.out
      have e23 := NB.c23 HZ.out
      go_wp2_with (first
        | (refine wpList_load_mid (by rfl) 31 _ (by rfl) _ _ (by rfl) _ _ HZ.out.at0 Tryz.underlying31 rfl (by kernel_rfl) ?_)
        | (refine wpList_load_want (by rfl) 31 _ (by rfl) _ _ (by rfl) _ _ HZ.out.at0 Tryz.underlying31 rfl (by kernel_rfl) ?_)
        | (go_at_call 60; refine (HAl.out _ HB.out).mono ?_; rintro e w1 ⟨rfl, hb⟩; replace HB : Hid (Below w.heap.size w w1) := Below.on HB.out hb; replace HX : Hid (BoxR w1 X [.slice a len cap, .int .i64 now]) := HX.out.below hb; replace HZ : Hid (BoxR w1 (X + 1) (ndV x y)) := HZ.out.below hb; clear hb; replace t0 : w1.cell? ⟨X, 0, none⟩ = some (.slice a len cap) := HX.out.at0 0 _ rfl; replace t1 : w1.cell? ⟨X, 1, none⟩ = some (.int .i64 now) := HX.out.at0 1 _ rfl; replace e0 := NB.c0 HZ.out; replace e21 := NB.c21 HZ.out; replace e23 := NB.c23 HZ.out)
        | (go_at_call 62; refine (HNo.out _).mono ?_; rintro e w1 ⟨rfl, hb⟩; replace HB : Hid (Below w.heap.size w w1) := Below.on HB.out hb; replace HX : Hid (BoxR w1 X [.slice a len cap, .int .i64 now]) := HX.out.below hb; replace HZ : Hid (BoxR w1 (X + 1) (ndV x y)) := HZ.out.below hb; clear hb; replace t0 : w1.cell? ⟨X, 0, none⟩ = some (.slice a len cap) := HX.out.at0 0 _ rfl; replace t1 : w1.cell? ⟨X, 1, none⟩ = some (.int .i64 now) := HX.out.at0 1 _ rfl; replace e0 := NB.c0 HZ.out; replace e21 := NB.c21 HZ.out; replace e23 := NB.c23 HZ.out))
      go_ret
      exact ⟨ret_boolW (by rw [HE.out]; first | done | simp), HB.out⟩
    · cases bz
      · skip
        have HX : Hid (BoxR ((w.alloc (.cells #[.slice a len cap, .int .i64 now] 35)).alloc (.cells (ndV x y).toArray 31)) w.heap.size [.slice a len cap, .int .i64 now]) := (boxR_new w [.slice a len cap, .int .i64 now] 35).below (bel_alloc _ _)
        have HZ : Hid (BoxR ((w.alloc (.cells #[.slice a len cap, .int .i64 now] 35)).alloc (.cells (ndV x y).toArray 31)) (w.heap.size + 1) (ndV x y)) := (by
          have h := boxR_new (w.alloc (.cells #[.slice a len cap, .int .i64 now] 35)) (ndV x y) 31
          simp only [World.size_alloc] at h
          exact h)
        have HB : Hid (Below w.heap.size w ((w.alloc (.cells #[.slice a len cap, .int .i64 now] 35)).alloc (.cells (ndV x y).toArray 31))) := bl2T _ _ _
        go_enter Tryz.func37, Tryz.ntmps37
        go_upto_region 1 with fail
        generalize ((w.alloc (.cells #[.slice a len cap, .int .i64 now] 35)).alloc (.cells (ndV x y).toArray 31)) = w0 at HX HZ HB ⊢
        obtain ⟨X, hX⟩ : ∃ X, X = w.heap.size := ⟨_, rfl⟩
        rw [← hX] at HX HZ ⊢
        clear hX
        have t0 : w0.cell? ⟨X, 0, none⟩ = some (.slice a len cap) := HX.out.at0 0 _ rfl
        have t1 : w0.cell? ⟨X, 1, none⟩ = some (.int .i64 now) := HX.out.at0 1 _ rfl
        have e0 := NB.c0 HZ.out
        have e21 := NB.c21 HZ.out
        have e23 := NB.c23 HZ.out
        go_wp2_with (first
          | (refine wpList_load_mid (by rfl) 31 _ (by rfl) _ _ (by rfl) _ _ HZ.out.at0 Tryz.underlying31 rfl (by kernel_rfl) ?_)
          | (refine wpList_load_want (by rfl) 31 _ (by rfl) _ _ (by rfl) _ _ HZ.out.at0 Tryz.underlying31 rfl (by kernel_rfl) ?_)
          | (go_at_call 60; refine (HAl.out _ HB.out).mono ?_; rintro e w1 ⟨rfl, hb⟩; replace HB : Hid (Below w.heap.size w w1) := Below.on HB.out hb; replace HX : Hid (BoxR w1 X [.slice a len cap, .int .i64 now]) := HX.out.below hb; replace HZ : Hid (BoxR w1 (X + 1) (ndV x y)) := HZ.out.below hb; clear hb; replace t0 : w1.cell? ⟨X, 0, none⟩ = some (.slice a len cap) := HX.out.at0 0 _ rfl; replace t1 : w1.cell? ⟨X, 1, none⟩ = some (.int .i64 now) := HX.out.at0 1 _ rfl; replace e0 := NB.c0 HZ.out; replace e21 := NB.c21 HZ.out; replace e23 := NB.c23 HZ.out)
          | (go_at_call 62; refine (HNo.out _).mono ?_; rintro e w1 ⟨rfl, hb⟩; replace HB : Hid (Below w.heap.size w w1) := Below.on HB.out hb; replace HX : Hid (BoxR w1 X [.slice a len cap, .int .i64 now]) := HX.out.below hb; replace HZ : Hid (BoxR w1 (X + 1) (ndV x y)) := HZ.out.below hb; clear hb; replace t0 : w1.cell? ⟨X, 0, none⟩ = some (.slice a len cap) := HX.out.at0 0 _ rfl; replace t1 : w1.cell? ⟨X, 1, none⟩ = some (.int .i64 now) := HX.out.at0 1 _ rfl; replace e0 := NB.c0 HZ.out; replace e21 := NB.c21 HZ.out; replace e23 := NB.c23 HZ.out))
        go_ret
        exact ⟨ret_boolW (by rw [HE.out]; first | done | simp), HB.out⟩
      · cases ct : x.bo.toList.isEmpty
        · rw [ct] at HE
          have HX : Hid (BoxR ((w.alloc (.cells #[.slice a len cap, .int .i64 now] 35)).alloc (.cells (ndV x y).toArray 31)) w.heap.size [.slice a len cap, .int .i64 now]) := (boxR_new w [.slice a len cap, .int .i64 now] 35).below (bel_alloc _ _)
          have HZ : Hid (BoxR ((w.alloc (.cells #[.slice a len cap, .int .i64 now] 35)).alloc (.cells (ndV x y).toArray 31)) (w.heap.size + 1) (ndV x y)) := (by
            have h := boxR_new (w.alloc (.cells #[.slice a len cap, .int .i64 now] 35)) (ndV x y) 31
            simp only [World.size_alloc] at h
            exact h)
          have HB : Hid (Below w.heap.size w ((w.alloc (.cells #[.slice a len cap, .int .i64 now] 35)).alloc (.cells (ndV x y).toArray 31))) := bl2T _ _ _
          go_enter Tryz.func37, Tryz.ntmps37
          go_upto_region 1 with fail
          generalize ((w.alloc (.cells #[.slice a len cap, .int .i64 now] 35)).alloc (.cells (ndV x y).toArray 31)) = w0 at HX HZ HB ⊢
          obtain ⟨X, hX⟩ : ∃ X, X = w.heap.size := ⟨_, rfl⟩
          rw [← hX] at HX HZ ⊢
          clear hX
          have t0 : w0.cell? ⟨X, 0, none⟩ = some (.slice a len cap) := HX.out.at0 0 _ rfl
          have t1 : w0.cell? ⟨X, 1, none⟩ = some (.int .i64 now) := HX.out.at0 1 _ rfl
          have e0 := NB.c0 HZ.out
          have e21 := NB.c21 HZ.out
          have e23 := NB.c23 HZ.out
          go_wp2_with (first
            | (refine wpList_load_mid (by rfl) 31 _ (by rfl) _ _ (by rfl) _ _ HZ.out.at0 Tryz.underlying31 rfl (by kernel_rfl) ?_)
            | (refine wpList_load_want (by rfl) 31 _ (by rfl) _ _ (by rfl) _ _ HZ.out.at0 Tryz.underlying31 rfl (by kernel_rfl) ?_)
            | (go_at_call 60; refine (HAl.out _ HB.out).mono ?_; rintro e w1 ⟨rfl, hb⟩; replace HB : Hid (Below w.heap.size w w1) := Below.on HB.out hb; replace HX : Hid (BoxR w1 X [.slice a len cap, .int .i64 now]) := HX.out.below hb; replace HZ : Hid (BoxR w1 (X + 1) (ndV x y)) := HZ.out.below hb; clear hb; replace t0 : w1.cell? ⟨X, 0, none⟩ = some (.slice a len cap) := HX.out.at0 0 _ rfl; replace t1 : w1.cell? ⟨X, 1, none⟩ = some (.int .i64 now) := HX.out.at0 1 _ rfl; replace e0 := NB.c0 HZ.out; replace e21 := NB.c21 HZ.out; replace e23 := NB.c23 HZ.out)
            | (go_at_call 62; refine (HNo.out _).mono ?_; rintro e w1 ⟨rfl, hb⟩; replace HB : Hid (Below w.heap.size w w1) := Below.on HB.out hb; replace HX : Hid (BoxR w1 X [.slice a len cap, .int .i64 now]) := HX.out.below hb; replace HZ : Hid (BoxR w1 (X + 1) (ndV x y)) := HZ.out.below hb; clear hb; replace t0 : w1.cell? ⟨X, 0, none⟩ = some (.slice a len cap) := HX.out.at0 0 _ rfl; replace t1 : w1.cell? ⟨X, 1, none⟩ = some (.int .i64 now) := HX.out.at0 1 _ rfl; replace e0 := NB.c0 HZ.out; replace e21 := NB.c21 HZ.out; replace e23 := NB.c23 HZ.out))
          go_ret
          exact ⟨ret_boolW (by rw [HE.out]; first | done | simp), HB.out⟩
        · rw [ct] at HE
          have HX : Hid (BoxR ((w.alloc (.cells #[.slice a len cap, .int .i64 now] 35)).alloc (.cells (ndV x y).toArray 31)) w.heap.size [.slice a len cap, .int .i64 now]) := (boxR_new w [.slice a len cap, .int .i64 now] 35).below (bel_alloc _ _)
          have HZ : Hid (BoxR ((w.alloc (.cells #[.slice a len cap, .int .i64 now] 35)).alloc (.cells (ndV x y).toArray 31)) (w.heap.size + 1) (ndV x y)) := (by
            have h := boxR_new (w.alloc (.cells #[.slice a len cap, .int .i64 now] 35)) (ndV x y) 31
            simp only [World.size_alloc] at h
            exact h)
          have HB : Hid (Below w.heap.size w ((w.alloc (.cells #[.slice a len cap, .int .i64 now] 35)).alloc (.cells (ndV x y).toArray 31))) := bl2T _ _ _
          go_enter Tryz.func37, Tryz.ntmps37
          go_upto_region 1 with fail
          generalize ((w.alloc (.cells #[.slice a len cap, .int .i64 now] 35)).alloc (.cells (ndV x y).toArray 31)) = w0 at HX HZ HB ⊢
          obtain ⟨X, hX⟩ : ∃ X, X = w.heap.size := ⟨_, rfl⟩
          rw [← hX] at HX HZ ⊢
          clear hX
          have t0 : w0.cell? ⟨X, 0, none⟩ = some (.slice a len cap) := HX.out.at0 0 _ rfl
          have t1 : w0.cell? ⟨X, 1, none⟩ = some (.int .i64 now) := HX.out.at0 1 _ rfl
          have e0 := NB.c0 HZ.out
          have e21 := NB.c21 HZ.out
          have e23 := NB.c23 HZ.out
          go_wp2_with (first
            | (refine wpList_load_mid (by rfl) 31 _ (by rfl) _ _ (by rfl) _ _ HZ.out.at0 Tryz.underlying31 rfl (by kernel_rfl) ?_)
            | (refine wpList_load_want (by rfl) 31 _ (by rfl) _ _ (by rfl) _ _ HZ.out.at0 Tryz.underlying31 rfl (by kernel_rfl) ?_)
            | (go_at_call 60; refine (HAl.out _ HB.out).mono ?_; rintro e w1 ⟨rfl, hb⟩; replace HB : Hid (Below w.heap.size w w1) := Below.on HB.out hb; replace HX : Hid (BoxR w1 X [.slice a len cap, .int .i64 now]) := HX.out.below hb; replace HZ : Hid (BoxR w1 (X + 1) (ndV x y)) := HZ.out.below hb; clear hb; replace t0 : w1.cell? ⟨X, 0, none⟩ = some (.slice a len cap) := HX.out.at0 0 _ rfl; replace t1 : w1.cell? ⟨X, 1, none⟩ = some (.int .i64 now) := HX.out.at0 1 _ rfl; replace e0 := NB.c0 HZ.out; replace e21 := NB.c21 HZ.out; replace e23 := NB.c23 HZ.out)
            | (go_at_call 62; refine (HNo.out _).mono ?_; rintro e w1 ⟨rfl, hb⟩; replace HB : Hid (Below w.heap.size w w1) := Below.on HB.out hb; replace HX : Hid (BoxR w1 X [.slice a len cap, .int .i64 now]) := HX.out.below hb; replace HZ : Hid (BoxR w1 (X + 1) (ndV x y)) := HZ.out.below hb; clear hb; replace t0 : w1.cell? ⟨X, 0, none⟩ = some (.slice a len cap) := HX.out.at0 0 _ rfl; replace t1 : w1.cell? ⟨X, 1, none⟩ = some (.int .i64 now) := HX.out.at0 1 _ rfl; replace e0 := NB.c0 HZ.out; replace e21 := NB.c21 HZ.out; replace e23 := NB.c23 HZ.out))
          go_ret
          exact ⟨ret_boolW (by rw [HE.out]; first | done | simp), HB.out⟩
  rw [k2, if_neg (by decide)] at HE
  cases k3 : (x.k == 3)
  case true =>
    rw [k3, if_pos rfl] at HE
    cases al
    · skip
      have HX : Hid (BoxR ((w.alloc (.cells #[.slice a len cap, .int .i64 now] 35)).alloc (.cells (ndV x y).toArray 31)) w.heap.size [.slice a len cap, .int .i64 now]) := (boxR_new w [.slice a len cap, .int .i64 now] 35).below (bel_alloc _ _)
      have HZ : Hid (BoxR ((w.alloc (.cells #[.slice a len cap, .int .i64 now] 35)).alloc (.cells (ndV x y).toArray 31)) (w.heap.size + 1) (ndV x y)) := (by
        have h := boxR_new (w.alloc (.cells #[.slice a len cap, .int .i64 now] 35)) (ndV x y) 31
        simp only [World.size_alloc] at h
        exact h)
      have HB : Hid (Below w.heap.size w ((w.alloc (.cells #[.slice a len cap, .int .i64 now] 35)).alloc (.cells (ndV x y).toArray 31))) := bl2T _ _ _
      go_enter Tryz.func37, Tryz.ntmps37
      go_upto_region 1 with fail
      generalize ((w.alloc (.cells #[.slice a len cap, .int .i64 now] 35)).alloc (.cells (ndV x y).toArray 31)) = w0 at HX HZ HB ⊢
      obtain ⟨X, hX⟩ : ∃ X, X = w.heap.size := ⟨_, rfl⟩
      rw [← hX] at HX HZ ⊢
      clear hX
      have t0 : w0.cell? ⟨X, 0, none⟩ = some (.slice a len cap) := HX.out.at0 0 _ rfl
      have t1 : w0.cell? ⟨X, 1, none⟩ = some (.int .i64 now) := HX.out.at0 1 _ rfl
      have e0 := NB.c0 HZ.out
      have e21 := NB.c21 HZ.out
      have e23 := NB.c23 HZ.out
      go_wp2_with (first
        | (refine wpList_load_mid (by rfl) 31 _ (by rfl) _ _ (by rfl) _ _ HZ.out.at0 Tryz.underlying31 rfl (by kernel_rfl) ?_)
        | (refine wpList_load_want (by rfl) 31 _ (by rfl) _ _ (by rfl) _ _ HZ.out.at0 Tryz.underlying31 rfl (by kernel_rfl) ?_)
        | (go_at_call 60; refine (HAl.out _ HB.out).mono ?_; rintro e w1 ⟨rfl, hb⟩; replace HB : Hid (Below w.heap.size w w1) := Below.on HB.out hb; replace HX : Hid (BoxR w1 X [.slice a len cap, .int .i64 now]) := HX.out.below hb; replace HZ : Hid (BoxR w1 (X + 1) (ndV x y)) := HZ.out.below hb; clear hb; replace t0 : w1.cell? ⟨X, 0, none⟩ = some (.slice a len cap) := HX.out.at0 0 _ rfl; replace t1 : w1.cell? ⟨X, 1, none⟩ = some (.int .i64 now) := HX.out.at0 1 _ rfl; replace e0 := NB.c0 HZ.out; replace e21 := NB.c21 HZ.out; replace e23 := NB.c23 HZ.out)
        | (go_at_call 62; refine (HNo.out _).mono ?_; rintro e w1 ⟨rfl, hb⟩; replace HB : Hid (Below w.heap.size w w1) := Below.on HB.out hb; replace HX : Hid (BoxR w1 X [.slice a len cap, .int .i64 now]) := HX.out.below hb; replace HZ : Hid (BoxR w1 (X + 1) (ndV x y)) := HZ.out.below hb; clear hb; replace t0 : w1.cell? ⟨X, 0, none⟩ = some (.slice a len cap) := HX.out.at0 0 _ rfl; replace t1 : w1.cell? ⟨X, 1, none⟩ = some (.int .i64 now) := HX.out.at0 1 _ rfl; replace e0 := NB.c0 HZ.out; replace e21 := NB.c21 HZ.out; replace e23 := NB.c23 HZ.out)
        | (go_at_call 63; refine (HLb.out _).mono ?_; rintro e w1 ⟨rfl, rfl⟩))
      go_ret
      exact ⟨ret_boolW (by rw [HE.out]; first | done | simp), HB.out⟩
    · cases bz
      · skip
        have HX : Hid (BoxR ((w.alloc (.cells #[.slice a len cap, .int .i64 now] 35)).alloc (.cells (ndV x y).toArray 31)) w.heap.size [.slice a len cap, .int .i64 now]) := (boxR_new w [.slice a len cap, .int .i64 now] 35).below (bel_alloc _ _)
        have HZ : Hid (BoxR ((w.alloc (.cells #[.slice a len cap, .int .i64 now] 35)).alloc (.cells (ndV x y).toArray 31)) (w.heap.size + 1) (ndV x y)) := (by
          have h := boxR_new (w.alloc (.cells #[.slice a len cap, .int .i64 now] 35)) (ndV x y) 31
          simp only [World.size_alloc] at h
          exact h)
        have HB : Hid (Below w.heap.size w ((w.alloc (.cells #[.slice a len cap, .int .i64 now] 35)).alloc (.cells (ndV x y).toArray 31))) := bl2T _ _ _
        go_enter Tryz.func37, Tryz.ntmps37
        go_upto_region 1 with fail
        generalize ((w.alloc (.cells #[.slice a len cap, .int .i64 now] 35)).alloc (.cells (ndV x y).toArray 31)) = w0 at HX HZ HB ⊢
        obtain ⟨X, hX⟩ : ∃ X, X = w.heap.size := ⟨_, rfl⟩
        rw [← hX] at HX HZ ⊢
        clear hX
        have t0 : w0.cell? ⟨X, 0, none⟩ = some (.slice a len cap) := HX.out.at0 0 _ rfl
        have t1 : w0.cell? ⟨X, 1, none⟩ = some (.int .i64 now) := HX.out.at0 1 _ rfl
        have e0 := NB.c0 HZ.out
        have e21 := NB.c21 HZ.out
        have e23 := NB.c23 HZ.out
        go_wp2_with (first
          | (refine wpList_load_mid (by rfl) 31 _ (by rfl) _ _ (by rfl) _ _ HZ.out.at0 Tryz.underlying31 rfl (by kernel_rfl) ?_)
          | (refine wpList_load_want (by rfl) 31 _ (by rfl) _ _ (by rfl) _ _ HZ.out.at0 Tryz.underlying31 rfl (by kernel_rfl) ?_)
          | (go_at_call 60; refine (HAl.out _ HB.out).mono ?_; rintro e w1 ⟨rfl, hb⟩; replace HB : Hid (Below w.heap.size w w1) := Below.on HB.out hb; replace HX : Hid (BoxR w1 X [.slice a len cap, .int .i64 now]) := HX.out.below hb; replace HZ : Hid (BoxR w1 (X + 1) (ndV x y)) := HZ.out.below hb; clear hb; replace t0 : w1.cell? ⟨X, 0, none⟩ = some (.slice a len cap) := HX.out.at0 0 _ rfl; replace t1 : w1.cell? ⟨X, 1, none⟩ = some (.int .i64 now) := HX.out.at0 1 _ rfl; replace e0 := NB.c0 HZ.out; replace e21 := NB.c21 HZ.out; replace e23 := NB.c23 HZ.out)
          | (go_at_call 62; refine (HNo.out _).mono ?_; rintro e w1 ⟨rfl, hb⟩; replace HB : Hid (Below w.heap.size w w1) := Below.on HB.out hb; replace HX : Hid (BoxR w1 X [.slice a len cap, .int .i64 now]) := HX.out.below hb; replace HZ : Hid (BoxR w1 (X + 1) (ndV x y)) := HZ.out.below hb; clear hb; replace t0 : w1.cell? ⟨X, 0, none⟩ = some (.slice a len cap) := HX.out.at0 0 _ rfl; replace t1 : w1.cell? ⟨X, 1, none⟩ = some (.int .i64 now) := HX.out.at0 1 _ rfl; replace e0 := NB.c0 HZ.out; replace e21 := NB.c21 HZ.out; replace e23 := NB.c23 HZ.out)
          | (go_at_call 63; refine (HLb.out _).mono ?_; rintro e w1 ⟨rfl, rfl⟩))
        go_ret
        exact ⟨ret_boolW (by rw [HE.out]; first | done | simp), HB.out⟩
      · cases sg
        · skip
          have HX : Hid (BoxR ((w.alloc (.cells #[.slice a len cap, .int .i64 now] 35)).alloc (.cells (ndV x y).toArray 31)) w.heap.size [.slice a len cap, .int .i64 now]) := (boxR_new w [.slice a len cap, .int .i64 now] 35).below (bel_alloc _ _)
          have HZ : Hid (BoxR ((w.alloc (.cells #[.slice a len cap, .int .i64 now] 35)).alloc (.cells (ndV x y).toArray 31)) (w.heap.size + 1) (ndV x y)) := (by
            have h := boxR_new (w.alloc (.cells #[.slice a len cap, .int .i64 now] 35)) (ndV x y) 31
            simp only [World.size_alloc] at h
            exact h)
          have HB : Hid (Below w.heap.size w ((w.alloc (.cells #[.slice a len cap, .int .i64 now] 35)).alloc (.cells (ndV x y).toArray 31))) := bl2T _ _ _
          go_enter Tryz.func37, Tryz.ntmps37
          go_upto_region 1 with fail
          generalize ((w.alloc (.cells #[.slice a len cap, .int .i64 now] 35)).alloc (.cells (ndV x y).toArray 31)) = w0 at HX HZ HB ⊢
          obtain ⟨X, hX⟩ : ∃ X, X = w.heap.size := ⟨_, rfl⟩
          rw [← hX] at HX HZ ⊢
          clear hX
          have t0 : w0.cell? ⟨X, 0, none⟩ = some (.slice a len cap) := HX.out.at0 0 _ rfl
          have t1 : w0.cell? ⟨X, 1, none⟩ = some (.int .i64 now) := HX.out.at0 1 _ rfl
          have e0 := NB.c0 HZ.out
          have e21 := NB.c21 HZ.out
          have e23 := NB.c23 HZ.out
          go_wp2_with (first
            | (refine wpList_load_mid (by rfl) 31 _ (by rfl) _ _ (by rfl) _ _ HZ.out.at0 Tryz.underlying31 rfl (by kernel_rfl) ?_)
            | (refine wpList_load_want (by rfl) 31 _ (by rfl) _ _ (by rfl) _ _ HZ.out.at0 Tryz.underlying31 rfl (by kernel_rfl) ?_)
            | (go_at_call 60; refine (HAl.out _ HB.out).mono ?_; rintro e w1 ⟨rfl, hb⟩; replace HB : Hid (Below w.heap.size w w1) := Below.on HB.out hb; replace HX : Hid (BoxR w1 X [.slice a len cap, .int .i64 now]) := HX.out.below hb; replace HZ : Hid (BoxR w1 (X + 1) (ndV x y)) := HZ.out.below hb; clear hb; replace t0 : w1.cell? ⟨X, 0, none⟩ = some (.slice a len cap) := HX.out.at0 0 _ rfl; replace t1 : w1.cell? ⟨X, 1, none⟩ = some (.int .i64 now) := HX.out.at0 1 _ rfl; replace e0 := NB.c0 HZ.out; replace e21 := NB.c21 HZ.out; replace e23 := NB.c23 HZ.out)
            | (go_at_call 62; refine (HNo.out _).mono ?_; rintro e w1 ⟨rfl, hb⟩; replace HB : Hid (Below w.heap.size w w1) := Below.on HB.out hb; replace HX : Hid (BoxR w1 X [.slice a len cap, .int .i64 now]) := HX.out.below hb; replace HZ : Hid (BoxR w1 (X + 1) (ndV x y)) := HZ.out.below hb; clear hb; replace t0 : w1.cell? ⟨X, 0, none⟩ = some (.slice a len cap) := HX.out.at0 0 _ rfl; replace t1 : w1.cell? ⟨X, 1, none⟩ = some (.int .i64 now) := HX.out.at0 1 _ rfl; replace e0 := NB.c0 HZ.out; replace e21 := NB.c21 HZ.out; replace e23 := NB.c23 HZ.out)
            | (go_at_call 63; refine (HLb.out _).mono ?_; rintro e w1 ⟨rfl, rfl⟩))
          go_ret
          exact ⟨ret_boolW (by rw [HE.out]; first | done | simp), HB.out⟩
        · skip
          have HX : Hid (BoxR ((w.alloc (.cells #[.slice a len cap, .int .i64 now] 35)).alloc (.cells (ndV x y).toArray 31)) w.heap.size [.slice a len cap, .int .i64 now]) := (boxR_new w [.slice a len cap, .int .i64 now] 35).below (bel_alloc _ _)
          have HZ : Hid (BoxR ((w.alloc (.cells #[.slice a len cap, .int .i64 now] 35)).alloc (.cells (ndV x y).toArray 31)) (w.heap.size + 1) (ndV x y)) := (by
            have h := boxR_new (w.alloc (.cells #[.slice a len cap, .int .i64 now] 35)) (ndV x y) 31
            simp only [World.size_alloc] at h
            exact h)
          have HB : Hid (Below w.heap.size w ((w.alloc (.cells #[.slice a len cap, .int .i64 now] 35)).alloc (.cells (ndV x y).toArray 31))) := bl2T _ _ _
          go_enter Tryz.func37, Tryz.ntmps37
          go_upto_region 1 with fail
          generalize ((w.alloc (.cells #[.slice a len cap, .int .i64 now] 35)).alloc (.cells (ndV x y).toArray 31)) = w0 at HX HZ HB ⊢
          obtain ⟨X, hX⟩ : ∃ X, X = w.heap.size := ⟨_, rfl⟩
          rw [← hX] at HX HZ ⊢
          clear hX
          have t0 : w0.cell? ⟨X, 0, none⟩ = some (.slice a len cap) := HX.out.at0 0 _ rfl
          have t1 : w0.cell? ⟨X, 1, none⟩ = some (.int .i64 now) := HX.out.at0 1 _ rfl
          have e0 := NB.c0 HZ.out
          have e21 := NB.c21 HZ.out
          have e23 := NB.c23 HZ.out
          go_wp2_with (first
            | (refine wpList_load_mid (by rfl) 31 _ (by rfl) _ _ (by rfl) _ _ HZ.out.at0 Tryz.underlying31 rfl (by kernel_rfl) ?_)
            | (refine wpList_load_want (by rfl) 31 _ (by rfl) _ _ (by rfl) _ _ HZ.out.at0 Tryz.underlying31 rfl (by kernel_rfl) ?_)
            | (go_at_call 60; refine (HAl.out _ HB.out).mono ?_; rintro e w1 ⟨rfl, hb⟩; replace HB : Hid (Below w.heap.size w w1) := Below.on HB.out hb; replace HX : Hid (BoxR w1 X [.slice a len cap, .int .i64 now]) := HX.out.below hb; replace HZ : Hid (BoxR w1 (X + 1) (ndV x y)) := HZ.out.below hb; clear hb; replace t0 : w1.cell? ⟨X, 0, none⟩ = some (.slice a len cap) := HX.out.at0 0 _ rfl; replace t1 : w1.cell? ⟨X, 1, none⟩ = some (.int .i64 now) := HX.out.at0 1 _ rfl; replace e0 := NB.c0 HZ.out; replace e21 := NB.c21 HZ.out; replace e23 := NB.c23 HZ.out)
            | (go_at_call 62; refine (HNo.out _).mono ?_; rintro e w1 ⟨rfl, hb⟩; replace HB : Hid (Below w.heap.size w w1) := Below.on HB.out hb; replace HX : Hid (BoxR w1 X [.slice a len cap, .int .i64 now]) := HX.out.below hb; replace HZ : Hid (BoxR w1 (X + 1) (ndV x y)) := HZ.out.below hb; clear hb; replace t0 : w1.cell? ⟨X, 0, none⟩ = some (.slice a len cap) := HX.out.at0 0 _ rfl; replace t1 : w1.cell? ⟨X, 1, none⟩ = some (.int .i64 now) := HX.out.at0 1 _ rfl; replace e0 := NB.c0 HZ.out; replace e21 := NB.c21 HZ.out; replace e23 := NB.c23 HZ.out)
            | (go_at_call 63; refine (HLb.out _).mono ?_; rintro e w1 ⟨rfl, rfl⟩))
          go_ret
          exact ⟨ret_boolW (by rw [HE.out]; first | done | simp), HB.out⟩
  rw [k3, if_neg (by decide)] at HE
  have HX : Hid (BoxR ((w.alloc (.cells #[.slice a len cap, .int .i64 now] 35)).alloc (.cells (ndV x y).toArray 31)) w.heap.size [.slice a len cap, .int .i64 now]) := (boxR_new w [.slice a len cap, .int .i64 now] 35).below (bel_alloc _ _)
  have HZ : Hid (BoxR ((w.alloc (.cells #[.slice a len cap, .int .i64 now] 35)).alloc (.cells (ndV x y).toArray 31)) (w.heap.size + 1) (ndV x y)) := (by
    have h := boxR_new (w.alloc (.cells #[.slice a len cap, .int .i64 now] 35)) (ndV x y) 31
    simp only [World.size_alloc] at h
    exact h)
  have HB : Hid (Below w.heap.size w ((w.alloc (.cells #[.slice a len cap, .int .i64 now] 35)).alloc (.cells (ndV x y).toArray 31))) := bl2T _ _ _
  go_enter Tryz.func37, Tryz.ntmps37
  go_upto_region 1 with fail
  generalize ((w.alloc (.cells #[.slice a len cap, .int .i64 now] 35)).alloc (.cells (ndV x y).toArray 31)) = w0 at HX HZ HB ⊢
  obtain ⟨X, hX⟩ : ∃ X, X = w.heap.size := ⟨_, rfl⟩
  rw [← hX] at HX HZ ⊢
  clear hX
  have t0 : w0.cell? ⟨X, 0, none⟩ = some (.slice a len cap) := HX.out.at0 0 _ rfl
  have t1 : w0.cell? ⟨X, 1, none⟩ = some (.int .i64 now) := HX.out.at0 1 _ rfl
  have e0 := NB.c0 HZ.out
  have e21 := NB.c21 HZ.out
  have e23 := NB.c23 HZ.out
  go_wp2_with (first
    | (refine wpList_load_mid (by rfl) 31 _ (by rfl) _ _ (by rfl) _ _ HZ.out.at0 Tryz.underlying31 rfl (by kernel_rfl) ?_))
  go_ret
  exact ⟨ret_boolW (by rw [HE.out]; first | done | simp), HB.out⟩
end Go.Proofs.YtgodbelcddgdmaaGreat
