/- Laid together: PathOfS. -/
import Derived.Test.YtcgkkeooigjbbaaPO23
/- spec.PathOf. -/
namespace Go.Proofs.Ytcgkkeooigjbbaa
open Go.RowKit Go.PlainAid Go.Deep
set_option linter.unusedVariables false
set_option maxHeartbeats 4000000 in
theorem sName_any (nA : Option Addr) (nC : Nat) (ns : List (ByteArray × Int)) (n : Int) (hl : ns.length ≤ 1048576) (w : World) (hi : Ens nA ns.length ns w) :
    Calls Try.prog 45 #[.slice nA ns.length nC, .int .i64 n] w fun e w' => e = .returned (.string (nfT ns n ns.length)) ∧ w' = w := by
  have HE : Hid (Ens nA ns.length ns w) := hi
  clear hi
  go_enter Try.func45, Try.ntmps45
  go_wp2
  go_loop [5] (fun j => ∃ m : Nat, m ≤ ns.length ∧ j = .int .i64 m ∧ Hid (hasE ns n m = false)) (fun j => ns.length - (intOf j).toNat)
  case atStart => exact ⟨0, Nat.zero_le _, rfl, rfl⟩
  case round =>
    obtain ⟨m, hm, rfl, hno⟩ := hrel
    by_cases hml : m < ns.length
    · obtain ⟨b2, off2, rfl, hb2, hc2⟩ := HE.out.2 (by omega)
      have hml' : (m : Int) < (ns.length : Int) := by omega
      have g0 := (hc2 m hml).1
      have g1 := (hc2 m hml).2
      clear hc2
      cases e : (noAt ns m == n)
      · have hno2 : Hid (hasE ns n (m + 1) = false) := (by show _ = _; simp only [hasE, hno.out, e, Bool.or_self])
        go_wp2
        go_round
        case rel => exact ⟨m + 1, by omega, by go_num, hno2⟩
        case measure => simp [intOf]; omega
      · have hyes : Hid (nfT ns n ns.length = nmAt ns m) := nfT_at hno.out e _ hml
        go_wp2
        go_ret
        exact ⟨by (first | (rw [hyes.out]; rfl) | rw [hyes.out]), rfl⟩
    · have : m = ns.length := by omega
      subst this
      have hyes : Hid (nfT ns n ns.length = ⟨#[]⟩) := nfT_none _ hno.out
      go_wp2
      go_ret
      exact ⟨by (first | (rw [hyes.out]; rfl) | rw [hyes.out]), rfl⟩
set_option maxHeartbeats 8000000 in
theorem sPathOf_any (a : Option Addr) (len cap : Nat) (l : List Nd) (now : Int) (n : Int) (hm : len ≤ 9223372036854775807) (hf : ∀ i, i < len → NdFit 1048576 (ndAt l i)) (w : World) (hi : Nds a len l w) :
    Calls Try.prog 20 #[.agg #[.slice a len cap, .int .i64 now], .int .i64 n] w fun e w' => e = .returned (.string (ptO l now n)) ∧ Below w.heap.size w w' := by
  have HT : Hid (∀ w', Below w.heap.size w w' → Calls Try.prog 25 #[.agg #[.slice a len cap, .int .i64 now]] w' fun e w'' => e = .returned (.bool (treeB l now)) ∧ Below w'.heap.size w' w'') := (fun w' hb => sTree_any a len cap l now hm hf w' (hi.below hb))
  have hll := hi.1
  cases ht : treeB l now
  · have HE : Hid (ptO l now n = ⟨#[]⟩) := (by show _ = _; simp [ptO, ht])
    rw [ht] at HT
    clear hi hf hll
    have HB : Hid (Below w.heap.size w (w.alloc (.cells #[.slice a len cap, .int .i64 now] 29))) := bel_alloc _ _
    have HX : Hid (BoxR (w.alloc (.cells #[.slice a len cap, .int .i64 now] 29)) w.heap.size [.slice a len cap, .int .i64 now]) := boxR_new _ _ _
    go_enter Try.func20, Try.ntmps20
    go_upto_region 1 with fail
    generalize (w.alloc (.cells #[.slice a len cap, .int .i64 now] 29)) = w0 at HB HX ⊢
    obtain ⟨X, hX⟩ : ∃ X, X = w.heap.size := ⟨_, rfl⟩
    rw [← hX] at HX ⊢
    clear hX
    have t0 : w0.cell? ⟨X, 0, none⟩ = some (.slice a len cap) := HX.out.at0 0 _ rfl
    have t1 : w0.cell? ⟨X, 1, none⟩ = some (.int .i64 now) := HX.out.at0 1 _ rfl
    go_wp2_with (go_at_call 25; refine (HT.out _ HB.out).mono ?_; rintro e w1 ⟨rfl, hb⟩; replace HB : Hid (Below w.heap.size w w1) := Below.on HB.out hb; replace HX : Hid (BoxR w1 X [.slice a len cap, .int .i64 now]) := HX.out.below hb; clear hb; replace t0 : w1.cell? ⟨X, 0, none⟩ = some (.slice a len cap) := HX.out.at0 0 _ rfl; replace t1 : w1.cell? ⟨X, 1, none⟩ = some (.int .i64 now) := HX.out.at0 1 _ rfl)
    go_ret
    exact ⟨by (first | (rw [HE.out]; rfl) | rw [HE.out]), HB.out⟩
  have hlen : len ≤ 12 := by rw [← hll]; exact tree_len ht
  have HC : Hid (∀ w', Below w.heap.size w w' → Calls Try.prog 44 #[.agg #[.slice a len cap, .int .i64 now], .int .i64 n] w' fun e w'' => e = .returned (.bool (diB l n)) ∧ Below w'.heap.size w' w'') := (fun w' hb => sIsDir_any a len cap l now n (by omega) w' (hi.below hb))
  rw [ht] at HT
  cases hd : diB l n
  · have HE : Hid (ptO l now n = ⟨#[]⟩) := (by show _ = _; simp [ptO, ht, hd])
    rw [hd] at HC
    clear hi hf hll ht
    have HB : Hid (Below w.heap.size w (w.alloc (.cells #[.slice a len cap, .int .i64 now] 29))) := bel_alloc _ _
    have HX : Hid (BoxR (w.alloc (.cells #[.slice a len cap, .int .i64 now] 29)) w.heap.size [.slice a len cap, .int .i64 now]) := boxR_new _ _ _
    go_enter Try.func20, Try.ntmps20
    go_upto_region 1 with fail
    generalize (w.alloc (.cells #[.slice a len cap, .int .i64 now] 29)) = w0 at HB HX ⊢
    obtain ⟨X, hX⟩ : ∃ X, X = w.heap.size := ⟨_, rfl⟩
    rw [← hX] at HX ⊢
    clear hX
    have t0 : w0.cell? ⟨X, 0, none⟩ = some (.slice a len cap) := HX.out.at0 0 _ rfl
    have t1 : w0.cell? ⟨X, 1, none⟩ = some (.int .i64 now) := HX.out.at0 1 _ rfl
    go_wp2_with (first
      | (go_at_call 25; refine (HT.out _ HB.out).mono ?_; rintro e w1 ⟨rfl, hb⟩; replace HB : Hid (Below w.heap.size w w1) := Below.on HB.out hb; replace HX : Hid (BoxR w1 X [.slice a len cap, .int .i64 now]) := HX.out.below hb; clear hb; replace t0 : w1.cell? ⟨X, 0, none⟩ = some (.slice a len cap) := HX.out.at0 0 _ rfl; replace t1 : w1.cell? ⟨X, 1, none⟩ = some (.int .i64 now) := HX.out.at0 1 _ rfl)
      | (go_at_call 44; refine (HC.out _ HB.out).mono ?_; rintro e w1 ⟨rfl, hb⟩; replace HB : Hid (Below w.heap.size w w1) := Below.on HB.out hb; replace HX : Hid (BoxR w1 X [.slice a len cap, .int .i64 now]) := HX.out.below hb; clear hb; replace t0 : w1.cell? ⟨X, 0, none⟩ = some (.slice a len cap) := HX.out.at0 0 _ rfl; replace t1 : w1.cell? ⟨X, 1, none⟩ = some (.int .i64 now) := HX.out.at0 1 _ rfl))
    go_ret
    exact ⟨by (first | (rw [HE.out]; rfl) | rw [HE.out]), HB.out⟩
  · have HP : Hid (PtI l (ptG l 13 n ⟨#[]⟩) 13 n ⟨#[]⟩) := pt_start ht hd
    have HE : Hid (ptO l now n = orP (ptG l 13 n ⟨#[]⟩)) := (by show _ = _; simp [ptO, ht, hd])
    obtain ⟨b, off, Y, rfl, hb0, hc⟩ := hi.2 (by rw [← hll]; exact tree_one ht)
    have HN : Hid (∀ i, i < len → N24 w b (off + i * 24) (ndAt l i) (Y i) ∧ NdIn w (ndAt l i) (Y i)) := hc
    have HF : Hid (∀ i, i < len → NdFit 1048576 (ndAt l i)) := hf
    have HTr : Hid (treeB l now = true) := ht
    have HL : Hid (l.length = len) := hll
    rw [hd] at HC
    generalize ptG l 13 n ⟨#[]⟩ = r at HP HE
    clear hi hf hll ht hd hc
    have HB : Hid (Below w.heap.size w (w.alloc (.cells #[.slice (some ⟨b, off, none⟩) len cap, .int .i64 now] 29))) := bel_alloc _ _
    have HX : Hid (BoxR (w.alloc (.cells #[.slice (some ⟨b, off, none⟩) len cap, .int .i64 now] 29)) w.heap.size [.slice (some ⟨b, off, none⟩) len cap, .int .i64 now]) := boxR_new _ _ _
    go_enter Try.func20, Try.ntmps20
    go_upto_region 1 with fail
    generalize (w.alloc (.cells #[.slice (some ⟨b, off, none⟩) len cap, .int .i64 now] 29)) = w0 at HB HX ⊢
    obtain ⟨X, hX⟩ : ∃ X, X = w.heap.size := ⟨_, rfl⟩
    rw [← hX] at HX ⊢
    clear hX
    have t0 : w0.cell? ⟨X, 0, none⟩ = some (.slice (some ⟨b, off, none⟩) len cap) := HX.out.at0 0 _ rfl
    have t1 : w0.cell? ⟨X, 1, none⟩ = some (.int .i64 now) := HX.out.at0 1 _ rfl
    go_wp2_with (first
      | (go_at_call 25; refine (HT.out _ HB.out).mono ?_; rintro e w1 ⟨rfl, hb⟩; replace HB : Hid (Below w.heap.size w w1) := Below.on HB.out hb; replace HX : Hid (BoxR w1 X [.slice (some ⟨b, off, none⟩) len cap, .int .i64 now]) := HX.out.below hb; clear hb; replace t0 : w1.cell? ⟨X, 0, none⟩ = some (.slice (some ⟨b, off, none⟩) len cap) := HX.out.at0 0 _ rfl; replace t1 : w1.cell? ⟨X, 1, none⟩ = some (.int .i64 now) := HX.out.at0 1 _ rfl)
      | (go_at_call 44; refine (HC.out _ HB.out).mono ?_; rintro e w1 ⟨rfl, hb⟩; replace HB : Hid (Below w.heap.size w w1) := Below.on HB.out hb; replace HX : Hid (BoxR w1 X [.slice (some ⟨b, off, none⟩) len cap, .int .i64 now]) := HX.out.below hb; clear hb; replace t0 : w1.cell? ⟨X, 0, none⟩ = some (.slice (some ⟨b, off, none⟩) len cap) := HX.out.at0 0 _ rfl; replace t1 : w1.cell? ⟨X, 1, none⟩ = some (.int .i64 now) := HX.out.at0 1 _ rfl))
    clear t0 t1
    go_loopw [1, 5] (fun i v wr => ∃ (f : Nat) (m : Int) (p : ByteArray), i = .int .i64 m ∧ v = .string p ∧ Hid (PtI l r f m p) ∧ Hid (Below w.heap.size w wr) ∧ Hid (BoxR wr X [.slice (some ⟨b, off, none⟩) len cap, .int .i64 now])) (fun _ v _ => 170 - stLen v)
    case atStart => exact ⟨13, n, ⟨#[]⟩, rfl, rfl, HP, HB, HX⟩
    case round =>
      obtain ⟨f, m, p, rfl, rfl, hP, hB, hX⟩ := hrel
      have t0 : wr.cell? ⟨X, 0, none⟩ = some (.slice (some ⟨b, off, none⟩) len cap) := hX.out.at0 0 _ rfl
      by_cases h1 : m = 1
      · subst h1
        have hr : Hid (r = p) := pt_end hP.out
        cases e : (p.toList == [])
        · have HEnd : Hid (ptO l now n = p) := (by show _ = _; rw [HE.out, hr.out, orP, e]; rfl)
          clear hP hr HE
          go_wp2
          go_ret
          exact ⟨by (first | (rw [HEnd.out]; rfl) | rw [HEnd.out]), hB.out⟩
        · have HEnd : Hid (ptO l now n = ⟨#[47]⟩) := (by show _ = _; rw [HE.out, hr.out, orP, e]; rfl)
          clear hP hr HE
          go_wp2
          go_ret
          exact ⟨by (first | (rw [HEnd.out]; rfl) | rw [HEnd.out]), hB.out⟩
      · have h1b : (m == 1) = false := by simp [h1]
        obtain ⟨g, k, j, rfl, rfl, hk, hj, hjl, _, hsz, hP2⟩ := pt_next HTr.out hP.out h1
        have HP2 : Hid (PtI l r g ((j : Int) + 1) (⟨#[47]⟩ ++ nfT (ndAt l j).ns ((k : Int) + 1) (ndAt l j).ns.length ++ p)) := hP2
        have hps := pt_size hP.out
        have hk2 : k < len := by have := HL.out; omega
        have hj2 : j < len := by have := HL.out; omega
        have hk3 : (k : Int) < (len : Int) := by omega
        have hk4 : (0 : Int) ≤ (k : Int) := by omega
        have hj3 : (j : Int) < (len : Int) := by omega
        have hj4 : (0 : Int) ≤ (j : Int) := by omega
        have c20 := N24.c20 (range_below (HN.out k hk2).1 hb0 hB.out)
        rw [hj] at c20
        have c22 := N24.c22 (range_below (HN.out j hj2).1 hb0 hB.out)
        have HCn : Hid (Calls Try.prog 45 #[.slice (Y j).nA (ndAt l j).ns.length (Y j).nC, .int .i64 ((k : Int) + 1)] wr fun e w' => e = .returned (.string (nfT (ndAt l j).ns ((k : Int) + 1) (ndAt l j).ns.length)) ∧ w' = wr) := sName_any _ _ _ _ ((HF.out j hj2).nl) wr ((HN.out j hj2).2.nA.below hB.out)
        generalize nfT (ndAt l j).ns ((k : Int) + 1) (ndAt l j).ns.length = nm at HCn HP2 hsz
        generalize (Y j).nA = nA at c22 HCn
        generalize (Y j).nC = nC at c22 HCn
        generalize (ndAt l j).ns.length = nl at c22 HCn
        clear hP hP2 hj hjl hk h1
        go_wp2_with (go_at_call 45; refine (HCn.out).mono ?_; rintro e w1 ⟨rfl, hw⟩; have hw2 := hw.symm; clear hw; subst hw2)
        go_roundw
        case rel => exact ⟨g, (j : Int) + 1, _, rfl, rfl, HP2, hB, hX⟩
        case measure => exact st_less _ _ hps
end Go.Proofs.Ytcgkkeooigjbbaa
