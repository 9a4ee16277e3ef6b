/- A list in order read of bytes by the program: readAces, NfsFrom. -/
import Derived.Test.YtddkmlkfphmdoabIRa
namespace Go.Proofs.Ytddkmlkfphmdoab
open Go.RowKit Go.PlainAid Go.Deep
set_option linter.unusedVariables false
theorem infoAceF : (Try.prog.info? 38).map (fun i => (i.zero, i.size, i.bytes)) = some (some (.agg #[.bool false, .int .i64 0, .int .i64 0, .int .i64 0, .int .i64 0]), 5, 40) := by kernel_rfl
/-- What readAces ends in. -/
def AcsB (s : ByteArray) (w : World) (e : Ending) (w' : World) : Prop := Below w.heap.size w w' ∧ ((rdNb s = none ∧ ∃ v, e = .returned (.tuple #[v, .bool false])) ∨ ∃ l v, rdNb s = some l ∧ e = .returned (.tuple #[v, .bool true]) ∧ w'.ownsRow w.heap.size 38 5 v l.length (pcA l))
/-- Read on behind some aces. -/
def On (s : ByteArray) (n p : Nat) (acc : List Ac) : Option (List Ac × Nat) := (rdAcs s n p).map (fun q => (acc ++ q.1, q.2))
theorem on_none {s : ByteArray} {n p : Nat} {acc : List Ac} (h : rdAc s p = none) : On s (n + 1) p acc = none := by
  unfold On
  rw [rdAcs, h]
  rfl
theorem on_some {s : ByteArray} {n p q : Nat} {x : Ac} {acc : List Ac} (h : rdAc s p = some (x, q)) : On s (n + 1) p acc = On s n q (acc ++ [x]) := by
  unfold On
  rw [rdAcs, h]
  simp only []
  cases h2 : rdAcs s n q with
  | none => rfl
  | some r => simp
theorem on_zero (s : ByteArray) (p : Nat) (acc : List Ac) : On s 0 p acc = some (acc, p) := by
  unfold On
  rw [rdAcs]
  simp
set_option maxRecDepth 100000 in
set_option maxHeartbeats 4000000 in
/-- impl.readAces. -/
theorem iReadAces_any (s : ByteArray) (hs : s.size ≤ 8000) (w : World) :
    Calls Try.prog 14 #[.string s] w (AcsB s w) := by
  cases h0 : rd1 s 0 with
  | none =>
    obtain ⟨c, hc⟩ := readNum_none hs (p := 0) (by omega) h0
    have HC : Hid (∀ w, Calls Try.prog 26 #[.string s, .int .i64 0] w fun e w' => e = .returned (.tuple #[.int .i64 0, .int .i64 0, .iface 67 (.agg #[.int .i64 c])]) ∧ w' = w) := hc
    have HN : Hid (rdNb s = none) := (by show _ = _; unfold rdNb; rw [h0])
    clear hc h0
    go_enter Try.func14, Try.ntmps14
    go_wp2_with fail
    refine (HC.out _).mono ?_
    rintro e w1 ⟨rfl, rfl⟩
    go_wp2
    go_ret2
    exact ⟨Below.refl _ _, .inl ⟨HN.out, _, rfl⟩⟩
  | some r =>
    obtain ⟨cnt, p0⟩ := r
    have HC : Hid (∀ w, Calls Try.prog 26 #[.string s, .int .i64 0] w fun e w' => e = .returned (.tuple #[.int .i64 cnt, .int .i64 (p0 : Int), .nilIface]) ∧ w' = w) := readNum_some hs (p := 0) (by omega) h0
    have hp0 := rd1_le h0
    by_cases hneg : cnt < 0
    · have HN : Hid (rdNb s = none) := (by show _ = _; unfold rdNb; rw [h0]; simp only []; rw [if_pos (.inl hneg)])
      clear h0 hp0
      go_enter Try.func14, Try.ntmps14
      go_wp2_with fail
      refine (HC.out _).mono ?_
      rintro e w1 ⟨rfl, rfl⟩
      go_wp2
      go_ret2
      exact ⟨Below.refl _ _, .inl ⟨HN.out, _, rfl⟩⟩
    by_cases hbig : 32 < cnt
    · have HN : Hid (rdNb s = none) := (by show _ = _; unfold rdNb; rw [h0]; simp only []; rw [if_pos (.inr hbig)])
      clear h0 hp0
      go_enter Try.func14, Try.ntmps14
      go_wp2_with fail
      refine (HC.out _).mono ?_
      rintro e w1 ⟨rfl, rfl⟩
      go_wp2
      go_ret2
      exact ⟨Below.refl _ _, .inl ⟨HN.out, _, rfl⟩⟩
    obtain ⟨n, rfl⟩ := Int.eq_ofNat_of_zero_le (by omega : 0 ≤ cnt)
    have hn32 : n ≤ 32 := by omega
    have HT : Hid (rdNb s = match On s n p0 [] with | none => none | some (l, q) => if q = s.size then some l else none) := (by
      show _ = _
      unfold rdNb On
      rw [h0]
      simp only [Int.toNat_natCast]
      rw [if_neg (by omega)]
      cases rdAcs s n p0 with
      | none => rfl
      | some r => simp)
    generalize hTOT : On s n p0 [] = TOT at HT
    have HTOT : Hid (On s (n - 0) p0 [] = TOT) := (by show _ = _; rw [Nat.sub_zero]; exact hTOT)
    have HA : Hid (∀ p w, p ≤ s.size → Calls Try.prog 27 #[.string s, .int .i64 (p : Int)] w (AceB s p w)) := (fun p w hp => iReadAB_any s hs p (by omega) w)
    clear h0 hneg hbig hTOT
    go_enter Try.func14, Try.ntmps14
    go_wp2_with fail
    refine (HC.out _).mono ?_
    rintro e w1 ⟨rfl, rfl⟩
    go_wp2
    go_loopw [5, 7, 28] (fun at_ v i wr => ∃ (k p : Nat) (acc : List Ac), k ≤ n ∧ p ≤ s.size ∧ acc.length = k ∧ i = .int .i64 k ∧ at_ = .int .i64 (p : Int) ∧ Hid (On s (n - k) p acc = TOT) ∧ Hid (wr.ownsRow w1.heap.size 38 5 v acc.length (pcA acc)) ∧ Hid (Below w1.heap.size w1 wr)) (fun _ _ i _ => n - (intOf i).toNat)
    case atStart => exact ⟨0, p0, [], Nat.zero_le _, hp0, rfl, rfl, rfl, HTOT, World.ownsRow_nil _ _ _ _, Below.refl _ _⟩
    case round =>
      obtain ⟨k, p, acc, hk, hp, hal, rfl, rfl, hOn, hOw, hB⟩ := hrel
      by_cases hlt : k < n
      · have hlt' : (k : Int) < (n : Int) := by omega
        have hRA : Hid (Calls Try.prog 27 #[.string s, .int .i64 (p : Int)] wr (AceB s p wr)) := HA.out p wr hp
        have hsub : Hid (n - k = (n - (k + 1)) + 1) := (show _ = _ by omega)
        go_wp2_with fail
        refine hRA.out.mono ?_
        rintro e wa ⟨hba, ⟨hno, x, q, rfl⟩ | ⟨x, q, hx, hq, rfl⟩⟩
        · have HN : Hid (rdNb s = none) := (by
            show _ = _
            rw [HT.out, ← hOn.out, hsub.out, on_none hno])
          have hW : Hid (Below w1.heap.size w1 wa) := Below.on hB.out hba
          clear hba hRA hOn hOw hno
          go_wp2
          go_ret2
          exact ⟨Below.onA hW.out, .inl ⟨HN.out, _, rfl⟩⟩
        · have hOn2 : Hid (On s (n - (k + 1)) q (acc ++ [x]) = TOT) := (by
            show _ = _
            rw [← hOn.out, hsub.out, on_some hx])
          have hBA : Hid (Below w1.heap.size w1 (wa.alloc (.cells #[.bool x.al, .int .i64 x.wh, .int .i64 x.id, .int .i64 x.fl, .int .i64 x.ma] 38))) := Below.onA (Below.on hB.out hba)
          have hOA : Hid ((wa.alloc (.cells #[.bool x.al, .int .i64 x.wh, .int .i64 x.id, .int .i64 x.fl, .int .i64 x.ma] 38)).ownsRow w1.heap.size 38 5 u7 acc.length (pcA acc)) := rowA_below (rowA_below hOw.out hba) (bel_alloc _ _)
          have hF : Hid (Five (wa.alloc (.cells #[.bool x.al, .int .i64 x.wh, .int .i64 x.id, .int .i64 x.fl, .int .i64 x.ma] 38)) wa.heap.size 0 x) := five_new wa x _
          clear hba hOw hB hRA hx hOn
          go_upto_region 10 with fail
          generalize wa.alloc (.cells #[.bool x.al, .int .i64 x.wh, .int .i64 x.id, .int .i64 x.fl, .int .i64 x.ma] 38) = wb at hBA hOA hF ⊢
          generalize wa.heap.size = X at hF ⊢
          obtain ⟨c0, c1, c2, c3, c4⟩ := hF.out
          simp only [Nat.zero_add] at c0 c1 c2 c3 c4
          obtain ⟨v2, w2, hrr, hO2, hB2⟩ := append_one (P := Try.prog) w1 wb 22 22 38 Try.underlying22 infoAceF u7 acc hOA.out hBA.out x (by omega)
          have HO2 : Hid _ := hO2
          have HB2 : Hid (Below w1.heap.size w1 w2) := hB2
          clear hO2 hB2 hBA hOA
          go_wp2_with (at_builtin; refine wpList_append_runA _ rfl (.tmp 39) (.tmp 41) 22 22 rfl _ _ _ _ rfl rfl hrr ?_)
          go_roundw
          case rel => exact ⟨k + 1, q, acc ++ [x], by omega, hq, by simp [hal], by go_num, rfl, hOn2, HO2, HB2⟩
          case measure => simp [intOf]; omega
      · have hke : k = n := by omega
        subst hke
        have hend : Hid (rdNb s = if p = s.size then some acc else none) := (by
          show _ = _
          rw [HT.out, ← hOn.out, Nat.sub_self, on_zero])
        by_cases hps : p = s.size
        · have g1 : ((p : Int) == (s.size : Int)) = true := by rw [hps]; simp
          have hend2 : Hid (rdNb s = some acc) := (by show _ = _; rw [hend.out, if_pos hps])
          clear hps hend
          go_wp2
          go_ret2
          exact ⟨hB.out, .inr ⟨acc, _, hend2.out, rfl, hOw.out⟩⟩
        · have g1 : ((p : Int) == (s.size : Int)) = false := beq_eq_false_iff_ne.2 (by omega)
          have hend2 : Hid (rdNb s = none) := (by show _ = _; rw [hend.out, if_neg hps])
          clear hps hend
          go_wp2
          go_ret2
          exact ⟨hB.out, .inl ⟨hend2.out, _, rfl⟩⟩
end Go.Proofs.Ytddkmlkfphmdoab
