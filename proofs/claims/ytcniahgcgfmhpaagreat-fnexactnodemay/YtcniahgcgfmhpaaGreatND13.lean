/- Laid together: TrI3, TrI4. -/
import Derived.Test.YtcniahgcgfmhpaaGreatND11
import Derived.Test.YtcniahgcgfmhpaaGreatND12
import Derived.Lib.QuietBelow
/- The program's namesRight. -/
namespace Go.Proofs.YtcniahgcgfmhpaaGreat
open Go.RowKit Go.PlainAid Go.Deep
set_option linter.unusedVariables false
theorem less_tot : ∀ a b : List UInt8, (Op.bytesLess a b || a == b) = !Op.bytesLess b a
  | [], [] => rfl
  | [], _ :: _ => rfl
  | _ :: _, [] => rfl
  | a :: x, b :: y => by
    have ih := less_tot x y
    simp only [Op.bytesLess]
    by_cases h1 : a < b
    · have h2 : ¬ b < a := UInt8.lt_asymm h1
      have h3 : ¬ b = a := fun e => by subst e; exact UInt8.lt_irrefl _ h1
      simp [h1, h2, h3]
    · by_cases h2 : b < a
      · have h3 : ¬ a = b := fun e => by subst e; exact UInt8.lt_irrefl _ h2
        simp [h1, h2, h3]
      · have h3 : a = b := by
          apply UInt8.toNat_inj.1
          rw [UInt8.lt_iff_toNat_lt] at h1 h2
          omega
        subst h3
        simp [h1]
        simpa using ih
theorem binOp_leqS (t : TypeId) (a b : ByteArray) : binOp .leq t (.string a) (.string b) = pure (.bool !(Op.bytesLess b.toList a.toList)) := by
  rw [← less_tot]
  simp [binOp, Op.stringOp]
attribute [local go_sem high] binOp_leqS
set_option maxRecDepth 20000 in
set_option maxHeartbeats 16000000 in
theorem iNames_any (a : Option Addr) (len cap : Nat) (l : List Nd) (now : Int) (nA : Option Addr) (nC : Nat) (ns : List (ByteArray × Int)) (hl : len ≤ 1048576) (hnl : ns.length ≤ 1048576) (hnm : ∀ i, i < ns.length → (nmAt ns i).size ≤ 1048576) (w : World) (hi : Nds a len l w) (hn : Ens nA ns.length ns w) :
    Calls Tryz.prog 114 #[.agg #[.slice a len cap, .int .i64 now], .slice nA ns.length nC] w fun e w' => e = .returned (.bool (nsB l ns)) ∧ Below w.heap.size w w' := by
  have HI : Hid (Nds a len l w) := hi
  have HN : Hid (Ens nA ns.length ns w) := hn
  have HM : Hid (∀ i, i < ns.length → (nmAt ns i).size ≤ 1048576) := hnm
  clear hi hn hnm
  by_cases h6 : 6 < ns.length
  · have hno : Hid (nsB l ns = false) := nsB_long h6
    have h6' : (6 : Int) < (ns.length : Int) := by omega
    have HB : Hid (Below w.heap.size w (w.alloc (.cells #[.slice a len cap, .int .i64 now] 33))) := bel_alloc _ _
    have HX : Hid (BoxR (w.alloc (.cells #[.slice a len cap, .int .i64 now] 33)) w.heap.size [.slice a len cap, .int .i64 now]) := boxR_new _ _ _
    go_enter Tryz.func114, Tryz.ntmps114
    go_upto_region 1 with fail
    generalize (w.alloc (.cells #[.slice a len cap, .int .i64 now] 33)) = w0 at HB HX ⊢
    obtain ⟨X, hX⟩ : ∃ X, X = w.heap.size := ⟨_, rfl⟩
    rw [← hX] at HX ⊢
    clear hX
    have t0 : w0.cell? ⟨X, 0, none⟩ = some (.slice a len cap) := HX.out.at0 0 _ rfl
    have t1 : w0.cell? ⟨X, 1, none⟩ = some (.int .i64 now) := HX.out.at0 1 _ rfl
    go_wp2
    go_ret
    exact ⟨ret_boolW hno.out.symm, HB.out⟩
  have h6' : ¬ (6 : Int) < (ns.length : Int) := by omega
  have HB : Hid (Below w.heap.size w (w.alloc (.cells #[.slice a len cap, .int .i64 now] 33))) := bel_alloc _ _
  have HX : Hid (BoxR (w.alloc (.cells #[.slice a len cap, .int .i64 now] 33)) w.heap.size [.slice a len cap, .int .i64 now]) := boxR_new _ _ _
  go_enter Tryz.func114, Tryz.ntmps114
  go_upto_region 1 with fail
  generalize (w.alloc (.cells #[.slice a len cap, .int .i64 now] 33)) = w0 at HB HX ⊢
  obtain ⟨X, hX⟩ : ∃ X, X = w.heap.size := ⟨_, rfl⟩
  rw [← hX] at HX ⊢
  clear hX
  have t0 : w0.cell? ⟨X, 0, none⟩ = some (.slice a len cap) := HX.out.at0 0 _ rfl
  have t1 : w0.cell? ⟨X, 1, none⟩ = some (.int .i64 now) := HX.out.at0 1 _ rfl
  clear t0 t1
  go_wp2
  go_loopw [12] (fun i wr => ∃ (k : Nat), k ≤ ns.length ∧ i = .int .i64 k ∧ Hid (nsT l ns k = true) ∧ Hid (Below w.heap.size w wr) ∧ Hid (BoxR wr X [.slice a len cap, .int .i64 now])) (fun i _ => ns.length - (intOf i).toNat)
  case atStart => exact ⟨0, Nat.zero_le _, rfl, rfl, HB, HX⟩
  case round =>
    obtain ⟨k, hk, rfl, hto, hB, hX⟩ := hrel
    by_cases hlt : k < ns.length
    · obtain ⟨b, off, rfl, hb0, hc⟩ := (HN.out.below hB.out).2 (by omega)
      have hlt' : (k : Int) < (ns.length : Int) := by omega
      have hk0 : (0 : Int) ≤ (k : Int) := by omega
      have g0 := (hc k hlt).1
      have g1 := (hc k hlt).2
      have hsz := HM.out k hlt
      have HO : Hid (okE l ns k = (entB (nmAt ns k) && ((k == 0 || Op.bytesLess (nmAt ns (k - 1)).toList (nmAt ns k).toList) && (thB l (noAt ns k) && noAt ns k != 1)))) := rfl
      have HP : Hid (∀ m, k = m + 1 → wr.cell? ⟨b, off + m * 2, none⟩ = some (.string (nmAt ns m))) := (fun m e => (hc m (by omega)).1)
      have HT : Hid (∀ w', Below w.heap.size w w' → Calls Tryz.prog 29 #[.agg #[.slice a len cap, .int .i64 now], .int .i64 (noAt ns k)] w' fun e w'' => e = .returned (.bool (thB l (noAt ns k))) ∧ Below w'.heap.size w' w'') := (fun w' hb => iThere_any a len cap l now _ hl w' (HI.out.below hb))
      clear hc
      obtain ⟨nm, hnm⟩ : ∃ nm, nm = nmAt ns k := ⟨_, rfl⟩
      rw [← hnm] at g0 hsz HO
      clear hnm
      generalize noAt ns k = v at g1 HO HT
      have hbN : Below wr.heap.size wr (wr.alloc (.cells #[.string nm, .int .i64 v] 87)) := bel_alloc _ _
      have HBn : Hid (Below w.heap.size w (wr.alloc (.cells #[.string nm, .int .i64 v] 87))) := Below.on hB.out hbN
      have HXn : Hid (BoxR (wr.alloc (.cells #[.string nm, .int .i64 v] 87)) X [.slice a len cap, .int .i64 now]) := hX.out.below hbN
      have HZn : Hid (BoxR (wr.alloc (.cells #[.string nm, .int .i64 v] 87)) wr.heap.size [.string nm, .int .i64 v]) := boxR_new _ _ _
      have HPn : Hid (∀ m, k = m + 1 → (wr.alloc (.cells #[.string nm, .int .i64 v] 87)).cell? ⟨b, off + m * 2, none⟩ = some (.string (nmAt ns m))) := (fun m e => (hbN.cell (p := ⟨b, off + m * 2, none⟩) hb0).trans (HP.out m e))
      clear HP hbN hX
      go_upto_region 6 with fail
      generalize (wr.alloc (.cells #[.string nm, .int .i64 v] 87)) = wn at HBn HXn HZn HPn ⊢
      generalize wr.heap.size = Z at HZn ⊢
      clear g0 g1
      have z0 : ∀ d os, (Go.Sort.grow (redrawn wn d) os).cell? ⟨Z, 0, none⟩ = some (.string nm) := fun d os => cell_regrown (HZn.out.at0 0 _ rfl) d os
      have z1 : ∀ d os, (Go.Sort.grow (redrawn wn d) os).cell? ⟨Z, 1, none⟩ = some (.int .i64 v) := fun d os => cell_regrown (HZn.out.at0 1 _ rfl) d os
      have cE : ∀ d os, Calls Tryz.prog 127 #[.string nm] (Go.Sort.grow (redrawn wn d) os) fun e w'' => e = .returned (.bool (entB nm)) ∧ ∃ p : Regrown, w'' = Go.Sort.grow (redrawn wn p.d) p.os := fun d os => (iEntry_any nm (by unfold maxLen; omega) _).mono (fun e w'' ⟨h1, h2⟩ => ⟨h1, ⟨d, os⟩, h2⟩)
      cases he : entB nm
      · have hno : Hid (nsB l ns = false) := nsB_no hlt (by rw [HO.out]; simp [he])
        rw [he] at cE
        clear HO HPn
        refine wp_region_quiet_below (by kernel_rfl) (by kernel_rfl) ?_
        repeat (go_big_quiet_step (first | exact cE _ _))
        refine wpQuiet_nil ?_
        intro _ hw'
        obtain ⟨⟨dq, osq⟩, hw''⟩ := hw'
        subst hw''
        have HB2 : Hid (Below w.heap.size w (Go.Sort.grow (redrawn wn dq) osq)) := HBn.out.trans ((below_regrown wn dq osq).mono HBn.out.size)
        have HX2 : Hid (BoxR (Go.Sort.grow (redrawn wn dq) osq) X [.slice a len cap, .int .i64 now]) := HXn.out.below (below_regrown wn dq osq)
        have HZ2 : Hid (BoxR (Go.Sort.grow (redrawn wn dq) osq) Z [.string nm, .int .i64 v]) := HZn.out.below (below_regrown wn dq osq)
        generalize Go.Sort.grow (redrawn wn dq) osq = w1 at HB2 HX2 HZ2 ⊢
        clear z0 z1  cE
        go_wp2
        go_ret
        exact ⟨ret_boolW hno.out.symm, HB2.out⟩
      rw [he] at cE HO
      clear he
      by_cases hk00 : k = 0
      · subst hk00
        clear HPn
        refine wp_region_quiet_below (by kernel_rfl) (by kernel_rfl) ?_
        repeat (go_big_quiet_step (first | exact cE _ _))
        refine wpQuiet_nil ?_
        intro _ hw'
        obtain ⟨⟨dq, osq⟩, hw''⟩ := hw'
        subst hw''
        have HB2 : Hid (Below w.heap.size w (Go.Sort.grow (redrawn wn dq) osq)) := HBn.out.trans ((below_regrown wn dq osq).mono HBn.out.size)
        have HX2 : Hid (BoxR (Go.Sort.grow (redrawn wn dq) osq) X [.slice a len cap, .int .i64 now]) := HXn.out.below (below_regrown wn dq osq)
        have HZ2 : Hid (BoxR (Go.Sort.grow (redrawn wn dq) osq) Z [.string nm, .int .i64 v]) := HZn.out.below (below_regrown wn dq osq)
        generalize Go.Sort.grow (redrawn wn dq) osq = w1 at HB2 HX2 HZ2 ⊢
        clear z0 z1  cE
        skip
        have z0 : w1.cell? ⟨Z, 0, none⟩ = some (.string nm) := HZ2.out.at0 0 _ rfl
        have z1 : w1.cell? ⟨Z, 1, none⟩ = some (.int .i64 v) := HZ2.out.at0 1 _ rfl
        have t0 : w1.cell? ⟨X, 0, none⟩ = some (.slice a len cap) := HX2.out.at0 0 _ rfl
        have t1 : w1.cell? ⟨X, 1, none⟩ = some (.int .i64 now) := HX2.out.at0 1 _ rfl
        by_cases e1 : v = 1
        · have hno : Hid (nsB l ns = false) := nsB_no hlt (by rw [HO.out]; simp [e1])
          have e2 : (v == 1) = true := by simp [e1]
          clear e1 HO
          go_wp2
          go_ret
          exact ⟨ret_boolW hno.out.symm, HB2.out⟩
        · have e2 : (v == 1) = false := by simp [e1]
          cases ht : thB l v
          · have hno : Hid (nsB l ns = false) := nsB_no hlt (by rw [HO.out]; simp [ht])
            rw [ht] at HT
            clear e1 HO
            go_wp2_with (go_at_call 29; refine (HT.out _ HB2.out).mono ?_; rintro e w3 ⟨rfl, hb⟩; have HB3 : Hid (Below w.heap.size w w3) := Below.on HB2.out hb; have HX3 : Hid (BoxR w3 X [.slice a len cap, .int .i64 now]) := HX2.out.below hb; clear hb)
            go_ret
            exact ⟨ret_boolW hno.out.symm, HB3.out⟩
          · have hyes : Hid (nsT l ns (0 + 1) = true) := nsT_next hto.out (by rw [HO.out]; simp [ht, e1])
            rw [ht] at HT
            clear e1 HO
            go_wp2_with (go_at_call 29; refine (HT.out _ HB2.out).mono ?_; rintro e w3 ⟨rfl, hb⟩; have HB3 : Hid (Below w.heap.size w w3) := Below.on HB2.out hb; have HX3 : Hid (BoxR w3 X [.slice a len cap, .int .i64 now]) := HX2.out.below hb; clear hb)
            go_roundw
            case rel => exact ⟨0 + 1, by omega, by go_num, hyes, HB3, HX3⟩
            case measure => simp [intOf]; omega
      · obtain ⟨m, rfl⟩ : ∃ m, k = m + 1 := ⟨k - 1, by omega⟩
        have p0 : ∀ d os, (Go.Sort.grow (redrawn wn d) os).cell? ⟨b, off + m * 2, none⟩ = some (.string (nmAt ns m)) := fun d os => cell_regrown (HPn.out m rfl) d os
        clear HPn
        have hm1 : (m : Int) < (ns.length : Int) := by omega
        have hm0 : (0 : Int) ≤ (m : Int) := by omega
        have hgt : (0 : Int) < (m : Int) + 1 := by omega
        have eM : m + 1 - 1 = m := by omega
        have eZ : (m + 1 == 0) = false := by simp
        rw [eM, eZ] at HO
        clear eM eZ hk00
        simp only [Int.natCast_add, Int.cast_ofNat_Int] at hlt' hk0
        generalize nmAt ns m = pm at p0 HO
        cases hless : Op.bytesLess pm.toList nm.toList
        · have hno : Hid (nsB l ns = false) := nsB_no hlt (by rw [HO.out]; simp [hless])
          clear HO
          refine wp_region_quiet_below (by kernel_rfl) (by kernel_rfl) ?_
          repeat (go_big_quiet_step (first | exact cE _ _))
          refine wpQuiet_nil ?_
          intro _ hw'
          obtain ⟨⟨dq, osq⟩, hw''⟩ := hw'
          subst hw''
          have HB2 : Hid (Below w.heap.size w (Go.Sort.grow (redrawn wn dq) osq)) := HBn.out.trans ((below_regrown wn dq osq).mono HBn.out.size)
          have HX2 : Hid (BoxR (Go.Sort.grow (redrawn wn dq) osq) X [.slice a len cap, .int .i64 now]) := HXn.out.below (below_regrown wn dq osq)
          have HZ2 : Hid (BoxR (Go.Sort.grow (redrawn wn dq) osq) Z [.string nm, .int .i64 v]) := HZn.out.below (below_regrown wn dq osq)
          generalize Go.Sort.grow (redrawn wn dq) osq = w1 at HB2 HX2 HZ2 ⊢
          clear z0 z1 p0 cE
          go_wp2
          go_ret
          exact ⟨ret_boolW hno.out.symm, HB2.out⟩
        · rw [hless] at HO
          refine wp_region_quiet_below (by kernel_rfl) (by kernel_rfl) ?_
          repeat (go_big_quiet_step (first | exact cE _ _))
          refine wpQuiet_nil ?_
          intro _ hw'
          obtain ⟨⟨dq, osq⟩, hw''⟩ := hw'
          subst hw''
          have HB2 : Hid (Below w.heap.size w (Go.Sort.grow (redrawn wn dq) osq)) := HBn.out.trans ((below_regrown wn dq osq).mono HBn.out.size)
          have HX2 : Hid (BoxR (Go.Sort.grow (redrawn wn dq) osq) X [.slice a len cap, .int .i64 now]) := HXn.out.below (below_regrown wn dq osq)
          have HZ2 : Hid (BoxR (Go.Sort.grow (redrawn wn dq) osq) Z [.string nm, .int .i64 v]) := HZn.out.below (below_regrown wn dq osq)
          generalize Go.Sort.grow (redrawn wn dq) osq = w1 at HB2 HX2 HZ2 ⊢
          clear z0 z1 p0 cE
          skip
          have z0 : w1.cell? ⟨Z, 0, none⟩ = some (.string nm) := HZ2.out.at0 0 _ rfl
          have z1 : w1.cell? ⟨Z, 1, none⟩ = some (.int .i64 v) := HZ2.out.at0 1 _ rfl
          have t0 : w1.cell? ⟨X, 0, none⟩ = some (.slice a len cap) := HX2.out.at0 0 _ rfl
          have t1 : w1.cell? ⟨X, 1, none⟩ = some (.int .i64 now) := HX2.out.at0 1 _ rfl
          by_cases e1 : v = 1
          · have hno : Hid (nsB l ns = false) := nsB_no hlt (by rw [HO.out]; simp [e1])
            have e2 : (v == 1) = true := by simp [e1]
            clear e1 HO
            go_wp2
            go_ret
            exact ⟨ret_boolW hno.out.symm, HB2.out⟩
          · have e2 : (v == 1) = false := by simp [e1]
            cases ht : thB l v
            · have hno : Hid (nsB l ns = false) := nsB_no hlt (by rw [HO.out]; simp [ht])
              rw [ht] at HT
              clear e1 HO
              go_wp2_with (go_at_call 29; refine (HT.out _ HB2.out).mono ?_; rintro e w3 ⟨rfl, hb⟩; have HB3 : Hid (Below w.heap.size w w3) := Below.on HB2.out hb; have HX3 : Hid (BoxR w3 X [.slice a len cap, .int .i64 now]) := HX2.out.below hb; clear hb)
              go_ret
              exact ⟨ret_boolW hno.out.symm, HB3.out⟩
            · have hyes : Hid (nsT l ns (m + 1 + 1) = true) := nsT_next hto.out (by rw [HO.out]; simp [ht, e1])
              rw [ht] at HT
              clear e1 HO
              go_wp2_with (go_at_call 29; refine (HT.out _ HB2.out).mono ?_; rintro e w3 ⟨rfl, hb⟩; have HB3 : Hid (Below w.heap.size w w3) := Below.on HB2.out hb; have HX3 : Hid (BoxR w3 X [.slice a len cap, .int .i64 now]) := HX2.out.below hb; clear hb)
              go_roundw
              case rel => exact ⟨m + 1 + 1, by omega, by go_num, hyes, HB3, HX3⟩
              case measure => simp [intOf]; omega
    · have : k = ns.length := by omega
      subst this
      have hyes : Hid (nsB l ns = true) := nsB_yes (by omega) hto.out
      go_wp2
      go_ret
      exact ⟨ret_boolW hyes.out.symm, hB.out⟩
end Go.Proofs.YtcniahgcgfmhpaaGreat
/- The program's isNamedByUp, directoryRight, isReached. -/
namespace Go.Proofs.YtcniahgcgfmhpaaGreat
open Go.RowKit Go.PlainAid
set_option linter.unusedVariables false
theorem DB.c19 {w : World} {B : Nat} {x : Nd} {y : Na} {n : Int} (h : BoxR w B (drV x y n)) : w.cell? ⟨B, 19, none⟩ = some (.int .i64 x.li) := h.at0 19 _ rfl
theorem DB.c20 {w : World} {B : Nat} {x : Nd} {y : Na} {n : Int} (h : BoxR w B (drV x y n)) : w.cell? ⟨B, 20, none⟩ = some (.int .i64 x.up) := h.at0 20 _ rfl
theorem DB.c21 {w : World} {B : Nat} {x : Nd} {y : Na} {n : Int} (h : BoxR w B (drV x y n)) : w.cell? ⟨B, 21, none⟩ = some (.string x.bo) := h.at0 21 _ rfl
theorem DB.c22 {w : World} {B : Nat} {x : Nd} {y : Na} {n : Int} (h : BoxR w B (drV x y n)) : w.cell? ⟨B, 22, none⟩ = some (.slice y.nA x.ns.length y.nC) := h.at0 22 _ rfl
theorem DB.c24 {w : World} {B : Nat} {x : Nd} {y : Na} {n : Int} (h : BoxR w B (drV x y n)) : w.cell? ⟨B, 24, none⟩ = some (.int .i64 n) := h.at0 24 _ rfl
theorem DB.nd {w : World} {B : Nat} {x : Nd} {y : Na} {n : Int} (h : BoxR w B (drV x y n)) : N24 w B 0 x y := dr_nd h.at0
theorem there25 (w : World) : (w.alloc (.cells #[.int .i64 0, .int .i64 0, .int .i64 0, .int .i64 0, .int .i64 0, .int .i64 0, .int .i64 0, .slice none 0 0, .slice none 0 0, .bool false, .int .i64 0, .bool false, .int .i64 0, .int .i64 0, .int .i64 0, .slice none 0 0, .slice none 0 0, .bool false, .int .i64 0, .int .i64 0, .int .i64 0, .string ⟨#[]⟩, .slice none 0 0, .int .i64 0, .int .i64 0] 106)).there w.heap.size 0 25 := (boxW_new w [.int .i64 0, .int .i64 0, .int .i64 0, .int .i64 0, .int .i64 0, .int .i64 0, .int .i64 0, .slice none 0 0, .slice none 0 0, .bool false, .int .i64 0, .bool false, .int .i64 0, .int .i64 0, .int .i64 0, .slice none 0 0, .slice none 0 0, .bool false, .int .i64 0, .int .i64 0, .int .i64 0, .string ⟨#[]⟩, .slice none 0 0, .int .i64 0, .int .i64 0] 106).there 0 25 (by simp)
set_option maxRecDepth 20000 in
set_option maxHeartbeats 8000000 in
/-- impl.isNamedByUp. -/
theorem iNamedUp_any (a : Option Addr) (len cap : Nat) (l : List Nd) (now : Int) (x : Nd) (y : Na) (n : Int) (hl : len ≤ 1048576) (hf : ∀ i, i < len → NdFit 1048576 (ndAt l i)) (w : World) (hi : Nds a len l w) :
    Calls Tryz.prog 115 #[.agg #[.slice a len cap, .int .i64 now], .agg (drV x y n).toArray] w fun e w' => e = .returned (.bool (diB l x.up && hasE (ndAt l (x.up - 1).toNat).ns n (ndAt l (x.up - 1).toNat).ns.length)) ∧ Below w.heap.size w w' := by
  have HI : Hid (Nds a len l w) := hi
  have HF : Hid (∀ i, i < len → NdFit 1048576 (ndAt l i)) := hf
  have hll := hi.1
  clear hi hf
  cases hd : diB l x.up
  · have HC : Hid (∀ w', Below w.heap.size w w' → Calls Tryz.prog 117 #[.agg #[.slice a len cap, .int .i64 now], .int .i64 x.up] w' fun e w'' => e = .returned (.tuple #[.agg (drV ndZ naZ 0).toArray, .bool false]) ∧ Below w'.heap.size w' w'') := (fun w' hb => iDirAt_no a len cap l now x.up hl w' (HI.out.below hb) hd)
    have HX : Hid (BoxR ((w.alloc (.cells #[.slice a len cap, .int .i64 now] 33)).alloc (.cells (drV x y n).toArray 106)) w.heap.size [.slice a len cap, .int .i64 now]) := (boxR_new w [.slice a len cap, .int .i64 now] 33).below (bel_alloc _ _)
    have HZ : Hid (BoxR ((w.alloc (.cells #[.slice a len cap, .int .i64 now] 33)).alloc (.cells (drV x y n).toArray 106)) (w.heap.size + 1) (drV x y n)) := (by
      have h := boxR_new (w.alloc (.cells #[.slice a len cap, .int .i64 now] 33)) (drV x y n) 106
      simp only [World.size_alloc] at h
      exact h)
    have HB : Hid (Below w.heap.size w ((w.alloc (.cells #[.slice a len cap, .int .i64 now] 33)).alloc (.cells (drV x y n).toArray 106))) := bl2T _ _ _
    go_enter Tryz.func115, Tryz.ntmps115
    go_upto_region 1 with fail
    generalize ((w.alloc (.cells #[.slice a len cap, .int .i64 now] 33)).alloc (.cells (drV x y n).toArray 106)) = w0 at HX HZ HB ⊢
    obtain ⟨X, hX⟩ : ∃ X, X = w.heap.size := ⟨_, rfl⟩
    have HXw : Hid (X = w.heap.size) := hX
    rw [← hX] at HX HZ ⊢
    clear hX
    have t0 : w0.cell? ⟨X, 0, none⟩ = some (.slice a len cap) := HX.out.at0 0 _ rfl
    have t1 : w0.cell? ⟨X, 1, none⟩ = some (.int .i64 now) := HX.out.at0 1 _ rfl
    have e20 := DB.c20 HZ.out
    go_wp2_with fail
    refine (HC.out _ HB.out).mono ?_
    rintro e w1 ⟨rfl, hb⟩
    replace HB : Hid (Below w.heap.size w w1) := Below.on HB.out hb
    replace HX : Hid (BoxR w1 X [.slice a len cap, .int .i64 now]) := HX.out.below hb
    replace HZ : Hid (BoxR w1 (X + 1) (drV x y n)) := HZ.out.below hb
    replace t0 : w1.cell? ⟨X, 0, none⟩ = some (.slice a len cap) := HX.out.at0 0 _ rfl
    replace t1 : w1.cell? ⟨X, 1, none⟩ = some (.int .i64 now) := HX.out.at0 1 _ rfl
    replace e20 := DB.c20 HZ.out
    clear hb
    go_upto_region 2 with (refine wpList_store_list (by rfl) 106 _ _ (by rfl) _ _ (drV ndZ naZ 0) (by rfl) (by rfl) (by rw [drV_len]; exact there25 _) (by kernel_rfl) (drV_ones _ _ _) ?_)
    go_wp2
    go_ret
    exact ⟨by simp, bl_setsT (by have := HB.out.size; omega) _ _ ((HB.out).trans ((bel_alloc _ _).mono HB.out.size))⟩
  · have hin := inR_iff.1 (thB_num (diB_th hd))
    obtain ⟨k, hk⟩ : ∃ k : Nat, x.up = (k : Int) + 1 := ⟨(x.up - 1).toNat, by omega⟩
    have HE : Hid ((true && hasE (ndAt l (x.up - 1).toNat).ns n (ndAt l (x.up - 1).toNat).ns.length) = decide (0 < cntE (ndAt l k).ns n (ndAt l k).ns.length)) := (by show _ = _; rw [hk, at_succ, hasE_cnt]; rfl)
    rw [hk] at hd
    have HC : Hid (∀ w', Below w.heap.size w w' → Calls Tryz.prog 117 #[.agg #[.slice a len cap, .int .i64 now], .int .i64 x.up] w' fun e w'' => ∃ yu, e = .returned (.tuple #[.agg (drV (ndAt l k) yu ((k : Int) + 1)).toArray, .bool true]) ∧ NdIn w'' (ndAt l k) yu ∧ Below w'.heap.size w' w'') := (fun w' hb => by rw [hk]; exact iDirAt_yes a len cap l now k hl w' (HI.out.below hb) hd)
    have HFk : Hid (NdFit 1048576 (ndAt l k)) := HF.out k (by omega)
    clear hin hk hd hll
    generalize (true && hasE (ndAt l (x.up - 1).toNat).ns n (ndAt l (x.up - 1).toNat).ns.length) = res at HE ⊢
    generalize ndAt l k = u at HE HC HFk
    generalize ((k : Int) + 1) = nu at HC
    have HX : Hid (BoxR ((w.alloc (.cells #[.slice a len cap, .int .i64 now] 33)).alloc (.cells (drV x y n).toArray 106)) w.heap.size [.slice a len cap, .int .i64 now]) := (boxR_new w [.slice a len cap, .int .i64 now] 33).below (bel_alloc _ _)
    have HZ : Hid (BoxR ((w.alloc (.cells #[.slice a len cap, .int .i64 now] 33)).alloc (.cells (drV x y n).toArray 106)) (w.heap.size + 1) (drV x y n)) := (by
      have h := boxR_new (w.alloc (.cells #[.slice a len cap, .int .i64 now] 33)) (drV x y n) 106
      simp only [World.size_alloc] at h
      exact h)
    have HB : Hid (Below w.heap.size w ((w.alloc (.cells #[.slice a len cap, .int .i64 now] 33)).alloc (.cells (drV x y n).toArray 106))) := bl2T _ _ _
    go_enter Tryz.func115, Tryz.ntmps115
    go_upto_region 1 with fail
    generalize ((w.alloc (.cells #[.slice a len cap, .int .i64 now] 33)).alloc (.cells (drV x y n).toArray 106)) = w0 at HX HZ HB ⊢
    obtain ⟨X, hX⟩ : ∃ X, X = w.heap.size := ⟨_, rfl⟩
    have HXw : Hid (X = w.heap.size) := hX
    rw [← hX] at HX HZ ⊢
    clear hX
    have t0 : w0.cell? ⟨X, 0, none⟩ = some (.slice a len cap) := HX.out.at0 0 _ rfl
    have t1 : w0.cell? ⟨X, 1, none⟩ = some (.int .i64 now) := HX.out.at0 1 _ rfl
    have e20 := DB.c20 HZ.out
    go_wp2_with fail
    refine (HC.out _ HB.out).mono ?_
    rintro e w1 ⟨yu, rfl, hNu, hb⟩
    replace HB : Hid (Below w.heap.size w w1) := Below.on HB.out hb
    replace HX : Hid (BoxR w1 X [.slice a len cap, .int .i64 now]) := HX.out.below hb
    replace HZ : Hid (BoxR w1 (X + 1) (drV x y n)) := HZ.out.below hb
    replace t0 : w1.cell? ⟨X, 0, none⟩ = some (.slice a len cap) := HX.out.at0 0 _ rfl
    replace t1 : w1.cell? ⟨X, 1, none⟩ = some (.int .i64 now) := HX.out.at0 1 _ rfl
    replace e20 := DB.c20 HZ.out
    have HNu : Hid (NdIn w1 u yu) := hNu
    clear hNu
    clear hb
    go_upto_region 2 with (refine wpList_store_list (by rfl) 106 _ _ (by rfl) _ _ (drV u yu nu) (by rfl) (by rfl) (by rw [drV_len]; exact there25 _) (by kernel_rfl) (drV_ones _ _ _) ?_)
    have hbN : Below w1.heap.size w1 ((w1.alloc (.cells #[.int .i64 0, .int .i64 0, .int .i64 0, .int .i64 0, .int .i64 0, .int .i64 0, .int .i64 0, .slice none 0 0, .slice none 0 0, .bool false, .int .i64 0, .bool false, .int .i64 0, .int .i64 0, .int .i64 0, .slice none 0 0, .slice none 0 0, .bool false, .int .i64 0, .int .i64 0, .int .i64 0, .string ⟨#[]⟩, .slice none 0 0, .int .i64 0, .int .i64 0] 106)).setCells w1.heap.size 0 (drV u yu nu)) := bl_setsT (Nat.le_refl _) _ _ (bel_alloc _ _)
    have HBn : Hid (Below w.heap.size w ((w1.alloc (.cells #[.int .i64 0, .int .i64 0, .int .i64 0, .int .i64 0, .int .i64 0, .int .i64 0, .int .i64 0, .slice none 0 0, .slice none 0 0, .bool false, .int .i64 0, .bool false, .int .i64 0, .int .i64 0, .int .i64 0, .slice none 0 0, .slice none 0 0, .bool false, .int .i64 0, .int .i64 0, .int .i64 0, .string ⟨#[]⟩, .slice none 0 0, .int .i64 0, .int .i64 0] 106)).setCells w1.heap.size 0 (drV u yu nu))) := Below.on HB.out hbN
    have HZn : Hid (BoxR ((w1.alloc (.cells #[.int .i64 0, .int .i64 0, .int .i64 0, .int .i64 0, .int .i64 0, .int .i64 0, .int .i64 0, .slice none 0 0, .slice none 0 0, .bool false, .int .i64 0, .bool false, .int .i64 0, .int .i64 0, .int .i64 0, .slice none 0 0, .slice none 0 0, .bool false, .int .i64 0, .int .i64 0, .int .i64 0, .string ⟨#[]⟩, .slice none 0 0, .int .i64 0, .int .i64 0] 106)).setCells w1.heap.size 0 (drV u yu nu)) (X + 1) (drV x y n)) := HZ.out.below hbN
    have HUn : Hid (BoxR ((w1.alloc (.cells #[.int .i64 0, .int .i64 0, .int .i64 0, .int .i64 0, .int .i64 0, .int .i64 0, .int .i64 0, .slice none 0 0, .slice none 0 0, .bool false, .int .i64 0, .bool false, .int .i64 0, .int .i64 0, .int .i64 0, .slice none 0 0, .slice none 0 0, .bool false, .int .i64 0, .int .i64 0, .int .i64 0, .string ⟨#[]⟩, .slice none 0 0, .int .i64 0, .int .i64 0] 106)).setCells w1.heap.size 0 (drV u yu nu)) w1.heap.size (drV u yu nu)) := ⟨by rw [size_setCellsT]; simp, World.rangeAt_setCells_same _ _ _ _ ((boxW_new w1 [.int .i64 0, .int .i64 0, .int .i64 0, .int .i64 0, .int .i64 0, .int .i64 0, .int .i64 0, .slice none 0 0, .slice none 0 0, .bool false, .int .i64 0, .bool false, .int .i64 0, .int .i64 0, .int .i64 0, .slice none 0 0, .slice none 0 0, .bool false, .int .i64 0, .int .i64 0, .int .i64 0, .string ⟨#[]⟩, .slice none 0 0, .int .i64 0, .int .i64 0] 106).there 0 25 (by simp))⟩
    have HNu2 : Hid (NdIn ((w1.alloc (.cells #[.int .i64 0, .int .i64 0, .int .i64 0, .int .i64 0, .int .i64 0, .int .i64 0, .int .i64 0, .slice none 0 0, .slice none 0 0, .bool false, .int .i64 0, .bool false, .int .i64 0, .int .i64 0, .int .i64 0, .slice none 0 0, .slice none 0 0, .bool false, .int .i64 0, .int .i64 0, .int .i64 0, .string ⟨#[]⟩, .slice none 0 0, .int .i64 0, .int .i64 0] 106)).setCells w1.heap.size 0 (drV u yu nu)) u yu) := HNu.out.below hbN
    clear hbN HNu HB HX HZ t0 t1 e20
    generalize ((w1.alloc (.cells #[.int .i64 0, .int .i64 0, .int .i64 0, .int .i64 0, .int .i64 0, .int .i64 0, .int .i64 0, .slice none 0 0, .slice none 0 0, .bool false, .int .i64 0, .bool false, .int .i64 0, .int .i64 0, .int .i64 0, .slice none 0 0, .slice none 0 0, .bool false, .int .i64 0, .int .i64 0, .int .i64 0, .string ⟨#[]⟩, .slice none 0 0, .int .i64 0, .int .i64 0] 106)).setCells w1.heap.size 0 (drV u yu nu)) = w2 at HBn HZn HUn HNu2 ⊢
    generalize w1.heap.size = U at HUn ⊢
    have e24 := DB.c24 HZn.out
    have HTm : Hid (Calls Tryz.prog 128 #[.agg (ndV u yu).toArray, .int .i64 n] w2 fun e w'' => e = .returned (.int .i64 (cntE u.ns n u.ns.length)) ∧ Below w2.heap.size w2 w'') := iTimes_any u yu n HFk.out.nl _ HNu2.out.nA
    go_wp2_with (first | (refine wpList_load_want (by rfl) 45 _ (by rfl) _ _ (by rfl) _ _ (DB.nd HUn.out) Tryz.underlying45 rfl (by kernel_rfl) ?_) | (go_at_call 128; refine (HTm.out).mono ?_; rintro e w3 ⟨rfl, hb⟩; have HB3 : Hid (Below w.heap.size w w3) := Below.on HBn.out hb; clear hb))
    go_ret
    exact ⟨ret_boolW (by rw [HE.out]), HB3.out⟩
set_option maxRecDepth 20000 in
set_option maxHeartbeats 8000000 in
/-- impl.directoryRight. -/
theorem iDirR_any (a : Option Addr) (len cap : Nat) (l : List Nd) (now : Int) (x : Nd) (y : Na) (n : Int) (hl : len ≤ 1048576) (hf : ∀ i, i < len → NdFit 1048576 (ndAt l i)) (hx : NdFit 1048576 x) (w : World) (hi : Nds a len l w) (hy : NdIn w x y) :
    Calls Tryz.prog 85 #[.agg #[.slice a len cap, .int .i64 now], .agg (drV x y n).toArray] w fun e w' => e = .returned (.bool (x.dirI l n)) ∧ Below w.heap.size w w' := by
  have HI : Hid (Nds a len l w) := hi
  have HF : Hid (∀ i, i < len → NdFit 1048576 (ndAt l i)) := hf
  have HK : Hid (NdFit 1048576 x) := hx
  have HM : Hid (NdIn w x y) := hy
  clear hi hf hx hy
  have HE : Hid (x.dirI l n = (x.li == 1 && (x.bo.toList.isEmpty && (x.dB && (nsB l x.ns && (n == 1 || (diB l x.up && hasE (ndAt l (x.up - 1).toNat).ns n (ndAt l (x.up - 1).toNat).ns.length))))))) := (by
    have hbe : (x.bo.toList == []) = x.bo.toList.isEmpty := by cases x.bo.toList <;> rfl
    show _ = _
    rw [← hbe]
    rfl)
  have HU : Hid (∀ w', Below w.heap.size w w' → Calls Tryz.prog 115 #[.agg #[.slice a len cap, .int .i64 now], .agg (drV x y n).toArray] w' fun e w'' => e = .returned (.bool (diB l x.up && hasE (ndAt l (x.up - 1).toNat).ns n (ndAt l (x.up - 1).toNat).ns.length)) ∧ Below w'.heap.size w' w'') := (fun w' hb => iNamedUp_any a len cap l now x y n hl HF.out w' (HI.out.below hb))
  generalize (diB l x.up && hasE (ndAt l (x.up - 1).toNat).ns n (ndAt l (x.up - 1).toNat).ns.length) = up at HE HU
  have HB1 : Hid (∀ w', Below w.heap.size w w' → Calls Tryz.prog 113 #[.agg (ndV x y).toArray] w' fun e w'' => e = .returned (.bool x.dB) ∧ Below w'.heap.size w' w'') := (fun w' hb => iDefault_any x y HK.out _ (HM.out.below hb))
  have HB2 : Hid (∀ w', Below w.heap.size w w' → Calls Tryz.prog 114 #[.agg #[.slice a len cap, .int .i64 now], .slice y.nA x.ns.length y.nC] w' fun e w'' => e = .returned (.bool (nsB l x.ns)) ∧ Below w'.heap.size w' w'') := (fun w' hb => iNames_any a len cap l now _ _ x.ns hl HK.out.nl HK.out.nm _ (HI.out.below hb) (HM.out.nA.below hb))
  generalize x.dB = cD at HE HB1
  generalize nsB l x.ns = cN at HE HB2
  cases c1 : (x.li == 1)
  · rw [c1] at HE
    have d1 : (x.li != 1) = true := by rw [bne, c1]; rfl
    have HX : Hid (BoxR ((w.alloc (.cells #[.slice a len cap, .int .i64 now] 33)).alloc (.cells (drV x y n).toArray 106)) w.heap.size [.slice a len cap, .int .i64 now]) := (boxR_new w [.slice a len cap, .int .i64 now] 33).below (bel_alloc _ _)
    have HZ : Hid (BoxR ((w.alloc (.cells #[.slice a len cap, .int .i64 now] 33)).alloc (.cells (drV x y n).toArray 106)) (w.heap.size + 1) (drV x y n)) := (by
      have h := boxR_new (w.alloc (.cells #[.slice a len cap, .int .i64 now] 33)) (drV x y n) 106
      simp only [World.size_alloc] at h
      exact h)
    have HB : Hid (Below w.heap.size w ((w.alloc (.cells #[.slice a len cap, .int .i64 now] 33)).alloc (.cells (drV x y n).toArray 106))) := bl2T _ _ _
    go_enter Tryz.func85, Tryz.ntmps85
    go_upto_region 1 with fail
    generalize ((w.alloc (.cells #[.slice a len cap, .int .i64 now] 33)).alloc (.cells (drV x y n).toArray 106)) = w0 at HX HZ HB ⊢
    obtain ⟨X, hX⟩ : ∃ X, X = w.heap.size := ⟨_, rfl⟩
    have HXw : Hid (X = w.heap.size) := hX
    rw [← hX] at HX HZ ⊢
    clear hX
    have t0 : w0.cell? ⟨X, 0, none⟩ = some (.slice a len cap) := HX.out.at0 0 _ rfl
    have t1 : w0.cell? ⟨X, 1, none⟩ = some (.int .i64 now) := HX.out.at0 1 _ rfl
    have e19 := DB.c19 HZ.out
    have e20 := DB.c20 HZ.out
    have e21 := DB.c21 HZ.out
    have e22 := DB.c22 HZ.out
    have e24 := DB.c24 HZ.out
    go_wp2_with (first
      | fail)
    go_ret
    exact ⟨ret_boolW (by rw [HE.out]; first | done | simp), HB.out⟩
  have d1 : (x.li != 1) = false := by rw [bne, c1]; rfl
  rw [c1] at HE
  cases c2 : x.bo.toList.isEmpty
  · rw [c2] at HE
    have HX : Hid (BoxR ((w.alloc (.cells #[.slice a len cap, .int .i64 now] 33)).alloc (.cells (drV x y n).toArray 106)) w.heap.size [.slice a len cap, .int .i64 now]) := (boxR_new w [.slice a len cap, .int .i64 now] 33).below (bel_alloc _ _)
    have HZ : Hid (BoxR ((w.alloc (.cells #[.slice a len cap, .int .i64 now] 33)).alloc (.cells (drV x y n).toArray 106)) (w.heap.size + 1) (drV x y n)) := (by
      have h := boxR_new (w.alloc (.cells #[.slice a len cap, .int .i64 now] 33)) (drV x y n) 106
      simp only [World.size_alloc] at h
      exact h)
    have HB : Hid (Below w.heap.size w ((w.alloc (.cells #[.slice a len cap, .int .i64 now] 33)).alloc (.cells (drV x y n).toArray 106))) := bl2T _ _ _
    go_enter Tryz.func85, Tryz.ntmps85
    go_upto_region 1 with fail
    generalize ((w.alloc (.cells #[.slice a len cap, .int .i64 now] 33)).alloc (.cells (drV x y n).toArray 106)) = w0 at HX HZ HB ⊢
    obtain ⟨X, hX⟩ : ∃ X, X = w.heap.size := ⟨_, rfl⟩
    have HXw : Hid (X = w.heap.size) := hX
    rw [← hX] at HX HZ ⊢
    clear hX
    have t0 : w0.cell? ⟨X, 0, none⟩ = some (.slice a len cap) := HX.out.at0 0 _ rfl
    have t1 : w0.cell? ⟨X, 1, none⟩ = some (.int .i64 now) := HX.out.at0 1 _ rfl
    have e19 := DB.c19 HZ.out
    have e20 := DB.c20 HZ.out
    have e21 := DB.c21 HZ.out
    have e22 := DB.c22 HZ.out
    have e24 := DB.c24 HZ.out
    go_wp2_with (first
      | fail)
    go_ret
    exact ⟨ret_boolW (by rw [HE.out]; first | done | simp), HB.out⟩
  rw [c2] at HE
  cases cD
  · skip
    have HX : Hid (BoxR ((w.alloc (.cells #[.slice a len cap, .int .i64 now] 33)).alloc (.cells (drV x y n).toArray 106)) w.heap.size [.slice a len cap, .int .i64 now]) := (boxR_new w [.slice a len cap, .int .i64 now] 33).below (bel_alloc _ _)
    have HZ : Hid (BoxR ((w.alloc (.cells #[.slice a len cap, .int .i64 now] 33)).alloc (.cells (drV x y n).toArray 106)) (w.heap.size + 1) (drV x y n)) := (by
      have h := boxR_new (w.alloc (.cells #[.slice a len cap, .int .i64 now] 33)) (drV x y n) 106
      simp only [World.size_alloc] at h
      exact h)
    have HB : Hid (Below w.heap.size w ((w.alloc (.cells #[.slice a len cap, .int .i64 now] 33)).alloc (.cells (drV x y n).toArray 106))) := bl2T _ _ _
    go_enter Tryz.func85, Tryz.ntmps85
    go_upto_region 1 with fail
    generalize ((w.alloc (.cells #[.slice a len cap, .int .i64 now] 33)).alloc (.cells (drV x y n).toArray 106)) = w0 at HX HZ HB ⊢
    obtain ⟨X, hX⟩ : ∃ X, X = w.heap.size := ⟨_, rfl⟩
    have HXw : Hid (X = w.heap.size) := hX
    rw [← hX] at HX HZ ⊢
    clear hX
    have t0 : w0.cell? ⟨X, 0, none⟩ = some (.slice a len cap) := HX.out.at0 0 _ rfl
    have t1 : w0.cell? ⟨X, 1, none⟩ = some (.int .i64 now) := HX.out.at0 1 _ rfl
    have e19 := DB.c19 HZ.out
    have e20 := DB.c20 HZ.out
    have e21 := DB.c21 HZ.out
    have e22 := DB.c22 HZ.out
    have e24 := DB.c24 HZ.out
    go_wp2_with (first
      | (refine wpList_load_want (by rfl) 45 _ (by rfl) _ _ (by rfl) _ _ (DB.nd HZ.out) Tryz.underlying45 rfl (by kernel_rfl) ?_)
      | (refine wpList_load_want (by rfl) 106 _ (by rfl) _ _ (by rfl) _ _ HZ.out.at0 Tryz.underlying106 rfl (by kernel_rfl) ?_)
      | (go_at_call 113; refine (HB1.out _ HB.out).mono ?_; rintro e w1 ⟨rfl, hb⟩; replace HB : Hid (Below w.heap.size w w1) := Below.on HB.out hb; replace HX : Hid (BoxR w1 X [.slice a len cap, .int .i64 now]) := HX.out.below hb; replace HZ : Hid (BoxR w1 (X + 1) (drV x y n)) := HZ.out.below hb; replace t0 : w1.cell? ⟨X, 0, none⟩ = some (.slice a len cap) := HX.out.at0 0 _ rfl; replace t1 : w1.cell? ⟨X, 1, none⟩ = some (.int .i64 now) := HX.out.at0 1 _ rfl; replace e19 := DB.c19 HZ.out; replace e20 := DB.c20 HZ.out; replace e21 := DB.c21 HZ.out; replace e22 := DB.c22 HZ.out; replace e24 := DB.c24 HZ.out; clear hb))
    go_ret
    exact ⟨ret_boolW (by rw [HE.out]; first | done | simp), HB.out⟩
  cases cN
  · skip
    have HX : Hid (BoxR ((w.alloc (.cells #[.slice a len cap, .int .i64 now] 33)).alloc (.cells (drV x y n).toArray 106)) w.heap.size [.slice a len cap, .int .i64 now]) := (boxR_new w [.slice a len cap, .int .i64 now] 33).below (bel_alloc _ _)
    have HZ : Hid (BoxR ((w.alloc (.cells #[.slice a len cap, .int .i64 now] 33)).alloc (.cells (drV x y n).toArray 106)) (w.heap.size + 1) (drV x y n)) := (by
      have h := boxR_new (w.alloc (.cells #[.slice a len cap, .int .i64 now] 33)) (drV x y n) 106
      simp only [World.size_alloc] at h
      exact h)
    have HB : Hid (Below w.heap.size w ((w.alloc (.cells #[.slice a len cap, .int .i64 now] 33)).alloc (.cells (drV x y n).toArray 106))) := bl2T _ _ _
    go_enter Tryz.func85, Tryz.ntmps85
    go_upto_region 1 with fail
    generalize ((w.alloc (.cells #[.slice a len cap, .int .i64 now] 33)).alloc (.cells (drV x y n).toArray 106)) = w0 at HX HZ HB ⊢
    obtain ⟨X, hX⟩ : ∃ X, X = w.heap.size := ⟨_, rfl⟩
    have HXw : Hid (X = w.heap.size) := hX
    rw [← hX] at HX HZ ⊢
    clear hX
    have t0 : w0.cell? ⟨X, 0, none⟩ = some (.slice a len cap) := HX.out.at0 0 _ rfl
    have t1 : w0.cell? ⟨X, 1, none⟩ = some (.int .i64 now) := HX.out.at0 1 _ rfl
    have e19 := DB.c19 HZ.out
    have e20 := DB.c20 HZ.out
    have e21 := DB.c21 HZ.out
    have e22 := DB.c22 HZ.out
    have e24 := DB.c24 HZ.out
    go_wp2_with (first
      | (refine wpList_load_want (by rfl) 45 _ (by rfl) _ _ (by rfl) _ _ (DB.nd HZ.out) Tryz.underlying45 rfl (by kernel_rfl) ?_)
      | (refine wpList_load_want (by rfl) 106 _ (by rfl) _ _ (by rfl) _ _ HZ.out.at0 Tryz.underlying106 rfl (by kernel_rfl) ?_)
      | (go_at_call 113; refine (HB1.out _ HB.out).mono ?_; rintro e w1 ⟨rfl, hb⟩; replace HB : Hid (Below w.heap.size w w1) := Below.on HB.out hb; replace HX : Hid (BoxR w1 X [.slice a len cap, .int .i64 now]) := HX.out.below hb; replace HZ : Hid (BoxR w1 (X + 1) (drV x y n)) := HZ.out.below hb; replace t0 : w1.cell? ⟨X, 0, none⟩ = some (.slice a len cap) := HX.out.at0 0 _ rfl; replace t1 : w1.cell? ⟨X, 1, none⟩ = some (.int .i64 now) := HX.out.at0 1 _ rfl; replace e19 := DB.c19 HZ.out; replace e20 := DB.c20 HZ.out; replace e21 := DB.c21 HZ.out; replace e22 := DB.c22 HZ.out; replace e24 := DB.c24 HZ.out; clear hb)
      | (go_at_call 114; refine (HB2.out _ HB.out).mono ?_; rintro e w1 ⟨rfl, hb⟩; replace HB : Hid (Below w.heap.size w w1) := Below.on HB.out hb; replace HX : Hid (BoxR w1 X [.slice a len cap, .int .i64 now]) := HX.out.below hb; replace HZ : Hid (BoxR w1 (X + 1) (drV x y n)) := HZ.out.below hb; replace t0 : w1.cell? ⟨X, 0, none⟩ = some (.slice a len cap) := HX.out.at0 0 _ rfl; replace t1 : w1.cell? ⟨X, 1, none⟩ = some (.int .i64 now) := HX.out.at0 1 _ rfl; replace e19 := DB.c19 HZ.out; replace e20 := DB.c20 HZ.out; replace e21 := DB.c21 HZ.out; replace e22 := DB.c22 HZ.out; replace e24 := DB.c24 HZ.out; clear hb))
    go_ret
    exact ⟨ret_boolW (by rw [HE.out]; first | done | simp), HB.out⟩
  cases c5 : (n == 1)
  · rw [c5] at HE
    cases up
    · skip
      have HX : Hid (BoxR ((w.alloc (.cells #[.slice a len cap, .int .i64 now] 33)).alloc (.cells (drV x y n).toArray 106)) w.heap.size [.slice a len cap, .int .i64 now]) := (boxR_new w [.slice a len cap, .int .i64 now] 33).below (bel_alloc _ _)
      have HZ : Hid (BoxR ((w.alloc (.cells #[.slice a len cap, .int .i64 now] 33)).alloc (.cells (drV x y n).toArray 106)) (w.heap.size + 1) (drV x y n)) := (by
        have h := boxR_new (w.alloc (.cells #[.slice a len cap, .int .i64 now] 33)) (drV x y n) 106
        simp only [World.size_alloc] at h
        exact h)
      have HB : Hid (Below w.heap.size w ((w.alloc (.cells #[.slice a len cap, .int .i64 now] 33)).alloc (.cells (drV x y n).toArray 106))) := bl2T _ _ _
      go_enter Tryz.func85, Tryz.ntmps85
      go_upto_region 1 with fail
      generalize ((w.alloc (.cells #[.slice a len cap, .int .i64 now] 33)).alloc (.cells (drV x y n).toArray 106)) = w0 at HX HZ HB ⊢
      obtain ⟨X, hX⟩ : ∃ X, X = w.heap.size := ⟨_, rfl⟩
      have HXw : Hid (X = w.heap.size) := hX
      rw [← hX] at HX HZ ⊢
      clear hX
      have t0 : w0.cell? ⟨X, 0, none⟩ = some (.slice a len cap) := HX.out.at0 0 _ rfl
      have t1 : w0.cell? ⟨X, 1, none⟩ = some (.int .i64 now) := HX.out.at0 1 _ rfl
      have e19 := DB.c19 HZ.out
      have e20 := DB.c20 HZ.out
      have e21 := DB.c21 HZ.out
      have e22 := DB.c22 HZ.out
      have e24 := DB.c24 HZ.out
      go_wp2_with (first
        | (refine wpList_load_want (by rfl) 45 _ (by rfl) _ _ (by rfl) _ _ (DB.nd HZ.out) Tryz.underlying45 rfl (by kernel_rfl) ?_)
        | (refine wpList_load_want (by rfl) 106 _ (by rfl) _ _ (by rfl) _ _ HZ.out.at0 Tryz.underlying106 rfl (by kernel_rfl) ?_)
        | (go_at_call 113; refine (HB1.out _ HB.out).mono ?_; rintro e w1 ⟨rfl, hb⟩; replace HB : Hid (Below w.heap.size w w1) := Below.on HB.out hb; replace HX : Hid (BoxR w1 X [.slice a len cap, .int .i64 now]) := HX.out.below hb; replace HZ : Hid (BoxR w1 (X + 1) (drV x y n)) := HZ.out.below hb; replace t0 : w1.cell? ⟨X, 0, none⟩ = some (.slice a len cap) := HX.out.at0 0 _ rfl; replace t1 : w1.cell? ⟨X, 1, none⟩ = some (.int .i64 now) := HX.out.at0 1 _ rfl; replace e19 := DB.c19 HZ.out; replace e20 := DB.c20 HZ.out; replace e21 := DB.c21 HZ.out; replace e22 := DB.c22 HZ.out; replace e24 := DB.c24 HZ.out; clear hb)
        | (go_at_call 114; refine (HB2.out _ HB.out).mono ?_; rintro e w1 ⟨rfl, hb⟩; replace HB : Hid (Below w.heap.size w w1) := Below.on HB.out hb; replace HX : Hid (BoxR w1 X [.slice a len cap, .int .i64 now]) := HX.out.below hb; replace HZ : Hid (BoxR w1 (X + 1) (drV x y n)) := HZ.out.below hb; replace t0 : w1.cell? ⟨X, 0, none⟩ = some (.slice a len cap) := HX.out.at0 0 _ rfl; replace t1 : w1.cell? ⟨X, 1, none⟩ = some (.int .i64 now) := HX.out.at0 1 _ rfl; replace e19 := DB.c19 HZ.out; replace e20 := DB.c20 HZ.out; replace e21 := DB.c21 HZ.out; replace e22 := DB.c22 HZ.out; replace e24 := DB.c24 HZ.out; clear hb)
        | (go_at_call 115; refine (HU.out _ HB.out).mono ?_; rintro e w1 ⟨rfl, hb⟩; replace HB : Hid (Below w.heap.size w w1) := Below.on HB.out hb; replace HX : Hid (BoxR w1 X [.slice a len cap, .int .i64 now]) := HX.out.below hb; replace HZ : Hid (BoxR w1 (X + 1) (drV x y n)) := HZ.out.below hb; replace t0 : w1.cell? ⟨X, 0, none⟩ = some (.slice a len cap) := HX.out.at0 0 _ rfl; replace t1 : w1.cell? ⟨X, 1, none⟩ = some (.int .i64 now) := HX.out.at0 1 _ rfl; replace e19 := DB.c19 HZ.out; replace e20 := DB.c20 HZ.out; replace e21 := DB.c21 HZ.out; replace e22 := DB.c22 HZ.out; replace e24 := DB.c24 HZ.out; clear hb))
      go_ret
      exact ⟨ret_boolW (by rw [HE.out]; first | done | simp), HB.out⟩
    · skip
      have HX : Hid (BoxR ((w.alloc (.cells #[.slice a len cap, .int .i64 now] 33)).alloc (.cells (drV x y n).toArray 106)) w.heap.size [.slice a len cap, .int .i64 now]) := (boxR_new w [.slice a len cap, .int .i64 now] 33).below (bel_alloc _ _)
      have HZ : Hid (BoxR ((w.alloc (.cells #[.slice a len cap, .int .i64 now] 33)).alloc (.cells (drV x y n).toArray 106)) (w.heap.size + 1) (drV x y n)) := (by
        have h := boxR_new (w.alloc (.cells #[.slice a len cap, .int .i64 now] 33)) (drV x y n) 106
        simp only [World.size_alloc] at h
        exact h)
      have HB : Hid (Below w.heap.size w ((w.alloc (.cells #[.slice a len cap, .int .i64 now] 33)).alloc (.cells (drV x y n).toArray 106))) := bl2T _ _ _
      go_enter Tryz.func85, Tryz.ntmps85
      go_upto_region 1 with fail
      generalize ((w.alloc (.cells #[.slice a len cap, .int .i64 now] 33)).alloc (.cells (drV x y n).toArray 106)) = w0 at HX HZ HB ⊢
      obtain ⟨X, hX⟩ : ∃ X, X = w.heap.size := ⟨_, rfl⟩
      have HXw : Hid (X = w.heap.size) := hX
      rw [← hX] at HX HZ ⊢
      clear hX
      have t0 : w0.cell? ⟨X, 0, none⟩ = some (.slice a len cap) := HX.out.at0 0 _ rfl
      have t1 : w0.cell? ⟨X, 1, none⟩ = some (.int .i64 now) := HX.out.at0 1 _ rfl
      have e19 := DB.c19 HZ.out
      have e20 := DB.c20 HZ.out
      have e21 := DB.c21 HZ.out
      have e22 := DB.c22 HZ.out
      have e24 := DB.c24 HZ.out
      go_wp2_with (first
        | (refine wpList_load_want (by rfl) 45 _ (by rfl) _ _ (by rfl) _ _ (DB.nd HZ.out) Tryz.underlying45 rfl (by kernel_rfl) ?_)
        | (refine wpList_load_want (by rfl) 106 _ (by rfl) _ _ (by rfl) _ _ HZ.out.at0 Tryz.underlying106 rfl (by kernel_rfl) ?_)
        | (go_at_call 113; refine (HB1.out _ HB.out).mono ?_; rintro e w1 ⟨rfl, hb⟩; replace HB : Hid (Below w.heap.size w w1) := Below.on HB.out hb; replace HX : Hid (BoxR w1 X [.slice a len cap, .int .i64 now]) := HX.out.below hb; replace HZ : Hid (BoxR w1 (X + 1) (drV x y n)) := HZ.out.below hb; replace t0 : w1.cell? ⟨X, 0, none⟩ = some (.slice a len cap) := HX.out.at0 0 _ rfl; replace t1 : w1.cell? ⟨X, 1, none⟩ = some (.int .i64 now) := HX.out.at0 1 _ rfl; replace e19 := DB.c19 HZ.out; replace e20 := DB.c20 HZ.out; replace e21 := DB.c21 HZ.out; replace e22 := DB.c22 HZ.out; replace e24 := DB.c24 HZ.out; clear hb)
        | (go_at_call 114; refine (HB2.out _ HB.out).mono ?_; rintro e w1 ⟨rfl, hb⟩; replace HB : Hid (Below w.heap.size w w1) := Below.on HB.out hb; replace HX : Hid (BoxR w1 X [.slice a len cap, .int .i64 now]) := HX.out.below hb; replace HZ : Hid (BoxR w1 (X + 1) (drV x y n)) := HZ.out.below hb; replace t0 : w1.cell? ⟨X, 0, none⟩ = some (.slice a len cap) := HX.out.at0 0 _ rfl; replace t1 : w1.cell? ⟨X, 1, none⟩ = some (.int .i64 now) := HX.out.at0 1 _ rfl; replace e19 := DB.c19 HZ.out; replace e20 := DB.c20 HZ.out; replace e21 := DB.c21 HZ.out; replace e22 := DB.c22 HZ.out; replace e24 := DB.c24 HZ.out; clear hb)
        | (go_at_call 115; refine (HU.out _ HB.out).mono ?_; rintro e w1 ⟨rfl, hb⟩; replace HB : Hid (Below w.heap.size w w1) := Below.on HB.out hb; replace HX : Hid (BoxR w1 X [.slice a len cap, .int .i64 now]) := HX.out.below hb; replace HZ : Hid (BoxR w1 (X + 1) (drV x y n)) := HZ.out.below hb; replace t0 : w1.cell? ⟨X, 0, none⟩ = some (.slice a len cap) := HX.out.at0 0 _ rfl; replace t1 : w1.cell? ⟨X, 1, none⟩ = some (.int .i64 now) := HX.out.at0 1 _ rfl; replace e19 := DB.c19 HZ.out; replace e20 := DB.c20 HZ.out; replace e21 := DB.c21 HZ.out; replace e22 := DB.c22 HZ.out; replace e24 := DB.c24 HZ.out; clear hb))
      go_ret
      exact ⟨ret_boolW (by rw [HE.out]; first | done | simp), HB.out⟩
  · rw [c5] at HE
    have HX : Hid (BoxR ((w.alloc (.cells #[.slice a len cap, .int .i64 now] 33)).alloc (.cells (drV x y n).toArray 106)) w.heap.size [.slice a len cap, .int .i64 now]) := (boxR_new w [.slice a len cap, .int .i64 now] 33).below (bel_alloc _ _)
    have HZ : Hid (BoxR ((w.alloc (.cells #[.slice a len cap, .int .i64 now] 33)).alloc (.cells (drV x y n).toArray 106)) (w.heap.size + 1) (drV x y n)) := (by
      have h := boxR_new (w.alloc (.cells #[.slice a len cap, .int .i64 now] 33)) (drV x y n) 106
      simp only [World.size_alloc] at h
      exact h)
    have HB : Hid (Below w.heap.size w ((w.alloc (.cells #[.slice a len cap, .int .i64 now] 33)).alloc (.cells (drV x y n).toArray 106))) := bl2T _ _ _
    go_enter Tryz.func85, Tryz.ntmps85
    go_upto_region 1 with fail
    generalize ((w.alloc (.cells #[.slice a len cap, .int .i64 now] 33)).alloc (.cells (drV x y n).toArray 106)) = w0 at HX HZ HB ⊢
    obtain ⟨X, hX⟩ : ∃ X, X = w.heap.size := ⟨_, rfl⟩
    have HXw : Hid (X = w.heap.size) := hX
    rw [← hX] at HX HZ ⊢
    clear hX
    have t0 : w0.cell? ⟨X, 0, none⟩ = some (.slice a len cap) := HX.out.at0 0 _ rfl
    have t1 : w0.cell? ⟨X, 1, none⟩ = some (.int .i64 now) := HX.out.at0 1 _ rfl
    have e19 := DB.c19 HZ.out
    have e20 := DB.c20 HZ.out
    have e21 := DB.c21 HZ.out
    have e22 := DB.c22 HZ.out
    have e24 := DB.c24 HZ.out
    go_wp2_with (first
      | (refine wpList_load_want (by rfl) 45 _ (by rfl) _ _ (by rfl) _ _ (DB.nd HZ.out) Tryz.underlying45 rfl (by kernel_rfl) ?_)
      | (refine wpList_load_want (by rfl) 106 _ (by rfl) _ _ (by rfl) _ _ HZ.out.at0 Tryz.underlying106 rfl (by kernel_rfl) ?_)
      | (go_at_call 113; refine (HB1.out _ HB.out).mono ?_; rintro e w1 ⟨rfl, hb⟩; replace HB : Hid (Below w.heap.size w w1) := Below.on HB.out hb; replace HX : Hid (BoxR w1 X [.slice a len cap, .int .i64 now]) := HX.out.below hb; replace HZ : Hid (BoxR w1 (X + 1) (drV x y n)) := HZ.out.below hb; replace t0 : w1.cell? ⟨X, 0, none⟩ = some (.slice a len cap) := HX.out.at0 0 _ rfl; replace t1 : w1.cell? ⟨X, 1, none⟩ = some (.int .i64 now) := HX.out.at0 1 _ rfl; replace e19 := DB.c19 HZ.out; replace e20 := DB.c20 HZ.out; replace e21 := DB.c21 HZ.out; replace e22 := DB.c22 HZ.out; replace e24 := DB.c24 HZ.out; clear hb)
      | (go_at_call 114; refine (HB2.out _ HB.out).mono ?_; rintro e w1 ⟨rfl, hb⟩; replace HB : Hid (Below w.heap.size w w1) := Below.on HB.out hb; replace HX : Hid (BoxR w1 X [.slice a len cap, .int .i64 now]) := HX.out.below hb; replace HZ : Hid (BoxR w1 (X + 1) (drV x y n)) := HZ.out.below hb; replace t0 : w1.cell? ⟨X, 0, none⟩ = some (.slice a len cap) := HX.out.at0 0 _ rfl; replace t1 : w1.cell? ⟨X, 1, none⟩ = some (.int .i64 now) := HX.out.at0 1 _ rfl; replace e19 := DB.c19 HZ.out; replace e20 := DB.c20 HZ.out; replace e21 := DB.c21 HZ.out; replace e22 := DB.c22 HZ.out; replace e24 := DB.c24 HZ.out; clear hb)
      | (go_at_call 115; refine (HU.out _ HB.out).mono ?_; rintro e w1 ⟨rfl, hb⟩; replace HB : Hid (Below w.heap.size w w1) := Below.on HB.out hb; replace HX : Hid (BoxR w1 X [.slice a len cap, .int .i64 now]) := HX.out.below hb; replace HZ : Hid (BoxR w1 (X + 1) (drV x y n)) := HZ.out.below hb; replace t0 : w1.cell? ⟨X, 0, none⟩ = some (.slice a len cap) := HX.out.at0 0 _ rfl; replace t1 : w1.cell? ⟨X, 1, none⟩ = some (.int .i64 now) := HX.out.at0 1 _ rfl; replace e19 := DB.c19 HZ.out; replace e20 := DB.c20 HZ.out; replace e21 := DB.c21 HZ.out; replace e22 := DB.c22 HZ.out; replace e24 := DB.c24 HZ.out; clear hb))
    go_ret
    exact ⟨ret_boolW (by rw [HE.out]; first | done | simp), HB.out⟩
end Go.Proofs.YtcniahgcgfmhpaaGreat
