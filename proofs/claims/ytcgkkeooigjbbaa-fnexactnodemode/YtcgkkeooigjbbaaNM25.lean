/- Laid together: NodeModeW. -/
import Derived.Test.YtcgkkeooigjbbaaNM23
import Derived.Test.YtcgkkeooigjbbaaNM24
/- NodeMode, the program's and the specification's. -/
namespace Go.Proofs.Ytcgkkeooigjbbaa
open Go.RowKit Go.PlainAid Go.Deep
set_option linter.unusedVariables false
def Nd.mode (x : Nd) : Int := 512 * x.ex + (64 * x.A.u + 8 * clsOf x.A.g x.A.r x.A.m + x.A.o)
def mdO (l : List Nd) (now n : Int) : Int := if treeB l now && thB l n then (ndAt l (n - 1).toNat).mode else 0
theorem or2i (e m : Int) (a0 : 0 ≤ e) (h1 : e ≤ 7) (b0 : 0 ≤ m) (h2 : m ≤ 511) : bits .or .i64 (e * 512) m = 512 * e + m := by
  obtain ⟨a, rfl⟩ := Int.eq_ofNat_of_zero_le a0
  obtain ⟨b, rfl⟩ := Int.eq_ofNat_of_zero_le b0
  have e0 : ((a : Int) * 512) = ((a * 512 : Nat) : Int) := by omega
  rw [e0, i64_or_nat (a * 512) b (by omega) (by omega)]
  have e1 : a * 512 ||| b = a * 512 + b := by
    have := Nat.shiftLeft_add_eq_or_of_lt (b := b) (i := 9) (by omega) a
    rw [Nat.shiftLeft_eq] at this
    exact this.symm
  rw [e1]
  omega
set_option maxRecDepth 20000 in
set_option maxHeartbeats 4000000 in
theorem sMode08_any (x : Nd) (y : Na) (hx : 0 ≤ x.ex ∧ x.ex ≤ 7) (hA : aclB x.A.u x.A.g x.A.o x.A.us x.A.gs x.A.r x.A.m = true) (w : World) :
    Calls Try.prog 32 #[.agg (ndV x y).toArray] w fun e w' => e = .returned (.int .i64 x.mode) ∧ Below w.heap.size w w' := by
  obtain ⟨x0, x7⟩ := hx
  obtain ⟨⟨u0, u1⟩, _, ⟨o0, o1⟩, _⟩ := aclB_parts hA
  obtain ⟨k0, k1⟩ := clsOf_in hA
  have HE : Hid (x.mode = 512 * x.ex + (64 * x.A.u + 8 * clsOf x.A.g x.A.r x.A.m + x.A.o)) := rfl
  have cA : ∀ w d os, Calls Try.prog 63 #[.agg #[.int .i64 x.A.u, .int .i64 x.A.g, .int .i64 x.A.o, .slice y.aU x.A.us.length y.cU, .slice y.aG x.A.gs.length y.cG, .bool x.A.r, .int .i64 x.A.m]] (Go.Sort.grow (redrawn w d) os) fun e w'' => e = .returned (.int .i64 (64 * x.A.u + 8 * clsOf x.A.g x.A.r x.A.m + x.A.o)) ∧ ∃ p : Regrown, w'' = Go.Sort.grow (redrawn w p.d) p.os := fun w d os => Calls.regrown_of (sMode03_any _ _ _ _ _ _ _ _ _ _ _ u0 u1 k0 k1 o0 o1 _)
  obtain ⟨m, hm⟩ : ∃ m, m = 64 * x.A.u + 8 * clsOf x.A.g x.A.r x.A.m + x.A.o := ⟨_, rfl⟩
  rw [← hm] at cA HE
  have m0 : 0 ≤ m := by omega
  have m1 : m ≤ 511 := by omega
  clear hm hA
  have HB : Hid (Below w.heap.size w (w.alloc (.cells (ndV x y).toArray 51))) := bel_alloc _ _
  have HX : Hid (BoxR (w.alloc (.cells (ndV x y).toArray 51)) w.heap.size (ndV x y)) := boxR_new _ _ _
  go_enter Try.func32, Try.ntmps32
  go_upto_region 1 with fail
  generalize w.alloc (.cells (ndV x y).toArray 51) = w0 at HB HX ⊢
  obtain ⟨X, hX⟩ : ∃ X, X = w.heap.size := ⟨_, rfl⟩
  rw [← hX] at HX ⊢
  clear hX
  have z3 : ∀ d os, (Go.Sort.grow (redrawn w0 d) os).cell? ⟨X, 3, none⟩ = some (.int .i64 x.ex) := fun d os => cell_regrown (NB.c3 HX.out) d os
  have z4 : ∀ d os, (Go.Sort.grow (redrawn w0 d) os).cell? ⟨X, 4, none⟩ = some (.int .i64 x.A.u) := fun d os => cell_regrown (NB.c4 HX.out) d os
  have z5 : ∀ d os, (Go.Sort.grow (redrawn w0 d) os).cell? ⟨X, 5, none⟩ = some (.int .i64 x.A.g) := fun d os => cell_regrown (NB.c5 HX.out) d os
  have z6 : ∀ d os, (Go.Sort.grow (redrawn w0 d) os).cell? ⟨X, 6, none⟩ = some (.int .i64 x.A.o) := fun d os => cell_regrown (NB.c6 HX.out) d os
  have z7 : ∀ d os, (Go.Sort.grow (redrawn w0 d) os).cell? ⟨X, 7, none⟩ = some (.slice y.aU x.A.us.length y.cU) := fun d os => cell_regrown (NB.c7 HX.out) d os
  have z8 : ∀ d os, (Go.Sort.grow (redrawn w0 d) os).cell? ⟨X, 8, none⟩ = some (.slice y.aG x.A.gs.length y.cG) := fun d os => cell_regrown (NB.c8 HX.out) d os
  have z9 : ∀ d os, (Go.Sort.grow (redrawn w0 d) os).cell? ⟨X, 9, none⟩ = some (.bool x.A.r) := fun d os => cell_regrown (NB.c9 HX.out) d os
  have z10 : ∀ d os, (Go.Sort.grow (redrawn w0 d) os).cell? ⟨X, 10, none⟩ = some (.int .i64 x.A.m) := fun d os => cell_regrown (NB.c10 HX.out) d os
  refine wp_region_quiet_below (by kernel_rfl) (by kernel_rfl) ?_
  repeat (go_big_quiet_step (exact cA _ _ _))
  refine wpQuiet_nil ?_
  intro _ hw'
  obtain ⟨⟨dq, osq⟩, hw''⟩ := hw'
  subst hw''
  have hbq : Hid (Below w.heap.size w (Go.Sort.grow (redrawn w0 dq) osq)) := Below.on HB.out (below_regrown w0 dq osq)
  generalize Go.Sort.grow (redrawn w0 dq) osq = w2 at hbq ⊢
  clear z3 z4 z5 z6 z7 z8 z9 z10 cA
  go_wp2
  go_ret
  exact ⟨ret_intM HE.out.symm, hbq.out⟩
set_option maxHeartbeats 4000000 in
theorem sNodeMode_any (a : Option Addr) (len cap : Nat) (l : List Nd) (now : Int) (n : Int) (hm : len ≤ 9223372036854775807) (hf : ∀ i, i < len → NdFit 1048576 (ndAt l i)) (w : World) (hi : Nds a len l w) :
    Calls Try.prog 13 #[.agg #[.slice a len cap, .int .i64 now], .int .i64 n] w fun e w' => e = .returned (.int .i64 (mdO l now n)) ∧ Below w.heap.size w w' := by
  have HT : Hid (∀ w', Below w.heap.size w w' → Calls Try.prog 25 #[.agg #[.slice a len cap, .int .i64 now]] w' fun e w'' => e = .returned (.bool (treeB l now)) ∧ Below w'.heap.size w' w'') := (fun w' hb => sTree_any a len cap l now hm hf w' (hi.below hb))
  have hll := hi.1
  cases ht : treeB l now
  · have HE : Hid (mdO l now n = 0) := (by show _ = _; simp [mdO, ht])
    rw [ht] at HT
    clear hi hf hll
    have HB : Hid (Below w.heap.size w (w.alloc (.cells #[.slice a len cap, .int .i64 now] 29))) := bel_alloc _ _
    have HX : Hid (BoxR (w.alloc (.cells #[.slice a len cap, .int .i64 now] 29)) w.heap.size [.slice a len cap, .int .i64 now]) := boxR_new _ _ _
    go_enter Try.func13, Try.ntmps13
    go_upto_region 1 with fail
    generalize (w.alloc (.cells #[.slice a len cap, .int .i64 now] 29)) = w0 at HB HX ⊢
    obtain ⟨X, hX⟩ : ∃ X, X = w.heap.size := ⟨_, rfl⟩
    rw [← hX] at HX ⊢
    clear hX
    have t0 : w0.cell? ⟨X, 0, none⟩ = some (.slice a len cap) := HX.out.at0 0 _ rfl
    have t1 : w0.cell? ⟨X, 1, none⟩ = some (.int .i64 now) := HX.out.at0 1 _ rfl
    go_wp2_with (go_at_call 25; refine (HT.out _ HB.out).mono ?_; rintro e w1 ⟨rfl, hb⟩; replace HB : Hid (Below w.heap.size w w1) := Below.on HB.out hb; replace HX : Hid (BoxR w1 X [.slice a len cap, .int .i64 now]) := HX.out.below hb; clear hb; replace t0 : w1.cell? ⟨X, 0, none⟩ = some (.slice a len cap) := HX.out.at0 0 _ rfl; replace t1 : w1.cell? ⟨X, 1, none⟩ = some (.int .i64 now) := HX.out.at0 1 _ rfl)
    go_ret
    exact ⟨by rw [HE.out]; rfl, HB.out⟩
  have hlen : len ≤ 12 := by rw [← hll]; exact tree_len ht
  have HC : Hid (∀ w', Below w.heap.size w w' → Calls Try.prog 31 #[.agg #[.slice a len cap, .int .i64 now], .int .i64 n] w' fun e w'' => e = .returned (.bool (thB l n)) ∧ Below w'.heap.size w' w'') := (fun w' hb => sThere_any a len cap l now n (by omega) w' (hi.below hb))
  rw [ht] at HT
  cases hth : thB l n
  · have HE : Hid (mdO l now n = 0) := (by show _ = _; simp [mdO, ht, hth])
    rw [hth] at HC
    clear hi hf hll ht
    have HB : Hid (Below w.heap.size w (w.alloc (.cells #[.slice a len cap, .int .i64 now] 29))) := bel_alloc _ _
    have HX : Hid (BoxR (w.alloc (.cells #[.slice a len cap, .int .i64 now] 29)) w.heap.size [.slice a len cap, .int .i64 now]) := boxR_new _ _ _
    go_enter Try.func13, Try.ntmps13
    go_upto_region 1 with fail
    generalize (w.alloc (.cells #[.slice a len cap, .int .i64 now] 29)) = w0 at HB HX ⊢
    obtain ⟨X, hX⟩ : ∃ X, X = w.heap.size := ⟨_, rfl⟩
    rw [← hX] at HX ⊢
    clear hX
    have t0 : w0.cell? ⟨X, 0, none⟩ = some (.slice a len cap) := HX.out.at0 0 _ rfl
    have t1 : w0.cell? ⟨X, 1, none⟩ = some (.int .i64 now) := HX.out.at0 1 _ rfl
    go_wp2_with (first
      | (go_at_call 25; refine (HT.out _ HB.out).mono ?_; rintro e w1 ⟨rfl, hb⟩; replace HB : Hid (Below w.heap.size w w1) := Below.on HB.out hb; replace HX : Hid (BoxR w1 X [.slice a len cap, .int .i64 now]) := HX.out.below hb; clear hb; replace t0 : w1.cell? ⟨X, 0, none⟩ = some (.slice a len cap) := HX.out.at0 0 _ rfl; replace t1 : w1.cell? ⟨X, 1, none⟩ = some (.int .i64 now) := HX.out.at0 1 _ rfl)
      | (go_at_call 31; refine (HC.out _ HB.out).mono ?_; rintro e w1 ⟨rfl, hb⟩; replace HB : Hid (Below w.heap.size w w1) := Below.on HB.out hb; replace HX : Hid (BoxR w1 X [.slice a len cap, .int .i64 now]) := HX.out.below hb; clear hb; replace t0 : w1.cell? ⟨X, 0, none⟩ = some (.slice a len cap) := HX.out.at0 0 _ rfl; replace t1 : w1.cell? ⟨X, 1, none⟩ = some (.int .i64 now) := HX.out.at0 1 _ rfl))
    go_ret
    exact ⟨by rw [HE.out]; rfl, HB.out⟩
  · have HE0 : Hid (mdO l now n = (ndAt l (n - 1).toNat).mode) := (by show _ = _; simp [mdO, ht, hth])
    rw [hth] at HC
    obtain ⟨h1, h2⟩ := inR_iff.1 (thB_num hth)
    obtain ⟨k, rfl⟩ : ∃ k : Nat, n = (k : Int) + 1 := ⟨(n - 1).toNat, by omega⟩
    have hk : k < len := by omega
    obtain ⟨b, off, Y, rfl, hb0, hc⟩ := hi.2 (by omega)
    have HN : Hid (N24 w b (off + k * 24) (ndAt l k) (Y k)) := (hc k hk).1
    have HM : Hid (NdIn w (ndAt l k) (Y k)) := (hc k hk).2
    have hk1 : (k : Int) < (len : Int) := by omega
    have hk0 : (0 : Int) ≤ (k : Int) := by omega
    rw [at_succ] at HE0
    obtain ⟨f1, f2, -, -⟩ := node_facts (node_is ht hth)
    clear hi hf hll ht hth hc h1 h2
    generalize ndAt l k = x at HN HM HE0 f1 f2
    generalize Y k = y at HN HM
    have HMd : Hid (∀ w', Calls Try.prog 32 #[.agg (ndV x y).toArray] w' fun e w'' => e = .returned (.int .i64 x.mode) ∧ Below w'.heap.size w' w'') := (fun w' => sMode08_any x y f1 f2 w')
    clear f1 f2 HM
    have HB : Hid (Below w.heap.size w (w.alloc (.cells #[.slice (some ⟨b, off, none⟩) len cap, .int .i64 now] 29))) := bel_alloc _ _
    have HX : Hid (BoxR (w.alloc (.cells #[.slice (some ⟨b, off, none⟩) len cap, .int .i64 now] 29)) w.heap.size [.slice (some ⟨b, off, none⟩) len cap, .int .i64 now]) := boxR_new _ _ _
    go_enter Try.func13, Try.ntmps13
    go_upto_region 1 with fail
    generalize (w.alloc (.cells #[.slice (some ⟨b, off, none⟩) len cap, .int .i64 now] 29)) = w0 at HB HX ⊢
    obtain ⟨X, hX⟩ : ∃ X, X = w.heap.size := ⟨_, rfl⟩
    rw [← hX] at HX ⊢
    clear hX
    have t0 : w0.cell? ⟨X, 0, none⟩ = some (.slice (some ⟨b, off, none⟩) len cap) := HX.out.at0 0 _ rfl
    have t1 : w0.cell? ⟨X, 1, none⟩ = some (.int .i64 now) := HX.out.at0 1 _ rfl
    go_wp2_with (first
      | (go_at_call 25; refine (HT.out _ HB.out).mono ?_; rintro e w1 ⟨rfl, hb⟩; replace HB : Hid (Below w.heap.size w w1) := Below.on HB.out hb; replace HX : Hid (BoxR w1 X [.slice (some ⟨b, off, none⟩) len cap, .int .i64 now]) := HX.out.below hb; clear hb; replace t0 : w1.cell? ⟨X, 0, none⟩ = some (.slice (some ⟨b, off, none⟩) len cap) := HX.out.at0 0 _ rfl; replace t1 : w1.cell? ⟨X, 1, none⟩ = some (.int .i64 now) := HX.out.at0 1 _ rfl)
      | (go_at_call 31; refine (HC.out _ HB.out).mono ?_; rintro e w1 ⟨rfl, hb⟩; replace HB : Hid (Below w.heap.size w w1) := Below.on HB.out hb; replace HX : Hid (BoxR w1 X [.slice (some ⟨b, off, none⟩) len cap, .int .i64 now]) := HX.out.below hb; clear hb; replace t0 : w1.cell? ⟨X, 0, none⟩ = some (.slice (some ⟨b, off, none⟩) len cap) := HX.out.at0 0 _ rfl; replace t1 : w1.cell? ⟨X, 1, none⟩ = some (.int .i64 now) := HX.out.at0 1 _ rfl)
      | (refine wpList_load_mid (by rfl) 51 _ (by rfl) _ _ (by rfl) _ _ (range_below HN.out hb0 HB.out) Try.underlying51 rfl (by kernel_rfl) ?_)
      | (go_at_call 32; refine (HMd.out _).mono ?_; rintro e w1 ⟨rfl, hb⟩; replace HB : Hid (Below w.heap.size w w1) := Below.on HB.out hb; replace HX : Hid (BoxR w1 X [.slice (some ⟨b, off, none⟩) len cap, .int .i64 now]) := HX.out.below hb; clear hb; replace t0 : w1.cell? ⟨X, 0, none⟩ = some (.slice (some ⟨b, off, none⟩) len cap) := HX.out.at0 0 _ rfl; replace t1 : w1.cell? ⟨X, 1, none⟩ = some (.int .i64 now) := HX.out.at0 1 _ rfl))
    go_ret
    exact ⟨by (first | (rw [HE0.out]; rfl) | rw [HE0.out]), HB.out⟩
set_option maxRecDepth 20000 in
set_option maxHeartbeats 8000000 in
theorem iNodeMode_any (a : Option Addr) (len cap : Nat) (l : List Nd) (now : Int) (n : Int) (hm : len ≤ 9223372036854775807) (hf : ∀ i, i < len → NdFit 1048576 (ndAt l i)) (w : World) (hi : Nds a len l w) :
    Calls Try.prog 14 #[.agg #[.slice a len cap, .int .i64 now], .int .i64 n] w fun e w' => e = .returned (.int .i64 (mdO l now n)) ∧ Below w.heap.size w w' := by
  have HT : Hid (∀ w', Below w.heap.size w w' → Calls Try.prog 28 #[.agg #[.slice a len cap, .int .i64 now]] w' fun e w'' => e = .returned (.bool (treeB l now)) ∧ Below w'.heap.size w' w'') := (fun w' hb => by rw [← tree_same]; exact iTree_any a len cap l now hm hf w' (hi.below hb))
  have hll := hi.1
  cases ht : treeB l now
  · have HE : Hid (mdO l now n = 0) := (by show _ = _; simp [mdO, ht])
    rw [ht] at HT
    clear hi hf hll
    have HB : Hid (Below w.heap.size w (w.alloc (.cells #[.slice a len cap, .int .i64 now] 29))) := bel_alloc _ _
    have HX : Hid (BoxR (w.alloc (.cells #[.slice a len cap, .int .i64 now] 29)) w.heap.size [.slice a len cap, .int .i64 now]) := boxR_new _ _ _
    go_enter Try.func14, Try.ntmps14
    go_upto_region 1 with fail
    generalize (w.alloc (.cells #[.slice a len cap, .int .i64 now] 29)) = w0 at HB HX ⊢
    obtain ⟨X, hX⟩ : ∃ X, X = w.heap.size := ⟨_, rfl⟩
    rw [← hX] at HX ⊢
    clear hX
    have t0 : w0.cell? ⟨X, 0, none⟩ = some (.slice a len cap) := HX.out.at0 0 _ rfl
    have t1 : w0.cell? ⟨X, 1, none⟩ = some (.int .i64 now) := HX.out.at0 1 _ rfl
    go_wp2_with (go_at_call 28; refine (HT.out _ HB.out).mono ?_; rintro e w1 ⟨rfl, hb⟩; replace HB : Hid (Below w.heap.size w w1) := Below.on HB.out hb; replace HX : Hid (BoxR w1 X [.slice a len cap, .int .i64 now]) := HX.out.below hb; clear hb; replace t0 : w1.cell? ⟨X, 0, none⟩ = some (.slice a len cap) := HX.out.at0 0 _ rfl; replace t1 : w1.cell? ⟨X, 1, none⟩ = some (.int .i64 now) := HX.out.at0 1 _ rfl)
    go_ret
    exact ⟨by rw [HE.out]; rfl, HB.out⟩
  have hlen : len ≤ 12 := by rw [← hll]; exact tree_len ht
  have HC : Hid (∀ w', Below w.heap.size w w' → Calls Try.prog 33 #[.agg #[.slice a len cap, .int .i64 now], .int .i64 n] w' fun e w'' => e = .returned (.bool (thB l n)) ∧ Below w'.heap.size w' w'') := (fun w' hb => iThere_any a len cap l now n (by omega) w' (hi.below hb))
  rw [ht] at HT
  cases hth : thB l n
  · have HE : Hid (mdO l now n = 0) := (by show _ = _; simp [mdO, ht, hth])
    rw [hth] at HC
    clear hi hf hll ht
    have HB : Hid (Below w.heap.size w (w.alloc (.cells #[.slice a len cap, .int .i64 now] 29))) := bel_alloc _ _
    have HX : Hid (BoxR (w.alloc (.cells #[.slice a len cap, .int .i64 now] 29)) w.heap.size [.slice a len cap, .int .i64 now]) := boxR_new _ _ _
    go_enter Try.func14, Try.ntmps14
    go_upto_region 1 with fail
    generalize (w.alloc (.cells #[.slice a len cap, .int .i64 now] 29)) = w0 at HB HX ⊢
    obtain ⟨X, hX⟩ : ∃ X, X = w.heap.size := ⟨_, rfl⟩
    rw [← hX] at HX ⊢
    clear hX
    have t0 : w0.cell? ⟨X, 0, none⟩ = some (.slice a len cap) := HX.out.at0 0 _ rfl
    have t1 : w0.cell? ⟨X, 1, none⟩ = some (.int .i64 now) := HX.out.at0 1 _ rfl
    go_wp2_with (first
      | (go_at_call 28; refine (HT.out _ HB.out).mono ?_; rintro e w1 ⟨rfl, hb⟩; replace HB : Hid (Below w.heap.size w w1) := Below.on HB.out hb; replace HX : Hid (BoxR w1 X [.slice a len cap, .int .i64 now]) := HX.out.below hb; clear hb; replace t0 : w1.cell? ⟨X, 0, none⟩ = some (.slice a len cap) := HX.out.at0 0 _ rfl; replace t1 : w1.cell? ⟨X, 1, none⟩ = some (.int .i64 now) := HX.out.at0 1 _ rfl)
      | (go_at_call 33; refine (HC.out _ HB.out).mono ?_; rintro e w1 ⟨rfl, hb⟩; replace HB : Hid (Below w.heap.size w w1) := Below.on HB.out hb; replace HX : Hid (BoxR w1 X [.slice a len cap, .int .i64 now]) := HX.out.below hb; clear hb; replace t0 : w1.cell? ⟨X, 0, none⟩ = some (.slice a len cap) := HX.out.at0 0 _ rfl; replace t1 : w1.cell? ⟨X, 1, none⟩ = some (.int .i64 now) := HX.out.at0 1 _ rfl))
    go_ret
    exact ⟨by rw [HE.out]; rfl, HB.out⟩
  · have HE0 : Hid (mdO l now n = (ndAt l (n - 1).toNat).mode) := (by show _ = _; simp [mdO, ht, hth])
    rw [hth] at HC
    obtain ⟨h1, h2⟩ := inR_iff.1 (thB_num hth)
    obtain ⟨k, rfl⟩ : ∃ k : Nat, n = (k : Int) + 1 := ⟨(n - 1).toNat, by omega⟩
    have hk : k < len := by omega
    obtain ⟨b, off, Y, rfl, hb0, hc⟩ := hi.2 (by omega)
    have HN : Hid (N24 w b (off + k * 24) (ndAt l k) (Y k)) := (hc k hk).1
    have HM : Hid (NdIn w (ndAt l k) (Y k)) := (hc k hk).2
    have hk1 : (k : Int) < (len : Int) := by omega
    have hk0 : (0 : Int) ≤ (k : Int) := by omega
    rw [at_succ] at HE0
    obtain ⟨⟨x0, x7⟩, f2, -, -⟩ := node_facts (node_is ht hth)
    clear hi hf hll ht hth hc h1 h2
    generalize ndAt l k = x at HN HM HE0 x0 x7 f2
    generalize Y k = y at HN HM
    obtain ⟨⟨u0, u1⟩, _, ⟨o0, o1⟩, _⟩ := aclB_parts f2
    obtain ⟨k0, k1⟩ := clsOf_in f2
    have HMd : Hid (∀ w', Below w.heap.size w w' → Calls Try.prog 34 #[.agg #[.int .i64 x.A.u, .int .i64 x.A.g, .int .i64 x.A.o, .slice y.aU x.A.us.length y.cU, .slice y.aG x.A.gs.length y.cG, .bool x.A.r, .int .i64 x.A.m]] w' fun e w'' => e = .returned (.int .i64 (64 * x.A.u + 8 * clsOf x.A.g x.A.r x.A.m + x.A.o)) ∧ Below w'.heap.size w' w'') := (fun w' hb => by
      have h := iModeOf_any x.A.u x.A.g x.A.o y.aU x.A.us.length y.cU y.aG x.A.gs.length y.cG x.A.r x.A.m x.A.us x.A.gs w' (HM.out.aU.below hb) (HM.out.aG.below hb)
      simpa only [modeOfB, f2, if_true] using h)
    have HE : Hid (mdO l now ((k : Int) + 1) = 512 * x.ex + (64 * x.A.u + 8 * clsOf x.A.g x.A.r x.A.m + x.A.o)) := HE0.out
    obtain ⟨m, hm⟩ : ∃ m, m = 64 * x.A.u + 8 * clsOf x.A.g x.A.r x.A.m + x.A.o := ⟨_, rfl⟩
    rw [← hm] at HMd HE
    have m0 : 0 ≤ m := by omega
    have m1 : m ≤ 511 := by omega
    clear hm f2 HE0 u0 u1 o0 o1 k0 k1 HM
    have HB : Hid (Below w.heap.size w (w.alloc (.cells #[.slice (some ⟨b, off, none⟩) len cap, .int .i64 now] 29))) := bel_alloc _ _
    have HX : Hid (BoxR (w.alloc (.cells #[.slice (some ⟨b, off, none⟩) len cap, .int .i64 now] 29)) w.heap.size [.slice (some ⟨b, off, none⟩) len cap, .int .i64 now]) := boxR_new _ _ _
    go_enter Try.func14, Try.ntmps14
    go_upto_region 1 with fail
    generalize (w.alloc (.cells #[.slice (some ⟨b, off, none⟩) len cap, .int .i64 now] 29)) = w0 at HB HX ⊢
    obtain ⟨X, hX⟩ : ∃ X, X = w.heap.size := ⟨_, rfl⟩
    rw [← hX] at HX ⊢
    clear hX
    have t0 : w0.cell? ⟨X, 0, none⟩ = some (.slice (some ⟨b, off, none⟩) len cap) := HX.out.at0 0 _ rfl
    have t1 : w0.cell? ⟨X, 1, none⟩ = some (.int .i64 now) := HX.out.at0 1 _ rfl
    go_upto_region 3 with (first
      | (go_at_call 28; refine (HT.out _ HB.out).mono ?_; rintro e w1 ⟨rfl, hb⟩; replace HB : Hid (Below w.heap.size w w1) := Below.on HB.out hb; replace HX : Hid (BoxR w1 X [.slice (some ⟨b, off, none⟩) len cap, .int .i64 now]) := HX.out.below hb; clear hb; replace t0 : w1.cell? ⟨X, 0, none⟩ = some (.slice (some ⟨b, off, none⟩) len cap) := HX.out.at0 0 _ rfl; replace t1 : w1.cell? ⟨X, 1, none⟩ = some (.int .i64 now) := HX.out.at0 1 _ rfl)
      | (go_at_call 33; refine (HC.out _ HB.out).mono ?_; rintro e w1 ⟨rfl, hb⟩; replace HB : Hid (Below w.heap.size w w1) := Below.on HB.out hb; replace HX : Hid (BoxR w1 X [.slice (some ⟨b, off, none⟩) len cap, .int .i64 now]) := HX.out.below hb; clear hb; replace t0 : w1.cell? ⟨X, 0, none⟩ = some (.slice (some ⟨b, off, none⟩) len cap) := HX.out.at0 0 _ rfl; replace t1 : w1.cell? ⟨X, 1, none⟩ = some (.int .i64 now) := HX.out.at0 1 _ rfl))
    have HNk : Hid (N24 w1 b (off + k * 24) x y) := range_below HN.out hb0 HB.out
    have hbR : Below w1.heap.size w1 ((w1.alloc (.cells #[.int .i64 0, .int .i64 0, .int .i64 0, .int .i64 0, .int .i64 0, .int .i64 0, .int .i64 0, .slice none 0 0, .slice none 0 0, .bool false, .int .i64 0, .bool false, .int .i64 0, .int .i64 0, .int .i64 0, .slice none 0 0, .slice none 0 0, .bool false, .int .i64 0, .int .i64 0, .int .i64 0, .string ⟨#[]⟩, .slice none 0 0, .int .i64 0] 51)).setCells w1.heap.size 0 (ndV x y)) := bl_setsT (Nat.le_refl _) _ _ (bel_alloc _ _)
    have HBr : Hid (Below w.heap.size w ((w1.alloc (.cells #[.int .i64 0, .int .i64 0, .int .i64 0, .int .i64 0, .int .i64 0, .int .i64 0, .int .i64 0, .slice none 0 0, .slice none 0 0, .bool false, .int .i64 0, .bool false, .int .i64 0, .int .i64 0, .int .i64 0, .slice none 0 0, .slice none 0 0, .bool false, .int .i64 0, .int .i64 0, .int .i64 0, .string ⟨#[]⟩, .slice none 0 0, .int .i64 0] 51)).setCells w1.heap.size 0 (ndV x y))) := Below.on HB.out hbR
    have HZr : Hid (BoxR ((w1.alloc (.cells #[.int .i64 0, .int .i64 0, .int .i64 0, .int .i64 0, .int .i64 0, .int .i64 0, .int .i64 0, .slice none 0 0, .slice none 0 0, .bool false, .int .i64 0, .bool false, .int .i64 0, .int .i64 0, .int .i64 0, .slice none 0 0, .slice none 0 0, .bool false, .int .i64 0, .int .i64 0, .int .i64 0, .string ⟨#[]⟩, .slice none 0 0, .int .i64 0] 51)).setCells w1.heap.size 0 (ndV x y)) w1.heap.size (ndV x y)) := ⟨by rw [size_setCellsT]; simp, World.rangeAt_setCells_same _ _ _ _ ((boxW_new w1 [.int .i64 0, .int .i64 0, .int .i64 0, .int .i64 0, .int .i64 0, .int .i64 0, .int .i64 0, .slice none 0 0, .slice none 0 0, .bool false, .int .i64 0, .bool false, .int .i64 0, .int .i64 0, .int .i64 0, .slice none 0 0, .slice none 0 0, .bool false, .int .i64 0, .int .i64 0, .int .i64 0, .string ⟨#[]⟩, .slice none 0 0, .int .i64 0] 51).there 0 24 (by simp))⟩
    clear hbR HB HX HN
    go_upto_region 4 with (first | (refine wpList_load_mid (by rfl) 51 _ (by rfl) _ _ (by rfl) _ _ HNk.out Try.underlying51 rfl (by kernel_rfl) ?_) | (refine wpList_store_list (by rfl) 51 _ _ (by rfl) _ _ (ndV x y) (by rfl) (by rfl) ((boxW_new w1 [.int .i64 0, .int .i64 0, .int .i64 0, .int .i64 0, .int .i64 0, .int .i64 0, .int .i64 0, .slice none 0 0, .slice none 0 0, .bool false, .int .i64 0, .bool false, .int .i64 0, .int .i64 0, .int .i64 0, .slice none 0 0, .slice none 0 0, .bool false, .int .i64 0, .int .i64 0, .int .i64 0, .string ⟨#[]⟩, .slice none 0 0, .int .i64 0] 51).there 0 24 (by simp)) (by kernel_rfl) (ndV_ones _ _) ?_))
    simp only [Act.put]
    generalize ((w1.alloc (.cells #[.int .i64 0, .int .i64 0, .int .i64 0, .int .i64 0, .int .i64 0, .int .i64 0, .int .i64 0, .slice none 0 0, .slice none 0 0, .bool false, .int .i64 0, .bool false, .int .i64 0, .int .i64 0, .int .i64 0, .slice none 0 0, .slice none 0 0, .bool false, .int .i64 0, .int .i64 0, .int .i64 0, .string ⟨#[]⟩, .slice none 0 0, .int .i64 0] 51)).setCells w1.heap.size 0 (ndV x y)) = wn at HBr HZr ⊢
    generalize w1.heap.size = Z at HZr ⊢
    have cA : ∀ d os, Calls Try.prog 34 #[.agg #[.int .i64 x.A.u, .int .i64 x.A.g, .int .i64 x.A.o, .slice y.aU x.A.us.length y.cU, .slice y.aG x.A.gs.length y.cG, .bool x.A.r, .int .i64 x.A.m]] (Go.Sort.grow (redrawn wn d) os) fun e w'' => e = .returned (.int .i64 m) ∧ ∃ p : Regrown, w'' = Go.Sort.grow (redrawn wn p.d) p.os := fun d os => Calls.regrown_of (HMd.out _ (Below.on HBr.out (below_regrown wn d os)))
    have z3 : ∀ d os, (Go.Sort.grow (redrawn wn d) os).cell? ⟨Z, 3, none⟩ = some (.int .i64 x.ex) := fun d os => cell_regrown (NB.c3 HZr.out) d os
    have z4 : ∀ d os, (Go.Sort.grow (redrawn wn d) os).cell? ⟨Z, 4, none⟩ = some (.int .i64 x.A.u) := fun d os => cell_regrown (NB.c4 HZr.out) d os
    have z5 : ∀ d os, (Go.Sort.grow (redrawn wn d) os).cell? ⟨Z, 5, none⟩ = some (.int .i64 x.A.g) := fun d os => cell_regrown (NB.c5 HZr.out) d os
    have z6 : ∀ d os, (Go.Sort.grow (redrawn wn d) os).cell? ⟨Z, 6, none⟩ = some (.int .i64 x.A.o) := fun d os => cell_regrown (NB.c6 HZr.out) d os
    have z7 : ∀ d os, (Go.Sort.grow (redrawn wn d) os).cell? ⟨Z, 7, none⟩ = some (.slice y.aU x.A.us.length y.cU) := fun d os => cell_regrown (NB.c7 HZr.out) d os
    have z8 : ∀ d os, (Go.Sort.grow (redrawn wn d) os).cell? ⟨Z, 8, none⟩ = some (.slice y.aG x.A.gs.length y.cG) := fun d os => cell_regrown (NB.c8 HZr.out) d os
    have z9 : ∀ d os, (Go.Sort.grow (redrawn wn d) os).cell? ⟨Z, 9, none⟩ = some (.bool x.A.r) := fun d os => cell_regrown (NB.c9 HZr.out) d os
    have z10 : ∀ d os, (Go.Sort.grow (redrawn wn d) os).cell? ⟨Z, 10, none⟩ = some (.int .i64 x.A.m) := fun d os => cell_regrown (NB.c10 HZr.out) d os
    refine wp_region_quiet_below (by kernel_rfl) (by kernel_rfl) ?_
    repeat (go_big_quiet_step (exact cA _ _))
    refine wpQuiet_nil ?_
    intro _ hw'
    obtain ⟨⟨dq, osq⟩, hw''⟩ := hw'
    subst hw''
    have hbq : Hid (Below w.heap.size w (Go.Sort.grow (redrawn wn dq) osq)) := Below.on HBr.out (below_regrown wn dq osq)
    generalize Go.Sort.grow (redrawn wn dq) osq = w3 at hbq ⊢
    clear z3 z4 z5 z6 z7 z8 z9 z10 cA
    go_wp2
    go_ret
    exact ⟨ret_intM (by rw [HE.out]; exact or2i _ _ x0 x7 m0 m1), hbq.out⟩
end Go.Proofs.Ytcgkkeooigjbbaa
