/- Laid together: AccI, AccP, AccS. -/
import Derived.Test.YtdgejnaceeoooaaGreatDoorBA45
import Derived.Laws.EntriesVeiled
import Derived.Test.YtdgejnaceeoooaaGreatDoorBA38
import Derived.Test.YtdgejnaceeoooaaGreatDoorBA34
import Derived.Deep.DeepCutAuto
/- impl.Access. -/
namespace Go.Proofs.YtdgejnaceeoooaaGreatDoor
open Go.RowKit Go.PlainAid Go.Deep
set_option linter.unusedVariables false
/-- What asking leads to, of a right number wanted. -/
def askC (l : List Nd) (now u g : Int) (cl : Nat) (r : Bool) (cf : Nat → Int) (s : ByteArray) (want : Int) : Int :=
  if (wayN (wkF l now u g cl r cf s true)).c = 0 then (if letB (ndAt l ((wayN (wkF l now u g cl r cf s true)).n - 1).toNat) u g cl r cf want then 0 else 11) else (wayN (wkF l now u g cl r cf s true)).c
def accC (l : List Nd) (now u g : Int) (cl : Nat) (r : Bool) (cf : Nat → Int) (s : ByteArray) (want : Int) : Int :=
  if 8000 < s.size then 2 else if inR 0 7 want then askC l now u g cl r cf s want else 1
set_option maxRecDepth 20000 in
set_option maxHeartbeats 8000000 in
theorem iAsk_any (a : Option Addr) (len cap : Nat) (l : List Nd) (now : Int) (u g : Int) (ca : Option Addr) (cl cc : Nat) (r : Bool) (cf : Nat → Int) (s : ByteArray) (want : Int) (m : Int) (e1 e2 e3 e4 : Addr) (hw7 : inR 0 7 want = true) (hm : len ≤ 9223372036854775807) (hf : ∀ i, i < len → NdFit 1048576 (ndAt l i)) (hs : s.size ≤ 1048576) (w : World) (hi : Nds a len l w) (hci : Ints ca cl cf w) (hmx : w.cell? ⟨4, 0, none⟩ = some (.int .i64 m)) (hE : Errs w e1 e2 e3 e4) :
    Calls Tryz.prog 149 #[.agg #[.slice a len cap, .int .i64 now], .agg #[.int .i64 u, .int .i64 g, .slice ca cl cc, .bool r], .agg #[.string s, .int .i64 want]] w fun e w' => e = .returned (.agg #[.int .i64 (askC l now u g cl r cf s want), .int .i64 0, .nilFunc, .slice none 0 0, .string ⟨#[]⟩]) ∧ Below w.heap.size w w' := by
  have HWk : Hid (∀ w', Below w.heap.size w w' → Calls Tryz.prog 186 #[.agg #[.slice a len cap, .int .i64 now], .agg #[.int .i64 u, .int .i64 g, .slice ca cl cc, .bool r], .string s, .bool true] w' fun e w'' => e = .returned (woV (wayN (wkF l now u g cl r cf s true))) ∧ Below w'.heap.size w' w'') := (fun w' hb => iWayN_any a len cap l now u g ca cl cc r cf s true m e1 e2 e3 e4 hm hf hs w' (hi.below hb) (hci.below hb) ((hb.cell (p := ⟨_, 0, none⟩) (block_lt_of_cell hmx)).trans hmx) (hE.below hb))
  have hth0 := wayN_there l now u g cl r cf s true
  have HE0 : askC l now u g cl r cf s want = if (wayN (wkF l now u g cl r cf s true)).c = 0 then (if letB (ndAt l ((wayN (wkF l now u g cl r cf s true)).n - 1).toNat) u g cl r cf want then 0 else 11) else (wayN (wkF l now u g cl r cf s true)).c := rfl
  generalize askC l now u g cl r cf s want = R at HE0 ⊢
  obtain ⟨F, hF⟩ : ∃ F, F = wayN (wkF l now u g cl r cf s true) := ⟨_, rfl⟩
  rw [← hF] at HWk hth0 HE0
  clear hF
  obtain ⟨n, fd, fn, c⟩ := F
  simp only at hth0 HE0
  by_cases hc : c = 0
  case neg =>
    have hc' : (c == 0) = false := by simpa using hc
    have HE : Hid (R = c) := (by show _ = _; rw [HE0, if_neg hc])
    have HWq : Hid (∀ w', Below w.heap.size w w' → Calls Tryz.prog 186 #[.agg #[.slice a len cap, .int .i64 now], .agg #[.int .i64 u, .int .i64 g, .slice ca cl cc, .bool r], .string s, .bool true] w' fun e w'' => e = .returned (.agg #[.int .i64 n, .int .i64 fd, .string fn, .int .i64 c]) ∧ Below w'.heap.size w' w'') := HWk
    clear hth0 HE0 hi hf hci hmx hE HWk hw7 hc
    have HB : Hid (Below w.heap.size w ((((w.alloc (.cells #[.slice a len cap, .int .i64 now] 35)).alloc (.cells #[.int .i64 u, .int .i64 g, .slice ca cl cc, .bool r] 37)).alloc (.cells #[.string s, .int .i64 want] 98)).alloc (.cells #[.int .i64 0, .int .i64 0, .nilFunc, .slice none 0 0, .string ⟨#[]⟩] 93))) := (Below.on (Below.on (Below.on (Below.on (Below.refl _ _) (bel_alloc _ _)) (bel_alloc _ _)) (bel_alloc _ _)) (bel_alloc _ _))
    have HX : Hid (BoxR ((((w.alloc (.cells #[.slice a len cap, .int .i64 now] 35)).alloc (.cells #[.int .i64 u, .int .i64 g, .slice ca cl cc, .bool r] 37)).alloc (.cells #[.string s, .int .i64 want] 98)).alloc (.cells #[.int .i64 0, .int .i64 0, .nilFunc, .slice none 0 0, .string ⟨#[]⟩] 93)) (w.heap.size) [.slice a len cap, .int .i64 now]) := (by
      have h := ((((boxR_new w [.slice a len cap, .int .i64 now] 35).below (bel_alloc (w.alloc (.cells #[.slice a len cap, .int .i64 now] 35)) (.cells #[.int .i64 u, .int .i64 g, .slice ca cl cc, .bool r] 37))).below (bel_alloc ((w.alloc (.cells #[.slice a len cap, .int .i64 now] 35)).alloc (.cells #[.int .i64 u, .int .i64 g, .slice ca cl cc, .bool r] 37)) (.cells #[.string s, .int .i64 want] 98))).below (bel_alloc (((w.alloc (.cells #[.slice a len cap, .int .i64 now] 35)).alloc (.cells #[.int .i64 u, .int .i64 g, .slice ca cl cc, .bool r] 37)).alloc (.cells #[.string s, .int .i64 want] 98)) (.cells #[.int .i64 0, .int .i64 0, .nilFunc, .slice none 0 0, .string ⟨#[]⟩] 93)))
      exact h)
    have HC : Hid (BoxR ((((w.alloc (.cells #[.slice a len cap, .int .i64 now] 35)).alloc (.cells #[.int .i64 u, .int .i64 g, .slice ca cl cc, .bool r] 37)).alloc (.cells #[.string s, .int .i64 want] 98)).alloc (.cells #[.int .i64 0, .int .i64 0, .nilFunc, .slice none 0 0, .string ⟨#[]⟩] 93)) (w.heap.size + 1) [.int .i64 u, .int .i64 g, .slice ca cl cc, .bool r]) := (by
      have h := (((boxR_new (w.alloc (.cells #[.slice a len cap, .int .i64 now] 35)) [.int .i64 u, .int .i64 g, .slice ca cl cc, .bool r] 37).below (bel_alloc ((w.alloc (.cells #[.slice a len cap, .int .i64 now] 35)).alloc (.cells #[.int .i64 u, .int .i64 g, .slice ca cl cc, .bool r] 37)) (.cells #[.string s, .int .i64 want] 98))).below (bel_alloc (((w.alloc (.cells #[.slice a len cap, .int .i64 now] 35)).alloc (.cells #[.int .i64 u, .int .i64 g, .slice ca cl cc, .bool r] 37)).alloc (.cells #[.string s, .int .i64 want] 98)) (.cells #[.int .i64 0, .int .i64 0, .nilFunc, .slice none 0 0, .string ⟨#[]⟩] 93)))
      simp only [World.size_alloc] at h
      exact h)
    have HA : Hid (BoxR ((((w.alloc (.cells #[.slice a len cap, .int .i64 now] 35)).alloc (.cells #[.int .i64 u, .int .i64 g, .slice ca cl cc, .bool r] 37)).alloc (.cells #[.string s, .int .i64 want] 98)).alloc (.cells #[.int .i64 0, .int .i64 0, .nilFunc, .slice none 0 0, .string ⟨#[]⟩] 93)) (w.heap.size + 1 + 1) [.string s, .int .i64 want]) := (by
      have h := ((boxR_new ((w.alloc (.cells #[.slice a len cap, .int .i64 now] 35)).alloc (.cells #[.int .i64 u, .int .i64 g, .slice ca cl cc, .bool r] 37)) [.string s, .int .i64 want] 98).below (bel_alloc (((w.alloc (.cells #[.slice a len cap, .int .i64 now] 35)).alloc (.cells #[.int .i64 u, .int .i64 g, .slice ca cl cc, .bool r] 37)).alloc (.cells #[.string s, .int .i64 want] 98)) (.cells #[.int .i64 0, .int .i64 0, .nilFunc, .slice none 0 0, .string ⟨#[]⟩] 93)))
      simp only [World.size_alloc] at h
      exact h)
    have HO : Hid (BoxW ((((w.alloc (.cells #[.slice a len cap, .int .i64 now] 35)).alloc (.cells #[.int .i64 u, .int .i64 g, .slice ca cl cc, .bool r] 37)).alloc (.cells #[.string s, .int .i64 want] 98)).alloc (.cells #[.int .i64 0, .int .i64 0, .nilFunc, .slice none 0 0, .string ⟨#[]⟩] 93)) (w.heap.size + 1 + 1 + 1) [.int .i64 0, .int .i64 0, .nilFunc, .slice none 0 0, .string ⟨#[]⟩]) := (by
      have h := (boxW_new (((w.alloc (.cells #[.slice a len cap, .int .i64 now] 35)).alloc (.cells #[.int .i64 u, .int .i64 g, .slice ca cl cc, .bool r] 37)).alloc (.cells #[.string s, .int .i64 want] 98)) [.int .i64 0, .int .i64 0, .nilFunc, .slice none 0 0, .string ⟨#[]⟩] 93)
      simp only [World.size_alloc] at h
      exact h)
    go_enter Tryz.func149, Tryz.ntmps149
    go_upto_region 1 with fail
    generalize ((((w.alloc (.cells #[.slice a len cap, .int .i64 now] 35)).alloc (.cells #[.int .i64 u, .int .i64 g, .slice ca cl cc, .bool r] 37)).alloc (.cells #[.string s, .int .i64 want] 98)).alloc (.cells #[.int .i64 0, .int .i64 0, .nilFunc, .slice none 0 0, .string ⟨#[]⟩] 93)) = w0 at HB HX HC HA HO ⊢
    obtain ⟨X, hX⟩ : ∃ X, X = w.heap.size := ⟨_, rfl⟩
    have HXw : Hid (X = w.heap.size) := hX
    rw [← hX] at HX HC HA HO ⊢
    clear hX
    have t0 : w0.cell? ⟨X, 0, none⟩ = some (.slice a len cap) := HX.out.at0 0 _ rfl
    have t1 : w0.cell? ⟨X, 1, none⟩ = some (.int .i64 now) := HX.out.at0 1 _ rfl
    have c0 : w0.cell? ⟨X + 1, 0, none⟩ = some (.int .i64 u) := HC.out.at0 0 _ rfl
    have c1 : w0.cell? ⟨X + 1, 1, none⟩ = some (.int .i64 g) := HC.out.at0 1 _ rfl
    have c2 : w0.cell? ⟨X + 1, 2, none⟩ = some (.slice ca cl cc) := HC.out.at0 2 _ rfl
    have c3 : w0.cell? ⟨X + 1, 3, none⟩ = some (.bool r) := HC.out.at0 3 _ rfl
    have a0 : w0.cell? ⟨X + 1 + 1, 0, none⟩ = some (.string s) := HA.out.at0 0 _ rfl
    have a1 : w0.cell? ⟨X + 1 + 1, 1, none⟩ = some (.int .i64 want) := HA.out.at0 1 _ rfl
    go_wp2_with fail
    refine (HWq.out _ HB.out).mono ?_
    rintro e w1 ⟨rfl, hb⟩
    replace HB : Hid (Below w.heap.size w w1) := Below.on HB.out hb
    replace HX : Hid (BoxR w1 (X) [.slice a len cap, .int .i64 now]) := HX.out.below hb
    replace HC : Hid (BoxR w1 (X + 1) [.int .i64 u, .int .i64 g, .slice ca cl cc, .bool r]) := HC.out.below hb
    replace HA : Hid (BoxR w1 (X + 1 + 1) [.string s, .int .i64 want]) := HA.out.below hb
    replace HO : Hid (BoxW w1 (X + 1 + 1 + 1) [.int .i64 0, .int .i64 0, .nilFunc, .slice none 0 0, .string ⟨#[]⟩]) := HO.out.below hb
    have hbN : Below w1.heap.size w1 (w1.alloc (.cells #[.int .i64 n, .int .i64 fd, .string fn, .int .i64 c] 31)) := bel_alloc _ _
    have HZ : Hid (BoxR (w1.alloc (.cells #[.int .i64 n, .int .i64 fd, .string fn, .int .i64 c] 31)) w1.heap.size [.int .i64 n, .int .i64 fd, .string fn, .int .i64 c]) := boxR_new _ _ _
    replace HB : Hid (Below w.heap.size w (w1.alloc (.cells #[.int .i64 n, .int .i64 fd, .string fn, .int .i64 c] 31))) := Below.on HB.out hbN
    replace HX : Hid (BoxR (w1.alloc (.cells #[.int .i64 n, .int .i64 fd, .string fn, .int .i64 c] 31)) (X) [.slice a len cap, .int .i64 now]) := HX.out.below hbN
    replace HC : Hid (BoxR (w1.alloc (.cells #[.int .i64 n, .int .i64 fd, .string fn, .int .i64 c] 31)) (X + 1) [.int .i64 u, .int .i64 g, .slice ca cl cc, .bool r]) := HC.out.below hbN
    replace HA : Hid (BoxR (w1.alloc (.cells #[.int .i64 n, .int .i64 fd, .string fn, .int .i64 c] 31)) (X + 1 + 1) [.string s, .int .i64 want]) := HA.out.below hbN
    replace HO : Hid (BoxW (w1.alloc (.cells #[.int .i64 n, .int .i64 fd, .string fn, .int .i64 c] 31)) (X + 1 + 1 + 1) [.int .i64 0, .int .i64 0, .nilFunc, .slice none 0 0, .string ⟨#[]⟩]) := HO.out.below hbN
    clear hb hbN t0 t1 c0 c1 c2 c3 a0 a1 HWq
    go_upto_region 2 with fail
    generalize (w1.alloc (.cells #[.int .i64 n, .int .i64 fd, .string fn, .int .i64 c] 31)) = w3 at HB HX HC HA HO HZ ⊢
    generalize w1.heap.size = Z at HZ ⊢
    clear w0
    generalize w3 = w0 at HB HX HC HA HO HZ ⊢
    have t0 : ∀ d os, (Go.Sort.grow (redrawn w0 d) os).cell? ⟨X, 0, none⟩ = some (.slice a len cap) := fun d os => cell_regrown (HX.out.at0 0 _ rfl) d os
    have y0 : ∀ d os, (Go.Sort.grow (redrawn w0 d) os).cell? ⟨X + 1, 0, none⟩ = some (.int .i64 u) := fun d os => cell_regrown (HC.out.at0 0 _ rfl) d os
    have y1 : ∀ d os, (Go.Sort.grow (redrawn w0 d) os).cell? ⟨X + 1, 1, none⟩ = some (.int .i64 g) := fun d os => cell_regrown (HC.out.at0 1 _ rfl) d os
    have y2 : ∀ d os, (Go.Sort.grow (redrawn w0 d) os).cell? ⟨X + 1, 2, none⟩ = some (.slice ca cl cc) := fun d os => cell_regrown (HC.out.at0 2 _ rfl) d os
    have y3 : ∀ d os, (Go.Sort.grow (redrawn w0 d) os).cell? ⟨X + 1, 3, none⟩ = some (.bool r) := fun d os => cell_regrown (HC.out.at0 3 _ rfl) d os
    have a1 : ∀ d os, (Go.Sort.grow (redrawn w0 d) os).cell? ⟨X + 1 + 1, 1, none⟩ = some (.int .i64 want) := fun d os => cell_regrown (HA.out.at0 1 _ rfl) d os
    have z0 : ∀ d os, (Go.Sort.grow (redrawn w0 d) os).cell? ⟨Z, 0, none⟩ = some (.int .i64 n) := fun d os => cell_regrown (HZ.out.at0 0 _ rfl) d os
    have z3 : ∀ d os, (Go.Sort.grow (redrawn w0 d) os).cell? ⟨Z, 3, none⟩ = some (.int .i64 c) := fun d os => cell_regrown (HZ.out.at0 3 _ rfl) d os
    refine wp_region_quiet_below (by kernel_rfl) (by kernel_rfl) ?_
    repeat (first
        | go_big_quiet_skip
        | (go_big_quiet_want; go_big_quiet_op; first | go_big_quiet_on))
    refine wpQuiet_nil ?_
    intro _ hw'
    obtain ⟨⟨dq, osq⟩, hw''⟩ := hw'
    subst hw''
    have hbq : Below w0.heap.size w0 (Go.Sort.grow (redrawn w0 dq) osq) := below_regrown w0 dq osq
    replace HB : Hid (Below w.heap.size w (Go.Sort.grow (redrawn w0 dq) osq)) := Below.on HB.out hbq
    replace HX : Hid (BoxR (Go.Sort.grow (redrawn w0 dq) osq) (X) [.slice a len cap, .int .i64 now]) := HX.out.below hbq
    replace HC : Hid (BoxR (Go.Sort.grow (redrawn w0 dq) osq) (X + 1) [.int .i64 u, .int .i64 g, .slice ca cl cc, .bool r]) := HC.out.below hbq
    replace HA : Hid (BoxR (Go.Sort.grow (redrawn w0 dq) osq) (X + 1 + 1) [.string s, .int .i64 want]) := HA.out.below hbq
    replace HO : Hid (BoxW (Go.Sort.grow (redrawn w0 dq) osq) (X + 1 + 1 + 1) [.int .i64 0, .int .i64 0, .nilFunc, .slice none 0 0, .string ⟨#[]⟩]) := HO.out.below hbq
    replace HZ : Hid (BoxR (Go.Sort.grow (redrawn w0 dq) osq) (Z) [.int .i64 n, .int .i64 fd, .string fn, .int .i64 c]) := HZ.out.below hbq
    clear hbq
    generalize Go.Sort.grow (redrawn w0 dq) osq = w2 at HB HX HC HA HO HZ ⊢
    clear t0 y0 y1 y2 y3 a1 z0 z3
    have o0 : w2.cell? ⟨X + 1 + 1 + 1, 0, none⟩ = some (.int .i64 0) := HO.out.at0 0 _ rfl
    have o1 : w2.cell? ⟨X + 1 + 1 + 1, 1, none⟩ = some (.int .i64 0) := HO.out.at0 1 _ rfl
    have o2 : w2.cell? ⟨X + 1 + 1 + 1, 2, none⟩ = some (.nilFunc) := HO.out.at0 2 _ rfl
    have o3 : w2.cell? ⟨X + 1 + 1 + 1, 3, none⟩ = some (.slice none 0 0) := HO.out.at0 3 _ rfl
    have o4 : w2.cell? ⟨X + 1 + 1 + 1, 4, none⟩ = some (.string ⟨#[]⟩) := HO.out.at0 4 _ rfl
    have fz : ∀ o, w2.frozen? ⟨X + 1 + 1 + 1, o, none⟩ = false := HO.out.frz
    have z3 : w2.cell? ⟨Z, 3, none⟩ = some (.int .i64 c) := HZ.out.at0 3 _ rfl
    go_wp2
    refine bodyPost_ret (v := .agg #[.int .i64 (c), .int .i64 0, .nilFunc, .slice none 0 0, .string ⟨#[]⟩]) (by simp [results, Tryz.results149, go_sem, o0, o1, o2, o3, o4]) rfl ?_
    exact ⟨by rw [HE.out], (by repeat (first | exact HB.out | refine bl_setT ?_ (by have := HXw.out; omega)))⟩
  obtain ⟨rfl, ht, hcr, hth⟩ : c = 0 ∧ treeB l now = true ∧ credB u g cl cf = true ∧ thB l n = true := by
    rcases hth0 with h | h
    · exact absurd hc h
    · exact h
  clear hth0 hc
  have hll := hi.1
  have HE1 : Hid (R = if letB (ndAt l (n - 1).toNat) u g cl r cf want then 0 else 11) := (by show _ = _; rw [HE0, if_pos rfl])
  clear HE0
  obtain ⟨h1, h2⟩ := inR_iff.1 (thB_num hth)
  obtain ⟨k, rfl⟩ : ∃ k : Nat, n = (k : Int) + 1 := ⟨(n - 1).toNat, by omega⟩
  have hk : k < len := by omega
  obtain ⟨b, off, Y, rfl, hb0, hc⟩ := hi.2 (by omega)
  have HN : Hid (N24 w b (off + k * 24) (ndAt l k) (Y k)) := (hc k hk).1
  have HM : Hid (NdIn w (ndAt l k) (Y k)) := (hc k hk).2
  have hk1 : (k : Int) < (len : Int) := by omega
  have hk0 : (0 : Int) ≤ (k : Int) := by omega
  rw [at_succ] at HE1
  have HL : Hid (∀ w', Below w.heap.size w w' → Calls Tryz.prog 92 #[.agg (ndV (ndAt l k) (Y k)).toArray, .agg #[.int .i64 u, .int .i64 g, .slice ca cl cc, .bool r], .int .i64 want] w' fun e w'' => e = .returned (.bool (letB (ndAt l k) u g cl r cf want)) ∧ Below w'.heap.size w' w'') := (fun w' hb => iLet_any _ _ u g ca cl cc r cf want (ask_node (node_is ht hth) hcr hw7) w' ((hc k hk).2.below hb) (hci.below hb))
  have HWq : Hid (∀ w', Below w.heap.size w w' → Calls Tryz.prog 186 #[.agg #[.slice (some ⟨b, off, none⟩) len cap, .int .i64 now], .agg #[.int .i64 u, .int .i64 g, .slice ca cl cc, .bool r], .string s, .bool true] w' fun e w'' => e = .returned (.agg #[.int .i64 ((k : Int) + 1), .int .i64 fd, .string fn, .int .i64 0]) ∧ Below w'.heap.size w' w'') := HWk
  clear hi hf hci hll ht hth hc h1 h2 HM hcr hw7 HWk hmx hE
  generalize letB (ndAt l k) u g cl r cf want = lb at HE1 HL
  obtain ⟨cs1, hcs1⟩ : ∃ cs1, cs1 = ndV (ndAt l k) (Y k) := ⟨_, rfl⟩
  have hi1 : (Tryz.prog.info? 84).map (·.size) = some cs1.length := by rw [hcs1]; kernel_rfl
  have hu := Tryz.underlying84
  have HN2 : Hid (w.rangeAt b (off + k * 24) cs1) := (by rw [hcs1]; exact HN.out)
  rw [← hcs1] at HL
  clear hcs1 HN
  have HB : Hid (Below w.heap.size w ((((w.alloc (.cells #[.slice (some ⟨b, off, none⟩) len cap, .int .i64 now] 35)).alloc (.cells #[.int .i64 u, .int .i64 g, .slice ca cl cc, .bool r] 37)).alloc (.cells #[.string s, .int .i64 want] 98)).alloc (.cells #[.int .i64 0, .int .i64 0, .nilFunc, .slice none 0 0, .string ⟨#[]⟩] 93))) := (Below.on (Below.on (Below.on (Below.on (Below.refl _ _) (bel_alloc _ _)) (bel_alloc _ _)) (bel_alloc _ _)) (bel_alloc _ _))
  have HX : Hid (BoxR ((((w.alloc (.cells #[.slice (some ⟨b, off, none⟩) len cap, .int .i64 now] 35)).alloc (.cells #[.int .i64 u, .int .i64 g, .slice ca cl cc, .bool r] 37)).alloc (.cells #[.string s, .int .i64 want] 98)).alloc (.cells #[.int .i64 0, .int .i64 0, .nilFunc, .slice none 0 0, .string ⟨#[]⟩] 93)) (w.heap.size) [.slice (some ⟨b, off, none⟩) len cap, .int .i64 now]) := (by
    have h := ((((boxR_new w [.slice (some ⟨b, off, none⟩) len cap, .int .i64 now] 35).below (bel_alloc (w.alloc (.cells #[.slice (some ⟨b, off, none⟩) len cap, .int .i64 now] 35)) (.cells #[.int .i64 u, .int .i64 g, .slice ca cl cc, .bool r] 37))).below (bel_alloc ((w.alloc (.cells #[.slice (some ⟨b, off, none⟩) len cap, .int .i64 now] 35)).alloc (.cells #[.int .i64 u, .int .i64 g, .slice ca cl cc, .bool r] 37)) (.cells #[.string s, .int .i64 want] 98))).below (bel_alloc (((w.alloc (.cells #[.slice (some ⟨b, off, none⟩) len cap, .int .i64 now] 35)).alloc (.cells #[.int .i64 u, .int .i64 g, .slice ca cl cc, .bool r] 37)).alloc (.cells #[.string s, .int .i64 want] 98)) (.cells #[.int .i64 0, .int .i64 0, .nilFunc, .slice none 0 0, .string ⟨#[]⟩] 93)))
    exact h)
  have HC : Hid (BoxR ((((w.alloc (.cells #[.slice (some ⟨b, off, none⟩) len cap, .int .i64 now] 35)).alloc (.cells #[.int .i64 u, .int .i64 g, .slice ca cl cc, .bool r] 37)).alloc (.cells #[.string s, .int .i64 want] 98)).alloc (.cells #[.int .i64 0, .int .i64 0, .nilFunc, .slice none 0 0, .string ⟨#[]⟩] 93)) (w.heap.size + 1) [.int .i64 u, .int .i64 g, .slice ca cl cc, .bool r]) := (by
    have h := (((boxR_new (w.alloc (.cells #[.slice (some ⟨b, off, none⟩) len cap, .int .i64 now] 35)) [.int .i64 u, .int .i64 g, .slice ca cl cc, .bool r] 37).below (bel_alloc ((w.alloc (.cells #[.slice (some ⟨b, off, none⟩) len cap, .int .i64 now] 35)).alloc (.cells #[.int .i64 u, .int .i64 g, .slice ca cl cc, .bool r] 37)) (.cells #[.string s, .int .i64 want] 98))).below (bel_alloc (((w.alloc (.cells #[.slice (some ⟨b, off, none⟩) len cap, .int .i64 now] 35)).alloc (.cells #[.int .i64 u, .int .i64 g, .slice ca cl cc, .bool r] 37)).alloc (.cells #[.string s, .int .i64 want] 98)) (.cells #[.int .i64 0, .int .i64 0, .nilFunc, .slice none 0 0, .string ⟨#[]⟩] 93)))
    simp only [World.size_alloc] at h
    exact h)
  have HA : Hid (BoxR ((((w.alloc (.cells #[.slice (some ⟨b, off, none⟩) len cap, .int .i64 now] 35)).alloc (.cells #[.int .i64 u, .int .i64 g, .slice ca cl cc, .bool r] 37)).alloc (.cells #[.string s, .int .i64 want] 98)).alloc (.cells #[.int .i64 0, .int .i64 0, .nilFunc, .slice none 0 0, .string ⟨#[]⟩] 93)) (w.heap.size + 1 + 1) [.string s, .int .i64 want]) := (by
    have h := ((boxR_new ((w.alloc (.cells #[.slice (some ⟨b, off, none⟩) len cap, .int .i64 now] 35)).alloc (.cells #[.int .i64 u, .int .i64 g, .slice ca cl cc, .bool r] 37)) [.string s, .int .i64 want] 98).below (bel_alloc (((w.alloc (.cells #[.slice (some ⟨b, off, none⟩) len cap, .int .i64 now] 35)).alloc (.cells #[.int .i64 u, .int .i64 g, .slice ca cl cc, .bool r] 37)).alloc (.cells #[.string s, .int .i64 want] 98)) (.cells #[.int .i64 0, .int .i64 0, .nilFunc, .slice none 0 0, .string ⟨#[]⟩] 93)))
    simp only [World.size_alloc] at h
    exact h)
  have HO : Hid (BoxW ((((w.alloc (.cells #[.slice (some ⟨b, off, none⟩) len cap, .int .i64 now] 35)).alloc (.cells #[.int .i64 u, .int .i64 g, .slice ca cl cc, .bool r] 37)).alloc (.cells #[.string s, .int .i64 want] 98)).alloc (.cells #[.int .i64 0, .int .i64 0, .nilFunc, .slice none 0 0, .string ⟨#[]⟩] 93)) (w.heap.size + 1 + 1 + 1) [.int .i64 0, .int .i64 0, .nilFunc, .slice none 0 0, .string ⟨#[]⟩]) := (by
    have h := (boxW_new (((w.alloc (.cells #[.slice (some ⟨b, off, none⟩) len cap, .int .i64 now] 35)).alloc (.cells #[.int .i64 u, .int .i64 g, .slice ca cl cc, .bool r] 37)).alloc (.cells #[.string s, .int .i64 want] 98)) [.int .i64 0, .int .i64 0, .nilFunc, .slice none 0 0, .string ⟨#[]⟩] 93)
    simp only [World.size_alloc] at h
    exact h)
  go_enter Tryz.func149, Tryz.ntmps149
  go_upto_region 1 with fail
  generalize ((((w.alloc (.cells #[.slice (some ⟨b, off, none⟩) len cap, .int .i64 now] 35)).alloc (.cells #[.int .i64 u, .int .i64 g, .slice ca cl cc, .bool r] 37)).alloc (.cells #[.string s, .int .i64 want] 98)).alloc (.cells #[.int .i64 0, .int .i64 0, .nilFunc, .slice none 0 0, .string ⟨#[]⟩] 93)) = w0 at HB HX HC HA HO ⊢
  obtain ⟨X, hX⟩ : ∃ X, X = w.heap.size := ⟨_, rfl⟩
  have HXw : Hid (X = w.heap.size) := hX
  rw [← hX] at HX HC HA HO ⊢
  clear hX
  have t0 : w0.cell? ⟨X, 0, none⟩ = some (.slice (some ⟨b, off, none⟩) len cap) := HX.out.at0 0 _ rfl
  have t1 : w0.cell? ⟨X, 1, none⟩ = some (.int .i64 now) := HX.out.at0 1 _ rfl
  have c0 : w0.cell? ⟨X + 1, 0, none⟩ = some (.int .i64 u) := HC.out.at0 0 _ rfl
  have c1 : w0.cell? ⟨X + 1, 1, none⟩ = some (.int .i64 g) := HC.out.at0 1 _ rfl
  have c2 : w0.cell? ⟨X + 1, 2, none⟩ = some (.slice ca cl cc) := HC.out.at0 2 _ rfl
  have c3 : w0.cell? ⟨X + 1, 3, none⟩ = some (.bool r) := HC.out.at0 3 _ rfl
  have a0 : w0.cell? ⟨X + 1 + 1, 0, none⟩ = some (.string s) := HA.out.at0 0 _ rfl
  have a1 : w0.cell? ⟨X + 1 + 1, 1, none⟩ = some (.int .i64 want) := HA.out.at0 1 _ rfl
  go_wp2_with fail
  refine (HWq.out _ HB.out).mono ?_
  rintro e w1 ⟨rfl, hb⟩
  replace HB : Hid (Below w.heap.size w w1) := Below.on HB.out hb
  replace HX : Hid (BoxR w1 (X) [.slice (some ⟨b, off, none⟩) len cap, .int .i64 now]) := HX.out.below hb
  replace HC : Hid (BoxR w1 (X + 1) [.int .i64 u, .int .i64 g, .slice ca cl cc, .bool r]) := HC.out.below hb
  replace HA : Hid (BoxR w1 (X + 1 + 1) [.string s, .int .i64 want]) := HA.out.below hb
  replace HO : Hid (BoxW w1 (X + 1 + 1 + 1) [.int .i64 0, .int .i64 0, .nilFunc, .slice none 0 0, .string ⟨#[]⟩]) := HO.out.below hb
  have hbN : Below w1.heap.size w1 (w1.alloc (.cells #[.int .i64 ((k : Int) + 1), .int .i64 fd, .string fn, .int .i64 0] 31)) := bel_alloc _ _
  have HZ : Hid (BoxR (w1.alloc (.cells #[.int .i64 ((k : Int) + 1), .int .i64 fd, .string fn, .int .i64 0] 31)) w1.heap.size [.int .i64 ((k : Int) + 1), .int .i64 fd, .string fn, .int .i64 0]) := boxR_new _ _ _
  replace HB : Hid (Below w.heap.size w (w1.alloc (.cells #[.int .i64 ((k : Int) + 1), .int .i64 fd, .string fn, .int .i64 0] 31))) := Below.on HB.out hbN
  replace HX : Hid (BoxR (w1.alloc (.cells #[.int .i64 ((k : Int) + 1), .int .i64 fd, .string fn, .int .i64 0] 31)) (X) [.slice (some ⟨b, off, none⟩) len cap, .int .i64 now]) := HX.out.below hbN
  replace HC : Hid (BoxR (w1.alloc (.cells #[.int .i64 ((k : Int) + 1), .int .i64 fd, .string fn, .int .i64 0] 31)) (X + 1) [.int .i64 u, .int .i64 g, .slice ca cl cc, .bool r]) := HC.out.below hbN
  replace HA : Hid (BoxR (w1.alloc (.cells #[.int .i64 ((k : Int) + 1), .int .i64 fd, .string fn, .int .i64 0] 31)) (X + 1 + 1) [.string s, .int .i64 want]) := HA.out.below hbN
  replace HO : Hid (BoxW (w1.alloc (.cells #[.int .i64 ((k : Int) + 1), .int .i64 fd, .string fn, .int .i64 0] 31)) (X + 1 + 1 + 1) [.int .i64 0, .int .i64 0, .nilFunc, .slice none 0 0, .string ⟨#[]⟩]) := HO.out.below hbN
  clear hb hbN t0 t1 c0 c1 c2 c3 a0 a1 HWq
  go_upto_region 2 with fail
  generalize (w1.alloc (.cells #[.int .i64 ((k : Int) + 1), .int .i64 fd, .string fn, .int .i64 0] 31)) = w3 at HB HX HC HA HO HZ ⊢
  generalize w1.heap.size = Z at HZ ⊢
  clear w0
  generalize w3 = w0 at HB HX HC HA HO HZ ⊢
  have R1 := range_regrown (range_below HN2.out hb0 HB.out)
  have cHL : ∀ d os, Calls Tryz.prog 92 #[.agg cs1.toArray, .agg #[.int .i64 u, .int .i64 g, .slice ca cl cc, .bool r], .int .i64 want] (Go.Sort.grow (redrawn w0 d) os) fun e w'' => e = .returned (.bool lb) ∧ ∃ p : Regrown, w'' = Go.Sort.grow (redrawn w0 p.d) p.os := fun d os => Calls.regrown_of (HL.out _ (Below.on HB.out (below_regrown w0 d os)))
  have t0 : ∀ d os, (Go.Sort.grow (redrawn w0 d) os).cell? ⟨X, 0, none⟩ = some (.slice (some ⟨b, off, none⟩) len cap) := fun d os => cell_regrown (HX.out.at0 0 _ rfl) d os
  have y0 : ∀ d os, (Go.Sort.grow (redrawn w0 d) os).cell? ⟨X + 1, 0, none⟩ = some (.int .i64 u) := fun d os => cell_regrown (HC.out.at0 0 _ rfl) d os
  have y1 : ∀ d os, (Go.Sort.grow (redrawn w0 d) os).cell? ⟨X + 1, 1, none⟩ = some (.int .i64 g) := fun d os => cell_regrown (HC.out.at0 1 _ rfl) d os
  have y2 : ∀ d os, (Go.Sort.grow (redrawn w0 d) os).cell? ⟨X + 1, 2, none⟩ = some (.slice ca cl cc) := fun d os => cell_regrown (HC.out.at0 2 _ rfl) d os
  have y3 : ∀ d os, (Go.Sort.grow (redrawn w0 d) os).cell? ⟨X + 1, 3, none⟩ = some (.bool r) := fun d os => cell_regrown (HC.out.at0 3 _ rfl) d os
  have a1 : ∀ d os, (Go.Sort.grow (redrawn w0 d) os).cell? ⟨X + 1 + 1, 1, none⟩ = some (.int .i64 want) := fun d os => cell_regrown (HA.out.at0 1 _ rfl) d os
  have z0 : ∀ d os, (Go.Sort.grow (redrawn w0 d) os).cell? ⟨Z, 0, none⟩ = some (.int .i64 ((k : Int) + 1)) := fun d os => cell_regrown (HZ.out.at0 0 _ rfl) d os
  have z3 : ∀ d os, (Go.Sort.grow (redrawn w0 d) os).cell? ⟨Z, 3, none⟩ = some (.int .i64 0) := fun d os => cell_regrown (HZ.out.at0 3 _ rfl) d os
  refine wp_region_quiet_below (by kernel_rfl) (by kernel_rfl) ?_
  repeat (first
      | go_big_quiet_skip
      | (go_big_quiet_want; refine quiet_load_mid 84 _ rfl _ _ (by rfl) _ _ R1 hu rfl hi1 ?_; simp only [Act.put, List.setIfInBounds_toArray, List.set_cons_zero, List.set_cons_succ]; go_big_quiet_on)
      | (go_big_quiet_want; go_big_quiet_op; first | go_big_quiet_on | go_big_quiet_call (first | exact cHL _ _)))
  refine wpQuiet_nil ?_
  intro _ hw'
  obtain ⟨⟨dq, osq⟩, hw''⟩ := hw'
  subst hw''
  have hbq : Below w0.heap.size w0 (Go.Sort.grow (redrawn w0 dq) osq) := below_regrown w0 dq osq
  replace HB : Hid (Below w.heap.size w (Go.Sort.grow (redrawn w0 dq) osq)) := Below.on HB.out hbq
  replace HX : Hid (BoxR (Go.Sort.grow (redrawn w0 dq) osq) (X) [.slice (some ⟨b, off, none⟩) len cap, .int .i64 now]) := HX.out.below hbq
  replace HC : Hid (BoxR (Go.Sort.grow (redrawn w0 dq) osq) (X + 1) [.int .i64 u, .int .i64 g, .slice ca cl cc, .bool r]) := HC.out.below hbq
  replace HA : Hid (BoxR (Go.Sort.grow (redrawn w0 dq) osq) (X + 1 + 1) [.string s, .int .i64 want]) := HA.out.below hbq
  replace HO : Hid (BoxW (Go.Sort.grow (redrawn w0 dq) osq) (X + 1 + 1 + 1) [.int .i64 0, .int .i64 0, .nilFunc, .slice none 0 0, .string ⟨#[]⟩]) := HO.out.below hbq
  replace HZ : Hid (BoxR (Go.Sort.grow (redrawn w0 dq) osq) (Z) [.int .i64 ((k : Int) + 1), .int .i64 fd, .string fn, .int .i64 0]) := HZ.out.below hbq
  clear hbq
  generalize Go.Sort.grow (redrawn w0 dq) osq = w2 at HB HX HC HA HO HZ ⊢
  clear t0 y0 y1 y2 y3 a1 z0 z3 cHL R1
  have o0 : w2.cell? ⟨X + 1 + 1 + 1, 0, none⟩ = some (.int .i64 0) := HO.out.at0 0 _ rfl
  have o1 : w2.cell? ⟨X + 1 + 1 + 1, 1, none⟩ = some (.int .i64 0) := HO.out.at0 1 _ rfl
  have o2 : w2.cell? ⟨X + 1 + 1 + 1, 2, none⟩ = some (.nilFunc) := HO.out.at0 2 _ rfl
  have o3 : w2.cell? ⟨X + 1 + 1 + 1, 3, none⟩ = some (.slice none 0 0) := HO.out.at0 3 _ rfl
  have o4 : w2.cell? ⟨X + 1 + 1 + 1, 4, none⟩ = some (.string ⟨#[]⟩) := HO.out.at0 4 _ rfl
  have fz : ∀ o, w2.frozen? ⟨X + 1 + 1 + 1, o, none⟩ = false := HO.out.frz
  have z3 : w2.cell? ⟨Z, 3, none⟩ = some (.int .i64 0) := HZ.out.at0 3 _ rfl
  cases lb
  · have HE : Hid (R = 11) := HE1.out
    clear HE1
    go_wp2
    refine bodyPost_ret (v := .agg #[.int .i64 (11), .int .i64 0, .nilFunc, .slice none 0 0, .string ⟨#[]⟩]) (by simp [results, Tryz.results149, go_sem, o0, o1, o2, o3, o4]) rfl ?_
    exact ⟨by rw [HE.out], (by repeat (first | exact HB.out | refine bl_setT ?_ (by have := HXw.out; omega)))⟩
  · have HE : Hid (R = 0) := HE1.out
    clear HE1
    go_wp2
    refine bodyPost_ret (v := .agg #[.int .i64 (0), .int .i64 0, .nilFunc, .slice none 0 0, .string ⟨#[]⟩]) (by simp [results, Tryz.results149, go_sem, o0, o1, o2, o3, o4]) rfl ?_
    exact ⟨by rw [HE.out], (by repeat (first | exact HB.out | refine bl_setT ?_ (by have := HXw.out; omega)))⟩
set_option maxRecDepth 20000 in
set_option maxHeartbeats 8000000 in
theorem iDeedA_any (a : Option Addr) (len cap : Nat) (l : List Nd) (now : Int) (u g : Int) (ca : Option Addr) (cl cc : Nat) (r : Bool) (cf : Nat → Int) (s : ByteArray) (want : Int) (m : Int) (e1 e2 e3 e4 : Addr) (hw7 : inR 0 7 want = true) (hm : len ≤ 9223372036854775807) (hf : ∀ i, i < len → NdFit 1048576 (ndAt l i)) (hs : s.size ≤ 1048576) (w : World) (hi : Nds a len l w) (hci : Ints ca cl cf w) (hmx : w.cell? ⟨4, 0, none⟩ = some (.int .i64 m)) (hE : Errs w e1 e2 e3 e4) :
    Calls Tryz.prog 95 #[.agg #[.slice a len cap, .int .i64 now], .agg #[.int .i64 u, .int .i64 g, .slice ca cl cc, .bool r], .iface 98 (.agg #[.string s, .int .i64 want])] w fun e w' => e = .returned (.agg #[.int .i64 (askC l now u g cl r cf s want), .int .i64 0, .nilFunc, .slice none 0 0, .string ⟨#[]⟩]) ∧ Below w.heap.size w w' := by
  have HK : Hid (∀ w', Below w.heap.size w w' → Calls Tryz.prog 149 #[.agg #[.slice a len cap, .int .i64 now], .agg #[.int .i64 u, .int .i64 g, .slice ca cl cc, .bool r], .agg #[.string s, .int .i64 want]] w' fun e w'' => e = .returned (.agg #[.int .i64 (askC l now u g cl r cf s want), .int .i64 0, .nilFunc, .slice none 0 0, .string ⟨#[]⟩]) ∧ Below w'.heap.size w' w'') := (fun w' hb => iAsk_any a len cap l now u g ca cl cc r cf s want m e1 e2 e3 e4 hw7 hm hf hs w' (hi.below hb) (hci.below hb) ((hb.cell (p := ⟨_, 0, none⟩) (block_lt_of_cell hmx)).trans hmx) (hE.below hb))
  generalize askC l now u g cl r cf s want = R at HK ⊢
  clear hi hf hci hmx hE hw7
  obtain ⟨zmakeCall, hmakeCall⟩ := run_tA_no (P := Tryz.prog) (t := 98) Tryz.underlying184 (by kernel_rfl) (by decide)
  have qmakeCall := fun w => hmakeCall ((.agg #[.string s, .int .i64 want])) 146 w
  clear hmakeCall
  obtain ⟨zlinkCall, hlinkCall⟩ := run_tA_no (P := Tryz.prog) (t := 98) Tryz.underlying189 (by kernel_rfl) (by decide)
  have qlinkCall := fun w => hlinkCall ((.agg #[.string s, .int .i64 want])) 146 w
  clear hlinkCall
  obtain ⟨zdropCall, hdropCall⟩ := run_tA_no (P := Tryz.prog) (t := 98) Tryz.underlying192 (by kernel_rfl) (by decide)
  have qdropCall := fun w => hdropCall ((.agg #[.string s, .int .i64 want])) 146 w
  clear hdropCall
  obtain ⟨zmoveCall, hmoveCall⟩ := run_tA_no (P := Tryz.prog) (t := 98) Tryz.underlying194 (by kernel_rfl) (by decide)
  have qmoveCall := fun w => hmoveCall ((.agg #[.string s, .int .i64 want])) 146 w
  clear hmoveCall
  obtain ⟨zmodeCall, hmodeCall⟩ := run_tA_no (P := Tryz.prog) (t := 98) Tryz.underlying197 (by kernel_rfl) (by decide)
  have qmodeCall := fun w => hmodeCall ((.agg #[.string s, .int .i64 want])) 146 w
  clear hmodeCall
  obtain ⟨zownerCall, hownerCall⟩ := run_tA_no (P := Tryz.prog) (t := 98) Tryz.underlying200 (by kernel_rfl) (by decide)
  have qownerCall := fun w => hownerCall ((.agg #[.string s, .int .i64 want])) 146 w
  clear hownerCall
  obtain ⟨zlistCall, hlistCall⟩ := run_tA_no (P := Tryz.prog) (t := 98) Tryz.underlying203 (by kernel_rfl) (by decide)
  have qlistCall := fun w => hlistCall ((.agg #[.string s, .int .i64 want])) 146 w
  clear hlistCall
  obtain ⟨zdefaultCall, hdefaultCall⟩ := run_tA_no (P := Tryz.prog) (t := 98) Tryz.underlying206 (by kernel_rfl) (by decide)
  have qdefaultCall := fun w => hdefaultCall ((.agg #[.string s, .int .i64 want])) 146 w
  clear hdefaultCall
  have qaccessCall : ∀ w, (Instr.typeAssert (.iface 98 (.agg #[.string s, .int .i64 want])) 146 98 true).run Tryz.prog w = .ok (.tuple #[(.agg #[.string s, .int .i64 want]), .bool true]) w := fun w => run_tA_yes Tryz.underlying98 _ _ w
  have HB : Hid (Below w.heap.size w (((w.alloc (.cells #[.slice a len cap, .int .i64 now] 35)).alloc (.cells #[.int .i64 u, .int .i64 g, .slice ca cl cc, .bool r] 37)).alloc (.cells #[.int .i64 0, .int .i64 0, .nilFunc, .slice none 0 0, .string ⟨#[]⟩] 93))) := (Below.on (Below.on (Below.on (Below.refl _ _) (bel_alloc _ _)) (bel_alloc _ _)) (bel_alloc _ _))
  have HX : Hid (BoxR (((w.alloc (.cells #[.slice a len cap, .int .i64 now] 35)).alloc (.cells #[.int .i64 u, .int .i64 g, .slice ca cl cc, .bool r] 37)).alloc (.cells #[.int .i64 0, .int .i64 0, .nilFunc, .slice none 0 0, .string ⟨#[]⟩] 93)) (w.heap.size) [.slice a len cap, .int .i64 now]) := (by
    have h := (((boxR_new w [.slice a len cap, .int .i64 now] 35).below (bel_alloc (w.alloc (.cells #[.slice a len cap, .int .i64 now] 35)) (.cells #[.int .i64 u, .int .i64 g, .slice ca cl cc, .bool r] 37))).below (bel_alloc ((w.alloc (.cells #[.slice a len cap, .int .i64 now] 35)).alloc (.cells #[.int .i64 u, .int .i64 g, .slice ca cl cc, .bool r] 37)) (.cells #[.int .i64 0, .int .i64 0, .nilFunc, .slice none 0 0, .string ⟨#[]⟩] 93)))
    exact h)
  have HC : Hid (BoxR (((w.alloc (.cells #[.slice a len cap, .int .i64 now] 35)).alloc (.cells #[.int .i64 u, .int .i64 g, .slice ca cl cc, .bool r] 37)).alloc (.cells #[.int .i64 0, .int .i64 0, .nilFunc, .slice none 0 0, .string ⟨#[]⟩] 93)) (w.heap.size + 1) [.int .i64 u, .int .i64 g, .slice ca cl cc, .bool r]) := (by
    have h := ((boxR_new (w.alloc (.cells #[.slice a len cap, .int .i64 now] 35)) [.int .i64 u, .int .i64 g, .slice ca cl cc, .bool r] 37).below (bel_alloc ((w.alloc (.cells #[.slice a len cap, .int .i64 now] 35)).alloc (.cells #[.int .i64 u, .int .i64 g, .slice ca cl cc, .bool r] 37)) (.cells #[.int .i64 0, .int .i64 0, .nilFunc, .slice none 0 0, .string ⟨#[]⟩] 93)))
    simp only [World.size_alloc] at h
    exact h)
  have HO : Hid (BoxW (((w.alloc (.cells #[.slice a len cap, .int .i64 now] 35)).alloc (.cells #[.int .i64 u, .int .i64 g, .slice ca cl cc, .bool r] 37)).alloc (.cells #[.int .i64 0, .int .i64 0, .nilFunc, .slice none 0 0, .string ⟨#[]⟩] 93)) (w.heap.size + 1 + 1) [.int .i64 0, .int .i64 0, .nilFunc, .slice none 0 0, .string ⟨#[]⟩]) := (by
    have h := (boxW_new ((w.alloc (.cells #[.slice a len cap, .int .i64 now] 35)).alloc (.cells #[.int .i64 u, .int .i64 g, .slice ca cl cc, .bool r] 37)) [.int .i64 0, .int .i64 0, .nilFunc, .slice none 0 0, .string ⟨#[]⟩] 93)
    simp only [World.size_alloc] at h
    exact h)
  go_enter Tryz.func95, Tryz.ntmps95
  go_upto_region 1 with fail
  generalize (((w.alloc (.cells #[.slice a len cap, .int .i64 now] 35)).alloc (.cells #[.int .i64 u, .int .i64 g, .slice ca cl cc, .bool r] 37)).alloc (.cells #[.int .i64 0, .int .i64 0, .nilFunc, .slice none 0 0, .string ⟨#[]⟩] 93)) = w0 at HB HX HC HO ⊢
  obtain ⟨X, hX⟩ : ∃ X, X = w.heap.size := ⟨_, rfl⟩
  have HXw : Hid (X = w.heap.size) := hX
  rw [← hX] at HX HC HO ⊢
  clear hX
  have t0 : w0.cell? ⟨X, 0, none⟩ = some (.slice a len cap) := HX.out.at0 0 _ rfl
  have t1 : w0.cell? ⟨X, 1, none⟩ = some (.int .i64 now) := HX.out.at0 1 _ rfl
  have c0 : w0.cell? ⟨X + 1, 0, none⟩ = some (.int .i64 u) := HC.out.at0 0 _ rfl
  have c1 : w0.cell? ⟨X + 1, 1, none⟩ = some (.int .i64 g) := HC.out.at0 1 _ rfl
  have c2 : w0.cell? ⟨X + 1, 2, none⟩ = some (.slice ca cl cc) := HC.out.at0 2 _ rfl
  have c3 : w0.cell? ⟨X + 1, 3, none⟩ = some (.bool r) := HC.out.at0 3 _ rfl
  have hbN : Below w0.heap.size w0 (w0.alloc (.cells #[.string s, .int .i64 want] 98)) := bel_alloc _ _
  have HA : Hid (BoxR (w0.alloc (.cells #[.string s, .int .i64 want] 98)) w0.heap.size [.string s, .int .i64 want]) := boxR_new _ _ _
  go_upto_region 28 with fail
  replace HB : Hid (Below w.heap.size w (w0.alloc (.cells #[.string s, .int .i64 want] 98))) := Below.on HB.out hbN
  replace HX : Hid (BoxR (w0.alloc (.cells #[.string s, .int .i64 want] 98)) (X) [.slice a len cap, .int .i64 now]) := HX.out.below hbN
  replace HC : Hid (BoxR (w0.alloc (.cells #[.string s, .int .i64 want] 98)) (X + 1) [.int .i64 u, .int .i64 g, .slice ca cl cc, .bool r]) := HC.out.below hbN
  replace HO : Hid (BoxW (w0.alloc (.cells #[.string s, .int .i64 want] 98)) (X + 1 + 1) [.int .i64 0, .int .i64 0, .nilFunc, .slice none 0 0, .string ⟨#[]⟩]) := HO.out.below hbN
  clear hbN t0 t1 c0 c1 c2 c3
  generalize (w0.alloc (.cells #[.string s, .int .i64 want] 98)) = w3 at HB HX HC HO HA ⊢
  generalize w0.heap.size = Z at HA ⊢
  clear w0
  generalize w3 = w0 at HB HX HC HO HA ⊢
  have t0 : w0.cell? ⟨X, 0, none⟩ = some (.slice a len cap) := HX.out.at0 0 _ rfl
  have t1 : w0.cell? ⟨X, 1, none⟩ = some (.int .i64 now) := HX.out.at0 1 _ rfl
  have c0 : w0.cell? ⟨X + 1, 0, none⟩ = some (.int .i64 u) := HC.out.at0 0 _ rfl
  have c1 : w0.cell? ⟨X + 1, 1, none⟩ = some (.int .i64 g) := HC.out.at0 1 _ rfl
  have c2 : w0.cell? ⟨X + 1, 2, none⟩ = some (.slice ca cl cc) := HC.out.at0 2 _ rfl
  have c3 : w0.cell? ⟨X + 1, 3, none⟩ = some (.bool r) := HC.out.at0 3 _ rfl
  have a0 : w0.cell? ⟨Z, 0, none⟩ = some (.string s) := HA.out.at0 0 _ rfl
  have a1 : w0.cell? ⟨Z, 1, none⟩ = some (.int .i64 want) := HA.out.at0 1 _ rfl
  go_wp2_with fail
  refine (HK.out _ HB.out).mono ?_
  rintro e w1 ⟨rfl, hb⟩
  replace HB : Hid (Below w.heap.size w w1) := Below.on HB.out hb
  replace HX : Hid (BoxR w1 (X) [.slice a len cap, .int .i64 now]) := HX.out.below hb
  replace HC : Hid (BoxR w1 (X + 1) [.int .i64 u, .int .i64 g, .slice ca cl cc, .bool r]) := HC.out.below hb
  replace HO : Hid (BoxW w1 (X + 1 + 1) [.int .i64 0, .int .i64 0, .nilFunc, .slice none 0 0, .string ⟨#[]⟩]) := HO.out.below hb
  clear hb t0 t1 c0 c1 c2 c3 a0 a1 HK HA
  have o0 : w1.cell? ⟨X + 1 + 1, 0, none⟩ = some (.int .i64 0) := HO.out.at0 0 _ rfl
  have o1 : w1.cell? ⟨X + 1 + 1, 1, none⟩ = some (.int .i64 0) := HO.out.at0 1 _ rfl
  have o2 : w1.cell? ⟨X + 1 + 1, 2, none⟩ = some (.nilFunc) := HO.out.at0 2 _ rfl
  have o3 : w1.cell? ⟨X + 1 + 1, 3, none⟩ = some (.slice none 0 0) := HO.out.at0 3 _ rfl
  have o4 : w1.cell? ⟨X + 1 + 1, 4, none⟩ = some (.string ⟨#[]⟩) := HO.out.at0 4 _ rfl
  have fz : ∀ o, w1.frozen? ⟨X + 1 + 1, o, none⟩ = false := HO.out.frz
  go_wp2
  refine bodyPost_ret (v := .agg #[.int .i64 (R), .int .i64 0, .nilFunc, .slice none 0 0, .string ⟨#[]⟩]) (by simp [results, Tryz.results95, go_sem, o0, o1, o2, o3, o4]) rfl ?_
  exact ⟨by rw [show R = R from rfl], (by repeat (first | exact HB.out | refine bl_setT ?_ (by have := HXw.out; omega)))⟩
end Go.Proofs.YtdgejnaceeoooaaGreatDoor
/- impl.planned, impl.Access. -/
namespace Go.Proofs.YtdgejnaceeoooaaGreatDoor
open Go.RowKit Go.PlainAid Go.Deep
set_option linter.unusedVariables false
set_option maxRecDepth 20000 in
set_option maxHeartbeats 8000000 in
theorem iRightA_any (s : ByteArray) (want : Int) (w : World) :
    Calls Tryz.prog 268 #[.agg #[.string s, .int .i64 want]] w fun e w' => e = .returned (.bool (inR 0 7 want)) ∧ Below w.heap.size w w' := by
  have HBi : Hid (∀ w, Calls Tryz.prog 91 #[.int .i64 want] w fun e w' => e = .returned (.bool (inR 0 7 want)) ∧ w' = w) := (fun w => isBits_any want w)
  have HB : Hid (Below w.heap.size w (w.alloc (.cells #[.string s, .int .i64 want] 98))) := bel_alloc _ _
  go_enter Tryz.func268, Tryz.ntmps268
  go_wp2_with fail
  refine (HBi.out _).mono ?_
  rintro e w1 ⟨rfl, hw⟩
  subst hw
  go_wp2
  go_ret
  exact ⟨rfl, HB.out⟩
set_option maxRecDepth 20000 in
set_option maxHeartbeats 8000000 in
theorem iPlanA_any (a : Option Addr) (len cap : Nat) (l : List Nd) (now : Int) (u g : Int) (ca : Option Addr) (cl cc : Nat) (r : Bool) (cf : Nat → Int) (s : ByteArray) (want : Int) (m : Int) (e1 e2 e3 e4 : Addr) (hm : len ≤ 9223372036854775807) (hf : ∀ i, i < len → NdFit 1048576 (ndAt l i)) (hs : s.size ≤ 1048576) (w : World) (hi : Nds a len l w) (hci : Ints ca cl cf w) (hmx : w.cell? ⟨4, 0, none⟩ = some (.int .i64 m)) (hE : Errs w e1 e2 e3 e4) :
    Calls Tryz.prog 51 #[.agg #[.slice a len cap, .int .i64 now], .agg #[.int .i64 u, .int .i64 g, .slice ca cl cc, .bool r], .iface 98 (.agg #[.string s, .int .i64 want])] w fun e w' => e = .returned (.agg #[.int .i64 (accC l now u g cl r cf s want), .int .i64 0, .nilFunc, .slice none 0 0, .string ⟨#[]⟩]) ∧ Below w.heap.size w w' := by
  have HK : Hid (inR 0 7 want = true → ∀ w', Below w.heap.size w w' → Calls Tryz.prog 95 #[.agg #[.slice a len cap, .int .i64 now], .agg #[.int .i64 u, .int .i64 g, .slice ca cl cc, .bool r], .iface 98 (.agg #[.string s, .int .i64 want])] w' fun e w'' => e = .returned (.agg #[.int .i64 (askC l now u g cl r cf s want), .int .i64 0, .nilFunc, .slice none 0 0, .string ⟨#[]⟩]) ∧ Below w'.heap.size w' w'') := (fun hw7 w' hb => iDeedA_any a len cap l now u g ca cl cc r cf s want m e1 e2 e3 e4 hw7 hm hf hs w' (hi.below hb) (hci.below hb) ((hb.cell (p := ⟨_, 0, none⟩) (block_lt_of_cell hmx)).trans hmx) (hE.below hb))
  have HRi : Hid (∀ w, Calls Tryz.prog 268 #[.agg #[.string s, .int .i64 want]] w fun e w' => e = .returned (.bool (inR 0 7 want)) ∧ Below w.heap.size w w') := (fun w => iRightA_any s want w)
  have HE0 : accC l now u g cl r cf s want = if 8000 < s.size then 2 else if inR 0 7 want then askC l now u g cl r cf s want else 1 := rfl
  generalize accC l now u g cl r cf s want = R at HE0 ⊢
  generalize askC l now u g cl r cf s want = Q at HE0 HK
  clear hi hf hci hmx hE
  have HB : Hid (Below w.heap.size w (((w.alloc (.cells #[.slice a len cap, .int .i64 now] 35)).alloc (.cells #[.int .i64 u, .int .i64 g, .slice ca cl cc, .bool r] 37)).alloc (.cells #[.int .i64 0, .int .i64 0, .nilFunc, .slice none 0 0, .string ⟨#[]⟩] 93))) := (Below.on (Below.on (Below.on (Below.refl _ _) (bel_alloc _ _)) (bel_alloc _ _)) (bel_alloc _ _))
  have HX : Hid (BoxR (((w.alloc (.cells #[.slice a len cap, .int .i64 now] 35)).alloc (.cells #[.int .i64 u, .int .i64 g, .slice ca cl cc, .bool r] 37)).alloc (.cells #[.int .i64 0, .int .i64 0, .nilFunc, .slice none 0 0, .string ⟨#[]⟩] 93)) (w.heap.size) [.slice a len cap, .int .i64 now]) := (by
    have h := (((boxR_new w [.slice a len cap, .int .i64 now] 35).below (bel_alloc (w.alloc (.cells #[.slice a len cap, .int .i64 now] 35)) (.cells #[.int .i64 u, .int .i64 g, .slice ca cl cc, .bool r] 37))).below (bel_alloc ((w.alloc (.cells #[.slice a len cap, .int .i64 now] 35)).alloc (.cells #[.int .i64 u, .int .i64 g, .slice ca cl cc, .bool r] 37)) (.cells #[.int .i64 0, .int .i64 0, .nilFunc, .slice none 0 0, .string ⟨#[]⟩] 93)))
    exact h)
  have HC : Hid (BoxR (((w.alloc (.cells #[.slice a len cap, .int .i64 now] 35)).alloc (.cells #[.int .i64 u, .int .i64 g, .slice ca cl cc, .bool r] 37)).alloc (.cells #[.int .i64 0, .int .i64 0, .nilFunc, .slice none 0 0, .string ⟨#[]⟩] 93)) (w.heap.size + 1) [.int .i64 u, .int .i64 g, .slice ca cl cc, .bool r]) := (by
    have h := ((boxR_new (w.alloc (.cells #[.slice a len cap, .int .i64 now] 35)) [.int .i64 u, .int .i64 g, .slice ca cl cc, .bool r] 37).below (bel_alloc ((w.alloc (.cells #[.slice a len cap, .int .i64 now] 35)).alloc (.cells #[.int .i64 u, .int .i64 g, .slice ca cl cc, .bool r] 37)) (.cells #[.int .i64 0, .int .i64 0, .nilFunc, .slice none 0 0, .string ⟨#[]⟩] 93)))
    simp only [World.size_alloc] at h
    exact h)
  have HO : Hid (BoxW (((w.alloc (.cells #[.slice a len cap, .int .i64 now] 35)).alloc (.cells #[.int .i64 u, .int .i64 g, .slice ca cl cc, .bool r] 37)).alloc (.cells #[.int .i64 0, .int .i64 0, .nilFunc, .slice none 0 0, .string ⟨#[]⟩] 93)) (w.heap.size + 1 + 1) [.int .i64 0, .int .i64 0, .nilFunc, .slice none 0 0, .string ⟨#[]⟩]) := (by
    have h := (boxW_new ((w.alloc (.cells #[.slice a len cap, .int .i64 now] 35)).alloc (.cells #[.int .i64 u, .int .i64 g, .slice ca cl cc, .bool r] 37)) [.int .i64 0, .int .i64 0, .nilFunc, .slice none 0 0, .string ⟨#[]⟩] 93)
    simp only [World.size_alloc] at h
    exact h)
  go_enter Tryz.func51, Tryz.ntmps51
  go_upto_region 1 with fail
  generalize (((w.alloc (.cells #[.slice a len cap, .int .i64 now] 35)).alloc (.cells #[.int .i64 u, .int .i64 g, .slice ca cl cc, .bool r] 37)).alloc (.cells #[.int .i64 0, .int .i64 0, .nilFunc, .slice none 0 0, .string ⟨#[]⟩] 93)) = w0 at HB HX HC HO ⊢
  obtain ⟨X, hX⟩ : ∃ X, X = w.heap.size := ⟨_, rfl⟩
  have HXw : Hid (X = w.heap.size) := hX
  rw [← hX] at HX HC HO ⊢
  clear hX
  have t0 : w0.cell? ⟨X, 0, none⟩ = some (.slice a len cap) := HX.out.at0 0 _ rfl
  have t1 : w0.cell? ⟨X, 1, none⟩ = some (.int .i64 now) := HX.out.at0 1 _ rfl
  have c0 : w0.cell? ⟨X + 1, 0, none⟩ = some (.int .i64 u) := HC.out.at0 0 _ rfl
  have c1 : w0.cell? ⟨X + 1, 1, none⟩ = some (.int .i64 g) := HC.out.at0 1 _ rfl
  have c2 : w0.cell? ⟨X + 1, 2, none⟩ = some (.slice ca cl cc) := HC.out.at0 2 _ rfl
  have c3 : w0.cell? ⟨X + 1, 3, none⟩ = some (.bool r) := HC.out.at0 3 _ rfl
  go_wp2_with fail
  refine (iTexts1_any s _).mono ?_
  rintro e w1 ⟨B, rfl, hB, hb⟩
  replace HB : Hid (Below w.heap.size w w1) := Below.on HB.out hb
  replace HX : Hid (BoxR w1 (X) [.slice a len cap, .int .i64 now]) := HX.out.below hb
  replace HC : Hid (BoxR w1 (X + 1) [.int .i64 u, .int .i64 g, .slice ca cl cc, .bool r]) := HC.out.below hb
  replace HO : Hid (BoxW w1 (X + 1 + 1) [.int .i64 0, .int .i64 0, .nilFunc, .slice none 0 0, .string ⟨#[]⟩]) := HO.out.below hb
  have HS : Hid (w1.cell? ⟨B, 0, none⟩ = some (.string s)) := hB
  clear hb hB t0 t1 c0 c1 c2 c3
  go_wp2_with fail
  refine (contF1_any B 1 s _ HS.out).mono ?_
  rintro e w2 ⟨rfl, hw⟩
  have hw2 := hw.symm
  clear hw
  subst hw2
  clear HS
  have t0 : w1.cell? ⟨X, 0, none⟩ = some (.slice a len cap) := HX.out.at0 0 _ rfl
  have t1 : w1.cell? ⟨X, 1, none⟩ = some (.int .i64 now) := HX.out.at0 1 _ rfl
  have c0 : w1.cell? ⟨X + 1, 0, none⟩ = some (.int .i64 u) := HC.out.at0 0 _ rfl
  have c1 : w1.cell? ⟨X + 1, 1, none⟩ = some (.int .i64 g) := HC.out.at0 1 _ rfl
  have c2 : w1.cell? ⟨X + 1, 2, none⟩ = some (.slice ca cl cc) := HC.out.at0 2 _ rfl
  have c3 : w1.cell? ⟨X + 1, 3, none⟩ = some (.bool r) := HC.out.at0 3 _ rfl
  have o0 : w1.cell? ⟨X + 1 + 1, 0, none⟩ = some (.int .i64 0) := HO.out.at0 0 _ rfl
  have o1 : w1.cell? ⟨X + 1 + 1, 1, none⟩ = some (.int .i64 0) := HO.out.at0 1 _ rfl
  have o2 : w1.cell? ⟨X + 1 + 1, 2, none⟩ = some (.nilFunc) := HO.out.at0 2 _ rfl
  have o3 : w1.cell? ⟨X + 1 + 1, 3, none⟩ = some (.slice none 0 0) := HO.out.at0 3 _ rfl
  have o4 : w1.cell? ⟨X + 1 + 1, 4, none⟩ = some (.string ⟨#[]⟩) := HO.out.at0 4 _ rfl
  have fz : ∀ o, w1.frozen? ⟨X + 1 + 1, o, none⟩ = false := HO.out.frz
  by_cases h8 : 8000 < s.size
  · have hd : decide (8000 < s.size) = true := by simp [h8]
    have HE : Hid (R = 2) := (by show _ = _; rw [HE0, if_pos h8])
    rw [hd]
    clear hd h8 HE0 HK HRi
    go_wp2
    refine bodyPost_ret (v := .agg #[.int .i64 (2), .int .i64 0, .nilFunc, .slice none 0 0, .string ⟨#[]⟩]) (by simp [results, Tryz.results51, go_sem, o0, o1, o2, o3, o4]) rfl ?_
    exact ⟨by rw [HE.out], (by repeat (first | exact HB.out | refine bl_setT ?_ (by have := HXw.out; omega)))⟩
  have hd : decide (8000 < s.size) = false := by simp [h8]
  rw [if_neg h8] at HE0
  rw [hd]
  clear hd h8
  cases hw7 : inR 0 7 want
  · have HE : Hid (R = 1) := (by show _ = _; rw [HE0, hw7]; rfl)
    rw [hw7] at HRi
    clear HE0 HK
    go_wp2_with fail
    refine (HRi.out _).mono ?_
    rintro e w3 ⟨rfl, hb⟩
    clear t0 t1 c0 c1 c2 c3 o0 o1 o2 o3 o4 fz
    replace HB : Hid (Below w.heap.size w w3) := Below.on HB.out hb
    replace HX : Hid (BoxR w3 (X) [.slice a len cap, .int .i64 now]) := HX.out.below hb
    replace HC : Hid (BoxR w3 (X + 1) [.int .i64 u, .int .i64 g, .slice ca cl cc, .bool r]) := HC.out.below hb
    replace HO : Hid (BoxW w3 (X + 1 + 1) [.int .i64 0, .int .i64 0, .nilFunc, .slice none 0 0, .string ⟨#[]⟩]) := HO.out.below hb
    clear hb HRi
    have o0 : w3.cell? ⟨X + 1 + 1, 0, none⟩ = some (.int .i64 0) := HO.out.at0 0 _ rfl
    have o1 : w3.cell? ⟨X + 1 + 1, 1, none⟩ = some (.int .i64 0) := HO.out.at0 1 _ rfl
    have o2 : w3.cell? ⟨X + 1 + 1, 2, none⟩ = some (.nilFunc) := HO.out.at0 2 _ rfl
    have o3 : w3.cell? ⟨X + 1 + 1, 3, none⟩ = some (.slice none 0 0) := HO.out.at0 3 _ rfl
    have o4 : w3.cell? ⟨X + 1 + 1, 4, none⟩ = some (.string ⟨#[]⟩) := HO.out.at0 4 _ rfl
    have fz : ∀ o, w3.frozen? ⟨X + 1 + 1, o, none⟩ = false := HO.out.frz
    go_wp2
    refine bodyPost_ret (v := .agg #[.int .i64 (1), .int .i64 0, .nilFunc, .slice none 0 0, .string ⟨#[]⟩]) (by simp [results, Tryz.results51, go_sem, o0, o1, o2, o3, o4]) rfl ?_
    exact ⟨by rw [HE.out], (by repeat (first | exact HB.out | refine bl_setT ?_ (by have := HXw.out; omega)))⟩
  have HE : Hid (R = Q) := (by show _ = _; rw [HE0, hw7]; rfl)
  have HKq : Hid _ := HK.out hw7
  rw [hw7] at HRi
  clear HE0 HK
  go_wp2_with fail
  refine (HRi.out _).mono ?_
  rintro e w3 ⟨rfl, hb⟩
  clear t0 t1 c0 c1 c2 c3 o0 o1 o2 o3 o4 fz
  replace HB : Hid (Below w.heap.size w w3) := Below.on HB.out hb
  replace HX : Hid (BoxR w3 (X) [.slice a len cap, .int .i64 now]) := HX.out.below hb
  replace HC : Hid (BoxR w3 (X + 1) [.int .i64 u, .int .i64 g, .slice ca cl cc, .bool r]) := HC.out.below hb
  replace HO : Hid (BoxW w3 (X + 1 + 1) [.int .i64 0, .int .i64 0, .nilFunc, .slice none 0 0, .string ⟨#[]⟩]) := HO.out.below hb
  clear hb HRi
  have t0 : w3.cell? ⟨X, 0, none⟩ = some (.slice a len cap) := HX.out.at0 0 _ rfl
  have t1 : w3.cell? ⟨X, 1, none⟩ = some (.int .i64 now) := HX.out.at0 1 _ rfl
  have c0 : w3.cell? ⟨X + 1, 0, none⟩ = some (.int .i64 u) := HC.out.at0 0 _ rfl
  have c1 : w3.cell? ⟨X + 1, 1, none⟩ = some (.int .i64 g) := HC.out.at0 1 _ rfl
  have c2 : w3.cell? ⟨X + 1, 2, none⟩ = some (.slice ca cl cc) := HC.out.at0 2 _ rfl
  have c3 : w3.cell? ⟨X + 1, 3, none⟩ = some (.bool r) := HC.out.at0 3 _ rfl
  go_wp2_with fail
  refine (HKq.out _ HB.out).mono ?_
  rintro e w4 ⟨rfl, hb⟩
  clear t0 t1 c0 c1 c2 c3
  replace HB : Hid (Below w.heap.size w w4) := Below.on HB.out hb
  replace HX : Hid (BoxR w4 (X) [.slice a len cap, .int .i64 now]) := HX.out.below hb
  replace HC : Hid (BoxR w4 (X + 1) [.int .i64 u, .int .i64 g, .slice ca cl cc, .bool r]) := HC.out.below hb
  replace HO : Hid (BoxW w4 (X + 1 + 1) [.int .i64 0, .int .i64 0, .nilFunc, .slice none 0 0, .string ⟨#[]⟩]) := HO.out.below hb
  clear hb HKq
  have o0 : w4.cell? ⟨X + 1 + 1, 0, none⟩ = some (.int .i64 0) := HO.out.at0 0 _ rfl
  have o1 : w4.cell? ⟨X + 1 + 1, 1, none⟩ = some (.int .i64 0) := HO.out.at0 1 _ rfl
  have o2 : w4.cell? ⟨X + 1 + 1, 2, none⟩ = some (.nilFunc) := HO.out.at0 2 _ rfl
  have o3 : w4.cell? ⟨X + 1 + 1, 3, none⟩ = some (.slice none 0 0) := HO.out.at0 3 _ rfl
  have o4 : w4.cell? ⟨X + 1 + 1, 4, none⟩ = some (.string ⟨#[]⟩) := HO.out.at0 4 _ rfl
  have fz : ∀ o, w4.frozen? ⟨X + 1 + 1, o, none⟩ = false := HO.out.frz
  go_wp2
  refine bodyPost_ret (v := .agg #[.int .i64 (Q), .int .i64 0, .nilFunc, .slice none 0 0, .string ⟨#[]⟩]) (by simp [results, Tryz.results51, go_sem, o0, o1, o2, o3, o4]) rfl ?_
  exact ⟨by rw [HE.out], (by repeat (first | exact HB.out | refine bl_setT ?_ (by have := HXw.out; omega)))⟩
theorem fldD0 (v0 v1 v2 v3 v4 : Value) (w : World) : (Instr.field 93 (.agg #[v0, v1, v2, v3, v4]) 0).run Tryz.prog w = .ok v0 w := by kernel_rfl
attribute [local go_sem] fldD0
set_option maxRecDepth 20000 in
set_option maxHeartbeats 8000000 in
theorem iAccess_any (a : Option Addr) (len cap : Nat) (l : List Nd) (now : Int) (u g : Int) (ca : Option Addr) (cl cc : Nat) (r : Bool) (cf : Nat → Int) (s : ByteArray) (want : Int) (m : Int) (e1 e2 e3 e4 : Addr) (hm : len ≤ 9223372036854775807) (hf : ∀ i, i < len → NdFit 1048576 (ndAt l i)) (hs : s.size ≤ 1048576) (w : World) (hi : Nds a len l w) (hci : Ints ca cl cf w) (hmx : w.cell? ⟨4, 0, none⟩ = some (.int .i64 m)) (hE : Errs w e1 e2 e3 e4) :
    Calls Tryz.prog 20 #[.agg #[.slice a len cap, .int .i64 now], .agg #[.int .i64 u, .int .i64 g, .slice ca cl cc, .bool r], .string s, .int .i64 want] w fun e w' => e = .returned (.int .i64 (accC l now u g cl r cf s want)) ∧ Below w.heap.size w w' := by
  have HK : Hid (∀ w', Below w.heap.size w w' → Calls Tryz.prog 51 #[.agg #[.slice a len cap, .int .i64 now], .agg #[.int .i64 u, .int .i64 g, .slice ca cl cc, .bool r], .iface 98 (.agg #[.string s, .int .i64 want])] w' fun e w'' => e = .returned (.agg #[.int .i64 (accC l now u g cl r cf s want), .int .i64 0, .nilFunc, .slice none 0 0, .string ⟨#[]⟩]) ∧ Below w'.heap.size w' w'') := (fun w' hb => iPlanA_any a len cap l now u g ca cl cc r cf s want m e1 e2 e3 e4 hm hf hs w' (hi.below hb) (hci.below hb) ((hb.cell (p := ⟨_, 0, none⟩) (block_lt_of_cell hmx)).trans hmx) (hE.below hb))
  generalize accC l now u g cl r cf s want = R at HK ⊢
  clear hi hf hci hmx hE
  have HB : Hid (Below w.heap.size w ((w.alloc (.cells #[.slice a len cap, .int .i64 now] 35)).alloc (.cells #[.int .i64 u, .int .i64 g, .slice ca cl cc, .bool r] 37))) := (Below.on (Below.on (Below.refl _ _) (bel_alloc _ _)) (bel_alloc _ _))
  have HX : Hid (BoxR ((w.alloc (.cells #[.slice a len cap, .int .i64 now] 35)).alloc (.cells #[.int .i64 u, .int .i64 g, .slice ca cl cc, .bool r] 37)) (w.heap.size) [.slice a len cap, .int .i64 now]) := (by
    have h := ((boxR_new w [.slice a len cap, .int .i64 now] 35).below (bel_alloc (w.alloc (.cells #[.slice a len cap, .int .i64 now] 35)) (.cells #[.int .i64 u, .int .i64 g, .slice ca cl cc, .bool r] 37)))
    exact h)
  have HC : Hid (BoxR ((w.alloc (.cells #[.slice a len cap, .int .i64 now] 35)).alloc (.cells #[.int .i64 u, .int .i64 g, .slice ca cl cc, .bool r] 37)) (w.heap.size + 1) [.int .i64 u, .int .i64 g, .slice ca cl cc, .bool r]) := (by
    have h := (boxR_new (w.alloc (.cells #[.slice a len cap, .int .i64 now] 35)) [.int .i64 u, .int .i64 g, .slice ca cl cc, .bool r] 37)
    simp only [World.size_alloc] at h
    exact h)
  go_enter Tryz.func20, Tryz.ntmps20
  go_upto_region 1 with fail
  generalize ((w.alloc (.cells #[.slice a len cap, .int .i64 now] 35)).alloc (.cells #[.int .i64 u, .int .i64 g, .slice ca cl cc, .bool r] 37)) = w0 at HB HX HC ⊢
  obtain ⟨X, hX⟩ : ∃ X, X = w.heap.size := ⟨_, rfl⟩
  have HXw : Hid (X = w.heap.size) := hX
  rw [← hX] at HX HC ⊢
  clear hX
  have t0 : w0.cell? ⟨X, 0, none⟩ = some (.slice a len cap) := HX.out.at0 0 _ rfl
  have t1 : w0.cell? ⟨X, 1, none⟩ = some (.int .i64 now) := HX.out.at0 1 _ rfl
  have c0 : w0.cell? ⟨X + 1, 0, none⟩ = some (.int .i64 u) := HC.out.at0 0 _ rfl
  have c1 : w0.cell? ⟨X + 1, 1, none⟩ = some (.int .i64 g) := HC.out.at0 1 _ rfl
  have c2 : w0.cell? ⟨X + 1, 2, none⟩ = some (.slice ca cl cc) := HC.out.at0 2 _ rfl
  have c3 : w0.cell? ⟨X + 1, 3, none⟩ = some (.bool r) := HC.out.at0 3 _ rfl
  go_wp2_with fail
  refine (HK.out _ HB.out).mono ?_
  rintro e w1 ⟨rfl, hb⟩
  replace HB : Hid (Below w.heap.size w w1) := Below.on HB.out hb
  clear hb t0 t1 c0 c1 c2 c3
  go_wp2
  go_ret
  exact ⟨rfl, HB.out⟩
end Go.Proofs.YtdgejnaceeoooaaGreatDoor
/- spec.Access. -/
namespace Go.Proofs.YtdgejnaceeoooaaGreatDoor
open Go.RowKit Go.PlainAid Go.Deep
set_option linter.unusedVariables false
set_option linter.unusedSimpArgs false
theorem acc_eq (l : List Nd) (now u g : Int) (cl : Nat) (r : Bool) (cf : Nat → Int) (s : ByteArray) (want : Int) : accC l now u g cl r cf s want = if begC (wkF l now u g cl r cf s true) s (inR 0 7 want) = 0 then (if (wkF l now u g cl r cf s true).n = 0 then 6 else if letB (ndAt l ((wkF l now u g cl r cf s true).n - 1).toNat) u g cl r cf want then 0 else 11) else begC (wkF l now u g cl r cf s true) s (inR 0 7 want) := by
  unfold accC askC begC wayN
  generalize wkF l now u g cl r cf s true = F
  by_cases h8 : 8000 < s.size
  · simp only [if_pos h8]; rfl
  · simp only [if_neg h8]
    cases inR 0 7 want
    · rfl
    · by_cases hc : F.c = 0
      · by_cases hn : F.n = 0
        · simp [hc, hn, woC]
        · simp [hc, hn]
      · simp [hc]
/-- A node of a job. -/
theorem sJobNode_any (P b off k len cap : Nat) (w : World) (hp : w.cell? ⟨P, 0, none⟩ = some (.slice (some ⟨b, off, none⟩) len cap)) (hk : k < len) (hl : len ≤ 12) :
    Calls Tryz.prog 50 #[.pointer (some ⟨P, 0, none⟩), .int .i64 ((k : Int) + 1)] w fun e w' => e = .returned (.pointer (some ⟨b, off + k * 24, none⟩)) ∧ w' = w := by
  have hk1 : (k : Int) < (len : Int) := by omega
  have hk0 : (0 : Int) ≤ (k : Int) := by omega
  have hk3 : (k : Int) ≤ 12 := by omega
  go_enter Tryz.func50, Tryz.ntmps50
  go_wp2
  go_ret
  have e : (IntKind.i64.wrap (k : Int)).toNat = k := by rw [IntKind.wrap_i64] <;> omega
  refine ⟨?_, rfl⟩
  first
    | rfl
    | (show Ending.returned (.pointer (some ⟨b, off + (IntKind.i64.wrap (k : Int)).toNat * 24, none⟩)) = _; rw [e])
/-- What holds while the call begins: is the box of the way's end there? -/
structure AS (w : World) (X : Nat) (a : Option Addr) (len cap : Nat) (now u g : Int) (ca : Option Addr) (cl cc : Nat) (r : Bool) (W : World) (pz : Option Nat) : Prop where
  bel : Below w.heap.size w W
  l0 : BoxR W X [.slice a len cap, .int .i64 now]
  l1 : BoxR W (X + 1) [.int .i64 u, .int .i64 g, .slice ca cl cc, .bool r]
  bz : ∀ B, pz = some B → BoxW W B [.int .i64 0, .int .i64 0, .string ⟨#[]⟩, .int .i64 0] ∧ X + 1 < B ∧ w.heap.size ≤ B
theorem AS.below {w : World} {X : Nat} {a : Option Addr} {len cap : Nat} {now u g : Int} {ca : Option Addr} {cl cc : Nat} {r : Bool} {W W' : World} {pz : Option Nat} (h : AS w X a len cap now u g ca cl cc r W pz) (hb : Below W.heap.size W W') : AS w X a len cap now u g ca cl cc r W' pz :=
  ⟨Below.on h.bel hb, h.l0.below hb, h.l1.below hb, fun B e => ⟨(h.bz B e).1.below hb, (h.bz B e).2⟩⟩
theorem AS.drew {w : World} {X : Nat} {a : Option Addr} {len cap : Nat} {now u g : Int} {ca : Option Addr} {cl cc : Nat} {r : Bool} {W : World} {pz : Option Nat} (h : AS w X a len cap now u g ca cl cc r W pz) : AS w X a len cap now u g ca cl cc r W.drew pz := h.below (below_drewT (Below.refl _ _))
theorem AS.box {w : World} {X : Nat} {a : Option Addr} {len cap : Nat} {now u g : Int} {ca : Option Addr} {cl cc : Nat} {r : Bool} {W : World} {pz : Option Nat} (h : AS w X a len cap now u g ca cl cc r W pz) : AS w X a len cap now u g ca cl cc r (W.alloc (.cells #[.int .i64 0, .int .i64 0, .string ⟨#[]⟩, .int .i64 0] 31)) (some W.heap.size) := by
  have h2 := h.below (bel_alloc W (.cells #[.int .i64 0, .int .i64 0, .string ⟨#[]⟩, .int .i64 0] 31))
  exact ⟨h2.bel, h2.l0, h2.l1, fun B e => by cases e; exact ⟨boxW_new W [.int .i64 0, .int .i64 0, .string ⟨#[]⟩, .int .i64 0] 31, h.l1.lt, h.bel.size⟩⟩
theorem AS.drbox {w : World} {X : Nat} {a : Option Addr} {len cap : Nat} {now u g : Int} {ca : Option Addr} {cl cc : Nat} {r : Bool} {W : World} {pz : Option Nat} (h : AS w X a len cap now u g ca cl cc r W pz) : AS w X a len cap now u g ca cl cc r (W.drew.alloc (.cells #[.int .i64 0, .int .i64 0, .string ⟨#[]⟩, .int .i64 0] 31)) (some W.heap.size) := h.drew.box
theorem AS.zc {w : World} {X : Nat} {a : Option Addr} {len cap : Nat} {now u g : Int} {ca : Option Addr} {cl cc : Nat} {r : Bool} {W : World} {Z : Nat} (h : AS w X a len cap now u g ca cl cc r W (some Z)) : W.cell? ⟨Z, 0, none⟩ = some (.int .i64 0) ∧ W.cell? ⟨Z, 1, none⟩ = some (.int .i64 0) ∧ W.cell? ⟨Z, 2, none⟩ = some (.string ⟨#[]⟩) ∧ W.cell? ⟨Z, 3, none⟩ = some (.int .i64 0) ∧ (∀ o, W.frozen? ⟨Z, o, none⟩ = false) ∧ X ≠ Z ∧ Z ≠ X ∧ X + 1 ≠ Z ∧ Z ≠ X + 1 := by
  obtain ⟨hz, hx, hw⟩ := h.bz Z rfl
  exact ⟨hz.at0 0 _ rfl, hz.at0 1 _ rfl, hz.at0 2 _ rfl, hz.at0 3 _ rfl, hz.frz, by omega, by omega, by omega, by omega⟩
def pzN : Option Nat → Nat
  | some Z => Z + 1
  | none => 0
theorem AS.pz {w : World} {X : Nat} {a : Option Addr} {len cap : Nat} {now u g : Int} {ca : Option Addr} {cl cc : Nat} {r : Bool} {W : World} {pz : Option Nat} (h : AS w X a len cap now u g ca cl cc r W pz) : pzN pz ≤ W.heap.size := by
  cases pz with
  | none => exact Nat.zero_le _
  | some Z => exact (h.bz Z rfl).1.lt
/-- The call has begun: its answer lies in its box. -/
structure AF (w : World) (X : Nat) (a : Option Addr) (len cap : Nat) (now u g : Int) (ca : Option Addr) (cl cc : Nat) (r : Bool) (l : List Nd) (F : Wo) (W : World) (Z : Nat) (p : Option Addr) (c : Int) : Prop where
  bel : Below w.heap.size w W
  l0 : BoxR W X [.slice a len cap, .int .i64 now]
  l1 : BoxR W (X + 1) [.int .i64 u, .int .i64 g, .slice ca cl cc, .bool r]
  bz : BoxR W Z [.int .i64 F.n, .int .i64 F.d, .string F.nm, .int .i64 F.c]
  jb : c = 0 → ∃ P v ds, p = some ⟨P, 0, none⟩ ∧ BegJ 0 W l now u g ca cl cc r P v ds
theorem AS.fin2 {w : World} {X : Nat} {a : Option Addr} {len cap : Nat} {now u g : Int} {ca : Option Addr} {cl cc : Nat} {r : Bool} {W : World} {pz : Option Nat} (h : AS w X a len cap now u g ca cl cc r W pz) {l : List Nd} (F : Wo) {p : Option Addr} {c : Int} (hj : c = 0 → ∃ P v ds, p = some ⟨P, 0, none⟩ ∧ BegJ (pzN pz) W l now u g ca cl cc r P v ds) : AF w X a len cap now u g ca cl cc r l F (W.alloc (.cells #[.int .i64 F.n, .int .i64 F.d, .string F.nm, .int .i64 F.c] 31)) W.heap.size p c := by
  have hb := bel_alloc W (.cells #[.int .i64 F.n, .int .i64 F.d, .string F.nm, .int .i64 F.c] 31)
  have h2 := h.below hb
  exact ⟨h2.bel, h2.l0, h2.l1, boxR_new W [.int .i64 F.n, .int .i64 F.d, .string F.nm, .int .i64 F.c] 31, fun hc => by
    obtain ⟨P, v, ds, e, h3⟩ := hj hc
    exact ⟨P, v, ds, e, (h3.mono (Nat.zero_le _)).below hb⟩⟩
theorem AS.fin1 {w : World} {X : Nat} {a : Option Addr} {len cap : Nat} {now u g : Int} {ca : Option Addr} {cl cc : Nat} {r : Bool} {W : World} {Z : Nat} (h : AS w X a len cap now u g ca cl cc r W (some Z)) {l : List Nd} (F : Wo) {p : Option Addr} {c : Int} (hj : c = 0 → ∃ P v ds, p = some ⟨P, 0, none⟩ ∧ BegJ (pzN (some Z)) W l now u g ca cl cc r P v ds) : AF w X a len cap now u g ca cl cc r l F ((((W.setCell ⟨Z, 0, none⟩ (.int .i64 F.n)).setCell ⟨Z, 1, none⟩ (.int .i64 F.d)).setCell ⟨Z, 2, none⟩ (.string F.nm)).setCell ⟨Z, 3, none⟩ (.int .i64 F.c)) Z p c := by
  obtain ⟨hz, hx, hw⟩ := h.bz Z rfl
  have hs := (((hz.set 0 (by simp) (.int .i64 F.n)).set 1 (by simp) (.int .i64 F.d)).set 2 (by simp) (.string F.nm)).set 3 (by simp) (.int .i64 F.c)
  refine ⟨bl_setT (bl_setT (bl_setT (bl_setT h.bel hw) hw) hw) hw, (((h.l0.other ?_).other ?_).other ?_).other ?_, (((h.l1.other ?_).other ?_).other ?_).other ?_, ⟨hs.lt, hs.at0⟩, fun hc => ?_⟩
  case refine_9 =>
    obtain ⟨P, v, ds, e, h3⟩ := hj hc
    have hzl : Z < pzN (some Z) := Nat.lt_succ_self _
    exact ⟨P, v, ds, e, ((((h3.set hzl).set hzl).set hzl).set hzl).mono (Nat.zero_le _)⟩
  all_goals omega
set_option maxRecDepth 20000 in
set_option maxHeartbeats 8000000 in
theorem sAccess_any (a : Option Addr) (len cap : Nat) (l : List Nd) (now : Int) (u g : Int) (ca : Option Addr) (cl cc : Nat) (r : Bool) (cf : Nat → Int) (s : ByteArray) (want : Int) (hm : len ≤ 9223372036854775807) (hf : ∀ i, i < len → NdFit 1048576 (ndAt l i)) (hs : s.size ≤ 1048576) (w : World) (hi : Nds a len l w) (hci : Ints ca cl cf w) :
    Calls Tryz.prog 19 #[.agg #[.slice a len cap, .int .i64 now], .agg #[.int .i64 u, .int .i64 g, .slice ca cl cc, .bool r], .string s, .int .i64 want] w fun e w' => e = .returned (.int .i64 (accC l now u g cl r cf s want)) ∧ Below w.heap.size w w' := by
  have HBi : Hid (∀ w, Calls Tryz.prog 46 #[.int .i64 want] w fun e w' => e = .returned (.bool (inR 0 7 want)) ∧ w' = w) := (fun w => sBits_any want w)
  have hE0 := acc_eq l now u g cl r cf s want
  have hth0 := wkF_there l now u g cl r cf s true
  have HBg0 : Hid (∀ (V : World), Below w.heap.size w V → Calls Tryz.prog 49 #[.agg #[.slice a len cap, .int .i64 now], .agg #[.int .i64 u, .int .i64 g, .slice ca cl cc, .bool r], .string s, .bool (inR 0 7 want), .bool true] V fun e w' => ∃ (W : Wo) (p : Option Addr), e = .returned (.tuple #[.pointer p, woV W, .int .i64 (begC (wkF l now u g cl r cf s true) s (inR 0 7 want))]) ∧ Below V.heap.size V w' ∧ (begC (wkF l now u g cl r cf s true) s (inR 0 7 want) = 0 → W = wkF l now u g cl r cf s true ∧ ∃ P v ds, p = some ⟨P, 0, none⟩ ∧ Hid (BegJ V.heap.size w' l now u g ca cl cc r P v ds))) := (fun V hb => sBegin_any a len cap l now u g ca cl cc r cf s (inR 0 7 want) true hm hf hs V (hi.below hb) (hci.below hb))
  have hbi : begC (wkF l now u g cl r cf s true) s (inR 0 7 want) = 0 → inR 0 7 want = true := (fun h => by
    cases hq : inR 0 7 want
    · rw [hq] at h
      unfold begC at h
      split at h
      · exact absurd h (by decide)
      · exact absurd h (by simp)
    · rfl)
  have hbc : begC (wkF l now u g cl r cf s true) s (inR 0 7 want) = 0 → (wkF l now u g cl r cf s true).c = 0 := (fun h => by
    have h2 := hbi h
    rw [h2] at h
    unfold begC at h
    split at h
    · exact absurd h (by decide)
    · exact h)
  have hmay : inR 0 7 want = true → treeB l now = true → credB u g cl cf = true → ∀ k : Nat, thB l ((k : Int) + 1) = true → ∀ (Y : Na) w', NdIn w' (ndAt l k) Y → Below w.heap.size w w' → Calls Tryz.prog 47 #[.agg (ndV (ndAt l k) Y).toArray, .agg #[.int .i64 u, .int .i64 g, .slice ca cl cc, .bool r], .int .i64 want] w' fun e w'' => e = .returned (.bool (letB (ndAt l k) u g cl r cf want)) ∧ Below w'.heap.size w' w'' := (fun hw ht hcr k hth Y w' hn hb => sLet_any _ _ u g ca cl cc r cf want (ask_node (node_is ht hth) hcr hw) w' hn (hci.below hb))
  have HMay : Hid _ := hmay
  clear hmay
  generalize begC (wkF l now u g cl r cf s true) s (inR 0 7 want) = c at hE0 HBg0 hbi hbc
  generalize wkF l now u g cl r cf s true = F at hE0 hth0 HBg0 hbc
  generalize accC l now u g cl r cf s want = R at hE0 ⊢
  have HE0 : Hid _ := hE0
  have HTh : Hid _ := hth0
  have HIb : Hid _ := hbi
  clear hE0 hth0 hbi hbc hi hci hf
  have HBg : Hid (∀ (X : Nat) (V : World) (pz : Option Nat), AS w X a len cap now u g ca cl cc r V pz → Calls Tryz.prog 49 #[.agg #[.slice a len cap, .int .i64 now], .agg #[.int .i64 u, .int .i64 g, .slice ca cl cc, .bool r], .string s, .bool (inR 0 7 want), .bool true] V fun e w' => ∃ (W : Wo) (p : Option Addr), e = .returned (.tuple #[.pointer p, .agg #[.int .i64 W.n, .int .i64 W.d, .string W.nm, .int .i64 W.c], .int .i64 c]) ∧ AS w X a len cap now u g ca cl cc r w' pz ∧ (c = 0 → W = F ∧ ∃ P v ds, p = some ⟨P, 0, none⟩ ∧ BegJ (pzN pz) w' l now u g ca cl cc r P v ds)) := (fun X V pz h => Calls.mono (HBg0.out V h.bel) (by
    rintro e w7 ⟨W, p, rfl, hb, hj⟩
    exact ⟨W, p, rfl, h.below hb, fun hc => by
      obtain ⟨h1, P, v, ds, h2, h3⟩ := hj hc
      exact ⟨h1, P, v, ds, h2, h3.out.mono h.pz⟩⟩))
  clear HBg0
  generalize inR 0 7 want = fi at HBi HBg HIb HMay
  have HB : Hid (Below w.heap.size w ((w.alloc (.cells #[.slice a len cap, .int .i64 now] 35)).alloc (.cells #[.int .i64 u, .int .i64 g, .slice ca cl cc, .bool r] 37))) := (Below.on (Below.on (Below.refl _ _) (bel_alloc _ _)) (bel_alloc _ _))
  have HX : Hid (BoxR ((w.alloc (.cells #[.slice a len cap, .int .i64 now] 35)).alloc (.cells #[.int .i64 u, .int .i64 g, .slice ca cl cc, .bool r] 37)) (w.heap.size) [.slice a len cap, .int .i64 now]) := (by
    have h := ((boxR_new w [.slice a len cap, .int .i64 now] 35).below (bel_alloc (w.alloc (.cells #[.slice a len cap, .int .i64 now] 35)) (.cells #[.int .i64 u, .int .i64 g, .slice ca cl cc, .bool r] 37)))
    exact h)
  have HC : Hid (BoxR ((w.alloc (.cells #[.slice a len cap, .int .i64 now] 35)).alloc (.cells #[.int .i64 u, .int .i64 g, .slice ca cl cc, .bool r] 37)) (w.heap.size + 1) [.int .i64 u, .int .i64 g, .slice ca cl cc, .bool r]) := (by
    have h := (boxR_new (w.alloc (.cells #[.slice a len cap, .int .i64 now] 35)) [.int .i64 u, .int .i64 g, .slice ca cl cc, .bool r] 37)
    simp only [World.size_alloc] at h
    exact h)
  go_enter Tryz.func19, Tryz.ntmps19
  go_upto_region 1 with fail
  generalize ((w.alloc (.cells #[.slice a len cap, .int .i64 now] 35)).alloc (.cells #[.int .i64 u, .int .i64 g, .slice ca cl cc, .bool r] 37)) = w0 at HB HX HC ⊢
  obtain ⟨X, hX⟩ : ∃ X, X = w.heap.size := ⟨_, rfl⟩
  have HXw : Hid (X = w.heap.size) := hX
  rw [← hX] at HX HC ⊢
  clear hX
  have t0 : w0.cell? ⟨X, 0, none⟩ = some (.slice a len cap) := HX.out.at0 0 _ rfl
  have t1 : w0.cell? ⟨X, 1, none⟩ = some (.int .i64 now) := HX.out.at0 1 _ rfl
  have c0 : w0.cell? ⟨X + 1, 0, none⟩ = some (.int .i64 u) := HC.out.at0 0 _ rfl
  have c1 : w0.cell? ⟨X + 1, 1, none⟩ = some (.int .i64 g) := HC.out.at0 1 _ rfl
  have c2 : w0.cell? ⟨X + 1, 2, none⟩ = some (.slice ca cl cc) := HC.out.at0 2 _ rfl
  have c3 : w0.cell? ⟨X + 1, 3, none⟩ = some (.bool r) := HC.out.at0 3 _ rfl
  have HAs : Hid (AS w X a len cap now u g ca cl cc r w0 none) := ⟨HB.out, HX.out, HC.out, fun B e => by cases e⟩
  clear HB HX HC
  go_cut [9, 10, 11] (fun t9 t10 t11 wx => ∃ (W : Wo) (p : Option Addr) (Z : Nat), t9 = .pointer p ∧ t10 = .pointer (some ⟨Z, 0, none⟩) ∧ t11 = .int .i64 c ∧ Hid (AF w X a len cap now u g ca cl cc r l W wx Z p c) ∧ Hid (c = 0 → W = F))
  case first =>
    go_region_held3 (fun w' => w'.cell? ⟨X, 0, none⟩ = some (.slice a len cap) ∧ w'.cell? ⟨X, 1, none⟩ = some (.int .i64 now) ∧ w'.cell? ⟨X + 1, 0, none⟩ = some (.int .i64 u) ∧ w'.cell? ⟨X + 1, 1, none⟩ = some (.int .i64 g) ∧ w'.cell? ⟨X + 1, 2, none⟩ = some (.slice ca cl cc) ∧ w'.cell? ⟨X + 1, 3, none⟩ = some (.bool r)) (go_keep)
      (first
        | (go_at_call 49; refine' Calls.mono (HBg.out _ _ _ ?hs) ?_; (case hs => (first | exact HAs.out | exact HAs.out.drew | exact HAs.out.box | exact HAs.out.drbox | exact HAs.out.box.drew)); rintro e w7 ⟨W, p, rfl, has, hj⟩; replace HAs : Hid _ := has; have HJ : Hid _ := hj; clear has hj; replace t0 : w7.cell? ⟨X, 0, none⟩ = some (.slice a len cap) := HAs.out.l0.at0 0 _ rfl; replace t1 : w7.cell? ⟨X, 1, none⟩ = some (.int .i64 now) := HAs.out.l0.at0 1 _ rfl; replace c0 : w7.cell? ⟨X + 1, 0, none⟩ = some (.int .i64 u) := HAs.out.l1.at0 0 _ rfl; replace c1 : w7.cell? ⟨X + 1, 1, none⟩ = some (.int .i64 g) := HAs.out.l1.at0 1 _ rfl; replace c2 : w7.cell? ⟨X + 1, 2, none⟩ = some (.slice ca cl cc) := HAs.out.l1.at0 2 _ rfl; replace c3 : w7.cell? ⟨X + 1, 3, none⟩ = some (.bool r) := HAs.out.l1.at0 3 _ rfl; (try (obtain ⟨z0, z1, z2, z3, fz, nz1, nz2, nz3, nz4⟩ := HAs.out.zc)))
        | (go_at_call 46; refine (HBi.out _).mono ?_; rintro e w6 ⟨rfl, rfl⟩))
    all_goals
      go_wp2_with fail
      go_meet
      first
        | exact ⟨W, p, _, rfl, rfl, rfl, HAs.out.fin1 W (fun h => (HJ.out h).2), fun h => (HJ.out h).1⟩
        | exact ⟨W, p, _, rfl, rfl, rfl, HAs.out.fin2 W (fun h => (HJ.out h).2), fun h => (HJ.out h).1⟩
  case rest =>
  obtain ⟨W, p, Z, rfl, rfl, rfl, hAF, hWF⟩ := hcut
  obtain ⟨wp, hwp⟩ : ∃ wp, wp = wc := ⟨_, rfl⟩
  subst hwp
  clear HBi HBg HAs t0 t1 c0 c1 c2 c3
  by_cases hc : c = 0
  case neg =>
    have hc' : (c != 0) = true := by simpa [bne] using hc
    have HE : Hid (R = c) := (by show _ = _; rw [HE0.out, if_neg hc])
    have hbel := hAF.out.bel
    go_wp2
    go_ret
    exact ⟨by rw [HE.out]; rfl, hbel⟩
  obtain rfl : W = F := hWF.out hc
  have hc' : (c != 0) = false := by rw [hc]; rfl
  have hfi := HIb.out hc
  have hE1 := HE0.out
  rw [if_pos hc] at hE1
  have HB : Hid (Below w.heap.size w wp) := hAF.out.bel
  have HX : Hid (BoxR wp X [.slice a len cap, .int .i64 now]) := hAF.out.l0
  have HC : Hid (BoxR wp (X + 1) [.int .i64 u, .int .i64 g, .slice ca cl cc, .bool r]) := hAF.out.l1
  have HZ : Hid (BoxR wp Z [.int .i64 W.n, .int .i64 W.d, .string W.nm, .int .i64 W.c]) := hAF.out.bz
  obtain ⟨P, v, ds, rfl, hJb⟩ := hAF.out.jb hc
  have HJb : Hid (BegJ 0 wp l now u g ca cl cc r P v ds) := hJb
  clear hAF hWF hJb HE0 HIb
  obtain ⟨n, fd, fn, fc⟩ := W
  simp only at hE1
  have hth := HTh.out
  simp only at hth
  clear HTh
  have z0 : wp.cell? ⟨Z, 0, none⟩ = some (.int .i64 n) := HZ.out.at0 0 _ rfl
  by_cases hn : n = 0
  · have hn' : (n == 0) = true := by rw [hn]; rfl
    have HE : Hid (R = 6) := (by show _ = _; rw [hE1, if_pos hn])
    clear hE1 hth HMay HJb
    go_wp2
    go_ret
    exact ⟨by rw [HE.out]; rfl, HB.out⟩
  have hn' : (n == 0) = false := by simpa using hn
  rw [if_neg hn] at hE1
  obtain ⟨_, ht, hcr, hthn⟩ := hth.resolve_left hn
  obtain ⟨h1, h2⟩ := inR_iff.1 (thB_num hthn)
  obtain ⟨k, rfl⟩ : ∃ k : Nat, n = (k : Int) + 1 := ⟨(n - 1).toNat, by omega⟩
  have hk : k < l.length := by omega
  have h12 : l.length ≤ 12 := tree_len ht
  obtain ⟨ja, jc, rfl, hNd⟩ := HJb.out.nds
  obtain ⟨b, off, Y, rfl, hb0, hcN⟩ := hNd.2 (by omega)
  rw [at_succ] at hE1
  have HE1 : Hid (R = if letB (ndAt l k) u g cl r cf want then 0 else 11) := hE1
  have p0 : wp.cell? ⟨P, 0, none⟩ = some (.slice (some ⟨b, off, none⟩) l.length jc) := HJb.out.job.at0 0 _ rfl
  have HL : Hid (∀ w', Below wp.heap.size wp w' → Calls Tryz.prog 47 #[.agg (ndV (ndAt l k) (Y k)).toArray, .agg #[.int .i64 u, .int .i64 g, .slice ca cl cc, .bool r], .int .i64 want] w' fun e w'' => e = .returned (.bool (letB (ndAt l k) u g cl r cf want)) ∧ Below w'.heap.size w' w'') := (fun w' hb => HMay.out hfi ht hcr k hthn (Y k) w' ((hcN k hk).2.below hb) (Below.on HB.out hb))
  have HP0 : Hid (wp.cell? ⟨P, 0, none⟩ = some (.slice (some ⟨b, off, none⟩) l.length jc)) := p0
  have hPl := HJb.out.job.lt
  have HNo : Hid (∀ w', Below wp.heap.size wp w' → Calls Tryz.prog 50 #[.pointer (some ⟨P, 0, none⟩), .int .i64 ((k : Int) + 1)] w' fun e w'' => e = .returned (.pointer (some ⟨b, off + k * 24, none⟩)) ∧ Below w'.heap.size w' w'') := (fun w' hb => (sJobNode_any P b off k l.length jc w' ((hb.cell (p := ⟨P, 0, none⟩) hPl).trans HP0.out) hk h12).mono (fun e w'' h => ⟨h.1, by rw [h.2]; exact Below.refl _ _⟩))
  have HN : Hid (N24 wp b (off + k * 24) (ndAt l k) (Y k)) := (hcN k hk).1
  clear hE1 hth hthn ht hcr h1 h2 h12 hNd hcN HMay HJb p0 HP0 hPl hk hfi
  generalize letB (ndAt l k) u g cl r cf want = lb at HE1 HL
  obtain ⟨cs1, hcs1⟩ : ∃ cs1, cs1 = ndV (ndAt l k) (Y k) := ⟨_, rfl⟩
  have hi1 : (Tryz.prog.info? 84).map (·.size) = some cs1.length := by rw [hcs1]; kernel_rfl
  have hu := Tryz.underlying84
  have HN2 : Hid (wp.rangeAt b (off + k * 24) cs1) := (by rw [hcs1]; exact HN.out)
  rw [← hcs1] at HL
  clear hcs1 HN
  go_upto_region 6 with fail
  refine wp_region_held_drew (S := (fun w' => w'.cell? ⟨Z, 0, none⟩ = some (.int .i64 ((k : Int) + 1)) ∧ w'.cell? ⟨X + 1, 0, none⟩ = some (.int .i64 u) ∧ w'.cell? ⟨X + 1, 1, none⟩ = some (.int .i64 g) ∧ w'.cell? ⟨X + 1, 2, none⟩ = some (.slice ca cl cc) ∧ w'.cell? ⟨X + 1, 3, none⟩ = some (.bool r) ∧ w'.rangeAt b (off + k * 24) cs1)) (by kernel_rfl) (by exact ⟨HZ.out.at0 0 _ rfl, HC.out.at0 0 _ rfl, HC.out.at0 1 _ rfl, HC.out.at0 2 _ rfl, HC.out.at0 3 _ rfl, HN2.out⟩) (fun hHeld => ?_)
  refine wpAnyH_take (i := 0) (v := .pointer (some ⟨P, 0, none⟩)) rfl (by kernel_rfl) (by kernel_rfl) (by kernel_rfl) (fun _ _ _ h => h) (Or.inl ⟨by rfl, fun _ _ => by rfl⟩) hHeld ?_
  try simp only [Act.put, List.getElem_toArray, List.getElem_cons_zero, List.getElem_cons_succ, List.setIfInBounds_toArray, List.set_cons_zero, List.set_cons_succ]
  refine wpAnyH_take (i := 1) (v := .pointer (some ⟨Z, 0, none⟩)) rfl (by kernel_rfl) (by kernel_rfl) (by kernel_rfl) (fun _ _ _ h => h) (Or.inl ⟨by rfl, fun _ _ => by rfl⟩) hHeld ?_
  try simp only [Act.put, List.getElem_toArray, List.getElem_cons_zero, List.getElem_cons_succ, List.setIfInBounds_toArray, List.set_cons_zero, List.set_cons_succ]
  refine wpAnyH_take (i := 2) (v := .int .i64 ((k : Int) + 1)) rfl (by kernel_rfl) (by kernel_rfl) (by kernel_rfl) (fun _ _ _ h => h) (Or.inl ⟨by rfl, fun _ h => by have h0 := h.1; go_simp⟩) hHeld ?_
  try simp only [Act.put, List.getElem_toArray, List.getElem_cons_zero, List.getElem_cons_succ, List.setIfInBounds_toArray, List.set_cons_zero, List.set_cons_succ]
  refine wpAnyH_take (i := 6) (v := .agg #[.int .i64 u, .int .i64 g, .slice ca cl cc, .bool r]) rfl (by kernel_rfl) (by kernel_rfl) (by kernel_rfl) (fun _ _ _ h => h) (Or.inl ⟨by rfl, fun _ h => by have h0 := h.2.1; have h1 := h.2.2.1; have h2 := h.2.2.2.1; have h3 := h.2.2.2.2.1; go_simp⟩) hHeld ?_
  try simp only [Act.put, List.getElem_toArray, List.getElem_cons_zero, List.getElem_cons_succ, List.setIfInBounds_toArray, List.set_cons_zero, List.set_cons_succ]
  refine wpAnyH_take (i := 7) (v := .int .i64 want) rfl (by kernel_rfl) (by kernel_rfl) (by kernel_rfl) (fun _ _ _ h => h) (Or.inl ⟨by rfl, fun _ _ => by rfl⟩) hHeld ?_
  try simp only [Act.put, List.getElem_toArray, List.getElem_cons_zero, List.getElem_cons_succ, List.setIfInBounds_toArray, List.set_cons_zero, List.set_cons_succ]
  refine wpAnyH_ready (rs := [3]) (by kernel_rfl) (by simp) ?_
  refine AllReadyH.cons rfl (fun K hK => ?_) AllReadyH.nil
  rw [if_pos (by rfl)]
  go_simp
  refine (HNo.out _ (below_drewT (Below.refl _ _))).mono ?_
  rintro e w1 ⟨rfl, hb1⟩
  simp only []
  have hb1q : Below wp.heap.size wp w1 := ⟨hb1.os, hb1.tape, hb1.output, hb1.size, hb1.block⟩
  have HH1 : (fun w' => w'.cell? ⟨Z, 0, none⟩ = some (.int .i64 ((k : Int) + 1)) ∧ w'.cell? ⟨X + 1, 0, none⟩ = some (.int .i64 u) ∧ w'.cell? ⟨X + 1, 1, none⟩ = some (.int .i64 g) ∧ w'.cell? ⟨X + 1, 2, none⟩ = some (.slice ca cl cc) ∧ w'.cell? ⟨X + 1, 3, none⟩ = some (.bool r) ∧ w'.rangeAt b (off + k * 24) cs1) w1 := ⟨(HZ.out.below hb1q).at0 0 _ rfl, (HC.out.below hb1q).at0 0 _ rfl, (HC.out.below hb1q).at0 1 _ rfl, (HC.out.below hb1q).at0 2 _ rfl, (HC.out.below hb1q).at0 3 _ rfl, range_below HN2.out hb0 hb1q⟩
  refine hK.out _ _ HH1 (fun hHeld => ?_)
  clear hK K
  try simp only [Act.put, List.getElem_toArray, List.getElem_cons_zero, List.getElem_cons_succ, List.setIfInBounds_toArray, List.set_cons_zero, List.set_cons_succ]
  refine wpAnyH_take (i := 4) (v := .pointer (some ⟨b, off + k * 24, none⟩)) rfl (by kernel_rfl) (by kernel_rfl) (by kernel_rfl) (fun _ _ _ h => h) (Or.inl ⟨by rfl, fun _ _ => by rfl⟩) hHeld ?_
  try simp only [Act.put, List.getElem_toArray, List.getElem_cons_zero, List.getElem_cons_succ, List.setIfInBounds_toArray, List.set_cons_zero, List.set_cons_succ]
  refine wpAnyH_take (i := 5) (v := .agg cs1.toArray) rfl (by kernel_rfl) (by kernel_rfl) (by kernel_rfl) (fun _ _ _ h => h) (yieldsIf_load_mid (by rfl) 84 _ rfl b (off + k * 24) rfl _ _ (fun _ h => h.2.2.2.2.2) hu rfl hi1) hHeld ?_
  try simp only [Act.put, List.getElem_toArray, List.getElem_cons_zero, List.getElem_cons_succ, List.setIfInBounds_toArray, List.set_cons_zero, List.set_cons_succ]
  refine wpAnyH_ready (rs := [8]) (by kernel_rfl) (by simp) ?_
  refine AllReadyH.cons rfl (fun K hK => ?_) AllReadyH.nil
  rw [if_pos (by rfl)]
  go_simp
  refine (HL.out _ hb1q).mono ?_
  rintro e w2 ⟨rfl, hb2⟩
  simp only []
  have hb2q : Below wp.heap.size wp w2 := Below.on hb1q hb2
  have HH2 : (fun w' => w'.cell? ⟨Z, 0, none⟩ = some (.int .i64 ((k : Int) + 1)) ∧ w'.cell? ⟨X + 1, 0, none⟩ = some (.int .i64 u) ∧ w'.cell? ⟨X + 1, 1, none⟩ = some (.int .i64 g) ∧ w'.cell? ⟨X + 1, 2, none⟩ = some (.slice ca cl cc) ∧ w'.cell? ⟨X + 1, 3, none⟩ = some (.bool r) ∧ w'.rangeAt b (off + k * 24) cs1) w2 := ⟨(HZ.out.below hb2q).at0 0 _ rfl, (HC.out.below hb2q).at0 0 _ rfl, (HC.out.below hb2q).at0 1 _ rfl, (HC.out.below hb2q).at0 2 _ rfl, (HC.out.below hb2q).at0 3 _ rfl, range_below HN2.out hb0 hb2q⟩
  refine hK.out _ _ HH2 (fun hHeld => ?_)
  clear hK K
  try simp only [Act.put, List.getElem_toArray, List.getElem_cons_zero, List.getElem_cons_succ, List.setIfInBounds_toArray, List.set_cons_zero, List.set_cons_succ]
  refine wpAnyH_take (i := 9) (v := .bool (!lb)) rfl (by kernel_rfl) (by kernel_rfl) (by kernel_rfl) (fun _ _ _ h => h) (Or.inl ⟨by rfl, fun _ _ => by rfl⟩) hHeld ?_
  try simp only [Act.put, List.getElem_toArray, List.getElem_cons_zero, List.getElem_cons_succ, List.setIfInBounds_toArray, List.set_cons_zero, List.set_cons_succ]
  refine wpAnyH_take (i := 10) (v := .bool (!lb)) rfl (by kernel_rfl) (by kernel_rfl) (by kernel_rfl) (fun _ _ _ h => h) (Or.inl ⟨by rfl, fun _ _ => by rfl⟩) hHeld ?_
  try simp only [Act.put, List.getElem_toArray, List.getElem_cons_zero, List.getElem_cons_succ, List.setIfInBounds_toArray, List.set_cons_zero, List.set_cons_succ]
  refine wpAnyH_done (by kernel_rfl) ?_ _
  have HB2 : Hid (Below w.heap.size w w2) := Below.on HB.out hb2q
  clear HH1 HH2 hHeld hb1 hb2 hb1q hb2q HNo HL HZ HC HX HN2
  cases lb
  · have HE : Hid (R = 11) := HE1.out
    go_wp2
    go_ret
    exact ⟨by rw [HE.out]; rfl, HB2.out⟩
  · have HE : Hid (R = 0) := HE1.out
    go_wp2
    go_ret
    exact ⟨by rw [HE.out]; rfl, HB2.out⟩
end Go.Proofs.YtdgejnaceeoooaaGreatDoor
