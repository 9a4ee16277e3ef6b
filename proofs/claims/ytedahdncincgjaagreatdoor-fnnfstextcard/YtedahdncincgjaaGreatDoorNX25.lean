/- Laid together: CrossS, CrossN, CrossT, DrawList. -/
import Derived.Test.YtedahdncincgjaaGreatDoorNX24
import Derived.Test.YtedahdncincgjaaGreatDoorNX21
/- ToNfs of the specification: l07Pair. -/
namespace Go.Proofs.YtedahdncincgjaaGreatDoor
open Go.RowKit Go.PlainAid Go.Deep
set_option linter.unusedVariables false
/-- An Allow and a Deny of somebody. -/
def pairA (l : List Ac) (wh id b : Int) : List Ac := moreA (moreA l true wh id (nb b)) false wh id (nb (7 - b))
theorem pair_len (l : List Ac) (wh id b : Int) : (pairA l wh id b).length ≤ l.length + 2 := by
  have h1 := more_len l true wh id (nb b)
  have h2 := more_len (moreA l true wh id (nb b)) false wh id (nb (7 - b))
  unfold pairA
  omega
set_option maxRecDepth 100000 in
set_option maxHeartbeats 2000000 in
/-- spec.l07Pair. -/
theorem sPair_any {w0 w : World} {a : Option Addr} {c : Nat} {acc : List Ac} (h : RowO w0 w a c acc) (hl : acc.length ≤ 100000) (wh id b : Int) (h0 : 0 ≤ b) (h1 : b ≤ 7) :
    Calls Tryz.prog 105 #[.slice a acc.length c, .int .i64 wh, .int .i64 id, .int .i64 b] w fun e w' => ∃ a' c', e = .returned (.slice a' (pairA acc wh id b).length c') ∧ RowO w0 w' a' c' (pairA acc wh id b) := by
  have HR : Hid (RowO w0 w a c acc) := h
  have HP : Hid (pairA acc wh id b = moreA (moreA acc true wh id (nb b)) false wh id (nb (7 - b))) := rfl
  have l1 := more_len acc true wh id (nb b)
  have HB1 : Hid (∀ w : World, Calls Tryz.prog 54 #[.int .i64 b] w fun e w' => e = .returned (.int .i64 (nb b)) ∧ w' = w) := l04Bits_any b h0 h1
  have HB2 : Hid (∀ w : World, Calls Tryz.prog 54 #[.int .i64 (7 - b)] w fun e w' => e = .returned (.int .i64 (nb (7 - b))) ∧ w' = w) := l04Bits_any (7 - b) (by omega) (by omega)
  clear h
  go_enter Tryz.func105, Tryz.ntmps105
  go_wp2_with fail
  refine (HB1.out _).mono ?_
  rintro e w1 ⟨rfl, rfl⟩
  go_wp2_with fail
  refine (more_row HR.out (by omega) true wh id (nb b)).mono ?_
  rintro e w2 ⟨a2, c2, rfl, hR2⟩
  have HR2 : Hid _ := hR2
  clear hR2 HR
  go_wp2_with fail
  refine (HB2.out _).mono ?_
  rintro e w3 ⟨rfl, rfl⟩
  go_wp2_with fail
  refine (more_row HR2.out (by omega) false wh id (nb (7 - b))).mono ?_
  rintro e w4 ⟨a4, c4, rfl, hR4⟩
  rw [← HP.out] at hR4 ⊢
  have HR4 : Hid (RowO w0 w4 a4 c4 (pairA acc wh id b)) := hR4
  clear hR4
  go_wp2
  go_ret
  exact ⟨a4, c4, rfl, HR4.out⟩
def usN (l0 : List Ac) (us : List (Int × Int)) (m : Int) : Nat → List Ac
  | 0 => l0
  | k + 1 => pairA (usN l0 us m k) 4 (idAt us k) (andI (btAt us k) m)
def gaN (l0 : List Ac) (gs : List (Int × Int)) (m : Int) : Nat → List Ac
  | 0 => l0
  | k + 1 => moreA (gaN l0 gs m k) true 5 (idAt gs k) (nb (andI (btAt gs k) m))
def gdN (l0 : List Ac) (gs : List (Int × Int)) (m : Int) : Nat → List Ac
  | 0 => l0
  | k + 1 => moreA (gdN l0 gs m k) false 5 (idAt gs k) (nb (7 - andI (btAt gs k) m))
theorem usN_len (l0 : List Ac) (us : List (Int × Int)) (m : Int) : ∀ k, (usN l0 us m k).length ≤ l0.length + 2 * k := by
  intro k
  induction k with
  | zero => simp [usN]
  | succ k ih => have := pair_len (usN l0 us m k) 4 (idAt us k) (andI (btAt us k) m); simp only [usN]; omega
theorem gaN_len (l0 : List Ac) (gs : List (Int × Int)) (m : Int) : ∀ k, (gaN l0 gs m k).length ≤ l0.length + k := by
  intro k
  induction k with
  | zero => simp [gaN]
  | succ k ih => have := more_len (gaN l0 gs m k) true 5 (idAt gs k) (nb (andI (btAt gs k) m)); simp only [gaN]; omega
theorem gdN_len (l0 : List Ac) (gs : List (Int × Int)) (m : Int) : ∀ k, (gdN l0 gs m k).length ≤ l0.length + k := by
  intro k
  induction k with
  | zero => simp [gdN]
  | succ k ih => have := more_len (gdN l0 gs m k) false 5 (idAt gs k) (nb (7 - andI (btAt gs k) m)); simp only [gdN]; omega
/-- What the group itself may. -/
def ownG (A : Al) : Int := andI A.g (clsOf A.g A.r A.m)
def nfs1 (A : Al) : List Ac := usN (pairA [] 1 0 A.u) A.us A.m A.us.length
def nfs2 (A : Al) : List Ac := gaN (moreA (nfs1 A) true 2 0 (nb (ownG A))) A.gs A.m A.gs.length
def nfs3 (A : Al) : List Ac := gdN (moreA (nfs2 A) false 2 0 (nb (7 - ownG A))) A.gs A.m A.gs.length
/-- A list of names as one in order. -/
def nfsA (A : Al) : List Ac := moreA (nfs3 A) true 3 0 (nb A.o)
/-- A row, told from an elder world. -/
theorem rowO_from {wB w0 w : World} {a : Option Addr} {c : Nat} {l : List Ac} (h : RowO w0 w a c l) (hb : Below wB.heap.size wB w0) : RowO wB w a c l := by
  refine ⟨?_, hb.trans (h.2.mono hb.size)⟩
  obtain ⟨h0, ⟨e, hn⟩ | ⟨g, cap, cur, e, hB, hg, hc, hm, hs, ht⟩⟩ := h.1
  · exact ⟨h0, .inl ⟨e, hn⟩⟩
  · exact ⟨h0, .inr ⟨g, cap, cur, e, Nat.le_trans hb.size hB, hg, hc, hm, hs, ht⟩⟩
theorem rowO_empty (w : World) (t : TypeId) (ht : t = 24) : RowO w (w.alloc (.cells #[] t)) (some ⟨w.heap.size, 0, none⟩) 0 [] := by
  subst ht
  refine ⟨⟨rfl, .inr ⟨w.heap.size, 0, #[], rfl, Nat.le_refl _, ?_, Nat.le_refl _, by unfold maxLen; omega, rfl, rfl⟩⟩, bel_alloc _ _⟩
  rw [World.alloc]
  exact Array.getElem?_push_size
theorem bits_wrap {v : Int} (v0 : 0 ≤ v) (v1 : v ≤ 7) (w : World) : Calls Tryz.prog 54 #[.int .i64 (IntKind.i64.wrap (7 - v))] w fun e w' => e = .returned (.int .i64 (nb (7 - v))) ∧ w' = w := by
  have h : IntKind.i64.wrap (7 - v) = 7 - v := by rw [IntKind.wrap_i64]; omega
  rw [h]
  exact l04Bits_any (7 - v) (by omega) (by omega) w
theorem and7 (a b : Int) (a0 : 0 ≤ a) (a1 : a ≤ 7) (b0 : 0 ≤ b) (b1 : b ≤ 7) : 0 ≤ andI a b ∧ andI a b ≤ 7 := by
  obtain ⟨x, rfl⟩ := Int.eq_ofNat_of_zero_le a0
  obtain ⟨y, rfl⟩ := Int.eq_ofNat_of_zero_le b0
  have h : x &&& y ≤ x := Nat.and_le_left
  show 0 ≤ ((Int.toNat (x : Int) &&& Int.toNat (y : Int) : Nat) : Int) ∧ ((Int.toNat (x : Int) &&& Int.toNat (y : Int) : Nat) : Int) ≤ 7
  simp only [Int.toNat_natCast]
  omega
/-- The list's box, and its rows. -/
structure NX (w w' : World) (A : Al) (aU : Option Addr) (cU : Nat) (aG : Option Addr) (cG : Nat) : Prop where
  x : Box7 w' w.heap.size (.int .i64 A.u) (.int .i64 A.g) (.int .i64 A.o) (.slice aU A.us.length cU) (.slice aG A.gs.length cG) (.bool A.r) (.int .i64 A.m)
  u : Prs aU A.us.length A.us w'
  g : Prs aG A.gs.length A.gs w'
theorem NX.below {w w' w2 : World} {A : Al} {aU : Option Addr} {cU : Nat} {aG : Option Addr} {cG : Nat} (h : NX w w' A aU cU aG cG) (hb : Below w'.heap.size w' w2) : NX w w2 A aU cU aG cG := ⟨h.x.below hb, h.u.below hb, h.g.below hb⟩
set_option maxRecDepth 100000 in
set_option maxHeartbeats 4000000 in
/-- spec.l07Nfs of a right list. -/
theorem sNfs_any (A : Al) (aU : Option Addr) (cU : Nat) (aG : Option Addr) (cG : Nat) (hA : A.B = true) (w : World) (hu : Prs aU A.us.length A.us w) (hg : Prs aG A.gs.length A.gs w) :
    Calls Tryz.prog 88 #[.agg #[.int .i64 A.u, .int .i64 A.g, .int .i64 A.o, .slice aU A.us.length cU, .slice aG A.gs.length cG, .bool A.r, .int .i64 A.m]] w fun e w' => ∃ a c, e = .returned (.slice a (nfsA A).length c) ∧ RowO w w' a c (nfsA A) := by
  have hB : aclB A.u A.g A.o A.us A.gs A.r A.m = true := hA
  obtain ⟨⟨u0, u1⟩, ⟨g0, g1⟩, ⟨o0, o1⟩, ⟨m0, m1⟩, b1, b2⟩ := aclB_parts hB
  have hl1 := nm_len b1
  have hl2 := nm_len b2
  obtain ⟨k0, k1⟩ := clsOf_in hB
  obtain ⟨og0, og1⟩ := and7 A.g (clsOf A.g A.r A.m) g0 g1 k0 k1
  have BU : Hid (∀ k, k < A.us.length → 0 ≤ btAt A.us k ∧ btAt A.us k ≤ 7) := nm_bt b1
  have BG : Hid (∀ k, k < A.gs.length → 0 ≤ btAt A.gs k ∧ btAt A.gs k ≤ 7) := nm_bt b2
  have hb0 := bel_alloc w (.cells #[.int .i64 A.u, .int .i64 A.g, .int .i64 A.o, .slice aU A.us.length cU, .slice aG A.gs.length cG, .bool A.r, .int .i64 A.m] 83)
  have HX : Hid (NX w (w.alloc (.cells #[.int .i64 A.u, .int .i64 A.g, .int .i64 A.o, .slice aU A.us.length cU, .slice aG A.gs.length cG, .bool A.r, .int .i64 A.m] 83)) A aU cU aG cG) := ⟨box7_new w _ _ _ _ _ _ _ _, hu.below hb0, hg.below hb0⟩
  have HW0 : Hid (Below w.heap.size w (w.alloc (.cells #[.int .i64 A.u, .int .i64 A.g, .int .i64 A.o, .slice aU A.us.length cU, .slice aG A.gs.length cG, .bool A.r, .int .i64 A.m] 83))) := hb0
  have N1 : Hid (nfs1 A = usN (pairA [] 1 0 A.u) A.us A.m A.us.length) := rfl
  have N2 : Hid (nfs2 A = gaN (moreA (nfs1 A) true 2 0 (nb (ownG A))) A.gs A.m A.gs.length) := rfl
  have N3 : Hid (nfs3 A = gdN (moreA (nfs2 A) false 2 0 (nb (7 - ownG A))) A.gs A.m A.gs.length) := rfl
  have NF : Hid (nfsA A = moreA (nfs3 A) true 3 0 (nb A.o)) := rfl
  have L1 : (nfs1 A).length ≤ 20 := by
    have h1 := usN_len (pairA [] 1 0 A.u) A.us A.m A.us.length
    have h2 := pair_len [] 1 0 A.u
    simp only [List.length_nil] at h2
    show (usN (pairA [] 1 0 A.u) A.us A.m A.us.length).length ≤ 20
    omega
  have L2 : (nfs2 A).length ≤ 30 := by
    have h1 := gaN_len (moreA (nfs1 A) true 2 0 (nb (ownG A))) A.gs A.m A.gs.length
    have h2 := more_len (nfs1 A) true 2 0 (nb (ownG A))
    show (gaN (moreA (nfs1 A) true 2 0 (nb (ownG A))) A.gs A.m A.gs.length).length ≤ 30
    omega
  have L3 : (nfs3 A).length ≤ 40 := by
    have h1 := gdN_len (moreA (nfs2 A) false 2 0 (nb (7 - ownG A))) A.gs A.m A.gs.length
    have h2 := more_len (nfs2 A) false 2 0 (nb (7 - ownG A))
    show (gdN (moreA (nfs2 A) false 2 0 (nb (7 - ownG A))) A.gs A.m A.gs.length).length ≤ 40
    omega
  have HOG : Hid (ownG A = andI A.g (clsOf A.g A.r A.m)) := rfl
  have og2 : 0 ≤ ownG A ∧ ownG A ≤ 7 := ⟨og0, og1⟩
  clear hu hg hb0 hB hA b1 b2 og0 og1
  go_enter Tryz.func88, Tryz.ntmps88
  have e0 : (w.alloc (.cells #[.int .i64 A.u, .int .i64 A.g, .int .i64 A.o, .slice aU A.us.length cU, .slice aG A.gs.length cG, .bool A.r, .int .i64 A.m] 83)).heap.size = w.heap.size + 1 := by simp
  have HRE : Hid (RowO (w.alloc (.cells #[.int .i64 A.u, .int .i64 A.g, .int .i64 A.o, .slice aU A.us.length cU, .slice aG A.gs.length cG, .bool A.r, .int .i64 A.m] 83)) ((w.alloc (.cells #[.int .i64 A.u, .int .i64 A.g, .int .i64 A.o, .slice aU A.us.length cU, .slice aG A.gs.length cG, .bool A.r, .int .i64 A.m] 83)).alloc (.cells #[] 24)) (some ⟨w.heap.size + 1, 0, none⟩) 0 []) := (by
    have h := rowO_empty (w.alloc (.cells #[.int .i64 A.u, .int .i64 A.g, .int .i64 A.o, .slice aU A.us.length cU, .slice aG A.gs.length cG, .bool A.r, .int .i64 A.m] 83)) 24 rfl
    rw [e0] at h
    exact h)
  clear e0
  go_wp2_with fail
  refine (sPair_any (acc := []) HRE.out (by simp) 1 0 A.u u0 u1).mono ?_
  rintro e w3 ⟨a3, c3, rfl, hR3⟩
  have HR3 : Hid (RowO (w.alloc (.cells #[.int .i64 A.u, .int .i64 A.g, .int .i64 A.o, .slice aU A.us.length cU, .slice aG A.gs.length cG, .bool A.r, .int .i64 A.m] 83)) w3 a3 c3 (usN (pairA [] 1 0 A.u) A.us A.m 0)) := hR3
  clear HRE hR3
  generalize (w.alloc (.cells #[.int .i64 A.u, .int .i64 A.g, .int .i64 A.o, .slice aU A.us.length cU, .slice aG A.gs.length cG, .bool A.r, .int .i64 A.m] 83)) = w0 at HX HW0 HR3
  go_wp2
  go_loopw [3, 4] (fun l i wr => ∃ (k : Nat) (a : Option Addr) (c : Nat), k ≤ A.us.length ∧ i = .int .i64 k ∧ l = .slice a (usN (pairA [] 1 0 A.u) A.us A.m k).length c ∧ Hid (RowO w0 wr a c (usN (pairA [] 1 0 A.u) A.us A.m k))) (fun _ i _ => A.us.length - (intOf i).toNat)
  case atStart => exact ⟨0, _, _, Nat.zero_le _, rfl, rfl, HR3⟩
  case round =>
  obtain ⟨k, a, c, hk, rfl, rfl, hR⟩ := hrel
  obtain ⟨xl, x0, x1, x2, x3, x4, x5, x6⟩ := (HX.out.below hR.out.2).x
  by_cases hlt : k < A.us.length
  · have hlt' : (k : Int) < (A.us.length : Int) := by omega
    obtain ⟨b, off, hab, hbl, hcs⟩ := HX.out.u.2 (by omega)
    have HX1 : Hid (NX w w0 A aU cU aG cG) := HX
    subst hab
    obtain ⟨q0, q1⟩ := hcs k hlt
    have HQ0 : Hid (∀ W, Below w0.heap.size w0 W → W.cell? ⟨b, off + k * 2, none⟩ = some (.int .i64 (idAt A.us k))) := (fun W hb => (hb.cell (p := ⟨b, off + k * 2, none⟩) hbl).trans q0)
    have HQ1 : Hid (∀ W, Below w0.heap.size w0 W → W.cell? ⟨b, off + k * 2 + 1, none⟩ = some (.int .i64 (btAt A.us k))) := (fun W hb => (hb.cell (p := ⟨b, off + k * 2 + 1, none⟩) hbl).trans q1)
    have z0 := HQ0.out _ hR.out.2
    have z1 := HQ1.out _ hR.out.2
    obtain ⟨t0, t1⟩ := BU.out k hlt
    obtain ⟨v0, v1⟩ := andI_in (b := A.m) t0 t1
    have hlen : (usN (pairA [] 1 0 A.u) A.us A.m k).length ≤ 100 := by have := usN_len (pairA [] 1 0 A.u) A.us A.m k; have := pair_len [] 1 0 A.u; simp only [List.length_nil] at this; omega
    have HE : Hid (usN (pairA [] 1 0 A.u) A.us A.m (k + 1) = pairA (usN (pairA [] 1 0 A.u) A.us A.m k) 4 (idAt A.us k) (andI (btAt A.us k) A.m)) := rfl
    clear hcs hbl q0 q1
    go_wp2_with fail
    go_region_held3 (fun w' => w'.cell? ⟨w.heap.size, 3, none⟩ = some (.slice (some ⟨b, off, none⟩) A.us.length cU) ∧ w'.cell? ⟨w.heap.size, 6, none⟩ = some (.int .i64 A.m) ∧ w'.cell? ⟨b, off + k * 2, none⟩ = some (.int .i64 (idAt A.us k)) ∧ w'.cell? ⟨b, off + k * 2 + 1, none⟩ = some (.int .i64 (btAt A.us k))) (go_keep)
      (first
        | (go_at_call 106; refine Calls.mono (sBoth_any _ _ t0 (by omega) m0 (by omega) _) ?_; rintro e wb ⟨rfl, rfl⟩)
        | (go_at_call 105; refine Calls.mono (sPair_any (w0 := w0) ?hs (by omega) 4 (idAt A.us k) (andI (btAt A.us k) A.m) v0 v1) ?_; (case hs => (first | exact hR.out | exact hR.out.drew)); rintro e wn ⟨an, cn, rfl, hRn⟩; have HRn : Hid _ := hRn; obtain ⟨_, ya0, ya1, ya2, ya3, ya4, ya5, ya6⟩ := (HX1.out.below hRn.2).x; have yq0 := HQ0.out _ hRn.2; have yq1 := HQ1.out _ hRn.2))
    have HRm : Hid (RowO w0 wn an cn (usN (pairA [] 1 0 A.u) A.us A.m (k + 1))) := HRn
    have hll : (pairA (usN (pairA [] 1 0 A.u) A.us A.m k) 4 (idAt A.us k) (andI (btAt A.us k) A.m)).length = (usN (pairA [] 1 0 A.u) A.us A.m (k + 1)).length := by rw [HE.out]
    rw [hll]
    go_wp2
    go_roundw
    case rel => exact ⟨k + 1, an, cn, by omega, by go_num, rfl, HRm⟩
    case measure => simp [intOf]; omega
  · have hkk : k = A.us.length := by omega
    subst hkk
    have HR1 : Hid (RowO w0 wr a c (nfs1 A)) := hR
    have h1l : (usN (pairA [] 1 0 A.u) A.us A.m A.us.length).length = (nfs1 A).length := rfl
    rw [h1l]
    clear hR h1l
    go_wp2_with fail
    go_region_held3 (fun w' => w'.cell? ⟨w.heap.size, 0, none⟩ = some (.int .i64 A.u) ∧ w'.cell? ⟨w.heap.size, 1, none⟩ = some (.int .i64 A.g) ∧ w'.cell? ⟨w.heap.size, 2, none⟩ = some (.int .i64 A.o) ∧ w'.cell? ⟨w.heap.size, 3, none⟩ = some (.slice aU A.us.length cU) ∧ w'.cell? ⟨w.heap.size, 4, none⟩ = some (.slice aG A.gs.length cG) ∧ w'.cell? ⟨w.heap.size, 5, none⟩ = some (.bool A.r) ∧ w'.cell? ⟨w.heap.size, 6, none⟩ = some (.int .i64 A.m)) (go_keep)
      (first
        | (go_at_call 107; refine Calls.mono (sClass_any _ _ _ _ _ _ _ _ _ _ _ _) ?_; rintro e wk ⟨rfl, hbk⟩; have HRk : Hid (RowO w0 wk a c (nfs1 A)) := (HR1.out.below ⟨hbk.os, hbk.tape, hbk.output, hbk.size, hbk.block⟩); obtain ⟨_, ya0, ya1, ya2, ya3, ya4, ya5, ya6⟩ := (HX.out.below HRk.out.2).x)
        | (go_at_call 106; refine Calls.mono (sBoth_any _ _ g0 (by omega) k0 (by omega) _) ?_; rintro e wb ⟨rfl, rfl⟩))
    rw [← HOG.out]
    clear x0 x1 x2 x3 x4 x5 x6 xl ya0 ya1 ya2 ya3 ya4 ya5 ya6 hbk HR1
    go_wp2_with fail
    refine (l04Bits_any (ownG A) og2.1 og2.2 _).mono ?_
    rintro e wp ⟨rfl, rfl⟩
    go_wp2_with fail
    refine (more_row HRk.out (by omega) true 2 0 (nb (ownG A))).mono ?_
    rintro e w4 ⟨a4, c4, rfl, hR4⟩
    have HR4 : Hid (RowO w0 w4 a4 c4 (gaN (moreA (nfs1 A) true 2 0 (nb (ownG A))) A.gs A.m 0)) := hR4
    clear hR4 hlt hk HRk
    go_wp2
    go_loopw [3, 6] (fun l i wr => ∃ (k : Nat) (a : Option Addr) (c : Nat), k ≤ A.gs.length ∧ i = .int .i64 k ∧ l = .slice a (gaN (moreA (nfs1 A) true 2 0 (nb (ownG A))) A.gs A.m k).length c ∧ Hid (RowO w0 wr a c (gaN (moreA (nfs1 A) true 2 0 (nb (ownG A))) A.gs A.m k))) (fun _ i _ => A.gs.length - (intOf i).toNat)
    case atStart => exact ⟨0, _, _, Nat.zero_le _, rfl, rfl, HR4⟩
    case round =>
    obtain ⟨k, a, c, hk, rfl, rfl, hR⟩ := hrel
    obtain ⟨xl, x0, x1, x2, x3, x4, x5, x6⟩ := (HX.out.below hR.out.2).x
    by_cases hlt : k < A.gs.length
    · have hlt' : (k : Int) < (A.gs.length : Int) := by omega
      obtain ⟨b, off, hab, hbl, hcs⟩ := HX.out.g.2 (by omega)
      have HX1 : Hid (NX w w0 A aU cU aG cG) := HX
      subst hab
      obtain ⟨q0, q1⟩ := hcs k hlt
      have HQ0 : Hid (∀ W, Below w0.heap.size w0 W → W.cell? ⟨b, off + k * 2, none⟩ = some (.int .i64 (idAt A.gs k))) := (fun W hb => (hb.cell (p := ⟨b, off + k * 2, none⟩) hbl).trans q0)
      have HQ1 : Hid (∀ W, Below w0.heap.size w0 W → W.cell? ⟨b, off + k * 2 + 1, none⟩ = some (.int .i64 (btAt A.gs k))) := (fun W hb => (hb.cell (p := ⟨b, off + k * 2 + 1, none⟩) hbl).trans q1)
      have z0 := HQ0.out _ hR.out.2
      have z1 := HQ1.out _ hR.out.2
      obtain ⟨t0, t1⟩ := BG.out k hlt
      obtain ⟨v0, v1⟩ := andI_in (b := A.m) t0 t1
      have hlen : (gaN (moreA (nfs1 A) true 2 0 (nb (ownG A))) A.gs A.m k).length ≤ 100 := by have := gaN_len (moreA (nfs1 A) true 2 0 (nb (ownG A))) A.gs A.m k; have := more_len (nfs1 A) true 2 0 (nb (ownG A)); omega
      have HE : Hid (gaN (moreA (nfs1 A) true 2 0 (nb (ownG A))) A.gs A.m (k + 1) = moreA (gaN (moreA (nfs1 A) true 2 0 (nb (ownG A))) A.gs A.m k) true 5 (idAt A.gs k) (nb (andI (btAt A.gs k) A.m))) := rfl
      clear hcs hbl q0 q1
      go_wp2_with fail
      go_region_held3 (fun w' => w'.cell? ⟨w.heap.size, 4, none⟩ = some (.slice (some ⟨b, off, none⟩) A.gs.length cG) ∧ w'.cell? ⟨w.heap.size, 6, none⟩ = some (.int .i64 A.m) ∧ w'.cell? ⟨b, off + k * 2, none⟩ = some (.int .i64 (idAt A.gs k)) ∧ w'.cell? ⟨b, off + k * 2 + 1, none⟩ = some (.int .i64 (btAt A.gs k))) (go_keep)
        (first
          | (go_at_call 106; refine Calls.mono (sBoth_any _ _ t0 (by omega) m0 (by omega) _) ?_; rintro e wb ⟨rfl, rfl⟩)
          | (go_at_call 54; refine Calls.mono (l04Bits_any _ v0 v1 _) ?_; rintro e wb ⟨rfl, rfl⟩)
          | (go_at_call 108; refine Calls.mono (more_row (w0 := w0) ?hs (by omega) true 5 (idAt A.gs k) (nb (andI (btAt A.gs k) A.m))) ?_; (case hs => (first | exact hR.out | exact hR.out.drew)); rintro e wn ⟨an, cn, rfl, hRn⟩; have HRn : Hid _ := hRn; obtain ⟨_, ya0, ya1, ya2, ya3, ya4, ya5, ya6⟩ := (HX1.out.below hRn.2).x; have yq0 := HQ0.out _ hRn.2; have yq1 := HQ1.out _ hRn.2))
      have HRm : Hid (RowO w0 wn an cn (gaN (moreA (nfs1 A) true 2 0 (nb (ownG A))) A.gs A.m (k + 1))) := HRn
      have hll : (moreA (gaN (moreA (nfs1 A) true 2 0 (nb (ownG A))) A.gs A.m k) true 5 (idAt A.gs k) (nb (andI (btAt A.gs k) A.m))).length = (gaN (moreA (nfs1 A) true 2 0 (nb (ownG A))) A.gs A.m (k + 1)).length := by rw [HE.out]
      rw [hll]
      go_wp2
      go_roundw
      case rel => exact ⟨k + 1, an, cn, by omega, by go_num, rfl, HRm⟩
      case measure => simp [intOf]; omega
    · have hkk : k = A.gs.length := by omega
      subst hkk
      have HR2 : Hid (RowO w0 wr a c (nfs2 A)) := hR
      have h2l : (gaN (moreA (nfs1 A) true 2 0 (nb (ownG A))) A.gs A.m A.gs.length).length = (nfs2 A).length := rfl
      rw [h2l]
      clear hR h2l
      go_wp2_with fail
      refine (l04Bits_any (7 - ownG A) (by omega) (by omega) _).mono ?_
      rintro e wp ⟨rfl, rfl⟩
      go_wp2_with fail
      refine (more_row HR2.out (by omega) false 2 0 (nb (7 - ownG A))).mono ?_
      rintro e w5 ⟨a5, c5, rfl, hR5⟩
      have HR5 : Hid (RowO w0 w5 a5 c5 (gdN (moreA (nfs2 A) false 2 0 (nb (7 - ownG A))) A.gs A.m 0)) := hR5
      clear hR5 hlt hk HR2 x0 x1 x2 x3 x4 x5 x6 xl
      go_wp2
      go_loopw [3, 7] (fun l i wr => ∃ (k : Nat) (a : Option Addr) (c : Nat), k ≤ A.gs.length ∧ i = .int .i64 k ∧ l = .slice a (gdN (moreA (nfs2 A) false 2 0 (nb (7 - ownG A))) A.gs A.m k).length c ∧ Hid (RowO w0 wr a c (gdN (moreA (nfs2 A) false 2 0 (nb (7 - ownG A))) A.gs A.m k))) (fun _ i _ => A.gs.length - (intOf i).toNat)
      case atStart => exact ⟨0, _, _, Nat.zero_le _, rfl, rfl, HR5⟩
      case round =>
      obtain ⟨k, a, c, hk, rfl, rfl, hR⟩ := hrel
      obtain ⟨xl, x0, x1, x2, x3, x4, x5, x6⟩ := (HX.out.below hR.out.2).x
      by_cases hlt : k < A.gs.length
      · have hlt' : (k : Int) < (A.gs.length : Int) := by omega
        obtain ⟨b, off, hab, hbl, hcs⟩ := HX.out.g.2 (by omega)
        have HX1 : Hid (NX w w0 A aU cU aG cG) := HX
        subst hab
        obtain ⟨q0, q1⟩ := hcs k hlt
        have HQ0 : Hid (∀ W, Below w0.heap.size w0 W → W.cell? ⟨b, off + k * 2, none⟩ = some (.int .i64 (idAt A.gs k))) := (fun W hb => (hb.cell (p := ⟨b, off + k * 2, none⟩) hbl).trans q0)
        have HQ1 : Hid (∀ W, Below w0.heap.size w0 W → W.cell? ⟨b, off + k * 2 + 1, none⟩ = some (.int .i64 (btAt A.gs k))) := (fun W hb => (hb.cell (p := ⟨b, off + k * 2 + 1, none⟩) hbl).trans q1)
        have z0 := HQ0.out _ hR.out.2
        have z1 := HQ1.out _ hR.out.2
        obtain ⟨t0, t1⟩ := BG.out k hlt
        obtain ⟨v0, v1⟩ := andI_in (b := A.m) t0 t1
        have hlen : (gdN (moreA (nfs2 A) false 2 0 (nb (7 - ownG A))) A.gs A.m k).length ≤ 100 := by have := gdN_len (moreA (nfs2 A) false 2 0 (nb (7 - ownG A))) A.gs A.m k; have := more_len (nfs2 A) false 2 0 (nb (7 - ownG A)); omega
        have HE : Hid (gdN (moreA (nfs2 A) false 2 0 (nb (7 - ownG A))) A.gs A.m (k + 1) = moreA (gdN (moreA (nfs2 A) false 2 0 (nb (7 - ownG A))) A.gs A.m k) false 5 (idAt A.gs k) (nb (7 - andI (btAt A.gs k) A.m))) := rfl
        clear hcs hbl q0 q1
        go_wp2_with fail
        go_region_held3 (fun w' => w'.cell? ⟨w.heap.size, 4, none⟩ = some (.slice (some ⟨b, off, none⟩) A.gs.length cG) ∧ w'.cell? ⟨w.heap.size, 6, none⟩ = some (.int .i64 A.m) ∧ w'.cell? ⟨b, off + k * 2, none⟩ = some (.int .i64 (idAt A.gs k)) ∧ w'.cell? ⟨b, off + k * 2 + 1, none⟩ = some (.int .i64 (btAt A.gs k))) (go_keep)
          (first
            | (go_at_call 106; refine Calls.mono (sBoth_any _ _ t0 (by omega) m0 (by omega) _) ?_; rintro e wb ⟨rfl, rfl⟩)
            | (go_at_call 54; refine Calls.mono (bits_wrap v0 v1 _) ?_; rintro e wb ⟨rfl, rfl⟩)
            | (go_at_call 108; refine Calls.mono (more_row (w0 := w0) ?hs (by omega) false 5 (idAt A.gs k) (nb (7 - andI (btAt A.gs k) A.m))) ?_; (case hs => (first | exact hR.out | exact hR.out.drew)); rintro e wn ⟨an, cn, rfl, hRn⟩; have HRn : Hid _ := hRn; obtain ⟨_, ya0, ya1, ya2, ya3, ya4, ya5, ya6⟩ := (HX1.out.below hRn.2).x; have yq0 := HQ0.out _ hRn.2; have yq1 := HQ1.out _ hRn.2))
        have HRm : Hid (RowO w0 wn an cn (gdN (moreA (nfs2 A) false 2 0 (nb (7 - ownG A))) A.gs A.m (k + 1))) := HRn
        have hll : (moreA (gdN (moreA (nfs2 A) false 2 0 (nb (7 - ownG A))) A.gs A.m k) false 5 (idAt A.gs k) (nb (7 - andI (btAt A.gs k) A.m))).length = (gdN (moreA (nfs2 A) false 2 0 (nb (7 - ownG A))) A.gs A.m (k + 1)).length := by rw [HE.out]
        rw [hll]
        go_wp2
        go_roundw
        case rel => exact ⟨k + 1, an, cn, by omega, by go_num, rfl, HRm⟩
        case measure => simp [intOf]; omega
      · have hkk : k = A.gs.length := by omega
        subst hkk
        have HR3 : Hid (RowO w0 wr a c (nfs3 A)) := hR
        have h3l : (gdN (moreA (nfs2 A) false 2 0 (nb (7 - ownG A))) A.gs A.m A.gs.length).length = (nfs3 A).length := rfl
        rw [h3l]
        clear hR h3l
        go_wp2_with fail
        refine (l04Bits_any A.o o0 o1 _).mono ?_
        rintro e wp ⟨rfl, rfl⟩
        go_wp2_with fail
        refine (more_row HR3.out (by omega) true 3 0 (nb A.o)).mono ?_
        rintro e wq ⟨aq, cq, rfl, hRq⟩
        have HRq : Hid (RowO w0 wq aq cq (nfsA A)) := hRq
        have hql : (moreA (nfs3 A) true 3 0 (nb A.o)).length = (nfsA A).length := rfl
        rw [hql]
        clear hRq hql
        go_wp2
        go_ret
        exact ⟨aq, cq, rfl, rowO_from HRq.out HW0.out⟩

/-- A list of names as one in order; none, if it is not right. -/
def toN (A : Al) : List Ac := if A.B = true then nfsA A else []
theorem nfs_len {A : Al} (hA : A.B = true) : (nfsA A).length ≤ 50 := by
  have hB : aclB A.u A.g A.o A.us A.gs A.r A.m = true := hA
  obtain ⟨_, _, _, _, b1, b2⟩ := aclB_parts hB
  have hl1 := nm_len b1
  have hl2 := nm_len b2
  have h1 := usN_len (pairA [] 1 0 A.u) A.us A.m A.us.length
  have h2 := pair_len [] 1 0 A.u
  have h3 := gaN_len (moreA (nfs1 A) true 2 0 (nb (ownG A))) A.gs A.m A.gs.length
  have h4 := more_len (nfs1 A) true 2 0 (nb (ownG A))
  have h5 := gdN_len (moreA (nfs2 A) false 2 0 (nb (7 - ownG A))) A.gs A.m A.gs.length
  have h6 := more_len (nfs2 A) false 2 0 (nb (7 - ownG A))
  have h7 := more_len (nfs3 A) true 3 0 (nb A.o)
  have e1 : (nfs1 A).length = (usN (pairA [] 1 0 A.u) A.us A.m A.us.length).length := rfl
  have e2 : (nfs2 A).length = (gaN (moreA (nfs1 A) true 2 0 (nb (ownG A))) A.gs A.m A.gs.length).length := rfl
  have e3 : (nfs3 A).length = (gdN (moreA (nfs2 A) false 2 0 (nb (7 - ownG A))) A.gs A.m A.gs.length).length := rfl
  have e4 : (nfsA A).length = (moreA (nfs3 A) true 3 0 (nb A.o)).length := rfl
  simp only [List.length_nil] at h2
  omega
theorem row_some {w : World} {B : Nat} {t : TypeId} {s : Nat} {a : Option Addr} {m c n : Nat} {xs : List Value} (h : w.ownsRow B t s (.slice a m c) n xs) (hn : 0 < m) : ∃ Ad, a = some Ad := by
  obtain ⟨_, ⟨h1, h2⟩ | ⟨g1, cap1, cur1, h1, _, _, hc1, _, _, _⟩⟩ := h
  · cases h1; omega
  · cases h1; exact ⟨_, rfl⟩
theorem more_ge (l : List Ac) (al : Bool) (wh id ma : Int) : l.length ≤ (moreA l al wh id ma).length := by
  unfold moreA
  split
  · omega
  · simp
theorem pair_ge (l : List Ac) (wh id b : Int) : l.length ≤ (pairA l wh id b).length := by
  have h1 := more_ge l true wh id (nb b)
  have h2 := more_ge (moreA l true wh id (nb b)) false wh id (nb (7 - b))
  unfold pairA
  omega
theorem usN_ge (l : List Ac) (us : List (Int × Int)) (m : Int) : ∀ k, l.length ≤ (usN l us m k).length := by
  intro k
  induction k with
  | zero => exact Nat.le_refl _
  | succ k ih => exact Nat.le_trans ih (pair_ge _ _ _ _)
theorem gaN_ge (l : List Ac) (us : List (Int × Int)) (m : Int) : ∀ k, l.length ≤ (gaN l us m k).length := by
  intro k
  induction k with
  | zero => exact Nat.le_refl _
  | succ k ih => exact Nat.le_trans ih (more_ge _ _ _ _ _)
theorem gdN_ge (l : List Ac) (us : List (Int × Int)) (m : Int) : ∀ k, l.length ≤ (gdN l us m k).length := by
  intro k
  induction k with
  | zero => exact Nat.le_refl _
  | succ k ih => exact Nat.le_trans ih (more_ge _ _ _ _ _)
theorem pair_pos {b : Int} (h0 : 0 ≤ b) (h1 : b ≤ 7) : 0 < (pairA [] 1 0 b).length := by
  rcases (by omega : b = 0 ∨ b = 1 ∨ b = 2 ∨ b = 3 ∨ b = 4 ∨ b = 5 ∨ b = 6 ∨ b = 7) with rfl | rfl | rfl | rfl | rfl | rfl | rfl | rfl <;> decide
theorem nfs_pos {A : Al} (hA : A.B = true) : 0 < (nfsA A).length := by
  have hB : aclB A.u A.g A.o A.us A.gs A.r A.m = true := hA
  obtain ⟨⟨u0, u1⟩, _⟩ := aclB_parts hB
  have h0 := pair_pos u0 u1
  have h1 := usN_ge (pairA [] 1 0 A.u) A.us A.m A.us.length
  have h3 := gaN_ge (moreA (nfs1 A) true 2 0 (nb (ownG A))) A.gs A.m A.gs.length
  have h4 := more_ge (nfs1 A) true 2 0 (nb (ownG A))
  have h5 := gdN_ge (moreA (nfs2 A) false 2 0 (nb (7 - ownG A))) A.gs A.m A.gs.length
  have h6 := more_ge (nfs2 A) false 2 0 (nb (7 - ownG A))
  have h7 := more_ge (nfs3 A) true 3 0 (nb A.o)
  have e1 : (nfs1 A).length = (usN (pairA [] 1 0 A.u) A.us A.m A.us.length).length := rfl
  have e2 : (nfs2 A).length = (gaN (moreA (nfs1 A) true 2 0 (nb (ownG A))) A.gs A.m A.gs.length).length := rfl
  have e3 : (nfs3 A).length = (gdN (moreA (nfs2 A) false 2 0 (nb (7 - ownG A))) A.gs A.m A.gs.length).length := rfl
  have e4 : (nfsA A).length = (moreA (nfs3 A) true 3 0 (nb A.o)).length := rfl
  omega
theorem toN_len (A : Al) : (toN A).length ≤ 50 := by
  unfold toN
  split
  · rename_i h; exact nfs_len h
  · simp
set_option maxRecDepth 100000 in
set_option maxHeartbeats 2000000 in
theorem sToNfs_any (A : Al) (aU : Option Addr) (cU : Nat) (aG : Option Addr) (cG : Nat) (hlu : A.us.length ≤ 1048576) (hlg : A.gs.length ≤ 1048576) (w : World) (hu : Prs aU A.us.length A.us w) (hg : Prs aG A.gs.length A.gs w) :
    Calls Tryz.prog 63 #[.agg #[.int .i64 A.u, .int .i64 A.g, .int .i64 A.o, .slice aU A.us.length cU, .slice aG A.gs.length cG, .bool A.r, .int .i64 A.m]] w fun e w' => ∃ a c, e = .returned (.slice a (toN A).length c) ∧ RowO w w' a c (toN A) ∧ ∃ Ad, a = some Ad := by
  have hc : Hid (∀ w', Below w.heap.size w w' → Calls Tryz.prog 87 #[.agg #[.int .i64 A.u, .int .i64 A.g, .int .i64 A.o, .slice aU A.us.length cU, .slice aG A.gs.length cG, .bool A.r, .int .i64 A.m]] w' fun e w'' => e = .returned (.bool A.B) ∧ Below w'.heap.size w' w'') := (fun w' hb => sAclRight_any A.u A.g A.o aU _ cU aG _ cG A.r A.m A.us A.gs hlu hlg w' (hu.below hb) (hg.below hb))
  have hn : Hid (A.B = true → ∀ w', Below w.heap.size w w' → Calls Tryz.prog 88 #[.agg #[.int .i64 A.u, .int .i64 A.g, .int .i64 A.o, .slice aU A.us.length cU, .slice aG A.gs.length cG, .bool A.r, .int .i64 A.m]] w' fun e w'' => ∃ a c, e = .returned (.slice a (nfsA A).length c) ∧ RowO w' w'' a c (nfsA A)) := (fun hA w' hb => sNfs_any A aU cU aG cG hA w' (hu.below hb) (hg.below hb))
  have HT : Hid (A.B = true → toN A = nfsA A) := (fun h => by rw [toN, if_pos h])
  have HF : Hid (A.B = false → toN A = []) := (fun h => by rw [toN, h]; rfl)
  have hb0 := bel_alloc w (.cells #[.int .i64 A.u, .int .i64 A.g, .int .i64 A.o, .slice aU A.us.length cU, .slice aG A.gs.length cG, .bool A.r, .int .i64 A.m] 83)
  have HX := box7_new w (.int .i64 A.u) (.int .i64 A.g) (.int .i64 A.o) (.slice aU A.us.length cU) (.slice aG A.gs.length cG) (.bool A.r) (.int .i64 A.m) 83
  have HW0 : Hid (Below w.heap.size w (w.alloc (.cells #[.int .i64 A.u, .int .i64 A.g, .int .i64 A.o, .slice aU A.us.length cU, .slice aG A.gs.length cG, .bool A.r, .int .i64 A.m] 83))) := hb0
  clear hu hg hlu hlg hb0
  generalize toN A = T at HT HF ⊢
  go_enter Tryz.func63, Tryz.ntmps63
  go_wp2_with fail
  refine (hc.out _ HW0.out).mono ?_
  rintro e w1 ⟨rfl, hb1⟩
  have HW1 : Hid (Below w.heap.size w w1) := Below.on HW0.out hb1
  obtain ⟨xl, x0, x1, x2, x3, x4, x5, x6⟩ := HX.below hb1
  clear hb1 HX HW0 hc
  cases hB : A.B
  · have e0 := HF.out hB
    subst e0
    have HRE : Hid (RowO w1 (w1.alloc (.cells #[] 24)) (some ⟨w1.heap.size, 0, none⟩) 0 []) := rowO_empty w1 24 rfl
    clear hn HT HF hB x0 x1 x2 x3 x4 x5 x6 xl
    go_wp2
    go_ret
    exact ⟨_, _, rfl, rowO_from HRE.out HW1.out, _, rfl⟩
  · have e0 := HT.out hB
    have hpos := nfs_pos hB
    have HN : Hid _ := hn.out hB
    subst e0
    clear hn HT HF hB
    go_wp2_with fail
    refine (HN.out _ HW1.out).mono ?_
    rintro e w2 ⟨a, c, rfl, hR⟩
    have HR : Hid (RowO w1 w2 a c (nfsA A)) := hR
    clear hR HN x0 x1 x2 x3 x4 x5 x6 xl
    go_wp2
    go_ret
    exact ⟨a, c, rfl, rowO_from HR.out HW1.out, row_some HR.out.1 hpos⟩
/-- A list in order that is being drawn. -/
structure LD (a : Option Addr) (len cap : Nat) (g : Nat → Int) (p : Nat) (w0 w : World) (la : Option Addr) (lc : Nat) (l : List Ac) : Prop where
  src : Src a len cap g p w
  own : Ownp p w0 w
  row : w.ownsRow w0.heap.size 24 5 (.slice la l.length lc) l.length (pcA l)
  pl : p < w0.heap.size
  sm : ∃ Ad, la = some Ad
variable {a : Option Addr} {len cap : Nat} {g : Nat → Int} {p : Nat} {w0 w w' : World} {la : Option Addr} {lc : Nat} {l : List Ac}
theorem rowL_lt {w : World} {B : Nat} {t : TypeId} {s : Nat} {v : Value} {n : Nat} {xs : List Value} (h : w.ownsRow B t s v n xs) {k : Nat} (hk : v.ownBlock = some k) : B ≤ k ∧ k < w.heap.size := by
  obtain ⟨_, ⟨rfl, hn⟩ | ⟨g, cap, cur, rfl, hB, hg, hc, hm, hs, ht⟩⟩ := h
  · simp [Value.ownBlock] at hk
  · have : g = k := by simpa [Value.ownBlock] using hk
    subst this
    exact ⟨hB, (Array.getElem?_eq_some_iff.1 hg).1⟩
theorem rowL_from {w : World} {B B2 : Nat} {t : TypeId} {s : Nat} {v : Value} {n : Nat} {xs : List Value} (h : w.ownsRow B t s v n xs) (hb : B2 ≤ B) : w.ownsRow B2 t s v n xs := by
  obtain ⟨h0, ⟨e, hn⟩ | ⟨g, cap, cur, e, hB, hg, hc, hm, hs, ht⟩⟩ := h
  · exact ⟨h0, .inl ⟨e, hn⟩⟩
  · exact ⟨h0, .inr ⟨g, cap, cur, e, Nat.le_trans hb hB, hg, hc, hm, hs, ht⟩⟩
theorem LD.call (h : LD a len cap g p w0 w la lc l) (hs : Src a len cap g p w') (ho : Ownp p w w') : LD a len cap g p w0 w' la lc l :=
  ⟨hs, h.own.trans ho, rowP_keep h.row (fun k hk => by
    have h1 := rowL_lt h.row hk
    have h2 := h.pl
    exact ho.block k h1.2 (by simp; omega)), h.pl, h.sm⟩
theorem LD.below (h : LD a len cap g p w0 w la lc l) (hb : Below w.heap.size w w') : LD a len cap g p w0 w' la lc l :=
  h.call (h.src.kept (fun k hk => hb.block k (by have := h.src.pos; omega))) (below_ownp p hb)
/-- append of one ace. -/
theorem LD.app (h : LD a len cap g p w0 w la lc l) (x : Ac) (hl : l.length ≤ 1000000) :
    ∃ a' c' w', (Builtin.append_ #[31, 31] 31 #[.slice la l.length lc, .slice (some ⟨w.heap.size, 0, none⟩) 1 1]).run Tryz.prog (w.alloc (.cells #[.bool x.al, .int .i64 x.wh, .int .i64 x.id, .int .i64 x.fl, .int .i64 x.ma] 24)) = .ok (.slice a' (l ++ [x]).length c') w' ∧ LD a len cap g p w0 w' a' c' (l ++ [x]) := by
  have q := h.own.size
  have hp := h.pl
  have hR : RowO { w with heap := w.heap.extract 0 w0.heap.size } w la lc l := ⟨by rw [cut_size w w0.heap.size q]; exact h.row, below_cut w w0.heap.size q⟩
  obtain ⟨a', c', w', hr, ho, hb⟩ := append_row hR hl x
  rw [cut_size w w0.heap.size q] at ho
  have hlow : ∀ k, k < w0.heap.size → w'.heap[k]? = w.heap[k]? := fun k hk => by
    have h1 := hb.block k (by rw [cut_size w w0.heap.size q]; exact hk)
    have h2 := (below_cut w w0.heap.size q).block k (by rw [cut_size w w0.heap.size q]; exact hk)
    exact h1.trans h2.symm
  have hsz : w0.heap.size ≤ w'.heap.size := by
    have := hb.size
    rw [cut_size w w0.heap.size q] at this
    exact this
  exact ⟨a', c', w', hr, h.src.kept (fun k hk => hlow k (by omega)), ⟨hb.os.trans h.own.os, hb.tape.trans h.own.tape, hb.output.trans h.own.output, hsz, fun k hk hne => (hlow k hk).trans (h.own.block k hk hne)⟩, ho, hp, row_some ho (by simp)⟩
set_option maxRecDepth 100000 in
set_option maxHeartbeats 4000000 in
/-- The draw of a list in order. -/
theorem drList_any (a : Option Addr) (len cap : Nat) (g : Nat → Int) (p : Nat) (w : World) (hs : Src a len cap g p w) :
    Calls Tryz.prog 34 #[.pointer (some ⟨p, 0, none⟩)] w fun e w' => ∃ (la : Option Addr) (lc : Nat) (l : List Ac), e = .returned (.slice la l.length lc) ∧ LD a len cap g p w w' la lc l ∧ l.length ≤ 50 := by
  have hp := hs.pos
  have hR0 := rowO_empty w 24 rfl
  have HD0 : Hid (LD a len cap g p w (w.alloc (.cells #[] 24)) (some ⟨w.heap.size, 0, none⟩) 0 []) := ⟨src_alloc hs _, (Ownp.refl p w).alloc _, hR0.1, hp, ⟨_, rfl⟩⟩
  clear hR0 hs
  go_enter Tryz.func34, Tryz.ntmps34
  go_wp2_with fail
  refine (n_any a len cap g _ _ (by decide) _ HD0.out.src).mono ?_
  rintro e w1 ⟨k0, rfl, k1, k2, hs1, ho1⟩
  have HD1 : Hid (LD a len cap g p w w1 (some ⟨w.heap.size, 0, none⟩) 0 []) := HD0.out.call hs1 ho1
  clear HD0 hs1 ho1
  obtain ⟨kk, rfl⟩ := Int.eq_ofNat_of_zero_le k1
  have hkk : kk ≤ 8 := by omega
  clear k1 k2
  go_wp2
  go_loopw [3, 4, 5] (fun lv k _ wr => ∃ (j : Nat) (la : Option Addr) (lc : Nat) (l : List Ac), k = .int .i64 j ∧ lv = .slice la l.length lc ∧ l.length + j ≤ 8 ∧ Hid (LD a len cap g p w wr la lc l)) (fun _ k _ _ => (intOf k).toNat)
  case atStart => exact ⟨kk, _, 0, [], rfl, rfl, by simpa using hkk, HD1⟩
  case round =>
    clear HD1 hkk
    obtain ⟨j, la, lc, l, rfl, rfl, hj, hD⟩ := hrel
    by_cases h0 : 0 < j
    · have h0' : (0 : Int) < (j : Int) := by omega
      go_wp2_with fail
      refine (drAce_any a len cap g _ _ hD.out.src).mono ?_
      rintro e w2 ⟨x, rfl, hs2, ho2⟩
      have hD2 := hD.out.call hs2 ho2
      have hb3 := bel_alloc w2 (.cells #[.bool x.al, .int .i64 x.wh, .int .i64 x.id, .int .i64 x.fl, .int .i64 x.ma] 24)
      have HD3 : Hid (LD a len cap g p w (w2.alloc (.cells #[.bool x.al, .int .i64 x.wh, .int .i64 x.id, .int .i64 x.fl, .int .i64 x.ma] 24)) la lc l) := hD2.below hb3
      have HX3 : Hid (Five (w2.alloc (.cells #[.bool x.al, .int .i64 x.wh, .int .i64 x.id, .int .i64 x.fl, .int .i64 x.ma] 24)) w2.heap.size 0 x) := five_new w2 x 24
      have hXp : p < w2.heap.size := hs2.pos
      have hXl : w2.heap.size < (w2.alloc (.cells #[.bool x.al, .int .i64 x.wh, .int .i64 x.id, .int .i64 x.fl, .int .i64 x.ma] 24)).heap.size := by simp
      clear hD hD2 hb3 hs2 ho2
      go_upto_region 6 with fail
      generalize w2.alloc (.cells #[.bool x.al, .int .i64 x.wh, .int .i64 x.id, .int .i64 x.fl, .int .i64 x.ma] 24) = w3 at HD3 HX3 hXl ⊢
      generalize w2.heap.size = X at HX3 hXp hXl ⊢
      obtain ⟨c0, c1, c2, c3, c4⟩ := HX3.out
      simp only [Nat.zero_add] at c1 c2 c3 c4
      go_wp2_with fail
      refine (sAceRight_any x _).mono ?_
      rintro e w4 ⟨rfl, hb4⟩
      have HD4 : Hid (LD a len cap g p w w4 la lc l) := HD3.out.below hb4
      have HX4 : Hid (Five w4 X 0 x) := HX3.out.below hXl hb4
      have hXl4 : X < w4.heap.size := Nat.lt_of_lt_of_le hXl hb4.size
      clear hb4 HD3 HX3 c0 c1 c2 c3 c4 hXl
      cases hB : aceB x
      · go_wp2_with fail
        refine (one_any a len cap g _ _ (by decide) _ HD4.out.src).mono ?_
        rintro e w5 ⟨r, rfl, hs5, ho5⟩
        have HD5 : Hid (LD a len cap g p w w5 la lc l) := HD4.out.call hs5 ho5
        have HX5 : Hid (Five w5 X 0 x) := HX4.out.keep (fun j => ho5.cell hXl4 (by omega))
        clear hs5 ho5 HD4 HX4
        cases r
        · go_wp2
          go_roundw
          case rel => exact ⟨j - 1, la, lc, l, by go_num, rfl, by omega, HD5⟩
          case measure => simp [intOf]; omega
        · obtain ⟨c0, c1, c2, c3, c4⟩ := HX5.out
          simp only [Nat.zero_add] at c1 c2 c3 c4
          obtain ⟨a', c', w6, hr, hD6⟩ := LD.app HD5.out x (by omega)
          have HD6 : Hid _ := hD6
          have el : (l ++ [x]).length = l.length + 1 := by simp
          rw [el] at hr
          clear hD6
          go_wp2_with (at_builtin; refine wpList_append_runA _ rfl (.tmp 21) (.tmp 23) 31 31 rfl _ _ _ _ rfl rfl hr ?_)
          go_roundw
          case rel => exact ⟨j - 1, a', c', l ++ [x], by go_num, by rw [el], by rw [el]; omega, HD6⟩
          case measure => simp [intOf]; omega
      · obtain ⟨c0, c1, c2, c3, c4⟩ := HX4.out
        simp only [Nat.zero_add] at c1 c2 c3 c4
        obtain ⟨a', c', w6, hr, hD6⟩ := LD.app HD4.out x (by omega)
        have HD6 : Hid _ := hD6
        have el : (l ++ [x]).length = l.length + 1 := by simp
        rw [el] at hr
        clear hD6
        go_wp2_with (at_builtin; refine wpList_append_runA _ rfl (.tmp 21) (.tmp 23) 31 31 rfl _ _ _ _ rfl rfl hr ?_)
        go_roundw
        case rel => exact ⟨j - 1, a', c', l ++ [x], by go_num, by rw [el], by rw [el]; omega, HD6⟩
        case measure => simp [intOf]; omega
    · have hj0 : j = 0 := by omega
      subst hj0
      go_wp2_with fail
      refine (one_any a len cap g _ _ (by decide) _ hD.out.src).mono ?_
      rintro e w6 ⟨q, rfl, hs6, ho6⟩
      have hD6 : Hid (LD a len cap g p w w6 la lc l) := hD.out.call hs6 ho6
      clear hs6 ho6 hD
      go_upto_if 26 with fail
      go_cut [3] (fun lv wx => ∃ (la : Option Addr) (lc : Nat) (l : List Ac), lv = .slice la l.length lc ∧ l.length ≤ 33 ∧ Hid (LD a len cap g p w wx la lc l))
      case first =>
        cases q
        · go_wp2
          go_meet
          exact ⟨_, _, _, rfl, by omega, hD6⟩
        · go_wp2
          go_loopw [3] (fun lv wr => ∃ (la : Option Addr) (lc : Nat) (l : List Ac), lv = .slice la l.length lc ∧ l.length ≤ 33 ∧ Hid (LD a len cap g p w wr la lc l)) (fun lv _ => 33 - (match lv with | .slice _ n _ => n | _ => 0))
          case atStart => exact ⟨la, lc, l, rfl, by omega, hD6⟩
          case round =>
            clear hD6 hj
            obtain ⟨la, lc, l, rfl, hl, hD⟩ := hrel
            go_wp2_with fail
            refine (n_any a len cap g _ _ (by decide) _ hD.out.src).mono ?_
            rintro e w7 ⟨r2, rfl, r0, r1, hs7, ho7⟩
            have hD7 : Hid (LD a len cap g p w w7 la lc l) := hD.out.call hs7 ho7
            have hr2 : r2 = 0 ∨ r2 = 1 := by omega
            clear hs7 ho7 hD r0 r1
            by_cases hlt : (l.length : Int) < 32 + r2
            · obtain ⟨a', c', w8, hr, hD8⟩ := LD.app hD7.out ⟨true, 4, (l.length : Int), 0, 1⟩ (by omega)
              have HD8 : Hid _ := hD8
              have el : (l ++ [(⟨true, 4, (l.length : Int), 0, 1⟩ : Ac)]).length = l.length + 1 := by simp
              rw [el] at hr
              clear hD8
              go_wp2_with (at_builtin; refine wpList_append_runA _ rfl (.tmp 33) (.tmp 37) 31 31 rfl _ _ _ _ rfl rfl hr ?_)
              go_roundw
              case rel => exact ⟨a', c', l ++ [⟨true, 4, (l.length : Int), 0, 1⟩], by rw [el], by rw [el]; omega, HD8⟩
              case measure => simp; omega
            · go_wp2
              go_meet
              exact ⟨_, _, _, rfl, hl, hD7⟩
      case rest =>
      clear hD6 hj
      obtain ⟨la, lc, l, rfl, hl, hD⟩ := hcut
      obtain ⟨wz, hwz⟩ : ∃ wz, wz = wc := ⟨_, rfl⟩
      subst hwz
      go_wp2_with fail
      refine (one_any a len cap g _ _ (by decide) _ hD.out.src).mono ?_
      rintro e w6 ⟨q, rfl, hs6, ho6⟩
      have hD6 : Hid (LD a len cap g p w w6 la lc l) := hD.out.call hs6 ho6
      clear hs6 ho6 hD
      cases q
      · go_wp2
        go_ret
        exact ⟨la, lc, l, rfl, hD6.out, by omega⟩
      · go_wp2_with fail
        refine (drAcl_any a len cap g _ _ hD6.out.src).mono ?_
        rintro e w7 ⟨A, aU, cU, aG, cG, rfl, hs7, ho7, ⟨X, R, hu, hg⟩, _, l1, l2⟩
        have HO7 : Hid (Ownp p w w7) := hD6.out.own.trans ho7
        have HS7 : Hid (Src a len cap g p w7) := hs7
        have hpu := hu.own.prs
        have hpg := hg.own.prs
        clear hu hg ho7 hs7 hD6
        go_wp2_with fail
        refine (sToNfs_any A aU cU aG cG (by omega) (by omega) w7 hpu hpg).mono ?_
        rintro e w8 ⟨a8, c8, rfl, hR8, hsm8⟩
        have HD8 : Hid (LD a len cap g p w w8 a8 c8 (toN A)) := (by
          have hb := hR8.2
          have hz := HO7.out.size
          exact ⟨HS7.out.kept (fun k hk => hb.block k (by have := HS7.out.pos; omega)), HO7.out.trans (below_ownp p hb), rowL_from hR8.1 hz, hp, hsm8⟩)
        have hl8 := toN_len A
        clear hR8 HO7 HS7 hpu hpg
        go_wp2
        go_ret
        exact ⟨a8, c8, toN A, rfl, HD8.out, hl8⟩
end Go.Proofs.YtedahdncincgjaaGreatDoor
