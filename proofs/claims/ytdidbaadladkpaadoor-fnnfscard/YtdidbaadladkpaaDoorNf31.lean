/- Laid together: ChmodS2, CrossS, CrossN. -/
import Derived.Test.YtdidbaadladkpaaDoorNf30
import Derived.Test.YtdidbaadladkpaaDoorNf10
import Derived.Test.YtdidbaadladkpaaDoorNf11
import Derived.Test.YtdidbaadladkpaaDoorNf12
import Derived.Deep.RegionHeld3
/- l04Chmod, NfsChmod of the specification. -/
namespace Go.Proofs.YtdidbaadladkpaaDoor
open Go.RowKit Go.PlainAid Go.Deep
set_option linter.unusedVariables false
/-- A row that is owned since w0. -/
def RowO (w0 w : World) (a : Option Addr) (c : Nat) (l : List Ac) : Prop := w.ownsRow w0.heap.size 33 5 (.slice a l.length c) l.length (pcA l) ∧ Below w0.heap.size w0 w
theorem RowO.below {w0 w w' : World} {a : Option Addr} {c : Nat} {l : List Ac} (h : RowO w0 w a c l) (hb : Below w.heap.size w w') : RowO w0 w' a c l := ⟨rowA_below h.1 hb, Below.on h.2 hb⟩
theorem RowO.drew {w0 w : World} {a : Option Addr} {c : Nat} {l : List Ac} (h : RowO w0 w a c l) : RowO w0 w.drew a c l := ⟨h.1, below_drewA h.2⟩
theorem more_row {w0 w : World} {a : Option Addr} {c : Nat} {acc : List Ac} (h : RowO w0 w a c acc) (hl : acc.length ≤ 1000000) (al : Bool) (wh id ma : Int) :
    Calls Tryd.prog 88 #[.slice a acc.length c, .bool al, .int .i64 wh, .int .i64 id, .int .i64 ma] w fun e w' => ∃ a' c', e = .returned (.slice a' (moreA acc al wh id ma).length c') ∧ RowO w0 w' a' c' (moreA acc al wh id ma) :=
  (sMore_any w0 w a c acc h.1 h.2 hl al wh id ma).mono (fun e w' ⟨a', c', h1, h2, h3⟩ => ⟨a', c', h1, h2, h3⟩)
theorem append_row {w0 w : World} {a : Option Addr} {c : Nat} {acc : List Ac} (h : RowO w0 w a c acc) (hl : acc.length ≤ 1000000) (x : Ac) :
    ∃ a' c' w', (Builtin.append_ #[23, 23] 23 #[.slice a acc.length c, .slice (some ⟨w.heap.size, 0, none⟩) 1 1]).run Tryd.prog (w.alloc (.cells #[.bool x.al, .int .i64 x.wh, .int .i64 x.id, .int .i64 x.fl, .int .i64 x.ma] 33)) = .ok (.slice a' (acc ++ [x]).length c') w' ∧ RowO w0 w' a' c' (acc ++ [x]) := by
  obtain ⟨v2, w2, hr, hO2, hB2⟩ := append_one (P := Tryd.prog) w0 w 23 23 33 Tryd.underlying23 infoAce _ acc h.1 h.2 x (by omega)
  obtain ⟨a', c', hv, _⟩ := ownA_of_row hO2
  subst hv
  exact ⟨a', c', w2, hr, hO2, hB2⟩
theorem RowO.set {w0 w : World} {a : Option Addr} {c : Nat} {l : List Ac} {b o : Nat} {v : Value} (h : RowO w0 w a c l) (hb : w0.heap.size ≤ b) (hne : ∀ A, a = some A → A.block ≠ b) : RowO w0 (w.setCell ⟨b, o, none⟩ v) a c l := by
  refine ⟨?_, h.2.setCell hb _⟩
  obtain ⟨h0, ⟨e, hn⟩ | ⟨g, cap, cur, e, hB, hg, hc, hm, hs, ht⟩⟩ := h.1
  · exact ⟨h0, .inl ⟨e, hn⟩⟩
  · have hg2 : a = some ⟨g, 0, none⟩ := by cases e; rfl
    have := hne _ hg2
    exact ⟨h0, .inr ⟨g, cap, cur, e, hB, (Below.heap_setCell w ⟨b, o, none⟩ v g (by show g ≠ b; exact this)).trans hg, hc, hm, hs, ht⟩⟩
theorem RowO.low {w0 w : World} {a : Option Addr} {c : Nat} {l : List Ac} (h : RowO w0 w a c l) : ∀ A, a = some A → A.block < w.heap.size := fun A e => (h.1.lt A.block (by rw [e]; rfl)).2
theorem ace_range {l : List Ac} (h : acesB l = true) {k : Nat} (hk : k < l.length) : (0 ≤ (acAt l k).fl ∧ (acAt l k).fl ≤ 15) ∧ (1 ≤ (acAt l k).ma ∧ (acAt l k).ma ≤ 255) := by
  obtain ⟨_, _, _, ⟨hf, _⟩, hm⟩ := aceB_iff.1 (aces_at h hk)
  exact ⟨hf, hm⟩
theorem andI_range (a b : Int) (a0 : 0 ≤ a) : 0 ≤ andI a b ∧ andI a b ≤ a := by
  have h : a.toNat &&& b.toNat ≤ a.toNat := Nat.and_le_left
  unfold andI
  omega
end Go.Proofs.YtdidbaadladkpaaDoor
/- ToNfs of the specification: l07Pair. -/
namespace Go.Proofs.YtdidbaadladkpaaDoor
open Go.RowKit Go.PlainAid Go.Deep
set_option linter.unusedVariables false
/-- An Allow and a Deny of somebody. -/
def pairA (l : List Ac) (wh id b : Int) : List Ac := moreA (moreA l true wh id (nb b)) false wh id (nb (7 - b))
theorem pair_len (l : List Ac) (wh id b : Int) : (pairA l wh id b).length ≤ l.length + 2 := by
  have h1 := more_len l true wh id (nb b)
  have h2 := more_len (moreA l true wh id (nb b)) false wh id (nb (7 - b))
  unfold pairA
  omega
set_option maxRecDepth 100000 in
set_option maxHeartbeats 2000000 in
/-- spec.l07Pair. -/
theorem sPair_any {w0 w : World} {a : Option Addr} {c : Nat} {acc : List Ac} (h : RowO w0 w a c acc) (hl : acc.length ≤ 100000) (wh id b : Int) (h0 : 0 ≤ b) (h1 : b ≤ 7) :
    Calls Tryd.prog 105 #[.slice a acc.length c, .int .i64 wh, .int .i64 id, .int .i64 b] w fun e w' => ∃ a' c', e = .returned (.slice a' (pairA acc wh id b).length c') ∧ RowO w0 w' a' c' (pairA acc wh id b) := by
  have HR : Hid (RowO w0 w a c acc) := h
  have HP : Hid (pairA acc wh id b = moreA (moreA acc true wh id (nb b)) false wh id (nb (7 - b))) := rfl
  have l1 := more_len acc true wh id (nb b)
  have HB1 : Hid (∀ w : World, Calls Tryd.prog 48 #[.int .i64 b] w fun e w' => e = .returned (.int .i64 (nb b)) ∧ w' = w) := l04Bits_any b h0 h1
  have HB2 : Hid (∀ w : World, Calls Tryd.prog 48 #[.int .i64 (7 - b)] w fun e w' => e = .returned (.int .i64 (nb (7 - b))) ∧ w' = w) := l04Bits_any (7 - b) (by omega) (by omega)
  clear h
  go_enter Tryd.func105, Tryd.ntmps105
  go_wp2_with fail
  refine (HB1.out _).mono ?_
  rintro e w1 ⟨rfl, rfl⟩
  go_wp2_with fail
  refine (more_row HR.out (by omega) true wh id (nb b)).mono ?_
  rintro e w2 ⟨a2, c2, rfl, hR2⟩
  have HR2 : Hid _ := hR2
  clear hR2 HR
  go_wp2_with fail
  refine (HB2.out _).mono ?_
  rintro e w3 ⟨rfl, rfl⟩
  go_wp2_with fail
  refine (more_row HR2.out (by omega) false wh id (nb (7 - b))).mono ?_
  rintro e w4 ⟨a4, c4, rfl, hR4⟩
  rw [← HP.out] at hR4 ⊢
  have HR4 : Hid (RowO w0 w4 a4 c4 (pairA acc wh id b)) := hR4
  clear hR4
  go_wp2
  go_ret
  exact ⟨a4, c4, rfl, HR4.out⟩
end Go.Proofs.YtdidbaadladkpaaDoor
/- ToNfs of the specification. -/
namespace Go.Proofs.YtdidbaadladkpaaDoor
open Go.RowKit Go.PlainAid Go.Deep
set_option linter.unusedVariables false
def usN (l0 : List Ac) (us : List (Int × Int)) (m : Int) : Nat → List Ac
  | 0 => l0
  | k + 1 => pairA (usN l0 us m k) 4 (idAt us k) (andI (btAt us k) m)
def gaN (l0 : List Ac) (gs : List (Int × Int)) (m : Int) : Nat → List Ac
  | 0 => l0
  | k + 1 => moreA (gaN l0 gs m k) true 5 (idAt gs k) (nb (andI (btAt gs k) m))
def gdN (l0 : List Ac) (gs : List (Int × Int)) (m : Int) : Nat → List Ac
  | 0 => l0
  | k + 1 => moreA (gdN l0 gs m k) false 5 (idAt gs k) (nb (7 - andI (btAt gs k) m))
theorem usN_len (l0 : List Ac) (us : List (Int × Int)) (m : Int) : ∀ k, (usN l0 us m k).length ≤ l0.length + 2 * k := by
  intro k
  induction k with
  | zero => simp [usN]
  | succ k ih => have := pair_len (usN l0 us m k) 4 (idAt us k) (andI (btAt us k) m); simp only [usN]; omega
theorem gaN_len (l0 : List Ac) (gs : List (Int × Int)) (m : Int) : ∀ k, (gaN l0 gs m k).length ≤ l0.length + k := by
  intro k
  induction k with
  | zero => simp [gaN]
  | succ k ih => have := more_len (gaN l0 gs m k) true 5 (idAt gs k) (nb (andI (btAt gs k) m)); simp only [gaN]; omega
theorem gdN_len (l0 : List Ac) (gs : List (Int × Int)) (m : Int) : ∀ k, (gdN l0 gs m k).length ≤ l0.length + k := by
  intro k
  induction k with
  | zero => simp [gdN]
  | succ k ih => have := more_len (gdN l0 gs m k) false 5 (idAt gs k) (nb (7 - andI (btAt gs k) m)); simp only [gdN]; omega
/-- What the group itself may. -/
def ownG (A : Al) : Int := andI A.g (clsOf A.g A.r A.m)
def nfs1 (A : Al) : List Ac := usN (pairA [] 1 0 A.u) A.us A.m A.us.length
def nfs2 (A : Al) : List Ac := gaN (moreA (nfs1 A) true 2 0 (nb (ownG A))) A.gs A.m A.gs.length
def nfs3 (A : Al) : List Ac := gdN (moreA (nfs2 A) false 2 0 (nb (7 - ownG A))) A.gs A.m A.gs.length
/-- A list of names as one in order. -/
def nfsA (A : Al) : List Ac := moreA (nfs3 A) true 3 0 (nb A.o)
/-- A row, told from an elder world. -/
theorem rowO_from {wB w0 w : World} {a : Option Addr} {c : Nat} {l : List Ac} (h : RowO w0 w a c l) (hb : Below wB.heap.size wB w0) : RowO wB w a c l := by
  refine ⟨?_, hb.trans (h.2.mono hb.size)⟩
  obtain ⟨h0, ⟨e, hn⟩ | ⟨g, cap, cur, e, hB, hg, hc, hm, hs, ht⟩⟩ := h.1
  · exact ⟨h0, .inl ⟨e, hn⟩⟩
  · exact ⟨h0, .inr ⟨g, cap, cur, e, Nat.le_trans hb.size hB, hg, hc, hm, hs, ht⟩⟩
theorem rowO_empty (w : World) (t : TypeId) (ht : t = 33) : RowO w (w.alloc (.cells #[] t)) (some ⟨w.heap.size, 0, none⟩) 0 [] := by
  subst ht
  refine ⟨⟨rfl, .inr ⟨w.heap.size, 0, #[], rfl, Nat.le_refl _, ?_, Nat.le_refl _, by unfold maxLen; omega, rfl, rfl⟩⟩, bel_alloc _ _⟩
  rw [World.alloc]
  exact Array.getElem?_push_size
theorem bits_wrap {v : Int} (v0 : 0 ≤ v) (v1 : v ≤ 7) (w : World) : Calls Tryd.prog 48 #[.int .i64 (IntKind.i64.wrap (7 - v))] w fun e w' => e = .returned (.int .i64 (nb (7 - v))) ∧ w' = w := by
  have h : IntKind.i64.wrap (7 - v) = 7 - v := by rw [IntKind.wrap_i64]; omega
  rw [h]
  exact l04Bits_any (7 - v) (by omega) (by omega) w
theorem and7 (a b : Int) (a0 : 0 ≤ a) (a1 : a ≤ 7) (b0 : 0 ≤ b) (b1 : b ≤ 7) : 0 ≤ andI a b ∧ andI a b ≤ 7 := by
  obtain ⟨x, rfl⟩ := Int.eq_ofNat_of_zero_le a0
  obtain ⟨y, rfl⟩ := Int.eq_ofNat_of_zero_le b0
  have h : x &&& y ≤ x := Nat.and_le_left
  show 0 ≤ ((Int.toNat (x : Int) &&& Int.toNat (y : Int) : Nat) : Int) ∧ ((Int.toNat (x : Int) &&& Int.toNat (y : Int) : Nat) : Int) ≤ 7
  simp only [Int.toNat_natCast]
  omega
/-- The list's box, and its rows. -/
structure NX (w w' : World) (A : Al) (aU : Option Addr) (cU : Nat) (aG : Option Addr) (cG : Nat) : Prop where
  x : Box7 w' w.heap.size (.int .i64 A.u) (.int .i64 A.g) (.int .i64 A.o) (.slice aU A.us.length cU) (.slice aG A.gs.length cG) (.bool A.r) (.int .i64 A.m)
  u : Prs aU A.us.length A.us w'
  g : Prs aG A.gs.length A.gs w'
theorem NX.below {w w' w2 : World} {A : Al} {aU : Option Addr} {cU : Nat} {aG : Option Addr} {cG : Nat} (h : NX w w' A aU cU aG cG) (hb : Below w'.heap.size w' w2) : NX w w2 A aU cU aG cG := ⟨h.x.below hb, h.u.below hb, h.g.below hb⟩
/-- A row behind a box that was made first: what is made leaves the box. -/
theorem rowO_rest {w w' w2 : World} {a : Option Addr} {c : Nat} {l : List Ac} (h : RowO w' w2 a c l) : Below w'.heap.size w' w2 := h.2
set_option maxRecDepth 100000 in
set_option maxHeartbeats 4000000 in
/-- spec.l07Nfs of a right list. -/
theorem sNfs_any (A : Al) (aU : Option Addr) (cU : Nat) (aG : Option Addr) (cG : Nat) (hA : A.B = true) (w : World) (hu : Prs aU A.us.length A.us w) (hg : Prs aG A.gs.length A.gs w) :
    Calls Tryd.prog 93 #[.agg #[.int .i64 A.u, .int .i64 A.g, .int .i64 A.o, .slice aU A.us.length cU, .slice aG A.gs.length cG, .bool A.r, .int .i64 A.m]] w fun e w' => ∃ a c, e = .returned (.slice a (nfsA A).length c) ∧ RowO w w' a c (nfsA A) := by
  have hB : aclB A.u A.g A.o A.us A.gs A.r A.m = true := hA
  obtain ⟨⟨u0, u1⟩, ⟨g0, g1⟩, ⟨o0, o1⟩, ⟨m0, m1⟩, b1, b2⟩ := aclB_parts hB
  have hl1 := nm_len b1
  have hl2 := nm_len b2
  obtain ⟨k0, k1⟩ := clsOf_in hB
  obtain ⟨og0, og1⟩ := and7 A.g (clsOf A.g A.r A.m) g0 g1 k0 k1
  have BU : Hid (∀ k, k < A.us.length → 0 ≤ btAt A.us k ∧ btAt A.us k ≤ 7) := nm_bt b1
  have BG : Hid (∀ k, k < A.gs.length → 0 ≤ btAt A.gs k ∧ btAt A.gs k ≤ 7) := nm_bt b2
  have hb0 := bel_alloc w (.cells #[.int .i64 A.u, .int .i64 A.g, .int .i64 A.o, .slice aU A.us.length cU, .slice aG A.gs.length cG, .bool A.r, .int .i64 A.m] 83)
  have HX : Hid (NX w (w.alloc (.cells #[.int .i64 A.u, .int .i64 A.g, .int .i64 A.o, .slice aU A.us.length cU, .slice aG A.gs.length cG, .bool A.r, .int .i64 A.m] 83)) A aU cU aG cG) := ⟨box7_new w _ _ _ _ _ _ _ _, hu.below hb0, hg.below hb0⟩
  have HW0 : Hid (Below w.heap.size w (w.alloc (.cells #[.int .i64 A.u, .int .i64 A.g, .int .i64 A.o, .slice aU A.us.length cU, .slice aG A.gs.length cG, .bool A.r, .int .i64 A.m] 83))) := hb0
  have N1 : Hid (nfs1 A = usN (pairA [] 1 0 A.u) A.us A.m A.us.length) := rfl
  have N2 : Hid (nfs2 A = gaN (moreA (nfs1 A) true 2 0 (nb (ownG A))) A.gs A.m A.gs.length) := rfl
  have N3 : Hid (nfs3 A = gdN (moreA (nfs2 A) false 2 0 (nb (7 - ownG A))) A.gs A.m A.gs.length) := rfl
  have NF : Hid (nfsA A = moreA (nfs3 A) true 3 0 (nb A.o)) := rfl
  have L1 : (nfs1 A).length ≤ 20 := by
    have h1 := usN_len (pairA [] 1 0 A.u) A.us A.m A.us.length
    have h2 := pair_len [] 1 0 A.u
    simp only [List.length_nil] at h2
    show (usN (pairA [] 1 0 A.u) A.us A.m A.us.length).length ≤ 20
    omega
  have L2 : (nfs2 A).length ≤ 30 := by
    have h1 := gaN_len (moreA (nfs1 A) true 2 0 (nb (ownG A))) A.gs A.m A.gs.length
    have h2 := more_len (nfs1 A) true 2 0 (nb (ownG A))
    show (gaN (moreA (nfs1 A) true 2 0 (nb (ownG A))) A.gs A.m A.gs.length).length ≤ 30
    omega
  have L3 : (nfs3 A).length ≤ 40 := by
    have h1 := gdN_len (moreA (nfs2 A) false 2 0 (nb (7 - ownG A))) A.gs A.m A.gs.length
    have h2 := more_len (nfs2 A) false 2 0 (nb (7 - ownG A))
    show (gdN (moreA (nfs2 A) false 2 0 (nb (7 - ownG A))) A.gs A.m A.gs.length).length ≤ 40
    omega
  have HOG : Hid (ownG A = andI A.g (clsOf A.g A.r A.m)) := rfl
  have og2 : 0 ≤ ownG A ∧ ownG A ≤ 7 := ⟨og0, og1⟩
  clear hu hg hb0 hB hA b1 b2 og0 og1
  go_enter Tryd.func93, Tryd.ntmps93
  have e0 : (w.alloc (.cells #[.int .i64 A.u, .int .i64 A.g, .int .i64 A.o, .slice aU A.us.length cU, .slice aG A.gs.length cG, .bool A.r, .int .i64 A.m] 83)).heap.size = w.heap.size + 1 := by simp
  have HRE : Hid (RowO (w.alloc (.cells #[.int .i64 A.u, .int .i64 A.g, .int .i64 A.o, .slice aU A.us.length cU, .slice aG A.gs.length cG, .bool A.r, .int .i64 A.m] 83)) ((w.alloc (.cells #[.int .i64 A.u, .int .i64 A.g, .int .i64 A.o, .slice aU A.us.length cU, .slice aG A.gs.length cG, .bool A.r, .int .i64 A.m] 83)).alloc (.cells #[] 33)) (some ⟨w.heap.size + 1, 0, none⟩) 0 []) := (by
    have h := rowO_empty (w.alloc (.cells #[.int .i64 A.u, .int .i64 A.g, .int .i64 A.o, .slice aU A.us.length cU, .slice aG A.gs.length cG, .bool A.r, .int .i64 A.m] 83)) 33 rfl
    rw [e0] at h
    exact h)
  clear e0
  go_wp2_with fail
  refine (sPair_any (acc := []) HRE.out (by simp) 1 0 A.u u0 u1).mono ?_
  rintro e w3 ⟨a3, c3, rfl, hR3⟩
  have HR3 : Hid (RowO (w.alloc (.cells #[.int .i64 A.u, .int .i64 A.g, .int .i64 A.o, .slice aU A.us.length cU, .slice aG A.gs.length cG, .bool A.r, .int .i64 A.m] 83)) w3 a3 c3 (usN (pairA [] 1 0 A.u) A.us A.m 0)) := hR3
  clear HRE hR3
  generalize (w.alloc (.cells #[.int .i64 A.u, .int .i64 A.g, .int .i64 A.o, .slice aU A.us.length cU, .slice aG A.gs.length cG, .bool A.r, .int .i64 A.m] 83)) = w0 at HX HW0 HR3
  go_wp2
  go_loopw [3, 4] (fun l i wr => ∃ (k : Nat) (a : Option Addr) (c : Nat), k ≤ A.us.length ∧ i = .int .i64 k ∧ l = .slice a (usN (pairA [] 1 0 A.u) A.us A.m k).length c ∧ Hid (RowO w0 wr a c (usN (pairA [] 1 0 A.u) A.us A.m k))) (fun _ i _ => A.us.length - (intOf i).toNat)
  case atStart => exact ⟨0, _, _, Nat.zero_le _, rfl, rfl, HR3⟩
  case round =>
  obtain ⟨k, a, c, hk, rfl, rfl, hR⟩ := hrel
  obtain ⟨xl, x0, x1, x2, x3, x4, x5, x6⟩ := (HX.out.below hR.out.2).x
  by_cases hlt : k < A.us.length
  · have hlt' : (k : Int) < (A.us.length : Int) := by omega
    obtain ⟨b, off, hab, hbl, hcs⟩ := HX.out.u.2 (by omega)
    have HX1 : Hid (NX w w0 A aU cU aG cG) := HX
    subst hab
    obtain ⟨q0, q1⟩ := hcs k hlt
    have HQ0 : Hid (∀ W, Below w0.heap.size w0 W → W.cell? ⟨b, off + k * 2, none⟩ = some (.int .i64 (idAt A.us k))) := (fun W hb => (hb.cell (p := ⟨b, off + k * 2, none⟩) hbl).trans q0)
    have HQ1 : Hid (∀ W, Below w0.heap.size w0 W → W.cell? ⟨b, off + k * 2 + 1, none⟩ = some (.int .i64 (btAt A.us k))) := (fun W hb => (hb.cell (p := ⟨b, off + k * 2 + 1, none⟩) hbl).trans q1)
    have z0 := HQ0.out _ hR.out.2
    have z1 := HQ1.out _ hR.out.2
    obtain ⟨t0, t1⟩ := BU.out k hlt
    obtain ⟨v0, v1⟩ := andI_in (b := A.m) t0 t1
    have hlen : (usN (pairA [] 1 0 A.u) A.us A.m k).length ≤ 100 := by have := usN_len (pairA [] 1 0 A.u) A.us A.m k; have := pair_len [] 1 0 A.u; simp only [List.length_nil] at this; omega
    have HE : Hid (usN (pairA [] 1 0 A.u) A.us A.m (k + 1) = pairA (usN (pairA [] 1 0 A.u) A.us A.m k) 4 (idAt A.us k) (andI (btAt A.us k) A.m)) := rfl
    clear hcs hbl q0 q1
    go_wp2_with fail
    go_region_held3 (fun w' => w'.cell? ⟨w.heap.size, 3, none⟩ = some (.slice (some ⟨b, off, none⟩) A.us.length cU) ∧ w'.cell? ⟨w.heap.size, 6, none⟩ = some (.int .i64 A.m) ∧ w'.cell? ⟨b, off + k * 2, none⟩ = some (.int .i64 (idAt A.us k)) ∧ w'.cell? ⟨b, off + k * 2 + 1, none⟩ = some (.int .i64 (btAt A.us k))) (go_keep)
      (first
        | (go_at_call 89; refine Calls.mono (sBoth_any _ _ t0 (by omega) m0 (by omega) _) ?_; rintro e wb ⟨rfl, rfl⟩)
        | (go_at_call 105; refine Calls.mono (sPair_any (w0 := w0) ?hs (by omega) 4 (idAt A.us k) (andI (btAt A.us k) A.m) v0 v1) ?_; (case hs => (first | exact hR.out | exact hR.out.drew)); rintro e wn ⟨an, cn, rfl, hRn⟩; have HRn : Hid _ := hRn; obtain ⟨_, ya0, ya1, ya2, ya3, ya4, ya5, ya6⟩ := (HX1.out.below hRn.2).x; have yq0 := HQ0.out _ hRn.2; have yq1 := HQ1.out _ hRn.2))
    have HRm : Hid (RowO w0 wn an cn (usN (pairA [] 1 0 A.u) A.us A.m (k + 1))) := HRn
    have hll : (pairA (usN (pairA [] 1 0 A.u) A.us A.m k) 4 (idAt A.us k) (andI (btAt A.us k) A.m)).length = (usN (pairA [] 1 0 A.u) A.us A.m (k + 1)).length := by rw [HE.out]
    rw [hll]
    go_wp2
    go_roundw
    case rel => exact ⟨k + 1, an, cn, by omega, by go_num, rfl, HRm⟩
    case measure => simp [intOf]; omega
  · have hkk : k = A.us.length := by omega
    subst hkk
    have HR1 : Hid (RowO w0 wr a c (nfs1 A)) := hR
    have h1l : (usN (pairA [] 1 0 A.u) A.us A.m A.us.length).length = (nfs1 A).length := rfl
    rw [h1l]
    clear hR h1l
    go_wp2_with fail
    go_region_held3 (fun w' => w'.cell? ⟨w.heap.size, 0, none⟩ = some (.int .i64 A.u) ∧ w'.cell? ⟨w.heap.size, 1, none⟩ = some (.int .i64 A.g) ∧ w'.cell? ⟨w.heap.size, 2, none⟩ = some (.int .i64 A.o) ∧ w'.cell? ⟨w.heap.size, 3, none⟩ = some (.slice aU A.us.length cU) ∧ w'.cell? ⟨w.heap.size, 4, none⟩ = some (.slice aG A.gs.length cG) ∧ w'.cell? ⟨w.heap.size, 5, none⟩ = some (.bool A.r) ∧ w'.cell? ⟨w.heap.size, 6, none⟩ = some (.int .i64 A.m)) (go_keep)
      (first
        | (go_at_call 106; refine Calls.mono (sClass_any _ _ _ _ _ _ _ _ _ _ _ _) ?_; rintro e wk ⟨rfl, hbk⟩; have HRk : Hid (RowO w0 wk a c (nfs1 A)) := (HR1.out.below ⟨hbk.os, hbk.tape, hbk.output, hbk.size, hbk.block⟩); obtain ⟨_, ya0, ya1, ya2, ya3, ya4, ya5, ya6⟩ := (HX.out.below HRk.out.2).x)
        | (go_at_call 89; refine Calls.mono (sBoth_any _ _ g0 (by omega) k0 (by omega) _) ?_; rintro e wb ⟨rfl, rfl⟩))
    rw [← HOG.out]
    clear x0 x1 x2 x3 x4 x5 x6 xl ya0 ya1 ya2 ya3 ya4 ya5 ya6 hbk HR1
    go_wp2_with fail
    refine (l04Bits_any (ownG A) og2.1 og2.2 _).mono ?_
    rintro e wp ⟨rfl, rfl⟩
    go_wp2_with fail
    refine (more_row HRk.out (by omega) true 2 0 (nb (ownG A))).mono ?_
    rintro e w4 ⟨a4, c4, rfl, hR4⟩
    have HR4 : Hid (RowO w0 w4 a4 c4 (gaN (moreA (nfs1 A) true 2 0 (nb (ownG A))) A.gs A.m 0)) := hR4
    clear hR4 hlt hk HRk
    go_wp2
    go_loopw [3, 6] (fun l i wr => ∃ (k : Nat) (a : Option Addr) (c : Nat), k ≤ A.gs.length ∧ i = .int .i64 k ∧ l = .slice a (gaN (moreA (nfs1 A) true 2 0 (nb (ownG A))) A.gs A.m k).length c ∧ Hid (RowO w0 wr a c (gaN (moreA (nfs1 A) true 2 0 (nb (ownG A))) A.gs A.m k))) (fun _ i _ => A.gs.length - (intOf i).toNat)
    case atStart => exact ⟨0, _, _, Nat.zero_le _, rfl, rfl, HR4⟩
    case round =>
    obtain ⟨k, a, c, hk, rfl, rfl, hR⟩ := hrel
    obtain ⟨xl, x0, x1, x2, x3, x4, x5, x6⟩ := (HX.out.below hR.out.2).x
    by_cases hlt : k < A.gs.length
    · have hlt' : (k : Int) < (A.gs.length : Int) := by omega
      obtain ⟨b, off, hab, hbl, hcs⟩ := HX.out.g.2 (by omega)
      have HX1 : Hid (NX w w0 A aU cU aG cG) := HX
      subst hab
      obtain ⟨q0, q1⟩ := hcs k hlt
      have HQ0 : Hid (∀ W, Below w0.heap.size w0 W → W.cell? ⟨b, off + k * 2, none⟩ = some (.int .i64 (idAt A.gs k))) := (fun W hb => (hb.cell (p := ⟨b, off + k * 2, none⟩) hbl).trans q0)
      have HQ1 : Hid (∀ W, Below w0.heap.size w0 W → W.cell? ⟨b, off + k * 2 + 1, none⟩ = some (.int .i64 (btAt A.gs k))) := (fun W hb => (hb.cell (p := ⟨b, off + k * 2 + 1, none⟩) hbl).trans q1)
      have z0 := HQ0.out _ hR.out.2
      have z1 := HQ1.out _ hR.out.2
      obtain ⟨t0, t1⟩ := BG.out k hlt
      obtain ⟨v0, v1⟩ := andI_in (b := A.m) t0 t1
      have hlen : (gaN (moreA (nfs1 A) true 2 0 (nb (ownG A))) A.gs A.m k).length ≤ 100 := by have := gaN_len (moreA (nfs1 A) true 2 0 (nb (ownG A))) A.gs A.m k; have := more_len (nfs1 A) true 2 0 (nb (ownG A)); omega
      have HE : Hid (gaN (moreA (nfs1 A) true 2 0 (nb (ownG A))) A.gs A.m (k + 1) = moreA (gaN (moreA (nfs1 A) true 2 0 (nb (ownG A))) A.gs A.m k) true 5 (idAt A.gs k) (nb (andI (btAt A.gs k) A.m))) := rfl
      clear hcs hbl q0 q1
      go_wp2_with fail
      go_region_held3 (fun w' => w'.cell? ⟨w.heap.size, 4, none⟩ = some (.slice (some ⟨b, off, none⟩) A.gs.length cG) ∧ w'.cell? ⟨w.heap.size, 6, none⟩ = some (.int .i64 A.m) ∧ w'.cell? ⟨b, off + k * 2, none⟩ = some (.int .i64 (idAt A.gs k)) ∧ w'.cell? ⟨b, off + k * 2 + 1, none⟩ = some (.int .i64 (btAt A.gs k))) (go_keep)
        (first
          | (go_at_call 89; refine Calls.mono (sBoth_any _ _ t0 (by omega) m0 (by omega) _) ?_; rintro e wb ⟨rfl, rfl⟩)
          | (go_at_call 48; refine Calls.mono (l04Bits_any _ v0 v1 _) ?_; rintro e wb ⟨rfl, rfl⟩)
          | (go_at_call 88; refine Calls.mono (more_row (w0 := w0) ?hs (by omega) true 5 (idAt A.gs k) (nb (andI (btAt A.gs k) A.m))) ?_; (case hs => (first | exact hR.out | exact hR.out.drew)); rintro e wn ⟨an, cn, rfl, hRn⟩; have HRn : Hid _ := hRn; obtain ⟨_, ya0, ya1, ya2, ya3, ya4, ya5, ya6⟩ := (HX1.out.below hRn.2).x; have yq0 := HQ0.out _ hRn.2; have yq1 := HQ1.out _ hRn.2))
      have HRm : Hid (RowO w0 wn an cn (gaN (moreA (nfs1 A) true 2 0 (nb (ownG A))) A.gs A.m (k + 1))) := HRn
      have hll : (moreA (gaN (moreA (nfs1 A) true 2 0 (nb (ownG A))) A.gs A.m k) true 5 (idAt A.gs k) (nb (andI (btAt A.gs k) A.m))).length = (gaN (moreA (nfs1 A) true 2 0 (nb (ownG A))) A.gs A.m (k + 1)).length := by rw [HE.out]
      rw [hll]
      go_wp2
      go_roundw
      case rel => exact ⟨k + 1, an, cn, by omega, by go_num, rfl, HRm⟩
      case measure => simp [intOf]; omega
    · have hkk : k = A.gs.length := by omega
      subst hkk
      have HR2 : Hid (RowO w0 wr a c (nfs2 A)) := hR
      have h2l : (gaN (moreA (nfs1 A) true 2 0 (nb (ownG A))) A.gs A.m A.gs.length).length = (nfs2 A).length := rfl
      rw [h2l]
      clear hR h2l
      go_wp2_with fail
      refine (l04Bits_any (7 - ownG A) (by omega) (by omega) _).mono ?_
      rintro e wp ⟨rfl, rfl⟩
      go_wp2_with fail
      refine (more_row HR2.out (by omega) false 2 0 (nb (7 - ownG A))).mono ?_
      rintro e w5 ⟨a5, c5, rfl, hR5⟩
      have HR5 : Hid (RowO w0 w5 a5 c5 (gdN (moreA (nfs2 A) false 2 0 (nb (7 - ownG A))) A.gs A.m 0)) := hR5
      clear hR5 hlt hk HR2 x0 x1 x2 x3 x4 x5 x6 xl
      go_wp2
      go_loopw [3, 7] (fun l i wr => ∃ (k : Nat) (a : Option Addr) (c : Nat), k ≤ A.gs.length ∧ i = .int .i64 k ∧ l = .slice a (gdN (moreA (nfs2 A) false 2 0 (nb (7 - ownG A))) A.gs A.m k).length c ∧ Hid (RowO w0 wr a c (gdN (moreA (nfs2 A) false 2 0 (nb (7 - ownG A))) A.gs A.m k))) (fun _ i _ => A.gs.length - (intOf i).toNat)
      case atStart => exact ⟨0, _, _, Nat.zero_le _, rfl, rfl, HR5⟩
      case round =>
      obtain ⟨k, a, c, hk, rfl, rfl, hR⟩ := hrel
      obtain ⟨xl, x0, x1, x2, x3, x4, x5, x6⟩ := (HX.out.below hR.out.2).x
      by_cases hlt : k < A.gs.length
      · have hlt' : (k : Int) < (A.gs.length : Int) := by omega
        obtain ⟨b, off, hab, hbl, hcs⟩ := HX.out.g.2 (by omega)
        have HX1 : Hid (NX w w0 A aU cU aG cG) := HX
        subst hab
        obtain ⟨q0, q1⟩ := hcs k hlt
        have HQ0 : Hid (∀ W, Below w0.heap.size w0 W → W.cell? ⟨b, off + k * 2, none⟩ = some (.int .i64 (idAt A.gs k))) := (fun W hb => (hb.cell (p := ⟨b, off + k * 2, none⟩) hbl).trans q0)
        have HQ1 : Hid (∀ W, Below w0.heap.size w0 W → W.cell? ⟨b, off + k * 2 + 1, none⟩ = some (.int .i64 (btAt A.gs k))) := (fun W hb => (hb.cell (p := ⟨b, off + k * 2 + 1, none⟩) hbl).trans q1)
        have z0 := HQ0.out _ hR.out.2
        have z1 := HQ1.out _ hR.out.2
        obtain ⟨t0, t1⟩ := BG.out k hlt
        obtain ⟨v0, v1⟩ := andI_in (b := A.m) t0 t1
        have hlen : (gdN (moreA (nfs2 A) false 2 0 (nb (7 - ownG A))) A.gs A.m k).length ≤ 100 := by have := gdN_len (moreA (nfs2 A) false 2 0 (nb (7 - ownG A))) A.gs A.m k; have := more_len (nfs2 A) false 2 0 (nb (7 - ownG A)); omega
        have HE : Hid (gdN (moreA (nfs2 A) false 2 0 (nb (7 - ownG A))) A.gs A.m (k + 1) = moreA (gdN (moreA (nfs2 A) false 2 0 (nb (7 - ownG A))) A.gs A.m k) false 5 (idAt A.gs k) (nb (7 - andI (btAt A.gs k) A.m))) := rfl
        clear hcs hbl q0 q1
        go_wp2_with fail
        go_region_held3 (fun w' => w'.cell? ⟨w.heap.size, 4, none⟩ = some (.slice (some ⟨b, off, none⟩) A.gs.length cG) ∧ w'.cell? ⟨w.heap.size, 6, none⟩ = some (.int .i64 A.m) ∧ w'.cell? ⟨b, off + k * 2, none⟩ = some (.int .i64 (idAt A.gs k)) ∧ w'.cell? ⟨b, off + k * 2 + 1, none⟩ = some (.int .i64 (btAt A.gs k))) (go_keep)
          (first
            | (go_at_call 89; refine Calls.mono (sBoth_any _ _ t0 (by omega) m0 (by omega) _) ?_; rintro e wb ⟨rfl, rfl⟩)
            | (go_at_call 48; refine Calls.mono (bits_wrap v0 v1 _) ?_; rintro e wb ⟨rfl, rfl⟩)
            | (go_at_call 88; refine Calls.mono (more_row (w0 := w0) ?hs (by omega) false 5 (idAt A.gs k) (nb (7 - andI (btAt A.gs k) A.m))) ?_; (case hs => (first | exact hR.out | exact hR.out.drew)); rintro e wn ⟨an, cn, rfl, hRn⟩; have HRn : Hid _ := hRn; obtain ⟨_, ya0, ya1, ya2, ya3, ya4, ya5, ya6⟩ := (HX1.out.below hRn.2).x; have yq0 := HQ0.out _ hRn.2; have yq1 := HQ1.out _ hRn.2))
        have HRm : Hid (RowO w0 wn an cn (gdN (moreA (nfs2 A) false 2 0 (nb (7 - ownG A))) A.gs A.m (k + 1))) := HRn
        have hll : (moreA (gdN (moreA (nfs2 A) false 2 0 (nb (7 - ownG A))) A.gs A.m k) false 5 (idAt A.gs k) (nb (7 - andI (btAt A.gs k) A.m))).length = (gdN (moreA (nfs2 A) false 2 0 (nb (7 - ownG A))) A.gs A.m (k + 1)).length := by rw [HE.out]
        rw [hll]
        go_wp2
        go_roundw
        case rel => exact ⟨k + 1, an, cn, by omega, by go_num, rfl, HRm⟩
        case measure => simp [intOf]; omega
      · have hkk : k = A.gs.length := by omega
        subst hkk
        have HR3 : Hid (RowO w0 wr a c (nfs3 A)) := hR
        have h3l : (gdN (moreA (nfs2 A) false 2 0 (nb (7 - ownG A))) A.gs A.m A.gs.length).length = (nfs3 A).length := rfl
        rw [h3l]
        clear hR h3l
        go_wp2_with fail
        refine (l04Bits_any A.o o0 o1 _).mono ?_
        rintro e wp ⟨rfl, rfl⟩
        go_wp2_with fail
        refine (more_row HR3.out (by omega) true 3 0 (nb A.o)).mono ?_
        rintro e wq ⟨aq, cq, rfl, hRq⟩
        have HRq : Hid (RowO w0 wq aq cq (nfsA A)) := hRq
        have hql : (moreA (nfs3 A) true 3 0 (nb A.o)).length = (nfsA A).length := rfl
        rw [hql]
        clear hRq hql
        go_wp2
        go_ret
        exact ⟨aq, cq, rfl, rowO_from HRq.out HW0.out⟩

end Go.Proofs.YtdidbaadladkpaaDoor
