/- Laid together: IAclTx2. -/
import Derived.Test.YtgooanaacebncaaDoorRA16
/- AclText of the program. -/
namespace Go.Proofs.YtgooanaacebncaaDoor
open Go.RowKit Go.PlainAid Go.Deep
set_option linter.unusedVariables false
def usrW : ByteArray := ⟨#[117, 115, 101, 114]⟩
def grpW : ByteArray := ⟨#[103, 114, 111, 117, 112]⟩
def mskW : ByteArray := ⟨#[109, 97, 115, 107]⟩
def othW : ByteArray := ⟨#[111, 116, 104, 101, 114]⟩
def noT : ByteArray := ⟨#[]⟩
/-- The entries of a list of names. -/
def aclL (u g o : Int) (us gs : List (Int × Int)) (r : Bool) (m : Int) : List ByteArray :=
  (if r then [entT usrW noT u] ++ nmL usrW us us.length ++ [entT grpW noT g] ++ nmL grpW gs gs.length ++ [entT mskW noT m] else [entT usrW noT u] ++ nmL usrW us us.length ++ [entT grpW noT g] ++ nmL grpW gs gs.length) ++ [entT othW noT o]
theorem joinTail_app (sep : List UInt8) (a b : List (List UInt8)) : Lib.joinTail sep (a ++ b) = Lib.joinTail sep a ++ Lib.joinTail sep b := by simp [Lib.joinTail]
theorem joinTail_one (sep x : List UInt8) : Lib.joinTail sep [x] = sep ++ x := by simp [Lib.joinTail]
theorem joinTail_nm (word : ByteArray) (l : List (Int × Int)) (k : Nat) : Lib.joinTail [44] ((nmL word l k).map (·.data.toList)) = (nmTo word l k).data.toList := by
  induction k with
  | zero => rfl
  | succ k ih =>
    rw [nmL_snoc, List.map_append, joinTail_app, ih, List.map_singleton, joinTail_one]
    simp [nmTo, nmE, entT, ByteArray.data_append]
theorem ent_l (word : ByteArray) (b : Int) : (entT word noT b).data.toList = word.data.toList ++ [58, 58] ++ (bitsS b).data.toList := by
  simp [entT, noT, ByteArray.data_append]
theorem join_acl (u g o : Int) (us gs : List (Int × Int)) (r : Bool) (m : Int) : Lib.join ((aclL u g o us gs r m).map (·.data.toList)) [44] = (aclTx u g o us gs r m).data.toList := by
  cases r
  · have e : (aclL u g o us gs false m).map (·.data.toList) = (entT usrW noT u).data.toList :: ((nmL usrW us us.length).map (·.data.toList) ++ [(entT grpW noT g).data.toList] ++ (nmL grpW gs gs.length).map (·.data.toList) ++ [(entT othW noT o).data.toList]) := by
      simp [aclL]
    rw [e, Lib.join_cons]
    simp only [joinTail_app, joinTail_one, joinTail_nm, ent_l]
    simp [aclTx, aclY, aclX, ByteArray.data_append, usrW, grpW, othW]
  · have e : (aclL u g o us gs true m).map (·.data.toList) = (entT usrW noT u).data.toList :: ((nmL usrW us us.length).map (·.data.toList) ++ [(entT grpW noT g).data.toList] ++ (nmL grpW gs gs.length).map (·.data.toList) ++ [(entT mskW noT m).data.toList] ++ [(entT othW noT o).data.toList]) := by
      simp [aclL]
    rw [e, Lib.join_cons]
    simp only [joinTail_app, joinTail_one, joinTail_nm, ent_l]
    simp [aclTx, aclY, aclX, ByteArray.data_append, usrW, grpW, othW, mskW]
theorem ent_size {word : ByteArray} (hw : word.size ≤ 5) (b : Int) : (entT word noT b).size ≤ 15 := by
  have h3 := bitsS_size b
  have e2 : (⟨#[58]⟩ : ByteArray).size = 1 := rfl
  have e3 : noT.size = 0 := rfl
  simp only [entT, ByteArray.size_append]
  omega
theorem nmL_sizes {word : ByteArray} {l : List (Int × Int)} (hw : word.size ≤ 5) (h : IdsIn l) : ∀ x ∈ nmL word l l.length, x.size ≤ 15 := by
  intro x hx
  simp only [nmL, List.mem_map, List.mem_range] at hx
  obtain ⟨k, hk, rfl⟩ := hx
  exact nmE_size hw h hk
theorem aclL_sizes {u g o : Int} {us gs : List (Int × Int)} {r : Bool} {m : Int} (hu : nmB us = true) (hg : nmB gs = true) : (∀ x ∈ aclL u g o us gs r m, x.size ≤ 15) ∧ (aclL u g o us gs r m).length ≤ 16 := by
  have h1 := nmL_sizes (word := usrW) (by decide) (nm_ids hu)
  have h2 := nmL_sizes (word := grpW) (by decide) (nm_ids hg)
  have l1 := nm_len hu
  have l2 := nm_len hg
  refine ⟨fun x hx => ?_, ?_⟩
  · cases r
    · simp only [aclL, Bool.false_eq_true, if_false, List.mem_append, List.mem_singleton] at hx
      rcases hx with (((rfl | hx) | rfl) | hx) | rfl
      · exact ent_size (by decide) _
      · exact h1 x hx
      · exact ent_size (by decide) _
      · exact h2 x hx
      · exact ent_size (by decide) _
    · simp only [aclL, if_true, List.mem_append, List.mem_singleton] at hx
      rcases hx with ((((rfl | hx) | rfl) | hx) | rfl) | rfl
      · exact ent_size (by decide) _
      · exact h1 x hx
      · exact ent_size (by decide) _
      · exact h2 x hx
      · exact ent_size (by decide) _
      · exact ent_size (by decide) _
  · cases r <;> simp [aclL, nmL_len] <;> omega
/-- strings.Join of a row of texts, by a comma. -/
theorem joinRow_any (L : List ByteArray) (hl : L.length ≤ 16) (hs : ∀ x ∈ L, x.size ≤ 15) {B : Nat} (v : Value) (w : World) (ho : w.ownsRow B 9 1 v L.length (tv L)) :
    Calls Tryd.prog 40 #[v, .string ⟨#[44]⟩] w fun e w' => e = .returned (.string ⟨(Lib.join (L.map (·.data.toList)) [44]).toArray⟩) ∧ Below w.heap.size w w' := by
  have hf : txl (fun i => L.getD i noT) L.length = L := by
    apply List.ext_getElem
    · simp [txl]
    · intro i h1 h2
      simp [txl, List.getD, h2]
  have hj := join_jl (fun i => L.getD i noT) L.length
  rw [hf] at hj
  obtain ⟨a, c, rfl, hc, hcell⟩ := own_texts ho
  have hm : ∀ i, i < L.length → ((fun i => L.getD i noT) i).size ≤ 15 := fun i hi => by
    have : L.getD i noT = L[i] := by simp [List.getD, hi]
    show (L.getD i noT).size ≤ 15
    rw [this]
    exact hs _ (List.getElem_mem hi)
  have h := joinC_any (fun i => L.getD i noT) L.length 15 (by omega) hm (by omega) a c w hc (by rw [hf]; exact hcell)
  rw [jlT, ← hj] at h
  exact h
theorem own_one (w : World) (x : ByteArray) (B : Nat) (h : B ≤ w.heap.size) : (w.alloc (.cells #[.string x] 9)).ownsRow B 9 1 (.slice (some ⟨w.heap.size, 0, none⟩) 1 1) [x].length (tv [x]) := by
  refine ⟨rfl, .inr ⟨w.heap.size, 1, #[.string x], rfl, h, ?_, Nat.le_refl _, by unfold maxLen; decide, rfl, rfl⟩⟩
  rw [World.alloc]
  exact Array.getElem?_push_size
set_option maxRecDepth 100000 in
set_option maxHeartbeats 4000000 in
/-- impl.AclText. -/
theorem iAclText_any (u g o : Int) (au : Option Addr) (lu cu : Nat) (ag : Option Addr) (lg cg : Nat) (r : Bool) (m : Int) (us gs : List (Int × Int)) (w : World) (hu : Prs au lu us w) (hg : Prs ag lg gs w) (hp : PowW w) :
    Calls Tryd.prog 93 #[.agg #[.int .i64 u, .int .i64 g, .int .i64 o, .slice au lu cu, .slice ag lg cg, .bool r, .int .i64 m]] w fun e w' => e = .returned (.string (aclT u g o us gs r m)) ∧ Below w.heap.size w w' := by
  have hR : Hid (∀ w', Below w.heap.size w w' → Calls Tryd.prog 117 #[.agg #[.int .i64 u, .int .i64 g, .int .i64 o, .slice au lu cu, .slice ag lg cg, .bool r, .int .i64 m]] w' fun e w'' => e = .returned (.bool (aclB u g o us gs r m)) ∧ Below w'.heap.size w' w'') := (fun w' hb => iAclRight_any u g o au lu cu ag lg cg r m us gs w' (hu.below hb) (hg.below hb))
  have hX0 : Hid (Box7 (w.alloc (.cells #[.int .i64 u, .int .i64 g, .int .i64 o, .slice au lu cu, .slice ag lg cg, .bool r, .int .i64 m] 43)) w.heap.size (.int .i64 u) (.int .i64 g) (.int .i64 o) (.slice au lu cu) (.slice ag lg cg) (.bool r) (.int .i64 m)) := box7_new w _ _ _ _ _ _ _ _
  have hW0 : Hid (Below w.heap.size w (w.alloc (.cells #[.int .i64 u, .int .i64 g, .int .i64 o, .slice au lu cu, .slice ag lg cg, .bool r, .int .i64 m] 43))) := bel_alloc _ _
  cases hb : aclB u g o us gs r m
  · have hn : aclT u g o us gs r m = ⟨#[]⟩ := by rw [aclT, hb]; rfl
    rw [hn]
    rw [hb] at hR
    clear hn hb hu hg hp
    obtain ⟨xl, x0, x1, x2, x3, x4, x5, x6⟩ := hX0.out
    go_enter Tryd.func93, Tryd.ntmps93
    go_wp2_with fail
    refine (hR.out _ hW0.out).mono ?_
    rintro e w1 ⟨rfl, hb1⟩
    have hW1 : Hid (Below w.heap.size w w1) := Below.on hW0.out hb1
    clear hb1 hR xl x0 x1 x2 x3 x4 x5 x6
    go_wp2
    go_ret
    exact ⟨rfl, hW1.out⟩
  · obtain ⟨nu, ng⟩ := acl_facts hb
    obtain ⟨sz, ln⟩ := aclL_sizes (u := u) (g := g) (o := o) (r := r) (m := m) nu ng
    have hn : aclT u g o us gs r m = ⟨(Lib.join ((aclL u g o us gs r m).map (·.data.toList)) [44]).toArray⟩ := by
      rw [aclT, hb, join_acl]
      apply ByteArray.ext
      simp
    rw [hn]
    rw [hb] at hR
    have eu := hu.1
    have eg := hg.1
    have lu6 := nm_len nu
    have lg6 := nm_len ng
    have HU : Hid (∀ w', Below w.heap.size w w' → Calls Tryd.prog 119 #[.string ⟨#[117, 115, 101, 114]⟩, .slice au lu cu] w' fun e w'' => ∃ v, e = .returned v ∧ w''.ownsRow w'.heap.size 9 1 v (nmL usrW us us.length).length (tv (nmL usrW us us.length)) ∧ Below w'.heap.size w' w'') := (fun w' hb => by rw [eu]; exact iNamedT_any usrW (by decide) au lu cu us (by omega) (nm_ids nu) w' (hu.below hb) (hp.below hb))
    have HG : Hid (∀ w', Below w.heap.size w w' → Calls Tryd.prog 119 #[.string ⟨#[103, 114, 111, 117, 112]⟩, .slice ag lg cg] w' fun e w'' => ∃ v, e = .returned v ∧ w''.ownsRow w'.heap.size 9 1 v (nmL grpW gs gs.length).length (tv (nmL grpW gs gs.length)) ∧ Below w'.heap.size w' w'') := (fun w' hb => by rw [eg]; exact iNamedT_any grpW (by decide) ag lg cg gs (by omega) (nm_ids ng) w' (hg.below hb) (hp.below hb))
    have hE0 : Hid (∀ w, Calls Tryd.prog 118 #[.string ⟨#[117, 115, 101, 114]⟩, .string ⟨#[]⟩, .int .i64 u] w fun e w' => e = .returned (.string (entT usrW noT u)) ∧ Below w.heap.size w w') := iEntry_any usrW noT u (by decide)
    have hE1 : Hid (∀ w, Calls Tryd.prog 118 #[.string ⟨#[103, 114, 111, 117, 112]⟩, .string ⟨#[]⟩, .int .i64 g] w fun e w' => e = .returned (.string (entT grpW noT g)) ∧ Below w.heap.size w w') := iEntry_any grpW noT g (by decide)
    have hE2 : Hid (∀ w, Calls Tryd.prog 118 #[.string ⟨#[109, 97, 115, 107]⟩, .string ⟨#[]⟩, .int .i64 m] w fun e w' => e = .returned (.string (entT mskW noT m)) ∧ Below w.heap.size w w') := iEntry_any mskW noT m (by decide)
    have hE3 : Hid (∀ w, Calls Tryd.prog 118 #[.string ⟨#[111, 116, 104, 101, 114]⟩, .string ⟨#[]⟩, .int .i64 o] w fun e w' => e = .returned (.string (entT othW noT o)) ∧ Below w.heap.size w w') := iEntry_any othW noT o (by decide)
    have LU : (nmL usrW us us.length).length ≤ 6 := by rw [nmL_len]; exact lu6
    have LG : (nmL grpW gs gs.length).length ≤ 6 := by rw [nmL_len]; exact lg6
    have HLL : Hid (aclL u g o us gs r m = (if r then [entT usrW noT u] ++ nmL usrW us us.length ++ [entT grpW noT g] ++ nmL grpW gs gs.length ++ [entT mskW noT m] else [entT usrW noT u] ++ nmL usrW us us.length ++ [entT grpW noT g] ++ nmL grpW gs gs.length) ++ [entT othW noT o]) := rfl
    have HJ : Hid (∀ {B : Nat} (v : Value) (w : World), w.ownsRow B 9 1 v (aclL u g o us gs r m).length (tv (aclL u g o us gs r m)) → Calls Tryd.prog 40 #[v, .string ⟨#[44]⟩] w fun e w' => e = .returned (.string ⟨(Lib.join ((aclL u g o us gs r m).map (·.data.toList)) [44]).toArray⟩) ∧ Below w.heap.size w w') := (fun {B} v w ho => joinRow_any _ ln sz v w ho)
    clear hn hb hu hg nu ng eu eg lu6 lg6 hp sz ln
    generalize (⟨(Lib.join ((aclL u g o us gs r m).map (·.data.toList)) [44]).toArray⟩ : ByteArray) = R at HJ ⊢
    generalize aclL u g o us gs r m = LL at HLL HJ
    generalize nmL usrW us us.length = NU at HU LU HLL
    generalize nmL grpW gs gs.length = NG at HG LG HLL
    generalize entT usrW noT u = E0 at hE0 HLL
    generalize entT grpW noT g = E1 at hE1 HLL
    generalize entT mskW noT m = E2 at hE2 HLL
    generalize entT othW noT o = E3 at hE3 HLL
    obtain ⟨xl, x0, x1, x2, x3, x4, x5, x6⟩ := hX0.out
    go_enter Tryd.func93, Tryd.ntmps93
    go_wp2_with fail
    refine (hR.out _ hW0.out).mono ?_
    rintro e w1 ⟨rfl, hb1⟩
    have hW1 : Hid (Below w.heap.size w w1) := Below.on hW0.out hb1
    have hX1 : Hid (Box7 w1 w.heap.size (.int .i64 u) (.int .i64 g) (.int .i64 o) (.slice au lu cu) (.slice ag lg cg) (.bool r) (.int .i64 m)) := hX0.out.below hb1
    clear hb1 hR xl x0 x1 x2 x3 x4 x5 x6 hX0 hW0
    obtain ⟨xl, x0, x1, x2, x3, x4, x5, x6⟩ := hX1.out
    go_wp2_with fail
    refine (hE0.out _).mono ?_
    rintro e wa ⟨rfl, hba⟩
    have hO1 : Hid ((wa.alloc (.cells #[.string E0] 9)).ownsRow w1.heap.size 9 1 (.slice (some ⟨wa.heap.size, 0, none⟩) 1 1) [E0].length (tv [E0])) := own_one wa E0 _ hba.size
    have hB1 : Hid (Below w1.heap.size w1 (wa.alloc (.cells #[.string E0] 9))) := Below.onA hba
    clear hba xl x0 x1 x2 x3 x4 x5 x6
    obtain ⟨xl, x0, x1, x2, x3, x4, x5, x6⟩ := hX1.out.below hB1.out
    go_wp2_with fail
    refine (HU.out _ (Below.on hW1.out hB1.out)).mono ?_
    rintro e wb ⟨v2, rfl, hO2, hbb⟩
    obtain ⟨v3, w3, hr3, hO3, hB3, _⟩ := append_rowT w1 wb _ v2 [E0] NU (rowT_below hO1.out hbb) (by simp) (Below.on hB1.out hbb) hO2 (by simp) (by omega)
    have HO3 : Hid (w3.ownsRow w1.heap.size 9 1 v3 ([E0] ++ NU).length (tv ([E0] ++ NU))) := hO3
    have HB3 : Hid (Below w1.heap.size w1 w3) := hB3
    clear hO3 hB3 hO2 hbb hO1 hB1 xl x0 x1 x2 x3 x4 x5 x6
    obtain ⟨xl, x0, x1, x2, x3, x4, x5, x6⟩ := hX1.out.below HB3.out
    go_wp2_with (at_builtin; refine wpList_append_runT _ rfl (.tmp 11) (.tmp 14) 64 64 rfl _ _ _ _ rfl rfl hr3 ?_)
    refine (hE1.out _).mono ?_
    rintro e wd ⟨rfl, hbd⟩
    obtain ⟨v4, w4, hr4, hO4, hB4⟩ := append_text w1 wd v3 ([E0] ++ NU) (rowT_below HO3.out hbd) (Below.on HB3.out hbd) E1 (by simp; omega)
    have HO4 : Hid (w4.ownsRow w1.heap.size 9 1 v4 ([E0] ++ NU ++ [E1]).length (tv ([E0] ++ NU ++ [E1]))) := hO4
    have HB4 : Hid (Below w1.heap.size w1 w4) := hB4
    clear hO4 hB4 hbd HO3 HB3 hr3 xl x0 x1 x2 x3 x4 x5 x6
    obtain ⟨xl, x0, x1, x2, x3, x4, x5, x6⟩ := hX1.out.below HB4.out
    go_wp2_with (at_builtin; refine wpList_append_runT _ rfl (.tmp 16) (.tmp 20) 64 64 rfl _ _ _ _ rfl rfl hr4 ?_)
    refine (HG.out _ (Below.on hW1.out HB4.out)).mono ?_
    rintro e we ⟨v5, rfl, hO5, hbe⟩
    obtain ⟨v6, w6, hr6, hO6, hB6, _⟩ := append_rowT w1 we v4 v5 ([E0] ++ NU ++ [E1]) NG (rowT_below HO4.out hbe) (by simp) (Below.on HB4.out hbe) hO5 (by simp; omega) (by omega)
    have HO6 : Hid (w6.ownsRow w1.heap.size 9 1 v6 ([E0] ++ NU ++ [E1] ++ NG).length (tv ([E0] ++ NU ++ [E1] ++ NG))) := hO6
    have HB6 : Hid (Below w1.heap.size w1 w6) := hB6
    clear hO6 hB6 hO5 hbe HO4 HB4 hr4 xl x0 x1 x2 x3 x4 x5 x6
    obtain ⟨xl, x0, x1, x2, x3, x4, x5, x6⟩ := hX1.out.below HB6.out
    cases r
    · go_wp2_with (at_builtin; refine wpList_append_runT _ rfl (.tmp 22) (.tmp 25) 64 64 rfl _ _ _ _ rfl rfl hr6 ?_)
      refine (hE3.out _).mono ?_
      rintro e wf ⟨rfl, hbf⟩
      obtain ⟨v7, w7, hr7, hO7, hB7⟩ := append_text w1 wf v6 ([E0] ++ NU ++ [E1] ++ NG) (rowT_below HO6.out hbf) (Below.on HB6.out hbf) E3 (by simp; omega)
      have HO7 : Hid (w7.ownsRow w1.heap.size 9 1 v7 LL.length (tv LL)) := (by rw [HLL.out]; exact hO7)
      have HB7 : Hid (Below w1.heap.size w1 w7) := hB7
      clear hO7 hB7 hbf HO6 HB6 hr6 xl x0 x1 x2 x3 x4 x5 x6
      go_wp2_with (at_builtin; refine wpList_append_runT _ rfl (.tmp 35) (.tmp 39) 64 64 rfl _ _ _ _ rfl rfl hr7 ?_)
      refine (HJ.out v7 w7 HO7.out).mono ?_
      rintro e w8 ⟨rfl, hb8⟩
      have hW8 : Hid (Below w.heap.size w w8) := Below.on hW1.out (Below.on HB7.out hb8)
      clear hb8
      go_wp2
      go_ret
      exact ⟨rfl, hW8.out⟩
    · go_wp2_with (at_builtin; refine wpList_append_runT _ rfl (.tmp 22) (.tmp 25) 64 64 rfl _ _ _ _ rfl rfl hr6 ?_)
      refine (hE2.out _).mono ?_
      rintro e wf ⟨rfl, hbf⟩
      obtain ⟨v7, w7, hr7, hO7, hB7⟩ := append_text w1 wf v6 ([E0] ++ NU ++ [E1] ++ NG) (rowT_below HO6.out hbf) (Below.on HB6.out hbf) E2 (by simp; omega)
      have HO7 : Hid (w7.ownsRow w1.heap.size 9 1 v7 ([E0] ++ NU ++ [E1] ++ NG ++ [E2]).length (tv ([E0] ++ NU ++ [E1] ++ NG ++ [E2]))) := hO7
      have HB7 : Hid (Below w1.heap.size w1 w7) := hB7
      clear hO7 hB7 hbf HO6 HB6 hr6 xl x0 x1 x2 x3 x4 x5 x6
      obtain ⟨xl, x0, x1, x2, x3, x4, x5, x6⟩ := hX1.out.below HB7.out
      go_wp2_with (at_builtin; refine wpList_append_runT _ rfl (.tmp 29) (.tmp 33) 64 64 rfl _ _ _ _ rfl rfl hr7 ?_)
      refine (hE3.out _).mono ?_
      rintro e wg ⟨rfl, hbg⟩
      obtain ⟨v8, w8, hr8, hO8, hB8⟩ := append_text w1 wg v7 ([E0] ++ NU ++ [E1] ++ NG ++ [E2]) (rowT_below HO7.out hbg) (Below.on HB7.out hbg) E3 (by simp; omega)
      have HO8 : Hid (w8.ownsRow w1.heap.size 9 1 v8 LL.length (tv LL)) := (by rw [HLL.out]; exact hO8)
      have HB8 : Hid (Below w1.heap.size w1 w8) := hB8
      clear hO8 hB8 hbg HO7 HB7 hr7 xl x0 x1 x2 x3 x4 x5 x6
      go_wp2_with (at_builtin; refine wpList_append_runT _ rfl (.tmp 35) (.tmp 39) 64 64 rfl _ _ _ _ rfl rfl hr8 ?_)
      refine (HJ.out v8 w8 HO8.out).mono ?_
      rintro e w9 ⟨rfl, hb9⟩
      have hW9 : Hid (Below w.heap.size w w9) := Below.on hW1.out (Below.on HB8.out hb9)
      clear hb9
      go_wp2
      go_ret
      exact ⟨rfl, hW9.out⟩
end Go.Proofs.YtgooanaacebncaaDoor
