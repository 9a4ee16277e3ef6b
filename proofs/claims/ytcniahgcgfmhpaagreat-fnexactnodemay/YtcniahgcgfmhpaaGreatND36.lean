/- Laid together: DropMath, AclClass. -/
import Derived.Test.YtcniahgcgfmhpaaGreatND33
import Derived.Test.YtcniahgcgfmhpaaGreatND35
import Derived.Test.YtcniahgcgfmhpaaGreatND30
/- What is left of a list without one entry; the place of an id in a list that rises. -/
namespace Go.Proofs.YtcniahgcgfmhpaaGreat
open Go.RowKit Go.PlainAid Go.Deep
set_option linter.unusedVariables false
/-- All bits are bits. -/
def bnd (l : List (Int × Int)) : Prop := ∀ p ∈ l, 0 ≤ p.2 ∧ p.2 ≤ 7
theorem btAt_get {l : List (Int × Int)} {k : Nat} (h : k < l.length) : btAt l k = (l[k]).2 := by simp [btAt, List.getD, h]
theorem bnd_bt {l : List (Int × Int)} (h : bnd l) : ∀ k, k < l.length → 0 ≤ btAt l k ∧ btAt l k ≤ 7 := by
  intro k hk
  rw [btAt_get hk]
  exact h _ (List.getElem_mem hk)
theorem bt_bnd {l : List (Int × Int)} (h : ∀ k, k < l.length → 0 ≤ btAt l k ∧ btAt l k ≤ 7) : bnd l := by
  intro p hp
  obtain ⟨k, hk, rfl⟩ := List.mem_iff_getElem.1 hp
  rw [← btAt_get hk]
  exact h k hk
theorem bnd_splice {l ins : List (Int × Int)} (h : bnd l) (hi : bnd ins) (k n : Nat) : bnd (l.take k ++ ins ++ l.drop n) := by
  intro p hp
  simp only [List.mem_append] at hp
  rcases hp with (hp | hp) | hp
  · exact h p (List.mem_of_mem_take hp)
  · exact hi p hp
  · exact h p (List.mem_of_mem_drop hp)
theorem nmRises_at {l : List (Int × Int)} : ∀ {n k : Nat}, nmRises l n = true → k < n → okN l k = true := by
  intro n
  induction n with
  | zero => intro k _ h; omega
  | succ n ih =>
    intro k h hk
    simp only [nmRises, Bool.and_eq_true] at h
    by_cases e : k = n
    · subst e; exact h.2
    · exact ih h.1 (by omega)
theorem nm_up {l : List (Int × Int)} (h : nmB l = true) : ∀ j, j < l.length → ∀ i, i < j → idAt l i < idAt l j := by
  have hr : nmRises l l.length = true := by
    simp only [nmB, Bool.and_eq_true] at h
    exact h.2
  have step : ∀ k, k + 1 < l.length → idAt l k < idAt l (k + 1) := by
    intro k hk
    have := nmRises_at hr hk
    simp [okN] at this
    exact this.2.2
  intro j
  induction j with
  | zero => intro _ i hi; omega
  | succ j ih =>
    intro hj i hi
    by_cases e : i = j
    · subst e; exact step i hj
    · have := ih (by omega) i (by omega)
      have h2 := step j hj
      omega
/-- Of a list that rises: where the id stands. -/
theorem fnd_eq {l : List (Int × Int)} (h : nmB l = true) {key : Int} {k : Nat} (hk : k < l.length) (e : idAt l k = key) : fnd l key = true ∧ plc l key = k := by
  have hp : plc l key = k := plc_at hk (fun j hj => by have := nm_up h k hk j hj; omega) (by omega)
  refine ⟨?_, hp⟩
  rw [fnd_at hk hp]
  simp [e]
theorem fnd_ne {l : List (Int × Int)} {key : Int} (hne : ∀ j, j < l.length → idAt l j ≠ key) : fnd l key = false := by
  unfold fnd
  by_cases h : plc l key < l.length
  · simp [h, hne _ h]
  · simp [h]
theorem fnd_lt {l : List (Int × Int)} {key : Int} (h : fnd l key = true) : plc l key < l.length := by
  unfold fnd at h
  simp at h
  exact h.1
/-- The list without the entry at a place. -/
def cutL (l : List (Int × Int)) (k : Nat) : List (Int × Int) := l.take k ++ [] ++ l.drop (k + 1)
theorem cutL_len {l : List (Int × Int)} {k : Nat} (h : k < l.length) : (cutL l k).length = l.length - 1 := by
  simp [cutL]
  omega
theorem froz_new (w : World) (c : Array Value) (t : TypeId) (o : Nat) : (w.alloc (.cells c t)).frozen? ⟨w.heap.size, o, none⟩ = false := by
  have hb : (w.alloc (.cells c t)).heap[w.heap.size]? = some (.cells c t) := by
    rw [World.alloc]
    exact Array.getElem?_push_size
  simp only [World.frozen?, hb]
  simp
theorem prs_nilD (w : World) (c : Nat) : Prs none 0 [] w := ⟨rfl, fun h => absurd h (by omega)⟩
theorem Box8.other {w : World} {B b o : Nat} {v0 v1 v2 v3 v4 v5 v6 v7 v : Value} (h : Box8 w B v0 v1 v2 v3 v4 v5 v6 v7) (hne : b ≠ B) : Box8 (w.setCell ⟨b, o, none⟩ v) B v0 v1 v2 v3 v4 v5 v6 v7 :=
  h.keep (by simpa using h.lt) (fun o2 => World.cell?_setCell_other _ _ _ _ (by intro h; have h2 := congrArg Addr.block h; simp only at h2; omega))
set_option maxHeartbeats 1000000 in
theorem sAt_none (a : Option Addr) (cap : Nat) (key : Int) (w : World) :
    Calls Tryz.prog 80 #[.slice a 0 cap, .int .i64 key] w fun e w' => e = .returned (.int .i64 (-1)) ∧ w' = w := by
  go_enter Tryz.func80, Tryz.ntmps80
  go_wp2
  go_rounds 1
  go_ret
  exact ⟨rfl, rfl⟩
/-- The place of an id, or -1. -/
def atI (l : List (Int × Int)) (key : Int) : Int := if fnd l key then (plc l key : Int) else -1
set_option maxRecDepth 100000 in
set_option maxHeartbeats 4000000 in
theorem sAt_some (b off cap : Nat) (l : List (Int × Int)) (key : Int) (hl : l.length ≤ 1000000) (hr : nmB l = true) (w : World) (hc : ∀ i, i < l.length → w.cell? ⟨b, off + i * 2, none⟩ = some (.int .i64 (idAt l i)) ∧ w.cell? ⟨b, off + i * 2 + 1, none⟩ = some (.int .i64 (btAt l i))) :
    Calls Tryz.prog 80 #[.slice (some ⟨b, off, none⟩) l.length cap, .int .i64 key] w fun e w' => e = .returned (.int .i64 (atI l key)) ∧ w' = w := by
  have HC : Hid (∀ i, i < l.length → w.cell? ⟨b, off + i * 2, none⟩ = some (.int .i64 (idAt l i)) ∧ w.cell? ⟨b, off + i * 2 + 1, none⟩ = some (.int .i64 (btAt l i))) := hc
  have HA : Hid (∀ k, k < l.length → idAt l k = key → atI l key = (k : Int)) := (fun k hk e => by
    obtain ⟨h1, h2⟩ := fnd_eq hr hk e
    rw [atI, h1, h2]; rfl)
  have HE : Hid ((∀ j, j < l.length → (idAt l j == key) = false) → atI l key = -1) := (fun h => by rw [atI, fnd_ne (fun j hj => by simpa using h j hj)]; rfl)
  clear hc hr
  generalize hlen : l.length = len at hl HC HA HE ⊢
  clear hlen
  generalize atI l key = pp at HA HE ⊢
  go_enter Tryz.func80, Tryz.ntmps80
  go_wp2
  go_loop [5] (fun i => ∃ k : Nat, k ≤ len ∧ i = .int .i64 k ∧ ∀ j, j < k → Hid ((idAt l j == key) = false)) (fun i => len - (intOf i).toNat)
  case atStart => exact ⟨0, Nat.zero_le _, rfl, fun j hj => absurd hj (by omega)⟩
  case round =>
    obtain ⟨k, hk, rfl, hto⟩ := hrel
    by_cases hlt : k < len
    · have hlt' : (k : Int) < (len : Int) := by omega
      obtain ⟨g0, _⟩ := HC.out k hlt
      cases he : (idAt l k == key)
      · have hto2 : ∀ j, j < k + 1 → Hid ((idAt l j == key) = false) := fun j hj => by
          by_cases e : j = k
          · subst e; exact he
          · exact hto j (by omega)
        clear hto HA HE
        go_wp2
        go_round
        case rel => exact ⟨k + 1, by omega, by go_num, hto2⟩
        case measure => simp [intOf]; omega
      · have hy : Hid (pp = (k : Int)) := HA.out k hlt (by simpa using he)
        clear hto HA HE
        go_wp2
        go_ret
        exact ⟨ret_intM hy.out.symm, rfl⟩
    · have : k = len := by omega
      subst this
      have hy : Hid (pp = -1) := HE.out (fun j hj => (hto j hj).out)
      clear hto HA HE
      go_wp2
      go_ret
      exact ⟨ret_intM hy.out.symm, rfl⟩
/-- spec.l03At of a list that rises. -/
theorem sAt_any (a : Option Addr) (len cap : Nat) (l : List (Int × Int)) (key : Int) (hr : nmB l = true) (w : World) (hi : Prs a len l w) :
    Calls Tryz.prog 80 #[.slice a len cap, .int .i64 key] w fun e w' => e = .returned (.int .i64 (atI l key)) ∧ w' = w := by
  obtain ⟨hln, hp⟩ := hi
  subst hln
  have hlen := nm_len hr
  by_cases h0 : l.length = 0
  · have e : atI l key = -1 := by rw [atI, fnd_ne (fun j hj => absurd hj (by omega))]; rfl
    rw [e, h0]
    exact sAt_none a cap key w
  · obtain ⟨b, off, rfl, hlt, hc⟩ := hp (by omega)
    exact sAt_some b off cap l key (by omega) hr w hc
end Go.Proofs.YtcniahgcgfmhpaaGreat
/- AclClass, the program's and the specification's: who is what. -/
namespace Go.Proofs.YtcniahgcgfmhpaaGreat
open Go.RowKit Go.PlainAid Go.Deep
set_option linter.unusedVariables false
/-- AclClass of what is right. -/
def whichB (g : Int) (us gs : List (Int × Int)) (owner group cu' : Int) (P : Int → Bool) (want : Int) : Int :=
  if cu' == owner then 1 else if fnd us cu' then 2 else goC (allTo (P group && hasZ g want) P gs want gs.length) (inTo (P group) P gs gs.length)
/-- May it be asked? -/
def fineB (u g o : Int) (us gs : List (Int × Int)) (r : Bool) (m owner group cu' cg' : Int) (cl : Nat) (cf : Nat → Int) (want : Int) : Bool :=
  aclB u g o us gs r m && (inR 0 9999 owner && (inR 0 9999 group && (credB cu' cg' cl cf && inR 0 7 want)))
def classB (u g o : Int) (us gs : List (Int × Int)) (r : Bool) (m owner group cu' cg' : Int) (cl : Nat) (cf : Nat → Int) (want : Int) : Int :=
  if fineB u g o us gs r m owner group cu' cg' cl cf want then whichB g us gs owner group cu' (inGB cu' cg' cl cf) want else 0
theorem goC_cons (P : Int → Bool) (group g : Int) (gs : List (Int × Int)) (want : Int) (lg : Nat) (h : gs.length = lg) : goC (allTo false P ((group, g) :: gs) want (1 + lg)) (inTo false P ((group, g) :: gs) (1 + lg)) = goC (allTo (P group && hasZ g want) P gs want gs.length) (inTo (P group) P gs gs.length) := by
  rw [h, Nat.add_comm 1 lg, allTo_cons, inTo_cons]
set_option maxRecDepth 100000 in
set_option maxHeartbeats 8000000 in
/-- impl.AclClass. -/
theorem iAclClass_any (u g o : Int) (au : Option Addr) (lu cu : Nat) (ag : Option Addr) (lg cg : Nat) (r : Bool) (m : Int) (us gs : List (Int × Int)) (owner group : Int) (cu' cg' : Int) (ca : Option Addr) (cl cc : Nat) (cr : Bool) (cf : Nat → Int) (want : Int) (w : World) (hu : Prs au lu us w) (hg : Prs ag lg gs w) (hci : Ints ca cl cf w) :
    Calls Tryz.prog 92 #[.agg #[.int .i64 u, .int .i64 g, .int .i64 o, .slice au lu cu, .slice ag lg cg, .bool r, .int .i64 m], .int .i64 owner, .int .i64 group, .agg #[.int .i64 cu', .int .i64 cg', .slice ca cl cc, .bool cr], .int .i64 want] w fun e w' => e = .returned (.int .i64 (classB u g o us gs r m owner group cu' cg' cl cf want)) ∧ Below w.heap.size w w' := by
  have e2 := hg.1
  have hc : Hid (∀ w', Below w.heap.size w w' → Calls Tryz.prog 111 #[.agg #[.int .i64 u, .int .i64 g, .int .i64 o, .slice au lu cu, .slice ag lg cg, .bool r, .int .i64 m]] w' fun e w'' => e = .returned (.bool (aclB u g o us gs r m)) ∧ Below w'.heap.size w' w'') := (fun w' hb => iAclRight_any u g o au lu cu ag lg cg r m us gs w' (hu.below hb) (hg.below hb))
  have hcr : Hid (∀ w', Below w.heap.size w w' → Calls Tryz.prog 30 #[.agg #[.int .i64 cu', .int .i64 cg', .slice ca cl cc, .bool cr]] w' fun e w'' => e = .returned (.bool (credB cu' cg' cl cf)) ∧ Below w'.heap.size w' w'') := (fun w' hb => iCredRight_any cu' cg' ca cl cc cr cf w' (hci.below hb))
  have hpl : Hid (aclB u g o us gs r m = true → ∀ w', Below w.heap.size w w' → Calls Tryz.prog 93 #[.slice au lu cu, .int .i64 cu', .func (.func 94) #[] #[]] w' fun e w'' => e = .returned (.tuple #[.int .i64 (plc us cu'), .bool (fnd us cu')]) ∧ Below w'.heap.size w' w'') := (fun h w' hb => by
    obtain ⟨_, _, _, _, m1, m2⟩ := aclB_parts h
    have l1 := nm_len m1
    have := hu.1
    exact placeOf_any au lu cu us cu' (by omega) w' (hu.below hb))
  have hgo : Hid (aclB u g o us gs r m = true → ∀ w', Below w.heap.size w w' → Calls Tryz.prog 119 #[.agg #[.int .i64 u, .int .i64 g, .int .i64 o, .slice au lu cu, .slice ag lg cg, .bool r, .int .i64 m], .int .i64 group, .agg #[.int .i64 cu', .int .i64 cg', .slice ca cl cc, .bool cr], .int .i64 want] w' fun e w'' => e = .returned (.int .i64 (goC (allTo (inGB cu' cg' cl cf group && hasZ g want) (inGB cu' cg' cl cf) gs want gs.length) (inTo (inGB cu' cg' cl cf group) (inGB cu' cg' cl cf) gs gs.length))) ∧ Below w'.heap.size w' w'') := (fun h w' hb => by
    obtain ⟨_, _, _, _, m1, m2⟩ := aclB_parts h
    have l2 := nm_len m2
    have := groupOrOther_any u g o au lu cu ag lg cg r m gs group cu' cg' ca cl cc cr cf want w' (hg.below hb) (hci.below hb) (by omega)
    rw [goC_cons _ _ _ _ _ _ e2] at this
    exact this)
  have HF : Hid (∀ x, fineB u g o us gs r m owner group cu' cg' cl cf want = x → classB u g o us gs r m owner group cu' cg' cl cf want = if x then whichB g us gs owner group cu' (inGB cu' cg' cl cf) want else 0) := (fun x h => by rw [classB, h])
  have HFI : Hid (fineB u g o us gs r m owner group cu' cg' cl cf want = (aclB u g o us gs r m && (inR 0 9999 owner && (inR 0 9999 group && (credB cu' cg' cl cf && inR 0 7 want))))) := rfl
  have HW : Hid (whichB g us gs owner group cu' (inGB cu' cg' cl cf) want = if cu' == owner then 1 else if fnd us cu' then 2 else goC (allTo (inGB cu' cg' cl cf group && hasZ g want) (inGB cu' cg' cl cf) gs want gs.length) (inTo (inGB cu' cg' cl cf group) (inGB cu' cg' cl cf) gs gs.length)) := rfl
  clear hu hg hci e2
  generalize fineB u g o us gs r m owner group cu' cg' cl cf want = fb at HF HFI
  generalize classB u g o us gs r m owner group cu' cg' cl cf want = cb at HF ⊢
  generalize whichB g us gs owner group cu' (inGB cu' cg' cl cf) want = wb at HF HW
  generalize goC (allTo (inGB cu' cg' cl cf group && hasZ g want) (inGB cu' cg' cl cf) gs want gs.length) (inTo (inGB cu' cg' cl cf group) (inGB cu' cg' cl cf) gs gs.length) = gc at HW hgo
  go_enter Tryz.func92, Tryz.ntmps92
  go_wp2_with fail
  refine (hc.out _ (bl2N _ _ _)).mono ?_
  rintro e w1 ⟨rfl, hb⟩
  have hW1 : Hid (Below w.heap.size w w1) := (bl2N _ _ _).trans (hb.mono (by simp; omega))
  have hX := ((box7_new w (.int .i64 u) (.int .i64 g) (.int .i64 o) (.slice au lu cu) (.slice ag lg cg) (.bool r) (.int .i64 m) 42).below (bel_alloc _ (.cells #[.int .i64 cu', .int .i64 cg', .slice ca cl cc, .bool cr] 35))).below hb
  have eA : (w.alloc (.cells #[.int .i64 u, .int .i64 g, .int .i64 o, .slice au lu cu, .slice ag lg cg, .bool r, .int .i64 m] 42)).heap.size = w.heap.size + 1 := by simp
  have hY := (box4_new (w.alloc (.cells #[.int .i64 u, .int .i64 g, .int .i64 o, .slice au lu cu, .slice ag lg cg, .bool r, .int .i64 m] 42)) (.int .i64 cu') (.int .i64 cg') (.slice ca cl cc) (.bool cr) 35).below hb
  rw [eA] at hY
  clear hb hc eA
  cases h : aclB u g o us gs r m
  · have hno : Hid (cb = 0) := (by show _ = _; rw [HF.out false (by rw [HFI.out, h]; rfl)]; rfl)
    clear h hcr hpl hgo HF HFI HW hX hY
    go_wp2
    go_ret
    exact ⟨ret_intM hno.out.symm, hW1.out⟩
  cases h1 : inR 0 9999 owner
  · have hno : Hid (cb = 0) := (by show _ = _; rw [HF.out false (by rw [HFI.out, h, h1]; rfl)]; rfl)
    clear h hcr hpl hgo HF HFI HW hX hY
    go_wp2_with (go_at_call 58; refine (isId_any _ _).mono ?_; rintro e w' ⟨rfl, rfl⟩)
    go_ret
    exact ⟨ret_intM hno.out.symm, hW1.out⟩
  cases h2 : inR 0 9999 group
  · have hno : Hid (cb = 0) := (by show _ = _; rw [HF.out false (by rw [HFI.out, h, h1, h2]; rfl)]; rfl)
    clear h hcr hpl hgo HF HFI HW hX hY
    go_wp2_with (go_at_call 58; refine (isId_any _ _).mono ?_; rintro e w' ⟨rfl, rfl⟩)
    go_ret
    exact ⟨ret_intM hno.out.symm, hW1.out⟩
  obtain ⟨yl, y0, y1, y2, y3⟩ := hY
  have hpl2 := hpl.out h
  have hgo2 := hgo.out h
  have HPL : Hid _ := hpl2
  have HGO : Hid _ := hgo2
  have HFJ : Hid (fb = (credB cu' cg' cl cf && inR 0 7 want)) := (by show _ = _; rw [HFI.out, h, h1, h2]; rfl)
  clear hpl hgo hpl2 hgo2 HFI h
  go_wp2_with (go_at_call 58; refine (isId_any _ _).mono ?_; rintro e w' ⟨rfl, rfl⟩)
  refine (hcr.out _ hW1.out).mono ?_
  rintro e w2 ⟨rfl, hb⟩
  have hW2 : Hid (Below w.heap.size w w2) := Below.on hW1.out hb
  have hX2 := hX.below hb
  have hY2 := (Box4.mk yl y0 y1 y2 y3).below hb
  clear hb hcr hX y0 y1 y2 y3 yl hW1
  cases h3 : credB cu' cg' cl cf
  · have hno : Hid (cb = 0) := (by show _ = _; rw [HF.out false (by rw [HFJ.out, h3]; rfl)]; rfl)
    clear h1 h2 h3 HPL HGO HF HFJ HW hX2 hY2
    go_wp2
    go_ret
    exact ⟨ret_intM hno.out.symm, hW2.out⟩
  cases h4 : inR 0 7 want
  · have hno : Hid (cb = 0) := (by show _ = _; rw [HF.out false (by rw [HFJ.out, h3, h4]; rfl)]; rfl)
    clear h1 h2 h3 HPL HGO HF HFJ HW hX2 hY2
    go_wp2_with (go_at_call 31; refine (isBits_any _ _).mono ?_; rintro e w' ⟨rfl, rfl⟩)
    go_ret
    exact ⟨ret_intM hno.out.symm, hW2.out⟩
  have hyes : Hid (cb = wb) := (by show _ = _; rw [HF.out true (by rw [HFJ.out, h3, h4]; rfl)]; rfl)
  obtain ⟨xl, x0, x1, x2, x3, x4, x5, x6⟩ := hX2
  obtain ⟨yl, y0, y1, y2, y3⟩ := hY2
  clear h1 h2 h3 HF HFJ
  cases ho : (cu' == owner)
  · have HW2 : Hid (wb = if fnd us cu' then 2 else gc) := (by show _ = _; rw [HW.out, ho]; rfl)
    clear HW
    go_wp2_with (go_at_call 31; refine (isBits_any _ _).mono ?_; rintro e w' ⟨rfl, rfl⟩)
    refine (HPL.out _ hW2.out).mono ?_
    rintro e w3 ⟨rfl, hb⟩
    have hW3 : Hid (Below w.heap.size w w3) := Below.on hW2.out hb
    have hX3 := (Box7.mk xl x0 x1 x2 x3 x4 x5 x6).below hb
    have hY3 := (Box4.mk yl y0 y1 y2 y3).below hb
    clear hb xl x0 x1 x2 x3 x4 x5 x6 yl y0 y1 y2 y3 HPL hW2 h4 ho
    generalize plc us cu' = pp
    cases hf : fnd us cu'
    · have hz : Hid (cb = gc) := (by show _ = _; rw [hyes.out, HW2.out, hf]; rfl)
      clear hyes HW2 hf
      obtain ⟨xl, x0, x1, x2, x3, x4, x5, x6⟩ := hX3
      obtain ⟨yl, y0, y1, y2, y3⟩ := hY3
      go_wp2_with fail
      refine (HGO.out _ hW3.out).mono ?_
      rintro e w4 ⟨rfl, hb⟩
      have hW4 : Hid (Below w.heap.size w w4) := Below.on hW3.out hb
      clear hb HGO
      go_wp2
      go_ret
      exact ⟨ret_intM hz.out.symm, hW4.out⟩
    · have hz : Hid (cb = 2) := (by show _ = _; rw [hyes.out, HW2.out, hf]; rfl)
      clear hyes HW2 hf HGO hX3 hY3
      go_wp2
      go_ret
      exact ⟨ret_intM hz.out.symm, hW3.out⟩
  · have hz : Hid (cb = 1) := (by show _ = _; rw [hyes.out, HW.out, ho]; rfl)
    clear hyes HW HPL HGO
    go_wp2_with (go_at_call 31; refine (isBits_any _ _).mono ?_; rintro e w' ⟨rfl, rfl⟩)
    go_ret
    exact ⟨ret_intM hz.out.symm, hW2.out⟩
end Go.Proofs.YtcniahgcgfmhpaaGreat
