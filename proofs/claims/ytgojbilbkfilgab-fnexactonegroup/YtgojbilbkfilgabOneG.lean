/- OneGroup, the program's and the specification's. -/
import Derived.Test.YtgojbilbkfilgabWhich
import Derived.Test.YtgojbilbkfilgabSzCred
import Derived.Test.YtgojbilbkfilgabAclEq
import Derived.Lib.QuietBelow
import Derived.Deep.RegionHeld3
namespace Go.Proofs.Ytgojbilbkfilgab
open Go.RowKit Go.PlainAid Go.Deep
set_option linter.unusedVariables false
/-- How many of the first k are asked for. -/
def cntTo (x : Nat) (P : Int → Bool) (l : List (Int × Int)) : Nat → Nat
  | 0 => x
  | k + 1 => cntTo x P l k + (if P (idAt l k) then 1 else 0)
theorem cntTo_cons (P : Int → Bool) (x y : Int) (l : List (Int × Int)) : ∀ k, cntTo 0 P ((x, y) :: l) (k + 1) = cntTo (if P x then 1 else 0) P l k := by
  intro k
  induction k with
  | zero => simp [cntTo, idAt]
  | succ k ih =>
    have e : idAt ((x, y) :: l) (k + 1) = idAt l k := rfl
    show (cntTo 0 P ((x, y) :: l) (k + 1) + (if P (idAt ((x, y) :: l) (k + 1)) then 1 else 0)) = (cntTo (if P x then 1 else 0) P l k + (if P (idAt l k) then 1 else 0))
    rw [ih, e]
theorem cntTo_le (x : Nat) (P : Int → Bool) (l : List (Int × Int)) : ∀ k, cntTo x P l k ≤ x + k := by
  intro k
  induction k with
  | zero => exact Nat.le_refl _
  | succ k ih =>
    show cntTo x P l k + (if P (idAt l k) then 1 else 0) ≤ x + (k + 1)
    split <;> omega
def oneB (u g o : Int) (us gs : List (Int × Int)) (r : Bool) (m group cu' cg' : Int) (cl : Nat) (cf : Nat → Int) : Bool :=
  aclB u g o us gs r m && (inR 0 9999 group && (credB cu' cg' cl cf && decide (((cntTo (if inGB cu' cg' cl cf group then 1 else 0) (inGB cu' cg' cl cf) gs gs.length : Nat) : Int) ≤ 1)))
theorem ret_boolO {a b : Bool} (h : a = b) : Ending.returned (.bool a) = Ending.returned (.bool b) := by rw [h]
set_option maxRecDepth 100000 in
set_option maxHeartbeats 8000000 in
/-- impl.OneGroup. -/
theorem iOneGroup_any (u g o : Int) (au : Option Addr) (lu cu : Nat) (ag : Option Addr) (lg cg : Nat) (r : Bool) (m : Int) (us gs : List (Int × Int)) (group : Int) (cu' cg' : Int) (ca : Option Addr) (cl cc : Nat) (cr : Bool) (cf : Nat → Int) (w : World) (hu : Prs au lu us w) (hg : Prs ag lg gs w) (hci : Ints ca cl cf w) :
    Calls Try.prog 9 #[.agg #[.int .i64 u, .int .i64 g, .int .i64 o, .slice au lu cu, .slice ag lg cg, .bool r, .int .i64 m], .int .i64 group, .agg #[.int .i64 cu', .int .i64 cg', .slice ca cl cc, .bool cr]] w fun e w' => e = .returned (.bool (oneB u g o us gs r m group cu' cg' cl cf)) ∧ Below w.heap.size w w' := by
  have e2 := hg.1
  have hc : Hid (∀ w', Below w.heap.size w w' → Calls Try.prog 20 #[.agg #[.int .i64 u, .int .i64 g, .int .i64 o, .slice au lu cu, .slice ag lg cg, .bool r, .int .i64 m]] w' fun e w'' => e = .returned (.bool (aclB u g o us gs r m)) ∧ Below w'.heap.size w' w'') := (fun w' hb => iAclRight_any u g o au lu cu ag lg cg r m us gs w' (hu.below hb) (hg.below hb))
  have hcr : Hid (∀ w', Below w.heap.size w w' → Calls Try.prog 22 #[.agg #[.int .i64 cu', .int .i64 cg', .slice ca cl cc, .bool cr]] w' fun e w'' => e = .returned (.bool (credB cu' cg' cl cf)) ∧ Below w'.heap.size w' w'') := (fun w' hb => iCredRight_any cu' cg' ca cl cc cr cf w' (hci.below hb))
  have hin : Hid (∀ gid w', Below w.heap.size w w' → Calls Try.prog 24 #[.agg #[.int .i64 cu', .int .i64 cg', .slice ca cl cc, .bool cr], .int .i64 gid] w' fun e w'' => e = .returned (.bool (inGB cu' cg' cl cf gid)) ∧ Below w'.heap.size w' w'') := (fun gid w' hb => iInGroup_any cu' cg' ca cl cc cr gid cf w' (hci.below hb))
  have hLG : Hid (aclB u g o us gs r m = true → lg ≤ 6) := (fun h => by
    obtain ⟨_, _, _, _, _, m2⟩ := aclB_parts h
    have := nm_len m2
    omega)
  have hcc : Hid (lg ≤ 1000 → ∀ w1 X Y, Y = w1.heap.size → X = (w1.alloc (.cells #[.int .i64 group, .int .i64 0] 47)).heap.size → Below w.heap.size w w1 → Calls Try.prog 23 #[.slice (some ⟨X, 0, none⟩) 2 2] ((w1.alloc (.cells #[.int .i64 group, .int .i64 0] 47)).alloc (.cells #[.slice (some ⟨Y, 0, none⟩) 1 1, .slice ag lg cg] 31)) fun e w'' => ∃ a c, e = .returned (.slice a (1 + lg) c) ∧ 1 + lg ≤ c ∧ Own a (1 + lg) ([(group, 0)] ++ gs) w'' ∧ (∀ Ad, a = some Ad → (w1.alloc (.cells #[.int .i64 group, .int .i64 0] 47)).heap.size ≤ Ad.block ∧ Ad.block < w''.heap.size) ∧ Below (w1.alloc (.cells #[.int .i64 group, .int .i64 0] 47)).heap.size (w1.alloc (.cells #[.int .i64 group, .int .i64 0] 47)) w'') := (fun hl w1 X Y hY hX hb => by
    subst hY
    exact concat_two _ X hX _ 2 _ 1 1 [(group, 0)] ag lg cg gs (by omega) (prs_own1 w1 group 0 _) (hg.below (Below.onA hb)))
  have HFI : Hid (oneB u g o us gs r m group cu' cg' cl cf = (aclB u g o us gs r m && (inR 0 9999 group && (credB cu' cg' cl cf && decide (((cntTo 0 (inGB cu' cg' cl cf) ((group, 0) :: gs) (1 + lg) : Nat) : Int) ≤ 1))))) := (by show _ = _; rw [Nat.add_comm 1 lg, cntTo_cons, ← e2]; rfl)
  clear hu hg hci e2
  generalize oneB u g o us gs r m group cu' cg' cl cf = ob at HFI ⊢
  generalize inGB cu' cg' cl cf = P at hin HFI
  go_enter Try.func9, Try.ntmps9
  go_wp2_with fail
  refine (hc.out _ (bl2N _ _ _)).mono ?_
  rintro e w1 ⟨rfl, hb⟩
  have hW1 : Hid (Below w.heap.size w w1) := (bl2N _ _ _).trans (hb.mono (by simp; omega))
  have hX := ((box7_new w (.int .i64 u) (.int .i64 g) (.int .i64 o) (.slice au lu cu) (.slice ag lg cg) (.bool r) (.int .i64 m) 33).below (bel_alloc _ (.cells #[.int .i64 cu', .int .i64 cg', .slice ca cl cc, .bool cr] 35))).below hb
  have eA : (w.alloc (.cells #[.int .i64 u, .int .i64 g, .int .i64 o, .slice au lu cu, .slice ag lg cg, .bool r, .int .i64 m] 33)).heap.size = w.heap.size + 1 := by simp
  have hY := (box4_new (w.alloc (.cells #[.int .i64 u, .int .i64 g, .int .i64 o, .slice au lu cu, .slice ag lg cg, .bool r, .int .i64 m] 33)) (.int .i64 cu') (.int .i64 cg') (.slice ca cl cc) (.bool cr) 35).below hb
  rw [eA] at hY
  clear hb hc eA
  cases h : aclB u g o us gs r m
  · have hno : Hid (ob = false) := (by show _ = _; rw [HFI.out, h]; rfl)
    clear h hcr hcc hin HFI hLG hX hY
    go_wp2
    go_ret
    exact ⟨ret_boolO hno.out.symm, hW1.out⟩
  cases h2 : inR 0 9999 group
  · have hno : Hid (ob = false) := (by show _ = _; rw [HFI.out, h, h2]; rfl)
    clear h hcr hcc hin HFI hLG hX hY
    go_wp2_with (go_at_call 21; refine (isId_any _ _).mono ?_; rintro e w' ⟨rfl, rfl⟩)
    go_ret
    exact ⟨ret_boolO hno.out.symm, hW1.out⟩
  obtain ⟨yl, y0, y1, y2, y3⟩ := hY
  have hlg := hLG.out h
  have HCC : Hid _ := (hcc.out (by omega))
  have HFJ : Hid (ob = (credB cu' cg' cl cf && decide (((cntTo 0 P ((group, 0) :: gs) (1 + lg) : Nat) : Int) ≤ 1))) := (by show _ = _; rw [HFI.out, h, h2]; rfl)
  clear HFI h hcc hLG
  go_wp2_with (go_at_call 21; refine (isId_any _ _).mono ?_; rintro e w' ⟨rfl, rfl⟩)
  refine (hcr.out _ hW1.out).mono ?_
  rintro e w2 ⟨rfl, hb⟩
  have hW2 : Hid (Below w.heap.size w w2) := Below.on hW1.out hb
  have hX2 := hX.below hb
  have hY2 := (Box4.mk yl y0 y1 y2 y3).below hb
  clear hb hcr hX y0 y1 y2 y3 yl hW1
  cases h3 : credB cu' cg' cl cf
  · have hno : Hid (ob = false) := (by show _ = _; rw [HFJ.out, h3]; rfl)
    clear h2 h3 HCC hin HFJ hX2 hY2
    go_wp2
    go_ret
    exact ⟨ret_boolO hno.out.symm, hW2.out⟩
  obtain ⟨l, hl0⟩ : ∃ l, l = (group, (0 : Int)) :: gs := ⟨_, rfl⟩
  obtain ⟨n, hn0⟩ : ∃ n, n = 1 + lg := ⟨_, rfl⟩
  have hyes : Hid (ob = decide (((cntTo 0 P l n : Nat) : Int) ≤ 1)) := (by show _ = _; rw [HFJ.out, h3, hl0, hn0]; rfl)
  have HL0 : Hid (l = (group, 0) :: gs) := hl0
  have HN0 : Hid (n = 1 + lg) := hn0
  have HY2 : Hid (Box4 w2 (w.heap.size + 1) (.int .i64 cu') (.int .i64 cg') (.slice ca cl cc) (.bool cr)) := hY2
  obtain ⟨xl, x0, x1, x2, x3, x4, x5, x6⟩ := hX2
  clear h2 h3 HFJ hl0 hn0 hY2
  go_wp2_with fail
  refine (HCC.out _ _ _ (by simp) (by simp) hW2.out).mono ?_
  rintro e w3 ⟨a, c, rfl, hcap, ho, _, hb⟩
  have hbW : Hid (Below w.heap.size w w3) := Below.on (Below.onA hW2.out) hb
  have HX : Hid (Box4 w3 (w.heap.size + 1) (.int .i64 cu') (.int .i64 cg') (.slice ca cl cc) (.bool cr)) := (HY2.out.below (bel_alloc _ _)).below hb
  have HO : Hid (Own a n l w3) := (by show Own a n l w3; rw [HL0.out, HN0.out]; exact ho)
  have hn2 : n ≤ 1001 := by have := HN0.out; omega
  rw [← HN0.out] at hcap ⊢
  clear hb HCC ho xl x0 x1 x2 x3 x4 x5 x6 HY2 hW2
  go_wp2
  go_loopw [7, 31] (fun s i wr => ∃ k : Nat, k ≤ n ∧ i = .int .i64 k ∧ s = .int .i64 ((cntTo 0 P l k : Nat) : Int) ∧ Hid (Below w3.heap.size w3 wr)) (fun _ i _ => n - (intOf i).toNat)
  case atStart => exact ⟨0, Nat.zero_le _, rfl, rfl, Below.refl _ _⟩
  case round =>
    obtain ⟨k, hk, rfl, rfl, hB⟩ := hrel
    have hcl := cntTo_le 0 P l k
    by_cases hlt : k < n
    · have hlt' : (k : Int) < (n : Int) := by omega
      obtain ⟨B, rfl, hBl, hp⟩ := HO.out.2 (by omega)
      have q := (hp k hlt).1
      have c0 : wr.cell? ⟨B, k * 2, none⟩ = some (.int .i64 (idAt l k)) := (hB.out.cell (p := ⟨B, k * 2, none⟩) hBl).trans q.1
      have c1 : wr.cell? ⟨B, k * 2 + 1, none⟩ = some (.int .i64 (btAt l k)) := (hB.out.cell (p := ⟨B, k * 2 + 1, none⟩) hBl).trans q.2
      have hBA := Below.onA (o := .cells #[.int .i64 (idAt l k), .int .i64 (btAt l k)] 47) hB.out
      obtain ⟨xl, x0, x1, x2, x3⟩ := HX.out.below hB.out
      obtain ⟨n0, n1⟩ := pair_new wr (.int .i64 (idAt l k)) (.int .i64 (btAt l k)) 47
      have HBA : Hid (Below w3.heap.size w3 (wr.alloc (.cells #[.int .i64 (idAt l k), .int .i64 (btAt l k)] 47))) := hBA
      clear q hp hBA hB
      go_wp2_with fail
      refine (hin.out (idAt l k) _ (Below.on hbW.out HBA.out)).mono ?_
      rintro e w4 ⟨rfl, hb2⟩
      have HB2 : Hid (Below w3.heap.size w3 w4) := Below.on HBA.out hb2
      clear hb2 x0 x1 x2 x3 xl n0 n1 c0 c1 HBA
      cases hP : P (idAt l k)
      · have ei : Hid (cntTo 0 P l (k + 1) = cntTo 0 P l k) := (by show _ = _; simp [cntTo, hP])
        clear hP
        go_wp2
        go_roundw
        case rel => exact ⟨k + 1, by omega, by go_num, by rw [ei.out], HB2⟩
        case measure => simp [intOf]; omega
      · have ei : Hid (cntTo 0 P l (k + 1) = cntTo 0 P l k + 1) := (by show _ = _; simp [cntTo, hP])
        clear hP
        go_wp2
        go_roundw
        case rel => exact ⟨k + 1, by omega, by go_num, by rw [ei.out]; go_num, HB2⟩
        case measure => simp [intOf]; omega
    · have : k = n := by omega
      subst this
      go_wp2
      go_ret
      exact ⟨ret_boolO hyes.out.symm, Below.on hbW.out hB.out⟩
set_option maxRecDepth 100000 in
set_option maxHeartbeats 8000000 in
/-- spec.OneGroup. -/
theorem sOneGroup_any (u g o : Int) (au : Option Addr) (lu cu : Nat) (ag : Option Addr) (lg cg : Nat) (r : Bool) (m : Int) (us gs : List (Int × Int)) (group : Int) (cu' cg' : Int) (ca : Option Addr) (cl cc : Nat) (cr : Bool) (cf : Nat → Int) (hlu : lu ≤ 1048576) (hlg : lg ≤ 1048576) (w : World) (hu : Prs au lu us w) (hg : Prs ag lg gs w) (hci : Ints ca cl cf w) :
    Calls Try.prog 6 #[.agg #[.int .i64 u, .int .i64 g, .int .i64 o, .slice au lu cu, .slice ag lg cg, .bool r, .int .i64 m], .int .i64 group, .agg #[.int .i64 cu', .int .i64 cg', .slice ca cl cc, .bool cr]] w fun e w' => e = .returned (.bool (oneB u g o us gs r m group cu' cg' cl cf)) ∧ Below w.heap.size w w' := by
  have e2 := hg.1
  have hc : Hid (∀ w', Below w.heap.size w w' → Calls Try.prog 14 #[.agg #[.int .i64 u, .int .i64 g, .int .i64 o, .slice au lu cu, .slice ag lg cg, .bool r, .int .i64 m]] w' fun e w'' => e = .returned (.bool (aclB u g o us gs r m)) ∧ Below w'.heap.size w' w'') := (fun w' hb => sAclRight_any u g o au lu cu ag lg cg r m us gs hlu hlg w' (hu.below hb) (hg.below hb))
  have hcr : Hid (∀ w', Below w.heap.size w w' → Calls Try.prog 15 #[.agg #[.int .i64 cu', .int .i64 cg', .slice ca cl cc, .bool cr]] w' fun e w'' => e = .returned (.bool (credB cu' cg' cl cf)) ∧ Below w'.heap.size w' w'') := (fun w' hb => sCredRight_any cu' cg' ca cl cc cr cf w' (hci.below hb))
  have hin : Hid (credB cu' cg' cl cf = true → ∀ gid w', Below w.heap.size w w' → Calls Try.prog 17 #[.agg #[.int .i64 cu', .int .i64 cg', .slice ca cl cc, .bool cr], .int .i64 gid] w' fun e w'' => e = .returned (.bool (inGB cu' cg' cl cf gid)) ∧ Below w'.heap.size w' w'') := (fun hcd gid w' hb => by
    rw [inGB_yes hcd]
    exact l02In_some cu' cg' ca cl cc cr gid cf (gr_len (credB_iff.mp hcd).2.2) w' (hci.below hb))
  have hLG : Hid (aclB u g o us gs r m = true → lg ≤ 6) := (fun h => by
    obtain ⟨_, _, _, _, _, m2⟩ := aclB_parts h
    have := nm_len m2
    omega)
  have HG : Hid (Prs ag lg gs w) := hg
  have HFI : Hid (oneB u g o us gs r m group cu' cg' cl cf = (aclB u g o us gs r m && (inR 0 9999 group && (credB cu' cg' cl cf && decide (((cntTo (if inGB cu' cg' cl cf group then 1 else 0) (inGB cu' cg' cl cf) gs lg : Nat) : Int) ≤ 1))))) := (by show _ = _; rw [← e2]; rfl)
  clear hu hg hci e2 hlu hlg
  generalize oneB u g o us gs r m group cu' cg' cl cf = ob at HFI ⊢
  generalize inGB cu' cg' cl cf = P at hin HFI
  go_enter Try.func6, Try.ntmps6
  go_wp2_with fail
  refine (hc.out _ (bl2N _ _ _)).mono ?_
  rintro e w1 ⟨rfl, hb⟩
  have hW1 : Hid (Below w.heap.size w w1) := (bl2N _ _ _).trans (hb.mono (by simp; omega))
  have hX := ((box7_new w (.int .i64 u) (.int .i64 g) (.int .i64 o) (.slice au lu cu) (.slice ag lg cg) (.bool r) (.int .i64 m) 33).below (bel_alloc _ (.cells #[.int .i64 cu', .int .i64 cg', .slice ca cl cc, .bool cr] 35))).below hb
  have eA : (w.alloc (.cells #[.int .i64 u, .int .i64 g, .int .i64 o, .slice au lu cu, .slice ag lg cg, .bool r, .int .i64 m] 33)).heap.size = w.heap.size + 1 := by simp
  have hY := (box4_new (w.alloc (.cells #[.int .i64 u, .int .i64 g, .int .i64 o, .slice au lu cu, .slice ag lg cg, .bool r, .int .i64 m] 33)) (.int .i64 cu') (.int .i64 cg') (.slice ca cl cc) (.bool cr) 35).below hb
  rw [eA] at hY
  clear hb hc eA
  cases h : aclB u g o us gs r m
  · have hno : Hid (ob = false) := (by show _ = _; rw [HFI.out, h]; rfl)
    clear h hcr hin HFI hLG hX hY
    go_wp2
    go_ret
    exact ⟨ret_boolO hno.out.symm, hW1.out⟩
  have hlg := hLG.out h
  obtain ⟨yl, y0, y1, y2, y3⟩ := hY
  have HFJ : Hid (ob = (inR 0 9999 group && (credB cu' cg' cl cf && decide (((cntTo (if P group then 1 else 0) P gs lg : Nat) : Int) ≤ 1)))) := (by show _ = _; rw [HFI.out, h]; rfl)
  clear HFI h hLG
  go_wp2_with fail
  refine (hcr.out _ hW1.out).mono ?_
  rintro e w2 ⟨rfl, hb⟩
  have hW2 : Hid (Below w.heap.size w w2) := Below.on hW1.out hb
  have hX2 := hX.below hb
  have hY2 := (Box4.mk yl y0 y1 y2 y3).below hb
  clear hb hcr hX y0 y1 y2 y3 yl hW1
  cases h3 : credB cu' cg' cl cf
  · have hno : Hid (ob = false) := (by show _ = _; rw [HFJ.out, h3]; cases inR 0 9999 group <;> rfl)
    clear h3 hin HFJ hX2 hY2
    go_wp2
    go_ret
    exact ⟨ret_boolO hno.out.symm, hW2.out⟩
  have HIN : Hid _ := hin.out h3
  cases h2 : inR 0 9999 group
  · have hno : Hid (ob = false) := (by show _ = _; rw [HFJ.out, h2]; rfl)
    clear h3 hin HIN HFJ hX2 hY2
    go_wp2_with (go_at_call 16; refine (sId_any _ _).mono ?_; rintro e w' ⟨rfl, rfl⟩)
    go_ret
    exact ⟨ret_boolO hno.out.symm, hW2.out⟩
  have hyes : Hid (ob = decide (((cntTo (if P group then 1 else 0) P gs lg : Nat) : Int) ≤ 1)) := (by show _ = _; rw [HFJ.out, h3, h2]; rfl)
  have HX2 : Hid (Box7 w2 w.heap.size (.int .i64 u) (.int .i64 g) (.int .i64 o) (.slice au lu cu) (.slice ag lg cg) (.bool r) (.int .i64 m)) := hX2
  obtain ⟨yl, y0, y1, y2, y3⟩ := hY2
  clear h3 HFJ hin hX2
  go_wp2_with (go_at_call 16; refine (sId_any _ _).mono ?_; rintro e w' ⟨rfl, rfl⟩)
  refine (HIN.out group _ hW2.out).mono ?_
  rintro e w3 ⟨rfl, hb⟩
  have hW3 : Hid (Below w.heap.size w w3) := Below.on hW2.out hb
  have HX3 : Hid (Box7 w3 w.heap.size (.int .i64 u) (.int .i64 g) (.int .i64 o) (.slice au lu cu) (.slice ag lg cg) (.bool r) (.int .i64 m)) := HX2.out.below hb
  have HY3 : Hid (Box4 w3 (w.heap.size + 1) (.int .i64 cu') (.int .i64 cg') (.slice ca cl cc) (.bool cr)) := (Box4.mk yl y0 y1 y2 y3).below hb
  clear hb yl y0 y1 y2 y3 hW2 HX2 h2
  obtain ⟨x, hx⟩ : ∃ x, x = (if P group then 1 else 0) := ⟨_, rfl⟩
  have hx1 : x ≤ 1 := by rw [hx]; split <;> omega
  rw [← hx] at hyes
  cases hPg : P group
  all_goals
    have HX0 : Hid (x = _) := (by show x = _; rw [hx, hPg])
    clear hx hPg
    go_wp2
    go_loopw [7, 8] (fun s i wr => ∃ k : Nat, k ≤ lg ∧ i = .int .i64 k ∧ s = .int .i64 ((cntTo x P gs k : Nat) : Int) ∧ Hid (Below w3.heap.size w3 wr)) (fun _ i _ => lg - (intOf i).toNat)
    case atStart => exact ⟨0, Nat.zero_le _, rfl, by simp [cntTo, HX0.out], Below.refl _ _⟩
    case round =>
      obtain ⟨k, hk, rfl, rfl, hB⟩ := hrel
      have hcl := cntTo_le x P gs k
      obtain ⟨xl, x0, x1, x2, x3, x4, x5, x6⟩ := HX3.out.below hB.out
      by_cases hlt : k < lg
      · have hlt' : (k : Int) < (lg : Int) := by omega
        obtain ⟨b, off, rfl, hbl, hc⟩ := HG.out.2 (by omega)
        have hBB := Below.on hW3.out hB.out
        obtain ⟨yl, y0, y1, y2, y3⟩ := HY3.out.below hB.out
        have z4 : ∀ d os, (Go.Sort.grow (redrawn wr d) os).cell? ⟨w.heap.size, 4, none⟩ = some (.slice (some ⟨b, off, none⟩) lg cg) := fun d os => cell_regrown x4 d os
        have q0 : ∀ d os, (Go.Sort.grow (redrawn wr d) os).cell? ⟨w.heap.size + 1, 0, none⟩ = some (.int .i64 cu') := fun d os => cell_regrown y0 d os
        have q1 : ∀ d os, (Go.Sort.grow (redrawn wr d) os).cell? ⟨w.heap.size + 1, 1, none⟩ = some (.int .i64 cg') := fun d os => cell_regrown y1 d os
        have q2 : ∀ d os, (Go.Sort.grow (redrawn wr d) os).cell? ⟨w.heap.size + 1, 2, none⟩ = some (.slice ca cl cc) := fun d os => cell_regrown y2 d os
        have q3 : ∀ d os, (Go.Sort.grow (redrawn wr d) os).cell? ⟨w.heap.size + 1, 3, none⟩ = some (.bool cr) := fun d os => cell_regrown y3 d os
        have e0 : ∀ d os, (Go.Sort.grow (redrawn wr d) os).cell? ⟨b, off + k * 2, none⟩ = some (.int .i64 (idAt gs k)) := fun d os => cell_regrown ((hBB.cell (p := ⟨b, off + k * 2, none⟩) hbl).trans (hc k hlt).1) d os
        have cA : ∀ d os, Calls Try.prog 17 #[.agg #[.int .i64 cu', .int .i64 cg', .slice ca cl cc, .bool cr], .int .i64 (idAt gs k)] (Go.Sort.grow (redrawn wr d) os) fun e w'' => e = .returned (.bool (P (idAt gs k))) ∧ ∃ p : Regrown, w'' = Go.Sort.grow (redrawn wr p.d) p.os := fun d os => Calls.regrown_of (HIN.out _ _ (Below.on hBB (below_regrown wr d os)))
        have HBB : Hid (Below w.heap.size w wr) := hBB
        clear hc hBB hbl y0 y1 y2 y3 yl x0 x1 x2 x3 x5 x6 xl
        go_wp2
        refine wp_region_quiet_below (by kernel_rfl) (by kernel_rfl) ?_
        repeat (go_big_quiet_step (exact cA _ _))
        refine wpQuiet_nil ?_
        intro _ hw'
        obtain ⟨⟨dq, osq⟩, hw''⟩ := hw'
        subst hw''
        have hbq := below_regrown wr dq osq
        have hb2 : Hid (Below w3.heap.size w3 (Go.Sort.grow (redrawn wr dq) osq)) := Below.on hB.out hbq
        generalize Go.Sort.grow (redrawn wr dq) osq = w5 at hbq hb2 ⊢
        clear z4 q0 q1 q2 q3 e0 cA x4 hB hbq
        cases hP : P (idAt gs k)
        · have ei : Hid (cntTo x P gs (k + 1) = cntTo x P gs k) := (by show _ = _; simp [cntTo, hP])
          clear hP
          go_wp2
          go_roundw
          case rel => exact ⟨k + 1, by omega, by go_num, by rw [ei.out], hb2⟩
          case measure => simp [intOf]; omega
        · have ei : Hid (cntTo x P gs (k + 1) = cntTo x P gs k + 1) := (by show _ = _; simp [cntTo, hP])
          clear hP
          go_wp2
          go_roundw
          case rel => exact ⟨k + 1, by omega, by go_num, by rw [ei.out]; go_num, hb2⟩
          case measure => simp [intOf]; omega
      · have : k = lg := by omega
        subst this
        clear x0 x1 x2 x3 x5 x6 xl
        go_wp2
        go_ret
        exact ⟨ret_boolO hyes.out.symm, Below.on hW3.out hB.out⟩
end Go.Proofs.Ytgojbilbkfilgab
