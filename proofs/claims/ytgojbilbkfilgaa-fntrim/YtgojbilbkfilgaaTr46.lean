/- Laid together: HasWalks, Which, TrimW. -/
import Derived.Test.YtgojbilbkfilgaaTr3
import Derived.Test.YtgojbilbkfilgaaTr10
import Derived.Test.YtgojbilbkfilgaaTr12
import Derived.Test.YtgojbilbkfilgaaTr43
import Derived.Test.YtgojbilbkfilgaaTr37
import Derived.Test.YtgojbilbkfilgaaTr45
import Derived.Deep.RegionHeld3
/- The contracts of Has: the program's and the specification's both answer whether each number of the one set is in the other. -/
namespace Go.Proofs.Ytgojbilbkfilgaa
open Go.RowKit Go.PlainAid
set_option linter.unusedVariables false
set_option maxHeartbeats 1000000 in
theorem sl02Has_any (h v : Nat) (h1 : h ≤ 65535) (h2 : v ≤ 65535) (w : World) :
    Calls Try.prog 126 #[.int .i64 h, .int .i64 v] w fun e w' => e = .returned (.bool (hasB h v)) ∧ w' = w := by
  go_enter Try.func126, Try.ntmps126
  go_wp2
  go_loop [0, 1] (fun x y => ∃ a b : Nat, a ≤ 65535 ∧ b ≤ 65535 ∧ x = .int .i64 a ∧ y = .int .i64 b ∧ Hid (hasB a b = hasB h v)) (fun _ y => (intOf y).toNat)
  case atStart => exact ⟨h, v, h1, h2, rfl, rfl, rfl⟩
  case round =>
    obtain ⟨a, b, ha, hb, rfl, rfl, he⟩ := hrel
    by_cases hz : b = 0
    · subst hz
      have hy : Hid (hasB h v = true) := (he.out.symm.trans (hasB_zero a))
      go_wp2
      go_ret
      exact ⟨ret_boolW hy.out.symm, rfl⟩
    · have hp : 0 < (b : Int) := by omega
      clear hz
      by_cases hb1 : b % 2 = 1
      · have q1 : (b : Int) % 2 = 1 := by omega
        by_cases ha0 : a % 2 = 0
        · have hy : Hid (hasB h v = false) := (he.out.symm.trans (hasB_no ha0 hb1))
          have q2 : (a : Int) % 2 = 0 := by omega
          clear hb1 ha0
          go_wp2
          go_ret
          exact ⟨ret_boolW hy.out.symm, rfl⟩
        · have hy : Hid (hasB (a / 2) (b / 2) = hasB h v) := ((hasB_half (fun e => ha0 e.1)).symm.trans he.out)
          have q2 : (a : Int) % 2 = 1 := by omega
          clear hb1 ha0
          go_wp2
          go_round
          case rel => exact ⟨a / 2, b / 2, by omega, by omega, by go_num, by go_num, hy⟩
          case measure => simp [intOf]; omega
      · have hy : Hid (hasB (a / 2) (b / 2) = hasB h v) := ((hasB_half (fun e => hb1 e.2)).symm.trans he.out)
        have q1 : (b : Int) % 2 = 0 := by omega
        clear hb1
        go_wp2
        go_round
        case rel => exact ⟨a / 2, b / 2, by omega, by omega, by go_num, by go_num, hy⟩
        case measure => simp [intOf]; omega
theorem hasZ_def (h v : Int) (h0 : inR 0 65535 h = true) (h1 : inR 0 65535 v = true) : hasZ h v = hasB h.toNat v.toNat := by
  rw [inR_iff] at h0 h1
  simp [hasZ, h0, h1]
theorem and_i64 (a b : Nat) (h1 : a ≤ 65535) (h2 : b ≤ 65535) : bits .and .i64 (a : Int) (b : Int) = ((a &&& b : Nat) : Int) := i64_and_nat a b (by omega) (by omega)
set_option maxHeartbeats 1000000 in
theorem iHas_any (h v : Int) (w : World) :
    Calls Try.prog 41 #[.int .i64 h, .int .i64 v] w fun e w' => e = .returned (.bool (hasZ h v)) ∧ w' = w := by
  cases e1 : inR 0 65535 h
  · have hy : Hid (hasZ h v = false) := hasZ_off (fun e => by rw [inR_yes e.1 e.2] at e1; cases e1)
    go_enter Try.func41, Try.ntmps41
    go_wp2_with (go_at_call 94; refine (isSet_any _ _).mono ?_; rintro e w' ⟨rfl, rfl⟩)
    go_ret
    exact ⟨ret_boolW hy.out.symm, rfl⟩
  · cases e2 : inR 0 65535 v
    · have hy : Hid (hasZ h v = false) := hasZ_off2 (fun e => by rw [inR_yes e.1 e.2] at e2; cases e2)
      go_enter Try.func41, Try.ntmps41
      go_wp2_with (go_at_call 94; refine (isSet_any _ _).mono ?_; rintro e w' ⟨rfl, rfl⟩)
      go_ret
      exact ⟨ret_boolW hy.out.symm, rfl⟩
    · have hy : Hid (hasZ h v = hasB h.toNat v.toNat) := hasZ_def h v e1 e2
      obtain ⟨a, rfl⟩ := Int.eq_ofNat_of_zero_le (inR_iff.mp e1).1
      obtain ⟨b, rfl⟩ := Int.eq_ofNat_of_zero_le (inR_iff.mp e2).1
      have hab := and_i64 a b (by have := (inR_iff.mp e1).2; omega) (by have := (inR_iff.mp e2).2; omega)
      have hz : Hid ((((a &&& b : Nat) : Int) == (b : Int)) = hasB a b) := (show (((a &&& b : Nat) : Int) == (b : Int)) = hasB a b by unfold hasB; rw [Bool.eq_iff_iff]; simp only [beq_iff_eq]; omega)
      go_enter Try.func41, Try.ntmps41
      go_wp2_with (go_at_call 94; refine (isSet_any _ _).mono ?_; rintro e w' ⟨rfl, rfl⟩)
      go_ret
      exact ⟨ret_boolW (hz.out.trans hy.out.symm), rfl⟩
end Go.Proofs.Ytgojbilbkfilgaa
/- impl.groupOrOther: by the group, and the named groups, or as others. -/
namespace Go.Proofs.Ytgojbilbkfilgaa
open Go.RowKit Go.PlainAid Go.Deep
set_option linter.unusedVariables false
theorem prs_own1 (w : World) (x y : Int) (t : TypeId) : Prs (some ⟨w.heap.size, 0, none⟩) 1 [(x, y)] (w.alloc (.cells #[.int .i64 x, .int .i64 y] t)) := by
  obtain ⟨h0, h1⟩ := pair_new w (.int .i64 x) (.int .i64 y) t
  refine ⟨rfl, fun _ => ⟨w.heap.size, 0, rfl, by simp, fun i hi => ?_⟩⟩
  have : i = 0 := by omega
  subst this
  exact ⟨h0, h1⟩
/-- Four cells of a block. -/
structure Box4 (w : World) (B : Nat) (v0 v1 v2 v3 : Value) : Prop where
  lt : B < w.heap.size
  c0 : w.cell? ⟨B, 0, none⟩ = some v0
  c1 : w.cell? ⟨B, 1, none⟩ = some v1
  c2 : w.cell? ⟨B, 2, none⟩ = some v2
  c3 : w.cell? ⟨B, 3, none⟩ = some v3
theorem Box4.below {w w' : World} {B : Nat} {v0 v1 v2 v3 : Value} (h : Box4 w B v0 v1 v2 v3) (hb : Below w.heap.size w w') : Box4 w' B v0 v1 v2 v3 :=
  ⟨Nat.lt_of_lt_of_le h.lt hb.size, (hb.cell (p := ⟨B, 0, none⟩) h.lt).trans h.c0, (hb.cell (p := ⟨B, 1, none⟩) h.lt).trans h.c1, (hb.cell (p := ⟨B, 2, none⟩) h.lt).trans h.c2, (hb.cell (p := ⟨B, 3, none⟩) h.lt).trans h.c3⟩
theorem box4_new (w : World) (v0 v1 v2 v3 : Value) (t : TypeId) : Box4 (w.alloc (.cells #[v0, v1, v2, v3] t)) w.heap.size v0 v1 v2 v3 := by
  have hb : (w.alloc (.cells #[v0, v1, v2, v3] t)).heap[w.heap.size]? = some (.cells #[v0, v1, v2, v3] t) := by
    rw [World.alloc]
    exact Array.getElem?_push_size
  refine ⟨by simp, ?_, ?_, ?_, ?_⟩ <;> (simp only [World.cell?, hb]; rfl)
/-- Is one of the first k asked for, and has one of these all of want? -/
def inTo (x : Bool) (P : Int → Bool) (l : List (Int × Int)) : Nat → Bool
  | 0 => x
  | k + 1 => inTo x P l k || P (idAt l k)
def allTo (x : Bool) (P : Int → Bool) (l : List (Int × Int)) (want : Int) : Nat → Bool
  | 0 => x
  | k + 1 => allTo x P l want k || (P (idAt l k) && hasZ (btAt l k) want)
theorem inTo_cons (P : Int → Bool) (x y : Int) (l : List (Int × Int)) : ∀ k, inTo false P ((x, y) :: l) (k + 1) = inTo (P x) P l k := by
  intro k
  induction k with
  | zero => simp [inTo, idAt]
  | succ k ih =>
    have e : idAt ((x, y) :: l) (k + 1) = idAt l k := rfl
    show (inTo false P ((x, y) :: l) (k + 1) || P (idAt ((x, y) :: l) (k + 1))) = (inTo (P x) P l k || P (idAt l k))
    rw [ih, e]
theorem allTo_cons (P : Int → Bool) (x y : Int) (l : List (Int × Int)) (want : Int) : ∀ k, allTo false P ((x, y) :: l) want (k + 1) = allTo (P x && hasZ y want) P l want k := by
  intro k
  induction k with
  | zero => simp [allTo, idAt, btAt]
  | succ k ih =>
    have e : idAt ((x, y) :: l) (k + 1) = idAt l k := rfl
    have e2 : btAt ((x, y) :: l) (k + 1) = btAt l k := rfl
    show (allTo false P ((x, y) :: l) want (k + 1) || (P (idAt ((x, y) :: l) (k + 1)) && hasZ (btAt ((x, y) :: l) (k + 1)) want)) = (allTo (P x && hasZ y want) P l want k || (P (idAt l k) && hasZ (btAt l k) want))
    rw [ih, e, e2]
theorem allTo_hit {P : Int → Bool} {l : List (Int × Int)} {want : Int} {k n : Nat} (h : k < n) (hk : (P (idAt l k) && hasZ (btAt l k) want) = true) : allTo false P l want n = true := by
  induction n with
  | zero => omega
  | succ n ih =>
    by_cases e : k = n
    · subst e; simp [allTo, hk]
    · simp [allTo, ih (by omega)]
/-- 3, 4 or 5. -/
def goC (all inn : Bool) : Int := if all then 3 else if inn then 4 else 5
def clsK (inn : Bool) : Int := if inn then 4 else 5
set_option maxRecDepth 100000 in
set_option maxHeartbeats 8000000 in
/-- impl.groupOrOther. -/
theorem groupOrOther_any (u g o : Int) (au : Option Addr) (lu cu : Nat) (ag : Option Addr) (lg cg : Nat) (r : Bool) (m : Int) (gs : List (Int × Int)) (group : Int) (cu' cg' : Int) (ca : Option Addr) (cl cc : Nat) (cr : Bool) (cf : Nat → Int) (want : Int) (w : World) (hg : Prs ag lg gs w) (hci : Ints ca cl cf w) (hl : lg ≤ 1000) :
    Calls Try.prog 100 #[.agg #[.int .i64 u, .int .i64 g, .int .i64 o, .slice au lu cu, .slice ag lg cg, .bool r, .int .i64 m], .int .i64 group, .agg #[.int .i64 cu', .int .i64 cg', .slice ca cl cc, .bool cr], .int .i64 want] w fun e w' => e = .returned (.int .i64 (goC (allTo false (inGB cu' cg' cl cf) ((group, g) :: gs) want (1 + lg)) (inTo false (inGB cu' cg' cl cf) ((group, g) :: gs) (1 + lg)))) ∧ Below w.heap.size w w' := by
  have hin : Hid (∀ gid w', Below w.heap.size w w' → Calls Try.prog 124 #[.agg #[.int .i64 cu', .int .i64 cg', .slice ca cl cc, .bool cr], .int .i64 gid] w' fun e w'' => e = .returned (.bool (inGB cu' cg' cl cf gid)) ∧ Below w'.heap.size w' w'') := (fun gid w' hb => iInGroup_any cu' cg' ca cl cc cr gid cf w' (hci.below hb))
  have hcc : Hid (∀ w1 X Y, Y = w1.heap.size → X = (w1.alloc (.cells #[.int .i64 group, .int .i64 g] 69)).heap.size → Below w.heap.size w w1 → Calls Try.prog 119 #[.slice (some ⟨X, 0, none⟩) 2 2] ((w1.alloc (.cells #[.int .i64 group, .int .i64 g] 69)).alloc (.cells #[.slice (some ⟨Y, 0, none⟩) 1 1, .slice ag lg cg] 23)) fun e w'' => ∃ a c, e = .returned (.slice a (1 + lg) c) ∧ 1 + lg ≤ c ∧ Own a (1 + lg) ([(group, g)] ++ gs) w'' ∧ (∀ Ad, a = some Ad → (w1.alloc (.cells #[.int .i64 group, .int .i64 g] 69)).heap.size ≤ Ad.block ∧ Ad.block < w''.heap.size) ∧ Below (w1.alloc (.cells #[.int .i64 group, .int .i64 g] 69)).heap.size (w1.alloc (.cells #[.int .i64 group, .int .i64 g] 69)) w'') := (fun w1 X Y hY hX hb => by
    subst hY
    exact concat_two _ X hX _ 2 _ 1 1 [(group, g)] ag lg cg gs (by omega) (prs_own1 w1 group g _) (hg.below (Below.onA hb)))
  clear hg hci
  generalize inGB cu' cg' cl cf = P at hin ⊢
  obtain ⟨l, hl0⟩ : ∃ l, l = (group, g) :: gs := ⟨_, rfl⟩
  obtain ⟨n, hn0⟩ : ∃ n, n = 1 + lg := ⟨_, rfl⟩
  rw [← hl0, ← hn0]
  have HL0 : Hid (l = (group, g) :: gs) := hl0
  have HN0 : Hid (n = 1 + lg) := hn0
  clear hl0 hn0
  go_enter Try.func100, Try.ntmps100
  go_wp2_with fail
  refine (hcc.out _ _ _ (by simp) (by simp) (bl3N _ _ _ _)).mono ?_
  rintro e w1 ⟨a, c, rfl, hcap, ho, _, hb⟩
  have hbW : Hid (Below w.heap.size w w1) := Below.on (Below.onA (bl3N _ _ _ _)) hb
  have eA : (w.alloc (.cells #[.int .i64 u, .int .i64 g, .int .i64 o, .slice au lu cu, .slice ag lg cg, .bool r, .int .i64 m] 25)).heap.size = w.heap.size + 1 := by simp
  have hX := (((box4_new (w.alloc (.cells #[.int .i64 u, .int .i64 g, .int .i64 o, .slice au lu cu, .slice ag lg cg, .bool r, .int .i64 m] 25)) (.int .i64 cu') (.int .i64 cg') (.slice ca cl cc) (.bool cr) 44).below (bel_alloc _ (.cells #[.int .i64 group, .int .i64 g] 69))).below (bel_alloc _ (.cells #[.int .i64 group, .int .i64 g] 69))).below hb
  rw [eA] at hX
  have HX : Hid (Box4 w1 (w.heap.size + 1) (.int .i64 cu') (.int .i64 cg') (.slice ca cl cc) (.bool cr)) := hX
  have HO : Hid (Own a n l w1) := (by show Own a n l w1; rw [HL0.out, HN0.out]; exact ho)
  have HA : Hid (∀ k, k < n → (P (idAt l k) && hasZ (btAt l k) want) = true → allTo false P l want n = true) := (fun k hk h => allTo_hit hk h)
  have hn2 : n ≤ 1001 := by have := HN0.out; omega
  rw [← HN0.out] at hcap ⊢
  clear hb hcc ho hX eA
  go_wp2
  go_loopw [9, 24] (fun s i wr => ∃ k : Nat, k ≤ n ∧ i = .int .i64 k ∧ s = .int .i64 (clsK (inTo false P l k)) ∧ Hid (allTo false P l want k = false) ∧ Hid (Below w1.heap.size w1 wr)) (fun _ i _ => n - (intOf i).toNat)
  case atStart => exact ⟨0, Nat.zero_le _, rfl, rfl, rfl, Below.refl _ _⟩
  case round =>
    obtain ⟨k, hk, rfl, rfl, hto, hB⟩ := hrel
    by_cases hlt : k < n
    · have hlt' : (k : Int) < (n : Int) := by omega
      obtain ⟨B, rfl, hBl, hp⟩ := HO.out.2 (by omega)
      have q := (hp k hlt).1
      have c0 : wr.cell? ⟨B, k * 2, none⟩ = some (.int .i64 (idAt l k)) := (hB.out.cell (p := ⟨B, k * 2, none⟩) hBl).trans q.1
      have c1 : wr.cell? ⟨B, k * 2 + 1, none⟩ = some (.int .i64 (btAt l k)) := (hB.out.cell (p := ⟨B, k * 2 + 1, none⟩) hBl).trans q.2
      have hBA := Below.onA (o := .cells #[.int .i64 (idAt l k), .int .i64 (btAt l k)] 69) hB.out
      obtain ⟨xl, x0, x1, x2, x3⟩ := HX.out.below hB.out
      obtain ⟨n0, n1⟩ := pair_new wr (.int .i64 (idAt l k)) (.int .i64 (btAt l k)) 69
      have HBA : Hid (Below w1.heap.size w1 (wr.alloc (.cells #[.int .i64 (idAt l k), .int .i64 (btAt l k)] 69))) := hBA
      clear q hp hBA hB
      go_wp2_with fail
      refine (hin.out (idAt l k) _ (Below.on hbW.out HBA.out)).mono ?_
      rintro e w2 ⟨rfl, hb2⟩
      have m1 : w2.cell? ⟨wr.heap.size, 1, none⟩ = some (.int .i64 (btAt l k)) := (hb2.cell (p := ⟨wr.heap.size, 1, none⟩) (by simp)).trans n1
      have HB2 : Hid (Below w1.heap.size w1 w2) := Below.on HBA.out hb2
      clear hb2 x0 x1 x2 x3 xl n0 n1 c0 c1 HBA
      cases hP : P (idAt l k)
      · have ei : Hid (inTo false P l (k + 1) = inTo false P l k) := (by show _ = _; simp [inTo, hP])
        have ea : Hid (allTo false P l want (k + 1) = false) := (by show _ = _; simp [allTo, hP, hto.out])
        clear hP hto HA
        go_wp2
        go_roundw
        case rel => exact ⟨k + 1, by omega, by go_num, by rw [ei.out], ea, HB2⟩
        case measure => simp [intOf]; omega
      · cases hH : hasZ (btAt l k) want
        · have ei : Hid (inTo false P l (k + 1) = true) := (by show _ = _; simp [inTo, hP])
          have ea : Hid (allTo false P l want (k + 1) = false) := (by show _ = _; simp [allTo, hP, hH, hto.out])
          clear hP hto HA
          go_wp2_with (go_at_call 41; refine (iHas_any _ _ _).mono ?_; rintro e w3 ⟨rfl, rfl⟩)
          go_roundw
          case rel => exact ⟨k + 1, by omega, by go_num, by rw [ei.out]; rfl, ea, HB2⟩
          case measure => simp [intOf]; omega
        · have hy : Hid (allTo false P l want n = true) := HA.out k hlt (by rw [hP, hH]; rfl)
          clear hP hto HA
          go_wp2_with (go_at_call 41; refine (iHas_any _ _ _).mono ?_; rintro e w3 ⟨rfl, rfl⟩)
          go_ret
          exact ⟨ret_intM (by rw [goC, hy.out]; rfl), Below.on hbW.out HB2.out⟩
    · have : k = n := by omega
      subst this
      have hy : Hid (goC (allTo false P l want k) (inTo false P l k) = clsK (inTo false P l k)) := (by show _ = _; rw [goC, hto.out]; rfl)
      go_wp2
      go_ret
      exact ⟨ret_intM hy.out.symm, Below.on hbW.out hB.out⟩
end Go.Proofs.Ytgojbilbkfilgaa
/- The law FnTrim. -/
namespace Go.Proofs.Ytgojbilbkfilgaa
open Go.RowKit Go.PlainAid Go.Deep
set_option linter.unusedVariables false
theorem rowL_cap {w : World} {B : Nat} {t : TypeId} {s : Nat} {a : Option Addr} {m c n : Nat} {xs : List Value} (h : w.ownsRow B t s (.slice a m c) n xs) (hn : m = n) : m ≤ c := by
  obtain ⟨_, ⟨h1, h2⟩ | ⟨g1, cap1, cur1, h1, _, _, hc1, _, _, _⟩⟩ := h
  · omega
  · cases h1; exact hc1
theorem rowL_acs {w : World} {B : Nat} {la : Option Addr} {lc : Nat} {l : List Ac} (h : w.ownsRow B 61 5 (.slice la l.length lc) l.length (pcA l)) : Acs la l.length l w := by
  obtain ⟨a', c', e, ho, _⟩ := ownA_of_row h
  cases e
  exact ho.acs
theorem rowL_keep {w w' : World} {B : Nat} {t : TypeId} {s : Nat} {v : Value} {n : Nat} {xs : List Value} (h : w.ownsRow B t s v n xs) (hb : ∀ k, B ≤ k → w'.heap[k]? = w.heap[k]?) : w'.ownsRow B t s v n xs := rowP_keep h (fun k hk => hb k (rowL_lt h hk).1)
theorem below_drewTr {B : Nat} {w w' : World} (h : Below B w w') : Below B w w'.drew := h.trans ⟨rfl, rfl, rfl, Nat.le_refl _, fun _ _ => rfl⟩
set_option maxRecDepth 100000 in
set_option maxHeartbeats 2000000 in
theorem dDrawNfsTrim_any (a : Option Addr) (len cap : Nat) (g : Nat → Int) (w : World) (hc : Code a len g w.heap.size w) :
    Calls Try.prog 48 #[.slice a len cap] w fun e w' => ∃ (la : Option Addr) (lc : Nat) (l : List Ac), e = .returned (.slice la l.length lc) ∧ w'.ownsRow w.heap.size 61 5 (.slice la l.length lc) l.length (pcA l) ∧ l.length ≤ 50 ∧ Below w.heap.size w w' := by
  go_enter Try.func48, Try.ntmps48
  go_wp2_with fail
  refine (source_any a len cap g _ hc).mono ?_
  rintro e w1 ⟨rfl, hs1, hb1⟩
  go_wp2_with fail
  refine (drList_any a len cap g _ _ hs1).mono ?_
  rintro e w2 ⟨la, lc, l, rfl, hD, hl⟩
  have HD : Hid _ := hD
  have HB : Hid (Below w.heap.size w w2) := HD.out.own.below hb1 (Nat.le_refl _) hb1.size
  have hz := hb1.size
  clear hD hs1 hc hb1
  go_wp2
  go_ret
  exact ⟨la, lc, l, rfl, rowL_from HD.out.row hz, hl, HB.out⟩
set_option maxRecDepth 100000 in
set_option maxHeartbeats 4000000 in
theorem dDrawNfsGives_any (a : Option Addr) (len cap : Nat) (g : Nat → Int) (w : World) (hc : Code a len g w.heap.size w) :
    Calls Try.prog 50 #[.slice a len cap] w fun e w' => ∃ (la : Option Addr) (lc : Nat) (l : List Ac) (ow gr u v : Int) (cl : List Int) (ga : Option Addr) (gc : Nat) (r : Bool), e = .returned (.tuple #[.slice la l.length lc, .int .i64 ow, .int .i64 gr, .agg #[.int .i64 u, .int .i64 v, .slice ga cl.length gc, .bool r]]) ∧ w'.ownsRow w.heap.size 61 5 (.slice la l.length lc) l.length (pcA l) ∧ l.length ≤ 50 ∧ w'.ownsRow w.heap.size 2 1 (.slice ga cl.length gc) cl.length (ivD cl) ∧ cl.length ≤ 9 ∧ Below w.heap.size w w' := by
  have hbA := bel_alloc w (.cells #[.int .i64 0, .int .i64 0, .slice none 0 0, .bool false] 44)
  have eA : (w.alloc (.cells #[.int .i64 0, .int .i64 0, .slice none 0 0, .bool false] 44)).heap.size = w.heap.size + 1 := by simp
  have hT := fr4_new w (.int .i64 0) (.int .i64 0) (.slice none 0 0) (.bool false) 44
  have HC : Hid _ := hc.up hbA
  clear hc
  go_enter Try.func50, Try.ntmps50
  go_wp2_with fail
  refine (source_any a len cap g _ HC.out).mono ?_
  rintro e w1 ⟨rfl, hs1, hb1⟩
  have hT1 := hT.below hb1
  have hB1 : Below w.heap.size w w1 := Below.on hbA hb1
  rw [eA] at hs1
  have hp1 := hs1.pos
  clear hb1 hT HC hbA eA
  go_wp2_with fail
  refine (drList_any a len cap g _ _ hs1).mono ?_
  rintro e w2 ⟨la, lc, l, rfl, hD2, hl⟩
  have hT2 := hT1.keep hD2.own.size (hD2.own.block w.heap.size hT1.lt (by simp))
  clear hT1
  go_wp2_with fail
  refine (drId_any a len cap g _ _ hD2.src).mono ?_
  rintro e w3 ⟨ow, rfl, _, _, hs3, ho3⟩
  have hD3 := hD2.call hs3 ho3
  have hT3 := hT2.keep ho3.size (ho3.block w.heap.size hT2.lt (by simp))
  clear hT2 hD2 hs3 ho3
  go_wp2_with fail
  refine (drId_any a len cap g _ _ hD3.src).mono ?_
  rintro e w4 ⟨gr, rfl, _, _, hs4, ho4⟩
  have hD4 := hD3.call hs4 ho4
  have hT4 := hT3.keep ho4.size (ho4.block w.heap.size hT3.lt (by simp))
  clear hT3 hD3 hs4 ho4
  go_wp2_with fail
  refine (drCred_any a len cap g _ _ hD4.src).mono ?_
  rintro e w5 ⟨u, v, cl, x, r, rfl, hcl, hor, hs5, ho5⟩
  obtain ⟨ga, gc, hx⟩ := row_shapeD hor
  subst hx
  have hD5 := hD4.call hs5 ho5
  have hT5 := hT4.keep ho5.size (ho5.block w.heap.size hT4.lt (by simp))
  have hz4 := hD4.own.size
  have HB5 : Hid (Below w.heap.size w w5) := hD5.own.below hB1 (by omega) hB1.size
  have HR5 : Hid (w5.ownsRow w1.heap.size 61 5 (.slice la l.length lc) l.length (pcA l)) := hD5.row
  have HO5 : Hid (w5.ownsRow w1.heap.size 2 1 (.slice ga cl.length gc) cl.length (ivD cl)) := row_fromD hor hz4
  have HF : Hid (Fr4 ((((w5.setCell ⟨w.heap.size, 0, none⟩ (.int .i64 u)).setCell ⟨w.heap.size, 1, none⟩ (.int .i64 v)).setCell ⟨w.heap.size, 2, none⟩ (.slice ga cl.length gc)).setCell ⟨w.heap.size, 3, none⟩ (.bool r)) w.heap.size (.int .i64 u) (.int .i64 v) (.slice ga cl.length gc) (.bool r)) := hT5.sets _ _ _ _
  obtain ⟨xl, x0, x1, x2, x3, xf⟩ := hT5
  clear hD4 hD5 hT4 hor hs5 ho5 hs1 hB1
  go_wp2
  refine bodyPost_ret (v := .tuple #[.slice la l.length lc, .int .i64 ow, .int .i64 gr, .agg #[.int .i64 u, .int .i64 v, .slice ga cl.length gc, .bool r]]) (by
    obtain ⟨yl, y0, y1, y2, y3, yf⟩ := HF.out
    clear x0 x1 x2 x3 xf
    generalize World.setCell _ _ _ = wf at y0 y1 y2 y3 ⊢
    simp [results, Try.results50, go_sem, y0, y1, y2, y3]) rfl ⟨la, lc, l, ow, gr, u, v, cl, ga, gc, r, rfl, ?_, hl, ?_, hcl, ?_⟩
  · refine rowL_from ?_ (show w.heap.size ≤ w1.heap.size by omega)
    iterate 4 (refine rowL_keep ?_ (fun k hk => set_blockD _ _ _ k _ (by omega)))
    exact HR5.out
  · refine row_fromD ?_ (show w.heap.size ≤ w1.heap.size by omega)
    iterate 4 (refine row_keepD ?_ (fun k hk _ => set_blockD _ _ _ k _ (by omega)))
    exact HO5.out
  · iterate 4 (refine setD ?_ (Nat.le_refl _))
    exact HB5.out
set_option maxRecDepth 100000 in
theorem trim_long0 (a0 : Option Addr) (len0 cap0 : Nat) (a1 : Option Addr) (len1 cap1 : Nat) (h0 : 1048576 < (len0 : Int)) (w : World) :
    Calls Try.prog 5 #[.slice a0 len0 cap0, .slice a1 len1 cap1] w fun e w' => e = .returned (.bool true) ∧ Below w.heap.size w w' := by
  go_enter Try.func5, Try.ntmps5
  go_wp2
  go_ret
  exact ⟨rfl, Below.refl _ _⟩
set_option maxRecDepth 100000 in
theorem trim_long1 (a0 : Option Addr) (len0 cap0 : Nat) (a1 : Option Addr) (len1 cap1 : Nat) (d0 : decide (1048576 < (len0 : Int)) = false) (h1 : 1048576 < (len1 : Int)) (w : World) :
    Calls Try.prog 5 #[.slice a0 len0 cap0, .slice a1 len1 cap1] w fun e w' => e = .returned (.bool true) ∧ Below w.heap.size w w' := by
  go_enter Try.func5, Try.ntmps5
  go_wp2
  go_ret
  exact ⟨rfl, Below.refl _ _⟩
set_option maxRecDepth 100000 in
set_option maxHeartbeats 8000000 in
theorem trim_short (a b : Option Addr) (la lb ca cb : Nat) (f g : Nat → Int) (w : World) (hc : Code a la f w.heap.size w) (hd : Code b lb g w.heap.size w) :
    Calls Try.prog 5 #[.slice a la ca, .slice b lb cb] w fun e w' => e = .returned (.bool true) ∧ Below w.heap.size w w' := by
  have h1 := hc.1
  have h2 := hd.1
  have n1 : ¬ (1048576 : Int) < (la : Int) := by omega
  have n2 : ¬ (1048576 : Int) < (lb : Int) := by omega
  have HC : Hid (Code a la f w.heap.size w) := hc
  have HD : Hid (Code b lb g w.heap.size w) := hd
  clear hc hd h1 h2
  go_enter Try.func5, Try.ntmps5
  go_wp2_with fail
  refine (dDrawNfsTrim_any a la ca f _ HC.out).mono ?_
  rintro e w1 ⟨xa, xc, l, rfl, hrow, hl, hb1⟩
  have hcap := rowL_cap hrow rfl
  have HA1 : Hid (Acs xa l.length l w1) := rowL_acs hrow
  have HB1 : Hid (Below w.heap.size w w1) := hb1
  clear hrow hb1 HC
  go_wp2_with fail
  refine (iNfsTrim_anyR xa _ xc l hcap _ HA1.out).mono ?_
  rintro e w2 ⟨ta, tc, rfl, htc, hN⟩
  have HA2 : Hid (Acs xa l.length l w2) := HA1.out.below hN.bel
  have HB2 : Hid (Below w.heap.size w w2) := Below.on HB1.out hN.bel
  have HT2 : Hid (Acs ta (trimL l).length (trimL l) w2) := hN.own.acs
  have htl := trimL_len l
  clear hN HA1 HB1
  go_wp2_with fail
  refine (dDrawNfsGives_any b lb cb g _ (HD.out.up HB2.out)).mono ?_
  rintro e w3 ⟨za, zc, z, ow, gr, u, v, cl, ga, gc, r, rfl, _, _, hor, hcl, hb3⟩
  have hb4 := bel_alloc w3 (.cells #[.int .i64 u, .int .i64 v, .slice ga cl.length gc, .bool r] 44)
  have HI4 : Hid (Ints ga cl.length (atD cl) (w3.alloc (.cells #[.int .i64 u, .int .i64 v, .slice ga cl.length gc, .bool r] 44))) := (own_intsD hor).below hb4
  have HX4 : Hid (Box4 (w3.alloc (.cells #[.int .i64 u, .int .i64 v, .slice ga cl.length gc, .bool r] 44)) w3.heap.size (.int .i64 u) (.int .i64 v) (.slice ga cl.length gc) (.bool r)) := box4_new w3 _ _ _ _ _
  have HA4 : Hid (Acs xa l.length l (w3.alloc (.cells #[.int .i64 u, .int .i64 v, .slice ga cl.length gc, .bool r] 44))) := (HA2.out.below hb3).below hb4
  have HB4 : Hid (Below w.heap.size w (w3.alloc (.cells #[.int .i64 u, .int .i64 v, .slice ga cl.length gc, .bool r] 44))) := Below.on (Below.on HB2.out hb3) hb4
  have HT4 : Hid (Acs ta (trimL l).length (trimL l) (w3.alloc (.cells #[.int .i64 u, .int .i64 v, .slice ga cl.length gc, .bool r] 44))) := (HT2.out.below hb3).below hb4
  clear hor hb3 hb4 HA2 HB2 HT2 HD
  go_upto_region 6 with fail
  generalize w3.alloc (.cells #[.int .i64 u, .int .i64 v, .slice ga cl.length gc, .bool r] 44) = w4 at HI4 HX4 HA4 HB4 HT4 ⊢
  generalize w3.heap.size = C at HX4 ⊢
  go_wp2_with fail
  refine (sNfsTrim_any xa _ xc l (by omega) _ HA4.out).mono ?_
  rintro e w5 ⟨sa, sc, rfl, hN⟩
  have HB5 : Hid (Below w4.heap.size w4 w5) := hN.bel
  have HS5 : Hid (Acs sa (trimL l).length (trimL l) w5) := hN.own.acs
  clear hN
  go_wp2_with fail
  refine (lwAces_any ta sa _ tc sc (trimL l) (by omega) _ (HT4.out.below HB5.out) HS5.out).mono ?_
  rintro e w6 ⟨rfl, hb6⟩
  have HB6 : Hid (Below w4.heap.size w4 w6) := Below.on HB5.out hb6
  clear hb6 HS5 HB5
  go_wp2_with fail
  refine (sNfsRight_any xa _ xc l (by omega) _ (HA4.out.below HB6.out)).mono ?_
  rintro e w7 ⟨rfl, hb7⟩
  have HB7 : Hid (Below w4.heap.size w4 w7) := Below.on HB6.out hb7
  clear hb7 HB6
  cases hR : acesB l
  · go_wp2_with fail
    refine (sNfsTrim_any xa _ xc l (by omega) _ (HA4.out.below HB7.out)).mono ?_
    rintro e w8 ⟨sa, sc, rfl, hN⟩
    have HB8 : Hid (Below w4.heap.size w4 w8) := Below.on HB7.out hN.bel
    have HS8 : Hid (Acs sa (trimL l).length (trimL l) w8) := hN.own.acs
    clear hN
    go_wp2_with fail
    refine (lwAces_any ta sa _ tc sc (trimL l) (by omega) _ (HT4.out.below HB8.out) HS8.out).mono ?_
    rintro e w9 ⟨rfl, hb9⟩
    have HB9 : Hid (Below w4.heap.size w4 w9) := Below.on HB8.out hb9
    clear hb9
    go_wp2
    go_ret
    exact ⟨rfl, Below.on HB4.out HB9.out⟩
  · have HGT : Hid (∀ w', Below w4.heap.size w4 w' → Calls Try.prog 54 #[.slice ta (trimL l).length tc, .int .i64 ow, .int .i64 gr, .agg #[.int .i64 u, .int .i64 v, .slice ga cl.length gc, .bool r]] w' fun e w'' => e = .returned (.int .i64 (givesI l ow gr u v cl.length (atD cl))) ∧ Below w'.heap.size w' w'') := (fun w' hb => by
      have h := iNfsGives_any ta _ tc (trimL l) ow gr u v ga cl.length gc r (atD cl) w' (HT4.out.below hb) (HI4.out.below hb)
      rw [trimL_gives hR] at h
      exact h)
    have HGL : Hid (∀ w', Below w4.heap.size w4 w' → Calls Try.prog 54 #[.slice xa l.length xc, .int .i64 ow, .int .i64 gr, .agg #[.int .i64 u, .int .i64 v, .slice ga cl.length gc, .bool r]] w' fun e w'' => e = .returned (.int .i64 (givesI l ow gr u v cl.length (atD cl))) ∧ Below w'.heap.size w' w'') := (fun w' hb => iNfsGives_any xa _ xc l ow gr u v ga cl.length gc r (atD cl) w' (HA4.out.below hb) (HI4.out.below hb))
    have HTT : Hid (∀ w', Below w4.heap.size w4 w' → Calls Try.prog 49 #[.slice ta (trimL l).length tc] w' fun e w'' => ∃ a2 c2, e = .returned (.slice a2 (trimL l).length c2) ∧ Acs a2 (trimL l).length (trimL l) w'' ∧ Below w'.heap.size w' w'') := (fun w' hb => by
      have h := iNfsTrim_any ta _ tc (trimL l) htc w' (HT4.out.below hb)
      rw [trimL_again hR] at h
      exact h.mono (fun e w'' ⟨a2, c2, he, hN⟩ => ⟨a2, c2, he, hN.own.acs, hN.bel⟩))
    have HLW : Hid (∀ (a2 : Option Addr) (c2 : Nat) w', Acs a2 (trimL l).length (trimL l) w' → Below w4.heap.size w4 w' → Calls Try.prog 51 #[.slice a2 (trimL l).length c2, .slice ta (trimL l).length tc] w' fun e w'' => e = .returned (.bool true) ∧ Below w'.heap.size w' w'') := (fun a2 c2 w' h2 hb => lwAces_any a2 ta _ c2 tc (trimL l) (by omega) w' h2 (HT4.out.below hb))
    have hle := trimL_le (l := l)
    have hle' : ((trimL l).length : Int) ≤ (l.length : Int) := by omega
    have HXX : Hid (Box4 w4 C (.int .i64 u) (.int .i64 v) (.slice ga cl.length gc) (.bool r)) := HX4
    obtain ⟨cx, c0, c1, c2, c3⟩ := HX4.out.below HB7.out
    clear hR HA4 HI4 HT4 hl htc htl hcap HX4
    generalize givesI l ow gr u v cl.length (atD cl) = gv at HGT HGL
    have hgg : (gv == gv) = true := by simp
    generalize trimL l = tl at HGT HTT HLW hle hle' ⊢
    go_wp2_with fail
    go_region_held3 (fun w' => w'.cell? ⟨C, 0, none⟩ = some (.int .i64 u) ∧ w'.cell? ⟨C, 1, none⟩ = some (.int .i64 v) ∧ w'.cell? ⟨C, 2, none⟩ = some (.slice ga cl.length gc) ∧ w'.cell? ⟨C, 3, none⟩ = some (.bool r)) (go_keep)
      (first
        | (go_at_call 51; refine Calls.mono (HLW.out a2 k2 _ HP2.out hBc.out) ?_; rintro e wd ⟨rfl, hbd⟩; have hBd : Hid (Below w4.heap.size w4 wd) := Below.on hBc.out hbd; obtain ⟨_, yd0, yd1, yd2, yd3⟩ := HXX.out.below hBd.out)
        | (go_at_call 49; refine Calls.mono (HTT.out _ hBb.out) ?_; rintro e wc ⟨a2, k2, rfl, hp2, hbc⟩; have HP2 : Hid (Acs a2 tl.length tl wc) := hp2; have hBc : Hid (Below w4.heap.size w4 wc) := Below.on hBb.out hbc; obtain ⟨_, yc0, yc1, yc2, yc3⟩ := HXX.out.below hBc.out)
        | (go_at_call 54; have hqa := hBa.out; refine Calls.mono (HGL.out _ hqa) ?_; rintro e wb ⟨rfl, hbb⟩; have hBb : Hid (Below w4.heap.size w4 wb) := Below.on hBa.out hbb; obtain ⟨_, yb0, yb1, yb2, yb3⟩ := HXX.out.below hBb.out)
        | (go_at_call 54; refine Calls.mono (HGT.out _ ?hs) ?_; (case hs => (first | exact HB7.out | exact below_drewTr HB7.out)); rintro e wa ⟨rfl, hba⟩; have hBa : Hid (Below w4.heap.size w4 wa) := Below.on (below_drewTr HB7.out) ⟨hba.os, hba.tape, hba.output, hba.size, hba.block⟩; obtain ⟨_, ya0, ya1, ya2, ya3⟩ := HXX.out.below hBa.out))
    go_wp2
    go_ret
    exact ⟨rfl, Below.on HB4.out hBd.out⟩
end Go.Proofs.Ytgojbilbkfilgaa
