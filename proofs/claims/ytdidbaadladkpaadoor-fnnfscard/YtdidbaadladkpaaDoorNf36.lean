/- Laid together: HasWalks, Which, NfsDr. -/
import Derived.Test.YtdidbaadladkpaaDoorNf4
import Derived.Test.YtdidbaadladkpaaDoorNf11
import Derived.Test.YtdidbaadladkpaaDoorNf13
import Derived.Test.YtdidbaadladkpaaDoorNf35
import Derived.Test.YtdidbaadladkpaaDoorNf32
import Derived.Test.YtdidbaadladkpaaDoorNf33
import Derived.Deep.RegionHeld3
/- The contracts of Has: the program's and the specification's both answer whether each number of the one set is in the other. -/
namespace Go.Proofs.YtdidbaadladkpaaDoor
open Go.RowKit Go.PlainAid
set_option linter.unusedVariables false
set_option maxHeartbeats 1000000 in
theorem sl02Has_any (h v : Nat) (h1 : h ≤ 65535) (h2 : v ≤ 65535) (w : World) :
    Calls Tryd.prog 55 #[.int .i64 h, .int .i64 v] w fun e w' => e = .returned (.bool (hasB h v)) ∧ w' = w := by
  go_enter Tryd.func55, Tryd.ntmps55
  go_wp2
  go_loop [0, 1] (fun x y => ∃ a b : Nat, a ≤ 65535 ∧ b ≤ 65535 ∧ x = .int .i64 a ∧ y = .int .i64 b ∧ Hid (hasB a b = hasB h v)) (fun _ y => (intOf y).toNat)
  case atStart => exact ⟨h, v, h1, h2, rfl, rfl, rfl⟩
  case round =>
    obtain ⟨a, b, ha, hb, rfl, rfl, he⟩ := hrel
    by_cases hz : b = 0
    · subst hz
      have hy : Hid (hasB h v = true) := (he.out.symm.trans (hasB_zero a))
      go_wp2
      go_ret
      exact ⟨ret_boolW hy.out.symm, rfl⟩
    · have hp : 0 < (b : Int) := by omega
      clear hz
      by_cases hb1 : b % 2 = 1
      · have q1 : (b : Int) % 2 = 1 := by omega
        by_cases ha0 : a % 2 = 0
        · have hy : Hid (hasB h v = false) := (he.out.symm.trans (hasB_no ha0 hb1))
          have q2 : (a : Int) % 2 = 0 := by omega
          clear hb1 ha0
          go_wp2
          go_ret
          exact ⟨ret_boolW hy.out.symm, rfl⟩
        · have hy : Hid (hasB (a / 2) (b / 2) = hasB h v) := ((hasB_half (fun e => ha0 e.1)).symm.trans he.out)
          have q2 : (a : Int) % 2 = 1 := by omega
          clear hb1 ha0
          go_wp2
          go_round
          case rel => exact ⟨a / 2, b / 2, by omega, by omega, by go_num, by go_num, hy⟩
          case measure => simp [intOf]; omega
      · have hy : Hid (hasB (a / 2) (b / 2) = hasB h v) := ((hasB_half (fun e => hb1 e.2)).symm.trans he.out)
        have q1 : (b : Int) % 2 = 0 := by omega
        clear hb1
        go_wp2
        go_round
        case rel => exact ⟨a / 2, b / 2, by omega, by omega, by go_num, by go_num, hy⟩
        case measure => simp [intOf]; omega
theorem hasZ_def (h v : Int) (h0 : inR 0 65535 h = true) (h1 : inR 0 65535 v = true) : hasZ h v = hasB h.toNat v.toNat := by
  rw [inR_iff] at h0 h1
  simp [hasZ, h0, h1]
theorem and_i64 (a b : Nat) (h1 : a ≤ 65535) (h2 : b ≤ 65535) : bits .and .i64 (a : Int) (b : Int) = ((a &&& b : Nat) : Int) := i64_and_nat a b (by omega) (by omega)
set_option maxHeartbeats 1000000 in
theorem iHas_any (h v : Int) (w : World) :
    Calls Tryd.prog 32 #[.int .i64 h, .int .i64 v] w fun e w' => e = .returned (.bool (hasZ h v)) ∧ w' = w := by
  cases e1 : inR 0 65535 h
  · have hy : Hid (hasZ h v = false) := hasZ_off (fun e => by rw [inR_yes e.1 e.2] at e1; cases e1)
    go_enter Tryd.func32, Tryd.ntmps32
    go_wp2_with (go_at_call 62; refine (isSet_any _ _).mono ?_; rintro e w' ⟨rfl, rfl⟩)
    go_ret
    exact ⟨ret_boolW hy.out.symm, rfl⟩
  · cases e2 : inR 0 65535 v
    · have hy : Hid (hasZ h v = false) := hasZ_off2 (fun e => by rw [inR_yes e.1 e.2] at e2; cases e2)
      go_enter Tryd.func32, Tryd.ntmps32
      go_wp2_with (go_at_call 62; refine (isSet_any _ _).mono ?_; rintro e w' ⟨rfl, rfl⟩)
      go_ret
      exact ⟨ret_boolW hy.out.symm, rfl⟩
    · have hy : Hid (hasZ h v = hasB h.toNat v.toNat) := hasZ_def h v e1 e2
      obtain ⟨a, rfl⟩ := Int.eq_ofNat_of_zero_le (inR_iff.mp e1).1
      obtain ⟨b, rfl⟩ := Int.eq_ofNat_of_zero_le (inR_iff.mp e2).1
      have hab := and_i64 a b (by have := (inR_iff.mp e1).2; omega) (by have := (inR_iff.mp e2).2; omega)
      have hz : Hid ((((a &&& b : Nat) : Int) == (b : Int)) = hasB a b) := (show (((a &&& b : Nat) : Int) == (b : Int)) = hasB a b by unfold hasB; rw [Bool.eq_iff_iff]; simp only [beq_iff_eq]; omega)
      go_enter Tryd.func32, Tryd.ntmps32
      go_wp2_with (go_at_call 62; refine (isSet_any _ _).mono ?_; rintro e w' ⟨rfl, rfl⟩)
      go_ret
      exact ⟨ret_boolW (hz.out.trans hy.out.symm), rfl⟩
end Go.Proofs.YtdidbaadladkpaaDoor
/- impl.groupOrOther: by the group, and the named groups, or as others. -/
namespace Go.Proofs.YtdidbaadladkpaaDoor
open Go.RowKit Go.PlainAid Go.Deep
set_option linter.unusedVariables false
theorem prs_own1 (w : World) (x y : Int) (t : TypeId) : Prs (some ⟨w.heap.size, 0, none⟩) 1 [(x, y)] (w.alloc (.cells #[.int .i64 x, .int .i64 y] t)) := by
  obtain ⟨h0, h1⟩ := pair_new w (.int .i64 x) (.int .i64 y) t
  refine ⟨rfl, fun _ => ⟨w.heap.size, 0, rfl, by simp, fun i hi => ?_⟩⟩
  have : i = 0 := by omega
  subst this
  exact ⟨h0, h1⟩
/-- Four cells of a block. -/
structure Box4 (w : World) (B : Nat) (v0 v1 v2 v3 : Value) : Prop where
  lt : B < w.heap.size
  c0 : w.cell? ⟨B, 0, none⟩ = some v0
  c1 : w.cell? ⟨B, 1, none⟩ = some v1
  c2 : w.cell? ⟨B, 2, none⟩ = some v2
  c3 : w.cell? ⟨B, 3, none⟩ = some v3
theorem Box4.below {w w' : World} {B : Nat} {v0 v1 v2 v3 : Value} (h : Box4 w B v0 v1 v2 v3) (hb : Below w.heap.size w w') : Box4 w' B v0 v1 v2 v3 :=
  ⟨Nat.lt_of_lt_of_le h.lt hb.size, (hb.cell (p := ⟨B, 0, none⟩) h.lt).trans h.c0, (hb.cell (p := ⟨B, 1, none⟩) h.lt).trans h.c1, (hb.cell (p := ⟨B, 2, none⟩) h.lt).trans h.c2, (hb.cell (p := ⟨B, 3, none⟩) h.lt).trans h.c3⟩
theorem box4_new (w : World) (v0 v1 v2 v3 : Value) (t : TypeId) : Box4 (w.alloc (.cells #[v0, v1, v2, v3] t)) w.heap.size v0 v1 v2 v3 := by
  have hb : (w.alloc (.cells #[v0, v1, v2, v3] t)).heap[w.heap.size]? = some (.cells #[v0, v1, v2, v3] t) := by
    rw [World.alloc]
    exact Array.getElem?_push_size
  refine ⟨by simp, ?_, ?_, ?_, ?_⟩ <;> (simp only [World.cell?, hb]; rfl)
/-- Is one of the first k asked for, and has one of these all of want? -/
def inTo (x : Bool) (P : Int → Bool) (l : List (Int × Int)) : Nat → Bool
  | 0 => x
  | k + 1 => inTo x P l k || P (idAt l k)
def allTo (x : Bool) (P : Int → Bool) (l : List (Int × Int)) (want : Int) : Nat → Bool
  | 0 => x
  | k + 1 => allTo x P l want k || (P (idAt l k) && hasZ (btAt l k) want)
theorem inTo_cons (P : Int → Bool) (x y : Int) (l : List (Int × Int)) : ∀ k, inTo false P ((x, y) :: l) (k + 1) = inTo (P x) P l k := by
  intro k
  induction k with
  | zero => simp [inTo, idAt]
  | succ k ih =>
    have e : idAt ((x, y) :: l) (k + 1) = idAt l k := rfl
    show (inTo false P ((x, y) :: l) (k + 1) || P (idAt ((x, y) :: l) (k + 1))) = (inTo (P x) P l k || P (idAt l k))
    rw [ih, e]
theorem allTo_cons (P : Int → Bool) (x y : Int) (l : List (Int × Int)) (want : Int) : ∀ k, allTo false P ((x, y) :: l) want (k + 1) = allTo (P x && hasZ y want) P l want k := by
  intro k
  induction k with
  | zero => simp [allTo, idAt, btAt]
  | succ k ih =>
    have e : idAt ((x, y) :: l) (k + 1) = idAt l k := rfl
    have e2 : btAt ((x, y) :: l) (k + 1) = btAt l k := rfl
    show (allTo false P ((x, y) :: l) want (k + 1) || (P (idAt ((x, y) :: l) (k + 1)) && hasZ (btAt ((x, y) :: l) (k + 1)) want)) = (allTo (P x && hasZ y want) P l want k || (P (idAt l k) && hasZ (btAt l k) want))
    rw [ih, e, e2]
theorem allTo_hit {P : Int → Bool} {l : List (Int × Int)} {want : Int} {k n : Nat} (h : k < n) (hk : (P (idAt l k) && hasZ (btAt l k) want) = true) : allTo false P l want n = true := by
  induction n with
  | zero => omega
  | succ n ih =>
    by_cases e : k = n
    · subst e; simp [allTo, hk]
    · simp [allTo, ih (by omega)]
/-- 3, 4 or 5. -/
def goC (all inn : Bool) : Int := if all then 3 else if inn then 4 else 5
def clsK (inn : Bool) : Int := if inn then 4 else 5
end Go.Proofs.YtdidbaadladkpaaDoor
/- The draws of the laws on lists in order: what DrawNfsGives, DrawNfsChmod, DrawNfsMode, DrawAceAdd, DrawAceDrop, DrawAceRight, DrawNfsBits, DrawNfsRwx, DrawNfsMay answer. -/
namespace Go.Proofs.YtdidbaadladkpaaDoor
open Go.RowKit Go.PlainAid Go.Deep
set_option linter.unusedVariables false
theorem rowL_cap {w : World} {B : Nat} {t : TypeId} {s : Nat} {a : Option Addr} {m c n : Nat} {xs : List Value} (h : w.ownsRow B t s (.slice a m c) n xs) (hn : m = n) : m ≤ c := by
  obtain ⟨_, ⟨h1, h2⟩ | ⟨g1, cap1, cur1, h1, _, _, hc1, _, _, _⟩⟩ := h
  · omega
  · cases h1; exact hc1
theorem rowL_acs {w : World} {B : Nat} {la : Option Addr} {lc : Nat} {l : List Ac} (h : w.ownsRow B 33 5 (.slice la l.length lc) l.length (pcA l)) : Acs la l.length l w := by
  obtain ⟨a', c', e, ho, _⟩ := ownA_of_row h
  cases e
  exact ho.acs
theorem rowL_keep {w w' : World} {B : Nat} {t : TypeId} {s : Nat} {v : Value} {n : Nat} {xs : List Value} (h : w.ownsRow B t s v n xs) (hb : ∀ k, B ≤ k → w'.heap[k]? = w.heap[k]?) : w'.ownsRow B t s v n xs := rowP_keep h (fun k hk => hb k (rowL_lt h hk).1)
set_option maxRecDepth 100000 in
set_option maxHeartbeats 4000000 in
theorem dDrawNfsGives_any (a : Option Addr) (len cap : Nat) (g : Nat → Int) (w : World) (hc : Code a len g w.heap.size w) :
    Calls Tryd.prog 5 #[.slice a len cap] w fun e w' => ∃ (la : Option Addr) (lc : Nat) (l : List Ac) (ow gr u v : Int) (cl : List Int) (ga : Option Addr) (gc : Nat) (r : Bool), e = .returned (.tuple #[.slice la l.length lc, .int .i64 ow, .int .i64 gr, .agg #[.int .i64 u, .int .i64 v, .slice ga cl.length gc, .bool r]]) ∧ w'.ownsRow w.heap.size 33 5 (.slice la l.length lc) l.length (pcA l) ∧ l.length ≤ 50 ∧ w'.ownsRow w.heap.size 2 1 (.slice ga cl.length gc) cl.length (ivD cl) ∧ cl.length ≤ 9 ∧ Below w.heap.size w w' ∧ ∃ Ad, la = some Ad := by
  have hbA := bel_alloc w (.cells #[.int .i64 0, .int .i64 0, .slice none 0 0, .bool false] 26)
  have eA : (w.alloc (.cells #[.int .i64 0, .int .i64 0, .slice none 0 0, .bool false] 26)).heap.size = w.heap.size + 1 := by simp
  have hT := fr4_new w (.int .i64 0) (.int .i64 0) (.slice none 0 0) (.bool false) 26
  have HC : Hid _ := hc.up hbA
  clear hc
  go_enter Tryd.func5, Tryd.ntmps5
  go_wp2_with fail
  refine (source_any a len cap g _ HC.out).mono ?_
  rintro e w1 ⟨rfl, hs1, hb1⟩
  have hT1 := hT.below hb1
  have hB1 : Below w.heap.size w w1 := Below.on hbA hb1
  rw [eA] at hs1
  have hp1 := hs1.pos
  clear hb1 hT HC hbA eA
  go_wp2_with fail
  refine (drList_any a len cap g _ _ hs1).mono ?_
  rintro e w2 ⟨la, lc, l, rfl, hD2, hl⟩
  have hT2 := hT1.keep hD2.own.size (hD2.own.block w.heap.size hT1.lt (by simp))
  clear hT1
  go_wp2_with fail
  refine (drId_any a len cap g _ _ hD2.src).mono ?_
  rintro e w3 ⟨ow, rfl, _, _, hs3, ho3⟩
  have hD3 := hD2.call hs3 ho3
  have hT3 := hT2.keep ho3.size (ho3.block w.heap.size hT2.lt (by simp))
  clear hT2 hD2 hs3 ho3
  go_wp2_with fail
  refine (drId_any a len cap g _ _ hD3.src).mono ?_
  rintro e w4 ⟨gr, rfl, _, _, hs4, ho4⟩
  have hD4 := hD3.call hs4 ho4
  have hT4 := hT3.keep ho4.size (ho4.block w.heap.size hT3.lt (by simp))
  clear hT3 hD3 hs4 ho4
  go_wp2_with fail
  refine (drCred_any a len cap g _ _ hD4.src).mono ?_
  rintro e w5 ⟨u, v, cl, x, r, rfl, hcl, hor, hs5, ho5⟩
  obtain ⟨ga, gc, hx⟩ := row_shapeD hor
  subst hx
  have hD5 := hD4.call hs5 ho5
  have hT5 := hT4.keep ho5.size (ho5.block w.heap.size hT4.lt (by simp))
  have hz4 := hD4.own.size
  have HB5 : Hid (Below w.heap.size w w5) := hD5.own.below hB1 (by omega) hB1.size
  have HR5 : Hid (w5.ownsRow w1.heap.size 33 5 (.slice la l.length lc) l.length (pcA l)) := hD5.row
  have hsm := hD5.sm
  have HO5 : Hid (w5.ownsRow w1.heap.size 2 1 (.slice ga cl.length gc) cl.length (ivD cl)) := row_fromD hor hz4
  have HF : Hid (Fr4 ((((w5.setCell ⟨w.heap.size, 0, none⟩ (.int .i64 u)).setCell ⟨w.heap.size, 1, none⟩ (.int .i64 v)).setCell ⟨w.heap.size, 2, none⟩ (.slice ga cl.length gc)).setCell ⟨w.heap.size, 3, none⟩ (.bool r)) w.heap.size (.int .i64 u) (.int .i64 v) (.slice ga cl.length gc) (.bool r)) := hT5.sets _ _ _ _
  obtain ⟨xl, x0, x1, x2, x3, xf⟩ := hT5
  clear hD4 hD5 hT4 hor hs5 ho5 hs1 hB1
  go_wp2
  refine bodyPost_ret (v := .tuple #[.slice la l.length lc, .int .i64 ow, .int .i64 gr, .agg #[.int .i64 u, .int .i64 v, .slice ga cl.length gc, .bool r]]) (by
    obtain ⟨yl, y0, y1, y2, y3, yf⟩ := HF.out
    clear x0 x1 x2 x3 xf
    generalize World.setCell _ _ _ = wf at y0 y1 y2 y3 ⊢
    simp [results, Tryd.results5, go_sem, y0, y1, y2, y3]) rfl ⟨la, lc, l, ow, gr, u, v, cl, ga, gc, r, rfl, ?_, hl, ?_, hcl, ?_, hsm⟩
  · refine rowL_from ?_ (show w.heap.size ≤ w1.heap.size by omega)
    iterate 4 (refine rowL_keep ?_ (fun k hk => set_blockD _ _ _ k _ (by omega)))
    exact HR5.out
  · refine row_fromD ?_ (show w.heap.size ≤ w1.heap.size by omega)
    iterate 4 (refine row_keepD ?_ (fun k hk _ => set_blockD _ _ _ k _ (by omega)))
    exact HO5.out
  · iterate 4 (refine setD ?_ (Nat.le_refl _))
    exact HB5.out
set_option maxRecDepth 100000 in
set_option maxHeartbeats 2000000 in
theorem dDrawNfsChmod_any (a : Option Addr) (len cap : Nat) (g : Nat → Int) (w : World) (hc : Code a len g w.heap.size w) :
    Calls Tryd.prog 33 #[.slice a len cap] w fun e w' => ∃ (la : Option Addr) (lc : Nat) (l : List Ac) (n : Int), e = .returned (.tuple #[.slice la l.length lc, .int .i64 n]) ∧ l.length ≤ lc ∧ Acs la l.length l w' ∧ l.length ≤ 50 ∧ -1 ≤ n ∧ n ≤ 4096 ∧ Below w.heap.size w w' := by
  go_enter Tryd.func33, Tryd.ntmps33
  go_wp2_with fail
  refine (source_any a len cap g _ hc).mono ?_
  rintro e w1 ⟨rfl, hs1, hb1⟩
  go_wp2_with fail
  refine (drList_any a len cap g _ _ hs1).mono ?_
  rintro e w2 ⟨la, lc, l, rfl, hD, hl⟩
  go_wp2_with fail
  refine (drMode_any a len cap g _ _ hD.src).mono ?_
  rintro e w3 ⟨n, rfl, n0, n1, hs3, ho3⟩
  have HD3 : Hid (LD a len cap g w.heap.size w1 w3 la lc l) := hD.call hs3 ho3
  have HB : Hid (Below w.heap.size w w3) := HD3.out.own.below hb1 (Nat.le_refl _) hb1.size
  clear hD hs3 ho3 hs1 hc
  go_wp2
  refine bodyPost_ret (v := .tuple #[.slice la l.length lc, .int .i64 n]) (by simp [results, Tryd.results33, go_sem]) rfl ?_
  exact ⟨la, lc, l, n, rfl, rowL_cap HD3.out.row rfl, rowL_acs HD3.out.row, hl, n0, n1, HB.out⟩
set_option maxRecDepth 100000 in
set_option maxHeartbeats 2000000 in
theorem dDrawNfsMode_any (a : Option Addr) (len cap : Nat) (g : Nat → Int) (w : World) (hc : Code a len g w.heap.size w) :
    Calls Tryd.prog 35 #[.slice a len cap] w fun e w' => ∃ (la : Option Addr) (lc : Nat) (l : List Ac), e = .returned (.slice la l.length lc) ∧ Acs la l.length l w' ∧ l.length ≤ 50 ∧ Below w.heap.size w w' := by
  go_enter Tryd.func35, Tryd.ntmps35
  go_wp2_with fail
  refine (source_any a len cap g _ hc).mono ?_
  rintro e w1 ⟨rfl, hs1, hb1⟩
  go_wp2_with fail
  refine (drList_any a len cap g _ _ hs1).mono ?_
  rintro e w2 ⟨la, lc, l, rfl, hD, hl⟩
  have HD : Hid _ := hD
  have HB : Hid (Below w.heap.size w w2) := HD.out.own.below hb1 (Nat.le_refl _) hb1.size
  clear hD hs1 hc hb1
  go_wp2
  go_ret
  exact ⟨la, lc, l, rfl, rowL_acs HD.out.row, hl, HB.out⟩
set_option maxRecDepth 100000 in
set_option maxHeartbeats 2000000 in
theorem dDrawNfsBits_any (a : Option Addr) (len cap : Nat) (g : Nat → Int) (w : World) (hc : Code a len g w.heap.size w) :
    Calls Tryd.prog 12 #[.slice a len cap] w fun e w' => ∃ n : Int, e = .returned (.int .i64 n) ∧ -1 ≤ n ∧ n ≤ 8 ∧ Below w.heap.size w w' := by
  go_enter Tryd.func12, Tryd.ntmps12
  go_wp2_with fail
  refine (source_any a len cap g _ hc).mono ?_
  rintro e w1 ⟨rfl, hs1, hb1⟩
  go_wp2_with fail
  refine (drBits_any a len cap g _ _ hs1).mono ?_
  rintro e w2 ⟨n, rfl, n0, n1, hs2, ho2⟩
  have HB : Hid (Below w.heap.size w w2) := ho2.below hb1 (Nat.le_refl _) hb1.size
  clear hs2 ho2 hs1 hc hb1
  go_wp2
  go_ret
  exact ⟨n, rfl, n0, n1, HB.out⟩
set_option maxRecDepth 100000 in
set_option maxHeartbeats 4000000 in
theorem dDrawAceDrop_any (a : Option Addr) (len cap : Nat) (g : Nat → Int) (w : World) (hc : Code a len g w.heap.size w) :
    Calls Tryd.prog 10 #[.slice a len cap] w fun e w' => ∃ (la : Option Addr) (lc : Nat) (l : List Ac) (n : Int), e = .returned (.tuple #[.slice la l.length lc, .int .i64 n]) ∧ l.length ≤ lc ∧ Acs la l.length l w' ∧ l.length ≤ 50 ∧ Below w.heap.size w w' := by
  go_enter Tryd.func10, Tryd.ntmps10
  go_wp2_with fail
  refine (source_any a len cap g _ hc).mono ?_
  rintro e w1 ⟨rfl, hs1, hb1⟩
  go_wp2_with fail
  refine (drList_any a len cap g _ _ hs1).mono ?_
  rintro e w2 ⟨la, lc, l, rfl, hD, hl⟩
  go_wp2_with fail
  refine (n_any a len cap g _ _ (by omega) _ hD.src).mono ?_
  rintro e w3 ⟨r, rfl, r0, r1, hs3, ho3⟩
  have HD3 : Hid (LD a len cap g w.heap.size w1 w3 la lc l) := hD.call hs3 ho3
  have HB : Hid (Below w.heap.size w w3) := HD3.out.own.below hb1 (Nat.le_refl _) hb1.size
  clear hD hs3 ho3 hs1 hc
  go_wp2
  refine bodyPost_ret (v := .tuple #[.slice la l.length lc, .int .i64 (r - 1)]) (by simp [results, Tryd.results10, go_sem]) rfl ?_
  exact ⟨la, lc, l, r - 1, rfl, rowL_cap HD3.out.row rfl, rowL_acs HD3.out.row, hl, HB.out⟩
end Go.Proofs.YtdidbaadladkpaaDoor
