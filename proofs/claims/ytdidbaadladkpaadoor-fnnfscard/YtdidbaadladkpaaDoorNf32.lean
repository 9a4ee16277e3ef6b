/- Laid together: CrossT, DrawList. -/
import Derived.Test.YtdidbaadladkpaaDoorNf31
import Derived.Test.YtdidbaadladkpaaDoorNf12
import Derived.Test.YtdidbaadladkpaaDoorNf6
import Derived.Test.YtdidbaadladkpaaDoorNf27
import Derived.Test.YtdidbaadladkpaaDoorNf30
import Derived.Deep.DeepCutAuto
/- ToNfs of the specification, of any list. -/
namespace Go.Proofs.YtdidbaadladkpaaDoor
open Go.RowKit Go.PlainAid Go.Deep
set_option linter.unusedVariables false
/-- A list of names as one in order; none, if it is not right. -/
def toN (A : Al) : List Ac := if A.B = true then nfsA A else []
theorem nfs_len {A : Al} (hA : A.B = true) : (nfsA A).length ≤ 50 := by
  have hB : aclB A.u A.g A.o A.us A.gs A.r A.m = true := hA
  obtain ⟨_, _, _, _, b1, b2⟩ := aclB_parts hB
  have hl1 := nm_len b1
  have hl2 := nm_len b2
  have h1 := usN_len (pairA [] 1 0 A.u) A.us A.m A.us.length
  have h2 := pair_len [] 1 0 A.u
  have h3 := gaN_len (moreA (nfs1 A) true 2 0 (nb (ownG A))) A.gs A.m A.gs.length
  have h4 := more_len (nfs1 A) true 2 0 (nb (ownG A))
  have h5 := gdN_len (moreA (nfs2 A) false 2 0 (nb (7 - ownG A))) A.gs A.m A.gs.length
  have h6 := more_len (nfs2 A) false 2 0 (nb (7 - ownG A))
  have h7 := more_len (nfs3 A) true 3 0 (nb A.o)
  have e1 : (nfs1 A).length = (usN (pairA [] 1 0 A.u) A.us A.m A.us.length).length := rfl
  have e2 : (nfs2 A).length = (gaN (moreA (nfs1 A) true 2 0 (nb (ownG A))) A.gs A.m A.gs.length).length := rfl
  have e3 : (nfs3 A).length = (gdN (moreA (nfs2 A) false 2 0 (nb (7 - ownG A))) A.gs A.m A.gs.length).length := rfl
  have e4 : (nfsA A).length = (moreA (nfs3 A) true 3 0 (nb A.o)).length := rfl
  simp only [List.length_nil] at h2
  omega
theorem row_some {w : World} {B : Nat} {t : TypeId} {s : Nat} {a : Option Addr} {m c n : Nat} {xs : List Value} (h : w.ownsRow B t s (.slice a m c) n xs) (hn : 0 < m) : ∃ Ad, a = some Ad := by
  obtain ⟨_, ⟨h1, h2⟩ | ⟨g1, cap1, cur1, h1, _, _, hc1, _, _, _⟩⟩ := h
  · cases h1; omega
  · cases h1; exact ⟨_, rfl⟩
theorem more_ge (l : List Ac) (al : Bool) (wh id ma : Int) : l.length ≤ (moreA l al wh id ma).length := by
  unfold moreA
  split
  · omega
  · simp
theorem pair_ge (l : List Ac) (wh id b : Int) : l.length ≤ (pairA l wh id b).length := by
  have h1 := more_ge l true wh id (nb b)
  have h2 := more_ge (moreA l true wh id (nb b)) false wh id (nb (7 - b))
  unfold pairA
  omega
theorem usN_ge (l : List Ac) (us : List (Int × Int)) (m : Int) : ∀ k, l.length ≤ (usN l us m k).length := by
  intro k
  induction k with
  | zero => exact Nat.le_refl _
  | succ k ih => exact Nat.le_trans ih (pair_ge _ _ _ _)
theorem gaN_ge (l : List Ac) (us : List (Int × Int)) (m : Int) : ∀ k, l.length ≤ (gaN l us m k).length := by
  intro k
  induction k with
  | zero => exact Nat.le_refl _
  | succ k ih => exact Nat.le_trans ih (more_ge _ _ _ _ _)
theorem gdN_ge (l : List Ac) (us : List (Int × Int)) (m : Int) : ∀ k, l.length ≤ (gdN l us m k).length := by
  intro k
  induction k with
  | zero => exact Nat.le_refl _
  | succ k ih => exact Nat.le_trans ih (more_ge _ _ _ _ _)
theorem pair_pos {b : Int} (h0 : 0 ≤ b) (h1 : b ≤ 7) : 0 < (pairA [] 1 0 b).length := by
  rcases (by omega : b = 0 ∨ b = 1 ∨ b = 2 ∨ b = 3 ∨ b = 4 ∨ b = 5 ∨ b = 6 ∨ b = 7) with rfl | rfl | rfl | rfl | rfl | rfl | rfl | rfl <;> decide
theorem nfs_pos {A : Al} (hA : A.B = true) : 0 < (nfsA A).length := by
  have hB : aclB A.u A.g A.o A.us A.gs A.r A.m = true := hA
  obtain ⟨⟨u0, u1⟩, _⟩ := aclB_parts hB
  have h0 := pair_pos u0 u1
  have h1 := usN_ge (pairA [] 1 0 A.u) A.us A.m A.us.length
  have h3 := gaN_ge (moreA (nfs1 A) true 2 0 (nb (ownG A))) A.gs A.m A.gs.length
  have h4 := more_ge (nfs1 A) true 2 0 (nb (ownG A))
  have h5 := gdN_ge (moreA (nfs2 A) false 2 0 (nb (7 - ownG A))) A.gs A.m A.gs.length
  have h6 := more_ge (nfs2 A) false 2 0 (nb (7 - ownG A))
  have h7 := more_ge (nfs3 A) true 3 0 (nb A.o)
  have e1 : (nfs1 A).length = (usN (pairA [] 1 0 A.u) A.us A.m A.us.length).length := rfl
  have e2 : (nfs2 A).length = (gaN (moreA (nfs1 A) true 2 0 (nb (ownG A))) A.gs A.m A.gs.length).length := rfl
  have e3 : (nfs3 A).length = (gdN (moreA (nfs2 A) false 2 0 (nb (7 - ownG A))) A.gs A.m A.gs.length).length := rfl
  have e4 : (nfsA A).length = (moreA (nfs3 A) true 3 0 (nb A.o)).length := rfl
  omega
theorem toN_len (A : Al) : (toN A).length ≤ 50 := by
  unfold toN
  split
  · rename_i h; exact nfs_len h
  · simp
set_option maxRecDepth 100000 in
set_option maxHeartbeats 2000000 in
theorem sToNfs_any (A : Al) (aU : Option Addr) (cU : Nat) (aG : Option Addr) (cG : Nat) (hlu : A.us.length ≤ 1048576) (hlg : A.gs.length ≤ 1048576) (w : World) (hu : Prs aU A.us.length A.us w) (hg : Prs aG A.gs.length A.gs w) :
    Calls Tryd.prog 72 #[.agg #[.int .i64 A.u, .int .i64 A.g, .int .i64 A.o, .slice aU A.us.length cU, .slice aG A.gs.length cG, .bool A.r, .int .i64 A.m]] w fun e w' => ∃ a c, e = .returned (.slice a (toN A).length c) ∧ RowO w w' a c (toN A) ∧ ∃ Ad, a = some Ad := by
  have hc : Hid (∀ w', Below w.heap.size w w' → Calls Tryd.prog 92 #[.agg #[.int .i64 A.u, .int .i64 A.g, .int .i64 A.o, .slice aU A.us.length cU, .slice aG A.gs.length cG, .bool A.r, .int .i64 A.m]] w' fun e w'' => e = .returned (.bool A.B) ∧ Below w'.heap.size w' w'') := (fun w' hb => sAclRight_any A.u A.g A.o aU _ cU aG _ cG A.r A.m A.us A.gs hlu hlg w' (hu.below hb) (hg.below hb))
  have hn : Hid (A.B = true → ∀ w', Below w.heap.size w w' → Calls Tryd.prog 93 #[.agg #[.int .i64 A.u, .int .i64 A.g, .int .i64 A.o, .slice aU A.us.length cU, .slice aG A.gs.length cG, .bool A.r, .int .i64 A.m]] w' fun e w'' => ∃ a c, e = .returned (.slice a (nfsA A).length c) ∧ RowO w' w'' a c (nfsA A)) := (fun hA w' hb => sNfs_any A aU cU aG cG hA w' (hu.below hb) (hg.below hb))
  have HT : Hid (A.B = true → toN A = nfsA A) := (fun h => by rw [toN, if_pos h])
  have HF : Hid (A.B = false → toN A = []) := (fun h => by rw [toN, h]; rfl)
  have hb0 := bel_alloc w (.cells #[.int .i64 A.u, .int .i64 A.g, .int .i64 A.o, .slice aU A.us.length cU, .slice aG A.gs.length cG, .bool A.r, .int .i64 A.m] 83)
  have HX := box7_new w (.int .i64 A.u) (.int .i64 A.g) (.int .i64 A.o) (.slice aU A.us.length cU) (.slice aG A.gs.length cG) (.bool A.r) (.int .i64 A.m) 83
  have HW0 : Hid (Below w.heap.size w (w.alloc (.cells #[.int .i64 A.u, .int .i64 A.g, .int .i64 A.o, .slice aU A.us.length cU, .slice aG A.gs.length cG, .bool A.r, .int .i64 A.m] 83))) := hb0
  clear hu hg hlu hlg hb0
  generalize toN A = T at HT HF ⊢
  go_enter Tryd.func72, Tryd.ntmps72
  go_wp2_with fail
  refine (hc.out _ HW0.out).mono ?_
  rintro e w1 ⟨rfl, hb1⟩
  have HW1 : Hid (Below w.heap.size w w1) := Below.on HW0.out hb1
  obtain ⟨xl, x0, x1, x2, x3, x4, x5, x6⟩ := HX.below hb1
  clear hb1 HX HW0 hc
  cases hB : A.B
  · have e0 := HF.out hB
    subst e0
    have HRE : Hid (RowO w1 (w1.alloc (.cells #[] 33)) (some ⟨w1.heap.size, 0, none⟩) 0 []) := rowO_empty w1 33 rfl
    clear hn HT HF hB x0 x1 x2 x3 x4 x5 x6 xl
    go_wp2
    go_ret
    exact ⟨_, _, rfl, rowO_from HRE.out HW1.out, _, rfl⟩
  · have e0 := HT.out hB
    have hpos := nfs_pos hB
    have HN : Hid _ := hn.out hB
    subst e0
    clear hn HT HF hB
    go_wp2_with fail
    refine (HN.out _ HW1.out).mono ?_
    rintro e w2 ⟨a, c, rfl, hR⟩
    have HR : Hid (RowO w1 w2 a c (nfsA A)) := hR
    clear hR HN x0 x1 x2 x3 x4 x5 x6 xl
    go_wp2
    go_ret
    exact ⟨a, c, rfl, rowO_from HR.out HW1.out, row_some HR.out.1 hpos⟩
end Go.Proofs.YtdidbaadladkpaaDoor
/- The draw of a list in order. -/
namespace Go.Proofs.YtdidbaadladkpaaDoor
open Go.RowKit Go.PlainAid Go.Deep
set_option linter.unusedVariables false
/-- A list in order that is being drawn. -/
structure LD (a : Option Addr) (len cap : Nat) (g : Nat → Int) (p : Nat) (w0 w : World) (la : Option Addr) (lc : Nat) (l : List Ac) : Prop where
  src : Src a len cap g p w
  own : Ownp p w0 w
  row : w.ownsRow w0.heap.size 33 5 (.slice la l.length lc) l.length (pcA l)
  pl : p < w0.heap.size
  sm : ∃ Ad, la = some Ad
variable {a : Option Addr} {len cap : Nat} {g : Nat → Int} {p : Nat} {w0 w w' : World} {la : Option Addr} {lc : Nat} {l : List Ac}
theorem rowL_lt {w : World} {B : Nat} {t : TypeId} {s : Nat} {v : Value} {n : Nat} {xs : List Value} (h : w.ownsRow B t s v n xs) {k : Nat} (hk : v.ownBlock = some k) : B ≤ k ∧ k < w.heap.size := by
  obtain ⟨_, ⟨rfl, hn⟩ | ⟨g, cap, cur, rfl, hB, hg, hc, hm, hs, ht⟩⟩ := h
  · simp [Value.ownBlock] at hk
  · have : g = k := by simpa [Value.ownBlock] using hk
    subst this
    exact ⟨hB, (Array.getElem?_eq_some_iff.1 hg).1⟩
theorem rowL_from {w : World} {B B2 : Nat} {t : TypeId} {s : Nat} {v : Value} {n : Nat} {xs : List Value} (h : w.ownsRow B t s v n xs) (hb : B2 ≤ B) : w.ownsRow B2 t s v n xs := by
  obtain ⟨h0, ⟨e, hn⟩ | ⟨g, cap, cur, e, hB, hg, hc, hm, hs, ht⟩⟩ := h
  · exact ⟨h0, .inl ⟨e, hn⟩⟩
  · exact ⟨h0, .inr ⟨g, cap, cur, e, Nat.le_trans hb hB, hg, hc, hm, hs, ht⟩⟩
theorem LD.call (h : LD a len cap g p w0 w la lc l) (hs : Src a len cap g p w') (ho : Ownp p w w') : LD a len cap g p w0 w' la lc l :=
  ⟨hs, h.own.trans ho, rowP_keep h.row (fun k hk => by
    have h1 := rowL_lt h.row hk
    have h2 := h.pl
    exact ho.block k h1.2 (by simp; omega)), h.pl, h.sm⟩
theorem LD.below (h : LD a len cap g p w0 w la lc l) (hb : Below w.heap.size w w') : LD a len cap g p w0 w' la lc l :=
  h.call (h.src.kept (fun k hk => hb.block k (by have := h.src.pos; omega))) (below_ownp p hb)
/-- append of one ace. -/
theorem LD.app (h : LD a len cap g p w0 w la lc l) (x : Ac) (hl : l.length ≤ 1000000) :
    ∃ a' c' w', (Builtin.append_ #[23, 23] 23 #[.slice la l.length lc, .slice (some ⟨w.heap.size, 0, none⟩) 1 1]).run Tryd.prog (w.alloc (.cells #[.bool x.al, .int .i64 x.wh, .int .i64 x.id, .int .i64 x.fl, .int .i64 x.ma] 33)) = .ok (.slice a' (l ++ [x]).length c') w' ∧ LD a len cap g p w0 w' a' c' (l ++ [x]) := by
  have q := h.own.size
  have hp := h.pl
  have hR : RowO { w with heap := w.heap.extract 0 w0.heap.size } w la lc l := ⟨by rw [cut_size w w0.heap.size q]; exact h.row, below_cut w w0.heap.size q⟩
  obtain ⟨a', c', w', hr, ho, hb⟩ := append_row hR hl x
  rw [cut_size w w0.heap.size q] at ho
  have hlow : ∀ k, k < w0.heap.size → w'.heap[k]? = w.heap[k]? := fun k hk => by
    have h1 := hb.block k (by rw [cut_size w w0.heap.size q]; exact hk)
    have h2 := (below_cut w w0.heap.size q).block k (by rw [cut_size w w0.heap.size q]; exact hk)
    exact h1.trans h2.symm
  have hsz : w0.heap.size ≤ w'.heap.size := by
    have := hb.size
    rw [cut_size w w0.heap.size q] at this
    exact this
  exact ⟨a', c', w', hr, h.src.kept (fun k hk => hlow k (by omega)), ⟨hb.os.trans h.own.os, hb.tape.trans h.own.tape, hb.output.trans h.own.output, hsz, fun k hk hne => (hlow k hk).trans (h.own.block k hk hne)⟩, ho, hp, row_some ho (by simp)⟩
set_option maxRecDepth 100000 in
set_option maxHeartbeats 4000000 in
/-- The draw of a list in order. -/
theorem drList_any (a : Option Addr) (len cap : Nat) (g : Nat → Int) (p : Nat) (w : World) (hs : Src a len cap g p w) :
    Calls Tryd.prog 40 #[.pointer (some ⟨p, 0, none⟩)] w fun e w' => ∃ (la : Option Addr) (lc : Nat) (l : List Ac), e = .returned (.slice la l.length lc) ∧ LD a len cap g p w w' la lc l ∧ l.length ≤ 50 := by
  have hp := hs.pos
  have hR0 := rowO_empty w 33 rfl
  have HD0 : Hid (LD a len cap g p w (w.alloc (.cells #[] 33)) (some ⟨w.heap.size, 0, none⟩) 0 []) := ⟨src_alloc hs _, (Ownp.refl p w).alloc _, hR0.1, hp, ⟨_, rfl⟩⟩
  clear hR0 hs
  go_enter Tryd.func40, Tryd.ntmps40
  go_wp2_with fail
  refine (n_any a len cap g _ _ (by decide) _ HD0.out.src).mono ?_
  rintro e w1 ⟨k0, rfl, k1, k2, hs1, ho1⟩
  have HD1 : Hid (LD a len cap g p w w1 (some ⟨w.heap.size, 0, none⟩) 0 []) := HD0.out.call hs1 ho1
  clear HD0 hs1 ho1
  obtain ⟨kk, rfl⟩ := Int.eq_ofNat_of_zero_le k1
  have hkk : kk ≤ 8 := by omega
  clear k1 k2
  go_wp2
  go_loopw [3, 4, 5] (fun lv k _ wr => ∃ (j : Nat) (la : Option Addr) (lc : Nat) (l : List Ac), k = .int .i64 j ∧ lv = .slice la l.length lc ∧ l.length + j ≤ 8 ∧ Hid (LD a len cap g p w wr la lc l)) (fun _ k _ _ => (intOf k).toNat)
  case atStart => exact ⟨kk, _, 0, [], rfl, rfl, by simpa using hkk, HD1⟩
  case round =>
    clear HD1 hkk
    obtain ⟨j, la, lc, l, rfl, rfl, hj, hD⟩ := hrel
    by_cases h0 : 0 < j
    · have h0' : (0 : Int) < (j : Int) := by omega
      go_wp2_with fail
      refine (drAce_any a len cap g _ _ hD.out.src).mono ?_
      rintro e w2 ⟨x, rfl, hs2, ho2⟩
      have hD2 := hD.out.call hs2 ho2
      have hb3 := bel_alloc w2 (.cells #[.bool x.al, .int .i64 x.wh, .int .i64 x.id, .int .i64 x.fl, .int .i64 x.ma] 33)
      have HD3 : Hid (LD a len cap g p w (w2.alloc (.cells #[.bool x.al, .int .i64 x.wh, .int .i64 x.id, .int .i64 x.fl, .int .i64 x.ma] 33)) la lc l) := hD2.below hb3
      have HX3 : Hid (Five (w2.alloc (.cells #[.bool x.al, .int .i64 x.wh, .int .i64 x.id, .int .i64 x.fl, .int .i64 x.ma] 33)) w2.heap.size 0 x) := five_new w2 x 33
      have hXp : p < w2.heap.size := hs2.pos
      have hXl : w2.heap.size < (w2.alloc (.cells #[.bool x.al, .int .i64 x.wh, .int .i64 x.id, .int .i64 x.fl, .int .i64 x.ma] 33)).heap.size := by simp
      clear hD hD2 hb3 hs2 ho2
      go_upto_region 6 with fail
      generalize w2.alloc (.cells #[.bool x.al, .int .i64 x.wh, .int .i64 x.id, .int .i64 x.fl, .int .i64 x.ma] 33) = w3 at HD3 HX3 hXl ⊢
      generalize w2.heap.size = X at HX3 hXp hXl ⊢
      obtain ⟨c0, c1, c2, c3, c4⟩ := HX3.out
      simp only [Nat.zero_add] at c1 c2 c3 c4
      go_wp2_with fail
      refine (sAceRight_any x _).mono ?_
      rintro e w4 ⟨rfl, hb4⟩
      have HD4 : Hid (LD a len cap g p w w4 la lc l) := HD3.out.below hb4
      have HX4 : Hid (Five w4 X 0 x) := HX3.out.below hXl hb4
      have hXl4 : X < w4.heap.size := Nat.lt_of_lt_of_le hXl hb4.size
      clear hb4 HD3 HX3 c0 c1 c2 c3 c4 hXl
      cases hB : aceB x
      · go_wp2_with fail
        refine (one_any a len cap g _ _ (by decide) _ HD4.out.src).mono ?_
        rintro e w5 ⟨r, rfl, hs5, ho5⟩
        have HD5 : Hid (LD a len cap g p w w5 la lc l) := HD4.out.call hs5 ho5
        have HX5 : Hid (Five w5 X 0 x) := HX4.out.keep (fun j => ho5.cell hXl4 (by omega))
        clear hs5 ho5 HD4 HX4
        cases r
        · go_wp2
          go_roundw
          case rel => exact ⟨j - 1, la, lc, l, by go_num, rfl, by omega, HD5⟩
          case measure => simp [intOf]; omega
        · obtain ⟨c0, c1, c2, c3, c4⟩ := HX5.out
          simp only [Nat.zero_add] at c1 c2 c3 c4
          obtain ⟨a', c', w6, hr, hD6⟩ := LD.app HD5.out x (by omega)
          have HD6 : Hid _ := hD6
          have el : (l ++ [x]).length = l.length + 1 := by simp
          rw [el] at hr
          clear hD6
          go_wp2_with (at_builtin; refine wpList_append_runA _ rfl (.tmp 21) (.tmp 23) 23 23 rfl _ _ _ _ rfl rfl hr ?_)
          go_roundw
          case rel => exact ⟨j - 1, a', c', l ++ [x], by go_num, by rw [el], by rw [el]; omega, HD6⟩
          case measure => simp [intOf]; omega
      · obtain ⟨c0, c1, c2, c3, c4⟩ := HX4.out
        simp only [Nat.zero_add] at c1 c2 c3 c4
        obtain ⟨a', c', w6, hr, hD6⟩ := LD.app HD4.out x (by omega)
        have HD6 : Hid _ := hD6
        have el : (l ++ [x]).length = l.length + 1 := by simp
        rw [el] at hr
        clear hD6
        go_wp2_with (at_builtin; refine wpList_append_runA _ rfl (.tmp 21) (.tmp 23) 23 23 rfl _ _ _ _ rfl rfl hr ?_)
        go_roundw
        case rel => exact ⟨j - 1, a', c', l ++ [x], by go_num, by rw [el], by rw [el]; omega, HD6⟩
        case measure => simp [intOf]; omega
    · have hj0 : j = 0 := by omega
      subst hj0
      go_wp2_with fail
      refine (one_any a len cap g _ _ (by decide) _ hD.out.src).mono ?_
      rintro e w6 ⟨q, rfl, hs6, ho6⟩
      have hD6 : Hid (LD a len cap g p w w6 la lc l) := hD.out.call hs6 ho6
      clear hs6 ho6 hD
      go_upto_if 26 with fail
      go_cut [3] (fun lv wx => ∃ (la : Option Addr) (lc : Nat) (l : List Ac), lv = .slice la l.length lc ∧ l.length ≤ 33 ∧ Hid (LD a len cap g p w wx la lc l))
      case first =>
        cases q
        · go_wp2
          go_meet
          exact ⟨_, _, _, rfl, by omega, hD6⟩
        · go_wp2
          go_loopw [3] (fun lv wr => ∃ (la : Option Addr) (lc : Nat) (l : List Ac), lv = .slice la l.length lc ∧ l.length ≤ 33 ∧ Hid (LD a len cap g p w wr la lc l)) (fun lv _ => 33 - (match lv with | .slice _ n _ => n | _ => 0))
          case atStart => exact ⟨la, lc, l, rfl, by omega, hD6⟩
          case round =>
            clear hD6 hj
            obtain ⟨la, lc, l, rfl, hl, hD⟩ := hrel
            go_wp2_with fail
            refine (n_any a len cap g _ _ (by decide) _ hD.out.src).mono ?_
            rintro e w7 ⟨r2, rfl, r0, r1, hs7, ho7⟩
            have hD7 : Hid (LD a len cap g p w w7 la lc l) := hD.out.call hs7 ho7
            have hr2 : r2 = 0 ∨ r2 = 1 := by omega
            clear hs7 ho7 hD r0 r1
            by_cases hlt : (l.length : Int) < 32 + r2
            · obtain ⟨a', c', w8, hr, hD8⟩ := LD.app hD7.out ⟨true, 4, (l.length : Int), 0, 1⟩ (by omega)
              have HD8 : Hid _ := hD8
              have el : (l ++ [(⟨true, 4, (l.length : Int), 0, 1⟩ : Ac)]).length = l.length + 1 := by simp
              rw [el] at hr
              clear hD8
              go_wp2_with (at_builtin; refine wpList_append_runA _ rfl (.tmp 33) (.tmp 37) 23 23 rfl _ _ _ _ rfl rfl hr ?_)
              go_roundw
              case rel => exact ⟨a', c', l ++ [⟨true, 4, (l.length : Int), 0, 1⟩], by rw [el], by rw [el]; omega, HD8⟩
              case measure => simp; omega
            · go_wp2
              go_meet
              exact ⟨_, _, _, rfl, hl, hD7⟩
      case rest =>
      clear hD6 hj
      obtain ⟨la, lc, l, rfl, hl, hD⟩ := hcut
      obtain ⟨wz, hwz⟩ : ∃ wz, wz = wc := ⟨_, rfl⟩
      subst hwz
      go_wp2_with fail
      refine (one_any a len cap g _ _ (by decide) _ hD.out.src).mono ?_
      rintro e w6 ⟨q, rfl, hs6, ho6⟩
      have hD6 : Hid (LD a len cap g p w w6 la lc l) := hD.out.call hs6 ho6
      clear hs6 ho6 hD
      cases q
      · go_wp2
        go_ret
        exact ⟨la, lc, l, rfl, hD6.out, by omega⟩
      · go_wp2_with fail
        refine (drAcl_any a len cap g _ _ hD6.out.src).mono ?_
        rintro e w7 ⟨A, aU, cU, aG, cG, rfl, hs7, ho7, ⟨X, R, hu, hg⟩, _, l1, l2⟩
        have HO7 : Hid (Ownp p w w7) := hD6.out.own.trans ho7
        have HS7 : Hid (Src a len cap g p w7) := hs7
        have hpu := hu.own.prs
        have hpg := hg.own.prs
        clear hu hg ho7 hs7 hD6
        go_wp2_with fail
        refine (sToNfs_any A aU cU aG cG (by omega) (by omega) w7 hpu hpg).mono ?_
        rintro e w8 ⟨a8, c8, rfl, hR8, hsm8⟩
        have HD8 : Hid (LD a len cap g p w w8 a8 c8 (toN A)) := (by
          have hb := hR8.2
          have hz := HO7.out.size
          exact ⟨HS7.out.kept (fun k hk => hb.block k (by have := HS7.out.pos; omega)), HO7.out.trans (below_ownp p hb), rowL_from hR8.1 hz, hp, hsm8⟩)
        have hl8 := toN_len A
        clear hR8 HO7 HS7 hpu hpg
        go_wp2
        go_ret
        exact ⟨a8, c8, toN A, rfl, HD8.out, hl8⟩
end Go.Proofs.YtdidbaadladkpaaDoor
