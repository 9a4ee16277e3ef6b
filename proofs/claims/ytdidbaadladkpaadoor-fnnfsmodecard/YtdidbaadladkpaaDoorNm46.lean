/- Laid together: GiveDef, GivenM, GiveMath. -/
import Derived.Test.YtdidbaadladkpaaDoorNm28
import Derived.Test.YtdidbaadladkpaaDoorNm39
import Derived.Test.YtdidbaadladkpaaDoorNm45
/- What aces give, one after another. -/
namespace Go.Proofs.YtdidbaadladkpaaDoor
open Go.RowKit Go.PlainAid Go.Shelf
set_option linter.unusedVariables false
attribute [local go_sem] Oper.semAt_some
/-- What one more ace makes of what is allowed and what is said. -/
def giveS (q : Int × Int) (x : Ac) : Int × Int := (if x.al then bits .or .i64 q.1 (bits .andNot .i64 x.ma q.2) else q.1, bits .or .i64 q.2 x.ma)
/-- What several give, and say. -/
def giveI (l : List Ac) : Int × Int := l.foldl giveS (0, 0)
theorem giveI_snoc (l : List Ac) (x : Ac) : giveI (l ++ [x]) = giveS (giveI l) x := by simp [giveI]
theorem giveI_al {l : List Ac} {x : Ac} (h : x.al = true) : (giveI (l ++ [x])).1 = bits .or .i64 (giveI l).1 (bits .andNot .i64 x.ma (giveI l).2) := by rw [giveI_snoc, giveS, h]; rfl
theorem giveI_no {l : List Ac} {x : Ac} (h : x.al = false) : (giveI (l ++ [x])).1 = (giveI l).1 := by rw [giveI_snoc, giveS, h]; rfl
theorem giveI_said (l : List Ac) (x : Ac) : (giveI (l ++ [x])).2 = bits .or .i64 (giveI l).2 x.ma := by rw [giveI_snoc]; rfl
theorem cell_newG (w : World) (v : Value) (t : TypeId) : (w.alloc (.cells #[v] t)).cell? ⟨w.heap.size, 0, none⟩ = some v ∧ (w.alloc (.cells #[v] t)).frozen? ⟨w.heap.size, 0, none⟩ = false := by
  have hb : (w.alloc (.cells #[v] t)).heap[w.heap.size]? = some (.cells #[v] t) := by
    rw [World.alloc]
    exact Array.getElem?_push_size
  constructor
  · simp only [World.cell?, hb]; rfl
  · simp only [World.frozen?, hb]; simp
theorem five_keptG {b o : Nat} {x : Ac} {W W' : World} {row : Option Nat} (h : Five W b o x) (hg : W.grownBy W' row) (hr : ∀ r, row = some r → ∃ o : Obj, W.heap[r]? = some o ∧ o.isCells = false) : Five W' b o x :=
  ⟨cell_kept h.c0 hg hr, cell_kept h.c1 hg hr, cell_kept h.c2 hg hr, cell_kept h.c3 hg hr, cell_kept h.c4 hg hr⟩
end Go.Proofs.YtdidbaadladkpaaDoor
/- impl.given: what the aces that hold and are of somebody give. -/
namespace Go.Proofs.YtdidbaadladkpaaDoor
open Go.RowKit Go.PlainAid Go.Shelf
set_option linter.unusedVariables false
attribute [local go_sem] Oper.semAt_some
set_option maxRecDepth 100000 in
set_option maxHeartbeats 4000000 in
/-- impl.given at the test of kinds. -/
theorem givenM_any (a : Option Addr) (len cap : Nat) (l : List Ac) (Cc : Nat) (p : Ac → Bool) (hl : len ≤ 1000) (hfl : ∀ i, i < len → 0 ≤ (acAt l i).fl ∧ (acAt l i).fl ≤ 15) (w : World) (hA : Acs a len l w)
    (hP : ∀ x W', Below w.heap.size w W' → Calls Tryd.prog 90 #[.agg #[.bool x.al, .int .i64 x.wh, .int .i64 x.id, .int .i64 x.fl, .int .i64 x.ma], .pointer (some ⟨Cc, 0, none⟩)] W' fun e W'' => e = .returned (.bool (p x)) ∧ Below W'.heap.size W' W'') :
    Calls Tryd.prog 44 #[.slice a len cap, .func (.func 90) #[] #[.pointer (some ⟨Cc, 0, none⟩)]] w fun e w' => e = .returned (.int .i64 (giveI (fltP p l len)).1) ∧ Below w.heap.size w w' := by
  refine (callsIn_wide (n := 6)).1 ?_
  refine callsIn_of_wp_marks Tryd.func44 rfl trivial ?_ rfl
  simp only [Tryd.ntmps44, List.size_toArray, List.length_cons, List.length_nil, Nat.reduceAdd, Nat.reduceSub, Array.replicate_succ, Array.replicate_zero, List.push_toArray, List.append_toArray, List.nil_append, List.cons_append]
  gi_wp2_with (refine ⟨trivial, ?_⟩; gi_at_call 76; refine (callsIn_wide.2 (holding_any _ _ _ _ _ _)).mono ?_; rintro e w2 ⟨rfl, rfl⟩)
  have z1 : (w.alloc (.cells #[.int .i64 0] 2)).heap.size = w.heap.size + 1 := by simp
  have z2 : ((w.alloc (.cells #[.int .i64 0] 2)).alloc (.cells #[.int .i64 0] 2)).heap.size = w.heap.size + 1 + 1 := by simp
  have z3 : (((w.alloc (.cells #[.int .i64 0] 2)).alloc (.cells #[.int .i64 0] 2)).alloc (.cells #[.slice a len cap] 23)).heap.size = w.heap.size + 1 + 1 + 1 := by simp
  have z4 : ((((w.alloc (.cells #[.int .i64 0] 2)).alloc (.cells #[.int .i64 0] 2)).alloc (.cells #[.slice a len cap] 23)).alloc (.cells #[.func (.func 90) #[] #[.pointer (some ⟨Cc, 0, none⟩)]] 46)).heap.size = w.heap.size + 1 + 1 + 1 + 1 := by simp
  have b1 := bel_alloc w (.cells #[.int .i64 0] 2)
  have b2 := bel_alloc (w.alloc (.cells #[.int .i64 0] 2)) (.cells #[.int .i64 0] 2)
  have b3 := bel_alloc ((w.alloc (.cells #[.int .i64 0] 2)).alloc (.cells #[.int .i64 0] 2)) (.cells #[.slice a len cap] 23)
  have b4 := bel_alloc (((w.alloc (.cells #[.int .i64 0] 2)).alloc (.cells #[.int .i64 0] 2)).alloc (.cells #[.slice a len cap] 23)) (.cells #[.func (.func 90) #[] #[.pointer (some ⟨Cc, 0, none⟩)]] 46)
  have hB0 : Below w.heap.size w ((((w.alloc (.cells #[.int .i64 0] 2)).alloc (.cells #[.int .i64 0] 2)).alloc (.cells #[.slice a len cap] 23)).alloc (.cells #[.func (.func 90) #[] #[.pointer (some ⟨Cc, 0, none⟩)]] 46)) := Below.on (Below.on (Below.on b1 b2) b3) b4
  have b14 : Below (w.alloc (.cells #[.int .i64 0] 2)).heap.size (w.alloc (.cells #[.int .i64 0] 2)) ((((w.alloc (.cells #[.int .i64 0] 2)).alloc (.cells #[.int .i64 0] 2)).alloc (.cells #[.slice a len cap] 23)).alloc (.cells #[.func (.func 90) #[] #[.pointer (some ⟨Cc, 0, none⟩)]] 46)) := Below.on (Below.on b2 b3) b4
  have b24 : Below ((w.alloc (.cells #[.int .i64 0] 2)).alloc (.cells #[.int .i64 0] 2)).heap.size ((w.alloc (.cells #[.int .i64 0] 2)).alloc (.cells #[.int .i64 0] 2)) ((((w.alloc (.cells #[.int .i64 0] 2)).alloc (.cells #[.int .i64 0] 2)).alloc (.cells #[.slice a len cap] 23)).alloc (.cells #[.func (.func 90) #[] #[.pointer (some ⟨Cc, 0, none⟩)]] 46)) := Below.on b3 b4
  have ha := cell_newG w (.int .i64 0) 2
  have ha0 : ((((w.alloc (.cells #[.int .i64 0] 2)).alloc (.cells #[.int .i64 0] 2)).alloc (.cells #[.slice a len cap] 23)).alloc (.cells #[.func (.func 90) #[] #[.pointer (some ⟨Cc, 0, none⟩)]] 46)).cell? ⟨w.heap.size, 0, none⟩ = some (.int .i64 0) := (b14.cell (p := ⟨w.heap.size, 0, none⟩) (by rw [z1]; show w.heap.size < _; omega)).trans ha.1
  have ha1 : ((((w.alloc (.cells #[.int .i64 0] 2)).alloc (.cells #[.int .i64 0] 2)).alloc (.cells #[.slice a len cap] 23)).alloc (.cells #[.func (.func 90) #[] #[.pointer (some ⟨Cc, 0, none⟩)]] 46)).frozen? ⟨w.heap.size, 0, none⟩ = false := (b14.frozen (p := ⟨w.heap.size, 0, none⟩) (by rw [z1]; show w.heap.size < _; omega)).trans ha.2
  have hs := cell_newG (w.alloc (.cells #[.int .i64 0] 2)) (.int .i64 0) 2
  rw [z1] at hs
  have hs0 : ((((w.alloc (.cells #[.int .i64 0] 2)).alloc (.cells #[.int .i64 0] 2)).alloc (.cells #[.slice a len cap] 23)).alloc (.cells #[.func (.func 90) #[] #[.pointer (some ⟨Cc, 0, none⟩)]] 46)).cell? ⟨w.heap.size + 1, 0, none⟩ = some (.int .i64 0) := (b24.cell (p := ⟨w.heap.size + 1, 0, none⟩) (by rw [z2]; show w.heap.size + 1 < _; omega)).trans hs.1
  have hs1 : ((((w.alloc (.cells #[.int .i64 0] 2)).alloc (.cells #[.int .i64 0] 2)).alloc (.cells #[.slice a len cap] 23)).alloc (.cells #[.func (.func 90) #[] #[.pointer (some ⟨Cc, 0, none⟩)]] 46)).frozen? ⟨w.heap.size + 1, 0, none⟩ = false := (b24.frozen (p := ⟨w.heap.size + 1, 0, none⟩) (by rw [z2]; show w.heap.size + 1 < _; omega)).trans hs.2
  have hBl := cell_newG ((w.alloc (.cells #[.int .i64 0] 2)).alloc (.cells #[.int .i64 0] 2)) (.slice a len cap) 23
  rw [z2] at hBl
  have hBl0 : ((((w.alloc (.cells #[.int .i64 0] 2)).alloc (.cells #[.int .i64 0] 2)).alloc (.cells #[.slice a len cap] 23)).alloc (.cells #[.func (.func 90) #[] #[.pointer (some ⟨Cc, 0, none⟩)]] 46)).cell? ⟨w.heap.size + 1 + 1, 0, none⟩ = some (.slice a len cap) := (b4.cell (p := ⟨w.heap.size + 1 + 1, 0, none⟩) (by rw [z3]; show w.heap.size + 1 + 1 < _; omega)).trans hBl.1
  have hBf := cell_newG (((w.alloc (.cells #[.int .i64 0] 2)).alloc (.cells #[.int .i64 0] 2)).alloc (.cells #[.slice a len cap] 23)) (.func (.func 90) #[] #[.pointer (some ⟨Cc, 0, none⟩)]) 46
  rw [z3] at hBf
  generalize ((((w.alloc (.cells #[.int .i64 0] 2)).alloc (.cells #[.int .i64 0] 2)).alloc (.cells #[.slice a len cap] 23)).alloc (.cells #[.func (.func 90) #[] #[.pointer (some ⟨Cc, 0, none⟩)]] 46)) = W0 at hB0 ha0 ha1 hs0 hs1 hBl0 hBf z4 ⊢
  clear b1 b2 b3 b4 b14 b24 hs ha hBl z1 z2 z3
  refine wpIn_rangeFunc_ownH rfl (by omega) (gf := 99) (lb := #[.pointer (some ⟨w.heap.size + 1 + 1, 0, none⟩), .pointer (some ⟨w.heap.size + 1 + 1 + 1, 0, none⟩)]) rfl trivial (enters_of Tryd.func99 (by kernel_rfl) rfl)
    (holdM_stops 5 (by omega) (w.heap.size + 1 + 1) (w.heap.size + 1 + 1 + 1) w.heap.size (w.heap.size + 1 + 1) W0.heap.size Cc a len cap l p hl W0 (hA.below hB0) (fun h A e => by obtain ⟨b, off, e2, hb, _⟩ := hA.2 h; rw [e2] at e; cases e; exact hb) (by omega) (by omega) hfl hB0.size (Nat.le_refl _)
      (fun x W' hK => hP x W' (hB0.trans hK.1)) hBl0 hBf.1)
    kpC_t (kpC_b hB0.size) (Below.refl _ _) (fun _ => rfl)
    (fun pre W => ((W.cell? ⟨w.heap.size, 0, none⟩ = some (.int .i64 (giveI pre).1) ∧ W.frozen? ⟨w.heap.size, 0, none⟩ = false) ∧ (W.cell? ⟨w.heap.size + 1, 0, none⟩ = some (.int .i64 (giveI pre).2) ∧ W.frozen? ⟨w.heap.size + 1, 0, none⟩ = false)) ∧ (Below w.heap.size w W ∧ W0.heap.size ≤ W.heap.size))
    (fun _ _ _ => False)
    (OwnFrom.and (Own.from (fun s A B row hs hg hr => ⟨⟨cell_kept hs.1.1 hg hr, (frozen_kept hs.1.1 hg hr).trans hs.1.2⟩, ⟨cell_kept hs.2.1 hg hr, (frozen_kept hs.2.1 hg hr).trans hs.2.2⟩⟩) _) (OwnFrom.and (ownFrom_below (Nat.le_refl _) hB0.size) (fun _ _ _ _ hs hg _ => Nat.le_trans hs hg.size)))
    (fun _ _ _ _ _ hs _ _ => hs)
    ⟨⟨⟨ha0, ha1⟩, hs0, hs1⟩, hB0, Nat.le_refl _⟩
    (fun x a' W => ∃ Bx, W0.heap.size ≤ Bx ∧ Five W Bx 0 x ∧ a' = { tmps := #[.slice a len cap, .func (.func 90) #[] #[.pointer (some ⟨Cc, 0, none⟩)], undef, undef, .int .i64 0, .pointer (some ⟨w.heap.size, 0, none⟩), .pointer (some ⟨w.heap.size + 1, 0, none⟩), .pointer (some ⟨Bx, 0, none⟩), .slice a len cap, .func (.func 90) #[] #[.pointer (some ⟨Cc, 0, none⟩)], .func (.func 99) #[] #[.pointer (some ⟨w.heap.size + 1 + 1, 0, none⟩), .pointer (some ⟨w.heap.size + 1 + 1 + 1, 0, none⟩)], .agg #[.bool x.al, .int .i64 x.wh, .int .i64 x.id, .int .i64 x.fl, .int .i64 x.ma], undef, undef, undef, undef, undef, undef, undef, undef, undef, undef, undef, undef, undef], defers := [] })
    (fun x a' s A B row hs hg hr => by obtain ⟨Bx, h1, h2, h3⟩ := hs; exact ⟨Bx, h1, five_keptG h2 hg (fun r e => (hr r e).2), h3⟩)
    ?assign ?body ?done ?stop
  case assign =>
    rintro lp pre x W K ⟨⟨⟨hc, hf⟩, hc2, hf2⟩, hB, hsz⟩ hK
    gi_wp2
    have hba := bel_alloc W (.cells #[.bool x.al, .int .i64 x.wh, .int .i64 x.id, .int .i64 x.fl, .int .i64 x.ma] 33)
    have hlt1 := block_lt_of_cell hc
    have hlt2 := block_lt_of_cell hc2
    exact hK _ _ ((KeepsOthers.alloc _ _).from _) (kpC_grow hba hB.size hsz) ⟨⟨⟨(hba.cell (p := ⟨w.heap.size, 0, none⟩) hlt1).trans hc, (hba.frozen (p := ⟨w.heap.size, 0, none⟩) hlt1).trans hf⟩, (hba.cell (p := ⟨w.heap.size + 1, 0, none⟩) hlt2).trans hc2, (hba.frozen (p := ⟨w.heap.size + 1, 0, none⟩) hlt2).trans hf2⟩, Below.on hB hba, Nat.le_trans hsz hba.size⟩ ⟨W.heap.size, hsz, five_new W x _, rfl⟩
  case body =>
    rintro lp pre x a' W hlp hr ⟨⟨⟨hc, hf⟩, hc2, hf2⟩, hB, hsz⟩ ⟨Bx, hBx, hF, rfl⟩ hlt
    obtain ⟨c0, c1, c2, c3, c4⟩ := hF
    simp only [Nat.zero_add] at c1 c2 c3 c4
    have hne1 : ¬ Bx = w.heap.size := by omega
    have hne2 : ¬ w.heap.size = Bx := by omega
    cases hal : x.al
    · rw [hal] at c0
      gi_wp2
      refine ⟨(KeepsOthers.setCell _ _ _).from _, ⟨bl_setA (Below.refl _ _) (by omega), fun c o v h1 h2 hv => ?_⟩, ⟨⟨⟨?_, ?_⟩, ?_, ?_⟩, bl_setA hB (by omega), by simpa using hsz⟩⟩
      · rw [World.cell?_setCell_other _ _ _ _ (by intro h; have h2 := congrArg Addr.block h; simp only at h2; omega)]
        exact hv
      · rw [World.cell?_setCell_other _ _ _ _ (by intro h; have h2 := congrArg Addr.block h; simp only at h2; omega), giveI_no hal]
        exact hc
      · rw [World.frozen?_setCell]
        exact hf
      · rw [giveI_said]
        exact World.cell?_setCell_same' _ _ _ (by rw [hc2]; rfl)
      · rw [World.frozen?_setCell]
        exact hf2
    · rw [hal] at c0
      gi_wp2
      refine ⟨((KeepsOthers.setCell _ _ _).trans (KeepsOthers.setCell _ _ _)).from _, ⟨bl_setA (bl_setA (Below.refl _ _) (by omega)) (by omega), fun c o v h1 h2 hv => ?_⟩, ⟨⟨⟨?_, ?_⟩, ?_, ?_⟩, bl_setA (bl_setA hB (by omega)) (by omega), by simpa using hsz⟩⟩
      · rw [World.cell?_setCell_other _ _ _ _ (by intro h; have h2 := congrArg Addr.block h; simp only at h2; omega), World.cell?_setCell_other _ _ _ _ (by intro h; have h2 := congrArg Addr.block h; simp only at h2; omega)]
        exact hv
      · rw [World.cell?_setCell_other _ _ _ _ (by intro h; have h2 := congrArg Addr.block h; simp only at h2; omega), giveI_al hal]
        exact World.cell?_setCell_same' _ _ _ (by rw [hc]; rfl)
      · rw [World.frozen?_setCell, World.frozen?_setCell]
        exact hf
      · rw [giveI_said]
        exact World.cell?_setCell_same' _ _ _ (by rw [World.cell?_setCell_other _ _ _ _ (by intro h; have h2 := congrArg Addr.block h; simp only at h2; omega), hc2]; rfl)
      · rw [World.frozen?_setCell, World.frozen?_setCell]
        exact hf2
  case done =>
    rintro D ys W hD rfl ⟨⟨⟨hc, hf⟩, hc2, hf2⟩, hB, hsz⟩ hK
    gi_wp2
    refine ⟨by simp, .inl ⟨_, _, rfl, run_takeDeferred hK, ?_⟩⟩
    exact ⟨_, results_tmp rfl _ _ _, rfl, hB.trans (belowK_b (w := w) (Nat.le_refl _) W D _ _ (Nat.le_trans hB0.size hD) hK rfl rfl)⟩
  case stop =>
    rintro D c pre W _ _ h _
    exact h.elim
end Go.Proofs.YtdidbaadladkpaaDoor
/- What the aces give, in sums. -/
namespace Go.Proofs.YtdidbaadladkpaaDoor
open Go.RowKit Go.PlainAid
set_option linter.unusedVariables false
/-- One more ace, in sums. -/
theorem giveS_sum {x : Ac} {g s : Nat} (m0 : 0 ≤ x.ma) (m1 : x.ma ≤ 255) (hg : g ≤ 255) (hs : s ≤ 255) (hgs : s ||| g = s) :
    giveS ((g : Int), (s : Int)) x = (takeP x.al g (x.ma - andI x.ma s), (s : Int) + (x.ma - andI x.ma s)) ∧ ∃ g' s' : Nat, giveS ((g : Int), (s : Int)) x = ((g' : Int), (s' : Int)) ∧ g' ≤ 255 ∧ s' ≤ 255 ∧ s' ||| g' = s' := by
  obtain ⟨m, hm⟩ := Int.eq_ofNat_of_zero_le m0
  have hm' : m ≤ 255 := by omega
  have hx : giveS ((g : Int), (s : Int)) x = (if x.al then (((g ||| rmN m s : Nat)) : Int) else (g : Int), ((s ||| m : Nat) : Int)) := by
    have hrl := rm_le m s
    have e1 : bits .andNot .i64 x.ma (s : Int) = ((rmN m s : Nat) : Int) := by rw [hm]; exact andNot_nat m s (by omega) (by omega)
    have e2 : bits .or .i64 (g : Int) ((rmN m s : Nat) : Int) = ((g ||| rmN m s : Nat) : Int) := by
      rw [or_bits (by omega) (by omega) (by omega) (by omega)]; simp [orI]
    have e3 : bits .or .i64 (s : Int) x.ma = ((s ||| m : Nat) : Int) := by
      rw [hm, or_bits (by omega) (by omega) (by omega) (by omega)]; simp [orI]
    show (if x.al then bits .or .i64 (g : Int) (bits .andNot .i64 x.ma (s : Int)) else (g : Int), bits .or .i64 (s : Int) x.ma) = _
    rw [e1, e2, e3]
  have hd : x.ma - andI x.ma s = ((rmN m s : Nat) : Int) := by
    have h1 : andI x.ma (s : Int) = ((m &&& s : Nat) : Int) := by rw [hm]; simp [andI]
    have h2 : m &&& s ≤ m := Nat.and_le_left
    have h3 := rm_sub (m := m) (s := s) (by omega)
    rw [h1, hm]
    omega
  have o1 : s ||| m = s + rmN m s := or_rm s m (by omega) (by omega)
  have o2 : g ||| rmN m s = g + rmN m s := by
    have hrl := rm_le m s
    rw [or_rm g (rmN m s) (by omega) (by omega), rm_rm, hgs]
  constructor
  · rw [hx, hd, o1, o2, takeP]
    cases x.al <;> simp
  · have hle : s ||| m ≤ 255 := or_le hs hm'
    have hr2 : rmN m s ≤ 255 := Nat.le_trans (rm_le m s) hm'
    have hsub : (s ||| m) ||| g = s ||| m := by rw [Nat.or_assoc, Nat.or_comm m g, ← Nat.or_assoc, hgs]
    have hsub2 : (s ||| m) ||| (g ||| rmN m s) = s ||| m := by
      apply Nat.eq_of_testBit_eq
      intro i
      have h := congrArg (fun n => Nat.testBit n i) hgs
      simp only [Nat.testBit_or, rm_bit] at h ⊢
      revert h
      cases Nat.testBit s i <;> cases Nat.testBit m i <;> cases Nat.testBit g i <;> simp
    rw [hx]
    cases x.al
    · exact ⟨g, s ||| m, rfl, hg, hle, hsub⟩
    · exact ⟨g ||| rmN m s, s ||| m, rfl, or_le hg hr2, hle, hsub2⟩
/-- What is given and said of so many aces are two numbers. -/
theorem giveI_nat {l : List Ac} (hm : ∀ i, i < l.length → 0 ≤ (acAt l i).ma ∧ (acAt l i).ma ≤ 255) (p : Ac → Bool) : ∀ k, k ≤ l.length → ∃ g s : Nat, giveI (fltP p l k) = ((g : Int), (s : Int)) ∧ g ≤ 255 ∧ s ≤ 255 ∧ s ||| g = s := by
  intro k
  induction k with
  | zero => intro _; exact ⟨0, 0, rfl, by omega, by omega, rfl⟩
  | succ k ih =>
    intro hk
    obtain ⟨g, s, he, hg, hs, hgs⟩ := ih (by omega)
    cases hb : (hldB (acAt l k) && p (acAt l k))
    · rw [fltP_no hb]
      exact ⟨g, s, he, hg, hs, hgs⟩
    · rw [fltP_yes hb, giveI_snoc, he]
      exact (giveS_sum (hm k (by omega)).1 (hm k (by omega)).2 hg hs hgs).2
/-- The next ace. -/
theorem giveI_next {l : List Ac} (hm : ∀ i, i < l.length → 0 ≤ (acAt l i).ma ∧ (acAt l i).ma ≤ 255) (p : Ac → Bool) {k : Nat} (hk : k < l.length) (hb : (hldB (acAt l k) && p (acAt l k)) = true) :
    giveI (fltP p l (k + 1)) = (takeP (acAt l k).al (giveI (fltP p l k)).1 ((acAt l k).ma - andI (acAt l k).ma (giveI (fltP p l k)).2), (giveI (fltP p l k)).2 + ((acAt l k).ma - andI (acAt l k).ma (giveI (fltP p l k)).2)) := by
  obtain ⟨g, s, he, hg, hs, hgs⟩ := giveI_nat hm p k (by omega)
  rw [fltP_yes hb, giveI_snoc, he]
  exact (giveS_sum (hm k hk).1 (hm k hk).2 hg hs hgs).1
end Go.Proofs.YtdidbaadladkpaaDoor
