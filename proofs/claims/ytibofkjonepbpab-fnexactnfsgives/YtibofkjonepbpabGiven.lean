/- impl.given: what the aces that hold and are of somebody give. -/
import Derived.Test.YtibofkjonepbpabGive
import Derived.Test.YtibofkjonepbpabGiveDef
namespace Go.Proofs.Ytibofkjonepbpab
open Go.RowKit Go.PlainAid Go.Shelf
set_option linter.unusedVariables false
attribute [local go_sem] Oper.semAt_some
set_option maxRecDepth 100000 in
set_option maxHeartbeats 4000000 in
/-- impl.given at the test of who asks. -/
theorem givenK_any (a : Option Addr) (len cap : Nat) (l : List Ac) (Cc Co Cg : Nat) (p : Ac → Bool) (hl : len ≤ 1000) (hfl : ∀ i, i < len → 0 ≤ (acAt l i).fl ∧ (acAt l i).fl ≤ 15) (w : World) (hA : Acs a len l w)
    (hP : ∀ x W', Below w.heap.size w W' → Calls Try.prog 54 #[.agg #[.bool x.al, .int .i64 x.wh, .int .i64 x.id, .int .i64 x.fl, .int .i64 x.ma], .pointer (some ⟨Cc, 0, none⟩), .pointer (some ⟨Co, 0, none⟩), .pointer (some ⟨Cg, 0, none⟩)] W' fun e W'' => e = .returned (.bool (p x)) ∧ Below W'.heap.size W' W'') :
    Calls Try.prog 35 #[.slice a len cap, .func (.func 54) #[] #[.pointer (some ⟨Cc, 0, none⟩), .pointer (some ⟨Co, 0, none⟩), .pointer (some ⟨Cg, 0, none⟩)]] w fun e w' => e = .returned (.int .i64 (giveI (fltP p l len)).1) ∧ Below w.heap.size w w' := by
  refine (callsIn_wide (n := 6)).1 ?_
  refine callsIn_of_wp_marks Try.func35 rfl trivial ?_ rfl
  simp only [Try.ntmps35, List.size_toArray, List.length_cons, List.length_nil, Nat.reduceAdd, Nat.reduceSub, Array.replicate_succ, Array.replicate_zero, List.push_toArray, List.append_toArray, List.nil_append, List.cons_append]
  gi_wp2_with (refine ⟨trivial, ?_⟩; gi_at_call 53; refine (callsIn_wide.2 (holding_any _ _ _ _ _ _)).mono ?_; rintro e w2 ⟨rfl, rfl⟩)
  have z1 : (w.alloc (.cells #[.int .i64 0] 2)).heap.size = w.heap.size + 1 := by simp
  have z2 : ((w.alloc (.cells #[.int .i64 0] 2)).alloc (.cells #[.int .i64 0] 2)).heap.size = w.heap.size + 1 + 1 := by simp
  have z3 : (((w.alloc (.cells #[.int .i64 0] 2)).alloc (.cells #[.int .i64 0] 2)).alloc (.cells #[.slice a len cap] 23)).heap.size = w.heap.size + 1 + 1 + 1 := by simp
  have z4 : ((((w.alloc (.cells #[.int .i64 0] 2)).alloc (.cells #[.int .i64 0] 2)).alloc (.cells #[.slice a len cap] 23)).alloc (.cells #[.func (.func 54) #[] #[.pointer (some ⟨Cc, 0, none⟩), .pointer (some ⟨Co, 0, none⟩), .pointer (some ⟨Cg, 0, none⟩)]] 52)).heap.size = w.heap.size + 1 + 1 + 1 + 1 := by simp
  have b1 := bel_alloc w (.cells #[.int .i64 0] 2)
  have b2 := bel_alloc (w.alloc (.cells #[.int .i64 0] 2)) (.cells #[.int .i64 0] 2)
  have b3 := bel_alloc ((w.alloc (.cells #[.int .i64 0] 2)).alloc (.cells #[.int .i64 0] 2)) (.cells #[.slice a len cap] 23)
  have b4 := bel_alloc (((w.alloc (.cells #[.int .i64 0] 2)).alloc (.cells #[.int .i64 0] 2)).alloc (.cells #[.slice a len cap] 23)) (.cells #[.func (.func 54) #[] #[.pointer (some ⟨Cc, 0, none⟩), .pointer (some ⟨Co, 0, none⟩), .pointer (some ⟨Cg, 0, none⟩)]] 52)
  have hB0 : Below w.heap.size w ((((w.alloc (.cells #[.int .i64 0] 2)).alloc (.cells #[.int .i64 0] 2)).alloc (.cells #[.slice a len cap] 23)).alloc (.cells #[.func (.func 54) #[] #[.pointer (some ⟨Cc, 0, none⟩), .pointer (some ⟨Co, 0, none⟩), .pointer (some ⟨Cg, 0, none⟩)]] 52)) := Below.on (Below.on (Below.on b1 b2) b3) b4
  have b14 : Below (w.alloc (.cells #[.int .i64 0] 2)).heap.size (w.alloc (.cells #[.int .i64 0] 2)) ((((w.alloc (.cells #[.int .i64 0] 2)).alloc (.cells #[.int .i64 0] 2)).alloc (.cells #[.slice a len cap] 23)).alloc (.cells #[.func (.func 54) #[] #[.pointer (some ⟨Cc, 0, none⟩), .pointer (some ⟨Co, 0, none⟩), .pointer (some ⟨Cg, 0, none⟩)]] 52)) := Below.on (Below.on b2 b3) b4
  have b24 : Below ((w.alloc (.cells #[.int .i64 0] 2)).alloc (.cells #[.int .i64 0] 2)).heap.size ((w.alloc (.cells #[.int .i64 0] 2)).alloc (.cells #[.int .i64 0] 2)) ((((w.alloc (.cells #[.int .i64 0] 2)).alloc (.cells #[.int .i64 0] 2)).alloc (.cells #[.slice a len cap] 23)).alloc (.cells #[.func (.func 54) #[] #[.pointer (some ⟨Cc, 0, none⟩), .pointer (some ⟨Co, 0, none⟩), .pointer (some ⟨Cg, 0, none⟩)]] 52)) := Below.on b3 b4
  have ha := cell_newG w (.int .i64 0) 2
  have ha0 : ((((w.alloc (.cells #[.int .i64 0] 2)).alloc (.cells #[.int .i64 0] 2)).alloc (.cells #[.slice a len cap] 23)).alloc (.cells #[.func (.func 54) #[] #[.pointer (some ⟨Cc, 0, none⟩), .pointer (some ⟨Co, 0, none⟩), .pointer (some ⟨Cg, 0, none⟩)]] 52)).cell? ⟨w.heap.size, 0, none⟩ = some (.int .i64 0) := (b14.cell (p := ⟨w.heap.size, 0, none⟩) (by rw [z1]; show w.heap.size < _; omega)).trans ha.1
  have ha1 : ((((w.alloc (.cells #[.int .i64 0] 2)).alloc (.cells #[.int .i64 0] 2)).alloc (.cells #[.slice a len cap] 23)).alloc (.cells #[.func (.func 54) #[] #[.pointer (some ⟨Cc, 0, none⟩), .pointer (some ⟨Co, 0, none⟩), .pointer (some ⟨Cg, 0, none⟩)]] 52)).frozen? ⟨w.heap.size, 0, none⟩ = false := (b14.frozen (p := ⟨w.heap.size, 0, none⟩) (by rw [z1]; show w.heap.size < _; omega)).trans ha.2
  have hs := cell_newG (w.alloc (.cells #[.int .i64 0] 2)) (.int .i64 0) 2
  rw [z1] at hs
  have hs0 : ((((w.alloc (.cells #[.int .i64 0] 2)).alloc (.cells #[.int .i64 0] 2)).alloc (.cells #[.slice a len cap] 23)).alloc (.cells #[.func (.func 54) #[] #[.pointer (some ⟨Cc, 0, none⟩), .pointer (some ⟨Co, 0, none⟩), .pointer (some ⟨Cg, 0, none⟩)]] 52)).cell? ⟨w.heap.size + 1, 0, none⟩ = some (.int .i64 0) := (b24.cell (p := ⟨w.heap.size + 1, 0, none⟩) (by rw [z2]; show w.heap.size + 1 < _; omega)).trans hs.1
  have hs1 : ((((w.alloc (.cells #[.int .i64 0] 2)).alloc (.cells #[.int .i64 0] 2)).alloc (.cells #[.slice a len cap] 23)).alloc (.cells #[.func (.func 54) #[] #[.pointer (some ⟨Cc, 0, none⟩), .pointer (some ⟨Co, 0, none⟩), .pointer (some ⟨Cg, 0, none⟩)]] 52)).frozen? ⟨w.heap.size + 1, 0, none⟩ = false := (b24.frozen (p := ⟨w.heap.size + 1, 0, none⟩) (by rw [z2]; show w.heap.size + 1 < _; omega)).trans hs.2
  have hBl := cell_newG ((w.alloc (.cells #[.int .i64 0] 2)).alloc (.cells #[.int .i64 0] 2)) (.slice a len cap) 23
  rw [z2] at hBl
  have hBl0 : ((((w.alloc (.cells #[.int .i64 0] 2)).alloc (.cells #[.int .i64 0] 2)).alloc (.cells #[.slice a len cap] 23)).alloc (.cells #[.func (.func 54) #[] #[.pointer (some ⟨Cc, 0, none⟩), .pointer (some ⟨Co, 0, none⟩), .pointer (some ⟨Cg, 0, none⟩)]] 52)).cell? ⟨w.heap.size + 1 + 1, 0, none⟩ = some (.slice a len cap) := (b4.cell (p := ⟨w.heap.size + 1 + 1, 0, none⟩) (by rw [z3]; show w.heap.size + 1 + 1 < _; omega)).trans hBl.1
  have hBf := cell_newG (((w.alloc (.cells #[.int .i64 0] 2)).alloc (.cells #[.int .i64 0] 2)).alloc (.cells #[.slice a len cap] 23)) (.func (.func 54) #[] #[.pointer (some ⟨Cc, 0, none⟩), .pointer (some ⟨Co, 0, none⟩), .pointer (some ⟨Cg, 0, none⟩)]) 52
  rw [z3] at hBf
  generalize ((((w.alloc (.cells #[.int .i64 0] 2)).alloc (.cells #[.int .i64 0] 2)).alloc (.cells #[.slice a len cap] 23)).alloc (.cells #[.func (.func 54) #[] #[.pointer (some ⟨Cc, 0, none⟩), .pointer (some ⟨Co, 0, none⟩), .pointer (some ⟨Cg, 0, none⟩)]] 52)) = W0 at hB0 ha0 ha1 hs0 hs1 hBl0 hBf z4 ⊢
  clear b1 b2 b3 b4 b14 b24 hs ha hBl z1 z2 z3
  refine wpIn_rangeFunc_ownH rfl (by omega) (gf := 70) (lb := #[.pointer (some ⟨w.heap.size + 1 + 1, 0, none⟩), .pointer (some ⟨w.heap.size + 1 + 1 + 1, 0, none⟩)]) rfl trivial (enters_of Try.func70 (by kernel_rfl) rfl)
    (holdK_stops 5 (by omega) (w.heap.size + 1 + 1) (w.heap.size + 1 + 1 + 1) w.heap.size (w.heap.size + 1 + 1) W0.heap.size Cc Co Cg a len cap l p hl W0 (hA.below hB0) (fun h A e => by obtain ⟨b, off, e2, hb, _⟩ := hA.2 h; rw [e2] at e; cases e; exact hb) (by omega) (by omega) hfl hB0.size (Nat.le_refl _)
      (fun x W' hK => hP x W' (hB0.trans hK.1)) hBl0 hBf.1)
    kpC_t (kpC_b hB0.size) (Below.refl _ _) (fun _ => rfl)
    (fun pre W => ((W.cell? ⟨w.heap.size, 0, none⟩ = some (.int .i64 (giveI pre).1) ∧ W.frozen? ⟨w.heap.size, 0, none⟩ = false) ∧ (W.cell? ⟨w.heap.size + 1, 0, none⟩ = some (.int .i64 (giveI pre).2) ∧ W.frozen? ⟨w.heap.size + 1, 0, none⟩ = false)) ∧ (Below w.heap.size w W ∧ W0.heap.size ≤ W.heap.size))
    (fun _ _ _ => False)
    (OwnFrom.and (Own.from (fun s A B row hs hg hr => ⟨⟨cell_kept hs.1.1 hg hr, (frozen_kept hs.1.1 hg hr).trans hs.1.2⟩, ⟨cell_kept hs.2.1 hg hr, (frozen_kept hs.2.1 hg hr).trans hs.2.2⟩⟩) _) (OwnFrom.and (ownFrom_below (Nat.le_refl _) hB0.size) (fun _ _ _ _ hs hg _ => Nat.le_trans hs hg.size)))
    (fun _ _ _ _ _ hs _ _ => hs)
    ⟨⟨⟨ha0, ha1⟩, hs0, hs1⟩, hB0, Nat.le_refl _⟩
    (fun x a' W => ∃ Bx, W0.heap.size ≤ Bx ∧ Five W Bx 0 x ∧ a' = { tmps := #[.slice a len cap, .func (.func 54) #[] #[.pointer (some ⟨Cc, 0, none⟩), .pointer (some ⟨Co, 0, none⟩), .pointer (some ⟨Cg, 0, none⟩)], undef, undef, .int .i64 0, .pointer (some ⟨w.heap.size, 0, none⟩), .pointer (some ⟨w.heap.size + 1, 0, none⟩), .pointer (some ⟨Bx, 0, none⟩), .slice a len cap, .func (.func 54) #[] #[.pointer (some ⟨Cc, 0, none⟩), .pointer (some ⟨Co, 0, none⟩), .pointer (some ⟨Cg, 0, none⟩)], .func (.func 70) #[] #[.pointer (some ⟨w.heap.size + 1 + 1, 0, none⟩), .pointer (some ⟨w.heap.size + 1 + 1 + 1, 0, none⟩)], .agg #[.bool x.al, .int .i64 x.wh, .int .i64 x.id, .int .i64 x.fl, .int .i64 x.ma], undef, undef, undef, undef, undef, undef, undef, undef, undef, undef, undef, undef, undef], defers := [] })
    (fun x a' s A B row hs hg hr => by obtain ⟨Bx, h1, h2, h3⟩ := hs; exact ⟨Bx, h1, five_keptG h2 hg (fun r e => (hr r e).2), h3⟩)
    ?assign ?body ?done ?stop
  case assign =>
    rintro lp pre x W K ⟨⟨⟨hc, hf⟩, hc2, hf2⟩, hB, hsz⟩ hK
    gi_wp2
    have hba := bel_alloc W (.cells #[.bool x.al, .int .i64 x.wh, .int .i64 x.id, .int .i64 x.fl, .int .i64 x.ma] 30)
    have hlt1 := block_lt_of_cell hc
    have hlt2 := block_lt_of_cell hc2
    exact hK _ _ ((KeepsOthers.alloc _ _).from _) (kpC_grow hba hB.size hsz) ⟨⟨⟨(hba.cell (p := ⟨w.heap.size, 0, none⟩) hlt1).trans hc, (hba.frozen (p := ⟨w.heap.size, 0, none⟩) hlt1).trans hf⟩, (hba.cell (p := ⟨w.heap.size + 1, 0, none⟩) hlt2).trans hc2, (hba.frozen (p := ⟨w.heap.size + 1, 0, none⟩) hlt2).trans hf2⟩, Below.on hB hba, Nat.le_trans hsz hba.size⟩ ⟨W.heap.size, hsz, five_new W x _, rfl⟩
  case body =>
    rintro lp pre x a' W hlp hr ⟨⟨⟨hc, hf⟩, hc2, hf2⟩, hB, hsz⟩ ⟨Bx, hBx, hF, rfl⟩ hlt
    obtain ⟨c0, c1, c2, c3, c4⟩ := hF
    simp only [Nat.zero_add] at c1 c2 c3 c4
    have hne1 : ¬ Bx = w.heap.size := by omega
    have hne2 : ¬ w.heap.size = Bx := by omega
    cases hal : x.al
    · rw [hal] at c0
      gi_wp2
      refine ⟨(KeepsOthers.setCell _ _ _).from _, ⟨bl_setA (Below.refl _ _) (by omega), fun c o v h1 h2 hv => ?_⟩, ⟨⟨⟨?_, ?_⟩, ?_, ?_⟩, bl_setA hB (by omega), by simpa using hsz⟩⟩
      · rw [World.cell?_setCell_other _ _ _ _ (by intro h; have h2 := congrArg Addr.block h; simp only at h2; omega)]
        exact hv
      · rw [World.cell?_setCell_other _ _ _ _ (by intro h; have h2 := congrArg Addr.block h; simp only at h2; omega), giveI_no hal]
        exact hc
      · rw [World.frozen?_setCell]
        exact hf
      · rw [giveI_said]
        exact World.cell?_setCell_same' _ _ _ (by rw [hc2]; rfl)
      · rw [World.frozen?_setCell]
        exact hf2
    · rw [hal] at c0
      gi_wp2
      refine ⟨((KeepsOthers.setCell _ _ _).trans (KeepsOthers.setCell _ _ _)).from _, ⟨bl_setA (bl_setA (Below.refl _ _) (by omega)) (by omega), fun c o v h1 h2 hv => ?_⟩, ⟨⟨⟨?_, ?_⟩, ?_, ?_⟩, bl_setA (bl_setA hB (by omega)) (by omega), by simpa using hsz⟩⟩
      · rw [World.cell?_setCell_other _ _ _ _ (by intro h; have h2 := congrArg Addr.block h; simp only at h2; omega), World.cell?_setCell_other _ _ _ _ (by intro h; have h2 := congrArg Addr.block h; simp only at h2; omega)]
        exact hv
      · rw [World.cell?_setCell_other _ _ _ _ (by intro h; have h2 := congrArg Addr.block h; simp only at h2; omega), giveI_al hal]
        exact World.cell?_setCell_same' _ _ _ (by rw [hc]; rfl)
      · rw [World.frozen?_setCell, World.frozen?_setCell]
        exact hf
      · rw [giveI_said]
        exact World.cell?_setCell_same' _ _ _ (by rw [World.cell?_setCell_other _ _ _ _ (by intro h; have h2 := congrArg Addr.block h; simp only at h2; omega), hc2]; rfl)
      · rw [World.frozen?_setCell, World.frozen?_setCell]
        exact hf2
  case done =>
    rintro D ys W hD rfl ⟨⟨⟨hc, hf⟩, hc2, hf2⟩, hB, hsz⟩ hK
    gi_wp2
    refine ⟨by simp, .inl ⟨_, _, rfl, run_takeDeferred hK, ?_⟩⟩
    exact ⟨_, results_tmp rfl _ _ _, rfl, hB.trans (belowK_b (w := w) (Nat.le_refl _) W D _ _ (Nat.le_trans hB0.size hD) hK rfl rfl)⟩
  case stop =>
    rintro D c pre W _ _ h _
    exact h.elim
end Go.Proofs.Ytibofkjonepbpab
