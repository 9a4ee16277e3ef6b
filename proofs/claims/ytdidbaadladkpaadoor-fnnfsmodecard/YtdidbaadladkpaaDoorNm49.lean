/- Laid together: Gives. -/
import Derived.Test.YtdidbaadladkpaaDoorNm48
import Derived.Test.YtdidbaadladkpaaDoorNm30
/- impl.NfsGives. -/
namespace Go.Proofs.YtdidbaadladkpaaDoor
open Go.RowKit Go.PlainAid Go.Deep
set_option linter.unusedVariables false
theorem ret_intG {a b : Int} (h : a = b) : Ending.returned (.int .i64 a) = .returned (.int .i64 b) := by rw [h]
/-- NfsGives. -/
def givesI (l : List Ac) (owner group u g : Int) (cl : Nat) (f : Nat → Int) : Int :=
  if acesB l = true ∧ inR 0 9999 owner = true ∧ inR 0 9999 group = true ∧ credB u g cl f = true then (giveI (fltP (askB owner group u g cl f) l l.length)).1 else 0
theorem givesI_no {l : List Ac} {owner group u g : Int} {cl : Nat} {f : Nat → Int} (h : ¬ (acesB l = true ∧ inR 0 9999 owner = true ∧ inR 0 9999 group = true ∧ credB u g cl f = true)) : givesI l owner group u g cl f = 0 := by rw [givesI, if_neg h]
theorem aces_parts {l : List Ac} (h : acesB l = true) : l.length ≤ 32 ∧ ∀ i, i < l.length → aceB (acAt l i) = true := by
  simp only [acesB, Bool.and_eq_true, decide_eq_true_eq] at h
  exact ⟨h.1, fun i hi => allA_at hi h.2⟩
theorem asker_world (w : World) (owner group : Int) (v0 v1 v2 v3 : Value) (t t2 : TypeId) :
    Below w.heap.size w (((w.alloc (.cells #[.int .i64 owner] t)).alloc (.cells #[.int .i64 group] t)).alloc (.cells #[v0, v1, v2, v3] t2)) ∧ Box4A (((w.alloc (.cells #[.int .i64 owner] t)).alloc (.cells #[.int .i64 group] t)).alloc (.cells #[v0, v1, v2, v3] t2)) (w.heap.size + 1 + 1) v0 v1 v2 v3 ∧ (((w.alloc (.cells #[.int .i64 owner] t)).alloc (.cells #[.int .i64 group] t)).alloc (.cells #[v0, v1, v2, v3] t2)).cell? ⟨w.heap.size, 0, none⟩ = some (.int .i64 owner) ∧ (((w.alloc (.cells #[.int .i64 owner] t)).alloc (.cells #[.int .i64 group] t)).alloc (.cells #[v0, v1, v2, v3] t2)).cell? ⟨w.heap.size + 1, 0, none⟩ = some (.int .i64 group) := by
  have b1 := bel_alloc w (.cells #[.int .i64 owner] t)
  have b2 := bel_alloc (w.alloc (.cells #[.int .i64 owner] t)) (.cells #[.int .i64 group] t)
  have b3 := bel_alloc ((w.alloc (.cells #[.int .i64 owner] t)).alloc (.cells #[.int .i64 group] t)) (.cells #[v0, v1, v2, v3] t2)
  have z1 : (w.alloc (.cells #[.int .i64 owner] t)).heap.size = w.heap.size + 1 := by simp
  have z2 : ((w.alloc (.cells #[.int .i64 owner] t)).alloc (.cells #[.int .i64 group] t)).heap.size = w.heap.size + 1 + 1 := by simp
  have c1 := (cell_newG w (.int .i64 owner) t).1
  have c2 := (cell_newG (w.alloc (.cells #[.int .i64 owner] t)) (.int .i64 group) t).1
  have bx := box4A_new ((w.alloc (.cells #[.int .i64 owner] t)).alloc (.cells #[.int .i64 group] t)) v0 v1 v2 v3 t2
  rw [z2] at bx b3
  rw [z1] at c2 b2
  refine ⟨?_, bx, ?_, ?_⟩
  · exact b1.trans ((b2.mono (by omega)).trans (b3.mono (by omega)))
  · exact (b3.cell (p := ⟨w.heap.size, 0, none⟩) (by show w.heap.size < _; omega)).trans ((b2.cell (p := ⟨w.heap.size, 0, none⟩) (by show w.heap.size < _; omega)).trans c1)
  · exact (b3.cell (p := ⟨w.heap.size + 1, 0, none⟩) (by show w.heap.size + 1 < _; omega)).trans c2
theorem ofAskerW (owner group u g : Int) (ca : Option Addr) (cl cc : Nat) (cr : Bool) (w : World) :
    Calls Tryd.prog 45 #[.int .i64 owner, .int .i64 group, .agg #[.int .i64 u, .int .i64 g, .slice ca cl cc, .bool cr]] w fun e w' => ∃ Cc Co Cg, e = .returned (.func (.func 77) #[] #[.pointer (some ⟨Cc, 0, none⟩), .pointer (some ⟨Co, 0, none⟩), .pointer (some ⟨Cg, 0, none⟩)]) ∧ Below w.heap.size w w' ∧ Box4A w' Cc (.int .i64 u) (.int .i64 g) (.slice ca cl cc) (.bool cr) ∧ w'.cell? ⟨Co, 0, none⟩ = some (.int .i64 owner) ∧ w'.cell? ⟨Cg, 0, none⟩ = some (.int .i64 group) := by
  refine (ofAsker_any owner group u g ca cl cc cr w).mono ?_
  rintro e w' ⟨rfl, rfl⟩
  exact ⟨_, _, _, rfl, asker_world w owner group (.int .i64 u) (.int .i64 g) (.slice ca cl cc) (.bool cr) _ _⟩
/-- askRight. -/
def askR (l : List Ac) (owner group u g : Int) (cl : Nat) (f : Nat → Int) : Bool := acesB l && (inR 0 9999 owner && (inR 0 9999 group && credB u g cl f))
theorem askR_iff {l : List Ac} {owner group u g : Int} {cl : Nat} {f : Nat → Int} : askR l owner group u g cl f = true ↔ (acesB l = true ∧ inR 0 9999 owner = true ∧ inR 0 9999 group = true ∧ credB u g cl f = true) := by simp [askR]
theorem givesI_askN {l : List Ac} {owner group u g : Int} {cl : Nat} {f : Nat → Int} (h : askR l owner group u g cl f = false) : givesI l owner group u g cl f = 0 := givesI_no (fun h2 => by rw [askR_iff.2 h2] at h; cases h)
theorem givesI_askY {l : List Ac} {owner group u g : Int} {cl : Nat} {f : Nat → Int} (h : askR l owner group u g cl f = true) : givesI l owner group u g cl f = (giveI (fltP (askB owner group u g cl f) l l.length)).1 := by rw [givesI, if_pos (askR_iff.1 h)]
set_option maxRecDepth 100000 in
set_option maxHeartbeats 4000000 in
/-- impl.askRight. -/
theorem iAskRight_any (a : Option Addr) (len cap : Nat) (l : List Ac) (owner group u g : Int) (ca : Option Addr) (cl cc : Nat) (cr : Bool) (f : Nat → Int) (w : World) (hA : Acs a len l w) (hi : Ints ca cl f w) :
    Calls Tryd.prog 43 #[.slice a len cap, .int .i64 owner, .int .i64 group, .agg #[.int .i64 u, .int .i64 g, .slice ca cl cc, .bool cr]] w fun e w' => e = .returned (.bool (askR l owner group u g cl f)) ∧ Below w.heap.size w w' := by
  have hr : Hid (∀ w', Below w.heap.size w w' → Calls Tryd.prog 23 #[.slice a len cap] w' fun e w'' => e = .returned (.bool (acesB l)) ∧ Below w'.heap.size w' w'') := (fun w' hb => iNfsRight_any a len cap l w' (hA.below hb))
  have hcr : Hid (∀ w', Below w.heap.size w w' → Calls Tryd.prog 75 #[.agg #[.int .i64 u, .int .i64 g, .slice ca cl cc, .bool cr]] w' fun e w'' => e = .returned (.bool (credB u g cl f)) ∧ Below w'.heap.size w' w'') := (fun w' hb => iCredRight_any u g ca cl cc cr f w' (hi.below hb))
  have HX : Hid (Box4A (w.alloc (.cells #[.int .i64 u, .int .i64 g, .slice ca cl cc, .bool cr] 26)) w.heap.size (.int .i64 u) (.int .i64 g) (.slice ca cl cc) (.bool cr)) := box4A_new _ _ _ _ _ _
  have hW : Hid (Below w.heap.size w (w.alloc (.cells #[.int .i64 u, .int .i64 g, .slice ca cl cc, .bool cr] 26))) := bel_alloc _ _
  clear hA hi
  go_enter Tryd.func43, Tryd.ntmps43
  go_wp2_with fail
  refine (hr.out _ hW.out).mono ?_
  rintro e w1 ⟨rfl, hb1⟩
  have hW1 : Hid (Below w.heap.size w w1) := Below.on hW.out hb1
  have hX1 : Hid (Box4A w1 w.heap.size (.int .i64 u) (.int .i64 g) (.slice ca cl cc) (.bool cr)) := HX.out.below HX.out.lt hb1
  clear hr hb1 HX hW
  cases h : acesB l
  · have hno : Hid (askR l owner group u g cl f = false) := (by show _ = _; simp [askR, h])
    clear h hcr hX1
    go_wp2
    go_ret
    exact ⟨ret_boolW hno.out.symm, hW1.out⟩
  cases h2 : inR 0 9999 owner
  · have hno : Hid (askR l owner group u g cl f = false) := (by show _ = _; simp [askR, h2])
    clear h hcr hX1
    go_wp2_with (go_at_call 74; refine (isId_any _ _).mono ?_; rintro e w' ⟨rfl, rfl⟩)
    go_ret
    exact ⟨ret_boolW hno.out.symm, hW1.out⟩
  cases h3 : inR 0 9999 group
  · have hno : Hid (askR l owner group u g cl f = false) := (by show _ = _; simp [askR, h3])
    clear h hcr hX1
    go_wp2_with (go_at_call 74; refine (isId_any _ _).mono ?_; rintro e w' ⟨rfl, rfl⟩)
    go_ret
    exact ⟨ret_boolW hno.out.symm, hW1.out⟩
  obtain ⟨xl, x0, x1, x2, x3⟩ := hX1.out
  have hyes : Hid (askR l owner group u g cl f = credB u g cl f) := (by show _ = _; simp [askR, h, h2, h3])
  clear h hX1
  go_wp2_with (first | (go_at_call 74; refine (isId_any _ _).mono ?_; rintro e w' ⟨rfl, rfl⟩) | (go_at_call 75; refine (hcr.out _ hW1.out).mono ?_; rintro e w2 ⟨rfl, hb2⟩))
  go_ret
  exact ⟨ret_boolW hyes.out.symm, Below.on hW1.out hb2⟩
set_option maxRecDepth 100000 in
set_option maxHeartbeats 4000000 in
/-- impl.NfsGives. -/
theorem iNfsGives_any (a : Option Addr) (len cap : Nat) (l : List Ac) (owner group u g : Int) (ca : Option Addr) (cl cc : Nat) (cr : Bool) (f : Nat → Int) (w : World) (hA : Acs a len l w) (hi : Ints ca cl f w) :
    Calls Tryd.prog 6 #[.slice a len cap, .int .i64 owner, .int .i64 group, .agg #[.int .i64 u, .int .i64 g, .slice ca cl cc, .bool cr]] w fun e w' => e = .returned (.int .i64 (givesI l owner group u g cl f)) ∧ Below w.heap.size w w' := by
  have hln := hA.1
  have hr : Hid (∀ w', Below w.heap.size w w' → Calls Tryd.prog 43 #[.slice a len cap, .int .i64 owner, .int .i64 group, .agg #[.int .i64 u, .int .i64 g, .slice ca cl cc, .bool cr]] w' fun e w'' => e = .returned (.bool (askR l owner group u g cl f)) ∧ Below w'.heap.size w' w'') := (fun w' hb => iAskRight_any a len cap l owner group u g ca cl cc cr f w' (hA.below hb) (hi.below hb))
  have hgv : Hid (acesB l = true → ∀ Cc Co Cg w', Below w.heap.size w w' → Box4A w' Cc (.int .i64 u) (.int .i64 g) (.slice ca cl cc) (.bool cr) → w'.cell? ⟨Co, 0, none⟩ = some (.int .i64 owner) → w'.cell? ⟨Cg, 0, none⟩ = some (.int .i64 group) → Calls Tryd.prog 44 #[.slice a len cap, (.func (.func 77) #[] #[.pointer (some ⟨Cc, 0, none⟩), .pointer (some ⟨Co, 0, none⟩), .pointer (some ⟨Cg, 0, none⟩)])] w' fun e w'' => e = .returned (.int .i64 (giveI (fltP (askB owner group u g cl f) l len)).1) ∧ Below w'.heap.size w' w'') := (fun h Cc Co Cg w' hb hbx ho hg => by
    obtain ⟨h1, h2⟩ := aces_parts h
    exact givenK_any a len cap l Cc Co Cg (askB owner group u g cl f) (by omega) (fun i hi => (aceB_iff.1 (h2 i (by omega))).2.2.2.1.1) w' (hA.below hb) (fun x W' hB => ofAsker1_any x owner group u g ca cl cc cr f Cc Co Cg W' (hi.below (Below.on hb hB)) (hbx.below hbx.lt hB) ((hB.cell (p := ⟨Co, 0, none⟩) (block_lt_of_cell ho)).trans ho) ((hB.cell (p := ⟨Cg, 0, none⟩) (block_lt_of_cell hg)).trans hg)))
  rw [← hln] at hgv
  have HX : Hid (Box4A (w.alloc (.cells #[.int .i64 u, .int .i64 g, .slice ca cl cc, .bool cr] 26)) w.heap.size (.int .i64 u) (.int .i64 g) (.slice ca cl cc) (.bool cr)) := box4A_new _ _ _ _ _ _
  have hW : Hid (Below w.heap.size w (w.alloc (.cells #[.int .i64 u, .int .i64 g, .slice ca cl cc, .bool cr] 26))) := bel_alloc _ _
  have HL : Hid (l.length = len) := hln
  clear hA hi hln
  go_enter Tryd.func6, Tryd.ntmps6
  obtain ⟨xl, x0, x1, x2, x3⟩ := HX.out
  go_wp2_with fail
  refine (hr.out _ hW.out).mono ?_
  rintro e w1 ⟨rfl, hb1⟩
  have hW1 : Hid (Below w.heap.size w w1) := Below.on hW.out hb1
  have hX1 : Hid (Box4A w1 w.heap.size (.int .i64 u) (.int .i64 g) (.slice ca cl cc) (.bool cr)) := HX.out.below HX.out.lt hb1
  clear hr hb1 HX hW xl x0 x1 x2 x3
  cases h : askR l owner group u g cl f
  · have hno : Hid (givesI l owner group u g cl f = 0) := givesI_askN h
    clear h hgv hX1
    go_wp2
    go_ret
    exact ⟨ret_intG hno.out.symm, hW1.out⟩
  obtain ⟨xl, x0, x1, x2, x3⟩ := hX1.out
  have hyes : Hid (givesI l owner group u g cl f = (giveI (fltP (askB owner group u g cl f) l l.length)).1) := givesI_askY h
  have hgv2 := hgv.out (askR_iff.1 h).1
  have HG : Hid (∀ Cc Co Cg w', Below w.heap.size w w' → Box4A w' Cc (.int .i64 u) (.int .i64 g) (.slice ca cl cc) (.bool cr) → w'.cell? ⟨Co, 0, none⟩ = some (.int .i64 owner) → w'.cell? ⟨Cg, 0, none⟩ = some (.int .i64 group) → Calls Tryd.prog 44 #[.slice a len cap, (.func (.func 77) #[] #[.pointer (some ⟨Cc, 0, none⟩), .pointer (some ⟨Co, 0, none⟩), .pointer (some ⟨Cg, 0, none⟩)])] w' fun e w'' => e = .returned (.int .i64 (givesI l owner group u g cl f)) ∧ Below w'.heap.size w' w'') := (fun Cc Co Cg w' h5 h6 h7 h8 => by rw [hyes.out]; rw [HL.out] at hgv2 ⊢; exact hgv2 Cc Co Cg w' h5 h6 h7 h8)
  clear h hgv hgv2 hyes HL
  generalize hR : givesI l owner group u g cl f = R at HG ⊢
  have HR : Hid (givesI l owner group u g cl f = R) := hR
  clear hR
  go_wp2_with (first | (go_at_call 45; refine (ofAskerW _ _ _ _ _ _ _ _ _).mono ?_; rintro e w3 ⟨Cc, Co, Cg, rfl, hb3, hbx, hco, hcg⟩) | (go_at_call 44; refine (HG.out _ _ _ _ (Below.on hW1.out hb3) hbx hco hcg).mono ?_; rintro e w4 ⟨rfl, hb4⟩))
  go_ret
  exact ⟨ret_intG HR.out.symm, Below.on (Below.on hW1.out hb3) hb4⟩
end Go.Proofs.YtdidbaadladkpaaDoor
