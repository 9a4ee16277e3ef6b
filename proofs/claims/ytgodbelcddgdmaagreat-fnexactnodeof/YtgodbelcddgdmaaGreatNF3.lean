/- Laid together: NamedTo, AclTo, AclEq. -/
import Derived.Test.YtgodbelcddgdmaaGreatNF1
import Derived.Deep.OwnRows
import Derived.Deep.QuietTactic
import Derived.BigQuiet
import Derived.Handy
import Derived.Lib.QuietBelow
/- laws.toNamed, laws.toNamedS: a copy of a list of pairs. -/
namespace Go.Proofs.YtgodbelcddgdmaaGreat
open Go.RowKit Go.PlainAid
set_option linter.unusedVariables false
theorem bl_setN {B b o : Nat} {W w1 : World} {x : Value} (hb : Below B W w1) (h : B ≤ b) : Below B W (w1.setCell ⟨b, o, none⟩ x) := hb.setCell h _
theorem bl3N (w : World) (o1 o2 o3 : Obj) : Below w.heap.size w (((w.alloc o1).alloc o2).alloc o3) := (((Below.refl _ _).alloc (Nat.le_refl _) _).alloc (by simp) _).alloc (by simp; omega) _
theorem bl_cellN {W w1 : World} (hb : Below W.heap.size W w1) : (∀ b o, b < W.heap.size → w1.cell? ⟨b, o, none⟩ = W.cell? ⟨b, o, none⟩) ∧ (∀ b o, b < W.heap.size → w1.frozen? ⟨b, o, none⟩ = W.frozen? ⟨b, o, none⟩) :=
  ⟨fun b o h => hb.cell (p := ⟨b, o, none⟩) h, fun b o h => hb.frozen (p := ⟨b, o, none⟩) h⟩
/-- What a world holds of a row of pairs that may be written. -/
def PHold (w : World) (B : Nat) (F G : Nat → Int) (n : Nat) : Prop := ∀ i, i < n → (w.cell? ⟨B, i * 2, none⟩ = some (.int .i64 (F i)) ∧ w.cell? ⟨B, i * 2 + 1, none⟩ = some (.int .i64 (G i))) ∧ w.frozen? ⟨B, i * 2, none⟩ = false ∧ w.frozen? ⟨B, i * 2 + 1, none⟩ = false
theorem PHold.below {w w' : World} {B : Nat} {F G : Nat → Int} {n : Nat} (h : PHold w B F G n) (hlt : B < w.heap.size) (hb : Below w.heap.size w w') : PHold w' B F G n := fun i hi =>
  ⟨⟨(hb.cell (p := ⟨B, i * 2, none⟩) hlt).trans (h i hi).1.1, (hb.cell (p := ⟨B, i * 2 + 1, none⟩) hlt).trans (h i hi).1.2⟩, (hb.frozen (p := ⟨B, i * 2, none⟩) hlt).trans (h i hi).2.1, (hb.frozen (p := ⟨B, i * 2 + 1, none⟩) hlt).trans (h i hi).2.2⟩
theorem PHold.set0 {w : World} {B : Nat} {F G : Nat → Int} {n : Nat} (h : PHold w B F G n) (k : Nat) (hk : k < n) (v : Int) : PHold (w.setCell ⟨B, k * 2, none⟩ (.int .i64 v)) B (fun i => if i = k then v else F i) G n := by
  intro i hi
  have h1 := h i hi
  rw [World.frozen?_setCell, World.frozen?_setCell]
  refine ⟨⟨?_, ?_⟩, h1.2⟩
  · by_cases e : i = k
    · subst e
      simp only [if_pos]
      simp [go_sem, h1.1.1]
    · simp only [if_neg e]
      rw [← h1.1.1]
      exact World.cell?_setCell_other _ _ _ _ (by intro h; have h2 := congrArg Addr.off h; simp only at h2; omega)
  · rw [← h1.1.2]
    exact World.cell?_setCell_other _ _ _ _ (by intro h; have h2 := congrArg Addr.off h; simp only at h2; omega)
theorem PHold.set1 {w : World} {B : Nat} {F G : Nat → Int} {n : Nat} (h : PHold w B F G n) (k : Nat) (hk : k < n) (v : Int) : PHold (w.setCell ⟨B, k * 2 + 1, none⟩ (.int .i64 v)) B F (fun i => if i = k then v else G i) n := by
  intro i hi
  have h1 := h i hi
  rw [World.frozen?_setCell, World.frozen?_setCell]
  refine ⟨⟨?_, ?_⟩, h1.2⟩
  · rw [← h1.1.1]
    exact World.cell?_setCell_other _ _ _ _ (by intro h; have h2 := congrArg Addr.off h; simp only at h2; omega)
  · by_cases e : i = k
    · subst e
      simp only [if_pos]
      simp [go_sem, h1.1.2]
    · simp only [if_neg e]
      rw [← h1.1.2]
      exact World.cell?_setCell_other _ _ _ _ (by intro h; have h2 := congrArg Addr.off h; simp only at h2; omega)
/-- A list of pairs in memory of its own, that may be written. -/
def Own (a : Option Addr) (len : Nat) (l : List (Int × Int)) (w : World) : Prop :=
  l.length = len ∧ (0 < len → ∃ B, a = some ⟨B, 0, none⟩ ∧ B < w.heap.size ∧ PHold w B (idAt l) (btAt l) len)
theorem Own.prs {a : Option Addr} {len : Nat} {l : List (Int × Int)} {w : World} (h : Own a len l w) : Prs a len l w := by
  refine ⟨h.1, fun h0 => ?_⟩
  obtain ⟨B, ha, hlt, hp⟩ := h.2 h0
  exact ⟨B, 0, ha, hlt, fun i hi => by simpa using (hp i hi).1⟩
theorem Own.below {a : Option Addr} {len : Nat} {l : List (Int × Int)} {w w' : World} (h : Own a len l w) (hb : Below w.heap.size w w') : Own a len l w' := by
  refine ⟨h.1, fun h0 => ?_⟩
  obtain ⟨B, ha, hlt, hp⟩ := h.2 h0
  exact ⟨B, ha, Nat.lt_of_lt_of_le hlt hb.size, hp.below hlt hb⟩
theorem made_pairs (w : World) (n : Nat) (t : TypeId) : PHold (w.alloc (.cells (madeCells #[.int .i64 0, .int .i64 0] (n * 2)) t)) w.heap.size (fun _ => 0) (fun _ => 0) n := by
  have hb : (w.alloc (.cells (madeCells #[.int .i64 0, .int .i64 0] (n * 2)) t)).heap[w.heap.size]? = some (.cells (madeCells #[.int .i64 0, .int .i64 0] (n * 2)) t) := by
    rw [World.alloc]
    exact Array.getElem?_push_size
  have hc : ∀ j, j < n * 2 → (madeCells #[Value.int .i64 0, Value.int .i64 0] (n * 2))[j]? = some (.int .i64 0) := by
    intro j hj
    have : j % 2 = 0 ∨ j % 2 = 1 := by omega
    rcases this with e | e <;> simp [madeCells, hj, e]
  intro i hi
  refine ⟨⟨?_, ?_⟩, ?_, ?_⟩
  · simp only [World.cell?, hb]
    simpa using hc (i * 2) (by omega)
  · simp only [World.cell?, hb]
    simpa using hc (i * 2 + 1) (by omega)
  · simp only [World.frozen?, hb]
    simp
  · simp only [World.frozen?, hb]
    simp
theorem run_make_pairs {P : Program} (t e : TypeId) (ht : P.underlying t = some (.slice e)) (hinfo : (P.info? e).map (fun i => (i.zero, i.size, i.bytes)) = some (some (.agg #[.int .i64 0, .int .i64 0]), 2, 16))
    (kl kc : IntKind) (n : Nat) (hbytes : 16 * n ≤ 281474976710656) (w : World) :
    (Instr.makeSlice t (.int kl (n : Int)) (.int kc (n : Int))).run P w = .ok (.slice (some ⟨w.heap.size, 0, none⟩) n n) (w.alloc (.cells (madeCells #[.int .i64 0, .int .i64 0] (n * 2)) e)) := by
  obtain ⟨i, hi, hzz⟩ := Option.map_eq_some_iff.1 hinfo
  simp only [Prod.mk.injEq] at hzz
  obtain ⟨hz, hs, hb⟩ := hzz
  have hb' : (i.bytes : Int) * (n : Int) ≤ 281474976710656 := by
    have h : ((16 * n : Nat) : Int) ≤ 281474976710656 := by omega
    rw [hb]
    rwa [Int.natCast_mul] at h
  have hr := run_make (P := P) w t e i _ ht hi hz kl kc n n (by omega) (Int.le_refl _) hb' (by omega)
  simp only [Int.toNat_natCast, hs] at hr
  exact hr
set_option maxHeartbeats 1000000 in
theorem toNamed_any (x y : Int) (w : World) :
    Calls Tryz.prog 91 #[.agg #[.int .i64 x, .int .i64 y]] w fun e w' => e = .returned (.agg #[.int .i64 x, .int .i64 y]) ∧ Below w.heap.size w w' := by
  go_enter Tryz.func91, Tryz.ntmps91
  go_wp2
  exact bodyPost_ret (v := .agg #[.int .i64 x, .int .i64 y]) (by simp [results, Tryz.results91, go_sem]) rfl ⟨rfl, bl3N _ _ _ _⟩
theorem infoNamed : (Tryz.prog.info? 90).map (fun i => (i.zero, i.size, i.bytes)) = some (some (.agg #[.int .i64 0, .int .i64 0]), 2, 16) := by kernel_rfl
set_option maxHeartbeats 2000000 in
/-- laws.toNamedS. -/
theorem toNamedS_any (a : Option Addr) (len cap : Nat) (l : List (Int × Int)) (hl : len ≤ 1048576) (w : World) (hi : Prs a len l w) :
    Calls Tryz.prog 77 #[.slice a len cap] w fun e w' => e = .returned (.slice (some ⟨w.heap.size, 0, none⟩) len len) ∧ Own (some ⟨w.heap.size, 0, none⟩) len l w' ∧ w.heap.size < w'.heap.size ∧ Below w.heap.size w w' := by
  have hmk := run_make_pairs (P := Tryz.prog) 26 90 Tryz.underlying26 infoNamed .i64 .i64 len (by omega) w
  have hH0 : Hid (PHold (w.alloc (.cells (madeCells #[.int .i64 0, .int .i64 0] (len * 2)) 90)) w.heap.size (fun _ => 0) (fun _ => 0) len) := made_pairs w len _
  have hB0 : Hid (Below w.heap.size w (w.alloc (.cells (madeCells #[.int .i64 0, .int .i64 0] (len * 2)) 90))) := (Below.refl _ _).alloc (Nat.le_refl _) _
  have hZ0 : Hid (w.heap.size < (w.alloc (.cells (madeCells #[.int .i64 0, .int .i64 0] (len * 2)) 90)).heap.size) := (by show _ < _; simp)
  generalize w.alloc (.cells (madeCells #[.int .i64 0, .int .i64 0] (len * 2)) 90) = w0 at hmk hH0 hB0 hZ0
  have HI : Hid (Prs a len l w) := hi
  clear hi
  go_enter Tryz.func77, Tryz.ntmps77
  go_wp2
  go_loopw [4] (fun i wr => ∃ (k : Nat) (F G : Nat → Int), k ≤ len ∧ i = .int .i64 k ∧ Hid (PHold wr w.heap.size F G len) ∧ Hid (∀ j, j < k → F j = idAt l j ∧ G j = btAt l j) ∧ Hid (Below w.heap.size w wr) ∧ Hid (w.heap.size < wr.heap.size)) (fun i _ => len - (intOf i).toNat)
  case atStart => exact ⟨0, fun _ => 0, fun _ => 0, Nat.zero_le _, rfl, hH0, fun j hj => absurd hj (by omega), hB0, hZ0⟩
  case round =>
    obtain ⟨k, F, G, hk, rfl, hH, hg, hB, hZ⟩ := hrel
    by_cases hlt : k < len
    · obtain ⟨b, off, rfl, hb, hc⟩ := HI.out.2 (by omega)
      have hlt' : (k : Int) < (len : Int) := by omega
      have g0 : wr.cell? ⟨b, off + k * 2, none⟩ = some (.int .i64 (idAt l k)) := (hB.out.cell (p := ⟨b, off + k * 2, none⟩) hb).trans (hc k hlt).1
      have g1 : wr.cell? ⟨b, off + k * 2 + 1, none⟩ = some (.int .i64 (btAt l k)) := (hB.out.cell (p := ⟨b, off + k * 2 + 1, none⟩) hb).trans (hc k hlt).2
      clear hc hmk hH0 hB0 hZ0 HI
      go_wp2_with fail
      refine (toNamed_any _ _ _).mono ?_
      rintro e w1 ⟨rfl, hb1⟩
      have hH1 := hH.out.below hZ.out hb1
      have q := hH1 k hlt
      have g2 := q.1.1
      have g3 := q.1.2
      have g4 := q.2.1
      have g5 := q.2.2
      have hB1 : Below w.heap.size w w1 := hB.out.trans (hb1.mono hB.out.size)
      have hZ1 : w.heap.size < w1.heap.size := Nat.lt_of_lt_of_le hZ.out hb1.size
      have hH2 : Hid (PHold ((w1.setCell ⟨w.heap.size, k * 2, none⟩ (.int .i64 (idAt l k))).setCell ⟨w.heap.size, k * 2 + 1, none⟩ (.int .i64 (btAt l k))) w.heap.size (fun i => if i = k then idAt l k else F i) (fun i => if i = k then btAt l k else G i) len) := (hH1.set0 k hlt _).set1 k hlt _
      have hg2 : Hid (∀ j, j < k + 1 → (fun i => if i = k then idAt l k else F i) j = idAt l j ∧ (fun i => if i = k then btAt l k else G i) j = btAt l j) := (fun j hj => by
        show (if j = k then idAt l k else F j) = idAt l j ∧ (if j = k then btAt l k else G j) = btAt l j
        by_cases e : j = k
        · rw [if_pos e, if_pos e, e]; exact ⟨rfl, rfl⟩
        · rw [if_neg e, if_neg e]; exact hg.out j (by omega))
      have hB2 : Hid (Below w.heap.size w ((w1.setCell ⟨w.heap.size, k * 2, none⟩ (.int .i64 (idAt l k))).setCell ⟨w.heap.size, k * 2 + 1, none⟩ (.int .i64 (btAt l k)))) := bl_setN (bl_setN hB1 (Nat.le_refl _)) (Nat.le_refl _)
      have hZ2 : Hid (w.heap.size < ((w1.setCell ⟨w.heap.size, k * 2, none⟩ (.int .i64 (idAt l k))).setCell ⟨w.heap.size, k * 2 + 1, none⟩ (.int .i64 (btAt l k))).heap.size) := (by show _ < _; simp; exact hZ1)
      clear q hH hg hB hH1 hb1 g0 g1 hB1
      go_wp2
      go_roundw
      case rel => exact ⟨k + 1, _, _, by omega, by go_num, hH2, hg2, hB2, hZ2⟩
      case measure => simp [intOf]; omega
    · have : k = len := by omega
      subst this
      go_wp2
      go_ret
      refine ⟨rfl, ⟨HI.out.1, fun _ => ⟨w.heap.size, rfl, hZ.out, fun i hi => ?_⟩⟩, hZ.out, hB.out⟩
      have h1 := hH.out i hi
      rw [(hg.out i hi).1, (hg.out i hi).2] at h1
      exact h1
theorem Own.set {a : Option Addr} {len : Nat} {l : List (Int × Int)} {w : World} {b o : Nat} {v : Value} (h : Own a len l w) (hne : ∀ B, a = some ⟨B, 0, none⟩ → b ≠ B) : Own a len l (w.setCell ⟨b, o, none⟩ v) := by
  refine ⟨h.1, fun h0 => ?_⟩
  obtain ⟨B, ha, hlt, hp⟩ := h.2 h0
  have hn := hne B ha
  refine ⟨B, ha, by simpa using hlt, fun i hi => ?_⟩
  have h1 := hp i hi
  rw [World.frozen?_setCell, World.frozen?_setCell]
  refine ⟨⟨?_, ?_⟩, h1.2⟩
  · rw [← h1.1.1]
    exact World.cell?_setCell_other _ _ _ _ (by intro h; have h2 := congrArg Addr.block h; simp only at h2; omega)
  · rw [← h1.1.2]
    exact World.cell?_setCell_other _ _ _ _ (by intro h; have h2 := congrArg Addr.block h; simp only at h2; omega)
theorem bl3N_size {w : World} {o1 o2 o3 : Obj} : (((w.alloc o1).alloc o2).alloc o3).heap.size = w.heap.size + 1 + 1 + 1 := by simp
set_option maxHeartbeats 4000000 in
/-- laws.toAcl. -/
theorem toAcl_any (u g o : Int) (au : Option Addr) (lu cu : Nat) (ag : Option Addr) (lg cg : Nat) (r : Bool) (m : Int) (us gs : List (Int × Int)) (h1 : lu ≤ 1048576) (h2 : lg ≤ 1048576) (w : World) (hu : Prs au lu us w) (hg : Prs ag lg gs w) :
    Calls Tryz.prog 57 #[.agg #[.int .i64 u, .int .i64 g, .int .i64 o, .slice au lu cu, .slice ag lg cg, .bool r, .int .i64 m]] w fun e w' => ∃ B1 B2, e = .returned (.agg #[.int .i64 u, .int .i64 g, .int .i64 o, .slice (some ⟨B1, 0, none⟩) lu lu, .slice (some ⟨B2, 0, none⟩) lg lg, .bool r, .int .i64 m]) ∧
      Own (some ⟨B1, 0, none⟩) lu us w' ∧ Own (some ⟨B2, 0, none⟩) lg gs w' ∧ w.heap.size ≤ B1 ∧ B1 < B2 ∧ B2 < w'.heap.size ∧ Below w.heap.size w w' := by
  have hc : Hid (∀ w', Below w.heap.size w w' → Calls Tryz.prog 77 #[.slice au lu cu] w' fun e w'' => e = .returned (.slice (some ⟨w'.heap.size, 0, none⟩) lu lu) ∧ Own (some ⟨w'.heap.size, 0, none⟩) lu us w'' ∧ w'.heap.size < w''.heap.size ∧ Below w'.heap.size w' w'') := (fun w' hb => toNamedS_any au lu cu us h1 w' (hu.below hb))
  have hd : Hid (∀ w', Below w.heap.size w w' → Calls Tryz.prog 77 #[.slice ag lg cg] w' fun e w'' => e = .returned (.slice (some ⟨w'.heap.size, 0, none⟩) lg lg) ∧ Own (some ⟨w'.heap.size, 0, none⟩) lg gs w'' ∧ w'.heap.size < w''.heap.size ∧ Below w'.heap.size w' w'') := (fun w' hb => toNamedS_any ag lg cg gs h2 w' (hg.below hb))
  clear hu hg
  go_enter Tryz.func57, Tryz.ntmps57
  go_wp2_with fail
  refine (hc.out _ (bl3N _ _ _ _)).mono ?_
  rintro e w1 ⟨rfl, hI, hz, hb⟩
  rw [bl3N_size] at hI hz ⊢
  have hbW : Hid (Below w.heap.size w w1) := (bl3N _ _ _ _).trans (hb.mono (by rw [bl3N_size]; omega))
  obtain ⟨hcl, hfz⟩ := bl_cellN hb
  clear hb
  simp at hcl hfz
  go_wp2_with fail
  refine (hd.out _ (bl_setN hbW.out (by omega))).mono ?_
  rintro e w2 ⟨rfl, hJ, hz2, hb2⟩
  have eS : (w1.setCell ⟨w.heap.size + 1 + 1, 3, none⟩ (.slice (some ⟨w.heap.size + 1 + 1 + 1, 0, none⟩) lu lu)).heap.size = w1.heap.size := by simp
  have hI2 : Own (some ⟨w.heap.size + 1 + 1 + 1, 0, none⟩) lu us w2 := (hI.set (fun B e => by simp at e; omega)).below hb2
  have hW2 : Below w.heap.size w w2 := (bl_setN hbW.out (by omega)).trans (hb2.mono (by rw [eS]; omega))
  have hcl2 : ∀ b o, b < w.heap.size + 1 + 1 + 1 → w2.cell? ⟨b, o, none⟩ = (w1.setCell ⟨w.heap.size + 1 + 1, 3, none⟩ (.slice (some ⟨w.heap.size + 1 + 1 + 1, 0, none⟩) lu lu)).cell? ⟨b, o, none⟩ := fun b o h => hb2.cell (p := ⟨b, o, none⟩) (by rw [eS]; show b < _; omega)
  have hfz2 : ∀ b o, b < w.heap.size + 1 + 1 + 1 → w2.frozen? ⟨b, o, none⟩ = (w1.setCell ⟨w.heap.size + 1 + 1, 3, none⟩ (.slice (some ⟨w.heap.size + 1 + 1 + 1, 0, none⟩) lu lu)).frozen? ⟨b, o, none⟩ := fun b o h => hb2.frozen (p := ⟨b, o, none⟩) (by rw [eS]; show b < _; omega)
  rw [eS] at hJ hz2 ⊢
  have HI : Hid (Own (some ⟨w.heap.size + 1 + 1 + 1, 0, none⟩) lu us w2) := hI2
  have HJ : Hid (Own (some ⟨w1.heap.size, 0, none⟩) lg gs w2) := hJ
  have HW : Hid (Below w.heap.size w w2) := hW2
  have HZ : Hid (w.heap.size + 1 + 1 + 1 < w1.heap.size) := hz
  have HZ2 : Hid (w1.heap.size < w2.heap.size) := hz2
  generalize w1.heap.size = X at HJ HZ HZ2 ⊢
  clear hI hJ hW2 hI2 hz hz2 hb2 eS hc hd hbW
  go_wp2
  refine bodyPost_ret (v := .agg #[.int .i64 u, .int .i64 g, .int .i64 o, .slice (some ⟨w.heap.size + 1 + 1 + 1, 0, none⟩) lu lu, .slice (some ⟨X, 0, none⟩) lg lg, .bool r, .int .i64 m]) (by simp [results, Tryz.results57, go_sem, hcl2, hcl]) rfl ⟨_, _, rfl, ?_, ?_, by omega, HZ.out, ?_, ?_⟩
  · iterate 10 (refine Own.set ?_ (fun B e => by simp at e; omega))
    exact HI.out
  · have hX := HZ.out
    iterate 10 (refine Own.set ?_ (fun B e => by simp at e; omega))
    exact HJ.out
  · simpa using HZ2.out
  · iterate 10 (refine bl_setN ?_ (by omega))
    exact HW.out
theorem szNamedS_any (a : Option Addr) (len cap : Nat) (left : Int) (h0 : 0 ≤ left) (h1 : left ≤ 1048576) (hm : len ≤ 9223372036854775807) (w : World) :
    Calls Tryz.prog 68 #[.slice a len cap, .int .i64 left] w fun e w' => e = .returned (.int .i64 (if left < (len : Int) then -1 else left - len)) ∧ w' = w := by
  by_cases hl : left < (len : Int)
  · rw [if_pos hl]
    have d1 : left - (len : Int) < 0 := by omega
    go_enter Tryz.func68, Tryz.ntmps68
    go_wp2
    go_ret
    exact ⟨rfl, rfl⟩
  · rw [if_neg hl]
    have d1 : decide (left - (len : Int) < 0) = false := by simp; omega
    go_enter Tryz.func68, Tryz.ntmps68
    go_wp2
    go_ret
    exact ⟨rfl, rfl⟩
/-- What is left of a size by two lists; -1 if they are too long. -/
def szB (left lu lg : Int) : Int := if left < lu then -1 else if left - lu < lg then -1 else left - lu - lg
set_option maxHeartbeats 2000000 in
/-- laws.szAcl. -/
theorem szAcl_any (u g o : Int) (au : Option Addr) (lu cu : Nat) (ag : Option Addr) (lg cg : Nat) (r : Bool) (m : Int) (left : Int) (h0 : 0 ≤ left) (h1 : left ≤ 1048576) (hu : lu ≤ 9223372036854775807) (hg : lg ≤ 9223372036854775807) (w : World) :
    Calls Tryz.prog 48 #[.agg #[.int .i64 u, .int .i64 g, .int .i64 o, .slice au lu cu, .slice ag lg cg, .bool r, .int .i64 m], .int .i64 left] w fun e w' => e = .returned (.int .i64 (szB left lu lg)) ∧ Below w.heap.size w w' := by
  have hc : Hid (∀ w, Calls Tryz.prog 68 #[.slice au lu cu, .int .i64 left] w fun e w' => e = .returned (.int .i64 (if left < (lu : Int) then -1 else left - lu)) ∧ w' = w) := szNamedS_any au lu cu left h0 h1 hu
  by_cases hl : left < (lu : Int)
  · have e : Hid (szB left lu lg = -1) := (by show szB left lu lg = -1; rw [szB, if_pos hl])
    rw [if_pos hl] at hc
    clear hl h0 h1 hu hg
    go_enter Tryz.func48, Tryz.ntmps48
    go_wp2_with (go_at_call 68; refine (hc.out _).mono ?_; rintro e w' ⟨rfl, rfl⟩)
    go_ret
    exact ⟨by rw [e.out]; rfl, (Below.refl _ _).alloc (Nat.le_refl _) _⟩
  · rw [if_neg hl] at hc
    have hd : Hid (∀ w, Calls Tryz.prog 68 #[.slice ag lg cg, .int .i64 (left - lu)] w fun e w' => e = .returned (.int .i64 (if left - lu < (lg : Int) then -1 else left - lu - lg)) ∧ w' = w) := szNamedS_any ag lg cg (left - lu) (by omega) (by omega) hg
    have d1 : decide (left - (lu : Int) < 0) = false := by simp; omega
    by_cases hl2 : left - (lu : Int) < (lg : Int)
    · have e : Hid (szB left lu lg = -1) := (by show szB left lu lg = -1; rw [szB, if_neg hl, if_pos hl2])
      rw [if_pos hl2] at hd
      clear hl hl2 h0 h1 hu hg
      go_enter Tryz.func48, Tryz.ntmps48
      go_wp2_with fail
      refine (hc.out _).mono ?_
      rintro e1 w1 ⟨rfl, rfl⟩
      go_wp2_with fail
      refine (hd.out _).mono ?_
      rintro e1 w1 ⟨rfl, rfl⟩
      go_wp2
      go_ret
      exact ⟨by rw [e.out]; rfl, (Below.refl _ _).alloc (Nat.le_refl _) _⟩
    · have e : Hid (szB left lu lg = left - lu - lg) := (by show szB left lu lg = left - lu - lg; rw [szB, if_neg hl, if_neg hl2])
      rw [if_neg hl2] at hd
      have d2 : decide (left - (lu : Int) - (lg : Int) < 0) = false := by simp; omega
      clear hl hl2 h0 h1 hu hg
      go_enter Tryz.func48, Tryz.ntmps48
      go_wp2_with fail
      refine (hc.out _).mono ?_
      rintro e1 w1 ⟨rfl, rfl⟩
      go_wp2_with fail
      refine (hd.out _).mono ?_
      rintro e1 w1 ⟨rfl, rfl⟩
      go_wp2
      go_ret
      exact ⟨by rw [e.out]; rfl, (Below.refl _ _).alloc (Nat.le_refl _) _⟩
theorem bl2N (w : World) (o1 o2 : Obj) : Below w.heap.size w ((w.alloc o1).alloc o2) := ((Below.refl _ _).alloc (Nat.le_refl _) _).alloc (by simp) _
theorem eqNamed_same (x y : Int) (w : World) :
    Calls Tryz.prog 67 #[.agg #[.int .i64 x, .int .i64 y], .agg #[.int .i64 x, .int .i64 y]] w fun e w' => e = .returned (.bool true) ∧ Below w.heap.size w w' := by
  go_enter Tryz.func67, Tryz.ntmps67
  go_wp2
  go_ret
  exact ⟨rfl, bl2N _ _ _⟩
set_option maxHeartbeats 2000000 in
theorem eqNamedS_none (a a2 : Option Addr) (cap cap2 : Nat) (w : World) :
    Calls Tryz.prog 43 #[.slice a 0 cap, .slice a2 0 cap2] w fun e w' => e = .returned (.bool true) ∧ Below w.heap.size w w' := by
  go_enter Tryz.func43, Tryz.ntmps43
  go_wp2
  go_rounds 1
  go_ret
  exact ⟨rfl, Below.refl _ _⟩
set_option maxHeartbeats 2000000 in
theorem eqNamedS_some (b off b2 off2 len cap cap2 : Nat) (l : List (Int × Int)) (hl : len ≤ 1048576) (w : World) (hb : b < w.heap.size) (hb2 : b2 < w.heap.size)
    (hc : Hid (∀ i, i < len → w.cell? ⟨b, off + i * 2, none⟩ = some (.int .i64 (idAt l i)) ∧ w.cell? ⟨b, off + i * 2 + 1, none⟩ = some (.int .i64 (btAt l i))))
    (hc2 : Hid (∀ i, i < len → w.cell? ⟨b2, off2 + i * 2, none⟩ = some (.int .i64 (idAt l i)) ∧ w.cell? ⟨b2, off2 + i * 2 + 1, none⟩ = some (.int .i64 (btAt l i)))) :
    Calls Tryz.prog 43 #[.slice (some ⟨b, off, none⟩) len cap, .slice (some ⟨b2, off2, none⟩) len cap2] w fun e w' => e = .returned (.bool true) ∧ Below w.heap.size w w' := by
  go_enter Tryz.func43, Tryz.ntmps43
  go_wp2
  go_loopw [5] (fun i wr => ∃ (k : Nat), k ≤ len ∧ i = .int .i64 k ∧ Hid (Below w.heap.size w wr)) (fun i _ => len - (intOf i).toNat)
  case atStart => exact ⟨0, Nat.zero_le _, rfl, Below.refl _ _⟩
  case round =>
    obtain ⟨k, hk, rfl, hB⟩ := hrel
    by_cases hlt : k < len
    · have g0 : ∀ d os, (Go.Sort.grow (redrawn wr d) os).cell? ⟨b, off + k * 2, none⟩ = some (.int .i64 (idAt l k)) := fun d os => cell_regrown ((hB.out.cell (p := ⟨b, off + k * 2, none⟩) hb).trans (hc.out k hlt).1) d os
      have g1 : ∀ d os, (Go.Sort.grow (redrawn wr d) os).cell? ⟨b, off + k * 2 + 1, none⟩ = some (.int .i64 (btAt l k)) := fun d os => cell_regrown ((hB.out.cell (p := ⟨b, off + k * 2 + 1, none⟩) hb).trans (hc.out k hlt).2) d os
      have g2 : ∀ d os, (Go.Sort.grow (redrawn wr d) os).cell? ⟨b2, off2 + k * 2, none⟩ = some (.int .i64 (idAt l k)) := fun d os => cell_regrown ((hB.out.cell (p := ⟨b2, off2 + k * 2, none⟩) hb2).trans (hc2.out k hlt).1) d os
      have g3 : ∀ d os, (Go.Sort.grow (redrawn wr d) os).cell? ⟨b2, off2 + k * 2 + 1, none⟩ = some (.int .i64 (btAt l k)) := fun d os => cell_regrown ((hB.out.cell (p := ⟨b2, off2 + k * 2 + 1, none⟩) hb2).trans (hc2.out k hlt).2) d os
      have cA : ∀ w d os, Calls Tryz.prog 67 #[.agg #[.int .i64 (idAt l k), .int .i64 (btAt l k)], .agg #[.int .i64 (idAt l k), .int .i64 (btAt l k)]] (Go.Sort.grow (redrawn w d) os) fun e w'' => e = .returned (.bool true) ∧ ∃ p : Regrown, w'' = Go.Sort.grow (redrawn w p.d) p.os := fun w d os => Calls.regrown_of (eqNamed_same _ _ _)
      have hlt' : (k : Int) < (len : Int) := by omega
      go_wp2
      refine wp_region_quiet_below (by kernel_rfl) (by kernel_rfl) ?_
      repeat (go_big_quiet_step (exact cA _ _ _))
      refine wpQuiet_nil ?_
      intro _ hw'
      obtain ⟨⟨dq, osq⟩, hw''⟩ := hw'
      subst hw''
      have hbq : Hid (Below w.heap.size w (Go.Sort.grow (redrawn wr dq) osq)) := hB.out.trans ((below_regrown wr dq osq).mono hB.out.size)
      generalize Go.Sort.grow (redrawn wr dq) osq = w1 at hbq ⊢
      clear g0 g1 g2 g3 cA
      go_wp2
      go_roundw
      case rel => exact ⟨k + 1, by omega, by go_num, hbq⟩
      case measure => simp [intOf]; omega
    · have : k = len := by omega
      subst this
      go_wp2
      go_ret
      exact ⟨rfl, hB.out⟩
/-- laws.eqNamedS of two lists that hold the same. -/
theorem eqNamedS_any (a a2 : Option Addr) (len cap cap2 : Nat) (l : List (Int × Int)) (hl : len ≤ 1048576) (w : World) (h1 : Prs a len l w) (h2 : Prs a2 len l w) :
    Calls Tryz.prog 43 #[.slice a len cap, .slice a2 len cap2] w fun e w' => e = .returned (.bool true) ∧ Below w.heap.size w w' := by
  by_cases h0 : len = 0
  · subst h0
    exact eqNamedS_none a a2 cap cap2 w
  · obtain ⟨b, off, rfl, hb, hc⟩ := h1.2 (by omega)
    obtain ⟨b2, off2, rfl, hb2, hc2⟩ := h2.2 (by omega)
    exact eqNamedS_some b off b2 off2 len cap cap2 l hl w hb hb2 hc hc2
set_option maxHeartbeats 4000000 in
/-- laws.eqAcl of two that hold the same. -/
theorem eqAcl_any (u g o : Int) (au au2 : Option Addr) (lu cu cu2 : Nat) (ag ag2 : Option Addr) (lg cg cg2 : Nat) (r : Bool) (m : Int) (us gs : List (Int × Int)) (h1 : lu ≤ 1048576) (h2 : lg ≤ 1048576) (w : World) (hu : Prs au lu us w) (hu2 : Prs au2 lu us w) (hg : Prs ag lg gs w) (hg2 : Prs ag2 lg gs w) :
    Calls Tryz.prog 21 #[.agg #[.int .i64 u, .int .i64 g, .int .i64 o, .slice au lu cu, .slice ag lg cg, .bool r, .int .i64 m], .agg #[.int .i64 u, .int .i64 g, .int .i64 o, .slice au2 lu cu2, .slice ag2 lg cg2, .bool r, .int .i64 m]] w fun e w' => e = .returned (.bool true) ∧ Below w.heap.size w w' := by
  have hc : Hid (∀ w', Below w.heap.size w w' → Calls Tryz.prog 43 #[.slice au lu cu, .slice au2 lu cu2] w' fun e w'' => e = .returned (.bool true) ∧ Below w'.heap.size w' w'') := (fun w' hb => eqNamedS_any au au2 lu cu cu2 us h1 w' (hu.below hb) (hu2.below hb))
  have hd : Hid (∀ w', Below w.heap.size w w' → Calls Tryz.prog 43 #[.slice ag lg cg, .slice ag2 lg cg2] w' fun e w'' => e = .returned (.bool true) ∧ Below w'.heap.size w' w'') := (fun w' hb => eqNamedS_any ag ag2 lg cg cg2 gs h2 w' (hg.below hb) (hg2.below hb))
  clear hu hu2 hg hg2
  go_enter Tryz.func21, Tryz.ntmps21
  go_wp2_with fail
  refine (hc.out _ (bl2N _ _ _)).mono ?_
  rintro e w1 ⟨rfl, hb⟩
  have hbW : Hid (Below w.heap.size w w1) := (bl2N _ _ _).trans (hb.mono (by simp; omega))
  have hz : w.heap.size + 1 < w1.heap.size := by have := hb.size; simp at this; omega
  obtain ⟨hcl, hfz⟩ := bl_cellN hb
  clear hb hc
  simp at hcl hfz
  go_wp2_with fail
  refine (hd.out _ hbW.out).mono ?_
  rintro e w2 ⟨rfl, hb⟩
  have hbW2 : Hid (Below w.heap.size w w2) := hbW.out.trans (hb.mono hbW.out.size)
  have hcl2 : ∀ b o, b < w.heap.size + 1 + 1 → w2.cell? ⟨b, o, none⟩ = w1.cell? ⟨b, o, none⟩ := fun b o h => hb.cell (p := ⟨b, o, none⟩) (by show b < _; omega)
  clear hb hd hz
  go_wp2
  go_ret
  exact ⟨rfl, hbW2.out⟩
end Go.Proofs.YtgodbelcddgdmaaGreat
