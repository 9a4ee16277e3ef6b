/- Laid together: TreeTo. -/
import Derived.Test.YtgodbelcddgdmaaGreatNF2
import Derived.Test.YtgodbelcddgdmaaGreatNF3
/- laws.toEntry, toEntryS: a copy of a list of entries. -/
namespace Go.Proofs.YtgodbelcddgdmaaGreat
open Go.RowKit Go.PlainAid
set_option linter.unusedVariables false
theorem bl3T (w : World) (o1 o2 o3 : Obj) : Below w.heap.size w (((w.alloc o1).alloc o2).alloc o3) := (((Below.refl _ _).alloc (Nat.le_refl _) _).alloc (by simp) _).alloc (by simp; omega) _
theorem bl_cellT {W w1 : World} (hb : Below W.heap.size W w1) : (∀ b o, b < W.heap.size → w1.cell? ⟨b, o, none⟩ = W.cell? ⟨b, o, none⟩) ∧ (∀ b o, b < W.heap.size → w1.frozen? ⟨b, o, none⟩ = W.frozen? ⟨b, o, none⟩) :=
  ⟨fun b o h => hb.cell (p := ⟨b, o, none⟩) h, fun b o h => hb.frozen (p := ⟨b, o, none⟩) h⟩
/-- What a world holds of a row of pairs that may be written. -/
def EHold (w : World) (B : Nat) (F : Nat → ByteArray) (G : Nat → Int) (n : Nat) : Prop := ∀ i, i < n → (w.cell? ⟨B, i * 2, none⟩ = some (.string (F i)) ∧ w.cell? ⟨B, i * 2 + 1, none⟩ = some (.int .i64 (G i))) ∧ w.frozen? ⟨B, i * 2, none⟩ = false ∧ w.frozen? ⟨B, i * 2 + 1, none⟩ = false
theorem EHold.below {w w' : World} {B : Nat} {F : Nat → ByteArray} {G : Nat → Int} {n : Nat} (h : EHold w B F G n) (hlt : B < w.heap.size) (hb : Below w.heap.size w w') : EHold w' B F G n := fun i hi =>
  ⟨⟨(hb.cell (p := ⟨B, i * 2, none⟩) hlt).trans (h i hi).1.1, (hb.cell (p := ⟨B, i * 2 + 1, none⟩) hlt).trans (h i hi).1.2⟩, (hb.frozen (p := ⟨B, i * 2, none⟩) hlt).trans (h i hi).2.1, (hb.frozen (p := ⟨B, i * 2 + 1, none⟩) hlt).trans (h i hi).2.2⟩
theorem EHold.set0 {w : World} {B : Nat} {F : Nat → ByteArray} {G : Nat → Int} {n : Nat} (h : EHold w B F G n) (k : Nat) (hk : k < n) (v : ByteArray) : EHold (w.setCell ⟨B, k * 2, none⟩ (.string v)) B (fun i => if i = k then v else F i) G n := by
  intro i hi
  have h1 := h i hi
  rw [World.frozen?_setCell, World.frozen?_setCell]
  refine ⟨⟨?_, ?_⟩, h1.2⟩
  · by_cases e : i = k
    · subst e
      simp only [if_pos]
      simp [go_sem, h1.1.1]
    · simp only [if_neg e]
      rw [← h1.1.1]
      exact World.cell?_setCell_other _ _ _ _ (by intro h; have h2 := congrArg Addr.off h; simp only at h2; omega)
  · rw [← h1.1.2]
    exact World.cell?_setCell_other _ _ _ _ (by intro h; have h2 := congrArg Addr.off h; simp only at h2; omega)
theorem EHold.set1 {w : World} {B : Nat} {F : Nat → ByteArray} {G : Nat → Int} {n : Nat} (h : EHold w B F G n) (k : Nat) (hk : k < n) (v : Int) : EHold (w.setCell ⟨B, k * 2 + 1, none⟩ (.int .i64 v)) B F (fun i => if i = k then v else G i) n := by
  intro i hi
  have h1 := h i hi
  rw [World.frozen?_setCell, World.frozen?_setCell]
  refine ⟨⟨?_, ?_⟩, h1.2⟩
  · rw [← h1.1.1]
    exact World.cell?_setCell_other _ _ _ _ (by intro h; have h2 := congrArg Addr.off h; simp only at h2; omega)
  · by_cases e : i = k
    · subst e
      simp only [if_pos]
      simp [go_sem, h1.1.2]
    · simp only [if_neg e]
      rw [← h1.1.2]
      exact World.cell?_setCell_other _ _ _ _ (by intro h; have h2 := congrArg Addr.off h; simp only at h2; omega)
/-- A list of pairs in memory of its own, that may be written. -/
def OwnE (a : Option Addr) (len : Nat) (l : List (ByteArray × Int)) (w : World) : Prop :=
  l.length = len ∧ (0 < len → ∃ B, a = some ⟨B, 0, none⟩ ∧ B < w.heap.size ∧ EHold w B (nmAt l) (noAt l) len)
theorem OwnE.ens {a : Option Addr} {len : Nat} {l : List (ByteArray × Int)} {w : World} (h : OwnE a len l w) : Ens a len l w := by
  refine ⟨h.1, fun h0 => ?_⟩
  obtain ⟨B, ha, hlt, hp⟩ := h.2 h0
  exact ⟨B, 0, ha, hlt, fun i hi => by simpa using (hp i hi).1⟩
theorem OwnE.below {a : Option Addr} {len : Nat} {l : List (ByteArray × Int)} {w w' : World} (h : OwnE a len l w) (hb : Below w.heap.size w w') : OwnE a len l w' := by
  refine ⟨h.1, fun h0 => ?_⟩
  obtain ⟨B, ha, hlt, hp⟩ := h.2 h0
  exact ⟨B, ha, Nat.lt_of_lt_of_le hlt hb.size, hp.below hlt hb⟩
theorem made_ents (w : World) (n : Nat) (t : TypeId) : EHold (w.alloc (.cells (madeCells #[.string ⟨#[]⟩, .int .i64 0] (n * 2)) t)) w.heap.size (fun _ => ⟨#[]⟩) (fun _ => 0) n := by
  have hb : (w.alloc (.cells (madeCells #[.string ⟨#[]⟩, .int .i64 0] (n * 2)) t)).heap[w.heap.size]? = some (.cells (madeCells #[.string ⟨#[]⟩, .int .i64 0] (n * 2)) t) := by
    rw [World.alloc]
    exact Array.getElem?_push_size
  intro i hi
  refine ⟨⟨?_, ?_⟩, ?_, ?_⟩
  · simp only [World.cell?, hb]
    simp [madeCells, show i * 2 < n * 2 from by omega, show i * 2 % 2 = 0 from by omega]
  · simp only [World.cell?, hb]
    simp [madeCells, show i * 2 + 1 < n * 2 from by omega, show (i * 2 + 1) % 2 = 1 from by omega]
  · simp only [World.frozen?, hb]
    simp
  · simp only [World.frozen?, hb]
    simp
theorem run_make_ents {P : Program} (t e : TypeId) (ht : P.underlying t = some (.slice e)) (hinfo : (P.info? e).map (fun i => (i.zero, i.size, i.bytes)) = some (some (.agg #[.string ⟨#[]⟩, .int .i64 0]), 2, 24))
    (kl kc : IntKind) (n : Nat) (hbytes : 24 * n ≤ 281474976710656) (w : World) :
    (Instr.makeSlice t (.int kl (n : Int)) (.int kc (n : Int))).run P w = .ok (.slice (some ⟨w.heap.size, 0, none⟩) n n) (w.alloc (.cells (madeCells #[.string ⟨#[]⟩, .int .i64 0] (n * 2)) e)) := by
  obtain ⟨i, hi, hzz⟩ := Option.map_eq_some_iff.1 hinfo
  simp only [Prod.mk.injEq] at hzz
  obtain ⟨hz, hs, hb⟩ := hzz
  have hb' : (i.bytes : Int) * (n : Int) ≤ 281474976710656 := by
    have h : ((24 * n : Nat) : Int) ≤ 281474976710656 := by omega
    rw [hb]
    rwa [Int.natCast_mul] at h
  have hr := run_make (P := P) w t e i _ ht hi hz kl kc n n (by omega) (Int.le_refl _) hb' (by omega)
  simp only [Int.toNat_natCast, hs] at hr
  exact hr
set_option maxHeartbeats 1000000 in
theorem toEntry_any (x : ByteArray) (y : Int) (w : World) :
    Calls Tryz.prog 78 #[.agg #[.string x, .int .i64 y]] w fun e w' => e = .returned (.agg #[.string x, .int .i64 y]) ∧ Below w.heap.size w w' := by
  go_enter Tryz.func78, Tryz.ntmps78
  go_wp2
  exact bodyPost_ret (v := .agg #[.string x, .int .i64 y]) (by simp [results, Tryz.results78, go_sem]) rfl ⟨rfl, bl3T _ _ _ _⟩
theorem infoEntry : (Tryz.prog.info? 72).map (fun i => (i.zero, i.size, i.bytes)) = some (some (.agg #[.string ⟨#[]⟩, .int .i64 0]), 2, 24) := by kernel_rfl
set_option maxHeartbeats 2000000 in
/-- laws.toEntryS. -/
theorem toEntryS_any (a : Option Addr) (len cap : Nat) (l : List (ByteArray × Int)) (hl : len ≤ 1048576) (w : World) (hi : Ens a len l w) :
    Calls Tryz.prog 58 #[.slice a len cap] w fun e w' => e = .returned (.slice (some ⟨w.heap.size, 0, none⟩) len len) ∧ OwnE (some ⟨w.heap.size, 0, none⟩) len l w' ∧ w.heap.size < w'.heap.size ∧ Below w.heap.size w w' := by
  have hmk := run_make_ents (P := Tryz.prog) 29 72 Tryz.underlying29 infoEntry .i64 .i64 len (by omega) w
  have hH0 : Hid (EHold (w.alloc (.cells (madeCells #[.string ⟨#[]⟩, .int .i64 0] (len * 2)) 72)) w.heap.size (fun _ => ⟨#[]⟩) (fun _ => 0) len) := made_ents w len _
  have hB0 : Hid (Below w.heap.size w (w.alloc (.cells (madeCells #[.string ⟨#[]⟩, .int .i64 0] (len * 2)) 72))) := (Below.refl _ _).alloc (Nat.le_refl _) _
  have hZ0 : Hid (w.heap.size < (w.alloc (.cells (madeCells #[.string ⟨#[]⟩, .int .i64 0] (len * 2)) 72)).heap.size) := (by show _ < _; simp)
  generalize w.alloc (.cells (madeCells #[.string ⟨#[]⟩, .int .i64 0] (len * 2)) 72) = w0 at hmk hH0 hB0 hZ0
  have HI : Hid (Ens a len l w) := hi
  clear hi
  go_enter Tryz.func58, Tryz.ntmps58
  go_wp2
  go_loopw [4] (fun i wr => ∃ (k : Nat) (F : Nat → ByteArray) (G : Nat → Int), k ≤ len ∧ i = .int .i64 k ∧ Hid (EHold wr w.heap.size F G len) ∧ Hid (∀ j, j < k → F j = nmAt l j ∧ G j = noAt l j) ∧ Hid (Below w.heap.size w wr) ∧ Hid (w.heap.size < wr.heap.size)) (fun i _ => len - (intOf i).toNat)
  case atStart => exact ⟨0, fun _ => ⟨#[]⟩, fun _ => 0, Nat.zero_le _, rfl, hH0, fun j hj => absurd hj (by omega), hB0, hZ0⟩
  case round =>
    obtain ⟨k, F, G, hk, rfl, hH, hg, hB, hZ⟩ := hrel
    by_cases hlt : k < len
    · obtain ⟨b, off, rfl, hb, hc⟩ := HI.out.2 (by omega)
      have hlt' : (k : Int) < (len : Int) := by omega
      have g0 : wr.cell? ⟨b, off + k * 2, none⟩ = some (.string (nmAt l k)) := (hB.out.cell (p := ⟨b, off + k * 2, none⟩) hb).trans (hc k hlt).1
      have g1 : wr.cell? ⟨b, off + k * 2 + 1, none⟩ = some (.int .i64 (noAt l k)) := (hB.out.cell (p := ⟨b, off + k * 2 + 1, none⟩) hb).trans (hc k hlt).2
      clear hc hmk hH0 hB0 hZ0 HI
      go_wp2_with fail
      refine (toEntry_any _ _ _).mono ?_
      rintro e w1 ⟨rfl, hb1⟩
      have hH1 := hH.out.below hZ.out hb1
      have q := hH1 k hlt
      have g2 := q.1.1
      have g3 := q.1.2
      have g4 := q.2.1
      have g5 := q.2.2
      have hB1 : Below w.heap.size w w1 := hB.out.trans (hb1.mono hB.out.size)
      have hZ1 : w.heap.size < w1.heap.size := Nat.lt_of_lt_of_le hZ.out hb1.size
      have hH2 : Hid (EHold ((w1.setCell ⟨w.heap.size, k * 2, none⟩ (.string (nmAt l k))).setCell ⟨w.heap.size, k * 2 + 1, none⟩ (.int .i64 (noAt l k))) w.heap.size (fun i => if i = k then nmAt l k else F i) (fun i => if i = k then noAt l k else G i) len) := (hH1.set0 k hlt _).set1 k hlt _
      have hg2 : Hid (∀ j, j < k + 1 → (fun i => if i = k then nmAt l k else F i) j = nmAt l j ∧ (fun i => if i = k then noAt l k else G i) j = noAt l j) := (fun j hj => by
        show (if j = k then nmAt l k else F j) = nmAt l j ∧ (if j = k then noAt l k else G j) = noAt l j
        by_cases e : j = k
        · rw [if_pos e, if_pos e, e]; exact ⟨rfl, rfl⟩
        · rw [if_neg e, if_neg e]; exact hg.out j (by omega))
      have hB2 : Hid (Below w.heap.size w ((w1.setCell ⟨w.heap.size, k * 2, none⟩ (.string (nmAt l k))).setCell ⟨w.heap.size, k * 2 + 1, none⟩ (.int .i64 (noAt l k)))) := bl_setT (bl_setT hB1 (Nat.le_refl _)) (Nat.le_refl _)
      have hZ2 : Hid (w.heap.size < ((w1.setCell ⟨w.heap.size, k * 2, none⟩ (.string (nmAt l k))).setCell ⟨w.heap.size, k * 2 + 1, none⟩ (.int .i64 (noAt l k))).heap.size) := (by show _ < _; simp; exact hZ1)
      clear q hH hg hB hH1 hb1 g0 g1 hB1
      go_wp2
      go_roundw
      case rel => exact ⟨k + 1, _, _, by omega, by go_num, hH2, hg2, hB2, hZ2⟩
      case measure => simp [intOf]; omega
    · have : k = len := by omega
      subst this
      go_wp2
      go_ret
      refine ⟨rfl, ⟨HI.out.1, fun _ => ⟨w.heap.size, rfl, hZ.out, fun i hi => ?_⟩⟩, hZ.out, hB.out⟩
      have h1 := hH.out i hi
      rw [(hg.out i hi).1, (hg.out i hi).2] at h1
      exact h1
end Go.Proofs.YtgodbelcddgdmaaGreat
