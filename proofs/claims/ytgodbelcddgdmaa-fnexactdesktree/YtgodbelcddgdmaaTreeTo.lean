/- laws.toEntry, toEntryS: a copy of a list of entries. -/
import Derived.Test.YtgodbelcddgdmaaTreeM
import Derived.Test.YtgodbelcddgdmaaAclTo
import Derived.Deep.OwnRows
import Derived.Deep.QuietTactic
import Derived.BigQuiet
import Derived.Handy
namespace Go.Proofs.Ytgodbelcddgdmaa
open Go.RowKit Go.PlainAid
set_option linter.unusedVariables false
theorem bl3T (w : World) (o1 o2 o3 : Obj) : Below w.heap.size w (((w.alloc o1).alloc o2).alloc o3) := (((Below.refl _ _).alloc (Nat.le_refl _) _).alloc (by simp) _).alloc (by simp; omega) _
theorem bl_cellT {W w1 : World} (hb : Below W.heap.size W w1) : (∀ b o, b < W.heap.size → w1.cell? ⟨b, o, none⟩ = W.cell? ⟨b, o, none⟩) ∧ (∀ b o, b < W.heap.size → w1.frozen? ⟨b, o, none⟩ = W.frozen? ⟨b, o, none⟩) :=
  ⟨fun b o h => hb.cell (p := ⟨b, o, none⟩) h, fun b o h => hb.frozen (p := ⟨b, o, none⟩) h⟩
/-- What a world holds of a row of pairs that may be written. -/
def EHold (w : World) (B : Nat) (F : Nat → ByteArray) (G : Nat → Int) (n : Nat) : Prop := ∀ i, i < n → (w.cell? ⟨B, i * 2, none⟩ = some (.string (F i)) ∧ w.cell? ⟨B, i * 2 + 1, none⟩ = some (.int .i64 (G i))) ∧ w.frozen? ⟨B, i * 2, none⟩ = false ∧ w.frozen? ⟨B, i * 2 + 1, none⟩ = false
theorem EHold.below {w w' : World} {B : Nat} {F : Nat → ByteArray} {G : Nat → Int} {n : Nat} (h : EHold w B F G n) (hlt : B < w.heap.size) (hb : Below w.heap.size w w') : EHold w' B F G n := fun i hi =>
  ⟨⟨(hb.cell (p := ⟨B, i * 2, none⟩) hlt).trans (h i hi).1.1, (hb.cell (p := ⟨B, i * 2 + 1, none⟩) hlt).trans (h i hi).1.2⟩, (hb.frozen (p := ⟨B, i * 2, none⟩) hlt).trans (h i hi).2.1, (hb.frozen (p := ⟨B, i * 2 + 1, none⟩) hlt).trans (h i hi).2.2⟩
theorem EHold.set0 {w : World} {B : Nat} {F : Nat → ByteArray} {G : Nat → Int} {n : Nat} (h : EHold w B F G n) (k : Nat) (hk : k < n) (v : ByteArray) : EHold (w.setCell ⟨B, k * 2, none⟩ (.string v)) B (fun i => if i = k then v else F i) G n := by
  intro i hi
  have h1 := h i hi
  rw [World.frozen?_setCell, World.frozen?_setCell]
  refine ⟨⟨?_, ?_⟩, h1.2⟩
  · by_cases e : i = k
    · subst e
      simp only [if_pos]
      simp [go_sem, h1.1.1]
    · simp only [if_neg e]
      rw [← h1.1.1]
      exact World.cell?_setCell_other _ _ _ _ (by intro h; have h2 := congrArg Addr.off h; simp only at h2; omega)
  · rw [← h1.1.2]
    exact World.cell?_setCell_other _ _ _ _ (by intro h; have h2 := congrArg Addr.off h; simp only at h2; omega)
theorem EHold.set1 {w : World} {B : Nat} {F : Nat → ByteArray} {G : Nat → Int} {n : Nat} (h : EHold w B F G n) (k : Nat) (hk : k < n) (v : Int) : EHold (w.setCell ⟨B, k * 2 + 1, none⟩ (.int .i64 v)) B F (fun i => if i = k then v else G i) n := by
  intro i hi
  have h1 := h i hi
  rw [World.frozen?_setCell, World.frozen?_setCell]
  refine ⟨⟨?_, ?_⟩, h1.2⟩
  · rw [← h1.1.1]
    exact World.cell?_setCell_other _ _ _ _ (by intro h; have h2 := congrArg Addr.off h; simp only at h2; omega)
  · by_cases e : i = k
    · subst e
      simp only [if_pos]
      simp [go_sem, h1.1.2]
    · simp only [if_neg e]
      rw [← h1.1.2]
      exact World.cell?_setCell_other _ _ _ _ (by intro h; have h2 := congrArg Addr.off h; simp only at h2; omega)
/-- A list of pairs in memory of its own, that may be written. -/
def OwnE (a : Option Addr) (len : Nat) (l : List (ByteArray × Int)) (w : World) : Prop :=
  l.length = len ∧ (0 < len → ∃ B, a = some ⟨B, 0, none⟩ ∧ B < w.heap.size ∧ EHold w B (nmAt l) (noAt l) len)
theorem OwnE.ens {a : Option Addr} {len : Nat} {l : List (ByteArray × Int)} {w : World} (h : OwnE a len l w) : Ens a len l w := by
  refine ⟨h.1, fun h0 => ?_⟩
  obtain ⟨B, ha, hlt, hp⟩ := h.2 h0
  exact ⟨B, 0, ha, hlt, fun i hi => by simpa using (hp i hi).1⟩
theorem OwnE.below {a : Option Addr} {len : Nat} {l : List (ByteArray × Int)} {w w' : World} (h : OwnE a len l w) (hb : Below w.heap.size w w') : OwnE a len l w' := by
  refine ⟨h.1, fun h0 => ?_⟩
  obtain ⟨B, ha, hlt, hp⟩ := h.2 h0
  exact ⟨B, ha, Nat.lt_of_lt_of_le hlt hb.size, hp.below hlt hb⟩
theorem made_ents (w : World) (n : Nat) (t : TypeId) : EHold (w.alloc (.cells (madeCells #[.string ⟨#[]⟩, .int .i64 0] (n * 2)) t)) w.heap.size (fun _ => ⟨#[]⟩) (fun _ => 0) n := by
  have hb : (w.alloc (.cells (madeCells #[.string ⟨#[]⟩, .int .i64 0] (n * 2)) t)).heap[w.heap.size]? = some (.cells (madeCells #[.string ⟨#[]⟩, .int .i64 0] (n * 2)) t) := by
    rw [World.alloc]
    exact Array.getElem?_push_size
  intro i hi
  refine ⟨⟨?_, ?_⟩, ?_, ?_⟩
  · simp only [World.cell?, hb]
    simp [madeCells, show i * 2 < n * 2 from by omega, show i * 2 % 2 = 0 from by omega]
  · simp only [World.cell?, hb]
    simp [madeCells, show i * 2 + 1 < n * 2 from by omega, show (i * 2 + 1) % 2 = 1 from by omega]
  · simp only [World.frozen?, hb]
    simp
  · simp only [World.frozen?, hb]
    simp
theorem run_make_ents {P : Program} (t e : TypeId) (ht : P.underlying t = some (.slice e)) (hinfo : (P.info? e).map (fun i => (i.zero, i.size, i.bytes)) = some (some (.agg #[.string ⟨#[]⟩, .int .i64 0]), 2, 24))
    (kl kc : IntKind) (n : Nat) (hbytes : 24 * n ≤ 281474976710656) (w : World) :
    (Instr.makeSlice t (.int kl (n : Int)) (.int kc (n : Int))).run P w = .ok (.slice (some ⟨w.heap.size, 0, none⟩) n n) (w.alloc (.cells (madeCells #[.string ⟨#[]⟩, .int .i64 0] (n * 2)) e)) := by
  obtain ⟨i, hi, hzz⟩ := Option.map_eq_some_iff.1 hinfo
  simp only [Prod.mk.injEq] at hzz
  obtain ⟨hz, hs, hb⟩ := hzz
  have hb' : (i.bytes : Int) * (n : Int) ≤ 281474976710656 := by
    have h : ((24 * n : Nat) : Int) ≤ 281474976710656 := by omega
    rw [hb]
    rwa [Int.natCast_mul] at h
  have hr := run_make (P := P) w t e i _ ht hi hz kl kc n n (by omega) (Int.le_refl _) hb' (by omega)
  simp only [Int.toNat_natCast, hs] at hr
  exact hr
end Go.Proofs.Ytgodbelcddgdmaa
