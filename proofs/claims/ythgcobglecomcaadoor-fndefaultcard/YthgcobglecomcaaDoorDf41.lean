/- Laid together: DefN. -/
import Derived.Test.YthgcobglecomcaaDoorDf40
/- DefaultNfs, the program's and the specification's, of any list. -/
namespace Go.Proofs.YthgcobglecomcaaDoor
open Go.RowKit Go.PlainAid Go.Deep
set_option linter.unusedVariables false
def fl11 (x : Ac) : Ac := { x with fl := 11 }
theorem AHold.flag {w : World} {B : Nat} {F : Nat → Ac} {n : Nat} (h : AHold w B F n) (k : Nat) (hk : k < n) : AHold (w.setCell ⟨B, k * 5 + 3, none⟩ (.int .i64 11)) B (fun i => if i = k then fl11 (F i) else F i) n := by
  intro i hi
  have h1 := h i hi
  refine ⟨?_, h1.2.keep (fun j => World.frozen?_setCell ..)⟩
  have ho : ∀ p, p ≠ k * 5 + 3 → (w.setCell ⟨B, k * 5 + 3, none⟩ (.int .i64 11)).cell? ⟨B, p, none⟩ = w.cell? ⟨B, p, none⟩ := fun p hp => World.cell?_setCell_other _ _ _ _ (by intro h; have h2 := congrArg Addr.off h; simp only at h2; omega)
  obtain ⟨c0, c1, c2, c3, c4⟩ := h1.1
  by_cases e : i = k
  · subst e
    simp only [if_pos, fl11]
    refine ⟨(ho _ (by omega)).trans c0, (ho _ (by omega)).trans c1, (ho _ (by omega)).trans c2, ?_, (ho _ (by omega)).trans c4⟩
    simp [go_sem, c3]
  · simp only [if_neg e]
    exact ⟨(ho _ (by omega)).trans c0, (ho _ (by omega)).trans c1, (ho _ (by omega)).trans c2, (ho _ (by omega)).trans c3, (ho _ (by omega)).trans c4⟩
/-- Of the first k aces the flags are written. -/
structure Fl (w wr : World) (a : Option Addr) (l : List Ac) (k : Nat) : Prop where
  bel : Below w.heap.size w wr
  inn : ∀ A, a = some A → w.heap.size ≤ A.block ∧ A.block < wr.heap.size
  hold : 0 < l.length → ∃ B, a = some ⟨B, 0, none⟩ ∧ B < wr.heap.size ∧ AHold wr B (fun i => if i < k then fl11 (acAt l i) else acAt l i) l.length
theorem Fl.zero {w wr : World} {a : Option Addr} {l : List Ac} (h : NewA w wr a l.length l) : Fl w wr a l 0 :=
  ⟨h.bel, h.inn, fun h0 => by
    obtain ⟨B, ha, hlt, hp⟩ := h.own.2 h0
    refine ⟨B, ha, hlt, fun i hi => ?_⟩
    simp only [Nat.not_lt_zero, if_false]
    exact hp i hi⟩
theorem Fl.step {w wr : World} {B k : Nat} {l : List Ac} (h : Fl w wr (some ⟨B, 0, none⟩) l k) (hk : k < l.length) : Fl w (wr.setCell ⟨B, k * 5 + 3, none⟩ (.int .i64 11)) (some ⟨B, 0, none⟩) l (k + 1) := by
  refine ⟨bl_setA h.bel (h.inn _ rfl).1, fun A e => by simpa using h.inn A e, fun h0 => ?_⟩
  obtain ⟨B2, ha, hlt, hp⟩ := h.hold h0
  cases ha
  refine ⟨B, rfl, by simpa using hlt, fun i hi => ?_⟩
  have h1 := hp.flag k hk i hi
  have e : (if i = k then fl11 (if i < k then fl11 (acAt l i) else acAt l i) else (if i < k then fl11 (acAt l i) else acAt l i)) = (if i < k + 1 then fl11 (acAt l i) else acAt l i) := by
    by_cases e : i = k
    · rw [if_pos e, if_neg (by omega : ¬ i < k), if_pos (by omega : i < k + 1)]
    · rw [if_neg e]
      by_cases e2 : i < k
      · rw [if_pos e2, if_pos (by omega : i < k + 1)]
      · rw [if_neg e2, if_neg (by omega : ¬ i < k + 1)]
  simp only [e] at h1
  exact h1
theorem Fl.cells {w wr : World} {a : Option Addr} {k : Nat} {l : List Ac} (h : Fl w wr a l k) (hk : k < l.length) : ∃ B, a = some ⟨B, 0, none⟩ ∧ wr.cell? ⟨B, k * 5 + 3, none⟩ = some (.int .i64 (acAt l k).fl) ∧ wr.frozen? ⟨B, k * 5 + 3, none⟩ = false := by
  obtain ⟨B, ha, hlt, hp⟩ := h.hold (by omega)
  obtain ⟨h1, h2⟩ := hp k hk
  have c3 := h1.c3
  simp only [Nat.lt_irrefl, if_false] at c3
  exact ⟨B, ha, c3, h2.f3⟩
def defL (l : List Ac) : List Ac := l.map fl11
theorem defL_len (l : List Ac) : (defL l).length = l.length := by simp [defL]
theorem Fl.done {w wr : World} {a : Option Addr} {l : List Ac} (h : Fl w wr a l l.length) : NewA w wr a (defL l).length (defL l) := by
  refine ⟨⟨rfl, fun h0 => ?_⟩, h.inn, h.bel⟩
  rw [defL_len] at h0 ⊢
  obtain ⟨B, ha, hlt, hp⟩ := h.hold h0
  refine ⟨B, ha, hlt, fun i hi => ?_⟩
  have h1 := hp i hi
  simp only [hi, if_true] at h1
  have e : acAt (defL l) i = fl11 (acAt l i) := by
    rw [acAt_get (by rw [defL_len]; exact hi), acAt_get hi]
    simp [defL]
  rw [e]
  exact h1
def dfN (A : Al) : List Ac := defL (toN A)
theorem dfN_len (A : Al) : (dfN A).length ≤ 50 := by
  rw [dfN, defL_len]
  exact toN_len A
set_option maxRecDepth 100000 in
set_option maxHeartbeats 2000000 in
theorem iDefaultNfs_any (A : Al) (aU : Option Addr) (cU : Nat) (aG : Option Addr) (cG : Nat) (w : World) (hp : PlW w) (hu : Prs aU A.us.length A.us w) (hg : Prs aG A.gs.length A.gs w) :
    Calls Tryd.prog 6 #[.agg #[.int .i64 A.u, .int .i64 A.g, .int .i64 A.o, .slice aU A.us.length cU, .slice aG A.gs.length cG, .bool A.r, .int .i64 A.m]] w (AnsL (dfN A) w) := by
  have hb0 := bel_alloc w (.cells #[.int .i64 A.u, .int .i64 A.g, .int .i64 A.o, .slice aU A.us.length cU, .slice aG A.gs.length cG, .bool A.r, .int .i64 A.m] 25)
  have HB0 : Hid (Below w.heap.size w (w.alloc (.cells #[.int .i64 A.u, .int .i64 A.g, .int .i64 A.o, .slice aU A.us.length cU, .slice aG A.gs.length cG, .bool A.r, .int .i64 A.m] 25))) := hb0
  have HC : Hid (∀ W, Below w.heap.size w W → Calls Tryd.prog 12 #[.agg #[.int .i64 A.u, .int .i64 A.g, .int .i64 A.o, .slice aU A.us.length cU, .slice aG A.gs.length cG, .bool A.r, .int .i64 A.m]] W (AnsL (toN A) W)) := (fun W hW => iToNfs_any A aU cU aG cG W (hp.below hW) (hu.below hW) (hg.below hW))
  have HE : Hid (dfN A = defL (toN A)) := rfl
  have hn := toN_len A
  clear hu hg hb0 hp
  generalize dfN A = D at HE ⊢
  generalize toN A = l at HC HE hn
  have e0 := HE.out
  subst e0
  clear HE
  go_enter Tryd.func6, Tryd.ntmps6
  go_wp2_with fail
  refine (HC.out _ HB0.out).mono ?_
  intro e w1 hA
  obtain ⟨a, c, rfl, hN⟩ := hA.out
  have HF : Hid (Fl w w1 a l 0) := Fl.zero (hN.pre HB0.out)
  clear hA hN HC HB0
  go_wp2
  go_loopw [9] (fun i wr => ∃ k : Nat, k ≤ l.length ∧ i = .int .i64 k ∧ Hid (Fl w wr a l k)) (fun i _ => l.length - (intOf i).toNat)
  case atStart => exact ⟨0, Nat.zero_le _, rfl, HF⟩
  case round =>
    obtain ⟨k, hk, rfl, hF⟩ := hrel
    by_cases hlt : k < l.length
    · have hlt' : (k : Int) < (l.length : Int) := by omega
      obtain ⟨B, rfl, c3, f3⟩ := hF.out.cells hlt
      have hF2 : Hid (Fl w (wr.setCell ⟨B, k * 5 + 3, none⟩ (.int .i64 11)) (some ⟨B, 0, none⟩) l (k + 1)) := hF.out.step hlt
      clear hF HF
      go_wp2
      go_roundw
      case rel => exact ⟨k + 1, by omega, by go_num, hF2⟩
      case measure => simp [intOf]; omega
    · have : k = l.length := by omega
      subst this
      go_wp2
      go_ret
      exact ⟨a, c, by rw [defL_len]; rfl, hF.out.done⟩
set_option maxRecDepth 100000 in
set_option maxHeartbeats 2000000 in
theorem sDefaultNfs_ans (A : Al) (aU : Option Addr) (cU : Nat) (aG : Option Addr) (cG : Nat) (hlu : A.us.length ≤ 1048576) (hlg : A.gs.length ≤ 1048576) (w : World) (hu : Prs aU A.us.length A.us w) (hg : Prs aG A.gs.length A.gs w) :
    Calls Tryd.prog 8 #[.agg #[.int .i64 A.u, .int .i64 A.g, .int .i64 A.o, .slice aU A.us.length cU, .slice aG A.gs.length cG, .bool A.r, .int .i64 A.m]] w (AnsL (dfN A) w) := by
  have hb0 := bel_alloc w (.cells #[.int .i64 A.u, .int .i64 A.g, .int .i64 A.o, .slice aU A.us.length cU, .slice aG A.gs.length cG, .bool A.r, .int .i64 A.m] 25)
  have HB0 : Hid (Below w.heap.size w (w.alloc (.cells #[.int .i64 A.u, .int .i64 A.g, .int .i64 A.o, .slice aU A.us.length cU, .slice aG A.gs.length cG, .bool A.r, .int .i64 A.m] 25))) := hb0
  have HC : Hid (∀ W, Below w.heap.size w W → Calls Tryd.prog 25 #[.agg #[.int .i64 A.u, .int .i64 A.g, .int .i64 A.o, .slice aU A.us.length cU, .slice aG A.gs.length cG, .bool A.r, .int .i64 A.m]] W (AnsL (toN A) W)) := (fun W hW => sToNfs_ans A aU cU aG cG hlu hlg W (hu.below hW) (hg.below hW))
  have HE : Hid (dfN A = defL (toN A)) := rfl
  have hn := toN_len A
  clear hu hg hb0 hlu hlg
  generalize dfN A = D at HE ⊢
  generalize toN A = l at HC HE hn
  have e0 := HE.out
  subst e0
  clear HE
  go_enter Tryd.func8, Tryd.ntmps8
  go_wp2_with fail
  refine (HC.out _ HB0.out).mono ?_
  intro e w1 hA
  obtain ⟨a, c, rfl, hN⟩ := hA.out
  have HF : Hid (Fl w w1 a l 0) := Fl.zero (hN.pre HB0.out)
  clear hA hN HC HB0
  go_wp2
  go_loopw [4] (fun i wr => ∃ k : Nat, k ≤ l.length ∧ i = .int .i64 k ∧ Hid (Fl w wr a l k)) (fun i _ => l.length - (intOf i).toNat)
  case atStart => exact ⟨0, Nat.zero_le _, rfl, HF⟩
  case round =>
    obtain ⟨k, hk, rfl, hF⟩ := hrel
    by_cases hlt : k < l.length
    · have hlt' : (k : Int) < (l.length : Int) := by omega
      obtain ⟨B, rfl, c3, f3⟩ := hF.out.cells hlt
      have hF2 : Hid (Fl w (wr.setCell ⟨B, k * 5 + 3, none⟩ (.int .i64 11)) (some ⟨B, 0, none⟩) l (k + 1)) := hF.out.step hlt
      clear hF HF
      go_wp2
      go_roundw
      case rel => exact ⟨k + 1, by omega, by go_num, hF2⟩
      case measure => simp [intOf]; omega
    · have : k = l.length := by omega
      subst this
      go_wp2
      go_ret
      exact ⟨a, c, by rw [defL_len]; rfl, hF.out.done⟩
end Go.Proofs.YthgcobglecomcaaDoor
