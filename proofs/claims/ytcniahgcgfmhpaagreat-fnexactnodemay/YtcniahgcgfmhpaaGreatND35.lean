/- Laid together: Place, Splice. -/
import Derived.Test.YtcniahgcgfmhpaaGreatND9
import Derived.Test.YtcniahgcgfmhpaaGreatND34
/- impl.placeOf at lists of pairs. -/
namespace Go.Proofs.YtcniahgcgfmhpaaGreat
open Go.RowKit Go.PlainAid Go.Deep
set_option linter.unusedVariables false
set_option maxHeartbeats 1000000 in
/-- impl.idOf. -/
theorem idOf_any (x y : Int) (w : World) :
    Calls Tryz.prog 94 #[.agg #[.int .i64 x, .int .i64 y]] w fun e w' => e = .returned (.int .i64 x) ∧ Below w.heap.size w w' := by
  go_enter Tryz.func94, Tryz.ntmps94
  go_wp2
  go_ret
  exact ⟨rfl, bel_alloc _ _⟩
theorem ret_pair {a c : Int} {b d : Bool} (h : a = c) (h2 : b = d) : Ending.returned (.tuple #[.int .i64 a, .bool b]) = Ending.returned (.tuple #[.int .i64 c, .bool d]) := by rw [h, h2]
/-- Where the entry of an id stands, or would have to stand. -/
def plc (l : List (Int × Int)) (key : Int) : Nat := l.findIdx (fun p => decide (key ≤ p.1))
def fnd (l : List (Int × Int)) (key : Int) : Bool := decide (plc l key < l.length) && decide (idAt l (plc l key) = key)
theorem idAt_get {l : List (Int × Int)} {k : Nat} (h : k < l.length) : idAt l k = (l[k]).1 := by simp [idAt, List.getD, h]
theorem plc_le (l : List (Int × Int)) (key : Int) : plc l key ≤ l.length := List.findIdx_le_length
theorem plc_at {l : List (Int × Int)} {key : Int} {k : Nat} (hk : k < l.length) (hlo : ∀ j, j < k → idAt l j < key) (hhi : key ≤ idAt l k) : plc l key = k := by
  rw [plc, List.findIdx_eq hk]
  refine ⟨by rw [← idAt_get hk]; simpa using hhi, fun j hj => ?_⟩
  have := hlo j hj
  rw [idAt_get (by omega)] at this
  simp; omega
theorem plc_none {l : List (Int × Int)} {key : Int} (hlo : ∀ j, j < l.length → idAt l j < key) : plc l key = l.length := by
  rw [plc, List.findIdx_eq_length]
  intro x hx
  obtain ⟨j, hj, rfl⟩ := List.mem_iff_getElem.1 hx
  have := hlo j hj
  rw [idAt_get hj] at this
  simp; omega
theorem fnd_at {l : List (Int × Int)} {key : Int} {k : Nat} (hk : k < l.length) (h : plc l key = k) : fnd l key = decide (idAt l k = key) := by simp [fnd, h, hk]
theorem fnd_none {l : List (Int × Int)} {key : Int} (h : plc l key = l.length) : fnd l key = false := by simp [fnd, h]
set_option maxHeartbeats 1000000 in
theorem placeOf_none (a : Option Addr) (cap : Nat) (key : Int) (w : World) :
    Calls Tryz.prog 93 #[.slice a 0 cap, .int .i64 key, .func (.func 94) #[] #[]] w fun e w' => e = .returned (.tuple #[.int .i64 0, .bool false]) ∧ w' = w := by
  go_enter Tryz.func93, Tryz.ntmps93
  go_wp2
  go_rounds 1
  go_ret2
  exact ⟨rfl, rfl⟩
set_option maxRecDepth 100000 in
set_option maxHeartbeats 4000000 in
theorem placeOf_some (b off cap : Nat) (l : List (Int × Int)) (key : Int) (hl : l.length ≤ 1000000) (w : World) (hb : b < w.heap.size) (hc : ∀ i, i < l.length → w.cell? ⟨b, off + i * 2, none⟩ = some (.int .i64 (idAt l i)) ∧ w.cell? ⟨b, off + i * 2 + 1, none⟩ = some (.int .i64 (btAt l i))) :
    Calls Tryz.prog 93 #[.slice (some ⟨b, off, none⟩) l.length cap, .int .i64 key, .func (.func 94) #[] #[]] w fun e w' => e = .returned (.tuple #[.int .i64 (plc l key), .bool (fnd l key)]) ∧ Below w.heap.size w w' := by
  have HC : Hid (∀ i, i < l.length → w.cell? ⟨b, off + i * 2, none⟩ = some (.int .i64 (idAt l i)) ∧ w.cell? ⟨b, off + i * 2 + 1, none⟩ = some (.int .i64 (btAt l i))) := hc
  have HA : Hid (∀ k, k < l.length → (∀ j, j < k → idAt l j < key) → key ≤ idAt l k → plc l key = k ∧ fnd l key = decide (idAt l k = key)) := (fun k hk h1 h2 => ⟨plc_at hk h1 h2, fnd_at hk (plc_at hk h1 h2)⟩)
  have HE : Hid ((∀ j, j < l.length → idAt l j < key) → plc l key = l.length ∧ fnd l key = false) := (fun h => ⟨plc_none h, fnd_none (plc_none h)⟩)
  clear hc
  generalize hlen : l.length = len at hl HC HA HE ⊢
  clear hlen
  generalize plc l key = pp at HA HE ⊢
  generalize fnd l key = ff at HA HE ⊢
  go_enter Tryz.func93, Tryz.ntmps93
  go_wp2
  go_loopw [13] (fun i wr => ∃ k : Nat, k ≤ len ∧ i = .int .i64 k ∧ Hid (∀ j, j < k → idAt l j < key) ∧ Hid (Below w.heap.size w wr)) (fun i _ => len - (intOf i).toNat)
  case atStart => exact ⟨0, Nat.zero_le _, rfl, fun j hj => absurd hj (by omega), Below.refl _ _⟩
  case round =>
    obtain ⟨k, hk, rfl, hto, hB⟩ := hrel
    by_cases hlt : k < len
    · have hlt' : (k : Int) < (len : Int) := by omega
      have g0 : wr.cell? ⟨b, off + k * 2, none⟩ = some (.int .i64 (idAt l k)) := (hB.out.cell (p := ⟨b, off + k * 2, none⟩) hb).trans (HC.out k hlt).1
      have g1 : wr.cell? ⟨b, off + k * 2 + 1, none⟩ = some (.int .i64 (btAt l k)) := (hB.out.cell (p := ⟨b, off + k * 2 + 1, none⟩) hb).trans (HC.out k hlt).2
      have hBA : Hid (Below w.heap.size w (wr.alloc (.cells #[.int .i64 (idAt l k), .int .i64 (btAt l k)] 100))) := Below.onA hB.out
      by_cases hge : key ≤ idAt l k
      · obtain ⟨p1, p2⟩ := HA.out k hlt hto.out hge
        have P1 : Hid (pp = k) := p1
        have P2 : Hid (ff = decide (idAt l k = key)) := p2
        clear p1 p2 HA HE hto
        go_wp2_with (go_at_call 94; refine (idOf_any _ _ _).mono ?_; rintro e w2 ⟨rfl, hb2⟩)
        go_ret2
        exact ⟨ret_pair (by rw [P1.out]) (by rw [P2.out]; rfl), Below.on hBA.out hb2⟩
      · have hd : decide (key ≤ idAt l k) = false := decide_eq_false hge
        have hto2 : Hid (∀ j, j < k + 1 → idAt l j < key) := (fun j hj => by
          by_cases e : j = k
          · subst e; omega
          · exact hto.out j (by omega))
        clear hge hto HA HE
        go_wp2_with (go_at_call 94; refine (idOf_any _ _ _).mono ?_; rintro e w2 ⟨rfl, hb2⟩)
        go_roundw
        case rel => exact ⟨k + 1, by omega, by go_num, hto2, Below.on hBA.out hb2⟩
        case measure => simp [intOf]; omega
    · have : k = len := by omega
      subst this
      obtain ⟨p1, p2⟩ := HE.out hto.out
      have P1 : Hid (pp = k) := p1
      have P2 : Hid (ff = false) := p2
      clear p1 p2 HA HE hto
      go_wp2
      go_ret2
      exact ⟨ret_pair (by rw [P1.out]) P2.out.symm, hB.out⟩
/-- impl.placeOf. -/
theorem placeOf_any (a : Option Addr) (len cap : Nat) (l : List (Int × Int)) (key : Int) (hl : len ≤ 1000000) (w : World) (hi : Prs a len l w) :
    Calls Tryz.prog 93 #[.slice a len cap, .int .i64 key, .func (.func 94) #[] #[]] w fun e w' => e = .returned (.tuple #[.int .i64 (plc l key), .bool (fnd l key)]) ∧ Below w.heap.size w w' := by
  obtain ⟨hln, hp⟩ := hi
  subst hln
  by_cases h0 : l.length = 0
  · have e : plc l key = l.length := plc_none (fun j hj => absurd hj (by omega))
    rw [fnd_none e, e, h0]
    refine (placeOf_none a cap key w).mono ?_
    rintro e w' ⟨rfl, rfl⟩
    exact ⟨rfl, Below.refl _ _⟩
  · obtain ⟨b, off, rfl, hlt, hc⟩ := hp (by omega)
    exact placeOf_some b off cap l key hl w hlt hc
end Go.Proofs.YtcniahgcgfmhpaaGreat
/- impl.spliced at lists of pairs. -/
namespace Go.Proofs.YtcniahgcgfmhpaaGreat
open Go.RowKit Go.PlainAid Go.Deep
set_option linter.unusedVariables false
/-- Of three things one. -/
def tri {α : Type} (x y z : α) (j : Nat) : α := if j = 0 then x else if j = 1 then y else z
theorem cat_tri (p q s : List (Int × Int)) : cat (tri p q s) 3 = p ++ q ++ s := by simp [cat, tri]
theorem row3_new (w : World) (v0 v1 v2 : Value) (t : TypeId) : (w.alloc (.cells #[v0, v1, v2] t)).cell? ⟨w.heap.size, 0, none⟩ = some v0 ∧ (w.alloc (.cells #[v0, v1, v2] t)).cell? ⟨w.heap.size, 1, none⟩ = some v1 ∧ (w.alloc (.cells #[v0, v1, v2] t)).cell? ⟨w.heap.size, 2, none⟩ = some v2 := by
  have hb : (w.alloc (.cells #[v0, v1, v2] t)).heap[w.heap.size]? = some (.cells #[v0, v1, v2] t) := by
    rw [World.alloc]
    exact Array.getElem?_push_size
  refine ⟨?_, ?_, ?_⟩ <;> (simp only [World.cell?, hb]; rfl)
/-- slices.Concat of three lists, the row of which has just been made. -/
theorem concat_tri (w0 : World) (X : Nat) (hX : X = w0.heap.size) (t : TypeId) (cap : Nat) (a0 : Option Addr) (l0 c0 : Nat) (p0 : List (Int × Int)) (a1 : Option Addr) (l1 c1 : Nat) (p1 : List (Int × Int)) (a2 : Option Addr) (l2 c2 : Nat) (p2 : List (Int × Int)) (hN : l0 + l1 + l2 ≤ 1000000) (h0 : Prs a0 l0 p0 w0) (h1 : Prs a1 l1 p1 w0) (h2 : Prs a2 l2 p2 w0) :
    Calls Tryz.prog 95 #[.slice (some ⟨X, 0, none⟩) 3 cap] (w0.alloc (.cells #[.slice a0 l0 c0, .slice a1 l1 c1, .slice a2 l2 c2] t)) fun e w' => ∃ a c, e = .returned (.slice a (l0 + l1 + l2) c) ∧ l0 + l1 + l2 ≤ c ∧ Own a (l0 + l1 + l2) (p0 ++ p1 ++ p2) w' ∧ (∀ Ad, a = some Ad → w0.heap.size ≤ Ad.block ∧ Ad.block < w'.heap.size) ∧ Below w0.heap.size w0 w' := by
  subst hX
  have hb := bel_alloc w0 (.cells #[.slice a0 l0 c0, .slice a1 l1 c1, .slice a2 l2 c2] t)
  obtain ⟨r0, r1, r2⟩ := row3_new w0 (.slice a0 l0 c0) (.slice a1 l1 c1) (.slice a2 l2 c2) t
  have e0 := h0.1
  have e1 := h1.1
  have e2 := h2.1
  have hl : (cat (tri p0 p1 p2) 3).length = l0 + l1 + l2 := by rw [cat_tri, List.length_append, List.length_append, e0, e1, e2]
  refine (concat_any w0.heap.size 3 cap (tri a0 a1 a2) (tri c0 c1 c2) (tri p0 p1 p2) (by omega) (by rw [hl]; omega) _ (by simp) ?_).mono ?_
  · intro j hj
    rcases (by omega : j = 0 ∨ j = 1 ∨ j = 2) with rfl | rfl | rfl
    · refine ⟨?_, ?_⟩
      · show _ = some (Value.slice a0 p0.length c0)
        rw [e0]
        exact r0
      · show Prs a0 p0.length p0 _
        rw [e0]
        exact h0.below hb
    · refine ⟨?_, ?_⟩
      · show _ = some (Value.slice a1 p1.length c1)
        rw [e1]
        exact r1
      · show Prs a1 p1.length p1 _
        rw [e1]
        exact h1.below hb
    · refine ⟨?_, ?_⟩
      · show _ = some (Value.slice a2 p2.length c2)
        rw [e2]
        exact r2
      · show Prs a2 p2.length p2 _
        rw [e2]
        exact h2.below hb
  · rintro e w' ⟨a, c, rfl, hc, ho, hin, hbel⟩
    rw [hl] at ho hc ⊢
    rw [cat_tri] at ho
    refine ⟨a, c, rfl, hc, ho, fun Ad e => ?_, Below.on hb hbel⟩
    have := hin Ad e
    have h2 := hb.size
    exact ⟨by omega, this.2⟩
theorem idAt_take {l : List (Int × Int)} {n i : Nat} (h : i < n) : idAt (l.take n) i = idAt l i ∧ btAt (l.take n) i = btAt l i := by
  unfold idAt btAt
  simp [List.getD, List.getElem?_take_of_lt h]
theorem idAt_drop {l : List (Int × Int)} {n i : Nat} : idAt (l.drop n) i = idAt l (n + i) ∧ btAt (l.drop n) i = btAt l (n + i) := by
  unfold idAt btAt
  simp [List.getD, List.getElem?_drop]
/-- A slice's head, and its tail. -/
theorem prs_take {b off : Nat} {l : List (Int × Int)} {w : World} {n : Nat} (hn : n ≤ l.length) (hlt : b < w.heap.size) (hc : ∀ i, i < l.length → w.cell? ⟨b, off + i * 2, none⟩ = some (.int .i64 (idAt l i)) ∧ w.cell? ⟨b, off + i * 2 + 1, none⟩ = some (.int .i64 (btAt l i))) : Prs (some ⟨b, off, none⟩) n (l.take n) w := by
  refine ⟨by simp; omega, fun _ => ⟨b, off, rfl, hlt, fun i hi => ?_⟩⟩
  rw [(idAt_take hi).1, (idAt_take hi).2]
  exact hc i (by omega)
theorem prs_drop {b off : Nat} {l : List (Int × Int)} {w : World} {n : Nat} (hn : n ≤ l.length) (hlt : b < w.heap.size) (hc : ∀ i, i < l.length → w.cell? ⟨b, off + i * 2, none⟩ = some (.int .i64 (idAt l i)) ∧ w.cell? ⟨b, off + i * 2 + 1, none⟩ = some (.int .i64 (btAt l i))) : Prs (some ⟨b, off + n * 2, none⟩) (l.length - n) (l.drop n) w := by
  refine ⟨by simp, fun _ => ⟨b, off + n * 2, rfl, hlt, fun i hi => ?_⟩⟩
  rw [idAt_drop.1, idAt_drop.2]
  have := hc (n + i) (by omega)
  have e1 : off + (n + i) * 2 = off + n * 2 + i * 2 := by omega
  rw [e1] at this
  exact this
end Go.Proofs.YtcniahgcgfmhpaaGreat
