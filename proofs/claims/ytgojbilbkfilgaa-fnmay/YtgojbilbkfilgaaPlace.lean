/- impl.placeOf at lists of pairs. -/
import Derived.Test.YtgojbilbkfilgaaNamedRight
namespace Go.Proofs.Ytgojbilbkfilgaa
open Go.RowKit Go.PlainAid Go.Deep
set_option linter.unusedVariables false
set_option maxHeartbeats 1000000 in
/-- impl.idOf. -/
theorem idOf_any (x y : Int) (w : World) :
    Calls Try.prog 99 #[.agg #[.int .i64 x, .int .i64 y]] w fun e w' => e = .returned (.int .i64 x) ∧ Below w.heap.size w w' := by
  go_enter Try.func99, Try.ntmps99
  go_wp2
  go_ret
  exact ⟨rfl, bel_alloc _ _⟩
theorem ret_pair {a c : Int} {b d : Bool} (h : a = c) (h2 : b = d) : Ending.returned (.tuple #[.int .i64 a, .bool b]) = Ending.returned (.tuple #[.int .i64 c, .bool d]) := by rw [h, h2]
/-- Where the entry of an id stands, or would have to stand. -/
def plc (l : List (Int × Int)) (key : Int) : Nat := l.findIdx (fun p => decide (key ≤ p.1))
def fnd (l : List (Int × Int)) (key : Int) : Bool := decide (plc l key < l.length) && decide (idAt l (plc l key) = key)
theorem idAt_get {l : List (Int × Int)} {k : Nat} (h : k < l.length) : idAt l k = (l[k]).1 := by simp [idAt, List.getD, h]
theorem plc_le (l : List (Int × Int)) (key : Int) : plc l key ≤ l.length := List.findIdx_le_length
theorem plc_at {l : List (Int × Int)} {key : Int} {k : Nat} (hk : k < l.length) (hlo : ∀ j, j < k → idAt l j < key) (hhi : key ≤ idAt l k) : plc l key = k := by
  rw [plc, List.findIdx_eq hk]
  refine ⟨by rw [← idAt_get hk]; simpa using hhi, fun j hj => ?_⟩
  have := hlo j hj
  rw [idAt_get (by omega)] at this
  simp; omega
theorem plc_none {l : List (Int × Int)} {key : Int} (hlo : ∀ j, j < l.length → idAt l j < key) : plc l key = l.length := by
  rw [plc, List.findIdx_eq_length]
  intro x hx
  obtain ⟨j, hj, rfl⟩ := List.mem_iff_getElem.1 hx
  have := hlo j hj
  rw [idAt_get hj] at this
  simp; omega
theorem fnd_at {l : List (Int × Int)} {key : Int} {k : Nat} (hk : k < l.length) (h : plc l key = k) : fnd l key = decide (idAt l k = key) := by simp [fnd, h, hk]
theorem fnd_none {l : List (Int × Int)} {key : Int} (h : plc l key = l.length) : fnd l key = false := by simp [fnd, h]
set_option maxHeartbeats 1000000 in
theorem placeOf_none (a : Option Addr) (cap : Nat) (key : Int) (w : World) :
    Calls Try.prog 98 #[.slice a 0 cap, .int .i64 key, .func (.func 99) #[] #[]] w fun e w' => e = .returned (.tuple #[.int .i64 0, .bool false]) ∧ w' = w := by
  go_enter Try.func98, Try.ntmps98
  go_wp2
  go_rounds 1
  go_ret2
  exact ⟨rfl, rfl⟩
set_option maxRecDepth 100000 in
set_option maxHeartbeats 4000000 in
theorem placeOf_some (b off cap : Nat) (l : List (Int × Int)) (key : Int) (hl : l.length ≤ 1000000) (w : World) (hb : b < w.heap.size) (hc : ∀ i, i < l.length → w.cell? ⟨b, off + i * 2, none⟩ = some (.int .i64 (idAt l i)) ∧ w.cell? ⟨b, off + i * 2 + 1, none⟩ = some (.int .i64 (btAt l i))) :
    Calls Try.prog 98 #[.slice (some ⟨b, off, none⟩) l.length cap, .int .i64 key, .func (.func 99) #[] #[]] w fun e w' => e = .returned (.tuple #[.int .i64 (plc l key), .bool (fnd l key)]) ∧ Below w.heap.size w w' := by
  have HC : Hid (∀ i, i < l.length → w.cell? ⟨b, off + i * 2, none⟩ = some (.int .i64 (idAt l i)) ∧ w.cell? ⟨b, off + i * 2 + 1, none⟩ = some (.int .i64 (btAt l i))) := hc
  have HA : Hid (∀ k, k < l.length → (∀ j, j < k → idAt l j < key) → key ≤ idAt l k → plc l key = k ∧ fnd l key = decide (idAt l k = key)) := (fun k hk h1 h2 => ⟨plc_at hk h1 h2, fnd_at hk (plc_at hk h1 h2)⟩)
  have HE : Hid ((∀ j, j < l.length → idAt l j < key) → plc l key = l.length ∧ fnd l key = false) := (fun h => ⟨plc_none h, fnd_none (plc_none h)⟩)
  clear hc
  generalize hlen : l.length = len at hl HC HA HE ⊢
  clear hlen
  generalize plc l key = pp at HA HE ⊢
  generalize fnd l key = ff at HA HE ⊢
  go_enter Try.func98, Try.ntmps98
  go_wp2
  go_loopw [13] (fun i wr => ∃ k : Nat, k ≤ len ∧ i = .int .i64 k ∧ Hid (∀ j, j < k → idAt l j < key) ∧ Hid (Below w.heap.size w wr)) (fun i _ => len - (intOf i).toNat)
  case atStart => exact ⟨0, Nat.zero_le _, rfl, fun j hj => absurd hj (by omega), Below.refl _ _⟩
  case round =>
    obtain ⟨k, hk, rfl, hto, hB⟩ := hrel
    by_cases hlt : k < len
    · have hlt' : (k : Int) < (len : Int) := by omega
      have g0 : wr.cell? ⟨b, off + k * 2, none⟩ = some (.int .i64 (idAt l k)) := (hB.out.cell (p := ⟨b, off + k * 2, none⟩) hb).trans (HC.out k hlt).1
      have g1 : wr.cell? ⟨b, off + k * 2 + 1, none⟩ = some (.int .i64 (btAt l k)) := (hB.out.cell (p := ⟨b, off + k * 2 + 1, none⟩) hb).trans (HC.out k hlt).2
      have hBA : Hid (Below w.heap.size w (wr.alloc (.cells #[.int .i64 (idAt l k), .int .i64 (btAt l k)] 69))) := Below.onA hB.out
      by_cases hge : key ≤ idAt l k
      · obtain ⟨p1, p2⟩ := HA.out k hlt hto.out hge
        have P1 : Hid (pp = k) := p1
        have P2 : Hid (ff = decide (idAt l k = key)) := p2
        clear p1 p2 HA HE hto
        go_wp2_with (go_at_call 99; refine (idOf_any _ _ _).mono ?_; rintro e w2 ⟨rfl, hb2⟩)
        go_ret2
        exact ⟨ret_pair (by rw [P1.out]) (by rw [P2.out]; rfl), Below.on hBA.out hb2⟩
      · have hd : decide (key ≤ idAt l k) = false := decide_eq_false hge
        have hto2 : Hid (∀ j, j < k + 1 → idAt l j < key) := (fun j hj => by
          by_cases e : j = k
          · subst e; omega
          · exact hto.out j (by omega))
        clear hge hto HA HE
        go_wp2_with (go_at_call 99; refine (idOf_any _ _ _).mono ?_; rintro e w2 ⟨rfl, hb2⟩)
        go_roundw
        case rel => exact ⟨k + 1, by omega, by go_num, hto2, Below.on hBA.out hb2⟩
        case measure => simp [intOf]; omega
    · have : k = len := by omega
      subst this
      obtain ⟨p1, p2⟩ := HE.out hto.out
      have P1 : Hid (pp = k) := p1
      have P2 : Hid (ff = false) := p2
      clear p1 p2 HA HE hto
      go_wp2
      go_ret2
      exact ⟨ret_pair (by rw [P1.out]) P2.out.symm, hB.out⟩
/-- impl.placeOf. -/
theorem placeOf_any (a : Option Addr) (len cap : Nat) (l : List (Int × Int)) (key : Int) (hl : len ≤ 1000000) (w : World) (hi : Prs a len l w) :
    Calls Try.prog 98 #[.slice a len cap, .int .i64 key, .func (.func 99) #[] #[]] w fun e w' => e = .returned (.tuple #[.int .i64 (plc l key), .bool (fnd l key)]) ∧ Below w.heap.size w w' := by
  obtain ⟨hln, hp⟩ := hi
  subst hln
  by_cases h0 : l.length = 0
  · have e : plc l key = l.length := plc_none (fun j hj => absurd hj (by omega))
    rw [fnd_none e, e, h0]
    refine (placeOf_none a cap key w).mono ?_
    rintro e w' ⟨rfl, rfl⟩
    exact ⟨rfl, Below.refl _ _⟩
  · obtain ⟨b, off, rfl, hlt, hc⟩ := hp (by omega)
    exact placeOf_some b off cap l key hl w hlt hc
end Go.Proofs.Ytgojbilbkfilgaa
