/- Laid together: Place, Splice, DropMath, SDrop. -/
import Derived.Test.YtedahdncincgjaaGreatDoorNX13
/- impl.placeOf at lists of pairs. -/
namespace Go.Proofs.YtedahdncincgjaaGreatDoor
open Go.RowKit Go.PlainAid Go.Deep
set_option linter.unusedVariables false
/-- Where the entry of an id stands, or would have to stand. -/
def plc (l : List (Int × Int)) (key : Int) : Nat := l.findIdx (fun p => decide (key ≤ p.1))
def fnd (l : List (Int × Int)) (key : Int) : Bool := decide (plc l key < l.length) && decide (idAt l (plc l key) = key)
theorem idAt_get {l : List (Int × Int)} {k : Nat} (h : k < l.length) : idAt l k = (l[k]).1 := by simp [idAt, List.getD, h]
theorem plc_le (l : List (Int × Int)) (key : Int) : plc l key ≤ l.length := List.findIdx_le_length
theorem plc_at {l : List (Int × Int)} {key : Int} {k : Nat} (hk : k < l.length) (hlo : ∀ j, j < k → idAt l j < key) (hhi : key ≤ idAt l k) : plc l key = k := by
  rw [plc, List.findIdx_eq hk]
  refine ⟨by rw [← idAt_get hk]; simpa using hhi, fun j hj => ?_⟩
  have := hlo j hj
  rw [idAt_get (by omega)] at this
  simp; omega
theorem plc_none {l : List (Int × Int)} {key : Int} (hlo : ∀ j, j < l.length → idAt l j < key) : plc l key = l.length := by
  rw [plc, List.findIdx_eq_length]
  intro x hx
  obtain ⟨j, hj, rfl⟩ := List.mem_iff_getElem.1 hx
  have := hlo j hj
  rw [idAt_get hj] at this
  simp; omega
theorem fnd_at {l : List (Int × Int)} {key : Int} {k : Nat} (hk : k < l.length) (h : plc l key = k) : fnd l key = decide (idAt l k = key) := by simp [fnd, h, hk]
theorem fnd_none {l : List (Int × Int)} {key : Int} (h : plc l key = l.length) : fnd l key = false := by simp [fnd, h]
theorem idAt_take {l : List (Int × Int)} {n i : Nat} (h : i < n) : idAt (l.take n) i = idAt l i ∧ btAt (l.take n) i = btAt l i := by
  unfold idAt btAt
  simp [List.getD, List.getElem?_take_of_lt h]
theorem idAt_drop {l : List (Int × Int)} {n i : Nat} : idAt (l.drop n) i = idAt l (n + i) ∧ btAt (l.drop n) i = btAt l (n + i) := by
  unfold idAt btAt
  simp [List.getD, List.getElem?_drop]
/-- A slice's head, and its tail. -/
theorem prs_take {b off : Nat} {l : List (Int × Int)} {w : World} {n : Nat} (hn : n ≤ l.length) (hlt : b < w.heap.size) (hc : ∀ i, i < l.length → w.cell? ⟨b, off + i * 2, none⟩ = some (.int .i64 (idAt l i)) ∧ w.cell? ⟨b, off + i * 2 + 1, none⟩ = some (.int .i64 (btAt l i))) : Prs (some ⟨b, off, none⟩) n (l.take n) w := by
  refine ⟨by simp; omega, fun _ => ⟨b, off, rfl, hlt, fun i hi => ?_⟩⟩
  rw [(idAt_take hi).1, (idAt_take hi).2]
  exact hc i (by omega)
theorem prs_drop {b off : Nat} {l : List (Int × Int)} {w : World} {n : Nat} (hn : n ≤ l.length) (hlt : b < w.heap.size) (hc : ∀ i, i < l.length → w.cell? ⟨b, off + i * 2, none⟩ = some (.int .i64 (idAt l i)) ∧ w.cell? ⟨b, off + i * 2 + 1, none⟩ = some (.int .i64 (btAt l i))) : Prs (some ⟨b, off + n * 2, none⟩) (l.length - n) (l.drop n) w := by
  refine ⟨by simp, fun _ => ⟨b, off + n * 2, rfl, hlt, fun i hi => ?_⟩⟩
  rw [idAt_drop.1, idAt_drop.2]
  have := hc (n + i) (by omega)
  have e1 : off + (n + i) * 2 = off + n * 2 + i * 2 := by omega
  rw [e1] at this
  exact this
/-- All bits are bits. -/
def bnd (l : List (Int × Int)) : Prop := ∀ p ∈ l, 0 ≤ p.2 ∧ p.2 ≤ 7
theorem btAt_get {l : List (Int × Int)} {k : Nat} (h : k < l.length) : btAt l k = (l[k]).2 := by simp [btAt, List.getD, h]
theorem bnd_bt {l : List (Int × Int)} (h : bnd l) : ∀ k, k < l.length → 0 ≤ btAt l k ∧ btAt l k ≤ 7 := by
  intro k hk
  rw [btAt_get hk]
  exact h _ (List.getElem_mem hk)
theorem bt_bnd {l : List (Int × Int)} (h : ∀ k, k < l.length → 0 ≤ btAt l k ∧ btAt l k ≤ 7) : bnd l := by
  intro p hp
  obtain ⟨k, hk, rfl⟩ := List.mem_iff_getElem.1 hp
  rw [← btAt_get hk]
  exact h k hk
theorem bnd_splice {l ins : List (Int × Int)} (h : bnd l) (hi : bnd ins) (k n : Nat) : bnd (l.take k ++ ins ++ l.drop n) := by
  intro p hp
  simp only [List.mem_append] at hp
  rcases hp with (hp | hp) | hp
  · exact h p (List.mem_of_mem_take hp)
  · exact hi p hp
  · exact h p (List.mem_of_mem_drop hp)
theorem nmRises_at {l : List (Int × Int)} : ∀ {n k : Nat}, nmRises l n = true → k < n → okN l k = true := by
  intro n
  induction n with
  | zero => intro k _ h; omega
  | succ n ih =>
    intro k h hk
    simp only [nmRises, Bool.and_eq_true] at h
    by_cases e : k = n
    · subst e; exact h.2
    · exact ih h.1 (by omega)
theorem nm_up {l : List (Int × Int)} (h : nmB l = true) : ∀ j, j < l.length → ∀ i, i < j → idAt l i < idAt l j := by
  have hr : nmRises l l.length = true := by
    simp only [nmB, Bool.and_eq_true] at h
    exact h.2
  have step : ∀ k, k + 1 < l.length → idAt l k < idAt l (k + 1) := by
    intro k hk
    have := nmRises_at hr hk
    simp [okN] at this
    exact this.2.2
  intro j
  induction j with
  | zero => intro _ i hi; omega
  | succ j ih =>
    intro hj i hi
    by_cases e : i = j
    · subst e; exact step i hj
    · have := ih (by omega) i (by omega)
      have h2 := step j hj
      omega
theorem fnd_lt {l : List (Int × Int)} {key : Int} (h : fnd l key = true) : plc l key < l.length := by
  unfold fnd at h
  simp at h
  exact h.1
theorem froz_new (w : World) (c : Array Value) (t : TypeId) (o : Nat) : (w.alloc (.cells c t)).frozen? ⟨w.heap.size, o, none⟩ = false := by
  have hb : (w.alloc (.cells c t)).heap[w.heap.size]? = some (.cells c t) := by
    rw [World.alloc]
    exact Array.getElem?_push_size
  simp only [World.frozen?, hb]
  simp
theorem Box8.other {w : World} {B b o : Nat} {v0 v1 v2 v3 v4 v5 v6 v7 v : Value} (h : Box8 w B v0 v1 v2 v3 v4 v5 v6 v7) (hne : b ≠ B) : Box8 (w.setCell ⟨b, o, none⟩ v) B v0 v1 v2 v3 v4 v5 v6 v7 :=
  h.keep (by simpa using h.lt) (fun o2 => World.cell?_setCell_other _ _ _ _ (by intro h; have h2 := congrArg Addr.block h; simp only at h2; omega))
/-- append onto a list that the call owns, said by where the lists lie. -/
theorem append_own (w w1 : World) (a1 : Option Addr) (c1 : Nat) (acc : List (Int × Int)) (n : Nat) (hO : w1.ownsRow w.heap.size 116 2 (.slice a1 n c1) acc.length (pc acc)) (a : Option Addr) (len cap : Nat) (l : List (Int × Int)) (hp : Prs a len l w1) (hsm : acc.length + len ≤ 1000000) (hb1 : Below w.heap.size w w1) :
    ∃ a' c' w', (Builtin.append_ #[81, 81] 81 #[.slice a1 n c1, .slice a len cap]).run Tryz.prog w1 = .ok (.slice a' (acc ++ l).length c') w' ∧ w'.ownsRow w.heap.size 116 2 (.slice a' (acc ++ l).length c') (acc ++ l).length (pc (acc ++ l)) ∧ Below w.heap.size w w' := by
  obtain ⟨v2, w2, hr2, hO2, hg2⟩ := run_append_prs (P := Tryz.prog) w1 w.heap.size 81 81 116 Tryz.underlying81 infoNamedC _ acc hO a len cap l hp (by omega) hb1.size
  have h2 := hO2
  obtain ⟨a', c', rfl, _, _⟩ := own_of_row hO2
  exact ⟨a', c', w2, hr2, h2, hb1.grown hg2 hb1.size (own_blockN hO)⟩
end Go.Proofs.YtedahdncincgjaaGreatDoor
