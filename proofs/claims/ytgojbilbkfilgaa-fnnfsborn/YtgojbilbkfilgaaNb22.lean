/- Laid together: DropMath, SDrop. -/
import Derived.Test.YtgojbilbkfilgaaNb18
import Derived.Test.YtgojbilbkfilgaaNb21
/- What is left of a list without one entry; the place of an id in a list that rises. -/
namespace Go.Proofs.Ytgojbilbkfilgaa
open Go.RowKit Go.PlainAid Go.Deep
set_option linter.unusedVariables false
/-- All bits are bits. -/
def bnd (l : List (Int × Int)) : Prop := ∀ p ∈ l, 0 ≤ p.2 ∧ p.2 ≤ 7
theorem btAt_get {l : List (Int × Int)} {k : Nat} (h : k < l.length) : btAt l k = (l[k]).2 := by simp [btAt, List.getD, h]
theorem bnd_bt {l : List (Int × Int)} (h : bnd l) : ∀ k, k < l.length → 0 ≤ btAt l k ∧ btAt l k ≤ 7 := by
  intro k hk
  rw [btAt_get hk]
  exact h _ (List.getElem_mem hk)
theorem bt_bnd {l : List (Int × Int)} (h : ∀ k, k < l.length → 0 ≤ btAt l k ∧ btAt l k ≤ 7) : bnd l := by
  intro p hp
  obtain ⟨k, hk, rfl⟩ := List.mem_iff_getElem.1 hp
  rw [← btAt_get hk]
  exact h k hk
theorem bnd_splice {l ins : List (Int × Int)} (h : bnd l) (hi : bnd ins) (k n : Nat) : bnd (l.take k ++ ins ++ l.drop n) := by
  intro p hp
  simp only [List.mem_append] at hp
  rcases hp with (hp | hp) | hp
  · exact h p (List.mem_of_mem_take hp)
  · exact hi p hp
  · exact h p (List.mem_of_mem_drop hp)
theorem nmRises_at {l : List (Int × Int)} : ∀ {n k : Nat}, nmRises l n = true → k < n → okN l k = true := by
  intro n
  induction n with
  | zero => intro k _ h; omega
  | succ n ih =>
    intro k h hk
    simp only [nmRises, Bool.and_eq_true] at h
    by_cases e : k = n
    · subst e; exact h.2
    · exact ih h.1 (by omega)
theorem nm_up {l : List (Int × Int)} (h : nmB l = true) : ∀ j, j < l.length → ∀ i, i < j → idAt l i < idAt l j := by
  have hr : nmRises l l.length = true := by
    simp only [nmB, Bool.and_eq_true] at h
    exact h.2
  have step : ∀ k, k + 1 < l.length → idAt l k < idAt l (k + 1) := by
    intro k hk
    have := nmRises_at hr hk
    simp [okN] at this
    exact this.2.2
  intro j
  induction j with
  | zero => intro _ i hi; omega
  | succ j ih =>
    intro hj i hi
    by_cases e : i = j
    · subst e; exact step i hj
    · have := ih (by omega) i (by omega)
      have h2 := step j hj
      omega
/-- Of a list that rises: where the id stands. -/
theorem fnd_eq {l : List (Int × Int)} (h : nmB l = true) {key : Int} {k : Nat} (hk : k < l.length) (e : idAt l k = key) : fnd l key = true ∧ plc l key = k := by
  have hp : plc l key = k := plc_at hk (fun j hj => by have := nm_up h k hk j hj; omega) (by omega)
  refine ⟨?_, hp⟩
  rw [fnd_at hk hp]
  simp [e]
theorem fnd_ne {l : List (Int × Int)} {key : Int} (hne : ∀ j, j < l.length → idAt l j ≠ key) : fnd l key = false := by
  unfold fnd
  by_cases h : plc l key < l.length
  · simp [h, hne _ h]
  · simp [h]
theorem fnd_lt {l : List (Int × Int)} {key : Int} (h : fnd l key = true) : plc l key < l.length := by
  unfold fnd at h
  simp at h
  exact h.1
/-- The list without the entry at a place. -/
def cutL (l : List (Int × Int)) (k : Nat) : List (Int × Int) := l.take k ++ [] ++ l.drop (k + 1)
theorem cutL_len {l : List (Int × Int)} {k : Nat} (h : k < l.length) : (cutL l k).length = l.length - 1 := by
  simp [cutL]
  omega
theorem froz_new (w : World) (c : Array Value) (t : TypeId) (o : Nat) : (w.alloc (.cells c t)).frozen? ⟨w.heap.size, o, none⟩ = false := by
  have hb : (w.alloc (.cells c t)).heap[w.heap.size]? = some (.cells c t) := by
    rw [World.alloc]
    exact Array.getElem?_push_size
  simp only [World.frozen?, hb]
  simp
theorem prs_nil (w : World) (c : Nat) : Prs none 0 [] w := ⟨rfl, fun h => absurd h (by omega)⟩
theorem Box8.other {w : World} {B b o : Nat} {v0 v1 v2 v3 v4 v5 v6 v7 v : Value} (h : Box8 w B v0 v1 v2 v3 v4 v5 v6 v7) (hne : b ≠ B) : Box8 (w.setCell ⟨b, o, none⟩ v) B v0 v1 v2 v3 v4 v5 v6 v7 :=
  h.keep (by simpa using h.lt) (fun o2 => World.cell?_setCell_other _ _ _ _ (by intro h; have h2 := congrArg Addr.block h; simp only at h2; omega))
set_option maxHeartbeats 1000000 in
theorem usersIn_any (B : Nat) (w : World) : Calls Try.prog 67 #[.pointer (some ⟨B, 0, none⟩)] w fun e w' => e = .returned (.pointer (some ⟨B, 3, none⟩)) ∧ w' = w := by
  go_enter Try.func67, Try.ntmps67
  go_wp2
  go_ret
  exact ⟨rfl, rfl⟩
set_option maxHeartbeats 1000000 in
theorem groupsIn_any (B : Nat) (w : World) : Calls Try.prog 71 #[.pointer (some ⟨B, 0, none⟩)] w fun e w' => e = .returned (.pointer (some ⟨B, 4, none⟩)) ∧ w' = w := by
  go_enter Try.func71, Try.ntmps71
  go_wp2
  go_ret
  exact ⟨rfl, rfl⟩
set_option maxHeartbeats 1000000 in
theorem sAt_none (a : Option Addr) (cap : Nat) (key : Int) (w : World) :
    Calls Try.prog 79 #[.slice a 0 cap, .int .i64 key] w fun e w' => e = .returned (.int .i64 (-1)) ∧ w' = w := by
  go_enter Try.func79, Try.ntmps79
  go_wp2
  go_rounds 1
  go_ret
  exact ⟨rfl, rfl⟩
/-- The place of an id, or -1. -/
def atI (l : List (Int × Int)) (key : Int) : Int := if fnd l key then (plc l key : Int) else -1
set_option maxRecDepth 100000 in
set_option maxHeartbeats 4000000 in
theorem sAt_some (b off cap : Nat) (l : List (Int × Int)) (key : Int) (hl : l.length ≤ 1000000) (hr : nmB l = true) (w : World) (hc : ∀ i, i < l.length → w.cell? ⟨b, off + i * 2, none⟩ = some (.int .i64 (idAt l i)) ∧ w.cell? ⟨b, off + i * 2 + 1, none⟩ = some (.int .i64 (btAt l i))) :
    Calls Try.prog 79 #[.slice (some ⟨b, off, none⟩) l.length cap, .int .i64 key] w fun e w' => e = .returned (.int .i64 (atI l key)) ∧ w' = w := by
  have HC : Hid (∀ i, i < l.length → w.cell? ⟨b, off + i * 2, none⟩ = some (.int .i64 (idAt l i)) ∧ w.cell? ⟨b, off + i * 2 + 1, none⟩ = some (.int .i64 (btAt l i))) := hc
  have HA : Hid (∀ k, k < l.length → idAt l k = key → atI l key = (k : Int)) := (fun k hk e => by
    obtain ⟨h1, h2⟩ := fnd_eq hr hk e
    rw [atI, h1, h2]; rfl)
  have HE : Hid ((∀ j, j < l.length → (idAt l j == key) = false) → atI l key = -1) := (fun h => by rw [atI, fnd_ne (fun j hj => by simpa using h j hj)]; rfl)
  clear hc hr
  generalize hlen : l.length = len at hl HC HA HE ⊢
  clear hlen
  generalize atI l key = pp at HA HE ⊢
  go_enter Try.func79, Try.ntmps79
  go_wp2
  go_loop [5] (fun i => ∃ k : Nat, k ≤ len ∧ i = .int .i64 k ∧ ∀ j, j < k → Hid ((idAt l j == key) = false)) (fun i => len - (intOf i).toNat)
  case atStart => exact ⟨0, Nat.zero_le _, rfl, fun j hj => absurd hj (by omega)⟩
  case round =>
    obtain ⟨k, hk, rfl, hto⟩ := hrel
    by_cases hlt : k < len
    · have hlt' : (k : Int) < (len : Int) := by omega
      obtain ⟨g0, _⟩ := HC.out k hlt
      cases he : (idAt l k == key)
      · have hto2 : ∀ j, j < k + 1 → Hid ((idAt l j == key) = false) := fun j hj => by
          by_cases e : j = k
          · subst e; exact he
          · exact hto j (by omega)
        clear hto HA HE
        go_wp2
        go_round
        case rel => exact ⟨k + 1, by omega, by go_num, hto2⟩
        case measure => simp [intOf]; omega
      · have hy : Hid (pp = (k : Int)) := HA.out k hlt (by simpa using he)
        clear hto HA HE
        go_wp2
        go_ret
        exact ⟨ret_intM hy.out.symm, rfl⟩
    · have : k = len := by omega
      subst this
      have hy : Hid (pp = -1) := HE.out (fun j hj => (hto j hj).out)
      clear hto HA HE
      go_wp2
      go_ret
      exact ⟨ret_intM hy.out.symm, rfl⟩
/-- spec.l03At of a list that rises. -/
theorem sAt_any (a : Option Addr) (len cap : Nat) (l : List (Int × Int)) (key : Int) (hr : nmB l = true) (w : World) (hi : Prs a len l w) :
    Calls Try.prog 79 #[.slice a len cap, .int .i64 key] w fun e w' => e = .returned (.int .i64 (atI l key)) ∧ w' = w := by
  obtain ⟨hln, hp⟩ := hi
  subst hln
  have hlen := nm_len hr
  by_cases h0 : l.length = 0
  · have e : atI l key = -1 := by rw [atI, fnd_ne (fun j hj => absurd hj (by omega))]; rfl
    rw [e, h0]
    exact sAt_none a cap key w
  · obtain ⟨b, off, rfl, hlt, hc⟩ := hp (by omega)
    exact sAt_some b off cap l key (by omega) hr w hc
end Go.Proofs.Ytgojbilbkfilgaa
/- spec.l03Drop: a list without one entry. -/
namespace Go.Proofs.Ytgojbilbkfilgaa
open Go.RowKit Go.PlainAid Go.Deep
set_option linter.unusedVariables false
/-- append onto a list that the call owns, said by where the lists lie. -/
theorem append_own (w w1 : World) (a1 : Option Addr) (c1 : Nat) (acc : List (Int × Int)) (n : Nat) (hO : w1.ownsRow w.heap.size 69 2 (.slice a1 n c1) acc.length (pc acc)) (a : Option Addr) (len cap : Nat) (l : List (Int × Int)) (hp : Prs a len l w1) (hsm : acc.length + len ≤ 1000000) (hb1 : Below w.heap.size w w1) :
    ∃ a' c' w', (Builtin.append_ #[23, 23] 23 #[.slice a1 n c1, .slice a len cap]).run Try.prog w1 = .ok (.slice a' (acc ++ l).length c') w' ∧ w'.ownsRow w.heap.size 69 2 (.slice a' (acc ++ l).length c') (acc ++ l).length (pc (acc ++ l)) ∧ Below w.heap.size w w' := by
  obtain ⟨v2, w2, hr2, hO2, hg2⟩ := run_append_prs (P := Try.prog) w1 w.heap.size 23 23 69 Try.underlying23 infoNamedC _ acc hO a len cap l hp (by omega) hb1.size
  have h2 := hO2
  obtain ⟨a', c', rfl, _, _⟩ := own_of_row hO2
  exact ⟨a', c', w2, hr2, h2, hb1.grown hg2 hb1.size (own_blockN hO)⟩
set_option maxRecDepth 100000 in
set_option maxHeartbeats 4000000 in
/-- spec.l03Drop. -/
theorem sDrop_any (a : Option Addr) (len cap : Nat) (l : List (Int × Int)) (k : Nat) (hk : k < len) (hcap : len ≤ cap) (hm : len ≤ 1000) (w : World) (hp : Prs a len l w) :
    Calls Try.prog 80 #[.slice a len cap, .int .i64 k] w fun e w' => ∃ a' c', e = .returned (.slice a' (len - 1) c') ∧ Own a' (len - 1) (cutL l k) w' ∧ (∀ Ad, a' = some Ad → w.heap.size ≤ Ad.block ∧ Ad.block < w'.heap.size) ∧ Below w.heap.size w w' := by
  obtain ⟨hln, hp⟩ := hp
  obtain ⟨b, off, rfl, hlt, hc⟩ := hp (by omega)
  rw [← hln] at hc
  have hh := prs_take (n := k) (by omega) hlt hc
  have ht := prs_drop (n := k + 1) (by omega) hlt hc
  rw [hln] at ht
  have hb0 := bel_alloc w (.cells #[] 69)
  have ho := own_start2 w w.heap.size rfl 69
  obtain ⟨v1, w1, hr1, hO1, hg1⟩ := run_append_prs (P := Try.prog) (w.alloc (.cells #[] 69)) w.heap.size 23 23 69 Try.underlying23 infoNamedC _ [] ho (some ⟨b, off, none⟩) k cap (l.take k) (hh.below hb0) (by simp; omega) (by simp)
  have hb1 : Below w.heap.size w w1 := hb0.grown hg1 (by simp) (own_blockN ho)
  rw [List.nil_append] at hO1
  have htk : (l.take k).length = k := by simp; omega
  have hO1' := hO1
  obtain ⟨a1, c1, rfl, _, _⟩ := own_of_row hO1
  have hcut : (cutL l k) = l.take k ++ l.drop (k + 1) := by simp [cutL]
  have hcl : (cutL l k).length = len - 1 := by rw [cutL_len (by omega), hln]
  have k1 : (k : Int) ≤ (cap : Int) := by omega
  have k2 : (k : Int) + 1 ≤ (len : Int) := by omega
  have k3 : (len : Int) ≤ (cap : Int) := by omega
  have fin : ∀ (a' : Option Addr) (c' : Nat) (w' : World), w'.ownsRow w.heap.size 69 2 (.slice a' (l.take k ++ l.drop (k + 1)).length c') (l.take k ++ l.drop (k + 1)).length (pc (l.take k ++ l.drop (k + 1))) → Below w.heap.size w w' → (l.take k ++ l.drop (k + 1)).length = len - 1 ∧ Own a' (len - 1) (cutL l k) w' ∧ (∀ Ad, a' = some Ad → w.heap.size ≤ Ad.block ∧ Ad.block < w'.heap.size) ∧ Below w.heap.size w w' := by
    intro a' c' w' h hb
    rw [← hcut] at h ⊢
    obtain ⟨x, y, e, h1, h2⟩ := own_of_row h
    cases e
    rw [hcl] at h1 ⊢
    exact ⟨rfl, h1, h2, hb⟩
  by_cases hq : cap = k + 1
  · have hlk : len = k + 1 := by omega
    subst hq
    obtain ⟨a2, c2, w2, hr2, hO2, hb2⟩ := append_own w w1 a1 c1 (l.take k) (l.take k).length hO1' (some ⟨b, off, none⟩) (len - (k + 1)) 0 (l.drop (k + 1)) ⟨ht.1, fun h => absurd h (by omega)⟩ (by omega) hb1
    obtain ⟨fe, R⟩ := fin a2 c2 w2 hO2 hb2
    rw [fe] at hr2
    have HR : Hid (Own a2 (len - 1) (cutL l k) w2 ∧ (∀ Ad, a2 = some Ad → w.heap.size ≤ Ad.block ∧ Ad.block < w2.heap.size) ∧ Below w.heap.size w w2) := R
    rw [htk] at hr1 hr2
    clear hh ht hb0 ho hO1 hO1' hg1 hb1 hO2 hb2 htk hcut hcl hc hp hlt hln fin fe R
    subst hlk
    simp only [Nat.sub_self] at hr2
    go_enter Try.func80, Try.ntmps80
    go_wp2_with (at_builtin; first | refine wpList_append_run _ rfl (.tmp 6) (.tmp 9) 23 23 rfl _ _ _ _ rfl rfl hr1 ?_ | refine wpList_append_run _ rfl (.tmp 11) (.tmp 15) 23 23 rfl _ _ _ _ rfl rfl hr2 ?_)
    go_ret
    exact ⟨a2, c2, rfl, HR.out⟩
  · have k4 : (k : Int) + 1 < (cap : Int) := by omega
    obtain ⟨a2, c2, w2, hr2, hO2, hb2⟩ := append_own w w1 a1 c1 (l.take k) (l.take k).length hO1' (some ⟨b, off + (k + 1) * 2, none⟩) (len - (k + 1)) (cap - (k + 1)) (l.drop (k + 1)) (ht.below hb1) (by omega) hb1
    obtain ⟨fe, R⟩ := fin a2 c2 w2 hO2 hb2
    rw [fe] at hr2
    have HR : Hid (Own a2 (len - 1) (cutL l k) w2 ∧ (∀ Ad, a2 = some Ad → w.heap.size ≤ Ad.block ∧ Ad.block < w2.heap.size) ∧ Below w.heap.size w w2) := R
    rw [htk] at hr1 hr2
    clear hh ht hb0 ho hO1 hO1' hg1 hb1 hO2 hb2 htk hcut hcl hc hp hlt hln fin fe R hq
    go_enter Try.func80, Try.ntmps80
    go_wp2_with (at_builtin; first | refine wpList_append_run _ rfl (.tmp 6) (.tmp 9) 23 23 rfl _ _ _ _ rfl rfl hr1 ?_ | refine wpList_append_run _ rfl (.tmp 11) (.tmp 15) 23 23 rfl _ _ _ _ rfl rfl hr2 ?_)
    all_goals (
      go_ret
      exact ⟨a2, c2, rfl, HR.out⟩)
end Go.Proofs.Ytgojbilbkfilgaa
