/- Laid together: CatMath, Concat, MaskOf. -/
import Derived.Laws.AppendOwn
import Derived.Deep.AppendSrc
import Derived.Deep.Upon
import Derived.Lib.AppendZeros
import Derived.Test.YtgodbelcddgdmaaGreatNF21
/- Lists of pairs that are put behind one another by append: nothing here names a program. -/
namespace Go.Proofs.YtgodbelcddgdmaaGreat
open Go.RowKit Go.PlainAid Go.Deep
set_option linter.unusedVariables false
/-- The cells of a list of pairs. -/
def pc : List (Int × Int) → List Value
  | [] => []
  | p :: l => .int .i64 p.1 :: .int .i64 p.2 :: pc l
theorem pc_length (l : List (Int × Int)) : (pc l).length = l.length * 2 := by
  induction l with
  | nil => rfl
  | cons p l ih => simp [pc, ih]; omega
theorem pc_append (l k : List (Int × Int)) : pc (l ++ k) = pc l ++ pc k := by
  induction l with
  | nil => rfl
  | cons p l ih => simp [pc, ih]
theorem pc_one (l : List (Int × Int)) : ∀ u ∈ pc l, u.oneCell' = true := by
  induction l with
  | nil => intro u h; cases h
  | cons p l ih =>
    intro u h
    simp only [pc, List.mem_cons] at h
    rcases h with rfl | rfl | h
    · rfl
    · rfl
    · exact ih u h
theorem pc_get (l : List (Int × Int)) : ∀ i, i < l.length → (pc l)[i * 2]? = some (.int .i64 (idAt l i)) ∧ (pc l)[i * 2 + 1]? = some (.int .i64 (btAt l i)) := by
  induction l with
  | nil => intro i h; simp at h
  | cons p l ih =>
    intro i h
    cases i with
    | zero => exact ⟨rfl, rfl⟩
    | succ i =>
      have h1 := ih i (by simpa using h)
      have e1 : (i + 1) * 2 = i * 2 + 1 + 1 := by omega
      rw [e1]
      simp only [pc, List.getElem?_cons_succ]
      exact h1
theorem addr_add0 (b off i : Nat) : (⟨b, off, none⟩ : Addr).add i = ⟨b, off + i, none⟩ := by
  by_cases e : i = 0
  · subst e; simp [Addr.add]
  · simp [Addr.add, e]
theorem prs_news {b off : Nat} {l : List (Int × Int)} {w : World} (hc : ∀ i, i < l.length → w.cell? ⟨b, off + i * 2, none⟩ = some (.int .i64 (idAt l i)) ∧ w.cell? ⟨b, off + i * 2 + 1, none⟩ = some (.int .i64 (btAt l i))) :
    ∀ j u, (pc l)[j]? = some u → w.cell? ((⟨b, off, none⟩ : Addr).add j) = some u := by
  intro j u hj
  have hlt : j < l.length * 2 := by
    have := (List.getElem?_eq_some_iff.1 hj).1
    rwa [pc_length] at this
  have hi : j / 2 < l.length := by omega
  obtain ⟨g0, g1⟩ := pc_get l (j / 2) hi
  obtain ⟨c0, c1⟩ := hc (j / 2) hi
  rw [addr_add0]
  rcases Nat.mod_two_eq_zero_or_one j with e | e
  · have ej : j = j / 2 * 2 := by omega
    rw [ej, g0] at hj
    rw [ej, ← hj]
    exact c0
  · have ej : j = j / 2 * 2 + 1 := by omega
    rw [ej, g1] at hj
    rw [ej, ← hj]
    exact c1
/-- A row that is owned, as a list of pairs. -/
theorem own_of_row {w : World} {B : Nat} {t : TypeId} {v : Value} {l : List (Int × Int)} (h : w.ownsRow B t 2 v l.length (pc l)) :
    ∃ a cap, v = .slice a l.length cap ∧ Own a l.length l w ∧ (∀ A, a = some A → B ≤ A.block ∧ A.block < w.heap.size) := by
  obtain ⟨_, ⟨rfl, hn⟩ | ⟨g, cap, cur, rfl, hb, hg, hc, _, hs, ht⟩⟩ := h
  · refine ⟨none, 0, by rw [hn], ⟨rfl, fun h => absurd h (by omega)⟩, fun A e => by cases e⟩
  · have hlt : g < w.heap.size := (Array.getElem?_eq_some_iff.1 hg).1
    refine ⟨some ⟨g, 0, none⟩, cap, rfl, ⟨rfl, fun _ => ⟨g, rfl, hlt, fun i hi => ?_⟩⟩, fun A e => by cases e; exact ⟨hb, hlt⟩⟩
    have cell : ∀ j u, (pc l)[j]? = some u → j < l.length * 2 → w.cell? ⟨g, j, none⟩ = some u := by
      intro j u hj hlt
      rw [← ht, List.getElem?_take_of_lt hlt] at hj
      have : w.cell? ⟨g, j, none⟩ = cur[j]? := by simp [World.cell?, hg]
      rw [this]
      simpa using hj
    have froz : ∀ j, j < cur.size → w.frozen? ⟨g, j, none⟩ = false := by
      intro j hj
      simp [World.frozen?, hg]
    have hsz : i * 2 + 1 < cur.size := by
      rw [hs]
      have : (i + 1) * 2 ≤ cap * 2 := Nat.mul_le_mul_right _ (by omega)
      omega
    exact ⟨⟨cell _ _ (pc_get l i hi).1 (by omega), cell _ _ (pc_get l i hi).2 (by omega)⟩, froz _ (by omega), froz _ hsz⟩
theorem own_blockN {w : World} {B : Nat} {t : TypeId} {s : Nat} {v : Value} {n : Nat} {xs : List Value} (h : w.ownsRow B t s v n xs) : ∀ k, v.ownBlock = some k → B ≤ k := by
  obtain ⟨_, ⟨rfl, _⟩ | ⟨g, cap, cur, rfl, hb, _⟩⟩ := h
  · intro k hk; simp [Value.ownBlock] at hk
  · intro k hk; simp [Value.ownBlock] at hk; omega
/-- append, of a list of pairs, onto a row that the call owns. -/
theorem run_append_prs {P : Program} (w : World) (base : Nat) (t ty e : TypeId) (ht : P.underlying t = some (.slice e)) (hinfo : (P.info? e).map (fun i => (i.zero, i.size, i.bytes)) = some (some (.agg #[.int .i64 0, .int .i64 0]), 2, 16))
    (v : Value) (acc : List (Int × Int)) (hown : w.ownsRow base e 2 v acc.length (pc acc)) (a : Option Addr) (len cap : Nat) (l : List (Int × Int)) (hp : Prs a len l w) (hsm : acc.length + len ≤ 1000000000) (hbase : base ≤ w.heap.size) :
    ∃ v' w', (Builtin.append_ #[t, t] ty #[v, .slice a len cap]).run P w = .ok v' w' ∧ w'.ownsRow base e 2 v' (acc ++ l).length (pc (acc ++ l)) ∧ w.grownBy w' v.ownBlock := by
  obtain ⟨i, hi, hzz⟩ := Option.map_eq_some_iff.1 hinfo
  simp only [Prod.mk.injEq] at hzz
  obtain ⟨hz, hs, hb⟩ := hzz
  obtain ⟨hln, hp⟩ := hp
  subst hln
  by_cases h0 : l.length = 0
  · have hl : l = [] := List.eq_nil_of_length_eq_zero h0
    subst hl
    rw [List.append_nil]
    have hsrc : Src P i.size t (.slice a 0 cap) 0 [] w := by
      cases a with
      | none => exact Src.ofNil w ht cap
      | some a => exact Src.ofSlice w ht a 0 cap [] (by simp) (fun j u h => by simp at h) (fun u h => by cases h)
    have hv : ∃ b n c, v = .slice b n c ∧ n ≤ c := by
      obtain ⟨_, ⟨rfl, hn⟩ | ⟨g, c, cur, rfl, _, _, hc, _⟩⟩ := hown
      · exact ⟨none, 0, 0, rfl, Nat.le_refl _⟩
      · exact ⟨_, _, _, rfl, hc⟩
    obtain ⟨b, n, c, rfl, hnc⟩ := hv
    exact ⟨_, w, run_append_nothing w t t ty e i ht hi b n c hnc _ hsrc, hown, ⟨rfl, rfl, rfl, Nat.le_refl _, fun _ _ _ => rfl⟩⟩
  · obtain ⟨b, off, rfl, hlt, hc⟩ := hp (by omega)
    obtain ⟨v', w', hr, h1, h2, _⟩ := run_append_own (P := P) w base t ty e i _ 2 16 ht hi hz hs hb rfl (by decide) v acc.length (pc acc) hown ⟨b, off, none⟩ l.length cap (pc l) (pc_length l) (prs_news hc) (pc_one l) (by unfold maxLen; omega) (by omega) hbase
    refine ⟨v', w', hr, ?_, h2⟩
    rw [pc_append, List.length_append]
    exact h1
/-- The builtin append, by what it runs to. -/
theorem wpList_append_run {P : Program} (w : World) {ops : Array Oper} {rest : List Oper} {o : Oper} {a : Act} {Q : Exit → Act → World → Prop} (hgd : o.guard = none) (s x : Operand) (t tx : TypeId)
    (ho : o.op = .call { callee := .builtin .append, args := #[s, x], argTypes := #[t, tx] }) (v xv v' : Value) (w' : World) (hs : a.eval s = v) (hx : a.eval x = xv)
    (hr : (Builtin.append_ #[t, tx] o.type #[v, xv]).run P w = .ok v' w') (h : wpList P ops Q rest (a.put o.dst v') w') : wpList P ops Q (o :: rest) a w :=
  wpList_plain hgd fun _ hK => by
    unfold Oper.wp execOp
    simp only [ho, resolve, invoke, builtin, Sem.run_bind, Sem.run_pure, Result.andThen_ok, List.map_toArray, List.map_cons, List.map_nil, hs, hx, hr]
    exact hK _ _ h
theorem infoNamedC : (Tryz.prog.info? 90).map (fun i => (i.zero, i.size, i.bytes)) = some (some (.agg #[.int .i64 0, .int .i64 0]), 2, 16) := by kernel_rfl
set_option maxRecDepth 100000 in
/-- append of n zero values onto nil. -/
theorem append_zeros (n : Nat) (h0 : 0 < n) (h1 : n ≤ 1000000) (ty : TypeId) (w : World) :
    ∃ c w', (Builtin.append_ #[26, 3] ty #[.slice none 0 0, .int .i64 n]).run Tryz.prog w = .ok (.slice (some ⟨w.heap.size, 0, none⟩) n c) w' ∧ n ≤ c ∧ w'.ownsRow w.heap.size 90 2 (.slice (some ⟨w.heap.size, 0, none⟩) 0 c) 0 [] ∧ Below w.heap.size w w' := by
  obtain ⟨i, hi, hzz⟩ := Option.map_eq_some_iff.1 infoNamedC
  simp only [Prod.mk.injEq] at hzz
  obtain ⟨hz, hs, hb⟩ := hzz
  have hr := Go.Lib.run_append_nil_zeros (P := Tryz.prog) w 26 3 ty 90 i _ .i64 .i64 Tryz.underlying26 Tryz.underlying3 hi hz n h0 (by omega) (by omega) (by rw [hb]; omega)
  have hge := grownCap_ge w n 0 90
  have hcm : grownCap w n 0 90 ≤ maxLen := grownCap_le_maxLen w n 0 90 (by unfold maxLen; omega)
  refine ⟨_, _, hr, hge, ?_, ?_⟩
  · refine World.ownsRow_made w.drew _ _ (Nat.le_refl _) hcm ?_
    simp only [Array.size_append, size_zeroCells]
    rw [← Nat.add_mul]
    congr 1
    omega
  · exact Below.trans (b := w.drew) ⟨rfl, rfl, rfl, Nat.le_refl _, fun _ _ => rfl⟩ (bel_alloc w.drew _)
set_option maxRecDepth 100000 in
set_option maxHeartbeats 2000000 in
theorem grow_nil (n : Nat) (h1 : n ≤ 1000000) (w : World) :
    Calls Tryz.prog 89 #[.slice none 0 0, .int .i64 n] w fun e w' => ∃ v, e = .returned v ∧ w'.ownsRow w.heap.size 90 2 v 0 [] ∧ Below w.heap.size w w' := by
  have d0 : decide ((n : Int) < 0) = false := decide_eq_false (by omega)
  by_cases h0 : n = 0
  · subst h0
    go_enter Tryz.func89, Tryz.ntmps89
    go_wp2
    go_ret
    exact ⟨_, rfl, World.ownsRow_nil _ _ _ _, Below.refl _ _⟩
  · have hp : 0 < (n : Int) := by omega
    obtain ⟨c, w1, hr, hnc, hown, hbel⟩ := append_zeros n (by omega) h1 26 w
    have hc0 : (0 : Int) ≤ (c : Int) := by omega
    have HO : Hid (w1.ownsRow w.heap.size 90 2 (.slice (some ⟨w.heap.size, 0, none⟩) 0 c) 0 []) := hown
    have HB : Hid (Below w.heap.size w w1) := hbel
    clear h0 hown hbel
    go_enter Tryz.func89, Tryz.ntmps89
    go_wp2_with (at_builtin; refine wpList_append_run _ rfl (.tmp 20) (.tmp 21) 26 3 rfl _ _ _ _ rfl rfl hr ?_)
    go_ret
    exact ⟨_, rfl, HO.out, HB.out⟩
theorem own_cap {w : World} {B : Nat} {t : TypeId} {a : Option Addr} {n c : Nat} {xs : List Value} (h : w.ownsRow B t 2 (.slice a n c) n xs) : n ≤ c := by
  obtain ⟨_, ⟨h, hn⟩ | ⟨g, cap, cur, h, _, _, hc, _⟩⟩ := h
  · omega
  · cases h
    exact hc
/-- The first k lists, one behind the other. -/
def cat (ls : Nat → List (Int × Int)) : Nat → List (Int × Int)
  | 0 => []
  | k + 1 => cat ls k ++ ls k
theorem cat_mono (ls : Nat → List (Int × Int)) {j k : Nat} (h : j ≤ k) : (cat ls j).length ≤ (cat ls k).length := by
  induction k with
  | zero => have : j = 0 := by omega
            subst this; exact Nat.le_refl _
  | succ k ih =>
    by_cases e : j = k + 1
    · subst e; exact Nat.le_refl _
    · have := ih (by omega)
      simp only [cat, List.length_append]
      omega
set_option maxRecDepth 100000 in
set_option maxHeartbeats 4000000 in
/-- slices.Concat of n lists that lie in a row. -/
theorem concat_any (A n : Nat) (cap : Nat) (ads : Nat → Option Addr) (cs : Nat → Nat) (ls : Nat → List (Int × Int)) (hn : n ≤ 1000) (hN : (cat ls n).length ≤ 1000000) (w : World) (hA : A < w.heap.size)
    (hc : ∀ j, j < n → w.cell? ⟨A, j, none⟩ = some (.slice (ads j) (ls j).length (cs j)) ∧ Prs (ads j) (ls j).length (ls j) w) :
    Calls Tryz.prog 66 #[.slice (some ⟨A, 0, none⟩) n cap] w fun e w' => ∃ a c, e = .returned (.slice a (cat ls n).length c) ∧ (cat ls n).length ≤ c ∧ Own a (cat ls n).length (cat ls n) w' ∧ (∀ Ad, a = some Ad → w.heap.size ≤ Ad.block ∧ Ad.block < w'.heap.size) ∧ Below w.heap.size w w' := by
  have HC : Hid (∀ j, j < n → w.cell? ⟨A, j, none⟩ = some (.slice (ads j) (ls j).length (cs j)) ∧ Prs (ads j) (ls j).length (ls j) w) := hc
  have HM : Hid (∀ k, k ≤ n → (cat ls k).length ≤ 1000000) := (fun k hk => Nat.le_trans (cat_mono ls hk) hN)
  clear hc
  go_enter Tryz.func66, Tryz.ntmps66
  go_wp2
  go_loop [3, 11] (fun s i => ∃ k : Nat, k ≤ n ∧ i = .int .i64 k ∧ s = .int .i64 ((cat ls k).length : Nat)) (fun _ i => n - (intOf i).toNat)
  case atStart => exact ⟨0, Nat.zero_le _, rfl, rfl⟩
  case round =>
    obtain ⟨k, hk, rfl, rfl⟩ := hrel
    by_cases hlt : k < n
    · have hlt' : (k : Int) < (n : Int) := by omega
      obtain ⟨g0, _⟩ := HC.out k hlt
      have hm := HM.out k hk
      have hm1 := HM.out (k + 1) hlt
      have el : (cat ls (k + 1)).length = (cat ls k).length + (ls k).length := by simp [cat]
      have EL : Hid ((cat ls (k + 1)).length = (cat ls k).length + (ls k).length) := el
      have hsum : ((cat ls k).length : Int) + ((ls k).length : Int) ≤ 1000000 := by omega
      have d1 : decide (((cat ls k).length : Int) + ((ls k).length : Int) < 0) = false := decide_eq_false (by omega)
      clear el hm1
      go_wp2
      go_round
      case rel => exact ⟨k + 1, by omega, by go_num, by rw [EL.out]; go_num⟩
      case measure => simp [intOf]; omega
    · have : k = n := by omega
      subst this
      have hm := HM.out k hk
      go_wp2_with fail
      refine (grow_nil (cat ls k).length hm _).mono ?_
      rintro e w1 ⟨v, rfl, hown, hb1⟩
      have HO : Hid (w1.ownsRow w.heap.size 90 2 v 0 []) := hown
      have HB1 : Hid (Below w.heap.size w w1) := hb1
      clear hown hb1
      go_wp2
      go_loopw [6, 27] (fun v i wr => ∃ j : Nat, j ≤ k ∧ i = .int .i64 j ∧ Hid (wr.ownsRow w.heap.size 90 2 v (cat ls j).length (pc (cat ls j))) ∧ Hid (Below w.heap.size w wr)) (fun _ i _ => k - (intOf i).toNat)
      case atStart => exact ⟨0, Nat.zero_le _, rfl, HO, HB1⟩
      case round =>
        obtain ⟨j, hj, rfl, hO, hB⟩ := hrel
        by_cases hlt2 : j < k
        · have hlt' : (j : Int) < (k : Int) := by omega
          obtain ⟨g0, hp⟩ := HC.out j hlt2
          have g1 : wr.cell? ⟨A, j, none⟩ = some (.slice (ads j) (ls j).length (cs j)) := (hB.out.cell (p := ⟨A, j, none⟩) hA).trans g0
          have hm1 := HM.out (j + 1) hlt2
          have el : (cat ls (j + 1)).length = (cat ls j).length + (ls j).length := by simp [cat]
          obtain ⟨v2, w2, hr, hO2, hg2⟩ := run_append_prs (P := Tryz.prog) wr w.heap.size 26 26 90 Tryz.underlying26 infoNamedC u6 (cat ls j) hO.out (ads j) (ls j).length (cs j) (ls j) (hp.below hB.out) (by omega) hB.out.size
          have HO2 : Hid (w2.ownsRow w.heap.size 90 2 v2 (cat ls (j + 1)).length (pc (cat ls (j + 1)))) := hO2
          have HB2 : Hid (Below w.heap.size w w2) := hB.out.grown hg2 hB.out.size (own_blockN hO.out)
          clear el hm1 hO2 hg2 g0 hp hO hB HO HB1
          go_wp2_with (at_builtin; refine wpList_append_run _ rfl (.tmp 31) (.tmp 32) 26 26 rfl _ _ _ _ rfl rfl hr ?_)
          go_roundw
          case rel => exact ⟨j + 1, by omega, by go_num, HO2, HB2⟩
          case measure => simp [intOf]; omega
        · have : j = k := by omega
          subst this
          go_wp2
          go_ret
          obtain ⟨a, c, rfl, h1, h2⟩ := own_of_row hO.out
          exact ⟨a, c, rfl, own_cap hO.out, h1, h2, hB.out⟩
/-- Of two things the first, or the second. -/
def two {α : Type} (x y : α) (j : Nat) : α := if j = 0 then x else y
end Go.Proofs.YtgodbelcddgdmaaGreat
