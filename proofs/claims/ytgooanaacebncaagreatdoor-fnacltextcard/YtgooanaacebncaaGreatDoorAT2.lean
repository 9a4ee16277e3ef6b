/- Laid together: Box7, CatMath, Concat. -/
import Derived.Test.YtgooanaacebncaaGreatDoorAT1
import Derived.Laws.AppendOwn
import Derived.Deep.AppendSrc
import Derived.Deep.Upon
import Derived.Lib.AppendZeros
/- Seven cells of a block. -/
namespace Go.Proofs.YtgooanaacebncaaGreatDoor
open Go.RowKit Go.PlainAid
set_option linter.unusedVariables false
/-- Seven cells of a block. -/
structure Box7 (w : World) (B : Nat) (v0 v1 v2 v3 v4 v5 v6 : Value) : Prop where
  lt : B < w.heap.size
  c0 : w.cell? ⟨B, 0, none⟩ = some v0
  c1 : w.cell? ⟨B, 1, none⟩ = some v1
  c2 : w.cell? ⟨B, 2, none⟩ = some v2
  c3 : w.cell? ⟨B, 3, none⟩ = some v3
  c4 : w.cell? ⟨B, 4, none⟩ = some v4
  c5 : w.cell? ⟨B, 5, none⟩ = some v5
  c6 : w.cell? ⟨B, 6, none⟩ = some v6
theorem Box7.keep {w w' : World} {B : Nat} {v0 v1 v2 v3 v4 v5 v6 : Value} (h : Box7 w B v0 v1 v2 v3 v4 v5 v6) (hlt : B < w'.heap.size) (hc : ∀ o, w'.cell? ⟨B, o, none⟩ = w.cell? ⟨B, o, none⟩) : Box7 w' B v0 v1 v2 v3 v4 v5 v6 :=
  ⟨hlt, (hc 0).trans h.c0, (hc 1).trans h.c1, (hc 2).trans h.c2, (hc 3).trans h.c3, (hc 4).trans h.c4, (hc 5).trans h.c5, (hc 6).trans h.c6⟩
theorem Box7.below {w w' : World} {B : Nat} {v0 v1 v2 v3 v4 v5 v6 : Value} (h : Box7 w B v0 v1 v2 v3 v4 v5 v6) (hb : Below w.heap.size w w') : Box7 w' B v0 v1 v2 v3 v4 v5 v6 :=
  h.keep (Nat.lt_of_lt_of_le h.lt hb.size) (fun o => hb.cell (p := ⟨B, o, none⟩) h.lt)
theorem box7_new (w : World) (v0 v1 v2 v3 v4 v5 v6 : Value) (t : TypeId) : Box7 (w.alloc (.cells #[v0, v1, v2, v3, v4, v5, v6] t)) w.heap.size v0 v1 v2 v3 v4 v5 v6 := by
  have hb : (w.alloc (.cells #[v0, v1, v2, v3, v4, v5, v6] t)).heap[w.heap.size]? = some (.cells #[v0, v1, v2, v3, v4, v5, v6] t) := by
    rw [World.alloc]
    exact Array.getElem?_push_size
  refine ⟨by simp, ?_, ?_, ?_, ?_, ?_, ?_, ?_⟩ <;> (simp only [World.cell?, hb]; rfl)
theorem bel_alloc (w : World) (o : Obj) : Below w.heap.size w (w.alloc o) := (Below.refl _ _).alloc (Nat.le_refl _) _
theorem Below.on {w w1 w2 : World} (h1 : Below w.heap.size w w1) (h2 : Below w1.heap.size w1 w2) : Below w.heap.size w w2 := h1.trans (h2.mono h1.size)
theorem Below.onA {w w1 : World} {o : Obj} (h1 : Below w.heap.size w w1) : Below w.heap.size w (w1.alloc o) := h1.trans ((bel_alloc w1 o).mono h1.size)
theorem Box7.set3 {w : World} {B : Nat} {v0 v1 v2 v3 v4 v5 v6 v : Value} (h : Box7 w B v0 v1 v2 v3 v4 v5 v6) : Box7 (w.setCell ⟨B, 3, none⟩ v) B v0 v1 v2 v v4 v5 v6 := by
  obtain ⟨hl, c0, c1, c2, c3, c4, c5, c6⟩ := h
  refine ⟨by simpa using hl, ?_, ?_, ?_, ?_, ?_, ?_, ?_⟩ <;> simp [go_sem, *]
theorem Box7.set4 {w : World} {B : Nat} {v0 v1 v2 v3 v4 v5 v6 v : Value} (h : Box7 w B v0 v1 v2 v3 v4 v5 v6) : Box7 (w.setCell ⟨B, 4, none⟩ v) B v0 v1 v2 v3 v v5 v6 := by
  obtain ⟨hl, c0, c1, c2, c3, c4, c5, c6⟩ := h
  refine ⟨by simpa using hl, ?_, ?_, ?_, ?_, ?_, ?_, ?_⟩ <;> simp [go_sem, *]
theorem Box7.other {w : World} {B b o : Nat} {v0 v1 v2 v3 v4 v5 v6 v : Value} (h : Box7 w B v0 v1 v2 v3 v4 v5 v6) (hne : b ≠ B) : Box7 (w.setCell ⟨b, o, none⟩ v) B v0 v1 v2 v3 v4 v5 v6 :=
  h.keep (by simpa using h.lt) (fun o2 => World.cell?_setCell_other _ _ _ _ (by intro h; have h2 := congrArg Addr.block h; simp only at h2; omega))
end Go.Proofs.YtgooanaacebncaaGreatDoor
/- Lists of pairs that are put behind one another by append: nothing here names a program. -/
namespace Go.Proofs.YtgooanaacebncaaGreatDoor
open Go.RowKit Go.PlainAid Go.Deep
set_option linter.unusedVariables false
/-- The cells of a list of pairs. -/
def pc : List (Int × Int) → List Value
  | [] => []
  | p :: l => .int .i64 p.1 :: .int .i64 p.2 :: pc l
theorem pc_length (l : List (Int × Int)) : (pc l).length = l.length * 2 := by
  induction l with
  | nil => rfl
  | cons p l ih => simp [pc, ih]; omega
theorem pc_append (l k : List (Int × Int)) : pc (l ++ k) = pc l ++ pc k := by
  induction l with
  | nil => rfl
  | cons p l ih => simp [pc, ih]
theorem pc_one (l : List (Int × Int)) : ∀ u ∈ pc l, u.oneCell' = true := by
  induction l with
  | nil => intro u h; cases h
  | cons p l ih =>
    intro u h
    simp only [pc, List.mem_cons] at h
    rcases h with rfl | rfl | h
    · rfl
    · rfl
    · exact ih u h
theorem pc_get (l : List (Int × Int)) : ∀ i, i < l.length → (pc l)[i * 2]? = some (.int .i64 (idAt l i)) ∧ (pc l)[i * 2 + 1]? = some (.int .i64 (btAt l i)) := by
  induction l with
  | nil => intro i h; simp at h
  | cons p l ih =>
    intro i h
    cases i with
    | zero => exact ⟨rfl, rfl⟩
    | succ i =>
      have h1 := ih i (by simpa using h)
      have e1 : (i + 1) * 2 = i * 2 + 1 + 1 := by omega
      rw [e1]
      simp only [pc, List.getElem?_cons_succ]
      exact h1
theorem addr_add0 (b off i : Nat) : (⟨b, off, none⟩ : Addr).add i = ⟨b, off + i, none⟩ := by
  by_cases e : i = 0
  · subst e; simp [Addr.add]
  · simp [Addr.add, e]
theorem prs_news {b off : Nat} {l : List (Int × Int)} {w : World} (hc : ∀ i, i < l.length → w.cell? ⟨b, off + i * 2, none⟩ = some (.int .i64 (idAt l i)) ∧ w.cell? ⟨b, off + i * 2 + 1, none⟩ = some (.int .i64 (btAt l i))) :
    ∀ j u, (pc l)[j]? = some u → w.cell? ((⟨b, off, none⟩ : Addr).add j) = some u := by
  intro j u hj
  have hlt : j < l.length * 2 := by
    have := (List.getElem?_eq_some_iff.1 hj).1
    rwa [pc_length] at this
  have hi : j / 2 < l.length := by omega
  obtain ⟨g0, g1⟩ := pc_get l (j / 2) hi
  obtain ⟨c0, c1⟩ := hc (j / 2) hi
  rw [addr_add0]
  rcases Nat.mod_two_eq_zero_or_one j with e | e
  · have ej : j = j / 2 * 2 := by omega
    rw [ej, g0] at hj
    rw [ej, ← hj]
    exact c0
  · have ej : j = j / 2 * 2 + 1 := by omega
    rw [ej, g1] at hj
    rw [ej, ← hj]
    exact c1
/-- A row that is owned, as a list of pairs. -/
theorem own_of_row {w : World} {B : Nat} {t : TypeId} {v : Value} {l : List (Int × Int)} (h : w.ownsRow B t 2 v l.length (pc l)) :
    ∃ a cap, v = .slice a l.length cap ∧ Own a l.length l w ∧ (∀ A, a = some A → B ≤ A.block ∧ A.block < w.heap.size) := by
  obtain ⟨_, ⟨rfl, hn⟩ | ⟨g, cap, cur, rfl, hb, hg, hc, _, hs, ht⟩⟩ := h
  · refine ⟨none, 0, by rw [hn], ⟨rfl, fun h => absurd h (by omega)⟩, fun A e => by cases e⟩
  · have hlt : g < w.heap.size := (Array.getElem?_eq_some_iff.1 hg).1
    refine ⟨some ⟨g, 0, none⟩, cap, rfl, ⟨rfl, fun _ => ⟨g, rfl, hlt, fun i hi => ?_⟩⟩, fun A e => by cases e; exact ⟨hb, hlt⟩⟩
    have cell : ∀ j u, (pc l)[j]? = some u → j < l.length * 2 → w.cell? ⟨g, j, none⟩ = some u := by
      intro j u hj hlt
      rw [← ht, List.getElem?_take_of_lt hlt] at hj
      have : w.cell? ⟨g, j, none⟩ = cur[j]? := by simp [World.cell?, hg]
      rw [this]
      simpa using hj
    have froz : ∀ j, j < cur.size → w.frozen? ⟨g, j, none⟩ = false := by
      intro j hj
      simp [World.frozen?, hg]
    have hsz : i * 2 + 1 < cur.size := by
      rw [hs]
      have : (i + 1) * 2 ≤ cap * 2 := Nat.mul_le_mul_right _ (by omega)
      omega
    exact ⟨⟨cell _ _ (pc_get l i hi).1 (by omega), cell _ _ (pc_get l i hi).2 (by omega)⟩, froz _ (by omega), froz _ hsz⟩
theorem own_blockN {w : World} {B : Nat} {t : TypeId} {s : Nat} {v : Value} {n : Nat} {xs : List Value} (h : w.ownsRow B t s v n xs) : ∀ k, v.ownBlock = some k → B ≤ k := by
  obtain ⟨_, ⟨rfl, _⟩ | ⟨g, cap, cur, rfl, hb, _⟩⟩ := h
  · intro k hk; simp [Value.ownBlock] at hk
  · intro k hk; simp [Value.ownBlock] at hk; omega
/-- append, of a list of pairs, onto a row that the call owns. -/
theorem run_append_prs {P : Program} (w : World) (base : Nat) (t ty e : TypeId) (ht : P.underlying t = some (.slice e)) (hinfo : (P.info? e).map (fun i => (i.zero, i.size, i.bytes)) = some (some (.agg #[.int .i64 0, .int .i64 0]), 2, 16))
    (v : Value) (acc : List (Int × Int)) (hown : w.ownsRow base e 2 v acc.length (pc acc)) (a : Option Addr) (len cap : Nat) (l : List (Int × Int)) (hp : Prs a len l w) (hsm : acc.length + len ≤ 1000000000) (hbase : base ≤ w.heap.size) :
    ∃ v' w', (Builtin.append_ #[t, t] ty #[v, .slice a len cap]).run P w = .ok v' w' ∧ w'.ownsRow base e 2 v' (acc ++ l).length (pc (acc ++ l)) ∧ w.grownBy w' v.ownBlock := by
  obtain ⟨i, hi, hzz⟩ := Option.map_eq_some_iff.1 hinfo
  simp only [Prod.mk.injEq] at hzz
  obtain ⟨hz, hs, hb⟩ := hzz
  obtain ⟨hln, hp⟩ := hp
  subst hln
  by_cases h0 : l.length = 0
  · have hl : l = [] := List.eq_nil_of_length_eq_zero h0
    subst hl
    rw [List.append_nil]
    have hsrc : Src P i.size t (.slice a 0 cap) 0 [] w := by
      cases a with
      | none => exact Src.ofNil w ht cap
      | some a => exact Src.ofSlice w ht a 0 cap [] (by simp) (fun j u h => by simp at h) (fun u h => by cases h)
    have hv : ∃ b n c, v = .slice b n c ∧ n ≤ c := by
      obtain ⟨_, ⟨rfl, hn⟩ | ⟨g, c, cur, rfl, _, _, hc, _⟩⟩ := hown
      · exact ⟨none, 0, 0, rfl, Nat.le_refl _⟩
      · exact ⟨_, _, _, rfl, hc⟩
    obtain ⟨b, n, c, rfl, hnc⟩ := hv
    exact ⟨_, w, run_append_nothing w t t ty e i ht hi b n c hnc _ hsrc, hown, ⟨rfl, rfl, rfl, Nat.le_refl _, fun _ _ _ => rfl⟩⟩
  · obtain ⟨b, off, rfl, hlt, hc⟩ := hp (by omega)
    obtain ⟨v', w', hr, h1, h2, _⟩ := run_append_own (P := P) w base t ty e i _ 2 16 ht hi hz hs hb rfl (by decide) v acc.length (pc acc) hown ⟨b, off, none⟩ l.length cap (pc l) (pc_length l) (prs_news hc) (pc_one l) (by unfold maxLen; omega) (by omega) hbase
    refine ⟨v', w', hr, ?_, h2⟩
    rw [pc_append, List.length_append]
    exact h1
/-- The builtin append, by what it runs to. -/
theorem wpList_append_run {P : Program} (w : World) {ops : Array Oper} {rest : List Oper} {o : Oper} {a : Act} {Q : Exit → Act → World → Prop} (hgd : o.guard = none) (s x : Operand) (t tx : TypeId)
    (ho : o.op = .call { callee := .builtin .append, args := #[s, x], argTypes := #[t, tx] }) (v xv v' : Value) (w' : World) (hs : a.eval s = v) (hx : a.eval x = xv)
    (hr : (Builtin.append_ #[t, tx] o.type #[v, xv]).run P w = .ok v' w') (h : wpList P ops Q rest (a.put o.dst v') w') : wpList P ops Q (o :: rest) a w :=
  wpList_plain hgd fun _ hK => by
    unfold Oper.wp execOp
    simp only [ho, resolve, invoke, builtin, Sem.run_bind, Sem.run_pure, Result.andThen_ok, List.map_toArray, List.map_cons, List.map_nil, hs, hx, hr]
    exact hK _ _ h
theorem infoNamedC : (Tryz.prog.info? 45).map (fun i => (i.zero, i.size, i.bytes)) = some (some (.agg #[.int .i64 0, .int .i64 0]), 2, 16) := by kernel_rfl
theorem own_cap {w : World} {B : Nat} {t : TypeId} {a : Option Addr} {n c : Nat} {xs : List Value} (h : w.ownsRow B t 2 (.slice a n c) n xs) : n ≤ c := by
  obtain ⟨_, ⟨h, hn⟩ | ⟨g, cap, cur, h, _, _, hc, _⟩⟩ := h
  · omega
  · cases h
    exact hc
end Go.Proofs.YtgooanaacebncaaGreatDoor
