/- Laid together: NamedTo, AclTo, NewR, CatMath. -/
import Derived.Test.YtedahdncincgjaaGreatDoorNX3
import Derived.Deep.OwnRows
import Derived.Deep.QuietTactic
import Derived.BigQuiet
import Derived.Handy
import Derived.Laws.AppendOwn
import Derived.Deep.AppendSrc
import Derived.Deep.Upon
import Derived.Lib.AppendZeros
/- laws.toNamed, laws.toNamedS: a copy of a list of pairs. -/
namespace Go.Proofs.YtedahdncincgjaaGreatDoor
open Go.RowKit Go.PlainAid
set_option linter.unusedVariables false
theorem bl_setN {B b o : Nat} {W w1 : World} {x : Value} (hb : Below B W w1) (h : B ≤ b) : Below B W (w1.setCell ⟨b, o, none⟩ x) := hb.setCell h _
theorem bl_cellN {W w1 : World} (hb : Below W.heap.size W w1) : (∀ b o, b < W.heap.size → w1.cell? ⟨b, o, none⟩ = W.cell? ⟨b, o, none⟩) ∧ (∀ b o, b < W.heap.size → w1.frozen? ⟨b, o, none⟩ = W.frozen? ⟨b, o, none⟩) :=
  ⟨fun b o h => hb.cell (p := ⟨b, o, none⟩) h, fun b o h => hb.frozen (p := ⟨b, o, none⟩) h⟩
/-- What a world holds of a row of pairs that may be written. -/
def PHold (w : World) (B : Nat) (F G : Nat → Int) (n : Nat) : Prop := ∀ i, i < n → (w.cell? ⟨B, i * 2, none⟩ = some (.int .i64 (F i)) ∧ w.cell? ⟨B, i * 2 + 1, none⟩ = some (.int .i64 (G i))) ∧ w.frozen? ⟨B, i * 2, none⟩ = false ∧ w.frozen? ⟨B, i * 2 + 1, none⟩ = false
theorem PHold.below {w w' : World} {B : Nat} {F G : Nat → Int} {n : Nat} (h : PHold w B F G n) (hlt : B < w.heap.size) (hb : Below w.heap.size w w') : PHold w' B F G n := fun i hi =>
  ⟨⟨(hb.cell (p := ⟨B, i * 2, none⟩) hlt).trans (h i hi).1.1, (hb.cell (p := ⟨B, i * 2 + 1, none⟩) hlt).trans (h i hi).1.2⟩, (hb.frozen (p := ⟨B, i * 2, none⟩) hlt).trans (h i hi).2.1, (hb.frozen (p := ⟨B, i * 2 + 1, none⟩) hlt).trans (h i hi).2.2⟩
theorem PHold.set0 {w : World} {B : Nat} {F G : Nat → Int} {n : Nat} (h : PHold w B F G n) (k : Nat) (hk : k < n) (v : Int) : PHold (w.setCell ⟨B, k * 2, none⟩ (.int .i64 v)) B (fun i => if i = k then v else F i) G n := by
  intro i hi
  have h1 := h i hi
  rw [World.frozen?_setCell, World.frozen?_setCell]
  refine ⟨⟨?_, ?_⟩, h1.2⟩
  · by_cases e : i = k
    · subst e
      simp only [if_pos]
      simp [go_sem, h1.1.1]
    · simp only [if_neg e]
      rw [← h1.1.1]
      exact World.cell?_setCell_other _ _ _ _ (by intro h; have h2 := congrArg Addr.off h; simp only at h2; omega)
  · rw [← h1.1.2]
    exact World.cell?_setCell_other _ _ _ _ (by intro h; have h2 := congrArg Addr.off h; simp only at h2; omega)
theorem PHold.set1 {w : World} {B : Nat} {F G : Nat → Int} {n : Nat} (h : PHold w B F G n) (k : Nat) (hk : k < n) (v : Int) : PHold (w.setCell ⟨B, k * 2 + 1, none⟩ (.int .i64 v)) B F (fun i => if i = k then v else G i) n := by
  intro i hi
  have h1 := h i hi
  rw [World.frozen?_setCell, World.frozen?_setCell]
  refine ⟨⟨?_, ?_⟩, h1.2⟩
  · rw [← h1.1.1]
    exact World.cell?_setCell_other _ _ _ _ (by intro h; have h2 := congrArg Addr.off h; simp only at h2; omega)
  · by_cases e : i = k
    · subst e
      simp only [if_pos]
      simp [go_sem, h1.1.2]
    · simp only [if_neg e]
      rw [← h1.1.2]
      exact World.cell?_setCell_other _ _ _ _ (by intro h; have h2 := congrArg Addr.off h; simp only at h2; omega)
/-- A list of pairs in memory of its own, that may be written. -/
def Own (a : Option Addr) (len : Nat) (l : List (Int × Int)) (w : World) : Prop :=
  l.length = len ∧ (0 < len → ∃ B, a = some ⟨B, 0, none⟩ ∧ B < w.heap.size ∧ PHold w B (idAt l) (btAt l) len)
theorem Own.prs {a : Option Addr} {len : Nat} {l : List (Int × Int)} {w : World} (h : Own a len l w) : Prs a len l w := by
  refine ⟨h.1, fun h0 => ?_⟩
  obtain ⟨B, ha, hlt, hp⟩ := h.2 h0
  exact ⟨B, 0, ha, hlt, fun i hi => by simpa using (hp i hi).1⟩
theorem Own.below {a : Option Addr} {len : Nat} {l : List (Int × Int)} {w w' : World} (h : Own a len l w) (hb : Below w.heap.size w w') : Own a len l w' := by
  refine ⟨h.1, fun h0 => ?_⟩
  obtain ⟨B, ha, hlt, hp⟩ := h.2 h0
  exact ⟨B, ha, Nat.lt_of_lt_of_le hlt hb.size, hp.below hlt hb⟩
theorem Own.set {a : Option Addr} {len : Nat} {l : List (Int × Int)} {w : World} {b o : Nat} {v : Value} (h : Own a len l w) (hne : ∀ B, a = some ⟨B, 0, none⟩ → b ≠ B) : Own a len l (w.setCell ⟨b, o, none⟩ v) := by
  refine ⟨h.1, fun h0 => ?_⟩
  obtain ⟨B, ha, hlt, hp⟩ := h.2 h0
  have hn := hne B ha
  refine ⟨B, ha, by simpa using hlt, fun i hi => ?_⟩
  have h1 := hp i hi
  rw [World.frozen?_setCell, World.frozen?_setCell]
  refine ⟨⟨?_, ?_⟩, h1.2⟩
  · rw [← h1.1.1]
    exact World.cell?_setCell_other _ _ _ _ (by intro h; have h2 := congrArg Addr.block h; simp only at h2; omega)
  · rw [← h1.1.2]
    exact World.cell?_setCell_other _ _ _ _ (by intro h; have h2 := congrArg Addr.block h; simp only at h2; omega)
end Go.Proofs.YtedahdncincgjaaGreatDoor
/- Two lists in memory that was made since. -/
namespace Go.Proofs.YtedahdncincgjaaGreatDoor
open Go.RowKit Go.PlainAid Go.Deep
set_option linter.unusedVariables false
/-- Two lists in memory that was made since. -/
structure New (w w' : World) (au : Option Addr) (lu : Nat) (us : List (Int × Int)) (ag : Option Addr) (lg : Nat) (gs : List (Int × Int)) : Prop where
  ou : Own au lu us w'
  og : Own ag lg gs w'
  iu : ∀ A, au = some A → w.heap.size ≤ A.block ∧ A.block < w'.heap.size
  ig : ∀ A, ag = some A → w.heap.size ≤ A.block ∧ A.block < w'.heap.size
  ne : ∀ A A2, au = some A → ag = some A2 → A.block ≠ A2.block
  bel : Below w.heap.size w w'
theorem New.on {w w' w2 : World} {au : Option Addr} {lu : Nat} {us : List (Int × Int)} {ag : Option Addr} {lg : Nat} {gs : List (Int × Int)} (h : New w w' au lu us ag lg gs) (hb : Below w'.heap.size w' w2) : New w w2 au lu us ag lg gs :=
  ⟨h.ou.below hb, h.og.below hb, fun A e => ⟨(h.iu A e).1, Nat.lt_of_lt_of_le (h.iu A e).2 hb.size⟩, fun A e => ⟨(h.ig A e).1, Nat.lt_of_lt_of_le (h.ig A e).2 hb.size⟩, h.ne, Below.on h.bel hb⟩
theorem New.pre {w w0 w' : World} {au : Option Addr} {lu : Nat} {us : List (Int × Int)} {ag : Option Addr} {lg : Nat} {gs : List (Int × Int)} (h : New w w' au lu us ag lg gs) (hb : Below w0.heap.size w0 w) : New w0 w' au lu us ag lg gs :=
  ⟨h.ou, h.og, fun A e => ⟨Nat.le_trans hb.size (h.iu A e).1, (h.iu A e).2⟩, fun A e => ⟨Nat.le_trans hb.size (h.ig A e).1, (h.ig A e).2⟩, h.ne, Below.on hb h.bel⟩
/-- A cell of the call's own that is older than the lists is written. -/
theorem New.set {w w' : World} {au : Option Addr} {lu : Nat} {us : List (Int × Int)} {ag : Option Addr} {lg : Nat} {gs : List (Int × Int)} {b o : Nat} {v : Value} (h : New w w' au lu us ag lg gs) (hb : w.heap.size ≤ b) (h1 : ∀ A, au = some A → b ≠ A.block) (h2 : ∀ A, ag = some A → b ≠ A.block) : New w (w'.setCell ⟨b, o, none⟩ v) au lu us ag lg gs :=
  ⟨h.ou.set (fun B e => h1 _ e), h.og.set (fun B e => h2 _ e), fun A e => by simpa using h.iu A e, fun A e => by simpa using h.ig A e, h.ne, bl_setN h.bel hb⟩
/-- The cells of a list of pairs. -/
def pc : List (Int × Int) → List Value
  | [] => []
  | p :: l => .int .i64 p.1 :: .int .i64 p.2 :: pc l
theorem pc_length (l : List (Int × Int)) : (pc l).length = l.length * 2 := by
  induction l with
  | nil => rfl
  | cons p l ih => simp [pc, ih]; omega
theorem pc_append (l k : List (Int × Int)) : pc (l ++ k) = pc l ++ pc k := by
  induction l with
  | nil => rfl
  | cons p l ih => simp [pc, ih]
theorem pc_one (l : List (Int × Int)) : ∀ u ∈ pc l, u.oneCell' = true := by
  induction l with
  | nil => intro u h; cases h
  | cons p l ih =>
    intro u h
    simp only [pc, List.mem_cons] at h
    rcases h with rfl | rfl | h
    · rfl
    · rfl
    · exact ih u h
theorem pc_get (l : List (Int × Int)) : ∀ i, i < l.length → (pc l)[i * 2]? = some (.int .i64 (idAt l i)) ∧ (pc l)[i * 2 + 1]? = some (.int .i64 (btAt l i)) := by
  induction l with
  | nil => intro i h; simp at h
  | cons p l ih =>
    intro i h
    cases i with
    | zero => exact ⟨rfl, rfl⟩
    | succ i =>
      have h1 := ih i (by simpa using h)
      have e1 : (i + 1) * 2 = i * 2 + 1 + 1 := by omega
      rw [e1]
      simp only [pc, List.getElem?_cons_succ]
      exact h1
theorem addr_add0 (b off i : Nat) : (⟨b, off, none⟩ : Addr).add i = ⟨b, off + i, none⟩ := by
  by_cases e : i = 0
  · subst e; simp [Addr.add]
  · simp [Addr.add, e]
theorem prs_news {b off : Nat} {l : List (Int × Int)} {w : World} (hc : ∀ i, i < l.length → w.cell? ⟨b, off + i * 2, none⟩ = some (.int .i64 (idAt l i)) ∧ w.cell? ⟨b, off + i * 2 + 1, none⟩ = some (.int .i64 (btAt l i))) :
    ∀ j u, (pc l)[j]? = some u → w.cell? ((⟨b, off, none⟩ : Addr).add j) = some u := by
  intro j u hj
  have hlt : j < l.length * 2 := by
    have := (List.getElem?_eq_some_iff.1 hj).1
    rwa [pc_length] at this
  have hi : j / 2 < l.length := by omega
  obtain ⟨g0, g1⟩ := pc_get l (j / 2) hi
  obtain ⟨c0, c1⟩ := hc (j / 2) hi
  rw [addr_add0]
  rcases Nat.mod_two_eq_zero_or_one j with e | e
  · have ej : j = j / 2 * 2 := by omega
    rw [ej, g0] at hj
    rw [ej, ← hj]
    exact c0
  · have ej : j = j / 2 * 2 + 1 := by omega
    rw [ej, g1] at hj
    rw [ej, ← hj]
    exact c1
/-- A row that is owned, as a list of pairs. -/
theorem own_of_row {w : World} {B : Nat} {t : TypeId} {v : Value} {l : List (Int × Int)} (h : w.ownsRow B t 2 v l.length (pc l)) :
    ∃ a cap, v = .slice a l.length cap ∧ Own a l.length l w ∧ (∀ A, a = some A → B ≤ A.block ∧ A.block < w.heap.size) := by
  obtain ⟨_, ⟨rfl, hn⟩ | ⟨g, cap, cur, rfl, hb, hg, hc, _, hs, ht⟩⟩ := h
  · refine ⟨none, 0, by rw [hn], ⟨rfl, fun h => absurd h (by omega)⟩, fun A e => by cases e⟩
  · have hlt : g < w.heap.size := (Array.getElem?_eq_some_iff.1 hg).1
    refine ⟨some ⟨g, 0, none⟩, cap, rfl, ⟨rfl, fun _ => ⟨g, rfl, hlt, fun i hi => ?_⟩⟩, fun A e => by cases e; exact ⟨hb, hlt⟩⟩
    have cell : ∀ j u, (pc l)[j]? = some u → j < l.length * 2 → w.cell? ⟨g, j, none⟩ = some u := by
      intro j u hj hlt
      rw [← ht, List.getElem?_take_of_lt hlt] at hj
      have : w.cell? ⟨g, j, none⟩ = cur[j]? := by simp [World.cell?, hg]
      rw [this]
      simpa using hj
    have froz : ∀ j, j < cur.size → w.frozen? ⟨g, j, none⟩ = false := by
      intro j hj
      simp [World.frozen?, hg]
    have hsz : i * 2 + 1 < cur.size := by
      rw [hs]
      have : (i + 1) * 2 ≤ cap * 2 := Nat.mul_le_mul_right _ (by omega)
      omega
    exact ⟨⟨cell _ _ (pc_get l i hi).1 (by omega), cell _ _ (pc_get l i hi).2 (by omega)⟩, froz _ (by omega), froz _ hsz⟩
theorem own_blockN {w : World} {B : Nat} {t : TypeId} {s : Nat} {v : Value} {n : Nat} {xs : List Value} (h : w.ownsRow B t s v n xs) : ∀ k, v.ownBlock = some k → B ≤ k := by
  obtain ⟨_, ⟨rfl, _⟩ | ⟨g, cap, cur, rfl, hb, _⟩⟩ := h
  · intro k hk; simp [Value.ownBlock] at hk
  · intro k hk; simp [Value.ownBlock] at hk; omega
/-- append, of a list of pairs, onto a row that the call owns. -/
theorem run_append_prs {P : Program} (w : World) (base : Nat) (t ty e : TypeId) (ht : P.underlying t = some (.slice e)) (hinfo : (P.info? e).map (fun i => (i.zero, i.size, i.bytes)) = some (some (.agg #[.int .i64 0, .int .i64 0]), 2, 16))
    (v : Value) (acc : List (Int × Int)) (hown : w.ownsRow base e 2 v acc.length (pc acc)) (a : Option Addr) (len cap : Nat) (l : List (Int × Int)) (hp : Prs a len l w) (hsm : acc.length + len ≤ 1000000000) (hbase : base ≤ w.heap.size) :
    ∃ v' w', (Builtin.append_ #[t, t] ty #[v, .slice a len cap]).run P w = .ok v' w' ∧ w'.ownsRow base e 2 v' (acc ++ l).length (pc (acc ++ l)) ∧ w.grownBy w' v.ownBlock := by
  obtain ⟨i, hi, hzz⟩ := Option.map_eq_some_iff.1 hinfo
  simp only [Prod.mk.injEq] at hzz
  obtain ⟨hz, hs, hb⟩ := hzz
  obtain ⟨hln, hp⟩ := hp
  subst hln
  by_cases h0 : l.length = 0
  · have hl : l = [] := List.eq_nil_of_length_eq_zero h0
    subst hl
    rw [List.append_nil]
    have hsrc : Go.Src P i.size t (.slice a 0 cap) 0 [] w := by
      cases a with
      | none => exact Go.Src.ofNil w ht cap
      | some a => exact Go.Src.ofSlice w ht a 0 cap [] (by simp) (fun j u h => by simp at h) (fun u h => by cases h)
    have hv : ∃ b n c, v = .slice b n c ∧ n ≤ c := by
      obtain ⟨_, ⟨rfl, hn⟩ | ⟨g, c, cur, rfl, _, _, hc, _⟩⟩ := hown
      · exact ⟨none, 0, 0, rfl, Nat.le_refl _⟩
      · exact ⟨_, _, _, rfl, hc⟩
    obtain ⟨b, n, c, rfl, hnc⟩ := hv
    exact ⟨_, w, run_append_nothing w t t ty e i ht hi b n c hnc _ hsrc, hown, ⟨rfl, rfl, rfl, Nat.le_refl _, fun _ _ _ => rfl⟩⟩
  · obtain ⟨b, off, rfl, hlt, hc⟩ := hp (by omega)
    obtain ⟨v', w', hr, h1, h2, _⟩ := run_append_own (P := P) w base t ty e i _ 2 16 ht hi hz hs hb rfl (by decide) v acc.length (pc acc) hown ⟨b, off, none⟩ l.length cap (pc l) (pc_length l) (prs_news hc) (pc_one l) (by unfold maxLen; omega) (by omega) hbase
    refine ⟨v', w', hr, ?_, h2⟩
    rw [pc_append, List.length_append]
    exact h1
/-- The builtin append, by what it runs to. -/
theorem wpList_append_run {P : Program} (w : World) {ops : Array Oper} {rest : List Oper} {o : Oper} {a : Act} {Q : Exit → Act → World → Prop} (hgd : o.guard = none) (s x : Operand) (t tx : TypeId)
    (ho : o.op = .call { callee := .builtin .append, args := #[s, x], argTypes := #[t, tx] }) (v xv v' : Value) (w' : World) (hs : a.eval s = v) (hx : a.eval x = xv)
    (hr : (Builtin.append_ #[t, tx] o.type #[v, xv]).run P w = .ok v' w') (h : wpList P ops Q rest (a.put o.dst v') w') : wpList P ops Q (o :: rest) a w :=
  wpList_plain hgd fun _ hK => by
    unfold Oper.wp execOp
    simp only [ho, resolve, invoke, builtin, Sem.run_bind, Sem.run_pure, Result.andThen_ok, List.map_toArray, List.map_cons, List.map_nil, hs, hx, hr]
    exact hK _ _ h
end Go.Proofs.YtedahdncincgjaaGreatDoor
