/- Laid together: AceMark, AnsL, AceCat, WrT. -/
import Derived.Test.YtedahdncincgjaaGreatDoorNX4
import Derived.Laws.AppendOwn
import Derived.Deep.AppendSrc
import Derived.Deep.Upon
import Derived.Lib.AppendZeros
/- laws.markAceS, heldAceS, eqNfsOut, markNfsOut, heldNfsOut: a list of aces is written over, and read again. -/
namespace Go.Proofs.YtedahdncincgjaaGreatDoor
open Go.RowKit Go.PlainAid
set_option linter.unusedVariables false
/-- The world is as it was, but for the cells of one block. -/
structure ButA (a : Option Addr) (w w' : World) : Prop where
  size : w'.heap.size = w.heap.size
  below : ∀ c, (∀ A, a = some A → c ≤ A.block) → Below c w w'
  cell : ∀ b o, (∀ A, a = some A → b ≠ A.block) → w'.cell? ⟨b, o, none⟩ = w.cell? ⟨b, o, none⟩ ∧ w'.frozen? ⟨b, o, none⟩ = w.frozen? ⟨b, o, none⟩
theorem ButA.refl (a : Option Addr) (w : World) : ButA a w w := ⟨rfl, fun _ _ => Below.refl _ _, fun _ _ _ => ⟨rfl, rfl⟩⟩
theorem ButA.set {B o : Nat} {w w' : World} {v : Value} (h : ButA (some ⟨B, 0, none⟩) w w') : ButA (some ⟨B, 0, none⟩) w (w'.setCell ⟨B, o, none⟩ v) := by
  refine ⟨by simpa using h.size, fun c hc => bl_setA (h.below c hc) (hc _ rfl), fun b o2 hb => ?_⟩
  have h1 := h.cell b o2 hb
  rw [World.frozen?_setCell, ← h1.1]
  exact ⟨World.cell?_setCell_other _ _ _ _ (by intro h; have h2 := congrArg Addr.block h; exact hb _ rfl (by simpa using h2.symm)), h1.2⟩
theorem ButA.own {a a2 : Option Addr} {len : Nat} {l : List Ac} {w w' : World} (h : ButA a w w') (ho : OwnA a2 len l w) (hne : ∀ A A2, a = some A → a2 = some A2 → A.block ≠ A2.block) : OwnA a2 len l w' := by
  refine ⟨ho.1, fun h0 => ?_⟩
  obtain ⟨B, ha, hlt, hp⟩ := ho.2 h0
  refine ⟨B, ha, by rw [h.size]; exact hlt, fun i hi => ?_⟩
  have hb : ∀ A, a = some A → B ≠ A.block := fun A e => fun e2 => hne A _ e ha (by simpa using e2.symm)
  exact ⟨(hp i hi).1.keep (fun j => (h.cell B j hb).1), (hp i hi).2.keep (fun j => (h.cell B j hb).2)⟩
/-- A list in memory that was made since. -/
structure NewA (w w' : World) (a : Option Addr) (n : Nat) (l : List Ac) : Prop where
  own : OwnA a n l w'
  inn : ∀ A, a = some A → w.heap.size ≤ A.block ∧ A.block < w'.heap.size
  bel : Below w.heap.size w w'
theorem NewA.on {w w' w2 : World} {a : Option Addr} {n : Nat} {l : List Ac} (h : NewA w w' a n l) (hb : Below w'.heap.size w' w2) : NewA w w2 a n l :=
  ⟨h.own.below hb, fun A e => ⟨(h.inn A e).1, Nat.lt_of_lt_of_le (h.inn A e).2 hb.size⟩, Below.on h.bel hb⟩
theorem NewA.pre {w w0 w' : World} {a : Option Addr} {n : Nat} {l : List Ac} (h : NewA w w' a n l) (hb : Below w0.heap.size w0 w) : NewA w0 w' a n l :=
  ⟨h.own, fun A e => ⟨Nat.le_trans hb.size (h.inn A e).1, (h.inn A e).2⟩, Below.on hb h.bel⟩
/-- A cell of the call's own that is not of the list is written. -/
theorem NewA.set {w w' : World} {a : Option Addr} {n : Nat} {l : List Ac} {b o : Nat} {v : Value} (h : NewA w w' a n l) (hb : w.heap.size ≤ b) (h1 : ∀ A, a = some A → b ≠ A.block) : NewA w (w'.setCell ⟨b, o, none⟩ v) a n l :=
  ⟨h.own.set h1, fun A e => by simpa using h.inn A e, bl_setA h.bel hb⟩
theorem newA_nil {w w' : World} (h : Below w.heap.size w w') : NewA w w' none 0 [] := ⟨ownA_nil _ _, (fun A e => by cases e), h⟩
/-- What a call that answers a list ends in. -/
def AnsL (xs : List Ac) (w : World) (e : Ending) (w' : World) : Prop := ∃ a c, e = .returned (.slice a xs.length c) ∧ NewA w w' a xs.length xs
/-- What a call that answers a list and a code ends in. -/
def AnsN (xs : List Ac) (code : Int) (w : World) (e : Ending) (w' : World) : Prop := ∃ a c, e = .returned (.agg #[.slice a xs.length c, .int .i64 code]) ∧ NewA w w' a xs.length xs
theorem AnsL.out {xs : List Ac} {w w' : World} {e : Ending} (h : AnsL xs w e w') : ∃ a c, e = .returned (.slice a xs.length c) ∧ NewA w w' a xs.length xs := h
theorem AnsN.out {xs : List Ac} {code : Int} {w w' : World} {e : Ending} (h : AnsN xs code w e w') : ∃ a c, e = .returned (.agg #[.slice a xs.length c, .int .i64 code]) ∧ NewA w w' a xs.length xs := h
/-- Two cells of a block. -/
structure Box2 (w : World) (B : Nat) (v0 v1 : Value) : Prop where
  lt : B < w.heap.size
  c0 : w.cell? ⟨B, 0, none⟩ = some v0
  c1 : w.cell? ⟨B, 1, none⟩ = some v1
theorem Box2.keep {w w' : World} {B : Nat} {v0 v1 : Value} (h : Box2 w B v0 v1) (hlt : B < w'.heap.size) (hc : ∀ o, w'.cell? ⟨B, o, none⟩ = w.cell? ⟨B, o, none⟩) : Box2 w' B v0 v1 := ⟨hlt, (hc 0).trans h.c0, (hc 1).trans h.c1⟩
theorem Box2.below {w w' : World} {B : Nat} {v0 v1 : Value} (h : Box2 w B v0 v1) (hb : Below w.heap.size w w') : Box2 w' B v0 v1 :=
  h.keep (Nat.lt_of_lt_of_le h.lt hb.size) (fun o => hb.cell (p := ⟨B, o, none⟩) h.lt)
theorem box2_new (w : World) (v0 v1 : Value) (t : TypeId) : Box2 (w.alloc (.cells #[v0, v1] t)) w.heap.size v0 v1 := by
  have hb : (w.alloc (.cells #[v0, v1] t)).heap[w.heap.size]? = some (.cells #[v0, v1] t) := by
    rw [World.alloc]
    exact Array.getElem?_push_size
  refine ⟨by simp, ?_, ?_⟩ <;> (simp only [World.cell?, hb]; rfl)
theorem Box2.other {w : World} {B b o : Nat} {v0 v1 v : Value} (h : Box2 w B v0 v1) (hne : b ≠ B) : Box2 (w.setCell ⟨b, o, none⟩ v) B v0 v1 :=
  h.keep (by simpa using h.lt) (fun o2 => World.cell?_setCell_other _ _ _ _ (by intro h; have h2 := congrArg Addr.block h; simp only at h2; omega))
end Go.Proofs.YtedahdncincgjaaGreatDoor
/- Lists of aces that are put behind one another by append: nothing here names a program. -/
namespace Go.Proofs.YtedahdncincgjaaGreatDoor
open Go.RowKit Go.PlainAid Go.Deep
set_option linter.unusedVariables false
/-- The cells of a list of aces. -/
def pcA : List Ac → List Value
  | [] => []
  | x :: l => .bool x.al :: .int .i64 x.wh :: .int .i64 x.id :: .int .i64 x.fl :: .int .i64 x.ma :: pcA l
theorem pcA_length (l : List Ac) : (pcA l).length = l.length * 5 := by
  induction l with
  | nil => rfl
  | cons p l ih => simp [pcA, ih]; omega
theorem pcA_append (l k : List Ac) : pcA (l ++ k) = pcA l ++ pcA k := by
  induction l with
  | nil => rfl
  | cons p l ih => simp [pcA, ih]
theorem pcA_one (l : List Ac) : ∀ u ∈ pcA l, u.oneCell' = true := by
  induction l with
  | nil => intro u h; cases h
  | cons p l ih =>
    intro u h
    simp only [pcA, List.mem_cons] at h
    rcases h with rfl | rfl | rfl | rfl | rfl | h
    · rfl
    · rfl
    · rfl
    · rfl
    · rfl
    · exact ih u h
theorem acAt_cons (x : Ac) (l : List Ac) (i : Nat) : acAt (x :: l) (i + 1) = acAt l i := by simp [acAt, List.getD]
theorem pcA_get (l : List Ac) : ∀ i, i < l.length → (pcA l)[i * 5]? = some (.bool (acAt l i).al) ∧ (pcA l)[i * 5 + 1]? = some (.int .i64 (acAt l i).wh) ∧ (pcA l)[i * 5 + 2]? = some (.int .i64 (acAt l i).id) ∧ (pcA l)[i * 5 + 3]? = some (.int .i64 (acAt l i).fl) ∧ (pcA l)[i * 5 + 4]? = some (.int .i64 (acAt l i).ma) := by
  induction l with
  | nil => intro i h; simp at h
  | cons p l ih =>
    intro i h
    cases i with
    | zero => exact ⟨rfl, rfl, rfl, rfl, rfl⟩
    | succ i =>
      have h1 := ih i (by simpa using h)
      have e1 : (i + 1) * 5 = i * 5 + 1 + 1 + 1 + 1 + 1 := by omega
      rw [e1, acAt_cons]
      have e2 : i * 5 + 1 + 1 + 1 + 1 + 1 + 1 = i * 5 + 1 + 1 + 1 + 1 + 1 + 1 := rfl
      have e3 : i * 5 + 1 + 1 + 1 + 1 + 1 + 2 = (i * 5 + 2) + 1 + 1 + 1 + 1 + 1 := by omega
      have e4 : i * 5 + 1 + 1 + 1 + 1 + 1 + 3 = (i * 5 + 3) + 1 + 1 + 1 + 1 + 1 := by omega
      have e5 : i * 5 + 1 + 1 + 1 + 1 + 1 + 4 = (i * 5 + 4) + 1 + 1 + 1 + 1 + 1 := by omega
      rw [e3, e4, e5]
      simp only [pcA, List.getElem?_cons_succ]
      exact h1
theorem addr_addA (b off i : Nat) : (⟨b, off, none⟩ : Addr).add i = ⟨b, off + i, none⟩ := by
  by_cases e : i = 0
  · subst e; simp [Addr.add]
  · simp [Addr.add, e]
theorem acs_news {b off : Nat} {l : List Ac} {w : World} (hc : ∀ i, i < l.length → Five w b (off + i * 5) (acAt l i)) :
    ∀ j u, (pcA l)[j]? = some u → w.cell? ((⟨b, off, none⟩ : Addr).add j) = some u := by
  intro j u hj
  have hlt : j < l.length * 5 := by
    have := (List.getElem?_eq_some_iff.1 hj).1
    rwa [pcA_length] at this
  have hi : j / 5 < l.length := by omega
  obtain ⟨g0, g1, g2, g3, g4⟩ := pcA_get l (j / 5) hi
  obtain ⟨c0, c1, c2, c3, c4⟩ := hc (j / 5) hi
  rw [addr_addA]
  rcases (by omega : j = j / 5 * 5 ∨ j = j / 5 * 5 + 1 ∨ j = j / 5 * 5 + 2 ∨ j = j / 5 * 5 + 3 ∨ j = j / 5 * 5 + 4) with ej | ej | ej | ej | ej
  · rw [ej, g0] at hj; rw [ej, ← hj]; exact c0
  · rw [ej, g1] at hj; rw [ej, ← hj]; exact c1
  · rw [ej, g2] at hj; rw [ej, ← hj]; exact c2
  · rw [ej, g3] at hj; rw [ej, ← hj]; exact c3
  · rw [ej, g4] at hj; rw [ej, ← hj]; exact c4
/-- A row that is owned, as a list of aces. -/
theorem ownA_of_row {w : World} {B : Nat} {t : TypeId} {v : Value} {l : List Ac} (h : w.ownsRow B t 5 v l.length (pcA l)) :
    ∃ a cap, v = .slice a l.length cap ∧ OwnA a l.length l w ∧ (∀ A, a = some A → B ≤ A.block ∧ A.block < w.heap.size) := by
  obtain ⟨_, ⟨rfl, hn⟩ | ⟨g, cap, cur, rfl, hb, hg, hc, _, hs, ht⟩⟩ := h
  · refine ⟨none, 0, by rw [hn], ⟨rfl, fun h => absurd h (by omega)⟩, fun A e => by cases e⟩
  · have hlt : g < w.heap.size := (Array.getElem?_eq_some_iff.1 hg).1
    refine ⟨some ⟨g, 0, none⟩, cap, rfl, ⟨rfl, fun _ => ⟨g, rfl, hlt, fun i hi => ?_⟩⟩, fun A e => by cases e; exact ⟨hb, hlt⟩⟩
    have cell : ∀ j u, (pcA l)[j]? = some u → j < l.length * 5 → w.cell? ⟨g, j, none⟩ = some u := by
      intro j u hj hlt
      rw [← ht, List.getElem?_take_of_lt hlt] at hj
      have : w.cell? ⟨g, j, none⟩ = cur[j]? := by simp [World.cell?, hg]
      rw [this]
      simpa using hj
    have froz : ∀ j, j < cur.size → w.frozen? ⟨g, j, none⟩ = false := by
      intro j hj
      simp [World.frozen?, hg]
    have hsz : i * 5 + 4 < cur.size := by
      rw [hs]
      have : (i + 1) * 5 ≤ cap * 5 := Nat.mul_le_mul_right _ (by omega)
      omega
    obtain ⟨g0, g1, g2, g3, g4⟩ := pcA_get l i hi
    exact ⟨⟨cell _ _ g0 (by omega), cell _ _ g1 (by omega), cell _ _ g2 (by omega), cell _ _ g3 (by omega), cell _ _ g4 (by omega)⟩, ⟨froz _ (by omega), froz _ (by omega), froz _ (by omega), froz _ (by omega), froz _ (by omega)⟩⟩
theorem own_blockA {w : World} {B : Nat} {t : TypeId} {s : Nat} {v : Value} {n : Nat} {xs : List Value} (h : w.ownsRow B t s v n xs) : ∀ k, v.ownBlock = some k → B ≤ k := by
  obtain ⟨_, ⟨rfl, _⟩ | ⟨g, cap, cur, rfl, hb, _⟩⟩ := h
  · intro k hk; simp [Value.ownBlock] at hk
  · intro k hk; simp [Value.ownBlock] at hk; omega
theorem rowA_below {w w' : World} {B : Nat} {t : TypeId} {s : Nat} {v : Value} {n : Nat} {xs : List Value} (h : w.ownsRow B t s v n xs) (hb : Below w.heap.size w w') : w'.ownsRow B t s v n xs := by
  obtain ⟨h0, ⟨rfl, hn⟩ | ⟨g, cap, cur, rfl, hB, hg, hc, hm, hs, ht⟩⟩ := h
  · exact ⟨h0, .inl ⟨rfl, hn⟩⟩
  · have hlt : g < w.heap.size := (Array.getElem?_eq_some_iff.1 hg).1
    exact ⟨h0, .inr ⟨g, cap, cur, rfl, hB, (hb.block g hlt).trans hg, hc, hm, hs, ht⟩⟩
theorem rowA_start (w : World) (X : Nat) (hX : X = w.heap.size) (t : TypeId) : (w.alloc (.cells #[] t)).ownsRow X t 5 (.slice (some ⟨X, 0, none⟩) 0 0) ([] : List Ac).length (pcA []) := by
  subst hX
  exact World.ownsRow_made w #[] 0 (Nat.le_refl _) (by unfold maxLen; omega) rfl
/-- A slice of one ace that was just built. -/
theorem acs_one (w : World) (x : Ac) (t : TypeId) : Acs (some ⟨w.heap.size, 0, none⟩) 1 [x] (w.alloc (.cells #[.bool x.al, .int .i64 x.wh, .int .i64 x.id, .int .i64 x.fl, .int .i64 x.ma] t)) := by
  refine ⟨rfl, fun _ => ⟨w.heap.size, 0, rfl, by simp, fun i hi => ?_⟩⟩
  have : i = 0 := by omega
  subst this
  exact five_new w x t
/-- append, of a list of aces, onto a row that the call owns. -/
theorem run_append_acs {P : Program} (w : World) (base : Nat) (t ty e : TypeId) (ht : P.underlying t = some (.slice e)) (hinfo : (P.info? e).map (fun i => (i.zero, i.size, i.bytes)) = some (some (.agg #[.bool false, .int .i64 0, .int .i64 0, .int .i64 0, .int .i64 0]), 5, 40))
    (v : Value) (acc : List Ac) (hown : w.ownsRow base e 5 v acc.length (pcA acc)) (a : Option Addr) (len cap : Nat) (l : List Ac) (hp : Acs a len l w) (hsm : acc.length + len ≤ 1000000000) (hbase : base ≤ w.heap.size) :
    ∃ v' w', (Builtin.append_ #[t, t] ty #[v, .slice a len cap]).run P w = .ok v' w' ∧ w'.ownsRow base e 5 v' (acc ++ l).length (pcA (acc ++ l)) ∧ w.grownBy w' v.ownBlock := by
  obtain ⟨i, hi, hzz⟩ := Option.map_eq_some_iff.1 hinfo
  simp only [Prod.mk.injEq] at hzz
  obtain ⟨hz, hs, hb⟩ := hzz
  obtain ⟨hln, hp⟩ := hp
  subst hln
  by_cases h0 : l.length = 0
  · have hl : l = [] := List.eq_nil_of_length_eq_zero h0
    subst hl
    rw [List.append_nil]
    have hsrc : Go.Src P i.size t (.slice a 0 cap) 0 [] w := by
      cases a with
      | none => exact Go.Src.ofNil w ht cap
      | some a => exact Go.Src.ofSlice w ht a 0 cap [] (by simp) (fun j u h => by simp at h) (fun u h => by cases h)
    have hv : ∃ b n c, v = .slice b n c ∧ n ≤ c := by
      obtain ⟨_, ⟨rfl, hn⟩ | ⟨g, c, cur, rfl, _, _, hc, _⟩⟩ := hown
      · exact ⟨none, 0, 0, rfl, Nat.le_refl _⟩
      · exact ⟨_, _, _, rfl, hc⟩
    obtain ⟨b, n, c, rfl, hnc⟩ := hv
    exact ⟨_, w, run_append_nothing w t t ty e i ht hi b n c hnc _ hsrc, hown, ⟨rfl, rfl, rfl, Nat.le_refl _, fun _ _ _ => rfl⟩⟩
  · obtain ⟨b, off, rfl, hlt, hc⟩ := hp (by omega)
    obtain ⟨v', w', hr, h1, h2, _⟩ := run_append_own (P := P) w base t ty e i _ 5 40 ht hi hz hs hb rfl (by decide) v acc.length (pcA acc) hown ⟨b, off, none⟩ l.length cap (pcA l) (pcA_length l) (acs_news hc) (pcA_one l) (by unfold maxLen; omega) (by omega) hbase
    refine ⟨v', w', hr, ?_, h2⟩
    rw [pcA_append, List.length_append]
    exact h1
/-- The builtin append, by what it runs to. -/
theorem wpList_append_runA {P : Program} (w : World) {ops : Array Oper} {rest : List Oper} {o : Oper} {a : Act} {Q : Exit → Act → World → Prop} (hgd : o.guard = none) (s x : Operand) (t tx : TypeId)
    (ho : o.op = .call { callee := .builtin .append, args := #[s, x], argTypes := #[t, tx] }) (v xv v' : Value) (w' : World) (hs : a.eval s = v) (hx : a.eval x = xv)
    (hr : (Builtin.append_ #[t, tx] o.type #[v, xv]).run P w = .ok v' w') (h : wpList P ops Q rest (a.put o.dst v') w') : wpList P ops Q (o :: rest) a w :=
  wpList_plain hgd fun _ hK => by
    unfold Oper.wp execOp
    simp only [ho, resolve, invoke, builtin, Sem.run_bind, Sem.run_pure, Result.andThen_ok, List.map_toArray, List.map_cons, List.map_nil, hs, hx, hr]
    exact hK _ _ h
/-- append of one ace onto a row that was owned ahead of the ace's making. -/
theorem append_one {P : Program} (w0 w : World) (t ty e : TypeId) (ht : P.underlying t = some (.slice e)) (hinfo : (P.info? e).map (fun i => (i.zero, i.size, i.bytes)) = some (some (.agg #[.bool false, .int .i64 0, .int .i64 0, .int .i64 0, .int .i64 0]), 5, 40))
    (v : Value) (acc : List Ac) (hown : w.ownsRow w0.heap.size e 5 v acc.length (pcA acc)) (hB : Below w0.heap.size w0 w) (x : Ac) (hsm : acc.length ≤ 100000000) :
    ∃ v' w', (Builtin.append_ #[t, t] ty #[v, .slice (some ⟨w.heap.size, 0, none⟩) 1 1]).run P (w.alloc (.cells #[.bool x.al, .int .i64 x.wh, .int .i64 x.id, .int .i64 x.fl, .int .i64 x.ma] e)) = .ok v' w' ∧ w'.ownsRow w0.heap.size e 5 v' (acc ++ [x]).length (pcA (acc ++ [x])) ∧ Below w0.heap.size w0 w' := by
  have hb1 := bel_alloc w (.cells #[.bool x.al, .int .i64 x.wh, .int .i64 x.id, .int .i64 x.fl, .int .i64 x.ma] e)
  have hB1 := Below.on hB hb1
  have hown1 := rowA_below hown hb1
  obtain ⟨v', w', hr, h1, h2⟩ := run_append_acs _ w0.heap.size t ty e ht hinfo v acc hown1 _ 1 1 [x] (acs_one w x e) (by omega) hB1.size
  exact ⟨v', w', hr, h1, hB1.grown h2 hB1.size (own_blockA hown1)⟩
def AnsP (p : List Ac × Int) (w : World) (e : Ending) (w' : World) : Prop := AnsN p.1 p.2 w e w'
theorem ansP_ill {p : List Ac × Int} {c : Int} (h : p = ([], c)) {w w' : World} (hb : Below w.heap.size w w') : AnsP p w (.returned (.agg #[.slice none 0 0, .int .i64 c])) w' := by
  subst h
  exact ⟨none, 0, rfl, newA_nil hb⟩
theorem ansP_of {p : List Ac × Int} {xs : List Ac} {c : Int} (h : p = (xs, c)) {n : Nat} (hn : xs.length = n) {w w' : World} {a : Option Addr} {cp : Nat} (hN : NewA w w' a n xs) : AnsP p w (.returned (.agg #[.slice a n cp, .int .i64 c])) w' := by
  subst h
  subst hn
  exact ⟨a, cp, rfl, hN⟩
/-- Two cells that may be written: an empty answer. -/
structure Wr2 (w : World) (b : Nat) : Prop where
  lt : b < w.heap.size
  c0 : w.cell? ⟨b, 0, none⟩ = some (.slice none 0 0)
  c1 : w.cell? ⟨b, 1, none⟩ = some (.int .i64 0)
  z : ∀ o, w.frozen? ⟨b, o, none⟩ = false
theorem Wr2.below {w w' : World} {b : Nat} (h : Wr2 w b) (hb : Below w.heap.size w w') : Wr2 w' b := by
  have hc := fun o => hb.cell (p := ⟨b, o, none⟩) h.lt
  exact ⟨Nat.lt_of_lt_of_le h.lt hb.size, (hc 0).trans h.c0, (hc 1).trans h.c1, fun o => (hb.frozen (p := ⟨b, o, none⟩) h.lt).trans (h.z o)⟩
theorem wr2_new (w : World) (t : TypeId) : Wr2 (w.alloc (.cells #[.slice none 0 0, .int .i64 0] t)) w.heap.size := by
  have hb : (w.alloc (.cells #[.slice none 0 0, .int .i64 0] t)).heap[w.heap.size]? = some (.cells #[.slice none 0 0, .int .i64 0] t) := by
    rw [World.alloc]
    exact Array.getElem?_push_size
  refine ⟨by simp, ?_, ?_, fun o => ?_⟩
  · simp only [World.cell?, hb]; rfl
  · simp only [World.cell?, hb]; rfl
  · unfold World.frozen?
    simp only [hb]
    simp
theorem sIll5_any (c : Int) (w : World) :
    Calls Tryz.prog 50 #[.int .i64 c] w fun e w' => e = .returned (.agg #[.slice none 0 0, .int .i64 c]) ∧ Below w.heap.size w w' := by
  go_enter Tryz.func50, Tryz.ntmps50
  go_wp2
  exact bodyPost_ret (v := .agg #[.slice none 0 0, .int .i64 c]) (by simp [results, Tryz.results50, go_sem]) rfl ⟨rfl, bel_alloc _ _⟩
end Go.Proofs.YtedahdncincgjaaGreatDoor
