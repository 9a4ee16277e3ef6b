/- Laid together: AceCat, GrT. -/
import Derived.Test.YtfhhaencigmpoaaDoorDf10
import Derived.Laws.AppendOwn
import Derived.Deep.AppendSrc
import Derived.Deep.Upon
import Derived.Lib.AppendZeros
import Derived.Test.YtfhhaencigmpoaaDoorDf5
import Derived.Test.YtfhhaencigmpoaaDoorDf9
/- Lists of aces that are put behind one another by append: nothing here names a program. -/
namespace Go.Proofs.YtfhhaencigmpoaaDoor
open Go.RowKit Go.PlainAid Go.Deep
set_option linter.unusedVariables false
/-- The cells of a list of aces. -/
def pcA : List Ac → List Value
  | [] => []
  | x :: l => .bool x.al :: .int .i64 x.wh :: .int .i64 x.id :: .int .i64 x.fl :: .int .i64 x.ma :: pcA l
theorem pcA_length (l : List Ac) : (pcA l).length = l.length * 5 := by
  induction l with
  | nil => rfl
  | cons p l ih => simp [pcA, ih]; omega
theorem pcA_append (l k : List Ac) : pcA (l ++ k) = pcA l ++ pcA k := by
  induction l with
  | nil => rfl
  | cons p l ih => simp [pcA, ih]
theorem pcA_one (l : List Ac) : ∀ u ∈ pcA l, u.oneCell' = true := by
  induction l with
  | nil => intro u h; cases h
  | cons p l ih =>
    intro u h
    simp only [pcA, List.mem_cons] at h
    rcases h with rfl | rfl | rfl | rfl | rfl | h
    · rfl
    · rfl
    · rfl
    · rfl
    · rfl
    · exact ih u h
theorem acAt_cons (x : Ac) (l : List Ac) (i : Nat) : acAt (x :: l) (i + 1) = acAt l i := by simp [acAt, List.getD]
theorem pcA_get (l : List Ac) : ∀ i, i < l.length → (pcA l)[i * 5]? = some (.bool (acAt l i).al) ∧ (pcA l)[i * 5 + 1]? = some (.int .i64 (acAt l i).wh) ∧ (pcA l)[i * 5 + 2]? = some (.int .i64 (acAt l i).id) ∧ (pcA l)[i * 5 + 3]? = some (.int .i64 (acAt l i).fl) ∧ (pcA l)[i * 5 + 4]? = some (.int .i64 (acAt l i).ma) := by
  induction l with
  | nil => intro i h; simp at h
  | cons p l ih =>
    intro i h
    cases i with
    | zero => exact ⟨rfl, rfl, rfl, rfl, rfl⟩
    | succ i =>
      have h1 := ih i (by simpa using h)
      have e1 : (i + 1) * 5 = i * 5 + 1 + 1 + 1 + 1 + 1 := by omega
      rw [e1, acAt_cons]
      have e2 : i * 5 + 1 + 1 + 1 + 1 + 1 + 1 = i * 5 + 1 + 1 + 1 + 1 + 1 + 1 := rfl
      have e3 : i * 5 + 1 + 1 + 1 + 1 + 1 + 2 = (i * 5 + 2) + 1 + 1 + 1 + 1 + 1 := by omega
      have e4 : i * 5 + 1 + 1 + 1 + 1 + 1 + 3 = (i * 5 + 3) + 1 + 1 + 1 + 1 + 1 := by omega
      have e5 : i * 5 + 1 + 1 + 1 + 1 + 1 + 4 = (i * 5 + 4) + 1 + 1 + 1 + 1 + 1 := by omega
      rw [e3, e4, e5]
      simp only [pcA, List.getElem?_cons_succ]
      exact h1
theorem addr_addA (b off i : Nat) : (⟨b, off, none⟩ : Addr).add i = ⟨b, off + i, none⟩ := by
  by_cases e : i = 0
  · subst e; simp [Addr.add]
  · simp [Addr.add, e]
theorem acs_news {b off : Nat} {l : List Ac} {w : World} (hc : ∀ i, i < l.length → Five w b (off + i * 5) (acAt l i)) :
    ∀ j u, (pcA l)[j]? = some u → w.cell? ((⟨b, off, none⟩ : Addr).add j) = some u := by
  intro j u hj
  have hlt : j < l.length * 5 := by
    have := (List.getElem?_eq_some_iff.1 hj).1
    rwa [pcA_length] at this
  have hi : j / 5 < l.length := by omega
  obtain ⟨g0, g1, g2, g3, g4⟩ := pcA_get l (j / 5) hi
  obtain ⟨c0, c1, c2, c3, c4⟩ := hc (j / 5) hi
  rw [addr_addA]
  rcases (by omega : j = j / 5 * 5 ∨ j = j / 5 * 5 + 1 ∨ j = j / 5 * 5 + 2 ∨ j = j / 5 * 5 + 3 ∨ j = j / 5 * 5 + 4) with ej | ej | ej | ej | ej
  · rw [ej, g0] at hj; rw [ej, ← hj]; exact c0
  · rw [ej, g1] at hj; rw [ej, ← hj]; exact c1
  · rw [ej, g2] at hj; rw [ej, ← hj]; exact c2
  · rw [ej, g3] at hj; rw [ej, ← hj]; exact c3
  · rw [ej, g4] at hj; rw [ej, ← hj]; exact c4
/-- A row that is owned, as a list of aces. -/
theorem ownA_of_row {w : World} {B : Nat} {t : TypeId} {v : Value} {l : List Ac} (h : w.ownsRow B t 5 v l.length (pcA l)) :
    ∃ a cap, v = .slice a l.length cap ∧ OwnA a l.length l w ∧ (∀ A, a = some A → B ≤ A.block ∧ A.block < w.heap.size) := by
  obtain ⟨_, ⟨rfl, hn⟩ | ⟨g, cap, cur, rfl, hb, hg, hc, _, hs, ht⟩⟩ := h
  · refine ⟨none, 0, by rw [hn], ⟨rfl, fun h => absurd h (by omega)⟩, fun A e => by cases e⟩
  · have hlt : g < w.heap.size := (Array.getElem?_eq_some_iff.1 hg).1
    refine ⟨some ⟨g, 0, none⟩, cap, rfl, ⟨rfl, fun _ => ⟨g, rfl, hlt, fun i hi => ?_⟩⟩, fun A e => by cases e; exact ⟨hb, hlt⟩⟩
    have cell : ∀ j u, (pcA l)[j]? = some u → j < l.length * 5 → w.cell? ⟨g, j, none⟩ = some u := by
      intro j u hj hlt
      rw [← ht, List.getElem?_take_of_lt hlt] at hj
      have : w.cell? ⟨g, j, none⟩ = cur[j]? := by simp [World.cell?, hg]
      rw [this]
      simpa using hj
    have froz : ∀ j, j < cur.size → w.frozen? ⟨g, j, none⟩ = false := by
      intro j hj
      simp [World.frozen?, hg]
    have hsz : i * 5 + 4 < cur.size := by
      rw [hs]
      have : (i + 1) * 5 ≤ cap * 5 := Nat.mul_le_mul_right _ (by omega)
      omega
    obtain ⟨g0, g1, g2, g3, g4⟩ := pcA_get l i hi
    exact ⟨⟨cell _ _ g0 (by omega), cell _ _ g1 (by omega), cell _ _ g2 (by omega), cell _ _ g3 (by omega), cell _ _ g4 (by omega)⟩, ⟨froz _ (by omega), froz _ (by omega), froz _ (by omega), froz _ (by omega), froz _ (by omega)⟩⟩
theorem own_blockA {w : World} {B : Nat} {t : TypeId} {s : Nat} {v : Value} {n : Nat} {xs : List Value} (h : w.ownsRow B t s v n xs) : ∀ k, v.ownBlock = some k → B ≤ k := by
  obtain ⟨_, ⟨rfl, _⟩ | ⟨g, cap, cur, rfl, hb, _⟩⟩ := h
  · intro k hk; simp [Value.ownBlock] at hk
  · intro k hk; simp [Value.ownBlock] at hk; omega
theorem rowA_below {w w' : World} {B : Nat} {t : TypeId} {s : Nat} {v : Value} {n : Nat} {xs : List Value} (h : w.ownsRow B t s v n xs) (hb : Below w.heap.size w w') : w'.ownsRow B t s v n xs := by
  obtain ⟨h0, ⟨rfl, hn⟩ | ⟨g, cap, cur, rfl, hB, hg, hc, hm, hs, ht⟩⟩ := h
  · exact ⟨h0, .inl ⟨rfl, hn⟩⟩
  · have hlt : g < w.heap.size := (Array.getElem?_eq_some_iff.1 hg).1
    exact ⟨h0, .inr ⟨g, cap, cur, rfl, hB, (hb.block g hlt).trans hg, hc, hm, hs, ht⟩⟩
theorem rowA_start (w : World) (X : Nat) (hX : X = w.heap.size) (t : TypeId) : (w.alloc (.cells #[] t)).ownsRow X t 5 (.slice (some ⟨X, 0, none⟩) 0 0) ([] : List Ac).length (pcA []) := by
  subst hX
  exact World.ownsRow_made w #[] 0 (Nat.le_refl _) (by unfold maxLen; omega) rfl
/-- A slice of one ace that was just built. -/
theorem acs_one (w : World) (x : Ac) (t : TypeId) : Acs (some ⟨w.heap.size, 0, none⟩) 1 [x] (w.alloc (.cells #[.bool x.al, .int .i64 x.wh, .int .i64 x.id, .int .i64 x.fl, .int .i64 x.ma] t)) := by
  refine ⟨rfl, fun _ => ⟨w.heap.size, 0, rfl, by simp, fun i hi => ?_⟩⟩
  have : i = 0 := by omega
  subst this
  exact five_new w x t
/-- append, of a list of aces, onto a row that the call owns. -/
theorem run_append_acs {P : Program} (w : World) (base : Nat) (t ty e : TypeId) (ht : P.underlying t = some (.slice e)) (hinfo : (P.info? e).map (fun i => (i.zero, i.size, i.bytes)) = some (some (.agg #[.bool false, .int .i64 0, .int .i64 0, .int .i64 0, .int .i64 0]), 5, 40))
    (v : Value) (acc : List Ac) (hown : w.ownsRow base e 5 v acc.length (pcA acc)) (a : Option Addr) (len cap : Nat) (l : List Ac) (hp : Acs a len l w) (hsm : acc.length + len ≤ 1000000000) (hbase : base ≤ w.heap.size) :
    ∃ v' w', (Builtin.append_ #[t, t] ty #[v, .slice a len cap]).run P w = .ok v' w' ∧ w'.ownsRow base e 5 v' (acc ++ l).length (pcA (acc ++ l)) ∧ w.grownBy w' v.ownBlock := by
  obtain ⟨i, hi, hzz⟩ := Option.map_eq_some_iff.1 hinfo
  simp only [Prod.mk.injEq] at hzz
  obtain ⟨hz, hs, hb⟩ := hzz
  obtain ⟨hln, hp⟩ := hp
  subst hln
  by_cases h0 : l.length = 0
  · have hl : l = [] := List.eq_nil_of_length_eq_zero h0
    subst hl
    rw [List.append_nil]
    have hsrc : Src P i.size t (.slice a 0 cap) 0 [] w := by
      cases a with
      | none => exact Src.ofNil w ht cap
      | some a => exact Src.ofSlice w ht a 0 cap [] (by simp) (fun j u h => by simp at h) (fun u h => by cases h)
    have hv : ∃ b n c, v = .slice b n c ∧ n ≤ c := by
      obtain ⟨_, ⟨rfl, hn⟩ | ⟨g, c, cur, rfl, _, _, hc, _⟩⟩ := hown
      · exact ⟨none, 0, 0, rfl, Nat.le_refl _⟩
      · exact ⟨_, _, _, rfl, hc⟩
    obtain ⟨b, n, c, rfl, hnc⟩ := hv
    exact ⟨_, w, run_append_nothing w t t ty e i ht hi b n c hnc _ hsrc, hown, ⟨rfl, rfl, rfl, Nat.le_refl _, fun _ _ _ => rfl⟩⟩
  · obtain ⟨b, off, rfl, hlt, hc⟩ := hp (by omega)
    obtain ⟨v', w', hr, h1, h2, _⟩ := run_append_own (P := P) w base t ty e i _ 5 40 ht hi hz hs hb rfl (by decide) v acc.length (pcA acc) hown ⟨b, off, none⟩ l.length cap (pcA l) (pcA_length l) (acs_news hc) (pcA_one l) (by unfold maxLen; omega) (by omega) hbase
    refine ⟨v', w', hr, ?_, h2⟩
    rw [pcA_append, List.length_append]
    exact h1
/-- The builtin append, by what it runs to. -/
theorem wpList_append_runA {P : Program} (w : World) {ops : Array Oper} {rest : List Oper} {o : Oper} {a : Act} {Q : Exit → Act → World → Prop} (hgd : o.guard = none) (s x : Operand) (t tx : TypeId)
    (ho : o.op = .call { callee := .builtin .append, args := #[s, x], argTypes := #[t, tx] }) (v xv v' : Value) (w' : World) (hs : a.eval s = v) (hx : a.eval x = xv)
    (hr : (Builtin.append_ #[t, tx] o.type #[v, xv]).run P w = .ok v' w') (h : wpList P ops Q rest (a.put o.dst v') w') : wpList P ops Q (o :: rest) a w :=
  wpList_plain hgd fun _ hK => by
    unfold Oper.wp execOp
    simp only [ho, resolve, invoke, builtin, Sem.run_bind, Sem.run_pure, Result.andThen_ok, List.map_toArray, List.map_cons, List.map_nil, hs, hx, hr]
    exact hK _ _ h
/-- append of one ace onto a row that was owned ahead of the ace's making. -/
theorem append_one {P : Program} (w0 w : World) (t ty e : TypeId) (ht : P.underlying t = some (.slice e)) (hinfo : (P.info? e).map (fun i => (i.zero, i.size, i.bytes)) = some (some (.agg #[.bool false, .int .i64 0, .int .i64 0, .int .i64 0, .int .i64 0]), 5, 40))
    (v : Value) (acc : List Ac) (hown : w.ownsRow w0.heap.size e 5 v acc.length (pcA acc)) (hB : Below w0.heap.size w0 w) (x : Ac) (hsm : acc.length ≤ 100000000) :
    ∃ v' w', (Builtin.append_ #[t, t] ty #[v, .slice (some ⟨w.heap.size, 0, none⟩) 1 1]).run P (w.alloc (.cells #[.bool x.al, .int .i64 x.wh, .int .i64 x.id, .int .i64 x.fl, .int .i64 x.ma] e)) = .ok v' w' ∧ w'.ownsRow w0.heap.size e 5 v' (acc ++ [x]).length (pcA (acc ++ [x])) ∧ Below w0.heap.size w0 w' := by
  have hb1 := bel_alloc w (.cells #[.bool x.al, .int .i64 x.wh, .int .i64 x.id, .int .i64 x.fl, .int .i64 x.ma] e)
  have hB1 := Below.on hB hb1
  have hown1 := rowA_below hown hb1
  obtain ⟨v', w', hr, h1, h2⟩ := run_append_acs _ w0.heap.size t ty e ht hinfo v acc hown1 _ 1 1 [x] (acs_one w x e) (by omega) hB1.size
  exact ⟨v', w', hr, h1, hB1.grown h2 hB1.size (own_blockA hown1)⟩
end Go.Proofs.YtfhhaencigmpoaaDoor
/- impl.turned, by allowing and by denying. -/
namespace Go.Proofs.YtfhhaencigmpoaaDoor
open Go.RowKit Go.PlainAid Go.Deep
set_option linter.unusedVariables false
theorem cutG_below (w : World) (B : Nat) (h : B ≤ w.heap.size) : Below ({ w with heap := w.heap.extract 0 B } : World).heap.size { w with heap := w.heap.extract 0 B } w := by
  refine ⟨rfl, rfl, rfl, by simp; omega, fun k hk => ?_⟩
  have hk2 : k < B := by simpa using Nat.lt_of_lt_of_le hk (by simp; omega)
  show w.heap[k]? = (w.heap.extract 0 B)[k]?
  rw [Array.getElem?_extract]
  simp
  omega
theorem cutG_size (w : World) (B : Nat) (h : B ≤ w.heap.size) : ({ w with heap := w.heap.extract 0 B } : World).heap.size = B := by simp; omega
theorem rowG_lt {w : World} {B : Nat} {t : TypeId} {s : Nat} {v : Value} {n : Nat} {xs : List Value} (h : w.ownsRow B t s v n xs) {k : Nat} (hk : v.ownBlock = some k) : B ≤ k ∧ k < w.heap.size := by
  obtain ⟨_, ⟨rfl, hn⟩ | ⟨g, cap, cur, rfl, hB, hg, hc, hm, hs, ht⟩⟩ := h
  · simp [Value.ownBlock] at hk
  · have : g = k := by simpa [Value.ownBlock] using hk
    subst this
    exact ⟨hB, (Array.getElem?_eq_some_iff.1 hg).1⟩
/-- A row of aces that grows beside a map: w0 is the world since which it is owned. -/
structure LG (b : Nat) (w0 w : World) (v : Value) (l : List Ac) : Prop where
  own : w0.grownBy w (some b)
  row : w.ownsRow w0.heap.size 62 5 v l.length (pcA l)
  pl : b < w0.heap.size
theorem LG.call {b : Nat} {w0 w w' : World} {v : Value} {l : List Ac} (h : LG b w0 w v l) (ho : w.grownBy w' (some b)) : LG b w0 w' v l :=
  ⟨h.own.trans ho, rowP_keep h.row (fun k hk => by
    have h1 := rowG_lt h.row hk
    have h2 := h.pl
    exact ho.block k h1.2 (by simp; omega)), h.pl⟩
theorem grown_below {b : Nat} {w w' : World} (hb : Below w.heap.size w w') : w.grownBy w' (some b) := ⟨hb.os, hb.tape, hb.output, hb.size, fun k hk _ => hb.block k hk⟩
theorem LG.below {b : Nat} {w0 w w' : World} {v : Value} {l : List Ac} (h : LG b w0 w v l) (hb : Below w.heap.size w w') : LG b w0 w' v l := h.call (grown_below hb)
theorem LG.nil {b : Nat} {w0 w : World} (h : w0.grownBy w (some b)) (hp : b < w0.heap.size) : LG b w0 w (.slice none 0 0) [] := ⟨h, World.ownsRow_nil _ _ _ _, hp⟩
/-- append of one ace; the map is as it was. -/
theorem LG.app {b n : Nat} {φ : Int → Int → Int} {w0 w : World} {v : Value} {l : List Ac} (h : LG b w0 w v l) (hG : GM w b n φ) (x : Ac) (hl : l.length ≤ 1000000) :
    ∃ v' w', (Builtin.append_ #[26, 26] 26 #[v, .slice (some ⟨w.heap.size, 0, none⟩) 1 1]).run Tryd.prog (w.alloc (.cells #[.bool x.al, .int .i64 x.wh, .int .i64 x.id, .int .i64 x.fl, .int .i64 x.ma] 62)) = .ok v' w' ∧ LG b w0 w' v' (l ++ [x]) ∧ GM w' b n φ := by
  have q := h.own.size
  have hp := h.pl
  obtain ⟨v', w', hr, ho, hb⟩ := append_one (P := Tryd.prog) { w with heap := w.heap.extract 0 w0.heap.size } w 26 26 62 Tryd.underlying26 infoAce v l (by rw [cutG_size w w0.heap.size q]; exact h.row) (cutG_below w w0.heap.size q) x (by omega)
  rw [cutG_size w w0.heap.size q] at ho
  have hlow : ∀ k, k < w0.heap.size → w'.heap[k]? = w.heap[k]? := fun k hk => by
    have h1 := hb.block k (by rw [cutG_size w w0.heap.size q]; exact hk)
    have h2 := (cutG_below w w0.heap.size q).block k (by rw [cutG_size w w0.heap.size q]; exact hk)
    exact h1.trans h2.symm
  have hsz : w0.heap.size ≤ w'.heap.size := by
    have := hb.size
    rw [cutG_size w w0.heap.size q] at this
    exact this
  exact ⟨v', w', hr, ⟨⟨hb.os.trans h.own.os, hb.tape.trans h.own.tape, hb.output.trans h.own.output, hsz, fun k hk hne => (hlow k hk).trans (h.own.block k hk hne)⟩, ho, hp⟩, hG.kept (hlow b hp)⟩
/-- The aces that allow, and those that deny. -/
def alwX (φ : Int → Int → Int) (p : Int × Int) : Ac := ⟨true, p.1, p.2, 0, φ p.1 p.2⟩
def dnyX (φ : Int → Int → Int) (p : Int × Int) : Ac := ⟨false, p.1, p.2, 0, bits .andNot .i64 15 (φ p.1 p.2)⟩
def atW (l : List (Int × Int)) (k : Nat) : Int × Int := (idAt l k, btAt l k)
def alwN (φ : Int → Int → Int) (l : List (Int × Int)) : Nat → List Ac
  | 0 => []
  | k + 1 => alwN φ l k ++ [alwX φ (atW l k)]
theorem alwN_len (φ : Int → Int → Int) (l : List (Int × Int)) : ∀ k, (alwN φ l k).length = k := by
  intro k
  induction k with
  | zero => rfl
  | succ k ih => simp [alwN, ih]
/-- What is left behind the first k. -/
def lftN (φ : Int → Int → Int) (l : List (Int × Int)) : Nat → Int → Int → Int
  | 0 => φ
  | k + 1 => dropF (lftN φ l k) (idAt l k) (btAt l k)
def dnyN (φ : Int → Int → Int) (l : List (Int × Int)) : Nat → List Ac
  | 0 => []
  | k + 1 => dnyN φ l k ++ [dnyX (lftN φ l k) (atW l k)]
theorem dnyN_len (φ : Int → Int → Int) (l : List (Int × Int)) : ∀ k, (dnyN φ l k).length = k := by
  intro k
  induction k with
  | zero => rfl
  | succ k ih => simp [dnyN, ih]
def WfL (l : List (Int × Int)) (n : Nat) : Prop := ∀ k, k < n → (Lit.int .i64 (idAt l k)).wf = true ∧ (Lit.int .i64 (btAt l k)).wf = true
set_option maxRecDepth 100000 in
set_option maxHeartbeats 2000000 in
theorem turnedA_any (b n : Nat) (φ : Int → Int → Int) (a : Option Addr) (len cap : Nat) (l : List (Int × Int)) (hl : len ≤ 1000) (hw : WfL l len) (w : World) (hi : Own a len l w) (hne : ∀ A, a = some A → A.block ≠ b) (hG : GM w b n φ) :
    Calls Tryd.prog 39 #[.slice a len cap, .func (.func 37) #[.map (some b)] #[]] w fun e w' => ∃ v, e = .returned v ∧ LG b w w' v (alwN φ l len) ∧ GM w' b n φ := by
  have HI : Hid (Own a len l w) := hi
  have HW : Hid (WfL l len) := hw
  have hbl := hG.lt
  have HN : Hid (∀ A, a = some A → A.block ≠ b) := hne
  have HL0 : Hid (LG b w w (.slice none 0 0) (alwN φ l 0)) := LG.nil ⟨rfl, rfl, rfl, Nat.le_refl _, fun _ _ _ => rfl⟩ hbl
  have HG0 : Hid (GM w b n φ) := hG
  clear hi hw hG hne
  go_enter Tryd.func39, Tryd.ntmps39
  go_wp2
  go_loopw [5, 10] (fun v i wr => ∃ k : Nat, k ≤ len ∧ i = .int .i64 k ∧ Hid (LG b w wr v (alwN φ l k)) ∧ Hid (GM wr b n φ)) (fun _ i _ => len - (intOf i).toNat)
  case atStart => exact ⟨0, Nat.zero_le _, rfl, HL0, HG0⟩
  case round =>
    clear HL0 HG0
    obtain ⟨k, hk, rfl, hL, hG⟩ := hrel
    have hal := alwN_len φ l k
    by_cases hlt : k < len
    · have hlt' : (k : Int) < (len : Int) := by omega
      obtain ⟨wf1, wf2⟩ := HW.out k hlt
      obtain ⟨B, rfl, hBl, hp⟩ := HI.out.2 (by omega)
      have hBb := HN.out _ rfl
      simp only at hBb
      have q := (hp k hlt).1
      have kb : ∀ o, wr.cell? ⟨B, o, none⟩ = w.cell? ⟨B, o, none⟩ := fun o => World.cell?_of_block (hL.out.own.block B hBl (by simp; omega))
      have c0 : wr.cell? ⟨B, k * 2, none⟩ = some (.int .i64 (idAt l k)) := (kb _).trans q.1
      have c1 : wr.cell? ⟨B, k * 2 + 1, none⟩ = some (.int .i64 (btAt l k)) := (kb _).trans q.2
      have hbA := bel_alloc wr (.cells #[.int .i64 (idAt l k), .int .i64 (btAt l k)] 60)
      have HGA : Hid (GM (wr.alloc (.cells #[.int .i64 (idAt l k), .int .i64 (btAt l k)] 60)) b n φ) := hG.out.below hbA
      have HLA : Hid (LG b w (wr.alloc (.cells #[.int .i64 (idAt l k), .int .i64 (btAt l k)] 60)) u5 (alwN φ l k)) := hL.out.below hbA
      clear q hp kb hbA hL hG
      go_wp2_with fail
      refine (allowing_any b n φ (idAt l k) (btAt l k) wf1 wf2 _ HGA.out).mono ?_
      rintro e w2 ⟨rfl, hb2⟩
      have hG2 := HGA.out.below hb2
      obtain ⟨v3, w3, hr, hL3, hG3⟩ := LG.app (HLA.out.below hb2) hG2 (alwX φ (atW l k)) (by omega)
      have HL3 : Hid (LG b w w3 v3 (alwN φ l (k + 1))) := hL3
      have HG3 : Hid (GM w3 b n φ) := hG3
      simp only [alwX, atW] at hr
      clear hL3 hG3 hb2 hG2 HLA HGA c0 c1
      go_wp2_with (at_builtin; refine wpList_append_runA _ rfl (.tmp 14) (.tmp 18) 26 26 rfl _ _ _ _ rfl rfl hr ?_)
      go_roundw
      case rel => exact ⟨k + 1, by omega, by go_num, HL3, HG3⟩
      case measure => simp [intOf]; omega
    · have hkk : k = len := by omega
      subst hkk
      go_wp2
      go_ret
      exact ⟨_, rfl, hL.out, hG.out⟩
set_option maxRecDepth 100000 in
set_option maxHeartbeats 2000000 in
theorem turnedD_any (b n : Nat) (φ : Int → Int → Int) (a : Option Addr) (len cap : Nat) (l : List (Int × Int)) (hl : len ≤ 1000) (hw : WfL l len) (w : World) (hi : Own a len l w) (hne : ∀ A, a = some A → A.block ≠ b) (hG : GM w b n φ) :
    Calls Tryd.prog 39 #[.slice a len cap, .func (.func 38) #[.map (some b)] #[]] w fun e w' => ∃ v, e = .returned v ∧ LG b w w' v (dnyN φ l len) ∧ GM w' b n (lftN φ l len) := by
  have HI : Hid (Own a len l w) := hi
  have HW : Hid (WfL l len) := hw
  have hbl := hG.lt
  have HN : Hid (∀ A, a = some A → A.block ≠ b) := hne
  have HL0 : Hid (LG b w w (.slice none 0 0) (dnyN φ l 0)) := LG.nil ⟨rfl, rfl, rfl, Nat.le_refl _, fun _ _ _ => rfl⟩ hbl
  have HG0 : Hid (GM w b n (lftN φ l 0)) := hG
  clear hi hw hG hne
  go_enter Tryd.func39, Tryd.ntmps39
  go_wp2
  go_loopw [5, 10] (fun v i wr => ∃ k : Nat, k ≤ len ∧ i = .int .i64 k ∧ Hid (LG b w wr v (dnyN φ l k)) ∧ Hid (GM wr b n (lftN φ l k))) (fun _ i _ => len - (intOf i).toNat)
  case atStart => exact ⟨0, Nat.zero_le _, rfl, HL0, HG0⟩
  case round =>
    clear HL0 HG0
    obtain ⟨k, hk, rfl, hL, hG⟩ := hrel
    have hal := dnyN_len φ l k
    by_cases hlt : k < len
    · have hlt' : (k : Int) < (len : Int) := by omega
      obtain ⟨wf1, wf2⟩ := HW.out k hlt
      obtain ⟨B, rfl, hBl, hp⟩ := HI.out.2 (by omega)
      have hBb := HN.out _ rfl
      simp only at hBb
      have q := (hp k hlt).1
      have kb : ∀ o, wr.cell? ⟨B, o, none⟩ = w.cell? ⟨B, o, none⟩ := fun o => World.cell?_of_block (hL.out.own.block B hBl (by simp; omega))
      have c0 : wr.cell? ⟨B, k * 2, none⟩ = some (.int .i64 (idAt l k)) := (kb _).trans q.1
      have c1 : wr.cell? ⟨B, k * 2 + 1, none⟩ = some (.int .i64 (btAt l k)) := (kb _).trans q.2
      have hbA := bel_alloc wr (.cells #[.int .i64 (idAt l k), .int .i64 (btAt l k)] 60)
      have HGA : Hid (GM (wr.alloc (.cells #[.int .i64 (idAt l k), .int .i64 (btAt l k)] 60)) b n (lftN φ l k)) := hG.out.below hbA
      have HLA : Hid (LG b w (wr.alloc (.cells #[.int .i64 (idAt l k), .int .i64 (btAt l k)] 60)) u5 (dnyN φ l k)) := hL.out.below hbA
      clear q hp kb hbA hL hG
      go_wp2_with fail
      refine (denying_any b n (lftN φ l k) (idAt l k) (btAt l k) wf1 wf2 _ HGA.out).mono ?_
      rintro e w2 ⟨rfl, hG2, hg2⟩
      obtain ⟨v3, w3, hr, hL3, hG3⟩ := LG.app (HLA.out.call hg2) hG2 (dnyX (lftN φ l k) (atW l k)) (by omega)
      have HL3 : Hid (LG b w w3 v3 (dnyN φ l (k + 1))) := hL3
      have HG3 : Hid (GM w3 b n (lftN φ l (k + 1))) := hG3
      simp only [dnyX, atW] at hr
      clear hL3 hG3 hg2 hG2 HLA HGA c0 c1
      go_wp2_with (at_builtin; refine wpList_append_runA _ rfl (.tmp 14) (.tmp 18) 26 26 rfl _ _ _ _ rfl rfl hr ?_)
      go_roundw
      case rel => exact ⟨k + 1, by omega, by go_num, HL3, HG3⟩
      case measure => simp [intOf]; omega
    · have hkk : k = len := by omega
      subst hkk
      go_wp2
      go_ret
      exact ⟨_, rfl, hL.out, hG.out⟩
end Go.Proofs.YtfhhaencigmpoaaDoor
