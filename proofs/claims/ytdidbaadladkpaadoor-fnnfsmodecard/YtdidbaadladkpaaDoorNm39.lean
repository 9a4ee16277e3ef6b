/- Laid together: RmMath, ChmodN, ChmodN2. -/
import Derived.Test.YtdidbaadladkpaaDoorNm11
import Derived.Test.YtdidbaadladkpaaDoorNm28
import Derived.Test.YtdidbaadladkpaaDoorNm37
import Derived.Test.YtdidbaadladkpaaDoorNm38
import Derived.RangeFuncBox
import Derived.Stop.RegionWithIn
import Derived.Sort.CutIn
/- A set without another one: plain mathematics. Nothing here names a program. -/
namespace Go.Proofs.YtdidbaadladkpaaDoor
open Go.RowKit
set_option linter.unusedVariables false
/-- m without what s has. -/
def rmN (m s : Nat) : Nat := m &&& (m ^^^ s)
theorem rm_bit (m s i : Nat) : Nat.testBit (rmN m s) i = (Nat.testBit m i && !Nat.testBit s i) := by
  unfold rmN
  simp only [Nat.testBit_and, Nat.testBit_xor]
  cases Nat.testBit m i <;> cases Nat.testBit s i <;> rfl
theorem rm_le (m s : Nat) : rmN m s ≤ m := Nat.and_le_left
theorem rm_rm (m a b : Nat) : rmN (rmN m a) b = rmN m (a ||| b) := by
  apply Nat.eq_of_testBit_eq
  intro i
  simp only [rm_bit, Nat.testBit_or]
  cases Nat.testBit m i <;> cases Nat.testBit a i <;> cases Nat.testBit b i <;> rfl
theorem rm_zero (m : Nat) : rmN m 0 = m := by
  apply Nat.eq_of_testBit_eq
  intro i
  simp [rm_bit]
theorem and_half (a b : Nat) : (a &&& b) / 2 = (a / 2) &&& (b / 2) := by
  apply Nat.eq_of_testBit_eq
  intro i
  simp [Nat.testBit_div_two]
theorem rm_half (a b : Nat) : rmN a b / 2 = rmN (a / 2) (b / 2) := by
  apply Nat.eq_of_testBit_eq
  intro i
  simp [Nat.testBit_div_two, rm_bit]
theorem rm_mod (a b : Nat) : rmN a b % 2 = (a % 2) * (1 - b % 2) := by
  have h := rm_bit a b 0
  simp only [Nat.testBit_zero] at h
  rcases Nat.mod_two_eq_zero_or_one (rmN a b) with e | e <;> rcases Nat.mod_two_eq_zero_or_one a with e1 | e1 <;> rcases Nat.mod_two_eq_zero_or_one b with e2 | e2 <;> simp [e, e1, e2] at h ⊢
theorem rm_add : ∀ (n m s : Nat), m < 2 ^ n → (m &&& s) + rmN m s = m := by
  intro n
  induction n with
  | zero =>
    intro m s h
    have : m = 0 := by simpa using h
    subst this
    have := rm_le 0 s
    have h2 : 0 &&& s = 0 := by simp
    omega
  | succ n ih =>
    intro m s h
    have h1 := ih (m / 2) (s / 2) (by rw [Nat.pow_succ] at h; omega)
    have h2 := and_half m s
    have h3 := rm_half m s
    have h4 := and_two m s
    have h5 := rm_mod m s
    rw [← h2, ← h3] at h1
    rcases Nat.mod_two_eq_zero_or_one m with e1 | e1 <;> rcases Nat.mod_two_eq_zero_or_one s with e2 | e2 <;> rw [e1, e2] at h4 h5 <;> omega
theorem rm_sub {m s : Nat} (hm : m ≤ 65535) : m - (m &&& s) = rmN m s := by
  have := rm_add 16 m s (by omega)
  omega
theorem or_le {a b : Nat} (ha : a ≤ 255) (hb : b ≤ 255) : a ||| b ≤ 255 := by
  have := Nat.or_lt_two_pow (x := a) (y := b) (n := 8) (by omega) (by omega)
  omega
/-- What is put to a set that has none of it. -/
theorem or_rm (s m : Nat) (hm : m ≤ 65535) (hs : s ≤ 65535) : s ||| m = s + rmN m s := by
  have h := rm_add 17 (s ||| m) s (by have := Nat.or_lt_two_pow (x := s) (y := m) (n := 16) (by omega) (by omega); omega)
  have e1 : (s ||| m) &&& s = s := by
    apply Nat.eq_of_testBit_eq
    intro i
    simp only [Nat.testBit_and, Nat.testBit_or]
    cases Nat.testBit s i <;> cases Nat.testBit m i <;> rfl
  have e2 : rmN (s ||| m) s = rmN m s := by
    apply Nat.eq_of_testBit_eq
    intro i
    simp only [rm_bit, Nat.testBit_or]
    cases Nat.testBit s i <;> cases Nat.testBit m i <;> rfl
  omega
theorem andNot_nat (m s : Nat) (hm : m ≤ 65535) (hs : s ≤ 65535) : bits .andNot .i64 (m : Int) (s : Int) = ((rmN m s : Nat) : Int) := by
  have hx : rmN m s ≤ m := rm_le m s
  show IntKind.i64.wrap ((BitVec.ofInt 64 (m : Int) &&& ~~~BitVec.ofInt 64 (s : Int)).toNat : Int) = _
  rw [BitVec.toNat_and, BitVec.toNat_not, ofInt_u64 m (by omega), ofInt_u64 s (by omega), IntKind.wrap_i64]
  have e : m &&& (2 ^ 64 - 1 - s) = rmN m s := by
    apply Nat.eq_of_testBit_eq
    intro i
    have e2 : 2 ^ 64 - 1 - s = 2 ^ 64 - (s + 1) := by omega
    rw [Nat.testBit_and, e2, Nat.testBit_two_pow_sub_succ (by omega), rm_bit]
    by_cases hi : i < 64
    · simp [hi]
    · have : Nat.testBit m i = false := Nat.testBit_lt_two_pow (Nat.lt_of_lt_of_le (show m < 2 ^ 64 by omega) (Nat.pow_le_pow_right (by omega) (by omega)))
      simp [this]
  rw [e]
  omega
end Go.Proofs.YtdidbaadladkpaaDoor
/- namedAces of the program: what a round of its loop keeps. -/
namespace Go.Proofs.YtdidbaadladkpaaDoor
open Go.RowKit Go.PlainAid Go.Shelf
set_option linter.unusedVariables false
/-- A user or a group is named. -/
def nmdB (x : Ac) : Bool := decide (x.wh = 4) || decide (x.wh = 5)
/-- What of a mask stays. -/
def ctM (g : Int) (x : Ac) : Int := if x.al then bits .andNot .i64 x.ma (bits .andNot .i64 15 (bitsZ g)) else x.ma
/-- An ace of who is named, as it stays. -/
def ctA (g : Int) (x : Ac) : Ac := ⟨x.al, x.wh, x.id, 0, ctM g x⟩
/-- A box of an ace. -/
def Bx5 (W : World) (B : Nat) (x : Ac) : Prop := W.heap[B]? = some (.cells #[.bool x.al, .int .i64 x.wh, .int .i64 x.id, .int .i64 x.fl, .int .i64 x.ma] 33 (0, 0))
theorem Bx5.new (W : World) (x : Ac) : Bx5 (W.alloc (.cells #[.bool x.al, .int .i64 x.wh, .int .i64 x.id, .int .i64 x.fl, .int .i64 x.ma] 33)) W.heap.size x := World.alloc_heap_new W _
theorem Bx5.lt {W : World} {B : Nat} {x : Ac} (h : Bx5 W B x) : B < W.heap.size := (Array.getElem?_eq_some_iff.1 h).1
theorem Bx5.five {W : World} {B : Nat} {x : Ac} (h : Bx5 W B x) : Five W B 0 x := by
  have h' : W.heap[B]? = _ := h
  refine ⟨?_, ?_, ?_, ?_, ?_⟩ <;> simp [World.cell?, h']
theorem Bx5.free {W : World} {B : Nat} {x : Ac} (h : Bx5 W B x) (o : Nat) : W.frozen? ⟨B, o, none⟩ = false := by
  have h' : W.heap[B]? = _ := h
  simp [World.frozen?, h']
theorem Bx5.below {W W' : World} {B : Nat} {x : Ac} (h : Bx5 W B x) (hb : Below W.heap.size W W') : Bx5 W' B x := (hb.block B h.lt).trans h
theorem Bx5.kept {W W' : World} {row : Option Nat} {B : Nat} {x : Ac} (h : Bx5 W B x) (hg : W.grownBy W' row) (hr : ∀ r, row = some r → ∃ o : Obj, W.heap[r]? = some o ∧ o.isCells = false) : Bx5 W' B x := by
  refine (hg.block B h.lt (fun e' => ?_)).trans h
  obtain ⟨o, ho, hc⟩ := hr B e'.symm
  rw [show W.heap[B]? = _ from h] at ho; cases ho; cases hc
theorem Bx5.fl {W : World} {B : Nat} {x : Ac} (h : Bx5 W B x) (f : Int) : Bx5 (W.setCell ⟨B, 3, none⟩ (.int .i64 f)) B { x with fl := f } := by
  obtain ⟨hlt, hk⟩ := Array.getElem?_eq_some_iff.1 h
  show (W.heap.modify B _)[B]? = _
  rw [Array.getElem?_eq_getElem (by rw [Array.size_modify]; exact hlt), Array.getElem_modify_self, hk]
  rfl
theorem Bx5.ma {W : World} {B : Nat} {x : Ac} (h : Bx5 W B x) (f : Int) : Bx5 (W.setCell ⟨B, 4, none⟩ (.int .i64 f)) B { x with ma := f } := by
  obtain ⟨hlt, hk⟩ := Array.getElem?_eq_some_iff.1 h
  show (W.heap.modify B _)[B]? = _
  rw [Array.getElem?_eq_getElem (by rw [Array.size_modify]; exact hlt), Array.getElem_modify_self, hk]
  rfl
theorem grownBy_setC (W : World) (b o : Nat) (v : Value) : W.grownBy (W.setCell ⟨b, o, none⟩ v) (some b) :=
  ⟨rfl, rfl, rfl, (KeepsWalks.setCell W _ v).size, fun k _ hk => Below.heap_setCell _ _ _ k (fun e => hk (by rw [e]))⟩
/-- What holds in a round: the list's box, the row, the box of the group's bits. -/
structure NmI (w : World) (N0 : Nat) (g : Int) (acc : List Ac) (v : Value) (W : World) : Prop where
  bx : Boxed W (w.heap.size + 1) 23 v
  row : W.ownsRow N0 33 5 v acc.length (pcA acc)
  gr : W.cell? ⟨w.heap.size, 0, none⟩ = some (.int .i64 g)
  bel : Below w.heap.size w W
  sz : N0 ≤ W.heap.size
/-- What a step within a round keeps. -/
structure NmS (N0 : Nat) (W W' : World) : Prop where
  ko : KeepsOthers W W'
  bel : Below N0 W W'
theorem NmS.refl (N0 : Nat) (W : World) : NmS N0 W W := ⟨KeepsOthers.refl _, Below.refl _ _⟩
theorem NmS.trans {N0 : Nat} {A B C : World} (h : NmS N0 A B) (k : NmS N0 B C) : NmS N0 A C := ⟨h.ko.trans k.ko, h.bel.trans k.bel⟩
theorem ko_below {W W' : World} (hb : Below W.heap.size W W') : KeepsOthers W W' :=
  KeepsOthers.of_grownBy (row := none) ⟨hb.os, hb.tape, hb.output, hb.size, fun k hk _ => hb.block k hk⟩ (fun j o e => by cases e)
theorem NmS.below {N0 : Nat} {W W' : World} (hb : Below W.heap.size W W') (h : N0 ≤ W.heap.size) : NmS N0 W W' := ⟨ko_below hb, hb.mono h⟩
theorem NmS.set {N0 : Nat} {W : World} {b o : Nat} {v : Value} (h : N0 ≤ b) : NmS N0 W (W.setCell ⟨b, o, none⟩ v) := ⟨KeepsOthers.setCell _ _ _, bl_setA (Below.refl _ _) h⟩
theorem NmI.below {w : World} {N0 : Nat} {g : Int} {acc : List Ac} {v : Value} {W W' : World} (h : NmI w N0 g acc v W) (hb : Below W.heap.size W W') : NmI w N0 g acc v W' :=
  ⟨(hb.block _ h.bx.lt).trans h.bx, rowA_below h.row hb, (hb.cell (p := ⟨w.heap.size, 0, none⟩) (by have := h.bx.lt; show w.heap.size < _; omega)).trans h.gr, Below.on h.bel hb, Nat.le_trans h.sz hb.size⟩
theorem NmI.set {w : World} {N0 : Nat} {g : Int} {acc : List Ac} {v : Value} {W : World} (h : NmI w N0 g acc v W) {b o : Nat} {u : Value} (h1 : w.heap.size + 1 < b) (hne : v.ownBlock ≠ some b) : NmI w N0 g acc v (W.setCell ⟨b, o, none⟩ u) :=
  ⟨h.bx.kept (grownBy_setC W b o u) (fun e => by cases e; omega), h.row.kept (grownBy_setC W b o u) (.inr hne), by
    rw [World.cell?_setCell_other _ _ _ _ (by intro e; have h2 := congrArg Addr.block e; simp only at h2; omega)]; exact h.gr, bl_setA h.bel (by omega), by simpa using h.sz⟩
theorem row_weak {w : World} {B B' : Nat} {t : TypeId} {s : Nat} {v : Value} {n : Nat} {xs : List Value} (h : w.ownsRow B t s v n xs) (hb : B' ≤ B) : w.ownsRow B' t s v n xs := by
  obtain ⟨h0, ⟨rfl, hn⟩ | ⟨g, cap, cur, rfl, hB, hr⟩⟩ := h
  · exact ⟨h0, .inl ⟨rfl, hn⟩⟩
  · exact ⟨h0, .inr ⟨g, cap, cur, rfl, by omega, hr⟩⟩
/-- The append and the store behind it. -/
theorem nm_app {w : World} {N0 : Nat} {g : Int} {acc : List Ac} {v : Value} {W : World} (h : NmI w N0 g acc v W) (hN : w.heap.size + 4 = N0) (y : Ac) (hl : acc.length ≤ 100000000) :
    ∃ v' w', (Builtin.append_ #[23, 23] 23 #[v, .slice (some ⟨W.heap.size, 0, none⟩) 1 1]).run Tryd.prog (W.alloc (.cells #[.bool y.al, .int .i64 y.wh, .int .i64 y.id, .int .i64 y.fl, .int .i64 y.ma] 33)) = .ok v' w' ∧ (∃ G c, v' = .slice (some ⟨G, 0, none⟩) (acc.length + 1) c) ∧ Boxed w' (w.heap.size + 1) 23 v ∧ NmI w N0 g (acc ++ [y]) v' (w'.setCell ⟨w.heap.size + 1, 0, none⟩ v') ∧ KeepsOthers W (w'.setCell ⟨w.heap.size + 1, 0, none⟩ v') ∧ KpC w.heap.size (w.heap.size + 2) N0 W (w'.setCell ⟨w.heap.size + 1, 0, none⟩ v') := by
  have hb1 := bel_alloc W (.cells #[.bool y.al, .int .i64 y.wh, .int .i64 y.id, .int .i64 y.fl, .int .i64 y.ma] 33)
  have hs1 : W.heap.size ≤ (W.alloc (.cells #[.bool y.al, .int .i64 y.wh, .int .i64 y.id, .int .i64 y.fl, .int .i64 y.ma] 33)).heap.size := hb1.size
  obtain ⟨v', w', hr, hO, hg⟩ := run_append_acs (P := Tryd.prog) _ N0 23 23 33 Tryd.underlying23 infoAce v acc (rowA_below h.row hb1) _ 1 1 [y] (acs_one W y 33) (by omega) (Nat.le_trans h.sz hs1)
  obtain ⟨b1, b2, b3, b4, b5⟩ := Boxed.appended (n₀ := 0) h.bx (by decide) (row_weak h.row (Nat.zero_le _)) (Nat.zero_le _) (Nat.zero_le _) (row_weak hO (Nat.zero_le _)) hg
  have hBl : Below N0 W w' := ((Below.refl N0 W).alloc h.sz _).grown hg (Nat.le_trans h.sz hs1) (own_blockA h.row)
  have hBs : Below w.heap.size W (w'.setCell ⟨w.heap.size + 1, 0, none⟩ v') := bl_setA (hBl.mono (by omega)) (by omega)
  have hoc : ∀ c o : Nat, c ≠ w.heap.size + 1 → (w'.setCell ⟨w.heap.size + 1, 0, none⟩ v').cell? ⟨c, o, none⟩ = w'.cell? ⟨c, o, none⟩ := fun c o hc => World.cell?_setCell_other _ _ _ _ (by intro e; have h2 := congrArg Addr.block e; simp only at h2; omega)
  have e1 : (acc ++ [y]).length = acc.length + 1 := by simp
  refine ⟨v', w', hr, ?_, b1, ⟨b2, hO.kept (grownBy_setCell' w' _ v') (.inr (b1.not_row (by decide) hO).symm), ?_, h.bel.trans hBs, ?_⟩, b4, hBs, fun c o u h1 h2 hu => ?_⟩
  · rw [e1] at hO
    exact ownsRow_succ hO
  · rw [hoc _ _ (by omega)]
    exact (hBl.cell (p := ⟨w.heap.size, 0, none⟩) (by show w.heap.size < _; omega)).trans h.gr
  · have := hBl.size
    have := h.sz
    simp only [World.size_setCell]
    omega
  · rw [hoc _ _ (by omega)]
    exact (hBl.cell (p := ⟨c, o, none⟩) h2).trans hu
theorem NmS.kp {w : World} {N0 : Nat} {W W' : World} (h : NmS N0 W W') (hN : w.heap.size + 4 = N0) : KpC w.heap.size (w.heap.size + 2) N0 W W' := ⟨h.bel.mono (by omega), fun c o v h1 h2 hv => (h.bel.cell (p := ⟨c, o, none⟩) h2).trans hv⟩
theorem boxed_inj {W : World} {B : Nat} {t : TypeId} {v v' : Value} (h : Boxed W B t v) (h' : Boxed W B t v') : v = v' := by
  have := h.cell.symm.trans h'.cell
  simpa using this
end Go.Proofs.YtdidbaadladkpaaDoor
/- namedAces of the program. -/
namespace Go.Proofs.YtdidbaadladkpaaDoor
open Go.RowKit Go.PlainAid Go.Shelf
set_option linter.unusedVariables false
attribute [local go_sem] Oper.semAt_some
theorem wpListIn_append_runA {F : Fence} {n : Nat} {P : Program} (w : World) {ops : Array Oper} {rest : List Oper} {o : Oper} {a : Act} {Q : Exit → Act → World → Prop} (hgd : o.guard = none) (s x : Operand) (t tx : TypeId)
    (ho : o.op = .call { callee := .builtin .append, args := #[s, x], argTypes := #[t, tx] }) (v xv v' : Value) (w' : World) (hs : a.eval s = v) (hx : a.eval x = xv)
    (hr : (Builtin.append_ #[t, tx] o.type #[v, xv]).run P w = .ok v' w') (h : wpListIn F n P ops Q rest (a.put o.dst v') w') : wpListIn F n P ops Q (o :: rest) a w := by
  refine wpListIn_plain hgd fun K hK' => ?_
  unfold Oper.wpIn
  refine ⟨?_, ?_⟩
  · simp [Oper.about, ho, resolve, Target.leads, Sem.run_pure]
  · rw [Oper.semAt_plain F _ _ (by rw [ho]; intro c hc'; cases hc')]
    simp [execOp, ho, resolve, invoke, builtin, hs, hx, hr, Result.andThen]
    exact hK' _ _ h
set_option maxRecDepth 100000 in
set_option maxHeartbeats 4000000 in
/-- impl.namedAces. -/
theorem named_anyC (a : Option Addr) (len cap : Nat) (l : List Ac) (g : Int) (hl : len ≤ 1000) (hfl : ∀ i, i < len → 0 ≤ (acAt l i).fl ∧ (acAt l i).fl ≤ 15) (w : World) (hA : Acs a len l w) (hp : PlW w) :
    Calls Tryd.prog 87 #[.slice a len cap, .int .i64 g] w (AnsL ((fltP nmdB l len).map (ctA g)) w) := by
  refine (callsIn_wide (n := 6)).1 ?_
  refine callsIn_of_wp_marks Tryd.func87 rfl trivial ?_ rfl
  simp only [Tryd.ntmps87, List.size_toArray, List.length_cons, List.length_nil, Nat.reduceAdd, Nat.reduceSub, Array.replicate_succ, Array.replicate_zero, List.push_toArray, List.append_toArray, List.nil_append, List.cons_append]
  gi_wp2_with (refine ⟨trivial, ?_⟩; gi_at_call 76; refine (callsIn_wide.2 (holding_any _ _ _ _ _ _)).mono ?_; rintro e w2 ⟨rfl, rfl⟩)
  have z1 : (w.alloc (.cells #[.int .i64 g] 2)).heap.size = w.heap.size + 1 := by simp
  have z2 : ((w.alloc (.cells #[.int .i64 g] 2)).alloc (.cells #[.slice none 0 0] 23)).heap.size = w.heap.size + 1 + 1 := by simp
  have z3 : (((w.alloc (.cells #[.int .i64 g] 2)).alloc (.cells #[.slice none 0 0] 23)).alloc (.cells #[.slice a len cap] 23)).heap.size = w.heap.size + 1 + 1 + 1 := by simp
  have z4 : ((((w.alloc (.cells #[.int .i64 g] 2)).alloc (.cells #[.slice none 0 0] 23)).alloc (.cells #[.slice a len cap] 23)).alloc (.cells #[.func (.func 83) #[] #[]] 46)).heap.size = w.heap.size + 1 + 1 + 1 + 1 := by simp
  have b1 := bel_alloc w (.cells #[.int .i64 g] 2)
  have b2 := bel_alloc (w.alloc (.cells #[.int .i64 g] 2)) (.cells #[.slice none 0 0] 23)
  have b3 := bel_alloc ((w.alloc (.cells #[.int .i64 g] 2)).alloc (.cells #[.slice none 0 0] 23)) (.cells #[.slice a len cap] 23)
  have b4 := bel_alloc (((w.alloc (.cells #[.int .i64 g] 2)).alloc (.cells #[.slice none 0 0] 23)).alloc (.cells #[.slice a len cap] 23)) (.cells #[.func (.func 83) #[] #[]] 46)
  have hG0 := Boxed.new w 2 (.int .i64 g)
  have hV0 := Boxed.new (w.alloc (.cells #[.int .i64 g] 2)) 23 (.slice none 0 0)
  rw [z1] at hV0
  have hL0 := Boxed.new ((w.alloc (.cells #[.int .i64 g] 2)).alloc (.cells #[.slice none 0 0] 23)) 23 (.slice a len cap)
  rw [z2] at hL0
  have hF0 := Boxed.new (((w.alloc (.cells #[.int .i64 g] 2)).alloc (.cells #[.slice none 0 0] 23)).alloc (.cells #[.slice a len cap] 23)) 46 (.func (.func 83) #[] #[])
  rw [z3] at hF0
  have hG := ((hG0.alloc (.cells #[.slice none 0 0] 23)).alloc (.cells #[.slice a len cap] 23)).alloc (.cells #[.func (.func 83) #[] #[]] 46)
  have hV := (hV0.alloc (.cells #[.slice a len cap] 23)).alloc (.cells #[.func (.func 83) #[] #[]] 46)
  have hL := hL0.alloc (.cells #[.func (.func 83) #[] #[]] 46)
  have hB0 := Below.on (Below.on (Below.on b1 b2) b3) b4
  generalize ((((w.alloc (.cells #[.int .i64 g] 2)).alloc (.cells #[.slice none 0 0] 23)).alloc (.cells #[.slice a len cap] 23)).alloc (.cells #[.func (.func 83) #[] #[]] 46)) = W0 at hB0 hG hV hL hF0 z4 ⊢
  clear b1 b2 b3 b4 hG0 hV0 hL0 z1 z2 z3
  have hN : w.heap.size + 4 = W0.heap.size := by omega
  have HNB : Hid (∀ W, Below w.heap.size w W → Calls Tryd.prog 25 #[.int .i64 g] W fun e w' => e = .returned (.int .i64 (bitsZ g)) ∧ Below W.heap.size W w') := (fun W hb => iNfsBits_any g W (hp.below hb))
  refine wpIn_rangeFunc_ownH rfl (by omega) (gf := 99) (lb := #[.pointer (some ⟨w.heap.size + 1 + 1, 0, none⟩), .pointer (some ⟨w.heap.size + 1 + 1 + 1, 0, none⟩)]) rfl trivial (enters_of Tryd.func99 (by kernel_rfl) rfl)
    (holdN_stops 5 (by omega) (w.heap.size + 1 + 1) (w.heap.size + 1 + 1 + 1) w.heap.size (w.heap.size + 2) W0.heap.size a len cap l nmdB hl W0 (hA.below hB0) (fun h A e => by obtain ⟨b, off, e2, hb, _⟩ := hA.2 h; rw [e2] at e; cases e; exact hb) (by omega) (by omega) hfl hB0.size (Nat.le_refl _)
      (fun x W' hK => names_any x W') hL.cell hF0.cell)
    kpC_t (kpC_b hB0.size) (Below.refl _ _) (fun _ => rfl)
    (fun pre W => (∃ v, Boxed W (w.heap.size + 1) 23 v ∧ W.ownsRow W0.heap.size 33 5 v (pre.map (ctA g)).length (pcA (pre.map (ctA g))) ∧ True) ∧ (W.cell? ⟨w.heap.size, 0, none⟩ = some (.int .i64 g) ∧ (Below w.heap.size w W ∧ W0.heap.size ≤ W.heap.size)))
    (fun _ _ _ => False)
    (OwnFrom.and (Own.from (holdsRow_own W0.heap.size (w.heap.size + 1) 23 33 5 (fun pre : List Ac => (pre.map (ctA g)).length) (fun pre => pcA (pre.map (ctA g))) (fun _ _ => True)) _) (OwnFrom.and (Own.from (fun s A B row hs hg hr => cell_kept hs hg hr) _) (OwnFrom.and (ownFrom_below (Nat.le_refl _) hB0.size) (fun _ _ _ _ hs hg _ => Nat.le_trans hs hg.size))))
    (fun _ _ _ _ _ hs _ _ => hs)
    ⟨⟨.slice none 0 0, hV, World.ownsRow_nil _ _ _ _, trivial⟩, hG.cell, hB0, Nat.le_refl _⟩
    (fun x a' W => ∃ Bx v, W0.heap.size ≤ Bx ∧ Bx5 W Bx x ∧ Boxed W (w.heap.size + 1) 23 v ∧ v.ownBlock ≠ some Bx ∧ a' = { tmps := #[.slice a len cap, .int .i64 g, undef, .pointer (some ⟨w.heap.size, 0, none⟩), .slice none 0 0, .pointer (some ⟨w.heap.size + 1, 0, none⟩), .pointer (some ⟨Bx, 0, none⟩), .slice a len cap, .func (.func 99) #[] #[.pointer (some ⟨w.heap.size + 1 + 1, 0, none⟩), .pointer (some ⟨w.heap.size + 1 + 1 + 1, 0, none⟩)], .agg #[.bool x.al, .int .i64 x.wh, .int .i64 x.id, .int .i64 x.fl, .int .i64 x.ma], undef, undef, undef, undef, undef, undef, undef, undef, undef, undef, undef, undef, undef, undef, undef], defers := [] })
    (fun x a' s A B row hs hg hr => by
      obtain ⟨Bx, v, h1, h2, h3, h4, h5⟩ := hs
      exact ⟨Bx, v, h1, h2.kept hg (fun r e => (hr r e).2), h3.kept hg (fun e' => by obtain ⟨o, ho, hc⟩ := (hr _ e'.symm).2; rw [show A.heap[w.heap.size + 1]? = _ from h3] at ho; cases ho; cases hc), h4, h5⟩)
    ?assign ?body ?done ?stop
  case assign =>
    rintro lp pre x W K ⟨⟨v, hv, hrow, _⟩, hgc, hB, hsz⟩ hK
    gi_wp2
    have hI : NmI w W0.heap.size g (pre.map (ctA g)) v W := ⟨hv, hrow, hgc, hB, hsz⟩
    have hba := bel_alloc W (.cells #[.bool x.al, .int .i64 x.wh, .int .i64 x.id, .int .i64 x.fl, .int .i64 x.ma] 33)
    have hI2 := hI.below hba
    refine hK _ _ ((KeepsOthers.alloc _ _).from _) (kpC_grow hba hB.size hsz) ⟨⟨v, hI2.bx, hI2.row, trivial⟩, hI2.gr, hI2.bel, hI2.sz⟩ ⟨W.heap.size, v, hsz, Bx5.new W x, hI2.bx, ?_, rfl⟩
    obtain ⟨_, ⟨e, _⟩ | ⟨G, c, cur, e, _, hG, _⟩⟩ := hrow
    · rw [e]; simp [Value.ownBlock]
    · rw [e]
      have := (Array.getElem?_eq_some_iff.1 hG).1
      simp [Value.ownBlock]
      omega
  case body =>
    rintro lp pre x a' W hlp hr ⟨⟨v, hv, hrow, _⟩, hgc, hB, hsz⟩ ⟨Bx, v2, hBx, h5, hv2, hne, rfl⟩ hlt
    obtain rfl := boxed_inj hv hv2
    have HI : Hid (NmI w W0.heap.size g (pre.map (ctA g)) v W) := ⟨hv, hrow, hgc, hB, hsz⟩
    have hle : (pre.map (ctA g)).length ≤ 1000 := by simp; omega
    have HM : Hid ((pre ++ [x]).map (ctA g) = pre.map (ctA g) ++ [ctA g x]) := (by show _ = _; simp)
    generalize pre.map (ctA g) = acc at HI hle HM
    have hF := h5.five
    obtain ⟨c0, c1, c2, c3, c4⟩ := hF
    simp only [Nat.zero_add] at c1 c2 c3 c4
    have f3 := h5.free 3
    have HI1 : Hid (NmI w W0.heap.size g acc v (W.setCell ⟨Bx, 3, none⟩ (.int .i64 0))) := HI.out.set (by omega) hne
    have H5 : Hid (Bx5 (W.setCell ⟨Bx, 3, none⟩ (.int .i64 0)) Bx { x with fl := 0 }) := h5.fl 0
    have HS1 : Hid (NmS W0.heap.size W (W.setCell ⟨Bx, 3, none⟩ (.int .i64 0))) := NmS.set hBx
    clear hv hrow hgc hB hsz hv2 HI
    gi_upto_region 5 with fail
    generalize W.setCell ⟨Bx, 3, none⟩ (.int .i64 0) = W1 at HI1 H5 HS1 ⊢
    clear c0 c1 c2 c3 c4 f3 h5
    obtain ⟨c0, c1, c2, c3, c4⟩ := H5.out.five
    simp only [Nat.zero_add] at c0 c1 c2 c3 c4
    have hbx := HI1.out.bx.cell
    cases hal : x.al
    · have HC : Hid (ctA g x = { x with fl := 0 }) := (by show _ = _; simp [ctA, ctM, hal])
      rw [hal] at c0
      obtain ⟨v', w', hr, ⟨G, cc, rfl⟩, hb', hI', hK', hkp'⟩ := nm_app HI1.out hN { x with fl := 0 } (by omega)
      rw [← HC.out, ← HM.out] at hI'
      have HI' : Hid _ := hI'
      have HK' : Hid _ := hK'
      have HKP : Hid _ := hkp'
      have hbc := hb'.cell
      have hbf := hb'.frozen
      simp only [hal] at hr
      clear hI' hK' hkp' hb' hal
      gi_wp2_with (gi_at_builtin; refine wpListIn_append_runA _ rfl (.tmp 20) (.tmp 22) 23 23 rfl _ _ _ _ rfl rfl hr ?_)
      exact ⟨((HS1.out.ko).trans HK'.out).from _, kpC_t (HS1.out.kp hN) HKP.out, ⟨_, HI'.out.bx, HI'.out.row, trivial⟩, HI'.out.gr, HI'.out.bel, HI'.out.sz⟩
    · have HC : Hid (ctA g x = { x with fl := 0, ma := bits .andNot .i64 x.ma (bits .andNot .i64 15 (bitsZ g)) }) := (by show _ = _; simp [ctA, ctM, hal])
      rw [hal] at c0
      have f4 := H5.out.free 4
      have hgc := HI1.out.gr
      have HW1 : Hid (Below w.heap.size w W1) := HI1.out.bel
      gi_wp2_with fail
      gi_region_with (refine ⟨trivial, ?_⟩; gi_at_call 25; refine (callsIn_wide.2 (HNB.out _ (below_drewA HW1.out))).mono ?_; rintro e w5 ⟨rfl, hb5⟩; have hB5 : Hid (Below W1.heap.size W1 w5) := below_drewZ hb5; have h5b := H5.out.below hB5.out; obtain ⟨d0, d1, d2, d3, d4⟩ := h5b.five; simp only [Nat.zero_add] at d0 d1 d2 d3 d4; have df := h5b.free 4)
      all_goals (
        have HI2 : Hid (NmI w W0.heap.size g acc v (w5.setCell ⟨Bx, 4, none⟩ (.int .i64 (bits .andNot .i64 x.ma (bits .andNot .i64 15 (bitsZ g)))))) := (HI1.out.below hB5.out).set (by omega) hne
        have H52 : Hid (Bx5 (w5.setCell ⟨Bx, 4, none⟩ (.int .i64 (bits .andNot .i64 x.ma (bits .andNot .i64 15 (bitsZ g))))) Bx { x with fl := 0, ma := bits .andNot .i64 x.ma (bits .andNot .i64 15 (bitsZ g)) }) := h5b.ma _
        have HS2 : Hid (NmS W0.heap.size W (w5.setCell ⟨Bx, 4, none⟩ (.int .i64 (bits .andNot .i64 x.ma (bits .andNot .i64 15 (bitsZ g)))))) := (HS1.out.trans (NmS.below hB5.out HI1.out.sz)).trans (NmS.set hBx)
        generalize w5.setCell ⟨Bx, 4, none⟩ (.int .i64 (bits .andNot .i64 x.ma (bits .andNot .i64 15 (bitsZ g)))) = W2 at HI2 H52 HS2 ⊢
        clear c0 c1 c2 c3 c4 d0 d1 d2 d3 d4 df f4 h5b hb5 hB5 hbx hgc HI1 H5 HS1
        generalize bits .andNot .i64 x.ma (bits .andNot .i64 15 (bitsZ g)) = nm at HC H52
        obtain ⟨c0, c1, c2, c3, c4⟩ := H52.out.five
        simp only [Nat.zero_add] at c0 c1 c2 c3 c4
        rw [hal] at c0
        have hbx := HI2.out.bx.cell
        obtain ⟨v', w', hr, ⟨G, cc, rfl⟩, hb', hI', hK', hkp'⟩ := nm_app HI2.out hN { x with fl := 0, ma := nm } (by omega)
        rw [← HC.out, ← HM.out] at hI'
        have HI' : Hid _ := hI'
        have HK' : Hid _ := hK'
        have HKP : Hid _ := hkp'
        have hbc := hb'.cell
        have hbf := hb'.frozen
        simp only [hal] at hr
        clear hI' hK' hkp' hb' hal
        gi_wp2_with (gi_at_builtin; refine wpListIn_append_runA _ rfl (.tmp 20) (.tmp 22) 23 23 rfl _ _ _ _ rfl rfl hr ?_)
        exact ⟨((HS2.out.ko).trans HK'.out).from _, kpC_t (HS2.out.kp hN) HKP.out, ⟨_, HI'.out.bx, HI'.out.row, trivial⟩, HI'.out.gr, HI'.out.bel, HI'.out.sz⟩)
  case done =>
    rintro D ys W hD rfl ⟨⟨v, hv, hrow, _⟩, hgc, hB, hsz⟩ hK
    have hvc := hv.cell
    gi_wp2
    refine ⟨by simp, .inl ⟨_, _, rfl, run_takeDeferred hK, ?_⟩⟩
    obtain ⟨a', c', hv', ho', hin'⟩ := ownA_of_row (ownsRow_putObj (row_weak hrow hB0.size) (.deferred none) hK rfl)
    subst hv'
    exact ⟨_, results_tmp rfl _ _ _, a', c', rfl, ho', hin', hB.trans (belowK_b (w := w) (Nat.le_refl _) W D _ _ (Nat.le_trans hB0.size hD) hK rfl rfl)⟩
  case stop =>
    rintro D c pre W _ _ h _
    exact h.elim
end Go.Proofs.YtdidbaadladkpaaDoor
