/- Laid together: DrawCred, DrawWho0. -/
import Derived.Test.YtgooanaacebncaaDoorRE3
import Derived.Test.YtgooanaacebncaaDoorRE4
import Derived.Laws.AppendOwn
import Derived.OwnWalk
import Derived.Deep.OwnRows
import Derived.Deep.RegionLaw
import Derived.Deep.DeepCutAuto
/- The draw of a Cred: some Cred, its groups a row of its own, nine at most. -/
namespace Go.Proofs.YtgooanaacebncaaDoor
open Go.RowKit Go.PlainAid Go.Deep
set_option linter.unusedVariables false
theorem infoD64 : (Tryd.prog.info? 2).map (fun i => (i.zero, i.size, i.bytes)) = some (some (.int .i64 0), 1, 8) := by kernel_rfl
/-- Numbers as values. -/
def ivD (l : List Int) : List Value := l.map fun n => Value.int .i64 n
theorem ivD_snoc (l : List Int) (x : Int) : ivD (l ++ [x]) = ivD l ++ [.int .i64 x] := by simp [ivD]
theorem own_blockD {w : World} {B : Nat} {t : TypeId} {v : Value} {n : Nat} {xs : List Value} (h : w.ownsRow B t 1 v n xs) : ∀ k, v.ownBlock = some k → B ≤ k := by
  obtain ⟨_, ⟨rfl, _⟩ | ⟨g, cap, cur, rfl, hb, _⟩⟩ := h
  · intro k hk; simp [Value.ownBlock] at hk
  · intro k hk; simp [Value.ownBlock] at hk; omega
theorem row_keepD {w w' : World} {B : Nat} {t : TypeId} {v : Value} {n : Nat} {xs : List Value} (h : w.ownsRow B t 1 v n xs) (hb : ∀ k, B ≤ k → k < w.heap.size → w'.heap[k]? = w.heap[k]?) : w'.ownsRow B t 1 v n xs := by
  obtain ⟨h0, ⟨rfl, hn⟩ | ⟨g, cap, cur, rfl, hB, hg, hc, hm, hs, ht⟩⟩ := h
  · exact ⟨h0, .inl ⟨rfl, hn⟩⟩
  · have hlt : g < w.heap.size := (Array.getElem?_eq_some_iff.1 hg).1
    exact ⟨h0, .inr ⟨g, cap, cur, rfl, hB, (hb g hB hlt).trans hg, hc, hm, hs, ht⟩⟩
theorem row_fromD {w : World} {B B2 : Nat} {t : TypeId} {v : Value} {n : Nat} {l : List Value} (h : w.ownsRow B t 1 v n l) (hb : B2 ≤ B) : w.ownsRow B2 t 1 v n l := by
  obtain ⟨q0, ⟨q1, q2⟩ | ⟨b2, cap2, cur2, q1, q2, q3⟩⟩ := h
  · exact ⟨q0, .inl ⟨q1, q2⟩⟩
  · exact ⟨q0, .inr ⟨b2, cap2, cur2, q1, Nat.le_trans hb q2, q3⟩⟩
theorem row_shapeD {w : World} {B : Nat} {t : TypeId} {v : Value} {n : Nat} {l : List Value} (h : w.ownsRow B t 1 v n l) : ∃ a c, v = .slice a n c := by
  obtain ⟨_, ⟨rfl, hn⟩ | ⟨g, cap, cur, rfl, _⟩⟩ := h
  · exact ⟨none, 0, by rw [hn]⟩
  · exact ⟨_, _, rfl⟩
theorem one_numD (x : Int) : ∀ u ∈ [Value.int .i64 x], u.oneCell' = true := by
  intro u hu
  simp at hu
  subst hu
  rfl
theorem num_newD (w : World) (x : Int) (t : TypeId) : ∀ j u, [Value.int .i64 x][j]? = some u → (w.alloc (.cells #[.int .i64 x] t)).cell? ((⟨w.heap.size, 0, none⟩ : Addr).add j) = some u := by
  intro j u hj
  cases j with
  | zero =>
    simp at hj
    subst hj
    have e : (⟨w.heap.size, 0, none⟩ : Addr).add 0 = ⟨w.heap.size, 0, none⟩ := by simp [Addr.add]
    rw [e, lit_cell]
    rfl
  | succ j => simp at hj
/-- append of one number onto a row of one's own. -/
theorem append_numD (B : Nat) (w : World) (v : Value) (l : List Int) (hown : w.ownsRow B 2 1 v l.length (ivD l)) (hB : B ≤ w.heap.size) (x : Int) (hsm : l.length ≤ 100000000) :
    ∃ v' w', (Builtin.append_ #[23, 23] 23 #[v, .slice (some ⟨w.heap.size, 0, none⟩) 1 1]).run Tryd.prog (w.alloc (.cells #[.int .i64 x] 2)) = .ok v' w' ∧ w'.ownsRow B 2 1 v' (l ++ [x]).length (ivD (l ++ [x])) ∧ Below B w w' ∧ w.heap.size ≤ w'.heap.size := by
  obtain ⟨i, hi, hzz⟩ := Option.map_eq_some_iff.1 infoD64
  simp only [Prod.mk.injEq] at hzz
  obtain ⟨hz, hs, hb⟩ := hzz
  have hb1 : Below w.heap.size w (w.alloc (.cells #[.int .i64 x] 2)) := (Below.refl _ _).alloc (Nat.le_refl _) _
  have hown1 := row_keepD hown (fun k _ hk => hb1.block k hk)
  have hB1 : B ≤ (w.alloc (.cells #[.int .i64 x] 2)).heap.size := Nat.le_trans hB hb1.size
  obtain ⟨v', w', hr, h1, h2, _⟩ := run_append_own (P := Tryd.prog) _ B 23 23 2 i _ 1 8 Tryd.underlying23 hi hz hs hb rfl (by decide) v l.length (ivD l) hown1 ⟨w.heap.size, 0, none⟩ 1 1 [.int .i64 x] rfl (num_newD w x _) (one_numD x) (by unfold maxLen; omega) (by omega) hB1
  refine ⟨v', w', hr, ?_, (hb1.mono hB).grown h2 hB1 (own_blockD hown1), Nat.le_trans hb1.size h2.size⟩
  rw [ivD_snoc, List.length_append]
  exact h1
theorem step_append_runD {P : Program} {ops : Array Oper} {o : Oper} {a : Act} {w : World} {K : Act → World → Prop} {Q : Exit → Act → World → Prop} {E : Prop}
    (hg : o.guard = none) (s x : Operand) (t : TypeId) (hop : o.op = Op.call { callee := Callee.builtin Builtin.append, args := #[s, x], argTypes := #[t, t] })
    (v xv v' : Value) (w' : World) (hs : a.eval s = v) (hx : a.eval x = xv) (hr : (Builtin.append_ #[t, t] o.type #[v, xv]).run P w = .ok v' w')
    (hK : K (a.put o.dst v') w') :
    if Region.wanted o (yielded ops a.tmps) = true then Oper.wp P o a w K Q else E := by
  have hw : Region.wanted o (yielded ops a.tmps) = true := by simp [Region.wanted, hg]
  rw [if_pos hw]
  unfold Oper.wp
  simp [execOp, hop, resolve, invoke, builtin, hs, hx, hr, Result.andThen]
  exact hK
theorem wpList_append_runD {P : Program} (w : World) {ops : Array Oper} {rest : List Oper} {o : Oper} {a : Act} {Q : Exit → Act → World → Prop} (hgd : o.guard = none) (s x : Operand) (t tx : TypeId)
    (ho : o.op = .call { callee := .builtin .append, args := #[s, x], argTypes := #[t, tx] }) (v xv v' : Value) (w' : World) (hs : a.eval s = v) (hx : a.eval x = xv)
    (hr : (Builtin.append_ #[t, tx] o.type #[v, xv]).run P w = .ok v' w') (h : wpList P ops Q rest (a.put o.dst v') w') : wpList P ops Q (o :: rest) a w :=
  wpList_plain hgd fun _ hK => by
    unfold Oper.wp execOp
    simp only [ho, resolve, invoke, builtin, Sem.run_bind, Sem.run_pure, Result.andThen_ok, List.map_toArray, List.map_cons, List.map_nil, hs, hx, hr]
    exact hK _ _ h
/-- Four cells of a block that may be written. -/
structure Fr4 (w : World) (B : Nat) (v0 v1 v2 v3 : Value) : Prop where
  lt : B < w.heap.size
  c0 : w.cell? ⟨B, 0, none⟩ = some v0
  c1 : w.cell? ⟨B, 1, none⟩ = some v1
  c2 : w.cell? ⟨B, 2, none⟩ = some v2
  c3 : w.cell? ⟨B, 3, none⟩ = some v3
  fz : ∀ o, w.frozen? ⟨B, o, none⟩ = false
theorem Fr4.keep {w w' : World} {B : Nat} {v0 v1 v2 v3 : Value} (h : Fr4 w B v0 v1 v2 v3) (hs : w.heap.size ≤ w'.heap.size) (hb : w'.heap[B]? = w.heap[B]?) : Fr4 w' B v0 v1 v2 v3 := by
  have hc : ∀ o, w'.cell? ⟨B, o, none⟩ = w.cell? ⟨B, o, none⟩ := fun o => World.cell?_of_block hb
  exact ⟨Nat.lt_of_lt_of_le h.lt hs, (hc 0).trans h.c0, (hc 1).trans h.c1, (hc 2).trans h.c2, (hc 3).trans h.c3, fun o => (World.frozen?_of_block hb).trans (h.fz o)⟩
theorem fr4_new (w : World) (v0 v1 v2 v3 : Value) (t : TypeId) : Fr4 (w.alloc (.cells #[v0, v1, v2, v3] t)) w.heap.size v0 v1 v2 v3 := by
  refine ⟨by simp, ?_, ?_, ?_, ?_, fun o => ?_⟩
  · rw [lit_cell]; rfl
  · rw [lit_cell]; rfl
  · rw [lit_cell]; rfl
  · rw [lit_cell]; rfl
  · have hb : (w.alloc (.cells #[v0, v1, v2, v3] t)).heap[w.heap.size]? = some (.cells #[v0, v1, v2, v3] t) := blk_new w _
    simp only [World.frozen?, hb]
    simp
theorem Fr4.set2 {w : World} {B : Nat} {v0 v1 v2 v3 v : Value} (h : Fr4 w B v0 v1 v2 v3) : Fr4 (w.setCell ⟨B, 2, none⟩ v) B v0 v1 v v3 := by
  obtain ⟨hl, c0, c1, c2, c3, hf⟩ := h
  refine ⟨by simpa using hl, ?_, ?_, ?_, ?_, fun o => by rw [World.frozen?_setCell]; exact hf o⟩ <;> simp [go_sem, *]
theorem Fr4.set0 {w : World} {B : Nat} {v0 v1 v2 v3 v : Value} (h : Fr4 w B v0 v1 v2 v3) : Fr4 (w.setCell ⟨B, 0, none⟩ v) B v v1 v2 v3 := by
  obtain ⟨hl, c0, c1, c2, c3, hf⟩ := h
  refine ⟨by simpa using hl, ?_, ?_, ?_, ?_, fun o => by rw [World.frozen?_setCell]; exact hf o⟩ <;> simp [go_sem, *]
theorem Fr4.sets {w : World} {B : Nat} {v0 v1 v2 v3 : Value} (h : Fr4 w B v0 v1 v2 v3) (a0 a1 a2 a3 : Value) : Fr4 ((((w.setCell ⟨B, 0, none⟩ a0).setCell ⟨B, 1, none⟩ a1).setCell ⟨B, 2, none⟩ a2).setCell ⟨B, 3, none⟩ a3) B a0 a1 a2 a3 := by
  obtain ⟨hl, c0, c1, c2, c3, hf⟩ := h
  refine ⟨by simpa using hl, ?_, ?_, ?_, ?_, fun o => ?_⟩
  · simp [go_sem, *]
  · simp [go_sem, *]
  · simp [go_sem, *]
  · simp [go_sem, *]
  · simp only [World.frozen?_setCell]
    exact hf o
theorem set_blockD (w : World) (X o k : Nat) (v : Value) (h : k ≠ X) : (w.setCell ⟨X, o, none⟩ v).heap[k]? = w.heap[k]? := Below.heap_setCell _ _ _ _ h
/-- A Cred that is being drawn, in block X; the answer's block R. -/
structure CB (a : Option Addr) (len cap : Nat) (g : Nat → Int) (p X R : Nat) (w0 w : World) (u v : Int) (l : List Int) (x : Value) (r : Bool) : Prop where
  src : Src a len cap g p w
  own : Ownp p w0 w
  bx : Fr4 w X (.int .i64 u) (.int .i64 v) x (.bool r)
  br : Fr4 w R (.int .i64 0) (.int .i64 0) (.slice none 0 0) (.bool false)
  xr : R < X
  x0 : w0.heap.size ≤ R
  pl : p < w0.heap.size
  row : w.ownsRow (X + 1) 2 1 x l.length (ivD l)
theorem CB.call {a : Option Addr} {len cap : Nat} {g : Nat → Int} {p X R : Nat} {w0 w w' : World} {u v : Int} {l : List Int} {x : Value} {r : Bool} (h : CB a len cap g p X R w0 w u v l x r) (hs : Src a len cap g p w') (ho : Ownp p w w') : CB a len cap g p X R w0 w' u v l x r := by
  have h1 := h.xr
  have h2 := h.x0
  have h3 := h.pl
  have h4 := h.bx.lt
  exact ⟨hs, h.own.trans ho, h.bx.keep ho.size (ho.block X h4 (by simp; omega)), h.br.keep ho.size (ho.block R (by omega) (by simp; omega)), h1, h2, h3, row_keepD h.row (fun k hk hl => ho.block k hl (by simp; omega))⟩
theorem CB.drew {a : Option Addr} {len cap : Nat} {g : Nat → Int} {p X R : Nat} {w0 w : World} {u v : Int} {l : List Int} {x : Value} {r : Bool} (h : CB a len cap g p X R w0 w u v l x r) : CB a len cap g p X R w0 w.drew u v l x r :=
  h.call (h.src.kept (fun _ _ => rfl)) (Ownp.refl p w).drew
/-- Behind an append onto the groups, stored. -/
theorem CB.grow {a : Option Addr} {len cap : Nat} {g : Nat → Int} {p X R : Nat} {w0 w w' : World} {u v : Int} {l l' : List Int} {x x' : Value} {r : Bool} (h : CB a len cap g p X R w0 w u v l x r) (hb : Below (X + 1) w w') (hs : w.heap.size ≤ w'.heap.size) (hr : w'.ownsRow (X + 1) 2 1 x' l'.length (ivD l')) : CB a len cap g p X R w0 (w'.setCell ⟨X, 2, none⟩ x') u v l' x' r := by
  have h1 := h.xr
  have h2 := h.x0
  have h3 := h.pl
  have h4 := h.bx.lt
  have hk : ∀ k, k ≤ X → w'.heap[k]? = w.heap[k]? := fun k hk => hb.block k (by omega)
  refine ⟨h.src.kept (fun k hk2 => (set_blockD w' X 2 k x' (by omega)).trans (hk k (by omega))), ⟨?_, ?_, ?_, ?_, ?_⟩, (h.bx.keep hs (hk X (Nat.le_refl _))).set2, ?_, h1, h2, h3, row_keepD hr (fun k hk2 _ => set_blockD w' X 2 k x' (by omega))⟩
  · exact hb.os.trans h.own.os
  · exact hb.tape.trans h.own.tape
  · exact hb.output.trans h.own.output
  · have := h.own.size
    simp
    omega
  · intro k hk2 hne
    exact (set_blockD w' X 2 k x' (by omega)).trans ((hk k (by omega)).trans (h.own.block k hk2 hne))
  · exact (h.br.keep hs (hk R (by omega))).keep (by simp) (set_blockD w' X 2 R x' (by omega))
theorem CB.set0 {a : Option Addr} {len cap : Nat} {g : Nat → Int} {p X R : Nat} {w0 w : World} {u v u' : Int} {l : List Int} {x : Value} {r : Bool} (h : CB a len cap g p X R w0 w u v l x r) : CB a len cap g p X R w0 (w.setCell ⟨X, 0, none⟩ (.int .i64 u')) u' v l x r := by
  have h1 := h.xr
  have h2 := h.x0
  have h3 := h.pl
  refine ⟨h.src.kept (fun k hk2 => set_blockD w X 0 k _ (by omega)), ⟨h.own.os, h.own.tape, h.own.output, by have := h.own.size; simpa using this, fun k hk2 hne => (set_blockD w X 0 k _ (by omega)).trans (h.own.block k hk2 hne)⟩, h.bx.set0, h.br.keep (by simp) (set_blockD w X 0 R _ (by omega)), h1, h2, h3, row_keepD h.row (fun k hk2 _ => set_blockD w X 0 k _ (by omega))⟩
set_option maxRecDepth 100000 in
set_option maxHeartbeats 4000000 in
/-- The draw of a Cred. -/
theorem drCred_any (a : Option Addr) (len cap : Nat) (g : Nat → Int) (p : Nat) (w : World) (hs : Src a len cap g p w) :
    Calls Tryd.prog 37 #[.pointer (some ⟨p, 0, none⟩)] w fun e w' => ∃ (u v : Int) (l : List Int) (x : Value) (r : Bool), e = .returned (.agg #[.int .i64 u, .int .i64 v, x, .bool r]) ∧ l.length ≤ 9 ∧ w'.ownsRow w.heap.size 2 1 x l.length (ivD l) ∧ Src a len cap g p w' ∧ Ownp p w w' := by
  have hp := hs.pos
  go_enter Tryd.func37, Tryd.ntmps37
  go_wp2_with fail
  refine (n_any a len cap g _ _ (by decide) _ (src_alloc hs _)).mono ?_
  rintro e w1 ⟨u, rfl, _, _, hs1, ho1⟩
  go_wp2_with fail
  refine (n_any a len cap g _ _ (by decide) _ hs1).mono ?_
  rintro e w2 ⟨v, rfl, _, _, hs2, ho2⟩
  go_wp2_with fail
  refine (one_any a len cap g _ _ (by decide) _ hs2).mono ?_
  rintro e w3 ⟨r, rfl, hs3, ho3⟩
  have hR0 := fr4_new w (.int .i64 0) (.int .i64 0) (.slice none 0 0) (.bool false) 25
  have ho := (ho1.trans ho2).trans ho3
  have hR3 := hR0.keep ho.size (ho.block w.heap.size (by simp) (by simp; omega))
  have hO3 : Ownp p w w3 := ((Ownp.refl p w).alloc _).trans ho
  have hCB : Hid (CB a len cap g p w3.heap.size w.heap.size w (w3.alloc (.cells #[.int .i64 u, .int .i64 v, .slice none 0 0, .bool r] 25)) u v [] (.slice none 0 0) r) := (by
    refine ⟨src_alloc hs3 _, hO3.alloc _, fr4_new w3 _ _ _ _ _, ?_, hR3.lt, Nat.le_refl _, hp, World.ownsRow_nil _ _ _ _⟩
    exact hR3.keep (by simp) ((World.grownBy_alloc w3 _ none).block _ hR3.lt (by simp)))
  clear ho hO3 hR0 hR3 ho1 ho2 ho3 hs1 hs2 hs3 hs
  go_upto_region 2 with fail
  generalize (w3.alloc (.cells #[.int .i64 u, .int .i64 v, .slice none 0 0, .bool r] 25)) = w4 at hCB ⊢
  generalize w3.heap.size = X at hCB ⊢
  go_wp2
  go_loopw [4] (fun i wr => ∃ (k : Nat) (l : List Int) (x : Value), k ≤ 6 ∧ l.length ≤ k ∧ i = .int .i64 k ∧ Hid (CB a len cap g p X w.heap.size w wr u v l x r)) (fun i _ => 6 - (intOf i).toNat)
  case atStart => exact ⟨0, [], _, by omega, by simp, rfl, hCB⟩
  case round =>
    obtain ⟨k, l, x, hk, hl, rfl, hC⟩ := hrel
    clear hCB
    by_cases hlt : k < 6
    · have hlt' : (k : Int) < 6 := by omega
      go_wp2_with fail
      refine (one_any a len cap g _ _ (by decide) _ hC.out.src).mono ?_
      rintro e wy ⟨t, rfl, hsy, hoy⟩
      have hCy : Hid (CB a len cap g p X w.heap.size w wy u v l x r) := hC.out.call hsy hoy
      clear hsy hoy hC
      cases t
      · go_wp2
        go_roundw
        case rel => exact ⟨k + 1, l, x, by omega, by omega, by go_num, hCy⟩
        case measure => simp [intOf]; omega
      · obtain ⟨v2, w2, hrr, hO2, hB2, hs2⟩ := append_numD (X + 1) wy x l hCy.out.row hCy.out.bx.lt (k : Int) (by omega)
        have q2 := hCy.out.bx.c2
        have r2 := (hCy.out.bx.keep hs2 (hB2.block X (by omega)))
        have r2c := r2.c2
        have r2f := r2.fz 2
        have q2a : (wy.alloc (.cells #[.int .i64 (k : Int)] 2)).cell? ⟨X, 2, none⟩ = some x := (World.cell?_of_block ((World.grownBy_alloc wy _ none).block X hCy.out.bx.lt (by simp))).trans q2
        have hCw : Hid (CB a len cap g p X w.heap.size w (w2.setCell ⟨X, 2, none⟩ v2) u v (l ++ [(k : Int)]) v2 r) := hCy.out.grow hB2 hs2 hO2
        obtain ⟨ga2, gc2, hv2⟩ := row_shapeD hO2
        generalize hL2 : (l ++ [(k : Int)]).length = L2 at hv2
        have hL3 : L2 ≤ k + 1 := by rw [← hL2]; simp; omega
        have hL4 : Hid ((l ++ [(k : Int)]).length ≤ k + 1) := (by show _ ≤ _; simp; omega)
        subst hv2
        have HRR : Hid _ := hrr
        clear hCy hO2 hB2 hs2 r2 hL2 hL3 hrr
        go_wp2_with (at_builtin; refine wpList_append_runD _ rfl (.tmp 19) (.tmp 21) 23 23 rfl _ _ _ _ rfl rfl HRR.out ?_)
        go_roundw
        case rel => exact ⟨k + 1, l ++ [(k : Int)], .slice ga2 L2 gc2, by omega, hL4.out, by go_num, hCw⟩
        case measure => simp [intOf]; omega
    · have : k = 6 := by omega
      subst this
      go_wp2_with fail
      refine (one_any a len cap g _ _ (by decide) _ hC.out.src).mono ?_
      rintro e wy ⟨t, rfl, hsy, hoy⟩
      have hCy : Hid (CB a len cap g p X w.heap.size w wy u v l x r) := hC.out.call hsy hoy
      clear hsy hoy hC
      go_upto_if 25 with fail
      go_cut [] (fun wx => ∃ (u : Int) (l : List Int) (x : Value), l.length ≤ 9 ∧ Hid (CB a len cap g p X w.heap.size w wx u v l x r))
      case first =>
        cases t
        · go_wp2
          go_meet
          exact ⟨u, l, x, by omega, hCy⟩
        · go_wp2_with fail
          refine (n_any a len cap g _ _ (by decide) _ hCy.out.src).mono ?_
          rintro e wn ⟨q, rfl, q1, q2, hsn, hon⟩
          have hCn : Hid (CB a len cap g p X w.heap.size w wn u v l x r) := hCy.out.call hsn hon
          clear hsn hon hCy
          by_cases e0 : q = 0
          · subst e0
            go_wp2_with fail
            refine (drId_any a len cap g _ _ hCn.out.src).mono ?_
            rintro e wi ⟨z, rfl, z1, z2, hsi, hoi⟩
            have hCi : Hid (CB a len cap g p X w.heap.size w wi u v l x r) := hCn.out.call hsi hoi
            have hCw : Hid (CB a len cap g p X w.heap.size w (wi.setCell ⟨X, 0, none⟩ (.int .i64 z)) z v l x r) := hCi.out.set0
            have c0 := hCi.out.bx.c0
            have f0 := hCi.out.bx.fz 0
            clear hsi hoi hCn hCi
            go_wp2
            go_meet
            exact ⟨z, l, x, by omega, hCw⟩
          · by_cases e1 : q = 1
            · subst e1
              have c2 := hCn.out.bx.c2
              have c2d : wn.drew.cell? ⟨X, 2, none⟩ = some x := c2
              have hCd : Hid (CB a len cap g p X w.heap.size w wn.drew u v l x r) := hCn.out.drew
              clear hCn
              go_upto_region 13 with fail
              go_region_law (first
                | refine step_append_runD rfl (.tmp 42) (.tmp 45) 23 rfl x (.slice (some ⟨wi.heap.size, 0, none⟩) 1 1) (.slice ga2 (l ++ [z]).length gc2) w2 (by simp [Act.eval]) (by simp [Act.eval]) HRR.out ?_
                | (go_simp; go_at_call 45; refine (drId_any a len cap g _ _ hCd.out.src).mono ?_; rintro e wi ⟨z, rfl, z1, z2, hsi, hoi⟩; have hCi := hCd.out.call hsi hoi; obtain ⟨v2, w2, hrr, hO2, hB2, hs2⟩ := append_numD (X + 1) wi x l hCi.row hCi.bx.lt z (by omega); obtain ⟨ga2, gc2, hv2⟩ := row_shapeD hO2; subst hv2; have d2 := hCi.bx.c2; have d2a : (wi.alloc (.cells #[.int .i64 z] 2)).cell? ⟨X, 2, none⟩ = some x := (World.cell?_of_block ((World.grownBy_alloc wi _ none).block X hCi.bx.lt (by simp))).trans d2; have r2 := (hCi.bx.keep hs2 (hB2.block X (by omega))); have r2c := r2.c2; have r2f := r2.fz 2; have hCw : Hid (CB a len cap g p X w.heap.size w (w2.setCell ⟨X, 2, none⟩ (.slice ga2 (l ++ [z]).length gc2)) u v (l ++ [z]) (.slice ga2 (l ++ [z]).length gc2) r) := hCi.grow hB2 hs2 hO2; have HRR : Hid ((Builtin.append_ #[23, 23] 23 #[x, .slice (some ⟨wi.heap.size, 0, none⟩) 1 1]).run Tryd.prog (wi.alloc (.cells #[.int .i64 z] 2)) = .ok (.slice ga2 (l ++ [z]).length gc2) w2) := hrr; clear hrr hO2 hB2 hs2 r2 hCi hsi hoi))
              all_goals
                have eL : (l ++ [z]).length = l.length + 1 := by simp
                have hL9 : Hid ((l ++ [z]).length ≤ 9) := (by show _ ≤ _; omega)
                rw [eL] at hCw
                go_wp2
                go_meet
                exact ⟨u, l ++ [z], _, hL9.out, hCw⟩
            · have hCl : Hid (CB a len cap g p X w.heap.size w (wn.alloc (.cells #[.int .i64 0, .int .i64 1, .int .i64 2, .int .i64 3, .int .i64 4, .int .i64 5, .int .i64 6, .int .i64 7, .int .i64 8] 2)) u v l x r) := hCn.out.call (src_alloc hCn.out.src _) ((Ownp.refl p wn).alloc _)
              have hbl := blk_new wn (.cells #[.int .i64 0, .int .i64 1, .int .i64 2, .int .i64 3, .int .i64 4, .int .i64 5, .int .i64 6, .int .i64 7, .int .i64 8] 2)
              have hXn := hCn.out.bx.lt
              have hpX : p < X := by have h1 := hCn.out.xr; have h2 := hCn.out.x0; omega
              clear hCn
              go_wp2_with fail
              refine (n_any a len cap g _ _ (by decide) _ hCl.out.src).mono ?_
              rintro e wi ⟨z, rfl, z1, z2, hsi, hoi⟩
              have hCi : Hid (CB a len cap g p X w.heap.size w wi u v l x r) := hCl.out.call hsi hoi
              have hbi : wi.heap[wn.heap.size]? = some (.cells #[.int .i64 0, .int .i64 1, .int .i64 2, .int .i64 3, .int .i64 4, .int .i64 5, .int .i64 6, .int .i64 7, .int .i64 8] 2) := (hoi.block wn.heap.size (by simp) (by simp; omega)).trans hbl
              have hW : Hid (∀ l' : List Int, 8 ≤ l'.length → l'.length ≤ 9 → l' = ([0, 1, 2, 3, 4, 5, 6, 7, 8] : List Int).take l'.length → CB a len cap g p X w.heap.size w (wi.setCell ⟨X, 2, none⟩ (.slice (some ⟨wn.heap.size, 0, none⟩) l'.length 9)) u v l' (.slice (some ⟨wn.heap.size, 0, none⟩) l'.length 9) r) := (fun l' h8 h9 he => by
                refine hCi.out.grow (Below.refl _ _) (Nat.le_refl _) ?_
                refine ⟨by simp [ivD], .inr ⟨wn.heap.size, 9, #[.int .i64 0, .int .i64 1, .int .i64 2, .int .i64 3, .int .i64 4, .int .i64 5, .int .i64 6, .int .i64 7, .int .i64 8], rfl, by omega, hbi, h9, by decide, by decide, ?_⟩⟩
                rw [he]
                simp [ivD, List.map_take])
              have c2 := hCi.out.bx.c2
              have f2 := hCi.out.bx.fz 2
              clear hCl hbl hsi hoi hCi hbi
              rcases (show z = 0 ∨ z = 1 by omega) with rfl | rfl
              · have hw := hW.out [0, 1, 2, 3, 4, 5, 6, 7] (by decide) (by decide) (by decide)
                have hw2 : Hid _ := hw
                clear hw hW
                go_wp2
                go_meet
                exact ⟨u, _, _, by decide, hw2⟩
              · have hw := hW.out [0, 1, 2, 3, 4, 5, 6, 7, 8] (by decide) (by decide) (by decide)
                have hw2 : Hid _ := hw
                clear hw hW
                go_wp2
                go_meet
                exact ⟨u, _, _, by decide, hw2⟩
      case rest =>
        clear hCy hl
        obtain ⟨u1, l1, x1, hl1, hC1⟩ := hcut
        obtain ⟨d0, d1, d2, d3⟩ : _ ∧ _ ∧ _ ∧ _ := ⟨hC1.out.bx.c0, hC1.out.bx.c1, hC1.out.bx.c2, hC1.out.bx.c3⟩
        obtain ⟨ga, gc, hx1⟩ := row_shapeD hC1.out.row
        subst hx1
        have HF : Hid (Fr4 ((((wc.setCell ⟨w.heap.size, 0, none⟩ (.int .i64 u1)).setCell ⟨w.heap.size, 1, none⟩ (.int .i64 v)).setCell ⟨w.heap.size, 2, none⟩ (.slice ga l1.length gc)).setCell ⟨w.heap.size, 3, none⟩ (.bool r)) w.heap.size (.int .i64 u1) (.int .i64 v) (.slice ga l1.length gc) (.bool r)) := hC1.out.br.sets _ _ _ _
        obtain ⟨xl, x0, x1, x2, x3, xf⟩ := hC1.out.br
        have f0 := xf 0
        have f1 := xf 1
        have f2 := xf 2
        have f3 := xf 3
        have hne := hC1.out.xr
        have hne2 : ¬ X = w.heap.size := by omega
        clear xf
        go_wp2
        refine bodyPost_ret (v := .agg #[.int .i64 u1, .int .i64 v, .slice ga l1.length gc, .bool r]) (by
          obtain ⟨yl, y0, y1, y2, y3, yf⟩ := HF.out
          clear x0 x1 x2 x3 f0 f1 f2 f3 d0 d1 d2 d3
          generalize World.setCell _ _ _ = wf at y0 y1 y2 y3 ⊢
          simp [results, Tryd.results37, go_sem, y0, y1, y2, y3]) rfl ⟨u1, v, l1, .slice ga l1.length gc, r, rfl, hl1, ?_, ?_, ?_⟩
        · refine row_fromD ?_ (show w.heap.size ≤ X + 1 by omega)
          iterate 4 (refine row_keepD ?_ (fun k hk _ => set_blockD _ _ _ k _ (by omega)))
          exact hC1.out.row
        · iterate 4 (refine Src.kept ?_ (fun k hk => set_blockD _ _ _ k _ (by omega)))
          exact hC1.out.src
        · have ho := hC1.out.own
          exact ⟨ho.os, ho.tape, ho.output, by have := ho.size; simpa using this, fun k hk hne => by
            iterate 4 (rw [set_blockD _ _ _ k _ (by omega)])
            exact ho.block k hk hne⟩
/-- A drawn Cred, and where its groups lie. -/
def CredIs (B : Nat) (w : World) (c : Value) (u v : Int) (l : List Int) (ga : Option Addr) (gc : Nat) (r : Bool) : Prop := c = .agg #[.int .i64 u, .int .i64 v, .slice ga l.length gc, .bool r] ∧ l.length ≤ 9 ∧ w.ownsRow B 2 1 (.slice ga l.length gc) l.length (ivD l)
theorem Code.up {a : Option Addr} {len : Nat} {g : Nat → Int} {w w' : World} (h : Code a len g w.heap.size w) (hb : Below w.heap.size w w') : Code a len g w'.heap.size w' := by
  have h1 := h.below hb
  have hs := hb.size
  exact ⟨h1.1, h1.2.1, fun hl => by
    obtain ⟨b, off, e, hlt, hc⟩ := h1.2.2 hl
    exact ⟨b, off, e, by omega, hc⟩⟩
theorem Fr4.below {w w' : World} {B : Nat} {v0 v1 v2 v3 : Value} (h : Fr4 w B v0 v1 v2 v3) (hb : Below w.heap.size w w') : Fr4 w' B v0 v1 v2 v3 := h.keep hb.size (hb.block B h.lt)
theorem bel_allocD (w : World) (o : Obj) : Below w.heap.size w (w.alloc o) := (Below.refl _ _).alloc (Nat.le_refl _) _
theorem setD {B b o : Nat} {W w1 : World} {x : Value} (hb : Below B W w1) (h : B ≤ b) : Below B W (w1.setCell ⟨b, o, none⟩ x) := hb.setCell h _
/-- The number at a place. -/
def atD (l : List Int) (i : Nat) : Int := l.getD i 0
theorem own_intsD {w : World} {B : Nat} {t : TypeId} {a : Option Addr} {c : Nat} {l : List Int} (h : w.ownsRow B t 1 (.slice a l.length c) l.length (ivD l)) : Ints a l.length (atD l) w := by
  obtain ⟨_, ⟨q1, hn⟩ | ⟨g, cap, cur, q1, hb, hg, hc, _, hs, ht⟩⟩ := h
  · exact fun h0 => absurd h0 (by omega)
  · cases q1
    have hlt : g < w.heap.size := (Array.getElem?_eq_some_iff.1 hg).1
    refine fun _ => ⟨g, 0, rfl, hlt, fun i hi => ?_⟩
    have hj2 : (ivD l)[i]? = some (.int .i64 (atD l i)) := by simp [ivD, atD, List.getElem?_eq_getElem hi, List.getD]
    rw [← ht, List.getElem?_take_of_lt (by omega)] at hj2
    have : w.cell? ⟨g, 0 + i, none⟩ = cur[i]? := by simp [World.cell?, hg]
    rw [this]
    simpa using hj2
theorem Src.belowD {a : Option Addr} {len cap : Nat} {g : Nat → Int} {p : Nat} {w w' : World} (h : Src a len cap g p w) (hb : Below w.heap.size w w') : Src a len cap g p w' :=
  h.kept (fun k hk => hb.block k (Nat.lt_of_le_of_lt hk h.pos))
end Go.Proofs.YtgooanaacebncaaDoor
