/- Laid together: StepA, DrawAclP, TxR. -/
import Derived.Laws.MakeOwn
import Derived.OwnWalk
import Derived.Deep.RegionHeld3
import Derived.Test.YtgooanaacebncaaGreatDoorAT21
/- The builtin append, by what it runs to; worlds that drew. -/
namespace Go.Proofs.YtgooanaacebncaaGreatDoor
open Go.RowKit Go.PlainAid Go.Deep
set_option linter.unusedVariables false
/-- The builtin append, by what it runs to. -/
theorem wpList_append_runT {P : Program} (w : World) {ops : Array Oper} {rest : List Oper} {o : Oper} {a : Act} {Q : Exit → Act → World → Prop} (hgd : o.guard = none) (s x : Operand) (t tx : TypeId)
    (ho : o.op = .call { callee := .builtin .append, args := #[s, x], argTypes := #[t, tx] }) (v xv v' : Value) (w' : World) (hs : a.eval s = v) (hx : a.eval x = xv)
    (hr : (Builtin.append_ #[t, tx] o.type #[v, xv]).run P w = .ok v' w') (h : wpList P ops Q rest (a.put o.dst v') w') : wpList P ops Q (o :: rest) a w :=
  wpList_plain hgd fun _ hK => by
    unfold Oper.wp execOp
    simp only [ho, resolve, invoke, builtin, Sem.run_bind, Sem.run_pure, Result.andThen_ok, List.map_toArray, List.map_cons, List.map_nil, hs, hx, hr]
    exact hK _ _ h
theorem bdC {B : Nat} {w w' : World} (h : Below B w w') : Below B w w'.drew := h.trans ⟨rfl, rfl, rfl, Nat.le_refl _, fun _ _ => rfl⟩
theorem bdZ {w w' : World} (h : Below w.drew.heap.size w.drew w') : Below w.heap.size w w' := ⟨h.os, h.tape, h.output, h.size, h.block⟩
/-- append as one step of a region that draws, by what it runs to. -/
theorem step_append_run {P : Program} {ops : Array Oper} {o : Oper} {a : Act} {w : World} {K : Act → World → Prop} {Q : Exit → Act → World → Prop} {E : Prop}
    (hg : o.guard = none) (s x : Operand) (t : TypeId) (hop : o.op = Op.call { callee := Callee.builtin Builtin.append, args := #[s, x], argTypes := #[t, t] })
    (v xv v' : Value) (w' : World) (hs : a.eval s = v) (hx : a.eval x = xv) (hr : (Builtin.append_ #[t, t] o.type #[v, xv]).run P w = .ok v' w')
    (hK : K (a.put o.dst v') w') :
    if Region.wanted o (yielded ops a.tmps) = true then Oper.wp P o a w K Q else E := by
  have hw : Region.wanted o (yielded ops a.tmps) = true := by simp [Region.wanted, hg]
  rw [if_pos hw]
  unfold Oper.wp
  simp [execOp, hop, resolve, invoke, builtin, hs, hx, hr, Result.andThen]
  exact hK
variable {a : Option Addr} {len cap : Nat} {g : Nat → Int} {p X R Y : Nat} {w0 w w' : World} {A : Al} {aU : Option Addr} {cU : Nat} {aG : Option Addr} {cG : Nat}
theorem below_cut (w : World) (B : Nat) (h : B ≤ w.heap.size) : Below ({ w with heap := w.heap.extract 0 B } : World).heap.size { w with heap := w.heap.extract 0 B } w := by
  refine ⟨rfl, rfl, rfl, by simp; omega, fun k hk => ?_⟩
  have hk2 : k < B := by simpa using Nat.lt_of_lt_of_le hk (by simp; omega)
  show w.heap[k]? = (w.heap.extract 0 B)[k]?
  rw [Array.getElem?_extract]
  simp
  omega
theorem cut_size (w : World) (B : Nat) (h : B ≤ w.heap.size) : ({ w with heap := w.heap.extract 0 B } : World).heap.size = B := by simp; omega
set_option maxHeartbeats 1000000 in
/-- append of one pair to the users. -/
theorem DA.app (h : DA a len cap g p X R w0 w A aU cU aG cG) (x y : Int) (hl : A.us.length ≤ 1000000) :
    ∃ a' c' w', (Builtin.append_ #[23, 23] 23 #[.slice aU A.us.length cU, .slice (some ⟨w.heap.size, 0, none⟩) 1 1]).run Tryz.prog (w.alloc (.cells #[.int .i64 x, .int .i64 y] 45)) = .ok (.slice a' (A.us.length + 1) c') w' ∧
      Box7 w' X (.int .i64 A.u) (.int .i64 A.g) (.int .i64 A.o) (.slice aU A.us.length cU) (.slice aG A.gs.length cG) (.bool A.r) (.int .i64 A.m) ∧ (∀ o, w'.frozen? ⟨X, o, none⟩ = false) ∧
      DA a len cap g p X R w0 (w'.setCell ⟨X, 3, none⟩ (.slice a' (A.us.length + 1) c')) { A with us := A.us ++ [(x, y)] } a' c' aG cG := by
  have q1 := h.xr
  have q2 := h.x0
  have q3 := h.pl
  have q4 := h.own.size
  have hB := below_cut w w0.heap.size q4
  have hrow := row_of_room (B := w0.heap.size) h.ru.own h.ru.room h.ru.le (fun B e => (h.ru.inn B e).1)
  rw [← cut_size w w0.heap.size q4] at hrow
  obtain ⟨v', w', hr, ho, hb, hsz, hk, hid⟩ := append_pair _ w _ A.us hrow hB x y hl
  have hrm : ∀ a' n' c', v' = .slice a' n' c' → Room w' a' c' ∧ n' ≤ c' := fun a' n' c' e => by
    subst e
    refine ⟨room_of_row ho, ?_⟩
    obtain ⟨_, ⟨h1, hn⟩ | ⟨g1, cap1, cur1, h1, _, _, hc1, _, _, _⟩⟩ := ho
    · cases h1; exact Nat.le_refl _
    · cases h1; exact hc1
  obtain ⟨a', c', rfl, hown, hin⟩ := own_of_row ho
  obtain ⟨hroom, hle⟩ := hrm _ _ _ rfl
  have el : (A.us ++ [(x, y)]).length = A.us.length + 1 := by simp
  have hbl : ∀ b, b < w.heap.size → (∀ B, aU = some B → B.block ≠ b) → w'.heap[b]? = w.heap[b]? := fun b hlt hne => hk b hlt (fun e => by
    cases aU with
    | none => simp [Value.ownBlock] at e
    | some B => exact hne B rfl (by simpa [Value.ownBlock] using e))
  have hidb : ∀ B', a' = some B' → (∃ B, aU = some B ∧ B.block = B'.block) ∨ w.heap.size ≤ B'.block := fun B' e => by
    subst e
    rcases hid B'.block rfl with h1 | h1
    · cases aU with
      | none => simp [Value.ownBlock] at h1
      | some B => exact .inl ⟨B, rfl, by simpa [Value.ownBlock] using h1⟩
    · exact .inr h1
  rw [el] at hr hown hle
  have hu : RwA w0 w' X R a' c' (A.us ++ [(x, y)]) := ⟨by rw [el]; exact hown, hroom, by rw [el]; exact hle, fun B' e => by
    rcases hidb B' e with ⟨B, eB, hBB⟩ | h1
    · have := h.ru.inn B eB
      exact ⟨by omega, by omega, by omega, by omega⟩
    · have := (hin B' e).2
      have := h.x.lt
      exact ⟨by omega, by omega, by omega, by omega⟩⟩
  have hXU : ∀ B, aU = some B → B.block ≠ X := fun B e => (h.ru.inn B e).2.1
  have hRU : ∀ B, aU = some B → B.block ≠ R := fun B e => (h.ru.inn B e).2.2.1
  have hbX := hbl X h.x.lt hXU
  have hbR := hbl R h.r.lt hRU
  have hx' := h.x.keep (Nat.lt_of_lt_of_le h.x.lt hsz) (fun o => World.cell?_of_block hbX)
  have hlow : ∀ k, k < w0.heap.size → w'.heap[k]? = w.heap[k]? := fun k hk2 => hbl k (by omega) (fun B e => by have := (h.ru.inn B e).1; omega)
  have hg : RwA w0 w' X R aG cG A.gs := h.rg.keep hsz (fun B e => hbl _ (h.rg.inn B e).2.2.2 (fun B2 e2 => h.ne B2 B e2 e))
  have hne : ∀ A1 A2, a' = some A1 → aG = some A2 → A1.block ≠ A2.block := fun A1 A2 e1 e2 => by
    rcases hidb A1 e1 with ⟨B, eB, hBB⟩ | h1
    · rw [← hBB]
      exact h.ne B A2 eB e2
    · have := (h.rg.inn A2 e2).2.2.2
      omega
  have hos : Ownp p w0 w' := ⟨hb.os.trans h.own.os, hb.tape.trans h.own.tape, hb.output.trans h.own.output, Nat.le_trans q4 hsz, fun k hk2 hne2 => (hlow k hk2).trans (h.own.block k hk2 hne2)⟩
  have hfx : ∀ o, w'.frozen? ⟨X, o, none⟩ = false := fun o => (World.frozen?_of_block hbX).trans (h.fx o)
  have hfr : ∀ o, w'.frozen? ⟨R, o, none⟩ = false := fun o => (World.frozen?_of_block hbR).trans (h.fr o)
  have hsrc : Src a len cap g p w' := h.src.kept (fun k hk2 => hlow k (by omega))
  have hr' := h.r.keep (Nat.lt_of_lt_of_le h.r.lt hsz) (fun o => World.cell?_of_block hbR)
  refine ⟨a', c', w', hr, hx', hfx, ?_⟩
  have hz : w'.heap.size ≤ (w'.setCell ⟨X, 3, none⟩ (.slice a' (A.us.length + 1) c')).heap.size := by simp
  have hx2 : Box7 (w'.setCell ⟨X, 3, none⟩ (.slice a' (A.us.length + 1) c')) X (.int .i64 A.u) (.int .i64 A.g) (.int .i64 A.o) (.slice a' (A.us ++ [(x, y)]).length c') (.slice aG A.gs.length cG) (.bool A.r) (.int .i64 A.m) := by rw [el]; exact hx'.set3
  exact ⟨hsrc.kept (fun k hk2 => setA_block w' X 3 k _ (by omega)), OwnpA.set hos (by omega) _, hx2, hr'.other (by omega), fun o2 => by rw [World.frozen?_setCell]; exact hfx o2, fun o2 => by rw [World.frozen?_setCell]; exact hfr o2, q1, q2, q3, hu.keep hz (fun B e => setA_block w' X 3 _ _ (hu.inn B e).2.1), hg.keep hz (fun B e => setA_block w' X 3 _ _ (hg.inn B e).2.1), hne⟩
/-- The answer's box is written. -/
theorem DA.done (h : DA a len cap g p X R w0 w A aU cU aG cG) (h1 : A.us.length ≤ 7) (h2 : A.gs.length ≤ 6) {v0 v1 v2 v3 v4 v5 v6 : Value} :
    Src a len cap g p (set7A w R v0 v1 v2 v3 v4 v5 v6) ∧ Ownp p w0 (set7A w R v0 v1 v2 v3 v4 v5 v6) ∧ (∃ X R', RwA w0 (set7A w R v0 v1 v2 v3 v4 v5 v6) X R' aU cU A.us ∧ RwA w0 (set7A w R v0 v1 v2 v3 v4 v5 v6) X R' aG cG A.gs) ∧ (∀ A1 A2, aU = some A1 → aG = some A2 → A1.block ≠ A2.block) ∧ A.us.length ≤ 7 ∧ A.gs.length ≤ 6 := by
  have q1 := h.xr
  have q2 := h.x0
  have q3 := h.pl
  have hb : ∀ k, k ≠ R → (set7A w R v0 v1 v2 v3 v4 v5 v6).heap[k]? = w.heap[k]? := fun k hk => set7A_block w R k _ _ _ _ _ _ _ hk
  have hz := set7A_size w R v0 v1 v2 v3 v4 v5 v6
  have hos := ownp_set7 h.own q2 v0 v1 v2 v3 v4 v5 v6
  exact ⟨h.src.kept (fun k hk => hb k (by omega)), hos, ⟨X, R, h.ru.keep (by rw [hz]; exact Nat.le_refl _) (fun B e => hb _ (h.ru.inn B e).2.2.1), h.rg.keep (by rw [hz]; exact Nat.le_refl _) (fun B e => hb _ (h.rg.inn B e).2.2.1)⟩, h.ne, h1, h2⟩
theorem infoStr : (Tryz.prog.info? 9).map (fun i => (i.zero, i.size, i.bytes)) = some (some (.string ⟨#[]⟩), 1, 16) := by kernel_rfl
/-- Texts as values. -/
def tv (l : List ByteArray) : List Value := l.map Value.string
theorem tv_snoc (l : List ByteArray) (x : ByteArray) : tv (l ++ [x]) = tv l ++ [.string x] := by simp [tv]
theorem one_text (x : ByteArray) : ∀ u ∈ [Value.string x], u.oneCell' = true := by
  intro u hu
  simp at hu
  subst hu
  rfl
theorem text_new (w : World) (x : ByteArray) (t : TypeId) : ∀ j u, [Value.string x][j]? = some u → (w.alloc (.cells #[.string x] t)).cell? ((⟨w.heap.size, 0, none⟩ : Addr).add j) = some u := by
  intro j u hj
  have hb : (w.alloc (.cells #[.string x] t)).heap[w.heap.size]? = some (.cells #[.string x] t) := by
    rw [World.alloc]
    exact Array.getElem?_push_size
  cases j with
  | zero =>
    simp at hj
    subst hj
    have e : (⟨w.heap.size, 0, none⟩ : Addr).add 0 = ⟨w.heap.size, 0, none⟩ := by simp [Addr.add]
    rw [e]
    simp only [World.cell?, hb]
    rfl
  | succ j => simp at hj
theorem own_blockT {w : World} {B : Nat} {t : TypeId} {v : Value} {n : Nat} {xs : List Value} (h : w.ownsRow B t 1 v n xs) : ∀ k, v.ownBlock = some k → B ≤ k := by
  obtain ⟨_, ⟨rfl, _⟩ | ⟨g, cap, cur, rfl, hb, _⟩⟩ := h
  · intro k hk; simp [Value.ownBlock] at hk
  · intro k hk; simp [Value.ownBlock] at hk; omega
theorem rowT_below {w w' : World} {B : Nat} {t : TypeId} {v : Value} {n : Nat} {xs : List Value} (h : w.ownsRow B t 1 v n xs) (hb : Below w.heap.size w w') : w'.ownsRow B t 1 v n xs := by
  obtain ⟨h0, ⟨rfl, hn⟩ | ⟨g, cap, cur, rfl, hB, hg, hc, hm, hs, ht⟩⟩ := h
  · exact ⟨h0, .inl ⟨rfl, hn⟩⟩
  · have hlt : g < w.heap.size := (Array.getElem?_eq_some_iff.1 hg).1
    exact ⟨h0, .inr ⟨g, cap, cur, rfl, hB, (hb.block g hlt).trans hg, hc, hm, hs, ht⟩⟩
/-- A row of texts that is owned, by its cells. -/
theorem own_texts {w : World} {B : Nat} {t : TypeId} {v : Value} {l : List ByteArray} (h : w.ownsRow B t 1 v l.length (tv l)) :
    ∃ a c, v = .slice a l.length c ∧ l.length ≤ c ∧ (0 < l.length → ∃ b, a = some ⟨b, 0, none⟩ ∧ b < w.heap.size ∧ ∀ (j : Nat) x, l[j]? = some x → w.cell? ⟨b, 0 + j, none⟩ = some (.string x)) := by
  obtain ⟨_, ⟨rfl, hn⟩ | ⟨g, cap, cur, rfl, hb, hg, hc, _, hs, ht⟩⟩ := h
  · exact ⟨none, 0, by rw [hn], by omega, fun h => absurd h (by omega)⟩
  · have hlt : g < w.heap.size := (Array.getElem?_eq_some_iff.1 hg).1
    refine ⟨some ⟨g, 0, none⟩, cap, rfl, hc, fun _ => ⟨g, rfl, hlt, fun j x hj => ?_⟩⟩
    have hj2 : (tv l)[j]? = some (.string x) := by simp [tv, hj]
    have hjl : j < l.length := (List.getElem?_eq_some_iff.1 hj).1
    rw [← ht, List.getElem?_take_of_lt (by omega)] at hj2
    have : w.cell? ⟨g, 0 + j, none⟩ = cur[j]? := by simp [World.cell?, hg]
    rw [this]
    simpa using hj2
/-- append of one text onto a row that was owned ahead of the text's making. -/
theorem append_text (w0 w : World) (v : Value) (l : List ByteArray) (hown : w.ownsRow w0.heap.size 9 1 v l.length (tv l)) (hB : Below w0.heap.size w0 w) (x : ByteArray) (hsm : l.length ≤ 100000000) :
    ∃ v' w', (Builtin.append_ #[40, 40] 40 #[v, .slice (some ⟨w.heap.size, 0, none⟩) 1 1]).run Tryz.prog (w.alloc (.cells #[.string x] 9)) = .ok v' w' ∧ w'.ownsRow w0.heap.size 9 1 v' (l ++ [x]).length (tv (l ++ [x])) ∧ Below w0.heap.size w0 w' := by
  obtain ⟨i, hi, hzz⟩ := Option.map_eq_some_iff.1 infoStr
  simp only [Prod.mk.injEq] at hzz
  obtain ⟨hz, hs, hb⟩ := hzz
  have hb1 := bel_alloc w (.cells #[.string x] 9)
  have hB1 := Below.on hB hb1
  have hown1 := rowT_below hown hb1
  obtain ⟨v', w', hr, h1, h2, _⟩ := run_append_own (P := Tryz.prog) _ w0.heap.size 40 40 9 i _ 1 16 Tryz.underlying40 hi hz hs hb rfl (by decide) v l.length (tv l) hown1 ⟨w.heap.size, 0, none⟩ 1 1 [.string x] rfl (text_new w x _) (one_text x) (by unfold maxLen; omega) (by omega) hB1.size
  refine ⟨v', w', hr, ?_, hB1.grown h2 hB1.size (own_blockT hown1)⟩
  rw [tv_snoc, List.length_append]
  exact h1
end Go.Proofs.YtgooanaacebncaaGreatDoor
