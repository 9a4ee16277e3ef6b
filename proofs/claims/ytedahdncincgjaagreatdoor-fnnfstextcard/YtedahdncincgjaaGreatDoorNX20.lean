/- Laid together: StepA, DrawAclP, TxR, SplitM. -/
import Derived.Laws.MakeOwn
import Derived.OwnWalk
import Derived.Deep.RegionHeld3
import Derived.Test.YtedahdncincgjaaGreatDoorNX19
/- The builtin append, by what it runs to; worlds that drew. -/
namespace Go.Proofs.YtedahdncincgjaaGreatDoor
open Go.RowKit Go.PlainAid Go.Deep
set_option linter.unusedVariables false
/-- The builtin append, by what it runs to. -/
theorem wpList_append_runT {P : Program} (w : World) {ops : Array Oper} {rest : List Oper} {o : Oper} {a : Act} {Q : Exit → Act → World → Prop} (hgd : o.guard = none) (s x : Operand) (t tx : TypeId)
    (ho : o.op = .call { callee := .builtin .append, args := #[s, x], argTypes := #[t, tx] }) (v xv v' : Value) (w' : World) (hs : a.eval s = v) (hx : a.eval x = xv)
    (hr : (Builtin.append_ #[t, tx] o.type #[v, xv]).run P w = .ok v' w') (h : wpList P ops Q rest (a.put o.dst v') w') : wpList P ops Q (o :: rest) a w :=
  wpList_plain hgd fun _ hK => by
    unfold Oper.wp execOp
    simp only [ho, resolve, invoke, builtin, Sem.run_bind, Sem.run_pure, Result.andThen_ok, List.map_toArray, List.map_cons, List.map_nil, hs, hx, hr]
    exact hK _ _ h
theorem bdC {B : Nat} {w w' : World} (h : Below B w w') : Below B w w'.drew := h.trans ⟨rfl, rfl, rfl, Nat.le_refl _, fun _ _ => rfl⟩
theorem bdZ {w w' : World} (h : Below w.drew.heap.size w.drew w') : Below w.heap.size w w' := ⟨h.os, h.tape, h.output, h.size, h.block⟩
/-- append as one step of a region that draws, by what it runs to. -/
theorem step_append_run {P : Program} {ops : Array Oper} {o : Oper} {a : Act} {w : World} {K : Act → World → Prop} {Q : Exit → Act → World → Prop} {E : Prop}
    (hg : o.guard = none) (s x : Operand) (t : TypeId) (hop : o.op = Op.call { callee := Callee.builtin Builtin.append, args := #[s, x], argTypes := #[t, t] })
    (v xv v' : Value) (w' : World) (hs : a.eval s = v) (hx : a.eval x = xv) (hr : (Builtin.append_ #[t, t] o.type #[v, xv]).run P w = .ok v' w')
    (hK : K (a.put o.dst v') w') :
    if Region.wanted o (yielded ops a.tmps) = true then Oper.wp P o a w K Q else E := by
  have hw : Region.wanted o (yielded ops a.tmps) = true := by simp [Region.wanted, hg]
  rw [if_pos hw]
  unfold Oper.wp
  simp [execOp, hop, resolve, invoke, builtin, hs, hx, hr, Result.andThen]
  exact hK
variable {a : Option Addr} {len cap : Nat} {g : Nat → Int} {p X R Y : Nat} {w0 w w' : World} {A : Al} {aU : Option Addr} {cU : Nat} {aG : Option Addr} {cG : Nat}
theorem below_cut (w : World) (B : Nat) (h : B ≤ w.heap.size) : Below ({ w with heap := w.heap.extract 0 B } : World).heap.size { w with heap := w.heap.extract 0 B } w := by
  refine ⟨rfl, rfl, rfl, by simp; omega, fun k hk => ?_⟩
  have hk2 : k < B := by simpa using Nat.lt_of_lt_of_le hk (by simp; omega)
  show w.heap[k]? = (w.heap.extract 0 B)[k]?
  rw [Array.getElem?_extract]
  simp
  omega
theorem cut_size (w : World) (B : Nat) (h : B ≤ w.heap.size) : ({ w with heap := w.heap.extract 0 B } : World).heap.size = B := by simp; omega
set_option maxHeartbeats 1000000 in
/-- append of one pair to the users. -/
theorem DA.app (h : DA a len cap g p X R w0 w A aU cU aG cG) (x y : Int) (hl : A.us.length ≤ 1000000) :
    ∃ a' c' w', (Builtin.append_ #[81, 81] 81 #[.slice aU A.us.length cU, .slice (some ⟨w.heap.size, 0, none⟩) 1 1]).run Tryz.prog (w.alloc (.cells #[.int .i64 x, .int .i64 y] 116)) = .ok (.slice a' (A.us.length + 1) c') w' ∧
      Box7 w' X (.int .i64 A.u) (.int .i64 A.g) (.int .i64 A.o) (.slice aU A.us.length cU) (.slice aG A.gs.length cG) (.bool A.r) (.int .i64 A.m) ∧ (∀ o, w'.frozen? ⟨X, o, none⟩ = false) ∧
      DA a len cap g p X R w0 (w'.setCell ⟨X, 3, none⟩ (.slice a' (A.us.length + 1) c')) { A with us := A.us ++ [(x, y)] } a' c' aG cG := by
  have q1 := h.xr
  have q2 := h.x0
  have q3 := h.pl
  have q4 := h.own.size
  have hB := below_cut w w0.heap.size q4
  have hrow := row_of_room (B := w0.heap.size) h.ru.own h.ru.room h.ru.le (fun B e => (h.ru.inn B e).1)
  rw [← cut_size w w0.heap.size q4] at hrow
  obtain ⟨v', w', hr, ho, hb, hsz, hk, hid⟩ := append_pair _ w _ A.us hrow hB x y hl
  have hrm : ∀ a' n' c', v' = .slice a' n' c' → Room w' a' c' ∧ n' ≤ c' := fun a' n' c' e => by
    subst e
    refine ⟨room_of_row ho, ?_⟩
    obtain ⟨_, ⟨h1, hn⟩ | ⟨g1, cap1, cur1, h1, _, _, hc1, _, _, _⟩⟩ := ho
    · cases h1; exact Nat.le_refl _
    · cases h1; exact hc1
  obtain ⟨a', c', rfl, hown, hin⟩ := own_of_row ho
  obtain ⟨hroom, hle⟩ := hrm _ _ _ rfl
  have el : (A.us ++ [(x, y)]).length = A.us.length + 1 := by simp
  have hbl : ∀ b, b < w.heap.size → (∀ B, aU = some B → B.block ≠ b) → w'.heap[b]? = w.heap[b]? := fun b hlt hne => hk b hlt (fun e => by
    cases aU with
    | none => simp [Value.ownBlock] at e
    | some B => exact hne B rfl (by simpa [Value.ownBlock] using e))
  have hidb : ∀ B', a' = some B' → (∃ B, aU = some B ∧ B.block = B'.block) ∨ w.heap.size ≤ B'.block := fun B' e => by
    subst e
    rcases hid B'.block rfl with h1 | h1
    · cases aU with
      | none => simp [Value.ownBlock] at h1
      | some B => exact .inl ⟨B, rfl, by simpa [Value.ownBlock] using h1⟩
    · exact .inr h1
  rw [el] at hr hown hle
  have hu : RwA w0 w' X R a' c' (A.us ++ [(x, y)]) := ⟨by rw [el]; exact hown, hroom, by rw [el]; exact hle, fun B' e => by
    rcases hidb B' e with ⟨B, eB, hBB⟩ | h1
    · have := h.ru.inn B eB
      exact ⟨by omega, by omega, by omega, by omega⟩
    · have := (hin B' e).2
      have := h.x.lt
      exact ⟨by omega, by omega, by omega, by omega⟩⟩
  have hXU : ∀ B, aU = some B → B.block ≠ X := fun B e => (h.ru.inn B e).2.1
  have hRU : ∀ B, aU = some B → B.block ≠ R := fun B e => (h.ru.inn B e).2.2.1
  have hbX := hbl X h.x.lt hXU
  have hbR := hbl R h.r.lt hRU
  have hx' := h.x.keep (Nat.lt_of_lt_of_le h.x.lt hsz) (fun o => World.cell?_of_block hbX)
  have hlow : ∀ k, k < w0.heap.size → w'.heap[k]? = w.heap[k]? := fun k hk2 => hbl k (by omega) (fun B e => by have := (h.ru.inn B e).1; omega)
  have hg : RwA w0 w' X R aG cG A.gs := h.rg.keep hsz (fun B e => hbl _ (h.rg.inn B e).2.2.2 (fun B2 e2 => h.ne B2 B e2 e))
  have hne : ∀ A1 A2, a' = some A1 → aG = some A2 → A1.block ≠ A2.block := fun A1 A2 e1 e2 => by
    rcases hidb A1 e1 with ⟨B, eB, hBB⟩ | h1
    · rw [← hBB]
      exact h.ne B A2 eB e2
    · have := (h.rg.inn A2 e2).2.2.2
      omega
  have hos : Ownp p w0 w' := ⟨hb.os.trans h.own.os, hb.tape.trans h.own.tape, hb.output.trans h.own.output, Nat.le_trans q4 hsz, fun k hk2 hne2 => (hlow k hk2).trans (h.own.block k hk2 hne2)⟩
  have hfx : ∀ o, w'.frozen? ⟨X, o, none⟩ = false := fun o => (World.frozen?_of_block hbX).trans (h.fx o)
  have hfr : ∀ o, w'.frozen? ⟨R, o, none⟩ = false := fun o => (World.frozen?_of_block hbR).trans (h.fr o)
  have hsrc : Src a len cap g p w' := h.src.kept (fun k hk2 => hlow k (by omega))
  have hr' := h.r.keep (Nat.lt_of_lt_of_le h.r.lt hsz) (fun o => World.cell?_of_block hbR)
  refine ⟨a', c', w', hr, hx', hfx, ?_⟩
  have hz : w'.heap.size ≤ (w'.setCell ⟨X, 3, none⟩ (.slice a' (A.us.length + 1) c')).heap.size := by simp
  have hx2 : Box7 (w'.setCell ⟨X, 3, none⟩ (.slice a' (A.us.length + 1) c')) X (.int .i64 A.u) (.int .i64 A.g) (.int .i64 A.o) (.slice a' (A.us ++ [(x, y)]).length c') (.slice aG A.gs.length cG) (.bool A.r) (.int .i64 A.m) := by rw [el]; exact hx'.set3
  exact ⟨hsrc.kept (fun k hk2 => setA_block w' X 3 k _ (by omega)), OwnpA.set hos (by omega) _, hx2, hr'.other (by omega), fun o2 => by rw [World.frozen?_setCell]; exact hfx o2, fun o2 => by rw [World.frozen?_setCell]; exact hfr o2, q1, q2, q3, hu.keep hz (fun B e => setA_block w' X 3 _ _ (hu.inn B e).2.1), hg.keep hz (fun B e => setA_block w' X 3 _ _ (hg.inn B e).2.1), hne⟩
/-- The answer's box is written. -/
theorem DA.done (h : DA a len cap g p X R w0 w A aU cU aG cG) (h1 : A.us.length ≤ 7) (h2 : A.gs.length ≤ 6) {v0 v1 v2 v3 v4 v5 v6 : Value} :
    Src a len cap g p (set7A w R v0 v1 v2 v3 v4 v5 v6) ∧ Ownp p w0 (set7A w R v0 v1 v2 v3 v4 v5 v6) ∧ (∃ X R', RwA w0 (set7A w R v0 v1 v2 v3 v4 v5 v6) X R' aU cU A.us ∧ RwA w0 (set7A w R v0 v1 v2 v3 v4 v5 v6) X R' aG cG A.gs) ∧ (∀ A1 A2, aU = some A1 → aG = some A2 → A1.block ≠ A2.block) ∧ A.us.length ≤ 7 ∧ A.gs.length ≤ 6 := by
  have q1 := h.xr
  have q2 := h.x0
  have q3 := h.pl
  have hb : ∀ k, k ≠ R → (set7A w R v0 v1 v2 v3 v4 v5 v6).heap[k]? = w.heap[k]? := fun k hk => set7A_block w R k _ _ _ _ _ _ _ hk
  have hz := set7A_size w R v0 v1 v2 v3 v4 v5 v6
  have hos := ownp_set7 h.own q2 v0 v1 v2 v3 v4 v5 v6
  exact ⟨h.src.kept (fun k hk => hb k (by omega)), hos, ⟨X, R, h.ru.keep (by rw [hz]; exact Nat.le_refl _) (fun B e => hb _ (h.ru.inn B e).2.2.1), h.rg.keep (by rw [hz]; exact Nat.le_refl _) (fun B e => hb _ (h.rg.inn B e).2.2.1)⟩, h.ne, h1, h2⟩
theorem infoStr : (Tryz.prog.info? 9).map (fun i => (i.zero, i.size, i.bytes)) = some (some (.string ⟨#[]⟩), 1, 16) := by kernel_rfl
/-- Texts as values. -/
def tv (l : List ByteArray) : List Value := l.map Value.string
theorem tv_snoc (l : List ByteArray) (x : ByteArray) : tv (l ++ [x]) = tv l ++ [.string x] := by simp [tv]
theorem one_text (x : ByteArray) : ∀ u ∈ [Value.string x], u.oneCell' = true := by
  intro u hu
  simp at hu
  subst hu
  rfl
theorem text_new (w : World) (x : ByteArray) (t : TypeId) : ∀ j u, [Value.string x][j]? = some u → (w.alloc (.cells #[.string x] t)).cell? ((⟨w.heap.size, 0, none⟩ : Addr).add j) = some u := by
  intro j u hj
  have hb : (w.alloc (.cells #[.string x] t)).heap[w.heap.size]? = some (.cells #[.string x] t) := by
    rw [World.alloc]
    exact Array.getElem?_push_size
  cases j with
  | zero =>
    simp at hj
    subst hj
    have e : (⟨w.heap.size, 0, none⟩ : Addr).add 0 = ⟨w.heap.size, 0, none⟩ := by simp [Addr.add]
    rw [e]
    simp only [World.cell?, hb]
    rfl
  | succ j => simp at hj
theorem own_blockT {w : World} {B : Nat} {t : TypeId} {v : Value} {n : Nat} {xs : List Value} (h : w.ownsRow B t 1 v n xs) : ∀ k, v.ownBlock = some k → B ≤ k := by
  obtain ⟨_, ⟨rfl, _⟩ | ⟨g, cap, cur, rfl, hb, _⟩⟩ := h
  · intro k hk; simp [Value.ownBlock] at hk
  · intro k hk; simp [Value.ownBlock] at hk; omega
theorem rowT_below {w w' : World} {B : Nat} {t : TypeId} {v : Value} {n : Nat} {xs : List Value} (h : w.ownsRow B t 1 v n xs) (hb : Below w.heap.size w w') : w'.ownsRow B t 1 v n xs := by
  obtain ⟨h0, ⟨rfl, hn⟩ | ⟨g, cap, cur, rfl, hB, hg, hc, hm, hs, ht⟩⟩ := h
  · exact ⟨h0, .inl ⟨rfl, hn⟩⟩
  · have hlt : g < w.heap.size := (Array.getElem?_eq_some_iff.1 hg).1
    exact ⟨h0, .inr ⟨g, cap, cur, rfl, hB, (hb.block g hlt).trans hg, hc, hm, hs, ht⟩⟩
/-- A row of texts that is owned, by its cells. -/
theorem own_texts {w : World} {B : Nat} {t : TypeId} {v : Value} {l : List ByteArray} (h : w.ownsRow B t 1 v l.length (tv l)) :
    ∃ a c, v = .slice a l.length c ∧ l.length ≤ c ∧ (0 < l.length → ∃ b, a = some ⟨b, 0, none⟩ ∧ b < w.heap.size ∧ ∀ (j : Nat) x, l[j]? = some x → w.cell? ⟨b, 0 + j, none⟩ = some (.string x)) := by
  obtain ⟨_, ⟨rfl, hn⟩ | ⟨g, cap, cur, rfl, hb, hg, hc, _, hs, ht⟩⟩ := h
  · exact ⟨none, 0, by rw [hn], by omega, fun h => absurd h (by omega)⟩
  · have hlt : g < w.heap.size := (Array.getElem?_eq_some_iff.1 hg).1
    refine ⟨some ⟨g, 0, none⟩, cap, rfl, hc, fun _ => ⟨g, rfl, hlt, fun j x hj => ?_⟩⟩
    have hj2 : (tv l)[j]? = some (.string x) := by simp [tv, hj]
    have hjl : j < l.length := (List.getElem?_eq_some_iff.1 hj).1
    rw [← ht, List.getElem?_take_of_lt (by omega)] at hj2
    have : w.cell? ⟨g, 0 + j, none⟩ = cur[j]? := by simp [World.cell?, hg]
    rw [this]
    simpa using hj2
/-- append of one text onto a row that was owned ahead of the text's making. -/
theorem append_text (w0 w : World) (v : Value) (l : List ByteArray) (hown : w.ownsRow w0.heap.size 9 1 v l.length (tv l)) (hB : Below w0.heap.size w0 w) (x : ByteArray) (hsm : l.length ≤ 100000000) :
    ∃ v' w', (Builtin.append_ #[49, 49] 49 #[v, .slice (some ⟨w.heap.size, 0, none⟩) 1 1]).run Tryz.prog (w.alloc (.cells #[.string x] 9)) = .ok v' w' ∧ w'.ownsRow w0.heap.size 9 1 v' (l ++ [x]).length (tv (l ++ [x])) ∧ Below w0.heap.size w0 w' := by
  obtain ⟨i, hi, hzz⟩ := Option.map_eq_some_iff.1 infoStr
  simp only [Prod.mk.injEq] at hzz
  obtain ⟨hz, hs, hb⟩ := hzz
  have hb1 := bel_alloc w (.cells #[.string x] 9)
  have hB1 := Below.on hB hb1
  have hown1 := rowT_below hown hb1
  obtain ⟨v', w', hr, h1, h2, _⟩ := run_append_own (P := Tryz.prog) _ w0.heap.size 49 49 9 i _ 1 16 Tryz.underlying49 hi hz hs hb rfl (by decide) v l.length (tv l) hown1 ⟨w.heap.size, 0, none⟩ 1 1 [.string x] rfl (text_new w x _) (one_text x) (by unfold maxLen; omega) (by omega) hB1.size
  refine ⟨v', w', hr, ?_, hB1.grown h2 hB1.size (own_blockT hown1)⟩
  rw [tv_snoc, List.length_append]
  exact h1
/-- One more byte: the pieces that are done, and the one that is open. -/
def splF (c : UInt8) (s : List (List UInt8) × List UInt8) (x : UInt8) : List (List UInt8) × List UInt8 := if x = c then (s.1 ++ [s.2], []) else (s.1, s.2 ++ [x])
def splS (c : UInt8) (l : List UInt8) : List (List UInt8) × List UInt8 := l.foldl (splF c) ([], [])
/-- The pieces of a text. -/
def spl (c : UInt8) (l : List UInt8) : List (List UInt8) := (splS c l).1 ++ [(splS c l).2]
theorem splS_snoc (c : UInt8) (l : List UInt8) (x : UInt8) : splS c (l ++ [x]) = splF c (splS c l) x := by simp [splS]
theorem splF_len (c : UInt8) (l : List UInt8) : ∀ s : List (List UInt8) × List UInt8, (l.foldl (splF c) s).1.length ≤ s.1.length + l.length := by
  induction l with
  | nil => intro s; simp
  | cons x l ih =>
    intro s
    have h1 := ih (splF c s x)
    have h2 : (splF c s x).1.length ≤ s.1.length + 1 := by
      unfold splF
      split <;> simp
    simp only [List.foldl_cons, List.length_cons]
    omega
theorem splS_len (c : UInt8) (l : List UInt8) : (splS c l).1.length ≤ l.length := by
  have := splF_len c l ([], [])
  simpa [splS] using this
theorem splF_fold (c : UInt8) (l : List UInt8) : ∀ (o : List (List UInt8)) (z : List UInt8), l.foldl (splF c) (o, z) = (o ++ (l.foldl (splF c) ([], z)).1, (l.foldl (splF c) ([], z)).2) := by
  induction l with
  | nil => intro o z; simp
  | cons x l ih =>
    intro o z
    simp only [List.foldl_cons, splF]
    by_cases h : x = c
    · simp only [h, if_pos]
      rw [ih (o ++ [z]) [], ih ([] ++ [z]) []]
      simp
    · simp only [h, if_false]
      exact ih o (z ++ [x])
theorem splF_none (c : UInt8) (a : List UInt8) (h : c ∉ a) : ∀ (z : List UInt8), a.foldl (splF c) ([], z) = ([], z ++ a) := by
  induction a with
  | nil => intro z; simp
  | cons x a ih =>
    intro z
    have hx : ¬ x = c := fun e => h (by simp [e])
    simp only [List.foldl_cons, splF, hx, if_false]
    rw [ih (fun e => h (by simp [e]))]
    simp
theorem spl_none {c : UInt8} {a : List UInt8} (h : c ∉ a) : spl c a = [a] := by
  unfold spl splS
  rw [splF_none c a h]
  simp
theorem spl_first {c : UInt8} {a b : List UInt8} (h : c ∉ a) : spl c (a ++ c :: b) = a :: spl c b := by
  unfold spl splS
  rw [List.foldl_append, splF_none c a h, List.nil_append, List.foldl_cons]
  have e : splF c ([], a) c = ([a], []) := by simp [splF]
  rw [e, splF_fold]
  simp
theorem spl_len (c : UInt8) (l : List UInt8) : (spl c l).length ≤ l.length + 1 := by
  have := splS_len c l
  simp [spl]
  omega
/-- Texts of lists of bytes. -/
def bts (l : List (List UInt8)) : List ByteArray := l.map fun x => ⟨x.toArray⟩
theorem bts_snoc (l : List (List UInt8)) (x : List UInt8) : bts (l ++ [x]) = bts l ++ [⟨x.toArray⟩] := by simp [bts]
theorem bts_len (l : List (List UInt8)) : (bts l).length = l.length := by simp [bts]
theorem cut_text (s : ByteArray) (i j : Nat) : s.extract i j = ⟨((s.data.toList.take j).drop i).toArray⟩ := by
  apply ByteArray.ext
  rw [ByteArray.data_extract]
  apply Array.toList_inj.1
  simp [Array.toList_extract, List.drop_take]
theorem take_next {l : List UInt8} {i : Nat} (h : i < l.length) : l.take (i + 1) = l.take i ++ [l[i]] := by rw [List.take_append_getElem]
/-- What the loop holds at place i. -/
def splAt (c : UInt8) (l : List UInt8) (i fr : Nat) (o : List (List UInt8)) : Prop := splS c (l.take i) = (o, (l.take i).drop fr) ∧ fr ≤ i
theorem splAt_hit {c : UInt8} {l : List UInt8} {i fr : Nat} {o : List (List UInt8)} (h : splAt c l i fr o) (hi : i < l.length) (hx : l[i] = c) : splAt c l (i + 1) (i + 1) (o ++ [(l.take i).drop fr]) := by
  refine ⟨?_, Nat.le_refl _⟩
  rw [take_next hi, splS_snoc, h.1, splF, if_pos hx]
  have e : (l.take i ++ [l[i]]).drop (i + 1) = [] := by
    apply List.drop_eq_nil_of_le
    simp
    omega
  rw [e]
theorem splAt_miss {c : UInt8} {l : List UInt8} {i fr : Nat} {o : List (List UInt8)} (h : splAt c l i fr o) (hi : i < l.length) (hx : ¬ l[i] = c) : splAt c l (i + 1) fr o := by
  have hf := h.2
  refine ⟨?_, by omega⟩
  rw [take_next hi, splS_snoc, h.1, splF, if_neg hx]
  have e : (l.take i ++ [l[i]]).drop fr = (l.take i).drop fr ++ [l[i]] := by
    apply List.drop_append_of_le_length
    simp
    omega
  rw [e]
theorem splAt_end {c : UInt8} {l : List UInt8} {fr : Nat} {o : List (List UInt8)} (h : splAt c l l.length fr o) : o ++ [l.drop fr] = spl c l := by
  have h1 := h.1
  rw [List.take_length] at h1
  rw [spl, h1]
set_option maxRecDepth 100000 in
set_option maxHeartbeats 4000000 in
/-- spec.l01Split. -/
theorem sSplit_any (s : ByteArray) (c : UInt8) (hs : s.size ≤ 100000000) (w : World) :
    Calls Tryz.prog 51 #[.string s, .int .u8 (c.toNat : Int)] w fun e w' => ∃ v, e = .returned v ∧ w'.ownsRow w.heap.size 9 1 v (bts (spl c s.data.toList)).length (tv (bts (spl c s.data.toList))) ∧ Below w.heap.size w w' := by
  have hl : s.data.toList.length = s.size := (Lib.size_eq s).symm
  have hO : Hid ((w.alloc (.cells #[] 9)).ownsRow w.heap.size 9 1 (.slice (some ⟨w.heap.size, 0, none⟩) 0 0) (bts []).length (tv (bts []))) := World.ownsRow_made w #[] 0 (Nat.le_refl _) (by unfold maxLen; omega) rfl
  have hB0 : Hid (Below w.heap.size w (w.alloc (.cells #[] 9))) := bel_alloc _ _
  have HL : Hid (s.data.toList.length = s.size) := hl
  clear hl
  go_enter Tryz.func51, Tryz.ntmps51
  go_wp2
  go_loopw [5, 6, 7] (fun v f i wr => ∃ (k fr : Nat) (o : List (List UInt8)), k ≤ s.size ∧ fr ≤ k ∧ f = .int .i64 fr ∧ i = .int .i64 k ∧ Hid (splAt c s.data.toList k fr o) ∧ Hid (o.length ≤ k) ∧ Hid (wr.ownsRow w.heap.size 9 1 v (bts o).length (tv (bts o))) ∧ Hid (Below w.heap.size w wr)) (fun _ _ i _ => s.size - (intOf i).toNat)
  case atStart => exact ⟨0, 0, [], Nat.zero_le _, Nat.le_refl _, rfl, rfl, ⟨rfl, Nat.le_refl _⟩, Nat.le_refl _, hO, hB0⟩
  case round =>
    obtain ⟨k, fr, o, hk, hfr, rfl, rfl, hA, hol, hOw, hB⟩ := hrel
    by_cases hlt : k < s.size
    · have hlt' : (k : Int) < (s.size : Int) := by omega
      have hix : s.data.toList[k]'(by rw [HL.out]; exact hlt) = s[k] := rfl
      by_cases hx : s[k] = c
      · have hA2 : Hid (splAt c s.data.toList (k + 1) (k + 1) (o ++ [(s.data.toList.take k).drop fr])) := splAt_hit hA.out (by rw [HL.out]; exact hlt) (hix.trans hx)
        have heq : (((s[k]).toNat : Int) == (c.toNat : Int)) = true := by rw [hx]; simp
        have hcut : s.extract fr k = ⟨((s.data.toList.take k).drop fr).toArray⟩ := cut_text s fr k
        obtain ⟨v2, w2, hr, hO2, hB2⟩ := append_text w wr u5 (bts o) hOw.out hB.out (s.extract fr k) (by rw [bts_len]; have := hol.out; omega)
        have HO2 : Hid (w2.ownsRow w.heap.size 9 1 v2 (bts (o ++ [(s.data.toList.take k).drop fr])).length (tv (bts (o ++ [(s.data.toList.take k).drop fr])))) := (by show World.ownsRow _ _ _ _ _ _ _; rw [bts_snoc, ← hcut]; exact hO2)
        have HB2 : Hid (Below w.heap.size w w2) := hB2
        have hol2 : Hid ((o ++ [(s.data.toList.take k).drop fr]).length ≤ k + 1) := (by show _ ≤ _; have := hol.out; simp; omega)
        have hfk : (fr : Int) ≤ (k : Int) := by omega
        clear hcut hO2 hB2 hOw hB hA hix hol hx
        go_wp2_with (at_builtin; refine wpList_append_runT _ rfl (.tmp 20) (.tmp 25) 49 49 rfl _ _ _ _ rfl rfl hr ?_)
        go_roundw
        case rel => exact ⟨k + 1, k + 1, _, by omega, Nat.le_refl _, by go_num, by go_num, hA2, hol2, HO2, HB2⟩
        case measure => simp [intOf]; omega
      · have hA2 : Hid (splAt c s.data.toList (k + 1) fr o) := splAt_miss hA.out (by rw [HL.out]; exact hlt) (fun e => hx (hix.symm.trans e))
        have hne : (((s[k]).toNat : Int) == (c.toNat : Int)) = false := by
          cases e : (((s[k]).toNat : Int) == (c.toNat : Int))
          · rfl
          · exact absurd (UInt8.toNat_inj.1 (by have := beq_iff_eq.1 e; omega)) hx
        have hol2 : Hid (o.length ≤ k + 1) := Nat.le_succ_of_le hol.out
        clear hA hix hol hx
        go_wp2
        go_roundw
        case rel => exact ⟨k + 1, fr, o, by omega, by omega, rfl, by go_num, hA2, hol2, hOw, hB⟩
        case measure => simp [intOf]; omega
    · have : k = s.size := by omega
      subst this
      have hE : o ++ [s.data.toList.drop fr] = spl c s.data.toList := splAt_end (by rw [HL.out]; exact hA.out)
      have hcut : s.extract fr s.size = ⟨(s.data.toList.drop fr).toArray⟩ := by
        rw [cut_text, ← HL.out, List.take_length]
      obtain ⟨v2, w2, hr, hO2, hB2⟩ := append_text w wr u5 (bts o) hOw.out hB.out (s.extract fr s.size) (by rw [bts_len]; have := hol.out; omega)
      have HO2 : Hid (w2.ownsRow w.heap.size 9 1 v2 (bts (spl c s.data.toList)).length (tv (bts (spl c s.data.toList)))) := (by show World.ownsRow _ _ _ _ _ _ _; rw [← hE, bts_snoc, ← hcut]; exact hO2)
      have HB2 : Hid (Below w.heap.size w w2) := hB2
      have hfk : (fr : Int) ≤ (s.size : Int) := by omega
      clear hcut hO2 hB2 hOw hB hA hE hol
      go_wp2_with (at_builtin; refine wpList_append_runT _ rfl (.tmp 29) (.tmp 33) 49 49 rfl _ _ _ _ rfl rfl hr ?_)
      go_ret
      exact ⟨_, rfl, HO2.out, HB2.out⟩
end Go.Proofs.YtedahdncincgjaaGreatDoor
