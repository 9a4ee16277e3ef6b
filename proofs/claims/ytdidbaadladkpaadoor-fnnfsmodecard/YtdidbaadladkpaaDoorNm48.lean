/- Laid together: HoldK, Give, Given. -/
import Derived.Test.YtdidbaadladkpaaDoorNm28
import Derived.Test.YtdidbaadladkpaaDoorNm35
import Derived.Test.YtdidbaadladkpaaDoorNm39
import Derived.Test.YtdidbaadladkpaaDoorNm46
/- The iterator of impl.holding at the test impl.ofAsker$1. -/
namespace Go.Proofs.YtdidbaadladkpaaDoor
open Go.RowKit Go.PlainAid Go.Shelf
set_option linter.unusedVariables false
attribute [local go_sem] Oper.semAt_some
set_option maxRecDepth 100000 in
set_option maxHeartbeats 4000000 in
theorem holdK_in (n : Nat) (hn : 1 ≤ n) (lp Bl Bf n₀ lo hi b off len cap : Nat) (Cc Co Cg : Nat) (l : List Ac) (p : Ac → Bool) (hlen : l.length = len) (hl : len ≤ 1000) (hb : b < n₀) (hf0 : lo ≤ Bf) (hf1 : Bf < hi) (hfl : ∀ i, i < len → 0 ≤ (acAt l i).fl ∧ (acAt l i).fl ≤ 15) (J Jx : List Ac → World → Prop)
    (W : World) (hJ : AbidesFrom W.heap.size J) (hn0 : n₀ ≤ W.heap.size) (hn1 : hi ≤ W.heap.size)
    (hP : ∀ x W', KpC n₀ lo hi W W' → Calls Tryd.prog 77 #[.agg #[.bool x.al, .int .i64 x.wh, .int .i64 x.id, .int .i64 x.fl, .int .i64 x.ma], .pointer (some ⟨Cc, 0, none⟩), .pointer (some ⟨Co, 0, none⟩), .pointer (some ⟨Cg, 0, none⟩)] W' fun e W'' => e = .returned (.bool (p x)) ∧ Below W'.heap.size W' W'')
    (hY : ∀ pre x W1, J pre W1 → pre.length < len → YieldAt Fence.wide (n - 1) Tryd.prog lp #[.agg #[.bool x.al, .int .i64 x.wh, .int .i64 x.id, .int .i64 x.fl, .int .i64 x.ma]] W1 fun e W' =>
      (e = .returned (.bool true) ∧ J (pre ++ [x]) W' ∧ KpC n₀ lo hi W1 W') ∨ (e = .returned (.bool false) ∧ Jx (pre ++ [x]) W'))
    (hBl : W.cell? ⟨Bl, 0, none⟩ = some (.slice (some ⟨b, off, none⟩) len cap)) (hBf : W.cell? ⟨Bf, 0, none⟩ = some (.func (.func 77) #[] #[.pointer (some ⟨Cc, 0, none⟩), .pointer (some ⟨Co, 0, none⟩), .pointer (some ⟨Cg, 0, none⟩)])) (hc : ∀ i, i < len → Five W b (off + i * 5) (acAt l i)) (h0 : J [] W) :
    CallsIn Fence.wide n Tryd.prog 99 #[.func (.yield lp) #[] #[], .pointer (some ⟨Bl, 0, none⟩), .pointer (some ⟨Bf, 0, none⟩)] W fun e W' => (∃ v, e = .returned v) ∧
      ((∃ ys, ys = fltP p l len ∧ J ys W') ∨ (∃ pre, True ∧ Jx pre W')) := by
  have HC : Hid (∀ i, i < len → Five W b (off + i * 5) (acAt l i)) := hc
  have HF : Hid (∀ i, i < len → 0 ≤ (acAt l i).fl ∧ (acAt l i).fl ≤ 15) := hfl
  have HJ : Hid (∀ s A B, J s A → Below A.heap.size A B → J s B) := (fun s A B hs hg => hJ s A B none hs (grown_of_below hg) (fun r e => by cases e))
  have HP : Hid (∀ x W', KpC n₀ lo hi W W' → Calls Tryd.prog 77 #[.agg #[.bool x.al, .int .i64 x.wh, .int .i64 x.id, .int .i64 x.fl, .int .i64 x.ma], .pointer (some ⟨Cc, 0, none⟩), .pointer (some ⟨Co, 0, none⟩), .pointer (some ⟨Cg, 0, none⟩)] W' fun e W'' => e = .returned (.bool (p x)) ∧ Below W'.heap.size W' W'') := hP
  have HY : Hid (∀ pre x W1, J pre W1 → pre.length < len → YieldAt Fence.wide (n - 1) Tryd.prog lp #[.agg #[.bool x.al, .int .i64 x.wh, .int .i64 x.id, .int .i64 x.fl, .int .i64 x.ma]] W1 fun e W' =>
      (e = .returned (.bool true) ∧ J (pre ++ [x]) W' ∧ KpC n₀ lo hi W1 W') ∨ (e = .returned (.bool false) ∧ Jx (pre ++ [x]) W')) := hY
  clear hc hfl hJ hP hY
  refine callsIn_of_wp Tryd.func99 rfl trivial ?_ rfl
  simp only [Tryd.ntmps99, List.size_toArray, List.length_cons, List.length_nil, Nat.reduceAdd, Nat.reduceSub, Array.replicate_succ, Array.replicate_zero, List.push_toArray, List.append_toArray, List.nil_append, List.cons_append]
  gi_wp2
  gi_loopw [8] (fun i wr => ∃ k : Nat, k ≤ len ∧ i = .int .i64 k ∧ Hid (J (fltP p l k) wr) ∧ Hid (KpC n₀ lo hi W wr) ∧ Hid (n₀ ≤ wr.heap.size ∧ hi ≤ wr.heap.size) ∧ wr.cell? ⟨Bf, 0, none⟩ = some (.func (.func 77) #[] #[.pointer (some ⟨Cc, 0, none⟩), .pointer (some ⟨Co, 0, none⟩), .pointer (some ⟨Cg, 0, none⟩)]))
    (fun i _ => len - (intOf i).toNat)
  case atStart => exact ⟨0, Nat.zero_le _, rfl, h0, kpC_refl _ _ _ _, ⟨hn0, hn1⟩, hBf⟩
  case round =>
    obtain ⟨k, hk, rfl, hJs, hB, hz, hfv⟩ := hrel
    by_cases hlt : k < len
    · have hlt' : (k : Int) < (len : Int) := by omega
      obtain ⟨g0, g1, g2, g3, g4⟩ := (HC.out k hlt).keep (fun j => hB.out.1.cell (p := ⟨b, j, none⟩) hb)
      obtain ⟨f0, f1⟩ := HF.out k hlt
      have HN : Hid ((hldB (acAt l k) && p (acAt l k)) = false → ∀ W', J (fltP p l k) W' → J (fltP p l (k + 1)) W') := (fun h W' h2 => by rw [fltP_no h]; exact h2)
      have HYS : Hid ((hldB (acAt l k) && p (acAt l k)) = true → ∀ W', J (fltP p l k ++ [acAt l k]) W' → J (fltP p l (k + 1)) W') := (fun h W' h2 => by rw [fltP_yes h]; exact h2)
      have HLE : Hid ((fltP p l k).length < len) := Nat.lt_of_le_of_lt (fltP_len p l k) hlt
      have hfl := block_lt_of_cell hfv
      generalize acAt l k = x at g0 g1 g2 g3 g4 f0 f1 HN HYS
      have hbA := bel_alloc wr (.cells #[.bool x.al, .int .i64 x.wh, .int .i64 x.id, .int .i64 x.fl, .int .i64 x.ma] 33)
      have hF := five_new wr x 33
      gi_wp2_with fail
      refine ⟨trivial, (callsIn_wide.2 (holds_any x f0 f1 _)).mono ?_⟩
      rintro e w1 ⟨rfl, hb1⟩
      have hb01 := Below.on hbA hb1
      have hF1 := hF.below (by simp) hb1
      have hsz1 : wr.heap.size < w1.heap.size := by have := hb1.size; simp at this; omega
      have hfv1 : w1.cell? ⟨Bf, 0, none⟩ = some (.func (.func 77) #[] #[.pointer (some ⟨Cc, 0, none⟩), .pointer (some ⟨Co, 0, none⟩), .pointer (some ⟨Cg, 0, none⟩)]) := (hb01.cell (p := ⟨Bf, 0, none⟩) hfl).trans hfv
      have hJ1 : Hid (J (fltP p l k) w1) := HJ.out _ _ _ hJs.out hb01
      have hB1 : Hid (KpC n₀ lo hi W w1) := kpC_t hB.out (kpC_grow hb01 hz.out.1 hz.out.2)
      have hz1 : Hid (n₀ ≤ w1.heap.size ∧ hi ≤ w1.heap.size) := ⟨Nat.le_trans hz.out.1 hb01.size, Nat.le_trans hz.out.2 hb01.size⟩
      clear hb1 hbA hF g0 g1 g2 g3 g4 hJs hB hb01 hfv
      obtain ⟨c0, c1, c2, c3, c4⟩ := hF1
      simp only [Nat.zero_add] at c1 c2 c3 c4
      cases hh : hldB x
      · have hJ2 : Hid (J (fltP p l (k + 1)) w1) := HN.out (by rw [hh]; rfl) _ hJ1.out
        clear HN HYS HLE hJ1
        gi_wp2
        refine ⟨fun _ h => (by cases h), ?_⟩
        gi_wp2
        go_roundw
        case rel => exact ⟨k + 1, by omega, by go_num, hJ2, hB1, hz1, hfv1⟩
        case measure => simp [intOf]; omega
      · gi_wp2_with fail
        refine ⟨trivial, (callsIn_wide.2 (HP.out x _ hB1.out)).mono ?_⟩
        rintro e w2 ⟨rfl, hb2⟩
        obtain ⟨c0, c1, c2, c3, c4⟩ := (Five.mk (o := 0) c0 (by simpa using c1) (by simpa using c2) (by simpa using c3) (by simpa using c4) : Five w1 wr.heap.size 0 x).below hsz1 hb2
        simp only [Nat.zero_add] at c1 c2 c3 c4
        have hfl1 := block_lt_of_cell hfv1
        have hfv2 : w2.cell? ⟨Bf, 0, none⟩ = some (.func (.func 77) #[] #[.pointer (some ⟨Cc, 0, none⟩), .pointer (some ⟨Co, 0, none⟩), .pointer (some ⟨Cg, 0, none⟩)]) := (hb2.cell (p := ⟨Bf, 0, none⟩) hfl1).trans hfv1
        have hJ2 : Hid (J (fltP p l k) w2) := HJ.out _ _ _ hJ1.out hb2
        have hB2 : Hid (KpC n₀ lo hi W w2) := kpC_t hB1.out (kpC_grow hb2 hz1.out.1 hz1.out.2)
        have hz2 : Hid (n₀ ≤ w2.heap.size ∧ hi ≤ w2.heap.size) := ⟨Nat.le_trans hz1.out.1 hb2.size, Nat.le_trans hz1.out.2 hb2.size⟩
        clear hb2 hJ1 hB1 hz1 hfv1 hfl1 hfl
        cases hp : p x
        · have hJ3 : Hid (J (fltP p l (k + 1)) w2) := HN.out (by rw [hh, hp]; rfl) _ hJ2.out
          clear HN HYS HLE hJ2
          gi_wp2
          refine ⟨fun _ h => (by cases h), ?_⟩
          gi_wp2
          go_roundw
          case rel => exact ⟨k + 1, by omega, by go_num, hJ3, hB2, hz2, hfv2⟩
          case measure => simp [intOf]; omega
        · obtain ⟨fn, tmps, assign, body, hy, hR⟩ := HY.out _ x w2 hJ2.out HLE.out
          have HR : Hid (RoundIn Fence.wide (n - 1) Tryd.prog lp fn tmps assign body w2 fun e W' => (e = .returned (.bool true) ∧ J (fltP p l k ++ [x]) W' ∧ KpC n₀ lo hi w2 W') ∨ (e = .returned (.bool false) ∧ Jx (fltP p l k ++ [x]) W')) := hR
          have HYT : Hid (∀ W', J (fltP p l k ++ [x]) W' → J (fltP p l (k + 1)) W') := HYS.out (by rw [hh, hp]; rfl)
          clear HN HYS HLE hJ2 hR
          gi_wp2
          refine HR.out.mono ?_
          rintro e W3 (⟨rfl, hJ3, hk3⟩ | ⟨rfl, hJx3⟩)
          · have hJ4 : Hid (J (fltP p l (k + 1)) W3) := HYT.out _ hJ3
            have hB3 : Hid (KpC n₀ lo hi W W3) := kpC_t hB2.out hk3
            have hz3 : Hid (n₀ ≤ W3.heap.size ∧ hi ≤ W3.heap.size) := ⟨Nat.le_trans hz2.out.1 hk3.1.size, Nat.le_trans hz2.out.2 hk3.1.size⟩
            have hfv3 := hk3.2 _ _ _ hf0 hf1 hfv2
            clear hJ3 hk3 hy HR HYT
            gi_wp2
            go_roundw
            case rel => exact ⟨k + 1, by omega, by go_num, hJ4, hB3, hz3, hfv3⟩
            case measure => simp [intOf]; omega
          · have HX : Hid (Jx (fltP p l k ++ [x]) W3) := hJx3
            clear hJx3 hy HR HYT
            gi_wp2
            refine bodyPost_ret (results_none rfl _ _ _) rfl ?_
            exact ⟨⟨_, rfl⟩, .inr ⟨_, trivial, HX.out⟩⟩
    · have : k = len := by omega
      subst this
      gi_wp2
      go_end0
      exact ⟨⟨_, rfl⟩, .inl ⟨_, rfl, hJs.out⟩⟩
set_option maxRecDepth 100000 in
set_option maxHeartbeats 2000000 in
theorem holdK_none (n : Nat) (lp Bl Bf : Nat) (a : Option Addr) (cap : Nat) (J : List Ac → World → Prop) (W : World) (hBl : W.cell? ⟨Bl, 0, none⟩ = some (.slice a 0 cap)) (h0 : J [] W) :
    CallsIn Fence.wide n Tryd.prog 99 #[.func (.yield lp) #[] #[], .pointer (some ⟨Bl, 0, none⟩), .pointer (some ⟨Bf, 0, none⟩)] W fun e W' => (∃ v, e = .returned v) ∧ J [] W' := by
  refine callsIn_of_wp Tryd.func99 rfl trivial ?_ rfl
  simp only [Tryd.ntmps99, List.size_toArray, List.length_cons, List.length_nil, Nat.reduceAdd, Nat.reduceSub, Array.replicate_succ, Array.replicate_zero, List.push_toArray, List.append_toArray, List.nil_append, List.cons_append]
  gi_wp2
  gi_loopw [8] (fun i wr => i = .int .i64 0 ∧ J [] wr) (fun _ _ => 0)
  case atStart => exact ⟨rfl, h0⟩
  case round =>
    obtain ⟨rfl, hJs⟩ := hrel
    gi_wp2
    go_end0
    exact ⟨⟨_, rfl⟩, hJs⟩
/-- The iterator's contract. -/
theorem holdK_stops (n : Nat) (hn : 1 ≤ n) (Bl Bf n₀ lo hi : Nat) (Cc Co Cg : Nat) (a : Option Addr) (len cap : Nat) (l : List Ac) (p : Ac → Bool) (hl : len ≤ 1000) (w : World) (hA : Acs a len l w) (hA0 : 0 < len → ∀ A, a = some A → A.block < n₀) (hf0 : lo ≤ Bf) (hf1 : Bf < hi) (hfl : ∀ i, i < len → 0 ≤ (acAt l i).fl ∧ (acAt l i).fl ≤ 15) (hn0 : n₀ ≤ w.heap.size) (hn1 : hi ≤ w.heap.size)
    (hP : ∀ x W', KpC n₀ lo hi w W' → Calls Tryd.prog 77 #[.agg #[.bool x.al, .int .i64 x.wh, .int .i64 x.id, .int .i64 x.fl, .int .i64 x.ma], .pointer (some ⟨Cc, 0, none⟩), .pointer (some ⟨Co, 0, none⟩), .pointer (some ⟨Cg, 0, none⟩)] W' fun e W'' => e = .returned (.bool (p x)) ∧ Below W'.heap.size W' W'')
    (hBl : w.cell? ⟨Bl, 0, none⟩ = some (.slice a len cap)) (hBf : w.cell? ⟨Bf, 0, none⟩ = some (.func (.func 77) #[] #[.pointer (some ⟨Cc, 0, none⟩), .pointer (some ⟨Co, 0, none⟩), .pointer (some ⟨Cg, 0, none⟩)])) :
    SeqStopsK Fence.wide n Tryd.prog 99 #[.pointer (some ⟨Bl, 0, none⟩), .pointer (some ⟨Bf, 0, none⟩)] (fun x : Ac => #[Value.agg #[.bool x.al, .int .i64 x.wh, .int .i64 x.id, .int .i64 x.fl, .int .i64 x.ma]]) (KpC n₀ lo hi) (fun ys => ys = fltP p l len) (fun _ => True) len w := fun lp J Jx W hW hJ hJx hY h0 => by
  have hBl' := (hW.cell (p := ⟨Bl, 0, none⟩) (block_lt_of_cell hBl)).trans hBl
  have hBf' := (hW.cell (p := ⟨Bf, 0, none⟩) (block_lt_of_cell hBf)).trans hBf
  have hA' := hA.below hW
  by_cases hz : len = 0
  · subst hz
    exact (holdK_none n lp Bl Bf a cap J W hBl' h0).mono fun e W' ⟨he, hj⟩ => ⟨he, .inl ⟨_, rfl, hj⟩⟩
  · obtain ⟨b, off, rfl, hlt, hc⟩ := hA'.2 (by omega)
    exact holdK_in n hn lp Bl Bf n₀ lo hi b off len cap Cc Co Cg l p hA.1 hl (hA0 (by omega) _ rfl) hf0 hf1 hfl J Jx W hJ (Nat.le_trans hn0 hW.size) (Nat.le_trans hn1 hW.size) (fun x W' hK => hP x W' (kpC_t (kpC_grow hW hn0 hn1) hK)) hY hBl' hBf' hc h0
end Go.Proofs.YtdidbaadladkpaaDoor
/- impl.ofAsker, impl.given: what a list in order gives somebody. -/
namespace Go.Proofs.YtdidbaadladkpaaDoor
open Go.RowKit Go.PlainAid Go.Shelf
set_option linter.unusedVariables false
attribute [local go_sem] Oper.semAt_some
/-- It is of somebody. -/
def askB (owner group u g : Int) (len : Nat) (f : Nat → Int) (x : Ac) : Bool :=
  if x.wh = 1 then u == owner else if x.wh = 2 then inGB u g len f group else if x.wh = 3 then true else if x.wh = 4 then u == x.id else if x.wh = 5 then inGB u g len f x.id else false
/-- Four cells of a block. -/
structure Box4A (w : World) (B : Nat) (v0 v1 v2 v3 : Value) : Prop where
  lt : B < w.heap.size
  c0 : w.cell? ⟨B, 0, none⟩ = some v0
  c1 : w.cell? ⟨B, 1, none⟩ = some v1
  c2 : w.cell? ⟨B, 2, none⟩ = some v2
  c3 : w.cell? ⟨B, 3, none⟩ = some v3
theorem Box4A.keep {w w' : World} {B : Nat} {v0 v1 v2 v3 : Value} (h : Box4A w B v0 v1 v2 v3) (hlt : B < w'.heap.size) (hc : ∀ o, w'.cell? ⟨B, o, none⟩ = w.cell? ⟨B, o, none⟩) : Box4A w' B v0 v1 v2 v3 := ⟨hlt, (hc 0).trans h.c0, (hc 1).trans h.c1, (hc 2).trans h.c2, (hc 3).trans h.c3⟩
theorem Box4A.below {w w' : World} {B : Nat} {v0 v1 v2 v3 : Value} (h : Box4A w B v0 v1 v2 v3) {n : Nat} (hn : B < n) (hb : Below n w w') : Box4A w' B v0 v1 v2 v3 :=
  h.keep (Nat.lt_of_lt_of_le h.lt hb.size) (fun o => hb.cell (p := ⟨B, o, none⟩) hn)
theorem box4A_new (w : World) (v0 v1 v2 v3 : Value) (t : TypeId) : Box4A (w.alloc (.cells #[v0, v1, v2, v3] t)) w.heap.size v0 v1 v2 v3 := by
  have hb : (w.alloc (.cells #[v0, v1, v2, v3] t)).heap[w.heap.size]? = some (.cells #[v0, v1, v2, v3] t) := by
    rw [World.alloc]
    exact Array.getElem?_push_size
  refine ⟨by simp, ?_, ?_, ?_, ?_⟩ <;> (simp only [World.cell?, hb]; rfl)
set_option maxHeartbeats 1000000 in
theorem ofAsker_any (owner group u g : Int) (a : Option Addr) (len cap : Nat) (r : Bool) (w : World) :
    Calls Tryd.prog 45 #[.int .i64 owner, .int .i64 group, .agg #[.int .i64 u, .int .i64 g, .slice a len cap, .bool r]] w fun e w' => e = .returned (.func (.func 77) #[] #[.pointer (some ⟨w.heap.size + 1 + 1, 0, none⟩), .pointer (some ⟨w.heap.size, 0, none⟩), .pointer (some ⟨w.heap.size + 1, 0, none⟩)]) ∧ w' = ((w.alloc (.cells #[.int .i64 owner] 2)).alloc (.cells #[.int .i64 group] 2)).alloc (.cells #[.int .i64 u, .int .i64 g, .slice a len cap, .bool r] 26) := by
  go_enter Tryd.func45, Tryd.ntmps45
  go_wp2
  go_ret
  exact ⟨rfl, rfl⟩
set_option maxHeartbeats 4000000 in
theorem ofAsker1_any (x : Ac) (owner group u g : Int) (a : Option Addr) (len cap : Nat) (r : Bool) (f : Nat → Int) (Cc Co Cg : Nat) (w : World) (hi : Ints a len f w) (hb : Box4A w Cc (.int .i64 u) (.int .i64 g) (.slice a len cap) (.bool r)) (ho : w.cell? ⟨Co, 0, none⟩ = some (.int .i64 owner)) (hg : w.cell? ⟨Cg, 0, none⟩ = some (.int .i64 group)) :
    Calls Tryd.prog 77 #[.agg #[.bool x.al, .int .i64 x.wh, .int .i64 x.id, .int .i64 x.fl, .int .i64 x.ma], .pointer (some ⟨Cc, 0, none⟩), .pointer (some ⟨Co, 0, none⟩), .pointer (some ⟨Cg, 0, none⟩)] w fun e w' => e = .returned (.bool (askB owner group u g len f x)) ∧ Below w.heap.size w w' := by
  have hba := bel_alloc w (.cells #[.bool x.al, .int .i64 x.wh, .int .i64 x.id, .int .i64 x.fl, .int .i64 x.ma] 33)
  obtain ⟨bl, b0, b1, b2, b3⟩ := hb.below hb.lt hba
  have o1 := (hba.cell (p := ⟨Co, 0, none⟩) (block_lt_of_cell ho)).trans ho
  have g1 := (hba.cell (p := ⟨Cg, 0, none⟩) (block_lt_of_cell hg)).trans hg
  have hG : Hid (∀ gid, Calls Tryd.prog 78 #[.agg #[.int .i64 u, .int .i64 g, .slice a len cap, .bool r], .int .i64 gid] (w.alloc (.cells #[.bool x.al, .int .i64 x.wh, .int .i64 x.id, .int .i64 x.fl, .int .i64 x.ma] 33)) fun e w' => e = .returned (.bool (inGB u g len f gid)) ∧ Below w.heap.size w w') := (fun gid => (iInGroup_any u g a len cap r gid f _ (hi.below hba)).mono (fun e w' ⟨h1, h2⟩ => ⟨h1, Below.on hba h2⟩))
  have hB : Hid (Below w.heap.size w (w.alloc (.cells #[.bool x.al, .int .i64 x.wh, .int .i64 x.id, .int .i64 x.fl, .int .i64 x.ma] 33))) := hba
  have hQ : Hid (askB owner group u g len f x = (if x.wh = 1 then u == owner else if x.wh = 2 then inGB u g len f group else if x.wh = 3 then true else if x.wh = 4 then u == x.id else if x.wh = 5 then inGB u g len f x.id else false)) := rfl
  clear hi hb ho hg hba
  cases h1 : (x.wh == 1)
  · have n1 : ¬ x.wh = 1 := by simpa using h1
    cases h2 : (x.wh == 2)
    · have n2 : ¬ x.wh = 2 := by simpa using h2
      cases h3 : (x.wh == 3)
      · have n3 : ¬ x.wh = 3 := by simpa using h3
        cases h4 : (x.wh == 4)
        · have n4 : ¬ x.wh = 4 := by simpa using h4
          cases h5 : (x.wh == 5)
          · have n5 : ¬ x.wh = 5 := by simpa using h5
            have hr : Hid (askB owner group u g len f x = false) := (by show _ = _; rw [hQ.out, if_neg n1, if_neg n2, if_neg n3, if_neg n4, if_neg n5])
            clear n1 n2 n3 n4 n5 hQ hG
            go_enter Tryd.func77, Tryd.ntmps77
            go_wp2
            go_ret
            exact ⟨ret_boolW hr.out.symm, hB.out⟩
          · have n5 : x.wh = 5 := by simpa using h5
            have hr : Hid (askB owner group u g len f x = inGB u g len f x.id) := (by show _ = _; rw [hQ.out, if_neg n1, if_neg n2, if_neg n3, if_neg n4, if_pos n5])
            clear n1 n2 n3 n4 n5 hQ
            go_enter Tryd.func77, Tryd.ntmps77
            go_wp2_with (go_at_call 78; refine (hG.out _).mono ?_; rintro e w1 ⟨rfl, hb1⟩)
            go_ret
            exact ⟨ret_boolW hr.out.symm, hb1⟩
        · have n4 : x.wh = 4 := by simpa using h4
          have hr : Hid (askB owner group u g len f x = (u == x.id)) := (by show _ = _; rw [hQ.out, if_neg n1, if_neg n2, if_neg n3, if_pos n4])
          clear n1 n2 n3 n4 hQ hG
          go_enter Tryd.func77, Tryd.ntmps77
          go_wp2
          go_ret
          exact ⟨ret_boolW hr.out.symm, hB.out⟩
      · have n3 : x.wh = 3 := by simpa using h3
        have hr : Hid (askB owner group u g len f x = true) := (by show _ = _; rw [hQ.out, if_neg n1, if_neg n2, if_pos n3])
        clear n1 n2 n3 hQ hG
        go_enter Tryd.func77, Tryd.ntmps77
        go_wp2
        go_ret
        exact ⟨ret_boolW hr.out.symm, hB.out⟩
    · have n2 : x.wh = 2 := by simpa using h2
      have hr : Hid (askB owner group u g len f x = inGB u g len f group) := (by show _ = _; rw [hQ.out, if_neg n1, if_pos n2])
      clear n1 n2 hQ
      go_enter Tryd.func77, Tryd.ntmps77
      go_wp2_with (go_at_call 78; refine (hG.out _).mono ?_; rintro e w1 ⟨rfl, hb1⟩)
      go_ret
      exact ⟨ret_boolW hr.out.symm, hb1⟩
  · have n1 : x.wh = 1 := by simpa using h1
    have hr : Hid (askB owner group u g len f x = (u == owner)) := (by show _ = _; rw [hQ.out, if_pos n1])
    clear n1 hQ hG
    go_enter Tryd.func77, Tryd.ntmps77
    go_wp2
    go_ret
    exact ⟨ret_boolW hr.out.symm, hB.out⟩
end Go.Proofs.YtdidbaadladkpaaDoor
/- impl.given: what the aces that hold and are of somebody give. -/
namespace Go.Proofs.YtdidbaadladkpaaDoor
open Go.RowKit Go.PlainAid Go.Shelf
set_option linter.unusedVariables false
attribute [local go_sem] Oper.semAt_some
set_option maxRecDepth 100000 in
set_option maxHeartbeats 4000000 in
/-- impl.given at the test of who asks. -/
theorem givenK_any (a : Option Addr) (len cap : Nat) (l : List Ac) (Cc Co Cg : Nat) (p : Ac → Bool) (hl : len ≤ 1000) (hfl : ∀ i, i < len → 0 ≤ (acAt l i).fl ∧ (acAt l i).fl ≤ 15) (w : World) (hA : Acs a len l w)
    (hP : ∀ x W', Below w.heap.size w W' → Calls Tryd.prog 77 #[.agg #[.bool x.al, .int .i64 x.wh, .int .i64 x.id, .int .i64 x.fl, .int .i64 x.ma], .pointer (some ⟨Cc, 0, none⟩), .pointer (some ⟨Co, 0, none⟩), .pointer (some ⟨Cg, 0, none⟩)] W' fun e W'' => e = .returned (.bool (p x)) ∧ Below W'.heap.size W' W'') :
    Calls Tryd.prog 44 #[.slice a len cap, .func (.func 77) #[] #[.pointer (some ⟨Cc, 0, none⟩), .pointer (some ⟨Co, 0, none⟩), .pointer (some ⟨Cg, 0, none⟩)]] w fun e w' => e = .returned (.int .i64 (giveI (fltP p l len)).1) ∧ Below w.heap.size w w' := by
  refine (callsIn_wide (n := 6)).1 ?_
  refine callsIn_of_wp_marks Tryd.func44 rfl trivial ?_ rfl
  simp only [Tryd.ntmps44, List.size_toArray, List.length_cons, List.length_nil, Nat.reduceAdd, Nat.reduceSub, Array.replicate_succ, Array.replicate_zero, List.push_toArray, List.append_toArray, List.nil_append, List.cons_append]
  gi_wp2_with (refine ⟨trivial, ?_⟩; gi_at_call 76; refine (callsIn_wide.2 (holding_any _ _ _ _ _ _)).mono ?_; rintro e w2 ⟨rfl, rfl⟩)
  have z1 : (w.alloc (.cells #[.int .i64 0] 2)).heap.size = w.heap.size + 1 := by simp
  have z2 : ((w.alloc (.cells #[.int .i64 0] 2)).alloc (.cells #[.int .i64 0] 2)).heap.size = w.heap.size + 1 + 1 := by simp
  have z3 : (((w.alloc (.cells #[.int .i64 0] 2)).alloc (.cells #[.int .i64 0] 2)).alloc (.cells #[.slice a len cap] 23)).heap.size = w.heap.size + 1 + 1 + 1 := by simp
  have z4 : ((((w.alloc (.cells #[.int .i64 0] 2)).alloc (.cells #[.int .i64 0] 2)).alloc (.cells #[.slice a len cap] 23)).alloc (.cells #[.func (.func 77) #[] #[.pointer (some ⟨Cc, 0, none⟩), .pointer (some ⟨Co, 0, none⟩), .pointer (some ⟨Cg, 0, none⟩)]] 46)).heap.size = w.heap.size + 1 + 1 + 1 + 1 := by simp
  have b1 := bel_alloc w (.cells #[.int .i64 0] 2)
  have b2 := bel_alloc (w.alloc (.cells #[.int .i64 0] 2)) (.cells #[.int .i64 0] 2)
  have b3 := bel_alloc ((w.alloc (.cells #[.int .i64 0] 2)).alloc (.cells #[.int .i64 0] 2)) (.cells #[.slice a len cap] 23)
  have b4 := bel_alloc (((w.alloc (.cells #[.int .i64 0] 2)).alloc (.cells #[.int .i64 0] 2)).alloc (.cells #[.slice a len cap] 23)) (.cells #[.func (.func 77) #[] #[.pointer (some ⟨Cc, 0, none⟩), .pointer (some ⟨Co, 0, none⟩), .pointer (some ⟨Cg, 0, none⟩)]] 46)
  have hB0 : Below w.heap.size w ((((w.alloc (.cells #[.int .i64 0] 2)).alloc (.cells #[.int .i64 0] 2)).alloc (.cells #[.slice a len cap] 23)).alloc (.cells #[.func (.func 77) #[] #[.pointer (some ⟨Cc, 0, none⟩), .pointer (some ⟨Co, 0, none⟩), .pointer (some ⟨Cg, 0, none⟩)]] 46)) := Below.on (Below.on (Below.on b1 b2) b3) b4
  have b14 : Below (w.alloc (.cells #[.int .i64 0] 2)).heap.size (w.alloc (.cells #[.int .i64 0] 2)) ((((w.alloc (.cells #[.int .i64 0] 2)).alloc (.cells #[.int .i64 0] 2)).alloc (.cells #[.slice a len cap] 23)).alloc (.cells #[.func (.func 77) #[] #[.pointer (some ⟨Cc, 0, none⟩), .pointer (some ⟨Co, 0, none⟩), .pointer (some ⟨Cg, 0, none⟩)]] 46)) := Below.on (Below.on b2 b3) b4
  have b24 : Below ((w.alloc (.cells #[.int .i64 0] 2)).alloc (.cells #[.int .i64 0] 2)).heap.size ((w.alloc (.cells #[.int .i64 0] 2)).alloc (.cells #[.int .i64 0] 2)) ((((w.alloc (.cells #[.int .i64 0] 2)).alloc (.cells #[.int .i64 0] 2)).alloc (.cells #[.slice a len cap] 23)).alloc (.cells #[.func (.func 77) #[] #[.pointer (some ⟨Cc, 0, none⟩), .pointer (some ⟨Co, 0, none⟩), .pointer (some ⟨Cg, 0, none⟩)]] 46)) := Below.on b3 b4
  have ha := cell_newG w (.int .i64 0) 2
  have ha0 : ((((w.alloc (.cells #[.int .i64 0] 2)).alloc (.cells #[.int .i64 0] 2)).alloc (.cells #[.slice a len cap] 23)).alloc (.cells #[.func (.func 77) #[] #[.pointer (some ⟨Cc, 0, none⟩), .pointer (some ⟨Co, 0, none⟩), .pointer (some ⟨Cg, 0, none⟩)]] 46)).cell? ⟨w.heap.size, 0, none⟩ = some (.int .i64 0) := (b14.cell (p := ⟨w.heap.size, 0, none⟩) (by rw [z1]; show w.heap.size < _; omega)).trans ha.1
  have ha1 : ((((w.alloc (.cells #[.int .i64 0] 2)).alloc (.cells #[.int .i64 0] 2)).alloc (.cells #[.slice a len cap] 23)).alloc (.cells #[.func (.func 77) #[] #[.pointer (some ⟨Cc, 0, none⟩), .pointer (some ⟨Co, 0, none⟩), .pointer (some ⟨Cg, 0, none⟩)]] 46)).frozen? ⟨w.heap.size, 0, none⟩ = false := (b14.frozen (p := ⟨w.heap.size, 0, none⟩) (by rw [z1]; show w.heap.size < _; omega)).trans ha.2
  have hs := cell_newG (w.alloc (.cells #[.int .i64 0] 2)) (.int .i64 0) 2
  rw [z1] at hs
  have hs0 : ((((w.alloc (.cells #[.int .i64 0] 2)).alloc (.cells #[.int .i64 0] 2)).alloc (.cells #[.slice a len cap] 23)).alloc (.cells #[.func (.func 77) #[] #[.pointer (some ⟨Cc, 0, none⟩), .pointer (some ⟨Co, 0, none⟩), .pointer (some ⟨Cg, 0, none⟩)]] 46)).cell? ⟨w.heap.size + 1, 0, none⟩ = some (.int .i64 0) := (b24.cell (p := ⟨w.heap.size + 1, 0, none⟩) (by rw [z2]; show w.heap.size + 1 < _; omega)).trans hs.1
  have hs1 : ((((w.alloc (.cells #[.int .i64 0] 2)).alloc (.cells #[.int .i64 0] 2)).alloc (.cells #[.slice a len cap] 23)).alloc (.cells #[.func (.func 77) #[] #[.pointer (some ⟨Cc, 0, none⟩), .pointer (some ⟨Co, 0, none⟩), .pointer (some ⟨Cg, 0, none⟩)]] 46)).frozen? ⟨w.heap.size + 1, 0, none⟩ = false := (b24.frozen (p := ⟨w.heap.size + 1, 0, none⟩) (by rw [z2]; show w.heap.size + 1 < _; omega)).trans hs.2
  have hBl := cell_newG ((w.alloc (.cells #[.int .i64 0] 2)).alloc (.cells #[.int .i64 0] 2)) (.slice a len cap) 23
  rw [z2] at hBl
  have hBl0 : ((((w.alloc (.cells #[.int .i64 0] 2)).alloc (.cells #[.int .i64 0] 2)).alloc (.cells #[.slice a len cap] 23)).alloc (.cells #[.func (.func 77) #[] #[.pointer (some ⟨Cc, 0, none⟩), .pointer (some ⟨Co, 0, none⟩), .pointer (some ⟨Cg, 0, none⟩)]] 46)).cell? ⟨w.heap.size + 1 + 1, 0, none⟩ = some (.slice a len cap) := (b4.cell (p := ⟨w.heap.size + 1 + 1, 0, none⟩) (by rw [z3]; show w.heap.size + 1 + 1 < _; omega)).trans hBl.1
  have hBf := cell_newG (((w.alloc (.cells #[.int .i64 0] 2)).alloc (.cells #[.int .i64 0] 2)).alloc (.cells #[.slice a len cap] 23)) (.func (.func 77) #[] #[.pointer (some ⟨Cc, 0, none⟩), .pointer (some ⟨Co, 0, none⟩), .pointer (some ⟨Cg, 0, none⟩)]) 46
  rw [z3] at hBf
  generalize ((((w.alloc (.cells #[.int .i64 0] 2)).alloc (.cells #[.int .i64 0] 2)).alloc (.cells #[.slice a len cap] 23)).alloc (.cells #[.func (.func 77) #[] #[.pointer (some ⟨Cc, 0, none⟩), .pointer (some ⟨Co, 0, none⟩), .pointer (some ⟨Cg, 0, none⟩)]] 46)) = W0 at hB0 ha0 ha1 hs0 hs1 hBl0 hBf z4 ⊢
  clear b1 b2 b3 b4 b14 b24 hs ha hBl z1 z2 z3
  refine wpIn_rangeFunc_ownH rfl (by omega) (gf := 99) (lb := #[.pointer (some ⟨w.heap.size + 1 + 1, 0, none⟩), .pointer (some ⟨w.heap.size + 1 + 1 + 1, 0, none⟩)]) rfl trivial (enters_of Tryd.func99 (by kernel_rfl) rfl)
    (holdK_stops 5 (by omega) (w.heap.size + 1 + 1) (w.heap.size + 1 + 1 + 1) w.heap.size (w.heap.size + 1 + 1) W0.heap.size Cc Co Cg a len cap l p hl W0 (hA.below hB0) (fun h A e => by obtain ⟨b, off, e2, hb, _⟩ := hA.2 h; rw [e2] at e; cases e; exact hb) (by omega) (by omega) hfl hB0.size (Nat.le_refl _)
      (fun x W' hK => hP x W' (hB0.trans hK.1)) hBl0 hBf.1)
    kpC_t (kpC_b hB0.size) (Below.refl _ _) (fun _ => rfl)
    (fun pre W => ((W.cell? ⟨w.heap.size, 0, none⟩ = some (.int .i64 (giveI pre).1) ∧ W.frozen? ⟨w.heap.size, 0, none⟩ = false) ∧ (W.cell? ⟨w.heap.size + 1, 0, none⟩ = some (.int .i64 (giveI pre).2) ∧ W.frozen? ⟨w.heap.size + 1, 0, none⟩ = false)) ∧ (Below w.heap.size w W ∧ W0.heap.size ≤ W.heap.size))
    (fun _ _ _ => False)
    (OwnFrom.and (Own.from (fun s A B row hs hg hr => ⟨⟨cell_kept hs.1.1 hg hr, (frozen_kept hs.1.1 hg hr).trans hs.1.2⟩, ⟨cell_kept hs.2.1 hg hr, (frozen_kept hs.2.1 hg hr).trans hs.2.2⟩⟩) _) (OwnFrom.and (ownFrom_below (Nat.le_refl _) hB0.size) (fun _ _ _ _ hs hg _ => Nat.le_trans hs hg.size)))
    (fun _ _ _ _ _ hs _ _ => hs)
    ⟨⟨⟨ha0, ha1⟩, hs0, hs1⟩, hB0, Nat.le_refl _⟩
    (fun x a' W => ∃ Bx, W0.heap.size ≤ Bx ∧ Five W Bx 0 x ∧ a' = { tmps := #[.slice a len cap, .func (.func 77) #[] #[.pointer (some ⟨Cc, 0, none⟩), .pointer (some ⟨Co, 0, none⟩), .pointer (some ⟨Cg, 0, none⟩)], undef, undef, .int .i64 0, .pointer (some ⟨w.heap.size, 0, none⟩), .pointer (some ⟨w.heap.size + 1, 0, none⟩), .pointer (some ⟨Bx, 0, none⟩), .slice a len cap, .func (.func 77) #[] #[.pointer (some ⟨Cc, 0, none⟩), .pointer (some ⟨Co, 0, none⟩), .pointer (some ⟨Cg, 0, none⟩)], .func (.func 99) #[] #[.pointer (some ⟨w.heap.size + 1 + 1, 0, none⟩), .pointer (some ⟨w.heap.size + 1 + 1 + 1, 0, none⟩)], .agg #[.bool x.al, .int .i64 x.wh, .int .i64 x.id, .int .i64 x.fl, .int .i64 x.ma], undef, undef, undef, undef, undef, undef, undef, undef, undef, undef, undef, undef, undef], defers := [] })
    (fun x a' s A B row hs hg hr => by obtain ⟨Bx, h1, h2, h3⟩ := hs; exact ⟨Bx, h1, five_keptG h2 hg (fun r e => (hr r e).2), h3⟩)
    ?assign ?body ?done ?stop
  case assign =>
    rintro lp pre x W K ⟨⟨⟨hc, hf⟩, hc2, hf2⟩, hB, hsz⟩ hK
    gi_wp2
    have hba := bel_alloc W (.cells #[.bool x.al, .int .i64 x.wh, .int .i64 x.id, .int .i64 x.fl, .int .i64 x.ma] 33)
    have hlt1 := block_lt_of_cell hc
    have hlt2 := block_lt_of_cell hc2
    exact hK _ _ ((KeepsOthers.alloc _ _).from _) (kpC_grow hba hB.size hsz) ⟨⟨⟨(hba.cell (p := ⟨w.heap.size, 0, none⟩) hlt1).trans hc, (hba.frozen (p := ⟨w.heap.size, 0, none⟩) hlt1).trans hf⟩, (hba.cell (p := ⟨w.heap.size + 1, 0, none⟩) hlt2).trans hc2, (hba.frozen (p := ⟨w.heap.size + 1, 0, none⟩) hlt2).trans hf2⟩, Below.on hB hba, Nat.le_trans hsz hba.size⟩ ⟨W.heap.size, hsz, five_new W x _, rfl⟩
  case body =>
    rintro lp pre x a' W hlp hr ⟨⟨⟨hc, hf⟩, hc2, hf2⟩, hB, hsz⟩ ⟨Bx, hBx, hF, rfl⟩ hlt
    obtain ⟨c0, c1, c2, c3, c4⟩ := hF
    simp only [Nat.zero_add] at c1 c2 c3 c4
    have hne1 : ¬ Bx = w.heap.size := by omega
    have hne2 : ¬ w.heap.size = Bx := by omega
    cases hal : x.al
    · rw [hal] at c0
      gi_wp2
      refine ⟨(KeepsOthers.setCell _ _ _).from _, ⟨bl_setA (Below.refl _ _) (by omega), fun c o v h1 h2 hv => ?_⟩, ⟨⟨⟨?_, ?_⟩, ?_, ?_⟩, bl_setA hB (by omega), by simpa using hsz⟩⟩
      · rw [World.cell?_setCell_other _ _ _ _ (by intro h; have h2 := congrArg Addr.block h; simp only at h2; omega)]
        exact hv
      · rw [World.cell?_setCell_other _ _ _ _ (by intro h; have h2 := congrArg Addr.block h; simp only at h2; omega), giveI_no hal]
        exact hc
      · rw [World.frozen?_setCell]
        exact hf
      · rw [giveI_said]
        exact World.cell?_setCell_same' _ _ _ (by rw [hc2]; rfl)
      · rw [World.frozen?_setCell]
        exact hf2
    · rw [hal] at c0
      gi_wp2
      refine ⟨((KeepsOthers.setCell _ _ _).trans (KeepsOthers.setCell _ _ _)).from _, ⟨bl_setA (bl_setA (Below.refl _ _) (by omega)) (by omega), fun c o v h1 h2 hv => ?_⟩, ⟨⟨⟨?_, ?_⟩, ?_, ?_⟩, bl_setA (bl_setA hB (by omega)) (by omega), by simpa using hsz⟩⟩
      · rw [World.cell?_setCell_other _ _ _ _ (by intro h; have h2 := congrArg Addr.block h; simp only at h2; omega), World.cell?_setCell_other _ _ _ _ (by intro h; have h2 := congrArg Addr.block h; simp only at h2; omega)]
        exact hv
      · rw [World.cell?_setCell_other _ _ _ _ (by intro h; have h2 := congrArg Addr.block h; simp only at h2; omega), giveI_al hal]
        exact World.cell?_setCell_same' _ _ _ (by rw [hc]; rfl)
      · rw [World.frozen?_setCell, World.frozen?_setCell]
        exact hf
      · rw [giveI_said]
        exact World.cell?_setCell_same' _ _ _ (by rw [World.cell?_setCell_other _ _ _ _ (by intro h; have h2 := congrArg Addr.block h; simp only at h2; omega), hc2]; rfl)
      · rw [World.frozen?_setCell, World.frozen?_setCell]
        exact hf2
  case done =>
    rintro D ys W hD rfl ⟨⟨⟨hc, hf⟩, hc2, hf2⟩, hB, hsz⟩ hK
    gi_wp2
    refine ⟨by simp, .inl ⟨_, _, rfl, run_takeDeferred hK, ?_⟩⟩
    exact ⟨_, results_tmp rfl _ _ _, rfl, hB.trans (belowK_b (w := w) (Nat.le_refl _) W D _ _ (Nat.le_trans hB0.size hD) hK rfl rfl)⟩
  case stop =>
    rintro D c pre W _ _ h _
    exact h.elim
end Go.Proofs.YtdidbaadladkpaaDoor
