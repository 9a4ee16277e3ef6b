/- Laid together: StepA, OwN, OwNd. -/
import Derived.Laws.MakeOwn
import Derived.OwnWalk
import Derived.Test.YtgodbelcddgdmaaGreatNF24
import Derived.Test.YtgodbelcddgdmaaGreatNF19
import Derived.Test.YtgodbelcddgdmaaGreatNF25
import Derived.Deep.DeepCutAuto
/- The builtin append, by what it runs to; worlds that drew. -/
namespace Go.Proofs.YtgodbelcddgdmaaGreat
open Go.RowKit Go.PlainAid Go.Deep
set_option linter.unusedVariables false
theorem bdZ {w w' : World} (h : Below w.drew.heap.size w.drew w') : Below w.heap.size w w' := ⟨h.os, h.tape, h.output, h.size, h.block⟩
/-- append as one step of a region that draws, by what it runs to. -/
theorem step_append_run {P : Program} {ops : Array Oper} {o : Oper} {a : Act} {w : World} {K : Act → World → Prop} {Q : Exit → Act → World → Prop} {E : Prop}
    (hg : o.guard = none) (s x : Operand) (t : TypeId) (hop : o.op = Op.call { callee := Callee.builtin Builtin.append, args := #[s, x], argTypes := #[t, t] })
    (v xv v' : Value) (w' : World) (hs : a.eval s = v) (hx : a.eval x = xv) (hr : (Builtin.append_ #[t, t] o.type #[v, xv]).run P w = .ok v' w')
    (hK : K (a.put o.dst v') w') :
    if Region.wanted o (yielded ops a.tmps) = true then Oper.wp P o a w K Q else E := by
  have hw : Region.wanted o (yielded ops a.tmps) = true := by simp [Region.wanted, hg]
  rw [if_pos hw]
  unfold Oper.wp
  simp [execOp, hop, resolve, invoke, builtin, hs, hx, hr, Result.andThen]
  exact hK
theorem rowE_below {w w' : World} {B : Nat} {t : TypeId} {v : Value} {n : Nat} {xs : List Value} (h : w.ownsRow B t 2 v n xs) (hb : Below w.heap.size w w') : w'.ownsRow B t 2 v n xs := by
  obtain ⟨h0, ⟨rfl, hn⟩ | ⟨g, cap, cur, rfl, hB, hg, hc, hm, hs, ht⟩⟩ := h
  · exact ⟨h0, .inl ⟨rfl, hn⟩⟩
  · have hlt : g < w.heap.size := (Array.getElem?_eq_some_iff.1 hg).1
    exact ⟨h0, .inr ⟨g, cap, cur, rfl, hB, (hb.block g hlt).trans hg, hc, hm, hs, ht⟩⟩
theorem own_ltE {w : World} {B : Nat} {t : TypeId} {v : Value} {n : Nat} {xs : List Value} (h : w.ownsRow B t 2 v n xs) : v.ownBlock ≠ some w.heap.size := by
  obtain ⟨_, ⟨rfl, _⟩ | ⟨g, cap, cur, rfl, _, hg, _⟩⟩ := h
  · simp [Value.ownBlock]
  · have hlt : g < w.heap.size := (Array.getElem?_eq_some_iff.1 hg).1
    simp [Value.ownBlock]
    omega
/-- A row of entries that is owned, as a list that may be written. -/
theorem own_E {w : World} {B : Nat} {t : TypeId} {v : Value} {l : List (ByteArray × Int)} (h : w.ownsRow B t 2 v l.length (pcE l)) :
    ∃ a cap, v = .slice a l.length cap ∧ OwnE a l.length l w ∧ (∀ A, a = some A → B ≤ A.block ∧ A.block < w.heap.size) := by
  obtain ⟨_, ⟨rfl, hn⟩ | ⟨g, cap, cur, rfl, hb, hg, hc, _, hs, ht⟩⟩ := h
  · exact ⟨none, 0, by rw [hn], ⟨rfl, fun h => absurd h (by omega)⟩, fun A e => by cases e⟩
  · have hlt : g < w.heap.size := (Array.getElem?_eq_some_iff.1 hg).1
    refine ⟨some ⟨g, 0, none⟩, cap, rfl, ⟨rfl, fun _ => ⟨g, rfl, hlt, fun i hi => ?_⟩⟩, fun A e => by cases e; exact ⟨hb, hlt⟩⟩
    obtain ⟨g1, g2⟩ := pcE_get l i hi
    rw [← ht, List.getElem?_take_of_lt (by omega)] at g1 g2
    have hcl : ∀ o, w.cell? ⟨g, o, none⟩ = cur[o]? := fun o => by simp [World.cell?, hg]
    rw [hcl, hcl]
    refine ⟨⟨by simpa using g1, by simpa using g2⟩, ?_, ?_⟩
    · simp only [World.frozen?, hg]; simp
    · simp only [World.frozen?, hg]; simp
theorem pcE_snoc (l : List (ByteArray × Int)) (x : ByteArray) (y : Int) : pcE (l ++ [(x, y)]) = pcE l ++ pcE [(x, y)] := by
  induction l with
  | nil => rfl
  | cons p l ih => simp only [List.cons_append, pcE, ih]
theorem ent_at {ns : List (ByteArray × Int)} {k : Nat} (h : k < ns.length) : ns.take (k + 1) = ns.take k ++ [(nmAt ns k, noAt ns k)] := by
  have e : (nmAt ns k, noAt ns k) = ns[k] := by simp [nmAt, noAt, List.getD, h]
  rw [e]
  exact List.take_succ_eq_append_getElem h
theorem append_entG (w0 w : World) (v : Value) (l : List (ByteArray × Int)) (hown : w.ownsRow w0.heap.size 72 2 v l.length (pcE l)) (hB : Below w0.heap.size w0 w) (x : ByteArray) (y : Int) (hsm : l.length ≤ 2000000) :
    ∃ v' w', (Builtin.append_ #[29, 29] 29 #[v, .slice (some ⟨w.heap.size, 0, none⟩) 1 1]).run Tryz.prog (w.alloc (.cells #[.string x, .int .i64 y] 72)) = .ok v' w' ∧ w'.ownsRow w0.heap.size 72 2 v' (l ++ [(x, y)]).length (pcE (l ++ [(x, y)])) ∧ Below w0.heap.size w0 w' ∧ (∀ b o, b < w.heap.size → v.ownBlock ≠ some b → w'.cell? ⟨b, o, none⟩ = w.cell? ⟨b, o, none⟩) := by
  obtain ⟨i, hi, hzz⟩ := Option.map_eq_some_iff.1 infoEntryC
  simp only [Prod.mk.injEq] at hzz
  obtain ⟨hz, hs, hb⟩ := hzz
  have hb1 := bel_alloc w (.cells #[.string x, .int .i64 y] 72)
  have hB1 := Below.on hB hb1
  have hown1 := rowE_below hown hb1
  obtain ⟨p0, p1⟩ := pair_new w (.string x) (.int .i64 y) 72
  have hnw : ∀ j u, (pcE [(x, y)])[j]? = some u → (w.alloc (.cells #[.string x, .int .i64 y] 72)).cell? ((⟨w.heap.size, 0, none⟩ : Addr).add j) = some u := ens_news (fun i hi => by
    have e : i = 0 := by simpa using hi
    subst e
    exact ⟨p0, p1⟩)
  obtain ⟨v', w', hr, h1, h2, _⟩ := run_append_own (P := Tryz.prog) _ w0.heap.size 29 29 72 i _ 2 24 Tryz.underlying29 hi hz hs hb rfl (by decide) v l.length (pcE l) hown1 ⟨w.heap.size, 0, none⟩ 1 1 (pcE [(x, y)]) (pcE_length _) hnw (pcE_one _) (by unfold maxLen; omega) (by omega) hB1.size
  refine ⟨v', w', hr, ?_, hB1.grown h2 hB1.size (own_blockU hown1), fun b o hlt hne => ?_⟩
  · rw [pcE_snoc, List.length_append]
    exact h1
  · exact (World.cell?_of_block (a := ⟨b, o, none⟩) (h2.block b (by simp; omega) (fun e => hne e.symm))).trans (hb1.cell (p := ⟨b, o, none⟩) hlt)
set_option maxRecDepth 20000 in
set_option maxHeartbeats 8000000 in
theorem iOwnNames_any (a : Option Addr) (len cap : Nat) (ns : List (ByteArray × Int)) (hl : len ≤ 1048576) (hf : ∀ i, i < ns.length → (nmAt ns i).size ≤ 1048576) (w : World) (hi : Ens a len ns w) :
    Calls Tryz.prog 42 #[.slice a len cap] w fun e w' => ∃ a' c', e = .returned (.slice a' len c') ∧ OwnE a' len ns w' ∧ (∀ A, a' = some A → w.heap.size ≤ A.block ∧ A.block < w'.heap.size) ∧ Below w.heap.size w w' := by
  have HI : Hid (Ens a len ns w) := hi
  have HF : Hid (∀ i, i < ns.length → (nmAt ns i).size ≤ 1048576) := hf
  have hll : ns.length = len := hi.1
  clear hi hf
  go_enter Tryz.func42, Tryz.ntmps42
  go_wp2
  go_loopw [3, 8] (fun v i wr => ∃ k : Nat, k ≤ len ∧ i = .int .i64 k ∧ Hid (wr.ownsRow w.heap.size 72 2 v (ns.take k).length (pcE (ns.take k))) ∧ Hid (Below w.heap.size w wr)) (fun _ i _ => len - (intOf i).toNat)
  case atStart => exact ⟨0, Nat.zero_le _, rfl, World.ownsRow_nil _ _ _ _, Below.refl _ _⟩
  case round =>
    obtain ⟨k, hk, rfl, hOw, hB⟩ := hrel
    by_cases hlt : k < len
    · have hlt' : (k : Int) < (len : Int) := by omega
      have hk0 : (0 : Int) ≤ (k : Int) := by omega
      obtain ⟨b, off, rfl, hbl, hcl⟩ := HI.out.2 (by omega)
      have c0 : wr.cell? ⟨b, off + k * 2, none⟩ = some (.string (nmAt ns k)) := (hB.out.cell (p := ⟨b, off + k * 2, none⟩) hbl).trans (hcl k hlt).1
      have c1 : wr.cell? ⟨b, off + k * 2 + 1, none⟩ = some (.int .i64 (noAt ns k)) := (hB.out.cell (p := ⟨b, off + k * 2 + 1, none⟩) hbl).trans (hcl k hlt).2
      have hn : Hid (ns.take (k + 1) = ns.take k ++ [(nmAt ns k, noAt ns k)]) := ent_at (by omega)
      have hsz : (nmAt ns k).size ≤ 1048576 := HF.out k (by omega)
      have hlk : (ns.take k).length ≤ 1048576 := by rw [List.length_take]; omega
      clear hcl
      generalize nmAt ns k = x at c0 hn hsz
      generalize noAt ns k = y at c1 hn
      go_wp2_with fail
      obtain ⟨p0, p1⟩ := pair_new wr (.string x) (.int .i64 y) 72
      have HB1 : Hid (Below w.heap.size w (wr.alloc (.cells #[.string x, .int .i64 y] 72))) := Below.onA hB.out
      have HO1 : Hid ((wr.alloc (.cells #[.string x, .int .i64 y] 72)).ownsRow w.heap.size 72 2 u3 (ns.take k).length (pcE (ns.take k))) := rowE_below hOw.out (bel_alloc _ _)
      have HLT : Hid (wr.heap.size < (wr.alloc (.cells #[.string x, .int .i64 y] 72)).heap.size) := (show _ < _ by simp)
      have HNE : Hid (u3.ownBlock ≠ some wr.heap.size) := own_ltE hOw.out
      have P0 : Hid ((wr.alloc (.cells #[.string x, .int .i64 y] 72)).cell? ⟨wr.heap.size, 0, none⟩ = some (.string x)) := p0
      have P1 : Hid ((wr.alloc (.cells #[.string x, .int .i64 y] 72)).cell? ⟨wr.heap.size, 1, none⟩ = some (.int .i64 y)) := p1
      clear p0 p1 c0 c1 hOw hB
      generalize wr.alloc (.cells #[.string x, .int .i64 y] 72) = w1 at HB1 HO1 HLT P0 P1 ⊢
      generalize wr.heap.size = X at HLT HNE P0 P1 ⊢
      have p0 := P0.out
      have p1 := P1.out
      go_region_held3 (fun w' => w'.cell? ⟨X, 0, none⟩ = some (.string x) ∧ w'.cell? ⟨X, 1, none⟩ = some (.int .i64 y)) (go_keep)
        (first
          | (refine step_append_run rfl (.tmp 12) (.tmp 20) 29 rfl u3 (.slice (some ⟨wb.heap.size, 0, none⟩) 1 1) v2 w2 (by simp [Act.eval]) (by simp [Act.eval]) HRR.out ?_)
          | (go_at_call 41; (first | refine (join_one x w1.drew (by omega)).mono ?_ | refine (join_one x w1 (by omega)).mono ?_); rintro e wb ⟨rfl, hbb⟩; have hBb : Hid (Below w1.heap.size w1 wb) := (by first | exact bdZ hbb | exact hbb); obtain ⟨v2, w2, hr, hO2, hB2, hk2⟩ := append_entG w wb u3 (ns.take k) (rowE_below HO1.out hBb.out) (Below.on HB1.out hBb.out) x y (by omega); rw [← hn.out] at hO2; have yb0 := (hBb.out.cell (p := ⟨X, 0, none⟩) HLT.out).trans P0.out; have yb1 := (hBb.out.cell (p := ⟨X, 1, none⟩) HLT.out).trans P1.out; have yc0 := (hk2 X 0 (Nat.lt_of_lt_of_le HLT.out hBb.out.size) HNE.out).trans yb0; have yc1 := (hk2 X 1 (Nat.lt_of_lt_of_le HLT.out hBb.out.size) HNE.out).trans yb1; have HRR : Hid ((Builtin.append_ #[29, 29] 29 #[u3, .slice (some ⟨wb.heap.size, 0, none⟩) 1 1]).run Tryz.prog (wb.alloc (.cells #[.string x, .int .i64 y] 72)) = .ok v2 w2) := hr; have HO2 : Hid (w2.ownsRow w.heap.size 72 2 v2 (ns.take (k + 1)).length (pcE (ns.take (k + 1)))) := hO2; have HB2 : Hid (Below w.heap.size w w2) := hB2; clear hr hO2 hB2 hk2))
      clear p0 p1 yb0 yb1 yc0 yc1 hbb
      go_wp2
      go_roundw
      case rel => exact ⟨k + 1, by omega, by go_num, HO2, HB2⟩
      case measure => simp [intOf]; omega
    · have : k = len := by omega
      subst this
      have hO2 := hOw.out
      rw [← hll, List.take_length] at hO2
      obtain ⟨a', c', hv, hE, hA⟩ := own_E hO2
      have HEq : Hid (u3 = .slice a' ns.length c') := hv
      have HE2 : Hid (OwnE a' ns.length ns wr) := hE
      have HA : Hid (∀ A, a' = some A → w.heap.size ≤ A.block ∧ A.block < wr.heap.size) := hA
      clear hO2 hv hE hA hOw
      go_wp2
      go_ret
      exact ⟨a', c', (by first | rfl | (rw [HEq.out, hll]; rfl) | rw [HEq.out, hll]), by rw [← hll]; exact HE2.out, HA.out, hB.out⟩
end Go.Proofs.YtgodbelcddgdmaaGreat
/- impl.ownNode: a copy of a node, whose lists may be written. -/
namespace Go.Proofs.YtgodbelcddgdmaaGreat
open Go.RowKit Go.PlainAid Go.Deep
set_option linter.unusedVariables false
set_option linter.unusedSimpArgs false
theorem bd0 (w : World) : Below w.heap.size w w.drew := (Below.refl _ _).drew
theorem newZ {w w1 : World} {a b : Option Addr} {m n : Nat} {k l : List (Int × Int)} (h : New w.drew w1 a m k b n l) : New w w1 a m k b n l := h.pre (bd0 w)
theorem step_store_list {P : Program} {ops : Array Oper} {o : Oper} {a : Act} {w : World} {K : Act → World → Prop} {Q : Exit → Act → World → Prop} {E : Prop}
    (hg : o.guard = none) (ty : TypeId) (x y : Operand) (ho : o.op = .store ty x y) (b f : Nat) (cs : List Value) (hx : a.eval x = .pointer (some ⟨b, f, none⟩)) (hy : a.eval y = .agg cs.toArray)
    (ht : w.there b f cs.length) (hi : (P.info? ty).map (·.size) = some cs.length) (h1 : cs.toArray.all (·.oneCell') = true) (hK : K (a.put o.dst undef) (w.setCells b f cs)) :
    if Region.wanted o (yielded ops a.tmps) = true then Oper.wp P o a w K Q else E := by
  have hw : Region.wanted o (yielded ops a.tmps) = true := by simp [Region.wanted, hg]
  rw [if_pos hw]
  exact wp_store_mid ty x y ho b f cs.toArray hx hy (by simpa using ht) (by simpa using hi) h1 (by simpa using hK)
/-- The four lists of names of a copied node: where they lie. -/
structure Ls4 (X s1 : Nat) (x : Nd) (y : Na) (w : World) : Prop where
  aU : Own y.aU x.A.us.length x.A.us w
  aG : Own y.aG x.A.gs.length x.A.gs w
  dU : Own y.dU x.D.us.length x.D.us w
  dG : Own y.dG x.D.gs.length x.D.gs w
  rA : ∀ A, y.aU = some A → X + 1 < A.block ∧ A.block < s1
  rG : ∀ A, y.aG = some A → X + 1 < A.block ∧ A.block < s1
  rD : ∀ A, y.dU = some A → s1 ≤ A.block ∧ A.block < w.heap.size
  rE : ∀ A, y.dG = some A → s1 ≤ A.block ∧ A.block < w.heap.size
  n1 : ∀ A A2, y.aU = some A → y.aG = some A2 → A.block ≠ A2.block
  n2 : ∀ A A2, y.dU = some A → y.dG = some A2 → A.block ≠ A2.block
  lo : X + 1 < s1
  le : s1 ≤ w.heap.size
theorem ls4_of {w0 w1 w2 : World} {X : Nat} {x : Nd} {a1 a2 b1 b2 n : Option Addr} {c1 c2 d1 d2 m : Nat} (hX : X + 1 < w0.heap.size) (h1 : New w0 w1 a1 x.A.us.length x.A.us a2 x.A.gs.length x.A.gs) (h2 : New w1 w2 b1 x.D.us.length x.D.us b2 x.D.gs.length x.D.gs) (v1 v2 : List Value) (i j : Nat) :
    Ls4 X w1.heap.size x ⟨a1, c1, a2, c2, b1, d1, b2, d2, n, m⟩ ((w2.setCells X i v1).setCells X j v2) := by
  have s1 := h1.bel.size
  have s2 := h2.bel.size
  have p1 : ∀ b f, a1 = some ⟨b, f, none⟩ → b ≠ X := fun b f e => by have h := (h1.iu _ e).1; simp only at h; omega
  have p2 : ∀ b f, a2 = some ⟨b, f, none⟩ → b ≠ X := fun b f e => by have h := (h1.ig _ e).1; simp only at h; omega
  have p3 : ∀ b f, b1 = some ⟨b, f, none⟩ → b ≠ X := fun b f e => by have h := (h2.iu _ e).1; simp only at h; omega
  have p4 : ∀ b f, b2 = some ⟨b, f, none⟩ → b ≠ X := fun b f e => by have h := (h2.ig _ e).1; simp only at h; omega
  exact ⟨((h1.ou.below h2.bel).setsA p1 _ _).setsA p1 _ _, ((h1.og.below h2.bel).setsA p2 _ _).setsA p2 _ _, (h2.ou.setsA p3 _ _).setsA p3 _ _, (h2.og.setsA p4 _ _).setsA p4 _ _,
    fun A e => by have := h1.iu A e; omega, fun A e => by have := h1.ig A e; omega,
    fun A e => by have := h2.iu A e; simpa only [size_setCellsT] using this, fun A e => by have := h2.ig A e; simpa only [size_setCellsT] using this, h1.ne, h2.ne, by omega, by simpa only [size_setCellsT] using s2⟩
theorem ownNd_end {w wx w3 w4 : World} {X s1 : Nat} {x : Nd} {a1 a2 b1 b2 n n1 : Option Addr} {c1 c2 d1 d2 m m1 : Nat} (y' : Na) (hy : y' = ⟨a1, c1, a2, c2, b1, d1, b2, d2, n1, m1⟩) (hX : X = w.heap.size) (hB : Below w.heap.size w wx) (hL : Ls4 X s1 x ⟨a1, c1, a2, c2, b1, d1, b2, d2, n, m⟩ wx) (z3 : Below wx.heap.size wx w3) (z4 : Below w3.heap.size w3 w4)
    (hO : OwnE n1 x.ns.length x.ns w4) (hR : ∀ A, n1 = some A → w3.heap.size ≤ A.block ∧ A.block < w4.heap.size) (hX4 : BoxW w4 X (ndV x ⟨a1, c1, a2, c2, b1, d1, b2, d2, n, m⟩)) (hZ : BoxW wx (X + 1) [.int .i64 0, .int .i64 0, .int .i64 0, .int .i64 0, .int .i64 0, .int .i64 0, .int .i64 0, .slice none 0 0, .slice none 0 0, .bool false, .int .i64 0, .bool false, .int .i64 0, .int .i64 0, .int .i64 0, .slice none 0 0, .slice none 0 0, .bool false, .int .i64 0, .int .i64 0, .int .i64 0, .string ⟨#[]⟩, .slice none 0 0, .int .i64 0]) (wf : World) (hwf : wf = (w4.setCell ⟨X, 21, none⟩ (.string x.bo)).setCell ⟨X, 22, none⟩ (.slice n1 x.ns.length m1)) :
    BoxW wf X (ndV x y') ∧ BoxW wf (X + 1) [.int .i64 0, .int .i64 0, .int .i64 0, .int .i64 0, .int .i64 0, .int .i64 0, .int .i64 0, .slice none 0 0, .slice none 0 0, .bool false, .int .i64 0, .bool false, .int .i64 0, .int .i64 0, .int .i64 0, .slice none 0 0, .slice none 0 0, .bool false, .int .i64 0, .int .i64 0, .int .i64 0, .string ⟨#[]⟩, .slice none 0 0, .int .i64 0] ∧ NdOwn (wf.setCells (X + 1) 0 (ndV x y')) x y' ∧
      LsU w.heap.size (wf.setCells (X + 1) 0 (ndV x y')).heap.size y' ∧ Below w.heap.size w (wf.setCells (X + 1) 0 (ndV x y')) := by
  subst hy hwf
  have zz : Below wx.heap.size wx w4 := Below.on z3 z4
  have hs3 := z3.size
  have hs4 := z4.size
  have hlx := hL.lo
  have hls := hL.le
  refine ⟨?_, ?_, ⟨?_, ?_, ?_, ?_, ?_⟩, ?_, ?_⟩
  · exact (hX4.set 21 (by rw [ndV_len]; omega) (.string x.bo)).set 22 (by rw [List.length_set, ndV_len]; omega) (.slice n1 x.ns.length m1)
  · exact ((hZ.below zz).other (by omega)).other (by omega)
  · have p : ∀ b f, a1 = some ⟨b, f, none⟩ → b ≠ X := fun b f e => by have := hL.rA _ e; simp only at this; omega
    have p2 : ∀ b f, a1 = some ⟨b, f, none⟩ → b ≠ X + 1 := fun b f e => by have := hL.rA _ e; simp only at this; omega
    exact (((hL.aU.below zz).setA p).setA p).setsA p2 _ _
  · have p : ∀ b f, a2 = some ⟨b, f, none⟩ → b ≠ X := fun b f e => by have := hL.rG _ e; simp only at this; omega
    have p2 : ∀ b f, a2 = some ⟨b, f, none⟩ → b ≠ X + 1 := fun b f e => by have := hL.rG _ e; simp only at this; omega
    exact (((hL.aG.below zz).setA p).setA p).setsA p2 _ _
  · have p : ∀ b f, b1 = some ⟨b, f, none⟩ → b ≠ X := fun b f e => by have := hL.rD _ e; simp only at this; omega
    have p2 : ∀ b f, b1 = some ⟨b, f, none⟩ → b ≠ X + 1 := fun b f e => by have := hL.rD _ e; simp only at this; omega
    exact (((hL.dU.below zz).setA p).setA p).setsA p2 _ _
  · have p : ∀ b f, b2 = some ⟨b, f, none⟩ → b ≠ X := fun b f e => by have := hL.rE _ e; simp only at this; omega
    have p2 : ∀ b f, b2 = some ⟨b, f, none⟩ → b ≠ X + 1 := fun b f e => by have := hL.rE _ e; simp only at this; omega
    exact (((hL.dG.below zz).setA p).setA p).setsA p2 _ _
  · have p : ∀ b f, n1 = some ⟨b, f, none⟩ → b ≠ X := fun b f e => by have := hR _ e; simp only at this; omega
    have p2 : ∀ b f, n1 = some ⟨b, f, none⟩ → b ≠ X + 1 := fun b f e => by have := hR _ e; simp only at this; omega
    exact ((hO.setA p).setA p).setsA p2 _ _
  · refine lsU_three (s1 := s1) (s2 := wx.heap.size) (by omega) hls (by rw [size_setCellsT]; simp; omega) (fun A e => ?_) (fun A e => ?_) hL.rD hL.rE (fun A e => ?_) hL.n1 hL.n2
    · have := hL.rA A e; omega
    · have := hL.rG A e; omega
    · have := hR A e; rw [size_setCellsT]; simp only [World.size_setCell]; omega
  · exact bl_setsT (by omega) _ _ (bl_setT (bl_setT (Below.on hB zz) (by omega)) (by omega))
set_option maxRecDepth 20000 in
set_option maxHeartbeats 8000000 in
theorem iOwnNode_any (x : Nd) (y : Na) (hf : NdFit 1048576 x) (hau : x.A.us.length ≤ 1000000) (hag : x.A.gs.length ≤ 1000000) (hdu : x.D.us.length ≤ 1000000) (hdg : x.D.gs.length ≤ 1000000) (w : World) (hi : NdIn w x y) :
    Calls Tryz.prog 20 #[.agg (ndV x y).toArray] w fun e w' => ∃ y' : Na, e = .returned (.agg (ndV x y').toArray) ∧ NdOwn w' x y' ∧ LsU w.heap.size w'.heap.size y' ∧ Below w.heap.size w w' := by
  have HF : Hid (NdFit 1048576 x) := hf
  have HI : Hid (NdIn w x y) := hi
  clear hf hi
  have HX : Hid (BoxW ((w.alloc (.cells (ndV x y).toArray 31)).alloc (.cells #[.int .i64 0, .int .i64 0, .int .i64 0, .int .i64 0, .int .i64 0, .int .i64 0, .int .i64 0, .slice none 0 0, .slice none 0 0, .bool false, .int .i64 0, .bool false, .int .i64 0, .int .i64 0, .int .i64 0, .slice none 0 0, .slice none 0 0, .bool false, .int .i64 0, .int .i64 0, .int .i64 0, .string ⟨#[]⟩, .slice none 0 0, .int .i64 0] 31)) w.heap.size (ndV x y)) := (boxW_new w (ndV x y) 31).below (bel_alloc _ _)
  have HB : Hid (Below w.heap.size w ((w.alloc (.cells (ndV x y).toArray 31)).alloc (.cells #[.int .i64 0, .int .i64 0, .int .i64 0, .int .i64 0, .int .i64 0, .int .i64 0, .int .i64 0, .slice none 0 0, .slice none 0 0, .bool false, .int .i64 0, .bool false, .int .i64 0, .int .i64 0, .int .i64 0, .slice none 0 0, .slice none 0 0, .bool false, .int .i64 0, .int .i64 0, .int .i64 0, .string ⟨#[]⟩, .slice none 0 0, .int .i64 0] 31))) := bl2T _ _ _
  have HZ : Hid (BoxW ((w.alloc (.cells (ndV x y).toArray 31)).alloc (.cells #[.int .i64 0, .int .i64 0, .int .i64 0, .int .i64 0, .int .i64 0, .int .i64 0, .int .i64 0, .slice none 0 0, .slice none 0 0, .bool false, .int .i64 0, .bool false, .int .i64 0, .int .i64 0, .int .i64 0, .slice none 0 0, .slice none 0 0, .bool false, .int .i64 0, .int .i64 0, .int .i64 0, .string ⟨#[]⟩, .slice none 0 0, .int .i64 0] 31)) (w.heap.size + 1) [.int .i64 0, .int .i64 0, .int .i64 0, .int .i64 0, .int .i64 0, .int .i64 0, .int .i64 0, .slice none 0 0, .slice none 0 0, .bool false, .int .i64 0, .bool false, .int .i64 0, .int .i64 0, .int .i64 0, .slice none 0 0, .slice none 0 0, .bool false, .int .i64 0, .int .i64 0, .int .i64 0, .string ⟨#[]⟩, .slice none 0 0, .int .i64 0]) := (by
    have h := boxW_new (w.alloc (.cells (ndV x y).toArray 31)) [.int .i64 0, .int .i64 0, .int .i64 0, .int .i64 0, .int .i64 0, .int .i64 0, .int .i64 0, .slice none 0 0, .slice none 0 0, .bool false, .int .i64 0, .bool false, .int .i64 0, .int .i64 0, .int .i64 0, .slice none 0 0, .slice none 0 0, .bool false, .int .i64 0, .int .i64 0, .int .i64 0, .string ⟨#[]⟩, .slice none 0 0, .int .i64 0] 31
    simp only [World.size_alloc] at h
    exact h)
  go_enter Tryz.func20, Tryz.ntmps20
  go_upto_region 1 with fail
  generalize ((w.alloc (.cells (ndV x y).toArray 31)).alloc (.cells #[.int .i64 0, .int .i64 0, .int .i64 0, .int .i64 0, .int .i64 0, .int .i64 0, .int .i64 0, .slice none 0 0, .slice none 0 0, .bool false, .int .i64 0, .bool false, .int .i64 0, .int .i64 0, .int .i64 0, .slice none 0 0, .slice none 0 0, .bool false, .int .i64 0, .int .i64 0, .int .i64 0, .string ⟨#[]⟩, .slice none 0 0, .int .i64 0] 31)) = w0 at HX HZ HB ⊢
  obtain ⟨X, hX⟩ : ∃ X, X = w.heap.size := ⟨_, rfl⟩
  have HXw : Hid (X = w.heap.size) := hX
  rw [← hX] at HX HZ ⊢
  clear hX
  have e4 := N24.c4 HX.out.at0
  have e5 := N24.c5 HX.out.at0
  have e6 := N24.c6 HX.out.at0
  have e7 := N24.c7 HX.out.at0
  have e8 := N24.c8 HX.out.at0
  have e9 := N24.c9 HX.out.at0
  have e10 := N24.c10 HX.out.at0
  have e12 := N24.c12 HX.out.at0
  have e13 := N24.c13 HX.out.at0
  have e14 := N24.c14 HX.out.at0
  have e15 := N24.c15 HX.out.at0
  have e16 := N24.c16 HX.out.at0
  have e17 := N24.c17 HX.out.at0
  have e18 := N24.c18 HX.out.at0
  simp only [Nat.zero_add] at e4 e5 e6 e7 e8 e9 e10 e12 e13 e14 e15 e16 e17 e18
  have HC1 : Hid (∀ w', Below w0.heap.size w0 w' → Calls Tryz.prog 40 #[.agg #[.int .i64 x.A.u, .int .i64 x.A.g, .int .i64 x.A.o, .slice y.aU x.A.us.length y.cU, .slice y.aG x.A.gs.length y.cG, .bool x.A.r, .int .i64 x.A.m]] w' fun e w'' => ∃ a1 c1 a2 c2, e = .returned (.agg #[.int .i64 x.A.u, .int .i64 x.A.g, .int .i64 x.A.o, .slice a1 x.A.us.length c1, .slice a2 x.A.gs.length c2, .bool x.A.r, .int .i64 x.A.m]) ∧ New w' w'' a1 x.A.us.length x.A.us a2 x.A.gs.length x.A.gs ∧ x.A.us.length ≤ c1 ∧ x.A.gs.length ≤ c2) := (fun w' hb => ownAcl_cap _ _ _ _ _ _ _ _ _ _ _ _ _ w' (HI.out.aU.below (Below.on HB.out hb)) (HI.out.aG.below (Below.on HB.out hb)) hau hag)
  have HC2 : Hid (∀ w', Below w0.heap.size w0 w' → Calls Tryz.prog 40 #[.agg #[.int .i64 x.D.u, .int .i64 x.D.g, .int .i64 x.D.o, .slice y.dU x.D.us.length y.eU, .slice y.dG x.D.gs.length y.eG, .bool x.D.r, .int .i64 x.D.m]] w' fun e w'' => ∃ a1 c1 a2 c2, e = .returned (.agg #[.int .i64 x.D.u, .int .i64 x.D.g, .int .i64 x.D.o, .slice a1 x.D.us.length c1, .slice a2 x.D.gs.length c2, .bool x.D.r, .int .i64 x.D.m]) ∧ New w' w'' a1 x.D.us.length x.D.us a2 x.D.gs.length x.D.gs ∧ x.D.us.length ≤ c1 ∧ x.D.gs.length ≤ c2) := (fun w' hb => ownAcl_cap _ _ _ _ _ _ _ _ _ _ _ _ _ w' (HI.out.dU.below (Below.on HB.out hb)) (HI.out.dG.below (Below.on HB.out hb)) hdu hdg)
  have Z0 : Hid (Below w0.heap.size w0 w0) := Below.refl _ _
  have HFz : Hid (∀ w', Below w0.heap.size w0 w' → ∀ j, w'.frozen? ⟨X, j, none⟩ = false) := (fun w' hb => (HX.out.below hb).frz)
  go_cut [] (fun wx => ∃ (s1 : Nat) (y2 : Na), y2.nA = y.nA ∧ y2.nC = y.nC ∧ Hid (BoxW wx X (ndV x y2)) ∧ Hid (BoxW wx (X + 1) [.int .i64 0, .int .i64 0, .int .i64 0, .int .i64 0, .int .i64 0, .int .i64 0, .int .i64 0, .slice none 0 0, .slice none 0 0, .bool false, .int .i64 0, .bool false, .int .i64 0, .int .i64 0, .int .i64 0, .slice none 0 0, .slice none 0 0, .bool false, .int .i64 0, .int .i64 0, .int .i64 0, .string ⟨#[]⟩, .slice none 0 0, .int .i64 0]) ∧ Hid (Below w.heap.size w wx) ∧ Hid (Ls4 X s1 x y2 wx))
  case first =>
    go_region_law
      (first
        | (refine step_store_list rfl 28 (.tmp 9) (.tmp 5) rfl X 4 (alV x.A a1 c1 a2 c2) (by simp [Act.eval]) (by simp [Act.eval, alV]) (HX2.out.there 4 7 (by rw [ndV_len]; omega)) (by kernel_rfl) (alV_ones _ _ _ _ _) ?_)
        | (refine step_store_list rfl 28 (.tmp 10) (.tmp 8) rfl X 12 (alV x.D b1 d1 b2 d2) (by simp [Act.eval]) (by simp [Act.eval, alV]) ((HX2.out.sets 4 (alV x.A a1 c1 a2 c2) (by rw [alV_len, ndV_len]; omega)).there 12 7 (by simp [ndV_len, alV_len]; done)) (by kernel_rfl) (alV_ones _ _ _ _ _) ?_)
        | (go_simp; go_at_call 40; (first | refine (HC2.out w1.drew (Below.on Z1.out (bd0 w1))).mono ?_ | refine (HC2.out w1 Z1.out).mono ?_); rintro e w2 ⟨b1, d1, b2, d2, rfl, hN2, _, _⟩; have Z2 : Hid (Below w1.heap.size w1 w2) := (by first | exact hN2.bel | exact bdZ hN2.bel); have HN2 : Hid (New w1 w2 b1 x.D.us.length x.D.us b2 x.D.gs.length x.D.gs) := (by first | exact hN2 | exact newZ hN2); clear hN2; have HX2 : Hid (BoxW w2 X (ndV x y)) := HX1.out.below Z2.out; have g4 := N24.c4 HX2.out.at0; have g5 := N24.c5 HX2.out.at0; have g6 := N24.c6 HX2.out.at0; have g7 := N24.c7 HX2.out.at0; have g8 := N24.c8 HX2.out.at0; have g9 := N24.c9 HX2.out.at0; have g10 := N24.c10 HX2.out.at0; have g12 := N24.c12 HX2.out.at0; have g13 := N24.c13 HX2.out.at0; have g14 := N24.c14 HX2.out.at0; have g15 := N24.c15 HX2.out.at0; have g16 := N24.c16 HX2.out.at0; have g17 := N24.c17 HX2.out.at0; have g18 := N24.c18 HX2.out.at0; simp only [Nat.zero_add] at g4 g5 g6 g7 g8 g9 g10 g12 g13 g14 g15 g16 g17 g18; have gz := HX2.out.frz)
        | (go_simp; go_at_call 40; (first | refine (HC1.out w0.drew (bd0 w0)).mono ?_ | refine (HC1.out w0 Z0.out).mono ?_); rintro e w1 ⟨a1, c1, a2, c2, rfl, hN1, _, _⟩; have Z1 : Hid (Below w0.heap.size w0 w1) := (by first | exact hN1.bel | exact bdZ hN1.bel); have HN1 : Hid (New w0 w1 a1 x.A.us.length x.A.us a2 x.A.gs.length x.A.gs) := (by first | exact hN1 | exact newZ hN1); clear hN1; have HX1 : Hid (BoxW w1 X (ndV x y)) := HX.out.below Z1.out; have f4 := N24.c4 HX1.out.at0; have f5 := N24.c5 HX1.out.at0; have f6 := N24.c6 HX1.out.at0; have f7 := N24.c7 HX1.out.at0; have f8 := N24.c8 HX1.out.at0; have f9 := N24.c9 HX1.out.at0; have f10 := N24.c10 HX1.out.at0; have f12 := N24.c12 HX1.out.at0; have f13 := N24.c13 HX1.out.at0; have f14 := N24.c14 HX1.out.at0; have f15 := N24.c15 HX1.out.at0; have f16 := N24.c16 HX1.out.at0; have f17 := N24.c17 HX1.out.at0; have f18 := N24.c18 HX1.out.at0; simp only [Nat.zero_add] at f4 f5 f6 f7 f8 f9 f10 f12 f13 f14 f15 f16 f17 f18))
    all_goals (
      have e0 : Below w.heap.size w w2 := Below.on (Below.on HB.out Z1.out) Z2.out
      have e1 := ls4_of (c1 := c1) (c2 := c2) (d1 := d1) (d2 := d2) (n := y.nA) (m := y.nC) HZ.out.lt HN1.out HN2.out (alV x.A a1 c1 a2 c2) (alV x.D b1 d1 b2 d2) 4 12
      have e3 : BoxW (w2.setCells X 4 (alV x.A a1 c1 a2 c2)) X (ndV x ⟨a1, c1, a2, c2, y.dU, y.eU, y.dG, y.eG, y.nA, y.nC⟩) := HX2.out.sets 4 (alV x.A a1 c1 a2 c2) (by rw [alV_len, ndV_len]; omega)
      have e2 : BoxW ((w2.setCells X 4 (alV x.A a1 c1 a2 c2)).setCells X 12 (alV x.D b1 d1 b2 d2)) X (ndV x ⟨a1, c1, a2, c2, b1, d1, b2, d2, y.nA, y.nC⟩) := e3.sets 12 (alV x.D b1 d1 b2 d2) (by rw [alV_len, ndV_len]; omega)
      have e5 : Below w.heap.size w ((w2.setCells X 4 (alV x.A a1 c1 a2 c2)).setCells X 12 (alV x.D b1 d1 b2 d2)) := bl_setsT (by have := HXw.out; omega) _ _ (bl_setsT (by have := HXw.out; omega) _ _ e0)
      have e6 : BoxW ((w2.setCells X 4 (alV x.A a1 c1 a2 c2)).setCells X 12 (alV x.D b1 d1 b2 d2)) (X + 1) [.int .i64 0, .int .i64 0, .int .i64 0, .int .i64 0, .int .i64 0, .int .i64 0, .int .i64 0, .slice none 0 0, .slice none 0 0, .bool false, .int .i64 0, .bool false, .int .i64 0, .int .i64 0, .int .i64 0, .slice none 0 0, .slice none 0 0, .bool false, .int .i64 0, .int .i64 0, .int .i64 0, .string ⟨#[]⟩, .slice none 0 0, .int .i64 0] := (((HZ.out.below Z1.out).below Z2.out).others (by omega)).others (by omega)
      obtain ⟨wx, hwx⟩ : ∃ wx, wx = ((w2.setCells X 4 (alV x.A a1 c1 a2 c2)).setCells X 12 (alV x.D b1 d1 b2 d2)) := ⟨_, rfl⟩
      rw [← hwx] at e1 e2 e5 e6
      simp only [World.setCells, alV, Nat.reduceAdd] at hwx
      rw [← hwx]
      have HB2 : Hid (Below w.heap.size w wx) := e5
      have HXx : Hid (BoxW wx X (ndV x ⟨a1, c1, a2, c2, b1, d1, b2, d2, y.nA, y.nC⟩)) := e2
      have HL : Hid (Ls4 X w1.heap.size x ⟨a1, c1, a2, c2, b1, d1, b2, d2, y.nA, y.nC⟩ wx) := e1
      have HZx : Hid (BoxW wx (X + 1) [.int .i64 0, .int .i64 0, .int .i64 0, .int .i64 0, .int .i64 0, .int .i64 0, .int .i64 0, .slice none 0 0, .slice none 0 0, .bool false, .int .i64 0, .bool false, .int .i64 0, .int .i64 0, .int .i64 0, .slice none 0 0, .slice none 0 0, .bool false, .int .i64 0, .int .i64 0, .int .i64 0, .string ⟨#[]⟩, .slice none 0 0, .int .i64 0]) := e6
      clear hwx e0 e1 e2 e3 e5 e6 gz g4 g5 g6 g7 g8 g9 g10 g12 g13 g14 g15 g16 g17 g18 f4 f5 f6 f7 f8 f9 f10 f12 f13 f14 f15 f16 f17 f18 HX2 HN1 HN2 Z1 Z2 HX1 HC1 HC2 Z0 HFz e4 e7 e8 e9 e10 e12 e13 e14 e15 e16 e17 e18 HX HZ
      clear e5 w2 HB
      go_wp2_with fail
      go_meet
      exact ⟨w1.heap.size, ⟨a1, c1, a2, c2, b1, d1, b2, d2, y.nA, y.nC⟩, rfl, rfl, HXx, HZx, HB2, HL⟩)
  case rest =>
  obtain ⟨s1, ⟨a1, c1, a2, c2, b1, d1, b2, d2, n0, m0⟩, hnA, hnC, HXx, HZx, HB2, HL⟩ := hcut
  simp only at hnA hnC
  subst hnA hnC
  obtain ⟨wx, hwx⟩ : ∃ wx, wx = wc := ⟨_, rfl⟩
  subst hwx
  clear HC1 HC2 Z0 HFz e4 e5 e6 e7 e8 e9 e10 e12 e13 e14 e15 e16 e17 e18 HX HZ HB
  have f21 := N24.c21 HXx.out.at0
  have f22 := N24.c22 HXx.out.at0
  simp only [Nat.zero_add] at f21 f22
  have HC3 : Hid (∀ w', Below wx.heap.size wx w' → Calls Tryz.prog 42 #[.slice y.nA x.ns.length y.nC] w' fun e w'' => ∃ a' c', e = .returned (.slice a' x.ns.length c') ∧ OwnE a' x.ns.length x.ns w'' ∧ (∀ A, a' = some A → w'.heap.size ≤ A.block ∧ A.block < w''.heap.size) ∧ Below w'.heap.size w' w'') := (fun w' hb => iOwnNames_any y.nA x.ns.length y.nC x.ns HF.out.nl HF.out.nm w' (HI.out.nA.below (Below.on HB2.out hb)))
  have hbs : x.bo.size ≤ 1048576 := HF.out.bo
  have k22 : (wx.alloc (.cells #[.string x.bo] 9)).cell? ⟨X, 22, none⟩ = some (.slice y.nA x.ns.length y.nC) := ((bel_alloc wx (.cells #[.string x.bo] 9)).cell (p := ⟨X, 22, none⟩) HXx.out.lt).trans f22
  have Z0 : Hid (Below wx.heap.size wx wx) := Below.refl _ _
  go_upto_region 2 with fail
  go_cut [] (fun wf => ∃ (y' : Na), Hid (BoxW wf X (ndV x y')) ∧ Hid (BoxW wf (X + 1) [.int .i64 0, .int .i64 0, .int .i64 0, .int .i64 0, .int .i64 0, .int .i64 0, .int .i64 0, .slice none 0 0, .slice none 0 0, .bool false, .int .i64 0, .bool false, .int .i64 0, .int .i64 0, .int .i64 0, .slice none 0 0, .slice none 0 0, .bool false, .int .i64 0, .int .i64 0, .int .i64 0, .string ⟨#[]⟩, .slice none 0 0, .int .i64 0]) ∧ Hid (NdOwn (wf.setCells (X + 1) 0 (ndV x y')) x y') ∧ Hid (LsU w.heap.size (wf.setCells (X + 1) 0 (ndV x y')).heap.size y') ∧ Hid (Below w.heap.size w (wf.setCells (X + 1) 0 (ndV x y'))))
  case first =>
    go_region_law
      (first
        | (go_simp; go_at_call 42; (first | refine (HC3.out w3.drew (Below.on Z3.out (bd0 w3))).mono ?_ | refine (HC3.out w3 Z3.out).mono ?_); rintro e w4 ⟨n1, m1, rfl, hO, hR, hb⟩; have Z4 : Hid (Below w3.heap.size w3 w4) := (by first | exact hb | exact bdZ hb); have HO4 : Hid (OwnE n1 x.ns.length x.ns w4) := hO; have HR4 : Hid (∀ A, n1 = some A → w3.heap.size ≤ A.block ∧ A.block < w4.heap.size) := hR; clear hO hR hb; have HX4 : Hid (BoxW w4 X (ndV x ⟨a1, c1, a2, c2, b1, d1, b2, d2, y.nA, y.nC⟩)) := HX3.out.below Z4.out; have g21 := N24.c21 HX4.out.at0; have g22 := N24.c22 HX4.out.at0; simp only [Nat.zero_add] at g21 g22; have gz := HX4.out.frz)
        | (go_simp; go_at_call 41; (first | refine (join_one x.bo wx.drew (by omega)).mono ?_ | refine (join_one x.bo wx (by omega)).mono ?_); rintro e w3 ⟨rfl, hb⟩; have Z3 : Hid (Below wx.heap.size wx w3) := (by first | exact hb | exact bdZ hb); clear hb; have HX3 : Hid (BoxW w3 X (ndV x ⟨a1, c1, a2, c2, b1, d1, b2, d2, y.nA, y.nC⟩)) := HXx.out.below Z3.out; have h21 := N24.c21 HX3.out.at0; have h22 := N24.c22 HX3.out.at0; simp only [Nat.zero_add] at h21 h22))
    all_goals (
      obtain ⟨y', hy⟩ : ∃ y' : Na, y' = ⟨a1, c1, a2, c2, b1, d1, b2, d2, n1, m1⟩ := ⟨_, rfl⟩
      obtain ⟨wf, hwf⟩ : ∃ wf, wf = ((w4.setCell ⟨X, 21, none⟩ (.string x.bo)).setCell ⟨X, 22, none⟩ (.slice n1 x.ns.length m1)) := ⟨_, rfl⟩
      obtain ⟨q1, qz, q2, q3, q4⟩ := ownNd_end y' hy HXw.out HB2.out HL.out Z3.out Z4.out HO4.out HR4.out HX4.out HZx.out wf hwf
      rw [← hwf]
      have Q : Hid _ := And.intro q1 (And.intro qz (And.intro q2 (And.intro q3 q4)))
      clear q1 qz q2 q3 q4 gz g21 g22 h21 h22 HX4 HR4 HO4 Z4 HX3 Z3 Z0 k22 hbs HC3 f21 f22 HL HXx HZx HB2 HI HF hy hwf
      go_wp2_with fail
      go_meet
      exact ⟨y', Q.out.1, Q.out.2.1, Q.out.2.2.1, Q.out.2.2.2.1, Q.out.2.2.2.2⟩)
  case rest =>
  obtain ⟨y', Q1, QZ, Q2, Q3, Q4⟩ := hcut
  obtain ⟨wf, hwf⟩ : ∃ wf, wf = wc := ⟨_, rfl⟩
  subst hwf
  clear Z0 k22 hbs HC3 f21 f22 HL HXx HZx HB2 HI HF
  have hr : (wf.setCells (X + 1) 0 (ndV x y')).rangeAt (X + 1) 0 (ndV x y') := World.rangeAt_setCells_same _ _ _ _ (QZ.out.there 0 24 (by simp))
  have hR : Hid ((loadVar 31 ⟨X + 1, 0, none⟩).run Tryz.prog (wf.setCells (X + 1) 0 (ndV x y')) = .ok (.agg (ndV x y').toArray) (wf.setCells (X + 1) 0 (ndV x y'))) := run_loadVar_mid _ _ _ _ _ _ hr Tryz.underlying31 rfl (by kernel_rfl)
  clear hr
  go_wp2_with (first | (refine wpList_load_mid (by rfl) 31 _ (by rfl) _ _ (by rfl) _ _ Q1.out.at0 Tryz.underlying31 rfl (by kernel_rfl) ?_) | (refine wpList_store_list (by rfl) 31 _ _ (by rfl) (X + 1) 0 (ndV x y') (by rfl) (by rfl) (QZ.out.there 0 24 (by simp)) (by kernel_rfl) (ndV_ones _ _) ?_) | (refine bodyPost_ret (v := .agg (ndV x y').toArray) ?hres rfl ⟨y', rfl, Q2.out, Q3.out, Q4.out⟩))
  exact results_one Tryz.results20 (by rfl) hR.out
end Go.Proofs.YtgodbelcddgdmaaGreat
