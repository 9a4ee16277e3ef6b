/- impl.CredText. -/
import Derived.Test.YtibofkjonepbpaaDoorSCredText
import Derived.Laws.AppendOwn
import Derived.OwnWalk
import Derived.Deep.OwnRows
import Derived.Deep.RegionHeld3
namespace Go.Proofs.YtibofkjonepbpaaDoor
open Go.RowKit Go.PlainAid Go.Deep
set_option linter.unusedVariables false
theorem infoStr : (Tryd.prog.info? 9).map (fun i => (i.zero, i.size, i.bytes)) = some (some (.string ⟨#[]⟩), 1, 16) := by kernel_rfl
/-- Texts as values. -/
def tv (l : List ByteArray) : List Value := l.map Value.string
theorem tv_snoc (l : List ByteArray) (x : ByteArray) : tv (l ++ [x]) = tv l ++ [.string x] := by simp [tv]
theorem one_text (x : ByteArray) : ∀ u ∈ [Value.string x], u.oneCell' = true := by
  intro u hu
  simp at hu
  subst hu
  rfl
theorem text_new (w : World) (x : ByteArray) (t : TypeId) : ∀ j u, [Value.string x][j]? = some u → (w.alloc (.cells #[.string x] t)).cell? ((⟨w.heap.size, 0, none⟩ : Addr).add j) = some u := by
  intro j u hj
  have hb : (w.alloc (.cells #[.string x] t)).heap[w.heap.size]? = some (.cells #[.string x] t) := by
    rw [World.alloc]
    exact Array.getElem?_push_size
  cases j with
  | zero =>
    simp at hj
    subst hj
    have e : (⟨w.heap.size, 0, none⟩ : Addr).add 0 = ⟨w.heap.size, 0, none⟩ := by simp [Addr.add]
    rw [e]
    simp only [World.cell?, hb]
    rfl
  | succ j => simp at hj
theorem own_blockT {w : World} {B : Nat} {t : TypeId} {v : Value} {n : Nat} {xs : List Value} (h : w.ownsRow B t 1 v n xs) : ∀ k, v.ownBlock = some k → B ≤ k := by
  obtain ⟨_, ⟨rfl, _⟩ | ⟨g, cap, cur, rfl, hb, _⟩⟩ := h
  · intro k hk; simp [Value.ownBlock] at hk
  · intro k hk; simp [Value.ownBlock] at hk; omega
theorem rowT_below {w w' : World} {B : Nat} {t : TypeId} {v : Value} {n : Nat} {xs : List Value} (h : w.ownsRow B t 1 v n xs) (hb : Below w.heap.size w w') : w'.ownsRow B t 1 v n xs := by
  obtain ⟨h0, ⟨rfl, hn⟩ | ⟨g, cap, cur, rfl, hB, hg, hc, hm, hs, ht⟩⟩ := h
  · exact ⟨h0, .inl ⟨rfl, hn⟩⟩
  · have hlt : g < w.heap.size := (Array.getElem?_eq_some_iff.1 hg).1
    exact ⟨h0, .inr ⟨g, cap, cur, rfl, hB, (hb.block g hlt).trans hg, hc, hm, hs, ht⟩⟩
/-- A row of texts that is owned, by its cells. -/
theorem own_texts {w : World} {B : Nat} {t : TypeId} {v : Value} {l : List ByteArray} (h : w.ownsRow B t 1 v l.length (tv l)) :
    ∃ a c, v = .slice a l.length c ∧ l.length ≤ c ∧ (0 < l.length → ∃ b, a = some ⟨b, 0, none⟩ ∧ b < w.heap.size ∧ ∀ (j : Nat) x, l[j]? = some x → w.cell? ⟨b, 0 + j, none⟩ = some (.string x)) := by
  obtain ⟨_, ⟨rfl, hn⟩ | ⟨g, cap, cur, rfl, hb, hg, hc, _, hs, ht⟩⟩ := h
  · exact ⟨none, 0, by rw [hn], by omega, fun h => absurd h (by omega)⟩
  · have hlt : g < w.heap.size := (Array.getElem?_eq_some_iff.1 hg).1
    refine ⟨some ⟨g, 0, none⟩, cap, rfl, hc, fun _ => ⟨g, rfl, hlt, fun j x hj => ?_⟩⟩
    have hj2 : (tv l)[j]? = some (.string x) := by simp [tv, hj]
    have hjl : j < l.length := (List.getElem?_eq_some_iff.1 hj).1
    rw [← ht, List.getElem?_take_of_lt (by omega)] at hj2
    have : w.cell? ⟨g, 0 + j, none⟩ = cur[j]? := by simp [World.cell?, hg]
    rw [this]
    simpa using hj2
/-- append of one text onto a row that was owned ahead of the text's making. -/
theorem append_text (w0 w : World) (v : Value) (l : List ByteArray) (hown : w.ownsRow w0.heap.size 9 1 v l.length (tv l)) (hB : Below w0.heap.size w0 w) (x : ByteArray) (hsm : l.length ≤ 100000000) :
    ∃ v' w', (Builtin.append_ #[73, 73] 73 #[v, .slice (some ⟨w.heap.size, 0, none⟩) 1 1]).run Tryd.prog (w.alloc (.cells #[.string x] 9)) = .ok v' w' ∧ w'.ownsRow w0.heap.size 9 1 v' (l ++ [x]).length (tv (l ++ [x])) ∧ Below w0.heap.size w0 w' := by
  obtain ⟨i, hi, hzz⟩ := Option.map_eq_some_iff.1 infoStr
  simp only [Prod.mk.injEq] at hzz
  obtain ⟨hz, hs, hb⟩ := hzz
  have hb1 := bel_alloc w (.cells #[.string x] 9)
  have hB1 := Below.on hB hb1
  have hown1 := rowT_below hown hb1
  obtain ⟨v', w', hr, h1, h2, _⟩ := run_append_own (P := Tryd.prog) _ w0.heap.size 73 73 9 i _ 1 16 Tryd.underlying73 hi hz hs hb rfl (by decide) v l.length (tv l) hown1 ⟨w.heap.size, 0, none⟩ 1 1 [.string x] rfl (text_new w x _) (one_text x) (by unfold maxLen; omega) (by omega) hB1.size
  refine ⟨v', w', hr, ?_, hB1.grown h2 hB1.size (own_blockT hown1)⟩
  rw [tv_snoc, List.length_append]
  exact h1
theorem make08 (w : World) : (Instr.makeSlice 73 (.int .i64 0) (.int .i64 8)).run Tryd.prog w = .ok (.slice (some ⟨w.heap.size, 0, none⟩) 0 8) (w.alloc (.cells #[.string ⟨#[]⟩, .string ⟨#[]⟩, .string ⟨#[]⟩, .string ⟨#[]⟩, .string ⟨#[]⟩, .string ⟨#[]⟩, .string ⟨#[]⟩, .string ⟨#[]⟩] 9)) := by kernel_rfl
theorem own08 (w : World) : (w.alloc (.cells #[.string ⟨#[]⟩, .string ⟨#[]⟩, .string ⟨#[]⟩, .string ⟨#[]⟩, .string ⟨#[]⟩, .string ⟨#[]⟩, .string ⟨#[]⟩, .string ⟨#[]⟩] 9)).ownsRow w.heap.size 9 1 (.slice (some ⟨w.heap.size, 0, none⟩) 0 8) ([] : List ByteArray).length (tv []) :=
  World.ownsRow_made w _ 8 (Nat.le_refl _) (by unfold maxLen; omega) rfl
/-- The builtin append, by what it runs to. -/
theorem wpList_append_runT {P : Program} (w : World) {ops : Array Oper} {rest : List Oper} {o : Oper} {a : Act} {Q : Exit → Act → World → Prop} (hgd : o.guard = none) (s x : Operand) (t tx : TypeId)
    (ho : o.op = .call { callee := .builtin .append, args := #[s, x], argTypes := #[t, tx] }) (v xv v' : Value) (w' : World) (hs : a.eval s = v) (hx : a.eval x = xv)
    (hr : (Builtin.append_ #[t, tx] o.type #[v, xv]).run P w = .ok v' w') (h : wpList P ops Q rest (a.put o.dst v') w') : wpList P ops Q (o :: rest) a w :=
  wpList_plain hgd fun _ hK => by
    unfold Oper.wp execOp
    simp only [ho, resolve, invoke, builtin, Sem.run_bind, Sem.run_pure, Result.andThen_ok, List.map_toArray, List.map_cons, List.map_nil, hs, hx, hr]
    exact hK _ _ h
theorem bdC {B : Nat} {w w' : World} (h : Below B w w') : Below B w w'.drew := h.trans ⟨rfl, rfl, rfl, Nat.le_refl _, fun _ _ => rfl⟩
theorem bdZ {w w' : World} (h : Below w.drew.heap.size w.drew w') : Below w.heap.size w w' := ⟨h.os, h.tape, h.output, h.size, h.block⟩
set_option maxRecDepth 100000 in
set_option maxHeartbeats 4000000 in
/-- impl.CredText of a right Cred. -/
theorem iCredText_in (u g : Nat) (ca : Option Addr) (cl cc : Nat) (cr : Bool) (f : Nat → Int) (hc : credB u g cl f = true) (w : World) (hi : Ints ca cl f w) (hp : PowW w) :
    Calls Tryd.prog 7 #[.agg #[.int .i64 u, .int .i64 g, .slice ca cl cc, .bool cr]] w fun e w' => e = .returned (.string (if cr then preT u g ++ jnT f cl ++ ⟨#[42]⟩ else preT u g ++ jnT f cl)) ∧ Below w.heap.size w w' := by
  obtain ⟨hu, hg, hcl, hf⟩ := cred_facts hc
  have hR : Hid (∀ w', Below w.heap.size w w' → Calls Tryd.prog 12 #[.agg #[.int .i64 u, .int .i64 g, .slice ca cl cc, .bool cr]] w' fun e w'' => e = .returned (.bool true) ∧ Below w'.heap.size w' w'') := (fun w' hb => by
    have := iCredRight_any u g ca cl cc cr f w' (hi.below hb)
    rwa [hc] at this)
  have dU : Hid (∀ w', Below w.heap.size w w' → Calls Tryd.prog 67 #[.int .i64 u] w' fun e w'' => e = .returned (.string (decT u)) ∧ Below w'.heap.size w' w'') := (fun w' hb => iDigits_any u (by omega) w' (hp.below hb))
  have dG : Hid (∀ w', Below w.heap.size w w' → Calls Tryd.prog 67 #[.int .i64 g] w' fun e w'' => e = .returned (.string (decT g)) ∧ Below w'.heap.size w' w'') := (fun w' hb => iDigits_any g (by omega) w' (hp.below hb))
  have dF : Hid (∀ k w', k < cl → Below w.heap.size w w' → Calls Tryd.prog 67 #[.int .i64 (f k)] w' fun e w'' => e = .returned (.string (decT (f k).toNat)) ∧ Below w'.heap.size w' w'') := (fun k w' hk hb => by
    have h1 := hf k hk
    have h2 := iDigits_any (f k).toNat (by omega) w' (hp.below hb)
    rwa [Int.toNat_of_nonneg h1.1] at h2)
  have su := decT_size (n := u) (by omega)
  have sg := decT_size (n := g) (by omega)
  have sJ : (jnT f cl).size ≤ 40 := by have := jnT_size hf (Nat.le_refl _); omega
  have HJ : Hid (∀ (a : Option Addr) (c : Nat) (w' : World), cl ≤ c → (0 < cl → ∃ b, a = some ⟨b, 0, none⟩ ∧ b < w'.heap.size ∧ ∀ (j : Nat) x, (txs f cl)[j]? = some x → w'.cell? ⟨b, 0 + j, none⟩ = some (.string x)) → Calls Tryd.prog 69 #[.slice a cl c, .string ⟨#[44]⟩] w' fun e w'' => e = .returned (.string (jnT f cl)) ∧ Below w'.heap.size w' w'') := (fun a c w' hcap hcells => by
    by_cases h0 : cl = 0
    · subst h0
      refine (Tryd.strings_Join_none a c ⟨#[44]⟩ w').mono ?_
      rintro e w'' ⟨rfl, rfl⟩
      exact ⟨rfl, Below.refl _ _⟩
    · obtain ⟨b, rfl, hb, hc2⟩ := hcells (by omega)
      have hl := txs_len f cl
      have hjj := join_jn f cl
      have hjl : (jn f cl).length ≤ 40 := by have := jn_len hf cl (Nat.le_refl _); omega
      have hsep : (⟨#[44]⟩ : ByteArray).data.toList = [44] := rfl
      have h := Tryd.strings_Join b 0 c (txs f cl) ⟨#[44]⟩ w' hc2 hb (by omega) (by omega) (by rw [hsep, hjj]; omega)
      rw [hsep, hjj, hl] at h
      exact h)
  have H5 : Hid (preT u g ++ jnT f cl = decT u ++ ⟨#[58]⟩ ++ decT g ++ ⟨#[58]⟩ ++ jnT f cl) := rfl
  have HT : Hid (∀ k, txs f (k + 1) = txs f k ++ [decT (f k).toNat]) := txs_snoc f
  have HTL : Hid (∀ k, (txs f k).length = k) := txs_len f
  have HI : Hid (Ints ca cl f w) := hi
  have HX : Hid (Bx4 (w.alloc (.cells #[.int .i64 u, .int .i64 g, .slice ca cl cc, .bool cr] 25)) w.heap.size (.int .i64 u) (.int .i64 g) (.slice ca cl cc) (.bool cr)) := bx4_new _ _ _ _ _ _
  have hW : Hid (Below w.heap.size w (w.alloc (.cells #[.int .i64 u, .int .i64 g, .slice ca cl cc, .bool cr] 25))) := bel_alloc _ _
  have hmk := make08
  clear hi hc hu hg hf hp
  generalize preT u g ++ jnT f cl = PT at H5 ⊢
  generalize decT u = DU at dU su H5
  generalize decT g = DG at dG sg H5
  generalize jnT f cl = JT at sJ HJ H5
  go_enter Tryd.func7, Tryd.ntmps7
  obtain ⟨xl, x0, x1, x2, x3⟩ := HX.out
  go_wp2_with fail
  refine (hR.out _ hW.out).mono ?_
  rintro e w1 ⟨rfl, hb1⟩
  have hW1 : Hid (Below w.heap.size w w1) := Below.on hW.out hb1
  have HX1 : Hid (Bx4 w1 w.heap.size (.int .i64 u) (.int .i64 g) (.slice ca cl cc) (.bool cr)) := HX.out.below hb1
  clear hb1 HX hW xl x0 x1 x2 x3 hR
  have hO : Hid _ := own08 w1
  have hbM := bel_alloc w1 (.cells #[.string ⟨#[]⟩, .string ⟨#[]⟩, .string ⟨#[]⟩, .string ⟨#[]⟩, .string ⟨#[]⟩, .string ⟨#[]⟩, .string ⟨#[]⟩, .string ⟨#[]⟩] 9)
  have hbN : Hid _ := hbM
  obtain ⟨xl, x0, x1, x2, x3⟩ := HX1.out.below hbM
  clear hbM
  go_wp2
  clear xl x0 x1 x2 x3
  go_loopw [3, 14] (fun v i wr => ∃ k : Nat, k ≤ cl ∧ i = .int .i64 k ∧ Hid (wr.ownsRow w1.heap.size 9 1 v (txs f k).length (tv (txs f k))) ∧ Hid (Below w1.heap.size w1 wr)) (fun _ i _ => cl - (intOf i).toNat)
  case atStart => exact ⟨0, Nat.zero_le _, rfl, hO, hbN⟩
  case round =>
    obtain ⟨k, hk, rfl, hOw, hB⟩ := hrel
    have hWr : Hid (Below w.heap.size w wr) := Below.on hW1.out hB.out
    by_cases hlt : k < cl
    · have hlt' : (k : Int) < (cl : Int) := by omega
      obtain ⟨b, off, rfl, hbl, hcl⟩ := HI.out (by omega)
      have hcz : wr.cell? ⟨b, off + k, none⟩ = some (.int .i64 (f k)) := (hWr.out.cell (p := ⟨b, off + k, none⟩) hbl).trans (hcl k hlt)
      have hdk : Hid (∀ w', Below w.heap.size w w' → Calls Tryd.prog 67 #[.int .i64 (f k)] w' fun e w'' => e = .returned (.string (decT (f k).toNat)) ∧ Below w'.heap.size w' w'') := (fun w' hb => dF.out k w' hlt hb)
      have hlk := HTL.out k
      clear hcl
      go_wp2_with fail
      refine (hdk.out _ hWr.out).mono ?_
      rintro e wa ⟨rfl, hba⟩
      obtain ⟨v2, w2, hr, hO2, hB2⟩ := append_text w1 wa u3 (txs f k) (rowT_below hOw.out hba) (Below.on hB.out hba) (decT (f k).toNat) (by omega)
      rw [← HT.out k] at hO2
      have HO2 : Hid _ := hO2
      have HB2 : Hid _ := hB2
      clear hO2 hB2 hba hOw hB hcz hdk hlk
      go_wp2_with (at_builtin; refine wpList_append_runT _ rfl (.tmp 18) (.tmp 21) 73 73 rfl _ _ _ _ rfl rfl hr ?_)
      go_roundw
      case rel => exact ⟨k + 1, by omega, by go_num, HO2, HB2⟩
      case measure => simp [intOf]; omega
    · have : k = cl := by omega
      subst this
      obtain ⟨ga, gc, hgv, hgc, hgcell⟩ := own_texts hOw.out
      rw [HTL.out k] at hgv hgc hgcell
      subst hgv
      have HGC : Hid _ := hgcell
      have HX2 : Hid (Bx4 wr w.heap.size (.int .i64 u) (.int .i64 g) (.slice ca k cc) (.bool cr)) := HX1.out.below hB.out
      obtain ⟨xl, x0, x1, x2, x3⟩ := HX2.out
      have hJ : Hid (∀ w', Below wr.heap.size wr w' → Calls Tryd.prog 69 #[.slice ga k gc, .string ⟨#[44]⟩] w' fun e w'' => e = .returned (.string JT) ∧ Below w'.heap.size w' w'') := (fun w' hb => HJ.out ga gc w' hgc (fun h0 => by
        obtain ⟨b2, e2, hb2, hc2⟩ := HGC.out h0
        exact ⟨b2, e2, Nat.lt_of_lt_of_le hb2 hb.size, fun j x hx => (hb.cell (p := ⟨b2, 0 + j, none⟩) hb2).trans (hc2 j x hx)⟩))
      clear hgcell HGC hOw hB HJ HX1 hmk hO hbN
      go_wp2_with fail
      have k1 : (⟨#[58]⟩ : ByteArray).size = 1 := rfl
      have k5 : Hid (DU.size + (⟨#[58]⟩ : ByteArray).size + DG.size + (⟨#[58]⟩ : ByteArray).size + JT.size ≤ 1000000) := (show _ ≤ _ by omega)
      have k6 : Hid ((DU ++ ⟨#[58]⟩ ++ DG ++ ⟨#[58]⟩ ++ JT).size ≤ 100) := (show _ ≤ _ by simp only [ByteArray.size_append]; omega)
      clear k1 dF HI HT HTL
      go_region_held3 (fun w' => w'.cell? ⟨w.heap.size, 0, none⟩ = some (.int .i64 u) ∧ w'.cell? ⟨w.heap.size, 1, none⟩ = some (.int .i64 g)) (go_keep)
        (first
          | (go_at_call 67; refine (dU.out _ (bdC hWr.out)).mono ?_; rintro e wa ⟨rfl, hba⟩; clear dU; have hA : Hid (Below wr.heap.size wr wa) := bdZ hba; obtain ⟨_, ya0, ya1, _, _⟩ := HX2.out.below hA.out)
          | (go_at_call 67; refine (dG.out _ (Below.on hWr.out hA.out)).mono ?_; rintro e wb ⟨rfl, hbb⟩; clear dG; have hBb : Hid (Below wr.heap.size wr wb) := Below.on hA.out hbb; obtain ⟨_, yb0, yb1, _, _⟩ := HX2.out.below hBb.out)
          | (go_at_call 69; refine (hJ.out _ hBb.out).mono ?_; rintro e wc ⟨rfl, hbc⟩; have hC : Hid (Below wr.heap.size wr wc) := Below.on hBb.out hbc; obtain ⟨_, yc0, yc1, _, _⟩ := HX2.out.below hC.out)
          | (go_at_call 68; refine (join_five DU ⟨#[58]⟩ DG ⟨#[58]⟩ JT wc k5.out 5).mono ?_; rintro e wd ⟨rfl, hbd⟩; have hD : Hid (Below wr.heap.size wr wd) := Below.on hC.out hbd; obtain ⟨_, yd0, yd1, _, _⟩ := HX2.out.below hD.out))
      have hWd : Hid (Below w.heap.size w wd) := Below.on hWr.out hD.out
      have HXd : Hid (Bx4 wd w.heap.size (.int .i64 u) (.int .i64 g) (.slice ca k cc) (.bool cr)) := HX2.out.below hD.out
      have s5 : PT.size ≤ 100 := by rw [H5.out]; exact k6.out
      rw [← H5.out]
      clear xl x0 x1 x2 x3 ya0 ya1 yb0 yb1 yc0 yc1 yd0 yd1 hba hbb hbc hbd hA hBb hC hD hJ HX2 k5 k6 H5
      obtain ⟨xl, x0, x1, x2, x3⟩ := HXd.out
      cases cr
      · go_wp2
        go_ret
        exact ⟨rfl, hWd.out⟩
      · have hjt : Hid (∀ w, Calls Tryd.prog 68 #[.slice (some ⟨w.heap.size, 0, none⟩) 2 2] (w.alloc (.cells #[.string PT, .string ⟨#[42]⟩] 9)) fun e w' => e = .returned (.string (PT ++ ⟨#[42]⟩)) ∧ Below w.heap.size w w') := (fun w => join_two PT ⟨#[42]⟩ w (by have : (⟨#[42]⟩ : ByteArray).size = 1 := rfl; omega))
        go_wp2_with fail
        refine (hjt.out _).mono ?_
        rintro e wf ⟨rfl, hbf⟩
        have hWf : Hid (Below w.heap.size w wf) := Below.on hWd.out hbf
        clear hbf hjt
        go_wp2
        go_ret
        exact ⟨rfl, hWf.out⟩
set_option maxHeartbeats 1000000 in
/-- impl.CredText. -/
theorem iCredText_any (u g : Int) (ca : Option Addr) (cl cc : Nat) (cr : Bool) (f : Nat → Int) (w : World) (hi : Ints ca cl f w) (hp : PowW w) :
    Calls Tryd.prog 7 #[.agg #[.int .i64 u, .int .i64 g, .slice ca cl cc, .bool cr]] w fun e w' => e = .returned (.string (credT u g cl f cr)) ∧ Below w.heap.size w w' := by
  cases hc : credB u g cl f
  · have hR : Hid (∀ w', Below w.heap.size w w' → Calls Tryd.prog 12 #[.agg #[.int .i64 u, .int .i64 g, .slice ca cl cc, .bool cr]] w' fun e w'' => e = .returned (.bool false) ∧ Below w'.heap.size w' w'') := (fun w' hb => by
      have := iCredRight_any u g ca cl cc cr f w' (hi.below hb)
      rwa [hc] at this)
    have hno : Hid (credT u g cl f cr = ⟨#[]⟩) := credT_no hc
    have hW : Hid (Below w.heap.size w (w.alloc (.cells #[.int .i64 u, .int .i64 g, .slice ca cl cc, .bool cr] 25))) := bel_alloc _ _
    obtain ⟨xl, x0, x1, x2, x3⟩ := bx4_new w (.int .i64 u) (.int .i64 g) (.slice ca cl cc) (.bool cr) 25
    clear hi hc hp
    go_enter Tryd.func7, Tryd.ntmps7
    go_wp2_with fail
    refine (hR.out _ hW.out).mono ?_
    rintro e w1 ⟨rfl, hb1⟩
    have hW1 : Hid (Below w.heap.size w w1) := Below.on hW.out hb1
    clear hb1 xl x0 x1 x2 x3
    go_wp2
    go_ret
    exact ⟨ret_text hno.out.symm, hW1.out⟩
  · obtain ⟨⟨u0, _⟩, ⟨g0, _⟩, _⟩ := cred_facts hc
    obtain ⟨n, rfl⟩ := Int.eq_ofNat_of_zero_le u0
    obtain ⟨m, rfl⟩ := Int.eq_ofNat_of_zero_le g0
    refine (iCredText_in n m ca cl cc cr f hc w hi hp).mono ?_
    rintro e w' ⟨rfl, hb⟩
    refine ⟨ret_text ?_, hb⟩
    simp [credT, hc]
end Go.Proofs.YtibofkjonepbpaaDoor
