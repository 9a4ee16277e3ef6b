/- Laid together: AceCat, INfsRd. -/
import Derived.Test.YtgooanaacebncaaDoorRC23
import Derived.Deep.AppendSrc
import Derived.Deep.Upon
import Derived.Lib.AppendZeros
import Derived.Test.YtgooanaacebncaaDoorRC22
/- Lists of aces that are put behind one another by append: nothing here names a program. -/
namespace Go.Proofs.YtgooanaacebncaaDoor
open Go.RowKit Go.PlainAid Go.Deep
set_option linter.unusedVariables false
/-- The cells of a list of aces. -/
def pcA : List Ac → List Value
  | [] => []
  | x :: l => .bool x.al :: .int .i64 x.wh :: .int .i64 x.id :: .int .i64 x.fl :: .int .i64 x.ma :: pcA l
theorem pcA_length (l : List Ac) : (pcA l).length = l.length * 5 := by
  induction l with
  | nil => rfl
  | cons p l ih => simp [pcA, ih]; omega
theorem pcA_append (l k : List Ac) : pcA (l ++ k) = pcA l ++ pcA k := by
  induction l with
  | nil => rfl
  | cons p l ih => simp [pcA, ih]
theorem pcA_one (l : List Ac) : ∀ u ∈ pcA l, u.oneCell' = true := by
  induction l with
  | nil => intro u h; cases h
  | cons p l ih =>
    intro u h
    simp only [pcA, List.mem_cons] at h
    rcases h with rfl | rfl | rfl | rfl | rfl | h
    · rfl
    · rfl
    · rfl
    · rfl
    · rfl
    · exact ih u h
theorem acAt_cons (x : Ac) (l : List Ac) (i : Nat) : acAt (x :: l) (i + 1) = acAt l i := by simp [acAt, List.getD]
theorem pcA_get (l : List Ac) : ∀ i, i < l.length → (pcA l)[i * 5]? = some (.bool (acAt l i).al) ∧ (pcA l)[i * 5 + 1]? = some (.int .i64 (acAt l i).wh) ∧ (pcA l)[i * 5 + 2]? = some (.int .i64 (acAt l i).id) ∧ (pcA l)[i * 5 + 3]? = some (.int .i64 (acAt l i).fl) ∧ (pcA l)[i * 5 + 4]? = some (.int .i64 (acAt l i).ma) := by
  induction l with
  | nil => intro i h; simp at h
  | cons p l ih =>
    intro i h
    cases i with
    | zero => exact ⟨rfl, rfl, rfl, rfl, rfl⟩
    | succ i =>
      have h1 := ih i (by simpa using h)
      have e1 : (i + 1) * 5 = i * 5 + 1 + 1 + 1 + 1 + 1 := by omega
      rw [e1, acAt_cons]
      have e2 : i * 5 + 1 + 1 + 1 + 1 + 1 + 1 = i * 5 + 1 + 1 + 1 + 1 + 1 + 1 := rfl
      have e3 : i * 5 + 1 + 1 + 1 + 1 + 1 + 2 = (i * 5 + 2) + 1 + 1 + 1 + 1 + 1 := by omega
      have e4 : i * 5 + 1 + 1 + 1 + 1 + 1 + 3 = (i * 5 + 3) + 1 + 1 + 1 + 1 + 1 := by omega
      have e5 : i * 5 + 1 + 1 + 1 + 1 + 1 + 4 = (i * 5 + 4) + 1 + 1 + 1 + 1 + 1 := by omega
      rw [e3, e4, e5]
      simp only [pcA, List.getElem?_cons_succ]
      exact h1
theorem addr_addA (b off i : Nat) : (⟨b, off, none⟩ : Addr).add i = ⟨b, off + i, none⟩ := by
  by_cases e : i = 0
  · subst e; simp [Addr.add]
  · simp [Addr.add, e]
theorem acs_news {b off : Nat} {l : List Ac} {w : World} (hc : ∀ i, i < l.length → Five w b (off + i * 5) (acAt l i)) :
    ∀ j u, (pcA l)[j]? = some u → w.cell? ((⟨b, off, none⟩ : Addr).add j) = some u := by
  intro j u hj
  have hlt : j < l.length * 5 := by
    have := (List.getElem?_eq_some_iff.1 hj).1
    rwa [pcA_length] at this
  have hi : j / 5 < l.length := by omega
  obtain ⟨g0, g1, g2, g3, g4⟩ := pcA_get l (j / 5) hi
  obtain ⟨c0, c1, c2, c3, c4⟩ := hc (j / 5) hi
  rw [addr_addA]
  rcases (by omega : j = j / 5 * 5 ∨ j = j / 5 * 5 + 1 ∨ j = j / 5 * 5 + 2 ∨ j = j / 5 * 5 + 3 ∨ j = j / 5 * 5 + 4) with ej | ej | ej | ej | ej
  · rw [ej, g0] at hj; rw [ej, ← hj]; exact c0
  · rw [ej, g1] at hj; rw [ej, ← hj]; exact c1
  · rw [ej, g2] at hj; rw [ej, ← hj]; exact c2
  · rw [ej, g3] at hj; rw [ej, ← hj]; exact c3
  · rw [ej, g4] at hj; rw [ej, ← hj]; exact c4
/-- A row that is owned, as a list of aces. -/
theorem ownA_of_row {w : World} {B : Nat} {t : TypeId} {v : Value} {l : List Ac} (h : w.ownsRow B t 5 v l.length (pcA l)) :
    ∃ a cap, v = .slice a l.length cap ∧ OwnA a l.length l w ∧ (∀ A, a = some A → B ≤ A.block ∧ A.block < w.heap.size) := by
  obtain ⟨_, ⟨rfl, hn⟩ | ⟨g, cap, cur, rfl, hb, hg, hc, _, hs, ht⟩⟩ := h
  · refine ⟨none, 0, by rw [hn], ⟨rfl, fun h => absurd h (by omega)⟩, fun A e => by cases e⟩
  · have hlt : g < w.heap.size := (Array.getElem?_eq_some_iff.1 hg).1
    refine ⟨some ⟨g, 0, none⟩, cap, rfl, ⟨rfl, fun _ => ⟨g, rfl, hlt, fun i hi => ?_⟩⟩, fun A e => by cases e; exact ⟨hb, hlt⟩⟩
    have cell : ∀ j u, (pcA l)[j]? = some u → j < l.length * 5 → w.cell? ⟨g, j, none⟩ = some u := by
      intro j u hj hlt
      rw [← ht, List.getElem?_take_of_lt hlt] at hj
      have : w.cell? ⟨g, j, none⟩ = cur[j]? := by simp [World.cell?, hg]
      rw [this]
      simpa using hj
    have froz : ∀ j, j < cur.size → w.frozen? ⟨g, j, none⟩ = false := by
      intro j hj
      simp [World.frozen?, hg]
    have hsz : i * 5 + 4 < cur.size := by
      rw [hs]
      have : (i + 1) * 5 ≤ cap * 5 := Nat.mul_le_mul_right _ (by omega)
      omega
    obtain ⟨g0, g1, g2, g3, g4⟩ := pcA_get l i hi
    exact ⟨⟨cell _ _ g0 (by omega), cell _ _ g1 (by omega), cell _ _ g2 (by omega), cell _ _ g3 (by omega), cell _ _ g4 (by omega)⟩, ⟨froz _ (by omega), froz _ (by omega), froz _ (by omega), froz _ (by omega), froz _ (by omega)⟩⟩
theorem own_blockA {w : World} {B : Nat} {t : TypeId} {s : Nat} {v : Value} {n : Nat} {xs : List Value} (h : w.ownsRow B t s v n xs) : ∀ k, v.ownBlock = some k → B ≤ k := by
  obtain ⟨_, ⟨rfl, _⟩ | ⟨g, cap, cur, rfl, hb, _⟩⟩ := h
  · intro k hk; simp [Value.ownBlock] at hk
  · intro k hk; simp [Value.ownBlock] at hk; omega
theorem rowA_below {w w' : World} {B : Nat} {t : TypeId} {s : Nat} {v : Value} {n : Nat} {xs : List Value} (h : w.ownsRow B t s v n xs) (hb : Below w.heap.size w w') : w'.ownsRow B t s v n xs := by
  obtain ⟨h0, ⟨rfl, hn⟩ | ⟨g, cap, cur, rfl, hB, hg, hc, hm, hs, ht⟩⟩ := h
  · exact ⟨h0, .inl ⟨rfl, hn⟩⟩
  · have hlt : g < w.heap.size := (Array.getElem?_eq_some_iff.1 hg).1
    exact ⟨h0, .inr ⟨g, cap, cur, rfl, hB, (hb.block g hlt).trans hg, hc, hm, hs, ht⟩⟩
theorem rowA_start (w : World) (X : Nat) (hX : X = w.heap.size) (t : TypeId) : (w.alloc (.cells #[] t)).ownsRow X t 5 (.slice (some ⟨X, 0, none⟩) 0 0) ([] : List Ac).length (pcA []) := by
  subst hX
  exact World.ownsRow_made w #[] 0 (Nat.le_refl _) (by unfold maxLen; omega) rfl
/-- A slice of one ace that was just built. -/
theorem acs_one (w : World) (x : Ac) (t : TypeId) : Acs (some ⟨w.heap.size, 0, none⟩) 1 [x] (w.alloc (.cells #[.bool x.al, .int .i64 x.wh, .int .i64 x.id, .int .i64 x.fl, .int .i64 x.ma] t)) := by
  refine ⟨rfl, fun _ => ⟨w.heap.size, 0, rfl, by simp, fun i hi => ?_⟩⟩
  have : i = 0 := by omega
  subst this
  exact five_new w x t
/-- append, of a list of aces, onto a row that the call owns. -/
theorem run_append_acs {P : Program} (w : World) (base : Nat) (t ty e : TypeId) (ht : P.underlying t = some (.slice e)) (hinfo : (P.info? e).map (fun i => (i.zero, i.size, i.bytes)) = some (some (.agg #[.bool false, .int .i64 0, .int .i64 0, .int .i64 0, .int .i64 0]), 5, 40))
    (v : Value) (acc : List Ac) (hown : w.ownsRow base e 5 v acc.length (pcA acc)) (a : Option Addr) (len cap : Nat) (l : List Ac) (hp : Acs a len l w) (hsm : acc.length + len ≤ 1000000000) (hbase : base ≤ w.heap.size) :
    ∃ v' w', (Builtin.append_ #[t, t] ty #[v, .slice a len cap]).run P w = .ok v' w' ∧ w'.ownsRow base e 5 v' (acc ++ l).length (pcA (acc ++ l)) ∧ w.grownBy w' v.ownBlock := by
  obtain ⟨i, hi, hzz⟩ := Option.map_eq_some_iff.1 hinfo
  simp only [Prod.mk.injEq] at hzz
  obtain ⟨hz, hs, hb⟩ := hzz
  obtain ⟨hln, hp⟩ := hp
  subst hln
  by_cases h0 : l.length = 0
  · have hl : l = [] := List.eq_nil_of_length_eq_zero h0
    subst hl
    rw [List.append_nil]
    have hsrc : Src P i.size t (.slice a 0 cap) 0 [] w := by
      cases a with
      | none => exact Src.ofNil w ht cap
      | some a => exact Src.ofSlice w ht a 0 cap [] (by simp) (fun j u h => by simp at h) (fun u h => by cases h)
    have hv : ∃ b n c, v = .slice b n c ∧ n ≤ c := by
      obtain ⟨_, ⟨rfl, hn⟩ | ⟨g, c, cur, rfl, _, _, hc, _⟩⟩ := hown
      · exact ⟨none, 0, 0, rfl, Nat.le_refl _⟩
      · exact ⟨_, _, _, rfl, hc⟩
    obtain ⟨b, n, c, rfl, hnc⟩ := hv
    exact ⟨_, w, run_append_nothing w t t ty e i ht hi b n c hnc _ hsrc, hown, ⟨rfl, rfl, rfl, Nat.le_refl _, fun _ _ _ => rfl⟩⟩
  · obtain ⟨b, off, rfl, hlt, hc⟩ := hp (by omega)
    obtain ⟨v', w', hr, h1, h2, _⟩ := run_append_own (P := P) w base t ty e i _ 5 40 ht hi hz hs hb rfl (by decide) v acc.length (pcA acc) hown ⟨b, off, none⟩ l.length cap (pcA l) (pcA_length l) (acs_news hc) (pcA_one l) (by unfold maxLen; omega) (by omega) hbase
    refine ⟨v', w', hr, ?_, h2⟩
    rw [pcA_append, List.length_append]
    exact h1
/-- The builtin append, by what it runs to. -/
theorem wpList_append_runA {P : Program} (w : World) {ops : Array Oper} {rest : List Oper} {o : Oper} {a : Act} {Q : Exit → Act → World → Prop} (hgd : o.guard = none) (s x : Operand) (t tx : TypeId)
    (ho : o.op = .call { callee := .builtin .append, args := #[s, x], argTypes := #[t, tx] }) (v xv v' : Value) (w' : World) (hs : a.eval s = v) (hx : a.eval x = xv)
    (hr : (Builtin.append_ #[t, tx] o.type #[v, xv]).run P w = .ok v' w') (h : wpList P ops Q rest (a.put o.dst v') w') : wpList P ops Q (o :: rest) a w :=
  wpList_plain hgd fun _ hK => by
    unfold Oper.wp execOp
    simp only [ho, resolve, invoke, builtin, Sem.run_bind, Sem.run_pure, Result.andThen_ok, List.map_toArray, List.map_cons, List.map_nil, hs, hx, hr]
    exact hK _ _ h
/-- append of one ace onto a row that was owned ahead of the ace's making. -/
theorem append_one {P : Program} (w0 w : World) (t ty e : TypeId) (ht : P.underlying t = some (.slice e)) (hinfo : (P.info? e).map (fun i => (i.zero, i.size, i.bytes)) = some (some (.agg #[.bool false, .int .i64 0, .int .i64 0, .int .i64 0, .int .i64 0]), 5, 40))
    (v : Value) (acc : List Ac) (hown : w.ownsRow w0.heap.size e 5 v acc.length (pcA acc)) (hB : Below w0.heap.size w0 w) (x : Ac) (hsm : acc.length ≤ 100000000) :
    ∃ v' w', (Builtin.append_ #[t, t] ty #[v, .slice (some ⟨w.heap.size, 0, none⟩) 1 1]).run P (w.alloc (.cells #[.bool x.al, .int .i64 x.wh, .int .i64 x.id, .int .i64 x.fl, .int .i64 x.ma] e)) = .ok v' w' ∧ w'.ownsRow w0.heap.size e 5 v' (acc ++ [x]).length (pcA (acc ++ [x])) ∧ Below w0.heap.size w0 w' := by
  have hb1 := bel_alloc w (.cells #[.bool x.al, .int .i64 x.wh, .int .i64 x.id, .int .i64 x.fl, .int .i64 x.ma] e)
  have hB1 := Below.on hB hb1
  have hown1 := rowA_below hown hb1
  obtain ⟨v', w', hr, h1, h2⟩ := run_append_acs _ w0.heap.size t ty e ht hinfo v acc hown1 _ 1 1 [x] (acs_one w x e) (by omega) hB1.size
  exact ⟨v', w', hr, h1, hB1.grown h2 hB1.size (own_blockA hown1)⟩
/-- What readNfs ends in. -/
def NfsEnd (t : List UInt8) (w : World) (e : Ending) (w' : World) : Prop := Below w.heap.size w w' ∧ ((nfsI t = none ∧ ∃ v, e = .returned (.tuple #[v, .bool false])) ∨ ∃ l v, nfsI t = some l ∧ e = .returned (.tuple #[v, .bool true]) ∧ w'.ownsRow w.heap.size 50 5 v l.length (pcA l))
theorem btsN_at {ps : List (List UInt8)} {k : Nat} (h : k < ps.length) : (bts ps)[k]? = some ⟨(ps[k]).toArray⟩ := by simp [bts, h]
theorem piece_le (c : UInt8) (t : List UInt8) : ∀ p ∈ spl c t, p.length ≤ t.length := by
  have key : ∀ (ps : List (List UInt8)), ∀ p ∈ ps, p.length ≤ (unspl c ps).length := by
    intro ps
    induction ps with
    | nil => intro p hp; cases hp
    | cons x r ih =>
      intro p hp
      cases r with
      | nil => simp at hp; subst hp; simp [unspl]
      | cons y r =>
        simp only [unspl, List.length_append, List.length_cons]
        rcases List.mem_cons.1 hp with rfl | hp
        · omega
        · have := ih p hp
          omega
  intro p hp
  have := key _ p hp
  rwa [unspl_spl] at this
set_option maxRecDepth 100000 in
set_option maxHeartbeats 400000 in
theorem iReadNfs_full (s : ByteArray) (m : Int) (h0 : 0 < s.size) (hs : s.size ≤ 8000) (w : World) (hm : w.cell? ⟨1, 0, none⟩ = some (.int .i64 m)) :
    Calls Tryd.prog 70 #[.string s] w (NfsEnd s.data.toList w) := by
  have hl : s.data.toList.length = s.size := (Lib.size_eq s).symm
  have hlt := block_lt_of_cell hm
  have hne := full_text h0
  have hnil : s.data.toList ≠ [] := fun e => by rw [e] at hl; simp at hl; omega
  have hlen := spl_len 44 s.data.toList
  have hS : Hid (Calls Tryd.prog 80 #[.string s, .string ⟨#[44]⟩] w fun e w' => e = .returned (.slice (some ⟨w.heap.size, 0, none⟩) (spl 44 s.data.toList).length (spl 44 s.data.toList).length) ∧ w' = w.alloc (.cells ((bts (spl 44 s.data.toList)).map Value.string).toArray 9)) := split_at 44 s m hs w hm
  have HR : Hid (nfsI s.data.toList = if (∀ p ∈ spl 44 s.data.toList, aceI p ≠ none) ∧ acesB (xsOf (spl 44 s.data.toList)) = true then some (xsOf (spl 44 s.data.toList)) else none) := (by show _ = _; rw [nfsI, if_neg hnil])
  have HPL : Hid (∀ p ∈ spl 44 s.data.toList, p.length ≤ 8000) := (fun p hp => by have := piece_le 44 s.data.toList p hp; omega)
  have HM : Hid (∀ w', Below w.heap.size w w' → w'.cell? ⟨1, 0, none⟩ = some (.int .i64 m)) := (fun w' hb => (hb.cell (p := ⟨_, 0, none⟩) hlt).trans hm)
  generalize hnI : nfsI s.data.toList = res at HR
  have HRS : Hid (nfsI s.data.toList = res) := hnI
  clear hl hnil hm hlt hnI
  generalize spl 44 s.data.toList = ps at hS HR hlen HPL
  have hpl : ps.length ≤ 8001 := by rw [(Lib.size_eq s).symm] at hlen; omega
  clear hlen
  go_enter Tryd.func70, Tryd.ntmps70
  go_wp2_with fail
  refine hS.out.mono ?_
  rintro e w1 ⟨rfl, rfl⟩
  have HC : Hid (∀ k (h : k < ps.length), (w.alloc (.cells ((bts ps).map Value.string).toArray 9)).cell? ⟨w.heap.size, k, none⟩ = some (.string ⟨(ps[k]).toArray⟩)) := (fun k h => cells_at4 w (bts ps) _ (btsN_at h))
  have hB0 : Hid (Below w.heap.size w (w.alloc (.cells ((bts ps).map Value.string).toArray 9))) := bel_alloc _ _
  have hz0 : w.heap.size < (w.alloc (.cells ((bts ps).map Value.string).toArray 9)).heap.size := by simp
  clear hS
  generalize w.alloc (.cells ((bts ps).map Value.string).toArray 9) = w1 at HC hB0 hz0 ⊢
  go_wp2
  go_loopw [4, 14] (fun v i wr => ∃ k : Nat, k ≤ ps.length ∧ i = .int .i64 k ∧ Hid (∀ j (h : j < k) (h2 : j < ps.length), aceI (ps[j]) ≠ none) ∧ Hid (wr.ownsRow w1.heap.size 50 5 v (xsOf (ps.take k)).length (pcA (xsOf (ps.take k)))) ∧ Hid (Below w1.heap.size w1 wr)) (fun _ i _ => ps.length - (intOf i).toNat)
  case atStart => exact ⟨0, Nat.zero_le _, rfl, fun j h => absurd h (by omega), World.ownsRow_nil _ _ _ _, Below.refl _ _⟩
  case round =>
    obtain ⟨k, hk, rfl, hD, hOw, hB⟩ := hrel
    by_cases hlt : k < ps.length
    · have hlt' : (k : Int) < (ps.length : Int) := by omega
      have hcz : wr.cell? ⟨w.heap.size, k, none⟩ = some (.string ⟨(ps[k]).toArray⟩) := (hB.out.cell (p := ⟨w.heap.size, k, none⟩) hz0).trans (HC.out k hlt)
      have hRA : Hid (Calls Tryd.prog 66 #[.string ⟨(ps[k]).toArray⟩] wr (AceEnd ps[k] wr)) := (by
        have := iReadA_any ⟨(ps[k]).toArray⟩ m (by have := HPL.out _ (List.getElem_mem hlt); simpa [ByteArray.size] using this) wr (HM.out _ (Below.on hB0.out hB.out))
        show Calls _ _ _ _ _
        simpa using this)
      have hxl : (xsOf (ps.take k)).length ≤ 8001 := by rw [xsOf_len]; simp; omega
      go_wp2_with fail
      refine hRA.out.mono ?_
      rintro e wa ⟨hba, ⟨hn, rfl⟩ | ⟨x, hx, rfl⟩⟩
      · have hno : Hid (nfsI s.data.toList = none) := (by
          show _ = _
          rw [HRS.out, HR.out, if_neg (fun h => h.1 _ (List.getElem_mem hlt) hn)])
        have hW : Hid (Below w.heap.size w wa) := Below.on hB0.out (Below.on hB.out hba)
        clear hba hRA hD hOw HC hcz hn
        go_wp2
        go_ret2
        exact ⟨Below.onA hW.out, .inl ⟨hno.out, _, rfl⟩⟩
      · have HG : Hid (xsOf (ps.take (k + 1)) = xsOf (ps.take k) ++ [x]) := xsOf_take ps hlt hx
        have hD2 : Hid (∀ j (h : j < k + 1) (h2 : j < ps.length), aceI (ps[j]) ≠ none) := (fun j h h2 => by
          by_cases e : j = k
          · subst e; rw [hx]; simp
          · exact hD.out j (by omega) h2)
        have hBA : Hid (Below w1.heap.size w1 (wa.alloc (.cells #[.bool x.al, .int .i64 x.wh, .int .i64 x.id, .int .i64 x.fl, .int .i64 x.ma] 50))) := Below.onA (Below.on hB.out hba)
        have hOA : Hid ((wa.alloc (.cells #[.bool x.al, .int .i64 x.wh, .int .i64 x.id, .int .i64 x.fl, .int .i64 x.ma] 50)).ownsRow w1.heap.size 50 5 u4 (xsOf (ps.take k)).length (pcA (xsOf (ps.take k)))) := rowA_below (rowA_below hOw.out hba) (bel_alloc _ _)
        have hF : Hid (Five (wa.alloc (.cells #[.bool x.al, .int .i64 x.wh, .int .i64 x.id, .int .i64 x.fl, .int .i64 x.ma] 50)) wa.heap.size 0 x) := five_new wa x _
        clear hba hOw hB hRA hD hx hcz
        go_upto_region 10 with fail
        generalize wa.alloc (.cells #[.bool x.al, .int .i64 x.wh, .int .i64 x.id, .int .i64 x.fl, .int .i64 x.ma] 50) = wb at hBA hOA hF ⊢
        generalize wa.heap.size = X at hF ⊢
        obtain ⟨c0, c1, c2, c3, c4⟩ := hF.out
        simp only [Nat.zero_add] at c0 c1 c2 c3 c4
        obtain ⟨v2, w2, hrr, hO2, hB2⟩ := append_one (P := Tryd.prog) w1 wb 55 55 50 Tryd.underlying55 infoAce u4 (xsOf (ps.take k)) hOA.out hBA.out x (by omega)
        rw [← HG.out] at hO2
        have HO2 : Hid (w2.ownsRow w1.heap.size 50 5 v2 (xsOf (ps.take (k + 1))).length (pcA (xsOf (ps.take (k + 1))))) := hO2
        have HB2 : Hid (Below w1.heap.size w1 w2) := hB2
        clear hO2 hB2 hBA hOA
        go_wp2_with (at_builtin; refine wpList_append_runA _ rfl (.tmp 25) (.tmp 27) 55 55 rfl _ _ _ _ rfl rfl hrr ?_)
        go_roundw
        case rel => exact ⟨k + 1, by omega, by go_num, hD2, HO2, HB2⟩
        case measure => simp [intOf]; omega
    · have hke : k = ps.length := by omega
      subst hke
      have ht : ps.take ps.length = ps := List.take_length
      have hOe := hOw.out
      rw [ht] at hOe
      obtain ⟨ga, gc, hgv, hgi, _⟩ := ownA_of_row hOe
      have hNR : Hid (Calls Tryd.prog 104 #[.slice ga (xsOf ps).length gc] wr fun e w'' => e = .returned (.bool (acesB (xsOf ps))) ∧ Below wr.heap.size wr w'') := iNfsRight_any ga _ gc _ wr hgi.acs
      have hall : ∀ p ∈ ps, aceI p ≠ none := fun p hp => by
        obtain ⟨j, hj, rfl⟩ := List.mem_iff_getElem.1 hp
        exact hD.out j hj hj
      have hEnd : Hid ((acesB (xsOf ps) = true ∧ nfsI s.data.toList = some (xsOf ps)) ∨ (acesB (xsOf ps) = false ∧ nfsI s.data.toList = none)) := (by
        cases hg : acesB (xsOf ps)
        · exact .inr ⟨rfl, by rw [HRS.out, HR.out, if_neg (fun h => by rw [hg] at h; cases h.2)]⟩
        · exact .inl ⟨rfl, by rw [HRS.out, HR.out, if_pos ⟨hall, hg⟩]⟩)
      have hOb : Hid (wr.ownsRow w.heap.size 50 5 (.slice ga (xsOf ps).length gc) (xsOf ps).length (pcA (xsOf ps))) := (by
        rw [hgv] at hOe
        obtain ⟨q0, ⟨q1, q2⟩ | ⟨b2, cap2, cur2, q1, q2, q3⟩⟩ := hOe
        · exact ⟨q0, .inl ⟨q1, q2⟩⟩
        · exact ⟨q0, .inr ⟨b2, cap2, cur2, q1, Nat.le_trans hB0.out.size q2, q3⟩⟩)
      have hW : Hid (Below w.heap.size w wr) := Below.on hB0.out hB.out
      rw [hgv]
      generalize hGL : (xsOf ps).length = GL at hNR hOb ⊢
      have HGL : Hid ((xsOf ps).length = GL) := hGL
      generalize acesB (xsOf ps) = gr at hNR hEnd
      clear hgi hall hD hOw hOe HC HR HRS hgv ht hB hB0 hk hlt hGL
      go_wp2_with fail
      refine hNR.out.mono ?_
      rintro e wz ⟨rfl, hbz⟩
      have hWz : Hid (Below w.heap.size w wz) := Below.on hW.out hbz
      have hOz : Hid (wz.ownsRow w.heap.size 50 5 (.slice ga GL gc) GL (pcA (xsOf ps))) := rowA_below hOb.out hbz
      clear hbz
      rcases hEnd.out with ⟨rfl, hy⟩ | ⟨rfl, hy⟩
      · have HY : Hid (nfsI s.data.toList = some (xsOf ps)) := hy
        clear hEnd hy
        go_wp2
        go_ret2
        exact ⟨hWz.out, .inr ⟨xsOf ps, _, HY.out, rfl, by rw [HGL.out]; exact hOz.out⟩⟩
      · have HY : Hid (nfsI s.data.toList = none) := hy
        clear hEnd hy
        go_wp2
        go_ret2
        exact ⟨hWz.out, .inl ⟨HY.out, _, rfl⟩⟩
set_option maxRecDepth 100000 in
/-- impl.readNfs. -/
theorem iReadNfs_any (s : ByteArray) (m : Int) (hs : s.size ≤ 8000) (w : World) (hm : w.cell? ⟨1, 0, none⟩ = some (.int .i64 m)) :
    Calls Tryd.prog 70 #[.string s] w (NfsEnd s.data.toList w) := by
  by_cases h0 : s.size = 0
  · obtain rfl := text_nil h0
    clear h0 hm
    have hr : Hid (nfsI (⟨#[]⟩ : ByteArray).data.toList = some []) := rfl
    go_enter Tryd.func70, Tryd.ntmps70
    go_wp2
    go_ret2
    exact ⟨Below.refl _ _, .inr ⟨[], _, hr.out, rfl, World.ownsRow_nil _ _ _ _⟩⟩
  · exact iReadNfs_full s m (by omega) hs w hm
end Go.Proofs.YtgooanaacebncaaDoor
