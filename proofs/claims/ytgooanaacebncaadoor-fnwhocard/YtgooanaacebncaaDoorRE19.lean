/- Laid together: RdGroups, CrMath. -/
import Derived.Test.YtgooanaacebncaaDoorRE17
import Derived.Test.YtgooanaacebncaaDoorRE18
/- impl.readGroups. -/
namespace Go.Proofs.YtgooanaacebncaaDoor
open Go.RowKit Go.PlainAid Go.Deep
set_option linter.unusedVariables false
theorem infoN64 : (Tryd.prog.info? 2).map (fun i => (i.zero, i.size, i.bytes)) = some (some (.int .i64 0), 1, 8) := by kernel_rfl
/-- Numbers as values. -/
def iv (l : List Int) : List Value := l.map fun n => Value.int .i64 n
theorem iv_snoc (l : List Int) (x : Int) : iv (l ++ [x]) = iv l ++ [.int .i64 x] := by simp [iv]
theorem one_num (x : Int) : ∀ u ∈ [Value.int .i64 x], u.oneCell' = true := by
  intro u hu
  simp at hu
  subst hu
  rfl
theorem num_new (w : World) (x : Int) (t : TypeId) : ∀ j u, [Value.int .i64 x][j]? = some u → (w.alloc (.cells #[.int .i64 x] t)).cell? ((⟨w.heap.size, 0, none⟩ : Addr).add j) = some u := by
  intro j u hj
  have hb : (w.alloc (.cells #[.int .i64 x] t)).heap[w.heap.size]? = some (.cells #[.int .i64 x] t) := by
    rw [World.alloc]
    exact Array.getElem?_push_size
  cases j with
  | zero =>
    simp at hj
    subst hj
    have e : (⟨w.heap.size, 0, none⟩ : Addr).add 0 = ⟨w.heap.size, 0, none⟩ := by simp [Addr.add]
    rw [e]
    simp only [World.cell?, hb]
    rfl
  | succ j => simp at hj
/-- The number at a place. -/
def atN (l : List Int) (i : Nat) : Int := l.getD i 0
/-- A row of numbers that is owned, by its cells. -/
theorem own_nums {w : World} {B : Nat} {t : TypeId} {v : Value} {l : List Int} (h : w.ownsRow B t 1 v l.length (iv l)) :
    ∃ a c, v = .slice a l.length c ∧ Ints a l.length (atN l) w ∧ (∀ A, a = some A → B ≤ A.block) := by
  obtain ⟨_, ⟨rfl, hn⟩ | ⟨g, cap, cur, rfl, hb, hg, hc, _, hs, ht⟩⟩ := h
  · exact ⟨none, 0, by rw [hn], fun h => absurd h (by omega), fun A e => by cases e⟩
  · have hlt : g < w.heap.size := (Array.getElem?_eq_some_iff.1 hg).1
    refine ⟨some ⟨g, 0, none⟩, cap, rfl, fun _ => ⟨g, 0, rfl, hlt, fun i hi => ?_⟩, fun A e => by cases e; exact hb⟩
    have hj2 : (iv l)[i]? = some (.int .i64 (atN l i)) := by simp [iv, atN, List.getElem?_eq_getElem hi, List.getD]
    rw [← ht, List.getElem?_take_of_lt (by omega)] at hj2
    have : w.cell? ⟨g, 0 + i, none⟩ = cur[i]? := by simp [World.cell?, hg]
    rw [this]
    simpa using hj2
/-- append of one number onto a row that was owned ahead of the number's making. -/
theorem append_num (w0 w : World) (v : Value) (l : List Int) (hown : w.ownsRow w0.heap.size 2 1 v l.length (iv l)) (hB : Below w0.heap.size w0 w) (x : Int) (hsm : l.length ≤ 100000000) :
    ∃ v' w', (Builtin.append_ #[23, 23] 23 #[v, .slice (some ⟨w.heap.size, 0, none⟩) 1 1]).run Tryd.prog (w.alloc (.cells #[.int .i64 x] 2)) = .ok v' w' ∧ w'.ownsRow w0.heap.size 2 1 v' (l ++ [x]).length (iv (l ++ [x])) ∧ Below w0.heap.size w0 w' ∧ w.grownBy w' v.ownBlock := by
  obtain ⟨i, hi, hzz⟩ := Option.map_eq_some_iff.1 infoN64
  simp only [Prod.mk.injEq] at hzz
  obtain ⟨hz, hs, hb⟩ := hzz
  have hb1 := bel_alloc w (.cells #[.int .i64 x] 2)
  have hB1 := Below.on hB hb1
  have hown1 := rowT_below hown hb1
  obtain ⟨v', w', hr, h1, h2, _⟩ := run_append_own (P := Tryd.prog) _ w0.heap.size 23 23 2 i _ 1 8 Tryd.underlying23 hi hz hs hb rfl (by decide) v l.length (iv l) hown1 ⟨w.heap.size, 0, none⟩ 1 1 [.int .i64 x] rfl (num_new w x _) (one_num x) (by unfold maxLen; omega) (by omega) hB1.size
  refine ⟨v', w', hr, ?_, hB1.grown h2 hB1.size (own_blockT hown1), ?_⟩
  · rw [iv_snoc, List.length_append]
    exact h1
  · exact ⟨h2.os, h2.tape, h2.output, Nat.le_trans (by simp) h2.size, fun k hk hne => (h2.block k (by simp; omega) hne).trans (hb1.block k hk)⟩
/-- The numbers of some pieces. -/
def gv (ps : List (List UInt8)) : List Int := ps.map numI
theorem gv_take (ps : List (List UInt8)) {k : Nat} (h : k < ps.length) : gv (ps.take (k + 1)) = gv (ps.take k) ++ [numI ps[k]] := by
  rw [← List.take_append_getElem h]
  exact List.map_append
/-- readGroups. -/
def rdG (l : List UInt8) : Option (List Int) := if l = [] then some [] else (if (∀ p ∈ spl 44 l, rdI p ≠ none) ∧ grB (gv (spl 44 l)).length (atN (gv (spl 44 l))) = true then some (gv (spl 44 l)) else none)
/-- What readGroups ends in. -/
def GroupsEnd (l : List UInt8) (w : World) (e : Ending) (w' : World) : Prop := Below w.heap.size w w' ∧ ((rdG l = none ∧ ∃ v, e = .returned (.tuple #[v, .bool false])) ∨ ∃ xs v, rdG l = some xs ∧ e = .returned (.tuple #[v, .bool true]) ∧ w'.ownsRow w.heap.size 2 1 v xs.length (iv xs))
theorem bts_at {ps : List (List UInt8)} {k : Nat} (h : k < ps.length) : (bts ps)[k]? = some ⟨(ps[k]).toArray⟩ := by simp [bts, h]
theorem cells_at (w : World) (l : List ByteArray) (t : TypeId) {k : Nat} {x : ByteArray} (h : l[k]? = some x) : (w.alloc (.cells (l.map Value.string).toArray t)).cell? ⟨w.heap.size, k, none⟩ = some (.string x) := by
  have hb : (w.alloc (.cells (l.map Value.string).toArray t)).heap[w.heap.size]? = some (.cells (l.map Value.string).toArray t) := by
    rw [World.alloc]
    exact Array.getElem?_push_size
  simp only [World.cell?, hb]
  simp [h]
theorem id_num {p : List UInt8} {n : Nat} (h : rdI p = some n) : numI p = (n : Int) := by
  rcases num_id p with ⟨h1, h2, _⟩ | ⟨_, h2⟩
  · rw [h] at h2
    have := (Option.some.inj h2)
    have := (inR_iff.1 h1).1
    omega
  · rw [h] at h2; cases h2
set_option maxRecDepth 100000 in
set_option maxHeartbeats 4000000 in
/-- impl.readGroups of a text that is not empty. -/
theorem iReadGroups_full (s : ByteArray) (m : Int) (h0 : 0 < s.size) (hs : s.size ≤ 8000) (w : World) (hm : w.cell? ⟨1, 0, none⟩ = some (.int .i64 m)) :
    Calls Tryd.prog 82 #[.string s] w (GroupsEnd s.data.toList w) := by
  have hl : s.data.toList.length = s.size := (Lib.size_eq s).symm
  have hne := full_text h0
  have hnil : s.data.toList ≠ [] := fun e => by rw [e] at hl; simp at hl; omega
  obtain ⟨hsp, hct⟩ := splitB_spl 44 s.size s (Nat.le_refl _)
  have hlen := spl_len 44 s.data.toList
  have hS : Hid (Calls Tryd.prog 80 #[.string s, .string ⟨#[44]⟩] w fun e w' => e = .returned (.slice (some ⟨w.heap.size, 0, none⟩) (spl 44 s.data.toList).length (spl 44 s.data.toList).length) ∧ w' = w.alloc (.cells ((bts (spl 44 s.data.toList)).map Value.string).toArray 9)) := (by
    have h := Tryd.strings_Split s ⟨#[44]⟩ m w (by omega) hm (by decide)
    rw [hsp, hct] at h
    exact h)
  have HR : Hid (rdG s.data.toList = if (∀ p ∈ spl 44 s.data.toList, rdI p ≠ none) ∧ grB (gv (spl 44 s.data.toList)).length (atN (gv (spl 44 s.data.toList))) = true then some (gv (spl 44 s.data.toList)) else none) := (by show _ = _; rw [rdG, if_neg hnil])
  clear hl hnil hsp hct hm
  generalize spl 44 s.data.toList = ps at hS HR hlen
  generalize hres : rdG s.data.toList = res at HR
  have HRS : Hid (rdG s.data.toList = res) := hres
  clear hres
  have hpl : ps.length ≤ 8001 := by rw [(Lib.size_eq s).symm] at hlen; omega
  clear hlen
  go_enter Tryd.func82, Tryd.ntmps82
  go_wp2_with fail
  refine hS.out.mono ?_
  rintro e w1 ⟨rfl, rfl⟩
  have HC : Hid (∀ k (h : k < ps.length), (w.alloc (.cells ((bts ps).map Value.string).toArray 9)).cell? ⟨w.heap.size, k, none⟩ = some (.string ⟨(ps[k]).toArray⟩)) := (fun k h => cells_at w (bts ps) _ (bts_at h))
  have hB0 : Hid (Below w.heap.size w (w.alloc (.cells ((bts ps).map Value.string).toArray 9))) := bel_alloc _ _
  have hz0 : w.heap.size < (w.alloc (.cells ((bts ps).map Value.string).toArray 9)).heap.size := by simp
  clear hS
  generalize w.alloc (.cells ((bts ps).map Value.string).toArray 9) = w1 at HC hB0 hz0 ⊢
  go_wp2
  go_loopw [4, 14] (fun v i wr => ∃ k : Nat, k ≤ ps.length ∧ i = .int .i64 k ∧ Hid (∀ j (h : j < k) (h2 : j < ps.length), rdI (ps[j]) ≠ none) ∧ Hid (wr.ownsRow w1.heap.size 2 1 v (gv (ps.take k)).length (iv (gv (ps.take k)))) ∧ Hid (Below w1.heap.size w1 wr)) (fun _ i _ => ps.length - (intOf i).toNat)
  case atStart => exact ⟨0, Nat.zero_le _, rfl, fun j h => absurd h (by omega), World.ownsRow_nil _ _ _ _, Below.refl _ _⟩
  case round =>
    obtain ⟨k, hk, rfl, hD, hOw, hB⟩ := hrel
    by_cases hlt : k < ps.length
    · have hlt' : (k : Int) < (ps.length : Int) := by omega
      have hcz : wr.cell? ⟨w.heap.size, k, none⟩ = some (.string ⟨(ps[k]).toArray⟩) := (hB.out.cell (p := ⟨w.heap.size, k, none⟩) hz0).trans (HC.out k hlt)
      have hId : Hid (∀ w, Calls Tryd.prog 81 #[.string ⟨(ps[k]).toArray⟩] w fun e w' => e = .returned (optI (rdI ps[k])) ∧ Below w.heap.size w w') := (fun w => by
        have := iReadId_any ⟨(ps[k]).toArray⟩ w
        simpa using this)
      cases hr : rdI ps[k] with
      | none =>
        have hno : Hid (rdG s.data.toList = none) := (by
          show _ = _
          rw [HRS.out, HR.out, if_neg (fun h => h.1 _ (List.getElem_mem hlt) hr)])
        rw [hr] at hId
        simp only [optI] at hId
        clear hD hOw HC
        go_wp2_with fail
        refine (hId.out _).mono ?_
        rintro e wa ⟨rfl, hba⟩
        have hW : Hid (Below w.heap.size w wa) := Below.on hB0.out (Below.on hB.out hba)
        clear hba hId
        go_wp2
        go_ret2
        exact ⟨hW.out, .inl ⟨hno.out, _, rfl⟩⟩
      | some n =>
        have hnum := id_num hr
        have hD2 : Hid (∀ j (h : j < k + 1) (h2 : j < ps.length), rdI (ps[j]) ≠ none) := (fun j h h2 => by
          by_cases e : j = k
          · subst e; rw [hr]; simp
          · exact hD.out j (by omega) h2)
        have hgt := gv_take ps hlt
        rw [hr] at hId
        simp only [optI] at hId
        have HG : Hid (gv (ps.take (k + 1)) = gv (ps.take k) ++ [(n : Int)]) := (by show _ = _; rw [hgt, hnum])
        have hgl : (gv (ps.take k)).length ≤ 8001 := by simp [gv]; omega
        clear hD hgt hnum
        go_wp2_with fail
        refine (hId.out _).mono ?_
        rintro e wa ⟨rfl, hba⟩
        simp only [Option.getD_some, Option.isSome_some]
        obtain ⟨v2, w2, hrr, hO2, hB2, _⟩ := append_num w1 wa u4 (gv (ps.take k)) (rowT_below hOw.out hba) (Below.on hB.out hba) (n : Int) (by omega)
        rw [← HG.out] at hO2
        have HO2 : Hid (w2.ownsRow w1.heap.size 2 1 v2 (gv (ps.take (k + 1))).length (iv (gv (ps.take (k + 1))))) := hO2
        have HB2 : Hid (Below w1.heap.size w1 w2) := hB2
        clear hO2 hB2 hba hOw hB hId
        go_wp2_with (at_builtin; refine wpList_append_runT _ rfl (.tmp 25) (.tmp 27) 23 23 rfl _ _ _ _ rfl rfl hrr ?_)
        go_roundw
        case rel => exact ⟨k + 1, by omega, by go_num, hD2, HO2, HB2⟩
        case measure => simp [intOf]; omega
    · have hke : k = ps.length := by omega
      subst hke
      have ht : ps.take ps.length = ps := List.take_length
      have hOe := hOw.out
      rw [ht] at hOe
      obtain ⟨ga, gc, hgv, hgi, _⟩ := own_nums hOe
      have hGr : Hid (∀ w', Below wr.heap.size wr w' → Calls Tryd.prog 48 #[.slice ga (gv ps).length gc] w' fun e w'' => e = .returned (.bool (grB (gv ps).length (atN (gv ps)))) ∧ w'' = w') := (fun w' hb => groups_any ga _ gc _ w' (hgi.below hb))
      have hall : ∀ p ∈ ps, rdI p ≠ none := fun p hp => by
        obtain ⟨j, hj, rfl⟩ := List.mem_iff_getElem.1 hp
        exact hD.out j hj hj
      have hEnd : Hid ((grB (gv ps).length (atN (gv ps)) = true ∧ rdG s.data.toList = some (gv ps)) ∨ (grB (gv ps).length (atN (gv ps)) = false ∧ rdG s.data.toList = none)) := (by
        cases hg : grB (gv ps).length (atN (gv ps))
        · exact .inr ⟨rfl, by rw [HRS.out, HR.out, if_neg (fun h => by rw [hg] at h; cases h.2)]⟩
        · exact .inl ⟨rfl, by rw [HRS.out, HR.out, if_pos ⟨hall, hg⟩]⟩)
      have hOb : Hid (wr.ownsRow w.heap.size 2 1 (.slice ga (gv ps).length gc) (gv ps).length (iv (gv ps))) := (by
        rw [hgv] at hOe
        obtain ⟨q0, ⟨q1, q2⟩ | ⟨b2, cap2, cur2, q1, q2, q3⟩⟩ := hOe
        · exact ⟨q0, .inl ⟨q1, q2⟩⟩
        · exact ⟨q0, .inr ⟨b2, cap2, cur2, q1, Nat.le_trans hB0.out.size q2, q3⟩⟩)
      have hW : Hid (Below w.heap.size w wr) := Below.on hB0.out hB.out
      rw [hgv]
      generalize hGL : (gv ps).length = GL at hGr hEnd hOb ⊢
      have HGL : Hid ((gv ps).length = GL) := hGL
      clear hGL
      generalize grB GL (atN (gv ps)) = gr at hGr hEnd
      clear hgi hall hD hOw hOe HC HR HRS hgv ht hB hB0 hk hlt
      go_wp2_with fail
      refine (hGr.out _ (Below.refl _ _)).mono ?_
      rintro e wz ⟨rfl, rfl⟩
      rcases hEnd.out with ⟨rfl, hy⟩ | ⟨rfl, hy⟩
      · have HY : Hid (rdG s.data.toList = some (gv ps)) := hy
        clear hEnd hy
        go_wp2
        go_ret2
        exact ⟨hW.out, .inr ⟨gv ps, _, HY.out, rfl, by rw [HGL.out]; exact hOb.out⟩⟩
      · have HY : Hid (rdG s.data.toList = none) := hy
        clear hEnd hy
        go_wp2
        go_ret2
        exact ⟨hW.out, .inl ⟨HY.out, _, rfl⟩⟩
set_option maxRecDepth 100000 in
/-- impl.readGroups. -/
theorem iReadGroups_any (s : ByteArray) (m : Int) (hs : s.size ≤ 8000) (w : World) (hm : w.cell? ⟨1, 0, none⟩ = some (.int .i64 m)) :
    Calls Tryd.prog 82 #[.string s] w (GroupsEnd s.data.toList w) := by
  by_cases h0 : s.size = 0
  · obtain rfl := text_nil h0
    clear h0 hm
    have hr : Hid (rdG (⟨#[]⟩ : ByteArray).data.toList = some []) := rfl
    go_enter Tryd.func82, Tryd.ntmps82
    go_wp2
    go_ret2
    exact ⟨Below.refl _ _, .inr ⟨[], _, hr.out, rfl, World.ownsRow_nil _ _ _ _⟩⟩
  · exact iReadGroups_full s m (by omega) hs w hm
end Go.Proofs.YtgooanaacebncaaDoor
/- CredRead: what the two sides read is the same. -/
namespace Go.Proofs.YtgooanaacebncaaDoor
open Go.RowKit Go.PlainAid
set_option linter.unusedVariables false
theorem rises_idAt {f : Nat → Int} {n : Nat} (h : risesB f n = true) : ∀ k, k < n → inR 0 9999 (f k) = true := by
  induction n with
  | zero => intro k hk; omega
  | succ n ih =>
    intro k hk
    simp only [risesB, Bool.and_eq_true, okG] at h
    by_cases e : k = n
    · subst e; exact h.2.1
    · exact ih h.1 k (by omega)
/-- The groups that the specification reads. -/
def gS (g : List UInt8) : List Int := if g = [] then [] else gv ((spl 44 g).take 9)
theorem at_gv (ps : List (List UInt8)) {k : Nat} (h : k < ps.length) : atN (gv ps) k = numI ps[k] := by simp [atN, gv, h]
/-- Numbers joined are the pieces joined, where each piece is its number's digits. -/
theorem jn_unspl (f : Nat → Int) : ∀ (n : Nat) (ps : List (List UInt8)), ps.length = n → (∀ k (h : k < ps.length), Lib.decDigits (f k).toNat = ps[k]) → jn f n = unspl 44 ps := by
  intro n
  induction n with
  | zero =>
    intro ps hl _
    rw [List.eq_nil_of_length_eq_zero hl]
    rfl
  | succ n ih =>
    intro ps hl h
    have hne : ps ≠ [] := fun e => by rw [e] at hl; simp at hl
    obtain ⟨qs, x, rfl⟩ : ∃ qs x, ps = qs ++ [x] := ⟨ps.dropLast, ps.getLast hne, (List.dropLast_concat_getLast hne).symm⟩
    have hq : qs.length = n := by simp at hl; omega
    have e1 := ih qs hq (fun k hk => by
      have := h k (by simp; omega)
      rwa [List.getElem_append_left hk] at this)
    have e2 : Lib.decDigits (f n).toNat = x := by
      have := h n (by simp; omega)
      rw [this]
      simp [hq]
    have e3 : ∀ (qs : List (List UInt8)), unspl 44 (qs ++ [x]) = unspl 44 qs ++ (if qs.length = 0 then [] else [44]) ++ x := by
      intro qs
      induction qs with
      | nil => simp [unspl]
      | cons y o ih2 =>
        cases o with
        | nil => simp [unspl]
        | cons y2 o => simpa [unspl] using ih2
    rw [jn, e1, e2, e3, hq]
/-- Three pieces: either both sides take them, and the text told is the text read, or neither does. -/
theorem cred_key (a b g : List UInt8) (r : Bool) :
    (credB (numI a) (numI b) (gS g).length (atN (gS g)) = true ∧ rdI a = some (numI a).toNat ∧ rdI b = some (numI b).toNat ∧ 0 ≤ numI a ∧ 0 ≤ numI b ∧ rdG g = some (gS g) ∧ (credT (numI a) (numI b) (gS g).length (atN (gS g)) r).data.toList = unspl 58 [a, b, g] ++ (if r then [42] else [])) ∨
    (credB (numI a) (numI b) (gS g).length (atN (gS g)) = false ∧ (rdI a = none ∨ rdI b = none ∨ rdG g = none)) := by
  cases hc : credB (numI a) (numI b) (gS g).length (atN (gS g))
  · right
    refine ⟨rfl, ?_⟩
    rcases num_id a with ⟨a1, a2, _⟩ | ⟨a1, a2⟩
    · rcases num_id b with ⟨b1, b2, _⟩ | ⟨b1, b2⟩
      · right; right
        have hg : grB (gS g).length (atN (gS g)) = false := by
          rw [credB, a1, b1] at hc
          simpa using hc
        by_cases h0 : g = []
        · rw [gS, if_pos h0] at hg
          simp [grB, risesB] at hg
        · rw [gS, if_neg h0] at hg
          rw [rdG, if_neg h0, if_neg]
          rintro ⟨h1, h2⟩
          have h3 : (gv (spl 44 g)).length ≤ 8 := by
            rw [grB, Bool.and_eq_true] at h2
            exact of_decide_eq_true h2.1
          have h4 : (spl 44 g).take 9 = spl 44 g := List.take_of_length_le (by simp [gv] at h3; omega)
          rw [h4, h2] at hg
          cases hg
      · exact .inr (.inl b2)
    · exact .inl a2
  · left
    have hc2 := hc
    rw [credB, Bool.and_eq_true, Bool.and_eq_true] at hc2
    obtain ⟨a1, b1, hg⟩ := hc2
    obtain ⟨_, a2, a3⟩ := (num_id a).resolve_right (fun h => by rw [a1] at h; cases h.1)
    obtain ⟨_, b2, b3⟩ := (num_id b).resolve_right (fun h => by rw [b1] at h; cases h.1)
    have hG : rdG g = some (gS g) ∧ jn (atN (gS g)) (gS g).length = g := by
      by_cases h0 : g = []
      · rw [gS, if_pos h0, rdG, if_pos h0]
        exact ⟨rfl, h0.symm⟩
      · rw [gS, if_neg h0] at hg ⊢
        have h3 : (gv ((spl 44 g).take 9)).length ≤ 8 ∧ risesB (atN (gv ((spl 44 g).take 9))) (gv ((spl 44 g).take 9)).length = true := by
          rw [grB, Bool.and_eq_true] at hg
          exact ⟨of_decide_eq_true hg.1, hg.2⟩
        have h4 : (spl 44 g).take 9 = spl 44 g := List.take_of_length_le (by have := h3.1; simp [gv] at this; omega)
        rw [h4] at hg h3 ⊢
        have hlen : (gv (spl 44 g)).length = (spl 44 g).length := by simp [gv]
        have hat : ∀ k (h : k < (spl 44 g).length), rdI (spl 44 g)[k] ≠ none ∧ Lib.decDigits (atN (gv (spl 44 g)) k).toNat = (spl 44 g)[k] := by
          intro k hk
          have h5 := rises_idAt h3.2 k (by omega)
          rw [at_gv _ hk] at h5 ⊢
          rcases num_id (spl 44 g)[k] with ⟨_, q2, q3⟩ | ⟨q4, _⟩
          · exact ⟨by rw [q2]; simp, q3⟩
          · rw [h5] at q4; cases q4
        refine ⟨?_, ?_⟩
        · rw [rdG, if_neg h0, if_pos]
          refine ⟨fun p hp => ?_, hg⟩
          obtain ⟨j, hj, rfl⟩ := List.mem_iff_getElem.1 hp
          exact (hat j hj).1
        · rw [jn_unspl _ _ (spl 44 g) hlen.symm (fun k hk => (hat k hk).2), unspl_spl]
    refine ⟨rfl, a2, b2, (inR_iff.1 a1).1, (inR_iff.1 b1).1, hG.1, ?_⟩
    rw [credT, if_pos hc]
    have hpre : ∀ x : ByteArray, (preT (numI a).toNat (numI b).toNat ++ jnT (atN (gS g)) (gS g).length ++ x).data.toList = a ++ 58 :: (b ++ 58 :: g) ++ x.data.toList := by
      intro x
      simp only [preT, jnT, decT, ByteArray.data_append, Array.toList_append, a3, b3, hG.2]
      simp
    cases r
    · have := hpre ⟨#[]⟩
      simp only [ByteArray.data_append, Array.toList_append] at this
      simpa [unspl, ByteArray.data_append] using this
    · have := hpre ⟨#[42]⟩
      simpa [unspl] using this
end Go.Proofs.YtgooanaacebncaaDoor
