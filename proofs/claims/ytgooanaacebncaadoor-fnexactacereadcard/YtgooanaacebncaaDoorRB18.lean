/- Laid together: RdWho, SRead. -/
import Derived.Test.YtgooanaacebncaaDoorRB17
/- Of whom an ace is, read by the program: impl.readWho. -/
namespace Go.Proofs.YtgooanaacebncaaDoor
open Go.RowKit Go.PlainAid Go.Deep
set_option linter.unusedVariables false
/-- What readWho ends in. -/
def WhoEnd (c : List UInt8) (w : World) (e : Ending) (w' : World) : Prop := (∃ (wh id : Nat) (ok : Bool), e = .returned (.tuple #[.int .i64 wh, .int .i64 id, .bool ok]) ∧ whoI c = (if ok then some (wh, id) else none)) ∧ Below w.heap.size w w'
theorem tl_ne {c : ByteArray} {l : List UInt8} (h : ¬ c.data.toList = l) : (c.toList == l) = false := by
  rw [ByteArray.toList_eq]
  exact beq_eq_false_iff_ne.2 h
theorem tl_eq {c : ByteArray} {l : List UInt8} (h : c.data.toList = l) : (c.toList == l) = true := by
  rw [ByteArray.toList_eq, h]
  simp
theorem tl_empty {c : ByteArray} (h : c.data.toList = []) : c.toList.isEmpty = true := by
  rw [ByteArray.toList_eq, h]
  rfl
theorem tail_text {c : ByteArray} (h : 0 < c.size) : (c.extract 1 c.size).data.toList = c.data.toList.tail := by
  have hl : c.data.toList.length = c.size := (Lib.size_eq c).symm
  rw [cut_text, ← hl, List.take_length]
  simp
theorem tup3 {a b : Nat} {ok : Bool} {c : List UInt8} {w w' : World} (h1 : whoI c = (if ok then some (a, b) else none)) (h2 : Below w.heap.size w w') : WhoEnd c w (.returned (.tuple #[.int .i64 a, .int .i64 b, .bool ok])) w' := ⟨⟨a, b, ok, rfl, h1⟩, h2⟩
set_option maxRecDepth 100000 in
set_option maxHeartbeats 2000000 in
theorem iRdWho_any (c : ByteArray) (hc : c.size ≤ 100000000) (w : World) : Calls Tryd.prog 101 #[.string c] w (WhoEnd c.data.toList w) := by
  have hl : c.data.toList.length = c.size := (Lib.size_eq c).symm
  by_cases h0 : c.data.toList = []
  · have e0 := tl_empty h0
    have hr : Hid (whoI c.data.toList = none) := (by show _ = _; rw [h0]; decide)
    clear h0 hl
    go_enter Tryd.func101, Tryd.ntmps101
    go_wp2
    go_ret3
    exact tup3 (ok := false) hr.out (Below.refl _ _)
  have hpos : 0 < c.size := by
    rcases Nat.eq_zero_or_pos c.size with e | e
    · exact absurd (List.eq_nil_of_length_eq_zero (by omega)) h0
    · exact e
  have e0 := full_text hpos
  by_cases h1 : c.data.toList = ownL
  · have e1 : (c.toList == [79, 87, 78, 69, 82, 64]) = true := tl_eq h1
    have hr : Hid (whoI c.data.toList = some (1, 0)) := (by show _ = _; rw [h1]; decide)
    clear h0 hl h1
    go_enter Tryd.func101, Tryd.ntmps101
    go_wp2
    go_ret3
    exact tup3 (ok := true) hr.out (Below.refl _ _)
  have e1 : (c.toList == [79, 87, 78, 69, 82, 64]) = false := tl_ne h1
  by_cases h2 : c.data.toList = grpL
  · have e2 : (c.toList == [71, 82, 79, 85, 80, 64]) = true := tl_eq h2
    have hr : Hid (whoI c.data.toList = some (2, 0)) := (by show _ = _; rw [h2]; decide)
    clear h0 hl h1 h2
    go_enter Tryd.func101, Tryd.ntmps101
    go_wp2
    go_ret3
    exact tup3 (ok := true) hr.out (Below.refl _ _)
  have e2 : (c.toList == [71, 82, 79, 85, 80, 64]) = false := tl_ne h2
  by_cases h3 : c.data.toList = evyL
  · have e3 : (c.toList == [69, 86, 69, 82, 89, 79, 78, 69, 64]) = true := tl_eq h3
    have hr : Hid (whoI c.data.toList = some (3, 0)) := (by show _ = _; rw [h3]; decide)
    clear h0 hl h1 h2 h3
    go_enter Tryd.func101, Tryd.ntmps101
    go_wp2
    go_ret3
    exact tup3 (ok := true) hr.out (Below.refl _ _)
  have e3 : (c.toList == [69, 86, 69, 82, 89, 79, 78, 69, 64]) = false := tl_ne h3
  have hh := head_at hpos
  have HW : Hid (whoI c.data.toList = if c[0] = 117 then (rdI c.data.toList.tail).map (fun n => (4, n)) else if c[0] = 103 then (rdI c.data.toList.tail).map (fun n => (5, n)) else none) := (by
    show _ = _
    rw [whoI, if_neg h0, if_neg h1, if_neg h2, if_neg h3, hh])
  have HI : Hid (∀ w, Calls Tryd.prog 81 #[.string (c.extract 1 c.size)] w fun e w' => e = .returned (optI (rdI c.data.toList.tail)) ∧ Below w.heap.size w w') := (fun w => by
    have := iReadId_any (c.extract 1 c.size) w
    rwa [tail_text hpos] at this)
  have hp1 : 1 ≤ (c.size : Int) := by omega
  clear hh h0 h1 h2 h3 hl
  by_cases hu : c[0] = 117
  · have u1 : (((c[0]).toNat : Int) == 117) = true := by rw [hu]; rfl
    have hr := HW.out
    rw [if_pos hu] at hr
    have HR : Hid _ := hr
    clear hr hu HW
    cases hri : rdI c.data.toList.tail with
    | none =>
      rw [hri] at HI HR
      simp only [optI] at HI
      go_enter Tryd.func101, Tryd.ntmps101
      go_wp2_with (go_at_call 81; refine (HI.out _).mono ?_; rintro e w1 ⟨rfl, hb1⟩)
      go_ret3
      exact tup3 (a := 4) (b := 0) (ok := false) HR.out hb1
    | some n =>
      rw [hri] at HI HR
      simp only [optI] at HI
      go_enter Tryd.func101, Tryd.ntmps101
      go_wp2_with (go_at_call 81; refine (HI.out _).mono ?_; rintro e w1 ⟨rfl, hb1⟩)
      go_ret3
      exact tup3 (a := 4) (b := n) (ok := true) HR.out hb1
  · have u1 : (((c[0]).toNat : Int) == 117) = false := byte_ne (y := 117) hu
    by_cases hg : c[0] = 103
    · have u2 : (((c[0]).toNat : Int) == 103) = true := by rw [hg]; rfl
      have hr := HW.out
      rw [if_neg hu, if_pos hg] at hr
      have HR : Hid _ := hr
      clear hr hu hg HW
      cases hri : rdI c.data.toList.tail with
      | none =>
        rw [hri] at HI HR
        simp only [optI] at HI
        go_enter Tryd.func101, Tryd.ntmps101
        go_wp2_with (go_at_call 81; refine (HI.out _).mono ?_; rintro e w1 ⟨rfl, hb1⟩)
        go_ret3
        exact tup3 (a := 5) (b := 0) (ok := false) HR.out hb1
      | some n =>
        rw [hri] at HI HR
        simp only [optI] at HI
        go_enter Tryd.func101, Tryd.ntmps101
        go_wp2_with (go_at_call 81; refine (HI.out _).mono ?_; rintro e w1 ⟨rfl, hb1⟩)
        go_ret3
        exact tup3 (a := 5) (b := n) (ok := true) HR.out hb1
    · have u2 : (((c[0]).toNat : Int) == 103) = false := byte_ne (y := 103) hg
      have hr := HW.out
      rw [if_neg hu, if_neg hg] at hr
      have HR : Hid _ := hr
      clear hr hu hg HW
      go_enter Tryd.func101, Tryd.ntmps101
      go_wp2
      go_ret3
      exact tup3 (a := 5) (b := 0) (ok := false) HR.out (Below.refl _ _)
/-- An ace that is written cell by cell: its five cells, which may be written. -/
structure Wr5 (w : World) (b : Nat) (x : Ac) : Prop where
  lt : b < w.heap.size
  f : Five w b 0 x
  z : ∀ o, w.frozen? ⟨b, o, none⟩ = false
theorem Wr5.below {w w' : World} {b : Nat} {x : Ac} (h : Wr5 w b x) (hb : Below w.heap.size w w') : Wr5 w' b x :=
  ⟨Nat.lt_of_lt_of_le h.lt hb.size, h.f.below h.lt hb, fun o => (hb.frozen (p := ⟨b, o, none⟩) h.lt).trans (h.z o)⟩
theorem wr5_new (w : World) (x : Ac) (t : TypeId) : Wr5 (w.alloc (.cells #[.bool x.al, .int .i64 x.wh, .int .i64 x.id, .int .i64 x.fl, .int .i64 x.ma] t)) w.heap.size x := by
  refine ⟨by simp, five_new w x t, fun o => ?_⟩
  have hb : (w.alloc (.cells #[.bool x.al, .int .i64 x.wh, .int .i64 x.id, .int .i64 x.fl, .int .i64 x.ma] t)).heap[w.heap.size]? = some (.cells #[.bool x.al, .int .i64 x.wh, .int .i64 x.id, .int .i64 x.fl, .int .i64 x.ma] t) := by
    rw [World.alloc]
    exact Array.getElem?_push_size
  unfold World.frozen?
  simp only [hb]
  simp
theorem Wr5.other {w : World} {b b2 o : Nat} {x : Ac} {v : Value} (h : Wr5 w b x) (hne : b2 ≠ b) : Wr5 (w.setCell ⟨b2, o, none⟩ v) b x :=
  ⟨by simpa using h.lt, h.f.other hne, fun o2 => by rw [World.frozen?_setCell]; exact h.z o2⟩
theorem Wr5.set1 {w : World} {b : Nat} {x : Ac} (h : Wr5 w b x) (v : Int) : Wr5 (w.setCell ⟨b, 1, none⟩ (.int .i64 v)) b { x with wh := v } := by
  obtain ⟨hl, ⟨c0, c1, c2, c3, c4⟩, hz⟩ := h
  simp only [Nat.zero_add] at c0 c1 c2 c3 c4
  refine ⟨by simpa using hl, ⟨?_, ?_, ?_, ?_, ?_⟩, fun o => by rw [World.frozen?_setCell]; exact hz o⟩ <;> simp [go_sem, *]
theorem Wr5.set3 {w : World} {b : Nat} {x : Ac} (h : Wr5 w b x) (v : Int) : Wr5 (w.setCell ⟨b, 3, none⟩ (.int .i64 v)) b { x with fl := v } := by
  obtain ⟨hl, ⟨c0, c1, c2, c3, c4⟩, hz⟩ := h
  simp only [Nat.zero_add] at c0 c1 c2 c3 c4
  refine ⟨by simpa using hl, ⟨?_, ?_, ?_, ?_, ?_⟩, fun o => by rw [World.frozen?_setCell]; exact hz o⟩ <;> simp [go_sem, *]
theorem Wr5.set4 {w : World} {b : Nat} {x : Ac} (h : Wr5 w b x) (v : Int) : Wr5 (w.setCell ⟨b, 4, none⟩ (.int .i64 v)) b { x with ma := v } := by
  obtain ⟨hl, ⟨c0, c1, c2, c3, c4⟩, hz⟩ := h
  simp only [Nat.zero_add] at c0 c1 c2 c3 c4
  refine ⟨by simpa using hl, ⟨?_, ?_, ?_, ?_, ?_⟩, fun o => by rw [World.frozen?_setCell]; exact hz o⟩ <;> simp [go_sem, *]
/-- Four texts in a row. -/
structure Tx4 (w : World) (b : Nat) (ta tb tc td : ByteArray) : Prop where
  lt : b < w.heap.size
  c0 : w.cell? ⟨b, 0, none⟩ = some (.string ta)
  c1 : w.cell? ⟨b, 1, none⟩ = some (.string tb)
  c2 : w.cell? ⟨b, 2, none⟩ = some (.string tc)
  c3 : w.cell? ⟨b, 3, none⟩ = some (.string td)
theorem Tx4.keep {w w' : World} {b : Nat} {ta tb tc td : ByteArray} (h : Tx4 w b ta tb tc td) (hlt : b < w'.heap.size) (hc : ∀ o, w'.cell? ⟨b, o, none⟩ = w.cell? ⟨b, o, none⟩) : Tx4 w' b ta tb tc td :=
  ⟨hlt, (hc 0).trans h.c0, (hc 1).trans h.c1, (hc 2).trans h.c2, (hc 3).trans h.c3⟩
theorem Tx4.below {w w' : World} {b : Nat} {ta tb tc td : ByteArray} (h : Tx4 w b ta tb tc td) (hb : Below w.heap.size w w') : Tx4 w' b ta tb tc td :=
  h.keep (Nat.lt_of_lt_of_le h.lt hb.size) (fun o => hb.cell (p := ⟨b, o, none⟩) h.lt)
theorem Tx4.other {w : World} {b b2 o : Nat} {ta tb tc td : ByteArray} {v : Value} (h : Tx4 w b ta tb tc td) (hne : b2 ≠ b) : Tx4 (w.setCell ⟨b2, o, none⟩ v) b ta tb tc td :=
  h.keep (by simpa using h.lt) (fun o2 => World.cell?_setCell_other _ _ _ _ (by intro h; have h2 := congrArg Addr.block h; simp only at h2; omega))
theorem aceS_four {t a b c d : List UInt8} (h : spl 58 t = [a, b, c, d]) : aceS t = ⟨decide (a = [65]), (whoS c).1, (whoS c).2, (setTo b fdni.data.toList 4 : Nat), (setTo d rwxs.data.toList 8 : Nat)⟩ := by simp only [aceS, h]
theorem aceS_not {t : List UInt8} (h : (spl 58 t).length ≠ 4) : aceS t = acZ := by
  unfold aceS
  split
  next e => rw [e] at h; simp at h
  · rfl
set_option maxRecDepth 100000 in
set_option maxHeartbeats 2000000 in
/-- spec.l05Read of a text that is not of four pieces. -/
theorem sRead_not (s : ByteArray) (hs : s.size ≤ 100000000) (h4 : (spl 58 s.data.toList).length ≠ 4) (w : World) :
    Calls Tryd.prog 64 #[.string s] w fun e w' => e = .returned (.agg #[.bool false, .int .i64 0, .int .i64 0, .int .i64 0, .int .i64 0]) ∧ Below w.heap.size w w' := by
  have hS : Hid (∀ w, Calls Tryd.prog 50 #[.string s, .int .u8 58] w fun e w' => ∃ v, e = .returned v ∧ w'.ownsRow w.heap.size 9 1 v (bts (spl 58 s.data.toList)).length (tv (bts (spl 58 s.data.toList))) ∧ Below w.heap.size w w') := sSplit_any s 58 hs
  rw [← bts_len] at h4
  have hY : Hid (Wr5 (w.alloc (.cells #[.bool false, .int .i64 0, .int .i64 0, .int .i64 0, .int .i64 0] 50)) w.heap.size acZ) := wr5_new w acZ _
  have hW0 : Hid (Below w.heap.size w (w.alloc (.cells #[.bool false, .int .i64 0, .int .i64 0, .int .i64 0, .int .i64 0] 50))) := bel_alloc _ _
  go_enter Tryd.func64, Tryd.ntmps64
  go_wp2_with fail
  refine (hS.out _).mono ?_
  rintro e w1 ⟨v, rfl, hO, hb1⟩
  obtain ⟨a, c, rfl, hc, _⟩ := own_texts hO
  have hne : (((bts (spl 58 s.data.toList)).length : Int) == 4) = false := by rw [beq_eq_false_iff_ne]; omega
  have hY1 : Hid (Wr5 w1 w.heap.size acZ) := hY.out.below hb1
  have hW1 : Hid (Below w.heap.size w w1) := Below.on hW0.out hb1
  generalize (bts (spl 58 s.data.toList)).length = n at hne ⊢
  clear hO hc hb1 h4 hY hW0 hS
  have hY2 := hY1.out.below (bel_alloc w1 (.cells #[.bool false, .int .i64 0, .int .i64 0, .int .i64 0, .int .i64 0] 50))
  obtain ⟨yl, ⟨y0, y1, y2, y3, y4⟩, yz⟩ := hY2
  simp only [Nat.zero_add] at y0 y1 y2 y3 y4
  go_wp2
  refine bodyPost_ret (v := .agg #[.bool false, .int .i64 0, .int .i64 0, .int .i64 0, .int .i64 0]) (by simp [results, Tryd.results64, go_sem, y0, y1, y2, y3, y4]) rfl ⟨rfl, ?_⟩
  repeat (refine bl_setA ?_ (Nat.le_refl _))
  exact Below.onA hW1.out
theorem piece_len {t a b c d : List UInt8} (h : spl 58 t = [a, b, c, d]) : a.length ≤ t.length ∧ b.length ≤ t.length ∧ c.length ≤ t.length ∧ d.length ≤ t.length := by
  have h1 := congrArg List.length (unspl4 h)
  simp [unspl] at h1
  omega
/-- What l05Read holds at work: its answer's place, the pieces, the ace. -/
structure Rd3 (w : World) (Y b X : Nat) (x : Ac) (ta tb tc td : ByteArray) : Prop where
  y : Wr5 w Y acZ
  t : Tx4 w b ta tb tc td
  x : Wr5 w X x
  n1 : Y < b
  n2 : b < X
theorem Rd3.below {w w' : World} {Y b X : Nat} {x : Ac} {ta tb tc td : ByteArray} (h : Rd3 w Y b X x ta tb tc td) (hb : Below w.heap.size w w') : Rd3 w' Y b X x ta tb tc td :=
  ⟨h.y.below hb, h.t.below hb, h.x.below hb, h.n1, h.n2⟩
theorem Rd3.set1 {w : World} {Y b X : Nat} {x : Ac} {ta tb tc td : ByteArray} (h : Rd3 w Y b X x ta tb tc td) (v : Int) : Rd3 (w.setCell ⟨X, 1, none⟩ (.int .i64 v)) Y b X { x with wh := v } ta tb tc td :=
  ⟨h.y.other (by have := h.n1; have := h.n2; omega), h.t.other (by have := h.n2; omega), h.x.set1 v, h.n1, h.n2⟩
theorem Rd3.set3 {w : World} {Y b X : Nat} {x : Ac} {ta tb tc td : ByteArray} (h : Rd3 w Y b X x ta tb tc td) (v : Int) : Rd3 (w.setCell ⟨X, 3, none⟩ (.int .i64 v)) Y b X { x with fl := v } ta tb tc td :=
  ⟨h.y.other (by have := h.n1; have := h.n2; omega), h.t.other (by have := h.n2; omega), h.x.set3 v, h.n1, h.n2⟩
theorem Rd3.set4 {w : World} {Y b X : Nat} {x : Ac} {ta tb tc td : ByteArray} (h : Rd3 w Y b X x ta tb tc td) (v : Int) : Rd3 (w.setCell ⟨X, 4, none⟩ (.int .i64 v)) Y b X { x with ma := v } ta tb tc td :=
  ⟨h.y.other (by have := h.n1; have := h.n2; omega), h.t.other (by have := h.n2; omega), h.x.set4 v, h.n1, h.n2⟩
set_option maxRecDepth 100000 in
set_option maxHeartbeats 4000000 in
/-- spec.l05Read of four pieces. -/
theorem sRead_four (s ta tb tc td : ByteArray) (hs : s.size ≤ 100000000) (h : spl 58 s.data.toList = [ta.data.toList, tb.data.toList, tc.data.toList, td.data.toList]) (w : World) :
    Calls Tryd.prog 64 #[.string s] w fun e w' => e = .returned (.agg #[.bool (aceS s.data.toList).al, .int .i64 (aceS s.data.toList).wh, .int .i64 (aceS s.data.toList).id, .int .i64 (aceS s.data.toList).fl, .int .i64 (aceS s.data.toList).ma]) ∧ Below w.heap.size w w' := by
  obtain ⟨la, lb, lc, ld⟩ := piece_len h
  have hls : s.data.toList.length = s.size := (Lib.size_eq s).symm
  have hlb : tb.data.toList.length = tb.size := (Lib.size_eq tb).symm
  have hlc : tc.data.toList.length = tc.size := (Lib.size_eq tc).symm
  have hld : td.data.toList.length = td.size := (Lib.size_eq td).symm
  have hS : Hid (∀ w, Calls Tryd.prog 50 #[.string s, .int .u8 58] w fun e w' => ∃ v, e = .returned v ∧ w'.ownsRow w.heap.size 9 1 v ([ta, tb, tc, td] : List ByteArray).length (tv [ta, tb, tc, td]) ∧ Below w.heap.size w w') := (fun w => by
    have h1 := sSplit_any s 58 hs w
    have e : bts (spl 58 s.data.toList) = [ta, tb, tc, td] := by
      rw [h]
      simp [bts]
    rwa [e] at h1)
  have HB : Hid (∀ w, Calls Tryd.prog 97 #[.string tb, .string ⟨#[102, 100, 110, 105]⟩] w fun e w' => e = .returned (.int .i64 (setTo tb.data.toList fdni.data.toList 4 : Nat)) ∧ Below w.heap.size w w') := sSet_any tb fdni (by omega) (by decide)
  have HD : Hid (∀ w, Calls Tryd.prog 97 #[.string td, .string ⟨#[114, 119, 120, 97, 100, 99, 67, 111]⟩] w fun e w' => e = .returned (.int .i64 (setTo td.data.toList rwxs.data.toList 8 : Nat)) ∧ Below w.heap.size w w') := sSet_any td rwxs (by omega) (by decide)
  rw [aceS_four h]
  generalize setTo tb.data.toList fdni.data.toList 4 = FL at HB
  generalize setTo td.data.toList rwxs.data.toList 8 = MA at HD
  have eA : (ta.toList == [65]) = decide (ta.data.toList = [65]) := by
    by_cases e : ta.data.toList = [65]
    · rw [decide_eq_true e]; exact tl_eq e
    · rw [decide_eq_false e]; exact tl_ne e
  generalize decide (ta.data.toList = [65]) = AL at eA ⊢
  have HCS : Hid (tc.size ≤ 100000000) := (show _ ≤ _ by omega)
  have hY : Hid (Wr5 (w.alloc (.cells #[.bool false, .int .i64 0, .int .i64 0, .int .i64 0, .int .i64 0] 50)) w.heap.size acZ) := wr5_new w acZ _
  have hW0 : Hid (Below w.heap.size w (w.alloc (.cells #[.bool false, .int .i64 0, .int .i64 0, .int .i64 0, .int .i64 0] 50))) := bel_alloc _ _
  have hz0 : w.heap.size < (w.alloc (.cells #[.bool false, .int .i64 0, .int .i64 0, .int .i64 0, .int .i64 0] 50)).heap.size := by simp
  clear la lb lc ld hls hlb hlc hld h hs
  go_enter Tryd.func64, Tryd.ntmps64
  go_wp2_with fail
  refine (hS.out _).mono ?_
  rintro e w1 ⟨v, rfl, hO, hb1⟩
  have hlow := hO
  obtain ⟨a, cp, hv, hcp, hcl⟩ := own_texts hO
  obtain ⟨b, rfl, hbl, hcell⟩ := hcl (by simp)
  have hv : v = .slice (some ⟨b, 0, none⟩) 4 cp := hv
  have hbg : w.heap.size < b := by
    have := (hlow.lt b (by rw [hv]; rfl)).1
    omega
  subst hv
  have hT1 : Tx4 w1 b ta tb tc td := ⟨hbl, hcell 0 ta rfl, hcell 1 tb rfl, hcell 2 tc rfl, hcell 3 td rfl⟩
  have hY1 : Wr5 w1 w.heap.size acZ := hY.out.below hb1
  have HR : Hid (Rd3 (w1.alloc (.cells #[.bool AL, .int .i64 0, .int .i64 0, .int .i64 0, .int .i64 0] 50)) w.heap.size b w1.heap.size { acZ with al := AL } ta tb tc td) := ⟨hY1.below (bel_alloc _ _), hT1.below (bel_alloc _ _), wr5_new w1 { acZ with al := AL } _, hbg, hbl⟩
  have hW1 : Hid (Below w.heap.size w (w1.alloc (.cells #[.bool AL, .int .i64 0, .int .i64 0, .int .i64 0, .int .i64 0] 50))) := Below.onA (Below.on hW0.out hb1)
  have hwx : w.heap.size ≤ w1.heap.size := Nat.le_trans (by simp) hb1.size
  have HWX : Hid (w.heap.size ≤ w1.heap.size) := hwx
  obtain ⟨tl, t0, t1, t2, t3⟩ := hT1
  clear hlow hcl hcell hY1 hY hW0 hz0 hb1 hO hbg hS hwx
  go_wp2_with fail
  refine (HB.out _).mono ?_
  rintro e w3 ⟨rfl, hb3⟩
  have HR3 : Hid (Rd3 w3 w.heap.size b w1.heap.size { acZ with al := AL } ta tb tc td) := HR.out.below hb3
  have hW3 : Hid (Below w.heap.size w w3) := Below.on hW1.out hb3
  clear hb3 HR hW1 tl t0 t1 t2 t3 hbl
  obtain ⟨⟨yl, ⟨y0, y1, y2, y3, y4⟩, yz⟩, ⟨tl, t0, t1, t2, t3⟩, ⟨xl, ⟨x0, x1, x2, x3, x4⟩, xz⟩, n1, n2⟩ := HR3.out
  simp only [Nat.zero_add] at y0 y1 y2 y3 y4 x0 x1 x2 x3 x4
  have yz0 := yz 0
  have yz1 := yz 1
  have yz2 := yz 2
  have yz3 := yz 3
  have yz4 := yz 4
  have xz0 := xz 0
  have xz1 := xz 1
  have xz2 := xz 2
  have xz3 := xz 3
  have xz4 := xz 4
  clear yz xz
  go_wp2_with fail
  refine (HD.out _).mono ?_
  rintro e w4 ⟨rfl, hb4⟩
  have HR4 : Hid (Rd3 w4 w.heap.size b w1.heap.size { acZ with al := AL, fl := FL } ta tb tc td) := (HR3.out.set3 FL).below hb4
  have hW4 : Hid (Below w.heap.size w w4) := Below.on (bl_setA hW3.out HWX.out) hb4
  clear yl y0 y1 y2 y3 y4 yz0 yz1 yz2 yz3 yz4 tl t0 t1 t2 t3 xl x0 x1 x2 x3 x4 xz0 xz1 xz2 xz3 xz4 n1 n2
  clear hb4 HR3 hW3
  obtain ⟨⟨yl, ⟨y0, y1, y2, y3, y4⟩, yz⟩, ⟨tl, t0, t1, t2, t3⟩, ⟨xl, ⟨x0, x1, x2, x3, x4⟩, xz⟩, n1, n2⟩ := HR4.out
  simp only [Nat.zero_add] at y0 y1 y2 y3 y4 x0 x1 x2 x3 x4
  have yz0 := yz 0
  have yz1 := yz 1
  have yz2 := yz 2
  have yz3 := yz 3
  have yz4 := yz 4
  have xz0 := xz 0
  have xz1 := xz 1
  have xz2 := xz 2
  have xz3 := xz 3
  have xz4 := xz 4
  clear yz xz
  simp only [acZ] at x0 x1 x2 x3 x4
  go_upto_region 8 with fail
  have HR5 : Hid (Rd3 (w4.setCell ⟨w1.heap.size, 4, none⟩ (.int .i64 MA)) w.heap.size b w1.heap.size { acZ with al := AL, fl := FL, ma := MA } ta tb tc td) := HR4.out.set4 MA
  have hW5 : Hid (Below w.heap.size w (w4.setCell ⟨w1.heap.size, 4, none⟩ (.int .i64 MA))) := bl_setA hW4.out HWX.out
  clear yl y0 y1 y2 y3 y4 yz0 yz1 yz2 yz3 yz4 tl t0 t1 t2 t3 xl x0 x1 x2 x3 x4 xz0 xz1 xz2 xz3 xz4 n1 n2
  clear HR4 hW4
  generalize w4.setCell ⟨w1.heap.size, 4, none⟩ (.int .i64 MA) = w5 at HR5 hW5 ⊢
  obtain ⟨⟨yl, ⟨y0, y1, y2, y3, y4⟩, yz⟩, ⟨tl, t0, t1, t2, t3⟩, ⟨xl, ⟨x0, x1, x2, x3, x4⟩, xz⟩, n1, n2⟩ := HR5.out
  simp only [Nat.zero_add, acZ] at y0 y1 y2 y3 y4 x0 x1 x2 x3 x4
  have yz0 := yz 0
  have yz1 := yz 1
  have yz2 := yz 2
  have yz3 := yz 3
  have yz4 := yz 4
  have xz0 := xz 0
  have xz1 := xz 1
  have xz2 := xz 2
  have xz3 := xz 3
  have xz4 := xz 4
  clear yz xz
  by_cases h1 : tc.data.toList = ownL
  · have e1 : (tc.toList == [79, 87, 78, 69, 82, 64]) = true := tl_eq h1
    have hw : Hid (whoS tc.data.toList = (1, 0)) := (by show _ = _; rw [h1]; decide)
    clear h1
    go_wp2
    refine bodyPost_ret (v := .agg #[.bool AL, .int .i64 1, .int .i64 0, .int .i64 FL, .int .i64 MA]) (by simp [results, Tryd.results64, go_sem, y0, y1, y2, y3, y4]) rfl ⟨by rw [hw.out], ?_⟩
    repeat (refine bl_setA ?_ (by first | exact Nat.le_refl _ | exact HWX.out))
    exact hW5.out
  have e1 : (tc.toList == [79, 87, 78, 69, 82, 64]) = false := tl_ne h1
  by_cases h2 : tc.data.toList = grpL
  · have e2 : (tc.toList == [71, 82, 79, 85, 80, 64]) = true := tl_eq h2
    have hw : Hid (whoS tc.data.toList = (2, 0)) := (by show _ = _; rw [h2]; decide)
    clear h1 h2
    go_wp2
    refine bodyPost_ret (v := .agg #[.bool AL, .int .i64 2, .int .i64 0, .int .i64 FL, .int .i64 MA]) (by simp [results, Tryd.results64, go_sem, y0, y1, y2, y3, y4]) rfl ⟨by rw [hw.out], ?_⟩
    repeat (refine bl_setA ?_ (by first | exact Nat.le_refl _ | exact HWX.out))
    exact hW5.out
  have e2 : (tc.toList == [71, 82, 79, 85, 80, 64]) = false := tl_ne h2
  by_cases h3 : tc.data.toList = evyL
  · have e3 : (tc.toList == [69, 86, 69, 82, 89, 79, 78, 69, 64]) = true := tl_eq h3
    have hw : Hid (whoS tc.data.toList = (3, 0)) := (by show _ = _; rw [h3]; decide)
    clear h1 h2 h3
    go_wp2
    refine bodyPost_ret (v := .agg #[.bool AL, .int .i64 3, .int .i64 0, .int .i64 FL, .int .i64 MA]) (by simp [results, Tryd.results64, go_sem, y0, y1, y2, y3, y4]) rfl ⟨by rw [hw.out], ?_⟩
    repeat (refine bl_setA ?_ (by first | exact Nat.le_refl _ | exact HWX.out))
    exact hW5.out
  have e3 : (tc.toList == [69, 86, 69, 82, 89, 79, 78, 69, 64]) = false := tl_ne h3
  by_cases h0 : tc.data.toList = []
  · have e0 := tl_empty h0
    have hw : Hid (whoS tc.data.toList = (0, 0)) := (by show _ = _; rw [h0]; decide)
    clear h1 h2 h3 h0
    go_wp2
    refine bodyPost_ret (v := .agg #[.bool AL, .int .i64 0, .int .i64 0, .int .i64 FL, .int .i64 MA]) (by simp [results, Tryd.results64, go_sem, y0, y1, y2, y3, y4]) rfl ⟨by rw [hw.out], ?_⟩
    repeat (refine bl_setA ?_ (by first | exact Nat.le_refl _ | exact HWX.out))
    exact hW5.out
  have hpos : 0 < tc.size := by
    rcases Nat.eq_zero_or_pos tc.size with e | e
    · exact absurd (List.eq_nil_of_length_eq_zero (by rw [← Lib.size_eq]; exact e)) h0
    · exact e
  have e0 := full_text hpos
  have hh := head_at hpos
  have hws : whoS tc.data.toList = (if tc[0] = 117 then 4 else 5, numI tc.data.toList.tail) := by rw [whoS, if_neg h1, if_neg h2, if_neg h3, if_neg h0, hh]
  have HN : Hid (∀ w, Calls Tryd.prog 51 #[.string (tc.extract 1 tc.size)] w fun e w' => e = .returned (.int .i64 (numI tc.data.toList.tail)) ∧ w' = w) := (fun w => by
    have := sNum_any (tc.extract 1 tc.size) (by rw [ByteArray.size_extract]; have := HCS.out; omega) w
    rwa [tail_text hpos] at this)
  have hp1 : 1 ≤ (tc.size : Int) := by omega
  generalize numI tc.data.toList.tail = NI at HN hws
  clear hh h0 h1 h2 h3
  go_upto_region 10 with fail
  have HR6 : Hid (Rd3 (w5.setCell ⟨w1.heap.size, 1, none⟩ (.int .i64 5)) w.heap.size b w1.heap.size { acZ with al := AL, wh := 5, fl := FL, ma := MA } ta tb tc td) := HR5.out.set1 5
  have hW6 : Hid (Below w.heap.size w (w5.setCell ⟨w1.heap.size, 1, none⟩ (.int .i64 5))) := bl_setA hW5.out HWX.out
  clear yl y0 y1 y2 y3 y4 yz0 yz1 yz2 yz3 yz4 tl t0 t1 t2 t3 xl x0 x1 x2 x3 x4 xz0 xz1 xz2 xz3 xz4 n1 n2
  clear HR5 hW5
  generalize w5.setCell ⟨w1.heap.size, 1, none⟩ (.int .i64 5) = w6 at HR6 hW6 ⊢
  obtain ⟨⟨yl, ⟨y0, y1, y2, y3, y4⟩, yz⟩, ⟨tl, t0, t1, t2, t3⟩, ⟨xl, ⟨x0, x1, x2, x3, x4⟩, xz⟩, n1, n2⟩ := HR6.out
  simp only [Nat.zero_add, acZ] at y0 y1 y2 y3 y4 x0 x1 x2 x3 x4
  have yz0 := yz 0
  have yz1 := yz 1
  have yz2 := yz 2
  have yz3 := yz 3
  have yz4 := yz 4
  have xz0 := xz 0
  have xz1 := xz 1
  have xz2 := xz 2
  have xz3 := xz 3
  have xz4 := xz 4
  clear yz xz
  by_cases hu : tc[0] = 117
  · have u1 : (((tc[0]).toNat : Int) == 117) = true := by rw [hu]; rfl
    rw [if_pos hu] at hws
    have hw : Hid (whoS tc.data.toList = (4, NI)) := hws
    clear hws hu
    go_upto_region 12 with fail
    have HR7 : Hid (Rd3 (w6.setCell ⟨w1.heap.size, 1, none⟩ (.int .i64 4)) w.heap.size b w1.heap.size { acZ with al := AL, wh := 4, fl := FL, ma := MA } ta tb tc td) := HR6.out.set1 4
    have hW7 : Hid (Below w.heap.size w (w6.setCell ⟨w1.heap.size, 1, none⟩ (.int .i64 4))) := bl_setA hW6.out HWX.out
    clear yl y0 y1 y2 y3 y4 yz0 yz1 yz2 yz3 yz4 tl t0 t1 t2 t3 xl x0 x1 x2 x3 x4 xz0 xz1 xz2 xz3 xz4 n1 n2
    clear HR6 hW6
    generalize w6.setCell ⟨w1.heap.size, 1, none⟩ (.int .i64 4) = w7 at HR7 hW7 ⊢
    obtain ⟨⟨yl, ⟨y0, y1, y2, y3, y4⟩, yz⟩, ⟨tl, t0, t1, t2, t3⟩, ⟨xl, ⟨x0, x1, x2, x3, x4⟩, xz⟩, n1, n2⟩ := HR7.out
    simp only [Nat.zero_add, acZ] at y0 y1 y2 y3 y4 x0 x1 x2 x3 x4
    have yz0 := yz 0
    have yz1 := yz 1
    have yz2 := yz 2
    have yz3 := yz 3
    have yz4 := yz 4
    have xz0 := xz 0
    have xz1 := xz 1
    have xz2 := xz 2
    have xz3 := xz 3
    have xz4 := xz 4
    clear yz xz
    go_wp2_with (go_at_call 51; refine (HN.out _).mono ?_; rintro e w8 ⟨rfl, rfl⟩)
    refine bodyPost_ret (v := .agg #[.bool AL, .int .i64 4, .int .i64 NI, .int .i64 FL, .int .i64 MA]) (by simp [results, Tryd.results64, go_sem, y0, y1, y2, y3, y4]) rfl ⟨by rw [hw.out], ?_⟩
    repeat (refine bl_setA ?_ (by first | exact Nat.le_refl _ | exact HWX.out))
    exact hW7.out
  · have u1 : (((tc[0]).toNat : Int) == 117) = false := byte_ne (y := 117) hu
    rw [if_neg hu] at hws
    have hw : Hid (whoS tc.data.toList = (5, NI)) := hws
    clear hws hu
    go_wp2_with (go_at_call 51; refine (HN.out _).mono ?_; rintro e w8 ⟨rfl, rfl⟩)
    refine bodyPost_ret (v := .agg #[.bool AL, .int .i64 5, .int .i64 NI, .int .i64 FL, .int .i64 MA]) (by simp [results, Tryd.results64, go_sem, y0, y1, y2, y3, y4]) rfl ⟨by rw [hw.out], ?_⟩
    repeat (refine bl_setA ?_ (by first | exact Nat.le_refl _ | exact HWX.out))
    exact hW6.out
/-- spec.l05Read. -/
theorem sRead_any (s : ByteArray) (hs : s.size ≤ 100000000) (w : World) :
    Calls Tryd.prog 64 #[.string s] w fun e w' => e = .returned (.agg #[.bool (aceS s.data.toList).al, .int .i64 (aceS s.data.toList).wh, .int .i64 (aceS s.data.toList).id, .int .i64 (aceS s.data.toList).fl, .int .i64 (aceS s.data.toList).ma]) ∧ Below w.heap.size w w' := by
  by_cases h4 : (spl 58 s.data.toList).length = 4
  · match e : spl 58 s.data.toList, h4 with
    | [a, b, c, d], _ => exact sRead_four s ⟨a.toArray⟩ ⟨b.toArray⟩ ⟨c.toArray⟩ ⟨d.toArray⟩ hs (by rw [e]) w
  · rw [aceS_not h4]
    exact sRead_not s hs h4 w
end Go.Proofs.YtgooanaacebncaaDoor
