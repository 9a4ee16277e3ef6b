/- Laid together: ReadBits, IEnt2. -/
import Derived.Test.YtgooanaacebncaaDoorRA26
/- impl.readBits: of a text that is three signs of bits those bits, of any other text none. -/
namespace Go.Proofs.YtgooanaacebncaaDoor
open Go.RowKit Go.PlainAid
set_option linter.unusedVariables false
theorem rwx_at : (∀ h, wrap32 (((⟨#[114, 119, 120]⟩ : ByteArray)[0]'h).toNat : Int) = 114) ∧ (∀ h, wrap32 (((⟨#[114, 119, 120]⟩ : ByteArray)[1]'h).toNat : Int) = 119) ∧ (∀ h, wrap32 (((⟨#[114, 119, 120]⟩ : ByteArray)[2]'h).toNat : Int) = 120) := by
  refine ⟨fun h => ?_, fun h => ?_, fun h => ?_⟩
  · rw [show ((⟨#[114, 119, 120]⟩ : ByteArray)[0]'h) = 114 from rfl]; exact IntWalk.wrap32_in 114 (by decide)
  · rw [show ((⟨#[114, 119, 120]⟩ : ByteArray)[1]'h) = 119 from rfl]; exact IntWalk.wrap32_in 119 (by decide)
  · rw [show ((⟨#[114, 119, 120]⟩ : ByteArray)[2]'h) = 120 from rfl]; exact IntWalk.wrap32_in 120 (by decide)
set_option maxHeartbeats 1000000 in
theorem readBits_size (s : ByteArray) (h : (s.size : Int) ≠ 3) (w : World) :
    Calls Tryd.prog 114 #[.string s] w fun e w' => e = .returned (optV (rdB s)) ∧ Below w.heap.size w w' := by
  have hy : Hid (rdB s = none) := rdB_size (by omega)
  have c1 : ((s.size : Int) != 3) = true := by rw [bne_iff_ne]; exact h
  clear h
  go_enter Tryd.func114, Tryd.ntmps114
  go_wp2
  go_ret2
  exact ⟨by rw [hy.out]; rfl, Below.refl _ _⟩
set_option maxHeartbeats 4000000 in
theorem readBits_good (s : ByteArray) (n : Nat) (hn : n ≤ 7) (hs : bitsT n = s) (w : World) :
    Calls Tryd.prog 114 #[.string s] w fun e w' => e = .returned (optV (rdB s)) ∧ Below w.heap.size w w' := by
  have hy : Hid (rdB s = some n) := rdB_some hn hs
  have hsz : s.size = 3 := by rw [← hs]; rfl
  have q0 := (bitsT_bt n).1
  have q1 := (bitsT_bt n).2.1
  have q2 := (bitsT_bt n).2.2
  rw [hs] at q0 q1 q2
  clear hs
  rcases eight hn with rfl | rfl | rfl | rfl | rfl | rfl | rfl | rfl
  all_goals (
    have n0 := run_sign Tryd.prog w s 0 _ (by omega) q0 (by decide)
    have n1 := run_sign Tryd.prog w s 1 _ (by omega) q1 (by decide)
    have n2 := run_sign Tryd.prog w s 2 _ (by omega) q2 (by decide)
    have n3 := run_signs_end Tryd.prog w s 3 (by omega)
    simp [sg, b4, b2, b1] at n0 n1 n2
    have o1 : bits .or .i64 0 4 = 4 := by decide
    have o2 : bits .or .i64 0 2 = 2 := by decide
    have o3 : bits .or .i64 0 1 = 1 := by decide
    have o4 : bits .or .i64 4 2 = 6 := by decide
    have o5 : bits .or .i64 4 1 = 5 := by decide
    have o6 : bits .or .i64 2 1 = 3 := by decide
    have o7 : bits .or .i64 6 1 = 7 := by decide
    clear q0 q1 q2 hn
    obtain ⟨g0, g1, g2⟩ := rwx_at
    go_enter Tryd.func114, Tryd.ntmps114
    go_wp2
    go_rounds 4
    go_ret2
    exact ⟨by rw [hy.out]; rfl, iter_below _ _ _⟩)
set_option maxHeartbeats 4000000 in
theorem readBits_bad0 (s : ByteArray) (hsz : s.size = 3) (h1 : bt s 0 ≠ 114) (h2 : bt s 0 ≠ 45) (w : World) :
    Calls Tryd.prog 114 #[.string s] w fun e w' => e = .returned (optV (rdB s)) ∧ Below w.heap.size w w' := by
  have hy : Hid (rdB s = none) := rd_bad0 h1 h2
  obtain ⟨r, p, hr, -, -, n0⟩ := run_other Tryd.prog w s 0 (by omega)
  have c1 := hr 114 (by decide) h1
  have c2 : (((r : Nat) : Int) != 45) = true := by have := hr 45 (by decide) h2; simpa using this
  clear hr h1 h2
  obtain ⟨g0, g1, g2⟩ := rwx_at
  go_enter Tryd.func114, Tryd.ntmps114
  go_wp2
  go_rounds 1
  go_ret2
  exact ⟨by rw [hy.out]; rfl, iter_below _ _ _⟩
set_option maxHeartbeats 4000000 in
theorem readBits_bad1 (s : ByteArray) (hsz : s.size = 3) (h0 : bt s 0 = 114 ∨ bt s 0 = 45) (h1 : bt s 1 ≠ 119) (h2 : bt s 1 ≠ 45) (w : World) :
    Calls Tryd.prog 114 #[.string s] w fun e w' => e = .returned (optV (rdB s)) ∧ Below w.heap.size w w' := by
  have hy : Hid (rdB s = none) := rd_bad1 h1 h2
  have o1 : bits .or .i64 0 4 = 4 := by decide
  obtain ⟨r, p, hr, -, -, n1⟩ := run_other Tryd.prog w s 1 (by omega)
  have c1 := hr 119 (by decide) h1
  have c2 : (((r : Nat) : Int) != 45) = true := by have := hr 45 (by decide) h2; simpa using this
  clear hr h1 h2
  rcases h0 with h0 | h0
  all_goals (
    have n0 := run_sign Tryd.prog w s 0 _ (by omega) h0 (by decide)
    clear h0
    obtain ⟨g0, g1, g2⟩ := rwx_at
    go_enter Tryd.func114, Tryd.ntmps114
    go_wp2
    go_rounds 2
    go_ret2
    exact ⟨by rw [hy.out]; rfl, iter_below _ _ _⟩)
set_option maxHeartbeats 4000000 in
theorem readBits_bad2 (s : ByteArray) (hsz : s.size = 3) (h0 : bt s 0 = 114 ∨ bt s 0 = 45) (h3 : bt s 1 = 119 ∨ bt s 1 = 45) (h1 : bt s 2 ≠ 120) (h2 : bt s 2 ≠ 45) (w : World) :
    Calls Tryd.prog 114 #[.string s] w fun e w' => e = .returned (optV (rdB s)) ∧ Below w.heap.size w w' := by
  have hy : Hid (rdB s = none) := rd_bad2 h1 h2
  have o1 : bits .or .i64 0 4 = 4 := by decide
  have o2 : bits .or .i64 0 2 = 2 := by decide
  have o4 : bits .or .i64 4 2 = 6 := by decide
  obtain ⟨r, p, hr, -, -, n2⟩ := run_other Tryd.prog w s 2 (by omega)
  have c1 := hr 120 (by decide) h1
  have c2 : (((r : Nat) : Int) != 45) = true := by have := hr 45 (by decide) h2; simpa using this
  clear hr h1 h2
  rcases h0 with h0 | h0 <;> rcases h3 with h3 | h3
  all_goals (
    have n0 := run_sign Tryd.prog w s 0 _ (by omega) h0 (by decide)
    have n1 := run_sign Tryd.prog w s 1 _ (by omega) h3 (by decide)
    clear h0 h3
    obtain ⟨g0, g1, g2⟩ := rwx_at
    go_enter Tryd.func114, Tryd.ntmps114
    go_wp2
    go_rounds 3
    go_ret2
    exact ⟨by rw [hy.out]; rfl, iter_below _ _ _⟩)
/-- impl.readBits, of whatever text. -/
theorem readBits_any (s : ByteArray) (w : World) :
    Calls Tryd.prog 114 #[.string s] w fun e w' => e = .returned (optV (rdB s)) ∧ Below w.heap.size w w' := by
  by_cases hsz : s.size = 3
  · by_cases a0 : bt s 0 = 114 ∨ bt s 0 = 45
    · by_cases a1 : bt s 1 = 119 ∨ bt s 1 = 45
      · by_cases a2 : bt s 2 = 120 ∨ bt s 2 = 45
        · rcases a0 with a0 | a0 <;> rcases a1 with a1 | a1 <;> rcases a2 with a2 | a2
          · exact readBits_good s 7 (by decide) (ext3 (a := 114) (b := 119) (c := 120) hsz a0 a1 a2).symm w
          · exact readBits_good s 6 (by decide) (ext3 (a := 114) (b := 119) (c := 45) hsz a0 a1 a2).symm w
          · exact readBits_good s 5 (by decide) (ext3 (a := 114) (b := 45) (c := 120) hsz a0 a1 a2).symm w
          · exact readBits_good s 4 (by decide) (ext3 (a := 114) (b := 45) (c := 45) hsz a0 a1 a2).symm w
          · exact readBits_good s 3 (by decide) (ext3 (a := 45) (b := 119) (c := 120) hsz a0 a1 a2).symm w
          · exact readBits_good s 2 (by decide) (ext3 (a := 45) (b := 119) (c := 45) hsz a0 a1 a2).symm w
          · exact readBits_good s 1 (by decide) (ext3 (a := 45) (b := 45) (c := 120) hsz a0 a1 a2).symm w
          · exact readBits_good s 0 (by decide) (ext3 (a := 45) (b := 45) (c := 45) hsz a0 a1 a2).symm w
        · exact readBits_bad2 s hsz a0 a1 (fun e => a2 (.inl e)) (fun e => a2 (.inr e)) w
      · exact readBits_bad1 s hsz a0 (fun e => a1 (.inl e)) (fun e => a1 (.inr e)) w
    · exact readBits_bad0 s hsz (fun e => a0 (.inl e)) (fun e => a0 (.inr e)) w
  · exact readBits_size s (by omega) w
end Go.Proofs.YtgooanaacebncaaDoor
/- An entry taken in by the program: readEntry. -/
namespace Go.Proofs.YtgooanaacebncaaDoor
open Go.RowKit Go.PlainAid Go.Deep
set_option linter.unusedVariables false
theorem cellsL_at (w : World) (l : List ByteArray) (t : TypeId) {k : Nat} {x : ByteArray} (h : l[k]? = some x) : (w.alloc (.cells (l.map Value.string).toArray t)).cell? ⟨w.heap.size, k, none⟩ = some (.string x) := by
  have hb : (w.alloc (.cells (l.map Value.string).toArray t)).heap[w.heap.size]? = some (.cells (l.map Value.string).toArray t) := by
    rw [World.alloc]
    exact Array.getElem?_push_size
  simp only [World.cell?, hb]
  simp [h]
theorem splitL_at (c : UInt8) (s : ByteArray) (m : Int) (hs : s.size ≤ 8000) (w : World) (hm : w.cell? ⟨1, 0, none⟩ = some (.int .i64 m)) :
    Calls Tryd.prog 80 #[.string s, .string ⟨#[c]⟩] w fun e w' => e = .returned (.slice (some ⟨w.heap.size, 0, none⟩) (spl c s.data.toList).length (spl c s.data.toList).length) ∧ w' = w.alloc (.cells ((bts (spl c s.data.toList)).map Value.string).toArray 9) := by
  obtain ⟨hsp, hct⟩ := splitB_spl c s.size s (Nat.le_refl _)
  have h := Tryd.strings_Split s ⟨#[c]⟩ m w (by omega) hm (by show 1 ≤ 1; omega)
  rw [hsp, hct] at h
  exact h
/-- What readEntry ends in. -/
def EntEnd (w0 w : World) (P : Nat) (a : Al) (aU aG : Option Addr) (t : List UInt8) (e : Ending) (w' : World) : Prop := e = .returned (.bool (okE t)) ∧ ButP P aU aG w w' ∧ Below w0.heap.size w0 w' ∧ (okE t = true → ∃ aU' cU' aG' cG', EntI w0 w w' P (entS a t) aU aG aU' cU' aG' cG')
theorem entEnd_no {w0 w w' : World} {P : Nat} {a : Al} {aU aG : Option Addr} {t : List UInt8} (h : okE t = false) (h0 : Below w0.heap.size w0 w) (hb : Below w.heap.size w w') : EntEnd w0 w P a aU aG t (.returned (.bool false)) w' :=
  ⟨by rw [h], ButP.of_below hb, Below.on h0 hb, fun e => by rw [h] at e; cases e⟩
theorem EntI.from {w0 w w1 w' : World} {P : Nat} {b : Al} {aU aG aU' aG' : Option Addr} {cU' cG' : Nat} (h : EntI w0 w1 w' P b aU aG aU' cU' aG' cG') (hb : Below w.heap.size w w1) : EntI w0 w w' P b aU aG aU' cU' aG' cG' :=
  ⟨h.r, h.p, h.but.pre hb, fun A e => (h.fu A e).imp id (fun h1 => Nat.le_trans hb.size h1), fun A e => (h.fg A e).imp id (fun h1 => Nat.le_trans hb.size h1)⟩
theorem okE_three {t k i b : List UInt8} (h : spl 58 t = [k, i, b]) : okE t = okK k i b := by simp only [okE, h]
theorem entS_three {t k i b : List UInt8} (h : spl 58 t = [k, i, b]) (a : Al) : entS a t = entK a k i b := by simp only [entS, h]
theorem okK_plain {k b : List UInt8} {n : Nat} (hb : rdB ⟨b.toArray⟩ = some n) : okK k [] b = plOk k := by
  simp only [okK, hb, if_true, plOk]
  rfl
theorem entK_plain {k b : List UInt8} {n : Nat} (hb : rdB ⟨b.toArray⟩ = some n) (hk : plOk k = true) (a : Al) : entK a k [] b = plK a k n := by
  have hn : bitsN b = n := by rw [bitsN, hb]; rfl
  have eU : usrW.data.toList = [117, 115, 101, 114] := rfl
  have eG : grpW.data.toList = [103, 114, 111, 117, 112] := rfl
  have eM : mskW.data.toList = [109, 97, 115, 107] := rfl
  have eO : othW.data.toList = [111, 116, 104, 101, 114] := rfl
  simp only [entK, plK, hn, eU, eG, eM, eO, and_true]
  simp only [plOk, Bool.or_eq_true, decide_eq_true_eq] at hk
  rcases hk with rfl | rfl | rfl | rfl
  · simp
  · simp
  · simp
  · simp
theorem okK_named {k i b : List UInt8} {n id : Nat} (hb : rdB ⟨b.toArray⟩ = some n) (hi : i ≠ []) (hr : rdI i = some id) : okK k i b = (decide (k = [117, 115, 101, 114]) || decide (k = [103, 114, 111, 117, 112])) := by
  simp only [okK, hb, hr, if_neg hi]
  rfl
theorem entK_named {k i b : List UInt8} {n id : Nat} (hb : rdB ⟨b.toArray⟩ = some n) (hi : i ≠ []) (hr : rdI i = some id) (a : Al) : (k = [117, 115, 101, 114] → entK a k i b = { a with us := a.us ++ [((id : Int), (n : Int))] }) ∧ (k = [103, 114, 111, 117, 112] → entK a k i b = { a with gs := a.gs ++ [((id : Int), (n : Int))] }) := by
  have hn : bitsN b = n := by rw [bitsN, hb]; rfl
  have hid : numI i = (id : Int) := by
    rcases num_id i with ⟨h1, h2, _⟩ | ⟨_, h2⟩
    · rw [hr] at h2
      have := Option.some.inj h2
      have := (inR_iff.1 h1).1
      omega
    · rw [hr] at h2; cases h2
  have eU : usrW.data.toList = [117, 115, 101, 114] := rfl
  have eG : grpW.data.toList = [103, 114, 111, 117, 112] := rfl
  constructor
  · rintro rfl
    simp [entK, hn, hid, hi, eU]
  · rintro rfl
    simp [entK, hn, hid, hi, eU, eG]
set_option maxRecDepth 100000 in
set_option maxHeartbeats 2000000 in
theorem iEntry_not (w0 w : World) (P : Nat) (a : Al) (aU aG : Option Addr) (h0 : Below w0.heap.size w0 w) (m : Int) (hm : w.cell? ⟨1, 0, none⟩ = some (.int .i64 m)) (s : ByteArray) (hs : s.size ≤ 8000) (h3 : (spl 58 s.data.toList).length ≠ 3) :
    Calls Tryd.prog 92 #[.pointer (some ⟨P, 0, none⟩), .string s] w (EntEnd w0 w P a aU aG s.data.toList) := by
  have hn : Hid (okE s.data.toList = false) := (by
    show _ = _
    unfold okE
    split
    next e => rw [e] at h3; simp at h3
    · rfl)
  have H0 : Hid _ := h0
  have hS : Hid (Calls Tryd.prog 80 #[.string s, .string ⟨#[58]⟩] w fun e w' => e = .returned (.slice (some ⟨w.heap.size, 0, none⟩) (spl 58 s.data.toList).length (spl 58 s.data.toList).length) ∧ w' = w.alloc (.cells ((bts (spl 58 s.data.toList)).map Value.string).toArray 9)) := splitL_at 58 s m hs w hm
  have hne : (((spl 58 s.data.toList).length : Int) != 3) = true := by rw [bne_iff_ne]; omega
  clear h3 hm h0
  go_enter Tryd.func92, Tryd.ntmps92
  go_wp2_with fail
  refine hS.out.mono ?_
  rintro e w1 ⟨rfl, rfl⟩
  have hb : Hid _ := bel_alloc w (.cells ((bts (spl 58 s.data.toList)).map Value.string).toArray 9)
  generalize w.alloc (.cells ((bts (spl 58 s.data.toList)).map Value.string).toArray 9) = w1 at hb ⊢
  generalize (spl 58 s.data.toList).length = n at hne ⊢
  clear hS
  go_wp2
  go_ret
  exact entEnd_no hn.out H0.out hb.out
set_option maxRecDepth 100000 in
set_option maxHeartbeats 4000000 in
theorem iEntry_three (w0 w : World) (P : Nat) (a : Al) (aU : Option Addr) (cU : Nat) (aG : Option Addr) (cG : Nat) (h : Ahead w0 w P a aU cU aG cG) (hlu : a.us.length ≤ 100000) (hlg : a.gs.length ≤ 100000) (m : Int) (hm : w.cell? ⟨1, 0, none⟩ = some (.int .i64 m)) (s ta tb tc : ByteArray) (hs : s.size ≤ 8000) (hsp : spl 58 s.data.toList = [ta.data.toList, tb.data.toList, tc.data.toList]) :
    Calls Tryd.prog 92 #[.pointer (some ⟨P, 0, none⟩), .string s] w (EntEnd w0 w P a aU aG s.data.toList) := by
  have hok := okE_three hsp
  have hen := entS_three hsp a
  have htc : (⟨tc.data.toList.toArray⟩ : ByteArray) = tc := by apply ByteArray.ext; simp
  have hS0 := splitL_at 58 s m hs w hm
  have hbt : bts (spl 58 s.data.toList) = [ta, tb, tc] := by rw [hsp]; simp [bts]
  rw [hbt, hsp] at hS0
  have hS : Hid (Calls Tryd.prog 80 #[.string s, .string ⟨#[58]⟩] w fun e w' => e = .returned (.slice (some ⟨w.heap.size, 0, none⟩) 3 3) ∧ w' = w.alloc (.cells ([ta, tb, tc].map Value.string).toArray 9)) := hS0
  have hT : Hid (Tx3 (w.alloc (.cells ([ta, tb, tc].map Value.string).toArray 9)) w.heap.size ta tb tc) := ⟨by simp, cellsL_at w [ta, tb, tc] _ rfl, cellsL_at w [ta, tb, tc] _ rfl, cellsL_at w [ta, tb, tc] _ rfl⟩
  have hA : Hid (Ahead w0 (w.alloc (.cells ([ta, tb, tc].map Value.string).toArray 9)) P a aU cU aG cG) := h.below (bel_alloc _ _)
  have hB1 : Hid (Below w.heap.size w (w.alloc (.cells ([ta, tb, tc].map Value.string).toArray 9))) := bel_alloc _ _
  have H0 : Hid (Below w0.heap.size w0 w) := h.r.bel
  have HRB : Hid (∀ w, Calls Tryd.prog 114 #[.string tc] w fun e w' => e = .returned (optV (rdB tc)) ∧ Below w.heap.size w w') := readBits_any tc
  have HRI : Hid (∀ w, Calls Tryd.prog 81 #[.string tb] w fun e w' => e = .returned (optI (rdI tb.data.toList)) ∧ Below w.heap.size w w') := iReadId_any tb
  have HOK : Hid _ := hok
  have HEN : Hid _ := hen
  clear hS0 hbt hsp hm hok hen h hs
  cases hrb : rdB tc with
  | none =>
    have hn : Hid (okE s.data.toList = false) := (by show _ = _; rw [HOK.out, okK, htc, hrb]; rfl)
    rw [hrb] at HRB
    simp only [optV] at HRB
    clear HOK HEN
    go_enter Tryd.func92, Tryd.ntmps92
    go_wp2_with fail
    refine hS.out.mono ?_
    rintro e w1 ⟨rfl, hw1⟩
    rw [← hw1] at hT hA hB1
    clear hw1 hS
    obtain ⟨tl, t0, t1, t2⟩ := hT.out
    go_wp2_with fail
    refine (HRB.out _).mono ?_
    rintro e w2 ⟨rfl, hb2⟩
    have hB2 : Hid (Below w.heap.size w w2) := Below.on hB1.out hb2
    clear hb2 tl t0 t1 t2
    go_wp2
    go_ret
    exact entEnd_no hn.out H0.out hB2.out
  | some n =>
    have hrb2 : rdB ⟨tc.data.toList.toArray⟩ = some n := by rw [htc]; exact hrb
    rw [hrb] at HRB
    simp only [optV] at HRB
    have HRB2 : Hid (rdB ⟨tc.data.toList.toArray⟩ = some n) := hrb2
    clear hrb hrb2
    go_enter Tryd.func92, Tryd.ntmps92
    go_wp2_with fail
    refine hS.out.mono ?_
    rintro e w1 ⟨rfl, hw1⟩
    rw [← hw1] at hT hA hB1
    clear hw1 hS
    obtain ⟨tl, t0, t1, t2⟩ := hT.out
    go_wp2_with fail
    refine (HRB.out _).mono ?_
    rintro e w2 ⟨rfl, hb2⟩
    simp only [Option.getD_some, Option.isSome_some]
    have hT2 : Hid (Tx3 w2 w.heap.size ta tb tc) := hT.out.below hb2
    have hA2 : Hid (Ahead w0 w2 P a aU cU aG cG) := hA.out.below hb2
    have hB2 : Hid (Below w.heap.size w w2) := Below.on hB1.out hb2
    clear hb2 tl t0 t1 t2 hT hA hB1 HRB
    obtain ⟨tl, t0, t1, t2⟩ := hT2.out
    by_cases hi : tb.data.toList = []
    · have e0 := tlL_empty hi
      have HO2 : Hid (okE s.data.toList = plOk ta.data.toList) := (by show _ = _; rw [HOK.out, hi]; exact okK_plain HRB2.out)
      have HE2 : Hid (plOk ta.data.toList = true → entS a s.data.toList = plK a ta.data.toList n) := (fun hk => by rw [HEN.out, hi]; exact entK_plain HRB2.out hk a)
      clear HOK HEN hi
      go_wp2_with fail
      refine (iPlain_any w0 w2 P a aU cU aG cG hA2.out ta n).mono ?_
      rintro e w3 ⟨rfl, hsz, hbel, hEI⟩
      have HD : Hid (EntEnd w0 w P a aU aG s.data.toList (.returned (.bool (plOk ta.data.toList))) w3) := ⟨by rw [HO2.out], hsz.pre hB2.out, hbel, fun e => by
        rw [HO2.out] at e
        rw [HE2.out e]
        exact ⟨_, _, _, _, (hEI e).from hB2.out⟩⟩
      clear hsz hbel hEI tl t0 t1 t2
      generalize plOk ta.data.toList = pk at HD
      go_wp2
      go_ret
      exact HD.out
    · have e0 := tlL_full hi
      cases hri : rdI tb.data.toList with
      | none =>
        have hn : Hid (okE s.data.toList = false) := (by show _ = _; rw [HOK.out, okK, HRB2.out, if_neg hi, hri]; rfl)
        rw [hri] at HRI
        simp only [optI] at HRI
        clear HOK HEN hi
        go_wp2_with fail
        refine (HRI.out _).mono ?_
        rintro e w3 ⟨rfl, hb3⟩
        have hB3 : Hid (Below w.heap.size w w3) := Below.on hB2.out hb3
        clear hb3 tl t0 t1 t2
        go_wp2
        go_ret
        exact entEnd_no hn.out H0.out hB3.out
      | some id =>
        have hOK2 := okK_named (k := ta.data.toList) HRB2.out hi hri
        obtain ⟨hEU, hEG⟩ := entK_named (k := ta.data.toList) HRB2.out hi hri a
        rw [hri] at HRI
        simp only [optI] at HRI
        have HO2 : Hid (okE s.data.toList = (decide (ta.data.toList = [117, 115, 101, 114]) || decide (ta.data.toList = [103, 114, 111, 117, 112]))) := (by show _ = _; rw [HOK.out, hOK2])
        have HEU : Hid (ta.data.toList = [117, 115, 101, 114] → entS a s.data.toList = { a with us := a.us ++ [((id : Int), (n : Int))] }) := (fun e => by rw [HEN.out]; exact hEU e)
        have HEG : Hid (ta.data.toList = [103, 114, 111, 117, 112] → entS a s.data.toList = { a with gs := a.gs ++ [((id : Int), (n : Int))] }) := (fun e => by rw [HEN.out]; exact hEG e)
        clear HOK HEN hi hOK2 hEU hEG hri HRB2
        go_wp2_with fail
        refine (HRI.out _).mono ?_
        rintro e w3 ⟨rfl, hb3⟩
        simp only [Option.getD_some, Option.isSome_some]
        have hT3 : Hid (Tx3 w3 w.heap.size ta tb tc) := hT2.out.below hb3
        have hA3 : Hid (Ahead w0 w3 P a aU cU aG cG) := hA2.out.below hb3
        have hB3 : Hid (Below w.heap.size w w3) := Below.on hB2.out hb3
        clear hb3 tl t0 t1 t2 hT2 hA2 hB2 HRI
        obtain ⟨tl, t0, t1, t2⟩ := hT3.out
        by_cases hU : ta.data.toList = [117, 115, 101, 114]
        · go_wp2_with fail
          refine (iPutU_any w0 w3 P a aU cU aG cG hA3.out (by omega) ta hU id n).mono ?_
          rintro e w4 ⟨rfl, a', c', hEI⟩
          have HD : Hid (EntEnd w0 w P a aU aG s.data.toList (.returned (.bool true)) w4) := ⟨by rw [HO2.out, decide_eq_true hU]; rfl, hEI.but.pre hB3.out, hEI.r.bel, fun _ => ⟨_, _, _, _, by rw [HEU.out hU]; exact hEI.from hB3.out⟩⟩
          clear hEI tl t0 t1 t2 hU
          go_wp2
          go_ret
          exact HD.out
        · by_cases hG : ta.data.toList = [103, 114, 111, 117, 112]
          · go_wp2_with fail
            refine (iPutG_any w0 w3 P a aU cU aG cG hA3.out (by omega) ta hG id n).mono ?_
            rintro e w4 ⟨rfl, a', c', hEI⟩
            have HD : Hid (EntEnd w0 w P a aU aG s.data.toList (.returned (.bool true)) w4) := ⟨by rw [HO2.out, decide_eq_true hG, Bool.or_true], hEI.but.pre hB3.out, hEI.r.bel, fun _ => ⟨_, _, _, _, by rw [HEG.out hG]; exact hEI.from hB3.out⟩⟩
            clear hEI tl t0 t1 t2 hU hG
            go_wp2
            go_ret
            exact HD.out
          · have hn : Hid (okE s.data.toList = false) := (by show _ = _; rw [HO2.out, decide_eq_false hU, decide_eq_false hG]; rfl)
            go_wp2_with fail
            refine (iPutN_any w3 P ta hU hG id n).mono ?_
            rintro e w4 ⟨rfl, hb4⟩
            have hB4 : Hid (Below w.heap.size w w4) := Below.on hB3.out hb4
            clear hb4 tl t0 t1 t2 hU hG
            go_wp2
            go_ret
            exact entEnd_no hn.out H0.out hB4.out
/-- impl.readEntry. -/
theorem iEntryA_any (w0 w : World) (P : Nat) (a : Al) (aU : Option Addr) (cU : Nat) (aG : Option Addr) (cG : Nat) (h : Ahead w0 w P a aU cU aG cG) (hlu : a.us.length ≤ 100000) (hlg : a.gs.length ≤ 100000) (m : Int) (hm : w.cell? ⟨1, 0, none⟩ = some (.int .i64 m)) (s : ByteArray) (hs : s.size ≤ 8000) :
    Calls Tryd.prog 92 #[.pointer (some ⟨P, 0, none⟩), .string s] w (EntEnd w0 w P a aU aG s.data.toList) := by
  by_cases h3 : (spl 58 s.data.toList).length = 3
  · match e : spl 58 s.data.toList, h3 with
    | [x, y, z], _ => exact iEntry_three w0 w P a aU cU aG cG h hlu hlg m hm s ⟨x.toArray⟩ ⟨y.toArray⟩ ⟨z.toArray⟩ hs (by rw [e])
  · exact iEntry_not w0 w P a aU aG h.r.bel m hm s hs h3
end Go.Proofs.YtgooanaacebncaaDoor
