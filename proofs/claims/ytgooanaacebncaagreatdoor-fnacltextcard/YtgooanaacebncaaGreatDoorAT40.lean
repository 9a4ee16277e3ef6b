/- Laid together: ReadBits, IEnt2, IAclRd. -/
import Derived.Test.YtgooanaacebncaaGreatDoorAT39
/- impl.readBits: of a text that is three signs of bits those bits, of any other text none. -/
namespace Go.Proofs.YtgooanaacebncaaGreatDoor
open Go.RowKit Go.PlainAid
set_option linter.unusedVariables false
theorem rwx_at : (∀ h, wrap32 (((⟨#[114, 119, 120]⟩ : ByteArray)[0]'h).toNat : Int) = 114) ∧ (∀ h, wrap32 (((⟨#[114, 119, 120]⟩ : ByteArray)[1]'h).toNat : Int) = 119) ∧ (∀ h, wrap32 (((⟨#[114, 119, 120]⟩ : ByteArray)[2]'h).toNat : Int) = 120) := by
  refine ⟨fun h => ?_, fun h => ?_, fun h => ?_⟩
  · rw [show ((⟨#[114, 119, 120]⟩ : ByteArray)[0]'h) = 114 from rfl]; exact IntWalk.wrap32_in 114 (by decide)
  · rw [show ((⟨#[114, 119, 120]⟩ : ByteArray)[1]'h) = 119 from rfl]; exact IntWalk.wrap32_in 119 (by decide)
  · rw [show ((⟨#[114, 119, 120]⟩ : ByteArray)[2]'h) = 120 from rfl]; exact IntWalk.wrap32_in 120 (by decide)
set_option maxHeartbeats 1000000 in
theorem readBits_size (s : ByteArray) (h : (s.size : Int) ≠ 3) (w : World) :
    Calls Tryz.prog 77 #[.string s] w fun e w' => e = .returned (optV (rdB s)) ∧ Below w.heap.size w w' := by
  have hy : Hid (rdB s = none) := rdB_size (by omega)
  have c1 : ((s.size : Int) != 3) = true := by rw [bne_iff_ne]; exact h
  clear h
  go_enter Tryz.func77, Tryz.ntmps77
  go_wp2
  go_ret2
  exact ⟨by rw [hy.out]; rfl, Below.refl _ _⟩
set_option maxHeartbeats 4000000 in
theorem readBits_good (s : ByteArray) (n : Nat) (hn : n ≤ 7) (hs : bitsT n = s) (w : World) :
    Calls Tryz.prog 77 #[.string s] w fun e w' => e = .returned (optV (rdB s)) ∧ Below w.heap.size w w' := by
  have hy : Hid (rdB s = some n) := rdB_some hn hs
  have hsz : s.size = 3 := by rw [← hs]; rfl
  have q0 := (bitsT_bt n).1
  have q1 := (bitsT_bt n).2.1
  have q2 := (bitsT_bt n).2.2
  rw [hs] at q0 q1 q2
  clear hs
  rcases eight hn with rfl | rfl | rfl | rfl | rfl | rfl | rfl | rfl
  all_goals (
    have n0 := run_sign Tryz.prog w s 0 _ (by omega) q0 (by decide)
    have n1 := run_sign Tryz.prog w s 1 _ (by omega) q1 (by decide)
    have n2 := run_sign Tryz.prog w s 2 _ (by omega) q2 (by decide)
    have n3 := run_signs_end Tryz.prog w s 3 (by omega)
    simp [sg, b4, b2, b1] at n0 n1 n2
    have o1 : bits .or .i64 0 4 = 4 := by decide
    have o2 : bits .or .i64 0 2 = 2 := by decide
    have o3 : bits .or .i64 0 1 = 1 := by decide
    have o4 : bits .or .i64 4 2 = 6 := by decide
    have o5 : bits .or .i64 4 1 = 5 := by decide
    have o6 : bits .or .i64 2 1 = 3 := by decide
    have o7 : bits .or .i64 6 1 = 7 := by decide
    clear q0 q1 q2 hn
    obtain ⟨g0, g1, g2⟩ := rwx_at
    go_enter Tryz.func77, Tryz.ntmps77
    go_wp2
    go_rounds 4
    go_ret2
    exact ⟨by rw [hy.out]; rfl, iter_below _ _ _⟩)
set_option maxHeartbeats 4000000 in
theorem readBits_bad0 (s : ByteArray) (hsz : s.size = 3) (h1 : bt s 0 ≠ 114) (h2 : bt s 0 ≠ 45) (w : World) :
    Calls Tryz.prog 77 #[.string s] w fun e w' => e = .returned (optV (rdB s)) ∧ Below w.heap.size w w' := by
  have hy : Hid (rdB s = none) := rd_bad0 h1 h2
  obtain ⟨r, p, hr, -, -, n0⟩ := run_other Tryz.prog w s 0 (by omega)
  have c1 := hr 114 (by decide) h1
  have c2 : (((r : Nat) : Int) != 45) = true := by have := hr 45 (by decide) h2; simpa using this
  clear hr h1 h2
  obtain ⟨g0, g1, g2⟩ := rwx_at
  go_enter Tryz.func77, Tryz.ntmps77
  go_wp2
  go_rounds 1
  go_ret2
  exact ⟨by rw [hy.out]; rfl, iter_below _ _ _⟩
set_option maxHeartbeats 4000000 in
theorem readBits_bad1 (s : ByteArray) (hsz : s.size = 3) (h0 : bt s 0 = 114 ∨ bt s 0 = 45) (h1 : bt s 1 ≠ 119) (h2 : bt s 1 ≠ 45) (w : World) :
    Calls Tryz.prog 77 #[.string s] w fun e w' => e = .returned (optV (rdB s)) ∧ Below w.heap.size w w' := by
  have hy : Hid (rdB s = none) := rd_bad1 h1 h2
  have o1 : bits .or .i64 0 4 = 4 := by decide
  obtain ⟨r, p, hr, -, -, n1⟩ := run_other Tryz.prog w s 1 (by omega)
  have c1 := hr 119 (by decide) h1
  have c2 : (((r : Nat) : Int) != 45) = true := by have := hr 45 (by decide) h2; simpa using this
  clear hr h1 h2
  rcases h0 with h0 | h0
  all_goals (
    have n0 := run_sign Tryz.prog w s 0 _ (by omega) h0 (by decide)
    clear h0
    obtain ⟨g0, g1, g2⟩ := rwx_at
    go_enter Tryz.func77, Tryz.ntmps77
    go_wp2
    go_rounds 2
    go_ret2
    exact ⟨by rw [hy.out]; rfl, iter_below _ _ _⟩)
set_option maxHeartbeats 4000000 in
theorem readBits_bad2 (s : ByteArray) (hsz : s.size = 3) (h0 : bt s 0 = 114 ∨ bt s 0 = 45) (h3 : bt s 1 = 119 ∨ bt s 1 = 45) (h1 : bt s 2 ≠ 120) (h2 : bt s 2 ≠ 45) (w : World) :
    Calls Tryz.prog 77 #[.string s] w fun e w' => e = .returned (optV (rdB s)) ∧ Below w.heap.size w w' := by
  have hy : Hid (rdB s = none) := rd_bad2 h1 h2
  have o1 : bits .or .i64 0 4 = 4 := by decide
  have o2 : bits .or .i64 0 2 = 2 := by decide
  have o4 : bits .or .i64 4 2 = 6 := by decide
  obtain ⟨r, p, hr, -, -, n2⟩ := run_other Tryz.prog w s 2 (by omega)
  have c1 := hr 120 (by decide) h1
  have c2 : (((r : Nat) : Int) != 45) = true := by have := hr 45 (by decide) h2; simpa using this
  clear hr h1 h2
  rcases h0 with h0 | h0 <;> rcases h3 with h3 | h3
  all_goals (
    have n0 := run_sign Tryz.prog w s 0 _ (by omega) h0 (by decide)
    have n1 := run_sign Tryz.prog w s 1 _ (by omega) h3 (by decide)
    clear h0 h3
    obtain ⟨g0, g1, g2⟩ := rwx_at
    go_enter Tryz.func77, Tryz.ntmps77
    go_wp2
    go_rounds 3
    go_ret2
    exact ⟨by rw [hy.out]; rfl, iter_below _ _ _⟩)
/-- impl.readBits, of whatever text. -/
theorem readBits_any (s : ByteArray) (w : World) :
    Calls Tryz.prog 77 #[.string s] w fun e w' => e = .returned (optV (rdB s)) ∧ Below w.heap.size w w' := by
  by_cases hsz : s.size = 3
  · by_cases a0 : bt s 0 = 114 ∨ bt s 0 = 45
    · by_cases a1 : bt s 1 = 119 ∨ bt s 1 = 45
      · by_cases a2 : bt s 2 = 120 ∨ bt s 2 = 45
        · rcases a0 with a0 | a0 <;> rcases a1 with a1 | a1 <;> rcases a2 with a2 | a2
          · exact readBits_good s 7 (by decide) (ext3 (a := 114) (b := 119) (c := 120) hsz a0 a1 a2).symm w
          · exact readBits_good s 6 (by decide) (ext3 (a := 114) (b := 119) (c := 45) hsz a0 a1 a2).symm w
          · exact readBits_good s 5 (by decide) (ext3 (a := 114) (b := 45) (c := 120) hsz a0 a1 a2).symm w
          · exact readBits_good s 4 (by decide) (ext3 (a := 114) (b := 45) (c := 45) hsz a0 a1 a2).symm w
          · exact readBits_good s 3 (by decide) (ext3 (a := 45) (b := 119) (c := 120) hsz a0 a1 a2).symm w
          · exact readBits_good s 2 (by decide) (ext3 (a := 45) (b := 119) (c := 45) hsz a0 a1 a2).symm w
          · exact readBits_good s 1 (by decide) (ext3 (a := 45) (b := 45) (c := 120) hsz a0 a1 a2).symm w
          · exact readBits_good s 0 (by decide) (ext3 (a := 45) (b := 45) (c := 45) hsz a0 a1 a2).symm w
        · exact readBits_bad2 s hsz a0 a1 (fun e => a2 (.inl e)) (fun e => a2 (.inr e)) w
      · exact readBits_bad1 s hsz a0 (fun e => a1 (.inl e)) (fun e => a1 (.inr e)) w
    · exact readBits_bad0 s hsz (fun e => a0 (.inl e)) (fun e => a0 (.inr e)) w
  · exact readBits_size s (by omega) w
end Go.Proofs.YtgooanaacebncaaGreatDoor
/- An entry taken in by the program: readEntry. -/
namespace Go.Proofs.YtgooanaacebncaaGreatDoor
open Go.RowKit Go.PlainAid Go.Deep
set_option linter.unusedVariables false
theorem cellsL_at (w : World) (l : List ByteArray) (t : TypeId) {k : Nat} {x : ByteArray} (h : l[k]? = some x) : (w.alloc (.cells (l.map Value.string).toArray t)).cell? ⟨w.heap.size, k, none⟩ = some (.string x) := by
  have hb : (w.alloc (.cells (l.map Value.string).toArray t)).heap[w.heap.size]? = some (.cells (l.map Value.string).toArray t) := by
    rw [World.alloc]
    exact Array.getElem?_push_size
  simp only [World.cell?, hb]
  simp [h]
theorem splitL_at (c : UInt8) (s : ByteArray) (m : Int) (hs : s.size ≤ 8000) (w : World) (hm : w.cell? ⟨0, 0, none⟩ = some (.int .i64 m)) :
    Calls Tryz.prog 56 #[.string s, .string ⟨#[c]⟩] w fun e w' => e = .returned (.slice (some ⟨w.heap.size, 0, none⟩) (spl c s.data.toList).length (spl c s.data.toList).length) ∧ w' = w.alloc (.cells ((bts (spl c s.data.toList)).map Value.string).toArray 9) := by
  obtain ⟨hsp, hct⟩ := splitB_spl c s.size s (Nat.le_refl _)
  have h := Tryz.strings_Split s ⟨#[c]⟩ m w (by omega) hm (by show 1 ≤ 1; omega)
  rw [hsp, hct] at h
  exact h
/-- What readEntry ends in. -/
def EntEnd (w0 w : World) (P : Nat) (a : Al) (aU aG : Option Addr) (t : List UInt8) (e : Ending) (w' : World) : Prop := e = .returned (.bool (okE t)) ∧ ButP P aU aG w w' ∧ Below w0.heap.size w0 w' ∧ (okE t = true → ∃ aU' cU' aG' cG', EntI w0 w w' P (entS a t) aU aG aU' cU' aG' cG')
theorem entEnd_no {w0 w w' : World} {P : Nat} {a : Al} {aU aG : Option Addr} {t : List UInt8} (h : okE t = false) (h0 : Below w0.heap.size w0 w) (hb : Below w.heap.size w w') : EntEnd w0 w P a aU aG t (.returned (.bool false)) w' :=
  ⟨by rw [h], ButP.of_below hb, Below.on h0 hb, fun e => by rw [h] at e; cases e⟩
theorem EntI.from {w0 w w1 w' : World} {P : Nat} {b : Al} {aU aG aU' aG' : Option Addr} {cU' cG' : Nat} (h : EntI w0 w1 w' P b aU aG aU' cU' aG' cG') (hb : Below w.heap.size w w1) : EntI w0 w w' P b aU aG aU' cU' aG' cG' :=
  ⟨h.r, h.p, h.but.pre hb, fun A e => (h.fu A e).imp id (fun h1 => Nat.le_trans hb.size h1), fun A e => (h.fg A e).imp id (fun h1 => Nat.le_trans hb.size h1)⟩
theorem okE_three {t k i b : List UInt8} (h : spl 58 t = [k, i, b]) : okE t = okK k i b := by simp only [okE, h]
theorem entS_three {t k i b : List UInt8} (h : spl 58 t = [k, i, b]) (a : Al) : entS a t = entK a k i b := by simp only [entS, h]
theorem okK_plain {k b : List UInt8} {n : Nat} (hb : rdB ⟨b.toArray⟩ = some n) : okK k [] b = plOk k := by
  simp only [okK, hb, if_true, plOk]
  rfl
theorem entK_plain {k b : List UInt8} {n : Nat} (hb : rdB ⟨b.toArray⟩ = some n) (hk : plOk k = true) (a : Al) : entK a k [] b = plK a k n := by
  have hn : bitsN b = n := by rw [bitsN, hb]; rfl
  have eU : usrW.data.toList = [117, 115, 101, 114] := rfl
  have eG : grpW.data.toList = [103, 114, 111, 117, 112] := rfl
  have eM : mskW.data.toList = [109, 97, 115, 107] := rfl
  have eO : othW.data.toList = [111, 116, 104, 101, 114] := rfl
  simp only [entK, plK, hn, eU, eG, eM, eO, and_true]
  simp only [plOk, Bool.or_eq_true, decide_eq_true_eq] at hk
  rcases hk with rfl | rfl | rfl | rfl
  · simp
  · simp
  · simp
  · simp
theorem okK_named {k i b : List UInt8} {n id : Nat} (hb : rdB ⟨b.toArray⟩ = some n) (hi : i ≠ []) (hr : rdI i = some id) : okK k i b = (decide (k = [117, 115, 101, 114]) || decide (k = [103, 114, 111, 117, 112])) := by
  simp only [okK, hb, hr, if_neg hi]
  rfl
theorem entK_named {k i b : List UInt8} {n id : Nat} (hb : rdB ⟨b.toArray⟩ = some n) (hi : i ≠ []) (hr : rdI i = some id) (a : Al) : (k = [117, 115, 101, 114] → entK a k i b = { a with us := a.us ++ [((id : Int), (n : Int))] }) ∧ (k = [103, 114, 111, 117, 112] → entK a k i b = { a with gs := a.gs ++ [((id : Int), (n : Int))] }) := by
  have hn : bitsN b = n := by rw [bitsN, hb]; rfl
  have hid : numI i = (id : Int) := by
    rcases num_id i with ⟨h1, h2, _⟩ | ⟨_, h2⟩
    · rw [hr] at h2
      have := Option.some.inj h2
      have := (inR_iff.1 h1).1
      omega
    · rw [hr] at h2; cases h2
  have eU : usrW.data.toList = [117, 115, 101, 114] := rfl
  have eG : grpW.data.toList = [103, 114, 111, 117, 112] := rfl
  constructor
  · rintro rfl
    simp [entK, hn, hid, hi, eU]
  · rintro rfl
    simp [entK, hn, hid, hi, eU, eG]
set_option maxRecDepth 100000 in
set_option maxHeartbeats 2000000 in
theorem iEntry_not (w0 w : World) (P : Nat) (a : Al) (aU aG : Option Addr) (h0 : Below w0.heap.size w0 w) (m : Int) (hm : w.cell? ⟨0, 0, none⟩ = some (.int .i64 m)) (s : ByteArray) (hs : s.size ≤ 8000) (h3 : (spl 58 s.data.toList).length ≠ 3) :
    Calls Tryz.prog 57 #[.pointer (some ⟨P, 0, none⟩), .string s] w (EntEnd w0 w P a aU aG s.data.toList) := by
  have hn : Hid (okE s.data.toList = false) := (by
    show _ = _
    unfold okE
    split
    next e => rw [e] at h3; simp at h3
    · rfl)
  have H0 : Hid _ := h0
  have hS : Hid (Calls Tryz.prog 56 #[.string s, .string ⟨#[58]⟩] w fun e w' => e = .returned (.slice (some ⟨w.heap.size, 0, none⟩) (spl 58 s.data.toList).length (spl 58 s.data.toList).length) ∧ w' = w.alloc (.cells ((bts (spl 58 s.data.toList)).map Value.string).toArray 9)) := splitL_at 58 s m hs w hm
  have hne : (((spl 58 s.data.toList).length : Int) != 3) = true := by rw [bne_iff_ne]; omega
  clear h3 hm h0
  go_enter Tryz.func57, Tryz.ntmps57
  go_wp2_with fail
  refine hS.out.mono ?_
  rintro e w1 ⟨rfl, rfl⟩
  have hb : Hid _ := bel_alloc w (.cells ((bts (spl 58 s.data.toList)).map Value.string).toArray 9)
  generalize w.alloc (.cells ((bts (spl 58 s.data.toList)).map Value.string).toArray 9) = w1 at hb ⊢
  generalize (spl 58 s.data.toList).length = n at hne ⊢
  clear hS
  go_wp2
  go_ret
  exact entEnd_no hn.out H0.out hb.out
set_option maxRecDepth 100000 in
set_option maxHeartbeats 4000000 in
theorem iEntry_three (w0 w : World) (P : Nat) (a : Al) (aU : Option Addr) (cU : Nat) (aG : Option Addr) (cG : Nat) (h : Ahead w0 w P a aU cU aG cG) (hlu : a.us.length ≤ 100000) (hlg : a.gs.length ≤ 100000) (m : Int) (hm : w.cell? ⟨0, 0, none⟩ = some (.int .i64 m)) (s ta tb tc : ByteArray) (hs : s.size ≤ 8000) (hsp : spl 58 s.data.toList = [ta.data.toList, tb.data.toList, tc.data.toList]) :
    Calls Tryz.prog 57 #[.pointer (some ⟨P, 0, none⟩), .string s] w (EntEnd w0 w P a aU aG s.data.toList) := by
  have hok := okE_three hsp
  have hen := entS_three hsp a
  have htc : (⟨tc.data.toList.toArray⟩ : ByteArray) = tc := by apply ByteArray.ext; simp
  have hS0 := splitL_at 58 s m hs w hm
  have hbt : bts (spl 58 s.data.toList) = [ta, tb, tc] := by rw [hsp]; simp [bts]
  rw [hbt, hsp] at hS0
  have hS : Hid (Calls Tryz.prog 56 #[.string s, .string ⟨#[58]⟩] w fun e w' => e = .returned (.slice (some ⟨w.heap.size, 0, none⟩) 3 3) ∧ w' = w.alloc (.cells ([ta, tb, tc].map Value.string).toArray 9)) := hS0
  have hT : Hid (Tx3 (w.alloc (.cells ([ta, tb, tc].map Value.string).toArray 9)) w.heap.size ta tb tc) := ⟨by simp, cellsL_at w [ta, tb, tc] _ rfl, cellsL_at w [ta, tb, tc] _ rfl, cellsL_at w [ta, tb, tc] _ rfl⟩
  have hA : Hid (Ahead w0 (w.alloc (.cells ([ta, tb, tc].map Value.string).toArray 9)) P a aU cU aG cG) := h.below (bel_alloc _ _)
  have hB1 : Hid (Below w.heap.size w (w.alloc (.cells ([ta, tb, tc].map Value.string).toArray 9))) := bel_alloc _ _
  have H0 : Hid (Below w0.heap.size w0 w) := h.r.bel
  have HRB : Hid (∀ w, Calls Tryz.prog 77 #[.string tc] w fun e w' => e = .returned (optV (rdB tc)) ∧ Below w.heap.size w w') := readBits_any tc
  have HRI : Hid (∀ w, Calls Tryz.prog 79 #[.string tb] w fun e w' => e = .returned (optI (rdI tb.data.toList)) ∧ Below w.heap.size w w') := iReadId_any tb
  have HOK : Hid _ := hok
  have HEN : Hid _ := hen
  clear hS0 hbt hsp hm hok hen h hs
  cases hrb : rdB tc with
  | none =>
    have hn : Hid (okE s.data.toList = false) := (by show _ = _; rw [HOK.out, okK, htc, hrb]; rfl)
    rw [hrb] at HRB
    simp only [optV] at HRB
    clear HOK HEN
    go_enter Tryz.func57, Tryz.ntmps57
    go_wp2_with fail
    refine hS.out.mono ?_
    rintro e w1 ⟨rfl, hw1⟩
    rw [← hw1] at hT hA hB1
    clear hw1 hS
    obtain ⟨tl, t0, t1, t2⟩ := hT.out
    go_wp2_with fail
    refine (HRB.out _).mono ?_
    rintro e w2 ⟨rfl, hb2⟩
    have hB2 : Hid (Below w.heap.size w w2) := Below.on hB1.out hb2
    clear hb2 tl t0 t1 t2
    go_wp2
    go_ret
    exact entEnd_no hn.out H0.out hB2.out
  | some n =>
    have hrb2 : rdB ⟨tc.data.toList.toArray⟩ = some n := by rw [htc]; exact hrb
    rw [hrb] at HRB
    simp only [optV] at HRB
    have HRB2 : Hid (rdB ⟨tc.data.toList.toArray⟩ = some n) := hrb2
    clear hrb hrb2
    go_enter Tryz.func57, Tryz.ntmps57
    go_wp2_with fail
    refine hS.out.mono ?_
    rintro e w1 ⟨rfl, hw1⟩
    rw [← hw1] at hT hA hB1
    clear hw1 hS
    obtain ⟨tl, t0, t1, t2⟩ := hT.out
    go_wp2_with fail
    refine (HRB.out _).mono ?_
    rintro e w2 ⟨rfl, hb2⟩
    simp only [Option.getD_some, Option.isSome_some]
    have hT2 : Hid (Tx3 w2 w.heap.size ta tb tc) := hT.out.below hb2
    have hA2 : Hid (Ahead w0 w2 P a aU cU aG cG) := hA.out.below hb2
    have hB2 : Hid (Below w.heap.size w w2) := Below.on hB1.out hb2
    clear hb2 tl t0 t1 t2 hT hA hB1 HRB
    obtain ⟨tl, t0, t1, t2⟩ := hT2.out
    by_cases hi : tb.data.toList = []
    · have e0 := tlL_empty hi
      have HO2 : Hid (okE s.data.toList = plOk ta.data.toList) := (by show _ = _; rw [HOK.out, hi]; exact okK_plain HRB2.out)
      have HE2 : Hid (plOk ta.data.toList = true → entS a s.data.toList = plK a ta.data.toList n) := (fun hk => by rw [HEN.out, hi]; exact entK_plain HRB2.out hk a)
      clear HOK HEN hi
      go_wp2_with fail
      refine (iPlain_any w0 w2 P a aU cU aG cG hA2.out ta n).mono ?_
      rintro e w3 ⟨rfl, hsz, hbel, hEI⟩
      have HD : Hid (EntEnd w0 w P a aU aG s.data.toList (.returned (.bool (plOk ta.data.toList))) w3) := ⟨by rw [HO2.out], hsz.pre hB2.out, hbel, fun e => by
        rw [HO2.out] at e
        rw [HE2.out e]
        exact ⟨_, _, _, _, (hEI e).from hB2.out⟩⟩
      clear hsz hbel hEI tl t0 t1 t2
      generalize plOk ta.data.toList = pk at HD
      go_wp2
      go_ret
      exact HD.out
    · have e0 := tlL_full hi
      cases hri : rdI tb.data.toList with
      | none =>
        have hn : Hid (okE s.data.toList = false) := (by show _ = _; rw [HOK.out, okK, HRB2.out, if_neg hi, hri]; rfl)
        rw [hri] at HRI
        simp only [optI] at HRI
        clear HOK HEN hi
        go_wp2_with fail
        refine (HRI.out _).mono ?_
        rintro e w3 ⟨rfl, hb3⟩
        have hB3 : Hid (Below w.heap.size w w3) := Below.on hB2.out hb3
        clear hb3 tl t0 t1 t2
        go_wp2
        go_ret
        exact entEnd_no hn.out H0.out hB3.out
      | some id =>
        have hOK2 := okK_named (k := ta.data.toList) HRB2.out hi hri
        obtain ⟨hEU, hEG⟩ := entK_named (k := ta.data.toList) HRB2.out hi hri a
        rw [hri] at HRI
        simp only [optI] at HRI
        have HO2 : Hid (okE s.data.toList = (decide (ta.data.toList = [117, 115, 101, 114]) || decide (ta.data.toList = [103, 114, 111, 117, 112]))) := (by show _ = _; rw [HOK.out, hOK2])
        have HEU : Hid (ta.data.toList = [117, 115, 101, 114] → entS a s.data.toList = { a with us := a.us ++ [((id : Int), (n : Int))] }) := (fun e => by rw [HEN.out]; exact hEU e)
        have HEG : Hid (ta.data.toList = [103, 114, 111, 117, 112] → entS a s.data.toList = { a with gs := a.gs ++ [((id : Int), (n : Int))] }) := (fun e => by rw [HEN.out]; exact hEG e)
        clear HOK HEN hi hOK2 hEU hEG hri HRB2
        go_wp2_with fail
        refine (HRI.out _).mono ?_
        rintro e w3 ⟨rfl, hb3⟩
        simp only [Option.getD_some, Option.isSome_some]
        have hT3 : Hid (Tx3 w3 w.heap.size ta tb tc) := hT2.out.below hb3
        have hA3 : Hid (Ahead w0 w3 P a aU cU aG cG) := hA2.out.below hb3
        have hB3 : Hid (Below w.heap.size w w3) := Below.on hB2.out hb3
        clear hb3 tl t0 t1 t2 hT2 hA2 hB2 HRI
        obtain ⟨tl, t0, t1, t2⟩ := hT3.out
        by_cases hU : ta.data.toList = [117, 115, 101, 114]
        · go_wp2_with fail
          refine (iPutU_any w0 w3 P a aU cU aG cG hA3.out (by omega) ta hU id n).mono ?_
          rintro e w4 ⟨rfl, a', c', hEI⟩
          have HD : Hid (EntEnd w0 w P a aU aG s.data.toList (.returned (.bool true)) w4) := ⟨by rw [HO2.out, decide_eq_true hU]; rfl, hEI.but.pre hB3.out, hEI.r.bel, fun _ => ⟨_, _, _, _, by rw [HEU.out hU]; exact hEI.from hB3.out⟩⟩
          clear hEI tl t0 t1 t2 hU
          go_wp2
          go_ret
          exact HD.out
        · by_cases hG : ta.data.toList = [103, 114, 111, 117, 112]
          · go_wp2_with fail
            refine (iPutG_any w0 w3 P a aU cU aG cG hA3.out (by omega) ta hG id n).mono ?_
            rintro e w4 ⟨rfl, a', c', hEI⟩
            have HD : Hid (EntEnd w0 w P a aU aG s.data.toList (.returned (.bool true)) w4) := ⟨by rw [HO2.out, decide_eq_true hG, Bool.or_true], hEI.but.pre hB3.out, hEI.r.bel, fun _ => ⟨_, _, _, _, by rw [HEG.out hG]; exact hEI.from hB3.out⟩⟩
            clear hEI tl t0 t1 t2 hU hG
            go_wp2
            go_ret
            exact HD.out
          · have hn : Hid (okE s.data.toList = false) := (by show _ = _; rw [HO2.out, decide_eq_false hU, decide_eq_false hG]; rfl)
            go_wp2_with fail
            refine (iPutN_any w3 P ta hU hG id n).mono ?_
            rintro e w4 ⟨rfl, hb4⟩
            have hB4 : Hid (Below w.heap.size w w4) := Below.on hB3.out hb4
            clear hb4 tl t0 t1 t2 hU hG
            go_wp2
            go_ret
            exact entEnd_no hn.out H0.out hB4.out
/-- impl.readEntry. -/
theorem iEntryA_any (w0 w : World) (P : Nat) (a : Al) (aU : Option Addr) (cU : Nat) (aG : Option Addr) (cG : Nat) (h : Ahead w0 w P a aU cU aG cG) (hlu : a.us.length ≤ 100000) (hlg : a.gs.length ≤ 100000) (m : Int) (hm : w.cell? ⟨0, 0, none⟩ = some (.int .i64 m)) (s : ByteArray) (hs : s.size ≤ 8000) :
    Calls Tryz.prog 57 #[.pointer (some ⟨P, 0, none⟩), .string s] w (EntEnd w0 w P a aU aG s.data.toList) := by
  by_cases h3 : (spl 58 s.data.toList).length = 3
  · match e : spl 58 s.data.toList, h3 with
    | [x, y, z], _ => exact iEntry_three w0 w P a aU cU aG cG h hlu hlg m hm s ⟨x.toArray⟩ ⟨y.toArray⟩ ⟨z.toArray⟩ hs (by rw [e])
  · exact iEntry_not w0 w P a aU aG h.r.bel m hm s hs h3
/-- Is the text taken? -/
def Acc (t : List UInt8) : Prop := (∀ p ∈ spl 44 t, okE p = true) ∧ (rdA t).T.data.toList = t
/-- What readAcl ends in. -/
def AclEnd (t : List UInt8) (w : World) (e : Ending) (w' : World) : Prop := Below w.heap.size w w' ∧ ((¬ Acc t ∧ ∃ a aU cU aG cG, e = .returned (.tuple #[alV a aU cU aG cG, .bool false])) ∨ (Acc t ∧ ∃ aU cU aG cG, e = .returned (.tuple #[alV (rdA t) aU cU aG cG, .bool true]) ∧ New w w' aU (rdA t).us.length (rdA t).us aG (rdA t).gs.length (rdA t).gs))
theorem rdA_fold (t : List UInt8) : foldK (spl 44 t) (spl 44 t).length = rdA t := by
  unfold foldK rdA
  rw [List.take_length]
set_option maxRecDepth 100000 in
set_option maxHeartbeats 4000000 in
theorem iReadAcl_any (s : ByteArray) (m : Int) (hs : s.size ≤ 8000) (w : World) (hm : w.cell? ⟨0, 0, none⟩ = some (.int .i64 m)) (hp : PowW w) :
    Calls Tryz.prog 29 #[.string s] w (AclEnd s.data.toList w) := by
  have hlt0 := block_lt_of_cell hm
  have hls : s.data.toList.length = s.size := (Lib.size_eq s).symm
  have hlen := spl_len 44 s.data.toList
  have HM : Hid (∀ w', Below w.heap.size w w' → w'.cell? ⟨0, 0, none⟩ = some (.int .i64 m)) := (fun w' hb => (hb.cell (p := ⟨_, 0, none⟩) hlt0).trans hm)
  have hW2 : Hid (Below w.heap.size w ((w.alloc (.cells #[.int .i64 0, .int .i64 0, .int .i64 0, .slice none 0 0, .slice none 0 0, .bool false, .int .i64 0] 25)).alloc (.cells #[.int .i64 0, .int .i64 0, .int .i64 0, .slice none 0 0, .slice none 0 0, .bool false, .int .i64 0] 25))) := Below.on (bel_alloc _ _) (bel_alloc _ _)
  have hS0 := splitL_at 44 s m hs ((w.alloc (.cells #[.int .i64 0, .int .i64 0, .int .i64 0, .slice none 0 0, .slice none 0 0, .bool false, .int .i64 0] 25)).alloc (.cells #[.int .i64 0, .int .i64 0, .int .i64 0, .slice none 0 0, .slice none 0 0, .bool false, .int .i64 0] 25)) (HM.out _ hW2.out)
  have hz2 : ((w.alloc (.cells #[.int .i64 0, .int .i64 0, .int .i64 0, .slice none 0 0, .slice none 0 0, .bool false, .int .i64 0] 25)).alloc (.cells #[.int .i64 0, .int .i64 0, .int .i64 0, .slice none 0 0, .slice none 0 0, .bool false, .int .i64 0] 25)).heap.size = w.heap.size + 2 := by simp
  rw [hz2] at hS0
  have hS : Hid (Calls Tryz.prog 56 #[.string s, .string ⟨#[44]⟩] ((w.alloc (.cells #[.int .i64 0, .int .i64 0, .int .i64 0, .slice none 0 0, .slice none 0 0, .bool false, .int .i64 0] 25)).alloc (.cells #[.int .i64 0, .int .i64 0, .int .i64 0, .slice none 0 0, .slice none 0 0, .bool false, .int .i64 0] 25)) fun e w' => e = .returned (.slice (some ⟨w.heap.size + 2, 0, none⟩) (spl 44 s.data.toList).length (spl 44 s.data.toList).length) ∧ w' = ((w.alloc (.cells #[.int .i64 0, .int .i64 0, .int .i64 0, .slice none 0 0, .slice none 0 0, .bool false, .int .i64 0] 25)).alloc (.cells #[.int .i64 0, .int .i64 0, .int .i64 0, .slice none 0 0, .slice none 0 0, .bool false, .int .i64 0] 25)).alloc (.cells ((bts (spl 44 s.data.toList)).map Value.string).toArray 9)) := hS0
  have hC0 : Hid (∀ k (h : k < (spl 44 s.data.toList).length), (((w.alloc (.cells #[.int .i64 0, .int .i64 0, .int .i64 0, .slice none 0 0, .slice none 0 0, .bool false, .int .i64 0] 25)).alloc (.cells #[.int .i64 0, .int .i64 0, .int .i64 0, .slice none 0 0, .slice none 0 0, .bool false, .int .i64 0] 25)).alloc (.cells ((bts (spl 44 s.data.toList)).map Value.string).toArray 9)).cell? ⟨w.heap.size + 2, k, none⟩ = some (.string ⟨((spl 44 s.data.toList)[k]).toArray⟩)) := (fun k h => by
    have := cellsL_at ((w.alloc (.cells #[.int .i64 0, .int .i64 0, .int .i64 0, .slice none 0 0, .slice none 0 0, .bool false, .int .i64 0] 25)).alloc (.cells #[.int .i64 0, .int .i64 0, .int .i64 0, .slice none 0 0, .slice none 0 0, .bool false, .int .i64 0] 25)) (bts (spl 44 s.data.toList)) 9 (btsL_at h)
    rwa [hz2] at this)
  have hY3 : Hid (W7 (((w.alloc (.cells #[.int .i64 0, .int .i64 0, .int .i64 0, .slice none 0 0, .slice none 0 0, .bool false, .int .i64 0] 25)).alloc (.cells #[.int .i64 0, .int .i64 0, .int .i64 0, .slice none 0 0, .slice none 0 0, .bool false, .int .i64 0] 25)).alloc (.cells ((bts (spl 44 s.data.toList)).map Value.string).toArray 9)) w.heap.size (.int .i64 0) (.int .i64 0) (.int .i64 0) (.slice none 0 0) (.slice none 0 0) (.bool false) (.int .i64 0)) := ((w7_new w _ _ _ _ _ _ _ 25).below (bel_alloc _ _)).below (bel_alloc _ _)
  have hP3 : Hid (W7 (((w.alloc (.cells #[.int .i64 0, .int .i64 0, .int .i64 0, .slice none 0 0, .slice none 0 0, .bool false, .int .i64 0] 25)).alloc (.cells #[.int .i64 0, .int .i64 0, .int .i64 0, .slice none 0 0, .slice none 0 0, .bool false, .int .i64 0] 25)).alloc (.cells ((bts (spl 44 s.data.toList)).map Value.string).toArray 9)) (w.heap.size + 1) (.int .i64 0) (.int .i64 0) (.int .i64 0) (.slice none 0 0) (.slice none 0 0) (.bool false) (.int .i64 0)) := (by
    have := (w7_new (w.alloc (.cells #[.int .i64 0, .int .i64 0, .int .i64 0, .slice none 0 0, .slice none 0 0, .bool false, .int .i64 0] 25)) (.int .i64 0) (.int .i64 0) (.int .i64 0) (.slice none 0 0) (.slice none 0 0) (.bool false) (.int .i64 0) 25).below (bel_alloc _ (.cells ((bts (spl 44 s.data.toList)).map Value.string).toArray 9))
    have e : (w.alloc (.cells #[.int .i64 0, .int .i64 0, .int .i64 0, .slice none 0 0, .slice none 0 0, .bool false, .int .i64 0] 25)).heap.size = w.heap.size + 1 := by simp
    rw [e] at this
    exact this)
  have hB3 : Hid (Below w.heap.size w (((w.alloc (.cells #[.int .i64 0, .int .i64 0, .int .i64 0, .slice none 0 0, .slice none 0 0, .bool false, .int .i64 0] 25)).alloc (.cells #[.int .i64 0, .int .i64 0, .int .i64 0, .slice none 0 0, .slice none 0 0, .bool false, .int .i64 0] 25)).alloc (.cells ((bts (spl 44 s.data.toList)).map Value.string).toArray 9))) := Below.on hW2.out (bel_alloc _ _)
  have hZ3 : Hid (w.heap.size + 2 < (((w.alloc (.cells #[.int .i64 0, .int .i64 0, .int .i64 0, .slice none 0 0, .slice none 0 0, .bool false, .int .i64 0] 25)).alloc (.cells #[.int .i64 0, .int .i64 0, .int .i64 0, .slice none 0 0, .slice none 0 0, .bool false, .int .i64 0] 25)).alloc (.cells ((bts (spl 44 s.data.toList)).map Value.string).toArray 9)).heap.size) := (show _ < _ by simp)
  have HPL : Hid (∀ p ∈ spl 44 s.data.toList, p.length ≤ 8000) := (fun p hp => by have := piece_leL 44 s.data.toList p hp; omega)
  have HAC : Hid (∀ k (h : k < (spl 44 s.data.toList).length), okE ((spl 44 s.data.toList)[k]) = false → ¬ Acc s.data.toList) := (fun k h e ha => by rw [ha.1 _ (List.getElem_mem h)] at e; cases e)
  have HRD : Hid (foldK (spl 44 s.data.toList) (spl 44 s.data.toList).length = rdA s.data.toList) := rdA_fold _
  have HAY : Hid ((∀ p ∈ spl 44 s.data.toList, okE p = true) → (rdA s.data.toList).T = s → Acc s.data.toList) := (fun h1 h2 => ⟨h1, by rw [h2]⟩)
  have HAN : Hid ((rdA s.data.toList).T ≠ s → ¬ Acc s.data.toList) := (fun h1 h2 => h1 (by apply ByteArray.ext; apply Array.toList_inj.1; exact h2.2))
  have HPW : Hid (PowW w) := hp
  have hpl : (spl 44 s.data.toList).length ≤ 8001 := by omega
  clear hS0 hz2 hW2 hm hlt0 hls hlen hs hp
  generalize hRE : rdA s.data.toList = RS at HRD HAY HAN
  have HRE : Hid (rdA s.data.toList = RS) := hRE
  clear hRE
  go_enter Tryz.func29, Tryz.ntmps29
  go_wp2_with fail
  refine hS.out.mono ?_
  rintro e w3 ⟨rfl, hw3⟩
  rw [← hw3] at hC0 hY3 hP3 hB3 hZ3
  clear hw3 hS
  generalize spl 44 s.data.toList = ps at hC0 HPL HAC HRD HAY hpl ⊢
  have hA3 : Hid (Ahead w w3 (w.heap.size + 1) (foldK ps 0) none 0 none 0) := ⟨⟨World.ownsRow_nil _ _ _ _, World.ownsRow_nil _ _ _ _, fun A A2 e => (by cases e), hB3.out⟩, hP3.out, by omega, fun A e => (by cases e), fun A e => (by cases e)⟩
  go_wp2
  go_loopw [10] (fun i wr => ∃ (k : Nat) (aU : Option Addr) (cU : Nat) (aG : Option Addr) (cG : Nat), k ≤ ps.length ∧ i = .int .i64 k ∧ Hid (∀ j (h : j < k) (h2 : j < ps.length), okE (ps[j]) = true) ∧ Hid (Ahead w wr (w.heap.size + 1) (foldK ps k) aU cU aG cG) ∧ Hid (W7 wr w.heap.size (.int .i64 0) (.int .i64 0) (.int .i64 0) (.slice none 0 0) (.slice none 0 0) (.bool false) (.int .i64 0)) ∧ Hid (wr.heap[w.heap.size + 2]? = w3.heap[w.heap.size + 2]? ∧ w.heap.size + 2 < wr.heap.size) ∧ Hid ((∀ A, aU = some A → w.heap.size + 2 < A.block) ∧ (∀ A, aG = some A → w.heap.size + 2 < A.block))) (fun i _ => ps.length - (intOf i).toNat)
  case atStart => exact ⟨0, none, 0, none, 0, Nat.zero_le _, rfl, fun j h => absurd h (by omega), hA3, hY3, ⟨rfl, hZ3.out⟩, ⟨fun A e => (by cases e), fun A e => (by cases e)⟩⟩
  case round =>
    obtain ⟨k, aU, cU, aG, cG, hk, rfl, hD, hA, hY, hT, hN⟩ := hrel
    obtain ⟨lu, lg⟩ := foldK_len ps k hk
    by_cases hlt : k < ps.length
    · have hlt' : (k : Int) < (ps.length : Int) := by omega
      have hcz : wr.cell? ⟨w.heap.size + 2, k, none⟩ = some (.string ⟨(ps[k]).toArray⟩) := (World.cell?_of_block (a := ⟨w.heap.size + 2, k, none⟩) hT.out.1).trans (hC0.out k hlt)
      have hEn : Hid (Calls Tryz.prog 57 #[.pointer (some ⟨w.heap.size + 1, 0, none⟩), .string ⟨(ps[k]).toArray⟩] wr (EntEnd w wr (w.heap.size + 1) (foldK ps k) aU aG ps[k])) := (by
        have := iEntryA_any w wr (w.heap.size + 1) (foldK ps k) aU cU aG cG hA.out (by omega) (by omega) m (HM.out _ hA.out.r.bel) ⟨(ps[k]).toArray⟩ (by have := HPL.out _ (List.getElem_mem hlt); simpa [ByteArray.size] using this)
        show Calls _ _ _ _ _
        simpa using this)
      go_wp2_with fail
      refine hEn.out.mono ?_
      rintro e w4 ⟨rfl, hbut, hbel, hEI⟩
      have hYk : ∀ w', ButP (w.heap.size + 1) aU aG wr w' → W7 w' w.heap.size (.int .i64 0) (.int .i64 0) (.int .i64 0) (.slice none 0 0) (.slice none 0 0) (.bool false) (.int .i64 0) := fun w' hb => hY.out.keep hb.1 (hb.2 _ hY.out.lt (by omega) (fun A e => by have := hN.out.1 A e; omega) (fun A e => by have := hN.out.2 A e; omega))
      have hY4 : Hid (W7 w4 w.heap.size (.int .i64 0) (.int .i64 0) (.int .i64 0) (.slice none 0 0) (.slice none 0 0) (.bool false) (.int .i64 0)) := hYk w4 hbut
      have hT4 : Hid (w4.heap[w.heap.size + 2]? = w3.heap[w.heap.size + 2]? ∧ w.heap.size + 2 < w4.heap.size) := ⟨(hbut.2 _ hT.out.2 (by omega) (fun A e => by have := hN.out.1 A e; omega) (fun A e => by have := hN.out.2 A e; omega)).trans hT.out.1, Nat.lt_of_lt_of_le hT.out.2 hbut.1⟩
      have HBL : Hid (Below w.heap.size w w4) := hbel
      cases hok : okE ps[k]
      · have hno : Hid (¬ Acc s.data.toList) := HAC.out k hlt hok
        clear hok hEI hbut hbel hYk hEn hcz hD hA hY hT hN
        obtain ⟨yl, y0, y1, y2, y3, y4, y5, y6, yz⟩ := hY4.out
        have yz0 := yz 0
        have yz1 := yz 1
        have yz2 := yz 2
        have yz3 := yz 3
        have yz4 := yz 4
        have yz5 := yz 5
        have yz6 := yz 6
        clear yz
        go_wp2
        refine bodyPost_ret (v := .tuple #[.agg #[.int .i64 0, .int .i64 0, .int .i64 0, .slice none 0 0, .slice none 0 0, .bool false, .int .i64 0], .bool false]) (by simp [results, Tryz.results29, go_sem, y0, y1, y2, y3, y4, y5, y6]) rfl ⟨?_, .inl ⟨hno.out, alZ, none, 0, none, 0, rfl⟩⟩
        repeat (refine bl_setL ?_ (Nat.le_refl _))
        exact HBL.out
      · obtain ⟨aU', cU', aG', cG', hE⟩ := hEI hok
        have HN4 : Hid ((∀ A, aU' = some A → w.heap.size + 2 < A.block) ∧ (∀ A, aG' = some A → w.heap.size + 2 < A.block)) := ⟨fun A e => by
          rcases hE.fu A e with ⟨A2, e2, e3⟩ | h1
          · rw [e3]; exact hN.out.1 A2 e2
          · exact Nat.lt_of_lt_of_le hT.out.2 h1, fun A e => by
          rcases hE.fg A e with ⟨A2, e2, e3⟩ | h1
          · rw [e3]; exact hN.out.2 A2 e2
          · exact Nat.lt_of_lt_of_le hT.out.2 h1⟩
        have HA4 : Hid (Ahead w w4 (w.heap.size + 1) (foldK ps (k + 1)) aU' cU' aG' cG') := (by
          rw [foldK_next ps hlt]
          exact ⟨hE.r, hE.p, by omega, fun A e => by have := HN4.out.1 A e; omega, fun A e => by have := HN4.out.2 A e; omega⟩)
        have hD2 : Hid (∀ j (h : j < k + 1) (h2 : j < ps.length), okE (ps[j]) = true) := (fun j h h2 => by
          by_cases e : j = k
          · subst e; exact hok
          · exact hD.out j (by omega) h2)
        clear hok hEI hbut hbel hYk hEn hcz hD hA hY hT hN hE
        go_wp2
        go_roundw
        case rel => exact ⟨k + 1, aU', cU', aG', cG', by omega, by go_num, hD2, HA4, hY4, hT4, HN4⟩
        case measure => simp [intOf]; omega
    · have hke : k = ps.length := by omega
      subst hke
      have hall : ∀ p ∈ ps, okE p = true := fun p hp => by
        obtain ⟨j, hj, rfl⟩ := List.mem_iff_getElem.1 hp
        exact hD.out j hj hj
      have hA0 := hA.out
      rw [HRD.out] at hA0 lu lg
      have HA : Hid (Ahead w wr (w.heap.size + 1) RS aU cU aG cG) := hA0
      have HACC : Hid (RS.T = s → Acc s.data.toList) := HAY.out hall
      have HT : Hid (∀ w', Below wr.heap.size wr w' → Calls Tryz.prog 6 #[.agg #[.int .i64 RS.u, .int .i64 RS.g, .int .i64 RS.o, .slice aU RS.us.length cU, .slice aG RS.gs.length cG, .bool RS.r, .int .i64 RS.m]] w' fun e w'' => e = .returned (.string RS.T) ∧ Below w'.heap.size w' w'') := (fun w' hb => iAclText_any RS.u RS.g RS.o aU RS.us.length cU aG RS.gs.length cG RS.r RS.m RS.us RS.gs w' (HA.out.r.prsU.below hb) (HA.out.r.prsG.below hb) (HPW.out.below (Below.on HA.out.r.bel hb)))
      have hcmp : (RS.T.toList == s.toList) = decide (RS.T = s) := by
        by_cases e : RS.T = s
        · rw [e, decide_eq_true rfl]; simp
        · rw [decide_eq_false e, ByteArray.toList_eq, ByteArray.toList_eq]
          exact beq_eq_false_iff_ne.2 (fun e2 => e (by apply ByteArray.ext; apply Array.toList_inj.1; exact e2))
      have HFIN : Hid ((decide (RS.T = s) = true ∧ Acc s.data.toList) ∨ (decide (RS.T = s) = false ∧ ¬ Acc s.data.toList)) := (by
        by_cases e : RS.T = s
        · exact .inl ⟨decide_eq_true e, HACC.out e⟩
        · exact .inr ⟨decide_eq_false e, HAN.out e⟩)
      have HNE : Hid ((∀ A, aU = some A → w.heap.size ≠ A.block) ∧ (∀ A, aG = some A → w.heap.size ≠ A.block)) := ⟨fun A e => by have := hN.out.1 A e; omega, fun A e => by have := hN.out.2 A e; omega⟩
      generalize decide (RS.T = s) = dq at hcmp HFIN
      generalize RS.T = TX at hcmp HT
      clear hall hA0 hA HAC HAY HAN HRD HACC hC0 HPL hA3 hP3 hY3 hD hN hk hlt hT
      obtain ⟨pl, p0, p1, p2, p3, p4, p5, p6, pz⟩ := HA.out.p
      have pz0 := pz 0
      have pz1 := pz 1
      have pz2 := pz 2
      have pz3 := pz 3
      have pz4 := pz 4
      have pz5 := pz 5
      have pz6 := pz 6
      clear pz
      go_upto_region 8 with fail
      go_region_held3 (fun w' => w'.cell? ⟨w.heap.size + 1, 0, none⟩ = some (.int .i64 RS.u) ∧ w'.cell? ⟨w.heap.size + 1, 1, none⟩ = some (.int .i64 RS.g) ∧ w'.cell? ⟨w.heap.size + 1, 2, none⟩ = some (.int .i64 RS.o) ∧ w'.cell? ⟨w.heap.size + 1, 3, none⟩ = some (.slice aU RS.us.length cU) ∧ w'.cell? ⟨w.heap.size + 1, 4, none⟩ = some (.slice aG RS.gs.length cG) ∧ w'.cell? ⟨w.heap.size + 1, 5, none⟩ = some (.bool RS.r) ∧ w'.cell? ⟨w.heap.size + 1, 6, none⟩ = some (.int .i64 RS.m)) (go_keep)
        (first
          | (go_at_call 6; refine (HT.out _ (bdC (Below.refl _ _))).mono ?_; rintro e w4 ⟨rfl, hb4⟩; have hB4 : Hid (Below wr.heap.size wr w4) := bdZ hb4; obtain ⟨ql, q0, q1, q2, q3, q4, q5, q6, _⟩ := W7.below HA.out.p hB4.out; obtain ⟨yl, y0, y1, y2, y3, y4, y5, y6, yz⟩ := hY.out.below hB4.out; have yz0 := yz 0; have yz1 := yz 1; have yz2 := yz 2; have yz3 := yz 3; have yz4 := yz 4; have yz5 := yz 5; have yz6 := yz 6; clear yz))
      have HNZ : Hid (New w w4 aU RS.us.length RS.us aG RS.gs.length RS.gs) := HA.out.r.new.on hB4.out
      clear pl p0 p1 p2 p3 p4 p5 p6 pz0 pz1 pz2 pz3 pz4 pz5 pz6 ql q0 q1 q2 q3 q4 q5 q6 hb4
      go_wp2
      refine bodyPost_ret (v := .tuple #[.agg #[.int .i64 RS.u, .int .i64 RS.g, .int .i64 RS.o, .slice aU RS.us.length cU, .slice aG RS.gs.length cG, .bool RS.r, .int .i64 RS.m], .bool dq]) (by simp [results, Tryz.results29, go_sem, y0, y1, y2, y3, y4, y5, y6]) rfl ?_
      have hNn : ∀ w', New w w' aU RS.us.length RS.us aG RS.gs.length RS.gs → AclEnd s.data.toList w (.returned (.tuple #[.agg #[.int .i64 RS.u, .int .i64 RS.g, .int .i64 RS.o, .slice aU RS.us.length cU, .slice aG RS.gs.length cG, .bool RS.r, .int .i64 RS.m], .bool dq])) w' := fun w' hn => by
        rcases HFIN.out with ⟨e, hac⟩ | ⟨e, hac⟩
        · refine ⟨hn.bel, .inr ⟨hac, aU, cU, aG, cG, ?_, ?_⟩⟩
          · rw [HRE.out, e]; rfl
          · rw [HRE.out]; exact hn
        · refine ⟨hn.bel, .inl ⟨hac, RS, aU, cU, aG, cG, ?_⟩⟩
          rw [e]; rfl
      refine hNn _ ?_
      repeat (refine New.set ?_ (Nat.le_refl _) HNE.out.1 HNE.out.2)
      exact HNZ.out
set_option maxRecDepth 100000 in
set_option maxHeartbeats 2000000 in
/-- impl.AclRead. -/
theorem iAclRead_any (s : ByteArray) (m : Int) (hs : s.size ≤ 1048576) (w : World) (hm : w.cell? ⟨0, 0, none⟩ = some (.int .i64 m)) (hp : PowW w) :
    Calls Tryz.prog 10 #[.string s] w (Answers (aclO s.data.toList) w) := by
  have hlt := block_lt_of_cell hm
  have hls : s.data.toList.length = s.size := (Lib.size_eq s).symm
  have hY : Hid (W8 (w.alloc (.cells #[.int .i64 0, .int .i64 0, .int .i64 0, .slice none 0 0, .slice none 0 0, .bool false, .int .i64 0, .int .i64 0] 30)) w.heap.size) := w8_new w _
  have hW0 : Hid (Below w.heap.size w (w.alloc (.cells #[.int .i64 0, .int .i64 0, .int .i64 0, .slice none 0 0, .slice none 0 0, .bool false, .int .i64 0, .int .i64 0] 30))) := bel_alloc _ _
  by_cases h8 : 8000 < s.size
  · have hO : Hid (aclO s.data.toList = illA 2) := aclO_long (by omega)
    have h8' : (8000 : Int) < (s.size : Int) := by omega
    clear hls h8 hm hlt hp
    go_enter Tryz.func10, Tryz.ntmps10
    go_wp2
    refine bodyPost_ret (v := .agg #[.int .i64 0, .int .i64 0, .int .i64 0, .slice none 0 0, .slice none 0 0, .bool false, .int .i64 0, .int .i64 2]) (by simp [results, Tryz.results10, go_sem]) rfl (answers_ill hO.out ?_)
    repeat (refine bl_setL ?_ (Nat.le_refl _))
    exact bel_alloc _ _
  have h8' : ¬ (8000 : Int) < (s.size : Int) := by omega
  have HR : Hid (Calls Tryz.prog 29 #[.string s] (w.alloc (.cells #[.int .i64 0, .int .i64 0, .int .i64 0, .slice none 0 0, .slice none 0 0, .bool false, .int .i64 0, .int .i64 0] 30)) (AclEnd s.data.toList (w.alloc (.cells #[.int .i64 0, .int .i64 0, .int .i64 0, .slice none 0 0, .slice none 0 0, .bool false, .int .i64 0, .int .i64 0] 30)))) := iReadAcl_any s m (by omega) _ ((hW0.out.cell (p := ⟨_, 0, none⟩) hlt).trans hm) (hp.below hW0.out)
  have HYE : Hid (Acc s.data.toList → aclO s.data.toList = ⟨(rdA s.data.toList).u, (rdA s.data.toList).g, (rdA s.data.toList).o, (rdA s.data.toList).us, (rdA s.data.toList).gs, (rdA s.data.toList).r, (rdA s.data.toList).m, 0⟩) := (fun h => by unfold Acc at h; rw [aclO, if_neg (by omega), if_pos h])
  have HNO : Hid (¬ Acc s.data.toList → aclO s.data.toList = illA 3) := (fun h => by unfold Acc at h; rw [aclO, if_neg (by omega), if_neg h])
  clear hlt hm hls h8 hs hp
  go_enter Tryz.func10, Tryz.ntmps10
  go_wp2_with fail
  refine HR.out.mono ?_
  rintro e w1 ⟨hb1, ⟨hn, a, aU, cU, aG, cG, rfl⟩ | ⟨hac, aU, cU, aG, cG, rfl, hN⟩⟩
  · have hO : Hid (aclO s.data.toList = illA 3) := HNO.out hn
    have hY1 : Hid (W8 w1 w.heap.size) := hY.out.below hb1
    have hW1 : Hid (Below w.heap.size w w1) := Below.on hW0.out hb1
    clear hb1 hY hW0 HR HYE HNO hn
    simp only [alV]
    go_upto_region 4 with fail
    have hY2 : Hid (W8 (w1.alloc (.cells #[.int .i64 a.u, .int .i64 a.g, .int .i64 a.o, .slice aU a.us.length cU, .slice aG a.gs.length cG, .bool a.r, .int .i64 a.m] 25)) w.heap.size) := hY1.out.below (bel_alloc _ _)
    have hW2 : Hid (Below w.heap.size w (w1.alloc (.cells #[.int .i64 a.u, .int .i64 a.g, .int .i64 a.o, .slice aU a.us.length cU, .slice aG a.gs.length cG, .bool a.r, .int .i64 a.m] 25))) := Below.onA hW1.out
    generalize (w1.alloc (.cells #[.int .i64 a.u, .int .i64 a.g, .int .i64 a.o, .slice aU a.us.length cU, .slice aG a.gs.length cG, .bool a.r, .int .i64 a.m] 25)) = w2 at hY2 hW2 ⊢
    clear hY1 hW1
    obtain ⟨yl, y0, y1, y2, y3, y4, y5, y6, y7, yz⟩ := hY2.out
    have yz0 := yz 0
    have yz1 := yz 1
    have yz2 := yz 2
    have yz3 := yz 3
    have yz4 := yz 4
    have yz5 := yz 5
    have yz6 := yz 6
    have yz7 := yz 7
    clear yz
    go_wp2
    refine bodyPost_ret (v := .agg #[.int .i64 0, .int .i64 0, .int .i64 0, .slice none 0 0, .slice none 0 0, .bool false, .int .i64 0, .int .i64 3]) (by simp [results, Tryz.results10, go_sem, y0, y1, y2, y3, y4, y5, y6, y7]) rfl (answers_ill hO.out ?_)
    repeat (refine bl_setL ?_ (Nat.le_refl _))
    exact hW2.out
  · have hO0 := HYE.out hac
    have hY1 : Hid (W8 w1 w.heap.size) := hY.out.below hb1
    have hz : (w.alloc (.cells #[.int .i64 0, .int .i64 0, .int .i64 0, .slice none 0 0, .slice none 0 0, .bool false, .int .i64 0, .int .i64 0] 30)).heap.size = w.heap.size + 1 := by simp
    have hn2 := hN.iu
    have hn3 := hN.ig
    rw [hz] at hn2 hn3
    have HNE : Hid ((∀ A, aU = some A → w.heap.size ≠ A.block) ∧ (∀ A, aG = some A → w.heap.size ≠ A.block)) := ⟨fun A e => by have := (hn2 A e).1; omega, fun A e => by have := (hn3 A e).1; omega⟩
    have hN1 := hN.pre hW0.out
    generalize rdA s.data.toList = RS at hO0 hN1 ⊢
    have hO : Hid (aclO s.data.toList = ⟨RS.u, RS.g, RS.o, RS.us, RS.gs, RS.r, RS.m, 0⟩) := hO0
    have HN1 : Hid (New w w1 aU RS.us.length RS.us aG RS.gs.length RS.gs) := hN1
    clear hb1 hY hW0 HR HYE HNO hac hN hn2 hn3 hz hO0 hN1
    simp only [alV]
    go_upto_region 4 with fail
    have hX2 : Hid (W7 (w1.alloc (.cells #[.int .i64 RS.u, .int .i64 RS.g, .int .i64 RS.o, .slice aU RS.us.length cU, .slice aG RS.gs.length cG, .bool RS.r, .int .i64 RS.m] 25)) w1.heap.size (.int .i64 RS.u) (.int .i64 RS.g) (.int .i64 RS.o) (.slice aU RS.us.length cU) (.slice aG RS.gs.length cG) (.bool RS.r) (.int .i64 RS.m)) := w7_new w1 _ _ _ _ _ _ _ _
    have hY2 : Hid (W8 (w1.alloc (.cells #[.int .i64 RS.u, .int .i64 RS.g, .int .i64 RS.o, .slice aU RS.us.length cU, .slice aG RS.gs.length cG, .bool RS.r, .int .i64 RS.m] 25)) w.heap.size) := hY1.out.below (bel_alloc _ _)
    have HN2 : Hid (New w (w1.alloc (.cells #[.int .i64 RS.u, .int .i64 RS.g, .int .i64 RS.o, .slice aU RS.us.length cU, .slice aG RS.gs.length cG, .bool RS.r, .int .i64 RS.m] 25)) aU RS.us.length RS.us aG RS.gs.length RS.gs) := HN1.out.on (bel_alloc _ _)
    generalize (w1.alloc (.cells #[.int .i64 RS.u, .int .i64 RS.g, .int .i64 RS.o, .slice aU RS.us.length cU, .slice aG RS.gs.length cG, .bool RS.r, .int .i64 RS.m] 25)) = w2 at hX2 hY2 HN2 ⊢
    generalize w1.heap.size = X at hX2 ⊢
    clear hY1 HN1
    obtain ⟨xl, x0, x1, x2, x3, x4, x5, x6, xz⟩ := hX2.out
    have xz0 := xz 0
    have xz1 := xz 1
    have xz2 := xz 2
    have xz3 := xz 3
    have xz4 := xz 4
    have xz5 := xz 5
    have xz6 := xz 6
    clear xz
    obtain ⟨yl, y0, y1, y2, y3, y4, y5, y6, y7, yz⟩ := hY2.out
    have yz0 := yz 0
    have yz1 := yz 1
    have yz2 := yz 2
    have yz3 := yz 3
    have yz4 := yz 4
    have yz5 := yz 5
    have yz6 := yz 6
    have yz7 := yz 7
    clear yz
    go_wp2
    refine bodyPost_ret (v := .agg #[.int .i64 RS.u, .int .i64 RS.g, .int .i64 RS.o, .slice aU RS.us.length cU, .slice aG RS.gs.length cG, .bool RS.r, .int .i64 RS.m, .int .i64 0]) (by simp [results, Tryz.results10, go_sem, y0, y1, y2, y3, y4, y5, y6, y7]) rfl (answers_of hO.out rfl rfl ?_)
    repeat (refine New.set ?_ (Nat.le_refl _) HNE.out.1 HNE.out.2)
    exact HN2.out
end Go.Proofs.YtgooanaacebncaaGreatDoor
