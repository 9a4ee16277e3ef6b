/- Laid together: AclOfWalks, Three, Chmod03. -/
import Derived.Test.YtgojbilbkfilgaaTr3
import Derived.Test.YtgojbilbkfilgaaTr10
import Derived.Below
import Derived.Deep.QuietTactic
import Derived.BigQuiet
import Derived.Handy
import Derived.Test.YtgojbilbkfilgaaTr15
/- AclOf, the program's and the specification's: of a mode its three bits. -/
namespace Go.Proofs.Ytgojbilbkfilgaa
open Go.RowKit Go.PlainAid
set_option linter.unusedVariables false
theorem and7a (n : Nat) (h : n ≤ 4095) : bits .and .i64 (n : Int) 7 = ((n % 8 : Nat) : Int) := by
  have e : n &&& 7 = n % 8 := Nat.and_two_pow_sub_one_eq_mod n 3
  have := i64_and_nat n 7 (by omega) (by decide)
  rw [e] at this
  exact this
theorem and7k (n k : Nat) (h : n ≤ 4095) : bits .and .i64 ((n : Int) / (k : Int)) 7 = (n : Int) / (k : Int) % 8 := by
  have := and7a (n / k) (Nat.le_trans (Nat.div_le_self _ _) h)
  have e : ((n / k : Nat) : Int) = (n : Int) / (k : Int) := by omega
  rw [e] at this
  rw [this]
  omega
/-- The three bits of a mode, of whatever number. -/
def mU (n : Int) : Int := if 0 ≤ n ∧ n ≤ 4095 then n / 64 % 8 else 0
def mG (n : Int) : Int := if 0 ≤ n ∧ n ≤ 4095 then n / 8 % 8 else 0
def mO (n : Int) : Int := if 0 ≤ n ∧ n ≤ 4095 then n % 8 else 0
theorem m_in {n : Int} (h : 0 ≤ n ∧ n ≤ 4095) : mU n = n / 64 % 8 ∧ mG n = n / 8 % 8 ∧ mO n = n % 8 := by simp [mU, mG, mO, h]
theorem m_off {n : Int} (h : ¬ (0 ≤ n ∧ n ≤ 4095)) : mU n = 0 ∧ mG n = 0 ∧ mO n = 0 := by
  refine ⟨?_, ?_, ?_⟩
  · rw [mU, if_neg h]
  · rw [mG, if_neg h]
  · rw [mO, if_neg h]
set_option maxHeartbeats 1000000 in
/-- impl.threeBits of a mode. -/
theorem threeBits_in (n : Nat) (h : n ≤ 4095) (w : World) :
    Calls Try.prog 69 #[.int .i64 n] w fun e w' => e = .returned (.tuple #[.int .i64 ((n : Int) / 64 % 8), .int .i64 ((n : Int) / 8 % 8), .int .i64 ((n : Int) % 8)]) ∧ w' = w := by
  have a0 := and7a n h
  have a1 : bits .and .i64 ((n : Int) / 8) 7 = (n : Int) / 8 % 8 := and7k n 8 h
  have a2 : bits .and .i64 ((n : Int) / 64) 7 = (n : Int) / 64 % 8 := and7k n 64 h
  go_enter Try.func69, Try.ntmps69
  go_wp2
  go_ret3
  exact ⟨rfl, rfl⟩
set_option maxHeartbeats 1000000 in
/-- impl.AclOf. -/
theorem iAclOf_any (n : Int) (w : World) :
    Calls Try.prog 31 #[.int .i64 n] w fun e w' => e = .returned (.agg #[.int .i64 (mU n), .int .i64 (mG n), .int .i64 (mO n), .slice none 0 0, .slice none 0 0, .bool false, .int .i64 0]) ∧ Below w.heap.size w w' := by
  by_cases hin : 0 ≤ n ∧ n ≤ 4095
  · obtain ⟨e1, e2, e3⟩ := m_in hin
    rw [e1, e2, e3]
    obtain ⟨k, rfl⟩ := Int.eq_ofNat_of_zero_le hin.1
    have hi : inR 0 4095 (k : Int) = true := inR_yes hin.1 hin.2
    have hk : k ≤ 4095 := by omega
    clear e1 e2 e3
    go_enter Try.func31, Try.ntmps31
    go_wp2_with (first | (go_at_call 68; refine (isMode_any _ _).mono ?_; rintro e w' ⟨rfl, rfl⟩) | (go_at_call 69; refine (threeBits_in k hk _).mono ?_; rintro e w' ⟨rfl, rfl⟩))
    exact bodyPost_ret (v := .agg #[.int .i64 ((k : Int) / 64 % 8), .int .i64 ((k : Int) / 8 % 8), .int .i64 ((k : Int) % 8), .slice none 0 0, .slice none 0 0, .bool false, .int .i64 0]) (by simp [results, Try.results31, go_sem]) rfl ⟨rfl, (Below.refl _ _).alloc (Nat.le_refl _) _⟩
  · obtain ⟨e1, e2, e3⟩ := m_off hin
    rw [e1, e2, e3]
    have hi : inR 0 4095 n = false := inR_no hin
    clear e1 e2 e3 hin
    go_enter Try.func31, Try.ntmps31
    go_wp2_with (go_at_call 68; refine (isMode_any _ _).mono ?_; rintro e w' ⟨rfl, rfl⟩)
    exact bodyPost_ret (v := .agg #[.int .i64 0, .int .i64 0, .int .i64 0, .slice none 0 0, .slice none 0 0, .bool false, .int .i64 0]) (by simp [results, Try.results31, go_sem]) rfl ⟨rfl, (Below.refl _ _).alloc (Nat.le_refl _) _⟩
set_option maxHeartbeats 1000000 in
/-- spec.AclOf. -/
theorem sAclOf_any (n : Int) (w : World) :
    Calls Try.prog 32 #[.int .i64 n] w fun e w' => e = .returned (.agg #[.int .i64 (mU n), .int .i64 (mG n), .int .i64 (mO n), .slice none 0 0, .slice none 0 0, .bool false, .int .i64 0]) ∧ Below w.heap.size w w' := by
  by_cases hin : 0 ≤ n ∧ n ≤ 4095
  · obtain ⟨e1, e2, e3⟩ := m_in hin
    rw [e1, e2, e3]
    obtain ⟨h0, h1⟩ := hin
    have hi : inR 0 4095 n = true := inR_yes h0 h1
    clear e1 e2 e3
    go_enter Try.func32, Try.ntmps32
    go_wp2_with (go_at_call 83; refine (sMode_any _ _).mono ?_; rintro e w' ⟨rfl, rfl⟩)
    exact bodyPost_ret (v := .agg #[.int .i64 (n / 64 % 8), .int .i64 (n / 8 % 8), .int .i64 (n % 8), .slice none 0 0, .slice none 0 0, .bool false, .int .i64 0]) (by simp [results, Try.results32, go_sem]) rfl ⟨rfl, (Below.refl _ _).alloc (Nat.le_refl _) _⟩
  · obtain ⟨e1, e2, e3⟩ := m_off hin
    rw [e1, e2, e3]
    have hi : inR 0 4095 n = false := inR_no hin
    clear e1 e2 e3 hin
    go_enter Try.func32, Try.ntmps32
    go_wp2_with (go_at_call 83; refine (sMode_any _ _).mono ?_; rintro e w' ⟨rfl, rfl⟩)
    exact bodyPost_ret (v := .agg #[.int .i64 0, .int .i64 0, .int .i64 0, .slice none 0 0, .slice none 0 0, .bool false, .int .i64 0]) (by simp [results, Try.results32, go_sem]) rfl ⟨rfl, (Below.refl _ _).alloc (Nat.le_refl _) _⟩
end Go.Proofs.Ytgojbilbkfilgaa
/- impl.withThree, spec.l03Set: other bits in a list of names. -/
namespace Go.Proofs.Ytgojbilbkfilgaa
open Go.RowKit Go.PlainAid Go.Deep
set_option linter.unusedVariables false
/-- Group, and Mask, of a list whose group class is set to x. -/
def gSet (r : Bool) (g x : Int) : Int := if r then g else x
def mSet (r : Bool) (m x : Int) : Int := if r then x else m
theorem gSet_t (g x : Int) : gSet true g x = g := rfl
theorem gSet_f (g x : Int) : gSet false g x = x := rfl
theorem mSet_t (m x : Int) : mSet true m x = x := rfl
theorem mSet_f (m x : Int) : mSet false m x = m := rfl
theorem ret_acl {a0 a1 a2 a6 b0 b1 b2 b6 : Int} {s t : Value} {r : Bool} (h0 : a0 = b0) (h1 : a1 = b1) (h2 : a2 = b2) (h6 : a6 = b6) : Ending.returned (.agg #[.int .i64 a0, .int .i64 a1, .int .i64 a2, s, t, .bool r, .int .i64 a6]) = Ending.returned (.agg #[.int .i64 b0, .int .i64 b1, .int .i64 b2, s, t, .bool r, .int .i64 b6]) := by rw [h0, h1, h2, h6]
set_option maxRecDepth 100000 in
set_option maxHeartbeats 4000000 in
/-- impl.withThree. -/
theorem withThree_any (u g o : Int) (au : Option Addr) (lu cu : Nat) (ag : Option Addr) (lg cg : Nat) (r : Bool) (m : Int) (us gs : List (Int × Int)) (x y z : Int) (w : World) (hu : Prs au lu us w) (hg : Prs ag lg gs w) (hl1 : lu ≤ 1000000) (hl2 : lg ≤ 1000000) :
    Calls Try.prog 70 #[.agg #[.int .i64 u, .int .i64 g, .int .i64 o, .slice au lu cu, .slice ag lg cg, .bool r, .int .i64 m], .int .i64 x, .int .i64 y, .int .i64 z] w fun e w' => ∃ a1 c1 a2 c2, e = .returned (.agg #[.int .i64 x, .int .i64 (gSet r g y), .int .i64 z, .slice a1 lu c1, .slice a2 lg c2, .bool r, .int .i64 (mSet r m y)]) ∧ New w w' a1 lu us a2 lg gs := by
  have hc : Hid (∀ w', Below w.heap.size w w' → Calls Try.prog 82 #[.agg #[.int .i64 u, .int .i64 g, .int .i64 o, .slice au lu cu, .slice ag lg cg, .bool r, .int .i64 m]] w' fun e w'' => ∃ a1 c1 a2 c2, e = .returned (.agg #[.int .i64 u, .int .i64 g, .int .i64 o, .slice a1 lu c1, .slice a2 lg c2, .bool r, .int .i64 m]) ∧ New w' w'' a1 lu us a2 lg gs) := (fun w' hb => ownAcl_any u g o au lu cu ag lg cg r m us gs w' (hu.below hb) (hg.below hb) hl1 hl2)
  clear hu hg
  go_enter Try.func70, Try.ntmps70
  go_wp2_with fail
  refine (hc.out _ (bl2N _ _ _)).mono ?_
  rintro e w1 ⟨a1, c1, a2, c2, rfl, hN⟩
  obtain ⟨hcl, hfz⟩ := bl_cellN hN.bel
  have hY := (box7_new (w.alloc (.cells #[.int .i64 u, .int .i64 g, .int .i64 o, .slice au lu cu, .slice ag lg cg, .bool r, .int .i64 m] 25)) (.int .i64 0) (.int .i64 0) (.int .i64 0) (.slice none 0 0) (.slice none 0 0) (.bool false) (.int .i64 0) 25).below hN.bel
  have eY : (w.alloc (.cells #[.int .i64 u, .int .i64 g, .int .i64 o, .slice au lu cu, .slice ag lg cg, .bool r, .int .i64 m] 25)).heap.size = w.heap.size + 1 := by simp
  have N1 : Hid (∀ A, a1 = some A → w.heap.size + 1 < A.block) := (fun A e => by have := (hN.iu A e).1; simp at this; omega)
  have N2 : Hid (∀ A, a2 = some A → w.heap.size + 1 < A.block) := (fun A e => by have := (hN.ig A e).1; simp at this; omega)
  have HN : Hid (New w w1 a1 lu us a2 lg gs) := hN.pre (bl2N _ _ _)
  rw [eY] at hY
  obtain ⟨yl, y0, y1, y2, y3, y4, y5, y6⟩ := hY
  clear hN hc eY hcl
  simp at hfz
  cases r with
  | true =>
    iterate 3 go_wp21
    refine bodyPost_ret (v := .agg #[.int .i64 x, .int .i64 g, .int .i64 z, .slice a1 lu c1, .slice a2 lg c2, .bool true, .int .i64 y]) (by simp [results, Try.results70, go_sem, yl, y0, y1, y2, y3, y4, y5, y6]) rfl ⟨a1, c1, a2, c2, ret_acl rfl (gSet_t g y).symm rfl (mSet_t m y).symm, ?_⟩
    refine New.on ?_ (bel_alloc _ _)
    iterate 7 (refine New.set ?_ (by omega) (fun A e => by have := N1.out A e; omega) (fun A e => by have := N2.out A e; omega))
    exact HN.out
  | false =>
    iterate 3 go_wp21
    refine bodyPost_ret (v := .agg #[.int .i64 x, .int .i64 y, .int .i64 z, .slice a1 lu c1, .slice a2 lg c2, .bool false, .int .i64 m]) (by simp [results, Try.results70, go_sem, yl, y0, y1, y2, y3, y4, y5, y6]) rfl ⟨a1, c1, a2, c2, ret_acl rfl (gSet_f g y).symm rfl (mSet_f m y).symm, ?_⟩
    refine New.on ?_ (bel_alloc _ _)
    iterate 7 (refine New.set ?_ (by omega) (fun A e => by have := N1.out A e; omega) (fun A e => by have := N2.out A e; omega))
    exact HN.out
set_option maxHeartbeats 2000000 in
/-- spec.l03Set. -/
theorem sSet_any (u g o : Int) (au : Option Addr) (lu cu : Nat) (ag : Option Addr) (lg cg : Nat) (r : Bool) (m : Int) (x : Int) (w : World) :
    Calls Try.prog 120 #[.agg #[.int .i64 u, .int .i64 g, .int .i64 o, .slice au lu cu, .slice ag lg cg, .bool r, .int .i64 m], .int .i64 x] w fun e w' => e = .returned (.agg #[.int .i64 u, .int .i64 (gSet r g x), .int .i64 o, .slice au lu cu, .slice ag lg cg, .bool r, .int .i64 (mSet r m x)]) ∧ Below w.heap.size w w' := by
  cases r with
  | true =>
    go_enter Try.func120, Try.ntmps120
    go_wp2
    exact bodyPost_ret (v := .agg #[.int .i64 u, .int .i64 g, .int .i64 o, .slice au lu cu, .slice ag lg cg, .bool true, .int .i64 x]) (by simp [results, Try.results120, go_sem]) rfl ⟨ret_acl rfl (gSet_t g x).symm rfl (mSet_t m x).symm, bl2N _ _ _⟩
  | false =>
    go_enter Try.func120, Try.ntmps120
    go_wp2
    exact bodyPost_ret (v := .agg #[.int .i64 u, .int .i64 x, .int .i64 o, .slice au lu cu, .slice ag lg cg, .bool false, .int .i64 m]) (by simp [results, Try.results120, go_sem]) rfl ⟨ret_acl rfl (gSet_f g x).symm rfl (mSet_f m x).symm, bl2N _ _ _⟩
end Go.Proofs.Ytgojbilbkfilgaa
/- spec.l03Chmod: a list of names set to a mode. -/
namespace Go.Proofs.Ytgojbilbkfilgaa
open Go.RowKit Go.PlainAid Go.Deep
set_option linter.unusedVariables false
set_option maxRecDepth 100000 in
set_option maxHeartbeats 4000000 in
/-- spec.l03Chmod of a mode. -/
theorem sChmod03_any (u g o : Int) (au : Option Addr) (lu cu : Nat) (ag : Option Addr) (lg cg : Nat) (r : Bool) (m : Int) (us gs : List (Int × Int)) (n : Int) (n0 : 0 ≤ n) (n1 : n ≤ 4095) (w : World) (hu : Prs au lu us w) (hg : Prs ag lg gs w) (hl1 : lu ≤ 1000000) (hl2 : lg ≤ 1000000) :
    Calls Try.prog 84 #[.agg #[.int .i64 u, .int .i64 g, .int .i64 o, .slice au lu cu, .slice ag lg cg, .bool r, .int .i64 m], .int .i64 n] w fun e w' => ∃ a1 c1 a2 c2, e = .returned (.agg #[.int .i64 (n / 64 % 8), .int .i64 (gSet r g (n / 8 % 8)), .int .i64 (n % 8), .slice a1 lu c1, .slice a2 lg c2, .bool r, .int .i64 (mSet r m (n / 8 % 8))]) ∧ New w w' a1 lu us a2 lg gs := by
  have hc : Hid (∀ w', Below w.heap.size w w' → Calls Try.prog 75 #[.agg #[.int .i64 u, .int .i64 g, .int .i64 o, .slice au lu cu, .slice ag lg cg, .bool r, .int .i64 m]] w' fun e w'' => ∃ a1 c1 a2 c2, e = .returned (.agg #[.int .i64 u, .int .i64 g, .int .i64 o, .slice a1 lu c1, .slice a2 lg c2, .bool r, .int .i64 m]) ∧ New w' w'' a1 lu us a2 lg gs) := (fun w' hb => sCopy_any u g o au lu cu ag lg cg r m us gs w' (hu.below hb) (hg.below hb) hl1 hl2)
  clear hu hg
  go_enter Try.func84, Try.ntmps84
  go_wp2_with fail
  refine (hc.out _ (bl2N _ _ _)).mono ?_
  rintro e w1 ⟨a1, c1, a2, c2, rfl, hN⟩
  obtain ⟨hcl, hfz⟩ := bl_cellN hN.bel
  have hY := (box7_new (w.alloc (.cells #[.int .i64 u, .int .i64 g, .int .i64 o, .slice au lu cu, .slice ag lg cg, .bool r, .int .i64 m] 25)) (.int .i64 0) (.int .i64 0) (.int .i64 0) (.slice none 0 0) (.slice none 0 0) (.bool false) (.int .i64 0) 25).below hN.bel
  have eY : (w.alloc (.cells #[.int .i64 u, .int .i64 g, .int .i64 o, .slice au lu cu, .slice ag lg cg, .bool r, .int .i64 m] 25)).heap.size = w.heap.size + 1 := by simp
  have N1 : Hid (∀ A, a1 = some A → w.heap.size + 1 < A.block) := (fun A e => by have := (hN.iu A e).1; simp at this; omega)
  have N2 : Hid (∀ A, a2 = some A → w.heap.size + 1 < A.block) := (fun A e => by have := (hN.ig A e).1; simp at this; omega)
  have HN : Hid (New w w1 a1 lu us a2 lg gs) := hN.pre (bl2N _ _ _)
  rw [eY] at hY
  have hsz1 := hN.bel.size
  clear hN hc eY hcl
  simp at hfz hsz1
  go_wp2_with fail
  refine (sSet_any u g o a1 lu c1 a2 lg c2 r m (n / 8 % 8) _).mono ?_
  rintro e w2 ⟨rfl, hb2⟩
  have hN2 : Hid (New w w2 a1 lu us a2 lg gs) := HN.out.on hb2
  obtain ⟨yl, y0, y1, y2, y3, y4, y5, y6⟩ := hY.below hb2
  have hfz2 : ∀ b o, b < w.heap.size + 1 + 1 → w2.frozen? ⟨b, o, none⟩ = w1.frozen? ⟨b, o, none⟩ := fun b o h => hb2.frozen (p := ⟨b, o, none⟩) (by show b < _; omega)
  clear hb2 hY HN hsz1
  generalize hgg : gSet r g (n / 8 % 8) = gg
  generalize hmm : mSet r m (n / 8 % 8) = mm
  have HGG : Hid (gSet r g (n / 8 % 8) = gg) := hgg
  have HMM : Hid (mSet r m (n / 8 % 8) = mm) := hmm
  clear hgg hmm
  iterate 3 go_wp21
  refine bodyPost_ret (v := .agg #[.int .i64 (n / 64 % 8), .int .i64 gg, .int .i64 (n % 8), .slice a1 lu c1, .slice a2 lg c2, .bool r, .int .i64 mm]) (by simp [results, Try.results84, go_sem, yl, y0, y1, y2, y3, y4, y5, y6]) rfl ⟨a1, c1, a2, c2, ret_acl rfl HGG.out.symm rfl HMM.out.symm, ?_⟩
  refine New.on ?_ (bel_alloc _ _)
  iterate 7 (refine New.set ?_ (by omega) (fun A e => by have := N1.out A e; omega) (fun A e => by have := N2.out A e; omega))
  exact hN2.out
end Go.Proofs.Ytgojbilbkfilgaa
