/- The contracts of the functions on the road of Unseal: both answer one and the same text and code. -/
import Derived.Test.YtddkmlkfphmdoabSealWalks
import Derived.Lib.QuietBelow
import Derived.BigQuiet
namespace Go.Proofs.Ytddkmlkfphmdoab
open Go.RowKit Go.PlainAid
set_option linter.unusedVariables false
/-- All but the last four bytes. -/
def bodyOf (s : ByteArray) : ByteArray := s.extract 0 (s.size - 4)
/-- The last four. -/
def tailOf (s : ByteArray) : ByteArray := s.extract (s.size - 4) s.size
theorem body_size {s : ByteArray} (h : 4 ≤ s.size) : (bodyOf s).size = s.size - 4 := by simp [bodyOf]
theorem body_tail {s : ByteArray} (h : 4 ≤ s.size) : bodyOf s ++ tailOf s = s := by
  have h2 : s.data.size = s.size := rfl
  apply ByteArray.ext
  apply Array.toList_inj.1
  simp [bodyOf, tailOf]
/-- The sum is right: said by the text as a whole, and by its tail. -/
theorem sum_iff {s : ByteArray} (h : 4 ≤ s.size) : sealOf (bodyOf s) = s ↔ (⟨(fourOf (crcOf (bodyOf s) 0)).toArray⟩ : ByteArray) = tailOf s := by
  constructor
  · intro e
    have e2 : bodyOf s ++ ⟨(fourOf (crcOf (bodyOf s) 0)).toArray⟩ = bodyOf s ++ tailOf s := by rw [body_tail h]; exact e
    exact (ByteArray.append_right_inj (bodyOf s)).1 e2
  · intro e
    rw [sealOf, e, body_tail h]
theorem slice_tail {s : ByteArray} (h : 4 ≤ s.size) (w : World) : (Instr.slice 9 (.string s) (some (.int .i64 ((s.size : Int) - 4))) none none).run Try.prog w = .ok (.string (tailOf s)) w := by
  rw [run_slice_string_l (P := Try.prog) w 9 s Try.underlying9 .i64 ((s.size : Int) - 4) (by omega) (by omega)]
  have e : ((s.size : Int) - 4).toNat = s.size - 4 := by omega
  rw [e]
  rfl
theorem slice_body {s : ByteArray} (h : 4 ≤ s.size) (w : World) : (Instr.slice 9 (.string s) none (some (.int .i64 ((s.size : Int) - 4))) none).run Try.prog w = .ok (.string (bodyOf s)) w := by
  rw [run_slice_string_h (P := Try.prog) w 9 s Try.underlying9 .i64 ((s.size : Int) - 4) (by omega) (by omega)]
  have e : ((s.size : Int) - 4).toNat = s.size - 4 := by omega
  rw [e]
  rfl
theorem below_size {W : World} {o : Obj} {w1 : World} (hb : Below (W.alloc o).heap.size (W.alloc o) w1) : W.heap.size < w1.heap.size := by
  have := hb.size
  simp at this
  omega
theorem below_over {W : World} {c : Array Value} {t : TypeId} {w1 : World} (hb : Below (W.alloc (.cells c t)).heap.size (W.alloc (.cells c t)) w1) : Below W.heap.size W w1 :=
  ((Below.refl _ _).alloc (Nat.le_refl _) _).trans (hb.mono (by simp))
theorem below_then {w w1 w2 : World} (h1 : Below w.heap.size w w1) (h2 : Below w1.heap.size w1 w2) : Below w.heap.size w w2 := h1.trans (h2.mono h1.size)
theorem below_set3 {B b o1 o2 o3 : Nat} {W w1 : World} {x y z : Value} (hb : Below B W w1) (h : B ≤ b := by exact Nat.le_refl _) : Below B W (((w1.setCell ⟨b, o1, none⟩ x).setCell ⟨b, o2, none⟩ y).setCell ⟨b, o3, none⟩ z) :=
  ((hb.setCell h _).setCell h _).setCell h _
/-- An answer of type TextOut. -/
def textV (t : ByteArray) (at_ code : Int) : Value := .agg #[.string t, .int .i64 at_, .int .i64 code]
set_option maxHeartbeats 1000000 in
/-- spec.Unseal, long enough and not too long. -/
theorem sUnseal_in (s : ByteArray) (h4 : 4 ≤ s.size) (hs : s.size ≤ 8000) (w : World) :
    Calls Try.prog 9 #[.string s] w fun e w' => e = .returned (if sealOf (bodyOf s) = s then textV (bodyOf s) 0 0 else textV ⟨#[]⟩ 0 5) ∧ Below w.heap.size w w' := by
  have hz : (bodyOf s).size ≤ 8000 := by rw [body_size h4]; omega
  have hreg := crcOf_Reg (bodyOf s) 0
  have hsl := slice_tail h4
  have hsb := slice_body h4
  have hif := sum_iff h4
  have cA : ∀ w d os, Calls Try.prog 19 #[.int .i64 0, .string (bodyOf s)] (Go.Sort.grow (redrawn w d) os) fun e w'' => e = .returned (.int .i64 (crcOf (bodyOf s) 0)) ∧ ∃ p : Regrown, w'' = Go.Sort.grow (redrawn w p.d) p.os := fun w d os => Calls.regrown_of ((l01Crc_any 0 _ ⟨by decide, by decide⟩ hz _).mono fun e w' ⟨h1, h2⟩ => ⟨h1, by rw [h2]; exact Below.refl _ _⟩)
  have cB : ∀ w d os, Calls Try.prog 18 #[.int .i64 (crcOf (bodyOf s) 0)] (Go.Sort.grow (redrawn w d) os) fun e w'' => e = .returned (.string ⟨(fourOf (crcOf (bodyOf s) 0)).toArray⟩) ∧ ∃ p : Regrown, w'' = Go.Sort.grow (redrawn w p.d) p.os := fun w d os => Calls.regrown_of (l01Four_any _ hreg _)
  by_cases hsum : sealOf (bodyOf s) = s
  · have hT := str_eq (hif.1 hsum)
    simp only [ByteArray.toList_mk] at hT
    rw [if_pos hsum]
    clear hsum hif
    go_enter Try.func9, Try.ntmps9
    go_wp2
    refine wp_region_quiet_below (by kernel_rfl) (by kernel_rfl) ?_
    repeat (go_big_quiet_step (first | exact cA _ _ _ | exact cB _ _ _))
    refine wpQuiet_nil ?_
    intro _ hw'
    obtain ⟨⟨dq, osq⟩, hw''⟩ := hw'
    subst hw''
    have hb := below_regrown (w.alloc (Obj.cells #[Value.string ⟨#[]⟩, Value.int IntKind.i64 0, Value.int IntKind.i64 0] 30)) dq osq
    generalize Go.Sort.grow (redrawn (w.alloc (Obj.cells #[Value.string ⟨#[]⟩, Value.int IntKind.i64 0, Value.int IntKind.i64 0] 30)) dq) osq = w1 at hb ⊢
    obtain ⟨hc, hf⟩ := bcell hb
    go_wp2
    exact bodyPost_ret (v := textV (bodyOf s) 0 0) (by simp [results, Try.results9, go_sem, hc, textV]) rfl ⟨rfl, below_set3 (below_over hb)⟩
  · have hT := str_ne (fun e => hsum (hif.2 e))
    simp only [ByteArray.toList_mk] at hT
    rw [if_neg hsum]
    clear hsum hif
    go_enter Try.func9, Try.ntmps9
    go_wp2
    refine wp_region_quiet_below (by kernel_rfl) (by kernel_rfl) ?_
    repeat (go_big_quiet_step (first | exact cA _ _ _ | exact cB _ _ _))
    refine wpQuiet_nil ?_
    intro _ hw'
    obtain ⟨⟨dq, osq⟩, hw''⟩ := hw'
    subst hw''
    have hb := below_regrown (w.alloc (Obj.cells #[Value.string ⟨#[]⟩, Value.int IntKind.i64 0, Value.int IntKind.i64 0] 30)) dq osq
    generalize Go.Sort.grow (redrawn (w.alloc (Obj.cells #[Value.string ⟨#[]⟩, Value.int IntKind.i64 0, Value.int IntKind.i64 0] 30)) dq) osq = w1 at hb ⊢
    obtain ⟨hc, hf⟩ := bcell hb
    go_wp2
    exact bodyPost_ret (v := textV ⟨#[]⟩ 0 5) (by simp [results, Try.results9, go_sem, hc, textV]) rfl ⟨rfl, below_set3 (below_over hb)⟩
set_option maxHeartbeats 1000000 in
/-- impl.Unseal, long enough and not too long. -/
theorem iUnseal_in (s : ByteArray) (h4 : 4 ≤ s.size) (hs : s.size ≤ 8000) (w : World) :
    Calls Try.prog 13 #[.string s] w fun e w' => e = .returned (if sealOf (bodyOf s) = s then textV (bodyOf s) 0 0 else textV ⟨#[]⟩ 0 5) ∧ Below w.heap.size w w' := by
  have hz : (bodyOf s).size ≤ 7996 := by rw [body_size h4]; omega
  have hsb := slice_body h4
  by_cases hsum : sealOf (bodyOf s) = s
  · have hT := str_eq hsum
    rw [if_pos hsum]
    clear hsum
    go_enter Try.func13, Try.ntmps13
    go_wp2_with (first | (go_at_call 24; refine (iSeal_yes _ hz _).mono ?_; rintro e w1 ⟨rfl, hb⟩; obtain ⟨hc, hf⟩ := bcell hb; have hz1 := below_size hb) | (go_at_call 25; refine (join_one _ _ (by omega)).mono ?_; rintro e w2 ⟨rfl, hb2⟩; obtain ⟨hc2, hf2⟩ := bcell hb2))
    exact bodyPost_ret (v := textV (bodyOf s) 0 0) (by simp [results, Try.results13, go_sem, hc, hc2, hz1, textV]) rfl ⟨rfl, below_set3 (below_over (hb.trans (hb2.mono hb.size)))⟩
  · have hT := str_ne hsum
    rw [if_neg hsum]
    clear hsum
    go_enter Try.func13, Try.ntmps13
    go_wp2_with (first | (go_at_call 24; refine (iSeal_yes _ hz _).mono ?_; rintro e w1 ⟨rfl, hb⟩; obtain ⟨hc, hf⟩ := bcell hb; have hz1 := below_size hb))
    exact bodyPost_ret (v := textV ⟨#[]⟩ 0 5) (by simp [results, Try.results13, go_sem, hc, textV]) rfl ⟨rfl, below_set3 (below_over hb)⟩
/-- Too short, too long. -/
theorem sUnseal_short (s : ByteArray) (h4 : (s.size : Int) < 4) (w : World) :
    Calls Try.prog 9 #[.string s] w fun e w' => e = .returned (textV ⟨#[]⟩ 0 4) ∧ Below w.heap.size w w' := by
  go_enter Try.func9, Try.ntmps9
  go_wp2
  exact bodyPost_ret (v := textV ⟨#[]⟩ 0 4) (by simp [results, Try.results9, go_sem, textV]) rfl ⟨rfl, (Below.refl _ _).alloc (Nat.le_refl _) _⟩
theorem iUnseal_short (s : ByteArray) (h4 : (s.size : Int) < 4) (w : World) :
    Calls Try.prog 13 #[.string s] w fun e w' => e = .returned (textV ⟨#[]⟩ 0 4) ∧ Below w.heap.size w w' := by
  go_enter Try.func13, Try.ntmps13
  go_wp2
  exact bodyPost_ret (v := textV ⟨#[]⟩ 0 4) (by simp [results, Try.results13, go_sem, textV]) rfl ⟨rfl, (Below.refl _ _).alloc (Nat.le_refl _) _⟩
theorem sUnseal_long (s : ByteArray) (h4 : 8000 < (s.size : Int)) (hs : s.size ≤ maxLen) (w : World) :
    Calls Try.prog 9 #[.string s] w fun e w' => e = .returned (textV ⟨#[]⟩ 0 2) ∧ Below w.heap.size w w' := by
  unfold maxLen at hs
  go_enter Try.func9, Try.ntmps9
  go_wp2
  exact bodyPost_ret (v := textV ⟨#[]⟩ 0 2) (by simp [results, Try.results9, go_sem, textV]) rfl ⟨rfl, (Below.refl _ _).alloc (Nat.le_refl _) _⟩
theorem iUnseal_long (s : ByteArray) (h4 : 8000 < (s.size : Int)) (hs : s.size ≤ maxLen) (w : World) :
    Calls Try.prog 13 #[.string s] w fun e w' => e = .returned (textV ⟨#[]⟩ 0 2) ∧ Below w.heap.size w w' := by
  unfold maxLen at hs
  go_enter Try.func13, Try.ntmps13
  go_wp2
  exact bodyPost_ret (v := textV ⟨#[]⟩ 0 2) (by simp [results, Try.results13, go_sem, textV]) rfl ⟨rfl, (Below.refl _ _).alloc (Nat.le_refl _) _⟩
/-- Whatever the text: both answer one and the same. -/
theorem unseal_both (s : ByteArray) (hs : s.size ≤ maxLen) : ∃ (t : ByteArray) (a c : Int),
    Hid (∀ w : World, Calls Try.prog 9 #[.string s] w fun e w' => e = .returned (.agg #[.string t, .int .i64 a, .int .i64 c]) ∧ Below w.heap.size w w') ∧
    Hid (∀ w : World, Calls Try.prog 13 #[.string s] w fun e w' => e = .returned (.agg #[.string t, .int .i64 a, .int .i64 c]) ∧ Below w.heap.size w w') := by
  by_cases h1 : 8000 < (s.size : Int)
  · exact ⟨_, _, _, fun w => sUnseal_long s h1 hs w, fun w => iUnseal_long s h1 hs w⟩
  · by_cases h2 : (s.size : Int) < 4
    · exact ⟨_, _, _, fun w => sUnseal_short s h2 w, fun w => iUnseal_short s h2 w⟩
    · have hS := fun w => sUnseal_in s (by omega) (by omega) w
      have hI := fun w => iUnseal_in s (by omega) (by omega) w
      by_cases hsum : sealOf (bodyOf s) = s
      · simp only [if_pos hsum] at hS hI
        exact ⟨_, _, _, hS, hI⟩
      · simp only [if_neg hsum] at hS hI
        exact ⟨_, _, _, hS, hI⟩
end Go.Proofs.Ytddkmlkfphmdoab
