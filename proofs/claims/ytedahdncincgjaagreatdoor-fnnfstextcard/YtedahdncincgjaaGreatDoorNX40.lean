/- Laid together: UnsealWalks, NfM. -/
import Derived.Test.YtedahdncincgjaaGreatDoorNX39
/- The contracts of the functions on the road of Unseal: both answer one and the same text and code. -/
namespace Go.Proofs.YtedahdncincgjaaGreatDoor
open Go.RowKit Go.PlainAid
set_option linter.unusedVariables false
/-- All but the last four bytes. -/
def bodyOf (s : ByteArray) : ByteArray := s.extract 0 (s.size - 4)
/-- The last four. -/
def tailOf (s : ByteArray) : ByteArray := s.extract (s.size - 4) s.size
theorem body_size {s : ByteArray} (h : 4 ≤ s.size) : (bodyOf s).size = s.size - 4 := by simp [bodyOf]
theorem body_tail {s : ByteArray} (h : 4 ≤ s.size) : bodyOf s ++ tailOf s = s := by
  have h2 : s.data.size = s.size := rfl
  apply ByteArray.ext
  apply Array.toList_inj.1
  simp [bodyOf, tailOf]
/-- The sum is right: said by the text as a whole, and by its tail. -/
theorem sum_iff {s : ByteArray} (h : 4 ≤ s.size) : sealOf (bodyOf s) = s ↔ (⟨(fourOf (crcOf (bodyOf s) 0)).toArray⟩ : ByteArray) = tailOf s := by
  constructor
  · intro e
    have e2 : bodyOf s ++ ⟨(fourOf (crcOf (bodyOf s) 0)).toArray⟩ = bodyOf s ++ tailOf s := by rw [body_tail h]; exact e
    exact (ByteArray.append_right_inj (bodyOf s)).1 e2
  · intro e
    rw [sealOf, e, body_tail h]
theorem slice_tail {s : ByteArray} (h : 4 ≤ s.size) (w : World) : (Instr.slice 9 (.string s) (some (.int .i64 ((s.size : Int) - 4))) none none).run Tryz.prog w = .ok (.string (tailOf s)) w := by
  rw [run_slice_string_l (P := Tryz.prog) w 9 s Tryz.underlying9 .i64 ((s.size : Int) - 4) (by omega) (by omega)]
  have e : ((s.size : Int) - 4).toNat = s.size - 4 := by omega
  rw [e]
  rfl
theorem slice_body {s : ByteArray} (h : 4 ≤ s.size) (w : World) : (Instr.slice 9 (.string s) none (some (.int .i64 ((s.size : Int) - 4))) none).run Tryz.prog w = .ok (.string (bodyOf s)) w := by
  rw [run_slice_string_h (P := Tryz.prog) w 9 s Tryz.underlying9 .i64 ((s.size : Int) - 4) (by omega) (by omega)]
  have e : ((s.size : Int) - 4).toNat = s.size - 4 := by omega
  rw [e]
  rfl
theorem below_size {W : World} {o : Obj} {w1 : World} (hb : Below (W.alloc o).heap.size (W.alloc o) w1) : W.heap.size < w1.heap.size := by
  have := hb.size
  simp at this
  omega
theorem below_over {W : World} {c : Array Value} {t : TypeId} {w1 : World} (hb : Below (W.alloc (.cells c t)).heap.size (W.alloc (.cells c t)) w1) : Below W.heap.size W w1 :=
  ((Below.refl _ _).alloc (Nat.le_refl _) _).trans (hb.mono (by simp))
theorem below_set3 {B b o1 o2 o3 : Nat} {W w1 : World} {x y z : Value} (hb : Below B W w1) (h : B ≤ b := by exact Nat.le_refl _) : Below B W (((w1.setCell ⟨b, o1, none⟩ x).setCell ⟨b, o2, none⟩ y).setCell ⟨b, o3, none⟩ z) :=
  ((hb.setCell h _).setCell h _).setCell h _
/-- An answer of type TextOut. -/
def textV (t : ByteArray) (at_ code : Int) : Value := .agg #[.string t, .int .i64 at_, .int .i64 code]
set_option maxHeartbeats 1000000 in
/-- spec.Unseal, long enough and not too long. -/
theorem sUnseal_in (s : ByteArray) (h4 : 4 ≤ s.size) (hs : s.size ≤ 8000) (w : World) :
    Calls Tryz.prog 40 #[.string s] w fun e w' => e = .returned (if sealOf (bodyOf s) = s then textV (bodyOf s) 0 0 else textV ⟨#[]⟩ 0 5) ∧ Below w.heap.size w w' := by
  have hz : (bodyOf s).size ≤ 8000 := by rw [body_size h4]; omega
  have hreg := crcOf_Reg (bodyOf s) 0
  have hsl := slice_tail h4
  have hsb := slice_body h4
  have hif := sum_iff h4
  have cA : ∀ w d os, Calls Tryz.prog 70 #[.int .i64 0, .string (bodyOf s)] (Go.Sort.grow (redrawn w d) os) fun e w'' => e = .returned (.int .i64 (crcOf (bodyOf s) 0)) ∧ ∃ p : Regrown, w'' = Go.Sort.grow (redrawn w p.d) p.os := fun w d os => Calls.regrown_of ((l01Crc_any 0 _ ⟨by decide, by decide⟩ hz _).mono fun e w' ⟨h1, h2⟩ => ⟨h1, by rw [h2]; exact Below.refl _ _⟩)
  have cB : ∀ w d os, Calls Tryz.prog 69 #[.int .i64 (crcOf (bodyOf s) 0)] (Go.Sort.grow (redrawn w d) os) fun e w'' => e = .returned (.string ⟨(fourOf (crcOf (bodyOf s) 0)).toArray⟩) ∧ ∃ p : Regrown, w'' = Go.Sort.grow (redrawn w p.d) p.os := fun w d os => Calls.regrown_of (l01Four_any _ hreg _)
  by_cases hsum : sealOf (bodyOf s) = s
  · have hT := str_eq (hif.1 hsum)
    simp only [ByteArray.toList_mk] at hT
    rw [if_pos hsum]
    clear hsum hif
    go_enter Tryz.func40, Tryz.ntmps40
    go_wp2
    refine wp_region_quiet_below (by kernel_rfl) (by kernel_rfl) ?_
    repeat (go_big_quiet_step (first | exact cA _ _ _ | exact cB _ _ _))
    refine wpQuiet_nil ?_
    intro _ hw'
    obtain ⟨⟨dq, osq⟩, hw''⟩ := hw'
    subst hw''
    have hb := below_regrown (w.alloc (Obj.cells #[Value.string ⟨#[]⟩, Value.int IntKind.i64 0, Value.int IntKind.i64 0] 57)) dq osq
    generalize Go.Sort.grow (redrawn (w.alloc (Obj.cells #[Value.string ⟨#[]⟩, Value.int IntKind.i64 0, Value.int IntKind.i64 0] 57)) dq) osq = w1 at hb ⊢
    obtain ⟨hc, hf⟩ := bcell hb
    go_wp2
    exact bodyPost_ret (v := textV (bodyOf s) 0 0) (by simp [results, Tryz.results40, go_sem, hc, textV]) rfl ⟨rfl, below_set3 (below_over hb)⟩
  · have hT := str_ne (fun e => hsum (hif.2 e))
    simp only [ByteArray.toList_mk] at hT
    rw [if_neg hsum]
    clear hsum hif
    go_enter Tryz.func40, Tryz.ntmps40
    go_wp2
    refine wp_region_quiet_below (by kernel_rfl) (by kernel_rfl) ?_
    repeat (go_big_quiet_step (first | exact cA _ _ _ | exact cB _ _ _))
    refine wpQuiet_nil ?_
    intro _ hw'
    obtain ⟨⟨dq, osq⟩, hw''⟩ := hw'
    subst hw''
    have hb := below_regrown (w.alloc (Obj.cells #[Value.string ⟨#[]⟩, Value.int IntKind.i64 0, Value.int IntKind.i64 0] 57)) dq osq
    generalize Go.Sort.grow (redrawn (w.alloc (Obj.cells #[Value.string ⟨#[]⟩, Value.int IntKind.i64 0, Value.int IntKind.i64 0] 57)) dq) osq = w1 at hb ⊢
    obtain ⟨hc, hf⟩ := bcell hb
    go_wp2
    exact bodyPost_ret (v := textV ⟨#[]⟩ 0 5) (by simp [results, Tryz.results40, go_sem, hc, textV]) rfl ⟨rfl, below_set3 (below_over hb)⟩
set_option maxHeartbeats 1000000 in
/-- impl.Unseal, long enough and not too long. -/
theorem iUnseal_in (s : ByteArray) (h4 : 4 ≤ s.size) (hs : s.size ≤ 8000) (w : World) :
    Calls Tryz.prog 43 #[.string s] w fun e w' => e = .returned (if sealOf (bodyOf s) = s then textV (bodyOf s) 0 0 else textV ⟨#[]⟩ 0 5) ∧ Below w.heap.size w w' := by
  have hz : (bodyOf s).size ≤ 7996 := by rw [body_size h4]; omega
  have hsb := slice_body h4
  by_cases hsum : sealOf (bodyOf s) = s
  · have hT := str_eq hsum
    rw [if_pos hsum]
    clear hsum
    go_enter Tryz.func43, Tryz.ntmps43
    go_wp2_with (first | (go_at_call 39; refine (iSeal_yes _ hz _).mono ?_; rintro e w1 ⟨rfl, hb⟩; obtain ⟨hc, hf⟩ := bcell hb; have hz1 := below_size hb) | (go_at_call 27; refine (join_one _ _ (by omega)).mono ?_; rintro e w2 ⟨rfl, hb2⟩; obtain ⟨hc2, hf2⟩ := bcell hb2))
    exact bodyPost_ret (v := textV (bodyOf s) 0 0) (by simp [results, Tryz.results43, go_sem, hc, hc2, hz1, textV]) rfl ⟨rfl, below_set3 (below_over (hb.trans (hb2.mono hb.size)))⟩
  · have hT := str_ne hsum
    rw [if_neg hsum]
    clear hsum
    go_enter Tryz.func43, Tryz.ntmps43
    go_wp2_with (first | (go_at_call 39; refine (iSeal_yes _ hz _).mono ?_; rintro e w1 ⟨rfl, hb⟩; obtain ⟨hc, hf⟩ := bcell hb; have hz1 := below_size hb))
    exact bodyPost_ret (v := textV ⟨#[]⟩ 0 5) (by simp [results, Tryz.results43, go_sem, hc, textV]) rfl ⟨rfl, below_set3 (below_over hb)⟩
/-- Too short, too long. -/
theorem sUnseal_short (s : ByteArray) (h4 : (s.size : Int) < 4) (w : World) :
    Calls Tryz.prog 40 #[.string s] w fun e w' => e = .returned (textV ⟨#[]⟩ 0 4) ∧ Below w.heap.size w w' := by
  go_enter Tryz.func40, Tryz.ntmps40
  go_wp2
  exact bodyPost_ret (v := textV ⟨#[]⟩ 0 4) (by simp [results, Tryz.results40, go_sem, textV]) rfl ⟨rfl, (Below.refl _ _).alloc (Nat.le_refl _) _⟩
theorem iUnseal_short (s : ByteArray) (h4 : (s.size : Int) < 4) (w : World) :
    Calls Tryz.prog 43 #[.string s] w fun e w' => e = .returned (textV ⟨#[]⟩ 0 4) ∧ Below w.heap.size w w' := by
  go_enter Tryz.func43, Tryz.ntmps43
  go_wp2
  exact bodyPost_ret (v := textV ⟨#[]⟩ 0 4) (by simp [results, Tryz.results43, go_sem, textV]) rfl ⟨rfl, (Below.refl _ _).alloc (Nat.le_refl _) _⟩
theorem sUnseal_long (s : ByteArray) (h4 : 8000 < (s.size : Int)) (hs : s.size ≤ maxLen) (w : World) :
    Calls Tryz.prog 40 #[.string s] w fun e w' => e = .returned (textV ⟨#[]⟩ 0 2) ∧ Below w.heap.size w w' := by
  unfold maxLen at hs
  go_enter Tryz.func40, Tryz.ntmps40
  go_wp2
  exact bodyPost_ret (v := textV ⟨#[]⟩ 0 2) (by simp [results, Tryz.results40, go_sem, textV]) rfl ⟨rfl, (Below.refl _ _).alloc (Nat.le_refl _) _⟩
theorem iUnseal_long (s : ByteArray) (h4 : 8000 < (s.size : Int)) (hs : s.size ≤ maxLen) (w : World) :
    Calls Tryz.prog 43 #[.string s] w fun e w' => e = .returned (textV ⟨#[]⟩ 0 2) ∧ Below w.heap.size w w' := by
  unfold maxLen at hs
  go_enter Tryz.func43, Tryz.ntmps43
  go_wp2
  exact bodyPost_ret (v := textV ⟨#[]⟩ 0 2) (by simp [results, Tryz.results43, go_sem, textV]) rfl ⟨rfl, (Below.refl _ _).alloc (Nat.le_refl _) _⟩
/-- What Unseal comes to. -/
def uT (s : ByteArray) : ByteArray := if 4 ≤ s.size ∧ s.size ≤ 8000 ∧ sealOf (bodyOf s) = s then bodyOf s else ⟨#[]⟩
def uC (s : ByteArray) : Int := if 8000 < s.size then 2 else if s.size < 4 then 4 else if sealOf (bodyOf s) = s then 0 else 5
theorem u_long {s : ByteArray} (h : 8000 < s.size) : uT s = ⟨#[]⟩ ∧ uC s = 2 := ⟨by unfold uT; rw [if_neg (by omega)], by unfold uC; rw [if_pos h]⟩
theorem u_short {s : ByteArray} (h1 : ¬ 8000 < s.size) (h : s.size < 4) : uT s = ⟨#[]⟩ ∧ uC s = 4 := ⟨by unfold uT; rw [if_neg (by omega)], by unfold uC; rw [if_neg h1, if_pos h]⟩
theorem u_yes {s : ByteArray} (h1 : ¬ 8000 < s.size) (h2 : ¬ s.size < 4) (h : sealOf (bodyOf s) = s) : uT s = bodyOf s ∧ uC s = 0 := ⟨by unfold uT; rw [if_pos ⟨by omega, by omega, h⟩], by unfold uC; rw [if_neg h1, if_neg h2, if_pos h]⟩
theorem u_no {s : ByteArray} (h1 : ¬ 8000 < s.size) (h2 : ¬ s.size < 4) (h : ¬ sealOf (bodyOf s) = s) : uT s = ⟨#[]⟩ ∧ uC s = 5 := ⟨by unfold uT; rw [if_neg (fun e => h e.2.2)], by unfold uC; rw [if_neg h1, if_neg h2, if_neg h]⟩
theorem u_zero {s : ByteArray} (h : uC s = 0) : 4 ≤ s.size ∧ s.size ≤ 8000 ∧ sealOf (uT s) = s ∧ (uT s).size ≤ 7996 := by
  by_cases h1 : 8000 < s.size
  · rw [(u_long h1).2] at h; simp at h
  · by_cases h2 : s.size < 4
    · rw [(u_short h1 h2).2] at h; simp at h
    · by_cases h3 : sealOf (bodyOf s) = s
      · rw [(u_yes h1 h2 h3).1]
        exact ⟨by omega, by omega, h3, by rw [body_size (by omega)]; omega⟩
      · rw [(u_no h1 h2 h3).2] at h; simp at h
theorem iUns_any (s : ByteArray) (hs : s.size ≤ maxLen) (w : World) :
    Calls Tryz.prog 43 #[.string s] w fun e w' => e = .returned (.agg #[.string (uT s), .int .i64 0, .int .i64 (uC s)]) ∧ Below w.heap.size w w' := by
  by_cases h1 : 8000 < s.size
  · rw [(u_long h1).1, (u_long h1).2]; exact iUnseal_long s (by omega) hs w
  · by_cases h2 : s.size < 4
    · rw [(u_short h1 h2).1, (u_short h1 h2).2]; exact iUnseal_short s (by omega) w
    · have h := iUnseal_in s (by omega) (by omega) w
      by_cases h3 : sealOf (bodyOf s) = s
      · rw [if_pos h3] at h
        rw [(u_yes h1 h2 h3).1, (u_yes h1 h2 h3).2]; exact h
      · rw [if_neg h3] at h
        rw [(u_no h1 h2 h3).1, (u_no h1 h2 h3).2]; exact h
theorem sUns_any (s : ByteArray) (hs : s.size ≤ maxLen) (w : World) :
    Calls Tryz.prog 40 #[.string s] w fun e w' => e = .returned (.agg #[.string (uT s), .int .i64 0, .int .i64 (uC s)]) ∧ Below w.heap.size w w' := by
  by_cases h1 : 8000 < s.size
  · rw [(u_long h1).1, (u_long h1).2]; exact sUnseal_long s (by omega) hs w
  · by_cases h2 : s.size < 4
    · rw [(u_short h1 h2).1, (u_short h1 h2).2]; exact sUnseal_short s (by omega) w
    · have h := sUnseal_in s (by omega) (by omega) w
      by_cases h3 : sealOf (bodyOf s) = s
      · rw [if_pos h3] at h
        rw [(u_yes h1 h2 h3).1, (u_yes h1 h2 h3).2]; exact h
      · rw [if_neg h3] at h
        rw [(u_no h1 h2 h3).1, (u_no h1 h2 h3).2]; exact h
theorem seal_inj {a b : ByteArray} (h : sealOf a = sealOf b) : a = b := by
  have h1 := congrArg ByteArray.size h
  rw [sealOf_size, sealOf_size] at h1
  have h2 := congrArg (fun x : ByteArray => x.data.toList.take a.size) h
  simp only [sealOf, ByteArray.data_append, Array.toList_append] at h2
  have e1 : a.data.toList.length = a.size := (Lib.size_eq a).symm
  have e2 : b.data.toList.length = b.size := (Lib.size_eq b).symm
  rw [List.take_append_of_le_length (by omega), List.take_append_of_le_length (by omega), List.take_of_length_le (by omega), List.take_of_length_le (by omega)] at h2
  apply ByteArray.ext
  exact Array.toList_inj.1 h2
/-- NfsFrom. -/
def nfO (s : ByteArray) : List Ac × Int := if uC s ≠ 0 then ([], uC s) else match rdNb (uT s) with
  | none => ([], 3)
  | some l => (l, 0)
theorem nfO_ill {s : ByteArray} (h : uC s ≠ 0) : nfO s = ([], uC s) := by rw [nfO, if_pos h]
theorem nfO_none {s : ByteArray} (h : uC s = 0) (h2 : rdNb (uT s) = none) : nfO s = ([], 3) := by rw [nfO, if_neg (by simpa using h), h2]
theorem nfO_some {s : ByteArray} {l : List Ac} (h : uC s = 0) (h2 : rdNb (uT s) = some l) : nfO s = (l, 0) := by rw [nfO, if_neg (by simpa using h), h2]
/-- The bytes of a list are the text just if the list is what is read. -/
theorem nbT_iff {s : ByteArray} (h : uC s = 0) (l : List Ac) : nbT l = s ↔ rdNb (uT s) = some l := by
  obtain ⟨h4, h8, hse, hz⟩ := u_zero h
  rw [rdNb_iff]
  constructor
  · intro e
    cases hb : acesB l
    · rw [nbT, hb] at e
      have : (⟨#[]⟩ : ByteArray).size = s.size := congrArg ByteArray.size e
      have e0 : (⟨#[]⟩ : ByteArray).size = 0 := rfl
      omega
    · refine ⟨rfl, ?_⟩
      rw [nbT, if_pos hb] at e
      have e2 := seal_inj (e.trans hse.symm)
      rw [← e2]
  · rintro ⟨h1, h2⟩
    rw [nbT, if_pos h1]
    have e : (⟨(nbB l).toArray⟩ : ByteArray) = uT s := by
      apply ByteArray.ext
      apply Array.toList_inj.1
      simpa using h2.symm
    rw [e]
    exact hse
theorem rd1_some {s : ByteArray} {a q : Nat} {n : Int} (h : rd1 s a = some (n, q)) : scan s a 10 0 0 = (n, (q : Int), 0) := by
  obtain ⟨hat, hq⟩ := rd1_of h
  unfold rd1 at h
  split at h
  · rename_i hc
    simp only [Option.some.injEq, Prod.mk.injEq] at h
    obtain ⟨_, h2, _, _⟩ := scan_of (s := s) (a := a) (n := (scan s a 10 0 0).1) (p := (scan s a 10 0 0).2.1) (c := (scan s a 10 0 0).2.2) rfl hc
    refine Prod.ext h.1 (Prod.ext ?_ hc)
    show (scan s a 10 0 0).2.1 = (q : Int)
    rw [h2, h.1, hq]
    omega
  · cases h
theorem rd1_none {s : ByteArray} {a : Nat} (h : rd1 s a = none) : ∃ c : Int, c ≠ 0 ∧ scan s a 10 0 0 = (0, 0, c) := by
  unfold rd1 at h
  split at h
  · cases h
  · rename_i hc
    refine ⟨(scan s a 10 0 0).2.2, hc, ?_⟩
    rcases scan_code s a with h1 | ⟨h1, h2⟩
    · exact absurd h1 hc
    · exact Prod.ext h1 (Prod.ext h2 rfl)
theorem rd1_le {s : ByteArray} {a q : Nat} {n : Int} (h : rd1 s a = some (n, q)) : q ≤ s.size := by
  obtain ⟨hat, hq⟩ := rd1_of h
  have := hat.1
  omega
theorem rs1_of (s : ByteArray) (a : Nat) : (∃ n q, rd1 s a = some (n, q) ∧ rs1 s (a, false) = (n, (q, false))) ∨ (rd1 s a = none ∧ rs1 s (a, false) = (0, (a, true))) := by
  cases h : rd1 s a with
  | none =>
    right
    obtain ⟨c, hc, e⟩ := rd1_none h
    refine ⟨rfl, ?_⟩
    unfold rs1
    simp only []
    rw [e, if_pos (.inr hc)]
  | some p =>
    obtain ⟨n, q⟩ := p
    left
    have e := rd1_some h
    refine ⟨n, q, rfl, ?_⟩
    unfold rs1
    simp only []
    rw [e, if_neg (by simp)]
    simp
theorem rs1_bad (s : ByteArray) (a : Nat) : rs1 s (a, true) = (0, (a, true)) := by
  unfold rs1
  rw [if_pos (.inl rfl)]
theorem rs1_le {s : ByteArray} {σ : Nat × Bool} (h : σ.1 ≤ s.size) : (rs1 s σ).2.1 ≤ s.size := by
  obtain ⟨a, b⟩ := σ
  cases b
  · rcases rs1_of s a with ⟨n, q, h1, h2⟩ | ⟨_, h2⟩
    · rw [h2]; exact rd1_le h1
    · rw [h2]; exact h
  · rw [rs1_bad]; exact h
theorem rsAc_le {s : ByteArray} {σ : Nat × Bool} (h : σ.1 ≤ s.size) : (rsAc s σ).2.1 ≤ s.size := rs1_le (rs1_le (rs1_le (rs1_le (rs1_le h))))
theorem rsK_le {s : ByteArray} {σ : Nat × Bool} (h : σ.1 ≤ s.size) (k : Nat) : (rsK s σ k).2.1 ≤ s.size := by
  induction k with
  | zero => exact h
  | succ k ih => exact rsAc_le ih
/-- How the specification's loop ends. -/
theorem rs_end {s : ByteArray} (h : uC s = 0) (k : Nat) (hk : ∀ j, j < k → (j : Int) < (rs1 (uT s) (0, false)).1 ∧ (rsK (uT s) (rs1 (uT s) (0, false)).2 j).2.2 = false) (he : ¬ ((k : Int) < (rs1 (uT s) (0, false)).1 ∧ k ≤ 32 ∧ (rsK (uT s) (rs1 (uT s) (0, false)).2 k).2.2 = false)) :
    ((rsK (uT s) (rs1 (uT s) (0, false)).2 k).2.2 = true ∧ nfO s = ([], 3)) ∨ ((rsK (uT s) (rs1 (uT s) (0, false)).2 k).2.2 = false ∧ nbT (rsK (uT s) (rs1 (uT s) (0, false)).2 k).1 = s ∧ nfO s = ((rsK (uT s) (rs1 (uT s) (0, false)).2 k).1, 0)) ∨ ((rsK (uT s) (rs1 (uT s) (0, false)).2 k).2.2 = false ∧ nbT (rsK (uT s) (rs1 (uT s) (0, false)).2 k).1 ≠ s ∧ nfO s = ([], 3)) := by
  cases hr : rdNb (uT s) with
  | none =>
    have hn := nfO_none h hr
    cases hb : (rsK (uT s) (rs1 (uT s) (0, false)).2 k).2.2
    · exact .inr (.inr ⟨rfl, (fun e => by rw [nbT_iff h, hr] at e; cases e), hn⟩)
    · exact .inl ⟨rfl, hn⟩
  | some l =>
    have hs := nfO_some h hr
    obtain ⟨h1, h2⟩ := (rdNb_iff _ _).1 hr
    obtain ⟨hm, hall⟩ := rs_all h1 h2
    have hl := aces_len h1
    have hkl : k ≤ l.length := by
      cases k with
      | zero => omega
      | succ k => have := (hk k (by omega)).1; rw [hm] at this; omega
    obtain ⟨e1, e2⟩ := hall k hkl
    have hke : k = l.length := by
      apply Classical.byContradiction
      intro hne
      exact he ⟨by rw [hm]; omega, by omega, e2⟩
    subst hke
    rw [List.take_length] at e1
    refine .inr (.inl ⟨e2, ?_, ?_⟩)
    · rw [e1, nbT_iff h]; exact hr
    · rw [e1]; exact hs
end Go.Proofs.YtedahdncincgjaaGreatDoor
