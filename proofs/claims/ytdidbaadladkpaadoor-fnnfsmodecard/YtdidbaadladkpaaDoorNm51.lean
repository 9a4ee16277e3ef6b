/- Laid together: NfsModeS. -/
import Derived.Test.YtdidbaadladkpaaDoorNm47
/- spec.l04Alone of every right list; spec.NfsMode. -/
namespace Go.Proofs.YtdidbaadladkpaaDoor
open Go.RowKit Go.PlainAid Go.Deep
set_option linter.unusedVariables false
set_option maxRecDepth 100000 in
set_option maxHeartbeats 4000000 in
theorem sAlone_nil (a : Option Addr) (cap : Nat) (who : Int) (R : Int → Int) (w : World)
    (hR : ∀ (m : Nat) w', m ≤ 255 → Calls Tryd.prog 61 #[.int .i64 (m : Int)] w' fun e w'' => e = .returned (.int .i64 (R (m : Int))) ∧ Below w'.heap.size w' w'') :
    Calls Tryd.prog 71 #[.slice a 0 cap, .int .i64 who] w fun e w' => e = .returned (.int .i64 (R 0)) ∧ Below w.heap.size w w' := by
  have HR : Hid (∀ w', Calls Tryd.prog 61 #[.int .i64 0] w' fun e w'' => e = .returned (.int .i64 (R 0)) ∧ Below w'.heap.size w' w'') := (fun w' => hR 0 w' (by omega))
  clear hR
  go_enter Tryd.func71, Tryd.ntmps71
  go_wp2
  go_loopw [5, 6, 7] (fun s q i wr => i = .int .i64 0 ∧ q = .int .i64 0 ∧ wr = w) (fun _ _ i _ => 0)
  case atStart => exact ⟨rfl, rfl, rfl⟩
  case round =>
    obtain ⟨rfl, rfl, rfl⟩ := hrel
    go_wp2_with (go_at_call 61; refine (HR.out _).mono ?_; rintro e w3 ⟨rfl, hb3⟩)
    go_ret
    exact ⟨rfl, hb3⟩
theorem rwxZ_nat {m : Nat} (h : m ≤ 255) : rwxZ (m : Int) = rwxN m := by rw [rwxZ, if_pos (inR_yes (by omega) (by omega))]
theorem sAlone_any (a : Option Addr) (len cap : Nat) (l : List Ac) (who : Int) (ha : acesB l = true) (w : World) (hA : Acs a len l w) :
    Calls Tryd.prog 71 #[.slice a len cap, .int .i64 who] w fun e w' => e = .returned (.int .i64 (kindI l who)) ∧ Below w.heap.size w w' := by
  have hR : ∀ (m : Nat) w', m ≤ 255 → Calls Tryd.prog 61 #[.int .i64 (m : Int)] w' fun e w'' => e = .returned (.int .i64 (rwxZ (m : Int))) ∧ Below w'.heap.size w' w'' := fun m w' h => (sl04Rwx_in m h w').mono (fun e w'' ⟨h1, h2⟩ => ⟨by rw [h1, rwxZ_nat h], by rw [h2]; exact Below.refl _ _⟩)
  obtain ⟨hln, hp⟩ := hA
  by_cases h0 : 0 < len
  · obtain ⟨b, off, rfl, hb, hc⟩ := hp h0
    subst hln
    exact sAlone_some b off cap l who rwxZ ha w hb hc hR
  · have hz : len = 0 := by omega
    subst hz
    have hl0 : l = [] := List.eq_nil_of_length_eq_zero hln
    subst hl0
    exact sAlone_nil a cap who rwxZ w hR
set_option maxRecDepth 100000 in
set_option maxHeartbeats 4000000 in
/-- spec.NfsMode. -/
theorem sNfsMode_any (a : Option Addr) (len cap : Nat) (l : List Ac) (hl : len ≤ 1048576) (w : World) (hA : Acs a len l w) :
    Calls Tryd.prog 38 #[.slice a len cap] w fun e w' => e = .returned (.int .i64 (modeI l)) ∧ Below w.heap.size w w' := by
  have hr : Hid (Calls Tryd.prog 24 #[.slice a len cap] w fun e w'' => e = .returned (.bool (acesB l)) ∧ Below w.heap.size w w'') := sNfsRight_any a len cap l hl w hA
  have hal : Hid (acesB l = true → ∀ who w', Below w.heap.size w w' → Calls Tryd.prog 71 #[.slice a len cap, .int .i64 who] w' fun e w'' => e = .returned (.int .i64 (kindI l who)) ∧ Below w'.heap.size w' w'') := (fun h who w' hb => sAlone_any a len cap l who h w' (hA.below hb))
  clear hA
  go_enter Tryd.func38, Tryd.ntmps38
  go_wp2_with fail
  refine hr.out.mono ?_
  rintro e w1 ⟨rfl, hb1⟩
  have hW1 : Hid (Below w.heap.size w w1) := hb1
  clear hb1 hr
  cases h : acesB l
  · have HE : Hid (modeI l = 0) := (by show _ = _; simp [modeI, h])
    clear h hal
    go_wp2
    go_ret
    exact ⟨ret_intJ HE.out.symm, hW1.out⟩
  · have HE : Hid (modeI l = 64 * kindI l 1 + 8 * kindI l 2 + kindI l 3) := (by show _ = _; simp [modeI, h])
    have hal2 : Hid (∀ who w', Below w.heap.size w w' → Calls Tryd.prog 71 #[.slice a len cap, .int .i64 who] w' fun e w'' => e = .returned (.int .i64 (kindI l who)) ∧ Below w'.heap.size w' w'') := hal.out h
    have q1 : 0 ≤ kindI l 1 ∧ kindI l 1 ≤ 7 := rwxZ_7 _
    have q2 : 0 ≤ kindI l 2 ∧ kindI l 2 ≤ 7 := rwxZ_7 _
    have q3 : 0 ≤ kindI l 3 ∧ kindI l 3 ≤ 7 := rwxZ_7 _
    obtain ⟨a1, b1⟩ := q1
    obtain ⟨a2, b2⟩ := q2
    obtain ⟨a3, b3⟩ := q3
    clear h hal
    go_wp2_with fail
    refine (hal2.out 1 _ hW1.out).mono ?_
    rintro e w2 ⟨rfl, hb2⟩
    have hW2 : Hid (Below w.heap.size w w2) := Below.on hW1.out hb2
    go_wp2_with fail
    refine (hal2.out 2 _ hW2.out).mono ?_
    rintro e w3 ⟨rfl, hb3⟩
    have hW3 : Hid (Below w.heap.size w w3) := Below.on hW2.out hb3
    go_wp2_with fail
    refine (hal2.out 3 _ hW3.out).mono ?_
    rintro e w4 ⟨rfl, hb4⟩
    have hW4 : Hid (Below w.heap.size w w4) := Below.on hW3.out hb4
    clear hb2 hb3 hb4 hal2
    go_wp2
    go_ret
    exact ⟨ret_intJ (by rw [HE.out]), hW4.out⟩
end Go.Proofs.YtdidbaadladkpaaDoor
