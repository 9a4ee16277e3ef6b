/- NfsRight, the program's and the specification's. -/
import Derived.Test.YtddkmlkfphmdoaaDoorAceRight
namespace Go.Proofs.YtddkmlkfphmdoaaDoor
open Go.RowKit Go.PlainAid
set_option linter.unusedVariables false
theorem aces_end {l : List Ac} {k : Nat} (h : k = l.length ∨ 32 < l.length) (hk : allA l k = true) : decide ((l.length : Int) ≤ 32) = acesB l := by
  rcases h with rfl | h
  · by_cases e : l.length ≤ 32
    · have : (l.length : Int) ≤ 32 := by omega
      simp [acesB, hk, e, this]
    · have : ¬ (l.length : Int) ≤ 32 := by omega
      simp [acesB, e, this]
  · have : ¬ (l.length : Int) ≤ 32 := by omega
    rw [aces_long h]
    simp [this]
set_option maxHeartbeats 1000000 in
theorem iNfsRight_long (a : Option Addr) (len cap : Nat) (h : 32 < len) (w : World) :
    Calls Tryd.prog 18 #[.slice a len cap] w fun e w' => e = .returned (.bool false) ∧ w' = w := by
  have h1 : (32 : Int) < (len : Int) := by omega
  go_enter Tryd.func18, Tryd.ntmps18
  go_wp2
  go_ret
  exact ⟨rfl, rfl⟩
set_option maxHeartbeats 1000000 in
theorem iNfsRight_none (a : Option Addr) (cap : Nat) (w : World) :
    Calls Tryd.prog 18 #[.slice a 0 cap] w fun e w' => e = .returned (.bool true) ∧ w' = w := by
  go_enter Tryd.func18, Tryd.ntmps18
  go_wp2
  go_rounds 1
  go_ret
  exact ⟨rfl, rfl⟩
set_option maxHeartbeats 4000000 in
theorem iNfsRight_some (b off cap : Nat) (l : List Ac) (hl : l.length ≤ 32) (w : World) (hb : b < w.heap.size) (hc : ∀ i, i < l.length → Five w b (off + i * 5) (acAt l i)) :
    Calls Tryd.prog 18 #[.slice (some ⟨b, off, none⟩) l.length cap] w fun e w' => e = .returned (.bool (acesB l)) ∧ Below w.heap.size w w' := by
  have HC : Hid (∀ i, i < l.length → Five w b (off + i * 5) (acAt l i)) := hc
  have HN : Hid (∀ k, k < l.length → aceB (acAt l k) = false → acesB l = false) := (fun k => aces_no)
  have HY : Hid (allA l l.length = true → acesB l = true) := aces_yes hl
  clear hc
  generalize hlen : l.length = len at hl HC HN HY ⊢
  clear hlen
  have hl' : (len : Int) ≤ 32 := by omega
  go_enter Tryd.func18, Tryd.ntmps18
  go_wp2
  go_loopw [10] (fun i wr => ∃ k : Nat, k ≤ len ∧ i = .int .i64 k ∧ Hid (allA l k = true) ∧ Hid (Below w.heap.size w wr)) (fun i _ => len - (intOf i).toNat)
  case atStart => exact ⟨0, Nat.zero_le _, rfl, rfl, Below.refl _ _⟩
  case round =>
    obtain ⟨k, hk, rfl, hto, hB⟩ := hrel
    by_cases hlt : k < len
    · have hlt' : (k : Int) < (len : Int) := by omega
      obtain ⟨g0, g1, g2, g3, g4⟩ := (HC.out k hlt).keep (fun j => hB.out.cell (p := ⟨b, j, none⟩) hb)
      have hR : Hid (∀ w, Calls Tryd.prog 31 #[.agg #[.bool (acAt l k).al, .int .i64 (acAt l k).wh, .int .i64 (acAt l k).id, .int .i64 (acAt l k).fl, .int .i64 (acAt l k).ma]] w fun e w' => e = .returned (.bool (aceB (acAt l k))) ∧ Below w.heap.size w w') := iAceRight_any (acAt l k)
      have hno := fun h => HN.out k hlt h
      have HNO : Hid (aceB (acAt l k) = false → acesB l = false) := hno
      have HYE : Hid (aceB (acAt l k) = true → allA l (k + 1) = true) := allA_next hto.out
      clear hno
      generalize aceB (acAt l k) = ok at hR HNO HYE
      generalize acAt l k = x at g0 g1 g2 g3 g4 hR
      have hBA : Hid (Below w.heap.size w (wr.alloc (.cells #[.bool x.al, .int .i64 x.wh, .int .i64 x.id, .int .i64 x.fl, .int .i64 x.ma] 39))) := Below.onA hB.out
      clear HC
      go_wp2_with fail
      refine (hR.out _).mono ?_
      rintro e w1 ⟨rfl, hb1⟩
      have hB1 : Hid (Below w.heap.size w w1) := Below.on hBA.out hb1
      clear g0 g1 g2 g3 g4 hR hBA hb1
      cases ok
      · have hno : Hid (acesB l = false) := HNO.out rfl
        clear HNO HYE
        go_wp2
        go_ret
        exact ⟨ret_boolW hno.out.symm, hB1.out⟩
      · have hye : Hid (allA l (k + 1) = true) := HYE.out rfl
        clear HNO HYE
        go_wp2
        go_roundw
        case rel => exact ⟨k + 1, by omega, by go_num, hye, hB1⟩
        case measure => simp [intOf]; omega
    · have : k = len := by omega
      subst this
      have hyes : Hid (acesB l = true) := HY.out hto.out
      go_wp2
      go_ret
      exact ⟨ret_boolW hyes.out.symm, hB.out⟩
/-- impl.NfsRight. -/
theorem iNfsRight_any (a : Option Addr) (len cap : Nat) (l : List Ac) (w : World) (hi : Acs a len l w) :
    Calls Tryd.prog 18 #[.slice a len cap] w fun e w' => e = .returned (.bool (acesB l)) ∧ Below w.heap.size w w' := by
  obtain ⟨hln, hp⟩ := hi
  subst hln
  by_cases h8 : 32 < l.length
  · rw [aces_long h8]
    refine (iNfsRight_long a l.length cap h8 w).mono ?_
    rintro e w' ⟨rfl, rfl⟩
    exact ⟨rfl, Below.refl _ _⟩
  · by_cases h0 : l.length = 0
    · have e : acesB l = true := aces_yes (by omega) (by rw [h0]; rfl)
      rw [e, h0]
      refine (iNfsRight_none a cap w).mono ?_
      rintro e w' ⟨rfl, rfl⟩
      exact ⟨rfl, Below.refl _ _⟩
    · obtain ⟨b, off, rfl, hlt, hc⟩ := hp (by omega)
      exact iNfsRight_some b off cap l (by omega) w hlt hc
set_option maxHeartbeats 1000000 in
theorem sNfsRight_none (a : Option Addr) (cap : Nat) (w : World) :
    Calls Tryd.prog 14 #[.slice a 0 cap] w fun e w' => e = .returned (.bool true) ∧ w' = w := by
  go_enter Tryd.func14, Tryd.ntmps14
  go_wp2
  go_rounds 1
  go_ret
  exact ⟨rfl, rfl⟩
set_option maxHeartbeats 4000000 in
theorem sNfsRight_some (b off cap : Nat) (l : List Ac) (hl : l.length ≤ 1048576) (w : World) (hb : b < w.heap.size) (hc : ∀ i, i < l.length → Five w b (off + i * 5) (acAt l i)) :
    Calls Tryd.prog 14 #[.slice (some ⟨b, off, none⟩) l.length cap] w fun e w' => e = .returned (.bool (acesB l)) ∧ Below w.heap.size w w' := by
  have HC : Hid (∀ i, i < l.length → Five w b (off + i * 5) (acAt l i)) := hc
  have HN : Hid (∀ k, k < l.length → aceB (acAt l k) = false → acesB l = false) := (fun k => aces_no)
  have HE : Hid (∀ k, (k = l.length ∨ 32 < l.length) → allA l k = true → decide ((l.length : Int) ≤ 32) = acesB l) := (fun k => aces_end)
  clear hc
  generalize hlen : l.length = len at hl HC HN HE ⊢
  clear hlen
  go_enter Tryd.func14, Tryd.ntmps14
  go_wp2
  go_loopw [3] (fun i wr => ∃ k : Nat, k ≤ len ∧ k ≤ 33 ∧ i = .int .i64 k ∧ Hid (allA l k = true) ∧ Hid (Below w.heap.size w wr)) (fun i _ => len - (intOf i).toNat)
  case atStart => exact ⟨0, Nat.zero_le _, by omega, rfl, rfl, Below.refl _ _⟩
  case round =>
    obtain ⟨k, hk, hk3, rfl, hto, hB⟩ := hrel
    by_cases hlt : k < len
    · have hlt' : (k : Int) < (len : Int) := by omega
      by_cases h33 : k ≤ 32
      · have h33' : (k : Int) ≤ 32 := by omega
        obtain ⟨g0, g1, g2, g3, g4⟩ := (HC.out k hlt).keep (fun j => hB.out.cell (p := ⟨b, j, none⟩) hb)
        have hR : Hid (∀ w, Calls Tryd.prog 25 #[.agg #[.bool (acAt l k).al, .int .i64 (acAt l k).wh, .int .i64 (acAt l k).id, .int .i64 (acAt l k).fl, .int .i64 (acAt l k).ma]] w fun e w' => e = .returned (.bool (aceB (acAt l k))) ∧ Below w.heap.size w w') := sAceRight_any (acAt l k)
        have hno := fun h => HN.out k hlt h
        have HNO : Hid (aceB (acAt l k) = false → acesB l = false) := hno
        have HYE : Hid (aceB (acAt l k) = true → allA l (k + 1) = true) := allA_next hto.out
        clear hno
        generalize aceB (acAt l k) = ok at hR HNO HYE
        generalize acAt l k = x at g0 g1 g2 g3 g4 hR
        clear HC
        go_wp2_with fail
        refine (hR.out _).mono ?_
        rintro e w1 ⟨rfl, hb1⟩
        have hB1 : Hid (Below w.heap.size w w1) := Below.on hB.out hb1
        clear g0 g1 g2 g3 g4 hR hb1
        cases ok
        · have hno : Hid (acesB l = false) := HNO.out rfl
          clear HNO HYE
          go_wp2
          go_ret
          exact ⟨ret_boolW hno.out.symm, hB1.out⟩
        · have hye : Hid (allA l (k + 1) = true) := HYE.out rfl
          clear HNO HYE
          go_wp2
          go_roundw
          case rel => exact ⟨k + 1, by omega, by omega, by go_num, hye, hB1⟩
          case measure => simp [intOf]; omega
      · have h33' : ¬ (k : Int) ≤ 32 := by omega
        have hyes : Hid (decide ((len : Int) ≤ 32) = acesB l) := HE.out k (by omega) hto.out
        go_wp2
        go_ret
        exact ⟨ret_boolW hyes.out, hB.out⟩
    · have : k = len := by omega
      subst this
      have hyes : Hid (decide ((k : Int) ≤ 32) = acesB l) := HE.out k (by omega) hto.out
      go_wp2
      go_ret
      exact ⟨ret_boolW hyes.out, hB.out⟩
/-- spec.NfsRight. -/
theorem sNfsRight_any (a : Option Addr) (len cap : Nat) (l : List Ac) (hl : len ≤ 1048576) (w : World) (hi : Acs a len l w) :
    Calls Tryd.prog 14 #[.slice a len cap] w fun e w' => e = .returned (.bool (acesB l)) ∧ Below w.heap.size w w' := by
  obtain ⟨hln, hp⟩ := hi
  subst hln
  by_cases h0 : l.length = 0
  · have e : acesB l = true := aces_yes (by omega) (by rw [h0]; rfl)
    rw [e, h0]
    refine (sNfsRight_none a cap w).mono ?_
    rintro e w' ⟨rfl, rfl⟩
    exact ⟨rfl, Below.refl _ _⟩
  · obtain ⟨b, off, rfl, hlt, hc⟩ := hp (by omega)
    exact sNfsRight_some b off cap l hl w hlt hc
end Go.Proofs.YtddkmlkfphmdoaaDoor
