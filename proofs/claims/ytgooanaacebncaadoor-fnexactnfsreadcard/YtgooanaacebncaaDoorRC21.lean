/- Laid together: NfsRight, NfsTx. -/
import Derived.Test.YtgooanaacebncaaDoorRC19
/- NfsRight, the program's and the specification's. -/
namespace Go.Proofs.YtgooanaacebncaaDoor
open Go.RowKit Go.PlainAid
set_option linter.unusedVariables false
theorem aces_end {l : List Ac} {k : Nat} (h : k = l.length ∨ 32 < l.length) (hk : allA l k = true) : decide ((l.length : Int) ≤ 32) = acesB l := by
  rcases h with rfl | h
  · by_cases e : l.length ≤ 32
    · have : (l.length : Int) ≤ 32 := by omega
      simp [acesB, hk, e, this]
    · have : ¬ (l.length : Int) ≤ 32 := by omega
      simp [acesB, e, this]
  · have : ¬ (l.length : Int) ≤ 32 := by omega
    rw [aces_long h]
    simp [this]
set_option maxHeartbeats 1000000 in
theorem iNfsRight_long (a : Option Addr) (len cap : Nat) (h : 32 < len) (w : World) :
    Calls Tryd.prog 104 #[.slice a len cap] w fun e w' => e = .returned (.bool false) ∧ w' = w := by
  have h1 : (32 : Int) < (len : Int) := by omega
  go_enter Tryd.func104, Tryd.ntmps104
  go_wp2
  go_ret
  exact ⟨rfl, rfl⟩
set_option maxHeartbeats 1000000 in
theorem iNfsRight_none (a : Option Addr) (cap : Nat) (w : World) :
    Calls Tryd.prog 104 #[.slice a 0 cap] w fun e w' => e = .returned (.bool true) ∧ w' = w := by
  go_enter Tryd.func104, Tryd.ntmps104
  go_wp2
  go_rounds 1
  go_ret
  exact ⟨rfl, rfl⟩
set_option maxHeartbeats 4000000 in
theorem iNfsRight_some (b off cap : Nat) (l : List Ac) (hl : l.length ≤ 32) (w : World) (hb : b < w.heap.size) (hc : ∀ i, i < l.length → Five w b (off + i * 5) (acAt l i)) :
    Calls Tryd.prog 104 #[.slice (some ⟨b, off, none⟩) l.length cap] w fun e w' => e = .returned (.bool (acesB l)) ∧ Below w.heap.size w w' := by
  have HC : Hid (∀ i, i < l.length → Five w b (off + i * 5) (acAt l i)) := hc
  have HN : Hid (∀ k, k < l.length → aceB (acAt l k) = false → acesB l = false) := (fun k => aces_no)
  have HY : Hid (allA l l.length = true → acesB l = true) := aces_yes hl
  clear hc
  generalize hlen : l.length = len at hl HC HN HY ⊢
  clear hlen
  have hl' : (len : Int) ≤ 32 := by omega
  go_enter Tryd.func104, Tryd.ntmps104
  go_wp2
  go_loopw [10] (fun i wr => ∃ k : Nat, k ≤ len ∧ i = .int .i64 k ∧ Hid (allA l k = true) ∧ Hid (Below w.heap.size w wr)) (fun i _ => len - (intOf i).toNat)
  case atStart => exact ⟨0, Nat.zero_le _, rfl, rfl, Below.refl _ _⟩
  case round =>
    obtain ⟨k, hk, rfl, hto, hB⟩ := hrel
    by_cases hlt : k < len
    · have hlt' : (k : Int) < (len : Int) := by omega
      obtain ⟨g0, g1, g2, g3, g4⟩ := (HC.out k hlt).keep (fun j => hB.out.cell (p := ⟨b, j, none⟩) hb)
      have hR : Hid (∀ w, Calls Tryd.prog 102 #[.agg #[.bool (acAt l k).al, .int .i64 (acAt l k).wh, .int .i64 (acAt l k).id, .int .i64 (acAt l k).fl, .int .i64 (acAt l k).ma]] w fun e w' => e = .returned (.bool (aceB (acAt l k))) ∧ Below w.heap.size w w') := iAceRight_any (acAt l k)
      have hno := fun h => HN.out k hlt h
      have HNO : Hid (aceB (acAt l k) = false → acesB l = false) := hno
      have HYE : Hid (aceB (acAt l k) = true → allA l (k + 1) = true) := allA_next hto.out
      clear hno
      generalize aceB (acAt l k) = ok at hR HNO HYE
      generalize acAt l k = x at g0 g1 g2 g3 g4 hR
      have hBA : Hid (Below w.heap.size w (wr.alloc (.cells #[.bool x.al, .int .i64 x.wh, .int .i64 x.id, .int .i64 x.fl, .int .i64 x.ma] 50))) := Below.onA hB.out
      clear HC
      go_wp2_with fail
      refine (hR.out _).mono ?_
      rintro e w1 ⟨rfl, hb1⟩
      have hB1 : Hid (Below w.heap.size w w1) := Below.on hBA.out hb1
      clear g0 g1 g2 g3 g4 hR hBA hb1
      cases ok
      · have hno : Hid (acesB l = false) := HNO.out rfl
        clear HNO HYE
        go_wp2
        go_ret
        exact ⟨ret_boolW hno.out.symm, hB1.out⟩
      · have hye : Hid (allA l (k + 1) = true) := HYE.out rfl
        clear HNO HYE
        go_wp2
        go_roundw
        case rel => exact ⟨k + 1, by omega, by go_num, hye, hB1⟩
        case measure => simp [intOf]; omega
    · have : k = len := by omega
      subst this
      have hyes : Hid (acesB l = true) := HY.out hto.out
      go_wp2
      go_ret
      exact ⟨ret_boolW hyes.out.symm, hB.out⟩
/-- impl.NfsRight. -/
theorem iNfsRight_any (a : Option Addr) (len cap : Nat) (l : List Ac) (w : World) (hi : Acs a len l w) :
    Calls Tryd.prog 104 #[.slice a len cap] w fun e w' => e = .returned (.bool (acesB l)) ∧ Below w.heap.size w w' := by
  obtain ⟨hln, hp⟩ := hi
  subst hln
  by_cases h8 : 32 < l.length
  · rw [aces_long h8]
    refine (iNfsRight_long a l.length cap h8 w).mono ?_
    rintro e w' ⟨rfl, rfl⟩
    exact ⟨rfl, Below.refl _ _⟩
  · by_cases h0 : l.length = 0
    · have e : acesB l = true := aces_yes (by omega) (by rw [h0]; rfl)
      rw [e, h0]
      refine (iNfsRight_none a cap w).mono ?_
      rintro e w' ⟨rfl, rfl⟩
      exact ⟨rfl, Below.refl _ _⟩
    · obtain ⟨b, off, rfl, hlt, hc⟩ := hp (by omega)
      exact iNfsRight_some b off cap l (by omega) w hlt hc
set_option maxHeartbeats 1000000 in
theorem sNfsRight_none (a : Option Addr) (cap : Nat) (w : World) :
    Calls Tryd.prog 103 #[.slice a 0 cap] w fun e w' => e = .returned (.bool true) ∧ w' = w := by
  go_enter Tryd.func103, Tryd.ntmps103
  go_wp2
  go_rounds 1
  go_ret
  exact ⟨rfl, rfl⟩
set_option maxHeartbeats 4000000 in
theorem sNfsRight_some (b off cap : Nat) (l : List Ac) (hl : l.length ≤ 1048576) (w : World) (hb : b < w.heap.size) (hc : ∀ i, i < l.length → Five w b (off + i * 5) (acAt l i)) :
    Calls Tryd.prog 103 #[.slice (some ⟨b, off, none⟩) l.length cap] w fun e w' => e = .returned (.bool (acesB l)) ∧ Below w.heap.size w w' := by
  have HC : Hid (∀ i, i < l.length → Five w b (off + i * 5) (acAt l i)) := hc
  have HN : Hid (∀ k, k < l.length → aceB (acAt l k) = false → acesB l = false) := (fun k => aces_no)
  have HE : Hid (∀ k, (k = l.length ∨ 32 < l.length) → allA l k = true → decide ((l.length : Int) ≤ 32) = acesB l) := (fun k => aces_end)
  clear hc
  generalize hlen : l.length = len at hl HC HN HE ⊢
  clear hlen
  go_enter Tryd.func103, Tryd.ntmps103
  go_wp2
  go_loopw [3] (fun i wr => ∃ k : Nat, k ≤ len ∧ k ≤ 33 ∧ i = .int .i64 k ∧ Hid (allA l k = true) ∧ Hid (Below w.heap.size w wr)) (fun i _ => len - (intOf i).toNat)
  case atStart => exact ⟨0, Nat.zero_le _, by omega, rfl, rfl, Below.refl _ _⟩
  case round =>
    obtain ⟨k, hk, hk3, rfl, hto, hB⟩ := hrel
    by_cases hlt : k < len
    · have hlt' : (k : Int) < (len : Int) := by omega
      by_cases h33 : k ≤ 32
      · have h33' : (k : Int) ≤ 32 := by omega
        obtain ⟨g0, g1, g2, g3, g4⟩ := (HC.out k hlt).keep (fun j => hB.out.cell (p := ⟨b, j, none⟩) hb)
        have hR : Hid (∀ w, Calls Tryd.prog 98 #[.agg #[.bool (acAt l k).al, .int .i64 (acAt l k).wh, .int .i64 (acAt l k).id, .int .i64 (acAt l k).fl, .int .i64 (acAt l k).ma]] w fun e w' => e = .returned (.bool (aceB (acAt l k))) ∧ Below w.heap.size w w') := sAceRight_any (acAt l k)
        have hno := fun h => HN.out k hlt h
        have HNO : Hid (aceB (acAt l k) = false → acesB l = false) := hno
        have HYE : Hid (aceB (acAt l k) = true → allA l (k + 1) = true) := allA_next hto.out
        clear hno
        generalize aceB (acAt l k) = ok at hR HNO HYE
        generalize acAt l k = x at g0 g1 g2 g3 g4 hR
        clear HC
        go_wp2_with fail
        refine (hR.out _).mono ?_
        rintro e w1 ⟨rfl, hb1⟩
        have hB1 : Hid (Below w.heap.size w w1) := Below.on hB.out hb1
        clear g0 g1 g2 g3 g4 hR hb1
        cases ok
        · have hno : Hid (acesB l = false) := HNO.out rfl
          clear HNO HYE
          go_wp2
          go_ret
          exact ⟨ret_boolW hno.out.symm, hB1.out⟩
        · have hye : Hid (allA l (k + 1) = true) := HYE.out rfl
          clear HNO HYE
          go_wp2
          go_roundw
          case rel => exact ⟨k + 1, by omega, by omega, by go_num, hye, hB1⟩
          case measure => simp [intOf]; omega
      · have h33' : ¬ (k : Int) ≤ 32 := by omega
        have hyes : Hid (decide ((len : Int) ≤ 32) = acesB l) := HE.out k (by omega) hto.out
        go_wp2
        go_ret
        exact ⟨ret_boolW hyes.out, hB.out⟩
    · have : k = len := by omega
      subst this
      have hyes : Hid (decide ((k : Int) ≤ 32) = acesB l) := HE.out k (by omega) hto.out
      go_wp2
      go_ret
      exact ⟨ret_boolW hyes.out, hB.out⟩
/-- spec.NfsRight. -/
theorem sNfsRight_any (a : Option Addr) (len cap : Nat) (l : List Ac) (hl : len ≤ 1048576) (w : World) (hi : Acs a len l w) :
    Calls Tryd.prog 103 #[.slice a len cap] w fun e w' => e = .returned (.bool (acesB l)) ∧ Below w.heap.size w w' := by
  obtain ⟨hln, hp⟩ := hi
  subst hln
  by_cases h0 : l.length = 0
  · have e : acesB l = true := aces_yes (by omega) (by rw [h0]; rfl)
    rw [e, h0]
    refine (sNfsRight_none a cap w).mono ?_
    rintro e w' ⟨rfl, rfl⟩
    exact ⟨rfl, Below.refl _ _⟩
  · obtain ⟨b, off, rfl, hlt, hc⟩ := hp (by omega)
    exact sNfsRight_some b off cap l hl w hlt hc
end Go.Proofs.YtgooanaacebncaaDoor
/- NfsText of both sides. -/
namespace Go.Proofs.YtgooanaacebncaaDoor
open Go.RowKit Go.PlainAid Go.Deep
set_option linter.unusedVariables false
/-- The text of the ace at a place. -/
def aceF (l : List Ac) (k : Nat) : ByteArray := aceT (acAt l k)
/-- NfsText. -/
def nfsT (l : List Ac) : ByteArray := if acesB l then jlT (aceF l) l.length else ⟨#[]⟩
theorem aceF_size (l : List Ac) (k : Nat) : (aceF l k).size ≤ 25 := aceT_size _
theorem jlA_size (l : List Ac) {k : Nat} (hk : k ≤ l.length) (hl : l.length ≤ 32) : (jlT (aceF l) k).size ≤ 832 := by
  have := jlT_size (f := aceF l) (n := l.length) (m := 25) (fun i _ => aceF_size l i) hk
  omega
set_option maxRecDepth 100000 in
set_option maxHeartbeats 4000000 in
/-- spec.NfsText. -/
theorem sNfsText_any (a : Option Addr) (len cap : Nat) (l : List Ac) (hl : len ≤ 1048576) (w : World) (hi : Acs a len l w) :
    Calls Tryd.prog 69 #[.slice a len cap] w fun e w' => e = .returned (.string (nfsT l)) ∧ Below w.heap.size w w' := by
  have hR : Hid (Calls Tryd.prog 103 #[.slice a len cap] w fun e w'' => e = .returned (.bool (acesB l)) ∧ Below w.heap.size w w'') := sNfsRight_any a len cap l hl w hi
  cases hr : acesB l
  · have hn : nfsT l = ⟨#[]⟩ := by rw [nfsT, hr]; rfl
    rw [hn]
    rw [hr] at hR
    clear hn hr hi hl
    go_enter Tryd.func69, Tryd.ntmps69
    go_wp2_with fail
    refine hR.out.mono ?_
    rintro e w1 ⟨rfl, hb1⟩
    have hW1 : Hid (Below w.heap.size w w1) := hb1
    clear hb1 hR
    go_wp2
    go_ret
    exact ⟨rfl, hW1.out⟩
  · have hn : nfsT l = jlT (aceF l) len := by rw [nfsT, hr, hi.1]; rfl
    rw [hn]
    have h32 : len ≤ 32 := by rw [← hi.1]; exact aces_len hr
    have hA : Hid (∀ k w, k < len → Calls Tryd.prog 99 #[.agg #[.bool (acAt l k).al, .int .i64 (acAt l k).wh, .int .i64 (acAt l k).id, .int .i64 (acAt l k).fl, .int .i64 (acAt l k).ma]] w fun e w' => e = .returned (.string (aceF l k)) ∧ Below w.heap.size w w') := (fun k w hk => sAce_any (acAt l k) (aces_at hr (by rw [hi.1]; exact hk)) w)
    have hS : Hid (∀ k, k ≤ len → (jlT (aceF l) k).size ≤ 832) := (fun k hk => jlA_size l (by rw [hi.1]; exact hk) (by rw [hi.1]; exact h32))
    have hS1 : Hid (∀ k, (aceF l k).size ≤ 25) := aceF_size l
    have HI : Hid (Acs a len l w) := hi
    have N1 : Hid (jlT (aceF l) 0 ++ aceF l 0 = jlT (aceF l) 1) := jlT_first _
    have N2 : Hid (∀ k, ¬ k = 0 → jlT (aceF l) k ++ ⟨#[44]⟩ ++ aceF l k = jlT (aceF l) (k + 1)) := (fun k h => jlT_next _ h)
    rw [hr] at hR
    clear hn hr hi hl
    go_enter Tryd.func69, Tryd.ntmps69
    go_wp2_with fail
    refine hR.out.mono ?_
    rintro e w1 ⟨rfl, hb1⟩
    have hW1 : Hid (Below w.heap.size w w1) := hb1
    clear hb1 hR
    go_wp2
    go_loopw [3, 4] (fun s i wr => ∃ k : Nat, k ≤ len ∧ i = .int .i64 k ∧ s = .string (jlT (aceF l) k) ∧ Hid (Below w.heap.size w wr)) (fun _ i _ => len - (intOf i).toNat)
    case atStart => exact ⟨0, Nat.zero_le _, rfl, rfl, hW1⟩
    case round =>
      obtain ⟨k, hk, rfl, rfl, hB⟩ := hrel
      have sk := hS.out k hk
      by_cases hlt : k < len
      · have hlt' : (k : Int) < (len : Int) := by omega
        obtain ⟨b, off, rfl, hbl, hcl⟩ := HI.out.2 (by omega)
        obtain ⟨g0, g1, g2, g3, g4⟩ := (hcl k hlt).keep (fun j => hB.out.cell (p := ⟨b, j, none⟩) hbl)
        have hAk : Hid (∀ w, Calls Tryd.prog 99 #[.agg #[.bool (acAt l k).al, .int .i64 (acAt l k).wh, .int .i64 (acAt l k).id, .int .i64 (acAt l k).fl, .int .i64 (acAt l k).ma]] w fun e w' => e = .returned (.string (aceF l k)) ∧ Below w.heap.size w w') := (fun w => hA.out k w hlt)
        have s1 := hS1.out k
        clear hcl
        have nk1 : k = 0 → jlT (aceF l) k ++ aceF l k = jlT (aceF l) (k + 1) := fun e => by subst e; exact N1.out
        have nk2 := N2.out k
        have NK1 : Hid (k = 0 → jlT (aceF l) k ++ aceF l k = jlT (aceF l) (k + 1)) := nk1
        have NK2 : Hid (¬ k = 0 → jlT (aceF l) k ++ ⟨#[44]⟩ ++ aceF l k = jlT (aceF l) (k + 1)) := nk2
        clear nk1 nk2
        generalize aceF l k = TX at hAk s1 NK1 NK2
        generalize acAt l k = x at g0 g1 g2 g3 g4 hAk
        have c1 : (⟨#[44]⟩ : ByteArray).size = 1 := rfl
        by_cases h0 : k = 0
        · subst h0
          have HN : Hid _ := NK1.out rfl
          clear NK1 NK2
          have hg0 : wr.cell? ⟨b, off, none⟩ = some (.bool x.al) := by simpa using g0
          have hg1 : wr.cell? ⟨b, off + 1, none⟩ = some (.int .i64 x.wh) := by simpa using g1
          have hg2 : wr.cell? ⟨b, off + 2, none⟩ = some (.int .i64 x.id) := by simpa using g2
          have hg3 : wr.cell? ⟨b, off + 3, none⟩ = some (.int .i64 x.fl) := by simpa using g3
          have hg4 : wr.cell? ⟨b, off + 4, none⟩ = some (.int .i64 x.ma) := by simpa using g4
          clear g0 g1 g2 g3 g4
          go_wp2_with fail
          refine (hAk.out _).mono ?_
          rintro e wa ⟨rfl, hba⟩
          have hB2 : Hid (Below w.heap.size w wa) := Below.on hB.out hba
          clear hba hAk hg0 hg1 hg2 hg3 hg4
          go_wp2
          rw [HN.out]
          go_roundw
          case rel => exact ⟨1, by omega, by go_num, rfl, hB2⟩
          case measure => simp [intOf]; omega
        · have HN : Hid _ := NK2.out h0
          have hk0 : 0 < (k : Int) := by omega
          have c2 : (jlT (aceF l) k ++ ⟨#[44]⟩).size ≤ 833 := by rw [ByteArray.size_append]; omega
          clear NK1 NK2 h0
          go_wp2_with fail
          refine (hAk.out _).mono ?_
          rintro e wa ⟨rfl, hba⟩
          have hB2 : Hid (Below w.heap.size w wa) := Below.on hB.out hba
          clear hba hAk g0 g1 g2 g3 g4
          go_wp2
          rw [HN.out]
          go_roundw
          case rel => exact ⟨k + 1, by omega, by go_num, rfl, hB2⟩
          case measure => simp [intOf]; omega
      · have : k = len := by omega
        subst this
        go_wp2
        go_ret
        exact ⟨rfl, hB.out⟩
end Go.Proofs.YtgooanaacebncaaDoor
