/- NfsText of both sides. -/
import Derived.Test.YtlngfaplimpilaaDoorAceTx2
import Derived.Test.YtlngfaplimpilaaDoorNfsRight
import Derived.Test.YtlngfaplimpilaaDoorJoinL
namespace Go.Proofs.YtlngfaplimpilaaDoor
open Go.RowKit Go.PlainAid Go.Deep
set_option linter.unusedVariables false
/-- The text of the ace at a place. -/
def aceF (l : List Ac) (k : Nat) : ByteArray := aceT (acAt l k)
/-- NfsText. -/
def nfsT (l : List Ac) : ByteArray := if acesB l then jlT (aceF l) l.length else ⟨#[]⟩
theorem aceF_size (l : List Ac) (k : Nat) : (aceF l k).size ≤ 25 := aceT_size _
theorem jlA_size (l : List Ac) {k : Nat} (hk : k ≤ l.length) (hl : l.length ≤ 32) : (jlT (aceF l) k).size ≤ 832 := by
  have := jlT_size (f := aceF l) (n := l.length) (m := 25) (fun i _ => aceF_size l i) hk
  omega
set_option maxRecDepth 100000 in
set_option maxHeartbeats 4000000 in
/-- spec.NfsText. -/
theorem sNfsText_any (a : Option Addr) (len cap : Nat) (l : List Ac) (hl : len ≤ 1048576) (w : World) (hi : Acs a len l w) :
    Calls Tryd.prog 28 #[.slice a len cap] w fun e w' => e = .returned (.string (nfsT l)) ∧ Below w.heap.size w w' := by
  have hR : Hid (Calls Tryd.prog 69 #[.slice a len cap] w fun e w'' => e = .returned (.bool (acesB l)) ∧ Below w.heap.size w w'') := sNfsRight_any a len cap l hl w hi
  cases hr : acesB l
  · have hn : nfsT l = ⟨#[]⟩ := by rw [nfsT, hr]; rfl
    rw [hn]
    rw [hr] at hR
    clear hn hr hi hl
    go_enter Tryd.func28, Tryd.ntmps28
    go_wp2_with fail
    refine hR.out.mono ?_
    rintro e w1 ⟨rfl, hb1⟩
    have hW1 : Hid (Below w.heap.size w w1) := hb1
    clear hb1 hR
    go_wp2
    go_ret
    exact ⟨rfl, hW1.out⟩
  · have hn : nfsT l = jlT (aceF l) len := by rw [nfsT, hr, hi.1]; rfl
    rw [hn]
    have h32 : len ≤ 32 := by rw [← hi.1]; exact aces_len hr
    have hA : Hid (∀ k w, k < len → Calls Tryd.prog 62 #[.agg #[.bool (acAt l k).al, .int .i64 (acAt l k).wh, .int .i64 (acAt l k).id, .int .i64 (acAt l k).fl, .int .i64 (acAt l k).ma]] w fun e w' => e = .returned (.string (aceF l k)) ∧ Below w.heap.size w w') := (fun k w hk => sAce_any (acAt l k) (aces_at hr (by rw [hi.1]; exact hk)) w)
    have hS : Hid (∀ k, k ≤ len → (jlT (aceF l) k).size ≤ 832) := (fun k hk => jlA_size l (by rw [hi.1]; exact hk) (by rw [hi.1]; exact h32))
    have hS1 : Hid (∀ k, (aceF l k).size ≤ 25) := aceF_size l
    have HI : Hid (Acs a len l w) := hi
    have N1 : Hid (jlT (aceF l) 0 ++ aceF l 0 = jlT (aceF l) 1) := jlT_first _
    have N2 : Hid (∀ k, ¬ k = 0 → jlT (aceF l) k ++ ⟨#[44]⟩ ++ aceF l k = jlT (aceF l) (k + 1)) := (fun k h => jlT_next _ h)
    rw [hr] at hR
    clear hn hr hi hl
    go_enter Tryd.func28, Tryd.ntmps28
    go_wp2_with fail
    refine hR.out.mono ?_
    rintro e w1 ⟨rfl, hb1⟩
    have hW1 : Hid (Below w.heap.size w w1) := hb1
    clear hb1 hR
    go_wp2
    go_loopw [3, 4] (fun s i wr => ∃ k : Nat, k ≤ len ∧ i = .int .i64 k ∧ s = .string (jlT (aceF l) k) ∧ Hid (Below w.heap.size w wr)) (fun _ i _ => len - (intOf i).toNat)
    case atStart => exact ⟨0, Nat.zero_le _, rfl, rfl, hW1⟩
    case round =>
      obtain ⟨k, hk, rfl, rfl, hB⟩ := hrel
      have sk := hS.out k hk
      by_cases hlt : k < len
      · have hlt' : (k : Int) < (len : Int) := by omega
        obtain ⟨b, off, rfl, hbl, hcl⟩ := HI.out.2 (by omega)
        obtain ⟨g0, g1, g2, g3, g4⟩ := (hcl k hlt).keep (fun j => hB.out.cell (p := ⟨b, j, none⟩) hbl)
        have hAk : Hid (∀ w, Calls Tryd.prog 62 #[.agg #[.bool (acAt l k).al, .int .i64 (acAt l k).wh, .int .i64 (acAt l k).id, .int .i64 (acAt l k).fl, .int .i64 (acAt l k).ma]] w fun e w' => e = .returned (.string (aceF l k)) ∧ Below w.heap.size w w') := (fun w => hA.out k w hlt)
        have s1 := hS1.out k
        clear hcl
        have nk1 : k = 0 → jlT (aceF l) k ++ aceF l k = jlT (aceF l) (k + 1) := fun e => by subst e; exact N1.out
        have nk2 := N2.out k
        have NK1 : Hid (k = 0 → jlT (aceF l) k ++ aceF l k = jlT (aceF l) (k + 1)) := nk1
        have NK2 : Hid (¬ k = 0 → jlT (aceF l) k ++ ⟨#[44]⟩ ++ aceF l k = jlT (aceF l) (k + 1)) := nk2
        clear nk1 nk2
        generalize aceF l k = TX at hAk s1 NK1 NK2
        generalize acAt l k = x at g0 g1 g2 g3 g4 hAk
        have c1 : (⟨#[44]⟩ : ByteArray).size = 1 := rfl
        by_cases h0 : k = 0
        · subst h0
          have HN : Hid _ := NK1.out rfl
          clear NK1 NK2
          have hg0 : wr.cell? ⟨b, off, none⟩ = some (.bool x.al) := by simpa using g0
          have hg1 : wr.cell? ⟨b, off + 1, none⟩ = some (.int .i64 x.wh) := by simpa using g1
          have hg2 : wr.cell? ⟨b, off + 2, none⟩ = some (.int .i64 x.id) := by simpa using g2
          have hg3 : wr.cell? ⟨b, off + 3, none⟩ = some (.int .i64 x.fl) := by simpa using g3
          have hg4 : wr.cell? ⟨b, off + 4, none⟩ = some (.int .i64 x.ma) := by simpa using g4
          clear g0 g1 g2 g3 g4
          go_wp2_with fail
          refine (hAk.out _).mono ?_
          rintro e wa ⟨rfl, hba⟩
          have hB2 : Hid (Below w.heap.size w wa) := Below.on hB.out hba
          clear hba hAk hg0 hg1 hg2 hg3 hg4
          go_wp2
          rw [HN.out]
          go_roundw
          case rel => exact ⟨1, by omega, by go_num, rfl, hB2⟩
          case measure => simp [intOf]; omega
        · have HN : Hid _ := NK2.out h0
          have hk0 : 0 < (k : Int) := by omega
          have c2 : (jlT (aceF l) k ++ ⟨#[44]⟩).size ≤ 833 := by rw [ByteArray.size_append]; omega
          clear NK1 NK2 h0
          go_wp2_with fail
          refine (hAk.out _).mono ?_
          rintro e wa ⟨rfl, hba⟩
          have hB2 : Hid (Below w.heap.size w wa) := Below.on hB.out hba
          clear hba hAk g0 g1 g2 g3 g4
          go_wp2
          rw [HN.out]
          go_roundw
          case rel => exact ⟨k + 1, by omega, by go_num, rfl, hB2⟩
          case measure => simp [intOf]; omega
      · have : k = len := by omega
        subst this
        go_wp2
        go_ret
        exact ⟨rfl, hB.out⟩
theorem madeT (w : World) (n : Nat) (hn : n ≤ 100000) : ∃ w', (Instr.makeSlice 75 (.int .i64 0) (.int .i64 (n : Int))).run Tryd.prog w = .ok (.slice (some ⟨w.heap.size, 0, none⟩) 0 n) w' ∧ w'.ownsRow w.heap.size 9 1 (.slice (some ⟨w.heap.size, 0, none⟩) 0 n) ([] : List ByteArray).length (tv []) ∧ Below w.heap.size w w' := by
  obtain ⟨i0, hi, hzz⟩ := Option.map_eq_some_iff.1 infoStr
  simp only [Prod.mk.injEq] at hzz
  obtain ⟨hz, hz1, hz2⟩ := hzz
  obtain ⟨wm, hmk, hOm, hGm⟩ := run_make_own (P := Tryd.prog) w w.heap.size 75 9 i0 _ 1 Tryd.underlying75 hi hz hz1 .i64 .i64 n (by rw [hz2]; omega) (by unfold maxLen; omega) (Nat.le_refl _)
  exact ⟨wm, hmk, hOm, (Below.refl _ _).grown hGm (Nat.le_refl _) (fun k hk => by simp at hk)⟩
set_option maxRecDepth 100000 in
set_option maxHeartbeats 4000000 in
/-- impl.NfsText. -/
theorem iNfsText_any (a : Option Addr) (len cap : Nat) (l : List Ac) (w : World) (hi : Acs a len l w) (hp : PowW w) :
    Calls Tryd.prog 30 #[.slice a len cap] w fun e w' => e = .returned (.string (nfsT l)) ∧ Below w.heap.size w w' := by
  have hR : Hid (Calls Tryd.prog 70 #[.slice a len cap] w fun e w'' => e = .returned (.bool (acesB l)) ∧ Below w.heap.size w w'') := iNfsRight_any a len cap l w hi
  cases hr : acesB l
  · have hn : nfsT l = ⟨#[]⟩ := by rw [nfsT, hr]; rfl
    rw [hn]
    rw [hr] at hR
    clear hn hr hi hp
    go_enter Tryd.func30, Tryd.ntmps30
    go_wp2_with fail
    refine hR.out.mono ?_
    rintro e w1 ⟨rfl, hb1⟩
    have hW1 : Hid (Below w.heap.size w w1) := hb1
    clear hb1 hR
    go_wp2
    go_ret
    exact ⟨rfl, hW1.out⟩
  · have hn : nfsT l = jlT (aceF l) len := by rw [nfsT, hr, hi.1]; rfl
    rw [hn]
    have h32 : len ≤ 32 := by rw [← hi.1]; exact aces_len hr
    have hA : Hid (∀ k w', Below w.heap.size w w' → Calls Tryd.prog 23 #[.agg #[.bool (acAt l k).al, .int .i64 (acAt l k).wh, .int .i64 (acAt l k).id, .int .i64 (acAt l k).fl, .int .i64 (acAt l k).ma]] w' fun e w'' => e = .returned (.string (aceF l k)) ∧ Below w'.heap.size w' w'') := (fun k w' hb => iAceText_any (acAt l k) w' (hp.below hb))
    have HI : Hid (Acs a len l w) := hi
    have HT : Hid (∀ k, txl (aceF l) (k + 1) = txl (aceF l) k ++ [aceF l k]) := txl_snoc _
    have HTL : Hid (∀ k, (txl (aceF l) k).length = k) := txl_len _
    have HJ : Hid (∀ (a : Option Addr) (c : Nat) (w' : World), len ≤ c → (0 < len → ∃ b, a = some ⟨b, 0, none⟩ ∧ b < w'.heap.size ∧ ∀ (j : Nat) x, (txl (aceF l) len)[j]? = some x → w'.cell? ⟨b, 0 + j, none⟩ = some (.string x)) → Calls Tryd.prog 46 #[.slice a len c, .string ⟨#[44]⟩] w' fun e w'' => e = .returned (.string (jlT (aceF l) len)) ∧ Below w'.heap.size w' w'') := (fun a c w' hcap hcells => joinC_any (aceF l) len 25 (by omega) (fun i _ => aceF_size l i) (by omega) a c w' hcap hcells)
    rw [hr] at hR
    clear hn hr hi hp
    generalize jlT (aceF l) len = JT at HJ ⊢
    go_enter Tryd.func30, Tryd.ntmps30
    go_wp2_with fail
    refine hR.out.mono ?_
    rintro e w1 ⟨rfl, hb1⟩
    have hW1 : Hid (Below w.heap.size w w1) := hb1
    clear hb1 hR
    obtain ⟨wm, hmk, hOm, hBm⟩ := madeT w1 len (by omega)
    have hO : Hid (wm.ownsRow w1.heap.size 9 1 (.slice (some ⟨w1.heap.size, 0, none⟩) 0 len) (txl (aceF l) 0).length (tv (txl (aceF l) 0))) := hOm
    have hBM : Hid (Below w1.heap.size w1 wm) := hBm
    clear hOm hBm
    go_wp2
    clear hmk
    go_loopw [3, 14] (fun v i wr => ∃ k : Nat, k ≤ len ∧ i = .int .i64 k ∧ Hid (wr.ownsRow w1.heap.size 9 1 v (txl (aceF l) k).length (tv (txl (aceF l) k))) ∧ Hid (Below w1.heap.size w1 wr)) (fun _ i _ => len - (intOf i).toNat)
    case atStart => exact ⟨0, Nat.zero_le _, rfl, hO, hBM⟩
    case round =>
      obtain ⟨k, hk, rfl, hOw, hB⟩ := hrel
      have hWr : Hid (Below w.heap.size w wr) := Below.on hW1.out hB.out
      by_cases hlt : k < len
      · have hlt' : (k : Int) < (len : Int) := by omega
        obtain ⟨b, off, rfl, hbl, hcl⟩ := HI.out.2 (by omega)
        obtain ⟨g0, g1, g2, g3, g4⟩ := (hcl k hlt).keep (fun j => hWr.out.cell (p := ⟨b, j, none⟩) hbl)
        have hAk : Hid (∀ w', Below w.heap.size w w' → Calls Tryd.prog 23 #[.agg #[.bool (acAt l k).al, .int .i64 (acAt l k).wh, .int .i64 (acAt l k).id, .int .i64 (acAt l k).fl, .int .i64 (acAt l k).ma]] w' fun e w'' => e = .returned (.string (aceF l k)) ∧ Below w'.heap.size w' w'') := hA.out k
        have HTk : Hid (txl (aceF l) (k + 1) = txl (aceF l) k ++ [aceF l k]) := HT.out k
        have hlk := HTL.out k
        clear hcl
        generalize aceF l k = TX at hAk HTk
        generalize acAt l k = x at g0 g1 g2 g3 g4 hAk
        have hBA := Below.onA (o := (.cells #[.bool x.al, .int .i64 x.wh, .int .i64 x.id, .int .i64 x.fl, .int .i64 x.ma] 41)) hB.out
        have hOA := rowT_below hOw.out (bel_alloc wr (.cells #[.bool x.al, .int .i64 x.wh, .int .i64 x.id, .int .i64 x.fl, .int .i64 x.ma] 41))
        have HBA : Hid (Below w1.heap.size w1 (wr.alloc (.cells #[.bool x.al, .int .i64 x.wh, .int .i64 x.id, .int .i64 x.fl, .int .i64 x.ma] 41))) := hBA
        have HOA : Hid _ := hOA
        clear hBA hOA
        go_wp2_with fail
        refine (hAk.out _ (Below.on hW1.out HBA.out)).mono ?_
        rintro e wa ⟨rfl, hba⟩
        obtain ⟨v2, w2, hr, hO2, hB2⟩ := append_text w1 wa u3 (txl (aceF l) k) (rowT_below HOA.out hba) (Below.on HBA.out hba) TX (by omega)
        rw [← HTk.out] at hO2
        have HO2 : Hid _ := hO2
        have HB2 : Hid _ := hB2
        clear hO2 hB2 hba hOw hB g0 g1 g2 g3 g4 hAk hlk HOA HBA
        go_wp2_with (at_builtin; refine wpList_append_runT _ rfl (.tmp 18) (.tmp 21) 75 75 rfl _ _ _ _ rfl rfl hr ?_)
        go_roundw
        case rel => exact ⟨k + 1, by omega, by go_num, HO2, HB2⟩
        case measure => simp [intOf]; omega
      · have : k = len := by omega
        subst this
        obtain ⟨ga, gc, hgv, hgc, hgcell⟩ := own_texts hOw.out
        rw [HTL.out k] at hgv hgc hgcell
        subst hgv
        have hJ : Hid (Calls Tryd.prog 46 #[.slice ga k gc, .string ⟨#[44]⟩] wr fun e w'' => e = .returned (.string JT) ∧ Below wr.heap.size wr w'') := HJ.out ga gc wr hgc hgcell
        clear hgcell hOw HJ hO
        go_wp2_with fail
        refine hJ.out.mono ?_
        rintro e wf ⟨rfl, hbf⟩
        have hWf : Hid (Below w.heap.size w wf) := Below.on hWr.out hbf
        clear hbf hJ
        go_wp2
        go_ret
        exact ⟨rfl, hWf.out⟩
end Go.Proofs.YtlngfaplimpilaaDoor
