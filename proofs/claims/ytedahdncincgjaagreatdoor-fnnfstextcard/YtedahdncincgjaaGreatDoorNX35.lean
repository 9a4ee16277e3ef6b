/- Laid together: JoinL, NfsTx, NfsRdM, INfsRd. -/
import Derived.Test.YtedahdncincgjaaGreatDoorNX34
/- Texts with a comma between each two: by the program's strings.Join, and one behind the other. -/
namespace Go.Proofs.YtedahdncincgjaaGreatDoor
open Go.RowKit Go.PlainAid Go.Deep
set_option linter.unusedVariables false
/-- The first k texts, a comma between each two. -/
def jl (f : Nat → ByteArray) : Nat → List UInt8
  | 0 => []
  | k + 1 => jl f k ++ (if k = 0 then [] else [44]) ++ (f k).data.toList
def jlT (f : Nat → ByteArray) (k : Nat) : ByteArray := ⟨(jl f k).toArray⟩
theorem jl_len {f : Nat → ByteArray} {n m : Nat} (h : ∀ i, i < n → (f i).size ≤ m) : ∀ k, k ≤ n → (jl f k).length ≤ (m + 1) * k := by
  intro k
  induction k with
  | zero => intro _; simp [jl]
  | succ k ih =>
    intro hk
    have h1 := ih (by omega)
    have h2 := h k (by omega)
    rw [Lib.size_eq] at h2
    have h3 : (if k = 0 then ([] : List UInt8) else [44]).length ≤ 1 := by split <;> simp
    have h4 : (m + 1) * (k + 1) = (m + 1) * k + (m + 1) := by rw [Nat.mul_add, Nat.mul_one]
    simp only [jl, List.length_append]
    omega
theorem jlT_size {f : Nat → ByteArray} {n m : Nat} (h : ∀ i, i < n → (f i).size ≤ m) {k : Nat} (hk : k ≤ n) : (jlT f k).size ≤ (m + 1) * k := by
  have := jl_len h k hk
  simpa [jlT, ByteArray.size] using this
/-- The first k texts. -/
def txl (f : Nat → ByteArray) (k : Nat) : List ByteArray := (List.range k).map f
theorem txl_len (f : Nat → ByteArray) (k : Nat) : (txl f k).length = k := by simp [txl]
theorem txl_snoc (f : Nat → ByteArray) (k : Nat) : txl f (k + 1) = txl f k ++ [f k] := by simp [txl, List.range_succ]
theorem joinTail_snocL (sep : List UInt8) (r : List (List UInt8)) (y : List UInt8) : Lib.joinTail sep (r ++ [y]) = Lib.joinTail sep r ++ sep ++ y := by simp [Lib.joinTail]
theorem join_jl (f : Nat → ByteArray) (k : Nat) : Lib.join ((txl f k).map (·.data.toList)) [44] = jl f k := by
  induction k with
  | zero => rfl
  | succ k ih =>
    rw [txl_snoc, List.map_append]
    cases hx : (txl f k).map (·.data.toList) with
    | nil =>
      have hk : k = 0 := by
        have := congrArg List.length hx
        simpa [txl_len] using this
      subst hk
      simp [jl, Lib.join_one]
    | cons x r =>
      have hk : ¬ k = 0 := by
        intro e
        subst e
        simp [txl] at hx
      rw [hx, Lib.join_cons] at ih
      rw [List.cons_append, List.map_cons, List.map_nil, Lib.join_cons, joinTail_snocL, jl, if_neg hk, ← ih]
      simp
theorem jlT_first (f : Nat → ByteArray) : jlT f 0 ++ f 0 = jlT f 1 := by
  apply ByteArray.ext
  simp [ByteArray.data_append, jlT, jl]
theorem jlT_next (f : Nat → ByteArray) {k : Nat} (h : ¬ k = 0) : jlT f k ++ ⟨#[44]⟩ ++ f k = jlT f (k + 1) := by
  apply ByteArray.ext
  apply Array.toList_inj.1
  simp [ByteArray.data_append, jlT, jl, h]
/-- strings.Join of the first n texts, by a comma. -/
theorem joinC_any (f : Nat → ByteArray) (n m : Nat) (hn : n ≤ 10000) (hm : ∀ i, i < n → (f i).size ≤ m) (hs : (m + 1) * n ≤ 1000000) (a : Option Addr) (c : Nat) (w : World) (hcap : n ≤ c)
    (hcells : 0 < n → ∃ b, a = some ⟨b, 0, none⟩ ∧ b < w.heap.size ∧ ∀ (j : Nat) x, (txl f n)[j]? = some x → w.cell? ⟨b, 0 + j, none⟩ = some (.string x)) :
    Calls Tryz.prog 36 #[.slice a n c, .string ⟨#[44]⟩] w fun e w' => e = .returned (.string (jlT f n)) ∧ Below w.heap.size w w' := by
  by_cases h0 : n = 0
  · subst h0
    refine (Tryz.strings_Join_none a c ⟨#[44]⟩ w).mono ?_
    rintro e w'' ⟨rfl, rfl⟩
    exact ⟨rfl, Below.refl _ _⟩
  · obtain ⟨b, rfl, hb, hc2⟩ := hcells (by omega)
    have hl := txl_len f n
    have hjj := join_jl f n
    have hjl : (jl f n).length ≤ 1000000 := by have := jl_len hm n (Nat.le_refl _); omega
    have hsep : (⟨#[44]⟩ : ByteArray).data.toList = [44] := rfl
    have h := Tryz.strings_Join b 0 c (txl f n) ⟨#[44]⟩ w hc2 hb (by omega) (by omega) (by rw [hsep, hjj]; omega)
    rw [hsep, hjj, hl] at h
    exact h
/-- The text of the ace at a place. -/
def aceF (l : List Ac) (k : Nat) : ByteArray := aceT (acAt l k)
/-- NfsText. -/
def nfsT (l : List Ac) : ByteArray := if acesB l then jlT (aceF l) l.length else ⟨#[]⟩
theorem aceF_size (l : List Ac) (k : Nat) : (aceF l k).size ≤ 25 := aceT_size _
theorem jlA_size (l : List Ac) {k : Nat} (hk : k ≤ l.length) (hl : l.length ≤ 32) : (jlT (aceF l) k).size ≤ 832 := by
  have := jlT_size (f := aceF l) (n := l.length) (m := 25) (fun i _ => aceF_size l i) hk
  omega
set_option maxRecDepth 100000 in
set_option maxHeartbeats 4000000 in
/-- spec.NfsText. -/
theorem sNfsText_any (a : Option Addr) (len cap : Nat) (l : List Ac) (hl : len ≤ 1048576) (w : World) (hi : Acs a len l w) :
    Calls Tryz.prog 18 #[.slice a len cap] w fun e w' => e = .returned (.string (nfsT l)) ∧ Below w.heap.size w w' := by
  have hR : Hid (Calls Tryz.prog 48 #[.slice a len cap] w fun e w'' => e = .returned (.bool (acesB l)) ∧ Below w.heap.size w w'') := sNfsRight_any a len cap l hl w hi
  cases hr : acesB l
  · have hn : nfsT l = ⟨#[]⟩ := by rw [nfsT, hr]; rfl
    rw [hn]
    rw [hr] at hR
    clear hn hr hi hl
    go_enter Tryz.func18, Tryz.ntmps18
    go_wp2_with fail
    refine hR.out.mono ?_
    rintro e w1 ⟨rfl, hb1⟩
    have hW1 : Hid (Below w.heap.size w w1) := hb1
    clear hb1 hR
    go_wp2
    go_ret
    exact ⟨rfl, hW1.out⟩
  · have hn : nfsT l = jlT (aceF l) len := by rw [nfsT, hr, hi.1]; rfl
    rw [hn]
    have h32 : len ≤ 32 := by rw [← hi.1]; exact aces_len hr
    have hA : Hid (∀ k w, k < len → Calls Tryz.prog 46 #[.agg #[.bool (acAt l k).al, .int .i64 (acAt l k).wh, .int .i64 (acAt l k).id, .int .i64 (acAt l k).fl, .int .i64 (acAt l k).ma]] w fun e w' => e = .returned (.string (aceF l k)) ∧ Below w.heap.size w w') := (fun k w hk => sAce_any (acAt l k) (aces_at hr (by rw [hi.1]; exact hk)) w)
    have hS : Hid (∀ k, k ≤ len → (jlT (aceF l) k).size ≤ 832) := (fun k hk => jlA_size l (by rw [hi.1]; exact hk) (by rw [hi.1]; exact h32))
    have hS1 : Hid (∀ k, (aceF l k).size ≤ 25) := aceF_size l
    have HI : Hid (Acs a len l w) := hi
    have N1 : Hid (jlT (aceF l) 0 ++ aceF l 0 = jlT (aceF l) 1) := jlT_first _
    have N2 : Hid (∀ k, ¬ k = 0 → jlT (aceF l) k ++ ⟨#[44]⟩ ++ aceF l k = jlT (aceF l) (k + 1)) := (fun k h => jlT_next _ h)
    rw [hr] at hR
    clear hn hr hi hl
    go_enter Tryz.func18, Tryz.ntmps18
    go_wp2_with fail
    refine hR.out.mono ?_
    rintro e w1 ⟨rfl, hb1⟩
    have hW1 : Hid (Below w.heap.size w w1) := hb1
    clear hb1 hR
    go_wp2
    go_loopw [3, 4] (fun s i wr => ∃ k : Nat, k ≤ len ∧ i = .int .i64 k ∧ s = .string (jlT (aceF l) k) ∧ Hid (Below w.heap.size w wr)) (fun _ i _ => len - (intOf i).toNat)
    case atStart => exact ⟨0, Nat.zero_le _, rfl, rfl, hW1⟩
    case round =>
      obtain ⟨k, hk, rfl, rfl, hB⟩ := hrel
      have sk := hS.out k hk
      by_cases hlt : k < len
      · have hlt' : (k : Int) < (len : Int) := by omega
        obtain ⟨b, off, rfl, hbl, hcl⟩ := HI.out.2 (by omega)
        obtain ⟨g0, g1, g2, g3, g4⟩ := (hcl k hlt).keep (fun j => hB.out.cell (p := ⟨b, j, none⟩) hbl)
        have hAk : Hid (∀ w, Calls Tryz.prog 46 #[.agg #[.bool (acAt l k).al, .int .i64 (acAt l k).wh, .int .i64 (acAt l k).id, .int .i64 (acAt l k).fl, .int .i64 (acAt l k).ma]] w fun e w' => e = .returned (.string (aceF l k)) ∧ Below w.heap.size w w') := (fun w => hA.out k w hlt)
        have s1 := hS1.out k
        clear hcl
        have nk1 : k = 0 → jlT (aceF l) k ++ aceF l k = jlT (aceF l) (k + 1) := fun e => by subst e; exact N1.out
        have nk2 := N2.out k
        have NK1 : Hid (k = 0 → jlT (aceF l) k ++ aceF l k = jlT (aceF l) (k + 1)) := nk1
        have NK2 : Hid (¬ k = 0 → jlT (aceF l) k ++ ⟨#[44]⟩ ++ aceF l k = jlT (aceF l) (k + 1)) := nk2
        clear nk1 nk2
        generalize aceF l k = TX at hAk s1 NK1 NK2
        generalize acAt l k = x at g0 g1 g2 g3 g4 hAk
        have c1 : (⟨#[44]⟩ : ByteArray).size = 1 := rfl
        by_cases h0 : k = 0
        · subst h0
          have HN : Hid _ := NK1.out rfl
          clear NK1 NK2
          have hg0 : wr.cell? ⟨b, off, none⟩ = some (.bool x.al) := by simpa using g0
          have hg1 : wr.cell? ⟨b, off + 1, none⟩ = some (.int .i64 x.wh) := by simpa using g1
          have hg2 : wr.cell? ⟨b, off + 2, none⟩ = some (.int .i64 x.id) := by simpa using g2
          have hg3 : wr.cell? ⟨b, off + 3, none⟩ = some (.int .i64 x.fl) := by simpa using g3
          have hg4 : wr.cell? ⟨b, off + 4, none⟩ = some (.int .i64 x.ma) := by simpa using g4
          clear g0 g1 g2 g3 g4
          go_wp2_with fail
          refine (hAk.out _).mono ?_
          rintro e wa ⟨rfl, hba⟩
          have hB2 : Hid (Below w.heap.size w wa) := Below.on hB.out hba
          clear hba hAk hg0 hg1 hg2 hg3 hg4
          go_wp2
          rw [HN.out]
          go_roundw
          case rel => exact ⟨1, by omega, by go_num, rfl, hB2⟩
          case measure => simp [intOf]; omega
        · have HN : Hid _ := NK2.out h0
          have hk0 : 0 < (k : Int) := by omega
          have c2 : (jlT (aceF l) k ++ ⟨#[44]⟩).size ≤ 833 := by rw [ByteArray.size_append]; omega
          clear NK1 NK2 h0
          go_wp2_with fail
          refine (hAk.out _).mono ?_
          rintro e wa ⟨rfl, hba⟩
          have hB2 : Hid (Below w.heap.size w wa) := Below.on hB.out hba
          clear hba hAk g0 g1 g2 g3 g4
          go_wp2
          rw [HN.out]
          go_roundw
          case rel => exact ⟨k + 1, by omega, by go_num, rfl, hB2⟩
          case measure => simp [intOf]; omega
      · have : k = len := by omega
        subst this
        go_wp2
        go_ret
        exact ⟨rfl, hB.out⟩
theorem madeT (w : World) (n : Nat) (hn : n ≤ 100000) : ∃ w', (Instr.makeSlice 49 (.int .i64 0) (.int .i64 (n : Int))).run Tryz.prog w = .ok (.slice (some ⟨w.heap.size, 0, none⟩) 0 n) w' ∧ w'.ownsRow w.heap.size 9 1 (.slice (some ⟨w.heap.size, 0, none⟩) 0 n) ([] : List ByteArray).length (tv []) ∧ Below w.heap.size w w' := by
  obtain ⟨i0, hi, hzz⟩ := Option.map_eq_some_iff.1 infoStr
  simp only [Prod.mk.injEq] at hzz
  obtain ⟨hz, hz1, hz2⟩ := hzz
  obtain ⟨wm, hmk, hOm, hGm⟩ := run_make_own (P := Tryz.prog) w w.heap.size 49 9 i0 _ 1 Tryz.underlying49 hi hz hz1 .i64 .i64 n (by rw [hz2]; omega) (by unfold maxLen; omega) (Nat.le_refl _)
  exact ⟨wm, hmk, hOm, (Below.refl _ _).grown hGm (Nat.le_refl _) (fun k hk => by simp at hk)⟩
set_option maxRecDepth 100000 in
set_option maxHeartbeats 4000000 in
/-- impl.NfsText. -/
theorem iNfsText_any (a : Option Addr) (len cap : Nat) (l : List Ac) (w : World) (hi : Acs a len l w) (hp : PowW w) :
    Calls Tryz.prog 10 #[.slice a len cap] w fun e w' => e = .returned (.string (nfsT l)) ∧ Below w.heap.size w w' := by
  have hR : Hid (Calls Tryz.prog 35 #[.slice a len cap] w fun e w'' => e = .returned (.bool (acesB l)) ∧ Below w.heap.size w w'') := iNfsRight_any a len cap l w hi
  cases hr : acesB l
  · have hn : nfsT l = ⟨#[]⟩ := by rw [nfsT, hr]; rfl
    rw [hn]
    rw [hr] at hR
    clear hn hr hi hp
    go_enter Tryz.func10, Tryz.ntmps10
    go_wp2_with fail
    refine hR.out.mono ?_
    rintro e w1 ⟨rfl, hb1⟩
    have hW1 : Hid (Below w.heap.size w w1) := hb1
    clear hb1 hR
    go_wp2
    go_ret
    exact ⟨rfl, hW1.out⟩
  · have hn : nfsT l = jlT (aceF l) len := by rw [nfsT, hr, hi.1]; rfl
    rw [hn]
    have h32 : len ≤ 32 := by rw [← hi.1]; exact aces_len hr
    have hA : Hid (∀ k w', Below w.heap.size w w' → Calls Tryz.prog 5 #[.agg #[.bool (acAt l k).al, .int .i64 (acAt l k).wh, .int .i64 (acAt l k).id, .int .i64 (acAt l k).fl, .int .i64 (acAt l k).ma]] w' fun e w'' => e = .returned (.string (aceF l k)) ∧ Below w'.heap.size w' w'') := (fun k w' hb => iAceText_any (acAt l k) w' (hp.below hb))
    have HI : Hid (Acs a len l w) := hi
    have HT : Hid (∀ k, txl (aceF l) (k + 1) = txl (aceF l) k ++ [aceF l k]) := txl_snoc _
    have HTL : Hid (∀ k, (txl (aceF l) k).length = k) := txl_len _
    have HJ : Hid (∀ (a : Option Addr) (c : Nat) (w' : World), len ≤ c → (0 < len → ∃ b, a = some ⟨b, 0, none⟩ ∧ b < w'.heap.size ∧ ∀ (j : Nat) x, (txl (aceF l) len)[j]? = some x → w'.cell? ⟨b, 0 + j, none⟩ = some (.string x)) → Calls Tryz.prog 36 #[.slice a len c, .string ⟨#[44]⟩] w' fun e w'' => e = .returned (.string (jlT (aceF l) len)) ∧ Below w'.heap.size w' w'') := (fun a c w' hcap hcells => joinC_any (aceF l) len 25 (by omega) (fun i _ => aceF_size l i) (by omega) a c w' hcap hcells)
    rw [hr] at hR
    clear hn hr hi hp
    generalize jlT (aceF l) len = JT at HJ ⊢
    go_enter Tryz.func10, Tryz.ntmps10
    go_wp2_with fail
    refine hR.out.mono ?_
    rintro e w1 ⟨rfl, hb1⟩
    have hW1 : Hid (Below w.heap.size w w1) := hb1
    clear hb1 hR
    obtain ⟨wm, hmk, hOm, hBm⟩ := madeT w1 len (by omega)
    have hO : Hid (wm.ownsRow w1.heap.size 9 1 (.slice (some ⟨w1.heap.size, 0, none⟩) 0 len) (txl (aceF l) 0).length (tv (txl (aceF l) 0))) := hOm
    have hBM : Hid (Below w1.heap.size w1 wm) := hBm
    clear hOm hBm
    go_wp2
    clear hmk
    go_loopw [3, 14] (fun v i wr => ∃ k : Nat, k ≤ len ∧ i = .int .i64 k ∧ Hid (wr.ownsRow w1.heap.size 9 1 v (txl (aceF l) k).length (tv (txl (aceF l) k))) ∧ Hid (Below w1.heap.size w1 wr)) (fun _ i _ => len - (intOf i).toNat)
    case atStart => exact ⟨0, Nat.zero_le _, rfl, hO, hBM⟩
    case round =>
      obtain ⟨k, hk, rfl, hOw, hB⟩ := hrel
      have hWr : Hid (Below w.heap.size w wr) := Below.on hW1.out hB.out
      by_cases hlt : k < len
      · have hlt' : (k : Int) < (len : Int) := by omega
        obtain ⟨b, off, rfl, hbl, hcl⟩ := HI.out.2 (by omega)
        obtain ⟨g0, g1, g2, g3, g4⟩ := (hcl k hlt).keep (fun j => hWr.out.cell (p := ⟨b, j, none⟩) hbl)
        have hAk : Hid (∀ w', Below w.heap.size w w' → Calls Tryz.prog 5 #[.agg #[.bool (acAt l k).al, .int .i64 (acAt l k).wh, .int .i64 (acAt l k).id, .int .i64 (acAt l k).fl, .int .i64 (acAt l k).ma]] w' fun e w'' => e = .returned (.string (aceF l k)) ∧ Below w'.heap.size w' w'') := hA.out k
        have HTk : Hid (txl (aceF l) (k + 1) = txl (aceF l) k ++ [aceF l k]) := HT.out k
        have hlk := HTL.out k
        clear hcl
        generalize aceF l k = TX at hAk HTk
        generalize acAt l k = x at g0 g1 g2 g3 g4 hAk
        have hBA := Below.onA (o := (.cells #[.bool x.al, .int .i64 x.wh, .int .i64 x.id, .int .i64 x.fl, .int .i64 x.ma] 24)) hB.out
        have hOA := rowT_below hOw.out (bel_alloc wr (.cells #[.bool x.al, .int .i64 x.wh, .int .i64 x.id, .int .i64 x.fl, .int .i64 x.ma] 24))
        have HBA : Hid (Below w1.heap.size w1 (wr.alloc (.cells #[.bool x.al, .int .i64 x.wh, .int .i64 x.id, .int .i64 x.fl, .int .i64 x.ma] 24))) := hBA
        have HOA : Hid _ := hOA
        clear hBA hOA
        go_wp2_with fail
        refine (hAk.out _ (Below.on hW1.out HBA.out)).mono ?_
        rintro e wa ⟨rfl, hba⟩
        obtain ⟨v2, w2, hr, hO2, hB2⟩ := append_text w1 wa u3 (txl (aceF l) k) (rowT_below HOA.out hba) (Below.on HBA.out hba) TX (by omega)
        rw [← HTk.out] at hO2
        have HO2 : Hid _ := hO2
        have HB2 : Hid _ := hB2
        clear hO2 hB2 hba hOw hB g0 g1 g2 g3 g4 hAk hlk HOA HBA
        go_wp2_with (at_builtin; refine wpList_append_runT _ rfl (.tmp 18) (.tmp 21) 49 49 rfl _ _ _ _ rfl rfl hr ?_)
        go_roundw
        case rel => exact ⟨k + 1, by omega, by go_num, HO2, HB2⟩
        case measure => simp [intOf]; omega
      · have : k = len := by omega
        subst this
        obtain ⟨ga, gc, hgv, hgc, hgcell⟩ := own_texts hOw.out
        rw [HTL.out k] at hgv hgc hgcell
        subst hgv
        have hJ : Hid (Calls Tryz.prog 36 #[.slice ga k gc, .string ⟨#[44]⟩] wr fun e w'' => e = .returned (.string JT) ∧ Below wr.heap.size wr w'') := HJ.out ga gc wr hgc hgcell
        clear hgcell hOw HJ hO
        go_wp2_with fail
        refine hJ.out.mono ?_
        rintro e wf ⟨rfl, hbf⟩
        have hWf : Hid (Below w.heap.size w wf) := Below.on hWr.out hbf
        clear hbf hJ
        go_wp2
        go_ret
        exact ⟨rfl, hWf.out⟩
end Go.Proofs.YtedahdncincgjaaGreatDoor
/- A list in order read: what the two sides read of a text. -/
namespace Go.Proofs.YtedahdncincgjaaGreatDoor
open Go.RowKit Go.PlainAid
set_option linter.unusedVariables false
theorem noComma4 : ∀ s, s < 16 → (44 : UInt8) ∉ sgTo s fdni.data.toList 4 := by decide +kernel
theorem noComma8 : ∀ s, s < 256 → (44 : UInt8) ∉ sgTo s rwxs.data.toList 8 := by decide +kernel
theorem noCommaW (wh id : Nat) : (44 : UInt8) ∉ (whoT wh id).data.toList := by
  rw [whoT_l]
  have hn : (44 : UInt8) ∉ Lib.decDigits id := dec_no (by decide)
  split
  · decide
  split
  · decide
  split
  · decide
  split
  · simpa using hn
  · simpa using hn
theorem noComma {x : Ac} (h : aceB x = true) : (44 : UInt8) ∉ (aceT x).data.toList := by
  obtain ⟨_, _, _, ⟨⟨f0, f15⟩, _⟩, m1, m255⟩ := aceB_iff.1 h
  rw [aceT_l h]
  have h1 := noComma4 x.fl.toNat (by omega)
  have h2 := noComma8 x.ma.toNat (by omega)
  have h3 := noCommaW x.wh.toNat x.id.toNat
  have h4 : (44 : UInt8) ∉ (if x.al then [65] else [68] : List UInt8) := by cases x.al <;> decide
  simp only [unspl, List.mem_append, List.mem_cons, not_or]
  exact ⟨h4, by decide, h1, by decide, h3, by decide, h2⟩
/-- The pieces of joined texts. -/
theorem spl_jl (f : Nat → ByteArray) (m : Nat) (hf : ∀ i, i < m → (44 : UInt8) ∉ (f i).data.toList) : ∀ n, n + 1 ≤ m → spl 44 (jl f (n + 1)) = (List.range (n + 1)).map fun i => (f i).data.toList := by
  intro n
  induction n with
  | zero =>
    intro hm
    have e : jl f 1 = (f 0).data.toList := by simp [jl]
    rw [e, spl_none (hf 0 (by omega))]
    rfl
  | succ n ih =>
    intro hm
    have e : jl f (n + 2) = jl f (n + 1) ++ 44 :: (f (n + 1)).data.toList := by
      rw [jl]
      simp
    rw [e, spl_last (hf (n + 1) (by omega)), ih (by omega), List.range_succ (n := n + 1)]
    simp
theorem jl_unspl (f : Nat → ByteArray) : ∀ (n : Nat) (ps : List (List UInt8)), ps.length = n → (∀ k (h : k < ps.length), (f k).data.toList = ps[k]) → jl f n = unspl 44 ps := by
  intro n
  induction n with
  | zero =>
    intro ps hl _
    rw [List.eq_nil_of_length_eq_zero hl]
    rfl
  | succ n ih =>
    intro ps hl h
    have hne : ps ≠ [] := fun e => by rw [e] at hl; simp at hl
    obtain ⟨qs, x, rfl⟩ : ∃ qs x, ps = qs ++ [x] := ⟨ps.dropLast, ps.getLast hne, (List.dropLast_concat_getLast hne).symm⟩
    have hq : qs.length = n := by simp at hl; omega
    have e1 := ih qs hq (fun k hk => by
      have := h k (by simp; omega)
      rwa [List.getElem_append_left hk] at this)
    have e2 : (f n).data.toList = x := by
      have := h n (by simp; omega)
      rw [this]
      simp [hq]
    have e3 : ∀ (qs : List (List UInt8)), unspl 44 (qs ++ [x]) = unspl 44 qs ++ (if qs.length = 0 then [] else [44]) ++ x := by
      intro qs
      induction qs with
      | nil => simp [unspl]
      | cons y o ih2 =>
        cases o with
        | nil => simp [unspl]
        | cons y2 o => simpa [unspl] using ih2
    rw [jl, e1, e2, e3, hq]
/-- The aces of some pieces. -/
def xsOf (ps : List (List UInt8)) : List Ac := ps.map fun p => (aceI p).getD acZ
theorem xsOf_len (ps : List (List UInt8)) : (xsOf ps).length = ps.length := by simp [xsOf]
theorem xsOf_take (ps : List (List UInt8)) {k : Nat} {x : Ac} (h : k < ps.length) (hx : aceI ps[k] = some x) : xsOf (ps.take (k + 1)) = xsOf (ps.take k) ++ [x] := by
  unfold xsOf
  rw [← List.take_append_getElem h, List.map_append, List.map_singleton, hx]
  rfl
/-- What the program reads. -/
def nfsI (t : List UInt8) : Option (List Ac) := if t = [] then some [] else (if (∀ p ∈ spl 44 t, aceI p ≠ none) ∧ acesB (xsOf (spl 44 t)) = true then some (xsOf (spl 44 t)) else none)
/-- What the specification reads. -/
def nfsS (t : List UInt8) : List Ac := if t = [] then [] else ((spl 44 t).take 33).map aceS
theorem nfsT_l {l : List Ac} (h : acesB l = true) : (nfsT l).data.toList = jl (aceF l) l.length := by
  rw [nfsT, if_pos h]
  simp [jlT]
theorem range_at (l : List Ac) {b : Type} (g : Ac → b) : (List.range l.length).map (fun i => g (acAt l i)) = l.map g := by
  apply List.ext_getElem
  · simp
  · intro i h1 h2
    simp at h1
    simp [acAt_get h1]
theorem nfs_back {l : List Ac} (h : acesB l = true) : nfsI (nfsT l).data.toList = some l ∧ nfsS (nfsT l).data.toList = l := by
  rw [nfsT_l h]
  cases hl : l.length with
  | zero =>
    have : l = [] := List.eq_nil_of_length_eq_zero hl
    subst this
    exact ⟨rfl, rfl⟩
  | succ n =>
    have hb : ∀ i, i < l.length → aceB (acAt l i) = true := fun i hi => aces_at h hi
    have hs := spl_jl (aceF l) l.length (fun i hi => noComma (hb i hi)) n (by omega)
    have hp : (List.range (n + 1)).map (fun i => (aceF l i).data.toList) = l.map fun x => (aceT x).data.toList := by
      rw [← hl]
      exact range_at l fun x => (aceT x).data.toList
    rw [hp] at hs
    have hne : jl (aceF l) (n + 1) ≠ [] := by
      intro e
      rw [e] at hs
      have h1 := (ace_back (hb 0 (by omega))).2.2
      cases l with
      | nil => simp at hl
      | cons x r =>
        simp [spl, splS] at hs
        apply h1
        apply ByteArray.ext
        simpa [acAt] using hs.1
    have hx : xsOf (l.map fun x => (aceT x).data.toList) = l := by
      unfold xsOf
      rw [List.map_map]
      conv => rhs; rw [← List.map_id l]
      apply List.map_congr_left
      intro x hx
      simp [(ace_back (aces_mem h hx)).1]
    refine ⟨?_, ?_⟩
    · rw [nfsI, if_neg hne, hs, hx, if_pos]
      refine ⟨fun p hp => ?_, h⟩
      obtain ⟨x, hx, rfl⟩ := List.mem_map.1 hp
      rw [(ace_back (aces_mem h hx)).1]
      simp
    · rw [nfsS, if_neg hne, hs, List.take_of_length_le (by have := aces_len h; simp; omega), List.map_map]
      conv => rhs; rw [← List.map_id l]
      apply List.map_congr_left
      intro x hx
      exact (ace_back (aces_mem h hx)).2.1
theorem nfsI_some {t : List UInt8} {l : List Ac} (h : nfsI t = some l) : acesB l = true ∧ t = (nfsT l).data.toList := by
  unfold nfsI at h
  by_cases h0 : t = []
  · rw [if_pos h0] at h
    cases h
    exact ⟨rfl, by rw [h0]; rfl⟩
  · rw [if_neg h0] at h
    split at h
    next hc =>
      cases h
      refine ⟨hc.2, ?_⟩
      rw [nfsT_l hc.2, jl_unspl (aceF (xsOf (spl 44 t))) _ (spl 44 t) (xsOf_len _).symm, unspl_spl]
      intro k hk
      have h1 := hc.1 _ (List.getElem_mem hk)
      cases e : aceI (spl 44 t)[k] with
      | none => exact absurd e h1
      | some x =>
        have h2 := aceI_some e
        have h3 : acAt (xsOf (spl 44 t)) k = x := by
          rw [acAt_get (by rw [xsOf_len]; exact hk)]
          simp [xsOf, e]
        rw [aceF, h3, ← h2.2]
    · cases h
theorem nfs_key (t : List UInt8) : (∃ l, acesB l = true ∧ t = (nfsT l).data.toList ∧ nfsI t = some l ∧ nfsS t = l) ∨ (nfsI t = none ∧ nfsT (nfsS t) ≠ ⟨t.toArray⟩) := by
  cases h : nfsI t with
  | some l =>
    obtain ⟨h1, h2⟩ := nfsI_some h
    left
    refine ⟨l, h1, h2, rfl, ?_⟩
    rw [h2]
    exact (nfs_back h1).2
  | none =>
    right
    refine ⟨rfl, fun e => ?_⟩
    cases hb : acesB (nfsS t)
    · rw [nfsT, hb] at e
      have h0 : t = [] := by
        have := congrArg (fun x : ByteArray => x.data.toList) e
        simpa using this.symm
      rw [h0] at h
      cases h
    · have e2 : t = (nfsT (nfsS t)).data.toList := by rw [e]
      rw [e2, (nfs_back hb).1] at h
      cases h
/-- NfsRead. -/
def nfsO (t : List UInt8) : List Ac × Int := if 8000 < t.length then ([], 2) else match nfsI t with
  | some l => (l, 0)
  | none => ([], 3)
theorem nfsO_long {t : List UInt8} (h : 8000 < t.length) : nfsO t = ([], 2) := by rw [nfsO, if_pos h]
theorem nfsO_yes {t : List UInt8} {l : List Ac} (h : ¬ 8000 < t.length) (hx : nfsI t = some l) : nfsO t = (l, 0) := by rw [nfsO, if_neg h, hx]
theorem nfsO_no {t : List UInt8} (h : ¬ 8000 < t.length) (hx : nfsI t = none) : nfsO t = ([], 3) := by rw [nfsO, if_neg h, hx]
theorem nfsO_len (t : List UInt8) : (nfsO t).1.length ≤ 32 := by
  unfold nfsO
  split
  · simp
  · cases h : nfsI t with
    | some l => exact aces_len (nfsI_some h).1
    | none => simp
end Go.Proofs.YtedahdncincgjaaGreatDoor
/- impl.readNfs. -/
namespace Go.Proofs.YtedahdncincgjaaGreatDoor
open Go.RowKit Go.PlainAid Go.Deep
set_option linter.unusedVariables false
/-- What readNfs ends in. -/
def NfsEnd (t : List UInt8) (w : World) (e : Ending) (w' : World) : Prop := Below w.heap.size w w' ∧ ((nfsI t = none ∧ ∃ v, e = .returned (.tuple #[v, .bool false])) ∨ ∃ l v, nfsI t = some l ∧ e = .returned (.tuple #[v, .bool true]) ∧ w'.ownsRow w.heap.size 24 5 v l.length (pcA l))
theorem btsN_at {ps : List (List UInt8)} {k : Nat} (h : k < ps.length) : (bts ps)[k]? = some ⟨(ps[k]).toArray⟩ := by simp [bts, h]
theorem piece_le (c : UInt8) (t : List UInt8) : ∀ p ∈ spl c t, p.length ≤ t.length := by
  have key : ∀ (ps : List (List UInt8)), ∀ p ∈ ps, p.length ≤ (unspl c ps).length := by
    intro ps
    induction ps with
    | nil => intro p hp; cases hp
    | cons x r ih =>
      intro p hp
      cases r with
      | nil => simp at hp; subst hp; simp [unspl]
      | cons y r =>
        simp only [unspl, List.length_append, List.length_cons]
        rcases List.mem_cons.1 hp with rfl | hp
        · omega
        · have := ih p hp
          omega
  intro p hp
  have := key _ p hp
  rwa [unspl_spl] at this
set_option maxRecDepth 100000 in
set_option maxHeartbeats 400000 in
theorem iReadNfs_full (s : ByteArray) (m : Int) (h0 : 0 < s.size) (hs : s.size ≤ 8000) (w : World) (hm : w.cell? ⟨0, 0, none⟩ = some (.int .i64 m)) :
    Calls Tryz.prog 42 #[.string s] w (NfsEnd s.data.toList w) := by
  have hl : s.data.toList.length = s.size := (Lib.size_eq s).symm
  have hlt := block_lt_of_cell hm
  have hne := full_text h0
  have hnil : s.data.toList ≠ [] := fun e => by rw [e] at hl; simp at hl; omega
  have hlen := spl_len 44 s.data.toList
  have hS : Hid (Calls Tryz.prog 60 #[.string s, .string ⟨#[44]⟩] w fun e w' => e = .returned (.slice (some ⟨w.heap.size, 0, none⟩) (spl 44 s.data.toList).length (spl 44 s.data.toList).length) ∧ w' = w.alloc (.cells ((bts (spl 44 s.data.toList)).map Value.string).toArray 9)) := split_at 44 s m hs w hm
  have HR : Hid (nfsI s.data.toList = if (∀ p ∈ spl 44 s.data.toList, aceI p ≠ none) ∧ acesB (xsOf (spl 44 s.data.toList)) = true then some (xsOf (spl 44 s.data.toList)) else none) := (by show _ = _; rw [nfsI, if_neg hnil])
  have HPL : Hid (∀ p ∈ spl 44 s.data.toList, p.length ≤ 8000) := (fun p hp => by have := piece_le 44 s.data.toList p hp; omega)
  have HM : Hid (∀ w', Below w.heap.size w w' → w'.cell? ⟨0, 0, none⟩ = some (.int .i64 m)) := (fun w' hb => (hb.cell (p := ⟨_, 0, none⟩) hlt).trans hm)
  generalize hnI : nfsI s.data.toList = res at HR
  have HRS : Hid (nfsI s.data.toList = res) := hnI
  clear hl hnil hm hlt hnI
  generalize spl 44 s.data.toList = ps at hS HR hlen HPL
  have hpl : ps.length ≤ 8001 := by rw [(Lib.size_eq s).symm] at hlen; omega
  clear hlen
  go_enter Tryz.func42, Tryz.ntmps42
  go_wp2_with fail
  refine hS.out.mono ?_
  rintro e w1 ⟨rfl, rfl⟩
  have HC : Hid (∀ k (h : k < ps.length), (w.alloc (.cells ((bts ps).map Value.string).toArray 9)).cell? ⟨w.heap.size, k, none⟩ = some (.string ⟨(ps[k]).toArray⟩)) := (fun k h => cells_at4 w (bts ps) _ (btsN_at h))
  have hB0 : Hid (Below w.heap.size w (w.alloc (.cells ((bts ps).map Value.string).toArray 9))) := bel_alloc _ _
  have hz0 : w.heap.size < (w.alloc (.cells ((bts ps).map Value.string).toArray 9)).heap.size := by simp
  clear hS
  generalize w.alloc (.cells ((bts ps).map Value.string).toArray 9) = w1 at HC hB0 hz0 ⊢
  go_wp2
  go_loopw [4, 14] (fun v i wr => ∃ k : Nat, k ≤ ps.length ∧ i = .int .i64 k ∧ Hid (∀ j (h : j < k) (h2 : j < ps.length), aceI (ps[j]) ≠ none) ∧ Hid (wr.ownsRow w1.heap.size 24 5 v (xsOf (ps.take k)).length (pcA (xsOf (ps.take k)))) ∧ Hid (Below w1.heap.size w1 wr)) (fun _ i _ => ps.length - (intOf i).toNat)
  case atStart => exact ⟨0, Nat.zero_le _, rfl, fun j h => absurd h (by omega), World.ownsRow_nil _ _ _ _, Below.refl _ _⟩
  case round =>
    obtain ⟨k, hk, rfl, hD, hOw, hB⟩ := hrel
    by_cases hlt : k < ps.length
    · have hlt' : (k : Int) < (ps.length : Int) := by omega
      have hcz : wr.cell? ⟨w.heap.size, k, none⟩ = some (.string ⟨(ps[k]).toArray⟩) := (hB.out.cell (p := ⟨w.heap.size, k, none⟩) hz0).trans (HC.out k hlt)
      have hRA : Hid (Calls Tryz.prog 33 #[.string ⟨(ps[k]).toArray⟩] wr (AceEnd ps[k] wr)) := (by
        have := iReadA_any ⟨(ps[k]).toArray⟩ m (by have := HPL.out _ (List.getElem_mem hlt); simpa [ByteArray.size] using this) wr (HM.out _ (Below.on hB0.out hB.out))
        show Calls _ _ _ _ _
        simpa using this)
      have hxl : (xsOf (ps.take k)).length ≤ 8001 := by rw [xsOf_len]; simp; omega
      go_wp2_with fail
      refine hRA.out.mono ?_
      rintro e wa ⟨hba, ⟨hn, rfl⟩ | ⟨x, hx, rfl⟩⟩
      · have hno : Hid (nfsI s.data.toList = none) := (by
          show _ = _
          rw [HRS.out, HR.out, if_neg (fun h => h.1 _ (List.getElem_mem hlt) hn)])
        have hW : Hid (Below w.heap.size w wa) := Below.on hB0.out (Below.on hB.out hba)
        clear hba hRA hD hOw HC hcz hn
        go_wp2
        go_ret2
        exact ⟨Below.onA hW.out, .inl ⟨hno.out, _, rfl⟩⟩
      · have HG : Hid (xsOf (ps.take (k + 1)) = xsOf (ps.take k) ++ [x]) := xsOf_take ps hlt hx
        have hD2 : Hid (∀ j (h : j < k + 1) (h2 : j < ps.length), aceI (ps[j]) ≠ none) := (fun j h h2 => by
          by_cases e : j = k
          · subst e; rw [hx]; simp
          · exact hD.out j (by omega) h2)
        have hBA : Hid (Below w1.heap.size w1 (wa.alloc (.cells #[.bool x.al, .int .i64 x.wh, .int .i64 x.id, .int .i64 x.fl, .int .i64 x.ma] 24))) := Below.onA (Below.on hB.out hba)
        have hOA : Hid ((wa.alloc (.cells #[.bool x.al, .int .i64 x.wh, .int .i64 x.id, .int .i64 x.fl, .int .i64 x.ma] 24)).ownsRow w1.heap.size 24 5 u4 (xsOf (ps.take k)).length (pcA (xsOf (ps.take k)))) := rowA_below (rowA_below hOw.out hba) (bel_alloc _ _)
        have hF : Hid (Five (wa.alloc (.cells #[.bool x.al, .int .i64 x.wh, .int .i64 x.id, .int .i64 x.fl, .int .i64 x.ma] 24)) wa.heap.size 0 x) := five_new wa x _
        clear hba hOw hB hRA hD hx hcz
        go_upto_region 10 with fail
        generalize wa.alloc (.cells #[.bool x.al, .int .i64 x.wh, .int .i64 x.id, .int .i64 x.fl, .int .i64 x.ma] 24) = wb at hBA hOA hF ⊢
        generalize wa.heap.size = X at hF ⊢
        obtain ⟨c0, c1, c2, c3, c4⟩ := hF.out
        simp only [Nat.zero_add] at c0 c1 c2 c3 c4
        obtain ⟨v2, w2, hrr, hO2, hB2⟩ := append_one (P := Tryz.prog) w1 wb 31 31 24 Tryz.underlying31 infoAce u4 (xsOf (ps.take k)) hOA.out hBA.out x (by omega)
        rw [← HG.out] at hO2
        have HO2 : Hid (w2.ownsRow w1.heap.size 24 5 v2 (xsOf (ps.take (k + 1))).length (pcA (xsOf (ps.take (k + 1))))) := hO2
        have HB2 : Hid (Below w1.heap.size w1 w2) := hB2
        clear hO2 hB2 hBA hOA
        go_wp2_with (at_builtin; refine wpList_append_runA _ rfl (.tmp 25) (.tmp 27) 31 31 rfl _ _ _ _ rfl rfl hrr ?_)
        go_roundw
        case rel => exact ⟨k + 1, by omega, by go_num, hD2, HO2, HB2⟩
        case measure => simp [intOf]; omega
    · have hke : k = ps.length := by omega
      subst hke
      have ht : ps.take ps.length = ps := List.take_length
      have hOe := hOw.out
      rw [ht] at hOe
      obtain ⟨ga, gc, hgv, hgi, _⟩ := ownA_of_row hOe
      have hNR : Hid (Calls Tryz.prog 35 #[.slice ga (xsOf ps).length gc] wr fun e w'' => e = .returned (.bool (acesB (xsOf ps))) ∧ Below wr.heap.size wr w'') := iNfsRight_any ga _ gc _ wr hgi.acs
      have hall : ∀ p ∈ ps, aceI p ≠ none := fun p hp => by
        obtain ⟨j, hj, rfl⟩ := List.mem_iff_getElem.1 hp
        exact hD.out j hj hj
      have hEnd : Hid ((acesB (xsOf ps) = true ∧ nfsI s.data.toList = some (xsOf ps)) ∨ (acesB (xsOf ps) = false ∧ nfsI s.data.toList = none)) := (by
        cases hg : acesB (xsOf ps)
        · exact .inr ⟨rfl, by rw [HRS.out, HR.out, if_neg (fun h => by rw [hg] at h; cases h.2)]⟩
        · exact .inl ⟨rfl, by rw [HRS.out, HR.out, if_pos ⟨hall, hg⟩]⟩)
      have hOb : Hid (wr.ownsRow w.heap.size 24 5 (.slice ga (xsOf ps).length gc) (xsOf ps).length (pcA (xsOf ps))) := (by
        rw [hgv] at hOe
        obtain ⟨q0, ⟨q1, q2⟩ | ⟨b2, cap2, cur2, q1, q2, q3⟩⟩ := hOe
        · exact ⟨q0, .inl ⟨q1, q2⟩⟩
        · exact ⟨q0, .inr ⟨b2, cap2, cur2, q1, Nat.le_trans hB0.out.size q2, q3⟩⟩)
      have hW : Hid (Below w.heap.size w wr) := Below.on hB0.out hB.out
      rw [hgv]
      generalize hGL : (xsOf ps).length = GL at hNR hOb ⊢
      have HGL : Hid ((xsOf ps).length = GL) := hGL
      generalize acesB (xsOf ps) = gr at hNR hEnd
      clear hgi hall hD hOw hOe HC HR HRS hgv ht hB hB0 hk hlt hGL
      go_wp2_with fail
      refine hNR.out.mono ?_
      rintro e wz ⟨rfl, hbz⟩
      have hWz : Hid (Below w.heap.size w wz) := Below.on hW.out hbz
      have hOz : Hid (wz.ownsRow w.heap.size 24 5 (.slice ga GL gc) GL (pcA (xsOf ps))) := rowA_below hOb.out hbz
      clear hbz
      rcases hEnd.out with ⟨rfl, hy⟩ | ⟨rfl, hy⟩
      · have HY : Hid (nfsI s.data.toList = some (xsOf ps)) := hy
        clear hEnd hy
        go_wp2
        go_ret2
        exact ⟨hWz.out, .inr ⟨xsOf ps, _, HY.out, rfl, by rw [HGL.out]; exact hOz.out⟩⟩
      · have HY : Hid (nfsI s.data.toList = none) := hy
        clear hEnd hy
        go_wp2
        go_ret2
        exact ⟨hWz.out, .inl ⟨HY.out, _, rfl⟩⟩
set_option maxRecDepth 100000 in
/-- impl.readNfs. -/
theorem iReadNfs_any (s : ByteArray) (m : Int) (hs : s.size ≤ 8000) (w : World) (hm : w.cell? ⟨0, 0, none⟩ = some (.int .i64 m)) :
    Calls Tryz.prog 42 #[.string s] w (NfsEnd s.data.toList w) := by
  by_cases h0 : s.size = 0
  · obtain rfl := text_nil h0
    clear h0 hm
    have hr : Hid (nfsI (⟨#[]⟩ : ByteArray).data.toList = some []) := rfl
    go_enter Tryz.func42, Tryz.ntmps42
    go_wp2
    go_ret2
    exact ⟨Below.refl _ _, .inr ⟨[], _, hr.out, rfl, World.ownsRow_nil _ _ _ _⟩⟩
  · exact iReadNfs_full s m (by omega) hs w hm
end Go.Proofs.YtedahdncincgjaaGreatDoor
