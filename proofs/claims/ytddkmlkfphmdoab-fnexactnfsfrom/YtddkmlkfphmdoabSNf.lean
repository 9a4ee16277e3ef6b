/- NfsFrom of the specification. -/
import Derived.Test.YtddkmlkfphmdoabSNu
namespace Go.Proofs.Ytddkmlkfphmdoab
open Go.RowKit Go.PlainAid Go.Deep
set_option linter.unusedVariables false
theorem aces_new (w : World) (x : Ac) (t : TypeId) : ∀ (j : Nat) u, (pcA [x])[j]? = some u → (w.alloc (.cells #[.bool x.al, .int .i64 x.wh, .int .i64 x.id, .int .i64 x.fl, .int .i64 x.ma] t)).cell? ((⟨w.heap.size, 0, none⟩ : Addr).add j) = some u := by
  intro j u hj
  obtain ⟨c0, c1, c2, c3, c4⟩ := five_new w x t
  simp only [Nat.zero_add] at c0 c1 c2 c3 c4
  rw [addr_addA, Nat.zero_add]
  match j with
  | 0 => simp [pcA] at hj; subst hj; exact c0
  | 1 => simp [pcA] at hj; subst hj; exact c1
  | 2 => simp [pcA] at hj; subst hj; exact c2
  | 3 => simp [pcA] at hj; subst hj; exact c3
  | 4 => simp [pcA] at hj; subst hj; exact c4
  | j + 5 => simp [pcA] at hj
/-- append of one ace: what it leaves, and where the row lies then. -/
theorem append_aceG (w0 w : World) (v : Value) (l : List Ac) (hown : w.ownsRow w0.heap.size 38 5 v l.length (pcA l)) (hB : Below w0.heap.size w0 w) (x : Ac) (hsm : l.length ≤ 1000000) :
    ∃ v' w', (Builtin.append_ #[22, 22] 22 #[v, .slice (some ⟨w.heap.size, 0, none⟩) 1 1]).run Try.prog (w.alloc (.cells #[.bool x.al, .int .i64 x.wh, .int .i64 x.id, .int .i64 x.fl, .int .i64 x.ma] 38)) = .ok v' w' ∧ w'.ownsRow w0.heap.size 38 5 v' (l ++ [x]).length (pcA (l ++ [x])) ∧ Below w0.heap.size w0 w' ∧ w.heap.size ≤ w'.heap.size ∧ (∀ b, b < w.heap.size → v.ownBlock ≠ some b → w'.heap[b]? = w.heap[b]?) ∧ (∀ k, v'.ownBlock = some k → v.ownBlock = some k ∨ w.heap.size ≤ k) := by
  obtain ⟨i, hi, hzz⟩ := Option.map_eq_some_iff.1 infoAceF
  simp only [Prod.mk.injEq] at hzz
  obtain ⟨hz, hs, hb⟩ := hzz
  have hb1 := bel_alloc w (.cells #[.bool x.al, .int .i64 x.wh, .int .i64 x.id, .int .i64 x.fl, .int .i64 x.ma] 38)
  have hB1 := Below.on hB hb1
  have hown1 := rowA_below hown hb1
  have hnw := aces_new w x 38
  have hone := pcA_one [x]
  obtain ⟨v', w', hr, h1, h2, _⟩ := run_append_own (P := Try.prog) _ w0.heap.size 22 22 38 i _ 5 40 Try.underlying22 hi hz hs hb rfl (by decide) v l.length (pcA l) hown1 ⟨w.heap.size, 0, none⟩ 1 1 (pcA [x]) rfl hnw hone (by unfold maxLen; omega) (by omega) hB1.size
  have hsz : w.heap.size ≤ w'.heap.size := Nat.le_trans (by simp) h2.size
  refine ⟨v', w', hr, ?_, hB1.grown h2 hB1.size (own_blockA hown1), hsz, fun b hlt hne => (h2.block b (by simp; omega) (fun e => hne e.symm)).trans (hb1.block b hlt), ?_⟩
  · rw [pcA_append, List.length_append]
    exact h1
  · have hbase : w.heap.size ≤ (w.alloc (.cells #[.bool x.al, .int .i64 x.wh, .int .i64 x.id, .int .i64 x.fl, .int .i64 x.ma] 38)).heap.size := by simp
    generalize w.alloc (.cells #[.bool x.al, .int .i64 x.wh, .int .i64 x.id, .int .i64 x.fl, .int .i64 x.ma] 38) = W at *
    have hl1 : (pcA [x]).length = 1 * i.size := by rw [hs]; rfl
    have hb16 : ∀ n : Nat, n ≤ 2000000 → n * i.bytes ≤ 140737488355328 := fun n hn => by rw [hb]; omega
    rcases hown1.2 with ⟨rfl, hn⟩ | ⟨g, cap, cur, rfl, hbg, hg, hnc, hcm, hcs, htake⟩
    · have hr2 := run_append_nil (P := Try.prog) W 22 22 38 i _ Try.underlying22 hi hz ⟨w.heap.size, 0, none⟩ 1 1 (pcA [x]) hl1 hnw (by omega) (by omega) (by rw [hb]; omega)
      rw [hr2] at hr
      cases hr
      intro k hk
      simp [Value.ownBlock] at hk
      exact .inr (by omega)
    · by_cases hroom : l.length + 1 ≤ cap
      · have hr2 := run_append_room (P := Try.prog) W 22 22 38 i Try.underlying22 hi g l.length cap cur hg ⟨w.heap.size, 0, none⟩ 1 1 (pcA [x]) hl1 hnw hone hroom (by rw [hs, pcA_length, hcs]; show l.length * 5 + 1 * 5 ≤ cap * 5; omega)
        rw [hr2] at hr
        cases hr
        intro k hk
        exact .inl hk
      · have hr2 := run_append_grow (P := Try.prog) W 22 22 38 i _ Try.underlying22 hi hz ⟨g, 0, none⟩ l.length cap (pcA l) (by rw [hs]; exact hown1.1) (hown1.cells (g := g) rfl) ⟨w.heap.size, 0, none⟩ 1 1 (pcA [x]) hl1 hnw (by omega) (by omega) (growslice_fits (by omega) (hb16 _ (by omega)))
        rw [hr2] at hr
        cases hr
        intro k hk
        simp [Value.ownBlock] at hk
        exact .inr (by omega)
theorem rowA_keep {w w' : World} {B : Nat} {t : TypeId} {s : Nat} {v : Value} {n : Nat} {xs : List Value} (h : w.ownsRow B t s v n xs) (hb : ∀ k, v.ownBlock = some k → w'.heap[k]? = w.heap[k]?) : w'.ownsRow B t s v n xs := by
  obtain ⟨h0, ⟨rfl, hn⟩ | ⟨g, cap, cur, rfl, hB, hg, hc, hm, hs, ht⟩⟩ := h
  · exact ⟨h0, .inl ⟨rfl, hn⟩⟩
  · exact ⟨h0, .inr ⟨g, cap, cur, rfl, hB, (hb g rfl).trans hg, hc, hm, hs, ht⟩⟩
/-- The reader, and the list that grows; wa: the world in which the reading began. -/
structure StL (wa : World) (TX : ByteArray) (σ : Nat × Bool) (w : World) (v : Value) (acc : List Ac) : Prop where
  rd : Rd w wa.heap.size TX σ
  ow : w.ownsRow wa.heap.size 38 5 v acc.length (pcA acc)
  nx : v.ownBlock ≠ some wa.heap.size
  bl : Below wa.heap.size wa w
theorem StL.num {wa : World} {TX : ByteArray} {σ σ' : Nat × Bool} {w w' : World} {v : Value} {acc : List Ac} (h : StL wa TX σ w v acc) (hr : Rd w' wa.heap.size TX σ') (hn : NumW wa.heap.size w w') : StL wa TX σ' w' v acc :=
  ⟨hr, rowA_keep h.ow (fun k hk => hn.kp k (fun e => h.nx (by rw [hk, e])) (h.ow.lt k hk).2), h.nx, h.bl.trans hn.bel⟩
theorem StL.below {wa : World} {TX : ByteArray} {σ : Nat × Bool} {w w' : World} {v : Value} {acc : List Ac} (h : StL wa TX σ w v acc) (hb : Below w.heap.size w w') : StL wa TX σ w' v acc :=
  ⟨h.rd.below hb, rowA_below h.ow hb, h.nx, Below.on h.bl hb⟩
theorem StL.set {wa : World} {TX : ByteArray} {σ : Nat × Bool} {w : World} {v : Value} {acc : List Ac} {Y o : Nat} {u : Value} (h : StL wa TX σ w v acc) (hY : wa.heap.size < Y) (hv : v.ownBlock ≠ some Y) : StL wa TX σ (w.setCell ⟨Y, o, none⟩ u) v acc :=
  ⟨h.rd.keep (by simp) (Below.heap_setCell w ⟨Y, o, none⟩ u wa.heap.size (by show wa.heap.size ≠ Y; omega)), rowA_keep h.ow (fun k hk => Below.heap_setCell w ⟨Y, o, none⟩ u k (by show k ≠ Y; intro e; exact hv (by rw [hk, e]))), h.nx, h.bl.setCell (by show wa.heap.size ≤ Y; omega) _⟩
theorem W5.num {X : Nat} {w w' : World} {Y : Nat} {v0 v1 v2 v3 v4 : Value} (h : W5 w Y v0 v1 v2 v3 v4) (hn : NumW X w w') (hY : Y ≠ X) : W5 w' Y v0 v1 v2 v3 v4 := h.keep hn.size (hn.kp Y hY h.lt)
theorem W5.set1 {w : World} {b : Nat} {v0 v1 v2 v3 v4 u : Value} (h : W5 w b v0 v1 v2 v3 v4) : W5 (w.setCell ⟨b, 1, none⟩ u) b v0 u v2 v3 v4 := by
  obtain ⟨hl, c0, c1, c2, c3, c4, hz⟩ := h
  refine ⟨by simpa using hl, ?_, ?_, ?_, ?_, ?_, fun o => by rw [World.frozen?_setCell]; exact hz o⟩ <;> simp [go_sem, *]
theorem W5.set2 {w : World} {b : Nat} {v0 v1 v2 v3 v4 u : Value} (h : W5 w b v0 v1 v2 v3 v4) : W5 (w.setCell ⟨b, 2, none⟩ u) b v0 v1 u v3 v4 := by
  obtain ⟨hl, c0, c1, c2, c3, c4, hz⟩ := h
  refine ⟨by simpa using hl, ?_, ?_, ?_, ?_, ?_, fun o => by rw [World.frozen?_setCell]; exact hz o⟩ <;> simp [go_sem, *]
theorem W5.set3 {w : World} {b : Nat} {v0 v1 v2 v3 v4 u : Value} (h : W5 w b v0 v1 v2 v3 v4) : W5 (w.setCell ⟨b, 3, none⟩ u) b v0 v1 v2 u v4 := by
  obtain ⟨hl, c0, c1, c2, c3, c4, hz⟩ := h
  refine ⟨by simpa using hl, ?_, ?_, ?_, ?_, ?_, fun o => by rw [World.frozen?_setCell]; exact hz o⟩ <;> simp [go_sem, *]
theorem W5.set4 {w : World} {b : Nat} {v0 v1 v2 v3 v4 u : Value} (h : W5 w b v0 v1 v2 v3 v4) : W5 (w.setCell ⟨b, 4, none⟩ u) b v0 v1 v2 v3 u := by
  obtain ⟨hl, c0, c1, c2, c3, c4, hz⟩ := h
  refine ⟨by simpa using hl, ?_, ?_, ?_, ?_, ?_, fun o => by rw [World.frozen?_setCell]; exact hz o⟩ <;> simp [go_sem, *]
set_option maxRecDepth 100000 in
set_option maxHeartbeats 8000000 in
/-- spec.NfsFrom of a text whose sum is right. -/
theorem sNfsFrom_in (s : ByteArray) (hs : s.size ≤ 1048576) (hc : uC s = 0) (w : World) :
    Calls Try.prog 4 #[.string s] w (AnsP (nfO s) w) := by
  have hY : Hid (Wr2 (w.alloc (.cells #[.slice none 0 0, .int .i64 0] 24)) w.heap.size) := wr2_new w _
  have hW0 : Hid (Below w.heap.size w (w.alloc (.cells #[.slice none 0 0, .int .i64 0] 24))) := bel_alloc _ _
  have HU : Hid (∀ w, Calls Try.prog 9 #[.string s] w fun e w' => e = .returned (.agg #[.string (uT s), .int .i64 0, .int .i64 0]) ∧ Below w.heap.size w w') := (fun w => by have := sUns_any s (by unfold maxLen; omega) w; rwa [hc] at this)
  have HIL : Hid (∀ (c : Int) (w : World), Calls Try.prog 10 #[.int .i64 c] w fun e w' => e = .returned (.agg #[.slice none 0 0, .int .i64 c]) ∧ Below w.heap.size w w') := sIll5_any
  have hTz : (uT s).size ≤ 8000 := by have := (u_zero hc).2.2.2; omega
  have HNUM : Hid (∀ (σ : Nat × Bool) (X : Nat) (w : World), σ.1 ≤ (uT s).size → Rd w X (uT s) σ → Calls Try.prog 11 #[.pointer (some ⟨X, 0, none⟩)] w fun e w' => e = .returned (.int .i64 (rs1 (uT s) σ).1) ∧ Rd w' X (uT s) (rs1 (uT s) σ).2 ∧ NumW X w w') := (fun σ X w h1 h2 => sRdNum_any (uT s) hTz σ h1 w X h2)
  have HEND : Hid (∀ k, _ → _ → _) := rs_end hc
  have HLE : Hid (∀ k, (rsK (uT s) (rs1 (uT s) (0, false)).2 k).2.1 ≤ (uT s).size) := rsK_le (rs1_le (Nat.zero_le _))
  have HR1 : Hid (∀ σ : Nat × Bool, σ.1 ≤ (uT s).size → (rs1 (uT s) σ).2.1 ≤ (uT s).size) := (fun σ h => rs1_le h)
  have HKN : Hid (∀ k, rsK (uT s) (rs1 (uT s) (0, false)).2 (k + 1) = ((rsK (uT s) (rs1 (uT s) (0, false)).2 k).1 ++ [(rsAc (uT s) (rsK (uT s) (rs1 (uT s) (0, false)).2 k).2).1], (rsAc (uT s) (rsK (uT s) (rs1 (uT s) (0, false)).2 k).2).2)) := (fun k => rfl)
  have HKL : Hid (∀ k, (rsK (uT s) (rs1 (uT s) (0, false)).2 k).1.length = k) := rsK_len _ _
  have HAC : Hid (∀ σ, rsAc (uT s) σ = (⟨(rs1 (uT s) σ).1 == 1, (rs1 (uT s) (rs1 (uT s) σ).2).1, (rs1 (uT s) (rs1 (uT s) (rs1 (uT s) σ).2).2).1, (rs1 (uT s) (rs1 (uT s) (rs1 (uT s) (rs1 (uT s) σ).2).2).2).1, (rs1 (uT s) (rs1 (uT s) (rs1 (uT s) (rs1 (uT s) (rs1 (uT s) σ).2).2).2).2).1⟩, (rs1 (uT s) (rs1 (uT s) (rs1 (uT s) (rs1 (uT s) (rs1 (uT s) σ).2).2).2).2).2)) := (fun σ => rfl)
  have HNB : Hid (∀ (a : Option Addr) (len cap : Nat) (l : List Ac) (w : World), len ≤ 1048576 → Acs a len l w → Calls Try.prog 12 #[.slice a len cap] w fun e w' => e = .returned (.string (nbT l)) ∧ Below w.heap.size w w') := (fun a len cap l w h1 h2 => sNfsBytes_any a len cap l h1 w h2)
  have HK0 : Hid (rsK (uT s) (rs1 (uT s) (0, false)).2 0 = ([], (rs1 (uT s) (0, false)).2)) := rfl
  clear hs hc hTz
  generalize uT s = TX at HU HNUM HEND HLE HR1 HKN HKL HAC HK0
  have hN0 : Hid (∀ X w, Rd w X TX (0, false) → Calls Try.prog 11 #[.pointer (some ⟨X, 0, none⟩)] w fun e w' => e = .returned (.int .i64 (rs1 TX (0, false)).1) ∧ Rd w' X TX (rs1 TX (0, false)).2 ∧ NumW X w w') := (fun X w h => HNUM.out (0, false) X w (Nat.zero_le _) h)
  generalize hM : (rs1 TX (0, false)).1 = MANY at HEND hN0
  generalize hG1 : (rs1 TX (0, false)).2 = σ1 at HEND HLE HKN HKL HK0 hN0
  clear hM hG1
  go_enter Try.func4, Try.ntmps4
  go_wp2_with fail
  refine (HU.out _).mono ?_
  rintro e w1 ⟨rfl, hb1⟩
  have hY1 : Hid (Wr2 (w1.alloc (.cells #[.string TX, .int .i64 0, .int .i64 0] 30)) w.heap.size) := (hY.out.below hb1).below (bel_alloc _ _)
  have hW1 : Hid (Below w.heap.size w (w1.alloc (.cells #[.string TX, .int .i64 0, .int .i64 0] 30))) := Below.onA (Below.on hW0.out hb1)
  have hX1 : Hid (Box3 (w1.alloc (.cells #[.string TX, .int .i64 0, .int .i64 0] 30)) w1.heap.size (.string TX) (.int .i64 0) (.int .i64 0)) := box3_new w1 _ _ _ _
  clear hb1 hY hW0 HU
  go_upto_region 2 with fail
  generalize w1.alloc (.cells #[.string TX, .int .i64 0, .int .i64 0] 30) = wa at hY1 hW1 hX1 ⊢
  generalize w1.heap.size = X at hX1 ⊢
  obtain ⟨xl, x0, x1, x2⟩ := hX1.out
  have hS0 : Hid (StL wa TX (0, false) ((wa.alloc (.cells #[.string TX, .int .i64 0, .bool false] 35)).alloc (.cells #[] 38)) (.slice (some ⟨wa.heap.size + 1, 0, none⟩) 0 0) []) := (by
    have hz : (wa.alloc (.cells #[.string TX, .int .i64 0, .bool false] 35)).heap.size = wa.heap.size + 1 := by simp
    obtain ⟨rl, r0, r1, r2, rz⟩ := w3_new wa (.string TX) (.int .i64 0) (.bool false) 35
    have hrd : Rd (wa.alloc (.cells #[.string TX, .int .i64 0, .bool false] 35)) wa.heap.size TX (0, false) := ⟨rl, r0, r1, r2, rz⟩
    have hro := rowA_start (wa.alloc (.cells #[.string TX, .int .i64 0, .bool false] 35)) (wa.heap.size + 1) hz.symm 38
    refine ⟨hrd.below (bel_alloc _ _), ?_, by simp [Value.ownBlock], Below.on (bel_alloc _ _) (bel_alloc _ _)⟩
    obtain ⟨h0, ⟨h1, h2⟩ | ⟨g, cap, cur, h1, h2, h3⟩⟩ := hro
    · exact ⟨h0, .inl ⟨h1, h2⟩⟩
    · exact ⟨h0, .inr ⟨g, cap, cur, h1, by omega, h3⟩⟩)
  go_upto_region 6 with fail
  clear xl x0 x1 x2 hX1
  generalize ((wa.alloc (.cells #[.string TX, .int .i64 0, .bool false] 35)).alloc (.cells #[] 38)) = wb at hS0 ⊢
  go_wp2_with fail
  refine (hN0.out _ _ hS0.out.rd).mono ?_
  rintro e wc ⟨rfl, hrd1, hnw1⟩
  have hS1 : Hid (StL wa TX (rsK TX σ1 0).2 wc (.slice (some ⟨wa.heap.size + 1, 0, none⟩) 0 0) (rsK TX σ1 0).1) := (by
    show StL _ _ _ _ _ _
    rw [HK0.out]
    exact hS0.out.num hrd1 hnw1)
  clear hrd1 hnw1 hS0 hN0 HK0
  go_wp2
  go_loopw [5, 7] (fun v i wr => ∃ k : Nat, k ≤ 33 ∧ i = .int .i64 k ∧ Hid (StL wa TX (rsK TX σ1 k).2 wr v (rsK TX σ1 k).1) ∧ Hid (∀ j, j < k → (j : Int) < MANY ∧ (rsK TX σ1 j).2.2 = false)) (fun _ i _ => 33 - (intOf i).toNat)
  case atStart => exact ⟨0, by omega, rfl, hS1, fun j h => absurd h (by omega)⟩
  case round =>
    obtain ⟨k, hk, rfl, hS, hH⟩ := hrel
    have hkl := HKL.out k
    by_cases hgo : (k : Int) < MANY ∧ k ≤ 32 ∧ (rsK TX σ1 k).2.2 = false
    · obtain ⟨g1, g2, g3⟩ := hgo
      have g2' : (k : Int) ≤ 32 := by omega
      have hH2 : Hid (∀ j, j < k + 1 → (j : Int) < MANY ∧ (rsK TX σ1 j).2.2 = false) := (fun j hj => by
        by_cases e : j = k
        · subst e; exact ⟨g1, g3⟩
        · exact hH.out j (by omega))
      have hle0 : Hid ((rsK TX σ1 k).2.1 ≤ TX.size) := HLE.out k
      have HN1 : Hid _ := HKN.out k
      rw [HAC.out] at HN1
      generalize hA0 : (rsK TX σ1 k).1 = acc at hS HN1 hkl
      generalize hB0 : (rsK TX σ1 k).2 = τ0 at hS HN1 hle0 g3
      clear hA0 hB0 hH
      have hle1 : Hid ((rs1 TX τ0).2.1 ≤ TX.size) := HR1.out τ0 hle0.out
      have hle2 : Hid ((rs1 TX (rs1 TX τ0).2).2.1 ≤ TX.size) := HR1.out _ hle1.out
      have hle3 : Hid ((rs1 TX (rs1 TX (rs1 TX τ0).2).2).2.1 ≤ TX.size) := HR1.out _ hle2.out
      have hle4 : Hid ((rs1 TX (rs1 TX (rs1 TX (rs1 TX τ0).2).2).2).2.1 ≤ TX.size) := HR1.out _ hle3.out
      have d0 : Hid (∀ w, Rd w wa.heap.size TX τ0 → Calls Try.prog 11 #[.pointer (some ⟨wa.heap.size, 0, none⟩)] w fun e w' => e = .returned (.int .i64 (rs1 TX τ0).1) ∧ Rd w' wa.heap.size TX (rs1 TX τ0).2 ∧ NumW wa.heap.size w w') := (fun w h => HNUM.out τ0 _ w hle0.out h)
      have d1 : Hid (∀ w, Rd w wa.heap.size TX (rs1 TX τ0).2 → Calls Try.prog 11 #[.pointer (some ⟨wa.heap.size, 0, none⟩)] w fun e w' => e = .returned (.int .i64 (rs1 TX (rs1 TX τ0).2).1) ∧ Rd w' wa.heap.size TX (rs1 TX (rs1 TX τ0).2).2 ∧ NumW wa.heap.size w w') := (fun w h => HNUM.out _ _ w hle1.out h)
      have d2 : Hid (∀ w, Rd w wa.heap.size TX (rs1 TX (rs1 TX τ0).2).2 → Calls Try.prog 11 #[.pointer (some ⟨wa.heap.size, 0, none⟩)] w fun e w' => e = .returned (.int .i64 (rs1 TX (rs1 TX (rs1 TX τ0).2).2).1) ∧ Rd w' wa.heap.size TX (rs1 TX (rs1 TX (rs1 TX τ0).2).2).2 ∧ NumW wa.heap.size w w') := (fun w h => HNUM.out _ _ w hle2.out h)
      have d3 : Hid (∀ w, Rd w wa.heap.size TX (rs1 TX (rs1 TX (rs1 TX τ0).2).2).2 → Calls Try.prog 11 #[.pointer (some ⟨wa.heap.size, 0, none⟩)] w fun e w' => e = .returned (.int .i64 (rs1 TX (rs1 TX (rs1 TX (rs1 TX τ0).2).2).2).1) ∧ Rd w' wa.heap.size TX (rs1 TX (rs1 TX (rs1 TX (rs1 TX τ0).2).2).2).2 ∧ NumW wa.heap.size w w') := (fun w h => HNUM.out _ _ w hle3.out h)
      have d4 : Hid (∀ w, Rd w wa.heap.size TX (rs1 TX (rs1 TX (rs1 TX (rs1 TX τ0).2).2).2).2 → Calls Try.prog 11 #[.pointer (some ⟨wa.heap.size, 0, none⟩)] w fun e w' => e = .returned (.int .i64 (rs1 TX (rs1 TX (rs1 TX (rs1 TX (rs1 TX τ0).2).2).2).2).1) ∧ Rd w' wa.heap.size TX (rs1 TX (rs1 TX (rs1 TX (rs1 TX (rs1 TX τ0).2).2).2).2).2 ∧ NumW wa.heap.size w w') := (fun w h => HNUM.out _ _ w hle4.out h)
      clear hle0 hle1 hle2 hle3 hle4
      generalize (rs1 TX (rs1 TX (rs1 TX (rs1 TX (rs1 TX τ0).2).2).2).2).1 = n4 at d4 HN1
      generalize (rs1 TX (rs1 TX (rs1 TX (rs1 TX (rs1 TX τ0).2).2).2).2).2 = τ5 at d4 HN1
      generalize (rs1 TX (rs1 TX (rs1 TX (rs1 TX τ0).2).2).2).1 = n3 at d3 HN1
      generalize (rs1 TX (rs1 TX (rs1 TX (rs1 TX τ0).2).2).2).2 = τ4 at d3 d4
      generalize (rs1 TX (rs1 TX (rs1 TX τ0).2).2).1 = n2 at d2 HN1
      generalize (rs1 TX (rs1 TX (rs1 TX τ0).2).2).2 = τ3 at d2 d3
      generalize (rs1 TX (rs1 TX τ0).2).1 = n1 at d1 HN1
      generalize (rs1 TX (rs1 TX τ0).2).2 = τ2 at d1 d2
      generalize (rs1 TX τ0).1 = n0 at d0 HN1
      generalize (rs1 TX τ0).2 = τ1 at d0 d1
      obtain ⟨rl, r0, r1, r2, rz⟩ := hS.out.rd
      rw [g3] at r2
      go_wp2_with fail
      refine (d0.out _ hS.out.rd).mono ?_
      rintro e wd ⟨rfl, hr1, hn1⟩
      have hT0 := hS.out.num hr1 hn1
      have hST : Hid (StL wa TX τ1 (wd.alloc (.cells #[.bool (n0 == 1), .int .i64 0, .int .i64 0, .int .i64 0, .int .i64 0] 38)) u5 acc) := hT0.below (bel_alloc _ _)
      have hBX : Hid (W5 (wd.alloc (.cells #[.bool (n0 == 1), .int .i64 0, .int .i64 0, .int .i64 0, .int .i64 0] 38)) wd.heap.size (.bool (n0 == 1)) (.int .i64 0) (.int .i64 0) (.int .i64 0) (.int .i64 0)) := w5_new wd _ _ _ _ _ _
      have HYX : Hid (wa.heap.size < wd.heap.size ∧ u5.ownBlock ≠ some wd.heap.size) := ⟨hT0.rd.lt, fun e => absurd (hT0.ow.lt _ e).2 (Nat.lt_irrefl _)⟩
      clear hr1 hn1 hT0 rl r0 r1 r2 rz d0 hS
      go_upto_region 11 with fail
      generalize wd.alloc (.cells #[.bool (n0 == 1), .int .i64 0, .int .i64 0, .int .i64 0, .int .i64 0] 38) = w5 at hST hBX ⊢
      generalize wd.heap.size = Y at hBX HYX ⊢
      go_wp2_with fail
      refine (d1.out _ hST.out.rd).mono ?_
      rintro e wn ⟨rfl, hr1, hn1⟩
      have hSU : Hid _ := hST.out.num hr1 hn1
      have hBU : Hid _ := hBX.out.num hn1 (by have := HYX.out.1; omega)
      have hST1 : Hid (StL wa TX τ2 (wn.setCell ⟨Y, 1, none⟩ (.int .i64 n1)) u5 acc) := hSU.out.set HYX.out.1 HYX.out.2
      have hBX1 : Hid (W5 (wn.setCell ⟨Y, 1, none⟩ (.int .i64 n1)) Y (.bool (n0 == 1)) (.int .i64 n1) (.int .i64 0) (.int .i64 0) (.int .i64 0)) := hBU.out.set1
      clear hr1 hn1 hST hBX d1 hSU
      obtain ⟨bl, b0, b1, b2, b3, b4, bz⟩ := hBU.out
      have bz1 := bz 1
      clear bz
      go_upto_region 12 with fail
      generalize wn.setCell ⟨Y, 1, none⟩ (.int .i64 n1) = w5 at hST1 hBX1 ⊢
      clear bl b0 b1 b2 b3 b4 bz1 hBU
      have hST : Hid _ := hST1.out
      have hBX : Hid _ := hBX1.out
      clear hST1 hBX1
      go_wp2_with fail
      refine (d2.out _ hST.out.rd).mono ?_
      rintro e wn ⟨rfl, hr1, hn1⟩
      have hSU : Hid _ := hST.out.num hr1 hn1
      have hBU : Hid _ := hBX.out.num hn1 (by have := HYX.out.1; omega)
      have hST2 : Hid (StL wa TX τ3 (wn.setCell ⟨Y, 2, none⟩ (.int .i64 n2)) u5 acc) := hSU.out.set HYX.out.1 HYX.out.2
      have hBX2 : Hid (W5 (wn.setCell ⟨Y, 2, none⟩ (.int .i64 n2)) Y (.bool (n0 == 1)) (.int .i64 n1) (.int .i64 n2) (.int .i64 0) (.int .i64 0)) := hBU.out.set2
      clear hr1 hn1 hST hBX d2 hSU
      obtain ⟨bl, b0, b1, b2, b3, b4, bz⟩ := hBU.out
      have bz2 := bz 2
      clear bz
      go_upto_region 13 with fail
      generalize wn.setCell ⟨Y, 2, none⟩ (.int .i64 n2) = w5 at hST2 hBX2 ⊢
      clear bl b0 b1 b2 b3 b4 bz2 hBU
      have hST : Hid _ := hST2.out
      have hBX : Hid _ := hBX2.out
      clear hST2 hBX2
      go_wp2_with fail
      refine (d3.out _ hST.out.rd).mono ?_
      rintro e wn ⟨rfl, hr1, hn1⟩
      have hSU : Hid _ := hST.out.num hr1 hn1
      have hBU : Hid _ := hBX.out.num hn1 (by have := HYX.out.1; omega)
      have hST3 : Hid (StL wa TX τ4 (wn.setCell ⟨Y, 3, none⟩ (.int .i64 n3)) u5 acc) := hSU.out.set HYX.out.1 HYX.out.2
      have hBX3 : Hid (W5 (wn.setCell ⟨Y, 3, none⟩ (.int .i64 n3)) Y (.bool (n0 == 1)) (.int .i64 n1) (.int .i64 n2) (.int .i64 n3) (.int .i64 0)) := hBU.out.set3
      clear hr1 hn1 hST hBX d3 hSU
      obtain ⟨bl, b0, b1, b2, b3, b4, bz⟩ := hBU.out
      have bz3 := bz 3
      clear bz
      go_upto_region 14 with fail
      generalize wn.setCell ⟨Y, 3, none⟩ (.int .i64 n3) = w5 at hST3 hBX3 ⊢
      clear bl b0 b1 b2 b3 b4 bz3 hBU
      have hST : Hid _ := hST3.out
      have hBX : Hid _ := hBX3.out
      clear hST3 hBX3
      go_wp2_with fail
      refine (d4.out _ hST.out.rd).mono ?_
      rintro e wn ⟨rfl, hr1, hn1⟩
      have hSU : Hid _ := hST.out.num hr1 hn1
      have hBU : Hid _ := hBX.out.num hn1 (by have := HYX.out.1; omega)
      have hST4 : Hid (StL wa TX τ5 (wn.setCell ⟨Y, 4, none⟩ (.int .i64 n4)) u5 acc) := hSU.out.set HYX.out.1 HYX.out.2
      have hBX4 : Hid (W5 (wn.setCell ⟨Y, 4, none⟩ (.int .i64 n4)) Y (.bool (n0 == 1)) (.int .i64 n1) (.int .i64 n2) (.int .i64 n3) (.int .i64 n4)) := hBU.out.set4
      clear hr1 hn1 hST hBX d4 hSU
      obtain ⟨bl, b0, b1, b2, b3, b4, bz⟩ := hBU.out
      have bz4 := bz 4
      clear bz
      go_upto_region 15 with fail
      generalize wn.setCell ⟨Y, 4, none⟩ (.int .i64 n4) = w5 at hST4 hBX4 ⊢
      clear bl b0 b1 b2 b3 b4 bz4 hBU
      have hST : Hid _ := hST4.out
      have hBX : Hid _ := hBX4.out
      clear hST4 hBX4
      obtain ⟨v2, w6, hrr, hO6, hB6, hs6, hk6, hf6⟩ := append_aceG wa w5 u5 acc hST.out.ow hST.out.bl ⟨n0 == 1, n1, n2, n3, n4⟩ (by omega)
      have hST6 : Hid (StL wa TX (rsK TX σ1 (k + 1)).2 w6 v2 (rsK TX σ1 (k + 1)).1) := (by
        show StL _ _ _ _ _ _
        rw [HN1.out]
        refine ⟨hST.out.rd.keep hs6 (hk6 _ hST.out.rd.lt hST.out.nx), hO6, fun e => ?_, hB6⟩
        rcases hf6 _ e with h1 | h1
        · exact hST.out.nx h1
        · have := hST.out.rd.lt
          omega)
      have HRR : (Builtin.append_ #[22, 22] 22 #[u5, .slice (some ⟨w5.heap.size, 0, none⟩) 1 1]).run Try.prog (w5.alloc (.cells #[.bool (n0 == 1), .int .i64 n1, .int .i64 n2, .int .i64 n3, .int .i64 n4] 38)) = .ok v2 w6 := hrr
      clear hO6 hB6 hs6 hk6 hf6 hrr
      obtain ⟨bl, b0, b1, b2, b3, b4, bz⟩ := hBX.out
      clear bz hST
      go_wp2_with (at_builtin; refine wpList_append_runA _ rfl (.tmp 56) (.tmp 58) 22 22 rfl _ _ _ _ rfl rfl HRR ?_)
      clear HRR bl b0 b1 b2 b3 b4 hBX
      go_wp2
      go_roundw
      case rel => exact ⟨k + 1, by omega, by go_num, hST6, hH2⟩
      case measure => simp [intOf]; omega
    · have hfin := HEND.out k hH.out hgo
      have hstop : Hid ((¬ (k : Int) < MANY) ∨ ((k : Int) < MANY ∧ ¬ (k : Int) ≤ 32) ∨ ((k : Int) < MANY ∧ (k : Int) ≤ 32 ∧ (rsK TX σ1 k).2.2 = true)) := (by
        by_cases g1 : (k : Int) < MANY
        · by_cases g2 : k ≤ 32
          · refine .inr (.inr ⟨g1, by omega, ?_⟩)
            cases g3 : (rsK TX σ1 k).2.2
            · exact absurd ⟨g1, g2, g3⟩ hgo
            · rfl
          · exact .inr (.inl ⟨g1, by omega⟩)
        · exact .inl g1)
      obtain ⟨va, vc, hv, hOA, hin⟩ := ownA_of_row hS.out.ow
      subst hv
      have hFN : Hid _ := hfin
      have hYr : Hid (Wr2 wr w.heap.size) := hY1.out.below hS.out.bl
      have hWr : Hid (Below w.heap.size w wr) := Below.on hW1.out hS.out.bl
      have HLT : Hid (w.heap.size < wa.heap.size) := (show _ < _ from hY1.out.lt)
      have HNA : Hid (NewA w wr va (rsK TX σ1 k).1.length (rsK TX σ1 k).1) := ⟨hOA, fun A e => ⟨by have := (hin A e).1; have := HLT.out; omega, (hin A e).2⟩, hWr.out⟩
      have HNE : Hid (∀ A, va = some A → w.heap.size ≠ A.block) := (fun A e => by have := (hin A e).1; have := HLT.out; omega)
      have hRD : Hid _ := hS.out.rd
      have HBY : Hid (∀ w', Below wr.heap.size wr w' → Calls Try.prog 12 #[.slice va (rsK TX σ1 k).1.length vc] w' fun e w'' => e = .returned (.string (nbT (rsK TX σ1 k).1)) ∧ Below w'.heap.size w' w'') := (fun w' hb => HNB.out va _ vc _ w' (by omega) (hOA.acs.below hb))
      clear hfin hgo hH hS hOA hin HEND HLE HR1 HKN HKL HAC HNB HNUM hY1 hW1
      generalize hA0 : (rsK TX σ1 k).1 = acc at hFN HNA HBY hkl ⊢
      generalize hB0 : (rsK TX σ1 k).2 = τ at hFN hRD hstop
      obtain ⟨τa, τb⟩ := τ
      have hGL : Hid (acc.length = k) := hkl
      clear hA0 hB0 hkl
      obtain ⟨rl, r0, r1, r2, rz⟩ := hRD.out
      simp only at r1 r2
      clear rz
      rcases hstop.out with q | ⟨q, q2⟩ | ⟨q, q2, q3⟩
      all_goals (
        clear hstop
        rcases hFN.out with ⟨f1, f2⟩ | ⟨f1, f2, f3⟩ | ⟨f1, f2, f3⟩
        · simp only at f1
          subst f1
          have hO2 : Hid (nfO s = ([], 3)) := f2
          clear f2 hFN
          go_wp2_with fail
          refine (HIL.out 3 _).mono ?_
          rintro e w3 ⟨rfl, hb3⟩
          have hW3 : Hid (Below w.heap.size w w3) := Below.on hWr.out hb3
          have hY3 : Hid (Wr2 w3 w.heap.size) := hYr.out.below hb3
          clear hb3 rl r0 r1 r2
          obtain ⟨yl, y0, y1, yz⟩ := hY3.out
          have yz0 := yz 0
          have yz1 := yz 1
          clear yz
          go_wp2
          refine bodyPost_ret (v := .agg #[.slice none 0 0, .int .i64 3]) (by simp [results, Try.results4, go_sem, y0, y1]) rfl (ansP_ill hO2.out ?_)
          repeat (refine bl_setA ?_ (Nat.le_refl _))
          exact hW3.out
        · simp only at f1
          subst f1
          rw [f2] at HBY
          have hO2 : Hid (nfO s = (acc, 0)) := f3
          clear f2 f3 hFN
          first
            | (simp only at q3; exact absurd q3 (by decide))
            | (go_wp2_with fail
               refine (HBY.out _ (Below.refl _ _)).mono ?_
               rintro e w3 ⟨rfl, hb3⟩
               have hY3 : Hid (Wr2 w3 w.heap.size) := hYr.out.below hb3
               have HN3 : Hid (NewA w w3 va acc.length acc) := HNA.out.on hb3
               clear hb3 rl r0 r1 r2
               obtain ⟨yl, y0, y1, yz⟩ := hY3.out
               have yz0 := yz 0
               have yz1 := yz 1
               clear yz
               go_wp2
               refine bodyPost_ret (v := .agg #[.slice va acc.length vc, .int .i64 0]) (by simp [results, Try.results4, go_sem, y0, y1]) rfl (ansP_of hO2.out rfl ?_)
               repeat (refine NewA.set ?_ (Nat.le_refl _) HNE.out)
               exact HN3.out)
        · simp only at f1
          subst f1
          have e1 : ((nbT acc).toList == s.toList) = false := str_ne f2
          have hO2 : Hid (nfO s = ([], 3)) := f3
          clear f2 f3 hFN
          generalize nbT acc = BT at HBY e1
          first
            | (simp only at q3; exact absurd q3 (by decide))
            | (go_wp2_with fail
               refine (HBY.out _ (Below.refl _ _)).mono ?_
               rintro e w3 ⟨rfl, hb3⟩
               have hY3 : Hid (Wr2 w3 w.heap.size) := hYr.out.below hb3
               have hW3 : Hid (Below w.heap.size w w3) := Below.on hWr.out hb3
               clear hb3 rl r0 r1 r2
               go_wp2_with fail
               refine (HIL.out 3 _).mono ?_
               rintro e w4 ⟨rfl, hb4⟩
               have hY4 : Hid (Wr2 w4 w.heap.size) := hY3.out.below hb4
               have hW4 : Hid (Below w.heap.size w w4) := Below.on hW3.out hb4
               clear hb4
               obtain ⟨yl, y0, y1, yz⟩ := hY4.out
               have yz0 := yz 0
               have yz1 := yz 1
               clear yz
               go_wp2
               refine bodyPost_ret (v := .agg #[.slice none 0 0, .int .i64 3]) (by simp [results, Try.results4, go_sem, y0, y1]) rfl (ansP_ill hO2.out ?_)
               repeat (refine bl_setA ?_ (Nat.le_refl _))
               exact hW4.out))
set_option maxRecDepth 100000 in
set_option maxHeartbeats 4000000 in
/-- spec.NfsFrom. -/
theorem sNfsFrom_any (s : ByteArray) (hs : s.size ≤ 1048576) (w : World) :
    Calls Try.prog 4 #[.string s] w (AnsP (nfO s) w) := by
  by_cases hc : uC s = 0
  · exact sNfsFrom_in s hs hc w
  have hY : Hid (Wr2 (w.alloc (.cells #[.slice none 0 0, .int .i64 0] 24)) w.heap.size) := wr2_new w _
  have hW0 : Hid (Below w.heap.size w (w.alloc (.cells #[.slice none 0 0, .int .i64 0] 24))) := bel_alloc _ _
  have HU : Hid (∀ w, Calls Try.prog 9 #[.string s] w fun e w' => e = .returned (.agg #[.string (uT s), .int .i64 0, .int .i64 (uC s)]) ∧ Below w.heap.size w w') := sUns_any s (by unfold maxLen; omega)
  have HIL : Hid (∀ (c : Int) (w : World), Calls Try.prog 10 #[.int .i64 c] w fun e w' => e = .returned (.agg #[.slice none 0 0, .int .i64 c]) ∧ Below w.heap.size w w') := sIll5_any
  have hO : Hid (nfO s = ([], uC s)) := nfO_ill hc
  have g1 : (uC s == 0) = false := beq_eq_false_iff_ne.2 hc
  generalize uC s = CD at HU hO g1
  generalize uT s = TX at HU
  clear hc hs
  go_enter Try.func4, Try.ntmps4
  go_wp2_with fail
  refine (HU.out _).mono ?_
  rintro e w1 ⟨rfl, hb1⟩
  have hY1 : Hid (Wr2 (w1.alloc (.cells #[.string TX, .int .i64 0, .int .i64 CD] 30)) w.heap.size) := (hY.out.below hb1).below (bel_alloc _ _)
  have hW1 : Hid (Below w.heap.size w (w1.alloc (.cells #[.string TX, .int .i64 0, .int .i64 CD] 30))) := Below.onA (Below.on hW0.out hb1)
  have hX1 : Hid (Box3 (w1.alloc (.cells #[.string TX, .int .i64 0, .int .i64 CD] 30)) w1.heap.size (.string TX) (.int .i64 0) (.int .i64 CD)) := box3_new w1 _ _ _ _
  clear hb1 hY hW0 HU
  go_upto_region 2 with fail
  generalize w1.alloc (.cells #[.string TX, .int .i64 0, .int .i64 CD] 30) = w2 at hY1 hW1 hX1 ⊢
  generalize w1.heap.size = X at hX1 ⊢
  obtain ⟨xl, x0, x1, x2⟩ := hX1.out
  go_wp2_with fail
  refine (HIL.out CD _).mono ?_
  rintro e w3 ⟨rfl, hb3⟩
  have hW3 : Hid (Below w.heap.size w w3) := Below.on hW1.out hb3
  have hY3 : Hid (Wr2 w3 w.heap.size) := hY1.out.below hb3
  clear hb3 xl x0 x1 x2
  obtain ⟨yl, y0, y1, yz⟩ := hY3.out
  have yz0 := yz 0
  have yz1 := yz 1
  clear yz
  go_wp2
  refine bodyPost_ret (v := .agg #[.slice none 0 0, .int .i64 CD]) (by simp [results, Try.results4, go_sem, y0, y1]) rfl (ansP_ill hO.out ?_)
  repeat (refine bl_setA ?_ (Nat.le_refl _))
  exact hW3.out
end Go.Proofs.Ytddkmlkfphmdoab
