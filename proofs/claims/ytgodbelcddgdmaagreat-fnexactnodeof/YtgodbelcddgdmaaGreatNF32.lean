/- Laid together: OpenT. -/
import Derived.Test.YtgodbelcddgdmaaGreatNF4
import Derived.Deep.Slices
/- A tree that came in, opened: its nodes lie in the world. -/
namespace Go.Proofs.YtgodbelcddgdmaaGreat
open Go.RowKit Go.PlainAid Go.ChangeShapes Go.WideShapes Go.ChangeAt Go.Joins Go.Deep
set_option linter.unusedVariables false
theorem cI64 : Tryz.prog.cellsOf 2 = 1 := by kernel_rfl
theorem cStr : Tryz.prog.cellsOf 9 = 1 := by kernel_rfl
theorem cBool : Tryz.prog.cellsOf 4 = 1 := by kernel_rfl
theorem cAcl : Tryz.prog.cellsOf 56 = 7 := by kernel_rfl
theorem cNode : Tryz.prog.cellsOf 59 = 24 := by kernel_rfl
theorem cEnts : Tryz.prog.cellsOf 57 = 1 := by kernel_rfl
theorem cPrs : Tryz.prog.cellsOf 54 = 1 := by kernel_rfl
theorem cEnt : Tryz.prog.cellsOf 96 = 2 := by kernel_rfl
theorem cNmd : Tryz.prog.cellsOf 108 = 2 := by kernel_rfl
theorem nmAt_map (q : Nat → ByteArray × Int) (len i : Nat) (h : i < len) : nmAt ((List.range len).map q) i = (q i).1 := by simp [nmAt, List.getD, h]
theorem noAt_map (q : Nat → ByteArray × Int) (len i : Nat) (h : i < len) : noAt ((List.range len).map q) i = (q i).2 := by simp [noAt, List.getD, h]
theorem ndAt_map (q : Nat → Nd) (len i : Nat) (h : i < len) : ndAt ((List.range len).map q) i = q i := by simp [ndAt, List.getD, h]
/-- A slice of entries, opened as a list. -/
theorem open_ens {H : Type} {enc : TypeId × Value → H} {w : World} {base : Nat} {spare : Nat → Bool} {held : Bool} {fuel : Nat} {c : Value} {x : DataW H × List MemPlace} (h : DataW.trod enc Tryz.prog w base spare held fuel 57 [c] = some x) :
    ∃ (a : Option Addr) (len cap : Nat) (l : List (ByteArray × Int)), c = .slice a len cap ∧ Ens a len l w ∧ len ≤ maxLen ∧ ∀ i, i < len → (nmAt l i).size ≤ maxLen := by
  rcases open_slice_pairs Tryz.underlying57 Tryz.underlying96 cEnt rfl rfl cStr cI64 h with ⟨hc, _⟩ | ⟨a, len, cap, m, n, V0, V1, D0, D1, P0, P1, hc, _, hl, hm, hmm, _, hx⟩
  · exact ⟨none, 0, 0, [], by simpa using hc, ens_nil _ _, by omega, fun i hi => absurd hi (by omega)⟩
  · have hlm : len ≤ m := by rw [hmm]; split <;> omega
    have each : ∀ i, i < len → ∃ q : ByteArray × Int, w.cell? (a.add (i * 2)) = some (.string q.1) ∧ w.cell? (a.add (i * 2 + 1)) = some (.int .i64 q.2) ∧ q.1.size ≤ maxLen := by
      intro i hi
      obtain ⟨g0, g1, t0, t1⟩ := hx i (by omega)
      obtain ⟨n0, e0, _, hs⟩ := DataW.trod_string Tryz.underlying9 t0
      obtain ⟨n1, e1, _, _⟩ := DataW.trod_int Tryz.underlying2 t1
      simp at e0 e1
      exact ⟨(n0, n1), by rw [g0, e0], by rw [g1, e1], hs⟩
    obtain ⟨q, hq⟩ := choose_lt each
    refine ⟨some a, len, cap, (List.range len).map q, by simpa using hc, ⟨by simp, fun h0 => ?_⟩, by omega, fun i hi => by rw [nmAt_map q len i hi]; exact (hq i hi).2.2⟩
    obtain ⟨b, off, spot⟩ := a
    have hs : spot = none := by
      have := (hq 0 h0).1
      simpa [Addr.add] using World.cell?_spot this
    subst hs
    refine ⟨b, off, rfl, ?_, fun i hi => ?_⟩
    · have := (hq 0 h0).1
      rw [Addr.add_mid] at this
      exact block_lt_of_cell this
    · rw [nmAt_map q len i hi, noAt_map q len i hi]
      have h1 := hq i hi
      rw [Addr.add_mid, Addr.add_mid] at h1
      exact ⟨h1.1, h1.2.1⟩
/-- The cells of a list of names, opened. -/
theorem open_al {H : Type} {enc : TypeId × Value → H} {w : World} {base : Nat} {spare : Nat → Bool} {held : Bool} {fuel : Nat} {c0 c1 c2 c3 c4 c5 c6 : Value} {x : DataW H × List MemPlace} (h : DataW.trod enc Tryz.prog w base spare held fuel 56 [c0, c1, c2, c3, c4, c5, c6] = some x) :
    ∃ (A : Al) (aU : Option Addr) (cU : Nat) (aG : Option Addr) (cG : Nat), [c0, c1, c2, c3, c4, c5, c6] = alV A aU cU aG cG ∧ Prs aU A.us.length A.us w ∧ Prs aG A.gs.length A.gs w ∧ A.us.length ≤ maxLen ∧ A.gs.length ≤ maxLen := by
  obtain ⟨xs, k, _, _, _, hxl, hf⟩ := DataW.trod_struct Tryz.underlying56 h
  match xs, hxl with
  | [y0, y1, y2, y3, y4, y5, y6], _ =>
    have g0 : DataW.trod enc Tryz.prog w base spare held k 2 [c0] = some y0 := by
      have h0 : DataW.trod enc Tryz.prog w base spare held k 2 (List.take (Tryz.prog.cellsOf 2) (List.drop 0 [c0, c1, c2, c3, c4, c5, c6])) = some y0 := hf 0 _ rfl
      rw [cI64] at h0
      exact h0
    obtain ⟨n0, e0, _, _⟩ := DataW.trod_int Tryz.underlying2 g0
    simp at e0
    have g1 : DataW.trod enc Tryz.prog w base spare held k 2 [c1] = some y1 := by
      have h1 : DataW.trod enc Tryz.prog w base spare held k 2 (List.take (Tryz.prog.cellsOf 2) (List.drop 1 [c0, c1, c2, c3, c4, c5, c6])) = some y1 := hf 1 _ rfl
      rw [cI64] at h1
      exact h1
    obtain ⟨n1, e1, _, _⟩ := DataW.trod_int Tryz.underlying2 g1
    simp at e1
    have g2 : DataW.trod enc Tryz.prog w base spare held k 2 [c2] = some y2 := by
      have h2 : DataW.trod enc Tryz.prog w base spare held k 2 (List.take (Tryz.prog.cellsOf 2) (List.drop 2 [c0, c1, c2, c3, c4, c5, c6])) = some y2 := hf 2 _ rfl
      rw [cI64] at h2
      exact h2
    obtain ⟨n2, e2, _, _⟩ := DataW.trod_int Tryz.underlying2 g2
    simp at e2
    have g3 : DataW.trod enc Tryz.prog w base spare held k 54 [c3] = some y3 := by
      have h3 : DataW.trod enc Tryz.prog w base spare held k 54 (List.take (Tryz.prog.cellsOf 54) (List.drop 3 [c0, c1, c2, c3, c4, c5, c6])) = some y3 := hf 3 _ rfl
      rw [cPrs] at h3
      exact h3
    obtain ⟨a3, l3, p3, s3, e3, hp3, hm3⟩ := open_prs Tryz.underlying54 Tryz.underlying108 cNmd rfl rfl cI64 cI64 Tryz.underlying2 Tryz.underlying2 g3
    obtain rfl := hp3.1
    have g4 : DataW.trod enc Tryz.prog w base spare held k 54 [c4] = some y4 := by
      have h4 : DataW.trod enc Tryz.prog w base spare held k 54 (List.take (Tryz.prog.cellsOf 54) (List.drop 4 [c0, c1, c2, c3, c4, c5, c6])) = some y4 := hf 4 _ rfl
      rw [cPrs] at h4
      exact h4
    obtain ⟨a4, l4, p4, s4, e4, hp4, hm4⟩ := open_prs Tryz.underlying54 Tryz.underlying108 cNmd rfl rfl cI64 cI64 Tryz.underlying2 Tryz.underlying2 g4
    obtain rfl := hp4.1
    have g5 : DataW.trod enc Tryz.prog w base spare held k 4 [c5] = some y5 := by
      have h5 : DataW.trod enc Tryz.prog w base spare held k 4 (List.take (Tryz.prog.cellsOf 4) (List.drop 5 [c0, c1, c2, c3, c4, c5, c6])) = some y5 := hf 5 _ rfl
      rw [cBool] at h5
      exact h5
    obtain ⟨n5, e5, _⟩ := DataW.trod_bool Tryz.underlying4 g5
    simp at e5
    have g6 : DataW.trod enc Tryz.prog w base spare held k 2 [c6] = some y6 := by
      have h6 : DataW.trod enc Tryz.prog w base spare held k 2 (List.take (Tryz.prog.cellsOf 2) (List.drop 6 [c0, c1, c2, c3, c4, c5, c6])) = some y6 := hf 6 _ rfl
      rw [cI64] at h6
      exact h6
    obtain ⟨n6, e6, _, _⟩ := DataW.trod_int Tryz.underlying2 g6
    simp at e6
    subst e0 e1 e2 e3 e4 e5 e6
    exact ⟨⟨n0, n1, n2, s3, s4, n5, n6⟩, a3, p3, a4, p4, rfl, hp3, hp4, hm3, hm4⟩
set_option maxRecDepth 100000 in
set_option maxHeartbeats 4000000 in
/-- The cells of a node, opened. -/
theorem open_nd {H : Type} {enc : TypeId × Value → H} {w : World} {base : Nat} {spare : Nat → Bool} {held : Bool} {fuel : Nat} {cs : List Value} {x : DataW H × List MemPlace} (hlen : cs.length = 24) (h : DataW.trod enc Tryz.prog w base spare held fuel 59 cs = some x) :
    ∃ (d : Nd) (y : Na), cs = ndV d y ∧ NdIn w d y ∧ NdFit 9223372036854775807 d := by
  obtain ⟨xs, k, _, _, _, hxl, hf⟩ := DataW.trod_struct Tryz.underlying59 h
  match xs, hxl, cs, hlen with
  | [y0, y1, y2, y3, y4, y5, y6, y7, y8, y9, y10, y11], _, [v0, v1, v2, v3, v4, v5, v6, v7, v8, v9, v10, v11, v12, v13, v14, v15, v16, v17, v18, v19, v20, v21, v22, v23], _ =>
    have g0 : DataW.trod enc Tryz.prog w base spare held k 2 [v0] = some y0 := by
      have h0 : DataW.trod enc Tryz.prog w base spare held k 2 (List.take (Tryz.prog.cellsOf 2) (List.drop 0 [v0, v1, v2, v3, v4, v5, v6, v7, v8, v9, v10, v11, v12, v13, v14, v15, v16, v17, v18, v19, v20, v21, v22, v23])) = some y0 := hf 0 _ rfl
      rw [cI64] at h0
      exact h0
    obtain ⟨n0, e0, _, _⟩ := DataW.trod_int Tryz.underlying2 g0
    simp at e0
    have g1 : DataW.trod enc Tryz.prog w base spare held k 2 [v1] = some y1 := by
      have h1 : DataW.trod enc Tryz.prog w base spare held k 2 (List.take (Tryz.prog.cellsOf 2) (List.drop 1 [v0, v1, v2, v3, v4, v5, v6, v7, v8, v9, v10, v11, v12, v13, v14, v15, v16, v17, v18, v19, v20, v21, v22, v23])) = some y1 := hf 1 _ rfl
      rw [cI64] at h1
      exact h1
    obtain ⟨n1, e1, _, _⟩ := DataW.trod_int Tryz.underlying2 g1
    simp at e1
    have g2 : DataW.trod enc Tryz.prog w base spare held k 2 [v2] = some y2 := by
      have h2 : DataW.trod enc Tryz.prog w base spare held k 2 (List.take (Tryz.prog.cellsOf 2) (List.drop 2 [v0, v1, v2, v3, v4, v5, v6, v7, v8, v9, v10, v11, v12, v13, v14, v15, v16, v17, v18, v19, v20, v21, v22, v23])) = some y2 := hf 2 _ rfl
      rw [cI64] at h2
      exact h2
    obtain ⟨n2, e2, _, _⟩ := DataW.trod_int Tryz.underlying2 g2
    simp at e2
    have g3 : DataW.trod enc Tryz.prog w base spare held k 2 [v3] = some y3 := by
      have h3 : DataW.trod enc Tryz.prog w base spare held k 2 (List.take (Tryz.prog.cellsOf 2) (List.drop 3 [v0, v1, v2, v3, v4, v5, v6, v7, v8, v9, v10, v11, v12, v13, v14, v15, v16, v17, v18, v19, v20, v21, v22, v23])) = some y3 := hf 3 _ rfl
      rw [cI64] at h3
      exact h3
    obtain ⟨n3, e3, _, _⟩ := DataW.trod_int Tryz.underlying2 g3
    simp at e3
    have g4 : DataW.trod enc Tryz.prog w base spare held k 56 [v4, v5, v6, v7, v8, v9, v10] = some y4 := by
      have h4 : DataW.trod enc Tryz.prog w base spare held k 56 (List.take (Tryz.prog.cellsOf 56) (List.drop 4 [v0, v1, v2, v3, v4, v5, v6, v7, v8, v9, v10, v11, v12, v13, v14, v15, v16, v17, v18, v19, v20, v21, v22, v23])) = some y4 := hf 4 _ rfl
      rw [cAcl] at h4
      exact h4
    obtain ⟨A4, aU4, cU4, aG4, cG4, e4, hu4, hg4, mu4, mg4⟩ := open_al g4
    simp only [alV, List.cons.injEq, and_true] at e4
    obtain ⟨q4_0, q4_1, q4_2, q4_3, q4_4, q4_5, q4_6⟩ := e4
    have g5 : DataW.trod enc Tryz.prog w base spare held k 4 [v11] = some y5 := by
      have h5 : DataW.trod enc Tryz.prog w base spare held k 4 (List.take (Tryz.prog.cellsOf 4) (List.drop 11 [v0, v1, v2, v3, v4, v5, v6, v7, v8, v9, v10, v11, v12, v13, v14, v15, v16, v17, v18, v19, v20, v21, v22, v23])) = some y5 := hf 5 _ rfl
      rw [cBool] at h5
      exact h5
    obtain ⟨n5, e5, _⟩ := DataW.trod_bool Tryz.underlying4 g5
    simp at e5
    have g6 : DataW.trod enc Tryz.prog w base spare held k 56 [v12, v13, v14, v15, v16, v17, v18] = some y6 := by
      have h6 : DataW.trod enc Tryz.prog w base spare held k 56 (List.take (Tryz.prog.cellsOf 56) (List.drop 12 [v0, v1, v2, v3, v4, v5, v6, v7, v8, v9, v10, v11, v12, v13, v14, v15, v16, v17, v18, v19, v20, v21, v22, v23])) = some y6 := hf 6 _ rfl
      rw [cAcl] at h6
      exact h6
    obtain ⟨A6, aU6, cU6, aG6, cG6, e6, hu6, hg6, mu6, mg6⟩ := open_al g6
    simp only [alV, List.cons.injEq, and_true] at e6
    obtain ⟨q6_0, q6_1, q6_2, q6_3, q6_4, q6_5, q6_6⟩ := e6
    have g7 : DataW.trod enc Tryz.prog w base spare held k 2 [v19] = some y7 := by
      have h7 : DataW.trod enc Tryz.prog w base spare held k 2 (List.take (Tryz.prog.cellsOf 2) (List.drop 19 [v0, v1, v2, v3, v4, v5, v6, v7, v8, v9, v10, v11, v12, v13, v14, v15, v16, v17, v18, v19, v20, v21, v22, v23])) = some y7 := hf 7 _ rfl
      rw [cI64] at h7
      exact h7
    obtain ⟨n7, e7, _, _⟩ := DataW.trod_int Tryz.underlying2 g7
    simp at e7
    have g8 : DataW.trod enc Tryz.prog w base spare held k 2 [v20] = some y8 := by
      have h8 : DataW.trod enc Tryz.prog w base spare held k 2 (List.take (Tryz.prog.cellsOf 2) (List.drop 20 [v0, v1, v2, v3, v4, v5, v6, v7, v8, v9, v10, v11, v12, v13, v14, v15, v16, v17, v18, v19, v20, v21, v22, v23])) = some y8 := hf 8 _ rfl
      rw [cI64] at h8
      exact h8
    obtain ⟨n8, e8, _, _⟩ := DataW.trod_int Tryz.underlying2 g8
    simp at e8
    have g9 : DataW.trod enc Tryz.prog w base spare held k 9 [v21] = some y9 := by
      have h9 : DataW.trod enc Tryz.prog w base spare held k 9 (List.take (Tryz.prog.cellsOf 9) (List.drop 21 [v0, v1, v2, v3, v4, v5, v6, v7, v8, v9, v10, v11, v12, v13, v14, v15, v16, v17, v18, v19, v20, v21, v22, v23])) = some y9 := hf 9 _ rfl
      rw [cStr] at h9
      exact h9
    obtain ⟨n9, e9, _, hs9⟩ := DataW.trod_string Tryz.underlying9 g9
    simp at e9
    have g10 : DataW.trod enc Tryz.prog w base spare held k 57 [v22] = some y10 := by
      have h10 : DataW.trod enc Tryz.prog w base spare held k 57 (List.take (Tryz.prog.cellsOf 57) (List.drop 22 [v0, v1, v2, v3, v4, v5, v6, v7, v8, v9, v10, v11, v12, v13, v14, v15, v16, v17, v18, v19, v20, v21, v22, v23])) = some y10 := hf 10 _ rfl
      rw [cEnts] at h10
      exact h10
    obtain ⟨a10, l10, p10, s10, e10, hp10, hm10, hz10⟩ := open_ens g10
    obtain rfl := hp10.1
    have g11 : DataW.trod enc Tryz.prog w base spare held k 2 [v23] = some y11 := by
      have h11 : DataW.trod enc Tryz.prog w base spare held k 2 (List.take (Tryz.prog.cellsOf 2) (List.drop 23 [v0, v1, v2, v3, v4, v5, v6, v7, v8, v9, v10, v11, v12, v13, v14, v15, v16, v17, v18, v19, v20, v21, v22, v23])) = some y11 := hf 11 _ rfl
      rw [cI64] at h11
      exact h11
    obtain ⟨n11, e11, _, _⟩ := DataW.trod_int Tryz.underlying2 g11
    simp at e11
    subst e0 e1 e2 e3 q4_0 q4_1 q4_2 q4_3 q4_4 q4_5 q4_6 e5 q6_0 q6_1 q6_2 q6_3 q6_4 q6_5 q6_6 e7 e8 e9 e10 e11
    unfold maxLen at *
    exact ⟨⟨n0, n1, n2, n3, A4, n5, A6, n7, n8, n9, s10, n11⟩, ⟨aU4, cU4, aG4, cG4, aU6, cU6, aG6, cG6, a10, p10⟩, rfl, ⟨hu4, hg4, hu6, hg6, hp10⟩, ⟨mu4, mg4, mu6, mg6, hs9, hm10, hz10⟩⟩
/-- A slice of nodes, opened as a list. -/
theorem open_nds {H : Type} {enc : TypeId × Value → H} {w : World} {base : Nat} {spare : Nat → Bool} {held : Bool} {fuel : Nat} {c : Value} {x : DataW H × List MemPlace} (h : DataW.trod enc Tryz.prog w base spare held fuel 22 [c] = some x) :
    ∃ (a : Option Addr) (len cap : Nat) (l : List Nd), c = .slice a len cap ∧ Nds a len l w ∧ len ≤ 9223372036854775807 ∧ ∀ i, i < len → NdFit 9223372036854775807 (ndAt l i) := by
  rcases open_slice Tryz.underlying22 h with ⟨hc, _⟩ | ⟨a, len, cap, m, n, D, Pl, hc, _, hl, hm, hmm, _, hx⟩
  · exact ⟨none, 0, 0, [], by simpa using hc, nds_nil _ _, by omega, fun i hi => absurd hi (by omega)⟩
  · have hlm : len ≤ m := by rw [hmm]; split <;> omega
    have each : ∀ i, i < len → ∃ q : Nd × Na, (∀ j v, (ndV q.1 q.2)[j]? = some v → w.cell? ((a.add (i * 24)).add j) = some v) ∧ NdIn w q.1 q.2 ∧ NdFit 9223372036854775807 q.1 := by
      intro i hi
      obtain ⟨cs', h1, h2⟩ := hx i (by omega)
      rw [cNode] at h1
      obtain ⟨_, hlen, hcell⟩ := World.cells?_some h1
      obtain ⟨d, y, rfl, hin, hfit⟩ := open_nd hlen h2
      refine ⟨(d, y), fun j v hv => ?_, hin, hfit⟩
      have hj : j < 24 := (List.getElem?_eq_some_iff.1 hv).1
      have h3 := hcell j hj
      rw [h3]
      first | exact hv | simpa using hv
    haveI : Inhabited (Nd × Na) := ⟨(ndZ, naZ)⟩
    obtain ⟨q, hq⟩ := choose_lt each
    refine ⟨some a, len, cap, (List.range len).map (fun i => (q i).1), by simpa using hc, ⟨by simp, fun h0 => ?_⟩, by unfold maxLen at hm; omega, fun i hi => by rw [ndAt_map _ len i hi]; exact (hq i hi).2.2⟩
    obtain ⟨b, off, spot⟩ := a
    have hs : spot = none := by
      have := (hq 0 h0).1 0 _ rfl
      simpa [Addr.add] using World.cell?_spot this
    subst hs
    refine ⟨b, off, fun i => (q i).2, rfl, ?_, fun i hi => ?_⟩
    · have := (hq 0 h0).1 0 _ rfl
      rw [Addr.add_mid, Addr.add_mid] at this
      exact block_lt_of_cell this
    · rw [ndAt_map _ len i hi]
      refine ⟨fun j v hv => ?_, (hq i hi).2.1⟩
      have := (hq i hi).1 j v hv
      rwa [Addr.add_mid, Addr.add_mid] at this
end Go.Proofs.YtgodbelcddgdmaaGreat
