/- Laid together: IAb. -/
import Derived.Test.YtgooanaacebncaaGreatDoorAT34
import Derived.Deep.RegionLaw
import Derived.Deep.Cut
/- A list of names as bytes: nameless, appendEntries, AclBytes of the program. -/
namespace Go.Proofs.YtgooanaacebncaaGreatDoor
open Go.RowKit Go.PlainAid Go.Deep
set_option linter.unusedVariables false
theorem infoBy : (Tryz.prog.info? 5).map (fun i => (i.zero, i.size, i.bytes)) = some (some (.int .u8 0), 1, 1) := by kernel_rfl
theorem bytes_new (w : World) (x : List UInt8) (t : TypeId) : ∀ (j : Nat) u, (Lib.byteCells x)[j]? = some u → (w.alloc (.cells (Lib.byteCells x).toArray t)).cell? ((⟨w.heap.size, 0, none⟩ : Addr).add j) = some u := by
  intro j u hj
  have hb : (w.alloc (.cells (Lib.byteCells x).toArray t)).heap[w.heap.size]? = some (.cells (Lib.byteCells x).toArray t) := by
    rw [World.alloc]
    exact Array.getElem?_push_size
  rw [addr_add0]
  simp only [World.cell?, hb, Nat.zero_add]
  simpa using hj
theorem byte_one (x : List UInt8) : ∀ u ∈ Lib.byteCells x, u.oneCell' = true := by
  intro u hu
  simp only [Lib.byteCells, List.mem_map] at hu
  obtain ⟨b, _, rfl⟩ := hu
  rfl
theorem byteCells_app (l x : List UInt8) : Lib.byteCells (l ++ x) = Lib.byteCells l ++ Lib.byteCells x := by simp [Lib.byteCells]
/-- append of some bytes: what it leaves, and where the row lies then. -/
theorem append_bytes (w0 w : World) (v : Value) (l x : List UInt8) (hown : w.ownsRow w0.heap.size 5 1 v l.length (Lib.byteCells l)) (hB : Below w0.heap.size w0 w) (hx0 : 0 < x.length) (hx : x.length ≤ 1000) (hsm : l.length ≤ 1000000) :
    ∃ v' w', (Builtin.append_ #[22, 22] 22 #[v, .slice (some ⟨w.heap.size, 0, none⟩) x.length x.length]).run Tryz.prog (w.alloc (.cells (Lib.byteCells x).toArray 5)) = .ok v' w' ∧ w'.ownsRow w0.heap.size 5 1 v' (l ++ x).length (Lib.byteCells (l ++ x)) ∧ Below w0.heap.size w0 w' ∧ w.heap.size ≤ w'.heap.size ∧ (∀ b, b < w.heap.size → v.ownBlock ≠ some b → w'.heap[b]? = w.heap[b]?) ∧ (∀ k, v'.ownBlock = some k → v.ownBlock = some k ∨ w.heap.size ≤ k) := by
  obtain ⟨i, hi, hzz⟩ := Option.map_eq_some_iff.1 infoBy
  simp only [Prod.mk.injEq] at hzz
  obtain ⟨hz, hs, hb⟩ := hzz
  have hb1 := bel_alloc w (.cells (Lib.byteCells x).toArray 5)
  have hB1 := Below.on hB hb1
  have hown1 := rowP_below hown hb1
  have hnw := bytes_new w x 5
  have hone := byte_one x
  have hxl : (Lib.byteCells x).length = x.length * 1 := by rw [Lib.byteCells_length, Nat.mul_one]
  obtain ⟨v', w', hr, h1, h2, _⟩ := run_append_own (P := Tryz.prog) _ w0.heap.size 22 22 5 i _ 1 1 Tryz.underlying22 hi hz hs hb rfl (by decide) v l.length (Lib.byteCells l) hown1 ⟨w.heap.size, 0, none⟩ x.length x.length (Lib.byteCells x) hxl hnw hone (by unfold maxLen; omega) (by omega) hB1.size
  have hsz : w.heap.size ≤ w'.heap.size := Nat.le_trans (by simp) h2.size
  refine ⟨v', w', hr, ?_, hB1.grown h2 hB1.size (own_blockN hown1), hsz, fun b hlt hne => (h2.block b (by simp; omega) (fun e => hne e.symm)).trans (hb1.block b hlt), ?_⟩
  · rw [byteCells_app, List.length_append]
    exact h1
  · have hbase : w.heap.size ≤ (w.alloc (.cells (Lib.byteCells x).toArray 5)).heap.size := by simp
    generalize w.alloc (.cells (Lib.byteCells x).toArray 5) = W at *
    have hl1 : (Lib.byteCells x).length = x.length * i.size := by rw [hs]; exact hxl
    have hb16 : ∀ n : Nat, n ≤ 2000000 → n * i.bytes ≤ 140737488355328 := fun n hn => by rw [hb]; omega
    rcases hown1.2 with ⟨rfl, hn⟩ | ⟨g, cap, cur, rfl, hbg, hg, hnc, hcm, hcs, htake⟩
    · have hr2 := run_append_nil (P := Tryz.prog) W 22 22 5 i _ Tryz.underlying22 hi hz ⟨w.heap.size, 0, none⟩ x.length x.length (Lib.byteCells x) hl1 hnw (by omega) (by omega) (by rw [hb]; omega)
      rw [hr2] at hr
      cases hr
      intro k hk
      simp [Value.ownBlock] at hk
      exact .inr (by omega)
    · by_cases hroom : l.length + x.length ≤ cap
      · have hr2 := run_append_room (P := Tryz.prog) W 22 22 5 i Tryz.underlying22 hi g l.length cap cur hg ⟨w.heap.size, 0, none⟩ x.length x.length (Lib.byteCells x) hl1 hnw hone hroom (by rw [hs, Lib.byteCells_length, hcs]; show l.length * 1 + x.length ≤ cap * 1; omega)
        rw [hr2] at hr
        cases hr
        intro k hk
        exact .inl hk
      · have hr2 := run_append_grow (P := Tryz.prog) W 22 22 5 i _ Tryz.underlying22 hi hz ⟨g, 0, none⟩ l.length cap (Lib.byteCells l) (by rw [hs]; exact hown1.1) (hown1.cells (g := g) rfl) ⟨w.heap.size, 0, none⟩ x.length x.length (Lib.byteCells x) hl1 hnw (by omega) (by omega) (growslice_fits (by omega) (hb16 _ (by omega)))
        rw [hr2] at hr
        cases hr
        intro k hk
        simp [Value.ownBlock] at hk
        exact .inr (by omega)
/-- impl.nameless. -/
theorem iNameless_any (b : Int) (w : World) :
    Calls Tryz.prog 25 #[.int .i64 b] w fun e w' => e = .returned (.agg #[.int .i64 65535, .int .i64 b]) ∧ Below w.heap.size w w' := by
  go_enter Tryz.func25, Tryz.ntmps25
  go_wp2
  exact bodyPost_ret (v := .agg #[.int .i64 65535, .int .i64 b]) (by simp [results, Tryz.results25, go_sem]) rfl ⟨rfl, (Below.refl _ _).alloc (Nat.le_refl _) _⟩
/-- A list's block is as it was, and none of the row's. -/
def KeepB (len : Nat) (a : Option Addr) (w wr : World) (v : Value) : Prop := w.heap.size ≤ wr.heap.size ∧ ∀ A, 0 < len → a = some A → wr.heap[A.block]? = w.heap[A.block]? ∧ v.ownBlock ≠ some A.block
/-- Ids and bits that may be written. -/
def PrsWr (l : List (Int × Int)) : Prop := ∀ k, k < l.length → (0 ≤ idAt l k ∧ idAt l k ≤ 65535) ∧ (0 ≤ btAt l k ∧ btAt l k ≤ 7)
set_option maxRecDepth 100000 in
set_option maxHeartbeats 4000000 in
/-- impl.appendEntries. -/
theorem iAppE_any (w0 w : World) (v : Value) (acc : List UInt8) (hown : w.ownsRow w0.heap.size 5 1 v acc.length (Lib.byteCells acc)) (hB : Below w0.heap.size w0 w) (hacc : acc.length ≤ 1000) (kd : Nat) (hkd : kd < 256) (a : Option Addr) (len cap : Nat) (l : List (Int × Int)) (hl : len ≤ 6) (hid : PrsWr l) (hi : Prs a len l w) (hne : ∀ A, 0 < len → a = some A → v.ownBlock ≠ some A.block) :
    Calls Tryz.prog 24 #[v, .int .u8 kd, .slice a len cap] w fun e w' => ∃ v', e = .returned v' ∧ w'.ownsRow w0.heap.size 5 1 v' (acc ++ flE (nmEn kd l)).length (Lib.byteCells (acc ++ flE (nmEn kd l))) ∧ Below w0.heap.size w0 w' := by
  have HL : Hid (∀ k, k ≤ len → (acc ++ flE (nmEn kd (l.take k))).length ≤ 1024) := (fun k hk => by rw [List.length_append, flE_len]; simp [nmEn]; omega)
  have HN : Hid (∀ k, k < len → acc ++ flE (nmEn kd (l.take (k + 1))) = acc ++ flE (nmEn kd (l.take k)) ++ ebL kd (btAt l k) (idAt l k)) := (fun k hk => by
    rw [take_next2 (by rw [hi.1]; exact hk)]
    simp [nmEn, flE_app, flE_one, ebE])
  have HO : Hid (∀ k, k < len → (0 ≤ idAt l k ∧ idAt l k ≤ 65535) ∧ (0 ≤ btAt l k ∧ btAt l k ≤ 7)) := (fun k hk => hid k (by rw [hi.1]; exact hk))
  have HE : Hid (l.take len = l) := (by show _ = _; rw [← hi.1, List.take_length])
  have HI : Hid (Prs a len l w) := hi
  have HOW : Hid (w.ownsRow w0.heap.size 5 1 v (acc ++ flE (nmEn kd (l.take 0))).length (Lib.byteCells (acc ++ flE (nmEn kd (l.take 0))))) := (by simpa [nmEn, flE_nil, Hid] using hown)
  have HB0 : Hid (Below w0.heap.size w0 w) := hB
  have HK0 : Hid (KeepB len a w w v) := ⟨Nat.le_refl _, fun A h e => ⟨rfl, hne A h e⟩⟩
  clear hi hid hown hB hne hacc
  go_enter Tryz.func24, Tryz.ntmps24
  go_wp2
  go_loopw [0, 11] (fun u i wr => ∃ k : Nat, k ≤ len ∧ i = .int .i64 k ∧ Hid (wr.ownsRow w0.heap.size 5 1 u (acc ++ flE (nmEn kd (l.take k))).length (Lib.byteCells (acc ++ flE (nmEn kd (l.take k))))) ∧ Hid (Below w0.heap.size w0 wr) ∧ Hid (KeepB len a w wr u)) (fun _ i _ => len - (intOf i).toNat)
  case atStart => exact ⟨0, Nat.zero_le _, rfl, HOW, HB0, HK0⟩
  case round =>
    obtain ⟨k, hk, rfl, hOw, hBw, hKw⟩ := hrel
    by_cases hlt : k < len
    · have hlt' : (k : Int) < (len : Int) := by omega
      obtain ⟨b, off, rfl, hbl, hcl⟩ := HI.out.2 (by omega)
      obtain ⟨hk1, hk2⟩ := hKw.out.2 _ (by omega) rfl
      have c0 : wr.cell? ⟨b, off + k * 2, none⟩ = some (.int .i64 (idAt l k)) := (World.cell?_of_block (a := ⟨b, off + k * 2, none⟩) hk1).trans (hcl k hlt).1
      have c1 : wr.cell? ⟨b, off + k * 2 + 1, none⟩ = some (.int .i64 (btAt l k)) := (World.cell?_of_block (a := ⟨b, off + k * 2 + 1, none⟩) hk1).trans (hcl k hlt).2
      have hn : Hid (acc ++ flE (nmEn kd (l.take (k + 1))) = acc ++ flE (nmEn kd (l.take k)) ++ ebL kd (btAt l k) (idAt l k)) := HN.out k hlt
      obtain ⟨⟨i0, i9⟩, b0, b7⟩ := HO.out k hlt
      have hlen := HL.out k hk
      have hbs : b < wr.heap.size := Nat.lt_of_lt_of_le hbl hKw.out.1
      clear hcl
      generalize hA : acc ++ flE (nmEn kd (l.take k)) = AC at hOw hn hlen
      clear hA
      generalize idAt l k = x at c0 hn i0 i9
      generalize btAt l k = y at c1 hn b0 b7
      go_upto_region 4 with fail
      obtain ⟨p0, p1⟩ := pair_new wr (.int .i64 x) (.int .i64 y) 45
      have HB1 : Hid (Below w0.heap.size w0 (wr.alloc (.cells #[.int .i64 x, .int .i64 y] 45))) := Below.onA hBw.out
      have HO1 : Hid ((wr.alloc (.cells #[.int .i64 x, .int .i64 y] 45)).ownsRow w0.heap.size 5 1 u0 AC.length (Lib.byteCells AC)) := rowP_below hOw.out (bel_alloc _ _)
      have HKK : Hid (w.heap.size ≤ (wr.alloc (.cells #[.int .i64 x, .int .i64 y] 45)).heap.size ∧ b < (wr.alloc (.cells #[.int .i64 x, .int .i64 y] 45)).heap.size ∧ (wr.alloc (.cells #[.int .i64 x, .int .i64 y] 45)).heap[b]? = w.heap[b]? ∧ u0.ownBlock ≠ some b) := ⟨Nat.le_trans hKw.out.1 (by simp), Nat.lt_of_lt_of_le hbs (by simp), ((bel_alloc wr _).block b hbs).trans hk1, hk2⟩
      clear c0 c1 hOw hBw hKw hk1 hk2 hbs hbl
      generalize wr.alloc (.cells #[.int .i64 x, .int .i64 y] 45) = w1 at HB1 HO1 HKK p0 p1 ⊢
      generalize wr.heap.size = X at p0 p1 ⊢
      obtain ⟨v2, w2, hr, hO2, hB2, hs2, hkp2, hf2⟩ := append_bytes w0 w1 u0 AC (ebL kd y x) HO1.out HB1.out (by show 0 < (4 : Nat); omega) (by show (4 : Nat) ≤ 1000; omega) (by omega)
      rw [← hn.out] at hO2
      rw [← ebL_row hkd ⟨b0, b7⟩ ⟨i0, i9⟩] at hr
      have HO2 : Hid _ := hO2
      have HB2 : Hid _ := hB2
      have HK2 : Hid (KeepB len (some ⟨b, off, none⟩) w w2 v2) := ⟨Nat.le_trans HKK.out.1 hs2, fun A _ e => by
        cases e
        refine ⟨(hkp2 b HKK.out.2.1 HKK.out.2.2.2).trans HKK.out.2.2.1, fun e2 => ?_⟩
        rcases hf2 _ e2 with h1 | h1
        · exact HKK.out.2.2.2 h1
        · have := HKK.out.2.1
          have h3 : w1.heap.size ≤ b := h1
          omega⟩
      have hr' : (Builtin.append_ #[22, 22] 22 #[u0, .slice (some ⟨w1.heap.size, 0, none⟩) 4 4]).run Tryz.prog (w1.alloc (.cells #[.int .u8 kd, .int .u8 y, .int .u8 (x / 256), .int .u8 (x % 256)] 5)) = .ok v2 w2 := hr
      clear hO2 hB2 hs2 hkp2 hf2 hr hn HKK
      go_wp2_with (at_builtin; refine wpList_append_runT _ rfl (.tmp 15) (.tmp 27) 22 22 rfl _ _ _ _ rfl rfl hr' ?_)
      clear hr' p0 p1
      go_wp2
      go_roundw
      case rel => exact ⟨k + 1, by omega, by go_num, HO2, HB2, HK2⟩
      case measure => simp [intOf]; omega
    · have : k = len := by omega
      subst this
      rw [HE.out] at hOw
      go_wp2
      go_ret
      exact ⟨_, rfl, hOw.out, hBw.out⟩
theorem prs_oneB (w : World) (x y : Int) (t : TypeId) : Prs (some ⟨w.heap.size, 0, none⟩) 1 [(x, y)] (w.alloc (.cells #[.int .i64 x, .int .i64 y] t)) := by
  obtain ⟨p0, p1⟩ := pair_new w (.int .i64 x) (.int .i64 y) t
  refine ⟨rfl, fun _ => ⟨w.heap.size, 0, rfl, by simp, fun i hi => ?_⟩⟩
  obtain rfl : i = 0 := by omega
  exact ⟨p0, p1⟩
theorem own_oneB (w : World) (b : UInt8) (y : Int) (hy : y = (b.toNat : Int)) (B : Nat) (h : B ≤ w.heap.size) : (w.alloc (.cells #[.int .u8 y] 5)).ownsRow B 5 1 (.slice (some ⟨w.heap.size, 0, none⟩) 1 1) [b].length (Lib.byteCells [b]) := by
  subst hy
  refine ⟨rfl, .inr ⟨w.heap.size, 1, #[.int .u8 (b.toNat : Int)], rfl, h, ?_, Nat.le_refl _, by unfold maxLen; decide, rfl, rfl⟩⟩
  rw [World.alloc]
  exact Array.getElem?_push_size
/-- The row that is being written: w0 is the world in which the writing began. -/
structure RowB (w0 w : World) (v : Value) (acc : List UInt8) : Prop where
  o : w.ownsRow w0.heap.size 5 1 v acc.length (Lib.byteCells acc)
  b : Below w0.heap.size w0 w
theorem RowB.below {w0 w w' : World} {v : Value} {acc : List UInt8} (h : RowB w0 w v acc) (hb : Below w.heap.size w w') : RowB w0 w' v acc := ⟨rowP_below h.o hb, Below.on h.b hb⟩
/-- impl.appendEntries of one entry without an id. -/
theorem iAppE_one (w0 w : World) (v : Value) (acc : List UInt8) (h : RowB w0 w v acc) (hacc : acc.length ≤ 1000) (kd : Nat) (hkd : kd < 256) (b : Int) (hb : 0 ≤ b ∧ b ≤ 7) :
    Calls Tryz.prog 24 #[v, .int .u8 kd, .slice (some ⟨w.heap.size, 0, none⟩) 1 1] (w.alloc (.cells #[.int .i64 65535, .int .i64 b] 45)) fun e w' => ∃ v', e = .returned v' ∧ RowB w0 w' v' (acc ++ ebL kd b 65535) := by
  have h1 := h.below (bel_alloc w (.cells #[.int .i64 65535, .int .i64 b] 45))
  refine (iAppE_any w0 _ v acc h1.o h1.b hacc kd hkd (some ⟨w.heap.size, 0, none⟩) 1 1 [(65535, b)] (by omega) ?_ (prs_oneB w 65535 b _) ?_).mono ?_
  · intro k hk
    obtain rfl : k = 0 := by simpa using hk
    exact ⟨⟨(by decide : (0 : Int) ≤ 65535), (by decide : (65535 : Int) ≤ 65535)⟩, hb⟩
  · intro A _ e e2
    cases e
    have := (h.o.lt _ e2).2
    exact absurd this (Nat.lt_irrefl _)
  · rintro e w' ⟨v', rfl, ho, hbl⟩
    have e1 : flE (nmEn kd [(65535, b)]) = ebL kd b 65535 := by simp [nmEn, flE_one, ebE]
    rw [e1] at ho
    exact ⟨v', rfl, ho, hbl⟩
/-- impl.appendEntries of a list that was there. -/
theorem iAppE_list (w0 w : World) (v : Value) (acc : List UInt8) (h : RowB w0 w v acc) (hacc : acc.length ≤ 1000) (kd : Nat) (hkd : kd < 256) (a : Option Addr) (len cap : Nat) (l : List (Int × Int)) (hn : nmB l = true) (hi : Prs a len l w0) :
    Calls Tryz.prog 24 #[v, .int .u8 kd, .slice a len cap] w fun e w' => ∃ v', e = .returned v' ∧ RowB w0 w' v' (acc ++ flE (nmEn kd l)) := by
  have hl := nm_len hn
  have hp := nm_prs hn
  refine (iAppE_any w0 w v acc h.o h.b hacc kd hkd a len cap l (by rw [← hi.1]; exact hl) (fun k hk => ⟨⟨(hp k hk).1.1, by have := (hp k hk).1.2; omega⟩, (hp k hk).2⟩) (hi.below h.b) ?_).mono ?_
  · intro A h0 e e2
    obtain ⟨b, off, e3, hlt, _⟩ := hi.2 h0
    rw [e] at e3
    cases e3
    have := (h.o.lt _ e2).1
    have h3 : w0.heap.size ≤ b := this
    omega
  · rintro e w' ⟨v', rfl, ho, hbl⟩
    exact ⟨v', rfl, ho, hbl⟩
theorem RowB.text {w0 w : World} {v : Value} {acc : List UInt8} (h : RowB w0 w v acc) (hp : 0 < acc.length) : (convert 22 9 v).run Tryz.prog w = .ok (.string ⟨acc.toArray⟩) w := by
  obtain ⟨_, ⟨_, hn⟩ | ⟨g, cap, cur, rfl, _, hg, hc, _, hs, ht⟩⟩ := h.o
  · omega
  · refine run_convert_text (P := Tryz.prog) w 22 5 9 Tryz.underlying22 Tryz.underlying5 Tryz.underlying9 g 0 acc acc.length cap rfl ?_
    intro i hi
    have hi' : i < acc.length := by simpa [ByteArray.size] using hi
    have e1 : (Lib.byteCells acc)[i]? = some (.int .u8 (acc[i].toNat : Int)) := by simp [Lib.byteCells, hi']
    have e2 : cur[i]? = some (.int .u8 (acc[i].toNat : Int)) := by
      rw [← ht, List.getElem?_take_of_lt (by omega)] at e1
      simpa using e1
    have : w.cell? ⟨g, 0 + i, none⟩ = cur[i]? := by simp [World.cell?, hg]
    rw [this, e2]
    rfl
set_option maxRecDepth 100000 in
set_option maxHeartbeats 4000000 in
/-- impl.AclBytes. -/
theorem iAclBytes_any (u g o : Int) (au : Option Addr) (lu cu : Nat) (ag : Option Addr) (lg cg : Nat) (r : Bool) (m : Int) (us gs : List (Int × Int)) (w : World) (hu : Prs au lu us w) (hg : Prs ag lg gs w) :
    Calls Tryz.prog 7 #[.agg #[.int .i64 u, .int .i64 g, .int .i64 o, .slice au lu cu, .slice ag lg cg, .bool r, .int .i64 m]] w fun e w' => e = .returned (.string (abT u g o us gs r m)) ∧ Below w.heap.size w w' := by
  have hR : Hid (∀ w', Below w.heap.size w w' → Calls Tryz.prog 20 #[.agg #[.int .i64 u, .int .i64 g, .int .i64 o, .slice au lu cu, .slice ag lg cg, .bool r, .int .i64 m]] w' fun e w'' => e = .returned (.bool (aclB u g o us gs r m)) ∧ Below w'.heap.size w' w'') := (fun w' hb => iAclRight_any u g o au lu cu ag lg cg r m us gs w' (hu.below hb) (hg.below hb))
  have hX0 : Hid (Box7 (w.alloc (.cells #[.int .i64 u, .int .i64 g, .int .i64 o, .slice au lu cu, .slice ag lg cg, .bool r, .int .i64 m] 25)) w.heap.size (.int .i64 u) (.int .i64 g) (.int .i64 o) (.slice au lu cu) (.slice ag lg cg) (.bool r) (.int .i64 m)) := box7_new w _ _ _ _ _ _ _ _
  have hW0 : Hid (Below w.heap.size w (w.alloc (.cells #[.int .i64 u, .int .i64 g, .int .i64 o, .slice au lu cu, .slice ag lg cg, .bool r, .int .i64 m] 25))) := bel_alloc _ _
  cases hb : aclB u g o us gs r m
  · rw [abT_no hb]
    rw [hb] at hR
    clear hb hu hg
    obtain ⟨xl, x0, x1, x2, x3, x4, x5, x6⟩ := hX0.out
    go_enter Tryz.func7, Tryz.ntmps7
    go_wp2_with fail
    refine (hR.out _ hW0.out).mono ?_
    rintro e w1 ⟨rfl, hb1⟩
    have hW1 : Hid (Below w.heap.size w w1) := Below.on hW0.out hb1
    clear hb1 hR xl x0 x1 x2 x3 x4 x5 x6
    go_wp2
    go_ret
    exact ⟨rfl, hW1.out⟩
  · obtain ⟨pu, pg, po, pm, nu, ng, _⟩ := al_parts (a := ⟨u, g, o, us, gs, r, m⟩) hb
    have HP : Hid ((0 ≤ u ∧ u ≤ 7) ∧ (0 ≤ g ∧ g ≤ 7) ∧ (0 ≤ o ∧ o ≤ 7) ∧ (0 ≤ m ∧ m ≤ 7)) := ⟨pu, pg, po, pm⟩
    have nu : nmB us = true := nu
    have ng : nmB gs = true := ng
    have HT : Hid (abT u g o us gs r m = ⟨(2 :: flE (Al.E ⟨u, g, o, us, gs, r, m⟩)).toArray⟩) := (by
      have h2 : Al.B ⟨u, g, o, us, gs, r, m⟩ = true := hb
      show _ = _
      rw [abT, Al.Y, if_pos h2])
    rw [hb] at hR
    have lu6 := nm_len nu
    have lg6 := nm_len ng
    have HU : Hid (∀ w0 w' v acc, Below w.heap.size w w0 → RowB w0 w' v acc → acc.length ≤ 1000 → Calls Tryz.prog 24 #[v, .int .u8 2, .slice au lu cu] w' fun e w'' => ∃ v', e = .returned v' ∧ RowB w0 w'' v' (acc ++ flE (nmEn 2 us))) := (fun w0 w' v acc hb h ha => iAppE_list w0 w' v acc h ha 2 (by decide) au lu cu us nu (hu.below hb))
    have HG : Hid (∀ w0 w' v acc, Below w.heap.size w w0 → RowB w0 w' v acc → acc.length ≤ 1000 → Calls Tryz.prog 24 #[v, .int .u8 8, .slice ag lg cg] w' fun e w'' => ∃ v', e = .returned v' ∧ RowB w0 w'' v' (acc ++ flE (nmEn 8 gs))) := (fun w0 w' v acc hb h ha => iAppE_list w0 w' v acc h ha 8 (by decide) ag lg cg gs ng (hg.below hb))
    have zu : (flE (nmEn 2 us)).length ≤ 24 := by rw [flE_len]; simp [nmEn]; omega
    have zg : (flE (nmEn 8 gs)).length ≤ 24 := by rw [flE_len]; simp [nmEn]; omega
    have e4 : ∀ k b, (ebL k b 65535).length = 4 := fun _ _ => rfl
    have z1 : (([2] : List UInt8) ++ ebL 1 u 65535).length ≤ 1000 := by simp [e4]
    have z2 : (([2] : List UInt8) ++ ebL 1 u 65535 ++ flE (nmEn 2 us)).length ≤ 1000 := by simp [e4]; omega
    have z3 : (([2] : List UInt8) ++ ebL 1 u 65535 ++ flE (nmEn 2 us) ++ ebL 4 g 65535).length ≤ 1000 := by simp [e4]; omega
    have z4 : (([2] : List UInt8) ++ ebL 1 u 65535 ++ flE (nmEn 2 us) ++ ebL 4 g 65535 ++ flE (nmEn 8 gs)).length ≤ 1000 := by simp [e4]; omega
    have z5 : (([2] : List UInt8) ++ ebL 1 u 65535 ++ flE (nmEn 2 us) ++ ebL 4 g 65535 ++ flE (nmEn 8 gs) ++ ebL 16 m 65535).length ≤ 1000 := by simp [e4]; omega
    have HZ : Hid (_ ∧ _ ∧ _ ∧ _ ∧ _) := ⟨z1, z2, z3, z4, z5⟩
    have HF0 : Hid (r = false → abT u g o us gs r m = ⟨(([2] : List UInt8) ++ ebL 1 u 65535 ++ flE (nmEn 2 us) ++ ebL 4 g 65535 ++ flE (nmEn 8 gs) ++ ebL 32 o 65535).toArray⟩) := (fun e => by
      rw [HT.out, e]
      simp [Al.E, flE_app, flE_cons, flE_nil, ebE])
    have HF1 : Hid (r = true → abT u g o us gs r m = ⟨(([2] : List UInt8) ++ ebL 1 u 65535 ++ flE (nmEn 2 us) ++ ebL 4 g 65535 ++ flE (nmEn 8 gs) ++ ebL 16 m 65535 ++ ebL 32 o 65535).toArray⟩) := (fun e => by
      rw [HT.out, e]
      simp [Al.E, flE_app, flE_cons, flE_nil, ebE])
    clear hb hu hg nu ng lu6 lg6 pu pg po pm z1 z2 z3 z4 z5 zu zg e4 HT
    generalize abT u g o us gs r m = R at HF0 HF1 ⊢
    obtain ⟨xl, x0, x1, x2, x3, x4, x5, x6⟩ := hX0.out
    go_enter Tryz.func7, Tryz.ntmps7
    go_wp2_with fail
    refine (hR.out _ hW0.out).mono ?_
    rintro e w1 ⟨rfl, hb1⟩
    have hW1 : Hid (Below w.heap.size w w1) := Below.on hW0.out hb1
    have hX1 : Hid (Box7 w1 w.heap.size (.int .i64 u) (.int .i64 g) (.int .i64 o) (.slice au lu cu) (.slice ag lg cg) (.bool r) (.int .i64 m)) := hX0.out.below hb1
    clear hb1 hR xl x0 x1 x2 x3 x4 x5 x6 hX0 hW0
    obtain ⟨xl, x0, x1, x2, x3, x4, x5, x6⟩ := hX1.out
    have hRw0 : Hid (RowB w1 (w1.alloc (.cells #[.int .u8 2] 5)) (.slice (some ⟨w1.heap.size, 0, none⟩) 1 1) [2]) := ⟨own_oneB w1 2 2 rfl _ (Nat.le_refl _), bel_alloc _ _⟩
    go_wp2_with fail
    refine (iNameless_any _ _).mono ?_
    rintro e wa ⟨rfl, hba⟩
    have hRa : Hid (RowB w1 wa (.slice (some ⟨w1.heap.size, 0, none⟩) 1 1) [2]) := hRw0.out.below hba
    clear hba hRw0 xl x0 x1 x2 x3 x4 x5 x6
    go_wp2_with fail
    refine (iAppE_one w1 wa _ [2] hRa.out (by simp) 1 (by decide) u HP.out.1).mono ?_
    rintro e wb ⟨vb, rfl, hb⟩
    have hRb : Hid _ := hb
    clear hb hRa
    obtain ⟨xl, x0, x1, x2, x3, x4, x5, x6⟩ := hX1.out.below hRb.out.b
    go_wp2_with fail
    refine (HU.out w1 wb vb _ hW1.out hRb.out HZ.out.1).mono ?_
    rintro e wc ⟨vc, rfl, hc⟩
    have hRc : Hid _ := hc
    clear hc hRb HU xl x0 x1 x2 x3 x4 x5 x6
    obtain ⟨xl, x0, x1, x2, x3, x4, x5, x6⟩ := hX1.out.below hRc.out.b
    go_wp2_with fail
    refine (iNameless_any _ _).mono ?_
    rintro e wd ⟨rfl, hbd⟩
    have hRd : Hid _ := hRc.out.below hbd
    clear hbd hRc xl x0 x1 x2 x3 x4 x5 x6
    go_wp2_with fail
    refine (iAppE_one w1 wd vc _ hRd.out HZ.out.2.1 4 (by decide) g HP.out.2.1).mono ?_
    rintro e we ⟨ve, rfl, he⟩
    have hRe : Hid _ := he
    clear he hRd
    obtain ⟨xl, x0, x1, x2, x3, x4, x5, x6⟩ := hX1.out.below hRe.out.b
    go_wp2_with fail
    refine (HG.out w1 we ve _ hW1.out hRe.out HZ.out.2.2.1).mono ?_
    rintro e wf ⟨vf, rfl, hf⟩
    have hRf : Hid _ := hf
    clear hf hRe HG xl x0 x1 x2 x3 x4 x5 x6
    obtain ⟨xl, x0, x1, x2, x3, x4, x5, x6⟩ := hX1.out.below hRf.out.b
    cases r
    · go_wp2_with fail
      refine (iNameless_any _ _).mono ?_
      rintro e wg ⟨rfl, hbg⟩
      have hRg : Hid _ := hRf.out.below hbg
      clear hbg hRf xl x0 x1 x2 x3 x4 x5 x6
      go_wp2_with fail
      refine (iAppE_one w1 wg vf _ hRg.out HZ.out.2.2.2.1 32 (by decide) o HP.out.2.2.1).mono ?_
      rintro e wh ⟨vh, rfl, hh⟩
      have hcv := hh.text (by simp)
      have hRh : Hid _ := hh
      rw [← HF0.out (by trivial)] at hcv
      clear hh hRg
      go_wp2
      go_ret
      exact ⟨rfl, Below.on hW1.out hRh.out.b⟩
    · go_wp2_with fail
      refine (iNameless_any _ _).mono ?_
      rintro e wg ⟨rfl, hbg⟩
      have hRg : Hid _ := hRf.out.below hbg
      clear hbg hRf xl x0 x1 x2 x3 x4 x5 x6
      go_wp2_with fail
      refine (iAppE_one w1 wg vf _ hRg.out HZ.out.2.2.2.1 16 (by decide) m HP.out.2.2.2).mono ?_
      rintro e wh ⟨vh, rfl, hh⟩
      have hRh : Hid _ := hh
      clear hh hRg
      obtain ⟨xl, x0, x1, x2, x3, x4, x5, x6⟩ := hX1.out.below hRh.out.b
      go_wp2_with fail
      refine (iNameless_any _ _).mono ?_
      rintro e wi ⟨rfl, hbi⟩
      have hRi : Hid _ := hRh.out.below hbi
      clear hbi hRh xl x0 x1 x2 x3 x4 x5 x6
      go_wp2_with fail
      refine (iAppE_one w1 wi vh _ hRi.out HZ.out.2.2.2.2 32 (by decide) o HP.out.2.2.1).mono ?_
      rintro e wj ⟨vj, rfl, hj⟩
      have hcv := hj.text (by simp)
      have hRj : Hid _ := hj
      rw [← HF1.out (by trivial)] at hcv
      clear hj hRi
      go_wp2
      go_ret
      exact ⟨rfl, Below.on hW1.out hRj.out.b⟩
end Go.Proofs.YtgooanaacebncaaGreatDoor
