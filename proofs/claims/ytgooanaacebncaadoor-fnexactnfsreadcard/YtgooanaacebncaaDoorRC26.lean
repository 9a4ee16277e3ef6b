/- Laid together: NfsReadLaw. -/
import Derived.Test.YtgooanaacebncaaDoorRC25
/- The law FnExactNfsRead, of a text that is not too long, and of one that is. -/
namespace Go.Proofs.YtgooanaacebncaaDoor
open Go.RowKit Go.PlainAid
set_option linter.unusedVariables false
set_option maxHeartbeats 2000000 in
theorem nfsRead_long (s : ByteArray) (hl : 1048576 < s.size) (hm : s.size ≤ 9223372036854775807) (w : World) :
    Calls Tryd.prog 7 #[.string s] w fun e w' => e = .returned (.bool true) ∧ Below w.heap.size w w' := by
  have hl' : (1048576 : Int) < (s.size : Int) := by omega
  clear hl hm
  go_enter Tryd.func7, Tryd.ntmps7
  go_wp2
  go_ret
  exact ⟨rfl, Below.refl _ _⟩
set_option maxRecDepth 100000 in
set_option maxHeartbeats 8000000 in
theorem nfsRead_short (s : ByteArray) (m : Int) (hl : s.size ≤ 1048576) (w : World) (hm : w.cell? ⟨1, 0, none⟩ = some (.int .i64 m)) :
    Calls Tryd.prog 7 #[.string s] w fun e w' => e = .returned (.bool true) ∧ Below w.heap.size w w' := by
  have hlt := block_lt_of_cell hm
  have hl' : ¬ (1048576 : Int) < (s.size : Int) := by omega
  have hx := nfsO_len s.data.toList
  have hS : Hid (Calls Tryd.prog 31 #[.string s] w (AnsP (nfsO s.data.toList) w)) := sNfsRead_any s hl w
  have hI : Hid (∀ w', Below w.heap.size w w' → Calls Tryd.prog 32 #[.string s] w' (AnsP (nfsO s.data.toList) w')) := (fun w' hb => iNfsRead_any s m hl w' ((hb.cell (p := ⟨_, 0, none⟩) hlt).trans hm))
  generalize nfsO s.data.toList = p at hS hI hx
  obtain ⟨xs, code⟩ := p
  have hx : xs.length ≤ 32 := hx
  have HX : Hid (xs.length ≤ 1048576) := (by show xs.length ≤ 1048576; omega)
  have dx : decide (1 + 5 * (xs.length : Int) < 0) = false := by simp; omega
  clear hlt hm hl hx
  go_enter Tryd.func7, Tryd.ntmps7
  go_wp2_with fail
  refine hS.out.mono ?_
  intro e w2 hA
  obtain ⟨a1, c1, rfl, hN⟩ := AnsN.out hA
  have hb2 := bel_alloc w2 (.cells #[.slice a1 xs.length c1, .int .i64 code] 57)
  have hV2 := box2_new w2 (.slice a1 xs.length c1) (.int .i64 code) 57
  have hW2 : Hid (Below w.heap.size w (w2.alloc (.cells #[.slice a1 xs.length c1, .int .i64 code] 57))) := Below.on hN.bel hb2
  have HS2 : Hid (OwnA a1 xs.length xs (w2.alloc (.cells #[.slice a1 xs.length c1, .int .i64 code] 57))) := hN.own.below hb2
  have IX : Hid ((∀ A, a1 = some A → A.block < w2.heap.size) ∧ w.heap.size ≤ w2.heap.size) := ⟨fun A e => (hN.inn A e).2, hN.bel.size⟩
  have hz2 : (w2.alloc (.cells #[.slice a1 xs.length c1, .int .i64 code] 57)).heap.size = w2.heap.size + 1 := by simp
  clear hA hN hb2 hS
  obtain ⟨vl, v0, v1⟩ := hV2
  go_wp2_with fail
  refine (hI.out _ hW2.out).mono ?_
  intro e w4 hA
  obtain ⟨b1, f1, rfl, hN⟩ := AnsN.out hA
  have hb4 := bel_alloc w4 (.cells #[.slice b1 xs.length f1, .int .i64 code] 57)
  have hR4 := box2_new w4 (.slice b1 xs.length f1) (.int .i64 code) 57
  have hV4 := ((Box2.mk vl v0 v1).below hN.bel).below hb4
  have hW4 : Hid (Below w.heap.size w (w4.alloc (.cells #[.slice b1 xs.length f1, .int .i64 code] 57))) := Below.on (Below.on hW2.out hN.bel) hb4
  have HS4 : Hid (OwnA a1 xs.length xs (w4.alloc (.cells #[.slice b1 xs.length f1, .int .i64 code] 57))) := (HS2.out.below hN.bel).below hb4
  have HG4 : Hid (OwnA b1 xs.length xs (w4.alloc (.cells #[.slice b1 xs.length f1, .int .i64 code] 57))) := hN.own.below hb4
  have IG : Hid (∀ A, b1 = some A → w2.heap.size < A.block ∧ A.block < w4.heap.size) := (fun A e => ⟨by have := (hN.inn A e).1; omega, (hN.inn A e).2⟩)
  have hlt4 : w2.heap.size < w4.heap.size := by have := hN.bel.size; omega
  have HLT4 : Hid (w2.heap.size < w4.heap.size) := hlt4
  obtain ⟨vl, v0, v1⟩ := (Box2.mk vl v0 v1).below hN.bel
  clear hA hN hW2 HS2 hb4 hz2 hlt4
  generalize w2.heap.size = X1 at IX IG HLT4 hV4 vl v0 v1 ⊢
  go_wp2_with fail
  refine (eqNfsOut_any _ _ xs.length _ _ code xs HX.out _ HG4.out.acs HS4.out.acs).mono ?_
  rintro e w9 ⟨rfl, hb9⟩
  have hW9 : Hid (Below w.heap.size w w9) := Below.on hW4.out hb9
  have HS9 : Hid (OwnA a1 xs.length xs w9) := HS4.out.below hb9
  have HG9 : Hid (OwnA b1 xs.length xs w9) := HG4.out.below hb9
  have hV9 := hV4.below hb9
  have hR9 := hR4.below hb9
  clear hb9 hW4 HS4 HG4 vl v0 v1 hV4 hR4
  generalize w4.heap.size = X2 at hR9 IG HLT4 ⊢
  obtain ⟨zl, z0, z1⟩ := hR9
  go_wp2_with fail
  refine (markNfsOut_any _ xs.length _ code 1 xs (by omega) (by omega) HX.out _ HG9.out (fun A e => Nat.lt_trans (IG.out A e).2 zl)).mono ?_
  rintro e w10 ⟨rfl, hm1, hMs, hMb, hMc⟩
  have hW10 : Hid (Below w.heap.size w w10) := hW9.out.trans (hMb _ hW9.out.size (fun A e => by have h1 := IG.out A e; have h2 := IX.out.2; omega))
  have HS10 : Hid (OwnA a1 xs.length xs w10) := ⟨HS9.out.1, fun h0 => by
    obtain ⟨B, ha, hlt, hp⟩ := HS9.out.2 h0
    have hb : ∀ A, b1 = some A → B ≠ A.block := fun A e => by have h1 := IG.out A e; have h2 := IX.out.1 _ ha; dsimp only at h2; omega
    exact ⟨B, ha, Nat.lt_of_lt_of_le hlt hMs, fun i hi => ⟨(hp i hi).1.keep (fun j => (hMc B j hlt hb).1), (hp i hi).2.keep (fun j => (hMc B j hlt hb).2)⟩⟩⟩
  have HM10 : Hid (OwnA b1 xs.length (marksA 1 xs.length) w10) := hm1
  have hV10 := hV9.keep (Nat.lt_of_lt_of_le hV9.lt hMs) (fun o => (hMc X1 o hV9.lt (fun A e => by have h1 := IG.out A e; omega)).1)
  have hR10 := (Box2.mk zl z0 z1).keep (Nat.lt_of_lt_of_le zl hMs) (fun o => (hMc X2 o zl (fun A e => by have h1 := IG.out A e; omega)).1)
  clear hMs hMb hMc hm1 hW9 HS9 HG9 hV9 zl z0 z1
  obtain ⟨zl, z0, z1⟩ := hR10
  go_wp2_with fail
  refine (heldNfsOut_any _ xs.length _ code 1 (by omega) (by omega) HX.out _ HM10.out).mono ?_
  rintro e w12 ⟨rfl, hb12⟩
  have hW12 : Hid (Below w.heap.size w w12) := Below.on hW10.out hb12
  have HS12 : Hid (OwnA a1 xs.length xs w12) := HS10.out.below hb12
  have HM12 : Hid (OwnA b1 xs.length (marksA 1 xs.length) w12) := HM10.out.below hb12
  have hV12 := hV10.below hb12
  have hR12 := (Box2.mk zl z0 z1).below hb12
  clear hb12 hW10 HS10 HM10 hV10 zl z0 z1
  go_wp2_with fail
  refine (hI.out _ hW12.out).mono ?_
  intro e w13 hA
  obtain ⟨d1, g1, rfl, hN⟩ := AnsN.out hA
  have hb13 := bel_alloc w13 (.cells #[.slice d1 xs.length g1, .int .i64 code] 57)
  have hW13 : Hid (Below w.heap.size w (w13.alloc (.cells #[.slice d1 xs.length g1, .int .i64 code] 57))) := Below.on (Below.on hW12.out hN.bel) hb13
  have HS13 : Hid (OwnA a1 xs.length xs (w13.alloc (.cells #[.slice d1 xs.length g1, .int .i64 code] 57))) := (HS12.out.below hN.bel).below hb13
  have HM13 : Hid (OwnA b1 xs.length (marksA 1 xs.length) (w13.alloc (.cells #[.slice d1 xs.length g1, .int .i64 code] 57))) := (HM12.out.below hN.bel).below hb13
  have HH13 : Hid (OwnA d1 xs.length xs (w13.alloc (.cells #[.slice d1 xs.length g1, .int .i64 code] 57))) := hN.own.below hb13
  obtain ⟨vl, v0, v1⟩ := hV12.below hN.bel
  have hR13 := (hR12.below hN.bel).below hb13
  clear hA hN hW12 HS12 HM12 hb13 hV12 hR12
  go_wp2_with fail
  refine (eqNfsOut_any _ _ xs.length _ _ code xs HX.out _ HH13.out.acs HS13.out.acs).mono ?_
  rintro e w14 ⟨rfl, hb14⟩
  have hW14 : Hid (Below w.heap.size w w14) := Below.on hW13.out hb14
  have HM14 : Hid (OwnA b1 xs.length (marksA 1 xs.length) w14) := HM13.out.below hb14
  obtain ⟨zl, z0, z1⟩ := hR13.below hb14
  clear hb14 hW13 HS13 HM13 HH13 hR13 vl v0 v1
  go_wp2_with fail
  refine (heldNfsOut_any _ xs.length _ code 1 (by omega) (by omega) HX.out _ HM14.out).mono ?_
  rintro e w15 ⟨rfl, hb15⟩
  have hW15 : Hid (Below w.heap.size w w15) := Below.on hW14.out hb15
  clear hb15 hW14 HM14 zl z0 z1
  go_wp2
  go_ret
  exact ⟨rfl, hW15.out⟩
end Go.Proofs.YtgooanaacebncaaDoor
