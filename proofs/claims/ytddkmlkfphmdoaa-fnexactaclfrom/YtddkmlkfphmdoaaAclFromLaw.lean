/- The law FnExactAclFrom, of a text that is not too long, and of one that is. -/
import Derived.Test.YtddkmlkfphmdoaaIAf
import Derived.Test.YtddkmlkfphmdoaaOutLaw
namespace Go.Proofs.Ytddkmlkfphmdoaa
open Go.RowKit Go.PlainAid
set_option linter.unusedVariables false
theorem afO_len (s : ByteArray) : (afO s).us.length ≤ 8001 ∧ (afO s).gs.length ≤ 8001 := by
  unfold afO
  split
  · simp [illA]
  · split
    · simp [illA]
    · split
      · simp [illA]
      · split
        · have h1 := fB_len s (nE s)
          have h2 : nE s ≤ 8000 := by unfold nE; omega
          show (fB s (nE s)).us.length ≤ 8001 ∧ (fB s (nE s)).gs.length ≤ 8001
          omega
        · simp [illA]
set_option maxHeartbeats 2000000 in
theorem aclFrom_long (s : ByteArray) (hl : 1048576 < s.size) (hm : s.size ≤ 9223372036854775807) (w : World) :
    Calls Try.prog 4 #[.string s] w fun e w' => e = .returned (.bool true) ∧ Below w.heap.size w w' := by
  have hl' : (1048576 : Int) < (s.size : Int) := by omega
  clear hl hm
  go_enter Try.func4, Try.ntmps4
  go_wp2
  go_ret
  exact ⟨rfl, Below.refl _ _⟩
set_option maxRecDepth 100000 in
set_option maxHeartbeats 8000000 in
theorem aclFrom_short (s : ByteArray) (hl : s.size ≤ 1048576) (w : World) :
    Calls Try.prog 4 #[.string s] w fun e w' => e = .returned (.bool true) ∧ Below w.heap.size w w' := by
  have hl' : ¬ (1048576 : Int) < (s.size : Int) := by omega
  have hx := afO_len s
  have hS : Hid (Calls Try.prog 11 #[.string s] w (Answers (afO s) w)) := sAclFrom_any s hl w
  have hI : Hid (∀ w', Below w.heap.size w w' → Calls Try.prog 12 #[.string s] w' (Answers (afO s) w')) := (fun w' hb => iAclFrom_any s hl w')
  generalize afO s = p at hS hI hx
  obtain ⟨xu, xg, xo, xus, xgs, xr, xm, xc⟩ := p
  have hx1 : xus.length ≤ 8001 := hx.1
  have hx2 : xgs.length ≤ 8001 := hx.2
  have HX : Hid (xus.length ≤ 1048576 ∧ xgs.length ≤ 1048576) := ⟨by omega, by omega⟩
  have dx : decide (1 + 2 * (xus.length : Int) + 2 * (xgs.length : Int) < 0) = false := by simp; omega
  clear hl hx hx1 hx2
  go_enter Try.func4, Try.ntmps4
  go_wp2_with fail
  refine hS.out.mono ?_
  intro e w2 hA
  obtain ⟨a1, c1, a2, c2, rfl, hN⟩ := Answers.out hA
  have hb2 := bel_alloc w2 (.cells #[.int .i64 xu, .int .i64 xg, .int .i64 xo, .slice a1 xus.length c1, .slice a2 xgs.length c2, .bool xr, .int .i64 xm, .int .i64 xc] 34)
  have hV2 := box8_new w2 (.int .i64 xu) (.int .i64 xg) (.int .i64 xo) (.slice a1 xus.length c1) (.slice a2 xgs.length c2) (.bool xr) (.int .i64 xm) (.int .i64 xc) 34
  have hW2 : Hid (Below w.heap.size w (w2.alloc (.cells #[.int .i64 xu, .int .i64 xg, .int .i64 xo, .slice a1 xus.length c1, .slice a2 xgs.length c2, .bool xr, .int .i64 xm, .int .i64 xc] 34))) := Below.on hN.bel hb2
  have HSu : Hid (Own a1 xus.length xus (w2.alloc (.cells #[.int .i64 xu, .int .i64 xg, .int .i64 xo, .slice a1 xus.length c1, .slice a2 xgs.length c2, .bool xr, .int .i64 xm, .int .i64 xc] 34))) := hN.ou.below hb2
  have HSg : Hid (Own a2 xgs.length xgs (w2.alloc (.cells #[.int .i64 xu, .int .i64 xg, .int .i64 xo, .slice a1 xus.length c1, .slice a2 xgs.length c2, .bool xr, .int .i64 xm, .int .i64 xc] 34))) := hN.og.below hb2
  have IX : Hid ((∀ A, a1 = some A → A.block < w2.heap.size) ∧ (∀ A, a2 = some A → A.block < w2.heap.size) ∧ w.heap.size ≤ w2.heap.size) := ⟨fun A e => (hN.iu A e).2, fun A e => (hN.ig A e).2, hN.bel.size⟩
  have hz2 : (w2.alloc (.cells #[.int .i64 xu, .int .i64 xg, .int .i64 xo, .slice a1 xus.length c1, .slice a2 xgs.length c2, .bool xr, .int .i64 xm, .int .i64 xc] 34)).heap.size = w2.heap.size + 1 := by simp
  clear hA hN hb2 hS
  obtain ⟨vl, v0, v1, v2, v3, v4, v5, v6, v7⟩ := hV2
  go_wp2_with fail
  refine (hI.out _ hW2.out).mono ?_
  intro e w4 hA
  obtain ⟨b1, f1, b2, f2, rfl, hN⟩ := Answers.out hA
  have hb4 := bel_alloc w4 (.cells #[.int .i64 xu, .int .i64 xg, .int .i64 xo, .slice b1 xus.length f1, .slice b2 xgs.length f2, .bool xr, .int .i64 xm, .int .i64 xc] 34)
  have hR4 := box8_new w4 (.int .i64 xu) (.int .i64 xg) (.int .i64 xo) (.slice b1 xus.length f1) (.slice b2 xgs.length f2) (.bool xr) (.int .i64 xm) (.int .i64 xc) 34
  have hV4 := ((Box8.mk vl v0 v1 v2 v3 v4 v5 v6 v7).below hN.bel).below hb4
  have hW4 : Hid (Below w.heap.size w (w4.alloc (.cells #[.int .i64 xu, .int .i64 xg, .int .i64 xo, .slice b1 xus.length f1, .slice b2 xgs.length f2, .bool xr, .int .i64 xm, .int .i64 xc] 34))) := Below.on (Below.on hW2.out hN.bel) hb4
  have HSu4 : Hid (Own a1 xus.length xus (w4.alloc (.cells #[.int .i64 xu, .int .i64 xg, .int .i64 xo, .slice b1 xus.length f1, .slice b2 xgs.length f2, .bool xr, .int .i64 xm, .int .i64 xc] 34))) := (HSu.out.below hN.bel).below hb4
  have HSg4 : Hid (Own a2 xgs.length xgs (w4.alloc (.cells #[.int .i64 xu, .int .i64 xg, .int .i64 xo, .slice b1 xus.length f1, .slice b2 xgs.length f2, .bool xr, .int .i64 xm, .int .i64 xc] 34))) := (HSg.out.below hN.bel).below hb4
  have HGu4 : Hid (Own b1 xus.length xus (w4.alloc (.cells #[.int .i64 xu, .int .i64 xg, .int .i64 xo, .slice b1 xus.length f1, .slice b2 xgs.length f2, .bool xr, .int .i64 xm, .int .i64 xc] 34))) := hN.ou.below hb4
  have HGg4 : Hid (Own b2 xgs.length xgs (w4.alloc (.cells #[.int .i64 xu, .int .i64 xg, .int .i64 xo, .slice b1 xus.length f1, .slice b2 xgs.length f2, .bool xr, .int .i64 xm, .int .i64 xc] 34))) := hN.og.below hb4
  have NG : Hid (∀ A A2, b1 = some A → b2 = some A2 → A.block ≠ A2.block) := hN.ne
  have IG : Hid ((∀ A, b1 = some A → w2.heap.size < A.block ∧ A.block < w4.heap.size) ∧ (∀ A, b2 = some A → w2.heap.size < A.block ∧ A.block < w4.heap.size)) := ⟨fun A e => ⟨by have := (hN.iu A e).1; omega, (hN.iu A e).2⟩, fun A e => ⟨by have := (hN.ig A e).1; omega, (hN.ig A e).2⟩⟩
  have HLT4 : Hid (w2.heap.size < w4.heap.size) := (show _ < _ by have := hN.bel.size; omega)
  obtain ⟨vl, v0, v1, v2, v3, v4, v5, v6, v7⟩ := (Box8.mk vl v0 v1 v2 v3 v4 v5 v6 v7).below hN.bel
  clear hA hN hW2 HSu HSg hb4 hz2
  generalize w2.heap.size = X1 at IX IG HLT4 hV4 vl v0 v1 v2 v3 v4 v5 v6 v7 ⊢
  go_wp2_with fail
  refine (eqAclOut_any xu xg xo _ _ xus.length _ _ _ _ xgs.length _ _ xr xm xc xus xgs HX.out.1 HX.out.2 _ HGu4.out.prs HSu4.out.prs HGg4.out.prs HSg4.out.prs).mono ?_
  rintro e w9 ⟨rfl, hb9⟩
  have hW9 : Hid (Below w.heap.size w w9) := Below.on hW4.out hb9
  have HSu9 : Hid (Own a1 xus.length xus w9) := HSu4.out.below hb9
  have HSg9 : Hid (Own a2 xgs.length xgs w9) := HSg4.out.below hb9
  have HGu9 : Hid (Own b1 xus.length xus w9) := HGu4.out.below hb9
  have HGg9 : Hid (Own b2 xgs.length xgs w9) := HGg4.out.below hb9
  have hV9 := hV4.below hb9
  have hR9 := hR4.below hb9
  clear hb9 hW4 HSu4 HSg4 HGu4 HGg4 vl v0 v1 v2 v3 v4 v5 v6 v7 hV4 hR4
  generalize w4.heap.size = X2 at hR9 IG HLT4 ⊢
  obtain ⟨zl, z0, z1, z2, z3, z4, z5, z6, z7⟩ := hR9
  go_wp2_with fail
  refine (markAclOut_any xu xg xo _ xus.length _ _ xgs.length _ xr xm xc xus xgs 1 (by omega) (by omega) HX.out.1 HX.out.2 _ HGu9.out HGg9.out (fun A e => Nat.lt_trans (IG.out.1 A e).2 zl) (fun A e => Nat.lt_trans (IG.out.2 A e).2 zl) NG.out).mono ?_
  rintro e w10 ⟨rfl, hm1, hm2, hM⟩
  have hW10 : Hid (Below w.heap.size w w10) := hW9.out.trans (hM.below _ hW9.out.size (fun A e => by have h1 := IG.out.1 A e; have h2 := IX.out.2.2; omega) (fun A e => by have h1 := IG.out.2 A e; have h2 := IX.out.2.2; omega))
  have HSu10 : Hid (Own a1 xus.length xus w10) := hM.own HSu9.out (fun A A2 e e2 => by have h0 := IG.out.1 A e; have h1 := IX.out.1 A2 e2; omega) (fun A A2 e e2 => by have h0 := IG.out.2 A e; have h1 := IX.out.1 A2 e2; omega)
  have HSg10 : Hid (Own a2 xgs.length xgs w10) := hM.own HSg9.out (fun A A2 e e2 => by have h0 := IG.out.1 A e; have h1 := IX.out.2.1 A2 e2; omega) (fun A A2 e e2 => by have h0 := IG.out.2 A e; have h1 := IX.out.2.1 A2 e2; omega)
  have HM1 : Hid (Own b1 xus.length (marks 1 xus.length) w10) := hm1
  have HM2 : Hid (Own b2 xgs.length (marks (1 + 2 * xus.length) xgs.length) w10) := hm2
  have hV10 := hV9.keep (Nat.lt_of_lt_of_le hV9.lt hM.size) (fun o => (hM.cell X1 o hV9.lt (fun A e => by have h1 := IG.out.1 A e; omega) (fun A e => by have h1 := IG.out.2 A e; omega)).1)
  have hR10 := (Box8.mk zl z0 z1 z2 z3 z4 z5 z6 z7).keep (Nat.lt_of_lt_of_le zl hM.size) (fun o => (hM.cell X2 o zl (fun A e => by have h1 := IG.out.1 A e; omega) (fun A e => by have h1 := IG.out.2 A e; omega)).1)
  clear hM hm1 hm2 hW9 HSu9 HSg9 HGu9 HGg9 hV9 zl z0 z1 z2 z3 z4 z5 z6 z7
  obtain ⟨zl, z0, z1, z2, z3, z4, z5, z6, z7⟩ := hR10
  go_wp2_with fail
  refine (heldAclOut_any xu xg xo _ xus.length _ _ xgs.length _ xr xm xc 1 (by omega) (by omega) HX.out.1 HX.out.2 _ HM1.out HM2.out).mono ?_
  rintro e w12 ⟨rfl, hb12⟩
  have hW12 : Hid (Below w.heap.size w w12) := Below.on hW10.out hb12
  have HSu12 : Hid (Own a1 xus.length xus w12) := HSu10.out.below hb12
  have HSg12 : Hid (Own a2 xgs.length xgs w12) := HSg10.out.below hb12
  have HM1b : Hid (Own b1 xus.length (marks 1 xus.length) w12) := HM1.out.below hb12
  have HM2b : Hid (Own b2 xgs.length (marks (1 + 2 * xus.length) xgs.length) w12) := HM2.out.below hb12
  have hV12 := hV10.below hb12
  have hR12 := (Box8.mk zl z0 z1 z2 z3 z4 z5 z6 z7).below hb12
  clear hb12 hW10 HSu10 HSg10 HM1 HM2 hV10 zl z0 z1 z2 z3 z4 z5 z6 z7
  go_wp2_with fail
  refine (hI.out _ hW12.out).mono ?_
  intro e w13 hA
  obtain ⟨d1, g1, d2, g2, rfl, hN⟩ := Answers.out hA
  have hb13 := bel_alloc w13 (.cells #[.int .i64 xu, .int .i64 xg, .int .i64 xo, .slice d1 xus.length g1, .slice d2 xgs.length g2, .bool xr, .int .i64 xm, .int .i64 xc] 34)
  have hW13 : Hid (Below w.heap.size w (w13.alloc (.cells #[.int .i64 xu, .int .i64 xg, .int .i64 xo, .slice d1 xus.length g1, .slice d2 xgs.length g2, .bool xr, .int .i64 xm, .int .i64 xc] 34))) := Below.on (Below.on hW12.out hN.bel) hb13
  have HSu13 : Hid (Own a1 xus.length xus (w13.alloc (.cells #[.int .i64 xu, .int .i64 xg, .int .i64 xo, .slice d1 xus.length g1, .slice d2 xgs.length g2, .bool xr, .int .i64 xm, .int .i64 xc] 34))) := (HSu12.out.below hN.bel).below hb13
  have HSg13 : Hid (Own a2 xgs.length xgs (w13.alloc (.cells #[.int .i64 xu, .int .i64 xg, .int .i64 xo, .slice d1 xus.length g1, .slice d2 xgs.length g2, .bool xr, .int .i64 xm, .int .i64 xc] 34))) := (HSg12.out.below hN.bel).below hb13
  have HM1c : Hid (Own b1 xus.length (marks 1 xus.length) (w13.alloc (.cells #[.int .i64 xu, .int .i64 xg, .int .i64 xo, .slice d1 xus.length g1, .slice d2 xgs.length g2, .bool xr, .int .i64 xm, .int .i64 xc] 34))) := (HM1b.out.below hN.bel).below hb13
  have HM2c : Hid (Own b2 xgs.length (marks (1 + 2 * xus.length) xgs.length) (w13.alloc (.cells #[.int .i64 xu, .int .i64 xg, .int .i64 xo, .slice d1 xus.length g1, .slice d2 xgs.length g2, .bool xr, .int .i64 xm, .int .i64 xc] 34))) := (HM2b.out.below hN.bel).below hb13
  have HHu : Hid (Own d1 xus.length xus (w13.alloc (.cells #[.int .i64 xu, .int .i64 xg, .int .i64 xo, .slice d1 xus.length g1, .slice d2 xgs.length g2, .bool xr, .int .i64 xm, .int .i64 xc] 34))) := hN.ou.below hb13
  have HHg : Hid (Own d2 xgs.length xgs (w13.alloc (.cells #[.int .i64 xu, .int .i64 xg, .int .i64 xo, .slice d1 xus.length g1, .slice d2 xgs.length g2, .bool xr, .int .i64 xm, .int .i64 xc] 34))) := hN.og.below hb13
  obtain ⟨vl, v0, v1, v2, v3, v4, v5, v6, v7⟩ := hV12.below hN.bel
  have hR13 := (hR12.below hN.bel).below hb13
  clear hA hN hW12 HSu12 HSg12 HM1b HM2b hb13 hV12 hR12
  go_wp2_with fail
  refine (eqAclOut_any xu xg xo _ _ xus.length _ _ _ _ xgs.length _ _ xr xm xc xus xgs HX.out.1 HX.out.2 _ HHu.out.prs HSu13.out.prs HHg.out.prs HSg13.out.prs).mono ?_
  rintro e w14 ⟨rfl, hb14⟩
  have hW14 : Hid (Below w.heap.size w w14) := Below.on hW13.out hb14
  have HM1d : Hid (Own b1 xus.length (marks 1 xus.length) w14) := HM1c.out.below hb14
  have HM2d : Hid (Own b2 xgs.length (marks (1 + 2 * xus.length) xgs.length) w14) := HM2c.out.below hb14
  obtain ⟨zl, z0, z1, z2, z3, z4, z5, z6, z7⟩ := hR13.below hb14
  clear hb14 hW13 HSu13 HSg13 HM1c HM2c HHu HHg hR13 vl v0 v1 v2 v3 v4 v5 v6 v7
  go_wp2_with fail
  refine (heldAclOut_any xu xg xo _ xus.length _ _ xgs.length _ xr xm xc 1 (by omega) (by omega) HX.out.1 HX.out.2 _ HM1d.out HM2d.out).mono ?_
  rintro e w15 ⟨rfl, hb15⟩
  have hW15 : Hid (Below w.heap.size w w15) := Below.on hW14.out hb15
  clear hb15 hW14 HM1d HM2d zl z0 z1 z2 z3 z4 z5 z6 z7
  go_wp2
  go_ret
  exact ⟨rfl, hW15.out⟩
end Go.Proofs.Ytddkmlkfphmdoaa
