/- Laid together: OutLaw, AclReadLaw. -/
import Derived.Test.YtgooanaacebncaaDoorRA29
import Derived.Test.YtgooanaacebncaaDoorRA28
/- What the laws do with an answer that holds a list of names: two of them compared, marked, read again. -/
namespace Go.Proofs.YtgooanaacebncaaDoor
open Go.RowKit Go.PlainAid Go.Deep
set_option linter.unusedVariables false
theorem Answers.out {xu xg xo xm xc : Int} {xus xgs : List (Int × Int)} {xr : Bool} {w w' : World} {e : Ending} (h : Answers ⟨xu, xg, xo, xus, xgs, xr, xm, xc⟩ w e w') : ∃ a1 c1 a2 c2, e = .returned (.agg #[.int .i64 xu, .int .i64 xg, .int .i64 xo, .slice a1 xus.length c1, .slice a2 xgs.length c2, .bool xr, .int .i64 xm, .int .i64 xc]) ∧ New w w' a1 xus.length xus a2 xgs.length xgs := h
set_option maxHeartbeats 4000000 in
/-- laws.eqAclOut of two that hold the same. -/
theorem eqAclOut_any (u g o : Int) (au au2 : Option Addr) (lu cu cu2 : Nat) (ag ag2 : Option Addr) (lg cg cg2 : Nat) (r : Bool) (m c : Int) (us gs : List (Int × Int)) (h1 : lu ≤ 1048576) (h2 : lg ≤ 1048576) (w : World) (hu : Prs au lu us w) (hu2 : Prs au2 lu us w) (hg : Prs ag lg gs w) (hg2 : Prs ag2 lg gs w) :
    Calls Tryd.prog 25 #[.agg #[.int .i64 u, .int .i64 g, .int .i64 o, .slice au lu cu, .slice ag lg cg, .bool r, .int .i64 m, .int .i64 c], .agg #[.int .i64 u, .int .i64 g, .int .i64 o, .slice au2 lu cu2, .slice ag2 lg cg2, .bool r, .int .i64 m, .int .i64 c]] w fun e w' => e = .returned (.bool true) ∧ Below w.heap.size w w' := by
  have hc : Hid (∀ w', Below w.heap.size w w' → Calls Tryd.prog 61 #[.agg #[.int .i64 u, .int .i64 g, .int .i64 o, .slice au lu cu, .slice ag lg cg, .bool r, .int .i64 m], .agg #[.int .i64 u, .int .i64 g, .int .i64 o, .slice au2 lu cu2, .slice ag2 lg cg2, .bool r, .int .i64 m]] w' fun e w'' => e = .returned (.bool true) ∧ Below w'.heap.size w' w'') := (fun w' hb => eqAcl_any u g o au au2 lu cu cu2 ag ag2 lg cg cg2 r m us gs h1 h2 w' (hu.below hb) (hu2.below hb) (hg.below hb) (hg2.below hb))
  clear hu hu2 hg hg2
  go_enter Tryd.func25, Tryd.ntmps25
  go_wp2_with fail
  refine (hc.out _ (bl2N _ _ _)).mono ?_
  rintro e w1 ⟨rfl, hb⟩
  have hbW : Hid (Below w.heap.size w w1) := (bl2N _ _ _).trans (hb.mono (by simp; omega))
  obtain ⟨hcl, hfz⟩ := bl_cellN hb
  clear hb hc
  simp at hcl hfz
  go_wp2
  go_ret
  exact ⟨rfl, hbW.out⟩
set_option maxHeartbeats 4000000 in
/-- laws.markAclOut. -/
theorem markAclOut_any (u g o : Int) (au : Option Addr) (lu cu : Nat) (ag : Option Addr) (lg cg : Nat) (r : Bool) (m c : Int) (us gs : List (Int × Int)) (k : Int) (h0 : 0 ≤ k) (h1 : k ≤ 100000000) (hl : lu ≤ 1048576) (hl2 : lg ≤ 1048576) (w : World)
    (hu : Own au lu us w) (hg : Own ag lg gs w) (iu : ∀ A, au = some A → A.block < w.heap.size) (ig : ∀ A, ag = some A → A.block < w.heap.size) (hne : ∀ A A2, au = some A → ag = some A2 → A.block ≠ A2.block) :
    Calls Tryd.prog 26 #[.agg #[.int .i64 u, .int .i64 g, .int .i64 o, .slice au lu cu, .slice ag lg cg, .bool r, .int .i64 m, .int .i64 c], .int .i64 k] w fun e w' => e = .returned (.int .i64 (k + 2 * lu + 2 * lg)) ∧ Own au lu (marks k lu) w' ∧ Own ag lg (marks (k + 2 * lu) lg) w' ∧ But2 au ag w w' := by
  have hB0 : Below w.heap.size w (w.alloc (.cells #[.int .i64 u, .int .i64 g, .int .i64 o, .slice au lu cu, .slice ag lg cg, .bool r, .int .i64 m, .int .i64 c] 45)) := bel_alloc _ _
  have hc : Hid (Calls Tryd.prog 62 #[.agg #[.int .i64 u, .int .i64 g, .int .i64 o, .slice au lu cu, .slice ag lg cg, .bool r, .int .i64 m], .int .i64 k] (w.alloc (.cells #[.int .i64 u, .int .i64 g, .int .i64 o, .slice au lu cu, .slice ag lg cg, .bool r, .int .i64 m, .int .i64 c] 45)) fun e w' => e = .returned (.int .i64 (k + 2 * lu + 2 * lg)) ∧ Own au lu (marks k lu) w' ∧ Own ag lg (marks (k + 2 * lu) lg) w' ∧ But2 au ag w w') := (by
    refine (markAcl_any u g o au lu cu ag lg cg r m us gs k h0 h1 hl hl2 _ (hu.below hB0) (hg.below hB0) (fun A e => by have := iu A e; have h2 := hB0.size; omega) (fun A e => by have := ig A e; have h2 := hB0.size; omega) hne).mono ?_
    rintro e w' ⟨rfl, h3, h4, h5⟩
    have hs := hB0.size
    refine ⟨rfl, h3, h4, ⟨Nat.le_trans hs h5.size, fun d hd p1 p2 => (hB0.mono hd).trans (h5.below d (by omega) p1 p2), fun b o hlt p1 p2 => ?_⟩⟩
    have h6 := h5.cell b o (by omega) p1 p2
    exact ⟨h6.1.trans (hB0.cell (p := ⟨b, o, none⟩) hlt), h6.2.trans (hB0.frozen (p := ⟨b, o, none⟩) hlt)⟩)
  clear hu hg hB0 iu ig hne
  go_enter Tryd.func26, Tryd.ntmps26
  go_wp2_with fail
  refine hc.out.mono ?_
  rintro e w1 ⟨rfl, R⟩
  have HR : Hid (Own au lu (marks k lu) w1 ∧ Own ag lg (marks (k + 2 * lu) lg) w1 ∧ But2 au ag w w1) := R
  clear R hc
  go_wp2
  go_ret
  exact ⟨rfl, HR.out⟩
set_option maxHeartbeats 4000000 in
/-- laws.heldAclOut of what mark wrote. -/
theorem heldAclOut_any (u g o : Int) (au : Option Addr) (lu cu : Nat) (ag : Option Addr) (lg cg : Nat) (r : Bool) (m c : Int) (k : Int) (h0 : 0 ≤ k) (h1 : k ≤ 100000000) (hl : lu ≤ 1048576) (hl2 : lg ≤ 1048576) (w : World)
    (hu : Own au lu (marks k lu) w) (hg : Own ag lg (marks (k + 2 * lu) lg) w) :
    Calls Tryd.prog 27 #[.agg #[.int .i64 u, .int .i64 g, .int .i64 o, .slice au lu cu, .slice ag lg cg, .bool r, .int .i64 m, .int .i64 c], .int .i64 k] w fun e w' => e = .returned (.int .i64 (k + 2 * lu + 2 * lg)) ∧ Below w.heap.size w w' := by
  have d2 : decide (k + 2 * (lu : Int) + 2 * (lg : Int) < 0) = false := by simp; omega
  have hc : Hid (∀ w', Below w.heap.size w w' → Calls Tryd.prog 63 #[.agg #[.int .i64 u, .int .i64 g, .int .i64 o, .slice au lu cu, .slice ag lg cg, .bool r, .int .i64 m], .int .i64 k] w' fun e w'' => e = .returned (.int .i64 (k + 2 * lu + 2 * lg)) ∧ Below w'.heap.size w' w'') := (fun w' hb => heldAcl_any u g o au lu cu ag lg cg r m k h0 h1 hl hl2 w' (hu.below hb) (hg.below hb))
  clear hu hg
  go_enter Tryd.func27, Tryd.ntmps27
  go_wp2_with fail
  refine (hc.out _ (bel_alloc _ _)).mono ?_
  rintro e w1 ⟨rfl, hb⟩
  have hW : Hid (Below w.heap.size w w1) := Below.on (bel_alloc _ _) hb
  clear hb hc
  go_wp2
  go_ret
  exact ⟨rfl, hW.out⟩
end Go.Proofs.YtgooanaacebncaaDoor
/- The law FnExactAclRead, of a text that is not too long, and of one that is. -/
namespace Go.Proofs.YtgooanaacebncaaDoor
open Go.RowKit Go.PlainAid
set_option linter.unusedVariables false
theorem aclO_len (t : List UInt8) : (aclO t).us.length ≤ 8001 ∧ (aclO t).gs.length ≤ 8001 := by
  unfold aclO
  split
  · simp [illA]
  · split
    · have h1 := foldK_len (spl 44 t) (spl 44 t).length (Nat.le_refl _)
      rw [rdA_fold] at h1
      have h2 := spl_len 44 t
      show (rdA t).us.length ≤ 8001 ∧ (rdA t).gs.length ≤ 8001
      omega
    · simp [illA]
set_option maxHeartbeats 2000000 in
theorem aclRead_long (s : ByteArray) (hl : 1048576 < s.size) (hm : s.size ≤ 9223372036854775807) (w : World) :
    Calls Tryd.prog 5 #[.string s] w fun e w' => e = .returned (.bool true) ∧ Below w.heap.size w w' := by
  have hl' : (1048576 : Int) < (s.size : Int) := by omega
  clear hl hm
  go_enter Tryd.func5, Tryd.ntmps5
  go_wp2
  go_ret
  exact ⟨rfl, Below.refl _ _⟩
set_option maxRecDepth 100000 in
set_option maxHeartbeats 8000000 in
theorem aclRead_short (s : ByteArray) (m : Int) (hl : s.size ≤ 1048576) (w : World) (hm : w.cell? ⟨1, 0, none⟩ = some (.int .i64 m)) (hp : PowW w) :
    Calls Tryd.prog 5 #[.string s] w fun e w' => e = .returned (.bool true) ∧ Below w.heap.size w w' := by
  have hlt := block_lt_of_cell hm
  have hl' : ¬ (1048576 : Int) < (s.size : Int) := by omega
  have hx := aclO_len s.data.toList
  have hS : Hid (Calls Tryd.prog 23 #[.string s] w (Answers (aclO s.data.toList) w)) := sAclRead_any s hl w
  have hI : Hid (∀ w', Below w.heap.size w w' → Calls Tryd.prog 24 #[.string s] w' (Answers (aclO s.data.toList) w')) := (fun w' hb => iAclRead_any s m hl w' ((hb.cell (p := ⟨_, 0, none⟩) hlt).trans hm) (hp.below hb))
  generalize aclO s.data.toList = p at hS hI hx
  obtain ⟨xu, xg, xo, xus, xgs, xr, xm, xc⟩ := p
  have hx1 : xus.length ≤ 8001 := hx.1
  have hx2 : xgs.length ≤ 8001 := hx.2
  have HX : Hid (xus.length ≤ 1048576 ∧ xgs.length ≤ 1048576) := ⟨by omega, by omega⟩
  have dx : decide (1 + 2 * (xus.length : Int) + 2 * (xgs.length : Int) < 0) = false := by simp; omega
  clear hlt hm hl hx hx1 hx2 hp
  go_enter Tryd.func5, Tryd.ntmps5
  go_wp2_with fail
  refine hS.out.mono ?_
  intro e w2 hA
  obtain ⟨a1, c1, a2, c2, rfl, hN⟩ := Answers.out hA
  have hb2 := bel_alloc w2 (.cells #[.int .i64 xu, .int .i64 xg, .int .i64 xo, .slice a1 xus.length c1, .slice a2 xgs.length c2, .bool xr, .int .i64 xm, .int .i64 xc] 45)
  have hV2 := box8_new w2 (.int .i64 xu) (.int .i64 xg) (.int .i64 xo) (.slice a1 xus.length c1) (.slice a2 xgs.length c2) (.bool xr) (.int .i64 xm) (.int .i64 xc) 45
  have hW2 : Hid (Below w.heap.size w (w2.alloc (.cells #[.int .i64 xu, .int .i64 xg, .int .i64 xo, .slice a1 xus.length c1, .slice a2 xgs.length c2, .bool xr, .int .i64 xm, .int .i64 xc] 45))) := Below.on hN.bel hb2
  have HSu : Hid (Own a1 xus.length xus (w2.alloc (.cells #[.int .i64 xu, .int .i64 xg, .int .i64 xo, .slice a1 xus.length c1, .slice a2 xgs.length c2, .bool xr, .int .i64 xm, .int .i64 xc] 45))) := hN.ou.below hb2
  have HSg : Hid (Own a2 xgs.length xgs (w2.alloc (.cells #[.int .i64 xu, .int .i64 xg, .int .i64 xo, .slice a1 xus.length c1, .slice a2 xgs.length c2, .bool xr, .int .i64 xm, .int .i64 xc] 45))) := hN.og.below hb2
  have IX : Hid ((∀ A, a1 = some A → A.block < w2.heap.size) ∧ (∀ A, a2 = some A → A.block < w2.heap.size) ∧ w.heap.size ≤ w2.heap.size) := ⟨fun A e => (hN.iu A e).2, fun A e => (hN.ig A e).2, hN.bel.size⟩
  have hz2 : (w2.alloc (.cells #[.int .i64 xu, .int .i64 xg, .int .i64 xo, .slice a1 xus.length c1, .slice a2 xgs.length c2, .bool xr, .int .i64 xm, .int .i64 xc] 45)).heap.size = w2.heap.size + 1 := by simp
  clear hA hN hb2 hS
  obtain ⟨vl, v0, v1, v2, v3, v4, v5, v6, v7⟩ := hV2
  go_wp2_with fail
  refine (hI.out _ hW2.out).mono ?_
  intro e w4 hA
  obtain ⟨b1, f1, b2, f2, rfl, hN⟩ := Answers.out hA
  have hb4 := bel_alloc w4 (.cells #[.int .i64 xu, .int .i64 xg, .int .i64 xo, .slice b1 xus.length f1, .slice b2 xgs.length f2, .bool xr, .int .i64 xm, .int .i64 xc] 45)
  have hR4 := box8_new w4 (.int .i64 xu) (.int .i64 xg) (.int .i64 xo) (.slice b1 xus.length f1) (.slice b2 xgs.length f2) (.bool xr) (.int .i64 xm) (.int .i64 xc) 45
  have hV4 := ((Box8.mk vl v0 v1 v2 v3 v4 v5 v6 v7).below hN.bel).below hb4
  have hW4 : Hid (Below w.heap.size w (w4.alloc (.cells #[.int .i64 xu, .int .i64 xg, .int .i64 xo, .slice b1 xus.length f1, .slice b2 xgs.length f2, .bool xr, .int .i64 xm, .int .i64 xc] 45))) := Below.on (Below.on hW2.out hN.bel) hb4
  have HSu4 : Hid (Own a1 xus.length xus (w4.alloc (.cells #[.int .i64 xu, .int .i64 xg, .int .i64 xo, .slice b1 xus.length f1, .slice b2 xgs.length f2, .bool xr, .int .i64 xm, .int .i64 xc] 45))) := (HSu.out.below hN.bel).below hb4
  have HSg4 : Hid (Own a2 xgs.length xgs (w4.alloc (.cells #[.int .i64 xu, .int .i64 xg, .int .i64 xo, .slice b1 xus.length f1, .slice b2 xgs.length f2, .bool xr, .int .i64 xm, .int .i64 xc] 45))) := (HSg.out.below hN.bel).below hb4
  have HGu4 : Hid (Own b1 xus.length xus (w4.alloc (.cells #[.int .i64 xu, .int .i64 xg, .int .i64 xo, .slice b1 xus.length f1, .slice b2 xgs.length f2, .bool xr, .int .i64 xm, .int .i64 xc] 45))) := hN.ou.below hb4
  have HGg4 : Hid (Own b2 xgs.length xgs (w4.alloc (.cells #[.int .i64 xu, .int .i64 xg, .int .i64 xo, .slice b1 xus.length f1, .slice b2 xgs.length f2, .bool xr, .int .i64 xm, .int .i64 xc] 45))) := hN.og.below hb4
  have NG : Hid (∀ A A2, b1 = some A → b2 = some A2 → A.block ≠ A2.block) := hN.ne
  have IG : Hid ((∀ A, b1 = some A → w2.heap.size < A.block ∧ A.block < w4.heap.size) ∧ (∀ A, b2 = some A → w2.heap.size < A.block ∧ A.block < w4.heap.size)) := ⟨fun A e => ⟨by have := (hN.iu A e).1; omega, (hN.iu A e).2⟩, fun A e => ⟨by have := (hN.ig A e).1; omega, (hN.ig A e).2⟩⟩
  have HLT4 : Hid (w2.heap.size < w4.heap.size) := (show _ < _ by have := hN.bel.size; omega)
  obtain ⟨vl, v0, v1, v2, v3, v4, v5, v6, v7⟩ := (Box8.mk vl v0 v1 v2 v3 v4 v5 v6 v7).below hN.bel
  clear hA hN hW2 HSu HSg hb4 hz2
  generalize w2.heap.size = X1 at IX IG HLT4 hV4 vl v0 v1 v2 v3 v4 v5 v6 v7 ⊢
  go_wp2_with fail
  refine (eqAclOut_any xu xg xo _ _ xus.length _ _ _ _ xgs.length _ _ xr xm xc xus xgs HX.out.1 HX.out.2 _ HGu4.out.prs HSu4.out.prs HGg4.out.prs HSg4.out.prs).mono ?_
  rintro e w9 ⟨rfl, hb9⟩
  have hW9 : Hid (Below w.heap.size w w9) := Below.on hW4.out hb9
  have HSu9 : Hid (Own a1 xus.length xus w9) := HSu4.out.below hb9
  have HSg9 : Hid (Own a2 xgs.length xgs w9) := HSg4.out.below hb9
  have HGu9 : Hid (Own b1 xus.length xus w9) := HGu4.out.below hb9
  have HGg9 : Hid (Own b2 xgs.length xgs w9) := HGg4.out.below hb9
  have hV9 := hV4.below hb9
  have hR9 := hR4.below hb9
  clear hb9 hW4 HSu4 HSg4 HGu4 HGg4 vl v0 v1 v2 v3 v4 v5 v6 v7 hV4 hR4
  generalize w4.heap.size = X2 at hR9 IG HLT4 ⊢
  obtain ⟨zl, z0, z1, z2, z3, z4, z5, z6, z7⟩ := hR9
  go_wp2_with fail
  refine (markAclOut_any xu xg xo _ xus.length _ _ xgs.length _ xr xm xc xus xgs 1 (by omega) (by omega) HX.out.1 HX.out.2 _ HGu9.out HGg9.out (fun A e => Nat.lt_trans (IG.out.1 A e).2 zl) (fun A e => Nat.lt_trans (IG.out.2 A e).2 zl) NG.out).mono ?_
  rintro e w10 ⟨rfl, hm1, hm2, hM⟩
  have hW10 : Hid (Below w.heap.size w w10) := hW9.out.trans (hM.below _ hW9.out.size (fun A e => by have h1 := IG.out.1 A e; have h2 := IX.out.2.2; omega) (fun A e => by have h1 := IG.out.2 A e; have h2 := IX.out.2.2; omega))
  have HSu10 : Hid (Own a1 xus.length xus w10) := hM.own HSu9.out (fun A A2 e e2 => by have h0 := IG.out.1 A e; have h1 := IX.out.1 A2 e2; omega) (fun A A2 e e2 => by have h0 := IG.out.2 A e; have h1 := IX.out.1 A2 e2; omega)
  have HSg10 : Hid (Own a2 xgs.length xgs w10) := hM.own HSg9.out (fun A A2 e e2 => by have h0 := IG.out.1 A e; have h1 := IX.out.2.1 A2 e2; omega) (fun A A2 e e2 => by have h0 := IG.out.2 A e; have h1 := IX.out.2.1 A2 e2; omega)
  have HM1 : Hid (Own b1 xus.length (marks 1 xus.length) w10) := hm1
  have HM2 : Hid (Own b2 xgs.length (marks (1 + 2 * xus.length) xgs.length) w10) := hm2
  have hV10 := hV9.keep (Nat.lt_of_lt_of_le hV9.lt hM.size) (fun o => (hM.cell X1 o hV9.lt (fun A e => by have h1 := IG.out.1 A e; omega) (fun A e => by have h1 := IG.out.2 A e; omega)).1)
  have hR10 := (Box8.mk zl z0 z1 z2 z3 z4 z5 z6 z7).keep (Nat.lt_of_lt_of_le zl hM.size) (fun o => (hM.cell X2 o zl (fun A e => by have h1 := IG.out.1 A e; omega) (fun A e => by have h1 := IG.out.2 A e; omega)).1)
  clear hM hm1 hm2 hW9 HSu9 HSg9 HGu9 HGg9 hV9 zl z0 z1 z2 z3 z4 z5 z6 z7
  obtain ⟨zl, z0, z1, z2, z3, z4, z5, z6, z7⟩ := hR10
  go_wp2_with fail
  refine (heldAclOut_any xu xg xo _ xus.length _ _ xgs.length _ xr xm xc 1 (by omega) (by omega) HX.out.1 HX.out.2 _ HM1.out HM2.out).mono ?_
  rintro e w12 ⟨rfl, hb12⟩
  have hW12 : Hid (Below w.heap.size w w12) := Below.on hW10.out hb12
  have HSu12 : Hid (Own a1 xus.length xus w12) := HSu10.out.below hb12
  have HSg12 : Hid (Own a2 xgs.length xgs w12) := HSg10.out.below hb12
  have HM1b : Hid (Own b1 xus.length (marks 1 xus.length) w12) := HM1.out.below hb12
  have HM2b : Hid (Own b2 xgs.length (marks (1 + 2 * xus.length) xgs.length) w12) := HM2.out.below hb12
  have hV12 := hV10.below hb12
  have hR12 := (Box8.mk zl z0 z1 z2 z3 z4 z5 z6 z7).below hb12
  clear hb12 hW10 HSu10 HSg10 HM1 HM2 hV10 zl z0 z1 z2 z3 z4 z5 z6 z7
  go_wp2_with fail
  refine (hI.out _ hW12.out).mono ?_
  intro e w13 hA
  obtain ⟨d1, g1, d2, g2, rfl, hN⟩ := Answers.out hA
  have hb13 := bel_alloc w13 (.cells #[.int .i64 xu, .int .i64 xg, .int .i64 xo, .slice d1 xus.length g1, .slice d2 xgs.length g2, .bool xr, .int .i64 xm, .int .i64 xc] 45)
  have hW13 : Hid (Below w.heap.size w (w13.alloc (.cells #[.int .i64 xu, .int .i64 xg, .int .i64 xo, .slice d1 xus.length g1, .slice d2 xgs.length g2, .bool xr, .int .i64 xm, .int .i64 xc] 45))) := Below.on (Below.on hW12.out hN.bel) hb13
  have HSu13 : Hid (Own a1 xus.length xus (w13.alloc (.cells #[.int .i64 xu, .int .i64 xg, .int .i64 xo, .slice d1 xus.length g1, .slice d2 xgs.length g2, .bool xr, .int .i64 xm, .int .i64 xc] 45))) := (HSu12.out.below hN.bel).below hb13
  have HSg13 : Hid (Own a2 xgs.length xgs (w13.alloc (.cells #[.int .i64 xu, .int .i64 xg, .int .i64 xo, .slice d1 xus.length g1, .slice d2 xgs.length g2, .bool xr, .int .i64 xm, .int .i64 xc] 45))) := (HSg12.out.below hN.bel).below hb13
  have HM1c : Hid (Own b1 xus.length (marks 1 xus.length) (w13.alloc (.cells #[.int .i64 xu, .int .i64 xg, .int .i64 xo, .slice d1 xus.length g1, .slice d2 xgs.length g2, .bool xr, .int .i64 xm, .int .i64 xc] 45))) := (HM1b.out.below hN.bel).below hb13
  have HM2c : Hid (Own b2 xgs.length (marks (1 + 2 * xus.length) xgs.length) (w13.alloc (.cells #[.int .i64 xu, .int .i64 xg, .int .i64 xo, .slice d1 xus.length g1, .slice d2 xgs.length g2, .bool xr, .int .i64 xm, .int .i64 xc] 45))) := (HM2b.out.below hN.bel).below hb13
  have HHu : Hid (Own d1 xus.length xus (w13.alloc (.cells #[.int .i64 xu, .int .i64 xg, .int .i64 xo, .slice d1 xus.length g1, .slice d2 xgs.length g2, .bool xr, .int .i64 xm, .int .i64 xc] 45))) := hN.ou.below hb13
  have HHg : Hid (Own d2 xgs.length xgs (w13.alloc (.cells #[.int .i64 xu, .int .i64 xg, .int .i64 xo, .slice d1 xus.length g1, .slice d2 xgs.length g2, .bool xr, .int .i64 xm, .int .i64 xc] 45))) := hN.og.below hb13
  obtain ⟨vl, v0, v1, v2, v3, v4, v5, v6, v7⟩ := hV12.below hN.bel
  have hR13 := (hR12.below hN.bel).below hb13
  clear hA hN hW12 HSu12 HSg12 HM1b HM2b hb13 hV12 hR12
  go_wp2_with fail
  refine (eqAclOut_any xu xg xo _ _ xus.length _ _ _ _ xgs.length _ _ xr xm xc xus xgs HX.out.1 HX.out.2 _ HHu.out.prs HSu13.out.prs HHg.out.prs HSg13.out.prs).mono ?_
  rintro e w14 ⟨rfl, hb14⟩
  have hW14 : Hid (Below w.heap.size w w14) := Below.on hW13.out hb14
  have HM1d : Hid (Own b1 xus.length (marks 1 xus.length) w14) := HM1c.out.below hb14
  have HM2d : Hid (Own b2 xgs.length (marks (1 + 2 * xus.length) xgs.length) w14) := HM2c.out.below hb14
  obtain ⟨zl, z0, z1, z2, z3, z4, z5, z6, z7⟩ := hR13.below hb14
  clear hb14 hW13 HSu13 HSg13 HM1c HM2c HHu HHg hR13 vl v0 v1 v2 v3 v4 v5 v6 v7
  go_wp2_with fail
  refine (heldAclOut_any xu xg xo _ xus.length _ _ xgs.length _ xr xm xc 1 (by omega) (by omega) HX.out.1 HX.out.2 _ HM1d.out HM2d.out).mono ?_
  rintro e w15 ⟨rfl, hb15⟩
  have hW15 : Hid (Below w.heap.size w w15) := Below.on hW14.out hb15
  clear hb15 hW14 HM1d HM2d zl z0 z1 z2 z3 z4 z5 z6 z7
  go_wp2
  go_ret
  exact ⟨rfl, hW15.out⟩
end Go.Proofs.YtgooanaacebncaaDoor
