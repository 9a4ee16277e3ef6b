/- Laid together: LawAid, PutUser, PutGroup, DrawAclM. -/
import Derived.Test.YtedahdncincgjaaGreatDoorNX15
import Derived.Test.YtedahdncincgjaaGreatDoorNX16
import Derived.Test.YtedahdncincgjaaGreatDoorNX17
import Derived.Deep.RegionWith
import Derived.BigRegion
import Derived.Test.YtedahdncincgjaaGreatDoorNX8
/- Small laws for the laws of a list of names. -/
namespace Go.Proofs.YtedahdncincgjaaGreatDoor
open Go.RowKit Go.PlainAid
set_option linter.unusedVariables false
end Go.Proofs.YtedahdncincgjaaGreatDoor
/- PutUser, the program's and the specification's. -/
namespace Go.Proofs.YtedahdncincgjaaGreatDoor
open Go.RowKit Go.PlainAid Go.Deep
set_option linter.unusedVariables false
/-- PutUser. -/
def putUA (u g o : Int) (us gs : List (Int × Int)) (r : Bool) (m id bt : Int) : Ans :=
  if aclB u g o us gs r m = true ∧ inR 0 9999 id = true ∧ inR 0 7 bt = true then (if putN us id ≤ 6 then ⟨u, g, o, (putL us id bt), gs, hnB (putL us id bt) gs, mkB g (putL us id bt) gs, 0⟩ else illA 9) else illA 1
theorem putUA_no {u g o : Int} {us gs : List (Int × Int)} {r : Bool} {m id bt : Int} (h : ¬ (aclB u g o us gs r m = true ∧ inR 0 9999 id = true ∧ inR 0 7 bt = true)) : putUA u g o us gs r m id bt = illA 1 := by rw [putUA, if_neg h]
theorem putUA_full {u g o : Int} {us gs : List (Int × Int)} {r : Bool} {m id bt : Int} (h : aclB u g o us gs r m = true ∧ inR 0 9999 id = true ∧ inR 0 7 bt = true) (h2 : ¬ putN us id ≤ 6) : putUA u g o us gs r m id bt = illA 9 := by rw [putUA, if_pos h, if_neg h2]
theorem putUA_yes {u g o : Int} {us gs : List (Int × Int)} {r : Bool} {m id bt : Int} (h : aclB u g o us gs r m = true ∧ inR 0 9999 id = true ∧ inR 0 7 bt = true) (h2 : putN us id ≤ 6) : putUA u g o us gs r m id bt = ⟨u, g, o, (putL us id bt), gs, hnB (putL us id bt) gs, mkB g (putL us id bt) gs, 0⟩ := by rw [putUA, if_pos h, if_pos h2]
theorem bnd_putPutUser {l : List (Int × Int)} {id bt : Int} (h : ∀ k, k < l.length → 0 ≤ btAt l k ∧ btAt l k ≤ 7) (hb : 0 ≤ bt ∧ bt ≤ 7) : ∀ j, j < (putL l id bt).length → 0 ≤ btAt (putL l id bt) j ∧ btAt (putL l id bt) j ≤ 7 :=
  bnd_bt (bnd_splice (bt_bnd h) (fun p hp => by simp at hp; subst hp; exact hb) _ _)
/-- PutGroup. -/
def putGA (u g o : Int) (us gs : List (Int × Int)) (r : Bool) (m id bt : Int) : Ans :=
  if aclB u g o us gs r m = true ∧ inR 0 9999 id = true ∧ inR 0 7 bt = true then (if putN gs id ≤ 6 then ⟨u, g, o, us, (putL gs id bt), hnB us (putL gs id bt), mkB g us (putL gs id bt), 0⟩ else illA 9) else illA 1
theorem putGA_no {u g o : Int} {us gs : List (Int × Int)} {r : Bool} {m id bt : Int} (h : ¬ (aclB u g o us gs r m = true ∧ inR 0 9999 id = true ∧ inR 0 7 bt = true)) : putGA u g o us gs r m id bt = illA 1 := by rw [putGA, if_neg h]
theorem putGA_full {u g o : Int} {us gs : List (Int × Int)} {r : Bool} {m id bt : Int} (h : aclB u g o us gs r m = true ∧ inR 0 9999 id = true ∧ inR 0 7 bt = true) (h2 : ¬ putN gs id ≤ 6) : putGA u g o us gs r m id bt = illA 9 := by rw [putGA, if_pos h, if_neg h2]
theorem putGA_yes {u g o : Int} {us gs : List (Int × Int)} {r : Bool} {m id bt : Int} (h : aclB u g o us gs r m = true ∧ inR 0 9999 id = true ∧ inR 0 7 bt = true) (h2 : putN gs id ≤ 6) : putGA u g o us gs r m id bt = ⟨u, g, o, us, (putL gs id bt), hnB us (putL gs id bt), mkB g us (putL gs id bt), 0⟩ := by rw [putGA, if_pos h, if_pos h2]
theorem bnd_putPutGroup {l : List (Int × Int)} {id bt : Int} (h : ∀ k, k < l.length → 0 ≤ btAt l k ∧ btAt l k ≤ 7) (hb : 0 ≤ bt ∧ bt ≤ 7) : ∀ j, j < (putL l id bt).length → 0 ≤ btAt (putL l id bt) j ∧ btAt (putL l id bt) j ≤ 7 :=
  bnd_bt (bnd_splice (bt_bnd h) (fun p hp => by simp at hp; subst hp; exact hb) _ _)
def ansAl (x : Ans) : Al := ⟨x.u, x.g, x.o, x.us, x.gs, x.r, x.m⟩
/-- Right, with the users' ids below a bound. -/
def AG (B : Int) (A : Al) : Prop := A.B = true ∧ ∀ x ∈ A.us, x.1 < B
theorem aclB_mk {u g o : Int} {us gs : List (Int × Int)} (u0 : 0 ≤ u ∧ u ≤ 7) (g0 : 0 ≤ g ∧ g ≤ 7) (o0 : 0 ≤ o ∧ o ≤ 7) (hu : nmB us = true) (hg : nmB gs = true) : aclB u g o us gs (hnB us gs) (mkB g us gs) = true := by
  have hm : 0 ≤ mkB g us gs ∧ mkB g us gs ≤ 7 := by
    unfold mkB
    split
    · exact maskL_in g0.1 g0.2 hu hg
    · omega
  have hr : (hnB us gs || (mkB g us gs == 0 && (us.length == 0 && gs.length == 0))) = true := by
    cases h : hnB us gs
    · have h2 : (us.length == 0 && gs.length == 0) = true := by simpa [hnB] using h
      simp [mkB, h, h2]
    · rfl
  unfold aclB
  rw [inR_yes u0.1 u0.2, inR_yes g0.1 g0.2, inR_yes o0.1 o0.2, inR_yes hm.1 hm.2, hu, hg, hr]
  rfl
theorem putU_code {A : Al} {B id bt : Int} (h : AG B A) (hi : id < B) (h0 : (putUA A.u A.g A.o A.us A.gs A.r A.m id bt).code = 0) : AG B (ansAl (putUA A.u A.g A.o A.us A.gs A.r A.m id bt)) := by
  by_cases hc : aclB A.u A.g A.o A.us A.gs A.r A.m = true ∧ inR 0 9999 id = true ∧ inR 0 7 bt = true
  · by_cases h6 : putN A.us id ≤ 6
    · rw [putUA_yes hc h6]
      obtain ⟨a1, a2, a3, _, n1, n2⟩ := aclB_parts hc.1
      exact ⟨aclB_mk a1 a2 a3 (put_right n1 (inR_iff.1 hc.2.1) (inR_iff.1 hc.2.2) h6) n2, put_below h.2 hi⟩
    · rw [putUA_full hc h6] at h0
      cases h0
  · rw [putUA_no hc] at h0
    cases h0
theorem putG_code {A : Al} {B id bt : Int} (h : AG B A) (h0 : (putGA A.u A.g A.o A.us A.gs A.r A.m id bt).code = 0) : AG B (ansAl (putGA A.u A.g A.o A.us A.gs A.r A.m id bt)) := by
  by_cases hc : aclB A.u A.g A.o A.us A.gs A.r A.m = true ∧ inR 0 9999 id = true ∧ inR 0 7 bt = true
  · by_cases h6 : putN A.gs id ≤ 6
    · rw [putGA_yes hc h6]
      obtain ⟨a1, a2, a3, _, n1, n2⟩ := aclB_parts hc.1
      exact ⟨aclB_mk a1 a2 a3 n1 (put_right n2 (inR_iff.1 hc.2.1) (inR_iff.1 hc.2.2) h6), h.2⟩
    · rw [putGA_full hc h6] at h0
      cases h0
  · rw [putGA_no hc] at h0
    cases h0
theorem setM_al {A : Al} {B n : Int} (h : AG B A) (n0 : 0 ≤ n) (n1 : n ≤ 7) : AG B (ansAl (setMaskA A.u A.g A.o A.us A.gs A.r A.m n)) := by
  have hB : aclB A.u A.g A.o A.us A.gs A.r A.m = true := h.1
  obtain ⟨a1, a2, a3, _, m1, m2⟩ := aclB_parts hB
  rw [setMaskA, if_pos ⟨hB, inR_yes n0 n1⟩]
  refine ⟨?_, h.2⟩
  show aclB A.u A.g A.o A.us A.gs true n = true
  unfold aclB
  rw [inR_yes a1.1 a1.2, inR_yes a2.1 a2.2, inR_yes a3.1 a3.2, inR_yes n0 n1, m1, m2]
  rfl
/-- One more user, behind all others. -/
theorem putU_last {A : Al} {i : Int} (h : AG i A) (i0 : 0 ≤ i) (i1 : i ≤ 9999) (hl : A.us.length < 6) : AG (i + 1) (ansAl (putUA A.u A.g A.o A.us A.gs A.r A.m i 7)) ∧ (putUA A.u A.g A.o A.us A.gs A.r A.m i 7).us.length = A.us.length + 1 := by
  have hB : aclB A.u A.g A.o A.us A.gs A.r A.m = true := h.1
  obtain ⟨hp, hn⟩ := put_last (l := A.us) (id := i) (bt := 7) (fun k hk => by rw [idAt_get hk]; exact h.2 _ (List.getElem_mem hk))
  have hc : aclB A.u A.g A.o A.us A.gs A.r A.m = true ∧ inR 0 9999 i = true ∧ inR 0 7 (7 : Int) = true := ⟨hB, inR_yes i0 i1, rfl⟩
  have h6 : putN A.us i ≤ 6 := by omega
  have hcode : (putUA A.u A.g A.o A.us A.gs A.r A.m i 7).code = 0 := by rw [putUA_yes hc h6]
  refine ⟨putU_code ⟨h.1, fun x hx => by have := h.2 x hx; omega⟩ (by omega) hcode, ?_⟩
  rw [putUA_yes hc h6]
  show (putL A.us i 7).length = _
  rw [putL_len, hn]
/-- Where the draw begins. -/
theorem ag_of (B : Int) {n : Int} (n0 : 0 ≤ n) (n1 : n ≤ 4095) : AG B ⟨mU n, mG n, mO n, [], [], false, 0⟩ := by
  obtain ⟨e1, e2, e3⟩ := m_in ⟨n0, n1⟩
  refine ⟨?_, fun x hx => by cases hx⟩
  show aclB (mU n) (mG n) (mO n) [] [] false 0 = true
  rw [e1, e2, e3]
  unfold aclB
  rw [inR_yes (show 0 ≤ n / 64 % 8 by omega) (by omega), inR_yes (show 0 ≤ n / 8 % 8 by omega) (by omega), inR_yes (show 0 ≤ n % 8 by omega) (by omega)]
  rfl
theorem ag_len {B : Int} {A : Al} (h : AG B A) : A.us.length ≤ 6 ∧ A.gs.length ≤ 6 := by
  obtain ⟨_, _, _, _, n1, n2⟩ := aclB_parts (show aclB A.u A.g A.o A.us A.gs A.r A.m = true from h.1)
  exact ⟨nm_len n1, nm_len n2⟩
end Go.Proofs.YtedahdncincgjaaGreatDoor
