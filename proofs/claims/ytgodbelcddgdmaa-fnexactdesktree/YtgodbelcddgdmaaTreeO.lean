/- A tree's nodes and their lists, each in a block of its own, all of which may be written. Nothing here names a program. -/
import Derived.Test.YtgodbelcddgdmaaTreeTo
import Derived.Test.YtgodbelcddgdmaaButT
import Derived.Test.YtgodbelcddgdmaaAclMark
import Derived.Test.YtgodbelcddgdmaaBox7
namespace Go.Proofs.Ytgodbelcddgdmaa
open Go.RowKit Go.PlainAid Go.Deep
set_option linter.unusedVariables false
/-- The world is as it was, but for blocks from lo to below hi, and new ones. -/
structure Btw (lo hi : Nat) (w w' : World) : Prop where
  size : w.heap.size ≤ w'.heap.size
  below : ∀ c, c ≤ w.heap.size → c ≤ lo → Below c w w'
  cell : ∀ b o, b < w.heap.size → (b < lo ∨ hi ≤ b) → w'.cell? ⟨b, o, none⟩ = w.cell? ⟨b, o, none⟩ ∧ w'.frozen? ⟨b, o, none⟩ = w.frozen? ⟨b, o, none⟩
theorem Btw.refl (lo hi : Nat) (w : World) : Btw lo hi w w := ⟨Nat.le_refl _, fun _ _ _ => Below.refl _ _, fun _ _ _ _ => ⟨rfl, rfl⟩⟩
theorem Btw.trans {lo hi : Nat} {w w1 w2 : World} (h : Btw lo hi w w1) (h2 : Btw lo hi w1 w2) : Btw lo hi w w2 := by
  refine ⟨Nat.le_trans h.size h2.size, fun c hc hA => (h.below c hc hA).trans (h2.below c (Nat.le_trans hc h.size) hA), fun b o hb hA => ?_⟩
  have h3 := h.cell b o hb hA
  have h4 := h2.cell b o (Nat.lt_of_lt_of_le hb h.size) hA
  exact ⟨h4.1.trans h3.1, h4.2.trans h3.2⟩
theorem Btw.of {lo hi : Nat} {w w1 : World} (hb : Below w.heap.size w w1) : Btw lo hi w w1 := ⟨hb.size, fun c hc _ => hb.mono hc, fun b o h _ => ⟨hb.cell (p := ⟨b, o, none⟩) h, hb.frozen (p := ⟨b, o, none⟩) h⟩⟩
theorem Btw.on {lo hi : Nat} {w w1 w2 : World} (h : Btw lo hi w w1) (hb : Below w1.heap.size w1 w2) : Btw lo hi w w2 := h.trans (Btw.of hb)
theorem Btw.set {lo hi B o : Nat} {w w1 : World} {v : Value} (h : Btw lo hi w w1) (h1 : lo ≤ B) (h2 : B < hi) : Btw lo hi w (w1.setCell ⟨B, o, none⟩ v) := by
  refine ⟨by simpa using h.size, fun c hc hA => setS (h.below c hc hA) (Nat.le_trans hA h1), fun b o2 hb hA => ?_⟩
  have h3 := h.cell b o2 hb hA
  rw [World.frozen?_setCell, ← h3.1]
  exact ⟨World.cell?_setCell_other _ _ _ _ (by intro h; have h2 := congrArg Addr.block h; simp only at h2; omega), h3.2⟩
theorem ButS.btw {lo hi : Nat} {a : Option Addr} {w w1 : World} (h : ButS a w w1) (ha : ∀ A, a = some A → lo ≤ A.block ∧ A.block < hi) : Btw lo hi w w1 :=
  ⟨h.size, fun c hc hA => h.below c hc (fun A e => Nat.le_trans hA (ha A e).1), fun b o hb hA => h.cell b o hb (fun A e => by have := ha A e; omega)⟩
theorem But.butS {a : Option Addr} {w w1 : World} (h : But a w w1) : ButS a w w1 := ⟨by rw [h.size]; exact Nat.le_refl _, fun c _ hA => h.below c hA, fun b o _ hA => h.cell b o hA⟩
theorem BoxR.btw {lo hi : Nat} {w w' : World} {X : Nat} {cs : List Value} (h : BoxR w X cs) (hb : Btw lo hi w w') (hne : X < lo ∨ hi ≤ X) : BoxR w' X cs := ⟨Nat.lt_of_lt_of_le h.lt hb.size, range_keep h.at0 (fun j => (hb.cell X j h.lt hne).1)⟩
theorem BoxW.btw {lo hi : Nat} {w w' : World} {X : Nat} {cs : List Value} (h : BoxW w X cs) (hb : Btw lo hi w w') (hne : X < lo ∨ hi ≤ X) : BoxW w' X cs := ⟨Nat.lt_of_lt_of_le h.lt hb.size, range_keep h.at0 (fun j => (hb.cell X j h.lt hne).1), fun j => (hb.cell X j h.lt hne).2.trans (h.frz j)⟩
/-- Where the lists of a node lie, and how long they are, by number. -/
def laAt (y : Na) : Nat → Option Addr | 0 => y.aU | 1 => y.aG | 2 => y.dU | 3 => y.dG | _ => y.nA
def lnAt (x : Nd) : Nat → Nat | 0 => x.A.us.length | 1 => x.A.gs.length | 2 => x.D.us.length | 3 => x.D.gs.length | _ => x.ns.length
/-- The lists of a node, that may be written. -/
structure NdOwn (w : World) (x : Nd) (y : Na) : Prop where
  aU : Own y.aU x.A.us.length x.A.us w
  aG : Own y.aG x.A.gs.length x.A.gs w
  dU : Own y.dU x.D.us.length x.D.us w
  dG : Own y.dG x.D.gs.length x.D.gs w
  nA : OwnE y.nA x.ns.length x.ns w
theorem NdOwn.ndIn {w : World} {x : Nd} {y : Na} (h : NdOwn w x y) : NdIn w x y := ⟨h.aU.prs, h.aG.prs, h.dU.prs, h.dG.prs, h.nA.ens⟩
theorem NdOwn.below {w w' : World} {x : Nd} {y : Na} (h : NdOwn w x y) (hb : Below w.heap.size w w') : NdOwn w' x y := ⟨h.aU.below hb, h.aG.below hb, h.dU.below hb, h.dG.below hb, h.nA.below hb⟩
/-- A list keeps where the world is as it was but for other blocks. -/
theorem Own.keepS {a a2 : Option Addr} {len : Nat} {l : List (Int × Int)} {w w' : World} (ho : Own a2 len l w) (h : ButS a w w') (hne : 0 < len → ∀ A A2, a = some A → a2 = some A2 → A.block ≠ A2.block) : Own a2 len l w' := by
  refine ⟨ho.1, fun h0 => ?_⟩
  obtain ⟨B, ha, hlt, hp⟩ := ho.2 h0
  refine ⟨B, ha, Nat.lt_of_lt_of_le hlt h.size, fun i hi => ?_⟩
  have hb : ∀ A, a = some A → B ≠ A.block := fun A e => fun e2 => hne h0 A _ e ha (by simpa using e2.symm)
  have h0 := h.cell B (i * 2) hlt hb
  have h1 := h.cell B (i * 2 + 1) hlt hb
  rw [h0.1, h0.2, h1.1, h1.2]
  exact hp i hi
theorem OwnE.keepS {a a2 : Option Addr} {len : Nat} {l : List (ByteArray × Int)} {w w' : World} (ho : OwnE a2 len l w) (h : ButS a w w') (hne : 0 < len → ∀ A A2, a = some A → a2 = some A2 → A.block ≠ A2.block) : OwnE a2 len l w' := by
  refine ⟨ho.1, fun h0 => ?_⟩
  obtain ⟨B, ha, hlt, hp⟩ := ho.2 h0
  refine ⟨B, ha, Nat.lt_of_lt_of_le hlt h.size, fun i hi => ?_⟩
  have hb : ∀ A, a = some A → B ≠ A.block := fun A e => fun e2 => hne h0 A _ e ha (by simpa using e2.symm)
  have h0 := h.cell B (i * 2) hlt hb
  have h1 := h.cell B (i * 2 + 1) hlt hb
  rw [h0.1, h0.2, h1.1, h1.2]
  exact hp i hi
theorem Own.btw {lo hi : Nat} {a2 : Option Addr} {len : Nat} {l : List (Int × Int)} {w w' : World} (ho : Own a2 len l w) (h : Btw lo hi w w') (hne : 0 < len → ∀ A, a2 = some A → A.block < lo ∨ hi ≤ A.block) : Own a2 len l w' := by
  refine ⟨ho.1, fun h0 => ?_⟩
  obtain ⟨B, ha, hlt, hp⟩ := ho.2 h0
  refine ⟨B, ha, Nat.lt_of_lt_of_le hlt h.size, fun i hq => ?_⟩
  have hb : B < lo ∨ hi ≤ B := hne h0 _ ha
  have h0 := h.cell B (i * 2) hlt hb
  have h1 := h.cell B (i * 2 + 1) hlt hb
  rw [h0.1, h0.2, h1.1, h1.2]
  exact hp i hq
theorem OwnE.btw {lo hi : Nat} {a2 : Option Addr} {len : Nat} {l : List (ByteArray × Int)} {w w' : World} (ho : OwnE a2 len l w) (h : Btw lo hi w w') (hne : 0 < len → ∀ A, a2 = some A → A.block < lo ∨ hi ≤ A.block) : OwnE a2 len l w' := by
  refine ⟨ho.1, fun h0 => ?_⟩
  obtain ⟨B, ha, hlt, hp⟩ := ho.2 h0
  refine ⟨B, ha, Nat.lt_of_lt_of_le hlt h.size, fun i hq => ?_⟩
  have hb : B < lo ∨ hi ≤ B := hne h0 _ ha
  have h0 := h.cell B (i * 2) hlt hb
  have h1 := h.cell B (i * 2 + 1) hlt hb
  rw [h0.1, h0.2, h1.1, h1.2]
  exact hp i hq
theorem Prs.btw {lo hi : Nat} {a2 : Option Addr} {len : Nat} {l : List (Int × Int)} {w w' : World} (ho : Prs a2 len l w) (h : Btw lo hi w w') (hne : 0 < len → ∀ A, a2 = some A → A.block < lo ∨ hi ≤ A.block) : Prs a2 len l w' := by
  refine ⟨ho.1, fun h0 => ?_⟩
  obtain ⟨b, f, ha, hlt, hp⟩ := ho.2 h0
  refine ⟨b, f, ha, Nat.lt_of_lt_of_le hlt h.size, fun i hq => ?_⟩
  have hb : b < lo ∨ hi ≤ b := hne h0 _ ha
  rw [(h.cell b (f + i * 2) hlt hb).1, (h.cell b (f + i * 2 + 1) hlt hb).1]
  exact hp i hq
theorem Ens.btw {lo hi : Nat} {a2 : Option Addr} {len : Nat} {l : List (ByteArray × Int)} {w w' : World} (ho : Ens a2 len l w) (h : Btw lo hi w w') (hne : 0 < len → ∀ A, a2 = some A → A.block < lo ∨ hi ≤ A.block) : Ens a2 len l w' := by
  refine ⟨ho.1, fun h0 => ?_⟩
  obtain ⟨b, f, ha, hlt, hp⟩ := ho.2 h0
  refine ⟨b, f, ha, Nat.lt_of_lt_of_le hlt h.size, fun i hq => ?_⟩
  have hb : b < lo ∨ hi ≤ b := hne h0 _ ha
  rw [(h.cell b (f + i * 2) hlt hb).1, (h.cell b (f + i * 2 + 1) hlt hb).1]
  exact hp i hq
/-- A row of nodes, each list of which lies in a block of its own. -/
structure OwnT (w : World) (lo hi B : Nat) (F : Nat → Nd) (Y : Nat → Na) (n : Nat) : Prop where
  lt : B < w.heap.size
  inB : lo ≤ B ∧ B < hi
  row : NRow w B F Y n
  own : ∀ i, i < n → NdOwn w (F i) (Y i)
  rng : ∀ i j A, i < n → j < 5 → 0 < lnAt (F i) j → laAt (Y i) j = some A → lo ≤ A.block ∧ A.block < hi ∧ A.block ≠ B
  inj : ∀ i i' j j' A A', i < n → i' < n → j < 5 → j' < 5 → 0 < lnAt (F i) j → 0 < lnAt (F i') j' → laAt (Y i) j = some A → laAt (Y i') j' = some A' → A.block = A'.block → i = i' ∧ j = j'
theorem OwnT.below {w w' : World} {lo hi B n : Nat} {F : Nat → Nd} {Y : Nat → Na} (h : OwnT w lo hi B F Y n) (hb : Below w.heap.size w w') : OwnT w' lo hi B F Y n :=
  ⟨Nat.lt_of_lt_of_le h.lt hb.size, h.inB, h.row.below h.lt hb, fun i hi => (h.own i hi).below hb, h.rng, h.inj⟩
theorem OwnT.nds {w : World} {lo hi B n : Nat} {l : List Nd} {Y : Nat → Na} (h : OwnT w lo hi B (ndAt l) Y n) (hl : l.length = n) : Nds (some ⟨B, 0, none⟩) n l w :=
  ⟨hl, fun _ => ⟨B, 0, Y, rfl, h.lt, fun i hi => ⟨by rw [Nat.zero_add]; exact h.row.at' i hi, (h.own i hi).ndIn⟩⟩⟩
theorem lnAt_pos {w : World} {x : Nd} {y : Na} (h : NdOwn w x y) (j : Nat) (hj : j < 5) (h0 : 0 < lnAt x j) : ∃ b, laAt y j = some ⟨b, 0, none⟩ ∧ b < w.heap.size := by
  match j, hj with
  | 0, _ => obtain ⟨B, e, hl, _⟩ := h.aU.2 h0; exact ⟨B, e, hl⟩
  | 1, _ => obtain ⟨B, e, hl, _⟩ := h.aG.2 h0; exact ⟨B, e, hl⟩
  | 2, _ => obtain ⟨B, e, hl, _⟩ := h.dU.2 h0; exact ⟨B, e, hl⟩
  | 3, _ => obtain ⟨B, e, hl, _⟩ := h.dG.2 h0; exact ⟨B, e, hl⟩
  | 4, _ => obtain ⟨B, e, hl, _⟩ := h.nA.2 h0; exact ⟨B, e, hl⟩
/-- All lists of a node but one keep. -/
theorem NdOwn.keepS {w w' : World} {x : Nd} {y : Na} {a : Option Addr} (h : NdOwn w x y) (hb : ButS a w w') (hne : ∀ j, j < 5 → 0 < lnAt x j → ∀ A A2, a = some A → laAt y j = some A2 → A.block ≠ A2.block) : NdOwn w' x y :=
  ⟨h.aU.keepS hb (fun h0 => hne 0 (by omega) h0), h.aG.keepS hb (fun h0 => hne 1 (by omega) h0), h.dU.keepS hb (fun h0 => hne 2 (by omega) h0), h.dG.keepS hb (fun h0 => hne 3 (by omega) h0), h.nA.keepS hb (fun h0 => hne 4 (by omega) h0)⟩
/-- One node in another one's place. -/
def updN (F : Nat → Nd) (i : Nat) (x : Nd) : Nat → Nd := fun k => if k = i then x else F k
theorem updN_at (F : Nat → Nd) (i : Nat) (x : Nd) : updN F i x i = x := by simp [updN]
theorem updN_ne {F : Nat → Nd} {i k : Nat} (x : Nd) (h : k ≠ i) : updN F i x k = F k := by simp [updN, h]
theorem updN_upd (F : Nat → Nd) (i : Nat) (x x2 : Nd) : updN (updN F i x) i x2 = updN F i x2 := by
  funext k
  by_cases h : k = i
  · subst h; rw [updN_at, updN_at]
  · rw [updN_ne _ h, updN_ne _ h, updN_ne _ h]
theorem updN_ln {F : Nat → Nd} {i : Nat} {x : Nd} (h : ∀ j, lnAt x j = lnAt (F i) j) (k j : Nat) : lnAt (updN F i x k) j = lnAt (F k) j := by
  by_cases e : k = i
  · subst e; rw [updN_at]; exact h j
  · rw [updN_ne _ e]
/-- One cell of a node is written. -/
theorem OwnT.cell {w : World} {lo hi B n : Nat} {F : Nat → Nd} {Y : Nat → Na} (h : OwnT w lo hi B F Y n) (i : Nat) (hi' : i < n) (c : Nat) (hc : c < 24) (v : Value) (x : Nd) (hV : ndV x (Y i) = (ndV (F i) (Y i)).set c v)
    (h1 : x.A.us = (F i).A.us) (h2 : x.A.gs = (F i).A.gs) (h3 : x.D.us = (F i).D.us) (h4 : x.D.gs = (F i).D.gs) (h5 : x.ns = (F i).ns) :
    OwnT (w.setCell ⟨B, i * 24 + c, none⟩ v) lo hi B (updN F i x) Y n := by
  have hB : ButS (some ⟨B, 0, none⟩) w (w.setCell ⟨B, i * 24 + c, none⟩ v) := (ButS.refl _ _).set
  have hln : ∀ j, lnAt x j = lnAt (F i) j := fun j => by
    match j with
    | 0 => exact congrArg List.length h1
    | 1 => exact congrArg List.length h2
    | 2 => exact congrArg List.length h3
    | 3 => exact congrArg List.length h4
    | _ + 4 => exact congrArg List.length h5
  have hk : ∀ k, k < n → NdOwn (w.setCell ⟨B, i * 24 + c, none⟩ v) (F k) (Y k) := fun k hk => (h.own k hk).keepS hB (fun j hj h0 A A2 e e2 => by
    have := h.rng k j A2 hk hj h0 e2
    cases e
    exact fun e3 => this.2.2 e3.symm)
  refine ⟨by simpa using h.lt, h.inB, ⟨fun k hkn => ?_, fun j => by rw [World.frozen?_setCell]; exact h.row.frz j⟩, fun k hkn => ?_, fun k j A hkn hj h0 e => h.rng k j A hkn hj (by rwa [updN_ln hln] at h0) e, fun k k' j j' A A' hk1 hk2 hj hj' h0 h0' e e' eb => h.inj k k' j j' A A' hk1 hk2 hj hj' (by rwa [updN_ln hln] at h0) (by rwa [updN_ln hln] at h0') e e' eb⟩
  · by_cases e : k = i
    · subst e
      rw [updN_at]
      show World.rangeAt _ _ _ _
      rw [hV]
      exact range_set (h.row.at' k hkn) c (by rw [ndV_len]; exact hc) v
    · rw [updN_ne _ e]
      intro j u hu
      have hj : j < 24 := (List.getElem?_eq_some_iff.1 hu).1
      rw [World.cell?_setCell_other _ _ _ _ (by intro h; have h2 := congrArg Addr.off h; simp only at h2; omega)]
      exact h.row.at' k hkn j u hu
  · by_cases e : k = i
    · subst e
      rw [updN_at]
      obtain ⟨q1, q2, q3, q4, q5⟩ := hk k hkn
      exact ⟨by rw [h1]; exact q1, by rw [h2]; exact q2, by rw [h3]; exact q3, by rw [h4]; exact q4, by rw [h5]; exact q5⟩
    · rw [updN_ne _ e]
      exact hk k hkn
/-- One list of a node is written over. -/
theorem OwnT.list {w w' : World} {lo hi B n : Nat} {F : Nat → Nd} {Y : Nat → Na} (h : OwnT w lo hi B F Y n) (i : Nat) (hi' : i < n) (j0 : Nat) (hj0 : j0 < 5) (x : Nd) (hb : ButS (if 0 < lnAt (F i) j0 then laAt (Y i) j0 else none) w w')
    (hV : ndV x (Y i) = ndV (F i) (Y i)) (hln : ∀ j, lnAt x j = lnAt (F i) j) (ho : NdOwn w' x (Y i)) : OwnT w' lo hi B (updN F i x) Y n := by
  have hBne : ∀ A, (if 0 < lnAt (F i) j0 then laAt (Y i) j0 else none) = some A → B ≠ A.block := fun A e => by
    by_cases h0 : 0 < lnAt (F i) j0
    · rw [if_pos h0] at e
      exact fun e2 => (h.rng i j0 A hi' hj0 h0 e).2.2 e2.symm
    · rw [if_neg h0] at e; cases e
  refine ⟨Nat.lt_of_lt_of_le h.lt hb.size, h.inB, ⟨fun k hkn => ?_, fun j => (hb.cell B j h.lt hBne).2.trans (h.row.frz j)⟩, fun k hkn => ?_, fun k j A hkn hj h0 e => h.rng k j A hkn hj (by rwa [updN_ln hln] at h0) e, fun k k' j j' A A' hk1 hk2 hj hj' h0 h0' e e' eb => h.inj k k' j j' A A' hk1 hk2 hj hj' (by rwa [updN_ln hln] at h0) (by rwa [updN_ln hln] at h0') e e' eb⟩
  · have hr := range_keep (h.row.at' k hkn) (fun j => (hb.cell B j h.lt hBne).1)
    by_cases e : k = i
    · subst e
      rw [updN_at]
      show World.rangeAt _ _ _ _
      rw [hV]
      exact hr
    · rw [updN_ne _ e]
      exact hr
  · by_cases e : k = i
    · subst e
      rw [updN_at]
      exact ho
    · rw [updN_ne _ e]
      refine (h.own k hkn).keepS hb (fun j hj h0 A A2 e1 e2 eb => ?_)
      by_cases hz : 0 < lnAt (F i) j0
      · rw [if_pos hz] at e1
        exact e (h.inj k i j j0 A2 A hkn hi' hj hj0 h0 hz e2 e1 eb.symm).1
      · rw [if_neg hz] at e1; cases e1
/-- The other lists of the node of which one list is written over. -/
theorem OwnT.others {w w' : World} {lo hi B n : Nat} {F : Nat → Nd} {Y : Nat → Na} (h : OwnT w lo hi B F Y n) (i : Nat) (hi' : i < n) (j0 : Nat) (hj0 : j0 < 5) (hb : ButS (if 0 < lnAt (F i) j0 then laAt (Y i) j0 else none) w w') :
    (j0 ≠ 0 → Own (Y i).aU (F i).A.us.length (F i).A.us w') ∧ (j0 ≠ 1 → Own (Y i).aG (F i).A.gs.length (F i).A.gs w') ∧ (j0 ≠ 2 → Own (Y i).dU (F i).D.us.length (F i).D.us w') ∧ (j0 ≠ 3 → Own (Y i).dG (F i).D.gs.length (F i).D.gs w') ∧ (j0 ≠ 4 → OwnE (Y i).nA (F i).ns.length (F i).ns w') := by
  have hq : ∀ j, j < 5 → j0 ≠ j → 0 < lnAt (F i) j → ∀ A A2, (if 0 < lnAt (F i) j0 then laAt (Y i) j0 else none) = some A → laAt (Y i) j = some A2 → A.block ≠ A2.block := fun j hj hne h0 A A2 e1 e2 eb => by
    by_cases hz : 0 < lnAt (F i) j0
    · rw [if_pos hz] at e1
      exact hne (h.inj i i j0 j A A2 hi' hi' hj0 hj hz h0 e1 e2 eb).2
    · rw [if_neg hz] at e1; cases e1
  have o := h.own i hi'
  exact ⟨fun hn => o.aU.keepS hb (hq 0 (by omega) hn), fun hn => o.aG.keepS hb (hq 1 (by omega) hn), fun hn => o.dU.keepS hb (hq 2 (by omega) hn), fun hn => o.dG.keepS hb (hq 3 (by omega) hn), fun hn => o.nA.keepS hb (hq 4 (by omega) hn)⟩
theorem OwnT.rngIf {w : World} {lo hi B n : Nat} {F : Nat → Nd} {Y : Nat → Na} (h : OwnT w lo hi B F Y n) (i : Nat) (hi' : i < n) (j0 : Nat) (hj0 : j0 < 5) : ∀ A, (if 0 < lnAt (F i) j0 then laAt (Y i) j0 else none) = some A → lo ≤ A.block ∧ A.block < hi := fun A e => by
  by_cases h0 : 0 < lnAt (F i) j0
  · rw [if_pos h0] at e
    have := h.rng i j0 A hi' hj0 h0 e
    exact ⟨this.1, this.2.1⟩
  · rw [if_neg h0] at e; cases e
theorem OwnT.btw {w w' : World} {lo hi lo2 hi2 B n : Nat} {F : Nat → Nd} {Y : Nat → Na} (h : OwnT w lo hi B F Y n) (hb : Btw lo2 hi2 w w') (hd : hi ≤ lo2 ∨ hi2 ≤ lo) : OwnT w' lo hi B F Y n := by
  have hB : B < lo2 ∨ hi2 ≤ B := by have := h.inB; omega
  have hq : ∀ i j A, i < n → j < 5 → 0 < lnAt (F i) j → laAt (Y i) j = some A → A.block < lo2 ∨ hi2 ≤ A.block := fun i j A hi' hj h0 e => by have := h.rng i j A hi' hj h0 e; omega
  exact ⟨Nat.lt_of_lt_of_le h.lt hb.size, h.inB, ⟨fun i hi' => range_keep (h.row.at' i hi') (fun j => (hb.cell B j h.lt hB).1), fun j => (hb.cell B j h.lt hB).2.trans (h.row.frz j)⟩,
    fun i hi' => ⟨(h.own i hi').aU.btw hb (fun h0 A e => hq i 0 A hi' (by omega) h0 e), (h.own i hi').aG.btw hb (fun h0 A e => hq i 1 A hi' (by omega) h0 e), (h.own i hi').dU.btw hb (fun h0 A e => hq i 2 A hi' (by omega) h0 e), (h.own i hi').dG.btw hb (fun h0 A e => hq i 3 A hi' (by omega) h0 e), (h.own i hi').nA.btw hb (fun h0 A e => hq i 4 A hi' (by omega) h0 e)⟩, h.rng, h.inj⟩
end Go.Proofs.Ytgodbelcddgdmaa
