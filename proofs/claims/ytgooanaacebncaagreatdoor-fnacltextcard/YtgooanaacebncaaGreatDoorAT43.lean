/- Laid together: Scope, IRe, IAf. -/
import Derived.Scope
import Derived.ScopeJumps
import Derived.Tactics
import Derived.Test.YtgooanaacebncaaGreatDoorAT42
import Derived.Test.YtgooanaacebncaaGreatDoorAT36
import Derived.Test.YtgooanaacebncaaGreatDoorAT41
import Derived.WalkMore
import Derived.LoopN
/- A law for a body with several labels: what holds at each jump, and a measure that every jump lowers (after the guide's law for one label). -/
namespace Go.Proofs.YtgooanaacebncaaGreatDoor
open Go
/-- As Q; by a goto to label l: J l. -/
def labels (J : Nat → Act → World → Prop) (Q : Exit → Act → World → Prop) : Exit → Act → World → Prop
  | .goto l, a, w => J l a w
  | e, a, w => Q e a w
theorem wp_scope_labels {P : Program} {a : Act} {w : World} {Q : Exit → Act → World → Prop} {c : Go.Code} (J : Nat → Act → World → Prop) (μ : Nat → Act → World → Nat)
    (first : c.wp P (labels J Q) a w)
    (pass : ∀ l a w, J l a w → ∃ rest, findLabel c l = some rest ∧ rest.wp P (labels (fun l' a' w' => J l' a' w' ∧ μ l' a' w' < μ l a w) Q) a w) : (Go.Code.scope c).wp P Q a w := by
  intro b k cs
  have key : ∀ n l a w, μ l a w = n → J l a w → ∃ rest, findLabel c l = some rest ∧ ∃ e a' w', Q e a' w' ∧ Arrives P (lone (b.at a (.code rest :: .inScope c :: k)) cs w) b k cs e a' w' := by
    intro n
    induction n using Nat.strongRecOn with
    | _ n ih =>
      intro l a w hn hJ
      obtain ⟨rest, hf, hp⟩ := pass l a w hJ
      refine ⟨rest, hf, ?_⟩
      obtain ⟨e, a₁, w₁, hq, harr⟩ := hp b (.inScope c :: k) cs
      cases e with
      | normal => exact ⟨.normal, a₁, w₁, hq, Steps.trans harr (.one step_inScope)⟩
      | exit id => exact ⟨.exit id, a₁, w₁, hq, fun k' hk => harr k' (by simp [exitTo, hk])⟩
      | goto l' =>
        obtain ⟨hJ', hlt⟩ := hq
        obtain ⟨rest', hf', e₂, a₂, w₂, hq₂, harr₂⟩ := ih _ (by omega) l' a₁ w₁ rfl hJ'
        have hg : gotoIn l' (.inScope c :: k) = some (.code rest' :: .inScope c :: k) := by simp [gotoIn, hf']
        exact ⟨e₂, a₂, w₂, hq₂, .of_steps (harr _ hg) harr₂⟩
      | ret => exact ⟨_, a₁, w₁, hq, harr⟩
      | panic ch => exact ⟨_, a₁, w₁, hq, harr⟩
      | outgrown => exact ⟨_, a₁, w₁, hq, harr⟩
  obtain ⟨e, a₁, w₁, hq, harr⟩ := first b (.inScope c :: k) cs
  cases e with
  | normal => exact ⟨.normal, a₁, w₁, hq, .head step_scope (Steps.trans harr (.one step_inScope))⟩
  | exit id => exact ⟨.exit id, a₁, w₁, hq, fun k' hk => .head step_scope (harr k' (by simp [exitTo, hk]))⟩
  | goto l' =>
    obtain ⟨rest', hf', e₂, a₂, w₂, hq₂, harr₂⟩ := key _ l' a₁ w₁ rfl hq
    have hg : gotoIn l' (.inScope c :: k) = some (.code rest' :: .inScope c :: k) := by simp [gotoIn, hf']
    exact ⟨e₂, a₂, w₂, hq₂, .of_steps (.head step_scope (harr _ hg)) harr₂⟩
  | ret => exact ⟨_, a₁, w₁, hq, .of_steps (.one step_scope) harr⟩
  | panic ch => exact ⟨_, a₁, w₁, hq, .of_steps (.one step_scope) harr⟩
  | outgrown => exact ⟨_, a₁, w₁, hq, .of_steps (.one step_scope) harr⟩
end Go.Proofs.YtgooanaacebncaaGreatDoor
/- impl.readEntries: entries of four bytes are read from state to state. -/
namespace Go.Proofs.YtgooanaacebncaaGreatDoor
open Go.RowKit Go.PlainAid Go.Deep
set_option linter.unusedVariables false
/-- Two cells that may be written. -/
structure W2 (w : World) (b : Nat) (v0 v1 : Value) : Prop where
  lt : b < w.heap.size
  c0 : w.cell? ⟨b, 0, none⟩ = some v0
  c1 : w.cell? ⟨b, 1, none⟩ = some v1
  z : ∀ o, w.frozen? ⟨b, o, none⟩ = false
theorem W2.keep {w w' : World} {b : Nat} {v0 v1 : Value} (h : W2 w b v0 v1) (hs : w.heap.size ≤ w'.heap.size) (hk : w'.heap[b]? = w.heap[b]?) : W2 w' b v0 v1 := by
  have hc : ∀ o, w'.cell? ⟨b, o, none⟩ = w.cell? ⟨b, o, none⟩ := fun o => World.cell?_of_block (a := ⟨b, o, none⟩) hk
  exact ⟨Nat.lt_of_lt_of_le h.lt hs, (hc 0).trans h.c0, (hc 1).trans h.c1, fun o => (World.frozen?_of_block (a := ⟨b, o, none⟩) hk).trans (h.z o)⟩
theorem W2.set0 {w : World} {b : Nat} {v0 v1 v : Value} (h : W2 w b v0 v1) : W2 (w.setCell ⟨b, 0, none⟩ v) b v v1 := by
  obtain ⟨hl, c0, c1, hz⟩ := h
  refine ⟨by simpa using hl, ?_, ?_, fun o => by rw [World.frozen?_setCell]; exact hz o⟩ <;> simp [go_sem, *]
theorem W2.set1 {w : World} {b : Nat} {v0 v1 v : Value} (h : W2 w b v0 v1) : W2 (w.setCell ⟨b, 1, none⟩ v) b v0 v := by
  obtain ⟨hl, c0, c1, hz⟩ := h
  refine ⟨by simpa using hl, ?_, ?_, fun o => by rw [World.frozen?_setCell]; exact hz o⟩ <;> simp [go_sem, *]
theorem W2.drew {w : World} {b : Nat} {v0 v1 : Value} (h : W2 w b v0 v1) : W2 w.drew b v0 v1 := h.keep (Nat.le_refl _) rfl
theorem w2_new (w : World) (v0 v1 : Value) (t : TypeId) : W2 (w.alloc (.cells #[v0, v1] t)) w.heap.size v0 v1 := by
  obtain ⟨p0, p1⟩ := pair_new w v0 v1 t
  have hb : (w.alloc (.cells #[v0, v1] t)).heap[w.heap.size]? = some (.cells #[v0, v1] t) := by
    rw [World.alloc]
    exact Array.getElem?_push_size
  refine ⟨by simp, p0, p1, fun o => ?_⟩
  unfold World.frozen?
  simp only [hb]
  simp
/-- The list that is being read, behind k entries; the empty result; the entry's box. -/
structure REs (s : ByteArray) (w : World) (k : Nat) (wr : World) (x0 x1 : Int) (aU : Option Addr) (cU : Nat) (aG : Option Addr) (cG : Nat) : Prop where
  a : Ahead w wr (w.heap.size + 1) (fB s k) aU cU aG cG
  r : W7 wr w.heap.size (.int .i64 0) (.int .i64 0) (.int .i64 0) (.slice none 0 0) (.slice none 0 0) (.bool false) (.int .i64 0)
  n : W2 wr (w.heap.size + 2) (.int .i64 x0) (.int .i64 x1)
  fu : ∀ A, aU = some A → w.heap.size + 2 < A.block
  fg : ∀ A, aG = some A → w.heap.size + 2 < A.block
/-- A cell of the entry's box is written. -/
theorem REs.set0 {s : ByteArray} {w : World} {k : Nat} {wr : World} {x0 x1 : Int} {aU aG : Option Addr} {cU cG : Nat} (h : REs s w k wr x0 x1 aU cU aG cG) (y : Int) : REs s w k (wr.setCell ⟨w.heap.size + 2, 0, none⟩ (.int .i64 y)) y x1 aU cU aG cG :=
  ⟨⟨h.a.r.set (by omega) (fun A e => by have := h.fu A e; omega) (fun A e => by have := h.fg A e; omega), W7.other h.a.p (by omega), h.a.b, h.a.nu, h.a.ng⟩, W7.other h.r (by omega), h.n.set0, h.fu, h.fg⟩
theorem REs.set1 {s : ByteArray} {w : World} {k : Nat} {wr : World} {x0 x1 : Int} {aU aG : Option Addr} {cU cG : Nat} (h : REs s w k wr x0 x1 aU cU aG cG) (y : Int) : REs s w k (wr.setCell ⟨w.heap.size + 2, 1, none⟩ (.int .i64 y)) x0 y aU cU aG cG :=
  ⟨⟨h.a.r.set (by omega) (fun A e => by have := h.fu A e; omega) (fun A e => by have := h.fg A e; omega), W7.other h.a.p (by omega), h.a.b, h.a.nu, h.a.ng⟩, W7.other h.r (by omega), h.n.set1, h.fu, h.fg⟩
theorem REs.drew {s : ByteArray} {w : World} {k : Nat} {wr : World} {x0 x1 : Int} {aU aG : Option Addr} {cU cG : Nat} (h : REs s w k wr x0 x1 aU cU aG cG) : REs s w k wr.drew x0 x1 aU cU aG cG :=
  ⟨h.a.drew, h.r.drew, h.n.drew, h.fu, h.fg⟩
theorem REs.next {s : ByteArray} {w : World} {k : Nat} {wr w' : World} {x0 x1 : Int} {aU aG aU' aG' : Option Addr} {cU cG cU' cG' : Nat} (h : REs s w k wr x0 x1 aU cU aG cG) (he : EntI w wr w' (w.heap.size + 1) (fB s (k + 1)) aU aG aU' cU' aG' cG') : REs s w (k + 1) w' x0 x1 aU' cU' aG' cG' := by
  have hz : w.heap.size + 2 < wr.heap.size := h.n.lt
  have f1 : ∀ A, aU' = some A → w.heap.size + 2 < A.block := fun A e => by
    rcases he.fu A e with ⟨A2, e2, e3⟩ | h1
    · rw [e3]; exact h.fu A2 e2
    · omega
  have f2 : ∀ A, aG' = some A → w.heap.size + 2 < A.block := fun A e => by
    rcases he.fg A e with ⟨A2, e2, e3⟩ | h1
    · rw [e3]; exact h.fg A2 e2
    · omega
  refine ⟨⟨he.r, he.p, by omega, fun A e => by have := f1 A e; omega, fun A e => by have := f2 A e; omega⟩, h.r.keep he.but.1 (he.but.2 _ h.r.lt (by omega) (fun A e => by have := h.fu A e; omega) (fun A e => by have := h.fg A e; omega)), h.n.keep he.but.1 (he.but.2 _ h.n.lt (by omega) (fun A e => by have := h.fu A e; omega) (fun A e => by have := h.fg A e; omega)), f1, f2⟩
/-- What holds at a label. -/
def JE (s : ByteArray) (w : World) (l : Nat) (a : Act) (wr : World) : Prop := ∃ (k p : Nat) (x0 x1 : Int) (aU : Option Addr) (cU : Nat) (aG : Option Addr) (cG : Nat) (v1 v5 v8 u9 u10 u11 u12 u13 u14 u15 u16 u17 u18 u19 u20 u21 u22 u23 u24 u25 u26 u27 u28 u29 u30 u31 u32 u33 u34 u35 u36 u37 u38 u39 u40 u41 u42 u43 u44 u45 u46 u47 u48 u49 u50 u51 : Value), k ≤ nE s ∧ Hid (REs s w k wr x0 x1 aU cU aG cG) ∧
  ((l = 1 ∧ p = 4 * k + 1) ∨ (l = 2 ∧ 4 * k + 5 ≤ s.size ∧ p = 4 * k + 2 ∧ v5 = .int .u8 (byte s (4 * k + 1) : Int)) ∨ (l = 3 ∧ 4 * k + 5 ≤ s.size ∧ p = 4 * k + 3 ∧ v5 = .int .u8 (byte s (4 * k + 1) : Int) ∧ x1 = (byte s (4 * k + 2) : Int)) ∨ (l = 0 ∧ k = nE s)) ∧
  a = { tmps := #[.string s, v1, .pointer (some ⟨w.heap.size, 0, none⟩), .bool false, .pointer (some ⟨w.heap.size + 1, 0, none⟩), v5, .pointer (some ⟨w.heap.size + 2, 0, none⟩), .int .i64 (p : Int), v8, u9, u10, u11, u12, u13, u14, u15, u16, u17, u18, u19, u20, u21, u22, u23, u24, u25, u26, u27, u28, u29, u30, u31, u32, u33, u34, u35, u36, u37, u38, u39, u40, u41, u42, u43, u44, u45, u46, u47, u48, u49, u50, u51], defers := [] }
def muE (l : Nat) (a : Act) (_ : World) : Nat := if l = 0 then 0 else 9000 - (intOf (a.tmps.getD 7 undef)).toNat
theorem str_dec (a b : ByteArray) : (a.toList == b.toList) = decide (a = b) := by
  by_cases h : a = b
  · rw [str_eq h]; simp [h]
  · rw [str_ne h]; simp [h]
theorem or8 {h l : Nat} (hh : h ≤ 255) (hl : l ≤ 255) : bits .or .i64 ((h : Int) * 256) (l : Int) = 256 * (h : Int) + l := by
  have e : h * 256 ||| l = h * 256 + l := by
    rw [show h * 256 = 2 ^ 8 * h by omega, ← Nat.two_pow_add_eq_or_of_lt (by omega)]
  have e2 : ((h : Int) * 256).toNat = h * 256 := by omega
  rw [or_bits (by omega) (by omega) (by omega) (by omega), orI, e2, Int.toNat_natCast, e]
  omega
theorem or0 {l : Nat} (hl : l ≤ 255) : bits .or .i64 0 (l : Int) = (l : Int) := by
  rw [or_bits (by omega) (by omega) (by omega) (by omega), orI, Int.toNat_natCast]
  have e0 : (0 : Int).toNat = 0 := rfl
  rw [e0, Nat.zero_or]
set_option maxRecDepth 100000 in
set_option maxHeartbeats 8000000 in
/-- impl.readEntries. -/
theorem iReadE_any (s : ByteArray) (hs : s.size ≤ 8000) (h0 : s.size ≠ 0) (w : World) :
    Calls Tryz.prog 30 #[.string s] w fun e w' => ∃ aU cU aG cG, e = .returned (.tuple #[alV (fB s (nE s)) aU cU aG cG, .bool (decide (alT (fB s (nE s)) = s))]) ∧ R2 w w' (fB s (nE s)) aU cU aG cG := by
  have hbt := get_byte s
  have hnE : nE s ≤ 8000 := by unfold nE; omega
  have HNI : Hid (∀ k, k < nE s ↔ 4 * k + 5 ≤ s.size) := nE_iff h0
  go_enter Tryz.func30, Tryz.ntmps30
  go_wp2_with fail
  refine wp_scope_labels (JE s w) muE ?first ?pass
  case first =>
    have hE : Hid (REs s w 0 (((w.alloc (.cells #[.int .i64 0, .int .i64 0, .int .i64 0, .slice none 0 0, .slice none 0 0, .bool false, .int .i64 0] 25)).alloc (.cells #[.int .i64 0, .int .i64 0, .int .i64 0, .slice none 0 0, .slice none 0 0, .bool false, .int .i64 0] 25)).alloc (.cells #[.int .i64 0, .int .i64 0] 45)) 0 0 none 0 none 0) := (by
      have hb2 := bel_alloc (w.alloc (.cells #[.int .i64 0, .int .i64 0, .int .i64 0, .slice none 0 0, .slice none 0 0, .bool false, .int .i64 0] 25)) (.cells #[.int .i64 0, .int .i64 0, .int .i64 0, .slice none 0 0, .slice none 0 0, .bool false, .int .i64 0] 25)
      have hb3 := bel_alloc ((w.alloc (.cells #[.int .i64 0, .int .i64 0, .int .i64 0, .slice none 0 0, .slice none 0 0, .bool false, .int .i64 0] 25)).alloc (.cells #[.int .i64 0, .int .i64 0, .int .i64 0, .slice none 0 0, .slice none 0 0, .bool false, .int .i64 0] 25)) (.cells #[.int .i64 0, .int .i64 0] 45)
      have z1 : (w.alloc (.cells #[.int .i64 0, .int .i64 0, .int .i64 0, .slice none 0 0, .slice none 0 0, .bool false, .int .i64 0] 25)).heap.size = w.heap.size + 1 := by simp
      have z2 : ((w.alloc (.cells #[.int .i64 0, .int .i64 0, .int .i64 0, .slice none 0 0, .slice none 0 0, .bool false, .int .i64 0] 25)).alloc (.cells #[.int .i64 0, .int .i64 0, .int .i64 0, .slice none 0 0, .slice none 0 0, .bool false, .int .i64 0] 25)).heap.size = w.heap.size + 2 := by simp
      have p1 := w7_new (w.alloc (.cells #[.int .i64 0, .int .i64 0, .int .i64 0, .slice none 0 0, .slice none 0 0, .bool false, .int .i64 0] 25)) (.int .i64 0) (.int .i64 0) (.int .i64 0) (.slice none 0 0) (.slice none 0 0) (.bool false) (.int .i64 0) 25
      have n1 := w2_new ((w.alloc (.cells #[.int .i64 0, .int .i64 0, .int .i64 0, .slice none 0 0, .slice none 0 0, .bool false, .int .i64 0] 25)).alloc (.cells #[.int .i64 0, .int .i64 0, .int .i64 0, .slice none 0 0, .slice none 0 0, .bool false, .int .i64 0] 25)) (.int .i64 0) (.int .i64 0) 45
      rw [z1] at p1
      rw [z2] at n1
      exact ⟨⟨(r2_start w).below (Below.on (Below.on (bel_alloc _ _) hb2) hb3), p1.below hb3, by omega, fun A e => (by cases e), fun A e => (by cases e)⟩, ((w7_new w (.int .i64 0) (.int .i64 0) (.int .i64 0) (.slice none 0 0) (.slice none 0 0) (.bool false) (.int .i64 0) 25).below hb2).below hb3, n1, fun A e => (by cases e), fun A e => (by cases e)⟩)
    go_upto_region 5 with fail
    generalize (((w.alloc (.cells #[.int .i64 0, .int .i64 0, .int .i64 0, .slice none 0 0, .slice none 0 0, .bool false, .int .i64 0] 25)).alloc (.cells #[.int .i64 0, .int .i64 0, .int .i64 0, .slice none 0 0, .slice none 0 0, .bool false, .int .i64 0] 25)).alloc (.cells #[.int .i64 0, .int .i64 0] 45)) = wr at hE ⊢
    go_step3
    by_cases hgo : 5 ≤ s.size
    · have g1 : decide ((s.size : Int) - 1 < 4) = false := by simp; omega
      have g2 : 1 < s.size := by omega
      go_wp2
      go_step3
      exact ⟨0, 2, _, _, _, _, _, _, _, _, _, _, _, _, _, _, _, _, _, _, _, _, _, _, _, _, _, _, _, _, _, _, _, _, _, _, _, _, _, _, _, _, _, _, _, _, _, _, _, _, _, _, _, _, Nat.zero_le _, hE, .inr (.inl ⟨rfl, hgo, rfl, rfl⟩), rfl⟩
    · have g1 : decide ((s.size : Int) - 1 < 4) = true := by simp; omega
      have hkn : 0 = nE s := by have := HNI.out 0; omega
      go_wp2
      go_step3
      exact ⟨0, 1, _, _, _, _, _, _, _, _, _, _, _, _, _, _, _, _, _, _, _, _, _, _, _, _, _, _, _, _, _, _, _, _, _, _, _, _, _, _, _, _, _, _, _, _, _, _, _, _, _, _, _, _, Nat.zero_le _, hE, .inr (.inr (.inr ⟨rfl, hkn⟩)), rfl⟩
  case pass =>
    intro l a' wr hJ
    obtain ⟨k, p, x0, x1, aU, cU, aG, cG, v1, v5, v8, u9, u10, u11, u12, u13, u14, u15, u16, u17, u18, u19, u20, u21, u22, u23, u24, u25, u26, u27, u28, u29, u30, u31, u32, u33, u34, u35, u36, u37, u38, u39, u40, u41, u42, u43, u44, u45, u46, u47, u48, u49, u50, u51, hk, hE, hlab, rfl⟩ := hJ
    rcases hlab with ⟨rfl, hp⟩ | ⟨rfl, hgo, hp, rfl⟩ | ⟨rfl, hgo, hp, rfl, rfl⟩ | ⟨rfl, hkn⟩
    · refine ⟨_, rfl, ?_⟩
      by_cases hgo : 4 * k + 5 ≤ s.size
      · have g1 : decide ((s.size : Int) - (p : Int) < 4) = false := by simp; omega
        have g2 : p < s.size := by omega
        have ebp : byte s p = byte s (4 * k + 1) := by rw [hp]
        have HG : Hid (4 * k + 5 ≤ s.size ∧ p = 4 * k + 1) := ⟨hgo, hp⟩
        clear hgo hp
        go_wp2
        go_step3
        exact ⟨⟨k, p + 1, _, _, _, _, _, _, _, _, _, _, _, _, _, _, _, _, _, _, _, _, _, _, _, _, _, _, _, _, _, _, _, _, _, _, _, _, _, _, _, _, _, _, _, _, _, _, _, _, _, _, _, _, hk, hE, .inr (.inl ⟨rfl, HG.out.1, by have := HG.out.2; omega, by rw [← ebp]⟩), rfl⟩, by simp [muE, intOf]; omega⟩
      · have g1 : decide ((s.size : Int) - (p : Int) < 4) = true := by simp; omega
        have HG : Hid (k = nE s) := (by have := HNI.out k; show _ = _; omega)
        have hpl : p ≤ 8004 := by have := (HNI.out (k - 1)); omega
        clear hgo hp
        go_wp2
        go_step3
        exact ⟨⟨k, p, _, _, _, _, _, _, _, _, _, _, _, _, _, _, _, _, _, _, _, _, _, _, _, _, _, _, _, _, _, _, _, _, _, _, _, _, _, _, _, _, _, _, _, _, _, _, _, _, _, _, _, _, hk, hE, .inr (.inr (.inr ⟨rfl, HG.out⟩)), rfl⟩, by simp [muE, intOf]; omega⟩
    · refine ⟨_, rfl, ?_⟩
      have g2 : p < s.size := by omega
      have ebp : byte s p = byte s (4 * k + 2) := by rw [hp]
      have HG : Hid (4 * k + 5 ≤ s.size ∧ p = 4 * k + 2) := ⟨hgo, hp⟩
      clear hgo hp
      obtain ⟨nl, n0, n1, nz⟩ := hE.out.n
      have nz1 := nz 1
      have lb2 := byte_le s (4 * k + 2)
      have hE2 : Hid _ := hE.out.set1 (byte s (4 * k + 2) : Int)
      go_wp2
      go_step3
      exact ⟨⟨k, p + 1, _, _, _, _, _, _, _, _, _, _, _, _, _, _, _, _, _, _, _, _, _, _, _, _, _, _, _, _, _, _, _, _, _, _, _, _, _, _, _, _, _, _, _, _, _, _, _, _, _, _, _, _, hk, hE2, .inr (.inr (.inl ⟨rfl, HG.out.1, by have := HG.out.2; omega, rfl, rfl⟩)), rfl⟩, by simp [muE, intOf]; omega⟩
    · refine ⟨_, rfl, ?_⟩
      have g2 : p < s.size := by omega
      have g3 : p + 1 < s.size := by omega
      have eb0 : byte s p = byte s (4 * k + 3) := by rw [hp]
      have eb1 : byte s (p + 1) = byte s (4 * k + 4) := by rw [hp]
      have l0 := byte_le s (4 * k + 3)
      have l1 := byte_le s (4 * k + 4)
      have HG : Hid (4 * k + 5 ≤ s.size ∧ p = 4 * k + 3) := ⟨hgo, hp⟩
      have ho0 := or0 l0
      have ho8 := or8 l0 l1
      clear hgo hp
      have HFN : Hid (fB s (k + 1) = takeE (fB s k) (byte s (4 * k + 1)) (byte s (4 * k + 2) : Int) (256 * (byte s (4 * k + 3) : Int) + (byte s (4 * k + 4) : Int))) := rfl
      have HPK : Hid (∀ w', Ahead w w' (w.heap.size + 1) (fB s k) aU cU aG cG → Calls Tryz.prog 58 #[.pointer (some ⟨w.heap.size + 1, 0, none⟩), .int .u8 (byte s (4 * k + 1) : Int), .agg #[.int .i64 (256 * (byte s (4 * k + 3) : Int) + (byte s (4 * k + 4) : Int)), .int .i64 (byte s (4 * k + 2) : Int)]] w' fun e w'' => e = .returned (.tuple #[]) ∧ ∃ aU' cU' aG' cG', EntI w w' w'' (w.heap.size + 1) (fB s (k + 1)) aU aG aU' cU' aG' cG') := (fun w' hA => by
        have hfl := fB_len s k
        rw [HFN.out]
        exact iPutK_any w w' (w.heap.size + 1) (fB s k) aU cU aG cG hA (by omega) (by omega) _ _ _ (byte_le s _))
      clear HFN
      generalize byte s (4 * k + 3) = bh at eb0 l0 ho0 ho8 HPK
      generalize byte s (4 * k + 4) = bl at eb1 l1 ho8 HPK
      obtain ⟨nl, n0, n1, nz⟩ := hE.out.n
      have nz0 := nz 0
      have hE2 : Hid _ := hE.out.set0 0
      go_upto_region 11 with fail
      generalize wr.setCell ⟨w.heap.size + 2, 0, none⟩ (.int .i64 0) = wa at hE2 ⊢
      clear nl n0 n1 nz nz0 hE
      obtain ⟨nl, n0, n1, nz⟩ := hE2.out.n
      have nz0 := nz 0
      clear nz
      go_wp2
      refine wp_loop_rounds 3 ?_
      rw [rounds_succ]
      go_upto_region 14 with fail
      go_region
      have hE3 : Hid _ := (hE2.out.set0 (bh : Int)).drew
      generalize (wa.setCell ⟨w.heap.size + 2, 0, none⟩ (.int .i64 (bh : Int))).drew = wb at hE3 ⊢
      clear nl n0 n1 nz0 hE2
      obtain ⟨nl, n0, n1, nz⟩ := hE3.out.n
      have nz0 := nz 0
      clear nz
      go_wp2
      rw [rounds_succ]
      go_upto_region 14 with fail
      go_region
      have hE4 : Hid _ := (hE3.out.set0 (256 * (bh : Int) + (bl : Int))).drew
      generalize (wb.setCell ⟨w.heap.size + 2, 0, none⟩ (.int .i64 (256 * (bh : Int) + (bl : Int)))).drew = wc at hE4 ⊢
      clear nl n0 n1 nz0 hE3
      obtain ⟨nl, n0, n1, nz⟩ := hE4.out.n
      have nz0 := nz 0
      clear nz
      go_wp2
      rw [rounds_succ]
      go_wp2_with fail
      refine (HPK.out _ hE4.out.a).mono ?_
      rintro e wd ⟨rfl, aU', cU', aG', cG', hEn⟩
      have hE5 : Hid _ := hE4.out.next hEn
      clear hEn nl n0 n1 nz0
      go_wp2
      go_step3
      have hk1 : k + 1 ≤ nE s := by have := (HNI.out k).2 HG.out.1; omega
      exact ⟨⟨k + 1, p + 2, _, _, _, _, _, _, _, _, _, _, _, _, _, _, _, _, _, _, _, _, _, _, _, _, _, _, _, _, _, _, _, _, _, _, _, _, _, _, _, _, _, _, _, _, _, _, _, _, _, _, _, _, hk1, hE5, .inl ⟨rfl, by have := HG.out.2; omega⟩, rfl⟩, by simp [muE, intOf]; omega⟩
    · refine ⟨_, rfl, ?_⟩
      subst hkn
      have hfl := fB_len s (nE s)
      have HT : Hid (∀ w', Below wr.heap.size wr w' → Calls Tryz.prog 7 #[.agg #[.int .i64 (fB s (nE s)).u, .int .i64 (fB s (nE s)).g, .int .i64 (fB s (nE s)).o, .slice aU (fB s (nE s)).us.length cU, .slice aG (fB s (nE s)).gs.length cG, .bool (fB s (nE s)).r, .int .i64 (fB s (nE s)).m]] w' fun e w'' => e = .returned (.string (alT (fB s (nE s)))) ∧ Below w'.heap.size w' w'') := (fun w' hb => iAclBytes_any _ _ _ aU _ cU aG _ cG _ _ _ _ w' (hE.out.a.r.prsU.below hb) (hE.out.a.r.prsG.below hb))
      have hP : Hid (W7 wr (w.heap.size + 1) (.int .i64 (fB s (nE s)).u) (.int .i64 (fB s (nE s)).g) (.int .i64 (fB s (nE s)).o) (.slice aU (fB s (nE s)).us.length cU) (.slice aG (fB s (nE s)).gs.length cG) (.bool (fB s (nE s)).r) (.int .i64 (fB s (nE s)).m)) := hE.out.a.p
      have hR : Hid (R2 w wr (fB s (nE s)) aU cU aG cG) := hE.out.a.r
      have hZ : Hid (W7 wr w.heap.size (.int .i64 0) (.int .i64 0) (.int .i64 0) (.slice none 0 0) (.slice none 0 0) (.bool false) (.int .i64 0)) := hE.out.r
      have hN : Hid ((∀ A, aU = some A → w.heap.size ≠ A.block) ∧ (∀ A, aG = some A → w.heap.size ≠ A.block)) := ⟨fun A e => by have := hE.out.fu A e; omega, fun A e => by have := hE.out.fg A e; omega⟩
      clear hE hk hfl
      generalize hRS : fB s (nE s) = RS at HT hP hR hZ
      have HRS : Hid (fB s (nE s) = RS) := hRS
      clear hRS
      obtain ⟨pl, p0, p1, p2, p3, p4, p5, p6, pz⟩ := hP.out
      obtain ⟨rl, r0, r1, r2, r3, r4, r5, r6, rz⟩ := hZ.out
      have rz0 := rz 0
      have rz1 := rz 1
      have rz2 := rz 2
      have rz3 := rz 3
      have rz4 := rz 4
      have rz5 := rz 5
      have rz6 := rz 6
      clear pz rz
      generalize hTX : alT RS = TX at HT
      have HTX : Hid (alT RS = TX) := hTX
      clear hTX
      go_upto_region 18 with fail
      go_region_law (go_simp; go_at_call 7; refine (HT.out _ (bdC (Below.refl _ _))).mono ?_; rintro e w4 ⟨rfl, hb4⟩; have HB4 : Hid (Below wr.heap.size wr w4) := bdZ hb4; have hP4 := hP.out.below HB4.out; have hZ4 := hZ.out.below HB4.out; have hR4 : Hid _ := hR.out.below HB4.out; have HZ4 : Hid _ := hZ4; obtain ⟨ql, q0, q1, q2, q3, q4, q5, q6, qz⟩ := hP4; obtain ⟨tl, t0, t1, t2, t3, t4, t5, t6, tz⟩ := hZ4; have tz0 := tz 0; have tz1 := tz 1; have tz2 := tz 2; have tz3 := tz 3; have tz4 := tz 4; have tz5 := tz 5; have tz6 := tz 6; clear qz tz hb4)
      all_goals
        have HR5 : Hid _ := hR4.out.all (b := w.heap.size) (Nat.le_refl _) hN.out.1 hN.out.2 (.int .i64 RS.u) (.int .i64 RS.g) (.int .i64 RS.o) (.slice aU RS.us.length cU) (.slice aG RS.gs.length cG) (.bool RS.r) (.int .i64 RS.m)
        have HP5 : Hid _ := HZ4.out.all (.int .i64 RS.u) (.int .i64 RS.g) (.int .i64 RS.o) (.slice aU RS.us.length cU) (.slice aG RS.gs.length cG) (.bool RS.r) (.int .i64 RS.m)
        generalize (((((((w4.setCell ⟨w.heap.size, 0, none⟩ (.int .i64 RS.u)).setCell ⟨w.heap.size, 1, none⟩ (.int .i64 RS.g)).setCell ⟨w.heap.size, 2, none⟩ (.int .i64 RS.o)).setCell ⟨w.heap.size, 3, none⟩ (.slice aU RS.us.length cU)).setCell ⟨w.heap.size, 4, none⟩ (.slice aG RS.gs.length cG)).setCell ⟨w.heap.size, 5, none⟩ (.bool RS.r)).setCell ⟨w.heap.size, 6, none⟩ (.int .i64 RS.m)) = w5 at HR5 HP5 ⊢
        clear pl p0 p1 p2 p3 p4 p5 p6 rl r0 r1 r2 r3 r4 r5 r6 rz0 rz1 rz2 rz3 rz4 rz5 rz6 ql q0 q1 q2 q3 q4 q5 q6 tl t0 t1 t2 t3 t4 t5 t6 tz0 tz1 tz2 tz3 tz4 tz5 tz6
        obtain ⟨zl, z0, z1, z2, z3, z4, z5, z6, zz⟩ := HP5.out
        go_wp2
        simp only [labels]
        refine bodyPost_ret (v := .tuple #[.agg #[.int .i64 RS.u, .int .i64 RS.g, .int .i64 RS.o, .slice aU RS.us.length cU, .slice aG RS.gs.length cG, .bool RS.r, .int .i64 RS.m], .bool (TX.toList == s.toList)]) (by simp [results, Tryz.results30, go_sem, z0, z1, z2, z3, z4, z5, z6]) rfl ?_
        rw [HRS.out]
        refine ⟨aU, cU, aG, cG, ?_, HR5.out⟩
        rw [str_dec, HTX.out]
        rfl
set_option maxRecDepth 100000 in
set_option maxHeartbeats 4000000 in
/-- impl.AclFrom. -/
theorem iAclFrom_any (s : ByteArray) (hs : s.size ≤ 1048576) (w : World) :
    Calls Tryz.prog 11 #[.string s] w (Answers (afO s) w) := by
  have hbt := get_byte s
  have hY : Hid (W8 (w.alloc (.cells #[.int .i64 0, .int .i64 0, .int .i64 0, .slice none 0 0, .slice none 0 0, .bool false, .int .i64 0, .int .i64 0] 30)) w.heap.size) := w8_new w _
  have hW0 : Hid (Below w.heap.size w (w.alloc (.cells #[.int .i64 0, .int .i64 0, .int .i64 0, .slice none 0 0, .slice none 0 0, .bool false, .int .i64 0, .int .i64 0] 30))) := bel_alloc _ _
  by_cases h8 : 8000 < s.size
  · have hO : Hid (afO s = illA 2) := (by show _ = _; rw [afO, if_pos h8])
    have h8' : (8000 : Int) < (s.size : Int) := by omega
    clear h8 hbt
    go_enter Tryz.func11, Tryz.ntmps11
    go_wp2
    refine bodyPost_ret (v := .agg #[.int .i64 0, .int .i64 0, .int .i64 0, .slice none 0 0, .slice none 0 0, .bool false, .int .i64 0, .int .i64 2]) (by simp [results, Tryz.results11, go_sem]) rfl (answers_ill hO.out ?_)
    repeat (refine bl_setL ?_ (Nat.le_refl _))
    exact bel_alloc _ _
  have h8' : ¬ (8000 : Int) < (s.size : Int) := by omega
  have hls : s.data.toList.length = s.size := (Lib.size_eq s).symm
  by_cases h0 : s.size = 0
  · have hO : Hid (afO s = illA 4) := (by show _ = _; rw [afO, if_neg h8, if_pos h0])
    have e0 : s.toList.isEmpty = true := tlL_empty (List.eq_nil_of_length_eq_zero (by omega))
    clear h8 hbt h0 hls
    go_enter Tryz.func11, Tryz.ntmps11
    go_wp2
    refine bodyPost_ret (v := .agg #[.int .i64 0, .int .i64 0, .int .i64 0, .slice none 0 0, .slice none 0 0, .bool false, .int .i64 0, .int .i64 4]) (by simp [results, Tryz.results11, go_sem]) rfl (answers_ill hO.out ?_)
    repeat (refine bl_setL ?_ (Nat.le_refl _))
    exact bel_alloc _ _
  have e0 : s.toList.isEmpty = false := tlL_full (fun e => h0 (by rw [e] at hls; simpa using hls.symm))
  have h0' : 0 < s.size := by omega
  by_cases h2 : ¬ byte s 0 = 2
  · have hO : Hid (afO s = illA 10) := (by show _ = _; rw [afO, if_neg h8, if_neg h0, if_pos h2])
    have q2 : ((byte s 0 : Int) == 2) = false := beq_eq_false_iff_ne.2 (by omega)
    clear h8 h0 hls h2
    go_enter Tryz.func11, Tryz.ntmps11
    go_wp2
    refine bodyPost_ret (v := .agg #[.int .i64 0, .int .i64 0, .int .i64 0, .slice none 0 0, .slice none 0 0, .bool false, .int .i64 0, .int .i64 10]) (by simp [results, Tryz.results11, go_sem]) rfl (answers_ill hO.out ?_)
    repeat (refine bl_setL ?_ (Nat.le_refl _))
    exact bel_alloc _ _
  have h2 : byte s 0 = 2 := Decidable.not_not.1 h2
  have hend : Hid ((alT (fB s (nE s)) = s ∧ afO s = ⟨(fB s (nE s)).u, (fB s (nE s)).g, (fB s (nE s)).o, (fB s (nE s)).us, (fB s (nE s)).gs, (fB s (nE s)).r, (fB s (nE s)).m, 0⟩) ∨ (alT (fB s (nE s)) ≠ s ∧ afO s = illA 3)) := (by
    rcases afO_cases h8 h0 h2 with ⟨a, h5, _, h6, h7⟩ | ⟨h6, _, h7⟩
    · exact .inl ⟨by rw [h5]; exact h6, by rw [h5]; exact h7⟩
    · exact .inr ⟨h6, h7⟩)
  have HR : Hid (∀ w, Calls Tryz.prog 30 #[.string s] w fun e w' => ∃ aU cU aG cG, e = .returned (.tuple #[alV (fB s (nE s)) aU cU aG cG, .bool (decide (alT (fB s (nE s)) = s))]) ∧ R2 w w' (fB s (nE s)) aU cU aG cG) := iReadE_any s (by omega) h0
  clear hls h8 h0
  generalize fB s (nE s) = RS at hend HR
  rcases hend.out with ⟨g1, g2⟩ | ⟨g1, g2⟩
  · have hd : decide (alT RS = s) = true := by simp [g1]
    rw [hd] at HR
    have hO2 : Hid _ := g2
    clear g1 g2 hend hd
    go_enter Tryz.func11, Tryz.ntmps11
    go_wp2_with fail
    refine (HR.out _).mono ?_
    rintro e w1 ⟨aU, cU, aG, cG, rfl, hR1⟩
    have hY1 : Hid (W8 w1 w.heap.size) := hY.out.below hR1.bel
    have HNA : Hid (New w w1 aU RS.us.length RS.us aG RS.gs.length RS.gs) := hR1.new.pre hW0.out
    have HNE : Hid ((∀ A, aU = some A → w.heap.size ≠ A.block) ∧ (∀ A, aG = some A → w.heap.size ≠ A.block)) := ⟨fun A e => by have := (hR1.new.iu A e).1; simp at this; omega, fun A e => by have := (hR1.new.ig A e).1; simp at this; omega⟩
    clear hR1 hY hW0 HR
    simp only [alV]
    go_upto_region 8 with fail
    have hP2 : Hid (W7 (w1.alloc (.cells #[.int .i64 RS.u, .int .i64 RS.g, .int .i64 RS.o, .slice aU RS.us.length cU, .slice aG RS.gs.length cG, .bool RS.r, .int .i64 RS.m] 25)) w1.heap.size (.int .i64 RS.u) (.int .i64 RS.g) (.int .i64 RS.o) (.slice aU RS.us.length cU) (.slice aG RS.gs.length cG) (.bool RS.r) (.int .i64 RS.m)) := w7_new w1 _ _ _ _ _ _ _ _
    have hY2 : Hid _ := hY1.out.below (bel_alloc w1 (.cells #[.int .i64 RS.u, .int .i64 RS.g, .int .i64 RS.o, .slice aU RS.us.length cU, .slice aG RS.gs.length cG, .bool RS.r, .int .i64 RS.m] 25))
    have HNB : Hid _ := HNA.out.on (bel_alloc w1 (.cells #[.int .i64 RS.u, .int .i64 RS.g, .int .i64 RS.o, .slice aU RS.us.length cU, .slice aG RS.gs.length cG, .bool RS.r, .int .i64 RS.m] 25))
    generalize w1.alloc (.cells #[.int .i64 RS.u, .int .i64 RS.g, .int .i64 RS.o, .slice aU RS.us.length cU, .slice aG RS.gs.length cG, .bool RS.r, .int .i64 RS.m] 25) = w2 at hP2 hY2 HNB ⊢
    generalize w1.heap.size = X at hP2 ⊢
    clear hY1 HNA
    obtain ⟨pl, p0, p1, p2, p3, p4, p5, p6, pz⟩ := hP2.out
    obtain ⟨yl, y0, y1, y2, y3, y4, y5, y6, y7, yz⟩ := hY2.out
    have yz0 := yz 0
    have yz1 := yz 1
    have yz2 := yz 2
    have yz3 := yz 3
    have yz4 := yz 4
    have yz5 := yz 5
    have yz6 := yz 6
    have yz7 := yz 7
    clear yz pz
    go_wp2
    refine bodyPost_ret (v := .agg #[.int .i64 RS.u, .int .i64 RS.g, .int .i64 RS.o, .slice aU RS.us.length cU, .slice aG RS.gs.length cG, .bool RS.r, .int .i64 RS.m, .int .i64 0]) (by simp [results, Tryz.results11, go_sem, y0, y1, y2, y3, y4, y5, y6, y7]) rfl (answers_of hO2.out rfl rfl ?_)
    repeat (refine New.set ?_ (Nat.le_refl _) HNE.out.1 HNE.out.2)
    exact HNB.out
  · have hd : decide (alT RS = s) = false := by simp [g1]
    rw [hd] at HR
    have hO2 : Hid (afO s = illA 3) := g2
    clear g1 g2 hend hd
    go_enter Tryz.func11, Tryz.ntmps11
    go_wp2_with fail
    refine (HR.out _).mono ?_
    rintro e w1 ⟨aU, cU, aG, cG, rfl, hR1⟩
    have hY1 : Hid (W8 w1 w.heap.size) := hY.out.below hR1.bel
    have hW1 : Hid (Below w.heap.size w w1) := Below.on hW0.out hR1.bel
    clear hR1 hY hW0 HR
    simp only [alV]
    go_upto_region 8 with fail
    have hY2 : Hid _ := hY1.out.below (bel_alloc w1 (.cells #[.int .i64 RS.u, .int .i64 RS.g, .int .i64 RS.o, .slice aU RS.us.length cU, .slice aG RS.gs.length cG, .bool RS.r, .int .i64 RS.m] 25))
    have hW2 : Hid _ := Below.on hW1.out (bel_alloc w1 (.cells #[.int .i64 RS.u, .int .i64 RS.g, .int .i64 RS.o, .slice aU RS.us.length cU, .slice aG RS.gs.length cG, .bool RS.r, .int .i64 RS.m] 25))
    generalize w1.alloc (.cells #[.int .i64 RS.u, .int .i64 RS.g, .int .i64 RS.o, .slice aU RS.us.length cU, .slice aG RS.gs.length cG, .bool RS.r, .int .i64 RS.m] 25) = w2 at hY2 hW2 ⊢
    clear hY1 hW1
    obtain ⟨yl, y0, y1, y2, y3, y4, y5, y6, y7, yz⟩ := hY2.out
    have yz0 := yz 0
    have yz1 := yz 1
    have yz2 := yz 2
    have yz3 := yz 3
    have yz4 := yz 4
    have yz5 := yz 5
    have yz6 := yz 6
    have yz7 := yz 7
    clear yz
    go_wp2
    refine bodyPost_ret (v := .agg #[.int .i64 0, .int .i64 0, .int .i64 0, .slice none 0 0, .slice none 0 0, .bool false, .int .i64 0, .int .i64 3]) (by simp [results, Tryz.results11, go_sem, y0, y1, y2, y3, y4, y5, y6, y7]) rfl (answers_ill hO2.out ?_)
    repeat (refine bl_setL ?_ (Nat.le_refl _))
    exact hW2.out
end Go.Proofs.YtgooanaacebncaaGreatDoor
