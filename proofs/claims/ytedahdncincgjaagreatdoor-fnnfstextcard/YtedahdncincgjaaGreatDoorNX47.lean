/- Laid together: SGetNum, SNu, SNf, NxW. -/
import Derived.Test.YtedahdncincgjaaGreatDoorNX46
import Derived.Test.YtedahdncincgjaaGreatDoorNX41
import Derived.Test.YtedahdncincgjaaGreatDoorNX42
/- The contract of spec.GetNum: at every text and place it answers what 'scan' says. -/
namespace Go.Proofs.YtedahdncincgjaaGreatDoor
open Go.RowKit
set_option linter.unusedVariables false
set_option maxRecDepth 100000 in
set_option maxHeartbeats 2000000 in
theorem sGetNum_in (s : ByteArray) (x : Nat) (hs : s.size ≤ 8000) (hx : x ≤ 9223372036854775807) (w : World) :
    Calls Tryz.prog 80 #[.string s, .int .i64 x] w fun e w' => e = .returned (numV (scan s x 10 0 0)) ∧ Below w.heap.size w w' := by
  have hbt := get_byte s
  have d1 : decide (8000 < (s.size : Int)) = false := by simp; omega
  have d2 : decide ((x : Int) < 0) = false := by simp
  go_enter Tryz.func80, Tryz.ntmps80
  go_wp2
  go_loop [5, 6] (fun u i => ∃ (k : Nat) (acc : Nat), k ≤ 9 ∧ i = .int .i64 k ∧ u = .int .u64 acc ∧ Hid (Goes s x k acc)) (fun _ i => 10 - (intOf i).toNat)
  case atStart => exact ⟨0, 0, by omega, rfl, rfl, goes_start s x⟩
  case round =>
    obtain ⟨k, acc, hk, rfl, rfl, hgo⟩ := hrel
    by_cases hsh : x + k < s.size
    · have b1 := byte_le s (x + k)
      have g1 : decide (((s.size : Int) - k) ≤ x) = false := by simp; omega
      by_cases h9 : k = 9 ∧ 1 < byte s (x + k)
      · have hres : Hid (scan s x 10 0 0 = (0, 0, 3)) := goes_nine h9.1 hgo.out hsh h9.2
        have g2 : ((k : Int) == 9) = true := by rw [h9.1]; rfl
        have g3 : 1 < byte s (x + k) := h9.2
        clear h9
        go_wp2
        exact bodyPost_ret (v := numV (0, 0, 3)) (by simp [results, Tryz.results80, go_sem, numV]) rfl ⟨by rw [hres.out], (Below.refl _ _).alloc (Nat.le_refl _) _⟩
      · have hlt := put_add hk hgo.out.2 (b := byte s (x + k)) (by omega)
        have hle := put7_le hk hgo.out.2 (b := byte s (x + k)) (by omega)
        by_cases h128 : byte s (x + k) < 128
        · have hres : Hid _ := goes_last hk hgo.out hsh h9 h128
          by_cases h0 : byte s (x + k) = 0 ∧ 0 < k
          · have hr2 : Hid (scan s x 10 0 0 = (0, 0, 3)) := by have := hres.out; rw [if_pos h0] at this; exact this
            have g4 : ((byte s (x + k) : Int) == 0) = true := by rw [h0.1]; rfl
            have g5 : 0 < k := h0.2
            clear hres h0
            by_cases hk9 : k = 9
            · have g2 : ((k : Int) == 9) = true := by rw [hk9]; rfl
              have g3 : decide (1 < (byte s (x + k) : Int)) = false := by simp; omega
              clear hk9
              clear h9
              go_wp2
              exact bodyPost_ret (v := numV (0, 0, 3)) (by simp [results, Tryz.results80, go_sem, numV]) rfl ⟨by rw [hr2.out], (Below.refl _ _).alloc (Nat.le_refl _) _⟩
            · have g2 : ((k : Int) == 9) = false := by rw [beq_eq_false_iff_ne]; omega
              clear hk9
              clear h9
              go_wp2
              exact bodyPost_ret (v := numV (0, 0, 3)) (by simp [results, Tryz.results80, go_sem, numV]) rfl ⟨by rw [hr2.out], (Below.refl _ _).alloc (Nat.le_refl _) _⟩
          · have hr2 : Hid (scan s x 10 0 0 = (unf (put7 k acc (byte s (x + k))), (x : Int) + k + 1, 0)) := by have := hres.out; rw [if_neg h0] at this; exact this
            clear hres
            by_cases hz : byte s (x + k) = 0
            · have g4 : ((byte s (x + k) : Int) == 0) = true := by rw [hz]; rfl
              have g5 : ¬ 0 < k := by omega
              have g2 : ((k : Int) == 9) = false := by rw [beq_eq_false_iff_ne]; omega
              clear hz
              by_cases hp : put7 k acc (byte s (x + k)) % 2 = 1
              · have hu : Hid (unf (put7 k acc (byte s (x + k))) = -((put7 k acc (byte s (x + k)) : Int) / 2) - 1) := unf_odd hp
                have gp : (((put7 k acc (byte s (x + k)) : Nat) : Int) % 2 == 1) = true := by rw [beq_iff_eq]; omega
                clear hp h9 h0
                go_wp2
                exact bodyPost_ret (v := numV (-((put7 k acc (byte s (x + k)) : Int) / 2) - 1, (x : Int) + k + 1, 0)) (by simp [results, Tryz.results80, go_sem, numV]) rfl ⟨by rw [hr2.out, hu.out], (Below.refl _ _).alloc (Nat.le_refl _) _⟩
              · have hu : Hid (unf (put7 k acc (byte s (x + k))) = (put7 k acc (byte s (x + k)) : Int) / 2) := unf_even hp
                have gp : (((put7 k acc (byte s (x + k)) : Nat) : Int) % 2 == 1) = false := by rw [beq_eq_false_iff_ne]; omega
                clear hp h9 h0
                go_wp2
                exact bodyPost_ret (v := numV ((put7 k acc (byte s (x + k)) : Int) / 2, (x : Int) + k + 1, 0)) (by simp [results, Tryz.results80, go_sem, numV]) rfl ⟨by rw [hr2.out, hu.out], (Below.refl _ _).alloc (Nat.le_refl _) _⟩
            · have g4 : ((byte s (x + k) : Int) == 0) = false := by rw [beq_eq_false_iff_ne]; omega
              clear hz
              by_cases hk9 : k = 9
              · have g2 : ((k : Int) == 9) = true := by rw [hk9]; rfl
                have g3 : decide (1 < (byte s (x + k) : Int)) = false := by simp; omega
                clear hk9
                by_cases hp : put7 k acc (byte s (x + k)) % 2 = 1
                · have hu : Hid (unf (put7 k acc (byte s (x + k))) = -((put7 k acc (byte s (x + k)) : Int) / 2) - 1) := unf_odd hp
                  have gp : (((put7 k acc (byte s (x + k)) : Nat) : Int) % 2 == 1) = true := by rw [beq_iff_eq]; omega
                  clear hp h9 h0
                  go_wp2
                  exact bodyPost_ret (v := numV (-((put7 k acc (byte s (x + k)) : Int) / 2) - 1, (x : Int) + k + 1, 0)) (by simp [results, Tryz.results80, go_sem, numV]) rfl ⟨by rw [hr2.out, hu.out], (Below.refl _ _).alloc (Nat.le_refl _) _⟩
                · have hu : Hid (unf (put7 k acc (byte s (x + k))) = (put7 k acc (byte s (x + k)) : Int) / 2) := unf_even hp
                  have gp : (((put7 k acc (byte s (x + k)) : Nat) : Int) % 2 == 1) = false := by rw [beq_eq_false_iff_ne]; omega
                  clear hp h9 h0
                  go_wp2
                  exact bodyPost_ret (v := numV ((put7 k acc (byte s (x + k)) : Int) / 2, (x : Int) + k + 1, 0)) (by simp [results, Tryz.results80, go_sem, numV]) rfl ⟨by rw [hr2.out, hu.out], (Below.refl _ _).alloc (Nat.le_refl _) _⟩
              · have g2 : ((k : Int) == 9) = false := by rw [beq_eq_false_iff_ne]; omega
                clear hk9
                by_cases hp : put7 k acc (byte s (x + k)) % 2 = 1
                · have hu : Hid (unf (put7 k acc (byte s (x + k))) = -((put7 k acc (byte s (x + k)) : Int) / 2) - 1) := unf_odd hp
                  have gp : (((put7 k acc (byte s (x + k)) : Nat) : Int) % 2 == 1) = true := by rw [beq_iff_eq]; omega
                  clear hp h9 h0
                  go_wp2
                  exact bodyPost_ret (v := numV (-((put7 k acc (byte s (x + k)) : Int) / 2) - 1, (x : Int) + k + 1, 0)) (by simp [results, Tryz.results80, go_sem, numV]) rfl ⟨by rw [hr2.out, hu.out], (Below.refl _ _).alloc (Nat.le_refl _) _⟩
                · have hu : Hid (unf (put7 k acc (byte s (x + k))) = (put7 k acc (byte s (x + k)) : Int) / 2) := unf_even hp
                  have gp : (((put7 k acc (byte s (x + k)) : Nat) : Int) % 2 == 1) = false := by rw [beq_eq_false_iff_ne]; omega
                  clear hp h9 h0
                  go_wp2
                  exact bodyPost_ret (v := numV ((put7 k acc (byte s (x + k)) : Int) / 2, (x : Int) + k + 1, 0)) (by simp [results, Tryz.results80, go_sem, numV]) rfl ⟨by rw [hr2.out, hu.out], (Below.refl _ _).alloc (Nat.le_refl _) _⟩
        · have hmo : Hid (k + 1 ≤ 9 ∧ Goes s x (k + 1) (put7 k acc (byte s (x + k)))) := goes_more hk hgo.out hsh h9 (by omega)
          have g7 : 128 ≤ byte s (x + k) := by omega
          have g2 : ((k : Int) == 9) = false := by rw [beq_eq_false_iff_ne]; omega
          clear h9 h128
          go_wp2
          go_round
          case rel => exact ⟨k + 1, put7 k acc (byte s (x + k)), hmo.out.1, by go_num, rfl, hmo.out.2⟩
          case measure => simp [intOf]; omega
    · have hres : Hid (scan s x 10 0 0 = (0, 0, 4)) := goes_short hk hgo.out (by omega)
      have g1 : decide (((s.size : Int) - k) ≤ x) = true := by simp; omega
      go_wp2
      exact bodyPost_ret (v := numV (0, 0, 4)) (by simp [results, Tryz.results80, go_sem, numV]) rfl ⟨by rw [hres.out], (Below.refl _ _).alloc (Nat.le_refl _) _⟩
end Go.Proofs.YtedahdncincgjaaGreatDoor
/- The reader of the specification: l06Reader's num. -/
namespace Go.Proofs.YtedahdncincgjaaGreatDoor
open Go.RowKit Go.PlainAid Go.Deep
set_option linter.unusedVariables false
/-- The reader's box. -/
structure Rd (w : World) (X : Nat) (s : ByteArray) (σ : Nat × Bool) : Prop where
  lt : X < w.heap.size
  c0 : w.cell? ⟨X, 0, none⟩ = some (.string s)
  c1 : w.cell? ⟨X, 1, none⟩ = some (.int .i64 (σ.1 : Int))
  c2 : w.cell? ⟨X, 2, none⟩ = some (.bool σ.2)
  z : ∀ o, w.frozen? ⟨X, o, none⟩ = false
theorem Rd.keep {w w' : World} {X : Nat} {s : ByteArray} {σ : Nat × Bool} (h : Rd w X s σ) (hs : w.heap.size ≤ w'.heap.size) (hk : w'.heap[X]? = w.heap[X]?) : Rd w' X s σ := by
  have hc : ∀ o, w'.cell? ⟨X, o, none⟩ = w.cell? ⟨X, o, none⟩ := fun o => World.cell?_of_block (a := ⟨X, o, none⟩) hk
  exact ⟨Nat.lt_of_lt_of_le h.lt hs, (hc 0).trans h.c0, (hc 1).trans h.c1, (hc 2).trans h.c2, fun o => (World.frozen?_of_block (a := ⟨X, o, none⟩) hk).trans (h.z o)⟩
theorem Rd.below {w w' : World} {X : Nat} {s : ByteArray} {σ : Nat × Bool} (h : Rd w X s σ) (hb : Below w.heap.size w w') : Rd w' X s σ := h.keep hb.size (hb.block X h.lt)
theorem Rd.set1 {w : World} {X : Nat} {s : ByteArray} {σ : Nat × Bool} (h : Rd w X s σ) (q : Nat) : Rd (w.setCell ⟨X, 1, none⟩ (.int .i64 (q : Int))) X s (q, σ.2) := by
  obtain ⟨hl, c0, c1, c2, hz⟩ := h
  refine ⟨by simpa using hl, ?_, ?_, ?_, fun o => by rw [World.frozen?_setCell]; exact hz o⟩ <;> simp [go_sem, *]
theorem Rd.set2 {w : World} {X : Nat} {s : ByteArray} {σ : Nat × Bool} (h : Rd w X s σ) (b : Bool) : Rd (w.setCell ⟨X, 2, none⟩ (.bool b)) X s (σ.1, b) := by
  obtain ⟨hl, c0, c1, c2, hz⟩ := h
  refine ⟨by simpa using hl, ?_, ?_, ?_, fun o => by rw [World.frozen?_setCell]; exact hz o⟩ <;> simp [go_sem, *]
/-- What num leaves: the reader's box alone may have turned. -/
structure NumW (X : Nat) (w w' : World) : Prop where
  bel : Below X w w'
  kp : ∀ b, b ≠ X → b < w.heap.size → w'.heap[b]? = w.heap[b]?
theorem NumW.of_below {X : Nat} {w w' : World} (h : Below w.heap.size w w') (hX : X ≤ w.heap.size) : NumW X w w' := ⟨h.mono hX, fun b _ hb => h.block b hb⟩
theorem NumW.set {X : Nat} {w w' : World} {o : Nat} {v : Value} (h : NumW X w w') : NumW X w (w'.setCell ⟨X, o, none⟩ v) :=
  ⟨h.bel.setCell (Nat.le_refl _) _, fun b hne hb => (Below.heap_setCell w' ⟨X, o, none⟩ v b (by show b ≠ X; exact hne)).trans (h.kp b hne hb)⟩
theorem NumW.trans {X : Nat} {w w1 w2 : World} (h : NumW X w w1) (h2 : NumW X w1 w2) : NumW X w w2 :=
  ⟨h.bel.trans h2.bel, fun b hne hb => (h2.kp b hne (Nat.lt_of_lt_of_le hb h.bel.size)).trans (h.kp b hne hb)⟩
theorem NumW.size {X : Nat} {w w' : World} (h : NumW X w w') : w.heap.size ≤ w'.heap.size := h.bel.size
/-- Three cells that may be written. -/
structure W3 (w : World) (b : Nat) (v0 v1 v2 : Value) : Prop where
  lt : b < w.heap.size
  c0 : w.cell? ⟨b, 0, none⟩ = some v0
  c1 : w.cell? ⟨b, 1, none⟩ = some v1
  c2 : w.cell? ⟨b, 2, none⟩ = some v2
  z : ∀ o, w.frozen? ⟨b, o, none⟩ = false
theorem W3.below {w w' : World} {b : Nat} {v0 v1 v2 : Value} (h : W3 w b v0 v1 v2) (hb : Below w.heap.size w w') : W3 w' b v0 v1 v2 := by
  have hc := fun o => hb.cell (p := ⟨b, o, none⟩) h.lt
  exact ⟨Nat.lt_of_lt_of_le h.lt hb.size, (hc 0).trans h.c0, (hc 1).trans h.c1, (hc 2).trans h.c2, fun o => (hb.frozen (p := ⟨b, o, none⟩) h.lt).trans (h.z o)⟩
theorem w3_new (w : World) (v0 v1 v2 : Value) (t : TypeId) : W3 (w.alloc (.cells #[v0, v1, v2] t)) w.heap.size v0 v1 v2 := by
  have hb : (w.alloc (.cells #[v0, v1, v2] t)).heap[w.heap.size]? = some (.cells #[v0, v1, v2] t) := by
    rw [World.alloc]
    exact Array.getElem?_push_size
  refine ⟨by simp, ?_, ?_, ?_, fun o => ?_⟩
  · simp only [World.cell?, hb]; rfl
  · simp only [World.cell?, hb]; rfl
  · simp only [World.cell?, hb]; rfl
  · unfold World.frozen?
    simp only [hb]
    simp
theorem W3.all {w : World} {b : Nat} {v0 v1 v2 : Value} (h : W3 w b v0 v1 v2) (u0 u1 u2 : Value) : Box3 (((w.setCell ⟨b, 0, none⟩ u0).setCell ⟨b, 1, none⟩ u1).setCell ⟨b, 2, none⟩ u2) b u0 u1 u2 := by
  obtain ⟨hl, c0, c1, c2, hz⟩ := h
  refine ⟨by simpa using hl, ?_, ?_, ?_⟩ <;> simp [go_sem, *]
set_option maxRecDepth 100000 in
set_option maxHeartbeats 4000000 in
theorem sNum_core (s : ByteArray) (hs : s.size ≤ 8000) (a : Nat) (ha : a ≤ 8000) (bad : Bool) (w : World) (X : Nat) (h : Rd w X s (a, bad)) (n q : Int) (c : Int) (hsc : scan s a 10 0 0 = (n, q, c)) (R : Int) (σ' : Nat × Bool) (hR : (bad = true ∧ R = 0 ∧ σ' = (a, true)) ∨ (bad = false ∧ c ≠ 0 ∧ R = 0 ∧ σ' = (a, true)) ∨ (bad = false ∧ c = 0 ∧ R = n ∧ ∃ p : Nat, q = (p : Int) ∧ σ' = (p, false))) :
    Calls Tryz.prog 52 #[.pointer (some ⟨X, 0, none⟩)] w fun e w' => e = .returned (.int .i64 R) ∧ Rd w' X s σ' ∧ NumW X w w' := by
  have HG : Hid (∀ w, Calls Tryz.prog 80 #[.string s, .int .i64 (a : Int)] w fun e w' => e = .returned (.agg #[.int .i64 n, .int .i64 q, .int .i64 c]) ∧ Below w.heap.size w w') := (fun w => by
    have h1 := sGetNum_in s a hs (by omega) w
    rw [hsc] at h1
    exact h1)
  have H : Hid (Rd w X s (a, bad)) := h
  have HRR : Hid _ := hR
  clear hsc hR h hs ha
  obtain ⟨l, c0, c1, c2, z⟩ := H.out
  go_enter Tryz.func52, Tryz.ntmps52
  go_upto_region 1 with fail
  go_region_law (go_simp; go_at_call 80; refine (HG.out _).mono ?_; rintro e w4 ⟨rfl, hb4⟩; first | (have HB4 : Hid (Below w.heap.size w w4) := bdZ hb4; clear hb4) | (have HB5 : Hid (Below (w.alloc (.cells #[.int .i64 0, .int .i64 0, .int .i64 0] 104)).heap.size (w.alloc (.cells #[.int .i64 0, .int .i64 0, .int .i64 0] 104)) w4) := bdZ hb4; have hT := (w3_new w (.int .i64 0) (.int .i64 0) (.int .i64 0) 104).below HB5.out; have HT : Hid _ := hT; obtain ⟨tl, t0, t1, t2, tz⟩ := hT; have tz0 := tz 0; have tz1 := tz 1; have tz2 := tz 2; clear tz hb4))
  all_goals
    first
      | (have HF : Hid (Box3 (w4.alloc (.cells #[.int .i64 n, .int .i64 q, .int .i64 c] 104)) w4.heap.size (.int .i64 n) (.int .i64 q) (.int .i64 c)) := box3_new w4 _ _ _ _
         have HK : Hid (Below w.heap.size w (w4.alloc (.cells #[.int .i64 n, .int .i64 q, .int .i64 c] 104))) := Below.onA HB4.out
         generalize (w4.alloc (.cells #[.int .i64 n, .int .i64 q, .int .i64 c] 104)) = W at HF HK ⊢
         generalize w4.heap.size = B at HF ⊢)
      | (have HF : Hid (Box3 (((w4.setCell ⟨w.heap.size, 0, none⟩ (.int .i64 n)).setCell ⟨w.heap.size, 1, none⟩ (.int .i64 q)).setCell ⟨w.heap.size, 2, none⟩ (.int .i64 c)) w.heap.size (.int .i64 n) (.int .i64 q) (.int .i64 c)) := HT.out.all _ _ _
         have HK : Hid (Below w.heap.size w (((w4.setCell ⟨w.heap.size, 0, none⟩ (.int .i64 n)).setCell ⟨w.heap.size, 1, none⟩ (.int .i64 q)).setCell ⟨w.heap.size, 2, none⟩ (.int .i64 c))) := (((Below.on (bel_alloc _ _) HB5.out).setCell (Nat.le_refl _) _).setCell (Nat.le_refl _) _).setCell (Nat.le_refl _) _
         clear tl t0 t1 t2 tz0 tz1 tz2
         generalize (((w4.setCell ⟨w.heap.size, 0, none⟩ (.int .i64 n)).setCell ⟨w.heap.size, 1, none⟩ (.int .i64 q)).setCell ⟨w.heap.size, 2, none⟩ (.int .i64 c)) = W at HF HK ⊢
         obtain ⟨B, hB⟩ : ∃ B, B = w.heap.size := ⟨_, rfl⟩
         rw [← hB] at HF ⊢
         clear hB)
    obtain ⟨fl, f0, f1, f2⟩ := HF.out
    have HR2 : Hid (Rd W X s (a, bad)) := H.out.below HK.out
    have HNW : Hid (NumW X w W) := NumW.of_below HK.out (Nat.le_of_lt l)
    clear l c0 c1 c2 z
    obtain ⟨l, c0, c1, c2, z⟩ := HR2.out
    have z1 := z 1
    have z2 := z 2
    rcases HRR.out with ⟨e1, e2, e3⟩ | ⟨e1, e2, e3, e4⟩ | ⟨e1, e2, e3, p, e4, e5⟩
    · subst e1 e2 e3
      clear z
      go_wp2
      go_ret
      exact ⟨rfl, HR2.out.set2 true, HNW.out.set⟩
    · subst e1 e3 e4
      have g1 : (c == 0) = false := beq_eq_false_iff_ne.2 e2
      clear z e2
      go_wp2
      go_ret
      exact ⟨rfl, HR2.out.set2 true, HNW.out.set⟩
    · subst e1 e2 e3 e4 e5
      clear z
      go_wp2
      go_ret
      exact ⟨rfl, HR2.out.set1 p, HNW.out.set⟩
/-- l06Reader's num. -/
theorem sRdNum_any (s : ByteArray) (hs : s.size ≤ 8000) (σ : Nat × Bool) (ha : σ.1 ≤ s.size) (w : World) (X : Nat) (h : Rd w X s σ) :
    Calls Tryz.prog 52 #[.pointer (some ⟨X, 0, none⟩)] w fun e w' => e = .returned (.int .i64 (rs1 s σ).1) ∧ Rd w' X s (rs1 s σ).2 ∧ NumW X w w' := by
  obtain ⟨a, bad⟩ := σ
  have ha : a ≤ s.size := ha
  cases bad
  · rcases rs1_of s a with ⟨n, q, h1, h2⟩ | ⟨h1, h2⟩
    · rw [h2]
      exact sNum_core s hs a (by omega) false w X h n q 0 (rd1_some h1) n (q, false) (.inr (.inr ⟨rfl, rfl, rfl, q, rfl, rfl⟩))
    · rw [h2]
      obtain ⟨c, hc, e⟩ := rd1_none h1
      exact sNum_core s hs a (by omega) false w X h 0 0 c e 0 (a, true) (.inr (.inl ⟨rfl, hc, rfl, rfl⟩))
  · rw [rs1_bad]
    exact sNum_core s hs a (by omega) true w X h _ _ _ rfl 0 (a, true) (.inl ⟨rfl, rfl, rfl⟩)
theorem aces_new (w : World) (x : Ac) (t : TypeId) : ∀ (j : Nat) u, (pcA [x])[j]? = some u → (w.alloc (.cells #[.bool x.al, .int .i64 x.wh, .int .i64 x.id, .int .i64 x.fl, .int .i64 x.ma] t)).cell? ((⟨w.heap.size, 0, none⟩ : Addr).add j) = some u := by
  intro j u hj
  obtain ⟨c0, c1, c2, c3, c4⟩ := five_new w x t
  simp only [Nat.zero_add] at c0 c1 c2 c3 c4
  rw [addr_addA, Nat.zero_add]
  match j with
  | 0 => simp [pcA] at hj; subst hj; exact c0
  | 1 => simp [pcA] at hj; subst hj; exact c1
  | 2 => simp [pcA] at hj; subst hj; exact c2
  | 3 => simp [pcA] at hj; subst hj; exact c3
  | 4 => simp [pcA] at hj; subst hj; exact c4
  | j + 5 => simp [pcA] at hj
/-- append of one ace: what it leaves, and where the row lies then. -/
theorem append_aceG (w0 w : World) (v : Value) (l : List Ac) (hown : w.ownsRow w0.heap.size 24 5 v l.length (pcA l)) (hB : Below w0.heap.size w0 w) (x : Ac) (hsm : l.length ≤ 1000000) :
    ∃ v' w', (Builtin.append_ #[31, 31] 31 #[v, .slice (some ⟨w.heap.size, 0, none⟩) 1 1]).run Tryz.prog (w.alloc (.cells #[.bool x.al, .int .i64 x.wh, .int .i64 x.id, .int .i64 x.fl, .int .i64 x.ma] 24)) = .ok v' w' ∧ w'.ownsRow w0.heap.size 24 5 v' (l ++ [x]).length (pcA (l ++ [x])) ∧ Below w0.heap.size w0 w' ∧ w.heap.size ≤ w'.heap.size ∧ (∀ b, b < w.heap.size → v.ownBlock ≠ some b → w'.heap[b]? = w.heap[b]?) ∧ (∀ k, v'.ownBlock = some k → v.ownBlock = some k ∨ w.heap.size ≤ k) := by
  obtain ⟨i, hi, hzz⟩ := Option.map_eq_some_iff.1 infoAceF
  simp only [Prod.mk.injEq] at hzz
  obtain ⟨hz, hs, hb⟩ := hzz
  have hb1 := bel_alloc w (.cells #[.bool x.al, .int .i64 x.wh, .int .i64 x.id, .int .i64 x.fl, .int .i64 x.ma] 24)
  have hB1 := Below.on hB hb1
  have hown1 := rowA_below hown hb1
  have hnw := aces_new w x 24
  have hone := pcA_one [x]
  obtain ⟨v', w', hr, h1, h2, _⟩ := run_append_own (P := Tryz.prog) _ w0.heap.size 31 31 24 i _ 5 40 Tryz.underlying31 hi hz hs hb rfl (by decide) v l.length (pcA l) hown1 ⟨w.heap.size, 0, none⟩ 1 1 (pcA [x]) rfl hnw hone (by unfold maxLen; omega) (by omega) hB1.size
  have hsz : w.heap.size ≤ w'.heap.size := Nat.le_trans (by simp) h2.size
  refine ⟨v', w', hr, ?_, hB1.grown h2 hB1.size (own_blockA hown1), hsz, fun b hlt hne => (h2.block b (by simp; omega) (fun e => hne e.symm)).trans (hb1.block b hlt), ?_⟩
  · rw [pcA_append, List.length_append]
    exact h1
  · have hbase : w.heap.size ≤ (w.alloc (.cells #[.bool x.al, .int .i64 x.wh, .int .i64 x.id, .int .i64 x.fl, .int .i64 x.ma] 24)).heap.size := by simp
    generalize w.alloc (.cells #[.bool x.al, .int .i64 x.wh, .int .i64 x.id, .int .i64 x.fl, .int .i64 x.ma] 24) = W at *
    have hl1 : (pcA [x]).length = 1 * i.size := by rw [hs]; rfl
    have hb16 : ∀ n : Nat, n ≤ 2000000 → n * i.bytes ≤ 140737488355328 := fun n hn => by rw [hb]; omega
    rcases hown1.2 with ⟨rfl, hn⟩ | ⟨g, cap, cur, rfl, hbg, hg, hnc, hcm, hcs, htake⟩
    · have hr2 := run_append_nil (P := Tryz.prog) W 31 31 24 i _ Tryz.underlying31 hi hz ⟨w.heap.size, 0, none⟩ 1 1 (pcA [x]) hl1 hnw (by omega) (by omega) (by rw [hb]; omega)
      rw [hr2] at hr
      cases hr
      intro k hk
      simp [Value.ownBlock] at hk
      exact .inr (by omega)
    · by_cases hroom : l.length + 1 ≤ cap
      · have hr2 := run_append_room (P := Tryz.prog) W 31 31 24 i Tryz.underlying31 hi g l.length cap cur hg ⟨w.heap.size, 0, none⟩ 1 1 (pcA [x]) hl1 hnw hone hroom (by rw [hs, pcA_length, hcs]; show l.length * 5 + 1 * 5 ≤ cap * 5; omega)
        rw [hr2] at hr
        cases hr
        intro k hk
        exact .inl hk
      · have hr2 := run_append_grow (P := Tryz.prog) W 31 31 24 i _ Tryz.underlying31 hi hz ⟨g, 0, none⟩ l.length cap (pcA l) (by rw [hs]; exact hown1.1) (hown1.cells (g := g) rfl) ⟨w.heap.size, 0, none⟩ 1 1 (pcA [x]) hl1 hnw (by omega) (by omega) (growslice_fits (by omega) (hb16 _ (by omega)))
        rw [hr2] at hr
        cases hr
        intro k hk
        simp [Value.ownBlock] at hk
        exact .inr (by omega)
theorem rowA_keep {w w' : World} {B : Nat} {t : TypeId} {s : Nat} {v : Value} {n : Nat} {xs : List Value} (h : w.ownsRow B t s v n xs) (hb : ∀ k, v.ownBlock = some k → w'.heap[k]? = w.heap[k]?) : w'.ownsRow B t s v n xs := by
  obtain ⟨h0, ⟨rfl, hn⟩ | ⟨g, cap, cur, rfl, hB, hg, hc, hm, hs, ht⟩⟩ := h
  · exact ⟨h0, .inl ⟨rfl, hn⟩⟩
  · exact ⟨h0, .inr ⟨g, cap, cur, rfl, hB, (hb g rfl).trans hg, hc, hm, hs, ht⟩⟩
/-- The reader, and the list that grows; wa: the world in which the reading began. -/
structure StL (wa : World) (TX : ByteArray) (σ : Nat × Bool) (w : World) (v : Value) (acc : List Ac) : Prop where
  rd : Rd w wa.heap.size TX σ
  ow : w.ownsRow wa.heap.size 24 5 v acc.length (pcA acc)
  nx : v.ownBlock ≠ some wa.heap.size
  bl : Below wa.heap.size wa w
theorem StL.num {wa : World} {TX : ByteArray} {σ σ' : Nat × Bool} {w w' : World} {v : Value} {acc : List Ac} (h : StL wa TX σ w v acc) (hr : Rd w' wa.heap.size TX σ') (hn : NumW wa.heap.size w w') : StL wa TX σ' w' v acc :=
  ⟨hr, rowA_keep h.ow (fun k hk => hn.kp k (fun e => h.nx (by rw [hk, e])) (h.ow.lt k hk).2), h.nx, h.bl.trans hn.bel⟩
theorem StL.below {wa : World} {TX : ByteArray} {σ : Nat × Bool} {w w' : World} {v : Value} {acc : List Ac} (h : StL wa TX σ w v acc) (hb : Below w.heap.size w w') : StL wa TX σ w' v acc :=
  ⟨h.rd.below hb, rowA_below h.ow hb, h.nx, Below.on h.bl hb⟩
theorem StL.set {wa : World} {TX : ByteArray} {σ : Nat × Bool} {w : World} {v : Value} {acc : List Ac} {Y o : Nat} {u : Value} (h : StL wa TX σ w v acc) (hY : wa.heap.size < Y) (hv : v.ownBlock ≠ some Y) : StL wa TX σ (w.setCell ⟨Y, o, none⟩ u) v acc :=
  ⟨h.rd.keep (by simp) (Below.heap_setCell w ⟨Y, o, none⟩ u wa.heap.size (by show wa.heap.size ≠ Y; omega)), rowA_keep h.ow (fun k hk => Below.heap_setCell w ⟨Y, o, none⟩ u k (by show k ≠ Y; intro e; exact hv (by rw [hk, e]))), h.nx, h.bl.setCell (by show wa.heap.size ≤ Y; omega) _⟩
theorem W5.num {X : Nat} {w w' : World} {Y : Nat} {v0 v1 v2 v3 v4 : Value} (h : W5 w Y v0 v1 v2 v3 v4) (hn : NumW X w w') (hY : Y ≠ X) : W5 w' Y v0 v1 v2 v3 v4 := h.keep hn.size (hn.kp Y hY h.lt)
theorem W5.set1 {w : World} {b : Nat} {v0 v1 v2 v3 v4 u : Value} (h : W5 w b v0 v1 v2 v3 v4) : W5 (w.setCell ⟨b, 1, none⟩ u) b v0 u v2 v3 v4 := by
  obtain ⟨hl, c0, c1, c2, c3, c4, hz⟩ := h
  refine ⟨by simpa using hl, ?_, ?_, ?_, ?_, ?_, fun o => by rw [World.frozen?_setCell]; exact hz o⟩ <;> simp [go_sem, *]
theorem W5.set2 {w : World} {b : Nat} {v0 v1 v2 v3 v4 u : Value} (h : W5 w b v0 v1 v2 v3 v4) : W5 (w.setCell ⟨b, 2, none⟩ u) b v0 v1 u v3 v4 := by
  obtain ⟨hl, c0, c1, c2, c3, c4, hz⟩ := h
  refine ⟨by simpa using hl, ?_, ?_, ?_, ?_, ?_, fun o => by rw [World.frozen?_setCell]; exact hz o⟩ <;> simp [go_sem, *]
theorem W5.set3 {w : World} {b : Nat} {v0 v1 v2 v3 v4 u : Value} (h : W5 w b v0 v1 v2 v3 v4) : W5 (w.setCell ⟨b, 3, none⟩ u) b v0 v1 v2 u v4 := by
  obtain ⟨hl, c0, c1, c2, c3, c4, hz⟩ := h
  refine ⟨by simpa using hl, ?_, ?_, ?_, ?_, ?_, fun o => by rw [World.frozen?_setCell]; exact hz o⟩ <;> simp [go_sem, *]
theorem W5.set4 {w : World} {b : Nat} {v0 v1 v2 v3 v4 u : Value} (h : W5 w b v0 v1 v2 v3 v4) : W5 (w.setCell ⟨b, 4, none⟩ u) b v0 v1 v2 v3 u := by
  obtain ⟨hl, c0, c1, c2, c3, c4, hz⟩ := h
  refine ⟨by simpa using hl, ?_, ?_, ?_, ?_, ?_, fun o => by rw [World.frozen?_setCell]; exact hz o⟩ <;> simp [go_sem, *]
set_option maxRecDepth 100000 in
set_option maxHeartbeats 8000000 in
/-- spec.NfsFrom of a text whose sum is right. -/
theorem sNfsFrom_in (s : ByteArray) (hs : s.size ≤ 1048576) (hc : uC s = 0) (w : World) :
    Calls Tryz.prog 22 #[.string s] w (AnsP (nfO s) w) := by
  have hY : Hid (Wr2 (w.alloc (.cells #[.slice none 0 0, .int .i64 0] 35)) w.heap.size) := wr2_new w _
  have hW0 : Hid (Below w.heap.size w (w.alloc (.cells #[.slice none 0 0, .int .i64 0] 35))) := bel_alloc _ _
  have HU : Hid (∀ w, Calls Tryz.prog 40 #[.string s] w fun e w' => e = .returned (.agg #[.string (uT s), .int .i64 0, .int .i64 0]) ∧ Below w.heap.size w w') := (fun w => by have := sUns_any s (by unfold maxLen; omega) w; rwa [hc] at this)
  have HIL : Hid (∀ (c : Int) (w : World), Calls Tryz.prog 50 #[.int .i64 c] w fun e w' => e = .returned (.agg #[.slice none 0 0, .int .i64 c]) ∧ Below w.heap.size w w') := sIll5_any
  have hTz : (uT s).size ≤ 8000 := by have := (u_zero hc).2.2.2; omega
  have HNUM : Hid (∀ (σ : Nat × Bool) (X : Nat) (w : World), σ.1 ≤ (uT s).size → Rd w X (uT s) σ → Calls Tryz.prog 52 #[.pointer (some ⟨X, 0, none⟩)] w fun e w' => e = .returned (.int .i64 (rs1 (uT s) σ).1) ∧ Rd w' X (uT s) (rs1 (uT s) σ).2 ∧ NumW X w w') := (fun σ X w h1 h2 => sRdNum_any (uT s) hTz σ h1 w X h2)
  have HEND : Hid (∀ k, _ → _ → _) := rs_end hc
  have HLE : Hid (∀ k, (rsK (uT s) (rs1 (uT s) (0, false)).2 k).2.1 ≤ (uT s).size) := rsK_le (rs1_le (Nat.zero_le _))
  have HR1 : Hid (∀ σ : Nat × Bool, σ.1 ≤ (uT s).size → (rs1 (uT s) σ).2.1 ≤ (uT s).size) := (fun σ h => rs1_le h)
  have HKN : Hid (∀ k, rsK (uT s) (rs1 (uT s) (0, false)).2 (k + 1) = ((rsK (uT s) (rs1 (uT s) (0, false)).2 k).1 ++ [(rsAc (uT s) (rsK (uT s) (rs1 (uT s) (0, false)).2 k).2).1], (rsAc (uT s) (rsK (uT s) (rs1 (uT s) (0, false)).2 k).2).2)) := (fun k => rfl)
  have HKL : Hid (∀ k, (rsK (uT s) (rs1 (uT s) (0, false)).2 k).1.length = k) := rsK_len _ _
  have HAC : Hid (∀ σ, rsAc (uT s) σ = (⟨(rs1 (uT s) σ).1 == 1, (rs1 (uT s) (rs1 (uT s) σ).2).1, (rs1 (uT s) (rs1 (uT s) (rs1 (uT s) σ).2).2).1, (rs1 (uT s) (rs1 (uT s) (rs1 (uT s) (rs1 (uT s) σ).2).2).2).1, (rs1 (uT s) (rs1 (uT s) (rs1 (uT s) (rs1 (uT s) (rs1 (uT s) σ).2).2).2).2).1⟩, (rs1 (uT s) (rs1 (uT s) (rs1 (uT s) (rs1 (uT s) (rs1 (uT s) σ).2).2).2).2).2)) := (fun σ => rfl)
  have HNB : Hid (∀ (a : Option Addr) (len cap : Nat) (l : List Ac) (w : World), len ≤ 1048576 → Acs a len l w → Calls Tryz.prog 19 #[.slice a len cap] w fun e w' => e = .returned (.string (nbT l)) ∧ Below w.heap.size w w') := (fun a len cap l w h1 h2 => sNfsBytes_any a len cap l h1 w h2)
  have HK0 : Hid (rsK (uT s) (rs1 (uT s) (0, false)).2 0 = ([], (rs1 (uT s) (0, false)).2)) := rfl
  clear hs hc hTz
  generalize uT s = TX at HU HNUM HEND HLE HR1 HKN HKL HAC HK0
  have hN0 : Hid (∀ X w, Rd w X TX (0, false) → Calls Tryz.prog 52 #[.pointer (some ⟨X, 0, none⟩)] w fun e w' => e = .returned (.int .i64 (rs1 TX (0, false)).1) ∧ Rd w' X TX (rs1 TX (0, false)).2 ∧ NumW X w w') := (fun X w h => HNUM.out (0, false) X w (Nat.zero_le _) h)
  generalize hM : (rs1 TX (0, false)).1 = MANY at HEND hN0
  generalize hG1 : (rs1 TX (0, false)).2 = σ1 at HEND HLE HKN HKL HK0 hN0
  clear hM hG1
  go_enter Tryz.func22, Tryz.ntmps22
  go_wp2_with fail
  refine (HU.out _).mono ?_
  rintro e w1 ⟨rfl, hb1⟩
  have hY1 : Hid (Wr2 (w1.alloc (.cells #[.string TX, .int .i64 0, .int .i64 0] 57)) w.heap.size) := (hY.out.below hb1).below (bel_alloc _ _)
  have hW1 : Hid (Below w.heap.size w (w1.alloc (.cells #[.string TX, .int .i64 0, .int .i64 0] 57))) := Below.onA (Below.on hW0.out hb1)
  have hX1 : Hid (Box3 (w1.alloc (.cells #[.string TX, .int .i64 0, .int .i64 0] 57)) w1.heap.size (.string TX) (.int .i64 0) (.int .i64 0)) := box3_new w1 _ _ _ _
  clear hb1 hY hW0 HU
  go_upto_region 2 with fail
  generalize w1.alloc (.cells #[.string TX, .int .i64 0, .int .i64 0] 57) = wa at hY1 hW1 hX1 ⊢
  generalize w1.heap.size = X at hX1 ⊢
  obtain ⟨xl, x0, x1, x2⟩ := hX1.out
  have hS0 : Hid (StL wa TX (0, false) ((wa.alloc (.cells #[.string TX, .int .i64 0, .bool false] 66)).alloc (.cells #[] 24)) (.slice (some ⟨wa.heap.size + 1, 0, none⟩) 0 0) []) := (by
    have hz : (wa.alloc (.cells #[.string TX, .int .i64 0, .bool false] 66)).heap.size = wa.heap.size + 1 := by simp
    obtain ⟨rl, r0, r1, r2, rz⟩ := w3_new wa (.string TX) (.int .i64 0) (.bool false) 66
    have hrd : Rd (wa.alloc (.cells #[.string TX, .int .i64 0, .bool false] 66)) wa.heap.size TX (0, false) := ⟨rl, r0, r1, r2, rz⟩
    have hro := rowA_start (wa.alloc (.cells #[.string TX, .int .i64 0, .bool false] 66)) (wa.heap.size + 1) hz.symm 24
    refine ⟨hrd.below (bel_alloc _ _), ?_, by simp [Value.ownBlock], Below.on (bel_alloc _ _) (bel_alloc _ _)⟩
    obtain ⟨h0, ⟨h1, h2⟩ | ⟨g, cap, cur, h1, h2, h3⟩⟩ := hro
    · exact ⟨h0, .inl ⟨h1, h2⟩⟩
    · exact ⟨h0, .inr ⟨g, cap, cur, h1, by omega, h3⟩⟩)
  go_upto_region 6 with fail
  clear xl x0 x1 x2 hX1
  generalize ((wa.alloc (.cells #[.string TX, .int .i64 0, .bool false] 66)).alloc (.cells #[] 24)) = wb at hS0 ⊢
  go_wp2_with fail
  refine (hN0.out _ _ hS0.out.rd).mono ?_
  rintro e wc ⟨rfl, hrd1, hnw1⟩
  have hS1 : Hid (StL wa TX (rsK TX σ1 0).2 wc (.slice (some ⟨wa.heap.size + 1, 0, none⟩) 0 0) (rsK TX σ1 0).1) := (by
    show StL _ _ _ _ _ _
    rw [HK0.out]
    exact hS0.out.num hrd1 hnw1)
  clear hrd1 hnw1 hS0 hN0 HK0
  go_wp2
  go_loopw [5, 7] (fun v i wr => ∃ k : Nat, k ≤ 33 ∧ i = .int .i64 k ∧ Hid (StL wa TX (rsK TX σ1 k).2 wr v (rsK TX σ1 k).1) ∧ Hid (∀ j, j < k → (j : Int) < MANY ∧ (rsK TX σ1 j).2.2 = false)) (fun _ i _ => 33 - (intOf i).toNat)
  case atStart => exact ⟨0, by omega, rfl, hS1, fun j h => absurd h (by omega)⟩
  case round =>
    obtain ⟨k, hk, rfl, hS, hH⟩ := hrel
    have hkl := HKL.out k
    by_cases hgo : (k : Int) < MANY ∧ k ≤ 32 ∧ (rsK TX σ1 k).2.2 = false
    · obtain ⟨g1, g2, g3⟩ := hgo
      have g2' : (k : Int) ≤ 32 := by omega
      have hH2 : Hid (∀ j, j < k + 1 → (j : Int) < MANY ∧ (rsK TX σ1 j).2.2 = false) := (fun j hj => by
        by_cases e : j = k
        · subst e; exact ⟨g1, g3⟩
        · exact hH.out j (by omega))
      have hle0 : Hid ((rsK TX σ1 k).2.1 ≤ TX.size) := HLE.out k
      have HN1 : Hid _ := HKN.out k
      rw [HAC.out] at HN1
      generalize hA0 : (rsK TX σ1 k).1 = acc at hS HN1 hkl
      generalize hB0 : (rsK TX σ1 k).2 = τ0 at hS HN1 hle0 g3
      clear hA0 hB0 hH
      have hle1 : Hid ((rs1 TX τ0).2.1 ≤ TX.size) := HR1.out τ0 hle0.out
      have hle2 : Hid ((rs1 TX (rs1 TX τ0).2).2.1 ≤ TX.size) := HR1.out _ hle1.out
      have hle3 : Hid ((rs1 TX (rs1 TX (rs1 TX τ0).2).2).2.1 ≤ TX.size) := HR1.out _ hle2.out
      have hle4 : Hid ((rs1 TX (rs1 TX (rs1 TX (rs1 TX τ0).2).2).2).2.1 ≤ TX.size) := HR1.out _ hle3.out
      have d0 : Hid (∀ w, Rd w wa.heap.size TX τ0 → Calls Tryz.prog 52 #[.pointer (some ⟨wa.heap.size, 0, none⟩)] w fun e w' => e = .returned (.int .i64 (rs1 TX τ0).1) ∧ Rd w' wa.heap.size TX (rs1 TX τ0).2 ∧ NumW wa.heap.size w w') := (fun w h => HNUM.out τ0 _ w hle0.out h)
      have d1 : Hid (∀ w, Rd w wa.heap.size TX (rs1 TX τ0).2 → Calls Tryz.prog 52 #[.pointer (some ⟨wa.heap.size, 0, none⟩)] w fun e w' => e = .returned (.int .i64 (rs1 TX (rs1 TX τ0).2).1) ∧ Rd w' wa.heap.size TX (rs1 TX (rs1 TX τ0).2).2 ∧ NumW wa.heap.size w w') := (fun w h => HNUM.out _ _ w hle1.out h)
      have d2 : Hid (∀ w, Rd w wa.heap.size TX (rs1 TX (rs1 TX τ0).2).2 → Calls Tryz.prog 52 #[.pointer (some ⟨wa.heap.size, 0, none⟩)] w fun e w' => e = .returned (.int .i64 (rs1 TX (rs1 TX (rs1 TX τ0).2).2).1) ∧ Rd w' wa.heap.size TX (rs1 TX (rs1 TX (rs1 TX τ0).2).2).2 ∧ NumW wa.heap.size w w') := (fun w h => HNUM.out _ _ w hle2.out h)
      have d3 : Hid (∀ w, Rd w wa.heap.size TX (rs1 TX (rs1 TX (rs1 TX τ0).2).2).2 → Calls Tryz.prog 52 #[.pointer (some ⟨wa.heap.size, 0, none⟩)] w fun e w' => e = .returned (.int .i64 (rs1 TX (rs1 TX (rs1 TX (rs1 TX τ0).2).2).2).1) ∧ Rd w' wa.heap.size TX (rs1 TX (rs1 TX (rs1 TX (rs1 TX τ0).2).2).2).2 ∧ NumW wa.heap.size w w') := (fun w h => HNUM.out _ _ w hle3.out h)
      have d4 : Hid (∀ w, Rd w wa.heap.size TX (rs1 TX (rs1 TX (rs1 TX (rs1 TX τ0).2).2).2).2 → Calls Tryz.prog 52 #[.pointer (some ⟨wa.heap.size, 0, none⟩)] w fun e w' => e = .returned (.int .i64 (rs1 TX (rs1 TX (rs1 TX (rs1 TX (rs1 TX τ0).2).2).2).2).1) ∧ Rd w' wa.heap.size TX (rs1 TX (rs1 TX (rs1 TX (rs1 TX (rs1 TX τ0).2).2).2).2).2 ∧ NumW wa.heap.size w w') := (fun w h => HNUM.out _ _ w hle4.out h)
      clear hle0 hle1 hle2 hle3 hle4
      generalize (rs1 TX (rs1 TX (rs1 TX (rs1 TX (rs1 TX τ0).2).2).2).2).1 = n4 at d4 HN1
      generalize (rs1 TX (rs1 TX (rs1 TX (rs1 TX (rs1 TX τ0).2).2).2).2).2 = τ5 at d4 HN1
      generalize (rs1 TX (rs1 TX (rs1 TX (rs1 TX τ0).2).2).2).1 = n3 at d3 HN1
      generalize (rs1 TX (rs1 TX (rs1 TX (rs1 TX τ0).2).2).2).2 = τ4 at d3 d4
      generalize (rs1 TX (rs1 TX (rs1 TX τ0).2).2).1 = n2 at d2 HN1
      generalize (rs1 TX (rs1 TX (rs1 TX τ0).2).2).2 = τ3 at d2 d3
      generalize (rs1 TX (rs1 TX τ0).2).1 = n1 at d1 HN1
      generalize (rs1 TX (rs1 TX τ0).2).2 = τ2 at d1 d2
      generalize (rs1 TX τ0).1 = n0 at d0 HN1
      generalize (rs1 TX τ0).2 = τ1 at d0 d1
      obtain ⟨rl, r0, r1, r2, rz⟩ := hS.out.rd
      rw [g3] at r2
      go_wp2_with fail
      refine (d0.out _ hS.out.rd).mono ?_
      rintro e wd ⟨rfl, hr1, hn1⟩
      have hT0 := hS.out.num hr1 hn1
      have hST : Hid (StL wa TX τ1 (wd.alloc (.cells #[.bool (n0 == 1), .int .i64 0, .int .i64 0, .int .i64 0, .int .i64 0] 24)) u5 acc) := hT0.below (bel_alloc _ _)
      have hBX : Hid (W5 (wd.alloc (.cells #[.bool (n0 == 1), .int .i64 0, .int .i64 0, .int .i64 0, .int .i64 0] 24)) wd.heap.size (.bool (n0 == 1)) (.int .i64 0) (.int .i64 0) (.int .i64 0) (.int .i64 0)) := w5_new wd _ _ _ _ _ _
      have HYX : Hid (wa.heap.size < wd.heap.size ∧ u5.ownBlock ≠ some wd.heap.size) := ⟨hT0.rd.lt, fun e => absurd (hT0.ow.lt _ e).2 (Nat.lt_irrefl _)⟩
      clear hr1 hn1 hT0 rl r0 r1 r2 rz d0 hS
      go_upto_region 11 with fail
      generalize wd.alloc (.cells #[.bool (n0 == 1), .int .i64 0, .int .i64 0, .int .i64 0, .int .i64 0] 24) = w5 at hST hBX ⊢
      generalize wd.heap.size = Y at hBX HYX ⊢
      go_wp2_with fail
      refine (d1.out _ hST.out.rd).mono ?_
      rintro e wn ⟨rfl, hr1, hn1⟩
      have hSU : Hid _ := hST.out.num hr1 hn1
      have hBU : Hid _ := hBX.out.num hn1 (by have := HYX.out.1; omega)
      have hST1 : Hid (StL wa TX τ2 (wn.setCell ⟨Y, 1, none⟩ (.int .i64 n1)) u5 acc) := hSU.out.set HYX.out.1 HYX.out.2
      have hBX1 : Hid (W5 (wn.setCell ⟨Y, 1, none⟩ (.int .i64 n1)) Y (.bool (n0 == 1)) (.int .i64 n1) (.int .i64 0) (.int .i64 0) (.int .i64 0)) := hBU.out.set1
      clear hr1 hn1 hST hBX d1 hSU
      obtain ⟨bl, b0, b1, b2, b3, b4, bz⟩ := hBU.out
      have bz1 := bz 1
      clear bz
      go_upto_region 12 with fail
      generalize wn.setCell ⟨Y, 1, none⟩ (.int .i64 n1) = w5 at hST1 hBX1 ⊢
      clear bl b0 b1 b2 b3 b4 bz1 hBU
      have hST : Hid _ := hST1.out
      have hBX : Hid _ := hBX1.out
      clear hST1 hBX1
      go_wp2_with fail
      refine (d2.out _ hST.out.rd).mono ?_
      rintro e wn ⟨rfl, hr1, hn1⟩
      have hSU : Hid _ := hST.out.num hr1 hn1
      have hBU : Hid _ := hBX.out.num hn1 (by have := HYX.out.1; omega)
      have hST2 : Hid (StL wa TX τ3 (wn.setCell ⟨Y, 2, none⟩ (.int .i64 n2)) u5 acc) := hSU.out.set HYX.out.1 HYX.out.2
      have hBX2 : Hid (W5 (wn.setCell ⟨Y, 2, none⟩ (.int .i64 n2)) Y (.bool (n0 == 1)) (.int .i64 n1) (.int .i64 n2) (.int .i64 0) (.int .i64 0)) := hBU.out.set2
      clear hr1 hn1 hST hBX d2 hSU
      obtain ⟨bl, b0, b1, b2, b3, b4, bz⟩ := hBU.out
      have bz2 := bz 2
      clear bz
      go_upto_region 13 with fail
      generalize wn.setCell ⟨Y, 2, none⟩ (.int .i64 n2) = w5 at hST2 hBX2 ⊢
      clear bl b0 b1 b2 b3 b4 bz2 hBU
      have hST : Hid _ := hST2.out
      have hBX : Hid _ := hBX2.out
      clear hST2 hBX2
      go_wp2_with fail
      refine (d3.out _ hST.out.rd).mono ?_
      rintro e wn ⟨rfl, hr1, hn1⟩
      have hSU : Hid _ := hST.out.num hr1 hn1
      have hBU : Hid _ := hBX.out.num hn1 (by have := HYX.out.1; omega)
      have hST3 : Hid (StL wa TX τ4 (wn.setCell ⟨Y, 3, none⟩ (.int .i64 n3)) u5 acc) := hSU.out.set HYX.out.1 HYX.out.2
      have hBX3 : Hid (W5 (wn.setCell ⟨Y, 3, none⟩ (.int .i64 n3)) Y (.bool (n0 == 1)) (.int .i64 n1) (.int .i64 n2) (.int .i64 n3) (.int .i64 0)) := hBU.out.set3
      clear hr1 hn1 hST hBX d3 hSU
      obtain ⟨bl, b0, b1, b2, b3, b4, bz⟩ := hBU.out
      have bz3 := bz 3
      clear bz
      go_upto_region 14 with fail
      generalize wn.setCell ⟨Y, 3, none⟩ (.int .i64 n3) = w5 at hST3 hBX3 ⊢
      clear bl b0 b1 b2 b3 b4 bz3 hBU
      have hST : Hid _ := hST3.out
      have hBX : Hid _ := hBX3.out
      clear hST3 hBX3
      go_wp2_with fail
      refine (d4.out _ hST.out.rd).mono ?_
      rintro e wn ⟨rfl, hr1, hn1⟩
      have hSU : Hid _ := hST.out.num hr1 hn1
      have hBU : Hid _ := hBX.out.num hn1 (by have := HYX.out.1; omega)
      have hST4 : Hid (StL wa TX τ5 (wn.setCell ⟨Y, 4, none⟩ (.int .i64 n4)) u5 acc) := hSU.out.set HYX.out.1 HYX.out.2
      have hBX4 : Hid (W5 (wn.setCell ⟨Y, 4, none⟩ (.int .i64 n4)) Y (.bool (n0 == 1)) (.int .i64 n1) (.int .i64 n2) (.int .i64 n3) (.int .i64 n4)) := hBU.out.set4
      clear hr1 hn1 hST hBX d4 hSU
      obtain ⟨bl, b0, b1, b2, b3, b4, bz⟩ := hBU.out
      have bz4 := bz 4
      clear bz
      go_upto_region 15 with fail
      generalize wn.setCell ⟨Y, 4, none⟩ (.int .i64 n4) = w5 at hST4 hBX4 ⊢
      clear bl b0 b1 b2 b3 b4 bz4 hBU
      have hST : Hid _ := hST4.out
      have hBX : Hid _ := hBX4.out
      clear hST4 hBX4
      obtain ⟨v2, w6, hrr, hO6, hB6, hs6, hk6, hf6⟩ := append_aceG wa w5 u5 acc hST.out.ow hST.out.bl ⟨n0 == 1, n1, n2, n3, n4⟩ (by omega)
      have hST6 : Hid (StL wa TX (rsK TX σ1 (k + 1)).2 w6 v2 (rsK TX σ1 (k + 1)).1) := (by
        show StL _ _ _ _ _ _
        rw [HN1.out]
        refine ⟨hST.out.rd.keep hs6 (hk6 _ hST.out.rd.lt hST.out.nx), hO6, fun e => ?_, hB6⟩
        rcases hf6 _ e with h1 | h1
        · exact hST.out.nx h1
        · have := hST.out.rd.lt
          omega)
      have HRR : (Builtin.append_ #[31, 31] 31 #[u5, .slice (some ⟨w5.heap.size, 0, none⟩) 1 1]).run Tryz.prog (w5.alloc (.cells #[.bool (n0 == 1), .int .i64 n1, .int .i64 n2, .int .i64 n3, .int .i64 n4] 24)) = .ok v2 w6 := hrr
      clear hO6 hB6 hs6 hk6 hf6 hrr
      obtain ⟨bl, b0, b1, b2, b3, b4, bz⟩ := hBX.out
      clear bz hST
      go_wp2_with (at_builtin; refine wpList_append_runA _ rfl (.tmp 56) (.tmp 58) 31 31 rfl _ _ _ _ rfl rfl HRR ?_)
      clear HRR bl b0 b1 b2 b3 b4 hBX
      go_wp2
      go_roundw
      case rel => exact ⟨k + 1, by omega, by go_num, hST6, hH2⟩
      case measure => simp [intOf]; omega
    · have hfin := HEND.out k hH.out hgo
      have hstop : Hid ((¬ (k : Int) < MANY) ∨ ((k : Int) < MANY ∧ ¬ (k : Int) ≤ 32) ∨ ((k : Int) < MANY ∧ (k : Int) ≤ 32 ∧ (rsK TX σ1 k).2.2 = true)) := (by
        by_cases g1 : (k : Int) < MANY
        · by_cases g2 : k ≤ 32
          · refine .inr (.inr ⟨g1, by omega, ?_⟩)
            cases g3 : (rsK TX σ1 k).2.2
            · exact absurd ⟨g1, g2, g3⟩ hgo
            · rfl
          · exact .inr (.inl ⟨g1, by omega⟩)
        · exact .inl g1)
      obtain ⟨va, vc, hv, hOA, hin⟩ := ownA_of_row hS.out.ow
      subst hv
      have hFN : Hid _ := hfin
      have hYr : Hid (Wr2 wr w.heap.size) := hY1.out.below hS.out.bl
      have hWr : Hid (Below w.heap.size w wr) := Below.on hW1.out hS.out.bl
      have HLT : Hid (w.heap.size < wa.heap.size) := (show _ < _ from hY1.out.lt)
      have HNA : Hid (NewA w wr va (rsK TX σ1 k).1.length (rsK TX σ1 k).1) := ⟨hOA, fun A e => ⟨by have := (hin A e).1; have := HLT.out; omega, (hin A e).2⟩, hWr.out⟩
      have HNE : Hid (∀ A, va = some A → w.heap.size ≠ A.block) := (fun A e => by have := (hin A e).1; have := HLT.out; omega)
      have hRD : Hid _ := hS.out.rd
      have HBY : Hid (∀ w', Below wr.heap.size wr w' → Calls Tryz.prog 19 #[.slice va (rsK TX σ1 k).1.length vc] w' fun e w'' => e = .returned (.string (nbT (rsK TX σ1 k).1)) ∧ Below w'.heap.size w' w'') := (fun w' hb => HNB.out va _ vc _ w' (by omega) (hOA.acs.below hb))
      clear hfin hgo hH hS hOA hin HEND HLE HR1 HKN HKL HAC HNB HNUM hY1 hW1
      generalize hA0 : (rsK TX σ1 k).1 = acc at hFN HNA HBY hkl ⊢
      generalize hB0 : (rsK TX σ1 k).2 = τ at hFN hRD hstop
      obtain ⟨τa, τb⟩ := τ
      have hGL : Hid (acc.length = k) := hkl
      clear hA0 hB0 hkl
      obtain ⟨rl, r0, r1, r2, rz⟩ := hRD.out
      simp only at r1 r2
      clear rz
      rcases hstop.out with q | ⟨q, q2⟩ | ⟨q, q2, q3⟩
      all_goals (
        clear hstop
        rcases hFN.out with ⟨f1, f2⟩ | ⟨f1, f2, f3⟩ | ⟨f1, f2, f3⟩
        · simp only at f1
          subst f1
          have hO2 : Hid (nfO s = ([], 3)) := f2
          clear f2 hFN
          go_wp2_with fail
          refine (HIL.out 3 _).mono ?_
          rintro e w3 ⟨rfl, hb3⟩
          have hW3 : Hid (Below w.heap.size w w3) := Below.on hWr.out hb3
          have hY3 : Hid (Wr2 w3 w.heap.size) := hYr.out.below hb3
          clear hb3 rl r0 r1 r2
          obtain ⟨yl, y0, y1, yz⟩ := hY3.out
          have yz0 := yz 0
          have yz1 := yz 1
          clear yz
          go_wp2
          refine bodyPost_ret (v := .agg #[.slice none 0 0, .int .i64 3]) (by simp [results, Tryz.results22, go_sem, y0, y1]) rfl (ansP_ill hO2.out ?_)
          repeat (refine bl_setA ?_ (Nat.le_refl _))
          exact hW3.out
        · simp only at f1
          subst f1
          rw [f2] at HBY
          have hO2 : Hid (nfO s = (acc, 0)) := f3
          clear f2 f3 hFN
          first
            | (simp only at q3; exact absurd q3 (by decide))
            | (go_wp2_with fail
               refine (HBY.out _ (Below.refl _ _)).mono ?_
               rintro e w3 ⟨rfl, hb3⟩
               have hY3 : Hid (Wr2 w3 w.heap.size) := hYr.out.below hb3
               have HN3 : Hid (NewA w w3 va acc.length acc) := HNA.out.on hb3
               clear hb3 rl r0 r1 r2
               obtain ⟨yl, y0, y1, yz⟩ := hY3.out
               have yz0 := yz 0
               have yz1 := yz 1
               clear yz
               go_wp2
               refine bodyPost_ret (v := .agg #[.slice va acc.length vc, .int .i64 0]) (by simp [results, Tryz.results22, go_sem, y0, y1]) rfl (ansP_of hO2.out rfl ?_)
               repeat (refine NewA.set ?_ (Nat.le_refl _) HNE.out)
               exact HN3.out)
        · simp only at f1
          subst f1
          have e1 : ((nbT acc).toList == s.toList) = false := str_ne f2
          have hO2 : Hid (nfO s = ([], 3)) := f3
          clear f2 f3 hFN
          generalize nbT acc = BT at HBY e1
          first
            | (simp only at q3; exact absurd q3 (by decide))
            | (go_wp2_with fail
               refine (HBY.out _ (Below.refl _ _)).mono ?_
               rintro e w3 ⟨rfl, hb3⟩
               have hY3 : Hid (Wr2 w3 w.heap.size) := hYr.out.below hb3
               have hW3 : Hid (Below w.heap.size w w3) := Below.on hWr.out hb3
               clear hb3 rl r0 r1 r2
               go_wp2_with fail
               refine (HIL.out 3 _).mono ?_
               rintro e w4 ⟨rfl, hb4⟩
               have hY4 : Hid (Wr2 w4 w.heap.size) := hY3.out.below hb4
               have hW4 : Hid (Below w.heap.size w w4) := Below.on hW3.out hb4
               clear hb4
               obtain ⟨yl, y0, y1, yz⟩ := hY4.out
               have yz0 := yz 0
               have yz1 := yz 1
               clear yz
               go_wp2
               refine bodyPost_ret (v := .agg #[.slice none 0 0, .int .i64 3]) (by simp [results, Tryz.results22, go_sem, y0, y1]) rfl (ansP_ill hO2.out ?_)
               repeat (refine bl_setA ?_ (Nat.le_refl _))
               exact hW4.out))
set_option maxRecDepth 100000 in
set_option maxHeartbeats 4000000 in
/-- spec.NfsFrom. -/
theorem sNfsFrom_any (s : ByteArray) (hs : s.size ≤ 1048576) (w : World) :
    Calls Tryz.prog 22 #[.string s] w (AnsP (nfO s) w) := by
  by_cases hc : uC s = 0
  · exact sNfsFrom_in s hs hc w
  have hY : Hid (Wr2 (w.alloc (.cells #[.slice none 0 0, .int .i64 0] 35)) w.heap.size) := wr2_new w _
  have hW0 : Hid (Below w.heap.size w (w.alloc (.cells #[.slice none 0 0, .int .i64 0] 35))) := bel_alloc _ _
  have HU : Hid (∀ w, Calls Tryz.prog 40 #[.string s] w fun e w' => e = .returned (.agg #[.string (uT s), .int .i64 0, .int .i64 (uC s)]) ∧ Below w.heap.size w w') := sUns_any s (by unfold maxLen; omega)
  have HIL : Hid (∀ (c : Int) (w : World), Calls Tryz.prog 50 #[.int .i64 c] w fun e w' => e = .returned (.agg #[.slice none 0 0, .int .i64 c]) ∧ Below w.heap.size w w') := sIll5_any
  have hO : Hid (nfO s = ([], uC s)) := nfO_ill hc
  have g1 : (uC s == 0) = false := beq_eq_false_iff_ne.2 hc
  generalize uC s = CD at HU hO g1
  generalize uT s = TX at HU
  clear hc hs
  go_enter Tryz.func22, Tryz.ntmps22
  go_wp2_with fail
  refine (HU.out _).mono ?_
  rintro e w1 ⟨rfl, hb1⟩
  have hY1 : Hid (Wr2 (w1.alloc (.cells #[.string TX, .int .i64 0, .int .i64 CD] 57)) w.heap.size) := (hY.out.below hb1).below (bel_alloc _ _)
  have hW1 : Hid (Below w.heap.size w (w1.alloc (.cells #[.string TX, .int .i64 0, .int .i64 CD] 57))) := Below.onA (Below.on hW0.out hb1)
  have hX1 : Hid (Box3 (w1.alloc (.cells #[.string TX, .int .i64 0, .int .i64 CD] 57)) w1.heap.size (.string TX) (.int .i64 0) (.int .i64 CD)) := box3_new w1 _ _ _ _
  clear hb1 hY hW0 HU
  go_upto_region 2 with fail
  generalize w1.alloc (.cells #[.string TX, .int .i64 0, .int .i64 CD] 57) = w2 at hY1 hW1 hX1 ⊢
  generalize w1.heap.size = X at hX1 ⊢
  obtain ⟨xl, x0, x1, x2⟩ := hX1.out
  go_wp2_with fail
  refine (HIL.out CD _).mono ?_
  rintro e w3 ⟨rfl, hb3⟩
  have hW3 : Hid (Below w.heap.size w w3) := Below.on hW1.out hb3
  have hY3 : Hid (Wr2 w3 w.heap.size) := hY1.out.below hb3
  clear hb3 xl x0 x1 x2
  obtain ⟨yl, y0, y1, yz⟩ := hY3.out
  have yz0 := yz 0
  have yz1 := yz 1
  clear yz
  go_wp2
  refine bodyPost_ret (v := .agg #[.slice none 0 0, .int .i64 CD]) (by simp [results, Tryz.results22, go_sem, y0, y1]) rfl (ansP_ill hO.out ?_)
  repeat (refine bl_setA ?_ (Nat.le_refl _))
  exact hW3.out
end Go.Proofs.YtedahdncincgjaaGreatDoor
/- The law FnNfsText. -/
namespace Go.Proofs.YtedahdncincgjaaGreatDoor
open Go.RowKit Go.PlainAid Go.Deep
set_option linter.unusedVariables false
set_option linter.unusedSimpArgs false
theorem below_drewNx {B : Nat} {w w' : World} (h : Below B w w') : Below B w w'.drew := h.trans ⟨rfl, rfl, rfl, Nat.le_refl _, fun _ _ => rfl⟩
theorem str_fullX {s : ByteArray} (h : s ≠ ⟨#[]⟩) : (s.toList == []) = false ∧ (s.toList != []) = true ∧ s.toList.isEmpty = false ∧ s.toList ≠ [] ∧ decide (s.toList = []) = false := by
  have h1 : (s.toList == (⟨#[]⟩ : ByteArray).toList) = false := str_ne h
  have h0 : (⟨#[]⟩ : ByteArray).toList = [] := by first | (rw [ByteArray.toList_eq]; done) | simp
  rw [h0] at h1
  have h2 : s.toList ≠ [] := by simpa using h1
  refine ⟨h1, by simp [h2], by simpa using h2, h2, by simpa using h2⟩
theorem fldNfsX (v0 v1 : Value) (w : World) : (Instr.field 35 (.agg #[v0, v1]) 0).run Tryz.prog w = .ok v0 w := by kernel_rfl
attribute [local go_sem] fldNfsX
/-- Six cells of a block. -/
structure Bx6 (w : World) (B : Nat) (x : Ac) (k : Int) : Prop where
  lt : B < w.heap.size
  c0 : w.cell? ⟨B, 0, none⟩ = some (.bool x.al)
  c1 : w.cell? ⟨B, 1, none⟩ = some (.int .i64 x.wh)
  c2 : w.cell? ⟨B, 2, none⟩ = some (.int .i64 x.id)
  c3 : w.cell? ⟨B, 3, none⟩ = some (.int .i64 x.fl)
  c4 : w.cell? ⟨B, 4, none⟩ = some (.int .i64 x.ma)
  c5 : w.cell? ⟨B, 5, none⟩ = some (.int .i64 k)
theorem Bx6.below {w w' : World} {B : Nat} {x : Ac} {k : Int} (h : Bx6 w B x k) (hb : Below w.heap.size w w') : Bx6 w' B x k :=
  have e : ∀ j, w'.cell? ⟨B, j, none⟩ = w.cell? ⟨B, j, none⟩ := fun j => hb.cell (p := ⟨B, j, none⟩) h.lt
  ⟨Nat.lt_of_lt_of_le h.lt hb.size, (e 0).trans h.c0, (e 1).trans h.c1, (e 2).trans h.c2, (e 3).trans h.c3, (e 4).trans h.c4, (e 5).trans h.c5⟩
theorem bx6_new (w : World) (x : Ac) (k : Int) (t : TypeId) : Bx6 (w.alloc (.cells #[.bool x.al, .int .i64 x.wh, .int .i64 x.id, .int .i64 x.fl, .int .i64 x.ma, .int .i64 k] t)) w.heap.size x k :=
  ⟨by simp, by rw [lit_cell]; rfl, by rw [lit_cell]; rfl, by rw [lit_cell]; rfl, by rw [lit_cell]; rfl, by rw [lit_cell]; rfl, by rw [lit_cell]; rfl⟩
set_option maxRecDepth 100000 in
set_option maxHeartbeats 16000000 in
theorem nfsText_short (a b : Option Addr) (la lb ca cb : Nat) (f g : Nat → Int) (mx : Int) (w : World) (hc : Code a la f w.heap.size w) (hd : Code b lb g w.heap.size w) (hp : PowW w) (hm : w.cell? ⟨0, 0, none⟩ = some (.int .i64 mx)) (hml : 0 < w.heap.size) :
    Calls Tryz.prog 3 #[.slice a la ca, .slice b lb cb] w fun e w' => e = .returned (.bool true) ∧ Below w.heap.size w w' := by
  have h1 := hc.1
  have h2 := hd.1
  have n1 : ¬ (1048576 : Int) < (la : Int) := by omega
  have n2 : ¬ (1048576 : Int) < (lb : Int) := by omega
  have HC : Hid (Code a la f w.heap.size w) := hc
  have HD : Hid (Code b lb g w.heap.size w) := hd
  have HMB : Hid (∀ W', Below w.heap.size w W' → W'.cell? ⟨0, 0, none⟩ = some (.int .i64 mx)) := (fun W' h => (h.cell (p := ⟨0, 0, none⟩) hml).trans hm)
  have HPB : Hid (∀ W', Below w.heap.size w W' → PowW W') := (fun W' h => hp.below h)
  clear hc hd h1 h2 hp hm hml
  go_enter Tryz.func3, Tryz.ntmps3
  go_wp2_with fail
  refine (dDrawAceText_any a la ca f _ HC.out).mono ?_
  rintro e w1 ⟨A, rfl, hb1⟩
  have HB : Hid (Below w.heap.size w (w1.alloc (.cells #[.bool A.al, .int .i64 A.wh, .int .i64 A.id, .int .i64 A.fl, .int .i64 A.ma] 24))) := Below.on hb1 (bel_alloc _ _)
  have HX : Hid (Fr5 (w1.alloc (.cells #[.bool A.al, .int .i64 A.wh, .int .i64 A.id, .int .i64 A.fl, .int .i64 A.ma] 24)) w1.heap.size A) := fr5_new w1 A 24
  clear hb1
  go_upto_region 4 with fail
  generalize (w1.alloc (.cells #[.bool A.al, .int .i64 A.wh, .int .i64 A.id, .int .i64 A.fl, .int .i64 A.ma] 24)) = w2 at HB HX ⊢
  generalize w1.heap.size = X at HX ⊢
  obtain ⟨q0, q1, q2, q3, q4⟩ := HX.out.f
  simp only [Nat.zero_add] at q1 q2 q3 q4
  go_wp2_with fail
  refine (iAceText_any A w2 (HPB.out _ HB.out)).mono ?_
  rintro e w3 ⟨rfl, hb⟩
  replace HX : Hid (Fr5 w3 X A) := HX.out.below hb
  replace HB : Hid (Below w.heap.size w w3) := Below.on HB.out hb
  clear hb q0 q1 q2 q3 q4
  obtain ⟨T, hT⟩ : ∃ T, T = aceT A := ⟨_, rfl⟩
  have HT : Hid (T = aceT A) := hT
  have hTs : T.size ≤ 25 := by rw [hT]; exact aceT_size A
  rw [← hT]
  clear hT
  go_wp2_with fail
  refine (dDrawAceRead_any b lb cb g _ (HD.out.up HB.out)).mono ?_
  rintro e w4 ⟨r, hr, rfl, hb⟩
  replace HX : Hid (Fr5 w4 X A) := HX.out.below hb
  replace HB : Hid (Below w.heap.size w w4) := Below.on HB.out hb
  clear hb
  go_wp2_with fail
  refine (iAceRead_any r mx (by omega) _ (HMB.out _ HB.out)).mono ?_
  rintro e w5 ⟨rfl, hb⟩
  replace HX : Hid (Fr5 w5 X A) := HX.out.below hb
  replace HB : Hid (Below w.heap.size w w5) := Below.on HB.out hb
  clear hb
  obtain ⟨x, hx⟩ : ∃ x, x = (aceO r.data.toList).1 := ⟨_, rfl⟩
  obtain ⟨k, hk⟩ : ∃ k, k = (aceO r.data.toList).2 := ⟨_, rfl⟩
  rw [← hx, ← hk]
  have HXE : Hid (x = (aceO r.data.toList).1) := hx
  have HKE : Hid (k = (aceO r.data.toList).2) := hk
  clear hx hk
  have HV : Hid (Bx6 (w5.alloc (.cells #[.bool x.al, .int .i64 x.wh, .int .i64 x.id, .int .i64 x.fl, .int .i64 x.ma, .int .i64 k] 29)) w5.heap.size x k) := bx6_new w5 x k 29
  have hb := bel_alloc w5 (.cells #[.bool x.al, .int .i64 x.wh, .int .i64 x.id, .int .i64 x.fl, .int .i64 x.ma, .int .i64 k] 29)
  replace HX : Hid (Fr5 (w5.alloc (.cells #[.bool x.al, .int .i64 x.wh, .int .i64 x.id, .int .i64 x.fl, .int .i64 x.ma, .int .i64 k] 29)) X A) := HX.out.below hb
  replace HB : Hid (Below w.heap.size w (w5.alloc (.cells #[.bool x.al, .int .i64 x.wh, .int .i64 x.id, .int .i64 x.fl, .int .i64 x.ma, .int .i64 k] 29))) := Below.on HB.out hb
  clear hb
  go_upto_region 7 with fail
  generalize (w5.alloc (.cells #[.bool x.al, .int .i64 x.wh, .int .i64 x.id, .int .i64 x.fl, .int .i64 x.ma, .int .i64 k] 29)) = w6 at HB HX HV ⊢
  generalize w5.heap.size = V at HV ⊢
  go_wp2_with fail
  refine (dDrawNfsText_any a la ca f _ (HC.out.up HB.out)).mono ?_
  rintro e w7 ⟨ra, rc, l, rfl, hA, hl, hb⟩
  replace HX : Hid (Fr5 w7 X A) := HX.out.below hb
  replace HV : Hid (Bx6 w7 V x k) := HV.out.below hb
  replace HB : Hid (Below w.heap.size w w7) := Below.on HB.out hb
  have HL : Hid (Acs ra l.length l w7) := hA
  clear hA hb
  go_wp2_with fail
  refine (dDrawNfsBytes_any b lb cb g _ (HD.out.up HB.out)).mono ?_
  rintro e w8 ⟨sa, sc, m, rfl, hA, hml, hb⟩
  replace HX : Hid (Fr5 w8 X A) := HX.out.below hb
  replace HV : Hid (Bx6 w8 V x k) := HV.out.below hb
  replace HL : Hid (Acs ra l.length l w8) := HL.out.below hb
  replace HB : Hid (Below w.heap.size w w8) := Below.on HB.out hb
  have HM : Hid (Acs sa m.length m w8) := hA
  clear hA hb
  go_wp2_with fail
  refine (iNfsText_any ra l.length rc l _ HL.out (HPB.out _ HB.out)).mono ?_
  rintro e w9 ⟨rfl, hb⟩
  replace HX : Hid (Fr5 w9 X A) := HX.out.below hb
  replace HV : Hid (Bx6 w9 V x k) := HV.out.below hb
  replace HL : Hid (Acs ra l.length l w9) := HL.out.below hb
  replace HM : Hid (Acs sa m.length m w9) := HM.out.below hb
  replace HB : Hid (Below w.heap.size w w9) := Below.on HB.out hb
  clear hb
  obtain ⟨U, hU⟩ : ∃ U, U = nfsT l := ⟨_, rfl⟩
  have HU : Hid (U = nfsT l) := hU
  have hUs : U.size ≤ 832 := by rw [hU]; exact nfsT_size l
  rw [← hU]
  clear hU
  go_wp2_with fail
  refine (iNfsBytes_any sa m.length sc m _ HM.out).mono ?_
  rintro e wa ⟨rfl, hb⟩
  replace HX : Hid (Fr5 wa X A) := HX.out.below hb
  replace HV : Hid (Bx6 wa V x k) := HV.out.below hb
  replace HL : Hid (Acs ra l.length l wa) := HL.out.below hb
  replace HM : Hid (Acs sa m.length m wa) := HM.out.below hb
  replace HB : Hid (Below w.heap.size w wa) := Below.on HB.out hb
  clear hb
  obtain ⟨O, hO⟩ : ∃ O, O = nbT m := ⟨_, rfl⟩
  have HO : Hid (O = nbT m) := hO
  have hOs : O.size ≤ 1704 := by rw [hO]; exact nbT_size m
  rw [← hO]
  clear hO
  go_wp2_with fail
  refine (dDrawNfsRead_any b lb cb g _ (HD.out.up HB.out)).mono ?_
  rintro e wb ⟨p, hp, rfl, hb⟩
  replace HX : Hid (Fr5 wb X A) := HX.out.below hb
  replace HV : Hid (Bx6 wb V x k) := HV.out.below hb
  replace HL : Hid (Acs ra l.length l wb) := HL.out.below hb
  replace HM : Hid (Acs sa m.length m wb) := HM.out.below hb
  replace HB : Hid (Below w.heap.size w wb) := Below.on HB.out hb
  clear hb
  go_wp2_with fail
  refine (dDrawNfsFrom_any a la ca f _ (HC.out.up HB.out)).mono ?_
  rintro e wc ⟨q, hq, rfl, hb⟩
  replace HX : Hid (Fr5 wc X A) := HX.out.below hb
  replace HV : Hid (Bx6 wc V x k) := HV.out.below hb
  replace HL : Hid (Acs ra l.length l wc) := HL.out.below hb
  replace HM : Hid (Acs sa m.length m wc) := HM.out.below hb
  replace HB : Hid (Below w.heap.size w wc) := Below.on HB.out hb
  clear hb
  go_wp2_with fail
  refine (iNfsRead_any p mx (by omega) _ (HMB.out _ HB.out)).mono ?_
  rintro e wd ⟨pa, pc, rfl, hN⟩
  have hb := hN.bel
  replace HX : Hid (Fr5 wd X A) := HX.out.below hb
  replace HV : Hid (Bx6 wd V x k) := HV.out.below hb
  replace HL : Hid (Acs ra l.length l wd) := HL.out.below hb
  replace HM : Hid (Acs sa m.length m wd) := HM.out.below hb
  replace HB : Hid (Below w.heap.size w wd) := Below.on HB.out hb
  have HY : Hid (Acs pa (nfsO p.data.toList).1.length (nfsO p.data.toList).1 wd) := hN.own.acs
  clear hb hN
  obtain ⟨y, hy⟩ : ∃ y, y = (nfsO p.data.toList).1 := ⟨_, rfl⟩
  obtain ⟨yk, hyk⟩ : ∃ yk, yk = (nfsO p.data.toList).2 := ⟨_, rfl⟩
  rw [← hy] at HY
  rw [← hy, ← hyk]
  have hyl : y.length ≤ 32 := by rw [hy]; exact nfsO_len _
  have HYE : Hid (y = (nfsO p.data.toList).1) := hy
  have HYK : Hid (yk = (nfsO p.data.toList).2) := hyk
  clear hy hyk
  go_wp2_with fail
  refine (iNfsFrom_any q (by omega) _).mono ?_
  rintro e we ⟨qa, qc, rfl, hN⟩
  have hb := hN.bel
  replace HX : Hid (Fr5 we X A) := HX.out.below hb
  replace HV : Hid (Bx6 we V x k) := HV.out.below hb
  replace HL : Hid (Acs ra l.length l we) := HL.out.below hb
  replace HM : Hid (Acs sa m.length m we) := HM.out.below hb
  replace HY : Hid (Acs pa y.length y we) := HY.out.below hb
  replace HB : Hid (Below w.heap.size w we) := Below.on HB.out hb
  have HZ : Hid (Acs qa (nfO q).1.length (nfO q).1 we) := hN.own.acs
  clear hb hN
  obtain ⟨z, hz⟩ : ∃ z, z = (nfO q).1 := ⟨_, rfl⟩
  obtain ⟨zk, hzk⟩ : ∃ zk, zk = (nfO q).2 := ⟨_, rfl⟩
  rw [← hz] at HZ
  rw [← hz, ← hzk]
  have hzl : z.length ≤ 32 := by rw [hz]; exact nfO_len _
  have HZE : Hid (z = (nfO q).1) := hz
  have HZK : Hid (zk = (nfO q).2) := hzk
  clear hz hzk
  have hbX := bel_alloc we (.cells #[.slice pa y.length pc, .int .i64 yk] 35)
  have hbY := bel_alloc (we.alloc (.cells #[.slice pa y.length pc, .int .i64 yk] 35)) (.cells #[.slice qa z.length qc, .int .i64 zk] 35)
  have eX : (we.alloc (.cells #[.slice pa y.length pc, .int .i64 yk] 35)).heap.size = we.heap.size + 1 := by simp
  have HP : Hid (Box2 ((we.alloc (.cells #[.slice pa y.length pc, .int .i64 yk] 35)).alloc (.cells #[.slice qa z.length qc, .int .i64 zk] 35)) we.heap.size (.slice pa y.length pc) (.int .i64 yk)) := (box2_new we (.slice pa y.length pc) (.int .i64 yk) 35).below hbY
  have HQ : Hid (Box2 ((we.alloc (.cells #[.slice pa y.length pc, .int .i64 yk] 35)).alloc (.cells #[.slice qa z.length qc, .int .i64 zk] 35)) (we.heap.size + 1) (.slice qa z.length qc) (.int .i64 zk)) := (by
    have h := box2_new (we.alloc (.cells #[.slice pa y.length pc, .int .i64 yk] 35)) (.slice qa z.length qc) (.int .i64 zk) 35
    rw [eX] at h
    exact h)
  have hb : Below we.heap.size we ((we.alloc (.cells #[.slice pa y.length pc, .int .i64 yk] 35)).alloc (.cells #[.slice qa z.length qc, .int .i64 zk] 35)) := Below.on hbX hbY
  replace HX : Hid (Fr5 ((we.alloc (.cells #[.slice pa y.length pc, .int .i64 yk] 35)).alloc (.cells #[.slice qa z.length qc, .int .i64 zk] 35)) X A) := HX.out.below hb
  replace HV : Hid (Bx6 ((we.alloc (.cells #[.slice pa y.length pc, .int .i64 yk] 35)).alloc (.cells #[.slice qa z.length qc, .int .i64 zk] 35)) V x k) := HV.out.below hb
  replace HL : Hid (Acs ra l.length l ((we.alloc (.cells #[.slice pa y.length pc, .int .i64 yk] 35)).alloc (.cells #[.slice qa z.length qc, .int .i64 zk] 35))) := HL.out.below hb
  replace HM : Hid (Acs sa m.length m ((we.alloc (.cells #[.slice pa y.length pc, .int .i64 yk] 35)).alloc (.cells #[.slice qa z.length qc, .int .i64 zk] 35))) := HM.out.below hb
  replace HY : Hid (Acs pa y.length y ((we.alloc (.cells #[.slice pa y.length pc, .int .i64 yk] 35)).alloc (.cells #[.slice qa z.length qc, .int .i64 zk] 35))) := HY.out.below hb
  replace HZ : Hid (Acs qa z.length z ((we.alloc (.cells #[.slice pa y.length pc, .int .i64 yk] 35)).alloc (.cells #[.slice qa z.length qc, .int .i64 zk] 35))) := HZ.out.below hb
  replace HB : Hid (Below w.heap.size w ((we.alloc (.cells #[.slice pa y.length pc, .int .i64 yk] 35)).alloc (.cells #[.slice qa z.length qc, .int .i64 zk] 35))) := Below.on HB.out hb
  clear hb hbX hbY eX
  go_upto_region 11 with fail
  generalize ((we.alloc (.cells #[.slice pa y.length pc, .int .i64 yk] 35)).alloc (.cells #[.slice qa z.length qc, .int .i64 zk] 35)) = w0 at HB HX HV HL HM HY HZ HP HQ ⊢
  generalize we.heap.size = E at HP HQ ⊢
  have hxr : k = 0 → aceT x = r := fun h => by
    have h2 := HKE.out
    rw [h] at h2
    rw [HXE.out]
    exact ace_read h2.symm
  have hyr : yk = 0 → acesB y = true ∧ nfsT y = p := fun h => by
    have h2 := HYK.out
    rw [h] at h2
    rw [HYE.out]
    exact nfs_read h2.symm
  have hzr : zk = 0 → acesB z = true ∧ nbT z = q := fun h => by
    have h2 := HZK.out
    rw [h] at h2
    rw [HZE.out]
    exact nb_read h2.symm
  have HXR : Hid (k = 0 → aceT x = r) := hxr
  have HYR : Hid (yk = 0 → acesB y = true ∧ nfsT y = p) := hyr
  have HZR : Hid (zk = 0 → acesB z = true ∧ nbT z = q) := hzr
  clear hxr hyr hzr
  have K1 : Hid (∀ w', Below w0.heap.size w0 w' → Calls Tryz.prog 16 #[.agg #[.bool A.al, .int .i64 A.wh, .int .i64 A.id, .int .i64 A.fl, .int .i64 A.ma]] w' fun e w'' => e = .returned (.string T) ∧ Below w'.heap.size w' w'') := (fun w' hb => by rw [HT.out]; exact sAceText_any A w')
  have K2 : Hid (∀ w', Below w0.heap.size w0 w' → Calls Tryz.prog 17 #[.string r] w' fun e w'' => e = .returned (.agg #[.bool x.al, .int .i64 x.wh, .int .i64 x.id, .int .i64 x.fl, .int .i64 x.ma, .int .i64 k]) ∧ Below w'.heap.size w' w'') := (fun w' hb => by rw [HXE.out, HKE.out]; exact sAceRead_any r (by omega) w')
  have K3 : Hid (∀ w', Below w0.heap.size w0 w' → Calls Tryz.prog 18 #[.slice ra l.length rc] w' fun e w'' => e = .returned (.string U) ∧ Below w'.heap.size w' w'') := (fun w' hb => by rw [HU.out]; exact sNfsText_any ra _ rc l (by omega) w' (HL.out.below hb))
  have K4 : Hid (∀ w', Below w0.heap.size w0 w' → Calls Tryz.prog 19 #[.slice sa m.length sc] w' fun e w'' => e = .returned (.string O) ∧ Below w'.heap.size w' w'') := (fun w' hb => by rw [HO.out]; exact sNfsBytes_any sa _ sc m (by omega) w' (HM.out.below hb))
  have K5 : Hid (∀ w', Below w0.heap.size w0 w' → Calls Tryz.prog 21 #[.string p] w' fun e w'' => ∃ a1 c1, e = .returned (.agg #[.slice a1 y.length c1, .int .i64 yk]) ∧ Acs a1 y.length y w'' ∧ Below w'.heap.size w' w'') := (fun w' hb => by
    have h : Calls Tryz.prog 21 #[.string p] w' (AnsN (nfsO p.data.toList).1 (nfsO p.data.toList).2 w') := sNfsRead_any p (by omega) w'
    rw [← HYE.out, ← HYK.out] at h
    exact h.mono (fun e w'' ⟨a1, c1, he, hN⟩ => ⟨a1, c1, he, hN.own.acs, hN.bel⟩))
  have K7 : Hid (∀ w', Below w0.heap.size w0 w' → Calls Tryz.prog 22 #[.string q] w' fun e w'' => ∃ a1 c1, e = .returned (.agg #[.slice a1 z.length c1, .int .i64 zk]) ∧ Acs a1 z.length z w'' ∧ Below w'.heap.size w' w'') := (fun w' hb => by
    have h : Calls Tryz.prog 22 #[.string q] w' (AnsN (nfO q).1 (nfO q).2 w') := sNfsFrom_any q (by omega) w'
    rw [← HZE.out, ← HZK.out] at h
    exact h.mono (fun e w'' ⟨a1, c1, he, hN⟩ => ⟨a1, c1, he, hN.own.acs, hN.bel⟩))
  have K6 : Hid (∀ (b1 : Option Addr) (d1 : Nat) w', Acs b1 y.length y w' → Below w0.heap.size w0 w' → Calls Tryz.prog 20 #[.agg #[.slice pa y.length pc, .int .i64 yk], .agg #[.slice b1 y.length d1, .int .i64 yk]] w' fun e w'' => e = .returned (.bool true) ∧ Below w'.heap.size w' w'') := (fun b1 d1 w' h1 hb => lwNfs_any pa b1 _ pc d1 yk y (by omega) (fun h => (HYR.out h).1) w' (HY.out.below hb) h1)
  have K8 : Hid (∀ (b1 : Option Addr) (d1 : Nat) w', Acs b1 z.length z w' → Below w0.heap.size w0 w' → Calls Tryz.prog 20 #[.agg #[.slice qa z.length qc, .int .i64 zk], .agg #[.slice b1 z.length d1, .int .i64 zk]] w' fun e w'' => e = .returned (.bool true) ∧ Below w'.heap.size w' w'') := (fun b1 d1 w' h1 hb => lwNfs_any qa b1 _ qc d1 zk z (by omega) (fun h => (HZR.out h).1) w' (HZ.out.below hb) h1)
  have R1 : Hid (T ≠ ⟨#[]⟩ → ∀ w', Below w0.heap.size w0 w' → Calls Tryz.prog 7 #[.string T] w' fun e w'' => e = .returned (.agg #[.bool A.al, .int .i64 A.wh, .int .i64 A.id, .int .i64 A.fl, .int .i64 A.ma, .int .i64 0]) ∧ Below w'.heap.size w' w'') := (fun hne w' hb => by
    have hB : aceB A = true := by
      cases h : aceB A
      · exact absurd (by rw [HT.out]; exact aceT_no h) hne
      · rfl
    have h := iAceRead_any T mx (by omega) w' (HMB.out _ (Below.on HB.out hb))
    rw [HT.out, (ace_yes hB).1] at h
    rw [HT.out]
    exact h)
  have R2 : Hid (U ≠ ⟨#[]⟩ → ∀ w', Below w0.heap.size w0 w' → Calls Tryz.prog 14 #[.string U] w' fun e w'' => ∃ a1 c1, e = .returned (.agg #[.slice a1 l.length c1, .int .i64 0]) ∧ Acs a1 l.length l w'' ∧ Below w'.heap.size w' w'') := (fun hne w' hb => by
    have hB : acesB l = true := by
      cases h : acesB l
      · exact absurd (by rw [HU.out]; exact nfsT_no h) hne
      · rfl
    have h : Calls Tryz.prog 14 #[.string U] w' (AnsN (nfsO U.data.toList).1 (nfsO U.data.toList).2 w') := iNfsRead_any U mx (by omega) w' (HMB.out _ (Below.on HB.out hb))
    rw [HU.out, nfs_yes hB] at h
    rw [HU.out]
    exact h.mono (fun e w'' ⟨a1, c1, he, hN⟩ => ⟨a1, c1, he, hN.own.acs, hN.bel⟩))
  have R4 : Hid (O ≠ ⟨#[]⟩ → ∀ w', Below w0.heap.size w0 w' → Calls Tryz.prog 15 #[.string O] w' fun e w'' => ∃ a1 c1, e = .returned (.agg #[.slice a1 m.length c1, .int .i64 0]) ∧ Acs a1 m.length m w'' ∧ Below w'.heap.size w' w'') := (fun hne w' hb => by
    have hB : acesB m = true := by
      cases h : acesB m
      · exact absurd (by rw [HO.out]; exact nbT_no h) hne
      · rfl
    have h : Calls Tryz.prog 15 #[.string O] w' (AnsN (nfO O).1 (nfO O).2 w') := iNfsFrom_any O (by omega) w'
    rw [HO.out, (nb_yes hB).1] at h
    rw [HO.out]
    exact h.mono (fun e w'' ⟨a1, c1, he, hN⟩ => ⟨a1, c1, he, hN.own.acs, hN.bel⟩))
  have R3 : Hid (∀ (b1 : Option Addr) (d1 : Nat) w', Acs b1 l.length l w' → Below w0.heap.size w0 w' → Calls Tryz.prog 23 #[.slice b1 l.length d1, .slice ra l.length rc] w' fun e w'' => e = .returned (.bool true) ∧ Below w'.heap.size w' w'') := (fun b1 d1 w' h1 hb => lwAces_any b1 ra _ d1 rc l (by omega) w' h1 (HL.out.below hb))
  have R5 : Hid (∀ (b1 : Option Addr) (d1 : Nat) w', Acs b1 m.length m w' → Below w0.heap.size w0 w' → Calls Tryz.prog 23 #[.slice b1 m.length d1, .slice sa m.length sc] w' fun e w'' => e = .returned (.bool true) ∧ Below w'.heap.size w' w'') := (fun b1 d1 w' h1 hb => lwAces_any b1 sa _ d1 sc m (by omega) w' h1 (HM.out.below hb))
  have S1 : Hid (k = 0 → ∀ w', Below w0.heap.size w0 w' → Calls Tryz.prog 5 #[.agg #[.bool x.al, .int .i64 x.wh, .int .i64 x.id, .int .i64 x.fl, .int .i64 x.ma]] w' fun e w'' => e = .returned (.string r) ∧ Below w'.heap.size w' w'') := (fun h w' hb => by
    have h2 := iAceText_any x w' (HPB.out _ (Below.on HB.out hb))
    rw [HXR.out h] at h2
    exact h2)
  have S2 : Hid (yk = 0 → ∀ w', Below w0.heap.size w0 w' → Calls Tryz.prog 10 #[.slice pa y.length pc] w' fun e w'' => e = .returned (.string p) ∧ Below w'.heap.size w' w'') := (fun h w' hb => by
    have h2 := iNfsText_any pa _ pc y w' (HY.out.below hb) (HPB.out _ (Below.on HB.out hb))
    rw [(HYR.out h).2] at h2
    exact h2)
  have S3 : Hid (zk = 0 → ∀ w', Below w0.heap.size w0 w' → Calls Tryz.prog 11 #[.slice qa z.length qc] w' fun e w'' => e = .returned (.string q) ∧ Below w'.heap.size w' w'') := (fun h w' hb => by
    have h2 := iNfsBytes_any qa _ qc z w' (HZ.out.below hb)
    rw [(HZR.out h).2] at h2
    exact h2)
  clear HXR HYR HZR HXE HKE HYE HYK HZE HZK HT HU HO HL HM HY HZ HC HD HMB HPB hTs hUs hOs hr hp hq hl hml hyl hzl
  have hxx : (x.al == x.al) = true := by simp
  have hxx2 : (x.al != x.al) = false := by simp
  have hAA : (A.al == A.al) = true := by simp
  have hAA2 : (A.al != A.al) = false := by simp
  have HB0 : Hid (Below w0.heap.size w0 w0) := Below.refl _ _
  obtain ⟨cx0, cx1, cx2, cx3, cx4⟩ := (HX.out.below HB0.out).f
  simp only [Nat.zero_add] at cx1 cx2 cx3 cx4
  obtain ⟨_, cv0, cv1, cv2, cv3, cv4, cv5⟩ := HV.out.below HB0.out
  obtain ⟨_, cp0, cp1⟩ := HP.out.below HB0.out
  obtain ⟨_, cq0, cq1⟩ := HQ.out.below HB0.out
  go_cut [84] (fun t wx => t = .bool false ∧ Hid (Below w0.heap.size w0 wx))
  case first =>
    go_region_held3 (fun w' => w'.cell? ⟨X, 0, none⟩ = some (.bool A.al) ∧ w'.cell? ⟨X, 1, none⟩ = some (.int .i64 A.wh) ∧ w'.cell? ⟨X, 2, none⟩ = some (.int .i64 A.id) ∧ w'.cell? ⟨X, 3, none⟩ = some (.int .i64 A.fl) ∧ w'.cell? ⟨X, 4, none⟩ = some (.int .i64 A.ma) ∧ w'.cell? ⟨V, 0, none⟩ = some (.bool x.al) ∧ w'.cell? ⟨V, 1, none⟩ = some (.int .i64 x.wh) ∧ w'.cell? ⟨V, 2, none⟩ = some (.int .i64 x.id) ∧ w'.cell? ⟨V, 3, none⟩ = some (.int .i64 x.fl) ∧ w'.cell? ⟨V, 4, none⟩ = some (.int .i64 x.ma) ∧ w'.cell? ⟨V, 5, none⟩ = some (.int .i64 k) ∧ w'.cell? ⟨E, 0, none⟩ = some (.slice pa y.length pc) ∧ w'.cell? ⟨E, 1, none⟩ = some (.int .i64 yk) ∧ w'.cell? ⟨E + 1, 0, none⟩ = some (.slice qa z.length qc) ∧ w'.cell? ⟨E + 1, 1, none⟩ = some (.int .i64 zk)) (go_keep)
      (first
        | (go_at_call 20; refine Calls.mono (K8.out ra7 rc7 _ HS7.out hB7.out) ?_; rintro e wv8 ⟨rfl, hb8⟩; have hB8 : Hid (Below w0.heap.size w0 wv8) := Below.on hB7.out hb8; clear HS7; clear hb8; clear d7x0 d7x1 d7x2 d7x3 d7x4 d7v0 d7v1 d7v2 d7v3 d7v4 d7v5 d7p0 d7p1 d7q0 d7q1; obtain ⟨d8x0, d8x1, d8x2, d8x3, d8x4⟩ := (HX.out.below hB8.out).f; simp only [Nat.zero_add] at d8x1 d8x2 d8x3 d8x4; obtain ⟨_, d8v0, d8v1, d8v2, d8v3, d8v4, d8v5⟩ := HV.out.below hB8.out; obtain ⟨_, d8p0, d8p1⟩ := HP.out.below hB8.out; obtain ⟨_, d8q0, d8q1⟩ := HQ.out.below hB8.out)
        | (go_at_call 22; refine Calls.mono (K7.out _ hB6.out) ?_; rintro e wv7 ⟨ra7, rc7, rfl, hs7, hb7⟩; have hB7 : Hid (Below w0.heap.size w0 wv7) := Below.on hB6.out hb7; have HS7 : Hid (Acs ra7 z.length z wv7) := hs7; clear hs7; clear hb7; clear d6x0 d6x1 d6x2 d6x3 d6x4 d6v0 d6v1 d6v2 d6v3 d6v4 d6v5 d6p0 d6p1 d6q0 d6q1; obtain ⟨d7x0, d7x1, d7x2, d7x3, d7x4⟩ := (HX.out.below hB7.out).f; simp only [Nat.zero_add] at d7x1 d7x2 d7x3 d7x4; obtain ⟨_, d7v0, d7v1, d7v2, d7v3, d7v4, d7v5⟩ := HV.out.below hB7.out; obtain ⟨_, d7p0, d7p1⟩ := HP.out.below hB7.out; obtain ⟨_, d7q0, d7q1⟩ := HQ.out.below hB7.out)
        | (go_at_call 20; refine Calls.mono (K6.out ra5 rc5 _ HS5.out hB5.out) ?_; rintro e wv6 ⟨rfl, hb6⟩; have hB6 : Hid (Below w0.heap.size w0 wv6) := Below.on hB5.out hb6; clear HS5; clear hb6; clear d5x0 d5x1 d5x2 d5x3 d5x4 d5v0 d5v1 d5v2 d5v3 d5v4 d5v5 d5p0 d5p1 d5q0 d5q1; obtain ⟨d6x0, d6x1, d6x2, d6x3, d6x4⟩ := (HX.out.below hB6.out).f; simp only [Nat.zero_add] at d6x1 d6x2 d6x3 d6x4; obtain ⟨_, d6v0, d6v1, d6v2, d6v3, d6v4, d6v5⟩ := HV.out.below hB6.out; obtain ⟨_, d6p0, d6p1⟩ := HP.out.below hB6.out; obtain ⟨_, d6q0, d6q1⟩ := HQ.out.below hB6.out)
        | (go_at_call 21; refine Calls.mono (K5.out _ hB4.out) ?_; rintro e wv5 ⟨ra5, rc5, rfl, hs5, hb5⟩; have hB5 : Hid (Below w0.heap.size w0 wv5) := Below.on hB4.out hb5; have HS5 : Hid (Acs ra5 y.length y wv5) := hs5; clear hs5; clear hb5; clear d4x0 d4x1 d4x2 d4x3 d4x4 d4v0 d4v1 d4v2 d4v3 d4v4 d4v5 d4p0 d4p1 d4q0 d4q1; obtain ⟨d5x0, d5x1, d5x2, d5x3, d5x4⟩ := (HX.out.below hB5.out).f; simp only [Nat.zero_add] at d5x1 d5x2 d5x3 d5x4; obtain ⟨_, d5v0, d5v1, d5v2, d5v3, d5v4, d5v5⟩ := HV.out.below hB5.out; obtain ⟨_, d5p0, d5p1⟩ := HP.out.below hB5.out; obtain ⟨_, d5q0, d5q1⟩ := HQ.out.below hB5.out)
        | (go_at_call 19; refine Calls.mono (K4.out _ hB3.out) ?_; rintro e wv4 ⟨rfl, hb4⟩; have hB4 : Hid (Below w0.heap.size w0 wv4) := Below.on hB3.out hb4; clear hb4; clear d3x0 d3x1 d3x2 d3x3 d3x4 d3v0 d3v1 d3v2 d3v3 d3v4 d3v5 d3p0 d3p1 d3q0 d3q1; obtain ⟨d4x0, d4x1, d4x2, d4x3, d4x4⟩ := (HX.out.below hB4.out).f; simp only [Nat.zero_add] at d4x1 d4x2 d4x3 d4x4; obtain ⟨_, d4v0, d4v1, d4v2, d4v3, d4v4, d4v5⟩ := HV.out.below hB4.out; obtain ⟨_, d4p0, d4p1⟩ := HP.out.below hB4.out; obtain ⟨_, d4q0, d4q1⟩ := HQ.out.below hB4.out)
        | (go_at_call 18; refine Calls.mono (K3.out _ hB2.out) ?_; rintro e wv3 ⟨rfl, hb3⟩; have hB3 : Hid (Below w0.heap.size w0 wv3) := Below.on hB2.out hb3; clear hb3; clear d2x0 d2x1 d2x2 d2x3 d2x4 d2v0 d2v1 d2v2 d2v3 d2v4 d2v5 d2p0 d2p1 d2q0 d2q1; obtain ⟨d3x0, d3x1, d3x2, d3x3, d3x4⟩ := (HX.out.below hB3.out).f; simp only [Nat.zero_add] at d3x1 d3x2 d3x3 d3x4; obtain ⟨_, d3v0, d3v1, d3v2, d3v3, d3v4, d3v5⟩ := HV.out.below hB3.out; obtain ⟨_, d3p0, d3p1⟩ := HP.out.below hB3.out; obtain ⟨_, d3q0, d3q1⟩ := HQ.out.below hB3.out)
        | (go_at_call 17; refine Calls.mono (K2.out _ hB1.out) ?_; rintro e wv2 ⟨rfl, hb2⟩; have hB2 : Hid (Below w0.heap.size w0 wv2) := Below.on hB1.out hb2; clear hb2; clear d1x0 d1x1 d1x2 d1x3 d1x4 d1v0 d1v1 d1v2 d1v3 d1v4 d1v5 d1p0 d1p1 d1q0 d1q1; obtain ⟨d2x0, d2x1, d2x2, d2x3, d2x4⟩ := (HX.out.below hB2.out).f; simp only [Nat.zero_add] at d2x1 d2x2 d2x3 d2x4; obtain ⟨_, d2v0, d2v1, d2v2, d2v3, d2v4, d2v5⟩ := HV.out.below hB2.out; obtain ⟨_, d2p0, d2p1⟩ := HP.out.below hB2.out; obtain ⟨_, d2q0, d2q1⟩ := HQ.out.below hB2.out)
        | (go_at_call 16; refine Calls.mono (K1.out _ ?hs) ?_; (case hs => (first | exact Below.refl _ _ | exact below_drewNx (Below.refl _ _))); rintro e wv1 ⟨rfl, hb1⟩; have hB1 : Hid (Below w0.heap.size w0 wv1) := Below.on (below_drewNx (Below.refl _ _)) ⟨hb1.os, hb1.tape, hb1.output, hb1.size, hb1.block⟩; clear hb1; obtain ⟨d1x0, d1x1, d1x2, d1x3, d1x4⟩ := (HX.out.below hB1.out).f; simp only [Nat.zero_add] at d1x1 d1x2 d1x3 d1x4; obtain ⟨_, d1v0, d1v1, d1v2, d1v3, d1v4, d1v5⟩ := HV.out.below hB1.out; obtain ⟨_, d1p0, d1p1⟩ := HP.out.below hB1.out; obtain ⟨_, d1q0, d1q1⟩ := HQ.out.below hB1.out))
    go_wp2
    go_meet
    exact ⟨rfl, hB8⟩
  case rest =>
  obtain ⟨rfl, HB10⟩ := hcut
  obtain ⟨wq, hwq⟩ : ∃ wq, wq = wc := ⟨_, rfl⟩
  subst hwq
  clear cx0 cx1 cx2 cx3 cx4 cv0 cv1 cv2 cv3 cv4 cv5 cp0 cp1 cq0 cq1 K1 K2 K3 K4 K5 K6 K7 K8 HB0
  obtain ⟨cx0, cx1, cx2, cx3, cx4⟩ := (HX.out.below HB10.out).f
  simp only [Nat.zero_add] at cx1 cx2 cx3 cx4
  obtain ⟨_, cv0, cv1, cv2, cv3, cv4, cv5⟩ := HV.out.below HB10.out
  obtain ⟨_, cp0, cp1⟩ := HP.out.below HB10.out
  obtain ⟨_, cq0, cq1⟩ := HQ.out.below HB10.out
  go_upto_region 13 with fail
  go_cut [117] (fun t wx => t = .bool false ∧ Hid (Below w0.heap.size w0 wx))
  case first =>
    clear cv0 cv1 cv2 cv3 cv4 cv5 cp0 cp1 cq0 cq1
    by_cases hT : T = ⟨#[]⟩
    · subst hT
      by_cases hU : U = ⟨#[]⟩
      · subst hU
        by_cases hO : O = ⟨#[]⟩
        · subst hO
          go_region
          all_goals (
            go_wp2
            go_meet
            first | exact ⟨rfl, HB10⟩ | exact ⟨rfl, below_drewNx HB10.out⟩)
        · skip
          obtain ⟨o1, o2, o3, o4, o5⟩ := str_fullX hO
          refine wp_region_held_drew (S := fun w' => w'.cell? ⟨X, 0, none⟩ = some (.bool A.al) ∧ w'.cell? ⟨X, 1, none⟩ = some (.int .i64 A.wh) ∧ w'.cell? ⟨X, 2, none⟩ = some (.int .i64 A.id) ∧ w'.cell? ⟨X, 3, none⟩ = some (.int .i64 A.fl) ∧ w'.cell? ⟨X, 4, none⟩ = some (.int .i64 A.ma)) (by kernel_rfl) (by (try dsimp only); simp [*]) (fun hHeld => ?_)
          refine wpAnyH_take (i := 0) (oi := { dst := some 85, op := Op.move (Operand.tmp 6), type := 9, pos := "laws.go:349", after := #[], guard := none }) (v := .string ⟨#[]⟩) rfl (by kernel_rfl) (by kernel_rfl) (by kernel_rfl) (fun _ _ _ h => h) (Or.inl ⟨by rfl, fun w' hSw => ?_⟩) (by assumption) ?_
          · (try dsimp only at hSw)
            first | (go_simp; done) | (go_simp; with_reducible rfl) | rfl
          try simp only [Act.put, List.setIfInBounds_toArray, List.set_cons_zero, List.set_cons_succ]
          refine wpAnyH_take (i := 1) (oi := { dst := some 86, op := Op.binOp BinOp.neq 9 (Operand.tmp 85) (Operand.const (Value.string ⟨#[]⟩)) 9, type := 4, pos := "laws.go:349", after := #[{ on := 0, ground := Ground.data }], guard := none }) (v := .bool false) rfl (by kernel_rfl) (by kernel_rfl) (by kernel_rfl) (fun _ _ _ h => h) (Or.inl ⟨by rfl, fun w' hSw => ?_⟩) (by assumption) ?_
          · (try dsimp only at hSw)
            first | (go_simp; done) | (go_simp; with_reducible rfl) | rfl
          try simp only [Act.put, List.setIfInBounds_toArray, List.set_cons_zero, List.set_cons_succ]
          refine wpAnyH_take (i := 2) (oi := { dst := some 87, op := Op.move (Operand.tmp 86), type := 4, pos := "laws.go:349", after := #[{ on := 1, ground := Ground.data }], guard := none }) (v := .bool false) rfl (by kernel_rfl) (by kernel_rfl) (by kernel_rfl) (fun _ _ _ h => h) (Or.inl ⟨by rfl, fun w' hSw => ?_⟩) (by assumption) ?_
          · (try dsimp only at hSw)
            first | (go_simp; done) | (go_simp; with_reducible rfl) | rfl
          try simp only [Act.put, List.setIfInBounds_toArray, List.set_cons_zero, List.set_cons_succ]
          refine wpAnyH_take (i := 3) (oi := { dst := some 88, op := Op.move (Operand.tmp 6), type := 9, pos := "laws.go:349", after := #[{ on := 2, ground := Ground.guard }], guard := some (2, true) }) (v := undef) rfl (by kernel_rfl) (by kernel_rfl) (by kernel_rfl) (fun _ _ _ h => h) (Or.inr ⟨by rfl, rfl⟩) (by assumption) ?_
          try simp only [Act.put, List.setIfInBounds_toArray, List.set_cons_zero, List.set_cons_succ]
          refine wpAnyH_take (i := 5) (oi := { dst := some 90, op := Op.load 24 (Operand.tmp 5), type := 24, pos := "laws.go:349", after := #[{ on := 2, ground := Ground.guard }], guard := some (2, true) }) (v := undef) rfl (by kernel_rfl) (by kernel_rfl) (by kernel_rfl) (fun _ _ _ h => h) (Or.inr ⟨by rfl, rfl⟩) (by assumption) ?_
          try simp only [Act.put, List.setIfInBounds_toArray, List.set_cons_zero, List.set_cons_succ]
          refine wpAnyH_take (i := 6) (oi := { dst := some 91, op := Op.build 29 #[(0, Operand.tmp 90)], type := 29, pos := "laws.go:349", after := #[{ on := 5, ground := Ground.data }, { on := 2, ground := Ground.guard }], guard := some (2, true) }) (v := undef) rfl (by kernel_rfl) (by kernel_rfl) (by kernel_rfl) (fun _ _ _ h => h) (Or.inr ⟨by rfl, rfl⟩) (by assumption) ?_
          try simp only [Act.put, List.setIfInBounds_toArray, List.set_cons_zero, List.set_cons_succ]
          refine wpAnyH_take (i := 4) (oi := { dst := some 89, op := Op.call { callee := Callee.value (Operand.func 7), args := #[Operand.tmp 88], argTypes := #[9] }, type := 29, pos := "laws.go:349", after := #[{ on := 3, ground := Ground.data }, { on := 2, ground := Ground.chain }, { on := 2, ground := Ground.guard }], guard := some (2, true) }) (v := undef) rfl (by kernel_rfl) (by kernel_rfl) (by kernel_rfl) (fun _ _ _ h => h) (Or.inr ⟨by rfl, rfl⟩) (by assumption) ?_
          try simp only [Act.put, List.setIfInBounds_toArray, List.set_cons_zero, List.set_cons_succ]
          refine wpAnyH_take (i := 7) (oi := { dst := some 92, op := Op.binOp BinOp.neq 29 (Operand.tmp 89) (Operand.tmp 91) 29, type := 4, pos := "laws.go:349", after := #[{ on := 4, ground := Ground.data }, { on := 6, ground := Ground.data }, { on := 2, ground := Ground.guard }], guard := some (2, true) }) (v := undef) rfl (by kernel_rfl) (by kernel_rfl) (by kernel_rfl) (fun _ _ _ h => h) (Or.inr ⟨by rfl, rfl⟩) (by assumption) ?_
          try simp only [Act.put, List.setIfInBounds_toArray, List.set_cons_zero, List.set_cons_succ]
          refine wpAnyH_take (i := 8) (oi := { dst := some 93, op := Op.pick (Operand.tmp 87) (Operand.tmp 92) (Operand.const (Value.bool false)), type := 4, pos := "laws.go:349", after := #[{ on := 2, ground := Ground.data }, { on := 7, ground := Ground.data }], guard := none }) (v := .bool false) rfl (by kernel_rfl) (by kernel_rfl) (by kernel_rfl) (fun _ _ _ h => h) (Or.inl ⟨by rfl, fun w' hSw => ?_⟩) (by assumption) ?_
          · (try dsimp only at hSw)
            first | (go_simp; done) | (go_simp; with_reducible rfl) | rfl
          try simp only [Act.put, List.setIfInBounds_toArray, List.set_cons_zero, List.set_cons_succ]
          refine wpAnyH_take (i := 9) (oi := { dst := some 94, op := Op.move (Operand.tmp 93), type := 4, pos := "laws.go:349", after := #[{ on := 8, ground := Ground.data }, { on := 4, ground := Ground.chain }], guard := none }) (v := .bool false) rfl (by kernel_rfl) (by kernel_rfl) (by kernel_rfl) (fun _ _ _ h => h) (Or.inl ⟨by rfl, fun w' hSw => ?_⟩) (by assumption) ?_
          · (try dsimp only at hSw)
            first | (go_simp; done) | (go_simp; with_reducible rfl) | rfl
          try simp only [Act.put, List.setIfInBounds_toArray, List.set_cons_zero, List.set_cons_succ]
          refine wpAnyH_take (i := 10) (oi := { dst := some 95, op := Op.move (Operand.tmp 11), type := 9, pos := "laws.go:349", after := #[{ on := 9, ground := Ground.guard }], guard := some (9, false) }) (v := .string ⟨#[]⟩) rfl (by kernel_rfl) (by kernel_rfl) (by kernel_rfl) (fun _ _ _ h => h) (Or.inl ⟨by rfl, fun w' hSw => ?_⟩) (by assumption) ?_
          · (try dsimp only at hSw)
            first | (go_simp; done) | (go_simp; with_reducible rfl) | rfl
          try simp only [Act.put, List.setIfInBounds_toArray, List.set_cons_zero, List.set_cons_succ]
          refine wpAnyH_take (i := 11) (oi := { dst := some 96, op := Op.binOp BinOp.neq 9 (Operand.tmp 95) (Operand.const (Value.string ⟨#[]⟩)) 9, type := 4, pos := "laws.go:349", after := #[{ on := 10, ground := Ground.data }, { on := 9, ground := Ground.guard }], guard := some (9, false) }) (v := .bool false) rfl (by kernel_rfl) (by kernel_rfl) (by kernel_rfl) (fun _ _ _ h => h) (Or.inl ⟨by rfl, fun w' hSw => ?_⟩) (by assumption) ?_
          · (try dsimp only at hSw)
            first | (go_simp; done) | (go_simp; with_reducible rfl) | rfl
          try simp only [Act.put, List.setIfInBounds_toArray, List.set_cons_zero, List.set_cons_succ]
          refine wpAnyH_take (i := 12) (oi := { dst := some 97, op := Op.move (Operand.tmp 96), type := 4, pos := "laws.go:349", after := #[{ on := 11, ground := Ground.data }, { on := 9, ground := Ground.chain }, { on := 9, ground := Ground.guard }], guard := some (9, false) }) (v := .bool false) rfl (by kernel_rfl) (by kernel_rfl) (by kernel_rfl) (fun _ _ _ h => h) (Or.inl ⟨by rfl, fun w' hSw => ?_⟩) (by assumption) ?_
          · (try dsimp only at hSw)
            first | (go_simp; done) | (go_simp; with_reducible rfl) | rfl
          try simp only [Act.put, List.setIfInBounds_toArray, List.set_cons_zero, List.set_cons_succ]
          refine wpAnyH_take (i := 13) (oi := { dst := some 98, op := Op.move (Operand.tmp 11), type := 9, pos := "laws.go:349", after := #[{ on := 12, ground := Ground.guard }], guard := some (12, true) }) (v := undef) rfl (by kernel_rfl) (by kernel_rfl) (by kernel_rfl) (fun _ _ _ h => h) (Or.inr ⟨by rfl, rfl⟩) (by assumption) ?_
          try simp only [Act.put, List.setIfInBounds_toArray, List.set_cons_zero, List.set_cons_succ]
          refine wpAnyH_take (i := 16) (oi := { dst := some 101, op := Op.move (Operand.tmp 9), type := 31, pos := "laws.go:349", after := #[{ on := 12, ground := Ground.guard }], guard := some (12, true) }) (v := undef) rfl (by kernel_rfl) (by kernel_rfl) (by kernel_rfl) (fun _ _ _ h => h) (Or.inr ⟨by rfl, rfl⟩) (by assumption) ?_
          try simp only [Act.put, List.setIfInBounds_toArray, List.set_cons_zero, List.set_cons_succ]
          refine wpAnyH_take (i := 14) (oi := { dst := some 99, op := Op.call { callee := Callee.value (Operand.func 14), args := #[Operand.tmp 98], argTypes := #[9] }, type := 35, pos := "laws.go:349", after := #[{ on := 13, ground := Ground.data }, { on := 12, ground := Ground.chain }, { on := 12, ground := Ground.guard }], guard := some (12, true) }) (v := undef) rfl (by kernel_rfl) (by kernel_rfl) (by kernel_rfl) (fun _ _ _ h => h) (Or.inr ⟨by rfl, rfl⟩) (by assumption) ?_
          try simp only [Act.put, List.setIfInBounds_toArray, List.set_cons_zero, List.set_cons_succ]
          refine wpAnyH_take (i := 15) (oi := { dst := some 100, op := Op.field 35 (Operand.tmp 99) 0, type := 31, pos := "laws.go:349", after := #[{ on := 14, ground := Ground.data }, { on := 12, ground := Ground.guard }], guard := some (12, true) }) (v := undef) rfl (by kernel_rfl) (by kernel_rfl) (by kernel_rfl) (fun _ _ _ h => h) (Or.inr ⟨by rfl, rfl⟩) (by assumption) ?_
          try simp only [Act.put, List.setIfInBounds_toArray, List.set_cons_zero, List.set_cons_succ]
          refine wpAnyH_take (i := 17) (oi := { dst := some 102, op := Op.call { callee := Callee.value (Operand.func 23), args := #[Operand.tmp 100, Operand.tmp 101], argTypes := #[31, 31] }, type := 4, pos := "laws.go:349", after := #[{ on := 15, ground := Ground.data }, { on := 16, ground := Ground.data }, { on := 14, ground := Ground.chain }, { on := 12, ground := Ground.guard }], guard := some (12, true) }) (v := undef) rfl (by kernel_rfl) (by kernel_rfl) (by kernel_rfl) (fun _ _ _ h => h) (Or.inr ⟨by rfl, rfl⟩) (by assumption) ?_
          try simp only [Act.put, List.setIfInBounds_toArray, List.set_cons_zero, List.set_cons_succ]
          refine wpAnyH_take (i := 18) (oi := { dst := some 103, op := Op.unOp UnOp.not 4 (Operand.tmp 102), type := 4, pos := "laws.go:349", after := #[{ on := 17, ground := Ground.data }, { on := 12, ground := Ground.guard }], guard := some (12, true) }) (v := undef) rfl (by kernel_rfl) (by kernel_rfl) (by kernel_rfl) (fun _ _ _ h => h) (Or.inr ⟨by rfl, rfl⟩) (by assumption) ?_
          try simp only [Act.put, List.setIfInBounds_toArray, List.set_cons_zero, List.set_cons_succ]
          refine wpAnyH_take (i := 19) (oi := { dst := some 104, op := Op.pick (Operand.tmp 97) (Operand.tmp 103) (Operand.const (Value.bool false)), type := 4, pos := "laws.go:349", after := #[{ on := 12, ground := Ground.data }, { on := 18, ground := Ground.data }, { on := 9, ground := Ground.guard }], guard := some (9, false) }) (v := .bool false) rfl (by kernel_rfl) (by kernel_rfl) (by kernel_rfl) (fun _ _ _ h => h) (Or.inl ⟨by rfl, fun w' hSw => ?_⟩) (by assumption) ?_
          · (try dsimp only at hSw)
            first | (go_simp; done) | (go_simp; with_reducible rfl) | rfl
          try simp only [Act.put, List.setIfInBounds_toArray, List.set_cons_zero, List.set_cons_succ]
          refine wpAnyH_take (i := 20) (oi := { dst := some 105, op := Op.pick (Operand.tmp 94) (Operand.const (Value.bool true)) (Operand.tmp 104), type := 4, pos := "laws.go:349", after := #[{ on := 9, ground := Ground.data }, { on := 19, ground := Ground.data }], guard := none }) (v := .bool false) rfl (by kernel_rfl) (by kernel_rfl) (by kernel_rfl) (fun _ _ _ h => h) (Or.inl ⟨by rfl, fun w' hSw => ?_⟩) (by assumption) ?_
          · (try dsimp only at hSw)
            first | (go_simp; done) | (go_simp; with_reducible rfl) | rfl
          try simp only [Act.put, List.setIfInBounds_toArray, List.set_cons_zero, List.set_cons_succ]
          refine wpAnyH_take (i := 21) (oi := { dst := some 106, op := Op.move (Operand.tmp 105), type := 4, pos := "laws.go:349", after := #[{ on := 20, ground := Ground.data }, { on := 17, ground := Ground.chain }], guard := none }) (v := .bool false) rfl (by kernel_rfl) (by kernel_rfl) (by kernel_rfl) (fun _ _ _ h => h) (Or.inl ⟨by rfl, fun w' hSw => ?_⟩) (by assumption) ?_
          · (try dsimp only at hSw)
            first | (go_simp; done) | (go_simp; with_reducible rfl) | rfl
          try simp only [Act.put, List.setIfInBounds_toArray, List.set_cons_zero, List.set_cons_succ]
          refine wpAnyH_take (i := 22) (oi := { dst := some 107, op := Op.move (Operand.tmp 12), type := 9, pos := "laws.go:349", after := #[{ on := 21, ground := Ground.guard }], guard := some (21, false) }) (v := .string O) rfl (by kernel_rfl) (by kernel_rfl) (by kernel_rfl) (fun _ _ _ h => h) (Or.inl ⟨by rfl, fun w' hSw => ?_⟩) (by assumption) ?_
          · (try dsimp only at hSw)
            first | (go_simp; done) | (go_simp; with_reducible rfl) | rfl
          try simp only [Act.put, List.setIfInBounds_toArray, List.set_cons_zero, List.set_cons_succ]
          refine wpAnyH_take (i := 23) (oi := { dst := some 108, op := Op.binOp BinOp.neq 9 (Operand.tmp 107) (Operand.const (Value.string ⟨#[]⟩)) 9, type := 4, pos := "laws.go:349", after := #[{ on := 22, ground := Ground.data }, { on := 21, ground := Ground.guard }], guard := some (21, false) }) (v := .bool true) rfl (by kernel_rfl) (by kernel_rfl) (by kernel_rfl) (fun _ _ _ h => h) (Or.inl ⟨by rfl, fun w' hSw => ?_⟩) (by assumption) ?_
          · (try dsimp only at hSw)
            first | (go_simp; done) | (go_simp; with_reducible rfl) | rfl
          try simp only [Act.put, List.setIfInBounds_toArray, List.set_cons_zero, List.set_cons_succ]
          refine wpAnyH_take (i := 24) (oi := { dst := some 109, op := Op.move (Operand.tmp 108), type := 4, pos := "laws.go:349", after := #[{ on := 23, ground := Ground.data }, { on := 21, ground := Ground.chain }, { on := 21, ground := Ground.guard }], guard := some (21, false) }) (v := .bool true) rfl (by kernel_rfl) (by kernel_rfl) (by kernel_rfl) (fun _ _ _ h => h) (Or.inl ⟨by rfl, fun w' hSw => ?_⟩) (by assumption) ?_
          · (try dsimp only at hSw)
            first | (go_simp; done) | (go_simp; with_reducible rfl) | rfl
          try simp only [Act.put, List.setIfInBounds_toArray, List.set_cons_zero, List.set_cons_succ]
          refine wpAnyH_take (i := 25) (oi := { dst := some 110, op := Op.move (Operand.tmp 12), type := 9, pos := "laws.go:349", after := #[{ on := 24, ground := Ground.guard }], guard := some (24, true) }) (v := .string O) rfl (by kernel_rfl) (by kernel_rfl) (by kernel_rfl) (fun _ _ _ h => h) (Or.inl ⟨by rfl, fun w' hSw => ?_⟩) (by assumption) ?_
          · (try dsimp only at hSw)
            first | (go_simp; done) | (go_simp; with_reducible rfl) | rfl
          try simp only [Act.put, List.setIfInBounds_toArray, List.set_cons_zero, List.set_cons_succ]
          refine wpAnyH_take (i := 28) (oi := { dst := some 113, op := Op.move (Operand.tmp 10), type := 31, pos := "laws.go:349", after := #[{ on := 24, ground := Ground.guard }], guard := some (24, true) }) (v := .slice sa m.length sc) rfl (by kernel_rfl) (by kernel_rfl) (by kernel_rfl) (fun _ _ _ h => h) (Or.inl ⟨by rfl, fun w' hSw => ?_⟩) (by assumption) ?_
          · (try dsimp only at hSw)
            first | (go_simp; done) | (go_simp; with_reducible rfl) | rfl
          try simp only [Act.put, List.setIfInBounds_toArray, List.set_cons_zero, List.set_cons_succ]
          refine wpAnyH_ready (rs := [26]) (by kernel_rfl) (by simp) ?_
          refine AllReadyH.cons (o := { dst := some 111, op := Op.call { callee := Callee.value (Operand.func 15), args := #[Operand.tmp 110], argTypes := #[9] }, type := 35, pos := "laws.go:349", after := #[{ on := 25, ground := Ground.data }, { on := 24, ground := Ground.chain }, { on := 24, ground := Ground.guard }], guard := some (24, true) }) rfl (fun K hK => ?_) AllReadyH.nil
          go_simp
          (go_at_call 15; refine Calls.mono (R4.out hO _ ?hs) ?_; (case hs => (first | exact HB10.out | exact below_drewNx HB10.out)); rintro e wm4 ⟨am4, cm4, rfl, hsm4, hbm4⟩; have hBm4 : Hid (Below w0.heap.size w0 wm4) := Below.on (below_drewNx HB10.out) ⟨hbm4.os, hbm4.tape, hbm4.output, hbm4.size, hbm4.block⟩; have HSm4 : Hid (Acs am4 m.length m wm4) := hsm4; clear hsm4; clear hbm4; obtain ⟨m4x0, m4x1, m4x2, m4x3, m4x4⟩ := (HX.out.below hBm4.out).f; simp only [Nat.zero_add] at m4x1 m4x2 m4x3 m4x4)
          try go_wp2_with fail
          refine hK.out _ _ ?_ (fun hHeld2 => ?_)
          · (try dsimp only)
            simp [*]
          clear hK K hHeld
          have hHeld := hHeld2
          clear hHeld2
          try simp only [Act.put, List.setIfInBounds_toArray, List.set_cons_zero, List.set_cons_succ]
          refine wpAnyH_take (i := 27) (oi := { dst := some 112, op := Op.field 35 (Operand.tmp 111) 0, type := 31, pos := "laws.go:349", after := #[{ on := 26, ground := Ground.data }, { on := 24, ground := Ground.guard }], guard := some (24, true) }) (v := .slice am4 m.length cm4) rfl (by kernel_rfl) (by kernel_rfl) (by kernel_rfl) (fun _ _ _ h => h) (Or.inl ⟨by rfl, fun w' hSw => ?_⟩) (by assumption) ?_
          · (try dsimp only at hSw)
            first | (go_simp; done) | (go_simp; with_reducible rfl) | rfl
          try simp only [Act.put, List.setIfInBounds_toArray, List.set_cons_zero, List.set_cons_succ]
          refine wpAnyH_ready (rs := [29]) (by kernel_rfl) (by simp) ?_
          refine AllReadyH.cons (o := { dst := some 114, op := Op.call { callee := Callee.value (Operand.func 23), args := #[Operand.tmp 112, Operand.tmp 113], argTypes := #[31, 31] }, type := 4, pos := "laws.go:349", after := #[{ on := 27, ground := Ground.data }, { on := 28, ground := Ground.data }, { on := 26, ground := Ground.chain }, { on := 24, ground := Ground.guard }], guard := some (24, true) }) rfl (fun K hK => ?_) AllReadyH.nil
          go_simp
          (go_at_call 23; refine Calls.mono (R5.out am4 cm4 _ HSm4.out hBm4.out) ?_; rintro e wm5 ⟨rfl, hbm5⟩; have hBm5 : Hid (Below w0.heap.size w0 wm5) := Below.on hBm4.out hbm5; clear hbm5; clear m4x0 m4x1 m4x2 m4x3 m4x4; obtain ⟨m5x0, m5x1, m5x2, m5x3, m5x4⟩ := (HX.out.below hBm5.out).f; simp only [Nat.zero_add] at m5x1 m5x2 m5x3 m5x4)
          try go_wp2_with fail
          refine hK.out _ _ ?_ (fun hHeld2 => ?_)
          · (try dsimp only)
            simp [*]
          clear hK K hHeld
          have hHeld := hHeld2
          clear hHeld2
          try simp only [Act.put, List.setIfInBounds_toArray, List.set_cons_zero, List.set_cons_succ]
          refine wpAnyH_take (i := 30) (oi := { dst := some 115, op := Op.unOp UnOp.not 4 (Operand.tmp 114), type := 4, pos := "laws.go:349", after := #[{ on := 29, ground := Ground.data }, { on := 24, ground := Ground.guard }], guard := some (24, true) }) (v := .bool false) rfl (by kernel_rfl) (by kernel_rfl) (by kernel_rfl) (fun _ _ _ h => h) (Or.inl ⟨by rfl, fun w' hSw => ?_⟩) (by assumption) ?_
          · (try dsimp only at hSw)
            first | (go_simp; done) | (go_simp; with_reducible rfl) | rfl
          try simp only [Act.put, List.setIfInBounds_toArray, List.set_cons_zero, List.set_cons_succ]
          refine wpAnyH_take (i := 31) (oi := { dst := some 116, op := Op.pick (Operand.tmp 109) (Operand.tmp 115) (Operand.const (Value.bool false)), type := 4, pos := "laws.go:349", after := #[{ on := 24, ground := Ground.data }, { on := 30, ground := Ground.data }, { on := 21, ground := Ground.guard }], guard := some (21, false) }) (v := .bool false) rfl (by kernel_rfl) (by kernel_rfl) (by kernel_rfl) (fun _ _ _ h => h) (Or.inl ⟨by rfl, fun w' hSw => ?_⟩) (by assumption) ?_
          · (try dsimp only at hSw)
            first | (go_simp; done) | (go_simp; with_reducible rfl) | rfl
          try simp only [Act.put, List.setIfInBounds_toArray, List.set_cons_zero, List.set_cons_succ]
          refine wpAnyH_take (i := 32) (oi := { dst := some 117, op := Op.pick (Operand.tmp 106) (Operand.const (Value.bool true)) (Operand.tmp 116), type := 4, pos := "laws.go:349", after := #[{ on := 21, ground := Ground.data }, { on := 31, ground := Ground.data }], guard := none }) (v := .bool false) rfl (by kernel_rfl) (by kernel_rfl) (by kernel_rfl) (fun _ _ _ h => h) (Or.inl ⟨by rfl, fun w' hSw => ?_⟩) (by assumption) ?_
          · (try dsimp only at hSw)
            first | (go_simp; done) | (go_simp; with_reducible rfl) | rfl
          try simp only [Act.put, List.setIfInBounds_toArray, List.set_cons_zero, List.set_cons_succ]
          refine wpAnyH_done (by kernel_rfl) ?_ _
          all_goals (
            go_wp2
            go_meet
            first | exact ⟨rfl, hBm5⟩ | exact ⟨rfl, below_drewNx hBm5.out⟩)
      · skip
        by_cases hO : O = ⟨#[]⟩
        · subst hO
          obtain ⟨u1, u2, u3, u4, u5⟩ := str_fullX hU
          refine wp_region_held_drew (S := fun w' => w'.cell? ⟨X, 0, none⟩ = some (.bool A.al) ∧ w'.cell? ⟨X, 1, none⟩ = some (.int .i64 A.wh) ∧ w'.cell? ⟨X, 2, none⟩ = some (.int .i64 A.id) ∧ w'.cell? ⟨X, 3, none⟩ = some (.int .i64 A.fl) ∧ w'.cell? ⟨X, 4, none⟩ = some (.int .i64 A.ma)) (by kernel_rfl) (by (try dsimp only); simp [*]) (fun hHeld => ?_)
          refine wpAnyH_take (i := 0) (oi := { dst := some 85, op := Op.move (Operand.tmp 6), type := 9, pos := "laws.go:349", after := #[], guard := none }) (v := .string ⟨#[]⟩) rfl (by kernel_rfl) (by kernel_rfl) (by kernel_rfl) (fun _ _ _ h => h) (Or.inl ⟨by rfl, fun w' hSw => ?_⟩) (by assumption) ?_
          · (try dsimp only at hSw)
            first | (go_simp; done) | (go_simp; with_reducible rfl) | rfl
          try simp only [Act.put, List.setIfInBounds_toArray, List.set_cons_zero, List.set_cons_succ]
          refine wpAnyH_take (i := 1) (oi := { dst := some 86, op := Op.binOp BinOp.neq 9 (Operand.tmp 85) (Operand.const (Value.string ⟨#[]⟩)) 9, type := 4, pos := "laws.go:349", after := #[{ on := 0, ground := Ground.data }], guard := none }) (v := .bool false) rfl (by kernel_rfl) (by kernel_rfl) (by kernel_rfl) (fun _ _ _ h => h) (Or.inl ⟨by rfl, fun w' hSw => ?_⟩) (by assumption) ?_
          · (try dsimp only at hSw)
            first | (go_simp; done) | (go_simp; with_reducible rfl) | rfl
          try simp only [Act.put, List.setIfInBounds_toArray, List.set_cons_zero, List.set_cons_succ]
          refine wpAnyH_take (i := 2) (oi := { dst := some 87, op := Op.move (Operand.tmp 86), type := 4, pos := "laws.go:349", after := #[{ on := 1, ground := Ground.data }], guard := none }) (v := .bool false) rfl (by kernel_rfl) (by kernel_rfl) (by kernel_rfl) (fun _ _ _ h => h) (Or.inl ⟨by rfl, fun w' hSw => ?_⟩) (by assumption) ?_
          · (try dsimp only at hSw)
            first | (go_simp; done) | (go_simp; with_reducible rfl) | rfl
          try simp only [Act.put, List.setIfInBounds_toArray, List.set_cons_zero, List.set_cons_succ]
          refine wpAnyH_take (i := 3) (oi := { dst := some 88, op := Op.move (Operand.tmp 6), type := 9, pos := "laws.go:349", after := #[{ on := 2, ground := Ground.guard }], guard := some (2, true) }) (v := undef) rfl (by kernel_rfl) (by kernel_rfl) (by kernel_rfl) (fun _ _ _ h => h) (Or.inr ⟨by rfl, rfl⟩) (by assumption) ?_
          try simp only [Act.put, List.setIfInBounds_toArray, List.set_cons_zero, List.set_cons_succ]
          refine wpAnyH_take (i := 5) (oi := { dst := some 90, op := Op.load 24 (Operand.tmp 5), type := 24, pos := "laws.go:349", after := #[{ on := 2, ground := Ground.guard }], guard := some (2, true) }) (v := undef) rfl (by kernel_rfl) (by kernel_rfl) (by kernel_rfl) (fun _ _ _ h => h) (Or.inr ⟨by rfl, rfl⟩) (by assumption) ?_
          try simp only [Act.put, List.setIfInBounds_toArray, List.set_cons_zero, List.set_cons_succ]
          refine wpAnyH_take (i := 6) (oi := { dst := some 91, op := Op.build 29 #[(0, Operand.tmp 90)], type := 29, pos := "laws.go:349", after := #[{ on := 5, ground := Ground.data }, { on := 2, ground := Ground.guard }], guard := some (2, true) }) (v := undef) rfl (by kernel_rfl) (by kernel_rfl) (by kernel_rfl) (fun _ _ _ h => h) (Or.inr ⟨by rfl, rfl⟩) (by assumption) ?_
          try simp only [Act.put, List.setIfInBounds_toArray, List.set_cons_zero, List.set_cons_succ]
          refine wpAnyH_take (i := 4) (oi := { dst := some 89, op := Op.call { callee := Callee.value (Operand.func 7), args := #[Operand.tmp 88], argTypes := #[9] }, type := 29, pos := "laws.go:349", after := #[{ on := 3, ground := Ground.data }, { on := 2, ground := Ground.chain }, { on := 2, ground := Ground.guard }], guard := some (2, true) }) (v := undef) rfl (by kernel_rfl) (by kernel_rfl) (by kernel_rfl) (fun _ _ _ h => h) (Or.inr ⟨by rfl, rfl⟩) (by assumption) ?_
          try simp only [Act.put, List.setIfInBounds_toArray, List.set_cons_zero, List.set_cons_succ]
          refine wpAnyH_take (i := 7) (oi := { dst := some 92, op := Op.binOp BinOp.neq 29 (Operand.tmp 89) (Operand.tmp 91) 29, type := 4, pos := "laws.go:349", after := #[{ on := 4, ground := Ground.data }, { on := 6, ground := Ground.data }, { on := 2, ground := Ground.guard }], guard := some (2, true) }) (v := undef) rfl (by kernel_rfl) (by kernel_rfl) (by kernel_rfl) (fun _ _ _ h => h) (Or.inr ⟨by rfl, rfl⟩) (by assumption) ?_
          try simp only [Act.put, List.setIfInBounds_toArray, List.set_cons_zero, List.set_cons_succ]
          refine wpAnyH_take (i := 8) (oi := { dst := some 93, op := Op.pick (Operand.tmp 87) (Operand.tmp 92) (Operand.const (Value.bool false)), type := 4, pos := "laws.go:349", after := #[{ on := 2, ground := Ground.data }, { on := 7, ground := Ground.data }], guard := none }) (v := .bool false) rfl (by kernel_rfl) (by kernel_rfl) (by kernel_rfl) (fun _ _ _ h => h) (Or.inl ⟨by rfl, fun w' hSw => ?_⟩) (by assumption) ?_
          · (try dsimp only at hSw)
            first | (go_simp; done) | (go_simp; with_reducible rfl) | rfl
          try simp only [Act.put, List.setIfInBounds_toArray, List.set_cons_zero, List.set_cons_succ]
          refine wpAnyH_take (i := 9) (oi := { dst := some 94, op := Op.move (Operand.tmp 93), type := 4, pos := "laws.go:349", after := #[{ on := 8, ground := Ground.data }, { on := 4, ground := Ground.chain }], guard := none }) (v := .bool false) rfl (by kernel_rfl) (by kernel_rfl) (by kernel_rfl) (fun _ _ _ h => h) (Or.inl ⟨by rfl, fun w' hSw => ?_⟩) (by assumption) ?_
          · (try dsimp only at hSw)
            first | (go_simp; done) | (go_simp; with_reducible rfl) | rfl
          try simp only [Act.put, List.setIfInBounds_toArray, List.set_cons_zero, List.set_cons_succ]
          refine wpAnyH_take (i := 10) (oi := { dst := some 95, op := Op.move (Operand.tmp 11), type := 9, pos := "laws.go:349", after := #[{ on := 9, ground := Ground.guard }], guard := some (9, false) }) (v := .string U) rfl (by kernel_rfl) (by kernel_rfl) (by kernel_rfl) (fun _ _ _ h => h) (Or.inl ⟨by rfl, fun w' hSw => ?_⟩) (by assumption) ?_
          · (try dsimp only at hSw)
            first | (go_simp; done) | (go_simp; with_reducible rfl) | rfl
          try simp only [Act.put, List.setIfInBounds_toArray, List.set_cons_zero, List.set_cons_succ]
          refine wpAnyH_take (i := 11) (oi := { dst := some 96, op := Op.binOp BinOp.neq 9 (Operand.tmp 95) (Operand.const (Value.string ⟨#[]⟩)) 9, type := 4, pos := "laws.go:349", after := #[{ on := 10, ground := Ground.data }, { on := 9, ground := Ground.guard }], guard := some (9, false) }) (v := .bool true) rfl (by kernel_rfl) (by kernel_rfl) (by kernel_rfl) (fun _ _ _ h => h) (Or.inl ⟨by rfl, fun w' hSw => ?_⟩) (by assumption) ?_
          · (try dsimp only at hSw)
            first | (go_simp; done) | (go_simp; with_reducible rfl) | rfl
          try simp only [Act.put, List.setIfInBounds_toArray, List.set_cons_zero, List.set_cons_succ]
          refine wpAnyH_take (i := 12) (oi := { dst := some 97, op := Op.move (Operand.tmp 96), type := 4, pos := "laws.go:349", after := #[{ on := 11, ground := Ground.data }, { on := 9, ground := Ground.chain }, { on := 9, ground := Ground.guard }], guard := some (9, false) }) (v := .bool true) rfl (by kernel_rfl) (by kernel_rfl) (by kernel_rfl) (fun _ _ _ h => h) (Or.inl ⟨by rfl, fun w' hSw => ?_⟩) (by assumption) ?_
          · (try dsimp only at hSw)
            first | (go_simp; done) | (go_simp; with_reducible rfl) | rfl
          try simp only [Act.put, List.setIfInBounds_toArray, List.set_cons_zero, List.set_cons_succ]
          refine wpAnyH_take (i := 13) (oi := { dst := some 98, op := Op.move (Operand.tmp 11), type := 9, pos := "laws.go:349", after := #[{ on := 12, ground := Ground.guard }], guard := some (12, true) }) (v := .string U) rfl (by kernel_rfl) (by kernel_rfl) (by kernel_rfl) (fun _ _ _ h => h) (Or.inl ⟨by rfl, fun w' hSw => ?_⟩) (by assumption) ?_
          · (try dsimp only at hSw)
            first | (go_simp; done) | (go_simp; with_reducible rfl) | rfl
          try simp only [Act.put, List.setIfInBounds_toArray, List.set_cons_zero, List.set_cons_succ]
          refine wpAnyH_take (i := 16) (oi := { dst := some 101, op := Op.move (Operand.tmp 9), type := 31, pos := "laws.go:349", after := #[{ on := 12, ground := Ground.guard }], guard := some (12, true) }) (v := .slice ra l.length rc) rfl (by kernel_rfl) (by kernel_rfl) (by kernel_rfl) (fun _ _ _ h => h) (Or.inl ⟨by rfl, fun w' hSw => ?_⟩) (by assumption) ?_
          · (try dsimp only at hSw)
            first | (go_simp; done) | (go_simp; with_reducible rfl) | rfl
          try simp only [Act.put, List.setIfInBounds_toArray, List.set_cons_zero, List.set_cons_succ]
          refine wpAnyH_ready (rs := [14]) (by kernel_rfl) (by simp) ?_
          refine AllReadyH.cons (o := { dst := some 99, op := Op.call { callee := Callee.value (Operand.func 14), args := #[Operand.tmp 98], argTypes := #[9] }, type := 35, pos := "laws.go:349", after := #[{ on := 13, ground := Ground.data }, { on := 12, ground := Ground.chain }, { on := 12, ground := Ground.guard }], guard := some (12, true) }) rfl (fun K hK => ?_) AllReadyH.nil
          go_simp
          (go_at_call 14; refine Calls.mono (R2.out hU _ ?hs) ?_; (case hs => (first | exact HB10.out | exact below_drewNx HB10.out)); rintro e wm2 ⟨am2, cm2, rfl, hsm2, hbm2⟩; have hBm2 : Hid (Below w0.heap.size w0 wm2) := Below.on (below_drewNx HB10.out) ⟨hbm2.os, hbm2.tape, hbm2.output, hbm2.size, hbm2.block⟩; have HSm2 : Hid (Acs am2 l.length l wm2) := hsm2; clear hsm2; clear hbm2; obtain ⟨m2x0, m2x1, m2x2, m2x3, m2x4⟩ := (HX.out.below hBm2.out).f; simp only [Nat.zero_add] at m2x1 m2x2 m2x3 m2x4)
          try go_wp2_with fail
          refine hK.out _ _ ?_ (fun hHeld2 => ?_)
          · (try dsimp only)
            simp [*]
          clear hK K hHeld
          have hHeld := hHeld2
          clear hHeld2
          try simp only [Act.put, List.setIfInBounds_toArray, List.set_cons_zero, List.set_cons_succ]
          refine wpAnyH_take (i := 15) (oi := { dst := some 100, op := Op.field 35 (Operand.tmp 99) 0, type := 31, pos := "laws.go:349", after := #[{ on := 14, ground := Ground.data }, { on := 12, ground := Ground.guard }], guard := some (12, true) }) (v := .slice am2 l.length cm2) rfl (by kernel_rfl) (by kernel_rfl) (by kernel_rfl) (fun _ _ _ h => h) (Or.inl ⟨by rfl, fun w' hSw => ?_⟩) (by assumption) ?_
          · (try dsimp only at hSw)
            first | (go_simp; done) | (go_simp; with_reducible rfl) | rfl
          try simp only [Act.put, List.setIfInBounds_toArray, List.set_cons_zero, List.set_cons_succ]
          refine wpAnyH_ready (rs := [17]) (by kernel_rfl) (by simp) ?_
          refine AllReadyH.cons (o := { dst := some 102, op := Op.call { callee := Callee.value (Operand.func 23), args := #[Operand.tmp 100, Operand.tmp 101], argTypes := #[31, 31] }, type := 4, pos := "laws.go:349", after := #[{ on := 15, ground := Ground.data }, { on := 16, ground := Ground.data }, { on := 14, ground := Ground.chain }, { on := 12, ground := Ground.guard }], guard := some (12, true) }) rfl (fun K hK => ?_) AllReadyH.nil
          go_simp
          (go_at_call 23; refine Calls.mono (R3.out am2 cm2 _ HSm2.out hBm2.out) ?_; rintro e wm3 ⟨rfl, hbm3⟩; have hBm3 : Hid (Below w0.heap.size w0 wm3) := Below.on hBm2.out hbm3; clear hbm3; clear m2x0 m2x1 m2x2 m2x3 m2x4; obtain ⟨m3x0, m3x1, m3x2, m3x3, m3x4⟩ := (HX.out.below hBm3.out).f; simp only [Nat.zero_add] at m3x1 m3x2 m3x3 m3x4)
          try go_wp2_with fail
          refine hK.out _ _ ?_ (fun hHeld2 => ?_)
          · (try dsimp only)
            simp [*]
          clear hK K hHeld
          have hHeld := hHeld2
          clear hHeld2
          try simp only [Act.put, List.setIfInBounds_toArray, List.set_cons_zero, List.set_cons_succ]
          refine wpAnyH_take (i := 18) (oi := { dst := some 103, op := Op.unOp UnOp.not 4 (Operand.tmp 102), type := 4, pos := "laws.go:349", after := #[{ on := 17, ground := Ground.data }, { on := 12, ground := Ground.guard }], guard := some (12, true) }) (v := .bool false) rfl (by kernel_rfl) (by kernel_rfl) (by kernel_rfl) (fun _ _ _ h => h) (Or.inl ⟨by rfl, fun w' hSw => ?_⟩) (by assumption) ?_
          · (try dsimp only at hSw)
            first | (go_simp; done) | (go_simp; with_reducible rfl) | rfl
          try simp only [Act.put, List.setIfInBounds_toArray, List.set_cons_zero, List.set_cons_succ]
          refine wpAnyH_take (i := 19) (oi := { dst := some 104, op := Op.pick (Operand.tmp 97) (Operand.tmp 103) (Operand.const (Value.bool false)), type := 4, pos := "laws.go:349", after := #[{ on := 12, ground := Ground.data }, { on := 18, ground := Ground.data }, { on := 9, ground := Ground.guard }], guard := some (9, false) }) (v := .bool false) rfl (by kernel_rfl) (by kernel_rfl) (by kernel_rfl) (fun _ _ _ h => h) (Or.inl ⟨by rfl, fun w' hSw => ?_⟩) (by assumption) ?_
          · (try dsimp only at hSw)
            first | (go_simp; done) | (go_simp; with_reducible rfl) | rfl
          try simp only [Act.put, List.setIfInBounds_toArray, List.set_cons_zero, List.set_cons_succ]
          refine wpAnyH_take (i := 20) (oi := { dst := some 105, op := Op.pick (Operand.tmp 94) (Operand.const (Value.bool true)) (Operand.tmp 104), type := 4, pos := "laws.go:349", after := #[{ on := 9, ground := Ground.data }, { on := 19, ground := Ground.data }], guard := none }) (v := .bool false) rfl (by kernel_rfl) (by kernel_rfl) (by kernel_rfl) (fun _ _ _ h => h) (Or.inl ⟨by rfl, fun w' hSw => ?_⟩) (by assumption) ?_
          · (try dsimp only at hSw)
            first | (go_simp; done) | (go_simp; with_reducible rfl) | rfl
          try simp only [Act.put, List.setIfInBounds_toArray, List.set_cons_zero, List.set_cons_succ]
          refine wpAnyH_take (i := 21) (oi := { dst := some 106, op := Op.move (Operand.tmp 105), type := 4, pos := "laws.go:349", after := #[{ on := 20, ground := Ground.data }, { on := 17, ground := Ground.chain }], guard := none }) (v := .bool false) rfl (by kernel_rfl) (by kernel_rfl) (by kernel_rfl) (fun _ _ _ h => h) (Or.inl ⟨by rfl, fun w' hSw => ?_⟩) (by assumption) ?_
          · (try dsimp only at hSw)
            first | (go_simp; done) | (go_simp; with_reducible rfl) | rfl
          try simp only [Act.put, List.setIfInBounds_toArray, List.set_cons_zero, List.set_cons_succ]
          refine wpAnyH_take (i := 22) (oi := { dst := some 107, op := Op.move (Operand.tmp 12), type := 9, pos := "laws.go:349", after := #[{ on := 21, ground := Ground.guard }], guard := some (21, false) }) (v := .string ⟨#[]⟩) rfl (by kernel_rfl) (by kernel_rfl) (by kernel_rfl) (fun _ _ _ h => h) (Or.inl ⟨by rfl, fun w' hSw => ?_⟩) (by assumption) ?_
          · (try dsimp only at hSw)
            first | (go_simp; done) | (go_simp; with_reducible rfl) | rfl
          try simp only [Act.put, List.setIfInBounds_toArray, List.set_cons_zero, List.set_cons_succ]
          refine wpAnyH_take (i := 23) (oi := { dst := some 108, op := Op.binOp BinOp.neq 9 (Operand.tmp 107) (Operand.const (Value.string ⟨#[]⟩)) 9, type := 4, pos := "laws.go:349", after := #[{ on := 22, ground := Ground.data }, { on := 21, ground := Ground.guard }], guard := some (21, false) }) (v := .bool false) rfl (by kernel_rfl) (by kernel_rfl) (by kernel_rfl) (fun _ _ _ h => h) (Or.inl ⟨by rfl, fun w' hSw => ?_⟩) (by assumption) ?_
          · (try dsimp only at hSw)
            first | (go_simp; done) | (go_simp; with_reducible rfl) | rfl
          try simp only [Act.put, List.setIfInBounds_toArray, List.set_cons_zero, List.set_cons_succ]
          refine wpAnyH_take (i := 24) (oi := { dst := some 109, op := Op.move (Operand.tmp 108), type := 4, pos := "laws.go:349", after := #[{ on := 23, ground := Ground.data }, { on := 21, ground := Ground.chain }, { on := 21, ground := Ground.guard }], guard := some (21, false) }) (v := .bool false) rfl (by kernel_rfl) (by kernel_rfl) (by kernel_rfl) (fun _ _ _ h => h) (Or.inl ⟨by rfl, fun w' hSw => ?_⟩) (by assumption) ?_
          · (try dsimp only at hSw)
            first | (go_simp; done) | (go_simp; with_reducible rfl) | rfl
          try simp only [Act.put, List.setIfInBounds_toArray, List.set_cons_zero, List.set_cons_succ]
          refine wpAnyH_take (i := 25) (oi := { dst := some 110, op := Op.move (Operand.tmp 12), type := 9, pos := "laws.go:349", after := #[{ on := 24, ground := Ground.guard }], guard := some (24, true) }) (v := undef) rfl (by kernel_rfl) (by kernel_rfl) (by kernel_rfl) (fun _ _ _ h => h) (Or.inr ⟨by rfl, rfl⟩) (by assumption) ?_
          try simp only [Act.put, List.setIfInBounds_toArray, List.set_cons_zero, List.set_cons_succ]
          refine wpAnyH_take (i := 28) (oi := { dst := some 113, op := Op.move (Operand.tmp 10), type := 31, pos := "laws.go:349", after := #[{ on := 24, ground := Ground.guard }], guard := some (24, true) }) (v := undef) rfl (by kernel_rfl) (by kernel_rfl) (by kernel_rfl) (fun _ _ _ h => h) (Or.inr ⟨by rfl, rfl⟩) (by assumption) ?_
          try simp only [Act.put, List.setIfInBounds_toArray, List.set_cons_zero, List.set_cons_succ]
          refine wpAnyH_take (i := 26) (oi := { dst := some 111, op := Op.call { callee := Callee.value (Operand.func 15), args := #[Operand.tmp 110], argTypes := #[9] }, type := 35, pos := "laws.go:349", after := #[{ on := 25, ground := Ground.data }, { on := 24, ground := Ground.chain }, { on := 24, ground := Ground.guard }], guard := some (24, true) }) (v := undef) rfl (by kernel_rfl) (by kernel_rfl) (by kernel_rfl) (fun _ _ _ h => h) (Or.inr ⟨by rfl, rfl⟩) (by assumption) ?_
          try simp only [Act.put, List.setIfInBounds_toArray, List.set_cons_zero, List.set_cons_succ]
          refine wpAnyH_take (i := 27) (oi := { dst := some 112, op := Op.field 35 (Operand.tmp 111) 0, type := 31, pos := "laws.go:349", after := #[{ on := 26, ground := Ground.data }, { on := 24, ground := Ground.guard }], guard := some (24, true) }) (v := undef) rfl (by kernel_rfl) (by kernel_rfl) (by kernel_rfl) (fun _ _ _ h => h) (Or.inr ⟨by rfl, rfl⟩) (by assumption) ?_
          try simp only [Act.put, List.setIfInBounds_toArray, List.set_cons_zero, List.set_cons_succ]
          refine wpAnyH_take (i := 29) (oi := { dst := some 114, op := Op.call { callee := Callee.value (Operand.func 23), args := #[Operand.tmp 112, Operand.tmp 113], argTypes := #[31, 31] }, type := 4, pos := "laws.go:349", after := #[{ on := 27, ground := Ground.data }, { on := 28, ground := Ground.data }, { on := 26, ground := Ground.chain }, { on := 24, ground := Ground.guard }], guard := some (24, true) }) (v := undef) rfl (by kernel_rfl) (by kernel_rfl) (by kernel_rfl) (fun _ _ _ h => h) (Or.inr ⟨by rfl, rfl⟩) (by assumption) ?_
          try simp only [Act.put, List.setIfInBounds_toArray, List.set_cons_zero, List.set_cons_succ]
          refine wpAnyH_take (i := 30) (oi := { dst := some 115, op := Op.unOp UnOp.not 4 (Operand.tmp 114), type := 4, pos := "laws.go:349", after := #[{ on := 29, ground := Ground.data }, { on := 24, ground := Ground.guard }], guard := some (24, true) }) (v := undef) rfl (by kernel_rfl) (by kernel_rfl) (by kernel_rfl) (fun _ _ _ h => h) (Or.inr ⟨by rfl, rfl⟩) (by assumption) ?_
          try simp only [Act.put, List.setIfInBounds_toArray, List.set_cons_zero, List.set_cons_succ]
          refine wpAnyH_take (i := 31) (oi := { dst := some 116, op := Op.pick (Operand.tmp 109) (Operand.tmp 115) (Operand.const (Value.bool false)), type := 4, pos := "laws.go:349", after := #[{ on := 24, ground := Ground.data }, { on := 30, ground := Ground.data }, { on := 21, ground := Ground.guard }], guard := some (21, false) }) (v := .bool false) rfl (by kernel_rfl) (by kernel_rfl) (by kernel_rfl) (fun _ _ _ h => h) (Or.inl ⟨by rfl, fun w' hSw => ?_⟩) (by assumption) ?_
          · (try dsimp only at hSw)
            first | (go_simp; done) | (go_simp; with_reducible rfl) | rfl
          try simp only [Act.put, List.setIfInBounds_toArray, List.set_cons_zero, List.set_cons_succ]
          refine wpAnyH_take (i := 32) (oi := { dst := some 117, op := Op.pick (Operand.tmp 106) (Operand.const (Value.bool true)) (Operand.tmp 116), type := 4, pos := "laws.go:349", after := #[{ on := 21, ground := Ground.data }, { on := 31, ground := Ground.data }], guard := none }) (v := .bool false) rfl (by kernel_rfl) (by kernel_rfl) (by kernel_rfl) (fun _ _ _ h => h) (Or.inl ⟨by rfl, fun w' hSw => ?_⟩) (by assumption) ?_
          · (try dsimp only at hSw)
            first | (go_simp; done) | (go_simp; with_reducible rfl) | rfl
          try simp only [Act.put, List.setIfInBounds_toArray, List.set_cons_zero, List.set_cons_succ]
          refine wpAnyH_done (by kernel_rfl) ?_ _
          all_goals (
            go_wp2
            go_meet
            first | exact ⟨rfl, hBm3⟩ | exact ⟨rfl, below_drewNx hBm3.out⟩)
        · skip
          obtain ⟨u1, u2, u3, u4, u5⟩ := str_fullX hU
          obtain ⟨o1, o2, o3, o4, o5⟩ := str_fullX hO
          refine wp_region_held_drew (S := fun w' => w'.cell? ⟨X, 0, none⟩ = some (.bool A.al) ∧ w'.cell? ⟨X, 1, none⟩ = some (.int .i64 A.wh) ∧ w'.cell? ⟨X, 2, none⟩ = some (.int .i64 A.id) ∧ w'.cell? ⟨X, 3, none⟩ = some (.int .i64 A.fl) ∧ w'.cell? ⟨X, 4, none⟩ = some (.int .i64 A.ma)) (by kernel_rfl) (by (try dsimp only); simp [*]) (fun hHeld => ?_)
          refine wpAnyH_take (i := 0) (oi := { dst := some 85, op := Op.move (Operand.tmp 6), type := 9, pos := "laws.go:349", after := #[], guard := none }) (v := .string ⟨#[]⟩) rfl (by kernel_rfl) (by kernel_rfl) (by kernel_rfl) (fun _ _ _ h => h) (Or.inl ⟨by rfl, fun w' hSw => ?_⟩) (by assumption) ?_
          · (try dsimp only at hSw)
            first | (go_simp; done) | (go_simp; with_reducible rfl) | rfl
          try simp only [Act.put, List.setIfInBounds_toArray, List.set_cons_zero, List.set_cons_succ]
          refine wpAnyH_take (i := 1) (oi := { dst := some 86, op := Op.binOp BinOp.neq 9 (Operand.tmp 85) (Operand.const (Value.string ⟨#[]⟩)) 9, type := 4, pos := "laws.go:349", after := #[{ on := 0, ground := Ground.data }], guard := none }) (v := .bool false) rfl (by kernel_rfl) (by kernel_rfl) (by kernel_rfl) (fun _ _ _ h => h) (Or.inl ⟨by rfl, fun w' hSw => ?_⟩) (by assumption) ?_
          · (try dsimp only at hSw)
            first | (go_simp; done) | (go_simp; with_reducible rfl) | rfl
          try simp only [Act.put, List.setIfInBounds_toArray, List.set_cons_zero, List.set_cons_succ]
          refine wpAnyH_take (i := 2) (oi := { dst := some 87, op := Op.move (Operand.tmp 86), type := 4, pos := "laws.go:349", after := #[{ on := 1, ground := Ground.data }], guard := none }) (v := .bool false) rfl (by kernel_rfl) (by kernel_rfl) (by kernel_rfl) (fun _ _ _ h => h) (Or.inl ⟨by rfl, fun w' hSw => ?_⟩) (by assumption) ?_
          · (try dsimp only at hSw)
            first | (go_simp; done) | (go_simp; with_reducible rfl) | rfl
          try simp only [Act.put, List.setIfInBounds_toArray, List.set_cons_zero, List.set_cons_succ]
          refine wpAnyH_take (i := 3) (oi := { dst := some 88, op := Op.move (Operand.tmp 6), type := 9, pos := "laws.go:349", after := #[{ on := 2, ground := Ground.guard }], guard := some (2, true) }) (v := undef) rfl (by kernel_rfl) (by kernel_rfl) (by kernel_rfl) (fun _ _ _ h => h) (Or.inr ⟨by rfl, rfl⟩) (by assumption) ?_
          try simp only [Act.put, List.setIfInBounds_toArray, List.set_cons_zero, List.set_cons_succ]
          refine wpAnyH_take (i := 5) (oi := { dst := some 90, op := Op.load 24 (Operand.tmp 5), type := 24, pos := "laws.go:349", after := #[{ on := 2, ground := Ground.guard }], guard := some (2, true) }) (v := undef) rfl (by kernel_rfl) (by kernel_rfl) (by kernel_rfl) (fun _ _ _ h => h) (Or.inr ⟨by rfl, rfl⟩) (by assumption) ?_
          try simp only [Act.put, List.setIfInBounds_toArray, List.set_cons_zero, List.set_cons_succ]
          refine wpAnyH_take (i := 6) (oi := { dst := some 91, op := Op.build 29 #[(0, Operand.tmp 90)], type := 29, pos := "laws.go:349", after := #[{ on := 5, ground := Ground.data }, { on := 2, ground := Ground.guard }], guard := some (2, true) }) (v := undef) rfl (by kernel_rfl) (by kernel_rfl) (by kernel_rfl) (fun _ _ _ h => h) (Or.inr ⟨by rfl, rfl⟩) (by assumption) ?_
          try simp only [Act.put, List.setIfInBounds_toArray, List.set_cons_zero, List.set_cons_succ]
          refine wpAnyH_take (i := 4) (oi := { dst := some 89, op := Op.call { callee := Callee.value (Operand.func 7), args := #[Operand.tmp 88], argTypes := #[9] }, type := 29, pos := "laws.go:349", after := #[{ on := 3, ground := Ground.data }, { on := 2, ground := Ground.chain }, { on := 2, ground := Ground.guard }], guard := some (2, true) }) (v := undef) rfl (by kernel_rfl) (by kernel_rfl) (by kernel_rfl) (fun _ _ _ h => h) (Or.inr ⟨by rfl, rfl⟩) (by assumption) ?_
          try simp only [Act.put, List.setIfInBounds_toArray, List.set_cons_zero, List.set_cons_succ]
          refine wpAnyH_take (i := 7) (oi := { dst := some 92, op := Op.binOp BinOp.neq 29 (Operand.tmp 89) (Operand.tmp 91) 29, type := 4, pos := "laws.go:349", after := #[{ on := 4, ground := Ground.data }, { on := 6, ground := Ground.data }, { on := 2, ground := Ground.guard }], guard := some (2, true) }) (v := undef) rfl (by kernel_rfl) (by kernel_rfl) (by kernel_rfl) (fun _ _ _ h => h) (Or.inr ⟨by rfl, rfl⟩) (by assumption) ?_
          try simp only [Act.put, List.setIfInBounds_toArray, List.set_cons_zero, List.set_cons_succ]
          refine wpAnyH_take (i := 8) (oi := { dst := some 93, op := Op.pick (Operand.tmp 87) (Operand.tmp 92) (Operand.const (Value.bool false)), type := 4, pos := "laws.go:349", after := #[{ on := 2, ground := Ground.data }, { on := 7, ground := Ground.data }], guard := none }) (v := .bool false) rfl (by kernel_rfl) (by kernel_rfl) (by kernel_rfl) (fun _ _ _ h => h) (Or.inl ⟨by rfl, fun w' hSw => ?_⟩) (by assumption) ?_
          · (try dsimp only at hSw)
            first | (go_simp; done) | (go_simp; with_reducible rfl) | rfl
          try simp only [Act.put, List.setIfInBounds_toArray, List.set_cons_zero, List.set_cons_succ]
          refine wpAnyH_take (i := 9) (oi := { dst := some 94, op := Op.move (Operand.tmp 93), type := 4, pos := "laws.go:349", after := #[{ on := 8, ground := Ground.data }, { on := 4, ground := Ground.chain }], guard := none }) (v := .bool false) rfl (by kernel_rfl) (by kernel_rfl) (by kernel_rfl) (fun _ _ _ h => h) (Or.inl ⟨by rfl, fun w' hSw => ?_⟩) (by assumption) ?_
          · (try dsimp only at hSw)
            first | (go_simp; done) | (go_simp; with_reducible rfl) | rfl
          try simp only [Act.put, List.setIfInBounds_toArray, List.set_cons_zero, List.set_cons_succ]
          refine wpAnyH_take (i := 10) (oi := { dst := some 95, op := Op.move (Operand.tmp 11), type := 9, pos := "laws.go:349", after := #[{ on := 9, ground := Ground.guard }], guard := some (9, false) }) (v := .string U) rfl (by kernel_rfl) (by kernel_rfl) (by kernel_rfl) (fun _ _ _ h => h) (Or.inl ⟨by rfl, fun w' hSw => ?_⟩) (by assumption) ?_
          · (try dsimp only at hSw)
            first | (go_simp; done) | (go_simp; with_reducible rfl) | rfl
          try simp only [Act.put, List.setIfInBounds_toArray, List.set_cons_zero, List.set_cons_succ]
          refine wpAnyH_take (i := 11) (oi := { dst := some 96, op := Op.binOp BinOp.neq 9 (Operand.tmp 95) (Operand.const (Value.string ⟨#[]⟩)) 9, type := 4, pos := "laws.go:349", after := #[{ on := 10, ground := Ground.data }, { on := 9, ground := Ground.guard }], guard := some (9, false) }) (v := .bool true) rfl (by kernel_rfl) (by kernel_rfl) (by kernel_rfl) (fun _ _ _ h => h) (Or.inl ⟨by rfl, fun w' hSw => ?_⟩) (by assumption) ?_
          · (try dsimp only at hSw)
            first | (go_simp; done) | (go_simp; with_reducible rfl) | rfl
          try simp only [Act.put, List.setIfInBounds_toArray, List.set_cons_zero, List.set_cons_succ]
          refine wpAnyH_take (i := 12) (oi := { dst := some 97, op := Op.move (Operand.tmp 96), type := 4, pos := "laws.go:349", after := #[{ on := 11, ground := Ground.data }, { on := 9, ground := Ground.chain }, { on := 9, ground := Ground.guard }], guard := some (9, false) }) (v := .bool true) rfl (by kernel_rfl) (by kernel_rfl) (by kernel_rfl) (fun _ _ _ h => h) (Or.inl ⟨by rfl, fun w' hSw => ?_⟩) (by assumption) ?_
          · (try dsimp only at hSw)
            first | (go_simp; done) | (go_simp; with_reducible rfl) | rfl
          try simp only [Act.put, List.setIfInBounds_toArray, List.set_cons_zero, List.set_cons_succ]
          refine wpAnyH_take (i := 13) (oi := { dst := some 98, op := Op.move (Operand.tmp 11), type := 9, pos := "laws.go:349", after := #[{ on := 12, ground := Ground.guard }], guard := some (12, true) }) (v := .string U) rfl (by kernel_rfl) (by kernel_rfl) (by kernel_rfl) (fun _ _ _ h => h) (Or.inl ⟨by rfl, fun w' hSw => ?_⟩) (by assumption) ?_
          · (try dsimp only at hSw)
            first | (go_simp; done) | (go_simp; with_reducible rfl) | rfl
          try simp only [Act.put, List.setIfInBounds_toArray, List.set_cons_zero, List.set_cons_succ]
          refine wpAnyH_take (i := 16) (oi := { dst := some 101, op := Op.move (Operand.tmp 9), type := 31, pos := "laws.go:349", after := #[{ on := 12, ground := Ground.guard }], guard := some (12, true) }) (v := .slice ra l.length rc) rfl (by kernel_rfl) (by kernel_rfl) (by kernel_rfl) (fun _ _ _ h => h) (Or.inl ⟨by rfl, fun w' hSw => ?_⟩) (by assumption) ?_
          · (try dsimp only at hSw)
            first | (go_simp; done) | (go_simp; with_reducible rfl) | rfl
          try simp only [Act.put, List.setIfInBounds_toArray, List.set_cons_zero, List.set_cons_succ]
          refine wpAnyH_ready (rs := [14]) (by kernel_rfl) (by simp) ?_
          refine AllReadyH.cons (o := { dst := some 99, op := Op.call { callee := Callee.value (Operand.func 14), args := #[Operand.tmp 98], argTypes := #[9] }, type := 35, pos := "laws.go:349", after := #[{ on := 13, ground := Ground.data }, { on := 12, ground := Ground.chain }, { on := 12, ground := Ground.guard }], guard := some (12, true) }) rfl (fun K hK => ?_) AllReadyH.nil
          go_simp
          (go_at_call 14; refine Calls.mono (R2.out hU _ ?hs) ?_; (case hs => (first | exact HB10.out | exact below_drewNx HB10.out)); rintro e wm2 ⟨am2, cm2, rfl, hsm2, hbm2⟩; have hBm2 : Hid (Below w0.heap.size w0 wm2) := Below.on (below_drewNx HB10.out) ⟨hbm2.os, hbm2.tape, hbm2.output, hbm2.size, hbm2.block⟩; have HSm2 : Hid (Acs am2 l.length l wm2) := hsm2; clear hsm2; clear hbm2; obtain ⟨m2x0, m2x1, m2x2, m2x3, m2x4⟩ := (HX.out.below hBm2.out).f; simp only [Nat.zero_add] at m2x1 m2x2 m2x3 m2x4)
          try go_wp2_with fail
          refine hK.out _ _ ?_ (fun hHeld2 => ?_)
          · (try dsimp only)
            simp [*]
          clear hK K hHeld
          have hHeld := hHeld2
          clear hHeld2
          try simp only [Act.put, List.setIfInBounds_toArray, List.set_cons_zero, List.set_cons_succ]
          refine wpAnyH_take (i := 15) (oi := { dst := some 100, op := Op.field 35 (Operand.tmp 99) 0, type := 31, pos := "laws.go:349", after := #[{ on := 14, ground := Ground.data }, { on := 12, ground := Ground.guard }], guard := some (12, true) }) (v := .slice am2 l.length cm2) rfl (by kernel_rfl) (by kernel_rfl) (by kernel_rfl) (fun _ _ _ h => h) (Or.inl ⟨by rfl, fun w' hSw => ?_⟩) (by assumption) ?_
          · (try dsimp only at hSw)
            first | (go_simp; done) | (go_simp; with_reducible rfl) | rfl
          try simp only [Act.put, List.setIfInBounds_toArray, List.set_cons_zero, List.set_cons_succ]
          refine wpAnyH_ready (rs := [17]) (by kernel_rfl) (by simp) ?_
          refine AllReadyH.cons (o := { dst := some 102, op := Op.call { callee := Callee.value (Operand.func 23), args := #[Operand.tmp 100, Operand.tmp 101], argTypes := #[31, 31] }, type := 4, pos := "laws.go:349", after := #[{ on := 15, ground := Ground.data }, { on := 16, ground := Ground.data }, { on := 14, ground := Ground.chain }, { on := 12, ground := Ground.guard }], guard := some (12, true) }) rfl (fun K hK => ?_) AllReadyH.nil
          go_simp
          (go_at_call 23; refine Calls.mono (R3.out am2 cm2 _ HSm2.out hBm2.out) ?_; rintro e wm3 ⟨rfl, hbm3⟩; have hBm3 : Hid (Below w0.heap.size w0 wm3) := Below.on hBm2.out hbm3; clear hbm3; clear m2x0 m2x1 m2x2 m2x3 m2x4; obtain ⟨m3x0, m3x1, m3x2, m3x3, m3x4⟩ := (HX.out.below hBm3.out).f; simp only [Nat.zero_add] at m3x1 m3x2 m3x3 m3x4)
          try go_wp2_with fail
          refine hK.out _ _ ?_ (fun hHeld2 => ?_)
          · (try dsimp only)
            simp [*]
          clear hK K hHeld
          have hHeld := hHeld2
          clear hHeld2
          try simp only [Act.put, List.setIfInBounds_toArray, List.set_cons_zero, List.set_cons_succ]
          refine wpAnyH_take (i := 18) (oi := { dst := some 103, op := Op.unOp UnOp.not 4 (Operand.tmp 102), type := 4, pos := "laws.go:349", after := #[{ on := 17, ground := Ground.data }, { on := 12, ground := Ground.guard }], guard := some (12, true) }) (v := .bool false) rfl (by kernel_rfl) (by kernel_rfl) (by kernel_rfl) (fun _ _ _ h => h) (Or.inl ⟨by rfl, fun w' hSw => ?_⟩) (by assumption) ?_
          · (try dsimp only at hSw)
            first | (go_simp; done) | (go_simp; with_reducible rfl) | rfl
          try simp only [Act.put, List.setIfInBounds_toArray, List.set_cons_zero, List.set_cons_succ]
          refine wpAnyH_take (i := 19) (oi := { dst := some 104, op := Op.pick (Operand.tmp 97) (Operand.tmp 103) (Operand.const (Value.bool false)), type := 4, pos := "laws.go:349", after := #[{ on := 12, ground := Ground.data }, { on := 18, ground := Ground.data }, { on := 9, ground := Ground.guard }], guard := some (9, false) }) (v := .bool false) rfl (by kernel_rfl) (by kernel_rfl) (by kernel_rfl) (fun _ _ _ h => h) (Or.inl ⟨by rfl, fun w' hSw => ?_⟩) (by assumption) ?_
          · (try dsimp only at hSw)
            first | (go_simp; done) | (go_simp; with_reducible rfl) | rfl
          try simp only [Act.put, List.setIfInBounds_toArray, List.set_cons_zero, List.set_cons_succ]
          refine wpAnyH_take (i := 20) (oi := { dst := some 105, op := Op.pick (Operand.tmp 94) (Operand.const (Value.bool true)) (Operand.tmp 104), type := 4, pos := "laws.go:349", after := #[{ on := 9, ground := Ground.data }, { on := 19, ground := Ground.data }], guard := none }) (v := .bool false) rfl (by kernel_rfl) (by kernel_rfl) (by kernel_rfl) (fun _ _ _ h => h) (Or.inl ⟨by rfl, fun w' hSw => ?_⟩) (by assumption) ?_
          · (try dsimp only at hSw)
            first | (go_simp; done) | (go_simp; with_reducible rfl) | rfl
          try simp only [Act.put, List.setIfInBounds_toArray, List.set_cons_zero, List.set_cons_succ]
          refine wpAnyH_take (i := 21) (oi := { dst := some 106, op := Op.move (Operand.tmp 105), type := 4, pos := "laws.go:349", after := #[{ on := 20, ground := Ground.data }, { on := 17, ground := Ground.chain }], guard := none }) (v := .bool false) rfl (by kernel_rfl) (by kernel_rfl) (by kernel_rfl) (fun _ _ _ h => h) (Or.inl ⟨by rfl, fun w' hSw => ?_⟩) (by assumption) ?_
          · (try dsimp only at hSw)
            first | (go_simp; done) | (go_simp; with_reducible rfl) | rfl
          try simp only [Act.put, List.setIfInBounds_toArray, List.set_cons_zero, List.set_cons_succ]
          refine wpAnyH_take (i := 22) (oi := { dst := some 107, op := Op.move (Operand.tmp 12), type := 9, pos := "laws.go:349", after := #[{ on := 21, ground := Ground.guard }], guard := some (21, false) }) (v := .string O) rfl (by kernel_rfl) (by kernel_rfl) (by kernel_rfl) (fun _ _ _ h => h) (Or.inl ⟨by rfl, fun w' hSw => ?_⟩) (by assumption) ?_
          · (try dsimp only at hSw)
            first | (go_simp; done) | (go_simp; with_reducible rfl) | rfl
          try simp only [Act.put, List.setIfInBounds_toArray, List.set_cons_zero, List.set_cons_succ]
          refine wpAnyH_take (i := 23) (oi := { dst := some 108, op := Op.binOp BinOp.neq 9 (Operand.tmp 107) (Operand.const (Value.string ⟨#[]⟩)) 9, type := 4, pos := "laws.go:349", after := #[{ on := 22, ground := Ground.data }, { on := 21, ground := Ground.guard }], guard := some (21, false) }) (v := .bool true) rfl (by kernel_rfl) (by kernel_rfl) (by kernel_rfl) (fun _ _ _ h => h) (Or.inl ⟨by rfl, fun w' hSw => ?_⟩) (by assumption) ?_
          · (try dsimp only at hSw)
            first | (go_simp; done) | (go_simp; with_reducible rfl) | rfl
          try simp only [Act.put, List.setIfInBounds_toArray, List.set_cons_zero, List.set_cons_succ]
          refine wpAnyH_take (i := 24) (oi := { dst := some 109, op := Op.move (Operand.tmp 108), type := 4, pos := "laws.go:349", after := #[{ on := 23, ground := Ground.data }, { on := 21, ground := Ground.chain }, { on := 21, ground := Ground.guard }], guard := some (21, false) }) (v := .bool true) rfl (by kernel_rfl) (by kernel_rfl) (by kernel_rfl) (fun _ _ _ h => h) (Or.inl ⟨by rfl, fun w' hSw => ?_⟩) (by assumption) ?_
          · (try dsimp only at hSw)
            first | (go_simp; done) | (go_simp; with_reducible rfl) | rfl
          try simp only [Act.put, List.setIfInBounds_toArray, List.set_cons_zero, List.set_cons_succ]
          refine wpAnyH_take (i := 25) (oi := { dst := some 110, op := Op.move (Operand.tmp 12), type := 9, pos := "laws.go:349", after := #[{ on := 24, ground := Ground.guard }], guard := some (24, true) }) (v := .string O) rfl (by kernel_rfl) (by kernel_rfl) (by kernel_rfl) (fun _ _ _ h => h) (Or.inl ⟨by rfl, fun w' hSw => ?_⟩) (by assumption) ?_
          · (try dsimp only at hSw)
            first | (go_simp; done) | (go_simp; with_reducible rfl) | rfl
          try simp only [Act.put, List.setIfInBounds_toArray, List.set_cons_zero, List.set_cons_succ]
          refine wpAnyH_take (i := 28) (oi := { dst := some 113, op := Op.move (Operand.tmp 10), type := 31, pos := "laws.go:349", after := #[{ on := 24, ground := Ground.guard }], guard := some (24, true) }) (v := .slice sa m.length sc) rfl (by kernel_rfl) (by kernel_rfl) (by kernel_rfl) (fun _ _ _ h => h) (Or.inl ⟨by rfl, fun w' hSw => ?_⟩) (by assumption) ?_
          · (try dsimp only at hSw)
            first | (go_simp; done) | (go_simp; with_reducible rfl) | rfl
          try simp only [Act.put, List.setIfInBounds_toArray, List.set_cons_zero, List.set_cons_succ]
          refine wpAnyH_ready (rs := [26]) (by kernel_rfl) (by simp) ?_
          refine AllReadyH.cons (o := { dst := some 111, op := Op.call { callee := Callee.value (Operand.func 15), args := #[Operand.tmp 110], argTypes := #[9] }, type := 35, pos := "laws.go:349", after := #[{ on := 25, ground := Ground.data }, { on := 24, ground := Ground.chain }, { on := 24, ground := Ground.guard }], guard := some (24, true) }) rfl (fun K hK => ?_) AllReadyH.nil
          go_simp
          (go_at_call 15; refine Calls.mono (R4.out hO _ hBm3.out) ?_; rintro e wm4 ⟨am4, cm4, rfl, hsm4, hbm4⟩; have hBm4 : Hid (Below w0.heap.size w0 wm4) := Below.on hBm3.out hbm4; have HSm4 : Hid (Acs am4 m.length m wm4) := hsm4; clear hsm4; clear hbm4; clear m3x0 m3x1 m3x2 m3x3 m3x4; obtain ⟨m4x0, m4x1, m4x2, m4x3, m4x4⟩ := (HX.out.below hBm4.out).f; simp only [Nat.zero_add] at m4x1 m4x2 m4x3 m4x4)
          try go_wp2_with fail
          refine hK.out _ _ ?_ (fun hHeld2 => ?_)
          · (try dsimp only)
            simp [*]
          clear hK K hHeld
          have hHeld := hHeld2
          clear hHeld2
          try simp only [Act.put, List.setIfInBounds_toArray, List.set_cons_zero, List.set_cons_succ]
          refine wpAnyH_take (i := 27) (oi := { dst := some 112, op := Op.field 35 (Operand.tmp 111) 0, type := 31, pos := "laws.go:349", after := #[{ on := 26, ground := Ground.data }, { on := 24, ground := Ground.guard }], guard := some (24, true) }) (v := .slice am4 m.length cm4) rfl (by kernel_rfl) (by kernel_rfl) (by kernel_rfl) (fun _ _ _ h => h) (Or.inl ⟨by rfl, fun w' hSw => ?_⟩) (by assumption) ?_
          · (try dsimp only at hSw)
            first | (go_simp; done) | (go_simp; with_reducible rfl) | rfl
          try simp only [Act.put, List.setIfInBounds_toArray, List.set_cons_zero, List.set_cons_succ]
          refine wpAnyH_ready (rs := [29]) (by kernel_rfl) (by simp) ?_
          refine AllReadyH.cons (o := { dst := some 114, op := Op.call { callee := Callee.value (Operand.func 23), args := #[Operand.tmp 112, Operand.tmp 113], argTypes := #[31, 31] }, type := 4, pos := "laws.go:349", after := #[{ on := 27, ground := Ground.data }, { on := 28, ground := Ground.data }, { on := 26, ground := Ground.chain }, { on := 24, ground := Ground.guard }], guard := some (24, true) }) rfl (fun K hK => ?_) AllReadyH.nil
          go_simp
          (go_at_call 23; refine Calls.mono (R5.out am4 cm4 _ HSm4.out hBm4.out) ?_; rintro e wm5 ⟨rfl, hbm5⟩; have hBm5 : Hid (Below w0.heap.size w0 wm5) := Below.on hBm4.out hbm5; clear hbm5; clear m4x0 m4x1 m4x2 m4x3 m4x4; obtain ⟨m5x0, m5x1, m5x2, m5x3, m5x4⟩ := (HX.out.below hBm5.out).f; simp only [Nat.zero_add] at m5x1 m5x2 m5x3 m5x4)
          try go_wp2_with fail
          refine hK.out _ _ ?_ (fun hHeld2 => ?_)
          · (try dsimp only)
            simp [*]
          clear hK K hHeld
          have hHeld := hHeld2
          clear hHeld2
          try simp only [Act.put, List.setIfInBounds_toArray, List.set_cons_zero, List.set_cons_succ]
          refine wpAnyH_take (i := 30) (oi := { dst := some 115, op := Op.unOp UnOp.not 4 (Operand.tmp 114), type := 4, pos := "laws.go:349", after := #[{ on := 29, ground := Ground.data }, { on := 24, ground := Ground.guard }], guard := some (24, true) }) (v := .bool false) rfl (by kernel_rfl) (by kernel_rfl) (by kernel_rfl) (fun _ _ _ h => h) (Or.inl ⟨by rfl, fun w' hSw => ?_⟩) (by assumption) ?_
          · (try dsimp only at hSw)
            first | (go_simp; done) | (go_simp; with_reducible rfl) | rfl
          try simp only [Act.put, List.setIfInBounds_toArray, List.set_cons_zero, List.set_cons_succ]
          refine wpAnyH_take (i := 31) (oi := { dst := some 116, op := Op.pick (Operand.tmp 109) (Operand.tmp 115) (Operand.const (Value.bool false)), type := 4, pos := "laws.go:349", after := #[{ on := 24, ground := Ground.data }, { on := 30, ground := Ground.data }, { on := 21, ground := Ground.guard }], guard := some (21, false) }) (v := .bool false) rfl (by kernel_rfl) (by kernel_rfl) (by kernel_rfl) (fun _ _ _ h => h) (Or.inl ⟨by rfl, fun w' hSw => ?_⟩) (by assumption) ?_
          · (try dsimp only at hSw)
            first | (go_simp; done) | (go_simp; with_reducible rfl) | rfl
          try simp only [Act.put, List.setIfInBounds_toArray, List.set_cons_zero, List.set_cons_succ]
          refine wpAnyH_take (i := 32) (oi := { dst := some 117, op := Op.pick (Operand.tmp 106) (Operand.const (Value.bool true)) (Operand.tmp 116), type := 4, pos := "laws.go:349", after := #[{ on := 21, ground := Ground.data }, { on := 31, ground := Ground.data }], guard := none }) (v := .bool false) rfl (by kernel_rfl) (by kernel_rfl) (by kernel_rfl) (fun _ _ _ h => h) (Or.inl ⟨by rfl, fun w' hSw => ?_⟩) (by assumption) ?_
          · (try dsimp only at hSw)
            first | (go_simp; done) | (go_simp; with_reducible rfl) | rfl
          try simp only [Act.put, List.setIfInBounds_toArray, List.set_cons_zero, List.set_cons_succ]
          refine wpAnyH_done (by kernel_rfl) ?_ _
          all_goals (
            go_wp2
            go_meet
            first | exact ⟨rfl, hBm5⟩ | exact ⟨rfl, below_drewNx hBm5.out⟩)
    · skip
      by_cases hU : U = ⟨#[]⟩
      · subst hU
        by_cases hO : O = ⟨#[]⟩
        · subst hO
          obtain ⟨t1, t2, t3, t4, t5⟩ := str_fullX hT
          refine wp_region_held_drew (S := fun w' => w'.cell? ⟨X, 0, none⟩ = some (.bool A.al) ∧ w'.cell? ⟨X, 1, none⟩ = some (.int .i64 A.wh) ∧ w'.cell? ⟨X, 2, none⟩ = some (.int .i64 A.id) ∧ w'.cell? ⟨X, 3, none⟩ = some (.int .i64 A.fl) ∧ w'.cell? ⟨X, 4, none⟩ = some (.int .i64 A.ma)) (by kernel_rfl) (by (try dsimp only); simp [*]) (fun hHeld => ?_)
          refine wpAnyH_take (i := 0) (oi := { dst := some 85, op := Op.move (Operand.tmp 6), type := 9, pos := "laws.go:349", after := #[], guard := none }) (v := .string T) rfl (by kernel_rfl) (by kernel_rfl) (by kernel_rfl) (fun _ _ _ h => h) (Or.inl ⟨by rfl, fun w' hSw => ?_⟩) (by assumption) ?_
          · (try dsimp only at hSw)
            first | (go_simp; done) | (go_simp; with_reducible rfl) | rfl
          try simp only [Act.put, List.setIfInBounds_toArray, List.set_cons_zero, List.set_cons_succ]
          refine wpAnyH_take (i := 1) (oi := { dst := some 86, op := Op.binOp BinOp.neq 9 (Operand.tmp 85) (Operand.const (Value.string ⟨#[]⟩)) 9, type := 4, pos := "laws.go:349", after := #[{ on := 0, ground := Ground.data }], guard := none }) (v := .bool true) rfl (by kernel_rfl) (by kernel_rfl) (by kernel_rfl) (fun _ _ _ h => h) (Or.inl ⟨by rfl, fun w' hSw => ?_⟩) (by assumption) ?_
          · (try dsimp only at hSw)
            first | (go_simp; done) | (go_simp; with_reducible rfl) | rfl
          try simp only [Act.put, List.setIfInBounds_toArray, List.set_cons_zero, List.set_cons_succ]
          refine wpAnyH_take (i := 2) (oi := { dst := some 87, op := Op.move (Operand.tmp 86), type := 4, pos := "laws.go:349", after := #[{ on := 1, ground := Ground.data }], guard := none }) (v := .bool true) rfl (by kernel_rfl) (by kernel_rfl) (by kernel_rfl) (fun _ _ _ h => h) (Or.inl ⟨by rfl, fun w' hSw => ?_⟩) (by assumption) ?_
          · (try dsimp only at hSw)
            first | (go_simp; done) | (go_simp; with_reducible rfl) | rfl
          try simp only [Act.put, List.setIfInBounds_toArray, List.set_cons_zero, List.set_cons_succ]
          refine wpAnyH_take (i := 3) (oi := { dst := some 88, op := Op.move (Operand.tmp 6), type := 9, pos := "laws.go:349", after := #[{ on := 2, ground := Ground.guard }], guard := some (2, true) }) (v := .string T) rfl (by kernel_rfl) (by kernel_rfl) (by kernel_rfl) (fun _ _ _ h => h) (Or.inl ⟨by rfl, fun w' hSw => ?_⟩) (by assumption) ?_
          · (try dsimp only at hSw)
            first | (go_simp; done) | (go_simp; with_reducible rfl) | rfl
          try simp only [Act.put, List.setIfInBounds_toArray, List.set_cons_zero, List.set_cons_succ]
          refine wpAnyH_take (i := 5) (oi := { dst := some 90, op := Op.load 24 (Operand.tmp 5), type := 24, pos := "laws.go:349", after := #[{ on := 2, ground := Ground.guard }], guard := some (2, true) }) (v := .agg #[.bool A.al, .int .i64 A.wh, .int .i64 A.id, .int .i64 A.fl, .int .i64 A.ma]) rfl (by kernel_rfl) (by kernel_rfl) (by kernel_rfl) (fun _ _ _ h => h) (Or.inl ⟨by rfl, fun w' hSw => ?_⟩) (by assumption) ?_
          · (try dsimp only at hSw)
            first | (go_simp; done) | (go_simp; with_reducible rfl) | rfl
          try simp only [Act.put, List.setIfInBounds_toArray, List.set_cons_zero, List.set_cons_succ]
          refine wpAnyH_take (i := 6) (oi := { dst := some 91, op := Op.build 29 #[(0, Operand.tmp 90)], type := 29, pos := "laws.go:349", after := #[{ on := 5, ground := Ground.data }, { on := 2, ground := Ground.guard }], guard := some (2, true) }) (v := .agg #[.bool A.al, .int .i64 A.wh, .int .i64 A.id, .int .i64 A.fl, .int .i64 A.ma, .int .i64 0]) rfl (by kernel_rfl) (by kernel_rfl) (by kernel_rfl) (fun _ _ _ h => h) (Or.inl ⟨by rfl, fun w' hSw => ?_⟩) (by assumption) ?_
          · (try dsimp only at hSw)
            first | (go_simp; done) | (go_simp; with_reducible rfl) | rfl
          try simp only [Act.put, List.setIfInBounds_toArray, List.set_cons_zero, List.set_cons_succ]
          refine wpAnyH_ready (rs := [4]) (by kernel_rfl) (by simp) ?_
          refine AllReadyH.cons (o := { dst := some 89, op := Op.call { callee := Callee.value (Operand.func 7), args := #[Operand.tmp 88], argTypes := #[9] }, type := 29, pos := "laws.go:349", after := #[{ on := 3, ground := Ground.data }, { on := 2, ground := Ground.chain }, { on := 2, ground := Ground.guard }], guard := some (2, true) }) rfl (fun K hK => ?_) AllReadyH.nil
          go_simp
          (go_at_call 7; refine Calls.mono (R1.out hT _ ?hs) ?_; (case hs => (first | exact HB10.out | exact below_drewNx HB10.out)); rintro e wm1 ⟨rfl, hbm1⟩; have hBm1 : Hid (Below w0.heap.size w0 wm1) := Below.on (below_drewNx HB10.out) ⟨hbm1.os, hbm1.tape, hbm1.output, hbm1.size, hbm1.block⟩; clear hbm1; obtain ⟨m1x0, m1x1, m1x2, m1x3, m1x4⟩ := (HX.out.below hBm1.out).f; simp only [Nat.zero_add] at m1x1 m1x2 m1x3 m1x4)
          try go_wp2_with fail
          refine hK.out _ _ ?_ (fun hHeld2 => ?_)
          · (try dsimp only)
            simp [*]
          clear hK K hHeld
          have hHeld := hHeld2
          clear hHeld2
          try simp only [Act.put, List.setIfInBounds_toArray, List.set_cons_zero, List.set_cons_succ]
          refine wpAnyH_take (i := 7) (oi := { dst := some 92, op := Op.binOp BinOp.neq 29 (Operand.tmp 89) (Operand.tmp 91) 29, type := 4, pos := "laws.go:349", after := #[{ on := 4, ground := Ground.data }, { on := 6, ground := Ground.data }, { on := 2, ground := Ground.guard }], guard := some (2, true) }) (v := .bool false) rfl (by kernel_rfl) (by kernel_rfl) (by kernel_rfl) (fun _ _ _ h => h) (Or.inl ⟨by rfl, fun w' hSw => ?_⟩) (by assumption) ?_
          · (try dsimp only at hSw)
            first | (go_simp; done) | (go_simp; with_reducible rfl) | rfl
          try simp only [Act.put, List.setIfInBounds_toArray, List.set_cons_zero, List.set_cons_succ]
          refine wpAnyH_take (i := 8) (oi := { dst := some 93, op := Op.pick (Operand.tmp 87) (Operand.tmp 92) (Operand.const (Value.bool false)), type := 4, pos := "laws.go:349", after := #[{ on := 2, ground := Ground.data }, { on := 7, ground := Ground.data }], guard := none }) (v := .bool false) rfl (by kernel_rfl) (by kernel_rfl) (by kernel_rfl) (fun _ _ _ h => h) (Or.inl ⟨by rfl, fun w' hSw => ?_⟩) (by assumption) ?_
          · (try dsimp only at hSw)
            first | (go_simp; done) | (go_simp; with_reducible rfl) | rfl
          try simp only [Act.put, List.setIfInBounds_toArray, List.set_cons_zero, List.set_cons_succ]
          refine wpAnyH_take (i := 9) (oi := { dst := some 94, op := Op.move (Operand.tmp 93), type := 4, pos := "laws.go:349", after := #[{ on := 8, ground := Ground.data }, { on := 4, ground := Ground.chain }], guard := none }) (v := .bool false) rfl (by kernel_rfl) (by kernel_rfl) (by kernel_rfl) (fun _ _ _ h => h) (Or.inl ⟨by rfl, fun w' hSw => ?_⟩) (by assumption) ?_
          · (try dsimp only at hSw)
            first | (go_simp; done) | (go_simp; with_reducible rfl) | rfl
          try simp only [Act.put, List.setIfInBounds_toArray, List.set_cons_zero, List.set_cons_succ]
          refine wpAnyH_take (i := 10) (oi := { dst := some 95, op := Op.move (Operand.tmp 11), type := 9, pos := "laws.go:349", after := #[{ on := 9, ground := Ground.guard }], guard := some (9, false) }) (v := .string ⟨#[]⟩) rfl (by kernel_rfl) (by kernel_rfl) (by kernel_rfl) (fun _ _ _ h => h) (Or.inl ⟨by rfl, fun w' hSw => ?_⟩) (by assumption) ?_
          · (try dsimp only at hSw)
            first | (go_simp; done) | (go_simp; with_reducible rfl) | rfl
          try simp only [Act.put, List.setIfInBounds_toArray, List.set_cons_zero, List.set_cons_succ]
          refine wpAnyH_take (i := 11) (oi := { dst := some 96, op := Op.binOp BinOp.neq 9 (Operand.tmp 95) (Operand.const (Value.string ⟨#[]⟩)) 9, type := 4, pos := "laws.go:349", after := #[{ on := 10, ground := Ground.data }, { on := 9, ground := Ground.guard }], guard := some (9, false) }) (v := .bool false) rfl (by kernel_rfl) (by kernel_rfl) (by kernel_rfl) (fun _ _ _ h => h) (Or.inl ⟨by rfl, fun w' hSw => ?_⟩) (by assumption) ?_
          · (try dsimp only at hSw)
            first | (go_simp; done) | (go_simp; with_reducible rfl) | rfl
          try simp only [Act.put, List.setIfInBounds_toArray, List.set_cons_zero, List.set_cons_succ]
          refine wpAnyH_take (i := 12) (oi := { dst := some 97, op := Op.move (Operand.tmp 96), type := 4, pos := "laws.go:349", after := #[{ on := 11, ground := Ground.data }, { on := 9, ground := Ground.chain }, { on := 9, ground := Ground.guard }], guard := some (9, false) }) (v := .bool false) rfl (by kernel_rfl) (by kernel_rfl) (by kernel_rfl) (fun _ _ _ h => h) (Or.inl ⟨by rfl, fun w' hSw => ?_⟩) (by assumption) ?_
          · (try dsimp only at hSw)
            first | (go_simp; done) | (go_simp; with_reducible rfl) | rfl
          try simp only [Act.put, List.setIfInBounds_toArray, List.set_cons_zero, List.set_cons_succ]
          refine wpAnyH_take (i := 13) (oi := { dst := some 98, op := Op.move (Operand.tmp 11), type := 9, pos := "laws.go:349", after := #[{ on := 12, ground := Ground.guard }], guard := some (12, true) }) (v := undef) rfl (by kernel_rfl) (by kernel_rfl) (by kernel_rfl) (fun _ _ _ h => h) (Or.inr ⟨by rfl, rfl⟩) (by assumption) ?_
          try simp only [Act.put, List.setIfInBounds_toArray, List.set_cons_zero, List.set_cons_succ]
          refine wpAnyH_take (i := 16) (oi := { dst := some 101, op := Op.move (Operand.tmp 9), type := 31, pos := "laws.go:349", after := #[{ on := 12, ground := Ground.guard }], guard := some (12, true) }) (v := undef) rfl (by kernel_rfl) (by kernel_rfl) (by kernel_rfl) (fun _ _ _ h => h) (Or.inr ⟨by rfl, rfl⟩) (by assumption) ?_
          try simp only [Act.put, List.setIfInBounds_toArray, List.set_cons_zero, List.set_cons_succ]
          refine wpAnyH_take (i := 14) (oi := { dst := some 99, op := Op.call { callee := Callee.value (Operand.func 14), args := #[Operand.tmp 98], argTypes := #[9] }, type := 35, pos := "laws.go:349", after := #[{ on := 13, ground := Ground.data }, { on := 12, ground := Ground.chain }, { on := 12, ground := Ground.guard }], guard := some (12, true) }) (v := undef) rfl (by kernel_rfl) (by kernel_rfl) (by kernel_rfl) (fun _ _ _ h => h) (Or.inr ⟨by rfl, rfl⟩) (by assumption) ?_
          try simp only [Act.put, List.setIfInBounds_toArray, List.set_cons_zero, List.set_cons_succ]
          refine wpAnyH_take (i := 15) (oi := { dst := some 100, op := Op.field 35 (Operand.tmp 99) 0, type := 31, pos := "laws.go:349", after := #[{ on := 14, ground := Ground.data }, { on := 12, ground := Ground.guard }], guard := some (12, true) }) (v := undef) rfl (by kernel_rfl) (by kernel_rfl) (by kernel_rfl) (fun _ _ _ h => h) (Or.inr ⟨by rfl, rfl⟩) (by assumption) ?_
          try simp only [Act.put, List.setIfInBounds_toArray, List.set_cons_zero, List.set_cons_succ]
          refine wpAnyH_take (i := 17) (oi := { dst := some 102, op := Op.call { callee := Callee.value (Operand.func 23), args := #[Operand.tmp 100, Operand.tmp 101], argTypes := #[31, 31] }, type := 4, pos := "laws.go:349", after := #[{ on := 15, ground := Ground.data }, { on := 16, ground := Ground.data }, { on := 14, ground := Ground.chain }, { on := 12, ground := Ground.guard }], guard := some (12, true) }) (v := undef) rfl (by kernel_rfl) (by kernel_rfl) (by kernel_rfl) (fun _ _ _ h => h) (Or.inr ⟨by rfl, rfl⟩) (by assumption) ?_
          try simp only [Act.put, List.setIfInBounds_toArray, List.set_cons_zero, List.set_cons_succ]
          refine wpAnyH_take (i := 18) (oi := { dst := some 103, op := Op.unOp UnOp.not 4 (Operand.tmp 102), type := 4, pos := "laws.go:349", after := #[{ on := 17, ground := Ground.data }, { on := 12, ground := Ground.guard }], guard := some (12, true) }) (v := undef) rfl (by kernel_rfl) (by kernel_rfl) (by kernel_rfl) (fun _ _ _ h => h) (Or.inr ⟨by rfl, rfl⟩) (by assumption) ?_
          try simp only [Act.put, List.setIfInBounds_toArray, List.set_cons_zero, List.set_cons_succ]
          refine wpAnyH_take (i := 19) (oi := { dst := some 104, op := Op.pick (Operand.tmp 97) (Operand.tmp 103) (Operand.const (Value.bool false)), type := 4, pos := "laws.go:349", after := #[{ on := 12, ground := Ground.data }, { on := 18, ground := Ground.data }, { on := 9, ground := Ground.guard }], guard := some (9, false) }) (v := .bool false) rfl (by kernel_rfl) (by kernel_rfl) (by kernel_rfl) (fun _ _ _ h => h) (Or.inl ⟨by rfl, fun w' hSw => ?_⟩) (by assumption) ?_
          · (try dsimp only at hSw)
            first | (go_simp; done) | (go_simp; with_reducible rfl) | rfl
          try simp only [Act.put, List.setIfInBounds_toArray, List.set_cons_zero, List.set_cons_succ]
          refine wpAnyH_take (i := 20) (oi := { dst := some 105, op := Op.pick (Operand.tmp 94) (Operand.const (Value.bool true)) (Operand.tmp 104), type := 4, pos := "laws.go:349", after := #[{ on := 9, ground := Ground.data }, { on := 19, ground := Ground.data }], guard := none }) (v := .bool false) rfl (by kernel_rfl) (by kernel_rfl) (by kernel_rfl) (fun _ _ _ h => h) (Or.inl ⟨by rfl, fun w' hSw => ?_⟩) (by assumption) ?_
          · (try dsimp only at hSw)
            first | (go_simp; done) | (go_simp; with_reducible rfl) | rfl
          try simp only [Act.put, List.setIfInBounds_toArray, List.set_cons_zero, List.set_cons_succ]
          refine wpAnyH_take (i := 21) (oi := { dst := some 106, op := Op.move (Operand.tmp 105), type := 4, pos := "laws.go:349", after := #[{ on := 20, ground := Ground.data }, { on := 17, ground := Ground.chain }], guard := none }) (v := .bool false) rfl (by kernel_rfl) (by kernel_rfl) (by kernel_rfl) (fun _ _ _ h => h) (Or.inl ⟨by rfl, fun w' hSw => ?_⟩) (by assumption) ?_
          · (try dsimp only at hSw)
            first | (go_simp; done) | (go_simp; with_reducible rfl) | rfl
          try simp only [Act.put, List.setIfInBounds_toArray, List.set_cons_zero, List.set_cons_succ]
          refine wpAnyH_take (i := 22) (oi := { dst := some 107, op := Op.move (Operand.tmp 12), type := 9, pos := "laws.go:349", after := #[{ on := 21, ground := Ground.guard }], guard := some (21, false) }) (v := .string ⟨#[]⟩) rfl (by kernel_rfl) (by kernel_rfl) (by kernel_rfl) (fun _ _ _ h => h) (Or.inl ⟨by rfl, fun w' hSw => ?_⟩) (by assumption) ?_
          · (try dsimp only at hSw)
            first | (go_simp; done) | (go_simp; with_reducible rfl) | rfl
          try simp only [Act.put, List.setIfInBounds_toArray, List.set_cons_zero, List.set_cons_succ]
          refine wpAnyH_take (i := 23) (oi := { dst := some 108, op := Op.binOp BinOp.neq 9 (Operand.tmp 107) (Operand.const (Value.string ⟨#[]⟩)) 9, type := 4, pos := "laws.go:349", after := #[{ on := 22, ground := Ground.data }, { on := 21, ground := Ground.guard }], guard := some (21, false) }) (v := .bool false) rfl (by kernel_rfl) (by kernel_rfl) (by kernel_rfl) (fun _ _ _ h => h) (Or.inl ⟨by rfl, fun w' hSw => ?_⟩) (by assumption) ?_
          · (try dsimp only at hSw)
            first | (go_simp; done) | (go_simp; with_reducible rfl) | rfl
          try simp only [Act.put, List.setIfInBounds_toArray, List.set_cons_zero, List.set_cons_succ]
          refine wpAnyH_take (i := 24) (oi := { dst := some 109, op := Op.move (Operand.tmp 108), type := 4, pos := "laws.go:349", after := #[{ on := 23, ground := Ground.data }, { on := 21, ground := Ground.chain }, { on := 21, ground := Ground.guard }], guard := some (21, false) }) (v := .bool false) rfl (by kernel_rfl) (by kernel_rfl) (by kernel_rfl) (fun _ _ _ h => h) (Or.inl ⟨by rfl, fun w' hSw => ?_⟩) (by assumption) ?_
          · (try dsimp only at hSw)
            first | (go_simp; done) | (go_simp; with_reducible rfl) | rfl
          try simp only [Act.put, List.setIfInBounds_toArray, List.set_cons_zero, List.set_cons_succ]
          refine wpAnyH_take (i := 25) (oi := { dst := some 110, op := Op.move (Operand.tmp 12), type := 9, pos := "laws.go:349", after := #[{ on := 24, ground := Ground.guard }], guard := some (24, true) }) (v := undef) rfl (by kernel_rfl) (by kernel_rfl) (by kernel_rfl) (fun _ _ _ h => h) (Or.inr ⟨by rfl, rfl⟩) (by assumption) ?_
          try simp only [Act.put, List.setIfInBounds_toArray, List.set_cons_zero, List.set_cons_succ]
          refine wpAnyH_take (i := 28) (oi := { dst := some 113, op := Op.move (Operand.tmp 10), type := 31, pos := "laws.go:349", after := #[{ on := 24, ground := Ground.guard }], guard := some (24, true) }) (v := undef) rfl (by kernel_rfl) (by kernel_rfl) (by kernel_rfl) (fun _ _ _ h => h) (Or.inr ⟨by rfl, rfl⟩) (by assumption) ?_
          try simp only [Act.put, List.setIfInBounds_toArray, List.set_cons_zero, List.set_cons_succ]
          refine wpAnyH_take (i := 26) (oi := { dst := some 111, op := Op.call { callee := Callee.value (Operand.func 15), args := #[Operand.tmp 110], argTypes := #[9] }, type := 35, pos := "laws.go:349", after := #[{ on := 25, ground := Ground.data }, { on := 24, ground := Ground.chain }, { on := 24, ground := Ground.guard }], guard := some (24, true) }) (v := undef) rfl (by kernel_rfl) (by kernel_rfl) (by kernel_rfl) (fun _ _ _ h => h) (Or.inr ⟨by rfl, rfl⟩) (by assumption) ?_
          try simp only [Act.put, List.setIfInBounds_toArray, List.set_cons_zero, List.set_cons_succ]
          refine wpAnyH_take (i := 27) (oi := { dst := some 112, op := Op.field 35 (Operand.tmp 111) 0, type := 31, pos := "laws.go:349", after := #[{ on := 26, ground := Ground.data }, { on := 24, ground := Ground.guard }], guard := some (24, true) }) (v := undef) rfl (by kernel_rfl) (by kernel_rfl) (by kernel_rfl) (fun _ _ _ h => h) (Or.inr ⟨by rfl, rfl⟩) (by assumption) ?_
          try simp only [Act.put, List.setIfInBounds_toArray, List.set_cons_zero, List.set_cons_succ]
          refine wpAnyH_take (i := 29) (oi := { dst := some 114, op := Op.call { callee := Callee.value (Operand.func 23), args := #[Operand.tmp 112, Operand.tmp 113], argTypes := #[31, 31] }, type := 4, pos := "laws.go:349", after := #[{ on := 27, ground := Ground.data }, { on := 28, ground := Ground.data }, { on := 26, ground := Ground.chain }, { on := 24, ground := Ground.guard }], guard := some (24, true) }) (v := undef) rfl (by kernel_rfl) (by kernel_rfl) (by kernel_rfl) (fun _ _ _ h => h) (Or.inr ⟨by rfl, rfl⟩) (by assumption) ?_
          try simp only [Act.put, List.setIfInBounds_toArray, List.set_cons_zero, List.set_cons_succ]
          refine wpAnyH_take (i := 30) (oi := { dst := some 115, op := Op.unOp UnOp.not 4 (Operand.tmp 114), type := 4, pos := "laws.go:349", after := #[{ on := 29, ground := Ground.data }, { on := 24, ground := Ground.guard }], guard := some (24, true) }) (v := undef) rfl (by kernel_rfl) (by kernel_rfl) (by kernel_rfl) (fun _ _ _ h => h) (Or.inr ⟨by rfl, rfl⟩) (by assumption) ?_
          try simp only [Act.put, List.setIfInBounds_toArray, List.set_cons_zero, List.set_cons_succ]
          refine wpAnyH_take (i := 31) (oi := { dst := some 116, op := Op.pick (Operand.tmp 109) (Operand.tmp 115) (Operand.const (Value.bool false)), type := 4, pos := "laws.go:349", after := #[{ on := 24, ground := Ground.data }, { on := 30, ground := Ground.data }, { on := 21, ground := Ground.guard }], guard := some (21, false) }) (v := .bool false) rfl (by kernel_rfl) (by kernel_rfl) (by kernel_rfl) (fun _ _ _ h => h) (Or.inl ⟨by rfl, fun w' hSw => ?_⟩) (by assumption) ?_
          · (try dsimp only at hSw)
            first | (go_simp; done) | (go_simp; with_reducible rfl) | rfl
          try simp only [Act.put, List.setIfInBounds_toArray, List.set_cons_zero, List.set_cons_succ]
          refine wpAnyH_take (i := 32) (oi := { dst := some 117, op := Op.pick (Operand.tmp 106) (Operand.const (Value.bool true)) (Operand.tmp 116), type := 4, pos := "laws.go:349", after := #[{ on := 21, ground := Ground.data }, { on := 31, ground := Ground.data }], guard := none }) (v := .bool false) rfl (by kernel_rfl) (by kernel_rfl) (by kernel_rfl) (fun _ _ _ h => h) (Or.inl ⟨by rfl, fun w' hSw => ?_⟩) (by assumption) ?_
          · (try dsimp only at hSw)
            first | (go_simp; done) | (go_simp; with_reducible rfl) | rfl
          try simp only [Act.put, List.setIfInBounds_toArray, List.set_cons_zero, List.set_cons_succ]
          refine wpAnyH_done (by kernel_rfl) ?_ _
          all_goals (
            go_wp2
            go_meet
            first | exact ⟨rfl, hBm1⟩ | exact ⟨rfl, below_drewNx hBm1.out⟩)
        · skip
          obtain ⟨t1, t2, t3, t4, t5⟩ := str_fullX hT
          obtain ⟨o1, o2, o3, o4, o5⟩ := str_fullX hO
          refine wp_region_held_drew (S := fun w' => w'.cell? ⟨X, 0, none⟩ = some (.bool A.al) ∧ w'.cell? ⟨X, 1, none⟩ = some (.int .i64 A.wh) ∧ w'.cell? ⟨X, 2, none⟩ = some (.int .i64 A.id) ∧ w'.cell? ⟨X, 3, none⟩ = some (.int .i64 A.fl) ∧ w'.cell? ⟨X, 4, none⟩ = some (.int .i64 A.ma)) (by kernel_rfl) (by (try dsimp only); simp [*]) (fun hHeld => ?_)
          refine wpAnyH_take (i := 0) (oi := { dst := some 85, op := Op.move (Operand.tmp 6), type := 9, pos := "laws.go:349", after := #[], guard := none }) (v := .string T) rfl (by kernel_rfl) (by kernel_rfl) (by kernel_rfl) (fun _ _ _ h => h) (Or.inl ⟨by rfl, fun w' hSw => ?_⟩) (by assumption) ?_
          · (try dsimp only at hSw)
            first | (go_simp; done) | (go_simp; with_reducible rfl) | rfl
          try simp only [Act.put, List.setIfInBounds_toArray, List.set_cons_zero, List.set_cons_succ]
          refine wpAnyH_take (i := 1) (oi := { dst := some 86, op := Op.binOp BinOp.neq 9 (Operand.tmp 85) (Operand.const (Value.string ⟨#[]⟩)) 9, type := 4, pos := "laws.go:349", after := #[{ on := 0, ground := Ground.data }], guard := none }) (v := .bool true) rfl (by kernel_rfl) (by kernel_rfl) (by kernel_rfl) (fun _ _ _ h => h) (Or.inl ⟨by rfl, fun w' hSw => ?_⟩) (by assumption) ?_
          · (try dsimp only at hSw)
            first | (go_simp; done) | (go_simp; with_reducible rfl) | rfl
          try simp only [Act.put, List.setIfInBounds_toArray, List.set_cons_zero, List.set_cons_succ]
          refine wpAnyH_take (i := 2) (oi := { dst := some 87, op := Op.move (Operand.tmp 86), type := 4, pos := "laws.go:349", after := #[{ on := 1, ground := Ground.data }], guard := none }) (v := .bool true) rfl (by kernel_rfl) (by kernel_rfl) (by kernel_rfl) (fun _ _ _ h => h) (Or.inl ⟨by rfl, fun w' hSw => ?_⟩) (by assumption) ?_
          · (try dsimp only at hSw)
            first | (go_simp; done) | (go_simp; with_reducible rfl) | rfl
          try simp only [Act.put, List.setIfInBounds_toArray, List.set_cons_zero, List.set_cons_succ]
          refine wpAnyH_take (i := 3) (oi := { dst := some 88, op := Op.move (Operand.tmp 6), type := 9, pos := "laws.go:349", after := #[{ on := 2, ground := Ground.guard }], guard := some (2, true) }) (v := .string T) rfl (by kernel_rfl) (by kernel_rfl) (by kernel_rfl) (fun _ _ _ h => h) (Or.inl ⟨by rfl, fun w' hSw => ?_⟩) (by assumption) ?_
          · (try dsimp only at hSw)
            first | (go_simp; done) | (go_simp; with_reducible rfl) | rfl
          try simp only [Act.put, List.setIfInBounds_toArray, List.set_cons_zero, List.set_cons_succ]
          refine wpAnyH_take (i := 5) (oi := { dst := some 90, op := Op.load 24 (Operand.tmp 5), type := 24, pos := "laws.go:349", after := #[{ on := 2, ground := Ground.guard }], guard := some (2, true) }) (v := .agg #[.bool A.al, .int .i64 A.wh, .int .i64 A.id, .int .i64 A.fl, .int .i64 A.ma]) rfl (by kernel_rfl) (by kernel_rfl) (by kernel_rfl) (fun _ _ _ h => h) (Or.inl ⟨by rfl, fun w' hSw => ?_⟩) (by assumption) ?_
          · (try dsimp only at hSw)
            first | (go_simp; done) | (go_simp; with_reducible rfl) | rfl
          try simp only [Act.put, List.setIfInBounds_toArray, List.set_cons_zero, List.set_cons_succ]
          refine wpAnyH_take (i := 6) (oi := { dst := some 91, op := Op.build 29 #[(0, Operand.tmp 90)], type := 29, pos := "laws.go:349", after := #[{ on := 5, ground := Ground.data }, { on := 2, ground := Ground.guard }], guard := some (2, true) }) (v := .agg #[.bool A.al, .int .i64 A.wh, .int .i64 A.id, .int .i64 A.fl, .int .i64 A.ma, .int .i64 0]) rfl (by kernel_rfl) (by kernel_rfl) (by kernel_rfl) (fun _ _ _ h => h) (Or.inl ⟨by rfl, fun w' hSw => ?_⟩) (by assumption) ?_
          · (try dsimp only at hSw)
            first | (go_simp; done) | (go_simp; with_reducible rfl) | rfl
          try simp only [Act.put, List.setIfInBounds_toArray, List.set_cons_zero, List.set_cons_succ]
          refine wpAnyH_ready (rs := [4]) (by kernel_rfl) (by simp) ?_
          refine AllReadyH.cons (o := { dst := some 89, op := Op.call { callee := Callee.value (Operand.func 7), args := #[Operand.tmp 88], argTypes := #[9] }, type := 29, pos := "laws.go:349", after := #[{ on := 3, ground := Ground.data }, { on := 2, ground := Ground.chain }, { on := 2, ground := Ground.guard }], guard := some (2, true) }) rfl (fun K hK => ?_) AllReadyH.nil
          go_simp
          (go_at_call 7; refine Calls.mono (R1.out hT _ ?hs) ?_; (case hs => (first | exact HB10.out | exact below_drewNx HB10.out)); rintro e wm1 ⟨rfl, hbm1⟩; have hBm1 : Hid (Below w0.heap.size w0 wm1) := Below.on (below_drewNx HB10.out) ⟨hbm1.os, hbm1.tape, hbm1.output, hbm1.size, hbm1.block⟩; clear hbm1; obtain ⟨m1x0, m1x1, m1x2, m1x3, m1x4⟩ := (HX.out.below hBm1.out).f; simp only [Nat.zero_add] at m1x1 m1x2 m1x3 m1x4)
          try go_wp2_with fail
          refine hK.out _ _ ?_ (fun hHeld2 => ?_)
          · (try dsimp only)
            simp [*]
          clear hK K hHeld
          have hHeld := hHeld2
          clear hHeld2
          try simp only [Act.put, List.setIfInBounds_toArray, List.set_cons_zero, List.set_cons_succ]
          refine wpAnyH_take (i := 7) (oi := { dst := some 92, op := Op.binOp BinOp.neq 29 (Operand.tmp 89) (Operand.tmp 91) 29, type := 4, pos := "laws.go:349", after := #[{ on := 4, ground := Ground.data }, { on := 6, ground := Ground.data }, { on := 2, ground := Ground.guard }], guard := some (2, true) }) (v := .bool false) rfl (by kernel_rfl) (by kernel_rfl) (by kernel_rfl) (fun _ _ _ h => h) (Or.inl ⟨by rfl, fun w' hSw => ?_⟩) (by assumption) ?_
          · (try dsimp only at hSw)
            first | (go_simp; done) | (go_simp; with_reducible rfl) | rfl
          try simp only [Act.put, List.setIfInBounds_toArray, List.set_cons_zero, List.set_cons_succ]
          refine wpAnyH_take (i := 8) (oi := { dst := some 93, op := Op.pick (Operand.tmp 87) (Operand.tmp 92) (Operand.const (Value.bool false)), type := 4, pos := "laws.go:349", after := #[{ on := 2, ground := Ground.data }, { on := 7, ground := Ground.data }], guard := none }) (v := .bool false) rfl (by kernel_rfl) (by kernel_rfl) (by kernel_rfl) (fun _ _ _ h => h) (Or.inl ⟨by rfl, fun w' hSw => ?_⟩) (by assumption) ?_
          · (try dsimp only at hSw)
            first | (go_simp; done) | (go_simp; with_reducible rfl) | rfl
          try simp only [Act.put, List.setIfInBounds_toArray, List.set_cons_zero, List.set_cons_succ]
          refine wpAnyH_take (i := 9) (oi := { dst := some 94, op := Op.move (Operand.tmp 93), type := 4, pos := "laws.go:349", after := #[{ on := 8, ground := Ground.data }, { on := 4, ground := Ground.chain }], guard := none }) (v := .bool false) rfl (by kernel_rfl) (by kernel_rfl) (by kernel_rfl) (fun _ _ _ h => h) (Or.inl ⟨by rfl, fun w' hSw => ?_⟩) (by assumption) ?_
          · (try dsimp only at hSw)
            first | (go_simp; done) | (go_simp; with_reducible rfl) | rfl
          try simp only [Act.put, List.setIfInBounds_toArray, List.set_cons_zero, List.set_cons_succ]
          refine wpAnyH_take (i := 10) (oi := { dst := some 95, op := Op.move (Operand.tmp 11), type := 9, pos := "laws.go:349", after := #[{ on := 9, ground := Ground.guard }], guard := some (9, false) }) (v := .string ⟨#[]⟩) rfl (by kernel_rfl) (by kernel_rfl) (by kernel_rfl) (fun _ _ _ h => h) (Or.inl ⟨by rfl, fun w' hSw => ?_⟩) (by assumption) ?_
          · (try dsimp only at hSw)
            first | (go_simp; done) | (go_simp; with_reducible rfl) | rfl
          try simp only [Act.put, List.setIfInBounds_toArray, List.set_cons_zero, List.set_cons_succ]
          refine wpAnyH_take (i := 11) (oi := { dst := some 96, op := Op.binOp BinOp.neq 9 (Operand.tmp 95) (Operand.const (Value.string ⟨#[]⟩)) 9, type := 4, pos := "laws.go:349", after := #[{ on := 10, ground := Ground.data }, { on := 9, ground := Ground.guard }], guard := some (9, false) }) (v := .bool false) rfl (by kernel_rfl) (by kernel_rfl) (by kernel_rfl) (fun _ _ _ h => h) (Or.inl ⟨by rfl, fun w' hSw => ?_⟩) (by assumption) ?_
          · (try dsimp only at hSw)
            first | (go_simp; done) | (go_simp; with_reducible rfl) | rfl
          try simp only [Act.put, List.setIfInBounds_toArray, List.set_cons_zero, List.set_cons_succ]
          refine wpAnyH_take (i := 12) (oi := { dst := some 97, op := Op.move (Operand.tmp 96), type := 4, pos := "laws.go:349", after := #[{ on := 11, ground := Ground.data }, { on := 9, ground := Ground.chain }, { on := 9, ground := Ground.guard }], guard := some (9, false) }) (v := .bool false) rfl (by kernel_rfl) (by kernel_rfl) (by kernel_rfl) (fun _ _ _ h => h) (Or.inl ⟨by rfl, fun w' hSw => ?_⟩) (by assumption) ?_
          · (try dsimp only at hSw)
            first | (go_simp; done) | (go_simp; with_reducible rfl) | rfl
          try simp only [Act.put, List.setIfInBounds_toArray, List.set_cons_zero, List.set_cons_succ]
          refine wpAnyH_take (i := 13) (oi := { dst := some 98, op := Op.move (Operand.tmp 11), type := 9, pos := "laws.go:349", after := #[{ on := 12, ground := Ground.guard }], guard := some (12, true) }) (v := undef) rfl (by kernel_rfl) (by kernel_rfl) (by kernel_rfl) (fun _ _ _ h => h) (Or.inr ⟨by rfl, rfl⟩) (by assumption) ?_
          try simp only [Act.put, List.setIfInBounds_toArray, List.set_cons_zero, List.set_cons_succ]
          refine wpAnyH_take (i := 16) (oi := { dst := some 101, op := Op.move (Operand.tmp 9), type := 31, pos := "laws.go:349", after := #[{ on := 12, ground := Ground.guard }], guard := some (12, true) }) (v := undef) rfl (by kernel_rfl) (by kernel_rfl) (by kernel_rfl) (fun _ _ _ h => h) (Or.inr ⟨by rfl, rfl⟩) (by assumption) ?_
          try simp only [Act.put, List.setIfInBounds_toArray, List.set_cons_zero, List.set_cons_succ]
          refine wpAnyH_take (i := 14) (oi := { dst := some 99, op := Op.call { callee := Callee.value (Operand.func 14), args := #[Operand.tmp 98], argTypes := #[9] }, type := 35, pos := "laws.go:349", after := #[{ on := 13, ground := Ground.data }, { on := 12, ground := Ground.chain }, { on := 12, ground := Ground.guard }], guard := some (12, true) }) (v := undef) rfl (by kernel_rfl) (by kernel_rfl) (by kernel_rfl) (fun _ _ _ h => h) (Or.inr ⟨by rfl, rfl⟩) (by assumption) ?_
          try simp only [Act.put, List.setIfInBounds_toArray, List.set_cons_zero, List.set_cons_succ]
          refine wpAnyH_take (i := 15) (oi := { dst := some 100, op := Op.field 35 (Operand.tmp 99) 0, type := 31, pos := "laws.go:349", after := #[{ on := 14, ground := Ground.data }, { on := 12, ground := Ground.guard }], guard := some (12, true) }) (v := undef) rfl (by kernel_rfl) (by kernel_rfl) (by kernel_rfl) (fun _ _ _ h => h) (Or.inr ⟨by rfl, rfl⟩) (by assumption) ?_
          try simp only [Act.put, List.setIfInBounds_toArray, List.set_cons_zero, List.set_cons_succ]
          refine wpAnyH_take (i := 17) (oi := { dst := some 102, op := Op.call { callee := Callee.value (Operand.func 23), args := #[Operand.tmp 100, Operand.tmp 101], argTypes := #[31, 31] }, type := 4, pos := "laws.go:349", after := #[{ on := 15, ground := Ground.data }, { on := 16, ground := Ground.data }, { on := 14, ground := Ground.chain }, { on := 12, ground := Ground.guard }], guard := some (12, true) }) (v := undef) rfl (by kernel_rfl) (by kernel_rfl) (by kernel_rfl) (fun _ _ _ h => h) (Or.inr ⟨by rfl, rfl⟩) (by assumption) ?_
          try simp only [Act.put, List.setIfInBounds_toArray, List.set_cons_zero, List.set_cons_succ]
          refine wpAnyH_take (i := 18) (oi := { dst := some 103, op := Op.unOp UnOp.not 4 (Operand.tmp 102), type := 4, pos := "laws.go:349", after := #[{ on := 17, ground := Ground.data }, { on := 12, ground := Ground.guard }], guard := some (12, true) }) (v := undef) rfl (by kernel_rfl) (by kernel_rfl) (by kernel_rfl) (fun _ _ _ h => h) (Or.inr ⟨by rfl, rfl⟩) (by assumption) ?_
          try simp only [Act.put, List.setIfInBounds_toArray, List.set_cons_zero, List.set_cons_succ]
          refine wpAnyH_take (i := 19) (oi := { dst := some 104, op := Op.pick (Operand.tmp 97) (Operand.tmp 103) (Operand.const (Value.bool false)), type := 4, pos := "laws.go:349", after := #[{ on := 12, ground := Ground.data }, { on := 18, ground := Ground.data }, { on := 9, ground := Ground.guard }], guard := some (9, false) }) (v := .bool false) rfl (by kernel_rfl) (by kernel_rfl) (by kernel_rfl) (fun _ _ _ h => h) (Or.inl ⟨by rfl, fun w' hSw => ?_⟩) (by assumption) ?_
          · (try dsimp only at hSw)
            first | (go_simp; done) | (go_simp; with_reducible rfl) | rfl
          try simp only [Act.put, List.setIfInBounds_toArray, List.set_cons_zero, List.set_cons_succ]
          refine wpAnyH_take (i := 20) (oi := { dst := some 105, op := Op.pick (Operand.tmp 94) (Operand.const (Value.bool true)) (Operand.tmp 104), type := 4, pos := "laws.go:349", after := #[{ on := 9, ground := Ground.data }, { on := 19, ground := Ground.data }], guard := none }) (v := .bool false) rfl (by kernel_rfl) (by kernel_rfl) (by kernel_rfl) (fun _ _ _ h => h) (Or.inl ⟨by rfl, fun w' hSw => ?_⟩) (by assumption) ?_
          · (try dsimp only at hSw)
            first | (go_simp; done) | (go_simp; with_reducible rfl) | rfl
          try simp only [Act.put, List.setIfInBounds_toArray, List.set_cons_zero, List.set_cons_succ]
          refine wpAnyH_take (i := 21) (oi := { dst := some 106, op := Op.move (Operand.tmp 105), type := 4, pos := "laws.go:349", after := #[{ on := 20, ground := Ground.data }, { on := 17, ground := Ground.chain }], guard := none }) (v := .bool false) rfl (by kernel_rfl) (by kernel_rfl) (by kernel_rfl) (fun _ _ _ h => h) (Or.inl ⟨by rfl, fun w' hSw => ?_⟩) (by assumption) ?_
          · (try dsimp only at hSw)
            first | (go_simp; done) | (go_simp; with_reducible rfl) | rfl
          try simp only [Act.put, List.setIfInBounds_toArray, List.set_cons_zero, List.set_cons_succ]
          refine wpAnyH_take (i := 22) (oi := { dst := some 107, op := Op.move (Operand.tmp 12), type := 9, pos := "laws.go:349", after := #[{ on := 21, ground := Ground.guard }], guard := some (21, false) }) (v := .string O) rfl (by kernel_rfl) (by kernel_rfl) (by kernel_rfl) (fun _ _ _ h => h) (Or.inl ⟨by rfl, fun w' hSw => ?_⟩) (by assumption) ?_
          · (try dsimp only at hSw)
            first | (go_simp; done) | (go_simp; with_reducible rfl) | rfl
          try simp only [Act.put, List.setIfInBounds_toArray, List.set_cons_zero, List.set_cons_succ]
          refine wpAnyH_take (i := 23) (oi := { dst := some 108, op := Op.binOp BinOp.neq 9 (Operand.tmp 107) (Operand.const (Value.string ⟨#[]⟩)) 9, type := 4, pos := "laws.go:349", after := #[{ on := 22, ground := Ground.data }, { on := 21, ground := Ground.guard }], guard := some (21, false) }) (v := .bool true) rfl (by kernel_rfl) (by kernel_rfl) (by kernel_rfl) (fun _ _ _ h => h) (Or.inl ⟨by rfl, fun w' hSw => ?_⟩) (by assumption) ?_
          · (try dsimp only at hSw)
            first | (go_simp; done) | (go_simp; with_reducible rfl) | rfl
          try simp only [Act.put, List.setIfInBounds_toArray, List.set_cons_zero, List.set_cons_succ]
          refine wpAnyH_take (i := 24) (oi := { dst := some 109, op := Op.move (Operand.tmp 108), type := 4, pos := "laws.go:349", after := #[{ on := 23, ground := Ground.data }, { on := 21, ground := Ground.chain }, { on := 21, ground := Ground.guard }], guard := some (21, false) }) (v := .bool true) rfl (by kernel_rfl) (by kernel_rfl) (by kernel_rfl) (fun _ _ _ h => h) (Or.inl ⟨by rfl, fun w' hSw => ?_⟩) (by assumption) ?_
          · (try dsimp only at hSw)
            first | (go_simp; done) | (go_simp; with_reducible rfl) | rfl
          try simp only [Act.put, List.setIfInBounds_toArray, List.set_cons_zero, List.set_cons_succ]
          refine wpAnyH_take (i := 25) (oi := { dst := some 110, op := Op.move (Operand.tmp 12), type := 9, pos := "laws.go:349", after := #[{ on := 24, ground := Ground.guard }], guard := some (24, true) }) (v := .string O) rfl (by kernel_rfl) (by kernel_rfl) (by kernel_rfl) (fun _ _ _ h => h) (Or.inl ⟨by rfl, fun w' hSw => ?_⟩) (by assumption) ?_
          · (try dsimp only at hSw)
            first | (go_simp; done) | (go_simp; with_reducible rfl) | rfl
          try simp only [Act.put, List.setIfInBounds_toArray, List.set_cons_zero, List.set_cons_succ]
          refine wpAnyH_take (i := 28) (oi := { dst := some 113, op := Op.move (Operand.tmp 10), type := 31, pos := "laws.go:349", after := #[{ on := 24, ground := Ground.guard }], guard := some (24, true) }) (v := .slice sa m.length sc) rfl (by kernel_rfl) (by kernel_rfl) (by kernel_rfl) (fun _ _ _ h => h) (Or.inl ⟨by rfl, fun w' hSw => ?_⟩) (by assumption) ?_
          · (try dsimp only at hSw)
            first | (go_simp; done) | (go_simp; with_reducible rfl) | rfl
          try simp only [Act.put, List.setIfInBounds_toArray, List.set_cons_zero, List.set_cons_succ]
          refine wpAnyH_ready (rs := [26]) (by kernel_rfl) (by simp) ?_
          refine AllReadyH.cons (o := { dst := some 111, op := Op.call { callee := Callee.value (Operand.func 15), args := #[Operand.tmp 110], argTypes := #[9] }, type := 35, pos := "laws.go:349", after := #[{ on := 25, ground := Ground.data }, { on := 24, ground := Ground.chain }, { on := 24, ground := Ground.guard }], guard := some (24, true) }) rfl (fun K hK => ?_) AllReadyH.nil
          go_simp
          (go_at_call 15; refine Calls.mono (R4.out hO _ hBm1.out) ?_; rintro e wm4 ⟨am4, cm4, rfl, hsm4, hbm4⟩; have hBm4 : Hid (Below w0.heap.size w0 wm4) := Below.on hBm1.out hbm4; have HSm4 : Hid (Acs am4 m.length m wm4) := hsm4; clear hsm4; clear hbm4; clear m1x0 m1x1 m1x2 m1x3 m1x4; obtain ⟨m4x0, m4x1, m4x2, m4x3, m4x4⟩ := (HX.out.below hBm4.out).f; simp only [Nat.zero_add] at m4x1 m4x2 m4x3 m4x4)
          try go_wp2_with fail
          refine hK.out _ _ ?_ (fun hHeld2 => ?_)
          · (try dsimp only)
            simp [*]
          clear hK K hHeld
          have hHeld := hHeld2
          clear hHeld2
          try simp only [Act.put, List.setIfInBounds_toArray, List.set_cons_zero, List.set_cons_succ]
          refine wpAnyH_take (i := 27) (oi := { dst := some 112, op := Op.field 35 (Operand.tmp 111) 0, type := 31, pos := "laws.go:349", after := #[{ on := 26, ground := Ground.data }, { on := 24, ground := Ground.guard }], guard := some (24, true) }) (v := .slice am4 m.length cm4) rfl (by kernel_rfl) (by kernel_rfl) (by kernel_rfl) (fun _ _ _ h => h) (Or.inl ⟨by rfl, fun w' hSw => ?_⟩) (by assumption) ?_
          · (try dsimp only at hSw)
            first | (go_simp; done) | (go_simp; with_reducible rfl) | rfl
          try simp only [Act.put, List.setIfInBounds_toArray, List.set_cons_zero, List.set_cons_succ]
          refine wpAnyH_ready (rs := [29]) (by kernel_rfl) (by simp) ?_
          refine AllReadyH.cons (o := { dst := some 114, op := Op.call { callee := Callee.value (Operand.func 23), args := #[Operand.tmp 112, Operand.tmp 113], argTypes := #[31, 31] }, type := 4, pos := "laws.go:349", after := #[{ on := 27, ground := Ground.data }, { on := 28, ground := Ground.data }, { on := 26, ground := Ground.chain }, { on := 24, ground := Ground.guard }], guard := some (24, true) }) rfl (fun K hK => ?_) AllReadyH.nil
          go_simp
          (go_at_call 23; refine Calls.mono (R5.out am4 cm4 _ HSm4.out hBm4.out) ?_; rintro e wm5 ⟨rfl, hbm5⟩; have hBm5 : Hid (Below w0.heap.size w0 wm5) := Below.on hBm4.out hbm5; clear hbm5; clear m4x0 m4x1 m4x2 m4x3 m4x4; obtain ⟨m5x0, m5x1, m5x2, m5x3, m5x4⟩ := (HX.out.below hBm5.out).f; simp only [Nat.zero_add] at m5x1 m5x2 m5x3 m5x4)
          try go_wp2_with fail
          refine hK.out _ _ ?_ (fun hHeld2 => ?_)
          · (try dsimp only)
            simp [*]
          clear hK K hHeld
          have hHeld := hHeld2
          clear hHeld2
          try simp only [Act.put, List.setIfInBounds_toArray, List.set_cons_zero, List.set_cons_succ]
          refine wpAnyH_take (i := 30) (oi := { dst := some 115, op := Op.unOp UnOp.not 4 (Operand.tmp 114), type := 4, pos := "laws.go:349", after := #[{ on := 29, ground := Ground.data }, { on := 24, ground := Ground.guard }], guard := some (24, true) }) (v := .bool false) rfl (by kernel_rfl) (by kernel_rfl) (by kernel_rfl) (fun _ _ _ h => h) (Or.inl ⟨by rfl, fun w' hSw => ?_⟩) (by assumption) ?_
          · (try dsimp only at hSw)
            first | (go_simp; done) | (go_simp; with_reducible rfl) | rfl
          try simp only [Act.put, List.setIfInBounds_toArray, List.set_cons_zero, List.set_cons_succ]
          refine wpAnyH_take (i := 31) (oi := { dst := some 116, op := Op.pick (Operand.tmp 109) (Operand.tmp 115) (Operand.const (Value.bool false)), type := 4, pos := "laws.go:349", after := #[{ on := 24, ground := Ground.data }, { on := 30, ground := Ground.data }, { on := 21, ground := Ground.guard }], guard := some (21, false) }) (v := .bool false) rfl (by kernel_rfl) (by kernel_rfl) (by kernel_rfl) (fun _ _ _ h => h) (Or.inl ⟨by rfl, fun w' hSw => ?_⟩) (by assumption) ?_
          · (try dsimp only at hSw)
            first | (go_simp; done) | (go_simp; with_reducible rfl) | rfl
          try simp only [Act.put, List.setIfInBounds_toArray, List.set_cons_zero, List.set_cons_succ]
          refine wpAnyH_take (i := 32) (oi := { dst := some 117, op := Op.pick (Operand.tmp 106) (Operand.const (Value.bool true)) (Operand.tmp 116), type := 4, pos := "laws.go:349", after := #[{ on := 21, ground := Ground.data }, { on := 31, ground := Ground.data }], guard := none }) (v := .bool false) rfl (by kernel_rfl) (by kernel_rfl) (by kernel_rfl) (fun _ _ _ h => h) (Or.inl ⟨by rfl, fun w' hSw => ?_⟩) (by assumption) ?_
          · (try dsimp only at hSw)
            first | (go_simp; done) | (go_simp; with_reducible rfl) | rfl
          try simp only [Act.put, List.setIfInBounds_toArray, List.set_cons_zero, List.set_cons_succ]
          refine wpAnyH_done (by kernel_rfl) ?_ _
          all_goals (
            go_wp2
            go_meet
            first | exact ⟨rfl, hBm5⟩ | exact ⟨rfl, below_drewNx hBm5.out⟩)
      · skip
        by_cases hO : O = ⟨#[]⟩
        · subst hO
          obtain ⟨t1, t2, t3, t4, t5⟩ := str_fullX hT
          obtain ⟨u1, u2, u3, u4, u5⟩ := str_fullX hU
          refine wp_region_held_drew (S := fun w' => w'.cell? ⟨X, 0, none⟩ = some (.bool A.al) ∧ w'.cell? ⟨X, 1, none⟩ = some (.int .i64 A.wh) ∧ w'.cell? ⟨X, 2, none⟩ = some (.int .i64 A.id) ∧ w'.cell? ⟨X, 3, none⟩ = some (.int .i64 A.fl) ∧ w'.cell? ⟨X, 4, none⟩ = some (.int .i64 A.ma)) (by kernel_rfl) (by (try dsimp only); simp [*]) (fun hHeld => ?_)
          refine wpAnyH_take (i := 0) (oi := { dst := some 85, op := Op.move (Operand.tmp 6), type := 9, pos := "laws.go:349", after := #[], guard := none }) (v := .string T) rfl (by kernel_rfl) (by kernel_rfl) (by kernel_rfl) (fun _ _ _ h => h) (Or.inl ⟨by rfl, fun w' hSw => ?_⟩) (by assumption) ?_
          · (try dsimp only at hSw)
            first | (go_simp; done) | (go_simp; with_reducible rfl) | rfl
          try simp only [Act.put, List.setIfInBounds_toArray, List.set_cons_zero, List.set_cons_succ]
          refine wpAnyH_take (i := 1) (oi := { dst := some 86, op := Op.binOp BinOp.neq 9 (Operand.tmp 85) (Operand.const (Value.string ⟨#[]⟩)) 9, type := 4, pos := "laws.go:349", after := #[{ on := 0, ground := Ground.data }], guard := none }) (v := .bool true) rfl (by kernel_rfl) (by kernel_rfl) (by kernel_rfl) (fun _ _ _ h => h) (Or.inl ⟨by rfl, fun w' hSw => ?_⟩) (by assumption) ?_
          · (try dsimp only at hSw)
            first | (go_simp; done) | (go_simp; with_reducible rfl) | rfl
          try simp only [Act.put, List.setIfInBounds_toArray, List.set_cons_zero, List.set_cons_succ]
          refine wpAnyH_take (i := 2) (oi := { dst := some 87, op := Op.move (Operand.tmp 86), type := 4, pos := "laws.go:349", after := #[{ on := 1, ground := Ground.data }], guard := none }) (v := .bool true) rfl (by kernel_rfl) (by kernel_rfl) (by kernel_rfl) (fun _ _ _ h => h) (Or.inl ⟨by rfl, fun w' hSw => ?_⟩) (by assumption) ?_
          · (try dsimp only at hSw)
            first | (go_simp; done) | (go_simp; with_reducible rfl) | rfl
          try simp only [Act.put, List.setIfInBounds_toArray, List.set_cons_zero, List.set_cons_succ]
          refine wpAnyH_take (i := 3) (oi := { dst := some 88, op := Op.move (Operand.tmp 6), type := 9, pos := "laws.go:349", after := #[{ on := 2, ground := Ground.guard }], guard := some (2, true) }) (v := .string T) rfl (by kernel_rfl) (by kernel_rfl) (by kernel_rfl) (fun _ _ _ h => h) (Or.inl ⟨by rfl, fun w' hSw => ?_⟩) (by assumption) ?_
          · (try dsimp only at hSw)
            first | (go_simp; done) | (go_simp; with_reducible rfl) | rfl
          try simp only [Act.put, List.setIfInBounds_toArray, List.set_cons_zero, List.set_cons_succ]
          refine wpAnyH_take (i := 5) (oi := { dst := some 90, op := Op.load 24 (Operand.tmp 5), type := 24, pos := "laws.go:349", after := #[{ on := 2, ground := Ground.guard }], guard := some (2, true) }) (v := .agg #[.bool A.al, .int .i64 A.wh, .int .i64 A.id, .int .i64 A.fl, .int .i64 A.ma]) rfl (by kernel_rfl) (by kernel_rfl) (by kernel_rfl) (fun _ _ _ h => h) (Or.inl ⟨by rfl, fun w' hSw => ?_⟩) (by assumption) ?_
          · (try dsimp only at hSw)
            first | (go_simp; done) | (go_simp; with_reducible rfl) | rfl
          try simp only [Act.put, List.setIfInBounds_toArray, List.set_cons_zero, List.set_cons_succ]
          refine wpAnyH_take (i := 6) (oi := { dst := some 91, op := Op.build 29 #[(0, Operand.tmp 90)], type := 29, pos := "laws.go:349", after := #[{ on := 5, ground := Ground.data }, { on := 2, ground := Ground.guard }], guard := some (2, true) }) (v := .agg #[.bool A.al, .int .i64 A.wh, .int .i64 A.id, .int .i64 A.fl, .int .i64 A.ma, .int .i64 0]) rfl (by kernel_rfl) (by kernel_rfl) (by kernel_rfl) (fun _ _ _ h => h) (Or.inl ⟨by rfl, fun w' hSw => ?_⟩) (by assumption) ?_
          · (try dsimp only at hSw)
            first | (go_simp; done) | (go_simp; with_reducible rfl) | rfl
          try simp only [Act.put, List.setIfInBounds_toArray, List.set_cons_zero, List.set_cons_succ]
          refine wpAnyH_ready (rs := [4]) (by kernel_rfl) (by simp) ?_
          refine AllReadyH.cons (o := { dst := some 89, op := Op.call { callee := Callee.value (Operand.func 7), args := #[Operand.tmp 88], argTypes := #[9] }, type := 29, pos := "laws.go:349", after := #[{ on := 3, ground := Ground.data }, { on := 2, ground := Ground.chain }, { on := 2, ground := Ground.guard }], guard := some (2, true) }) rfl (fun K hK => ?_) AllReadyH.nil
          go_simp
          (go_at_call 7; refine Calls.mono (R1.out hT _ ?hs) ?_; (case hs => (first | exact HB10.out | exact below_drewNx HB10.out)); rintro e wm1 ⟨rfl, hbm1⟩; have hBm1 : Hid (Below w0.heap.size w0 wm1) := Below.on (below_drewNx HB10.out) ⟨hbm1.os, hbm1.tape, hbm1.output, hbm1.size, hbm1.block⟩; clear hbm1; obtain ⟨m1x0, m1x1, m1x2, m1x3, m1x4⟩ := (HX.out.below hBm1.out).f; simp only [Nat.zero_add] at m1x1 m1x2 m1x3 m1x4)
          try go_wp2_with fail
          refine hK.out _ _ ?_ (fun hHeld2 => ?_)
          · (try dsimp only)
            simp [*]
          clear hK K hHeld
          have hHeld := hHeld2
          clear hHeld2
          try simp only [Act.put, List.setIfInBounds_toArray, List.set_cons_zero, List.set_cons_succ]
          refine wpAnyH_take (i := 7) (oi := { dst := some 92, op := Op.binOp BinOp.neq 29 (Operand.tmp 89) (Operand.tmp 91) 29, type := 4, pos := "laws.go:349", after := #[{ on := 4, ground := Ground.data }, { on := 6, ground := Ground.data }, { on := 2, ground := Ground.guard }], guard := some (2, true) }) (v := .bool false) rfl (by kernel_rfl) (by kernel_rfl) (by kernel_rfl) (fun _ _ _ h => h) (Or.inl ⟨by rfl, fun w' hSw => ?_⟩) (by assumption) ?_
          · (try dsimp only at hSw)
            first | (go_simp; done) | (go_simp; with_reducible rfl) | rfl
          try simp only [Act.put, List.setIfInBounds_toArray, List.set_cons_zero, List.set_cons_succ]
          refine wpAnyH_take (i := 8) (oi := { dst := some 93, op := Op.pick (Operand.tmp 87) (Operand.tmp 92) (Operand.const (Value.bool false)), type := 4, pos := "laws.go:349", after := #[{ on := 2, ground := Ground.data }, { on := 7, ground := Ground.data }], guard := none }) (v := .bool false) rfl (by kernel_rfl) (by kernel_rfl) (by kernel_rfl) (fun _ _ _ h => h) (Or.inl ⟨by rfl, fun w' hSw => ?_⟩) (by assumption) ?_
          · (try dsimp only at hSw)
            first | (go_simp; done) | (go_simp; with_reducible rfl) | rfl
          try simp only [Act.put, List.setIfInBounds_toArray, List.set_cons_zero, List.set_cons_succ]
          refine wpAnyH_take (i := 9) (oi := { dst := some 94, op := Op.move (Operand.tmp 93), type := 4, pos := "laws.go:349", after := #[{ on := 8, ground := Ground.data }, { on := 4, ground := Ground.chain }], guard := none }) (v := .bool false) rfl (by kernel_rfl) (by kernel_rfl) (by kernel_rfl) (fun _ _ _ h => h) (Or.inl ⟨by rfl, fun w' hSw => ?_⟩) (by assumption) ?_
          · (try dsimp only at hSw)
            first | (go_simp; done) | (go_simp; with_reducible rfl) | rfl
          try simp only [Act.put, List.setIfInBounds_toArray, List.set_cons_zero, List.set_cons_succ]
          refine wpAnyH_take (i := 10) (oi := { dst := some 95, op := Op.move (Operand.tmp 11), type := 9, pos := "laws.go:349", after := #[{ on := 9, ground := Ground.guard }], guard := some (9, false) }) (v := .string U) rfl (by kernel_rfl) (by kernel_rfl) (by kernel_rfl) (fun _ _ _ h => h) (Or.inl ⟨by rfl, fun w' hSw => ?_⟩) (by assumption) ?_
          · (try dsimp only at hSw)
            first | (go_simp; done) | (go_simp; with_reducible rfl) | rfl
          try simp only [Act.put, List.setIfInBounds_toArray, List.set_cons_zero, List.set_cons_succ]
          refine wpAnyH_take (i := 11) (oi := { dst := some 96, op := Op.binOp BinOp.neq 9 (Operand.tmp 95) (Operand.const (Value.string ⟨#[]⟩)) 9, type := 4, pos := "laws.go:349", after := #[{ on := 10, ground := Ground.data }, { on := 9, ground := Ground.guard }], guard := some (9, false) }) (v := .bool true) rfl (by kernel_rfl) (by kernel_rfl) (by kernel_rfl) (fun _ _ _ h => h) (Or.inl ⟨by rfl, fun w' hSw => ?_⟩) (by assumption) ?_
          · (try dsimp only at hSw)
            first | (go_simp; done) | (go_simp; with_reducible rfl) | rfl
          try simp only [Act.put, List.setIfInBounds_toArray, List.set_cons_zero, List.set_cons_succ]
          refine wpAnyH_take (i := 12) (oi := { dst := some 97, op := Op.move (Operand.tmp 96), type := 4, pos := "laws.go:349", after := #[{ on := 11, ground := Ground.data }, { on := 9, ground := Ground.chain }, { on := 9, ground := Ground.guard }], guard := some (9, false) }) (v := .bool true) rfl (by kernel_rfl) (by kernel_rfl) (by kernel_rfl) (fun _ _ _ h => h) (Or.inl ⟨by rfl, fun w' hSw => ?_⟩) (by assumption) ?_
          · (try dsimp only at hSw)
            first | (go_simp; done) | (go_simp; with_reducible rfl) | rfl
          try simp only [Act.put, List.setIfInBounds_toArray, List.set_cons_zero, List.set_cons_succ]
          refine wpAnyH_take (i := 13) (oi := { dst := some 98, op := Op.move (Operand.tmp 11), type := 9, pos := "laws.go:349", after := #[{ on := 12, ground := Ground.guard }], guard := some (12, true) }) (v := .string U) rfl (by kernel_rfl) (by kernel_rfl) (by kernel_rfl) (fun _ _ _ h => h) (Or.inl ⟨by rfl, fun w' hSw => ?_⟩) (by assumption) ?_
          · (try dsimp only at hSw)
            first | (go_simp; done) | (go_simp; with_reducible rfl) | rfl
          try simp only [Act.put, List.setIfInBounds_toArray, List.set_cons_zero, List.set_cons_succ]
          refine wpAnyH_take (i := 16) (oi := { dst := some 101, op := Op.move (Operand.tmp 9), type := 31, pos := "laws.go:349", after := #[{ on := 12, ground := Ground.guard }], guard := some (12, true) }) (v := .slice ra l.length rc) rfl (by kernel_rfl) (by kernel_rfl) (by kernel_rfl) (fun _ _ _ h => h) (Or.inl ⟨by rfl, fun w' hSw => ?_⟩) (by assumption) ?_
          · (try dsimp only at hSw)
            first | (go_simp; done) | (go_simp; with_reducible rfl) | rfl
          try simp only [Act.put, List.setIfInBounds_toArray, List.set_cons_zero, List.set_cons_succ]
          refine wpAnyH_ready (rs := [14]) (by kernel_rfl) (by simp) ?_
          refine AllReadyH.cons (o := { dst := some 99, op := Op.call { callee := Callee.value (Operand.func 14), args := #[Operand.tmp 98], argTypes := #[9] }, type := 35, pos := "laws.go:349", after := #[{ on := 13, ground := Ground.data }, { on := 12, ground := Ground.chain }, { on := 12, ground := Ground.guard }], guard := some (12, true) }) rfl (fun K hK => ?_) AllReadyH.nil
          go_simp
          (go_at_call 14; refine Calls.mono (R2.out hU _ hBm1.out) ?_; rintro e wm2 ⟨am2, cm2, rfl, hsm2, hbm2⟩; have hBm2 : Hid (Below w0.heap.size w0 wm2) := Below.on hBm1.out hbm2; have HSm2 : Hid (Acs am2 l.length l wm2) := hsm2; clear hsm2; clear hbm2; clear m1x0 m1x1 m1x2 m1x3 m1x4; obtain ⟨m2x0, m2x1, m2x2, m2x3, m2x4⟩ := (HX.out.below hBm2.out).f; simp only [Nat.zero_add] at m2x1 m2x2 m2x3 m2x4)
          try go_wp2_with fail
          refine hK.out _ _ ?_ (fun hHeld2 => ?_)
          · (try dsimp only)
            simp [*]
          clear hK K hHeld
          have hHeld := hHeld2
          clear hHeld2
          try simp only [Act.put, List.setIfInBounds_toArray, List.set_cons_zero, List.set_cons_succ]
          refine wpAnyH_take (i := 15) (oi := { dst := some 100, op := Op.field 35 (Operand.tmp 99) 0, type := 31, pos := "laws.go:349", after := #[{ on := 14, ground := Ground.data }, { on := 12, ground := Ground.guard }], guard := some (12, true) }) (v := .slice am2 l.length cm2) rfl (by kernel_rfl) (by kernel_rfl) (by kernel_rfl) (fun _ _ _ h => h) (Or.inl ⟨by rfl, fun w' hSw => ?_⟩) (by assumption) ?_
          · (try dsimp only at hSw)
            first | (go_simp; done) | (go_simp; with_reducible rfl) | rfl
          try simp only [Act.put, List.setIfInBounds_toArray, List.set_cons_zero, List.set_cons_succ]
          refine wpAnyH_ready (rs := [17]) (by kernel_rfl) (by simp) ?_
          refine AllReadyH.cons (o := { dst := some 102, op := Op.call { callee := Callee.value (Operand.func 23), args := #[Operand.tmp 100, Operand.tmp 101], argTypes := #[31, 31] }, type := 4, pos := "laws.go:349", after := #[{ on := 15, ground := Ground.data }, { on := 16, ground := Ground.data }, { on := 14, ground := Ground.chain }, { on := 12, ground := Ground.guard }], guard := some (12, true) }) rfl (fun K hK => ?_) AllReadyH.nil
          go_simp
          (go_at_call 23; refine Calls.mono (R3.out am2 cm2 _ HSm2.out hBm2.out) ?_; rintro e wm3 ⟨rfl, hbm3⟩; have hBm3 : Hid (Below w0.heap.size w0 wm3) := Below.on hBm2.out hbm3; clear hbm3; clear m2x0 m2x1 m2x2 m2x3 m2x4; obtain ⟨m3x0, m3x1, m3x2, m3x3, m3x4⟩ := (HX.out.below hBm3.out).f; simp only [Nat.zero_add] at m3x1 m3x2 m3x3 m3x4)
          try go_wp2_with fail
          refine hK.out _ _ ?_ (fun hHeld2 => ?_)
          · (try dsimp only)
            simp [*]
          clear hK K hHeld
          have hHeld := hHeld2
          clear hHeld2
          try simp only [Act.put, List.setIfInBounds_toArray, List.set_cons_zero, List.set_cons_succ]
          refine wpAnyH_take (i := 18) (oi := { dst := some 103, op := Op.unOp UnOp.not 4 (Operand.tmp 102), type := 4, pos := "laws.go:349", after := #[{ on := 17, ground := Ground.data }, { on := 12, ground := Ground.guard }], guard := some (12, true) }) (v := .bool false) rfl (by kernel_rfl) (by kernel_rfl) (by kernel_rfl) (fun _ _ _ h => h) (Or.inl ⟨by rfl, fun w' hSw => ?_⟩) (by assumption) ?_
          · (try dsimp only at hSw)
            first | (go_simp; done) | (go_simp; with_reducible rfl) | rfl
          try simp only [Act.put, List.setIfInBounds_toArray, List.set_cons_zero, List.set_cons_succ]
          refine wpAnyH_take (i := 19) (oi := { dst := some 104, op := Op.pick (Operand.tmp 97) (Operand.tmp 103) (Operand.const (Value.bool false)), type := 4, pos := "laws.go:349", after := #[{ on := 12, ground := Ground.data }, { on := 18, ground := Ground.data }, { on := 9, ground := Ground.guard }], guard := some (9, false) }) (v := .bool false) rfl (by kernel_rfl) (by kernel_rfl) (by kernel_rfl) (fun _ _ _ h => h) (Or.inl ⟨by rfl, fun w' hSw => ?_⟩) (by assumption) ?_
          · (try dsimp only at hSw)
            first | (go_simp; done) | (go_simp; with_reducible rfl) | rfl
          try simp only [Act.put, List.setIfInBounds_toArray, List.set_cons_zero, List.set_cons_succ]
          refine wpAnyH_take (i := 20) (oi := { dst := some 105, op := Op.pick (Operand.tmp 94) (Operand.const (Value.bool true)) (Operand.tmp 104), type := 4, pos := "laws.go:349", after := #[{ on := 9, ground := Ground.data }, { on := 19, ground := Ground.data }], guard := none }) (v := .bool false) rfl (by kernel_rfl) (by kernel_rfl) (by kernel_rfl) (fun _ _ _ h => h) (Or.inl ⟨by rfl, fun w' hSw => ?_⟩) (by assumption) ?_
          · (try dsimp only at hSw)
            first | (go_simp; done) | (go_simp; with_reducible rfl) | rfl
          try simp only [Act.put, List.setIfInBounds_toArray, List.set_cons_zero, List.set_cons_succ]
          refine wpAnyH_take (i := 21) (oi := { dst := some 106, op := Op.move (Operand.tmp 105), type := 4, pos := "laws.go:349", after := #[{ on := 20, ground := Ground.data }, { on := 17, ground := Ground.chain }], guard := none }) (v := .bool false) rfl (by kernel_rfl) (by kernel_rfl) (by kernel_rfl) (fun _ _ _ h => h) (Or.inl ⟨by rfl, fun w' hSw => ?_⟩) (by assumption) ?_
          · (try dsimp only at hSw)
            first | (go_simp; done) | (go_simp; with_reducible rfl) | rfl
          try simp only [Act.put, List.setIfInBounds_toArray, List.set_cons_zero, List.set_cons_succ]
          refine wpAnyH_take (i := 22) (oi := { dst := some 107, op := Op.move (Operand.tmp 12), type := 9, pos := "laws.go:349", after := #[{ on := 21, ground := Ground.guard }], guard := some (21, false) }) (v := .string ⟨#[]⟩) rfl (by kernel_rfl) (by kernel_rfl) (by kernel_rfl) (fun _ _ _ h => h) (Or.inl ⟨by rfl, fun w' hSw => ?_⟩) (by assumption) ?_
          · (try dsimp only at hSw)
            first | (go_simp; done) | (go_simp; with_reducible rfl) | rfl
          try simp only [Act.put, List.setIfInBounds_toArray, List.set_cons_zero, List.set_cons_succ]
          refine wpAnyH_take (i := 23) (oi := { dst := some 108, op := Op.binOp BinOp.neq 9 (Operand.tmp 107) (Operand.const (Value.string ⟨#[]⟩)) 9, type := 4, pos := "laws.go:349", after := #[{ on := 22, ground := Ground.data }, { on := 21, ground := Ground.guard }], guard := some (21, false) }) (v := .bool false) rfl (by kernel_rfl) (by kernel_rfl) (by kernel_rfl) (fun _ _ _ h => h) (Or.inl ⟨by rfl, fun w' hSw => ?_⟩) (by assumption) ?_
          · (try dsimp only at hSw)
            first | (go_simp; done) | (go_simp; with_reducible rfl) | rfl
          try simp only [Act.put, List.setIfInBounds_toArray, List.set_cons_zero, List.set_cons_succ]
          refine wpAnyH_take (i := 24) (oi := { dst := some 109, op := Op.move (Operand.tmp 108), type := 4, pos := "laws.go:349", after := #[{ on := 23, ground := Ground.data }, { on := 21, ground := Ground.chain }, { on := 21, ground := Ground.guard }], guard := some (21, false) }) (v := .bool false) rfl (by kernel_rfl) (by kernel_rfl) (by kernel_rfl) (fun _ _ _ h => h) (Or.inl ⟨by rfl, fun w' hSw => ?_⟩) (by assumption) ?_
          · (try dsimp only at hSw)
            first | (go_simp; done) | (go_simp; with_reducible rfl) | rfl
          try simp only [Act.put, List.setIfInBounds_toArray, List.set_cons_zero, List.set_cons_succ]
          refine wpAnyH_take (i := 25) (oi := { dst := some 110, op := Op.move (Operand.tmp 12), type := 9, pos := "laws.go:349", after := #[{ on := 24, ground := Ground.guard }], guard := some (24, true) }) (v := undef) rfl (by kernel_rfl) (by kernel_rfl) (by kernel_rfl) (fun _ _ _ h => h) (Or.inr ⟨by rfl, rfl⟩) (by assumption) ?_
          try simp only [Act.put, List.setIfInBounds_toArray, List.set_cons_zero, List.set_cons_succ]
          refine wpAnyH_take (i := 28) (oi := { dst := some 113, op := Op.move (Operand.tmp 10), type := 31, pos := "laws.go:349", after := #[{ on := 24, ground := Ground.guard }], guard := some (24, true) }) (v := undef) rfl (by kernel_rfl) (by kernel_rfl) (by kernel_rfl) (fun _ _ _ h => h) (Or.inr ⟨by rfl, rfl⟩) (by assumption) ?_
          try simp only [Act.put, List.setIfInBounds_toArray, List.set_cons_zero, List.set_cons_succ]
          refine wpAnyH_take (i := 26) (oi := { dst := some 111, op := Op.call { callee := Callee.value (Operand.func 15), args := #[Operand.tmp 110], argTypes := #[9] }, type := 35, pos := "laws.go:349", after := #[{ on := 25, ground := Ground.data }, { on := 24, ground := Ground.chain }, { on := 24, ground := Ground.guard }], guard := some (24, true) }) (v := undef) rfl (by kernel_rfl) (by kernel_rfl) (by kernel_rfl) (fun _ _ _ h => h) (Or.inr ⟨by rfl, rfl⟩) (by assumption) ?_
          try simp only [Act.put, List.setIfInBounds_toArray, List.set_cons_zero, List.set_cons_succ]
          refine wpAnyH_take (i := 27) (oi := { dst := some 112, op := Op.field 35 (Operand.tmp 111) 0, type := 31, pos := "laws.go:349", after := #[{ on := 26, ground := Ground.data }, { on := 24, ground := Ground.guard }], guard := some (24, true) }) (v := undef) rfl (by kernel_rfl) (by kernel_rfl) (by kernel_rfl) (fun _ _ _ h => h) (Or.inr ⟨by rfl, rfl⟩) (by assumption) ?_
          try simp only [Act.put, List.setIfInBounds_toArray, List.set_cons_zero, List.set_cons_succ]
          refine wpAnyH_take (i := 29) (oi := { dst := some 114, op := Op.call { callee := Callee.value (Operand.func 23), args := #[Operand.tmp 112, Operand.tmp 113], argTypes := #[31, 31] }, type := 4, pos := "laws.go:349", after := #[{ on := 27, ground := Ground.data }, { on := 28, ground := Ground.data }, { on := 26, ground := Ground.chain }, { on := 24, ground := Ground.guard }], guard := some (24, true) }) (v := undef) rfl (by kernel_rfl) (by kernel_rfl) (by kernel_rfl) (fun _ _ _ h => h) (Or.inr ⟨by rfl, rfl⟩) (by assumption) ?_
          try simp only [Act.put, List.setIfInBounds_toArray, List.set_cons_zero, List.set_cons_succ]
          refine wpAnyH_take (i := 30) (oi := { dst := some 115, op := Op.unOp UnOp.not 4 (Operand.tmp 114), type := 4, pos := "laws.go:349", after := #[{ on := 29, ground := Ground.data }, { on := 24, ground := Ground.guard }], guard := some (24, true) }) (v := undef) rfl (by kernel_rfl) (by kernel_rfl) (by kernel_rfl) (fun _ _ _ h => h) (Or.inr ⟨by rfl, rfl⟩) (by assumption) ?_
          try simp only [Act.put, List.setIfInBounds_toArray, List.set_cons_zero, List.set_cons_succ]
          refine wpAnyH_take (i := 31) (oi := { dst := some 116, op := Op.pick (Operand.tmp 109) (Operand.tmp 115) (Operand.const (Value.bool false)), type := 4, pos := "laws.go:349", after := #[{ on := 24, ground := Ground.data }, { on := 30, ground := Ground.data }, { on := 21, ground := Ground.guard }], guard := some (21, false) }) (v := .bool false) rfl (by kernel_rfl) (by kernel_rfl) (by kernel_rfl) (fun _ _ _ h => h) (Or.inl ⟨by rfl, fun w' hSw => ?_⟩) (by assumption) ?_
          · (try dsimp only at hSw)
            first | (go_simp; done) | (go_simp; with_reducible rfl) | rfl
          try simp only [Act.put, List.setIfInBounds_toArray, List.set_cons_zero, List.set_cons_succ]
          refine wpAnyH_take (i := 32) (oi := { dst := some 117, op := Op.pick (Operand.tmp 106) (Operand.const (Value.bool true)) (Operand.tmp 116), type := 4, pos := "laws.go:349", after := #[{ on := 21, ground := Ground.data }, { on := 31, ground := Ground.data }], guard := none }) (v := .bool false) rfl (by kernel_rfl) (by kernel_rfl) (by kernel_rfl) (fun _ _ _ h => h) (Or.inl ⟨by rfl, fun w' hSw => ?_⟩) (by assumption) ?_
          · (try dsimp only at hSw)
            first | (go_simp; done) | (go_simp; with_reducible rfl) | rfl
          try simp only [Act.put, List.setIfInBounds_toArray, List.set_cons_zero, List.set_cons_succ]
          refine wpAnyH_done (by kernel_rfl) ?_ _
          all_goals (
            go_wp2
            go_meet
            first | exact ⟨rfl, hBm3⟩ | exact ⟨rfl, below_drewNx hBm3.out⟩)
        · skip
          obtain ⟨t1, t2, t3, t4, t5⟩ := str_fullX hT
          obtain ⟨u1, u2, u3, u4, u5⟩ := str_fullX hU
          obtain ⟨o1, o2, o3, o4, o5⟩ := str_fullX hO
          go_region_held3 (fun w' => w'.cell? ⟨X, 0, none⟩ = some (.bool A.al) ∧ w'.cell? ⟨X, 1, none⟩ = some (.int .i64 A.wh) ∧ w'.cell? ⟨X, 2, none⟩ = some (.int .i64 A.id) ∧ w'.cell? ⟨X, 3, none⟩ = some (.int .i64 A.fl) ∧ w'.cell? ⟨X, 4, none⟩ = some (.int .i64 A.ma)) (go_keep)
            (first
              | (go_at_call 23; refine Calls.mono (R5.out am4 cm4 _ HSm4.out hBm4.out) ?_; rintro e wm5 ⟨rfl, hbm5⟩; have hBm5 : Hid (Below w0.heap.size w0 wm5) := Below.on hBm4.out hbm5; clear hbm5; clear m4x0 m4x1 m4x2 m4x3 m4x4; obtain ⟨m5x0, m5x1, m5x2, m5x3, m5x4⟩ := (HX.out.below hBm5.out).f; simp only [Nat.zero_add] at m5x1 m5x2 m5x3 m5x4)
              | (go_at_call 15; refine Calls.mono (R4.out hO _ hBm3.out) ?_; rintro e wm4 ⟨am4, cm4, rfl, hsm4, hbm4⟩; have hBm4 : Hid (Below w0.heap.size w0 wm4) := Below.on hBm3.out hbm4; have HSm4 : Hid (Acs am4 m.length m wm4) := hsm4; clear hsm4; clear hbm4; clear m3x0 m3x1 m3x2 m3x3 m3x4; obtain ⟨m4x0, m4x1, m4x2, m4x3, m4x4⟩ := (HX.out.below hBm4.out).f; simp only [Nat.zero_add] at m4x1 m4x2 m4x3 m4x4)
              | (go_at_call 23; refine Calls.mono (R3.out am2 cm2 _ HSm2.out hBm2.out) ?_; rintro e wm3 ⟨rfl, hbm3⟩; have hBm3 : Hid (Below w0.heap.size w0 wm3) := Below.on hBm2.out hbm3; clear hbm3; clear m2x0 m2x1 m2x2 m2x3 m2x4; obtain ⟨m3x0, m3x1, m3x2, m3x3, m3x4⟩ := (HX.out.below hBm3.out).f; simp only [Nat.zero_add] at m3x1 m3x2 m3x3 m3x4)
              | (go_at_call 14; refine Calls.mono (R2.out hU _ hBm1.out) ?_; rintro e wm2 ⟨am2, cm2, rfl, hsm2, hbm2⟩; have hBm2 : Hid (Below w0.heap.size w0 wm2) := Below.on hBm1.out hbm2; have HSm2 : Hid (Acs am2 l.length l wm2) := hsm2; clear hsm2; clear hbm2; clear m1x0 m1x1 m1x2 m1x3 m1x4; obtain ⟨m2x0, m2x1, m2x2, m2x3, m2x4⟩ := (HX.out.below hBm2.out).f; simp only [Nat.zero_add] at m2x1 m2x2 m2x3 m2x4)
              | (go_at_call 7; refine Calls.mono (R1.out hT _ ?hs) ?_; (case hs => (first | exact HB10.out | exact below_drewNx HB10.out)); rintro e wm1 ⟨rfl, hbm1⟩; have hBm1 : Hid (Below w0.heap.size w0 wm1) := Below.on (below_drewNx HB10.out) ⟨hbm1.os, hbm1.tape, hbm1.output, hbm1.size, hbm1.block⟩; clear hbm1; obtain ⟨m1x0, m1x1, m1x2, m1x3, m1x4⟩ := (HX.out.below hBm1.out).f; simp only [Nat.zero_add] at m1x1 m1x2 m1x3 m1x4))
          all_goals (
            go_wp2
            go_meet
            first | exact ⟨rfl, hBm5⟩ | exact ⟨rfl, below_drewNx hBm5.out⟩)
  case rest =>
  obtain ⟨rfl, HB11⟩ := hcut
  obtain ⟨ws, hws⟩ : ∃ ws, ws = wc := ⟨_, rfl⟩
  subst hws
  clear cx0 cx1 cx2 cx3 cx4 cv0 cv1 cv2 cv3 cv4 cv5 cp0 cp1 cq0 cq1 R1 R2 R3 R4 R5 HB10
  obtain ⟨_, v0, v1, v2, v3, v4, v5⟩ := HV.out.below HB11.out
  obtain ⟨_, p0, p1⟩ := HP.out.below HB11.out
  obtain ⟨_, q0, q1⟩ := HQ.out.below HB11.out
  by_cases hz0 : k = 0
  · have g0 : (k != 0) = false := by rw [hz0]; rfl
    have gg0 : (k == 0) = true := by rw [hz0]; rfl
    go_wp2_with fail
    refine (S1.out hz0 _ HB11.out).mono ?_
    rintro e wt0 ⟨rfl, hb⟩
    have Hwt0 : Hid (Below w0.heap.size w0 wt0) := Below.on HB11.out hb
    clear hb
    clear v0 v1 v2 v3 v4 v5 p0 p1 q0 q1
    obtain ⟨_, v0, v1, v2, v3, v4, v5⟩ := HV.out.below Hwt0.out
    obtain ⟨_, p0, p1⟩ := HP.out.below Hwt0.out
    obtain ⟨_, q0, q1⟩ := HQ.out.below Hwt0.out
    by_cases hz1 : yk = 0
    · have g1 : (yk != 0) = false := by rw [hz1]; rfl
      have gg1 : (yk == 0) = true := by rw [hz1]; rfl
      go_wp2_with fail
      refine (S2.out hz1 _ Hwt0.out).mono ?_
      rintro e wt1 ⟨rfl, hb⟩
      have Hwt1 : Hid (Below w0.heap.size w0 wt1) := Below.on Hwt0.out hb
      clear hb
      clear v0 v1 v2 v3 v4 v5 p0 p1 q0 q1
      obtain ⟨_, v0, v1, v2, v3, v4, v5⟩ := HV.out.below Hwt1.out
      obtain ⟨_, p0, p1⟩ := HP.out.below Hwt1.out
      obtain ⟨_, q0, q1⟩ := HQ.out.below Hwt1.out
      by_cases hz2 : zk = 0
      · have g2 : (zk != 0) = false := by rw [hz2]; rfl
        have gg2 : (zk == 0) = true := by rw [hz2]; rfl
        go_wp2_with fail
        refine (S3.out hz2 _ Hwt1.out).mono ?_
        rintro e wt2 ⟨rfl, hb⟩
        have Hwt2 : Hid (Below w0.heap.size w0 wt2) := Below.on Hwt1.out hb
        clear hb
        clear v0 v1 v2 v3 v4 v5 p0 p1 q0 q1
        obtain ⟨_, v0, v1, v2, v3, v4, v5⟩ := HV.out.below Hwt2.out
        obtain ⟨_, p0, p1⟩ := HP.out.below Hwt2.out
        obtain ⟨_, q0, q1⟩ := HQ.out.below Hwt2.out
        go_wp2
        go_ret
        exact ⟨rfl, Below.on HB.out Hwt2.out⟩
      · have g2 : (zk != 0) = true := by simp [hz2]
        have gg2 : (zk == 0) = false := by simp [hz2]
        go_wp2
        go_ret
        exact ⟨rfl, Below.on HB.out Hwt1.out⟩
    · have g1 : (yk != 0) = true := by simp [hz1]
      have gg1 : (yk == 0) = false := by simp [hz1]
      by_cases hz2 : zk = 0
      · have g2 : (zk != 0) = false := by rw [hz2]; rfl
        have gg2 : (zk == 0) = true := by rw [hz2]; rfl
        go_wp2_with fail
        refine (S3.out hz2 _ Hwt0.out).mono ?_
        rintro e wt2 ⟨rfl, hb⟩
        have Hwt2 : Hid (Below w0.heap.size w0 wt2) := Below.on Hwt0.out hb
        clear hb
        clear v0 v1 v2 v3 v4 v5 p0 p1 q0 q1
        obtain ⟨_, v0, v1, v2, v3, v4, v5⟩ := HV.out.below Hwt2.out
        obtain ⟨_, p0, p1⟩ := HP.out.below Hwt2.out
        obtain ⟨_, q0, q1⟩ := HQ.out.below Hwt2.out
        go_wp2
        go_ret
        exact ⟨rfl, Below.on HB.out Hwt2.out⟩
      · have g2 : (zk != 0) = true := by simp [hz2]
        have gg2 : (zk == 0) = false := by simp [hz2]
        go_wp2
        go_ret
        exact ⟨rfl, Below.on HB.out Hwt0.out⟩
  · have g0 : (k != 0) = true := by simp [hz0]
    have gg0 : (k == 0) = false := by simp [hz0]
    by_cases hz1 : yk = 0
    · have g1 : (yk != 0) = false := by rw [hz1]; rfl
      have gg1 : (yk == 0) = true := by rw [hz1]; rfl
      go_wp2_with fail
      refine (S2.out hz1 _ HB11.out).mono ?_
      rintro e wt1 ⟨rfl, hb⟩
      have Hwt1 : Hid (Below w0.heap.size w0 wt1) := Below.on HB11.out hb
      clear hb
      clear v0 v1 v2 v3 v4 v5 p0 p1 q0 q1
      obtain ⟨_, v0, v1, v2, v3, v4, v5⟩ := HV.out.below Hwt1.out
      obtain ⟨_, p0, p1⟩ := HP.out.below Hwt1.out
      obtain ⟨_, q0, q1⟩ := HQ.out.below Hwt1.out
      by_cases hz2 : zk = 0
      · have g2 : (zk != 0) = false := by rw [hz2]; rfl
        have gg2 : (zk == 0) = true := by rw [hz2]; rfl
        go_wp2_with fail
        refine (S3.out hz2 _ Hwt1.out).mono ?_
        rintro e wt2 ⟨rfl, hb⟩
        have Hwt2 : Hid (Below w0.heap.size w0 wt2) := Below.on Hwt1.out hb
        clear hb
        clear v0 v1 v2 v3 v4 v5 p0 p1 q0 q1
        obtain ⟨_, v0, v1, v2, v3, v4, v5⟩ := HV.out.below Hwt2.out
        obtain ⟨_, p0, p1⟩ := HP.out.below Hwt2.out
        obtain ⟨_, q0, q1⟩ := HQ.out.below Hwt2.out
        go_wp2
        go_ret
        exact ⟨rfl, Below.on HB.out Hwt2.out⟩
      · have g2 : (zk != 0) = true := by simp [hz2]
        have gg2 : (zk == 0) = false := by simp [hz2]
        go_wp2
        go_ret
        exact ⟨rfl, Below.on HB.out Hwt1.out⟩
    · have g1 : (yk != 0) = true := by simp [hz1]
      have gg1 : (yk == 0) = false := by simp [hz1]
      by_cases hz2 : zk = 0
      · have g2 : (zk != 0) = false := by rw [hz2]; rfl
        have gg2 : (zk == 0) = true := by rw [hz2]; rfl
        go_wp2_with fail
        refine (S3.out hz2 _ HB11.out).mono ?_
        rintro e wt2 ⟨rfl, hb⟩
        have Hwt2 : Hid (Below w0.heap.size w0 wt2) := Below.on HB11.out hb
        clear hb
        clear v0 v1 v2 v3 v4 v5 p0 p1 q0 q1
        obtain ⟨_, v0, v1, v2, v3, v4, v5⟩ := HV.out.below Hwt2.out
        obtain ⟨_, p0, p1⟩ := HP.out.below Hwt2.out
        obtain ⟨_, q0, q1⟩ := HQ.out.below Hwt2.out
        go_wp2
        go_ret
        exact ⟨rfl, Below.on HB.out Hwt2.out⟩
      · have g2 : (zk != 0) = true := by simp [hz2]
        have gg2 : (zk == 0) = false := by simp [hz2]
        go_wp2
        go_ret
        exact ⟨rfl, Below.on HB.out HB11.out⟩
end Go.Proofs.YtedahdncincgjaaGreatDoor
