/- The law FnExactAceAdd, of a list that is not too long, and of one that is. -/
import Derived.Test.YtklaebcdbbgooabAceAddS
import Derived.Deep.RegionHeld3
import Derived.Deep.RegionWith
namespace Go.Proofs.Ytklaebcdbbgooab
open Go.RowKit Go.PlainAid Go.Deep
set_option linter.unusedVariables false
/-- What is known behind the making of a box that holds an answer. -/
structure PkA (w w4 : World) (a1 : Option Addr) (n c1 : Nat) (xs : List Ac) (code : Int) (X1 : Nat) (x : Ac) : Prop where
  bel : Below w.heap.size w w4
  own : OwnA a1 n xs w4
  box : Box2 w4 X1 (.slice a1 n c1) (.int .i64 code)
  five : Five w4 w.heap.size 0 x
  ain : ∀ A, a1 = some A → A.block < w4.heap.size
  xge : w.heap.size < X1
theorem pk_last {w w0 w3 : World} {a1 : Option Addr} {n c1 : Nat} {xs : List Ac} {code : Int} {x : Ac} {t : TypeId} (hB0 : Below w.heap.size w w0) (hlt : w.heap.size < w0.heap.size) (hQ : Five w0 w.heap.size 0 x) (h03 : Below w0.heap.size w0 w3) (ho : OwnA a1 n xs w3) (ha : ∀ A, a1 = some A → A.block < w3.heap.size) :
    PkA w (w3.alloc (.cells #[.slice a1 n c1, .int .i64 code] t)) a1 n c1 xs code w3.heap.size x := by
  have hb := bel_alloc w3 (.cells #[.slice a1 n c1, .int .i64 code] t)
  have hs := h03.size
  exact ⟨Below.on (Below.on hB0 h03) hb, ho.below hb, box2_new w3 _ _ t, (hQ.below hlt h03).below (by omega) hb, fun A e => Nat.lt_of_lt_of_le (ha A e) hb.size, by omega⟩
theorem pk_early {w w0 w3 : World} {a1 : Option Addr} {n c1 X : Nat} {xs : List Ac} {code : Int} {x : Ac} (hB0 : Below w.heap.size w w0) (hlt : w.heap.size < w0.heap.size) (hQ : Five w0 w.heap.size 0 x) (h03 : Below w0.heap.size w0 w3) (ho : OwnA a1 n xs w3) (ha : ∀ A, a1 = some A → X < A.block ∧ A.block < w3.heap.size) (hX : w0.heap.size ≤ X) (hx : Box2 w3 X (.slice none 0 0) (.int .i64 0)) :
    PkA w ((w3.setCell ⟨X, 0, none⟩ (.slice a1 n c1)).setCell ⟨X, 1, none⟩ (.int .i64 code)) a1 n c1 xs code X x := by
  obtain ⟨hl, c0, c1'⟩ := hx
  have hne : ∀ A, a1 = some A → X ≠ A.block := fun A e => by have := (ha A e).1; omega
  refine ⟨bl_setA (bl_setA (Below.on hB0 h03) (by omega)) (by omega), (ho.set hne).set hne, ⟨by simpa using hl, ?_, ?_⟩, ((hQ.below hlt h03).other (by omega)).other (by omega), fun A e => by simpa using (ha A e).2, by omega⟩
  · simp [go_sem, c0]
  · simp [go_sem, c1']
/-- The same, said from the world ahead. -/
structure PkB (v w4 : World) (a1 : Option Addr) (n c1 : Nat) (xs : List Ac) (code : Int) (X1 : Nat) : Prop where
  bel : Below v.heap.size v w4
  own : OwnA a1 n xs w4
  box : Box2 w4 X1 (.slice a1 n c1) (.int .i64 code)
theorem pkB_last {v w3 : World} {a1 : Option Addr} {n c1 : Nat} {xs : List Ac} {code : Int} {t : TypeId} (h03 : Below v.heap.size v w3) (ho : OwnA a1 n xs w3) :
    PkB v (w3.alloc (.cells #[.slice a1 n c1, .int .i64 code] t)) a1 n c1 xs code w3.heap.size :=
  ⟨Below.on h03 (bel_alloc _ _), ho.below (bel_alloc _ _), box2_new w3 _ _ t⟩
theorem pkB_early {v w3 : World} {a1 : Option Addr} {n c1 X : Nat} {xs : List Ac} {code : Int} (h03 : Below v.heap.size v w3) (ho : OwnA a1 n xs w3) (ha : ∀ A, a1 = some A → X < A.block ∧ A.block < w3.heap.size) (hX : v.heap.size ≤ X) (hx : Box2 w3 X (.slice none 0 0) (.int .i64 0)) :
    PkB v ((w3.setCell ⟨X, 0, none⟩ (.slice a1 n c1)).setCell ⟨X, 1, none⟩ (.int .i64 code)) a1 n c1 xs code X := by
  obtain ⟨hl, c0, c1'⟩ := hx
  have hne : ∀ A, a1 = some A → X ≠ A.block := fun A e => by have := (ha A e).1; omega
  refine ⟨bl_setA (bl_setA h03 hX) hX, (ho.set hne).set hne, ⟨by simpa using hl, ?_, ?_⟩⟩
  · simp [go_sem, c0]
  · simp [go_sem, c1']
set_option maxRecDepth 100000 in
set_option maxHeartbeats 8000000 in
theorem aceAdd_short (a : Option Addr) (len cap : Nat) (l : List Ac) (n1 : Int) (x : Ac) (hl : len ≤ 1048576) (w : World) (hi : Acs a len l w) :
    Calls Try.prog 4 #[.slice a len cap, .int .i64 n1, .agg #[.bool x.al, .int .i64 x.wh, .int .i64 x.id, .int .i64 x.fl, .int .i64 x.ma]] w fun e w' => e = .returned (.bool true) ∧ Below w.heap.size w w' := by
  have hz : Hid (∀ w, Calls Try.prog 7 #[.slice a len cap, .int .i64 1048576] w fun e w' => e = .returned (.int .i64 (1048576 - len)) ∧ w' = w) := (by
    intro w
    have := szAceS_any a len cap 1048576 (by omega) (by omega) w
    rwa [if_neg (by omega)] at this)
  have ht : Hid (∀ w', Below w.heap.size w w' → Calls Try.prog 9 #[.slice a len cap] w' fun e w'' => ∃ B, e = .returned (.slice (some ⟨B, 0, none⟩) len len) ∧ OwnA (some ⟨B, 0, none⟩) len l w'' ∧ w'.heap.size ≤ B ∧ B < w''.heap.size ∧ Below w'.heap.size w' w'') := (fun w' hb => (toAceS_any a len cap l hl w' (hi.below hb)).mono (fun e w'' ⟨h1, h2, h3, h4⟩ => ⟨_, h1, h2, Nat.le_refl _, h3, h4⟩))
  have htx : Hid (∀ w', Calls Try.prog 15 #[.agg #[.bool x.al, .int .i64 x.wh, .int .i64 x.id, .int .i64 x.fl, .int .i64 x.ma]] w' fun e w'' => e = .returned (.agg #[.bool x.al, .int .i64 x.wh, .int .i64 x.id, .int .i64 x.fl, .int .i64 x.ma]) ∧ Below w'.heap.size w' w'') := toAce_any x
  have hx : (addP l n1 x).1.length ≤ 1000 := Nat.le_trans (addP_len l n1 x) (by omega)
  have hS : Hid (∀ w' B, OwnA (some ⟨B, 0, none⟩) len l w' → Calls Try.prog 14 #[.slice (some ⟨B, 0, none⟩) len len, .int .i64 n1, .agg #[.bool x.al, .int .i64 x.wh, .int .i64 x.id, .int .i64 x.fl, .int .i64 x.ma]] w' (AnsP (addP l n1 x) w')) := (fun w' B h1 => sAceAdd_any B 0 len len l n1 x (Nat.le_refl _) hl w' h1.acs)
  have hI : Hid (∀ w' B, OwnA (some ⟨B, 0, none⟩) len l w' → Calls Try.prog 16 #[.slice (some ⟨B, 0, none⟩) len len, .int .i64 n1, .agg #[.bool x.al, .int .i64 x.wh, .int .i64 x.id, .int .i64 x.fl, .int .i64 x.ma]] w' (AnsP (addP l n1 x) w')) := (fun w' B h1 => iAceAdd_any B 0 len len l n1 x (Nat.le_refl _) hl w' h1.acs)
  generalize addP l n1 x = p at hS hI hx
  obtain ⟨xs, code⟩ := p
  have hx : xs.length ≤ 1000 := hx
  have HX : Hid (xs.length ≤ 1048576) := (by show xs.length ≤ 1048576; omega)
  have d1 : decide (1048576 - (len : Int) < 0) = false := by simp; omega
  have dk : decide (1 + 5 * (len : Int) < 0) = false := by simp; omega
  have dx : decide (1 + 5 * (xs.length : Int) < 0) = false := by simp; omega
  have HL : Hid (len ≤ 1048576) := hl
  clear hi hl hx
  have hQ0 : Hid (Five (w.alloc (.cells #[.bool x.al, .int .i64 x.wh, .int .i64 x.id, .int .i64 x.fl, .int .i64 x.ma] 31)) w.heap.size 0 x) := five_new w x 31
  have hB0 : Hid (Below w.heap.size w (w.alloc (.cells #[.bool x.al, .int .i64 x.wh, .int .i64 x.id, .int .i64 x.fl, .int .i64 x.ma] 31))) := bel_alloc _ _
  have hlt0 : Hid (w.heap.size < (w.alloc (.cells #[.bool x.al, .int .i64 x.wh, .int .i64 x.id, .int .i64 x.fl, .int .i64 x.ma] 31)).heap.size) := (by show _ < _; simp)
  go_enter Try.func4, Try.ntmps4
  go_wp2_with fail
  refine (hz.out _).mono ?_
  rintro e w0 ⟨rfl, rfl⟩
  generalize (w.alloc (.cells #[.bool x.al, .int .i64 x.wh, .int .i64 x.id, .int .i64 x.fl, .int .i64 x.ma] 31)) = w0 at hQ0 hB0 hlt0 ⊢
  go_wp2_with fail
  obtain ⟨q0, q1, q2, q3, q4⟩ := hQ0.out
  simp only [Nat.zero_add] at q1 q2 q3 q4
  go_region_held3 (fun w' => w'.cell? ⟨w.heap.size, 0, none⟩ = some (.bool x.al) ∧ w'.cell? ⟨w.heap.size, 1, none⟩ = some (.int .i64 x.wh) ∧ w'.cell? ⟨w.heap.size, 2, none⟩ = some (.int .i64 x.id) ∧ w'.cell? ⟨w.heap.size, 3, none⟩ = some (.int .i64 x.fl) ∧ w'.cell? ⟨w.heap.size, 4, none⟩ = some (.int .i64 x.ma)) (go_keep)
    (first
      | (go_at_call 9; (first
          | (refine (ht.out _ (below_drewA hB0.out)).mono ?_; rintro e w1 ⟨B1, rfl, hOw1, hgew1, hltw1, hbw1⟩; have hBw1 : Hid (Below w0.heap.size w0 w1) := below_drewZ hbw1)
          | (refine (ht.out _ (Below.onA (below_drewA hB0.out))).mono ?_; rintro e w1 ⟨B1, rfl, hOw1, hgew1, hltw1, hbw1⟩; have hBw1 : Hid (Below w0.heap.size w0 w1) := below_drewZ (Below.on (bel_alloc _ _) hbw1); have hneA : ¬ w0.heap.size = w.heap.size := (by have := hlt0.out; omega); have hnfA : ¬ w.heap.size = w0.heap.size := (fun h => hneA h.symm); have hbxAw1 : Box2 w1 w0.heap.size (.slice none 0 0) (.int .i64 0) := (box2_new w0.drew (.slice none 0 0) (.int .i64 0) 33).below hbw1; have hfxAw1 : w1.frozen? ⟨w0.heap.size, 0, none⟩ = false ∧ w1.frozen? ⟨w0.heap.size, 1, none⟩ = false := (by constructor <;> (rw [hbw1.frozen (p := ⟨w0.heap.size, _, none⟩) (by simp)]; simp [go_sem])); have hbl_Aw1 := hbxAw1.lt; have hbc_Aw1 := hbxAw1.c0; have hbd_Aw1 := hbxAw1.c1; have hbf_Aw1 := hfxAw1.1; have hbg_Aw1 := hfxAw1.2)); obtain ⟨pw10, pw11, pw12, pw13, pw14⟩ := hQ0.out.below hlt0.out hBw1.out; simp only [Nat.zero_add] at pw11 pw12 pw13 pw14)
      | (go_at_call 15; refine (htx.out _).mono ?_; rintro e w2 ⟨rfl, hbw2⟩; (first
          | (have hBw2 : Hid (Below w1.heap.size w1 w2) := hbw2; try (have hbxAw2 : Box2 w2 w0.heap.size (.slice none 0 0) (.int .i64 0) := hbxAw1.below hbw2; have hfxAw2 : w2.frozen? ⟨w0.heap.size, 0, none⟩ = false ∧ w2.frozen? ⟨w0.heap.size, 1, none⟩ = false := ⟨(hbw2.frozen (p := ⟨w0.heap.size, 0, none⟩) hbxAw1.lt).trans hfxAw1.1, (hbw2.frozen (p := ⟨w0.heap.size, 1, none⟩) hbxAw1.lt).trans hfxAw1.2⟩; have hbl_Aw2 := hbxAw2.lt; have hbc_Aw2 := hbxAw2.c0; have hbd_Aw2 := hbxAw2.c1; have hbf_Aw2 := hfxAw2.1; have hbg_Aw2 := hfxAw2.2))
          | (have hBw2 : Hid (Below w1.heap.size w1 w2) := Below.on (bel_alloc _ _) hbw2; have hneB : ¬ w1.heap.size = w.heap.size := (by have := hlt0.out; have h2 := hBw1.out.size; omega); have hnfB : ¬ w.heap.size = w1.heap.size := (fun h => hneB h.symm); have hbxBw2 : Box2 w2 w1.heap.size (.slice none 0 0) (.int .i64 0) := (box2_new w1 (.slice none 0 0) (.int .i64 0) 33).below hbw2; have hfxBw2 : w2.frozen? ⟨w1.heap.size, 0, none⟩ = false ∧ w2.frozen? ⟨w1.heap.size, 1, none⟩ = false := (by constructor <;> (rw [hbw2.frozen (p := ⟨w1.heap.size, _, none⟩) (by simp)]; simp [go_sem])); have hbl_Bw2 := hbxBw2.lt; have hbc_Bw2 := hbxBw2.c0; have hbd_Bw2 := hbxBw2.c1; have hbf_Bw2 := hfxBw2.1; have hbg_Bw2 := hfxBw2.2)); obtain ⟨pw20, pw21, pw22, pw23, pw24⟩ := hQ0.out.below hlt0.out (Below.on hBw1.out hBw2.out); simp only [Nat.zero_add] at pw21 pw22 pw23 pw24)
      | (go_at_call 14; (first
          | (refine (hS.out _ B1 (hOw1.below hBw2.out)).mono ?_; intro e w3 hA; obtain ⟨a1, c1, rfl, hN⟩ := AnsN.out hA; have hbw3 := hN.bel; have hBw3 : Hid (Below w2.heap.size w2 w3) := hbw3; (try (have hbxAw3 : Box2 w3 w0.heap.size (.slice none 0 0) (.int .i64 0) := hbxAw2.below hbw3; have hfxAw3 : w3.frozen? ⟨w0.heap.size, 0, none⟩ = false ∧ w3.frozen? ⟨w0.heap.size, 1, none⟩ = false := ⟨(hbw3.frozen (p := ⟨w0.heap.size, 0, none⟩) hbxAw2.lt).trans hfxAw2.1, (hbw3.frozen (p := ⟨w0.heap.size, 1, none⟩) hbxAw2.lt).trans hfxAw2.2⟩; have hbl_Aw3 := hbxAw3.lt; have hbc_Aw3 := hbxAw3.c0; have hbd_Aw3 := hbxAw3.c1; have hbf_Aw3 := hfxAw3.1; have hbg_Aw3 := hfxAw3.2)); (try (have hbxBw3 : Box2 w3 w1.heap.size (.slice none 0 0) (.int .i64 0) := hbxBw2.below hbw3; have hfxBw3 : w3.frozen? ⟨w1.heap.size, 0, none⟩ = false ∧ w3.frozen? ⟨w1.heap.size, 1, none⟩ = false := ⟨(hbw3.frozen (p := ⟨w1.heap.size, 0, none⟩) hbxBw2.lt).trans hfxBw2.1, (hbw3.frozen (p := ⟨w1.heap.size, 1, none⟩) hbxBw2.lt).trans hfxBw2.2⟩; have hbl_Bw3 := hbxBw3.lt; have hbc_Bw3 := hbxBw3.c0; have hbd_Bw3 := hbxBw3.c1; have hbf_Bw3 := hfxBw3.1; have hbg_Bw3 := hfxBw3.2)))
          | (refine (hS.out _ B1 ((hOw1.below hBw2.out).below (bel_alloc _ _))).mono ?_; intro e w3 hA; obtain ⟨a1, c1, rfl, hN⟩ := AnsN.out hA; have hbw3 := hN.bel; have hBw3 : Hid (Below w2.heap.size w2 w3) := Below.on (bel_alloc _ _) hbw3; have hneC : ¬ w2.heap.size = w.heap.size := (by have := hlt0.out; have h2 := hBw1.out.size; have h3 := hBw2.out.size; omega); have hnfC : ¬ w.heap.size = w2.heap.size := (fun h => hneC h.symm); have hbxCw3 : Box2 w3 w2.heap.size (.slice none 0 0) (.int .i64 0) := (box2_new w2 (.slice none 0 0) (.int .i64 0) 33).below hbw3; have hfxCw3 : w3.frozen? ⟨w2.heap.size, 0, none⟩ = false ∧ w3.frozen? ⟨w2.heap.size, 1, none⟩ = false := (by constructor <;> (rw [hbw3.frozen (p := ⟨w2.heap.size, _, none⟩) (by simp)]; simp [go_sem])); have hbl_Cw3 := hbxCw3.lt; have hbc_Cw3 := hbxCw3.c0; have hbd_Cw3 := hbxCw3.c1; have hbf_Cw3 := hfxCw3.1; have hbg_Cw3 := hfxCw3.2)); obtain ⟨pw30, pw31, pw32, pw33, pw34⟩ := hQ0.out.below hlt0.out (Below.on hBw1.out (Below.on hBw2.out hBw3.out)); simp only [Nat.zero_add] at pw31 pw32 pw33 pw34))
  all_goals (
    have h03 : Below w0.heap.size w0 w3 := Below.on hBw1.out (Below.on hBw2.out hBw3.out)
    first
      | (have hPK : Hid (PkA w ((w3.setCell ⟨w2.heap.size, 0, none⟩ (.slice a1 xs.length c1)).setCell ⟨w2.heap.size, 1, none⟩ (.int .i64 code)) a1 xs.length c1 xs code w2.heap.size x) := pk_early hB0.out hlt0.out hQ0.out h03 hN.own (fun A e => by have h1 := hN.inn A e; simp at h1; omega) ((Below.on hBw1.out hBw2.out).size) hbxCw3
         generalize ((w3.setCell ⟨w2.heap.size, 0, none⟩ (.slice a1 xs.length c1)).setCell ⟨w2.heap.size, 1, none⟩ (.int .i64 code)) = w4 at hPK ⊢
         generalize w2.heap.size = X1 at hPK ⊢)
      | (have hPK : Hid (PkA w ((w3.setCell ⟨w1.heap.size, 0, none⟩ (.slice a1 xs.length c1)).setCell ⟨w1.heap.size, 1, none⟩ (.int .i64 code)) a1 xs.length c1 xs code w1.heap.size x) := pk_early hB0.out hlt0.out hQ0.out h03 hN.own (fun A e => by have h1 := hN.inn A e; have h2 := hbxBw2.lt; omega) (hBw1.out.size) hbxBw3
         generalize ((w3.setCell ⟨w1.heap.size, 0, none⟩ (.slice a1 xs.length c1)).setCell ⟨w1.heap.size, 1, none⟩ (.int .i64 code)) = w4 at hPK ⊢
         generalize w1.heap.size = X1 at hPK ⊢)
      | (have hPK : Hid (PkA w ((w3.setCell ⟨w0.heap.size, 0, none⟩ (.slice a1 xs.length c1)).setCell ⟨w0.heap.size, 1, none⟩ (.int .i64 code)) a1 xs.length c1 xs code w0.heap.size x) := pk_early hB0.out hlt0.out hQ0.out h03 hN.own (fun A e => by have h1 := hN.inn A e; have h2 := hbxAw2.lt; omega) (Nat.le_refl _) hbxAw3
         generalize ((w3.setCell ⟨w0.heap.size, 0, none⟩ (.slice a1 xs.length c1)).setCell ⟨w0.heap.size, 1, none⟩ (.int .i64 code)) = w4 at hPK ⊢
         generalize w0.heap.size = X1 at hPK ⊢)
      | (have hPK : Hid (PkA w (w3.alloc (.cells #[.slice a1 xs.length c1, .int .i64 code] 33)) a1 xs.length c1 xs code w3.heap.size x) := pk_last hB0.out hlt0.out hQ0.out h03 hN.own (fun A e => (hN.inn A e).2)
         generalize (w3.alloc (.cells #[.slice a1 xs.length c1, .int .i64 code] 33)) = w4 at hPK ⊢
         generalize w3.heap.size = X1 at hPK ⊢)
    obtain ⟨hbel, hown, hV2, hQ2, hain, hxge⟩ := hPK.out
    have hW2 : Hid (Below w.heap.size w w4) := hbel
    have HS2 : Hid (OwnA a1 xs.length xs w4) := hown
    have IW : Hid ((∀ A, a1 = some A → A.block < w4.heap.size) ∧ w.heap.size < X1) := ⟨hain, hxge⟩
    have hql : w.heap.size < w4.heap.size := Nat.lt_trans hxge hV2.lt
    clear hbel hown hain hxge hPK h03 hA hN hBw1 hBw2 hBw3 hbw1 hbw2 hbw3 hOw1 hgew1 hltw1 pw10 pw11 pw12 pw13 pw14 pw20 pw21 pw22 pw23 pw24 pw30 pw31 pw32 pw33 pw34 q0 q1 q2 q3 q4 hB0 hQ0 hlt0
    try clear hneA hnfA hbxAw1 hfxAw1 hbl_Aw1 hbc_Aw1 hbd_Aw1 hbf_Aw1 hbg_Aw1 hbxAw2 hfxAw2 hbl_Aw2 hbc_Aw2 hbd_Aw2 hbf_Aw2 hbg_Aw2 hbxAw3 hfxAw3 hbl_Aw3 hbc_Aw3 hbd_Aw3 hbf_Aw3 hbg_Aw3
    try clear hneB hnfB hbxBw2 hfxBw2 hbl_Bw2 hbc_Bw2 hbd_Bw2 hbf_Bw2 hbg_Bw2 hbxBw3 hfxBw3 hbl_Bw3 hbc_Bw3 hbd_Bw3 hbf_Bw3 hbg_Bw3
    try clear hneC hnfC hbxCw3 hfxCw3 hbl_Cw3 hbc_Cw3 hbd_Cw3 hbf_Cw3 hbg_Cw3
    go_wp2_with fail
    refine (ht.out _ hW2.out).mono ?_
    rintro e w5 ⟨B3, rfl, hO3, hB3, hB3', hb3⟩
    have hW3 : Hid (Below w.heap.size w w5) := Below.on hW2.out hb3
    have HO3 : Hid (OwnA (some ⟨B3, 0, none⟩) len l w5) := hO3
    have HS3 : Hid (OwnA a1 xs.length xs w5) := HS2.out.below hb3
    have hV3 := hV2.below hb3
    have hQ3 := hQ2.below hql hb3
    have hql3 : w.heap.size < w5.heap.size := Nat.lt_of_lt_of_le hql hb3.size
    have IX : Hid ((∀ A, a1 = some A → A.block < B3) ∧ w.heap.size < X1 ∧ X1 < B3) := ⟨fun A e => Nat.lt_of_lt_of_le (IW.out.1 A e) hB3, IW.out.2, Nat.lt_of_lt_of_le hV2.lt hB3⟩
    have IZ : Hid (B3 < w5.heap.size) := hB3'
    clear hb3 hO3 hW2 HS2 IW hB3 hB3' hV2 hQ2 hql
    obtain ⟨q0, q1, q2, q3, q4⟩ := hQ3
    simp only [Nat.zero_add] at q1 q2 q3 q4
    go_wp2_with fail
    refine (htx.out _).mono ?_
    rintro e w6 ⟨rfl, hb6⟩
    have hW6 : Hid (Below w.heap.size w w6) := Below.on hW3.out hb6
    have HO6 : Hid (OwnA (some ⟨B3, 0, none⟩) len l w6) := HO3.out.below hb6
    have HS6 : Hid (OwnA a1 xs.length xs w6) := HS3.out.below hb6
    have hV6 := hV3.below hb6
    have hQ6 : Five w6 w.heap.size 0 x := (Five.mk q0 (by simpa using q1) (by simpa using q2) (by simpa using q3) (by simpa using q4) : Five w5 w.heap.size 0 x).below hql3 hb6
    have hql6 : w.heap.size < w6.heap.size := Nat.lt_of_lt_of_le hql3 hb6.size
    have IZ6 : Hid (B3 < w6.heap.size) := Nat.lt_of_lt_of_le IZ.out hb6.size
    clear hb6 q0 q1 q2 q3 q4 hW3 HO3 HS3 hV3 hql3 IZ
    go_wp2_with fail
    refine (hI.out _ B3 HO6.out).mono ?_
    intro e w7 hA
    obtain ⟨b1, f1, rfl, hN⟩ := AnsN.out hA
    have hb4 := bel_alloc w7 (.cells #[.slice b1 xs.length f1, .int .i64 code] 33)
    have hR4 := box2_new w7 (.slice b1 xs.length f1) (.int .i64 code) 33
    have hV4 := (hV6.below hN.bel).below hb4
    have hQ4 := (hQ6.below hql6 hN.bel).below (Nat.lt_of_lt_of_le hql6 hN.bel.size) hb4
    have hql4 : w.heap.size < (w7.alloc (.cells #[.slice b1 xs.length f1, .int .i64 code] 33)).heap.size := Nat.lt_of_lt_of_le (Nat.lt_of_lt_of_le hql6 hN.bel.size) hb4.size
    have hW4 : Hid (Below w.heap.size w (w7.alloc (.cells #[.slice b1 xs.length f1, .int .i64 code] 33))) := Below.on (Below.on hW6.out hN.bel) hb4
    have HO4 : Hid (OwnA (some ⟨B3, 0, none⟩) len l (w7.alloc (.cells #[.slice b1 xs.length f1, .int .i64 code] 33))) := (HO6.out.below hN.bel).below hb4
    have HS4 : Hid (OwnA a1 xs.length xs (w7.alloc (.cells #[.slice b1 xs.length f1, .int .i64 code] 33))) := (HS6.out.below hN.bel).below hb4
    have HG4 : Hid (OwnA b1 xs.length xs (w7.alloc (.cells #[.slice b1 xs.length f1, .int .i64 code] 33))) := hN.own.below hb4
    have IG : Hid ((∀ A, b1 = some A → B3 < A.block ∧ A.block < w7.heap.size) ∧ B3 < w7.heap.size) := ⟨fun A e => ⟨Nat.lt_of_lt_of_le IZ6.out (hN.inn A e).1, (hN.inn A e).2⟩, Nat.lt_of_lt_of_le IZ6.out hN.bel.size⟩
    obtain ⟨vl, v0, v1⟩ := hV6.below hN.bel
    clear hA hN hW6 HO6 HS6 IZ6 hb4 hV6 hQ6 hql6
    go_wp2_with fail
    refine (eqNfsOut_any _ _ xs.length _ _ code xs HX.out _ HG4.out.acs HS4.out.acs).mono ?_
    rintro e w8 ⟨rfl, hb5⟩
    have hW5 : Hid (Below w.heap.size w w8) := Below.on hW4.out hb5
    have HO5 : Hid (OwnA (some ⟨B3, 0, none⟩) len l w8) := HO4.out.below hb5
    have HS5 : Hid (OwnA a1 xs.length xs w8) := HS4.out.below hb5
    have HG5 : Hid (OwnA b1 xs.length xs w8) := HG4.out.below hb5
    have hV5 := hV4.below hb5
    have hR5 := hR4.below hb5
    have hQ5 := hQ4.below hql4 hb5
    have hql5 : w.heap.size < w8.heap.size := Nat.lt_of_lt_of_le hql4 hb5.size
    clear hb5 hW4 HO4 HS4 HG4 vl v0 v1 hV4 hR4 hQ4 hql4
    generalize w7.heap.size = X2 at hR5 IG ⊢
    go_wp2_with fail
    refine (ht.out _ hW5.out).mono ?_
    rintro e w9 ⟨B6, rfl, hO6, _, _, hb6⟩
    have hW6 : Hid (Below w.heap.size w w9) := Below.on hW5.out hb6
    have HO6 : Hid (OwnA (some ⟨B3, 0, none⟩) len l w9) := HO5.out.below hb6
    have HS6 : Hid (OwnA a1 xs.length xs w9) := HS5.out.below hb6
    have HG6 : Hid (OwnA b1 xs.length xs w9) := HG5.out.below hb6
    have HT6 : Hid (OwnA (some ⟨B6, 0, none⟩) len l w9) := hO6
    have hV6 := hV5.below hb6
    have hR6 := hR5.below hb6
    have hQ6 := hQ5.below hql5 hb6
    have hql6 : w.heap.size < w9.heap.size := Nat.lt_of_lt_of_le hql5 hb6.size
    clear hb6 hO6 hW5 HO5 HS5 HG5 hV5 hR5 hQ5 hql5
    go_wp2_with fail
    refine (eqAceS_any _ _ len _ _ l HL.out _ HO6.out.acs HT6.out.acs).mono ?_
    rintro e w10 ⟨rfl, hb7⟩
    have hW7 : Hid (Below w.heap.size w w10) := Below.on hW6.out hb7
    have HO7 : Hid (OwnA (some ⟨B3, 0, none⟩) len l w10) := HO6.out.below hb7
    have HS7 : Hid (OwnA a1 xs.length xs w10) := HS6.out.below hb7
    have HG7 : Hid (OwnA b1 xs.length xs w10) := HG6.out.below hb7
    have hV7 := hV6.below hb7
    have hR7 := hR6.below hb7
    have hQ7 := hQ6.below hql6 hb7
    have hql7 : w.heap.size < w10.heap.size := Nat.lt_of_lt_of_le hql6 hb7.size
    clear hb7 hW6 HO6 HS6 HG6 HT6 hV6 hR6 hQ6 hql6
    go_wp2_with fail
    refine (markAceS_any _ len _ 1 l (by omega) (by omega) HL.out _ HO7.out).mono ?_
    rintro e w11 ⟨rfl, _, hM⟩
    have hW8 : Hid (Below w.heap.size w w11) := hW7.out.trans (hM.below _ (fun A e => by cases e; have := IX.out.2; dsimp only; omega))
    have HS8 : Hid (OwnA a1 xs.length xs w11) := hM.own HS7.out (fun A A2 e e2 => by cases e; have := IX.out.1 A2 e2; have h2 := IX.out.2; dsimp only; omega)
    have HG8 : Hid (OwnA b1 xs.length xs w11) := hM.own HG7.out (fun A A2 e e2 => by cases e; have := IG.out.1 A2 e2; dsimp only; omega)
    have hV8 := hV7.keep (by rw [hM.size]; exact hV7.lt) (fun o => (hM.cell X1 o (fun A e => by cases e; have := IX.out.2; dsimp only; omega)).1)
    have hR8 := hR7.keep (by rw [hM.size]; exact hR7.lt) (fun o => (hM.cell X2 o (fun A e => by cases e; have := IG.out.2; dsimp only; omega)).1)
    have hQ8 := hQ7.keep (fun o => (hM.cell w.heap.size o (fun A e => by cases e; have := IX.out.2; dsimp only; omega)).1)
    have hql8 : w.heap.size < w11.heap.size := by rw [hM.size]; exact hql7
    clear hM hW7 HO7 HS7 HG7 hV7 hR7 hQ7 hql7
    obtain ⟨vl, v0, v1⟩ := hV8
    obtain ⟨zl, z0, z1⟩ := hR8
    go_wp2_with fail
    refine (eqNfsOut_any _ _ xs.length _ _ code xs HX.out _ HG8.out.acs HS8.out.acs).mono ?_
    rintro e w12 ⟨rfl, hb9⟩
    have hW9 : Hid (Below w.heap.size w w12) := Below.on hW8.out hb9
    have HS9 : Hid (OwnA a1 xs.length xs w12) := HS8.out.below hb9
    have HG9 : Hid (OwnA b1 xs.length xs w12) := HG8.out.below hb9
    have hV9 := (Box2.mk vl v0 v1).below hb9
    have hR9 := (Box2.mk zl z0 z1).below hb9
    have hQ9 := hQ8.below hql8 hb9
    have hql9 : w.heap.size < w12.heap.size := Nat.lt_of_lt_of_le hql8 hb9.size
    clear hb9 hW8 HS8 HG8 vl v0 v1 zl z0 z1 hQ8 hql8
    obtain ⟨zl, z0, z1⟩ := hR9
    go_wp2_with fail
    refine (markNfsOut_any _ xs.length _ code 1 xs (by omega) (by omega) HX.out _ HG9.out (fun A e => Nat.lt_trans (IG.out.1 A e).2 zl)).mono ?_
    rintro e w13 ⟨rfl, hm1, hMs, hMb, hMc⟩
    have hW10 : Hid (Below w.heap.size w w13) := hW9.out.trans (hMb _ hW9.out.size (fun A e => by have h1 := IG.out.1 A e; have h2 := IX.out.2; omega))
    have HS10 : Hid (OwnA a1 xs.length xs w13) := ⟨HS9.out.1, fun h0 => by
      obtain ⟨B, ha, hlt, hp⟩ := HS9.out.2 h0
      have hb : ∀ A, b1 = some A → B ≠ A.block := fun A e => by have h1 := IG.out.1 A e; have h2 := IX.out.1 _ ha; have h3 := IX.out.2; dsimp only at h2; omega
      exact ⟨B, ha, Nat.lt_of_lt_of_le hlt hMs, fun i hi => ⟨(hp i hi).1.keep (fun j => (hMc B j hlt hb).1), (hp i hi).2.keep (fun j => (hMc B j hlt hb).2)⟩⟩⟩
    have HM10 : Hid (OwnA b1 xs.length (marksA 1 xs.length) w13) := hm1
    have hV10 := hV9.keep (Nat.lt_of_lt_of_le hV9.lt hMs) (fun o => (hMc X1 o hV9.lt (fun A e => by have h1 := IG.out.1 A e; have h2 := IX.out.2; omega)).1)
    have hR10 := (Box2.mk zl z0 z1).keep (Nat.lt_of_lt_of_le zl hMs) (fun o => (hMc X2 o zl (fun A e => by have h1 := IG.out.1 A e; omega)).1)
    have hQ10 := hQ9.keep (fun o => (hMc w.heap.size o hql9 (fun A e => by have h1 := IG.out.1 A e; have h2 := IX.out.2; omega)).1)
    have hql10 : w.heap.size < w13.heap.size := Nat.lt_of_lt_of_le hql9 hMs
    clear hMs hMb hMc hm1 hW9 HS9 HG9 hV9 zl z0 z1 hQ9 hql9
    obtain ⟨zl, z0, z1⟩ := hR10
    go_wp2_with fail
    refine (heldNfsOut_any _ xs.length _ code 1 (by omega) (by omega) HX.out _ HM10.out).mono ?_
    rintro e v0 ⟨rfl, hb11⟩
    have hB0 : Hid (Below w.heap.size w v0) := Below.on hW10.out hb11
    have HS11 : Hid (OwnA a1 xs.length xs v0) := HS10.out.below hb11
    have HM11 : Hid (OwnA b1 xs.length (marksA 1 xs.length) v0) := HM10.out.below hb11
    have hV11 : Hid (Box2 v0 X1 (.slice a1 xs.length c1) (.int .i64 code)) := hV10.below hb11
    have hR11 : Hid (Box2 v0 X2 (.slice b1 xs.length f1) (.int .i64 code)) := (Box2.mk zl z0 z1).below hb11
    have hQ0 : Hid (Five v0 w.heap.size 0 x) := hQ10.below hql10 hb11
    have hlt0 : Hid (w.heap.size < v0.heap.size) := Nat.lt_of_lt_of_le hql10 hb11.size
    clear hb11 hW10 HS10 HM10 hV10 zl z0 z1 hQ10 hql10
    go_wp2_with fail
    obtain ⟨q0, q1, q2, q3, q4⟩ := hQ0.out
    simp only [Nat.zero_add] at q1 q2 q3 q4
    go_region_held3 (fun w' => w'.cell? ⟨w.heap.size, 0, none⟩ = some (.bool x.al) ∧ w'.cell? ⟨w.heap.size, 1, none⟩ = some (.int .i64 x.wh) ∧ w'.cell? ⟨w.heap.size, 2, none⟩ = some (.int .i64 x.id) ∧ w'.cell? ⟨w.heap.size, 3, none⟩ = some (.int .i64 x.fl) ∧ w'.cell? ⟨w.heap.size, 4, none⟩ = some (.int .i64 x.ma)) (go_keep)
      (first
        | (go_at_call 9; (first
            | (refine (ht.out _ (below_drewA hB0.out)).mono ?_; rintro e v1 ⟨B7, rfl, hOv1, hgev1, hltv1, hbv1⟩; have hBv1 : Hid (Below v0.heap.size v0 v1) := below_drewZ hbv1)
            | (refine (ht.out _ (Below.onA (below_drewA hB0.out))).mono ?_; rintro e v1 ⟨B7, rfl, hOv1, hgev1, hltv1, hbv1⟩; have hBv1 : Hid (Below v0.heap.size v0 v1) := below_drewZ (Below.on (bel_alloc _ _) hbv1); have hneA : ¬ v0.heap.size = w.heap.size := (by have := hlt0.out; omega); have hnfA : ¬ w.heap.size = v0.heap.size := (fun h => hneA h.symm); have hbxAv1 : Box2 v1 v0.heap.size (.slice none 0 0) (.int .i64 0) := (box2_new v0.drew (.slice none 0 0) (.int .i64 0) 33).below hbv1; have hfxAv1 : v1.frozen? ⟨v0.heap.size, 0, none⟩ = false ∧ v1.frozen? ⟨v0.heap.size, 1, none⟩ = false := (by constructor <;> (rw [hbv1.frozen (p := ⟨v0.heap.size, _, none⟩) (by simp)]; simp [go_sem])); have hbl_Av1 := hbxAv1.lt; have hbc_Av1 := hbxAv1.c0; have hbd_Av1 := hbxAv1.c1; have hbf_Av1 := hfxAv1.1; have hbg_Av1 := hfxAv1.2)); obtain ⟨pv10, pv11, pv12, pv13, pv14⟩ := hQ0.out.below hlt0.out hBv1.out; simp only [Nat.zero_add] at pv11 pv12 pv13 pv14)
        | (go_at_call 15; refine (htx.out _).mono ?_; rintro e v2 ⟨rfl, hbv2⟩; (first
            | (have hBv2 : Hid (Below v1.heap.size v1 v2) := hbv2; try (have hbxAv2 : Box2 v2 v0.heap.size (.slice none 0 0) (.int .i64 0) := hbxAv1.below hbv2; have hfxAv2 : v2.frozen? ⟨v0.heap.size, 0, none⟩ = false ∧ v2.frozen? ⟨v0.heap.size, 1, none⟩ = false := ⟨(hbv2.frozen (p := ⟨v0.heap.size, 0, none⟩) hbxAv1.lt).trans hfxAv1.1, (hbv2.frozen (p := ⟨v0.heap.size, 1, none⟩) hbxAv1.lt).trans hfxAv1.2⟩; have hbl_Av2 := hbxAv2.lt; have hbc_Av2 := hbxAv2.c0; have hbd_Av2 := hbxAv2.c1; have hbf_Av2 := hfxAv2.1; have hbg_Av2 := hfxAv2.2))
            | (have hBv2 : Hid (Below v1.heap.size v1 v2) := Below.on (bel_alloc _ _) hbv2; have hneB : ¬ v1.heap.size = w.heap.size := (by have := hlt0.out; have h2 := hBv1.out.size; omega); have hnfB : ¬ w.heap.size = v1.heap.size := (fun h => hneB h.symm); have hbxBv2 : Box2 v2 v1.heap.size (.slice none 0 0) (.int .i64 0) := (box2_new v1 (.slice none 0 0) (.int .i64 0) 33).below hbv2; have hfxBv2 : v2.frozen? ⟨v1.heap.size, 0, none⟩ = false ∧ v2.frozen? ⟨v1.heap.size, 1, none⟩ = false := (by constructor <;> (rw [hbv2.frozen (p := ⟨v1.heap.size, _, none⟩) (by simp)]; simp [go_sem])); have hbl_Bv2 := hbxBv2.lt; have hbc_Bv2 := hbxBv2.c0; have hbd_Bv2 := hbxBv2.c1; have hbf_Bv2 := hfxBv2.1; have hbg_Bv2 := hfxBv2.2)); obtain ⟨pv20, pv21, pv22, pv23, pv24⟩ := hQ0.out.below hlt0.out (Below.on hBv1.out hBv2.out); simp only [Nat.zero_add] at pv21 pv22 pv23 pv24)
        | (go_at_call 16; (first
            | (refine (hI.out _ B7 (hOv1.below hBv2.out)).mono ?_; intro e v3 hA; obtain ⟨d1, g1, rfl, hN⟩ := AnsN.out hA; have hbv3 := hN.bel; have hBv3 : Hid (Below v2.heap.size v2 v3) := hbv3; (try (have hbxAv3 : Box2 v3 v0.heap.size (.slice none 0 0) (.int .i64 0) := hbxAv2.below hbv3; have hfxAv3 : v3.frozen? ⟨v0.heap.size, 0, none⟩ = false ∧ v3.frozen? ⟨v0.heap.size, 1, none⟩ = false := ⟨(hbv3.frozen (p := ⟨v0.heap.size, 0, none⟩) hbxAv2.lt).trans hfxAv2.1, (hbv3.frozen (p := ⟨v0.heap.size, 1, none⟩) hbxAv2.lt).trans hfxAv2.2⟩; have hbl_Av3 := hbxAv3.lt; have hbc_Av3 := hbxAv3.c0; have hbd_Av3 := hbxAv3.c1; have hbf_Av3 := hfxAv3.1; have hbg_Av3 := hfxAv3.2)); (try (have hbxBv3 : Box2 v3 v1.heap.size (.slice none 0 0) (.int .i64 0) := hbxBv2.below hbv3; have hfxBv3 : v3.frozen? ⟨v1.heap.size, 0, none⟩ = false ∧ v3.frozen? ⟨v1.heap.size, 1, none⟩ = false := ⟨(hbv3.frozen (p := ⟨v1.heap.size, 0, none⟩) hbxBv2.lt).trans hfxBv2.1, (hbv3.frozen (p := ⟨v1.heap.size, 1, none⟩) hbxBv2.lt).trans hfxBv2.2⟩; have hbl_Bv3 := hbxBv3.lt; have hbc_Bv3 := hbxBv3.c0; have hbd_Bv3 := hbxBv3.c1; have hbf_Bv3 := hfxBv3.1; have hbg_Bv3 := hfxBv3.2)))
            | (refine (hI.out _ B7 ((hOv1.below hBv2.out).below (bel_alloc _ _))).mono ?_; intro e v3 hA; obtain ⟨d1, g1, rfl, hN⟩ := AnsN.out hA; have hbv3 := hN.bel; have hBv3 : Hid (Below v2.heap.size v2 v3) := Below.on (bel_alloc _ _) hbv3; have hneC : ¬ v2.heap.size = w.heap.size := (by have := hlt0.out; have h2 := hBv1.out.size; have h3 := hBv2.out.size; omega); have hnfC : ¬ w.heap.size = v2.heap.size := (fun h => hneC h.symm); have hbxCv3 : Box2 v3 v2.heap.size (.slice none 0 0) (.int .i64 0) := (box2_new v2 (.slice none 0 0) (.int .i64 0) 33).below hbv3; have hfxCv3 : v3.frozen? ⟨v2.heap.size, 0, none⟩ = false ∧ v3.frozen? ⟨v2.heap.size, 1, none⟩ = false := (by constructor <;> (rw [hbv3.frozen (p := ⟨v2.heap.size, _, none⟩) (by simp)]; simp [go_sem])); have hbl_Cv3 := hbxCv3.lt; have hbc_Cv3 := hbxCv3.c0; have hbd_Cv3 := hbxCv3.c1; have hbf_Cv3 := hfxCv3.1; have hbg_Cv3 := hfxCv3.2)); obtain ⟨pv30, pv31, pv32, pv33, pv34⟩ := hQ0.out.below hlt0.out (Below.on hBv1.out (Below.on hBv2.out hBv3.out)); simp only [Nat.zero_add] at pv31 pv32 pv33 pv34))
    all_goals (
      have h03 : Below v0.heap.size v0 v3 := Below.on hBv1.out (Below.on hBv2.out hBv3.out)
      first
        | (have hPK : Hid (PkB v0 ((v3.setCell ⟨v2.heap.size, 0, none⟩ (.slice d1 xs.length g1)).setCell ⟨v2.heap.size, 1, none⟩ (.int .i64 code)) d1 xs.length g1 xs code v2.heap.size) := pkB_early h03 hN.own (fun A e => by have h1 := hN.inn A e; simp at h1; omega) ((Below.on hBv1.out hBv2.out).size) hbxCv3
           generalize ((v3.setCell ⟨v2.heap.size, 0, none⟩ (.slice d1 xs.length g1)).setCell ⟨v2.heap.size, 1, none⟩ (.int .i64 code)) = v4 at hPK ⊢
           generalize v2.heap.size = X3 at hPK ⊢)
        | (have hPK : Hid (PkB v0 ((v3.setCell ⟨v1.heap.size, 0, none⟩ (.slice d1 xs.length g1)).setCell ⟨v1.heap.size, 1, none⟩ (.int .i64 code)) d1 xs.length g1 xs code v1.heap.size) := pkB_early h03 hN.own (fun A e => by have h1 := hN.inn A e; have h2 := hbxBv2.lt; omega) (hBv1.out.size) hbxBv3
           generalize ((v3.setCell ⟨v1.heap.size, 0, none⟩ (.slice d1 xs.length g1)).setCell ⟨v1.heap.size, 1, none⟩ (.int .i64 code)) = v4 at hPK ⊢
           generalize v1.heap.size = X3 at hPK ⊢)
        | (have hPK : Hid (PkB v0 ((v3.setCell ⟨v0.heap.size, 0, none⟩ (.slice d1 xs.length g1)).setCell ⟨v0.heap.size, 1, none⟩ (.int .i64 code)) d1 xs.length g1 xs code v0.heap.size) := pkB_early h03 hN.own (fun A e => by have h1 := hN.inn A e; have h2 := hbxAv2.lt; omega) (Nat.le_refl _) hbxAv3
           generalize ((v3.setCell ⟨v0.heap.size, 0, none⟩ (.slice d1 xs.length g1)).setCell ⟨v0.heap.size, 1, none⟩ (.int .i64 code)) = v4 at hPK ⊢
           generalize v0.heap.size = X3 at hPK ⊢)
        | (have hPK : Hid (PkB v0 (v3.alloc (.cells #[.slice d1 xs.length g1, .int .i64 code] 33)) d1 xs.length g1 xs code v3.heap.size) := pkB_last h03 hN.own
           generalize (v3.alloc (.cells #[.slice d1 xs.length g1, .int .i64 code] 33)) = v4 at hPK ⊢
           generalize v3.heap.size = X3 at hPK ⊢)
      have hbb := hPK.out.bel
      have HH12 : Hid (OwnA d1 xs.length xs v4) := hPK.out.own
      obtain ⟨yl, y0, y1⟩ := hPK.out.box
      have HS12 : Hid (OwnA a1 xs.length xs v4) := HS11.out.below hbb
      have HM12 : Hid (OwnA b1 xs.length (marksA 1 xs.length) v4) := HM11.out.below hbb
      obtain ⟨ul, u0, u1⟩ := hV11.out.below hbb
      have hR12 := hR11.out.below hbb
      have hW12 : Hid (Below w.heap.size w v4) := Below.on hB0.out hbb
      clear hbb hPK h03 hA hN hBv1 hBv2 hBv3 hbv1 hbv2 hbv3 hOv1 hgev1 hltv1 pv10 pv11 pv12 pv13 pv14 pv20 pv21 pv22 pv23 pv24 pv30 pv31 pv32 pv33 pv34 q0 q1 q2 q3 q4 hB0 hQ0 hlt0 HS11 HM11 hV11 hR11
      try clear hneA hnfA hbxAv1 hfxAv1 hbl_Av1 hbc_Av1 hbd_Av1 hbf_Av1 hbg_Av1 hbxAv2 hfxAv2 hbl_Av2 hbc_Av2 hbd_Av2 hbf_Av2 hbg_Av2 hbxAv3 hfxAv3 hbl_Av3 hbc_Av3 hbd_Av3 hbf_Av3 hbg_Av3
      try clear hneB hnfB hbxBv2 hfxBv2 hbl_Bv2 hbc_Bv2 hbd_Bv2 hbf_Bv2 hbg_Bv2 hbxBv3 hfxBv3 hbl_Bv3 hbc_Bv3 hbd_Bv3 hbf_Bv3 hbg_Bv3
      try clear hneC hnfC hbxCv3 hfxCv3 hbl_Cv3 hbc_Cv3 hbd_Cv3 hbf_Cv3 hbg_Cv3
      go_wp2_with fail
      refine (eqNfsOut_any _ _ xs.length _ _ code xs HX.out _ HH12.out.acs HS12.out.acs).mono ?_
      rintro e v5 ⟨rfl, hb14⟩
      have hW14 : Hid (Below w.heap.size w v5) := Below.on hW12.out hb14
      have HM14 : Hid (OwnA b1 xs.length (marksA 1 xs.length) v5) := HM12.out.below hb14
      obtain ⟨zl, z0, z1⟩ := hR12.below hb14
      clear hb14 hW12 HS12 HM12 HH12 hR12 yl y0 y1 ul u0 u1
      go_wp2_with fail
      refine (heldNfsOut_any _ xs.length _ code 1 (by omega) (by omega) HX.out _ HM14.out).mono ?_
      rintro e v6 ⟨rfl, hb15⟩
      have hW15 : Hid (Below w.heap.size w v6) := Below.on hW14.out hb15
      clear hb15 hW14 HM14 zl z0 z1
      go_wp2
      go_ret
      exact ⟨rfl, hW15.out⟩))
set_option maxHeartbeats 2000000 in
theorem aceAdd_long (a : Option Addr) (len cap : Nat) (n1 : Int) (x : Ac) (hl : ¬ len ≤ 1048576) (hm : len ≤ 9223372036854775807) (w : World) :
    Calls Try.prog 4 #[.slice a len cap, .int .i64 n1, .agg #[.bool x.al, .int .i64 x.wh, .int .i64 x.id, .int .i64 x.fl, .int .i64 x.ma]] w fun e w' => e = .returned (.bool true) ∧ Below w.heap.size w w' := by
  have hz : Hid (∀ w, Calls Try.prog 7 #[.slice a len cap, .int .i64 1048576] w fun e w' => e = .returned (.int .i64 (-1)) ∧ w' = w) := (by
    intro w
    have := szAceS_any a len cap 1048576 (by omega) hm w
    rwa [if_pos (by omega)] at this)
  clear hl hm
  go_enter Try.func4, Try.ntmps4
  go_wp2_with fail
  refine (hz.out _).mono ?_
  rintro e w1 ⟨rfl, h1⟩
  subst h1
  go_wp2
  go_ret
  exact ⟨rfl, bel_alloc _ _⟩
end Go.Proofs.Ytklaebcdbbgooab
