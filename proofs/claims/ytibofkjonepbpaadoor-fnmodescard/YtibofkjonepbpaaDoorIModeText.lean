/- impl.ModeText: the table of the three places, one place's three signs, and the nine. -/
import Derived.Test.YtibofkjonepbpaaDoorSigns
import Derived.Test.YtibofkjonepbpaaDoorModeMath
import Derived.Test.YtibofkjonepbpaaDoorPlW
import Derived.Test.YtibofkjonepbpaaDoorJoin
namespace Go.Proofs.YtibofkjonepbpaaDoor
open Go.RowKit Go.PlainAid
set_option linter.unusedVariables false
set_option linter.unusedSimpArgs false
theorem box4P (w : World) (v0 v1 v2 v3 : Value) (t : TypeId) : (w.alloc (.cells #[v0, v1, v2, v3] t)).cell? ⟨w.heap.size, 0, none⟩ = some v0 ∧ (w.alloc (.cells #[v0, v1, v2, v3] t)).cell? ⟨w.heap.size, 1, none⟩ = some v1 ∧ (w.alloc (.cells #[v0, v1, v2, v3] t)).cell? ⟨w.heap.size, 2, none⟩ = some v2 ∧ (w.alloc (.cells #[v0, v1, v2, v3] t)).cell? ⟨w.heap.size, 3, none⟩ = some v3 := by
  have hb : (w.alloc (.cells #[v0, v1, v2, v3] t)).heap[w.heap.size]? = some (.cells #[v0, v1, v2, v3] t) := by
    rw [World.alloc]
    exact Array.getElem?_push_size
  refine ⟨?_, ?_, ?_, ?_⟩ <;> (simp only [World.cell?, hb]; rfl)
theorem bl_cellP {W w1 : World} (hb : Below W.heap.size W w1) : (∀ b o, b < W.heap.size → w1.cell? ⟨b, o, none⟩ = W.cell? ⟨b, o, none⟩) ∧ (∀ b o, b < W.heap.size → w1.frozen? ⟨b, o, none⟩ = W.frozen? ⟨b, o, none⟩) :=
  ⟨fun b o h => hb.cell (p := ⟨b, o, none⟩) h, fun b o h => hb.frozen (p := ⟨b, o, none⟩) h⟩
set_option maxHeartbeats 4000000 in
theorem text1_in (n : Nat) (hn : n ≤ 4095) (w : World) :
    Calls Tryd.prog 91 #[.agg #[.int .i64 6, .int .i64 2048, .int .u8 115, .int .u8 83], .int .i64 n] w fun e w' => e = .returned (.string (m1 n)) ∧ Below w.heap.size w w' := by
  have q7 : bits .and .i64 ((n : Int) / 64) 7 = ((n / 64 % 8 : Nat) : Int) := and7d n 64 hn
  have qx := and2048 n hn
  have hS : Hid (∀ w, Calls Tryd.prog 89 #[.int .i64 ((n / 64 % 8 : Nat) : Int)] w fun e w' => e = .returned (.slice (some ⟨w.heap.size, 0, none⟩) 3 3) ∧ w' = sW w (sg (b4 (n / 64 % 8)) 114).toNat (sg (b2 (n / 64 % 8)) 119).toNat (sg (b1 (n / 64 % 8)) 120).toNat 3) := (fun w => bitsSigns_in (n / 64 % 8) (by omega) w)
  have hm : Hid (m1 n = thr (n / 64 % 8) (s1 n) 115 83) := rfl
  generalize n / 64 % 8 = m at q7 hS hm
  generalize s1 n = st at qx hm
  have eW : (w.alloc (.cells #[.int .i64 6, .int .i64 2048, .int .u8 115, .int .u8 83] 91)).heap.size = w.heap.size + 1 := by simp
  have hB0 : Hid (Below w.heap.size w (w.alloc (.cells #[.int .i64 6, .int .i64 2048, .int .u8 115, .int .u8 83] 91))) := (Below.refl _ _).alloc (Nat.le_refl _) _
  have hbx := box4P w (.int .i64 6) (.int .i64 2048) (.int .u8 115) (.int .u8 83) 91
  obtain ⟨W, hW⟩ : ∃ W, W = w.alloc (.cells #[.int .i64 6, .int .i64 2048, .int .u8 115, .int .u8 83] 91) := ⟨_, rfl⟩
  rw [← hW] at eW hB0 hbx
  have hbel : Hid (∀ a b c : Int, Below W.heap.size W (sW W a b c 3)) := (fun a b c => sW_below W a b c 3)
  have hcl : ∀ (a b c : Int) (o : Nat), (sW W a b c 3).cell? ⟨w.heap.size, o, none⟩ = W.cell? ⟨w.heap.size, o, none⟩ := fun a b c o => (sW_below W a b c 3).cell (p := ⟨w.heap.size, o, none⟩) (by show w.heap.size < W.heap.size; rw [eW]; omega)
  obtain ⟨x0, x1, x2, x3⟩ := hbx
  have hce := sW_cell W
  have hfr := sW_frozen W
  have hst := sW_set W
  have htx := sW_text W
  rw [eW] at hce hfr hst htx
  cases st
  · have qy : (bits .and .i64 (n : Int) 2048 == 0) = true := qx
    have hm2 : Hid (m1 n = ⟨#[sg (b4 m) 114, sg (b2 m) 119, sg (b1 m) 120]⟩) := hm
    have ht := htx (sg (b4 m) 114) (sg (b2 m) 119) (sg (b1 m) 120) 3
    clear hm htx hst hfr hce qx
    generalize ((sg (b4 m) 114).toNat : Int) = A at hS ht
    generalize ((sg (b2 m) 119).toNat : Int) = B at hS ht
    generalize ((sg (b1 m) 120).toNat : Int) = C at hS ht
    generalize (⟨#[sg (b4 m) 114, sg (b2 m) 119, sg (b1 m) 120]⟩ : ByteArray) = T at hm2 ht
    go_enter Tryd.func91, Tryd.ntmps91
    go_wp2_with fail
    rw [← hW]
    refine (hS.out _).mono ?_
    rintro e w1 ⟨rfl, rfl⟩
    rw [eW]
    have EW : Hid (W.heap.size = w.heap.size + 1) := eW
    clear hW eW
    go_wp2
    go_ret
    exact ⟨by rw [hm2.out]; rfl, hB0.out.trans ((hbel.out _ _ _).mono (by rw [EW.out]; omega))⟩
  · cases hb : b1 m
    · have qy : (bits .and .i64 (n : Int) 2048 == 0) = false := qx
      have hm2 : Hid (m1 n = ⟨#[sg (b4 m) 114, sg (b2 m) 119, 83]⟩) := (by rw [show m1 n = thr m true 115 83 from hm]; simp only [thr, third, hb]; rfl)
      have ht := htx (sg (b4 m) 114) (sg (b2 m) 119) 83 3
      have hc3 : ((sg (b1 m) 120).toNat : Int) = 45 := by rw [hb]; rfl
      have ht3 : ((83 : UInt8).toNat : Int) = 83 := rfl
      rw [hc3] at hS
      rw [ht3] at ht
      clear hm htx qx hb hc3 ht3
      generalize ((sg (b4 m) 114).toNat : Int) = A at hS ht
      generalize ((sg (b2 m) 119).toNat : Int) = B at hS ht
      generalize (⟨#[sg (b4 m) 114, sg (b2 m) 119, 83]⟩ : ByteArray) = T at hm2 ht
      go_enter Tryd.func91, Tryd.ntmps91
      go_wp2_with fail
      rw [← hW]
      refine (hS.out _).mono ?_
      rintro e w1 ⟨rfl, rfl⟩
      rw [eW]
      have EW : Hid (W.heap.size = w.heap.size + 1) := eW
      clear hW eW
      go_wp2
      go_ret
      exact ⟨by rw [hm2.out]; rfl, hB0.out.trans ((hbel.out _ _ _).mono (by rw [EW.out]; omega))⟩
    · have qy : (bits .and .i64 (n : Int) 2048 == 0) = false := qx
      have hm2 : Hid (m1 n = ⟨#[sg (b4 m) 114, sg (b2 m) 119, 115]⟩) := (by rw [show m1 n = thr m true 115 83 from hm]; simp only [thr, third, hb]; rfl)
      have ht := htx (sg (b4 m) 114) (sg (b2 m) 119) 115 3
      have hc3 : ((sg (b1 m) 120).toNat : Int) = 120 := by rw [hb]; rfl
      have ht3 : ((115 : UInt8).toNat : Int) = 115 := rfl
      rw [hc3] at hS
      rw [ht3] at ht
      clear hm htx qx hb hc3 ht3
      generalize ((sg (b4 m) 114).toNat : Int) = A at hS ht
      generalize ((sg (b2 m) 119).toNat : Int) = B at hS ht
      generalize (⟨#[sg (b4 m) 114, sg (b2 m) 119, 115]⟩ : ByteArray) = T at hm2 ht
      go_enter Tryd.func91, Tryd.ntmps91
      go_wp2_with fail
      rw [← hW]
      refine (hS.out _).mono ?_
      rintro e w1 ⟨rfl, rfl⟩
      rw [eW]
      have EW : Hid (W.heap.size = w.heap.size + 1) := eW
      clear hW eW
      go_wp2
      go_ret
      exact ⟨by rw [hm2.out]; rfl, hB0.out.trans ((hbel.out _ _ _).mono (by rw [EW.out]; omega))⟩
set_option maxHeartbeats 4000000 in
theorem text2_in (n : Nat) (hn : n ≤ 4095) (w : World) :
    Calls Tryd.prog 91 #[.agg #[.int .i64 3, .int .i64 1024, .int .u8 115, .int .u8 83], .int .i64 n] w fun e w' => e = .returned (.string (m2 n)) ∧ Below w.heap.size w w' := by
  have q7 : bits .and .i64 ((n : Int) / 8) 7 = ((n / 8 % 8 : Nat) : Int) := and7d n 8 hn
  have qx := and1024 n hn
  have hS : Hid (∀ w, Calls Tryd.prog 89 #[.int .i64 ((n / 8 % 8 : Nat) : Int)] w fun e w' => e = .returned (.slice (some ⟨w.heap.size, 0, none⟩) 3 3) ∧ w' = sW w (sg (b4 (n / 8 % 8)) 114).toNat (sg (b2 (n / 8 % 8)) 119).toNat (sg (b1 (n / 8 % 8)) 120).toNat 3) := (fun w => bitsSigns_in (n / 8 % 8) (by omega) w)
  have hm : Hid (m2 n = thr (n / 8 % 8) (s2 n) 115 83) := rfl
  generalize n / 8 % 8 = m at q7 hS hm
  generalize s2 n = st at qx hm
  have eW : (w.alloc (.cells #[.int .i64 3, .int .i64 1024, .int .u8 115, .int .u8 83] 91)).heap.size = w.heap.size + 1 := by simp
  have hB0 : Hid (Below w.heap.size w (w.alloc (.cells #[.int .i64 3, .int .i64 1024, .int .u8 115, .int .u8 83] 91))) := (Below.refl _ _).alloc (Nat.le_refl _) _
  have hbx := box4P w (.int .i64 3) (.int .i64 1024) (.int .u8 115) (.int .u8 83) 91
  obtain ⟨W, hW⟩ : ∃ W, W = w.alloc (.cells #[.int .i64 3, .int .i64 1024, .int .u8 115, .int .u8 83] 91) := ⟨_, rfl⟩
  rw [← hW] at eW hB0 hbx
  have hbel : Hid (∀ a b c : Int, Below W.heap.size W (sW W a b c 3)) := (fun a b c => sW_below W a b c 3)
  have hcl : ∀ (a b c : Int) (o : Nat), (sW W a b c 3).cell? ⟨w.heap.size, o, none⟩ = W.cell? ⟨w.heap.size, o, none⟩ := fun a b c o => (sW_below W a b c 3).cell (p := ⟨w.heap.size, o, none⟩) (by show w.heap.size < W.heap.size; rw [eW]; omega)
  obtain ⟨x0, x1, x2, x3⟩ := hbx
  have hce := sW_cell W
  have hfr := sW_frozen W
  have hst := sW_set W
  have htx := sW_text W
  rw [eW] at hce hfr hst htx
  cases st
  · have qy : (bits .and .i64 (n : Int) 1024 == 0) = true := qx
    have hm2 : Hid (m2 n = ⟨#[sg (b4 m) 114, sg (b2 m) 119, sg (b1 m) 120]⟩) := hm
    have ht := htx (sg (b4 m) 114) (sg (b2 m) 119) (sg (b1 m) 120) 3
    clear hm htx hst hfr hce qx
    generalize ((sg (b4 m) 114).toNat : Int) = A at hS ht
    generalize ((sg (b2 m) 119).toNat : Int) = B at hS ht
    generalize ((sg (b1 m) 120).toNat : Int) = C at hS ht
    generalize (⟨#[sg (b4 m) 114, sg (b2 m) 119, sg (b1 m) 120]⟩ : ByteArray) = T at hm2 ht
    go_enter Tryd.func91, Tryd.ntmps91
    go_wp2_with fail
    rw [← hW]
    refine (hS.out _).mono ?_
    rintro e w1 ⟨rfl, rfl⟩
    rw [eW]
    have EW : Hid (W.heap.size = w.heap.size + 1) := eW
    clear hW eW
    go_wp2
    go_ret
    exact ⟨by rw [hm2.out]; rfl, hB0.out.trans ((hbel.out _ _ _).mono (by rw [EW.out]; omega))⟩
  · cases hb : b1 m
    · have qy : (bits .and .i64 (n : Int) 1024 == 0) = false := qx
      have hm2 : Hid (m2 n = ⟨#[sg (b4 m) 114, sg (b2 m) 119, 83]⟩) := (by rw [show m2 n = thr m true 115 83 from hm]; simp only [thr, third, hb]; rfl)
      have ht := htx (sg (b4 m) 114) (sg (b2 m) 119) 83 3
      have hc3 : ((sg (b1 m) 120).toNat : Int) = 45 := by rw [hb]; rfl
      have ht3 : ((83 : UInt8).toNat : Int) = 83 := rfl
      rw [hc3] at hS
      rw [ht3] at ht
      clear hm htx qx hb hc3 ht3
      generalize ((sg (b4 m) 114).toNat : Int) = A at hS ht
      generalize ((sg (b2 m) 119).toNat : Int) = B at hS ht
      generalize (⟨#[sg (b4 m) 114, sg (b2 m) 119, 83]⟩ : ByteArray) = T at hm2 ht
      go_enter Tryd.func91, Tryd.ntmps91
      go_wp2_with fail
      rw [← hW]
      refine (hS.out _).mono ?_
      rintro e w1 ⟨rfl, rfl⟩
      rw [eW]
      have EW : Hid (W.heap.size = w.heap.size + 1) := eW
      clear hW eW
      go_wp2
      go_ret
      exact ⟨by rw [hm2.out]; rfl, hB0.out.trans ((hbel.out _ _ _).mono (by rw [EW.out]; omega))⟩
    · have qy : (bits .and .i64 (n : Int) 1024 == 0) = false := qx
      have hm2 : Hid (m2 n = ⟨#[sg (b4 m) 114, sg (b2 m) 119, 115]⟩) := (by rw [show m2 n = thr m true 115 83 from hm]; simp only [thr, third, hb]; rfl)
      have ht := htx (sg (b4 m) 114) (sg (b2 m) 119) 115 3
      have hc3 : ((sg (b1 m) 120).toNat : Int) = 120 := by rw [hb]; rfl
      have ht3 : ((115 : UInt8).toNat : Int) = 115 := rfl
      rw [hc3] at hS
      rw [ht3] at ht
      clear hm htx qx hb hc3 ht3
      generalize ((sg (b4 m) 114).toNat : Int) = A at hS ht
      generalize ((sg (b2 m) 119).toNat : Int) = B at hS ht
      generalize (⟨#[sg (b4 m) 114, sg (b2 m) 119, 115]⟩ : ByteArray) = T at hm2 ht
      go_enter Tryd.func91, Tryd.ntmps91
      go_wp2_with fail
      rw [← hW]
      refine (hS.out _).mono ?_
      rintro e w1 ⟨rfl, rfl⟩
      rw [eW]
      have EW : Hid (W.heap.size = w.heap.size + 1) := eW
      clear hW eW
      go_wp2
      go_ret
      exact ⟨by rw [hm2.out]; rfl, hB0.out.trans ((hbel.out _ _ _).mono (by rw [EW.out]; omega))⟩
set_option maxHeartbeats 4000000 in
theorem text3_in (n : Nat) (hn : n ≤ 4095) (w : World) :
    Calls Tryd.prog 91 #[.agg #[.int .i64 0, .int .i64 512, .int .u8 116, .int .u8 84], .int .i64 n] w fun e w' => e = .returned (.string (m3 n)) ∧ Below w.heap.size w w' := by
  have q7 : bits .and .i64 ((n : Int)) 7 = ((n % 8 : Nat) : Int) := and7m n hn
  have qx := and512 n hn
  have hS : Hid (∀ w, Calls Tryd.prog 89 #[.int .i64 ((n % 8 : Nat) : Int)] w fun e w' => e = .returned (.slice (some ⟨w.heap.size, 0, none⟩) 3 3) ∧ w' = sW w (sg (b4 (n % 8)) 114).toNat (sg (b2 (n % 8)) 119).toNat (sg (b1 (n % 8)) 120).toNat 3) := (fun w => bitsSigns_in (n % 8) (by omega) w)
  have hm : Hid (m3 n = thr (n % 8) (s3 n) 116 84) := rfl
  generalize n % 8 = m at q7 hS hm
  generalize s3 n = st at qx hm
  have eW : (w.alloc (.cells #[.int .i64 0, .int .i64 512, .int .u8 116, .int .u8 84] 91)).heap.size = w.heap.size + 1 := by simp
  have hB0 : Hid (Below w.heap.size w (w.alloc (.cells #[.int .i64 0, .int .i64 512, .int .u8 116, .int .u8 84] 91))) := (Below.refl _ _).alloc (Nat.le_refl _) _
  have hbx := box4P w (.int .i64 0) (.int .i64 512) (.int .u8 116) (.int .u8 84) 91
  obtain ⟨W, hW⟩ : ∃ W, W = w.alloc (.cells #[.int .i64 0, .int .i64 512, .int .u8 116, .int .u8 84] 91) := ⟨_, rfl⟩
  rw [← hW] at eW hB0 hbx
  have hbel : Hid (∀ a b c : Int, Below W.heap.size W (sW W a b c 3)) := (fun a b c => sW_below W a b c 3)
  have hcl : ∀ (a b c : Int) (o : Nat), (sW W a b c 3).cell? ⟨w.heap.size, o, none⟩ = W.cell? ⟨w.heap.size, o, none⟩ := fun a b c o => (sW_below W a b c 3).cell (p := ⟨w.heap.size, o, none⟩) (by show w.heap.size < W.heap.size; rw [eW]; omega)
  obtain ⟨x0, x1, x2, x3⟩ := hbx
  have hce := sW_cell W
  have hfr := sW_frozen W
  have hst := sW_set W
  have htx := sW_text W
  rw [eW] at hce hfr hst htx
  cases st
  · have qy : (bits .and .i64 (n : Int) 512 == 0) = true := qx
    have hm2 : Hid (m3 n = ⟨#[sg (b4 m) 114, sg (b2 m) 119, sg (b1 m) 120]⟩) := hm
    have ht := htx (sg (b4 m) 114) (sg (b2 m) 119) (sg (b1 m) 120) 3
    clear hm htx hst hfr hce qx
    generalize ((sg (b4 m) 114).toNat : Int) = A at hS ht
    generalize ((sg (b2 m) 119).toNat : Int) = B at hS ht
    generalize ((sg (b1 m) 120).toNat : Int) = C at hS ht
    generalize (⟨#[sg (b4 m) 114, sg (b2 m) 119, sg (b1 m) 120]⟩ : ByteArray) = T at hm2 ht
    go_enter Tryd.func91, Tryd.ntmps91
    go_wp2_with fail
    rw [← hW]
    refine (hS.out _).mono ?_
    rintro e w1 ⟨rfl, rfl⟩
    rw [eW]
    have EW : Hid (W.heap.size = w.heap.size + 1) := eW
    clear hW eW
    go_wp2
    go_ret
    exact ⟨by rw [hm2.out]; rfl, hB0.out.trans ((hbel.out _ _ _).mono (by rw [EW.out]; omega))⟩
  · cases hb : b1 m
    · have qy : (bits .and .i64 (n : Int) 512 == 0) = false := qx
      have hm2 : Hid (m3 n = ⟨#[sg (b4 m) 114, sg (b2 m) 119, 84]⟩) := (by rw [show m3 n = thr m true 116 84 from hm]; simp only [thr, third, hb]; rfl)
      have ht := htx (sg (b4 m) 114) (sg (b2 m) 119) 84 3
      have hc3 : ((sg (b1 m) 120).toNat : Int) = 45 := by rw [hb]; rfl
      have ht3 : ((84 : UInt8).toNat : Int) = 84 := rfl
      rw [hc3] at hS
      rw [ht3] at ht
      clear hm htx qx hb hc3 ht3
      generalize ((sg (b4 m) 114).toNat : Int) = A at hS ht
      generalize ((sg (b2 m) 119).toNat : Int) = B at hS ht
      generalize (⟨#[sg (b4 m) 114, sg (b2 m) 119, 84]⟩ : ByteArray) = T at hm2 ht
      go_enter Tryd.func91, Tryd.ntmps91
      go_wp2_with fail
      rw [← hW]
      refine (hS.out _).mono ?_
      rintro e w1 ⟨rfl, rfl⟩
      rw [eW]
      have EW : Hid (W.heap.size = w.heap.size + 1) := eW
      clear hW eW
      go_wp2
      go_ret
      exact ⟨by rw [hm2.out]; rfl, hB0.out.trans ((hbel.out _ _ _).mono (by rw [EW.out]; omega))⟩
    · have qy : (bits .and .i64 (n : Int) 512 == 0) = false := qx
      have hm2 : Hid (m3 n = ⟨#[sg (b4 m) 114, sg (b2 m) 119, 116]⟩) := (by rw [show m3 n = thr m true 116 84 from hm]; simp only [thr, third, hb]; rfl)
      have ht := htx (sg (b4 m) 114) (sg (b2 m) 119) 116 3
      have hc3 : ((sg (b1 m) 120).toNat : Int) = 120 := by rw [hb]; rfl
      have ht3 : ((116 : UInt8).toNat : Int) = 116 := rfl
      rw [hc3] at hS
      rw [ht3] at ht
      clear hm htx qx hb hc3 ht3
      generalize ((sg (b4 m) 114).toNat : Int) = A at hS ht
      generalize ((sg (b2 m) 119).toNat : Int) = B at hS ht
      generalize (⟨#[sg (b4 m) 114, sg (b2 m) 119, 116]⟩ : ByteArray) = T at hm2 ht
      go_enter Tryd.func91, Tryd.ntmps91
      go_wp2_with fail
      rw [← hW]
      refine (hS.out _).mono ?_
      rintro e w1 ⟨rfl, rfl⟩
      rw [eW]
      have EW : Hid (W.heap.size = w.heap.size + 1) := eW
      clear hW eW
      go_wp2
      go_ret
      exact ⟨by rw [hm2.out]; rfl, hB0.out.trans ((hbel.out _ _ _).mono (by rw [EW.out]; omega))⟩
def pick3 (a b c : ByteArray) : Nat → ByteArray := fun i => if i = 0 then a else if i = 1 then b else c
theorem cat3 (a b c : ByteArray) : (⟨(catTo (pick3 a b c) 3).toArray⟩ : ByteArray) = a ++ b ++ c := by
  apply ByteArray.ext
  simp [catTo, pick3, ByteArray.data_append]
/-- Three texts in a row that may be written. -/
structure Parts (w : World) (B : Nat) (a b c : ByteArray) : Prop where
  lt : B < w.heap.size
  c0 : w.cell? ⟨B, 0, none⟩ = some (.string a)
  c1 : w.cell? ⟨B, 1, none⟩ = some (.string b)
  c2 : w.cell? ⟨B, 2, none⟩ = some (.string c)
  f0 : w.frozen? ⟨B, 0, none⟩ = false
  f1 : w.frozen? ⟨B, 1, none⟩ = false
  f2 : w.frozen? ⟨B, 2, none⟩ = false
theorem Parts.below {w w' : World} {B : Nat} {a b c : ByteArray} (h : Parts w B a b c) (hb : Below w.heap.size w w') : Parts w' B a b c :=
  ⟨Nat.lt_of_lt_of_le h.lt hb.size, (hb.cell (p := ⟨B, 0, none⟩) h.lt).trans h.c0, (hb.cell (p := ⟨B, 1, none⟩) h.lt).trans h.c1, (hb.cell (p := ⟨B, 2, none⟩) h.lt).trans h.c2, (hb.frozen (p := ⟨B, 0, none⟩) h.lt).trans h.f0, (hb.frozen (p := ⟨B, 1, none⟩) h.lt).trans h.f1, (hb.frozen (p := ⟨B, 2, none⟩) h.lt).trans h.f2⟩
theorem parts_new (w : World) (t : TypeId) (a b c : ByteArray) : Parts (w.alloc (.cells #[.string a, .string b, .string c] t)) w.heap.size a b c := by
  have hb : (w.alloc (.cells #[.string a, .string b, .string c] t)).heap[w.heap.size]? = some (.cells #[.string a, .string b, .string c] t) := by
    rw [World.alloc]
    exact Array.getElem?_push_size
  refine ⟨by simp, ?_, ?_, ?_, ?_, ?_, ?_⟩
  · simp only [World.cell?, hb]; rfl
  · simp only [World.cell?, hb]; rfl
  · simp only [World.cell?, hb]; rfl
  · simp only [World.frozen?, hb]; rfl
  · simp only [World.frozen?, hb]; rfl
  · simp only [World.frozen?, hb]; rfl
theorem set_other (w : World) (B i j : Nat) (v : Value) (h : i ≠ j) : (w.setCell ⟨B, i, none⟩ v).cell? ⟨B, j, none⟩ = w.cell? ⟨B, j, none⟩ := World.cell?_setCell_other _ _ _ _ (by intro e; cases e; exact h rfl)
theorem Parts.set0 {w : World} {B : Nat} {a b c : ByteArray} (h : Parts w B a b c) (x : ByteArray) : Parts (w.setCell ⟨B, 0, none⟩ (.string x)) B x b c :=
  ⟨by simpa using h.lt, by have := h.c0; simp [go_sem, this], (set_other w B 0 1 _ (by decide)).trans h.c1, (set_other w B 0 2 _ (by decide)).trans h.c2, by rw [World.frozen?_setCell]; exact h.f0, by rw [World.frozen?_setCell]; exact h.f1, by rw [World.frozen?_setCell]; exact h.f2⟩
theorem Parts.set1 {w : World} {B : Nat} {a b c : ByteArray} (h : Parts w B a b c) (x : ByteArray) : Parts (w.setCell ⟨B, 1, none⟩ (.string x)) B a x c :=
  ⟨by simpa using h.lt, (set_other w B 1 0 _ (by decide)).trans h.c0, by have := h.c1; simp [go_sem, this], (set_other w B 1 2 _ (by decide)).trans h.c2, by rw [World.frozen?_setCell]; exact h.f0, by rw [World.frozen?_setCell]; exact h.f1, by rw [World.frozen?_setCell]; exact h.f2⟩
theorem Parts.set2 {w : World} {B : Nat} {a b c : ByteArray} (h : Parts w B a b c) (x : ByteArray) : Parts (w.setCell ⟨B, 2, none⟩ (.string x)) B a b x :=
  ⟨by simpa using h.lt, (set_other w B 2 0 _ (by decide)).trans h.c0, (set_other w B 2 1 _ (by decide)).trans h.c1, by have := h.c2; simp [go_sem, this], by rw [World.frozen?_setCell]; exact h.f0, by rw [World.frozen?_setCell]; exact h.f1, by rw [World.frozen?_setCell]; exact h.f2⟩
theorem join3 (a b c : ByteArray) (B cap : Nat) (w : World) (h : Parts w B a b c) (ha : a.size = 3) (hb : b.size = 3) (hc : c.size = 3) :
    Calls Tryd.prog 68 #[.slice (some ⟨B, 0, none⟩) 3 cap] w fun e w' => e = .returned (.string (a ++ b ++ c)) ∧ Below w.heap.size w w' := by
  have := join_any (pick3 a b c) B 0 3 cap w (fun k hk => by
    rcases (by omega : k = 0 ∨ k = 1 ∨ k = 2) with rfl | rfl | rfl
    · exact h.c0
    · exact h.c1
    · exact h.c2) h.lt (by decide) (by simp [totTo, pick3, ha, hb, hc])
  rw [cat3] at this
  exact this
theorem ix0 (w : World) : (Instr.index 92 (.agg #[.int .i64 6, .int .i64 2048, .int .u8 115, .int .u8 83, .int .i64 3, .int .i64 1024, .int .u8 115, .int .u8 83, .int .i64 0, .int .i64 512, .int .u8 116, .int .u8 84]) (.int .i64 0)).run Tryd.prog w = .ok (.agg #[.int .i64 6, .int .i64 2048, .int .u8 115, .int .u8 83]) w := by kernel_rfl
theorem ix1 (w : World) : (Instr.index 92 (.agg #[.int .i64 6, .int .i64 2048, .int .u8 115, .int .u8 83, .int .i64 3, .int .i64 1024, .int .u8 115, .int .u8 83, .int .i64 0, .int .i64 512, .int .u8 116, .int .u8 84]) (.int .i64 1)).run Tryd.prog w = .ok (.agg #[.int .i64 3, .int .i64 1024, .int .u8 115, .int .u8 83]) w := by kernel_rfl
theorem ix2 (w : World) : (Instr.index 92 (.agg #[.int .i64 6, .int .i64 2048, .int .u8 115, .int .u8 83, .int .i64 3, .int .i64 1024, .int .u8 115, .int .u8 83, .int .i64 0, .int .i64 512, .int .u8 116, .int .u8 84]) (.int .i64 2)).run Tryd.prog w = .ok (.agg #[.int .i64 0, .int .i64 512, .int .u8 116, .int .u8 84]) w := by kernel_rfl
theorem bl_allocP {W w : World} {o : Obj} (h : Below W.heap.size W w) : Below W.heap.size W (w.alloc o) := h.alloc h.size _
theorem bl_oneP {w : World} {o : Obj} : Below w.heap.size w (w.alloc o) := (Below.refl _ _).alloc (Nat.le_refl _) _
theorem bl_thenP {w w1 w2 : World} (h1 : Below w.heap.size w w1) (h2 : Below w1.heap.size w1 w2) : Below w.heap.size w w2 := h1.trans (h2.mono h1.size)
set_option maxRecDepth 100000 in
set_option maxHeartbeats 8000000 in
theorem iModeText_in (n : Nat) (hn : n ≤ 4095) (e1 : inR 0 4095 (n : Int) = true) (w : World) (hp : PlW w) :
    Calls Tryd.prog 26 #[.int .i64 n] w fun e w' => e = .returned (.string (m1 n ++ m2 n ++ m3 n)) ∧ Below w.heap.size w w' := by
  have H1 : Hid (∀ w, Calls Tryd.prog 91 #[.agg #[.int .i64 6, .int .i64 2048, .int .u8 115, .int .u8 83], .int .i64 n] w fun e w' => e = .returned (.string (m1 n)) ∧ Below w.heap.size w w') := text1_in n hn
  have H2 : Hid (∀ w, Calls Tryd.prog 91 #[.agg #[.int .i64 3, .int .i64 1024, .int .u8 115, .int .u8 83], .int .i64 n] w fun e w' => e = .returned (.string (m2 n)) ∧ Below w.heap.size w w') := text2_in n hn
  have H3 : Hid (∀ w, Calls Tryd.prog 91 #[.agg #[.int .i64 0, .int .i64 512, .int .u8 116, .int .u8 84], .int .i64 n] w fun e w' => e = .returned (.string (m3 n)) ∧ Below w.heap.size w w') := text3_in n hn
  have z1 : (m1 n).size = 3 := rfl
  have z2 : (m2 n).size = 3 := rfl
  have z3 : (m3 n).size = 3 := rfl
  generalize m1 n = A at H1 z1 ⊢
  generalize m2 n = B at H2 z2 ⊢
  generalize m3 n = C at H3 z3 ⊢
  obtain ⟨hlt, p0, p1, p2, p3, p4, p5, p6, p7, p8, p9, p10, p11⟩ := hp
  have i0 := ix0
  have i1 := ix1
  have i2 := ix2
  go_enter Tryd.func26, Tryd.ntmps26
  go_wp2_with (go_at_call 90; refine (isMode_any _ _).mono ?_; rintro e w' ⟨rfl, rfl⟩)
  refine wp_loop_rounds 4 ?_
  rw [rounds_succ]
  go_wp2_with fail
  refine (H1.out _).mono ?_
  rintro e w1 ⟨rfl, hb1⟩
  have P1 := ((parts_new w' 89 ⟨#[]⟩ ⟨#[]⟩ ⟨#[]⟩).below bl_oneP).below hb1
  have B1 : Hid (Below w'.heap.size w' (w1.setCell ⟨w'.heap.size, 0, none⟩ (.string A))) := (bl_thenP (bl_allocP bl_oneP) hb1).setCell (Nat.le_refl _) _
  have S1 : Hid (Parts (w1.setCell ⟨w'.heap.size, 0, none⟩ (.string A)) w'.heap.size A ⟨#[]⟩ ⟨#[]⟩) := P1.set0 A
  obtain ⟨-, a0, -, -, f0, -, -⟩ := P1
  clear hb1 p0 p1 p2 p3 p4 p5 p6 p7 p8 p9 p10 p11
  go_wp2_with fail
  obtain ⟨V1, hV1⟩ : ∃ V1, w1.setCell ⟨w'.heap.size, 0, none⟩ (.string A) = V1 := ⟨_, rfl⟩
  rw [hV1] at B1 S1 ⊢
  clear hV1 a0 f0
  rw [rounds_succ]
  go_wp2_with fail
  refine (H2.out _).mono ?_
  rintro e w2 ⟨rfl, hb2⟩
  have P2 := (S1.out.below bl_oneP).below hb2
  have B2 : Hid (Below w'.heap.size w' (w2.setCell ⟨w'.heap.size, 1, none⟩ (.string B))) := (bl_thenP (bl_allocP B1.out) hb2).setCell (Nat.le_refl _) _
  have S2 : Hid (Parts (w2.setCell ⟨w'.heap.size, 1, none⟩ (.string B)) w'.heap.size A B ⟨#[]⟩) := P2.set1 B
  obtain ⟨-, -, a1, -, -, f1, -⟩ := P2
  clear hb2 S1 B1
  go_wp2_with fail
  obtain ⟨V2, hV2⟩ : ∃ V2, w2.setCell ⟨w'.heap.size, 1, none⟩ (.string B) = V2 := ⟨_, rfl⟩
  rw [hV2] at B2 S2 ⊢
  clear hV2 a1 f1
  rw [rounds_succ]
  go_wp2_with fail
  refine (H3.out _).mono ?_
  rintro e w3 ⟨rfl, hb3⟩
  have P3 := (S2.out.below bl_oneP).below hb3
  have B3 : Hid (Below w'.heap.size w' (w3.setCell ⟨w'.heap.size, 2, none⟩ (.string C))) := (bl_thenP (bl_allocP B2.out) hb3).setCell (Nat.le_refl _) _
  have S3 : Hid (Parts (w3.setCell ⟨w'.heap.size, 2, none⟩ (.string C)) w'.heap.size A B C) := P3.set2 C
  obtain ⟨-, -, -, a2, -, -, f2⟩ := P3
  clear hb3 S2 B2
  go_wp2_with fail
  obtain ⟨V3, hV3⟩ : ∃ V3, w3.setCell ⟨w'.heap.size, 2, none⟩ (.string C) = V3 := ⟨_, rfl⟩
  rw [hV3] at B3 S3 ⊢
  clear hV3 a2 f2
  rw [rounds_succ]
  go_wp2_with fail
  refine (join3 A B C _ _ _ S3.out z1 z2 z3).mono ?_
  rintro e w4 ⟨rfl, hb4⟩
  go_wp2
  go_ret
  exact ⟨rfl, bl_thenP B3.out hb4⟩
set_option maxHeartbeats 1000000 in
/-- impl.ModeText. -/
theorem iModeText_any (n : Int) (w : World) (hp : PlW w) :
    Calls Tryd.prog 26 #[.int .i64 n] w fun e w' => e = .returned (.string (modeS n)) ∧ Below w.heap.size w w' := by
  cases e1 : inR 0 4095 n
  · have hy : Hid (modeS n = ⟨#[]⟩) := modeS_off (fun e => by rw [inR_yes e.1 e.2] at e1; cases e1)
    clear hp
    go_enter Tryd.func26, Tryd.ntmps26
    go_wp2_with (go_at_call 90; refine (isMode_any _ _).mono ?_; rintro e w' ⟨rfl, rfl⟩)
    go_ret
    exact ⟨by rw [hy.out]; rfl, Below.refl _ _⟩
  · obtain ⟨a, rfl⟩ := Int.eq_ofNat_of_zero_le (inR_iff.mp e1).1
    have ha : a ≤ 4095 := by have := (inR_iff.mp e1).2; omega
    rw [modeS_in ha]
    exact iModeText_in a ha e1 w hp
end Go.Proofs.YtibofkjonepbpaaDoor
