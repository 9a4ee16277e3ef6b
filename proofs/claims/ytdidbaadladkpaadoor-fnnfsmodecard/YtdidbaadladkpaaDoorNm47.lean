/- Laid together: Alone, Kinds, NfsModeI. -/
import Derived.Test.YtdidbaadladkpaaDoorNm46
import Derived.Test.YtdidbaadladkpaaDoorNm35
import Derived.Test.YtdidbaadladkpaaDoorNm30
import Derived.Test.YtdidbaadladkpaaDoorNm38
/- spec.l04Alone. -/
namespace Go.Proofs.YtdidbaadladkpaaDoor
open Go.RowKit Go.PlainAid Go.Deep
set_option linter.unusedVariables false
/-- It is of a kind, or of all. -/
def kindB (who : Int) (x : Ac) : Bool := x.wh == who || x.wh == 3
theorem ret_intJ {a b : Int} (h : a = b) : Ending.returned (.int .i64 a) = .returned (.int .i64 b) := by rw [h]
theorem aces_partsJ {l : List Ac} (h : acesB l = true) : l.length ≤ 32 ∧ ∀ i, i < l.length → aceB (acAt l i) = true := by
  simp only [acesB, Bool.and_eq_true, decide_eq_true_eq] at h
  exact ⟨h.1, fun i hi => allA_at hi h.2⟩
set_option maxRecDepth 100000 in
set_option maxHeartbeats 8000000 in
/-- spec.l04Alone of a right list that is not empty. -/
theorem sAlone_some (b off cap : Nat) (l : List Ac) (who : Int) (R : Int → Int) (ha : acesB l = true) (w : World) (hb : b < w.heap.size) (hc : ∀ i, i < l.length → Five w b (off + i * 5) (acAt l i))
    (hR : ∀ (m : Nat) w', m ≤ 255 → Calls Tryd.prog 61 #[.int .i64 (m : Int)] w' fun e w'' => e = .returned (.int .i64 (R (m : Int))) ∧ Below w'.heap.size w' w'') :
    Calls Tryd.prog 71 #[.slice (some ⟨b, off, none⟩) l.length cap, .int .i64 who] w fun e w' => e = .returned (.int .i64 (R (giveI (fltP (kindB who) l l.length)).1)) ∧ Below w.heap.size w w' := by
  obtain ⟨hl, hRt⟩ := aces_partsJ ha
  have hma : ∀ i, i < l.length → 0 ≤ (acAt l i).ma ∧ (acAt l i).ma ≤ 255 := fun i hi => by have := (aceB_iff.1 (hRt i hi)).2.2.2.2; omega
  have HMA : Hid (∀ i, i < l.length → 0 ≤ (acAt l i).ma ∧ (acAt l i).ma ≤ 255) := hma
  have HGN := giveI_nat hma (kindB who)
  have HNX : Hid (∀ k, k < l.length → (hldB (acAt l k) && kindB who (acAt l k)) = true → giveI (fltP (kindB who) l (k + 1)) = (takeP (acAt l k).al (giveI (fltP (kindB who) l k)).1 ((acAt l k).ma - andI (acAt l k).ma (giveI (fltP (kindB who) l k)).2), (giveI (fltP (kindB who) l k)).2 + ((acAt l k).ma - andI (acAt l k).ma (giveI (fltP (kindB who) l k)).2))) := (fun k hk h => giveI_next hma _ hk h)
  have HC : Hid (∀ i, i < l.length → Five w b (off + i * 5) (acAt l i)) := hc
  have HG : Hid (∀ k, k ≤ l.length → ∃ g' s : Nat, giveI (fltP (kindB who) l k) = ((g' : Int), (s : Int)) ∧ g' ≤ 255 ∧ s ≤ 255 ∧ s ||| g' = s) := HGN
  have HK : Hid (∀ x, kindB who x = (x.wh == who || x.wh == 3)) := (fun x => rfl)
  have HR : Hid (∀ (m : Nat) w', m ≤ 255 → Calls Tryd.prog 61 #[.int .i64 (m : Int)] w' fun e w'' => e = .returned (.int .i64 (R (m : Int))) ∧ Below w'.heap.size w' w'') := hR
  clear HGN hma hc hRt ha hR
  generalize kindB who = p at HG HNX HK ⊢
  generalize hlen : l.length = len at hl HMA HC HNX HG ⊢
  clear hlen
  go_enter Tryd.func71, Tryd.ntmps71
  go_wp2
  go_loopw [5, 6, 7] (fun s q i wr => ∃ (k gN sN : Nat), k ≤ len ∧ i = .int .i64 k ∧ s = .int .i64 (sN : Int) ∧ q = .int .i64 (gN : Int) ∧ Hid (giveI (fltP p l k) = ((gN : Int), (sN : Int)) ∧ gN ≤ 255 ∧ sN ≤ 255) ∧ Hid (Below w.heap.size w wr)) (fun _ _ i _ => len - (intOf i).toNat)
  case atStart => exact ⟨0, 0, 0, Nat.zero_le _, rfl, rfl, rfl, ⟨rfl, by omega, by omega⟩, Below.refl _ _⟩
  case round =>
    obtain ⟨k, gN, sN, hk, rfl, rfl, rfl, hGS, hB⟩ := hrel
    by_cases hlt : k < len
    · have hlt' : (k : Int) < (len : Int) := by omega
      have HF : Hid (Five w b (off + k * 5) (acAt l k)) := HC.out k hlt
      obtain ⟨c0, c1, c2, c3, c4⟩ := HF.out.below hb hB.out
      have HM := HMA.out k hlt
      have HN := HNX.out k hlt
      rw [hGS.out.1] at HN
      have HNO : (hldB (acAt l k) && p (acAt l k)) = false → fltP p l (k + 1) = fltP p l k := fltP_no
      have HK1 : Hid (∃ g' s : Nat, giveI (fltP p l (k + 1)) = ((g' : Int), (s : Int)) ∧ g' ≤ 255 ∧ s ≤ 255 ∧ s ||| g' = s) := HG.out (k + 1) (by omega)
      generalize acAt l k = x at HF c0 c1 c2 c3 c4 HM HN HNO
      obtain ⟨hm0, hm1⟩ := HM
      have HKX : Hid (p x = (x.wh == who || x.wh == 3)) := HK.out x
      cases hh : hldB x
      · have HO : Hid (fltP p l (k + 1) = fltP p l k) := HNO (by rw [hh]; rfl)
        clear HN HNO
        go_wp2_with (go_at_call 80; refine (sl04HoldsG x _).mono ?_; rintro e w3 ⟨rfl, hb3⟩; obtain ⟨d0, d1, d2, d3, d4⟩ := HF.out.below hb (Below.on hB.out hb3))
        go_roundw
        case rel => exact ⟨k + 1, gN, sN, by omega, by go_num, rfl, rfl, ⟨by rw [HO.out]; exact hGS.out.1, hGS.out.2⟩, Below.on hB.out hb3⟩
        case measure => simp [intOf]; omega
      · cases h1 : (x.wh == who)
        · cases h2 : (x.wh == 3)
          · have HO : Hid (fltP p l (k + 1) = fltP p l k) := HNO (by rw [hh, HKX.out, h1, h2]; rfl)
            clear HN HNO
            go_wp2_with (go_at_call 80; refine (sl04HoldsG x _).mono ?_; rintro e w3 ⟨rfl, hb3⟩; obtain ⟨d0, d1, d2, d3, d4⟩ := HF.out.below hb (Below.on hB.out hb3))
            go_roundw
            case rel => exact ⟨k + 1, gN, sN, by omega, by go_num, rfl, rfl, ⟨by rw [HO.out]; exact hGS.out.1, hGS.out.2⟩, Below.on hB.out hb3⟩
            case measure => simp [intOf]; omega
          · have HO : Hid (giveI (fltP p l (k + 1)) = (takeP x.al (gN : Int) (x.ma - andI x.ma (sN : Int)), (sN : Int) + (x.ma - andI x.ma (sN : Int)))) := HN (by rw [hh, HKX.out, h1, h2]; rfl)
            clear HN HNO
            go_wp2_with (first | (go_at_call 80; refine (sl04HoldsG x _).mono ?_; rintro e w3 ⟨rfl, hb3⟩; obtain ⟨d0, d1, d2, d3, d4⟩ := HF.out.below hb (Below.on hB.out hb3)) | (go_at_call 82; refine (sTake_any x _ _ hm0 hm1 (by omega) (by have := hGS.out.2.2; omega) (by omega) (by have := hGS.out.2.1; omega) _).mono ?_; rintro e w4 ⟨rfl, hb4⟩))
            obtain ⟨g', s', e1, e2, e3, _⟩ := HK1.out
            have e4 := HO.out.symm.trans e1
            have e5 := congrArg Prod.fst e4
            have e6 := congrArg Prod.snd e4
            simp only at e5 e6
            go_roundw
            case rel => exact ⟨k + 1, g', s', by omega, by go_num, by rw [e6], by rw [e5], ⟨e1, e2, e3⟩, Below.on (Below.on hB.out hb3) hb4⟩
            case measure => simp [intOf]; omega
        · have HO : Hid (giveI (fltP p l (k + 1)) = (takeP x.al (gN : Int) (x.ma - andI x.ma (sN : Int)), (sN : Int) + (x.ma - andI x.ma (sN : Int)))) := HN (by rw [hh, HKX.out, h1]; rfl)
          clear HN HNO
          go_wp2_with (first | (go_at_call 80; refine (sl04HoldsG x _).mono ?_; rintro e w3 ⟨rfl, hb3⟩; obtain ⟨d0, d1, d2, d3, d4⟩ := HF.out.below hb (Below.on hB.out hb3)) | (go_at_call 82; refine (sTake_any x _ _ hm0 hm1 (by omega) (by have := hGS.out.2.2; omega) (by omega) (by have := hGS.out.2.1; omega) _).mono ?_; rintro e w4 ⟨rfl, hb4⟩))
          obtain ⟨g', s', e1, e2, e3, _⟩ := HK1.out
          have e4 := HO.out.symm.trans e1
          have e5 := congrArg Prod.fst e4
          have e6 := congrArg Prod.snd e4
          simp only at e5 e6
          go_roundw
          case rel => exact ⟨k + 1, g', s', by omega, by go_num, by rw [e6], by rw [e5], ⟨e1, e2, e3⟩, Below.on (Below.on hB.out hb3) hb4⟩
          case measure => simp [intOf]; omega
    · have : k = len := by omega
      subst this
      obtain ⟨b1, b2, b3⟩ := hGS.out
      have HQ : Hid ((giveI (fltP p l k)).1 = (gN : Int)) := (by show _ = _; rw [b1])
      clear b1
      go_wp2_with (go_at_call 61; refine (HR.out gN _ b2).mono ?_; rintro e w3 ⟨rfl, hb3⟩)
      go_ret
      exact ⟨ret_intJ (by rw [HQ.out]), Below.on hB.out hb3⟩
end Go.Proofs.YtdidbaadladkpaaDoor
/- impl.ofKinds and its closure. -/
namespace Go.Proofs.YtdidbaadladkpaaDoor
open Go.RowKit Go.PlainAid Go.Deep
set_option linter.unusedVariables false
set_option maxHeartbeats 1000000 in
theorem ofKinds_any (a : Option Addr) (len cap : Nat) (w : World) :
    Calls Tryd.prog 70 #[.slice a len cap] w fun e w' => ∃ Cc, e = .returned (.func (.func 90) #[] #[.pointer (some ⟨Cc, 0, none⟩)]) ∧ Below w.heap.size w w' ∧ w'.cell? ⟨Cc, 0, none⟩ = some (.slice a len cap) := by
  have h1 := bel_alloc w (.cells #[.slice a len cap] 24)
  have h2 := (cell_newG w (.slice a len cap) 24).1
  go_enter Tryd.func70, Tryd.ntmps70
  go_wp2
  go_ret
  exact ⟨_, rfl, h1, h2⟩
set_option maxHeartbeats 1000000 in
theorem ofKinds1_any (x : Ac) (a : Option Addr) (len cap : Nat) (f : Nat → Int) (Cc : Nat) (hl : len ≤ 1048576) (w : World) (hi : Ints a len f w) (hC : w.cell? ⟨Cc, 0, none⟩ = some (.slice a len cap)) :
    Calls Tryd.prog 90 #[.agg #[.bool x.al, .int .i64 x.wh, .int .i64 x.id, .int .i64 x.fl, .int .i64 x.ma], .pointer (some ⟨Cc, 0, none⟩)] w fun e w' => e = .returned (.bool (anyG f x.wh len)) ∧ Below w.heap.size w w' := by
  have hba := bel_alloc w (.cells #[.bool x.al, .int .i64 x.wh, .int .i64 x.id, .int .i64 x.fl, .int .i64 x.ma] 33)
  have c1 := (hba.cell (p := ⟨Cc, 0, none⟩) (block_lt_of_cell hC)).trans hC
  have hG : Hid (Calls Tryd.prog 91 #[.slice a len cap, .int .i64 x.wh] (w.alloc (.cells #[.bool x.al, .int .i64 x.wh, .int .i64 x.id, .int .i64 x.fl, .int .i64 x.ma] 33)) fun e w' => e = .returned (.bool (anyG f x.wh len)) ∧ w' = (w.alloc (.cells #[.bool x.al, .int .i64 x.wh, .int .i64 x.id, .int .i64 x.fl, .int .i64 x.ma] 33))) := contains_any a len cap f x.wh hl _ (hi.below hba)
  have hB : Hid (Below w.heap.size w (w.alloc (.cells #[.bool x.al, .int .i64 x.wh, .int .i64 x.id, .int .i64 x.fl, .int .i64 x.ma] 33))) := hba
  clear hi hC hba
  go_enter Tryd.func90, Tryd.ntmps90
  go_wp2_with fail
  refine hG.out.mono ?_
  rintro e w1 ⟨rfl, rfl⟩
  clear hG
  go_wp2
  go_ret
  exact ⟨rfl, hB.out⟩
/-- impl.given at kinds. -/
theorem givenKinds_any (a : Option Addr) (len cap : Nat) (l : List Ac) (ka : Option Addr) (kl kc : Nat) (kf : Nat → Int) (Cc : Nat) (hkl : kl ≤ 1048576) (ha : acesB l = true) (w : World) (hA : Acs a len l w) (hi : Ints ka kl kf w) (hC : w.cell? ⟨Cc, 0, none⟩ = some (.slice ka kl kc)) :
    Calls Tryd.prog 44 #[.slice a len cap, .func (.func 90) #[] #[.pointer (some ⟨Cc, 0, none⟩)]] w fun e w' => e = .returned (.int .i64 (giveI (fltP (fun x => anyG kf x.wh kl) l len)).1) ∧ Below w.heap.size w w' := by
  obtain ⟨h1, h2⟩ := aces_partsJ ha
  have hln := hA.1
  exact givenM_any a len cap l Cc (fun x => anyG kf x.wh kl) (by omega) (fun i hi => (aceB_iff.1 (h2 i (by omega))).2.2.2.1.1) w hA (fun x W' hB => ofKinds1_any x ka kl kc kf Cc hkl W' (hi.below hB) ((hB.cell (p := ⟨Cc, 0, none⟩) (block_lt_of_cell hC)).trans hC))
end Go.Proofs.YtdidbaadladkpaaDoor
/- impl.NfsMode. -/
namespace Go.Proofs.YtdidbaadladkpaaDoor
open Go.RowKit Go.PlainAid Go.Deep
set_option linter.unusedVariables false
theorem any2 (who wh : Int) : anyG (fun i => if i = 0 then who else 3) wh 2 = (wh == who || wh == 3) := by
  simp only [anyG, Bool.false_or, if_true]
  rw [if_neg (by omega), BEq.comm (a := who), BEq.comm (a := (3 : Int))]
theorem any1 (wh : Int) : anyG (fun _ => 3) wh 1 = (wh == 3 || wh == 3) := by
  simp only [anyG, Bool.false_or, Bool.or_self]
  rw [BEq.comm (a := (3 : Int))]
theorem flt2 (who : Int) (l : List Ac) (len : Nat) : fltP (fun x => anyG (fun i => if i = 0 then who else 3) x.wh 2) l len = fltP (kindB who) l len := by
  have : (fun x : Ac => anyG (fun i => if i = 0 then who else 3) x.wh 2) = kindB who := funext fun x => any2 who x.wh
  rw [this]
theorem flt1 (l : List Ac) (len : Nat) : fltP (fun x => anyG (fun _ => 3) x.wh 1) l len = fltP (kindB 3) l len := by
  have : (fun x : Ac => anyG (fun _ => 3) x.wh 1) = kindB 3 := funext fun x => any1 x.wh
  rw [this]
theorem made2 {w1 w2 : World} {v0 v1 : Value} {t : TypeId} (hb : Below (w1.alloc (.cells #[v0, v1] t)).heap.size (w1.alloc (.cells #[v0, v1] t)) w2) : w1.heap.size < w2.heap.size ∧ w2.cell? ⟨w1.heap.size, 0, none⟩ = some v0 ∧ w2.cell? ⟨w1.heap.size, 1, none⟩ = some v1 ∧ Below w1.heap.size w1 w2 := by
  have hz : (w1.alloc (.cells #[v0, v1] t)).heap.size = w1.heap.size + 1 := by simp
  have h0 : (w1.alloc (.cells #[v0, v1] t)).heap[w1.heap.size]? = some (.cells #[v0, v1] t) := by
    rw [World.alloc]
    exact Array.getElem?_push_size
  have hs := hb.size
  refine ⟨by omega, (hb.cell (p := ⟨w1.heap.size, 0, none⟩) (by show w1.heap.size < _; omega)).trans ?_, (hb.cell (p := ⟨w1.heap.size, 1, none⟩) (by show w1.heap.size < _; omega)).trans ?_, Below.on (bel_alloc _ _) hb⟩ <;> (simp only [World.cell?, h0]; rfl)
theorem made1 {w1 w2 : World} {v0 : Value} {t : TypeId} (hb : Below (w1.alloc (.cells #[v0] t)).heap.size (w1.alloc (.cells #[v0] t)) w2) : w1.heap.size < w2.heap.size ∧ w2.cell? ⟨w1.heap.size, 0, none⟩ = some v0 ∧ Below w1.heap.size w1 w2 := by
  have hz : (w1.alloc (.cells #[v0] t)).heap.size = w1.heap.size + 1 := by simp
  have hs := hb.size
  exact ⟨by omega, (hb.cell (p := ⟨w1.heap.size, 0, none⟩) (by show w1.heap.size < _; omega)).trans (cell_newG w1 v0 t).1, Below.on (bel_alloc _ _) hb⟩
/-- What a kind may. -/
def kindI (l : List Ac) (who : Int) : Int := rwxZ (giveI (fltP (kindB who) l l.length)).1
theorem rwxZ_7 (n : Int) : 0 ≤ rwxZ n ∧ rwxZ n ≤ 7 := by
  rw [rwxZ]
  split
  · rw [rwxN]
    (repeat' split) <;> omega
  · omega
theorem three_nat : ∀ a : Fin 8, ∀ b : Fin 8, ∀ c : Fin 8, ((a.val * 64 ||| b.val * 8) ||| c.val) = 64 * a.val + 8 * b.val + c.val := by decide +kernel
theorem three_or {a b c : Int} (ha : 0 ≤ a ∧ a ≤ 7) (hb : 0 ≤ b ∧ b ≤ 7) (hc : 0 ≤ c ∧ c ≤ 7) : bits .or .i64 (bits .or .i64 (wrap64 (a * 64)) (wrap64 (b * 8))) c = 64 * a + 8 * b + c := by
  obtain ⟨x, rfl⟩ := Int.eq_ofNat_of_zero_le ha.1
  obtain ⟨y, rfl⟩ := Int.eq_ofNat_of_zero_le hb.1
  obtain ⟨z, rfl⟩ := Int.eq_ofNat_of_zero_le hc.1
  have e1 : wrap64 ((x : Int) * 64) = ((x * 64 : Nat) : Int) := by simp only [wrap64]; omega
  have e2 : wrap64 ((y : Int) * 8) = ((y * 8 : Nat) : Int) := by simp only [wrap64]; omega
  have e3 : bits .or .i64 ((x * 64 : Nat) : Int) ((y * 8 : Nat) : Int) = ((x * 64 ||| y * 8 : Nat) : Int) := by
    rw [or_bits (by omega) (by omega) (by omega) (by omega)]; simp [orI]; rfl
  have h := three_nat ⟨x, by omega⟩ ⟨y, by omega⟩ ⟨z, by omega⟩
  have h2 := three_nat ⟨x, by omega⟩ ⟨y, by omega⟩ ⟨0, by omega⟩
  simp only [Nat.or_zero] at h h2
  have e4 : bits .or .i64 ((x * 64 ||| y * 8 : Nat) : Int) (z : Int) = (((x * 64 ||| y * 8) ||| z : Nat) : Int) := by
    rw [or_bits (by omega) (by omega) (by omega) (by omega)]; simp [orI]
  rw [e1, e2, e3, e4, h]
  omega
set_option maxRecDepth 100000 in
set_option maxHeartbeats 4000000 in
theorem iNfsMode_yes (a : Option Addr) (len cap : Nat) (l : List Ac) (ha : acesB l = true) (w : World) (hA : Acs a len l w) (hp : PlW w) :
    Calls Tryd.prog 37 #[.slice a len cap] w fun e w' => e = .returned (.int .i64 (64 * kindI l 1 + 8 * kindI l 2 + kindI l 3)) ∧ Below w.heap.size w w' := by
  have hln := hA.1
  have hr : Hid (Calls Tryd.prog 23 #[.slice a len cap] w fun e w'' => e = .returned (.bool true) ∧ Below w.heap.size w w'') := (by have := iNfsRight_any a len cap l w hA; rw [ha] at this; exact this)
  have hg2 : Hid (∀ (who : Int) (Cc b : Nat) w', Below w.heap.size w w' → b < w'.heap.size → w'.cell? ⟨b, 0, none⟩ = some (.int .i64 who) → w'.cell? ⟨b, 1, none⟩ = some (.int .i64 3) → w'.cell? ⟨Cc, 0, none⟩ = some (.slice (some ⟨b, 0, none⟩) 2 2) → Calls Tryd.prog 44 #[.slice a len cap, .func (.func 90) #[] #[.pointer (some ⟨Cc, 0, none⟩)]] w' fun e w'' => e = .returned (.int .i64 (giveI (fltP (kindB who) l len)).1) ∧ Below w'.heap.size w' w'') := (fun who Cc b w' hb hlt h0 h1 hC => by
    have := givenKinds_any a len cap l (some ⟨b, 0, none⟩) 2 2 (fun i => if i = 0 then who else 3) Cc (by omega) ha w' (hA.below hb) (fun _ => ⟨b, 0, rfl, hlt, fun i hi => match i, hi with | 0, _ => h0 | 1, _ => h1 | (n + 2), h => absurd h (by omega)⟩) hC
    rw [flt2] at this
    exact this)
  have hg1 : Hid (∀ (Cc b : Nat) w', Below w.heap.size w w' → b < w'.heap.size → w'.cell? ⟨b, 0, none⟩ = some (.int .i64 3) → w'.cell? ⟨Cc, 0, none⟩ = some (.slice (some ⟨b, 0, none⟩) 1 1) → Calls Tryd.prog 44 #[.slice a len cap, .func (.func 90) #[] #[.pointer (some ⟨Cc, 0, none⟩)]] w' fun e w'' => e = .returned (.int .i64 (giveI (fltP (kindB 3) l len)).1) ∧ Below w'.heap.size w' w'') := (fun Cc b w' hb hlt h0 hC => by
    have := givenKinds_any a len cap l (some ⟨b, 0, none⟩) 1 1 (fun _ => 3) Cc (by omega) ha w' (hA.below hb) (fun _ => ⟨b, 0, rfl, hlt, fun i hi => match i, hi with | 0, _ => h0 | (n + 1), h => absurd h (by omega)⟩) hC
    rw [flt1] at this
    exact this)
  have hx : Hid (∀ n w', Below w.heap.size w w' → Calls Tryd.prog 27 #[.int .i64 n] w' fun e w'' => e = .returned (.int .i64 (rwxZ n)) ∧ Below w'.heap.size w' w'') := (fun n w' hb => iNfsRwx_any n w' (hp.below hb))
  clear hA hp ha
  go_enter Tryd.func37, Tryd.ntmps37
  go_wp2_with fail
  refine hr.out.mono ?_
  rintro e w1 ⟨rfl, hb1⟩
  have hW1 : Hid (Below w.heap.size w w1) := hb1
  clear hb1 hr
  go_wp2_with fail
  refine (ofKinds_any _ _ _ _).mono ?_
  rintro e w2 ⟨C, rfl, hb, hC⟩
  obtain ⟨m0, m1, m2, m3⟩ := made2 hb
  have hW2 : Hid (Below w.heap.size w w2) := Below.on hW1.out m3
  go_wp2_with fail
  refine (hg2.out 1 C _ _ (Below.on hW1.out m3) m0 m1 m2 hC).mono ?_
  rintro e w3 ⟨rfl, hb'⟩
  have hW3 : Hid (Below w.heap.size w w3) := Below.on hW2.out hb'
  clear m0 m1 m2 m3 hb hC hb' hW2
  go_wp2_with fail
  refine (hx.out _ _ hW3.out).mono ?_
  rintro e w4 ⟨rfl, hb⟩
  have hW4 : Hid (Below w.heap.size w w4) := Below.on hW3.out hb
  clear hb hW3
  generalize hr1 : rwxZ (giveI (fltP (kindB 1) l len)).1 = r1
  have HR1 : Hid (kindI l 1 = r1) := (by show _ = _; rw [kindI, hln]; exact hr1)
  clear hr1
  go_wp2_with fail
  refine (ofKinds_any _ _ _ _).mono ?_
  rintro e w5 ⟨C, rfl, hb, hC⟩
  obtain ⟨m0, m1, m2, m3⟩ := made2 hb
  have hW5 : Hid (Below w.heap.size w w5) := Below.on hW4.out m3
  go_wp2_with fail
  refine (hg2.out 2 C _ _ (Below.on hW4.out m3) m0 m1 m2 hC).mono ?_
  rintro e w6 ⟨rfl, hb'⟩
  have hW6 : Hid (Below w.heap.size w w6) := Below.on hW5.out hb'
  clear m0 m1 m2 m3 hb hC hb' hW5
  go_wp2_with fail
  refine (hx.out _ _ hW6.out).mono ?_
  rintro e w7 ⟨rfl, hb⟩
  have hW7 : Hid (Below w.heap.size w w7) := Below.on hW6.out hb
  clear hb hW6
  generalize hr2 : rwxZ (giveI (fltP (kindB 2) l len)).1 = r2
  have HR2 : Hid (kindI l 2 = r2) := (by show _ = _; rw [kindI, hln]; exact hr2)
  clear hr2
  go_wp2_with fail
  refine (ofKinds_any _ _ _ _).mono ?_
  rintro e w8 ⟨C, rfl, hb, hC⟩
  obtain ⟨m0, m1, m3⟩ := made1 hb
  have hW8 : Hid (Below w.heap.size w w8) := Below.on hW7.out m3
  go_wp2_with fail
  refine (hg1.out C _ _ (Below.on hW7.out m3) m0 m1 hC).mono ?_
  rintro e w9 ⟨rfl, hb'⟩
  have hW9 : Hid (Below w.heap.size w w9) := Below.on hW8.out hb'
  clear m0 m1 m3 hb hC hb' hW8
  go_wp2_with fail
  refine (hx.out _ _ hW9.out).mono ?_
  rintro e w10 ⟨rfl, hb⟩
  have hW10 : Hid (Below w.heap.size w w10) := Below.on hW9.out hb
  clear hb hW9
  generalize hr3 : rwxZ (giveI (fltP (kindB 3) l len)).1 = r3
  have HR3 : Hid (kindI l 3 = r3) := (by show _ = _; rw [kindI, hln]; exact hr3)
  clear hr3
  have q1 : 0 ≤ r1 ∧ r1 ≤ 7 := by rw [← HR1.out]; exact rwxZ_7 _
  have q2 : 0 ≤ r2 ∧ r2 ≤ 7 := by rw [← HR2.out]; exact rwxZ_7 _
  have q3 : 0 ≤ r3 ∧ r3 ≤ 7 := by rw [← HR3.out]; exact rwxZ_7 _
  have HS : Hid (bits .or .i64 (bits .or .i64 (wrap64 (r1 * 64)) (wrap64 (r2 * 8))) r3 = 64 * kindI l 1 + 8 * kindI l 2 + kindI l 3) := (by show _ = _; rw [HR1.out, HR2.out, HR3.out]; exact three_or q1 q2 q3)
  clear q1 q2 q3
  go_wp2
  go_ret
  exact ⟨ret_intJ HS.out, hW10.out⟩
/-- NfsMode. -/
def modeI (l : List Ac) : Int := if acesB l then 64 * kindI l 1 + 8 * kindI l 2 + kindI l 3 else 0
set_option maxHeartbeats 1000000 in
/-- impl.NfsMode. -/
theorem iNfsMode_any (a : Option Addr) (len cap : Nat) (l : List Ac) (w : World) (hA : Acs a len l w) (hp : PlW w) :
    Calls Tryd.prog 37 #[.slice a len cap] w fun e w' => e = .returned (.int .i64 (modeI l)) ∧ Below w.heap.size w w' := by
  cases h : acesB l
  · have e : modeI l = 0 := by simp [modeI, h]
    have hr : Hid (Calls Tryd.prog 23 #[.slice a len cap] w fun e w'' => e = .returned (.bool false) ∧ Below w.heap.size w w'') := (by have := iNfsRight_any a len cap l w hA; rw [h] at this; exact this)
    rw [e]
    clear hA hp h e
    go_enter Tryd.func37, Tryd.ntmps37
    go_wp2_with fail
    refine hr.out.mono ?_
    rintro e w1 ⟨rfl, hb1⟩
    go_wp2
    go_ret
    exact ⟨rfl, hb1⟩
  · have e : modeI l = 64 * kindI l 1 + 8 * kindI l 2 + kindI l 3 := by simp [modeI, h]
    rw [e]
    exact iNfsMode_yes a len cap l h w hA hp
end Go.Proofs.YtdidbaadladkpaaDoor
