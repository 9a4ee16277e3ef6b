/- impl.NfsMode. -/
import Derived.Test.YtklaebcdbbgooabDoorKinds
import Derived.Test.YtklaebcdbbgooabDoorNfsBits
namespace Go.Proofs.YtklaebcdbbgooabDoor
open Go.RowKit Go.PlainAid Go.Deep
set_option linter.unusedVariables false
theorem any2 (who wh : Int) : anyG (fun i => if i = 0 then who else 3) wh 2 = (wh == who || wh == 3) := by
  simp only [anyG, Bool.false_or, if_true]
  rw [if_neg (by omega), BEq.comm (a := who), BEq.comm (a := (3 : Int))]
theorem any1 (wh : Int) : anyG (fun _ => 3) wh 1 = (wh == 3 || wh == 3) := by
  simp only [anyG, Bool.false_or, Bool.or_self]
  rw [BEq.comm (a := (3 : Int))]
theorem flt2 (who : Int) (l : List Ac) (len : Nat) : fltP (fun x => anyG (fun i => if i = 0 then who else 3) x.wh 2) l len = fltP (kindB who) l len := by
  have : (fun x : Ac => anyG (fun i => if i = 0 then who else 3) x.wh 2) = kindB who := funext fun x => any2 who x.wh
  rw [this]
theorem flt1 (l : List Ac) (len : Nat) : fltP (fun x => anyG (fun _ => 3) x.wh 1) l len = fltP (kindB 3) l len := by
  have : (fun x : Ac => anyG (fun _ => 3) x.wh 1) = kindB 3 := funext fun x => any1 x.wh
  rw [this]
theorem made2 {w1 w2 : World} {v0 v1 : Value} {t : TypeId} (hb : Below (w1.alloc (.cells #[v0, v1] t)).heap.size (w1.alloc (.cells #[v0, v1] t)) w2) : w1.heap.size < w2.heap.size ∧ w2.cell? ⟨w1.heap.size, 0, none⟩ = some v0 ∧ w2.cell? ⟨w1.heap.size, 1, none⟩ = some v1 ∧ Below w1.heap.size w1 w2 := by
  have hz : (w1.alloc (.cells #[v0, v1] t)).heap.size = w1.heap.size + 1 := by simp
  have h0 : (w1.alloc (.cells #[v0, v1] t)).heap[w1.heap.size]? = some (.cells #[v0, v1] t) := by
    rw [World.alloc]
    exact Array.getElem?_push_size
  have hs := hb.size
  refine ⟨by omega, (hb.cell (p := ⟨w1.heap.size, 0, none⟩) (by show w1.heap.size < _; omega)).trans ?_, (hb.cell (p := ⟨w1.heap.size, 1, none⟩) (by show w1.heap.size < _; omega)).trans ?_, Below.on (bel_alloc _ _) hb⟩ <;> (simp only [World.cell?, h0]; rfl)
theorem made1 {w1 w2 : World} {v0 : Value} {t : TypeId} (hb : Below (w1.alloc (.cells #[v0] t)).heap.size (w1.alloc (.cells #[v0] t)) w2) : w1.heap.size < w2.heap.size ∧ w2.cell? ⟨w1.heap.size, 0, none⟩ = some v0 ∧ Below w1.heap.size w1 w2 := by
  have hz : (w1.alloc (.cells #[v0] t)).heap.size = w1.heap.size + 1 := by simp
  have hs := hb.size
  exact ⟨by omega, (hb.cell (p := ⟨w1.heap.size, 0, none⟩) (by show w1.heap.size < _; omega)).trans (cell_newG w1 v0 t).1, Below.on (bel_alloc _ _) hb⟩
/-- What a kind may. -/
def kindI (l : List Ac) (who : Int) : Int := rwxZ (giveI (fltP (kindB who) l l.length)).1
theorem rwxZ_7 (n : Int) : 0 ≤ rwxZ n ∧ rwxZ n ≤ 7 := by
  rw [rwxZ]
  split
  · rw [rwxN]
    (repeat' split) <;> omega
  · omega
theorem three_nat : ∀ a : Fin 8, ∀ b : Fin 8, ∀ c : Fin 8, ((a.val * 64 ||| b.val * 8) ||| c.val) = 64 * a.val + 8 * b.val + c.val := by decide +kernel
theorem three_or {a b c : Int} (ha : 0 ≤ a ∧ a ≤ 7) (hb : 0 ≤ b ∧ b ≤ 7) (hc : 0 ≤ c ∧ c ≤ 7) : bits .or .i64 (bits .or .i64 (wrap64 (a * 64)) (wrap64 (b * 8))) c = 64 * a + 8 * b + c := by
  obtain ⟨x, rfl⟩ := Int.eq_ofNat_of_zero_le ha.1
  obtain ⟨y, rfl⟩ := Int.eq_ofNat_of_zero_le hb.1
  obtain ⟨z, rfl⟩ := Int.eq_ofNat_of_zero_le hc.1
  have e1 : wrap64 ((x : Int) * 64) = ((x * 64 : Nat) : Int) := by simp only [wrap64]; omega
  have e2 : wrap64 ((y : Int) * 8) = ((y * 8 : Nat) : Int) := by simp only [wrap64]; omega
  have e3 : bits .or .i64 ((x * 64 : Nat) : Int) ((y * 8 : Nat) : Int) = ((x * 64 ||| y * 8 : Nat) : Int) := by
    rw [or_bits (by omega) (by omega) (by omega) (by omega)]; simp [orI]; rfl
  have h := three_nat ⟨x, by omega⟩ ⟨y, by omega⟩ ⟨z, by omega⟩
  have h2 := three_nat ⟨x, by omega⟩ ⟨y, by omega⟩ ⟨0, by omega⟩
  simp only [Nat.or_zero] at h h2
  have e4 : bits .or .i64 ((x * 64 ||| y * 8 : Nat) : Int) (z : Int) = (((x * 64 ||| y * 8) ||| z : Nat) : Int) := by
    rw [or_bits (by omega) (by omega) (by omega) (by omega)]; simp [orI]
  rw [e1, e2, e3, e4, h]
  omega
set_option maxRecDepth 100000 in
set_option maxHeartbeats 4000000 in
theorem iNfsMode_yes (a : Option Addr) (len cap : Nat) (l : List Ac) (ha : acesB l = true) (w : World) (hA : Acs a len l w) (hp : PlW w) :
    Calls Tryd.prog 8 #[.slice a len cap] w fun e w' => e = .returned (.int .i64 (64 * kindI l 1 + 8 * kindI l 2 + kindI l 3)) ∧ Below w.heap.size w w' := by
  have hln := hA.1
  have hr : Hid (Calls Tryd.prog 19 #[.slice a len cap] w fun e w'' => e = .returned (.bool true) ∧ Below w.heap.size w w'') := (by have := iNfsRight_any a len cap l w hA; rw [ha] at this; exact this)
  have hg2 : Hid (∀ (who : Int) (Cc b : Nat) w', Below w.heap.size w w' → b < w'.heap.size → w'.cell? ⟨b, 0, none⟩ = some (.int .i64 who) → w'.cell? ⟨b, 1, none⟩ = some (.int .i64 3) → w'.cell? ⟨Cc, 0, none⟩ = some (.slice (some ⟨b, 0, none⟩) 2 2) → Calls Tryd.prog 21 #[.slice a len cap, .func (.func 39) #[] #[.pointer (some ⟨Cc, 0, none⟩)]] w' fun e w'' => e = .returned (.int .i64 (giveI (fltP (kindB who) l len)).1) ∧ Below w'.heap.size w' w'') := (fun who Cc b w' hb hlt h0 h1 hC => by
    have := givenKinds_any a len cap l (some ⟨b, 0, none⟩) 2 2 (fun i => if i = 0 then who else 3) Cc (by omega) ha w' (hA.below hb) (fun _ => ⟨b, 0, rfl, hlt, fun i hi => match i, hi with | 0, _ => h0 | 1, _ => h1 | (n + 2), h => absurd h (by omega)⟩) hC
    rw [flt2] at this
    exact this)
  have hg1 : Hid (∀ (Cc b : Nat) w', Below w.heap.size w w' → b < w'.heap.size → w'.cell? ⟨b, 0, none⟩ = some (.int .i64 3) → w'.cell? ⟨Cc, 0, none⟩ = some (.slice (some ⟨b, 0, none⟩) 1 1) → Calls Tryd.prog 21 #[.slice a len cap, .func (.func 39) #[] #[.pointer (some ⟨Cc, 0, none⟩)]] w' fun e w'' => e = .returned (.int .i64 (giveI (fltP (kindB 3) l len)).1) ∧ Below w'.heap.size w' w'') := (fun Cc b w' hb hlt h0 hC => by
    have := givenKinds_any a len cap l (some ⟨b, 0, none⟩) 1 1 (fun _ => 3) Cc (by omega) ha w' (hA.below hb) (fun _ => ⟨b, 0, rfl, hlt, fun i hi => match i, hi with | 0, _ => h0 | (n + 1), h => absurd h (by omega)⟩) hC
    rw [flt1] at this
    exact this)
  have hx : Hid (∀ n w', Below w.heap.size w w' → Calls Tryd.prog 20 #[.int .i64 n] w' fun e w'' => e = .returned (.int .i64 (rwxZ n)) ∧ Below w'.heap.size w' w'') := (fun n w' hb => iNfsRwx_any n w' (hp.below hb))
  clear hA hp ha
  go_enter Tryd.func8, Tryd.ntmps8
  go_wp2_with fail
  refine hr.out.mono ?_
  rintro e w1 ⟨rfl, hb1⟩
  have hW1 : Hid (Below w.heap.size w w1) := hb1
  clear hb1 hr
  go_wp2_with fail
  refine (ofKinds_any _ _ _ _).mono ?_
  rintro e w2 ⟨C, rfl, hb, hC⟩
  obtain ⟨m0, m1, m2, m3⟩ := made2 hb
  have hW2 : Hid (Below w.heap.size w w2) := Below.on hW1.out m3
  go_wp2_with fail
  refine (hg2.out 1 C _ _ (Below.on hW1.out m3) m0 m1 m2 hC).mono ?_
  rintro e w3 ⟨rfl, hb'⟩
  have hW3 : Hid (Below w.heap.size w w3) := Below.on hW2.out hb'
  clear m0 m1 m2 m3 hb hC hb' hW2
  go_wp2_with fail
  refine (hx.out _ _ hW3.out).mono ?_
  rintro e w4 ⟨rfl, hb⟩
  have hW4 : Hid (Below w.heap.size w w4) := Below.on hW3.out hb
  clear hb hW3
  generalize hr1 : rwxZ (giveI (fltP (kindB 1) l len)).1 = r1
  have HR1 : Hid (kindI l 1 = r1) := (by show _ = _; rw [kindI, hln]; exact hr1)
  clear hr1
  go_wp2_with fail
  refine (ofKinds_any _ _ _ _).mono ?_
  rintro e w5 ⟨C, rfl, hb, hC⟩
  obtain ⟨m0, m1, m2, m3⟩ := made2 hb
  have hW5 : Hid (Below w.heap.size w w5) := Below.on hW4.out m3
  go_wp2_with fail
  refine (hg2.out 2 C _ _ (Below.on hW4.out m3) m0 m1 m2 hC).mono ?_
  rintro e w6 ⟨rfl, hb'⟩
  have hW6 : Hid (Below w.heap.size w w6) := Below.on hW5.out hb'
  clear m0 m1 m2 m3 hb hC hb' hW5
  go_wp2_with fail
  refine (hx.out _ _ hW6.out).mono ?_
  rintro e w7 ⟨rfl, hb⟩
  have hW7 : Hid (Below w.heap.size w w7) := Below.on hW6.out hb
  clear hb hW6
  generalize hr2 : rwxZ (giveI (fltP (kindB 2) l len)).1 = r2
  have HR2 : Hid (kindI l 2 = r2) := (by show _ = _; rw [kindI, hln]; exact hr2)
  clear hr2
  go_wp2_with fail
  refine (ofKinds_any _ _ _ _).mono ?_
  rintro e w8 ⟨C, rfl, hb, hC⟩
  obtain ⟨m0, m1, m3⟩ := made1 hb
  have hW8 : Hid (Below w.heap.size w w8) := Below.on hW7.out m3
  go_wp2_with fail
  refine (hg1.out C _ _ (Below.on hW7.out m3) m0 m1 hC).mono ?_
  rintro e w9 ⟨rfl, hb'⟩
  have hW9 : Hid (Below w.heap.size w w9) := Below.on hW8.out hb'
  clear m0 m1 m3 hb hC hb' hW8
  go_wp2_with fail
  refine (hx.out _ _ hW9.out).mono ?_
  rintro e w10 ⟨rfl, hb⟩
  have hW10 : Hid (Below w.heap.size w w10) := Below.on hW9.out hb
  clear hb hW9
  generalize hr3 : rwxZ (giveI (fltP (kindB 3) l len)).1 = r3
  have HR3 : Hid (kindI l 3 = r3) := (by show _ = _; rw [kindI, hln]; exact hr3)
  clear hr3
  have q1 : 0 ≤ r1 ∧ r1 ≤ 7 := by rw [← HR1.out]; exact rwxZ_7 _
  have q2 : 0 ≤ r2 ∧ r2 ≤ 7 := by rw [← HR2.out]; exact rwxZ_7 _
  have q3 : 0 ≤ r3 ∧ r3 ≤ 7 := by rw [← HR3.out]; exact rwxZ_7 _
  have HS : Hid (bits .or .i64 (bits .or .i64 (wrap64 (r1 * 64)) (wrap64 (r2 * 8))) r3 = 64 * kindI l 1 + 8 * kindI l 2 + kindI l 3) := (by show _ = _; rw [HR1.out, HR2.out, HR3.out]; exact three_or q1 q2 q3)
  clear q1 q2 q3
  go_wp2
  go_ret
  exact ⟨ret_intJ HS.out, hW10.out⟩
/-- NfsMode. -/
def modeI (l : List Ac) : Int := if acesB l then 64 * kindI l 1 + 8 * kindI l 2 + kindI l 3 else 0
set_option maxHeartbeats 1000000 in
/-- impl.NfsMode. -/
theorem iNfsMode_any (a : Option Addr) (len cap : Nat) (l : List Ac) (w : World) (hA : Acs a len l w) (hp : PlW w) :
    Calls Tryd.prog 8 #[.slice a len cap] w fun e w' => e = .returned (.int .i64 (modeI l)) ∧ Below w.heap.size w w' := by
  cases h : acesB l
  · have e : modeI l = 0 := by simp [modeI, h]
    have hr : Hid (Calls Tryd.prog 19 #[.slice a len cap] w fun e w'' => e = .returned (.bool false) ∧ Below w.heap.size w w'') := (by have := iNfsRight_any a len cap l w hA; rw [h] at this; exact this)
    rw [e]
    clear hA hp h e
    go_enter Tryd.func8, Tryd.ntmps8
    go_wp2_with fail
    refine hr.out.mono ?_
    rintro e w1 ⟨rfl, hb1⟩
    go_wp2
    go_ret
    exact ⟨rfl, hb1⟩
  · have e : modeI l = 64 * kindI l 1 + 8 * kindI l 2 + kindI l 3 := by simp [modeI, h]
    rw [e]
    exact iNfsMode_yes a len cap l h w hA hp
end Go.Proofs.YtklaebcdbbgooabDoor
