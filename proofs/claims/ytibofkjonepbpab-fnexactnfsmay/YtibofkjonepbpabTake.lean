/- spec.l04Take; spec.l04Holds. -/
import Derived.Test.YtibofkjonepbpabHolding
import Derived.Test.YtibofkjonepbpabBoth
import Derived.BigQuiet
namespace Go.Proofs.Ytibofkjonepbpab
open Go.RowKit Go.PlainAid Go.Deep
set_option linter.unusedVariables false
theorem below_drewT {B : Nat} {w w' : World} (h : Below B w w') (n : Nat) : Below B w (w'.drewN n) := h.trans ⟨rfl, rfl, rfl, Nat.le_refl _, fun _ _ => rfl⟩
/-- What is given then. -/
def takeP (al : Bool) (p d : Int) : Int := if al then p + d else p
theorem take_eq {a b c d : Int} (h : a = c) (h2 : b = d) : Ending.returned (.tuple #[.int .i64 a, .int .i64 b]) = .returned (.tuple #[.int .i64 c, .int .i64 d]) := by rw [h, h2]
set_option maxRecDepth 100000 in
set_option maxHeartbeats 4000000 in
/-- spec.l04Take. -/
theorem sTake_any (x : Ac) (s p : Int) (m0 : 0 ≤ x.ma) (m1 : x.ma ≤ 255) (s0 : 0 ≤ s) (s1 : s ≤ 255) (p0 : 0 ≤ p) (p1 : p ≤ 65535) (w : World) :
    Calls Try.prog 50 #[.agg #[.bool x.al, .int .i64 x.wh, .int .i64 x.id, .int .i64 x.fl, .int .i64 x.ma], .int .i64 s, .int .i64 p] w fun e w' => e = .returned (.tuple #[.int .i64 (s + (x.ma - andI x.ma s)), .int .i64 (takeP x.al p (x.ma - andI x.ma s))]) ∧ Below w.heap.size w w' := by
  have hba := bel_alloc w (.cells #[.bool x.al, .int .i64 x.wh, .int .i64 x.id, .int .i64 x.fl, .int .i64 x.ma] 30)
  have hB : Hid (Below w.heap.size w (w.alloc (.cells #[.bool x.al, .int .i64 x.wh, .int .i64 x.id, .int .i64 x.fl, .int .i64 x.ma] 30))) := hba
  have hbt : Hid (∀ w, Calls Try.prog 68 #[.int .i64 x.ma, .int .i64 s] w fun e w' => e = .returned (.int .i64 (andI x.ma s)) ∧ w' = w) := sBoth_any x.ma s m0 (by omega) s0 (by omega)
  have hd : 0 ≤ x.ma - andI x.ma s ∧ x.ma - andI x.ma s ≤ 255 := by
    obtain ⟨a, ha⟩ := Int.eq_ofNat_of_zero_le m0
    obtain ⟨b, hb⟩ := Int.eq_ofNat_of_zero_le s0
    rw [ha, hb]
    have h1 : andI (a : Int) (b : Int) = ((a &&& b : Nat) : Int) := by simp [andI]
    have h2 : a &&& b ≤ a := Nat.and_le_left
    rw [h1]
    omega
  generalize hq : andI x.ma s = q at hbt hd ⊢
  clear hq hba
  obtain ⟨d0, d1⟩ := hd
  go_enter Try.func50, Try.ntmps50
  go_wp2_with fail
  have z0 : (w.alloc (.cells #[.bool x.al, .int .i64 x.wh, .int .i64 x.id, .int .i64 x.fl, .int .i64 x.ma] 30)).cell? ⟨w.heap.size, 0, none⟩ = some (.bool x.al) := by simp [go_sem]
  have z4 : (w.alloc (.cells #[.bool x.al, .int .i64 x.wh, .int .i64 x.id, .int .i64 x.fl, .int .i64 x.ma] 30)).cell? ⟨w.heap.size, 4, none⟩ = some (.int .i64 x.ma) := by simp [go_sem]
  generalize (w.alloc (.cells #[.bool x.al, .int .i64 x.wh, .int .i64 x.id, .int .i64 x.fl, .int .i64 x.ma] 30)) = w1 at z0 z4 hB ⊢
  go_quiet ((go_at_call 68; exact Calls.quiet_of_same (hbt.out _)))
  have hB2 : Hid (Below w.heap.size w (w1.drewN nq)) := below_drewT hB.out nq
  have y0 : (w1.drewN nq).cell? ⟨w.heap.size, 0, none⟩ = some (.bool x.al) := z0
  generalize w1.drewN nq = w2 at hB2 y0 ⊢
  have D0 : 0 ≤ x.ma - q := d0
  generalize hdd : x.ma - q = d at D0 d0 d1 ⊢
  have HD : Hid (x.ma - q = d) := hdd
  clear hdd
  clear z0 z4 hB hbt D0
  cases hal : x.al
  · rw [hal] at y0
    go_wp2
    exact bodyPost_ret (v := .tuple #[.int .i64 (s + d), .int .i64 p]) (by simp [results, Try.results50, go_sem]) rfl ⟨take_eq (by rw [HD.out]) (by rw [HD.out]; simp [takeP, hal]), hB2.out⟩
  · rw [hal] at y0
    go_wp2
    exact bodyPost_ret (v := .tuple #[.int .i64 (s + d), .int .i64 (p + d)]) (by simp [results, Try.results50, go_sem]) rfl ⟨take_eq (by rw [HD.out]) (by rw [HD.out]; simp [takeP, hal]), hB2.out⟩
set_option maxHeartbeats 1000000 in
theorem sl04HoldsG (x : Ac) (w : World) :
    Calls Try.prog 48 #[.agg #[.bool x.al, .int .i64 x.wh, .int .i64 x.id, .int .i64 x.fl, .int .i64 x.ma]] w fun e w' => e = .returned (.bool (hldB x)) ∧ Below w.heap.size w w' := by
  go_enter Try.func48, Try.ntmps48
  go_wp2
  go_ret
  exact ⟨ret_boolW rfl, bel_alloc _ _⟩
end Go.Proofs.Ytibofkjonepbpab
