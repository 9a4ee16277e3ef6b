/- Laid together: SameM, SameL. -/
import Derived.Test.YtcgkkeooigjbbaaST22
import Derived.Test.YtcgkkeooigjbbaaST5
/- What is the same: lists, nodes, trees. -/
namespace Go.Proofs.Ytcgkkeooigjbbaa
open Go.RowKit Go.PlainAid Go.Deep
set_option linter.unusedVariables false
def prsT (a b : List (Int × Int)) : Nat → Bool
  | 0 => true
  | k + 1 => prsT a b k && (idAt a k == idAt b k && btAt a k == btAt b k)
def prsE (a b : List (Int × Int)) : Bool := a.length == b.length && prsT a b a.length
def ensT (a b : List (ByteArray × Int)) : Nat → Bool
  | 0 => true
  | k + 1 => ensT a b k && ((nmAt a k).toList == (nmAt b k).toList && noAt a k == noAt b k)
def ensE (a b : List (ByteArray × Int)) : Bool := a.length == b.length && ensT a b a.length
def Al.sm (A B : Al) : Bool := A.u == B.u && (A.g == B.g && (A.o == B.o && (A.r == B.r && (A.m == B.m && (prsE A.us B.us && prsE A.gs B.gs)))))
def Nd.s1 (x z : Nd) : Bool := x.k == z.k && (x.ow == z.ow && (x.gr == z.gr && x.ex == z.ex))
def Nd.s2 (x z : Nd) : Bool := x.sh == z.sh && (x.li == z.li && (x.up == z.up && (x.bo.toList == z.bo.toList)))
def Nd.sm (x z : Nd) : Bool := (x.s1 z && x.s2 z) && (x.A.sm z.A && (x.D.sm z.D && ensE x.ns z.ns))
theorem prsT_false {a b : List (Int × Int)} {k n : Nat} (h : k < n) (hk : (idAt a k == idAt b k && btAt a k == btAt b k) = false) : prsT a b n = false := by
  induction n with
  | zero => omega
  | succ n ih =>
    by_cases e : k = n
    · subst e; simp only [prsT, hk, Bool.and_false]
    · simp only [prsT, ih (by omega), Bool.false_and]
theorem ensT_false {a b : List (ByteArray × Int)} {k n : Nat} (h : k < n) (hk : ((nmAt a k).toList == (nmAt b k).toList && noAt a k == noAt b k) = false) : ensT a b n = false := by
  induction n with
  | zero => omega
  | succ n ih =>
    by_cases e : k = n
    · subst e; simp only [ensT, hk, Bool.and_false]
    · simp only [ensT, ih (by omega), Bool.false_and]
def ndsT (l m : List Nd) : Nat → Bool
  | 0 => true
  | k + 1 => ndsT l m k && (ndAt l k).sm (ndAt m k)
theorem ndsT_false {l m : List Nd} {k n : Nat} (h : k < n) (hk : (ndAt l k).sm (ndAt m k) = false) : ndsT l m n = false := by
  induction n with
  | zero => omega
  | succ n ih =>
    by_cases e : k = n
    · subst e; simp only [ndsT, hk, Bool.and_false]
    · simp only [ndsT, ih (by omega), Bool.false_and]
def ndsE (l m : List Nd) : Bool := l.length == m.length && ndsT l m l.length
def smO (l : List Nd) (now : Int) (m : List Nd) (now2 : Int) : Bool := treeB l now && (treeB m now2 && ndsE l m)
end Go.Proofs.Ytcgkkeooigjbbaa
/- slices.Equal of two lists of names and of entries; spec.l08SameNamed; the Acls. -/
namespace Go.Proofs.Ytcgkkeooigjbbaa
open Go.RowKit Go.PlainAid Go.Deep
set_option linter.unusedVariables false
theorem below_drewN2 {B : Nat} {w w' : World} (h : Below B w w') (n : Nat) : Below B w (w'.drewN n) := h.trans ⟨rfl, rfl, rfl, Nat.le_refl _, fun _ _ => rfl⟩
set_option maxHeartbeats 4000000 in
theorem eqN_some (b off b2 off2 len cap cap2 : Nat) (l m : List (Int × Int)) (hl : len ≤ 1048576) (h1 : l.length = len) (h2 : m.length = len) (w : World) (hb : b < w.heap.size) (hb2 : b2 < w.heap.size)
    (hc : Hid (∀ i, i < len → w.cell? ⟨b, off + i * 2, none⟩ = some (.int .i64 (idAt l i)) ∧ w.cell? ⟨b, off + i * 2 + 1, none⟩ = some (.int .i64 (btAt l i))))
    (hc2 : Hid (∀ i, i < len → w.cell? ⟨b2, off2 + i * 2, none⟩ = some (.int .i64 (idAt m i)) ∧ w.cell? ⟨b2, off2 + i * 2 + 1, none⟩ = some (.int .i64 (btAt m i)))) :
    Calls Try.prog 101 #[.slice (some ⟨b, off, none⟩) len cap, .slice (some ⟨b2, off2, none⟩) len cap2] w fun e w' => e = .returned (.bool (prsE l m)) ∧ Below w.heap.size w w' := by
  have HE : Hid (prsE l m = prsT l m len) := (by show _ = _; simp [prsE, h1, h2])
  go_enter Try.func101, Try.ntmps101
  go_wp2
  go_loopw [13] (fun i wr => ∃ (k : Nat), k ≤ len ∧ i = .int .i64 k ∧ Hid (prsT l m k = true) ∧ Hid (Below w.heap.size w wr)) (fun i _ => len - (intOf i).toNat)
  case atStart => exact ⟨0, Nat.zero_le _, rfl, rfl, Below.refl _ _⟩
  case round =>
    obtain ⟨k, hk, rfl, hT, hB⟩ := hrel
    by_cases hlt : k < len
    · have g0 : wr.cell? ⟨b, off + k * 2, none⟩ = some (.int .i64 (idAt l k)) := (hB.out.cell (p := ⟨b, off + k * 2, none⟩) hb).trans (hc.out k hlt).1
      have g1 : wr.cell? ⟨b, off + k * 2 + 1, none⟩ = some (.int .i64 (btAt l k)) := (hB.out.cell (p := ⟨b, off + k * 2 + 1, none⟩) hb).trans (hc.out k hlt).2
      have g2 : wr.cell? ⟨b2, off2 + k * 2, none⟩ = some (.int .i64 (idAt m k)) := (hB.out.cell (p := ⟨b2, off2 + k * 2, none⟩) hb2).trans (hc2.out k hlt).1
      have g3 : wr.cell? ⟨b2, off2 + k * 2 + 1, none⟩ = some (.int .i64 (btAt m k)) := (hB.out.cell (p := ⟨b2, off2 + k * 2 + 1, none⟩) hb2).trans (hc2.out k hlt).2
      have hlt' : (k : Int) < (len : Int) := by omega
      have h0' : (0 : Int) ≤ (k : Int) := by omega
      have HY : Hid (((idAt l k == idAt m k) && (btAt l k == btAt m k)) = true → prsT l m (k + 1) = true) := (fun e => by simp only [prsT, hT.out, e, Bool.and_self])
      have HN : Hid (((idAt l k == idAt m k) && (btAt l k == btAt m k)) = false → prsT l m len = false) := (fun e => prsT_false hlt e)
      generalize idAt l k = q1 at g0 HY HN
      generalize btAt l k = q2 at g1 HY HN
      generalize idAt m k = q3 at g2 HY HN
      generalize btAt m k = q4 at g3 HY HN
      cases e1 : (q1 == q3) <;> cases e2 : (q2 == q4)
      case true.true =>
        have hyes : Hid (prsT l m (k + 1) = true) := HY.out (by rw [e1, e2]; rfl)
        clear HY HN
        go_wp2
        go_quiet (fail)
        go_wp2
        go_roundw
        case rel => exact ⟨k + 1, by omega, by go_num, hyes, below_drewN2 hB.out _⟩
        case measure => simp [intOf]; omega
      all_goals
        have hno : Hid (prsT l m len = false) := HN.out (by rw [e1, e2]; rfl)
        clear HY HN
        go_wp2
        go_quiet (fail)
        go_wp2
        go_ret
        exact ⟨ret_boolW (by rw [HE.out]; exact hno.out.symm), below_drewN2 hB.out _⟩
    · have : k = len := by omega
      subst this
      go_wp2
      go_ret
      exact ⟨ret_boolW (by rw [HE.out]; exact hT.out.symm), hB.out⟩
set_option maxHeartbeats 4000000 in
theorem eqN_any (a a2 : Option Addr) (cap cap2 : Nat) (l m : List (Int × Int)) (hl : l.length ≤ 1048576) (hl2 : m.length ≤ 1048576) (w : World) (h1 : Prs a l.length l w) (h2 : Prs a2 m.length m w) :
    Calls Try.prog 101 #[.slice a l.length cap, .slice a2 m.length cap2] w fun e w' => e = .returned (.bool (prsE l m)) ∧ Below w.heap.size w w' := by
  by_cases he : l.length = m.length
  · by_cases h0 : l.length = 0
    · have h3 : m.length = 0 := by omega
      have HE : Hid (prsE l m = true) := (by show _ = _; simp [prsE, h0, h3, prsT])
      rw [h0, h3]
      go_enter Try.func101, Try.ntmps101
      go_wp2
      go_rounds 1
      go_ret
      exact ⟨ret_boolW HE.out.symm, Below.refl _ _⟩
    · obtain ⟨b, off, rfl, hb, hc⟩ := h1.2 (by omega)
      obtain ⟨b2, off2, rfl, hb2, hc2⟩ := h2.2 (by omega)
      rw [← he] at hc2 ⊢
      exact eqN_some b off b2 off2 l.length cap cap2 l m hl rfl he.symm w hb hb2 hc hc2
  · have HE : Hid (prsE l m = false) := (by show _ = _; simp [prsE, he])
    have hne : ((l.length : Int) != (m.length : Int)) = true := by simp; omega
    have hne2 : ((l.length : Int) == (m.length : Int)) = false := by simp; omega
    go_enter Try.func101, Try.ntmps101
    go_wp2
    go_ret
    exact ⟨ret_boolW HE.out.symm, Below.refl _ _⟩
set_option maxHeartbeats 4000000 in
theorem eqE_some (b off b2 off2 len cap cap2 : Nat) (l m : List (ByteArray × Int)) (hl : len ≤ 1048576) (h1 : l.length = len) (h2 : m.length = len) (w : World) (hb : b < w.heap.size) (hb2 : b2 < w.heap.size)
    (hc : Hid (∀ i, i < len → w.cell? ⟨b, off + i * 2, none⟩ = some (.string (nmAt l i)) ∧ w.cell? ⟨b, off + i * 2 + 1, none⟩ = some (.int .i64 (noAt l i))))
    (hc2 : Hid (∀ i, i < len → w.cell? ⟨b2, off2 + i * 2, none⟩ = some (.string (nmAt m i)) ∧ w.cell? ⟨b2, off2 + i * 2 + 1, none⟩ = some (.int .i64 (noAt m i)))) :
    Calls Try.prog 72 #[.slice (some ⟨b, off, none⟩) len cap, .slice (some ⟨b2, off2, none⟩) len cap2] w fun e w' => e = .returned (.bool (ensE l m)) ∧ Below w.heap.size w w' := by
  have HE : Hid (ensE l m = ensT l m len) := (by show _ = _; simp [ensE, h1, h2])
  go_enter Try.func72, Try.ntmps72
  go_wp2
  go_loopw [13] (fun i wr => ∃ (k : Nat), k ≤ len ∧ i = .int .i64 k ∧ Hid (ensT l m k = true) ∧ Hid (Below w.heap.size w wr)) (fun i _ => len - (intOf i).toNat)
  case atStart => exact ⟨0, Nat.zero_le _, rfl, rfl, Below.refl _ _⟩
  case round =>
    obtain ⟨k, hk, rfl, hT, hB⟩ := hrel
    by_cases hlt : k < len
    · have g0 : wr.cell? ⟨b, off + k * 2, none⟩ = some (.string (nmAt l k)) := (hB.out.cell (p := ⟨b, off + k * 2, none⟩) hb).trans (hc.out k hlt).1
      have g1 : wr.cell? ⟨b, off + k * 2 + 1, none⟩ = some (.int .i64 (noAt l k)) := (hB.out.cell (p := ⟨b, off + k * 2 + 1, none⟩) hb).trans (hc.out k hlt).2
      have g2 : wr.cell? ⟨b2, off2 + k * 2, none⟩ = some (.string (nmAt m k)) := (hB.out.cell (p := ⟨b2, off2 + k * 2, none⟩) hb2).trans (hc2.out k hlt).1
      have g3 : wr.cell? ⟨b2, off2 + k * 2 + 1, none⟩ = some (.int .i64 (noAt m k)) := (hB.out.cell (p := ⟨b2, off2 + k * 2 + 1, none⟩) hb2).trans (hc2.out k hlt).2
      have hlt' : (k : Int) < (len : Int) := by omega
      have h0' : (0 : Int) ≤ (k : Int) := by omega
      have HY : Hid ((((nmAt l k).toList == (nmAt m k).toList) && (noAt l k == noAt m k)) = true → ensT l m (k + 1) = true) := (fun e => by simp only [ensT, hT.out, e, Bool.and_self])
      have HN : Hid ((((nmAt l k).toList == (nmAt m k).toList) && (noAt l k == noAt m k)) = false → ensT l m len = false) := (fun e => ensT_false hlt e)
      generalize nmAt l k = q1 at g0 HY HN
      generalize noAt l k = q2 at g1 HY HN
      generalize nmAt m k = q3 at g2 HY HN
      generalize noAt m k = q4 at g3 HY HN
      cases e1 : (q1.toList == q3.toList) <;> cases e2 : (q2 == q4)
      case true.true =>
        have hyes : Hid (ensT l m (k + 1) = true) := HY.out (by rw [e1, e2]; rfl)
        clear HY HN
        go_wp2
        go_quiet (fail)
        go_wp2
        go_roundw
        case rel => exact ⟨k + 1, by omega, by go_num, hyes, below_drewN2 hB.out _⟩
        case measure => simp [intOf]; omega
      all_goals
        have hno : Hid (ensT l m len = false) := HN.out (by rw [e1, e2]; rfl)
        clear HY HN
        go_wp2
        go_quiet (fail)
        go_wp2
        go_ret
        exact ⟨ret_boolW (by rw [HE.out]; exact hno.out.symm), below_drewN2 hB.out _⟩
    · have : k = len := by omega
      subst this
      go_wp2
      go_ret
      exact ⟨ret_boolW (by rw [HE.out]; exact hT.out.symm), hB.out⟩
set_option maxHeartbeats 4000000 in
theorem eqE_any (a a2 : Option Addr) (cap cap2 : Nat) (l m : List (ByteArray × Int)) (hl : l.length ≤ 1048576) (hl2 : m.length ≤ 1048576) (w : World) (h1 : Ens a l.length l w) (h2 : Ens a2 m.length m w) :
    Calls Try.prog 72 #[.slice a l.length cap, .slice a2 m.length cap2] w fun e w' => e = .returned (.bool (ensE l m)) ∧ Below w.heap.size w w' := by
  by_cases he : l.length = m.length
  · by_cases h0 : l.length = 0
    · have h3 : m.length = 0 := by omega
      have HE : Hid (ensE l m = true) := (by show _ = _; simp [ensE, h0, h3, ensT])
      rw [h0, h3]
      go_enter Try.func72, Try.ntmps72
      go_wp2
      go_rounds 1
      go_ret
      exact ⟨ret_boolW HE.out.symm, Below.refl _ _⟩
    · obtain ⟨b, off, rfl, hb, hc⟩ := h1.2 (by omega)
      obtain ⟨b2, off2, rfl, hb2, hc2⟩ := h2.2 (by omega)
      rw [← he] at hc2 ⊢
      exact eqE_some b off b2 off2 l.length cap cap2 l m hl rfl he.symm w hb hb2 hc hc2
  · have HE : Hid (ensE l m = false) := (by show _ = _; simp [ensE, he])
    have hne : ((l.length : Int) != (m.length : Int)) = true := by simp; omega
    have hne2 : ((l.length : Int) == (m.length : Int)) = false := by simp; omega
    go_enter Try.func72, Try.ntmps72
    go_wp2
    go_ret
    exact ⟨ret_boolW HE.out.symm, Below.refl _ _⟩
set_option maxHeartbeats 4000000 in
theorem sSameN_some (b off b2 off2 len cap cap2 : Nat) (l m : List (Int × Int)) (hl : len ≤ 1048576) (h1 : l.length = len) (h2 : m.length = len) (w : World) (hb : b < w.heap.size) (hb2 : b2 < w.heap.size)
    (hc : Hid (∀ i, i < len → w.cell? ⟨b, off + i * 2, none⟩ = some (.int .i64 (idAt l i)) ∧ w.cell? ⟨b, off + i * 2 + 1, none⟩ = some (.int .i64 (btAt l i))))
    (hc2 : Hid (∀ i, i < len → w.cell? ⟨b2, off2 + i * 2, none⟩ = some (.int .i64 (idAt m i)) ∧ w.cell? ⟨b2, off2 + i * 2 + 1, none⟩ = some (.int .i64 (btAt m i)))) :
    Calls Try.prog 100 #[.slice (some ⟨b, off, none⟩) len cap, .slice (some ⟨b2, off2, none⟩) len cap2] w fun e w' => e = .returned (.bool (prsE l m)) ∧ Below w.heap.size w w' := by
  have HE : Hid (prsE l m = prsT l m len) := (by show _ = _; simp [prsE, h1, h2])
  go_enter Try.func100, Try.ntmps100
  go_wp2
  go_loopw [5] (fun i wr => ∃ (k : Nat), k ≤ len ∧ i = .int .i64 k ∧ Hid (prsT l m k = true) ∧ Hid (Below w.heap.size w wr)) (fun i _ => len - (intOf i).toNat)
  case atStart => exact ⟨0, Nat.zero_le _, rfl, rfl, Below.refl _ _⟩
  case round =>
    obtain ⟨k, hk, rfl, hT, hB⟩ := hrel
    by_cases hlt : k < len
    · have g0 : wr.cell? ⟨b, off + k * 2, none⟩ = some (.int .i64 (idAt l k)) := (hB.out.cell (p := ⟨b, off + k * 2, none⟩) hb).trans (hc.out k hlt).1
      have g1 : wr.cell? ⟨b, off + k * 2 + 1, none⟩ = some (.int .i64 (btAt l k)) := (hB.out.cell (p := ⟨b, off + k * 2 + 1, none⟩) hb).trans (hc.out k hlt).2
      have g2 : wr.cell? ⟨b2, off2 + k * 2, none⟩ = some (.int .i64 (idAt m k)) := (hB.out.cell (p := ⟨b2, off2 + k * 2, none⟩) hb2).trans (hc2.out k hlt).1
      have g3 : wr.cell? ⟨b2, off2 + k * 2 + 1, none⟩ = some (.int .i64 (btAt m k)) := (hB.out.cell (p := ⟨b2, off2 + k * 2 + 1, none⟩) hb2).trans (hc2.out k hlt).2
      have hlt' : (k : Int) < (len : Int) := by omega
      have h0' : (0 : Int) ≤ (k : Int) := by omega
      have HY : Hid (((idAt l k == idAt m k) && (btAt l k == btAt m k)) = true → prsT l m (k + 1) = true) := (fun e => by simp only [prsT, hT.out, e, Bool.and_self])
      have HN : Hid (((idAt l k == idAt m k) && (btAt l k == btAt m k)) = false → prsT l m len = false) := (fun e => prsT_false hlt e)
      generalize idAt l k = q1 at g0 HY HN
      generalize btAt l k = q2 at g1 HY HN
      generalize idAt m k = q3 at g2 HY HN
      generalize btAt m k = q4 at g3 HY HN
      cases e1 : (q1 == q3) <;> cases e2 : (q2 == q4)
      case true.true =>
        have hyes : Hid (prsT l m (k + 1) = true) := HY.out (by rw [e1, e2]; rfl)
        clear HY HN
        go_wp2
        go_quiet (fail)
        go_wp2
        go_roundw
        case rel => exact ⟨k + 1, by omega, by go_num, hyes, below_drewN2 hB.out _⟩
        case measure => simp [intOf]; omega
      all_goals
        have hno : Hid (prsT l m len = false) := HN.out (by rw [e1, e2]; rfl)
        clear HY HN
        go_wp2
        go_quiet (fail)
        go_wp2
        go_ret
        exact ⟨ret_boolW (by rw [HE.out]; exact hno.out.symm), below_drewN2 hB.out _⟩
    · have : k = len := by omega
      subst this
      go_wp2
      go_ret
      exact ⟨ret_boolW (by rw [HE.out]; exact hT.out.symm), hB.out⟩
set_option maxHeartbeats 4000000 in
theorem sSameN_any (a a2 : Option Addr) (cap cap2 : Nat) (l m : List (Int × Int)) (hl : l.length ≤ 1048576) (hl2 : m.length ≤ 1048576) (w : World) (h1 : Prs a l.length l w) (h2 : Prs a2 m.length m w) :
    Calls Try.prog 100 #[.slice a l.length cap, .slice a2 m.length cap2] w fun e w' => e = .returned (.bool (prsE l m)) ∧ Below w.heap.size w w' := by
  by_cases he : l.length = m.length
  · by_cases h0 : l.length = 0
    · have h3 : m.length = 0 := by omega
      have HE : Hid (prsE l m = true) := (by show _ = _; simp [prsE, h0, h3, prsT])
      rw [h0, h3]
      go_enter Try.func100, Try.ntmps100
      go_wp2
      go_rounds 1
      go_ret
      exact ⟨ret_boolW HE.out.symm, Below.refl _ _⟩
    · obtain ⟨b, off, rfl, hb, hc⟩ := h1.2 (by omega)
      obtain ⟨b2, off2, rfl, hb2, hc2⟩ := h2.2 (by omega)
      rw [← he] at hc2 ⊢
      exact sSameN_some b off b2 off2 l.length cap cap2 l m hl rfl he.symm w hb hb2 hc hc2
  · have HE : Hid (prsE l m = false) := (by show _ = _; simp [prsE, he])
    have hne : ((l.length : Int) != (m.length : Int)) = true := by simp; omega
    have hne2 : ((l.length : Int) == (m.length : Int)) = false := by simp; omega
    go_enter Try.func100, Try.ntmps100
    go_wp2
    go_ret
    exact ⟨ret_boolW HE.out.symm, Below.refl _ _⟩
end Go.Proofs.Ytcgkkeooigjbbaa
