/- Plain mathematics of a seal: it comes back; with one byte turned it is none. -/
import Derived.Test.YtdmdnhfoeokfeaaCrcMath
import Derived.Test.YtdmdnhfoeokfeaaUnsealI
namespace Go.Proofs.Ytdmdnhfoeokfeaa
open Go.RowKit Go.PlainAid
set_option linter.unusedVariables false
theorem bt_ext {s t : ByteArray} (hz : s.size = t.size) (h : ∀ k, k < s.size → bt s k = bt t k) : s = t := by
  apply ByteArray.ext
  apply Array.ext
  · exact hz
  · intro k h1 h2
    have g1 : k < s.size := h1
    have g2 : k < t.size := h2
    have e := h k g1
    unfold bt at e
    rw [dif_pos g1, dif_pos g2] at e
    have e2 : (s[k]'g1).toNat = (t[k]'g2).toNat := by omega
    exact UInt8.toNat_inj.1 e2
theorem body_bt {s : ByteArray} (h : 4 ≤ s.size) {k : Nat} (hk : k < s.size - 4) : bt (bodyOf s) k = bt s k := by
  have e := bt_left (s := bodyOf s) (t := tailOf s) (k := k) (by rw [body_size h]; exact hk)
  rw [body_tail h] at e
  exact e.symm
theorem seal_body (t : ByteArray) : bodyOf (sealOf t) = t := by
  have hz := sealOf_size t
  have h4 : 4 ≤ (sealOf t).size := by omega
  apply bt_ext
  · rw [body_size h4]; omega
  · intro k hk
    rw [body_size h4] at hk
    rw [body_bt h4 hk]
    exact bt_left (by omega)
theorem seal_turn {t s' : ByteArray} {i : Nat} (hz : s'.size = (sealOf t).size) (hi : i < s'.size) (h : ∀ k, k ≠ i → bt s' k = bt (sealOf t) k) (hd : bt s' i ≠ bt (sealOf t) i) : ¬ sealOf (bodyOf s') = s' := by
  intro e
  have z := sealOf_size t
  have h4 : 4 ≤ s'.size := by omega
  have zb : (bodyOf s').size = t.size := by rw [body_size h4]; omega
  by_cases hlt : i < t.size
  · have hne : crcOf (bodyOf s') 0 ≠ crcOf t 0 := by
      refine crc_other zb (i := i) (by omega) (fun k hk => ?_) ?_
      · by_cases hkn : k < t.size
        · rw [body_bt h4 (by omega), h k hk]; exact bt_left hkn
        · rw [bt_end _ (by omega), bt_end _ (by omega)]
      · rw [body_bt h4 (by omega)]
        intro e2
        exact hd (e2.trans (bt_left hlt).symm)
    apply hne
    apply four_inj (crcOf_Reg _ _) (crcOf_Reg _ _)
    have e3 : (⟨(fourOf (crcOf (bodyOf s') 0)).toArray⟩ : ByteArray) = ⟨(fourOf (crcOf t 0)).toArray⟩ := by
      apply bt_ext (by rw [four_size, four_size])
      intro k hk
      have r1 := bt_right (s := bodyOf s') (t := ⟨(fourOf (crcOf (bodyOf s') 0)).toArray⟩) k
      have r2 := bt_right (s := t) (t := ⟨(fourOf (crcOf t 0)).toArray⟩) k
      have r3 : bt (sealOf (bodyOf s')) ((bodyOf s').size + k) = bt s' ((bodyOf s').size + k) := by rw [e]
      have r4 := h (t.size + k) (by omega)
      rw [zb] at r1 r3
      exact r1.symm.trans (r3.trans (r4.trans r2))
    simpa using e3
  · have et : bodyOf s' = t := by
      apply bt_ext zb
      intro k hk
      rw [body_bt h4 (by omega), h k (by omega)]
      exact bt_left (by omega)
    rw [et] at e
    exact hd (by rw [e])
end Go.Proofs.Ytdmdnhfoeokfeaa
