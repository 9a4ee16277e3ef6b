/- NfsChmod of the specification. -/
import Derived.Test.YtddkmlkfphmdoaaDoorNfsBits4
import Derived.Test.YtddkmlkfphmdoaaDoorTake
import Derived.Test.YtddkmlkfphmdoaaDoorAceCat
import Derived.Test.YtddkmlkfphmdoaaDoorNfsRight
import Derived.Deep.RegionLaw
import Derived.Deep.DeepCutAuto
namespace Go.Proofs.YtddkmlkfphmdoaaDoor
open Go.RowKit Go.PlainAid Go.Deep
set_option linter.unusedVariables false
def hnd (x : Ac) : Ac := { x with fl := x.fl % 8 + 8 }
/-- What is handed on, of the first k. -/
def hdTo (l : List Ac) : Nat → List Ac
  | 0 => []
  | k + 1 => if 0 < (acAt l k).fl % 4 then hdTo l k ++ [hnd (acAt l k)] else hdTo l k
def moreA (l : List Ac) (al : Bool) (wh id ma : Int) : List Ac := if ma = 0 then l else l ++ [⟨al, wh, id, 0, ma⟩]
def cutM (x : Ac) (g : Int) : Int := if x.al then x.ma - andI x.ma (nb (7 - g)) else x.ma
/-- Those who are named, of the first k, behind what is there. -/
def nmAc (base l : List Ac) (g : Int) : Nat → List Ac
  | 0 => base
  | k + 1 => if hldB (acAt l k) = true ∧ 4 ≤ (acAt l k).wh then moreA (nmAc base l g k) (acAt l k).al (acAt l k).wh (acAt l k).id (cutM (acAt l k) g) else nmAc base l g k
def chOwn (l : List Ac) (u : Int) : List Ac := moreA (moreA (hdTo l l.length) true 1 0 (nb u + 32 + 64)) false 1 0 (nb (7 - u))
/-- l04Chmod. -/
def chL (l : List Ac) (u g o : Int) : List Ac := moreA (moreA (moreA (nmAc (chOwn l u) l g l.length) true 2 0 (nb g)) false 2 0 (nb (7 - g))) true 3 0 (nb o + 32)
theorem more_len (l : List Ac) (al : Bool) (wh id ma : Int) : (moreA l al wh id ma).length ≤ l.length + 1 := by
  unfold moreA
  split
  · omega
  · simp
theorem hd_len (l : List Ac) (k : Nat) : (hdTo l k).length ≤ k := by
  induction k with
  | zero => simp [hdTo]
  | succ k ih =>
    simp only [hdTo]
    split
    · simp; exact ih
    · omega
theorem nm_lenA (base l : List Ac) (g : Int) (k : Nat) : (nmAc base l g k).length ≤ base.length + k := by
  induction k with
  | zero => simp [nmAc]
  | succ k ih =>
    simp only [nmAc]
    split
    · exact Nat.le_trans (more_len _ _ _ _ _) (by omega)
    · omega
theorem nb_range {b : Int} (h0 : 0 ≤ b) (h1 : b ≤ 7) : 0 ≤ nb b ∧ nb b ≤ 15 := by unfold nb; omega
set_option maxRecDepth 100000 in
set_option maxHeartbeats 2000000 in
/-- spec.l04More. -/
theorem sMore_any (w0 w : World) (a : Option Addr) (c : Nat) (acc : List Ac) (ho : w.ownsRow w0.heap.size 39 5 (.slice a acc.length c) acc.length (pcA acc)) (hB : Below w0.heap.size w0 w) (hl : acc.length ≤ 1000000) (al : Bool) (wh id ma : Int) :
    Calls Tryd.prog 27 #[.slice a acc.length c, .bool al, .int .i64 wh, .int .i64 id, .int .i64 ma] w fun e w' => ∃ a' c', e = .returned (.slice a' (moreA acc al wh id ma).length c') ∧ w'.ownsRow w0.heap.size 39 5 (.slice a' (moreA acc al wh id ma).length c') (moreA acc al wh id ma).length (pcA (moreA acc al wh id ma)) ∧ Below w0.heap.size w0 w' := by
  by_cases h0 : ma = 0
  · have hm : moreA acc al wh id ma = acc := by rw [moreA, if_pos h0]
    rw [hm]
    have e0 : (ma == 0) = true := by rw [h0]; rfl
    have HO : Hid _ := ho
    have HB : Hid _ := hB
    clear hm h0 ho hB
    generalize acc.length = n at HO hl ⊢
    go_enter Tryd.func27, Tryd.ntmps27
    go_wp2
    go_ret
    exact ⟨a, c, rfl, HO.out, HB.out⟩
  · have hm : moreA acc al wh id ma = acc ++ [⟨al, wh, id, 0, ma⟩] := by rw [moreA, if_neg h0]
    rw [hm]
    have e0 : (ma == 0) = false := by simpa using h0
    obtain ⟨v2, w2, hr, hO2, hB2⟩ := append_one (P := Tryd.prog) w0 w 24 24 39 Tryd.underlying24 infoAce _ acc ho hB ⟨al, wh, id, 0, ma⟩ (by omega)
    obtain ⟨a', c', hv, _⟩ := ownA_of_row hO2
    subst hv
    have HO : Hid _ := hO2
    have HB : Hid _ := hB2
    generalize hGL : (acc ++ [(⟨al, wh, id, 0, ma⟩ : Ac)]).length = GL at hr HO ⊢
    generalize acc.length = n at hr hl ⊢
    clear hm h0 ho hB hO2 hB2 hGL
    go_enter Tryd.func27, Tryd.ntmps27
    go_wp2_with (at_builtin; refine wpList_append_runA _ rfl (.tmp 14) (.tmp 20) 24 24 rfl _ _ _ _ rfl rfl hr ?_)
    go_ret
    exact ⟨a', c', rfl, HO.out, HB.out⟩
end Go.Proofs.YtddkmlkfphmdoaaDoor
