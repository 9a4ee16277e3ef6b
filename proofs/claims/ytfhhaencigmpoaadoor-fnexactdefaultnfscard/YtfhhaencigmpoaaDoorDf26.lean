/- Laid together: ChmodS, ChmodS2. -/
import Derived.Test.YtfhhaencigmpoaaDoorDf22
import Derived.Test.YtfhhaencigmpoaaDoorDf24
import Derived.Test.YtfhhaencigmpoaaDoorDf11
import Derived.Test.YtfhhaencigmpoaaDoorDf25
import Derived.Deep.RegionLaw
import Derived.Deep.DeepCutAuto
/- NfsChmod of the specification. -/
namespace Go.Proofs.YtfhhaencigmpoaaDoor
open Go.RowKit Go.PlainAid Go.Deep
set_option linter.unusedVariables false
def hnd (x : Ac) : Ac := { x with fl := x.fl % 8 + 8 }
/-- What is handed on, of the first k. -/
def hdTo (l : List Ac) : Nat → List Ac
  | 0 => []
  | k + 1 => if 0 < (acAt l k).fl % 4 then hdTo l k ++ [hnd (acAt l k)] else hdTo l k
def moreA (l : List Ac) (al : Bool) (wh id ma : Int) : List Ac := if ma = 0 then l else l ++ [⟨al, wh, id, 0, ma⟩]
def cutM (x : Ac) (g : Int) : Int := if x.al then x.ma - andI x.ma (nb (7 - g)) else x.ma
/-- Those who are named, of the first k, behind what is there. -/
def nmAc (base l : List Ac) (g : Int) : Nat → List Ac
  | 0 => base
  | k + 1 => if hldB (acAt l k) = true ∧ 4 ≤ (acAt l k).wh then moreA (nmAc base l g k) (acAt l k).al (acAt l k).wh (acAt l k).id (cutM (acAt l k) g) else nmAc base l g k
def chOwn (l : List Ac) (u : Int) : List Ac := moreA (moreA (hdTo l l.length) true 1 0 (nb u + 32 + 64)) false 1 0 (nb (7 - u))
/-- l04Chmod. -/
def chL (l : List Ac) (u g o : Int) : List Ac := moreA (moreA (moreA (nmAc (chOwn l u) l g l.length) true 2 0 (nb g)) false 2 0 (nb (7 - g))) true 3 0 (nb o + 32)
theorem more_len (l : List Ac) (al : Bool) (wh id ma : Int) : (moreA l al wh id ma).length ≤ l.length + 1 := by
  unfold moreA
  split
  · omega
  · simp
theorem hd_len (l : List Ac) (k : Nat) : (hdTo l k).length ≤ k := by
  induction k with
  | zero => simp [hdTo]
  | succ k ih =>
    simp only [hdTo]
    split
    · simp; exact ih
    · omega
theorem nm_lenA (base l : List Ac) (g : Int) (k : Nat) : (nmAc base l g k).length ≤ base.length + k := by
  induction k with
  | zero => simp [nmAc]
  | succ k ih =>
    simp only [nmAc]
    split
    · exact Nat.le_trans (more_len _ _ _ _ _) (by omega)
    · omega
theorem nb_range {b : Int} (h0 : 0 ≤ b) (h1 : b ≤ 7) : 0 ≤ nb b ∧ nb b ≤ 15 := by unfold nb; omega
set_option maxRecDepth 100000 in
set_option maxHeartbeats 2000000 in
/-- spec.l04More. -/
theorem sMore_any (w0 w : World) (a : Option Addr) (c : Nat) (acc : List Ac) (ho : w.ownsRow w0.heap.size 62 5 (.slice a acc.length c) acc.length (pcA acc)) (hB : Below w0.heap.size w0 w) (hl : acc.length ≤ 1000000) (al : Bool) (wh id ma : Int) :
    Calls Tryd.prog 70 #[.slice a acc.length c, .bool al, .int .i64 wh, .int .i64 id, .int .i64 ma] w fun e w' => ∃ a' c', e = .returned (.slice a' (moreA acc al wh id ma).length c') ∧ w'.ownsRow w0.heap.size 62 5 (.slice a' (moreA acc al wh id ma).length c') (moreA acc al wh id ma).length (pcA (moreA acc al wh id ma)) ∧ Below w0.heap.size w0 w' := by
  by_cases h0 : ma = 0
  · have hm : moreA acc al wh id ma = acc := by rw [moreA, if_pos h0]
    rw [hm]
    have e0 : (ma == 0) = true := by rw [h0]; rfl
    have HO : Hid _ := ho
    have HB : Hid _ := hB
    clear hm h0 ho hB
    generalize acc.length = n at HO hl ⊢
    go_enter Tryd.func70, Tryd.ntmps70
    go_wp2
    go_ret
    exact ⟨a, c, rfl, HO.out, HB.out⟩
  · have hm : moreA acc al wh id ma = acc ++ [⟨al, wh, id, 0, ma⟩] := by rw [moreA, if_neg h0]
    rw [hm]
    have e0 : (ma == 0) = false := by simpa using h0
    obtain ⟨v2, w2, hr, hO2, hB2⟩ := append_one (P := Tryd.prog) w0 w 26 26 62 Tryd.underlying26 infoAce _ acc ho hB ⟨al, wh, id, 0, ma⟩ (by omega)
    obtain ⟨a', c', hv, _⟩ := ownA_of_row hO2
    subst hv
    have HO : Hid _ := hO2
    have HB : Hid _ := hB2
    generalize hGL : (acc ++ [(⟨al, wh, id, 0, ma⟩ : Ac)]).length = GL at hr HO ⊢
    generalize acc.length = n at hr hl ⊢
    clear hm h0 ho hB hO2 hB2 hGL
    go_enter Tryd.func70, Tryd.ntmps70
    go_wp2_with (at_builtin; refine wpList_append_runA _ rfl (.tmp 14) (.tmp 20) 26 26 rfl _ _ _ _ rfl rfl hr ?_)
    go_ret
    exact ⟨a', c', rfl, HO.out, HB.out⟩
end Go.Proofs.YtfhhaencigmpoaaDoor
/- l04Chmod, NfsChmod of the specification. -/
namespace Go.Proofs.YtfhhaencigmpoaaDoor
open Go.RowKit Go.PlainAid Go.Deep
set_option linter.unusedVariables false
/-- A row that is owned since w0. -/
def RowO (w0 w : World) (a : Option Addr) (c : Nat) (l : List Ac) : Prop := w.ownsRow w0.heap.size 62 5 (.slice a l.length c) l.length (pcA l) ∧ Below w0.heap.size w0 w
theorem RowO.below {w0 w w' : World} {a : Option Addr} {c : Nat} {l : List Ac} (h : RowO w0 w a c l) (hb : Below w.heap.size w w') : RowO w0 w' a c l := ⟨rowA_below h.1 hb, Below.on h.2 hb⟩
theorem RowO.drew {w0 w : World} {a : Option Addr} {c : Nat} {l : List Ac} (h : RowO w0 w a c l) : RowO w0 w.drew a c l := ⟨h.1, below_drewA h.2⟩
theorem more_row {w0 w : World} {a : Option Addr} {c : Nat} {acc : List Ac} (h : RowO w0 w a c acc) (hl : acc.length ≤ 1000000) (al : Bool) (wh id ma : Int) :
    Calls Tryd.prog 70 #[.slice a acc.length c, .bool al, .int .i64 wh, .int .i64 id, .int .i64 ma] w fun e w' => ∃ a' c', e = .returned (.slice a' (moreA acc al wh id ma).length c') ∧ RowO w0 w' a' c' (moreA acc al wh id ma) :=
  (sMore_any w0 w a c acc h.1 h.2 hl al wh id ma).mono (fun e w' ⟨a', c', h1, h2, h3⟩ => ⟨a', c', h1, h2, h3⟩)
theorem append_row {w0 w : World} {a : Option Addr} {c : Nat} {acc : List Ac} (h : RowO w0 w a c acc) (hl : acc.length ≤ 1000000) (x : Ac) :
    ∃ a' c' w', (Builtin.append_ #[26, 26] 26 #[.slice a acc.length c, .slice (some ⟨w.heap.size, 0, none⟩) 1 1]).run Tryd.prog (w.alloc (.cells #[.bool x.al, .int .i64 x.wh, .int .i64 x.id, .int .i64 x.fl, .int .i64 x.ma] 62)) = .ok (.slice a' (acc ++ [x]).length c') w' ∧ RowO w0 w' a' c' (acc ++ [x]) := by
  obtain ⟨v2, w2, hr, hO2, hB2⟩ := append_one (P := Tryd.prog) w0 w 26 26 62 Tryd.underlying26 infoAce _ acc h.1 h.2 x (by omega)
  obtain ⟨a', c', hv, _⟩ := ownA_of_row hO2
  subst hv
  exact ⟨a', c', w2, hr, hO2, hB2⟩
theorem RowO.set {w0 w : World} {a : Option Addr} {c : Nat} {l : List Ac} {b o : Nat} {v : Value} (h : RowO w0 w a c l) (hb : w0.heap.size ≤ b) (hne : ∀ A, a = some A → A.block ≠ b) : RowO w0 (w.setCell ⟨b, o, none⟩ v) a c l := by
  refine ⟨?_, h.2.setCell hb _⟩
  obtain ⟨h0, ⟨e, hn⟩ | ⟨g, cap, cur, e, hB, hg, hc, hm, hs, ht⟩⟩ := h.1
  · exact ⟨h0, .inl ⟨e, hn⟩⟩
  · have hg2 : a = some ⟨g, 0, none⟩ := by cases e; rfl
    have := hne _ hg2
    exact ⟨h0, .inr ⟨g, cap, cur, e, hB, (Below.heap_setCell w ⟨b, o, none⟩ v g (by show g ≠ b; exact this)).trans hg, hc, hm, hs, ht⟩⟩
theorem RowO.low {w0 w : World} {a : Option Addr} {c : Nat} {l : List Ac} (h : RowO w0 w a c l) : ∀ A, a = some A → A.block < w.heap.size := fun A e => (h.1.lt A.block (by rw [e]; rfl)).2
theorem ace_range {l : List Ac} (h : acesB l = true) {k : Nat} (hk : k < l.length) : (0 ≤ (acAt l k).fl ∧ (acAt l k).fl ≤ 15) ∧ (1 ≤ (acAt l k).ma ∧ (acAt l k).ma ≤ 255) := by
  obtain ⟨_, _, _, ⟨hf, _⟩, hm⟩ := aceB_iff.1 (aces_at h hk)
  exact ⟨hf, hm⟩
theorem andI_range (a b : Int) (a0 : 0 ≤ a) : 0 ≤ andI a b ∧ andI a b ≤ a := by
  have h : a.toNat &&& b.toNat ≤ a.toNat := Nat.and_le_left
  unfold andI
  omega
end Go.Proofs.YtfhhaencigmpoaaDoor
