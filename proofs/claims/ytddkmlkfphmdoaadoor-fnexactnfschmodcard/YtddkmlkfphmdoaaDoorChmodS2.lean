/- l04Chmod, NfsChmod of the specification. -/
import Derived.Test.YtddkmlkfphmdoaaDoorChmodS
namespace Go.Proofs.YtddkmlkfphmdoaaDoor
open Go.RowKit Go.PlainAid Go.Deep
set_option linter.unusedVariables false
/-- A row that is owned since w0. -/
def RowO (w0 w : World) (a : Option Addr) (c : Nat) (l : List Ac) : Prop := w.ownsRow w0.heap.size 39 5 (.slice a l.length c) l.length (pcA l) ∧ Below w0.heap.size w0 w
theorem RowO.below {w0 w w' : World} {a : Option Addr} {c : Nat} {l : List Ac} (h : RowO w0 w a c l) (hb : Below w.heap.size w w') : RowO w0 w' a c l := ⟨rowA_below h.1 hb, Below.on h.2 hb⟩
theorem RowO.drew {w0 w : World} {a : Option Addr} {c : Nat} {l : List Ac} (h : RowO w0 w a c l) : RowO w0 w.drew a c l := ⟨h.1, below_drewA h.2⟩
theorem more_row {w0 w : World} {a : Option Addr} {c : Nat} {acc : List Ac} (h : RowO w0 w a c acc) (hl : acc.length ≤ 1000000) (al : Bool) (wh id ma : Int) :
    Calls Tryd.prog 27 #[.slice a acc.length c, .bool al, .int .i64 wh, .int .i64 id, .int .i64 ma] w fun e w' => ∃ a' c', e = .returned (.slice a' (moreA acc al wh id ma).length c') ∧ RowO w0 w' a' c' (moreA acc al wh id ma) :=
  (sMore_any w0 w a c acc h.1 h.2 hl al wh id ma).mono (fun e w' ⟨a', c', h1, h2, h3⟩ => ⟨a', c', h1, h2, h3⟩)
theorem append_row {w0 w : World} {a : Option Addr} {c : Nat} {acc : List Ac} (h : RowO w0 w a c acc) (hl : acc.length ≤ 1000000) (x : Ac) :
    ∃ a' c' w', (Builtin.append_ #[24, 24] 24 #[.slice a acc.length c, .slice (some ⟨w.heap.size, 0, none⟩) 1 1]).run Tryd.prog (w.alloc (.cells #[.bool x.al, .int .i64 x.wh, .int .i64 x.id, .int .i64 x.fl, .int .i64 x.ma] 39)) = .ok (.slice a' (acc ++ [x]).length c') w' ∧ RowO w0 w' a' c' (acc ++ [x]) := by
  obtain ⟨v2, w2, hr, hO2, hB2⟩ := append_one (P := Tryd.prog) w0 w 24 24 39 Tryd.underlying24 infoAce _ acc h.1 h.2 x (by omega)
  obtain ⟨a', c', hv, _⟩ := ownA_of_row hO2
  subst hv
  exact ⟨a', c', w2, hr, hO2, hB2⟩
theorem RowO.set {w0 w : World} {a : Option Addr} {c : Nat} {l : List Ac} {b o : Nat} {v : Value} (h : RowO w0 w a c l) (hb : w0.heap.size ≤ b) (hne : ∀ A, a = some A → A.block ≠ b) : RowO w0 (w.setCell ⟨b, o, none⟩ v) a c l := by
  refine ⟨?_, h.2.setCell hb _⟩
  obtain ⟨h0, ⟨e, hn⟩ | ⟨g, cap, cur, e, hB, hg, hc, hm, hs, ht⟩⟩ := h.1
  · exact ⟨h0, .inl ⟨e, hn⟩⟩
  · have hg2 : a = some ⟨g, 0, none⟩ := by cases e; rfl
    have := hne _ hg2
    exact ⟨h0, .inr ⟨g, cap, cur, e, hB, (Below.heap_setCell w ⟨b, o, none⟩ v g (by show g ≠ b; exact this)).trans hg, hc, hm, hs, ht⟩⟩
theorem RowO.low {w0 w : World} {a : Option Addr} {c : Nat} {l : List Ac} (h : RowO w0 w a c l) : ∀ A, a = some A → A.block < w.heap.size := fun A e => (h.1.lt A.block (by rw [e]; rfl)).2
theorem ace_range {l : List Ac} (h : acesB l = true) {k : Nat} (hk : k < l.length) : (0 ≤ (acAt l k).fl ∧ (acAt l k).fl ≤ 15) ∧ (1 ≤ (acAt l k).ma ∧ (acAt l k).ma ≤ 255) := by
  obtain ⟨_, _, _, ⟨hf, _⟩, hm⟩ := aceB_iff.1 (aces_at h hk)
  exact ⟨hf, hm⟩
theorem andI_range (a b : Int) (a0 : 0 ≤ a) : 0 ≤ andI a b ∧ andI a b ≤ a := by
  have h : a.toNat &&& b.toNat ≤ a.toNat := Nat.and_le_left
  unfold andI
  omega
end Go.Proofs.YtddkmlkfphmdoaaDoor
