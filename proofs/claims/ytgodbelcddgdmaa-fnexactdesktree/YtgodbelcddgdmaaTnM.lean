/- A new tree. -/
import Derived.Test.YtgodbelcddgdmaaMkH
import Derived.Test.YtgodbelcddgdmaaAclOfWalks
import Derived.Test.YtgodbelcddgdmaaTreeM
namespace Go.Proofs.Ytgodbelcddgdmaa
open Go.RowKit Go.PlainAid Go.Deep
set_option linter.unusedVariables false
def rtN (o g m : Int) : Nd := ⟨1, o, g, m / 512, ⟨mU m, mG m, mO m, [], [], false, 0⟩, false, alZ, 1, 1, ⟨#[]⟩, [], 0⟩
def tnF (o g m : Int) : Nat → Nd := fun i => if i = 0 then rtN o g m else ndZ
def tnL (o g m : Int) : List Nd := rtN o g m :: List.replicate 11 ndZ
theorem tn_at (o g m : Int) : ndAt (tnL o g m) = tnF o g m := by
  funext i
  match i with
  | 0 => rfl
  | i + 1 =>
    show (tnL o g m).getD (i + 1) ndZ = ndZ
    simp only [tnL, List.getD, List.getElem?_cons_succ, List.getElem?_replicate]
    split <;> rfl
def tnO (o g m : Int) : Bool := inR 0 9999 o && (inR 0 9999 g && inR 0 4095 m)
theorem zero_ln (j : Nat) : lnAt ndZ j = 0 := by
  match j with
  | 0 => rfl
  | 1 => rfl
  | 2 => rfl
  | 3 => rfl
  | _ + 4 => rfl
theorem root_ln (o g m : Int) (j : Nat) : lnAt (rtN o g m) j = 0 := by
  match j with
  | 0 => rfl
  | 1 => rfl
  | 2 => rfl
  | 3 => rfl
  | _ + 4 => rfl
theorem tn_ln (o g m : Int) (i j : Nat) : lnAt (tnF o g m i) j = 0 := by
  unfold tnF
  split
  · exact root_ln o g m j
  · exact zero_ln j
theorem tn_own (w : World) (o g m : Int) (i : Nat) : NdOwn w (tnF o g m i) naZ := by
  unfold tnF
  split
  · exact ⟨⟨rfl, fun h => absurd h (Nat.lt_irrefl 0)⟩, ⟨rfl, fun h => absurd h (Nat.lt_irrefl 0)⟩, ⟨rfl, fun h => absurd h (Nat.lt_irrefl 0)⟩, ⟨rfl, fun h => absurd h (Nat.lt_irrefl 0)⟩, ⟨rfl, fun h => absurd h (Nat.lt_irrefl 0)⟩⟩
  · exact ⟨⟨rfl, fun h => absurd h (Nat.lt_irrefl 0)⟩, ⟨rfl, fun h => absurd h (Nat.lt_irrefl 0)⟩, ⟨rfl, fun h => absurd h (Nat.lt_irrefl 0)⟩, ⟨rfl, fun h => absurd h (Nat.lt_irrefl 0)⟩, ⟨rfl, fun h => absurd h (Nat.lt_irrefl 0)⟩⟩
theorem tn_row {w : World} {B : Nat} {o g m : Int} (hlt : B < w.heap.size) (hr : NRow w B (tnF o g m) (fun _ => naZ) 12) : OwnT w B (B + 1) B (tnF o g m) (fun _ => naZ) 12 :=
  ⟨hlt, ⟨Nat.le_refl _, Nat.lt_succ_self _⟩, hr, fun i _ => tn_own w o g m i, fun i j A _ _ h0 _ => by rw [tn_ln] at h0; exact absurd h0 (by decide), fun i i' j j' A A' _ _ _ _ h0 _ _ _ _ => by rw [tn_ln] at h0; exact absurd h0 (by decide)⟩
theorem tn_store {w : World} {B : Nat} {o g m : Int} (hr : NRow w B (fun _ => ndZ) (fun _ => naZ) 12) : NRow (w.setCells B 0 (ndV (rtN o g m) naZ)) B (tnF o g m) (fun _ => naZ) 12 := by
  have h := hr.set 0 (by decide) (rtN o g m) naZ
  have e1 : (fun i => if i = 0 then rtN o g m else (fun _ => ndZ) i) = tnF o g m := rfl
  have e2 : (fun i => if i = 0 then naZ else (fun _ => naZ) i) = (fun _ => naZ) := by funext i; split <;> rfl
  rw [e1, e2] at h
  exact h
/-- What TreeNew tells. -/
structure TnEnd (w : World) (o g m : Int) (e : Ending) (w' : World) : Prop where
  out : ∃ a lo hi, e = .returned (.agg #[.slice a (if tnO o g m then 12 else 0) (if tnO o g m then 12 else 0), .int .i64 0, .int .i64 (if tnO o g m then 1 else 0), .int .i64 (if tnO o g m then 0 else 1)]) ∧ OwnX w' lo hi a (tnF o g m) (fun _ => naZ) (if tnO o g m then 12 else 0) ∧ w.heap.size ≤ lo ∧ hi ≤ w'.heap.size
  bel : Below w.heap.size w w'
theorem tnEnd_no {w : World} {o g m : Int} {e : Ending} {w' : World} (h : tnO o g m = false) (he : e = .returned (.agg #[.slice none 0 0, .int .i64 0, .int .i64 0, .int .i64 1])) (hb : Below w.heap.size w w') : TnEnd w o g m e w' :=
  ⟨⟨none, w.heap.size, w.heap.size, by rw [he, h]; rfl, .inl (by rw [h]; rfl), Nat.le_refl _, hb.size⟩, hb⟩
theorem tnEnd_yes {w : World} {o g m : Int} {e : Ending} {w' : World} {B : Nat} (h : tnO o g m = true) (he : e = .returned (.agg #[.slice (some ⟨B, 0, none⟩) 12 12, .int .i64 0, .int .i64 1, .int .i64 0])) (hB : w.heap.size ≤ B) (hlt : B < w'.heap.size) (hr : NRow w' B (tnF o g m) (fun _ => naZ) 12) (hb : Below w.heap.size w w') : TnEnd w o g m e w' :=
  ⟨⟨some ⟨B, 0, none⟩, B, B + 1, by rw [he, h]; rfl, .inr ⟨B, rfl, by rw [h]; exact tn_row hlt hr⟩, hB, hlt⟩, hb⟩
end Go.Proofs.Ytgodbelcddgdmaa
