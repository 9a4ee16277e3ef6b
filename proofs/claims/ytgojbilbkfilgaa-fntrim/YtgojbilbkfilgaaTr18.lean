/- Laid together: PutI. -/
import Derived.Test.YtgojbilbkfilgaaTr17
/- impl.withNamed: an entry put in its place. -/
namespace Go.Proofs.Ytgojbilbkfilgaa
open Go.RowKit Go.PlainAid Go.Deep
set_option linter.unusedVariables false
theorem prs_one (w : World) (x y : Int) (t : TypeId) : Prs (some ⟨w.heap.size, 0, none⟩) 1 [(x, y)] (w.alloc (.cells #[.int .i64 x, .int .i64 y] t)) := by
  obtain ⟨h0, h1⟩ := pair_new w (.int .i64 x) (.int .i64 y) t
  refine ⟨rfl, fun _ => ⟨w.heap.size, 0, rfl, by simp, fun i hi => ?_⟩⟩
  have : i = 0 := by omega
  subst this
  exact ⟨h0, h1⟩
/-- impl.spliced with one entry put in, the row of which has just been made. -/
theorem spliced_one (a : Option Addr) (len cap : Nat) (l : List (Int × Int)) (w : World) (hp : Prs a len l w) (k out : Nat) (hk : k + out ≤ len) (hcap : len ≤ cap) (hm : len ≤ 1000) (x y : Int) (t : TypeId) (X : Nat) (hX : X = w.heap.size) :
    Calls Try.prog 118 #[.slice a len cap, .int .i64 k, .int .i64 out, .slice (some ⟨X, 0, none⟩) 1 1] (w.alloc (.cells #[.int .i64 x, .int .i64 y] t)) fun e w' => ∃ a c, e = .returned (.slice a (k + 1 + (len - (k + out))) c) ∧ Own a (k + 1 + (len - (k + out))) (l.take k ++ [(x, y)] ++ l.drop (k + out)) w' ∧ (∀ Ad, a = some Ad → w.heap.size ≤ Ad.block ∧ Ad.block < w'.heap.size) ∧ Below w.heap.size w w' := by
  subst hX
  have hb := bel_alloc w (.cells #[.int .i64 x, .int .i64 y] t)
  have fin : ∀ (a : Option Addr) (w' : World), (∀ Ad, a = some Ad → (w.alloc (.cells #[.int .i64 x, .int .i64 y] t)).heap.size ≤ Ad.block ∧ Ad.block < w'.heap.size) → Below (w.alloc (.cells #[.int .i64 x, .int .i64 y] t)).heap.size (w.alloc (.cells #[.int .i64 x, .int .i64 y] t)) w' → (∀ Ad, a = some Ad → w.heap.size ≤ Ad.block ∧ Ad.block < w'.heap.size) ∧ Below w.heap.size w w' := fun a w' h1 h2 => ⟨fun Ad e => ⟨Nat.le_trans hb.size (h1 Ad e).1, (h1 Ad e).2⟩, Below.on hb h2⟩
  by_cases h0 : 0 < len
  · refine (spliced_any (w0 := w.alloc (.cells #[.int .i64 x, .int .i64 y] t)) a len cap l (hp.below hb) k out hk hcap hm h0 _ 1 1 [(x, y)] (by omega) (prs_one w x y t)).mono ?_
    rintro e w' ⟨a', c', rfl, h1, h2, h3⟩
    exact ⟨a', c', rfl, h1, fin a' w' h2 h3⟩
  · have e0 : len = 0 := by omega
    have ek : k = 0 := by omega
    have eo : out = 0 := by omega
    have el : l = [] := List.eq_nil_of_length_eq_zero (by rw [hp.1]; exact e0)
    subst e0 ek eo el
    refine (spliced_zero a cap _ 1 1 [(x, y)] (by omega) _ (prs_one w x y t)).mono ?_
    rintro e w' ⟨a', c', rfl, h1, h2, h3⟩
    exact ⟨a', c', rfl, by simpa using h1, fin a' w' h2 h3⟩
set_option maxRecDepth 100000 in
set_option maxHeartbeats 4000000 in
/-- impl.withNamed. -/
theorem withNamed_any (a : Option Addr) (len cap : Nat) (l : List (Int × Int)) (id bt : Int) (hcap : len ≤ cap) (hm : len ≤ 1000) (w : World) (ho : Own a len l w) (hia : ∀ A, a = some A → A.block < w.heap.size) :
    Calls Try.prog 115 #[.slice a len cap, .agg #[.int .i64 id, .int .i64 bt]] w fun e w' => ∃ a' c', e = .returned (.slice a' (putN l id) c') ∧ Own a' (putN l id) (putL l id bt) w' ∧ (∀ Ad, a' = some Ad → (a = some Ad ∨ w.heap.size ≤ Ad.block) ∧ Ad.block < w'.heap.size) ∧ Below w.heap.size w w' := by
  have hln := ho.1
  have hpl : Hid (∀ w', Below w.heap.size w w' → Calls Try.prog 98 #[.slice a len cap, .int .i64 id, .func (.func 99) #[] #[]] w' fun e w'' => e = .returned (.tuple #[.int .i64 (plc l id), .bool (fnd l id)]) ∧ Below w'.heap.size w' w'') := (fun w' hb => placeOf_any a len cap l id (by omega) w' (ho.prs.below hb))
  have hple := plc_le l id
  have hsp : Hid (∀ out w' X, X = w'.heap.size → plc l id + out ≤ len → Below w.heap.size w w' → Calls Try.prog 118 #[.slice a len cap, .int .i64 (plc l id), .int .i64 (out : Nat), .slice (some ⟨X, 0, none⟩) 1 1] (w'.alloc (.cells #[.int .i64 id, .int .i64 bt] 69)) fun e w'' => ∃ a c, e = .returned (.slice a (plc l id + 1 + (len - (plc l id + out))) c) ∧ Own a (plc l id + 1 + (len - (plc l id + out))) (l.take (plc l id) ++ [(id, bt)] ++ l.drop (plc l id + out)) w'' ∧ (∀ Ad, a = some Ad → w'.heap.size ≤ Ad.block ∧ Ad.block < w''.heap.size) ∧ Below w'.heap.size w' w'') := (fun out w' X hX hk hb => spliced_one a len cap l w' (ho.prs.below hb) (plc l id) out hk hcap hm id bt _ X hX)
  cases hf : fnd l id
  · have eN : Hid (putN l id = plc l id + 1 + (len - (plc l id + 0))) := (by show _ = _; rw [putN, hf, hln]; simp; omega)
    have eL : Hid (putL l id bt = l.take (plc l id) ++ [(id, bt)] ++ l.drop (plc l id + 0)) := (by show _ = _; rw [putL, hf]; rfl)
    have hle : plc l id + 0 ≤ len := by omega
    rw [eN.out, eL.out]
    have hs : Hid (∀ w' X, X = w'.heap.size → Below w.heap.size w w' → Calls Try.prog 118 #[.slice a len cap, .int .i64 (plc l id), .int .i64 0, .slice (some ⟨X, 0, none⟩) 1 1] (w'.alloc (.cells #[.int .i64 id, .int .i64 bt] 69)) fun e w'' => ∃ a c, e = .returned (.slice a (plc l id + 1 + (len - (plc l id + 0))) c) ∧ Own a (plc l id + 1 + (len - (plc l id + 0))) (l.take (plc l id) ++ [(id, bt)] ++ l.drop (plc l id + 0)) w'' ∧ (∀ Ad, a = some Ad → w'.heap.size ≤ Ad.block ∧ Ad.block < w''.heap.size) ∧ Below w'.heap.size w' w'') := (fun w' X hX hb => hsp.out 0 w' X hX hle hb)
    rw [hf] at hpl
    clear hsp ho eN eL hf hple hle
    go_enter Try.func115, Try.ntmps115
    go_wp2_with fail
    refine (hpl.out _ (bel_alloc _ _)).mono ?_
    rintro e w1 ⟨rfl, hb⟩
    have hW1 : Hid (Below w.heap.size w w1) := Below.on (bel_alloc _ _) hb
    obtain ⟨n0, n1⟩ := pair_new w (.int .i64 id) (.int .i64 bt) 69
    have m0 : w1.cell? ⟨w.heap.size, 0, none⟩ = some (.int .i64 id) := (hb.cell (p := ⟨w.heap.size, 0, none⟩) (by simp)).trans n0
    have m1 : w1.cell? ⟨w.heap.size, 1, none⟩ = some (.int .i64 bt) := (hb.cell (p := ⟨w.heap.size, 1, none⟩) (by simp)).trans n1
    clear hb n0 n1 hpl
    go_wp2_with fail
    refine (hs.out _ _ rfl hW1.out).mono ?_
    rintro e w2 ⟨a', c', rfl, h1, h2, h3⟩
    have R : Hid (Own a' (plc l id + 1 + (len - (plc l id + 0))) (l.take (plc l id) ++ [(id, bt)] ++ l.drop (plc l id + 0)) w2 ∧ (∀ Ad, a' = some Ad → (a = some Ad ∨ w.heap.size ≤ Ad.block) ∧ Ad.block < w2.heap.size) ∧ Below w.heap.size w w2) := ⟨h1, fun Ad e => ⟨.inr (Nat.le_trans hW1.out.size (h2 Ad e).1), (h2 Ad e).2⟩, Below.on hW1.out h3⟩
    clear h1 h2 h3 hs
    go_wp2
    go_ret
    exact ⟨a', c', rfl, R.out⟩
  · have hlt := fnd_lt hf
    have hid : idAt l (plc l id) = id := by
      have h2 := hf
      unfold fnd at h2
      simp at h2
      exact h2.2
    obtain ⟨B, rfl, hBl, hpc⟩ := ho.2 (by omega)
    have q := (hpc (plc l id) (by omega)).1
    rw [hid] at q
    have HQ : Hid (w.cell? ⟨B, plc l id * 2, none⟩ = some (.int .i64 id) ∧ w.cell? ⟨B, plc l id * 2 + 1, none⟩ = some (.int .i64 (btAt l (plc l id)))) := q
    rw [hf] at hpl
    have hi1 : ((plc l id : Nat) : Int) < (len : Int) := by omega
    have eN : Hid (putN l id = len) := (by show _ = _; rw [putN, hf, hln]; simp)
    have HSame : Hid (btAt l (plc l id) = bt → putL l id bt = l) := (fun h => putL_same hf h)
    have HO : Hid (Own (some ⟨B, 0, none⟩) len l w) := ho
    have eL : Hid (putL l id bt = l.take (plc l id) ++ [(id, bt)] ++ l.drop (plc l id + 1)) := (by show _ = _; rw [putL, hf]; rfl)
    have eN2 : Hid (plc l id + 1 + (len - (plc l id + 1)) = len) := (by show _ = _; omega)
    have hs : Hid (∀ w' X, X = w'.heap.size → Below w.heap.size w w' → Calls Try.prog 118 #[.slice (some ⟨B, 0, none⟩) len cap, .int .i64 (plc l id), .int .i64 1, .slice (some ⟨X, 0, none⟩) 1 1] (w'.alloc (.cells #[.int .i64 id, .int .i64 bt] 69)) fun e w'' => ∃ a c, e = .returned (.slice a len c) ∧ Own a len (putL l id bt) w'' ∧ (∀ Ad, a = some Ad → w'.heap.size ≤ Ad.block ∧ Ad.block < w''.heap.size) ∧ Below w'.heap.size w' w'') := (fun w' X hX hb => by
      have := hsp.out 1 w' X hX (by omega) hb
      rw [eN2.out, ← eL.out] at this
      exact this)
    rw [eN.out]
    clear hsp ho hpc q hf hlt hid eN eL eN2 hln hple
    generalize btAt l (plc l id) = bb at HQ HSame
    generalize putL l id bt = pp at HSame hs ⊢
    generalize plc l id = k at HQ hi1 hs hpl ⊢
    go_enter Try.func115, Try.ntmps115
    go_wp2_with fail
    refine (hpl.out _ (bel_alloc _ _)).mono ?_
    rintro e w1 ⟨rfl, hb⟩
    have hW1 : Hid (Below w.heap.size w w1) := Below.on (bel_alloc _ _) hb
    obtain ⟨n0, n1⟩ := pair_new w (.int .i64 id) (.int .i64 bt) 69
    have m0 : w1.cell? ⟨w.heap.size, 0, none⟩ = some (.int .i64 id) := (hb.cell (p := ⟨w.heap.size, 0, none⟩) (by simp)).trans n0
    have m1 : w1.cell? ⟨w.heap.size, 1, none⟩ = some (.int .i64 bt) := (hb.cell (p := ⟨w.heap.size, 1, none⟩) (by simp)).trans n1
    clear hb n0 n1 hpl
    have c0 : w1.cell? ⟨B, k * 2, none⟩ = some (.int .i64 id) := (hW1.out.cell (p := ⟨B, k * 2, none⟩) hBl).trans HQ.out.1
    have c1 : w1.cell? ⟨B, k * 2 + 1, none⟩ = some (.int .i64 bb) := (hW1.out.cell (p := ⟨B, k * 2 + 1, none⟩) hBl).trans HQ.out.2
    by_cases he : bb = bt
    · have HS : Hid (pp = l) := HSame.out he
      subst he
      clear HSame hs
      go_wp2
      go_quiet (fail)
      go_wp2
      go_ret
      refine ⟨some ⟨B, 0, none⟩, cap, rfl, by rw [HS.out]; exact HO.out.below (below_drewM hW1.out _), fun Ad e => ⟨.inl e, ?_⟩, below_drewM hW1.out _⟩
      cases e
      exact Nat.lt_of_lt_of_le hBl (below_drewM hW1.out _).size
    · clear HSame
      have hne : (bb == bt) = false := beq_eq_false_iff_ne.2 he
      go_wp2
      go_quiet (fail)
      go_wp2_with fail
      refine (hs.out _ _ (by simp) (below_drewM hW1.out _)).mono ?_
      rintro e w2 ⟨a', c', rfl, h1, h2, h3⟩
      have R : Hid (Own a' len pp w2 ∧ (∀ Ad, a' = some Ad → (some (⟨B, 0, none⟩ : Addr) = some Ad ∨ w.heap.size ≤ Ad.block) ∧ Ad.block < w2.heap.size) ∧ Below w.heap.size w w2) := ⟨h1, fun Ad e => ⟨.inr (Nat.le_trans (below_drewM hW1.out _).size (h2 Ad e).1), (h2 Ad e).2⟩, Below.on (below_drewM hW1.out _) h3⟩
      clear h1 h2 h3 hs
      go_wp2
      go_ret
      exact ⟨a', c', rfl, R.out⟩
end Go.Proofs.Ytgojbilbkfilgaa
