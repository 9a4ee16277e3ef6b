/- AceDrop, the program's and the specification's. -/
import Derived.Test.YtklaebcdbbgooabAceSplice
import Derived.Test.YtklaebcdbbgooabNfsRight
namespace Go.Proofs.Ytklaebcdbbgooab
open Go.RowKit Go.PlainAid Go.Deep
set_option linter.unusedVariables false
/-- What a call that answers a list and a code ends in, by the pair. -/
def AnsP (p : List Ac × Int) (w : World) (e : Ending) (w' : World) : Prop := AnsN p.1 p.2 w e w'
theorem ansP_ill {p : List Ac × Int} {c : Int} (h : p = ([], c)) {w w' : World} (hb : Below w.heap.size w w') : AnsP p w (.returned (.agg #[.slice none 0 0, .int .i64 c])) w' := by
  subst h
  exact ⟨none, 0, rfl, newA_nil hb⟩
theorem ansP_of {p : List Ac × Int} {xs : List Ac} {c : Int} (h : p = (xs, c)) {n : Nat} (hn : xs.length = n) {w w' : World} {a : Option Addr} {cp : Nat} (hN : NewA w w' a n xs) : AnsP p w (.returned (.agg #[.slice a n cp, .int .i64 c])) w' := by
  subst h hn
  exact ⟨a, cp, rfl, hN⟩
/-- AceDrop. -/
def dropP (l : List Ac) (at_ : Int) : List Ac × Int :=
  if 400 < l.length then ([], 2) else if acesB l = false then ([], 1) else if at_ < 0 ∨ (l.length : Int) ≤ at_ then ([], 8) else (l.take at_.toNat ++ [] ++ l.drop (at_.toNat + 1), 0)
theorem dropP_long {l : List Ac} {n : Int} (h : 400 < l.length) : dropP l n = ([], 2) := by rw [dropP, if_pos h]
theorem dropP_form {l : List Ac} {n : Int} (h : ¬ 400 < l.length) (h1 : acesB l = false) : dropP l n = ([], 1) := by rw [dropP, if_neg h, if_pos h1]
theorem dropP_range {l : List Ac} {n : Int} (h : ¬ 400 < l.length) (h1 : acesB l = true) (h2 : n < 0 ∨ (l.length : Int) ≤ n) : dropP l n = ([], 8) := by rw [dropP, if_neg h, if_neg (by rw [h1]; simp), if_pos h2]
theorem dropP_yes {l : List Ac} {k : Nat} (h1 : acesB l = true) (h2 : k < l.length) : dropP l (k : Int) = (l.take k ++ [] ++ l.drop (k + 1), 0) := by
  have hl := aces_len h1
  rw [dropP, if_neg (by omega), if_neg (by rw [h1]; simp), if_neg (by omega)]
  simp
theorem dropP_len (l : List Ac) (n : Int) : (dropP l n).1.length ≤ 400 := by
  unfold dropP
  split
  · simp
  · split
    · simp
    · split
      · simp
      · simp only [List.append_nil, List.length_append, List.length_take, List.length_drop]
        omega
set_option maxHeartbeats 4000000 in
/-- impl.AceDrop. -/
theorem iAceDrop_any (a : Option Addr) (len cap : Nat) (l : List Ac) (n : Int) (hcap : len ≤ cap) (hlen : len ≤ 1048576) (w : World) (hi : Acs a len l w) :
    Calls Try.prog 21 #[.slice a len cap, .int .i64 n] w (AnsP (dropP l n) w) := by
  have e1 := hi.1
  by_cases h4 : 400 < len
  · have hp : Hid (dropP l n = ([], 2)) := dropP_long (by omega)
    have h4' : (400 : Int) < (len : Int) := by omega
    clear hi e1
    go_enter Try.func21, Try.ntmps21
    go_wp2
    exact bodyPost_ret (v := .agg #[.slice none 0 0, .int .i64 2]) (by simp [results, Try.results21, go_sem]) rfl (ansP_ill hp.out (bel_alloc _ _))
  have h4' : ¬ (400 : Int) < (len : Int) := by omega
  have hbA := bel_alloc w (.cells #[.slice none 0 0, .int .i64 0] 33)
  have hX := box2_new w (.slice none 0 0) (.int .i64 0) 33
  have hR : Hid (∀ w', Below w.heap.size w w' → Calls Try.prog 25 #[.slice a len cap] w' fun e w'' => e = .returned (.bool (acesB l)) ∧ Below w'.heap.size w' w'') := (fun w' hb => iNfsRight_any a len cap l w' (hi.below hb))
  cases ha : acesB l
  · have hp : Hid (dropP l n = ([], 1)) := dropP_form (by omega) ha
    rw [ha] at hR
    clear hi e1
    go_enter Try.func21, Try.ntmps21
    go_wp2_with fail
    refine (hR.out _ hbA).mono ?_
    rintro e w1 ⟨rfl, hb1⟩
    have hB : Hid (Below w.heap.size w w1) := Below.on hbA hb1
    obtain ⟨xl, x0, x1⟩ := hX.below hb1
    obtain ⟨f0, f1⟩ : w1.frozen? ⟨w.heap.size, 0, none⟩ = false ∧ w1.frozen? ⟨w.heap.size, 1, none⟩ = false := by
      constructor <;> (rw [hb1.frozen (p := ⟨w.heap.size, _, none⟩) (by simp)]; simp [go_sem])
    clear hb1 hX hR hbA
    go_wp2
    refine bodyPost_ret (v := .agg #[.slice none 0 0, .int .i64 1]) (by simp [results, Try.results21, go_sem, x0, x1]) rfl (ansP_ill hp.out ?_)
    exact bl_setA (bl_setA hB.out (Nat.le_refl _)) (Nat.le_refl _)
  rw [ha] at hR
  by_cases hn : n < 0 ∨ (l.length : Int) ≤ n
  · have hp : Hid (dropP l n = ([], 8)) := dropP_range (by omega) ha hn
    rw [e1] at hn
    clear hi e1
    go_enter Try.func21, Try.ntmps21
    go_wp2_with fail
    refine (hR.out _ hbA).mono ?_
    rintro e w1 ⟨rfl, hb1⟩
    have hB : Hid (Below w.heap.size w w1) := Below.on hbA hb1
    obtain ⟨xl, x0, x1⟩ := hX.below hb1
    obtain ⟨f0, f1⟩ : w1.frozen? ⟨w.heap.size, 0, none⟩ = false ∧ w1.frozen? ⟨w.heap.size, 1, none⟩ = false := by
      constructor <;> (rw [hb1.frozen (p := ⟨w.heap.size, _, none⟩) (by simp)]; simp [go_sem])
    clear hb1 hX hR hbA
    by_cases h0 : n < 0
    · clear hn
      go_wp2
      refine bodyPost_ret (v := .agg #[.slice none 0 0, .int .i64 8]) (by simp [results, Try.results21, go_sem, x0, x1]) rfl (ansP_ill hp.out ?_)
      exact bl_setA (bl_setA hB.out (Nat.le_refl _)) (Nat.le_refl _)
    · have h9 : (len : Int) ≤ n := by omega
      clear hn
      go_wp2
      refine bodyPost_ret (v := .agg #[.slice none 0 0, .int .i64 8]) (by simp [results, Try.results21, go_sem, x0, x1]) rfl (ansP_ill hp.out ?_)
      exact bl_setA (bl_setA hB.out (Nat.le_refl _)) (Nat.le_refl _)
  obtain ⟨k, rfl⟩ := Int.eq_ofNat_of_zero_le (by omega : 0 ≤ n)
  have hk : k < len := by omega
  have hk' : (k : Int) < (len : Int) := by omega
  have hp : Hid (dropP l (k : Int) = (l.take k ++ [] ++ l.drop (k + 1), 0)) := dropP_yes ha (by omega)
  have hS : Hid (∀ w', Below w.heap.size w w' → Calls Try.prog 32 #[.slice a len cap, .int .i64 k, .int .i64 1, .slice none 0 0] w' fun e w'' => ∃ a c, e = .returned (.slice a (k + 0 + (len - (k + 1))) c) ∧ OwnA a (k + 0 + (len - (k + 1))) (l.take k ++ [] ++ l.drop (k + 1)) w'' ∧ (∀ Ad, a = some Ad → w'.heap.size ≤ Ad.block ∧ Ad.block < w''.heap.size) ∧ Below w'.heap.size w' w'') := (fun w' hb => spliced_anyA a len cap l (hi.below hb) k 1 (by omega) hcap (by omega) (by omega) none 0 0 [] (by omega) ⟨rfl, fun h => absurd h (by omega)⟩)
  have HLN : Hid ((l.take k ++ [] ++ l.drop (k + 1)).length = k + 0 + (len - (k + 1))) := (by show _ = _; simp; omega)
  generalize hres : l.take k ++ [] ++ l.drop (k + 1) = res at hp hS HLN
  generalize hsz : k + 0 + (len - (k + 1)) = sz at hS HLN
  clear hi e1 hn hres hsz
  go_enter Try.func21, Try.ntmps21
  go_wp2_with fail
  refine (hR.out _ hbA).mono ?_
  rintro e w1 ⟨rfl, hb1⟩
  have hB : Hid (Below w.heap.size w w1) := Below.on hbA hb1
  have hX1 := hX.below hb1
  have hF1 : w1.frozen? ⟨w.heap.size, 0, none⟩ = false ∧ w1.frozen? ⟨w.heap.size, 1, none⟩ = false := by
    constructor <;> (rw [hb1.frozen (p := ⟨w.heap.size, _, none⟩) (by simp)]; simp [go_sem])
  clear hb1 hX hR hbA
  go_wp2_with fail
  refine (hS.out _ hB.out).mono ?_
  rintro e w2 ⟨a2, c2, rfl, hO2, hin2, hb2⟩
  obtain ⟨xl, x0, x1⟩ := hX1.below hb2
  obtain ⟨f0, f1⟩ : w2.frozen? ⟨w.heap.size, 0, none⟩ = false ∧ w2.frozen? ⟨w.heap.size, 1, none⟩ = false :=
    ⟨(hb2.frozen (p := ⟨w.heap.size, 0, none⟩) hX1.lt).trans hF1.1, (hb2.frozen (p := ⟨w.heap.size, 1, none⟩) hX1.lt).trans hF1.2⟩
  have HN : Hid (NewA w w2 a2 sz res) := ⟨hO2, fun A e => ⟨Nat.le_trans hB.out.size (hin2 A e).1, (hin2 A e).2⟩, Below.on hB.out hb2⟩
  have HNE : Hid (∀ A, a2 = some A → w.heap.size ≠ A.block) := (fun A e => by have h1 := (hin2 A e).1; have h2 := hX1.lt; omega)
  clear hS hO2 hin2 hb2 hX1 hF1
  go_wp2
  refine bodyPost_ret (v := .agg #[.slice a2 sz c2, .int .i64 0]) (by simp [results, Try.results21, go_sem, x0, x1]) rfl (ansP_of hp.out HLN.out ?_)
  exact (HN.out.set (Nat.le_refl _) HNE.out).set (Nat.le_refl _) HNE.out
/-- append onto a list that the call owns, said by where the lists lie. -/
theorem append_ownA (w w1 : World) (a1 : Option Addr) (c1 : Nat) (acc : List Ac) (n : Nat) (hO : w1.ownsRow w.heap.size 35 5 (.slice a1 n c1) acc.length (pcA acc)) (a : Option Addr) (len cap : Nat) (l : List Ac) (hp : Acs a len l w1) (hsm : acc.length + len ≤ 1000000) (hb1 : Below w.heap.size w w1) (m : Nat) (hm : (acc ++ l).length = m) :
    ∃ a' c' w', (Builtin.append_ #[24, 24] 24 #[.slice a1 n c1, .slice a len cap]).run Try.prog w1 = .ok (.slice a' m c') w' ∧ w'.ownsRow w.heap.size 35 5 (.slice a' m c') (acc ++ l).length (pcA (acc ++ l)) ∧ NewA w w' a' m (acc ++ l) := by
  obtain ⟨v2, w2, hr2, hO2, hg2⟩ := run_append_acs (P := Try.prog) w1 w.heap.size 24 24 35 Try.underlying24 infoAce _ acc hO a len cap l hp (by omega) hb1.size
  have h2 := hO2
  obtain ⟨a', c', rfl, h3, h4⟩ := ownA_of_row hO2
  subst hm
  exact ⟨a', c', w2, hr2, h2, h3, h4, hb1.grown hg2 hb1.size (own_blockA hO)⟩
/-- The head of a list, put into a new one. -/
theorem cut_head (w : World) (b off len cap : Nat) (l : List Ac) (hln : l.length = len) (hlt : b < w.heap.size) (hc : ∀ i, i < len → Five w b (off + i * 5) (acAt l i)) (k : Nat) (hk : k ≤ len) (hl : len ≤ 1000) :
    ∃ a' c' w', (Builtin.append_ #[24, 24] 24 #[.slice (some ⟨w.heap.size, 0, none⟩) 0 0, .slice (some ⟨b, off, none⟩) k cap]).run Try.prog (w.alloc (.cells #[] 35)) = .ok (.slice a' k c') w' ∧ w'.ownsRow w.heap.size 35 5 (.slice a' k c') (l.take k).length (pcA (l.take k)) ∧ NewA w w' a' k (l.take k) := by
  rw [← hln] at hc
  have hh := acs_take (n := k) (by omega) hlt hc
  have hb0 := bel_alloc w (.cells #[] 35)
  obtain ⟨a1, c1, w1, hr, h1, h2⟩ := append_ownA w (w.alloc (.cells #[] 35)) _ _ [] 0 (rowA_start w _ rfl 35) (some ⟨b, off, none⟩) k cap (l.take k) (hh.below hb0) (by simp; omega) hb0 k (by simp; omega)
  exact ⟨a1, c1, w1, hr, h1, h2⟩
set_option maxHeartbeats 1000000 in
/-- spec.l04Ill. -/
theorem sIll4_any (c : Int) (w : World) :
    Calls Try.prog 28 #[.int .i64 c] w fun e w' => e = .returned (.agg #[.slice none 0 0, .int .i64 c]) ∧ Below w.heap.size w w' := by
  go_enter Try.func28, Try.ntmps28
  go_wp2
  exact bodyPost_ret (v := .agg #[.slice none 0 0, .int .i64 c]) (by simp [results, Try.results28, go_sem]) rfl ⟨rfl, bel_alloc _ _⟩
set_option maxRecDepth 100000 in
set_option maxHeartbeats 4000000 in
/-- spec.AceDrop. -/
theorem sAceDrop_any (a : Option Addr) (len cap : Nat) (l : List Ac) (n : Int) (hcap : len ≤ cap) (hlen : len ≤ 1048576) (w : World) (hi : Acs a len l w) :
    Calls Try.prog 20 #[.slice a len cap, .int .i64 n] w (AnsP (dropP l n) w) := by
  have e1 := hi.1
  have hbA := bel_alloc w (.cells #[.slice none 0 0, .int .i64 0] 33)
  have hX := box2_new w (.slice none 0 0) (.int .i64 0) 33
  have hF : (w.alloc (.cells #[.slice none 0 0, .int .i64 0] 33)).frozen? ⟨w.heap.size, 0, none⟩ = false ∧ (w.alloc (.cells #[.slice none 0 0, .int .i64 0] 33)).frozen? ⟨w.heap.size, 1, none⟩ = false := by constructor <;> simp [go_sem]
  by_cases h4 : 400 < len
  · have hp : Hid (dropP l n = ([], 2)) := dropP_long (by omega)
    have h4' : (400 : Int) < (len : Int) := by omega
    clear hi e1
    go_enter Try.func20, Try.ntmps20
    go_wp2_with fail
    refine (sIll4_any _ _).mono ?_
    rintro e w1 ⟨rfl, hb1⟩
    have hB : Hid (Below w.heap.size w w1) := Below.on hbA hb1
    obtain ⟨xl, x0, x1⟩ := hX.below hb1
    obtain ⟨f0, f1⟩ : w1.frozen? ⟨w.heap.size, 0, none⟩ = false ∧ w1.frozen? ⟨w.heap.size, 1, none⟩ = false := ⟨(hb1.frozen (p := ⟨w.heap.size, 0, none⟩) hX.lt).trans hF.1, (hb1.frozen (p := ⟨w.heap.size, 1, none⟩) hX.lt).trans hF.2⟩
    clear hb1 hX hF hbA
    go_wp2
    refine bodyPost_ret (v := .agg #[.slice none 0 0, .int .i64 2]) (by simp [results, Try.results20, go_sem, x0, x1]) rfl (ansP_ill hp.out ?_)
    exact bl_setA (bl_setA hB.out (Nat.le_refl _)) (Nat.le_refl _)
  have h4' : ¬ (400 : Int) < (len : Int) := by omega
  have hR : Hid (∀ w', Below w.heap.size w w' → Calls Try.prog 24 #[.slice a len cap] w' fun e w'' => e = .returned (.bool (acesB l)) ∧ Below w'.heap.size w' w'') := (fun w' hb => sNfsRight_any a len cap l hlen w' (hi.below hb))
  cases ha : acesB l
  · have hp : Hid (dropP l n = ([], 1)) := dropP_form (by omega) ha
    rw [ha] at hR
    clear hi e1
    go_enter Try.func20, Try.ntmps20
    go_wp2_with fail
    refine (hR.out _ hbA).mono ?_
    rintro e w0 ⟨rfl, hb0⟩
    have hB0 : Hid (Below w.heap.size w w0) := Below.on hbA hb0
    have hX0 := hX.below hb0
    have hF0 : w0.frozen? ⟨w.heap.size, 0, none⟩ = false ∧ w0.frozen? ⟨w.heap.size, 1, none⟩ = false := ⟨(hb0.frozen (p := ⟨w.heap.size, 0, none⟩) hX.lt).trans hF.1, (hb0.frozen (p := ⟨w.heap.size, 1, none⟩) hX.lt).trans hF.2⟩
    clear hb0 hX hF hbA hR
    go_wp2_with fail
    refine (sIll4_any _ _).mono ?_
    rintro e w1 ⟨rfl, hb1⟩
    have hB : Hid (Below w.heap.size w w1) := Below.on hB0.out hb1
    obtain ⟨xl, x0, x1⟩ := hX0.below hb1
    obtain ⟨f0, f1⟩ : w1.frozen? ⟨w.heap.size, 0, none⟩ = false ∧ w1.frozen? ⟨w.heap.size, 1, none⟩ = false := ⟨(hb1.frozen (p := ⟨w.heap.size, 0, none⟩) hX0.lt).trans hF0.1, (hb1.frozen (p := ⟨w.heap.size, 1, none⟩) hX0.lt).trans hF0.2⟩
    clear hb1 hX0 hF0 hB0
    go_wp2
    refine bodyPost_ret (v := .agg #[.slice none 0 0, .int .i64 1]) (by simp [results, Try.results20, go_sem, x0, x1]) rfl (ansP_ill hp.out ?_)
    exact bl_setA (bl_setA hB.out (Nat.le_refl _)) (Nat.le_refl _)
  rw [ha] at hR
  by_cases hn : n < 0 ∨ (l.length : Int) ≤ n
  · have hp : Hid (dropP l n = ([], 8)) := dropP_range (by omega) ha hn
    rw [e1] at hn
    have hno : inR 0 ((len : Int) - 1) n = false := inR_no (by omega)
    have hIs : Hid (∀ w, Calls Try.prog 30 #[.int .i64 n, .int .i64 0, .int .i64 ((len : Int) - 1)] w fun e w' => e = .returned (.bool false) ∧ w' = w) := (fun w => by have := sIs_any n 0 ((len : Int) - 1) w; rwa [hno] at this)
    clear hi e1 hno hn
    go_enter Try.func20, Try.ntmps20
    go_wp2_with fail
    refine (hR.out _ hbA).mono ?_
    rintro e w0 ⟨rfl, hb0⟩
    have hB0 : Hid (Below w.heap.size w w0) := Below.on hbA hb0
    have hX0 := hX.below hb0
    have hF0 : w0.frozen? ⟨w.heap.size, 0, none⟩ = false ∧ w0.frozen? ⟨w.heap.size, 1, none⟩ = false := ⟨(hb0.frozen (p := ⟨w.heap.size, 0, none⟩) hX.lt).trans hF.1, (hb0.frozen (p := ⟨w.heap.size, 1, none⟩) hX.lt).trans hF.2⟩
    clear hb0 hX hF hbA hR
    go_wp2_with fail
    refine (hIs.out _).mono ?_
    rintro e w0 ⟨rfl, rfl⟩
    go_wp2_with fail
    refine (sIll4_any _ _).mono ?_
    rintro e w1 ⟨rfl, hb1⟩
    have hB : Hid (Below w.heap.size w w1) := Below.on hB0.out hb1
    obtain ⟨xl, x0, x1⟩ := hX0.below hb1
    obtain ⟨f0, f1⟩ : w1.frozen? ⟨w.heap.size, 0, none⟩ = false ∧ w1.frozen? ⟨w.heap.size, 1, none⟩ = false := ⟨(hb1.frozen (p := ⟨w.heap.size, 0, none⟩) hX0.lt).trans hF0.1, (hb1.frozen (p := ⟨w.heap.size, 1, none⟩) hX0.lt).trans hF0.2⟩
    clear hb1 hX0 hF0 hB0 hIs
    go_wp2
    refine bodyPost_ret (v := .agg #[.slice none 0 0, .int .i64 8]) (by simp [results, Try.results20, go_sem, x0, x1]) rfl (ansP_ill hp.out ?_)
    exact bl_setA (bl_setA hB.out (Nat.le_refl _)) (Nat.le_refl _)
  obtain ⟨k, rfl⟩ := Int.eq_ofNat_of_zero_le (by omega : 0 ≤ n)
  have hk : k < len := by omega
  have hk' : (k : Int) < (len : Int) := by omega
  have hp : Hid (dropP l (k : Int) = (l.take k ++ l.drop (k + 1), 0)) := (by have := dropP_yes (k := k) ha (by omega); rw [List.append_nil] at this; exact this)
  have hyes : inR 0 ((len : Int) - 1) (k : Int) = true := inR_yes (by omega) (by omega)
  have hIs : Hid (∀ (m : Int) w, m = (len : Int) - 1 → Calls Try.prog 30 #[.int .i64 k, .int .i64 0, .int .i64 m] w fun e w' => e = .returned (.bool true) ∧ w' = w) := (fun m w hm => by have := sIs_any k 0 m w; rw [hm, hyes] at this; rw [hm]; exact this)
  obtain ⟨hln, hpp⟩ := hi
  obtain ⟨b, off, rfl, hlt, hc⟩ := hpp (by omega)
  have HC : Hid (b < w.heap.size ∧ ∀ i, i < len → Five w b (off + i * 5) (acAt l i)) := ⟨hlt, hc⟩
  have HLN : Hid (l.length = len) := hln
  have k1 : (k : Int) ≤ (cap : Int) := by omega
  have k2 : (k : Int) + 1 ≤ (len : Int) := by omega
  have k3 : (len : Int) ≤ (cap : Int) := by omega
  clear hpp hn hyes hln hlt hc e1
  go_enter Try.func20, Try.ntmps20
  go_wp2_with fail
  refine (hR.out _ hbA).mono ?_
  rintro e w0 ⟨rfl, hb0⟩
  have hB0 : Hid (Below w.heap.size w w0) := Below.on hbA hb0
  have hX0 := hX.below hb0
  have hF0 : w0.frozen? ⟨w.heap.size, 0, none⟩ = false ∧ w0.frozen? ⟨w.heap.size, 1, none⟩ = false := ⟨(hb0.frozen (p := ⟨w.heap.size, 0, none⟩) hX.lt).trans hF.1, (hb0.frozen (p := ⟨w.heap.size, 1, none⟩) hX.lt).trans hF.2⟩
  clear hb0 hX hF hbA hR
  obtain ⟨a1, c1, w1, hr1, hO1, hN1⟩ := cut_head w0 b off len cap l HLN.out (Nat.lt_of_lt_of_le HC.out.1 hB0.out.size) (fun i hi => (HC.out.2 i hi).below HC.out.1 hB0.out) k (by omega) (by omega)
  have hc1 : ∀ i, i < l.length → Five w1 b (off + i * 5) (acAt l i) := (fun i hi => (HC.out.2 i (by rw [← HLN.out]; exact hi)).below HC.out.1 (Below.on hB0.out hN1.bel))
  have ht := acs_drop (n := k + 1) (by rw [HLN.out]; omega) (Nat.lt_of_lt_of_le HC.out.1 (Below.on hB0.out hN1.bel).size) hc1
  rw [HLN.out] at ht
  have hsum : (l.take k ++ l.drop (k + 1)).length = k + (len - (k + 1)) := by simp [HLN.out]; omega
  have fin : Hid (∀ a2 w2, NewA w0 w2 a2 (k + (len - (k + 1))) (l.take k ++ l.drop (k + 1)) → (Box2 w2 w.heap.size (.slice none 0 0) (.int .i64 0) ∧ w2.frozen? ⟨w.heap.size, 0, none⟩ = false ∧ w2.frozen? ⟨w.heap.size, 1, none⟩ = false) ∧ NewA w w2 a2 (k + (len - (k + 1))) (l.take k ++ l.drop (k + 1)) ∧ (∀ A, a2 = some A → w.heap.size ≠ A.block)) := (fun a2 w2 hN => by
    refine ⟨⟨hX0.below hN.bel, (hN.bel.frozen (p := ⟨w.heap.size, 0, none⟩) hX0.lt).trans hF0.1, (hN.bel.frozen (p := ⟨w.heap.size, 1, none⟩) hX0.lt).trans hF0.2⟩, hN.pre hB0.out, fun A e => ?_⟩
    have h1 := (hN.inn A e).1
    have h2 := hX0.lt
    omega)
  by_cases hq : cap = k + 1
  · obtain ⟨a2, c2, w2, hr2, hzz, hN2⟩ := append_ownA w0 w1 a1 c1 (l.take k) k hO1 (some ⟨b, off, none⟩) (len - (k + 1)) 0 (l.drop (k + 1)) ⟨ht.1, fun h => absurd h (by omega)⟩ (by simp; omega) hN1.bel _ hsum
    clear hzz
    obtain ⟨⟨⟨xl, x0, x1⟩, f0, f1⟩, hN3, hne⟩ := fin.out a2 w2 hN2
    have HN : Hid (NewA w w2 a2 (k + (len - (k + 1))) (l.take k ++ l.drop (k + 1)) ∧ ∀ A, a2 = some A → w.heap.size ≠ A.block) := ⟨hN3, hne⟩
    have HS : Hid ((l.take k ++ l.drop (k + 1)).length = k + (len - (k + 1))) := hsum
    have hlk : len = k + 1 := by omega
    clear fin hO1 hN1 hc1 ht hsum hN2 hN3 hne hX0 hF0 HC hB0
    obtain ⟨sz, hsz⟩ : ∃ sz, sz = k + (len - (k + 1)) := ⟨_, rfl⟩
    rw [← hsz] at hr2 HN HS
    clear hsz
    subst hq
    subst hlk
    simp only [Nat.sub_self] at hr2
    go_wp2_with (first | (go_at_call 30; refine (hIs.out _ _ (by omega)).mono ?_; rintro e w0 ⟨rfl, rfl⟩) | (at_builtin; first | refine wpList_append_runA _ rfl (.tmp 21) (.tmp 24) 24 24 rfl _ _ _ _ rfl rfl hr1 ?_ | refine wpList_append_runA _ rfl (.tmp 26) (.tmp 30) 24 24 rfl _ _ _ _ rfl rfl hr2 ?_))
    refine bodyPost_ret (v := .agg #[.slice a2 sz c2, .int .i64 0]) (by simp [results, Try.results20, go_sem, x0, x1]) rfl (ansP_of hp.out HS.out ?_)
    exact (HN.out.1.set (Nat.le_refl _) HN.out.2).set (Nat.le_refl _) HN.out.2
  · have k4 : (k : Int) + 1 < (cap : Int) := by omega
    obtain ⟨a2, c2, w2, hr2, hzz, hN2⟩ := append_ownA w0 w1 a1 c1 (l.take k) k hO1 (some ⟨b, off + (k + 1) * 5, none⟩) (len - (k + 1)) (cap - (k + 1)) (l.drop (k + 1)) ht (by simp; omega) hN1.bel _ hsum
    clear hzz
    obtain ⟨⟨⟨xl, x0, x1⟩, f0, f1⟩, hN3, hne⟩ := fin.out a2 w2 hN2
    have HN : Hid (NewA w w2 a2 (k + (len - (k + 1))) (l.take k ++ l.drop (k + 1)) ∧ ∀ A, a2 = some A → w.heap.size ≠ A.block) := ⟨hN3, hne⟩
    have HS : Hid ((l.take k ++ l.drop (k + 1)).length = k + (len - (k + 1))) := hsum
    clear fin hO1 hN1 hc1 ht hsum hN2 hN3 hne hX0 hF0 HC hB0 hq
    obtain ⟨sz, hsz⟩ : ∃ sz, sz = k + (len - (k + 1)) := ⟨_, rfl⟩
    rw [← hsz] at hr2 HN HS
    clear hsz
    go_wp2_with (first | (go_at_call 30; refine (hIs.out _ _ (by omega)).mono ?_; rintro e w0 ⟨rfl, rfl⟩) | (at_builtin; first | refine wpList_append_runA _ rfl (.tmp 21) (.tmp 24) 24 24 rfl _ _ _ _ rfl rfl hr1 ?_ | refine wpList_append_runA _ rfl (.tmp 26) (.tmp 30) 24 24 rfl _ _ _ _ rfl rfl hr2 ?_))
    all_goals (
      refine bodyPost_ret (v := .agg #[.slice a2 sz c2, .int .i64 0]) (by simp [results, Try.results20, go_sem, x0, x1]) rfl (ansP_of hp.out HS.out ?_)
      exact (HN.out.1.set (Nat.le_refl _) HN.out.2).set (Nat.le_refl _) HN.out.2)
end Go.Proofs.Ytklaebcdbbgooab
