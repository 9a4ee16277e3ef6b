/- AceAdd, the program's and the specification's. -/
import Derived.Test.YtklaebcdbbgooabAceDrop
namespace Go.Proofs.Ytklaebcdbbgooab
open Go.RowKit Go.PlainAid Go.Deep
set_option linter.unusedVariables false
/-- AceAdd. -/
def addP (l : List Ac) (at_ : Int) (x : Ac) : List Ac × Int :=
  if 400 < l.length then ([], 2) else if (acesB l && aceB x) = false then ([], 1) else if at_ < 0 ∨ (l.length : Int) < at_ then ([], 8) else if l.length = 32 then ([], 9) else (l.take at_.toNat ++ [x] ++ l.drop (at_.toNat + 0), 0)
theorem addP_long {l : List Ac} {n : Int} {x : Ac} (h : 400 < l.length) : addP l n x = ([], 2) := by rw [addP, if_pos h]
theorem addP_form {l : List Ac} {n : Int} {x : Ac} (h : ¬ 400 < l.length) (h1 : (acesB l && aceB x) = false) : addP l n x = ([], 1) := by rw [addP, if_neg h, if_pos h1]
theorem addP_range {l : List Ac} {n : Int} {x : Ac} (h1 : acesB l = true) (hx : aceB x = true) (h2 : n < 0 ∨ (l.length : Int) < n) : addP l n x = ([], 8) := by
  have hl := aces_len h1
  rw [addP, if_neg (by omega), if_neg (by rw [h1, hx]; simp), if_pos h2]
theorem addP_full {l : List Ac} {n : Int} {x : Ac} (h1 : acesB l = true) (hx : aceB x = true) (h2 : ¬ (n < 0 ∨ (l.length : Int) < n)) (h3 : l.length = 32) : addP l n x = ([], 9) := by
  rw [addP, if_neg (by omega), if_neg (by rw [h1, hx]; simp), if_neg h2, if_pos h3]
theorem addP_yes {l : List Ac} {k : Nat} {x : Ac} (h1 : acesB l = true) (hx : aceB x = true) (h2 : k ≤ l.length) (h3 : ¬ l.length = 32) : addP l (k : Int) x = (l.take k ++ [x] ++ l.drop (k + 0), 0) := by
  have hl := aces_len h1
  rw [addP, if_neg (by omega), if_neg (by rw [h1, hx]; simp), if_neg (by omega), if_neg h3]
  simp
theorem addP_len (l : List Ac) (n : Int) (x : Ac) : (addP l n x).1.length ≤ 401 := by
  unfold addP
  split
  · simp
  · split
    · simp
    · split
      · simp
      · split
        · simp
        · simp only [List.length_append, List.length_take, List.length_drop, List.length_cons, List.length_nil]
          omega
set_option maxRecDepth 100000 in
set_option maxHeartbeats 4000000 in
/-- impl.spliced of an empty list. -/
theorem spliced_noneA (b off cap : Nat) (ai : Option Addr) (ci : Nat) (x : Ac) (w : World) (hi : Acs ai 1 [x] w) :
    Calls Try.prog 32 #[.slice (some ⟨b, off, none⟩) 0 cap, .int .i64 0, .int .i64 0, .slice ai 1 ci] w fun e w' => ∃ a c, e = .returned (.slice a (0 + 1 + 0) c) ∧ OwnA a (0 + 1 + 0) ([] ++ [x] ++ []) w' ∧ (∀ Ad, a = some Ad → w.heap.size ≤ Ad.block ∧ Ad.block < w'.heap.size) ∧ Below w.heap.size w w' := by
  have HI : Hid (Acs ai 1 [x] w) := hi
  have k1 : (0 : Int) ≤ (cap : Int) := by omega
  clear hi
  go_enter Try.func32, Try.ntmps32
  go_wp2_with fail
  all_goals (
    refine (concat_triA w w.heap.size rfl 24 3 _ 0 _ [] ai 1 ci [x] _ 0 _ [] (by omega) ⟨rfl, fun h => absurd h (by omega)⟩ HI.out ⟨rfl, fun h => absurd h (by omega)⟩).mono ?_
    rintro e w1 ⟨a, c, rfl, hca, ho, hin, hbl⟩
    have R : Hid (OwnA a (0 + 1 + 0) ([] ++ [x] ++ []) w1 ∧ (∀ Ad, a = some Ad → w.heap.size ≤ Ad.block ∧ Ad.block < w1.heap.size) ∧ Below w.heap.size w w1) := ⟨ho, hin, hbl⟩
    clear ho hin hbl HI
    go_wp2
    go_ret
    exact ⟨a, c, rfl, R.out⟩)
theorem splicedAt (b off len cap : Nat) (l : List Ac) (k : Nat) (hk : k ≤ len) (hcap : len ≤ cap) (hm : len ≤ 1000) (ai : Option Addr) (ci : Nat) (x : Ac) (w : World) (hp : Acs (some ⟨b, off, none⟩) len l w) (hi : Acs ai 1 [x] w) :
    Calls Try.prog 32 #[.slice (some ⟨b, off, none⟩) len cap, .int .i64 k, .int .i64 0, .slice ai 1 ci] w fun e w' => ∃ a c, e = .returned (.slice a (len + 1) c) ∧ OwnA a (len + 1) (l.take k ++ [x] ++ l.drop (k + 0)) w' ∧ (∀ Ad, a = some Ad → w.heap.size ≤ Ad.block ∧ Ad.block < w'.heap.size) ∧ Below w.heap.size w w' := by
  by_cases h0 : len = 0
  · subst h0
    have hl : l = [] := List.eq_nil_of_length_eq_zero hp.1
    have hk0 : k = 0 := by omega
    subst hl hk0
    exact spliced_noneA b off cap ai ci x w hi
  · have := spliced_anyA (some ⟨b, off, none⟩) len cap l hp k 0 (by omega) hcap hm (by omega) ai 1 ci [x] (by omega) hi
    have e : k + 1 + (len - (k + 0)) = len + 1 := by omega
    rw [e] at this
    exact this
set_option maxRecDepth 100000 in
set_option maxHeartbeats 8000000 in
/-- impl.AceAdd. -/
theorem iAceAdd_any (b off len cap : Nat) (l : List Ac) (n : Int) (x : Ac) (hcap : len ≤ cap) (hlen : len ≤ 1048576) (w : World) (hi : Acs (some ⟨b, off, none⟩) len l w) :
    Calls Try.prog 16 #[.slice (some ⟨b, off, none⟩) len cap, .int .i64 n, .agg #[.bool x.al, .int .i64 x.wh, .int .i64 x.id, .int .i64 x.fl, .int .i64 x.ma]] w (AnsP (addP l n x) w) := by
  have e1 := hi.1
  have hbA : Below w.heap.size w ((w.alloc (.cells #[.bool x.al, .int .i64 x.wh, .int .i64 x.id, .int .i64 x.fl, .int .i64 x.ma] 35)).alloc (.cells #[.slice none 0 0, .int .i64 0] 33)) := bl2A _ _ _
  have hX : Box2 ((w.alloc (.cells #[.bool x.al, .int .i64 x.wh, .int .i64 x.id, .int .i64 x.fl, .int .i64 x.ma] 35)).alloc (.cells #[.slice none 0 0, .int .i64 0] 33)) (w.heap.size + 1) (.slice none 0 0) (.int .i64 0) := (by have := box2_new (w.alloc (.cells #[.bool x.al, .int .i64 x.wh, .int .i64 x.id, .int .i64 x.fl, .int .i64 x.ma] 35)) (.slice none 0 0) (.int .i64 0) 33; simpa using this)
  have hQ : Five ((w.alloc (.cells #[.bool x.al, .int .i64 x.wh, .int .i64 x.id, .int .i64 x.fl, .int .i64 x.ma] 35)).alloc (.cells #[.slice none 0 0, .int .i64 0] 33)) w.heap.size 0 x := (five_new w x 35).below (by simp) (bel_alloc _ _)
  have hF : ((w.alloc (.cells #[.bool x.al, .int .i64 x.wh, .int .i64 x.id, .int .i64 x.fl, .int .i64 x.ma] 35)).alloc (.cells #[.slice none 0 0, .int .i64 0] 33)).frozen? ⟨w.heap.size + 1, 0, none⟩ = false ∧ ((w.alloc (.cells #[.bool x.al, .int .i64 x.wh, .int .i64 x.id, .int .i64 x.fl, .int .i64 x.ma] 35)).alloc (.cells #[.slice none 0 0, .int .i64 0] 33)).frozen? ⟨w.heap.size + 1, 1, none⟩ = false := by constructor <;> simp [go_sem]
  have hqlt : w.heap.size < ((w.alloc (.cells #[.bool x.al, .int .i64 x.wh, .int .i64 x.id, .int .i64 x.fl, .int .i64 x.ma] 35)).alloc (.cells #[.slice none 0 0, .int .i64 0] 33)).heap.size := by simp; omega
  by_cases h4 : 400 < len
  · have hp : Hid (addP l n x = ([], 2)) := addP_long (by omega)
    have h4' : (400 : Int) < (len : Int) := by omega
    clear hi e1 hQ hX hF hqlt
    go_enter Try.func16, Try.ntmps16
    go_wp2
    exact bodyPost_ret (v := .agg #[.slice none 0 0, .int .i64 2]) (by simp [results, Try.results16, go_sem]) rfl (ansP_ill hp.out (bl2A _ _ _))
  have h4' : ¬ (400 : Int) < (len : Int) := by omega
  have hR : Hid (∀ w', Below w.heap.size w w' → Calls Try.prog 25 #[.slice (some ⟨b, off, none⟩) len cap] w' fun e w'' => e = .returned (.bool (acesB l)) ∧ Below w'.heap.size w' w'') := (fun w' hb => iNfsRight_any _ len cap l w' (hi.below hb))
  have hRx : Hid (∀ w', Calls Try.prog 31 #[.agg #[.bool x.al, .int .i64 x.wh, .int .i64 x.id, .int .i64 x.fl, .int .i64 x.ma]] w' fun e w'' => e = .returned (.bool (aceB x)) ∧ Below w'.heap.size w' w'') := iAceRight_any x
  cases ha : acesB l
  · have hp : Hid (addP l n x = ([], 1)) := addP_form (by omega) (by rw [ha]; rfl)
    rw [ha] at hR
    clear hi e1 hQ hqlt
    go_enter Try.func16, Try.ntmps16
    go_wp2_with fail
    refine (hR.out _ hbA).mono ?_
    rintro e w1 ⟨rfl, hb1⟩
    have hB : Hid (Below w.heap.size w w1) := Below.on hbA hb1
    obtain ⟨xl, x0, x1⟩ := hX.below hb1
    obtain ⟨f0, f1⟩ : w1.frozen? ⟨w.heap.size + 1, 0, none⟩ = false ∧ w1.frozen? ⟨w.heap.size + 1, 1, none⟩ = false := ⟨(hb1.frozen (p := ⟨w.heap.size + 1, 0, none⟩) hX.lt).trans hF.1, (hb1.frozen (p := ⟨w.heap.size + 1, 1, none⟩) hX.lt).trans hF.2⟩
    clear hb1 hX hR hbA hF hRx
    go_wp2
    refine bodyPost_ret (v := .agg #[.slice none 0 0, .int .i64 1]) (by simp [results, Try.results16, go_sem, x0, x1]) rfl (ansP_ill hp.out ?_)
    exact bl_setA (bl_setA hB.out (by omega)) (by omega)
  rw [ha] at hR
  cases hx : aceB x
  · have hp : Hid (addP l n x = ([], 1)) := addP_form (by omega) (by rw [ha, hx]; rfl)
    rw [hx] at hRx
    clear hi e1
    go_enter Try.func16, Try.ntmps16
    go_wp2_with fail
    refine (hR.out _ hbA).mono ?_
    rintro e w0 ⟨rfl, hb0⟩
    have hB0 : Hid (Below w.heap.size w w0) := Below.on hbA hb0
    have hX0 := hX.below hb0
    obtain ⟨q0, q1, q2, q3, q4⟩ := hQ.below hqlt hb0
    simp only [Nat.zero_add] at q1 q2 q3 q4
    have hF0 : w0.frozen? ⟨w.heap.size + 1, 0, none⟩ = false ∧ w0.frozen? ⟨w.heap.size + 1, 1, none⟩ = false := ⟨(hb0.frozen (p := ⟨w.heap.size + 1, 0, none⟩) hX.lt).trans hF.1, (hb0.frozen (p := ⟨w.heap.size + 1, 1, none⟩) hX.lt).trans hF.2⟩
    clear hb0 hX hF hbA hR hQ hqlt
    go_wp2_with fail
    refine (hRx.out _).mono ?_
    rintro e w1 ⟨rfl, hb1⟩
    have hB : Hid (Below w.heap.size w w1) := Below.on hB0.out hb1
    obtain ⟨xl, x0, x1⟩ := hX0.below hb1
    obtain ⟨f0, f1⟩ : w1.frozen? ⟨w.heap.size + 1, 0, none⟩ = false ∧ w1.frozen? ⟨w.heap.size + 1, 1, none⟩ = false := ⟨(hb1.frozen (p := ⟨w.heap.size + 1, 0, none⟩) hX0.lt).trans hF0.1, (hb1.frozen (p := ⟨w.heap.size + 1, 1, none⟩) hX0.lt).trans hF0.2⟩
    clear hb1 hX0 hF0 hB0 q0 q1 q2 q3 q4 hRx
    go_wp2
    refine bodyPost_ret (v := .agg #[.slice none 0 0, .int .i64 1]) (by simp [results, Try.results16, go_sem, x0, x1]) rfl (ansP_ill hp.out ?_)
    exact bl_setA (bl_setA hB.out (by omega)) (by omega)
  rw [hx] at hRx
  have start : Hid (∀ w', Below ((w.alloc (.cells #[.bool x.al, .int .i64 x.wh, .int .i64 x.id, .int .i64 x.fl, .int .i64 x.ma] 35)).alloc (.cells #[.slice none 0 0, .int .i64 0] 33)).heap.size ((w.alloc (.cells #[.bool x.al, .int .i64 x.wh, .int .i64 x.id, .int .i64 x.fl, .int .i64 x.ma] 35)).alloc (.cells #[.slice none 0 0, .int .i64 0] 33)) w' → Below w.heap.size w w' ∧ Box2 w' (w.heap.size + 1) (.slice none 0 0) (.int .i64 0) ∧ (w'.frozen? ⟨w.heap.size + 1, 0, none⟩ = false ∧ w'.frozen? ⟨w.heap.size + 1, 1, none⟩ = false) ∧ Five w' w.heap.size 0 x) := (fun w' hb => ⟨Below.on hbA hb, hX.below hb, ⟨(hb.frozen (p := ⟨w.heap.size + 1, 0, none⟩) hX.lt).trans hF.1, (hb.frozen (p := ⟨w.heap.size + 1, 1, none⟩) hX.lt).trans hF.2⟩, hQ.below hqlt hb⟩)
  by_cases hn : n < 0 ∨ (l.length : Int) < n
  · have hp : Hid (addP l n x = ([], 8)) := addP_range ha hx hn
    rw [e1] at hn
    clear hi e1
    go_enter Try.func16, Try.ntmps16
    go_wp2_with fail
    refine (hR.out _ hbA).mono ?_
    rintro e w0 ⟨rfl, hb0⟩
    obtain ⟨q0, q1, q2, q3, q4⟩ := (start.out w0 hb0).2.2.2
    simp only [Nat.zero_add] at q1 q2 q3 q4
    have HB0 : Hid (Below ((w.alloc (.cells #[.bool x.al, .int .i64 x.wh, .int .i64 x.id, .int .i64 x.fl, .int .i64 x.ma] 35)).alloc (.cells #[.slice none 0 0, .int .i64 0] 33)).heap.size ((w.alloc (.cells #[.bool x.al, .int .i64 x.wh, .int .i64 x.id, .int .i64 x.fl, .int .i64 x.ma] 35)).alloc (.cells #[.slice none 0 0, .int .i64 0] 33)) w0) := hb0
    clear hb0 hX hF hbA hR hQ hqlt
    go_wp2_with fail
    refine (hRx.out _).mono ?_
    rintro e w1 ⟨rfl, hb1⟩
    obtain ⟨hB', ⟨xl, x0, x1⟩, ⟨f0, f1⟩, _⟩ := start.out w1 (Below.on HB0.out hb1)
    have hB : Hid (Below w.heap.size w w1) := hB'
    clear hb1 hB' HB0 start q0 q1 q2 q3 q4 hRx
    by_cases h0 : n < 0
    · clear hn
      go_wp2
      refine bodyPost_ret (v := .agg #[.slice none 0 0, .int .i64 8]) (by simp [results, Try.results16, go_sem, x0, x1]) rfl (ansP_ill hp.out ?_)
      exact bl_setA (bl_setA hB.out (by omega)) (by omega)
    · have h9 : (len : Int) < n := by omega
      clear hn
      go_wp2
      refine bodyPost_ret (v := .agg #[.slice none 0 0, .int .i64 8]) (by simp [results, Try.results16, go_sem, x0, x1]) rfl (ansP_ill hp.out ?_)
      exact bl_setA (bl_setA hB.out (by omega)) (by omega)
  obtain ⟨k, rfl⟩ := Int.eq_ofNat_of_zero_le (by omega : 0 ≤ n)
  have hk : k ≤ len := by omega
  have hk' : (k : Int) ≤ (len : Int) := by omega
  by_cases h32 : len = 32
  · have hp : Hid (addP l (k : Int) x = ([], 9)) := addP_full ha hx hn (by omega)
    have hk3 : (k : Int) ≤ 32 := by omega
    clear hi e1 hn
    subst h32
    go_enter Try.func16, Try.ntmps16
    go_wp2_with fail
    refine (hR.out _ hbA).mono ?_
    rintro e w0 ⟨rfl, hb0⟩
    obtain ⟨q0, q1, q2, q3, q4⟩ := (start.out w0 hb0).2.2.2
    simp only [Nat.zero_add] at q1 q2 q3 q4
    have HB0 : Hid (Below ((w.alloc (.cells #[.bool x.al, .int .i64 x.wh, .int .i64 x.id, .int .i64 x.fl, .int .i64 x.ma] 35)).alloc (.cells #[.slice none 0 0, .int .i64 0] 33)).heap.size ((w.alloc (.cells #[.bool x.al, .int .i64 x.wh, .int .i64 x.id, .int .i64 x.fl, .int .i64 x.ma] 35)).alloc (.cells #[.slice none 0 0, .int .i64 0] 33)) w0) := hb0
    clear hb0 hX hF hbA hR hQ hqlt
    go_wp2_with fail
    refine (hRx.out _).mono ?_
    rintro e w1 ⟨rfl, hb1⟩
    obtain ⟨hB', ⟨xl, x0, x1⟩, ⟨f0, f1⟩, _⟩ := start.out w1 (Below.on HB0.out hb1)
    have hB : Hid (Below w.heap.size w w1) := hB'
    clear hb1 hB' HB0 start q0 q1 q2 q3 q4 hRx
    go_wp2
    refine bodyPost_ret (v := .agg #[.slice none 0 0, .int .i64 9]) (by simp [results, Try.results16, go_sem, x0, x1]) rfl (ansP_ill hp.out ?_)
    exact bl_setA (bl_setA hB.out (by omega)) (by omega)
  have h32' : ((len : Int) == 32) = false := by simp; omega
  have hp : Hid (addP l (k : Int) x = (l.take k ++ [x] ++ l.drop (k + 0), 0)) := addP_yes ha hx (by omega) (by omega)
  have hS : Hid (∀ w' X, X = w'.heap.size → Below w.heap.size w w' → Calls Try.prog 32 #[.slice (some ⟨b, off, none⟩) len cap, .int .i64 k, .int .i64 0, .slice (some ⟨X, 0, none⟩) 1 1] (w'.alloc (.cells #[.bool x.al, .int .i64 x.wh, .int .i64 x.id, .int .i64 x.fl, .int .i64 x.ma] 35)) fun e w'' => ∃ a c, e = .returned (.slice a (len + 1) c) ∧ OwnA a (len + 1) (l.take k ++ [x] ++ l.drop (k + 0)) w'' ∧ (∀ Ad, a = some Ad → w'.heap.size ≤ Ad.block ∧ Ad.block < w''.heap.size) ∧ Below w'.heap.size w' w'') := (fun w' X hX hb => by
    subst hX
    have hba := bel_alloc w' (.cells #[.bool x.al, .int .i64 x.wh, .int .i64 x.id, .int .i64 x.fl, .int .i64 x.ma] 35)
    refine (splicedAt b off len cap l k hk hcap (by omega) _ 1 x _ ((hi.below hb).below hba) (acs_one w' x _)).mono ?_
    rintro e w'' ⟨a, c, h1, h2, h3, h4⟩
    exact ⟨a, c, h1, h2, fun A e => by have := h3 A e; have h5 := hba.size; omega, Below.on hba h4⟩)
  have HLN : Hid ((l.take k ++ [x] ++ l.drop (k + 0)).length = len + 1) := (by show _ = _; simp; omega)
  generalize hres : l.take k ++ [x] ++ l.drop (k + 0) = res at hp hS HLN
  clear hi e1 hn hres
  go_enter Try.func16, Try.ntmps16
  go_wp2_with fail
  refine (hR.out _ hbA).mono ?_
  rintro e w0 ⟨rfl, hb0⟩
  obtain ⟨q0, q1, q2, q3, q4⟩ := (start.out w0 hb0).2.2.2
  simp only [Nat.zero_add] at q1 q2 q3 q4
  have HB0 : Hid (Below ((w.alloc (.cells #[.bool x.al, .int .i64 x.wh, .int .i64 x.id, .int .i64 x.fl, .int .i64 x.ma] 35)).alloc (.cells #[.slice none 0 0, .int .i64 0] 33)).heap.size ((w.alloc (.cells #[.bool x.al, .int .i64 x.wh, .int .i64 x.id, .int .i64 x.fl, .int .i64 x.ma] 35)).alloc (.cells #[.slice none 0 0, .int .i64 0] 33)) w0) := hb0
  clear hb0 hX hF hbA hR hQ hqlt
  go_wp2_with fail
  refine (hRx.out _).mono ?_
  rintro e w1 ⟨rfl, hb1⟩
  have HB1 : Hid (Below ((w.alloc (.cells #[.bool x.al, .int .i64 x.wh, .int .i64 x.id, .int .i64 x.fl, .int .i64 x.ma] 35)).alloc (.cells #[.slice none 0 0, .int .i64 0] 33)).heap.size ((w.alloc (.cells #[.bool x.al, .int .i64 x.wh, .int .i64 x.id, .int .i64 x.fl, .int .i64 x.ma] 35)).alloc (.cells #[.slice none 0 0, .int .i64 0] 33)) w1) := Below.on HB0.out hb1
  clear q0 q1 q2 q3 q4 hb1 HB0 hRx
  obtain ⟨hB', hX1, _, q0, q1, q2, q3, q4⟩ := start.out w1 HB1.out
  simp only [Nat.zero_add] at q1 q2 q3 q4
  have hB : Hid (Below w.heap.size w w1) := hB'
  clear hB'
  go_wp2_with fail
  refine (hS.out w1 _ rfl hB.out).mono ?_
  rintro e w2 ⟨a2, c2, rfl, hO2, hin2, hb2⟩
  obtain ⟨_, ⟨xl, x0, x1⟩, ⟨f0, f1⟩, _⟩ := start.out w2 (Below.on HB1.out hb2)
  have HN : Hid (NewA w w2 a2 (len + 1) res) := ⟨hO2, fun A e => ⟨Nat.le_trans hB.out.size (hin2 A e).1, (hin2 A e).2⟩, Below.on hB.out hb2⟩
  have HNE : Hid (∀ A, a2 = some A → w.heap.size + 1 ≠ A.block) := (fun A e => by have h1 := (hin2 A e).1; have h2 := hX1.lt; omega)
  clear hS hO2 hin2 hb2 hX1 HB1 start q0 q1 q2 q3 q4
  generalize len + 1 = sz at HN HLN ⊢
  go_wp2
  refine bodyPost_ret (v := .agg #[.slice a2 sz c2, .int .i64 0]) (by simp [results, Try.results16, go_sem, x0, x1]) rfl (ansP_of hp.out HLN.out ?_)
  exact (HN.out.set (by omega) HNE.out).set (by omega) HNE.out
end Go.Proofs.Ytklaebcdbbgooab
