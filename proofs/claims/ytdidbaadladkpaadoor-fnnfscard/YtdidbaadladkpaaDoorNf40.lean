/- Laid together: AceAdd, AceAddS. -/
import Derived.Test.YtdidbaadladkpaaDoorNf39
/- AceAdd, the program's and the specification's. -/
namespace Go.Proofs.YtdidbaadladkpaaDoor
open Go.RowKit Go.PlainAid Go.Deep
set_option linter.unusedVariables false
/-- An answer whose list keeps its bound. -/
def AnsC (p : List Ac × Int) (w : World) (e : Ending) (w' : World) : Prop := ∃ a c, e = .returned (.agg #[.slice a p.1.length c, .int .i64 p.2]) ∧ NewA w w' a p.1.length p.1 ∧ p.1.length ≤ c
theorem ansC_ill {p : List Ac × Int} {c : Int} (h : p = ([], c)) {w w' : World} (hb : Below w.heap.size w w') : AnsC p w (.returned (.agg #[.slice none 0 0, .int .i64 c])) w' := by
  subst h
  exact ⟨none, 0, rfl, newA_nil hb, Nat.le_refl _⟩
theorem ansC_of {p : List Ac × Int} {xs : List Ac} {c : Int} (h : p = (xs, c)) {n : Nat} (hn : xs.length = n) {cp : Nat} (hc : n ≤ cp) {w w' : World} {a : Option Addr} (hN : NewA w w' a n xs) : AnsC p w (.returned (.agg #[.slice a n cp, .int .i64 c])) w' := by
  subst h hn
  exact ⟨a, cp, rfl, hN, hc⟩
/-- AceAdd. -/
def addP (l : List Ac) (at_ : Int) (x : Ac) : List Ac × Int :=
  if 400 < l.length then ([], 2) else if (acesB l && aceB x) = false then ([], 1) else if at_ < 0 ∨ (l.length : Int) < at_ then ([], 8) else if l.length = 32 then ([], 9) else (l.take at_.toNat ++ [x] ++ l.drop (at_.toNat + 0), 0)
theorem addP_long {l : List Ac} {n : Int} {x : Ac} (h : 400 < l.length) : addP l n x = ([], 2) := by rw [addP, if_pos h]
theorem addP_form {l : List Ac} {n : Int} {x : Ac} (h : ¬ 400 < l.length) (h1 : (acesB l && aceB x) = false) : addP l n x = ([], 1) := by rw [addP, if_neg h, if_pos h1]
theorem addP_range {l : List Ac} {n : Int} {x : Ac} (h1 : acesB l = true) (hx : aceB x = true) (h2 : n < 0 ∨ (l.length : Int) < n) : addP l n x = ([], 8) := by
  have hl := aces_len h1
  rw [addP, if_neg (by omega), if_neg (by rw [h1, hx]; simp), if_pos h2]
theorem addP_full {l : List Ac} {n : Int} {x : Ac} (h1 : acesB l = true) (hx : aceB x = true) (h2 : ¬ (n < 0 ∨ (l.length : Int) < n)) (h3 : l.length = 32) : addP l n x = ([], 9) := by
  rw [addP, if_neg (by omega), if_neg (by rw [h1, hx]; simp), if_neg h2, if_pos h3]
theorem addP_yes {l : List Ac} {k : Nat} {x : Ac} (h1 : acesB l = true) (hx : aceB x = true) (h2 : k ≤ l.length) (h3 : ¬ l.length = 32) : addP l (k : Int) x = (l.take k ++ [x] ++ l.drop (k + 0), 0) := by
  have hl := aces_len h1
  rw [addP, if_neg (by omega), if_neg (by rw [h1, hx]; simp), if_neg (by omega), if_neg h3]
  simp
theorem addP_len (l : List Ac) (n : Int) (x : Ac) : (addP l n x).1.length ≤ 401 := by
  unfold addP
  split
  · simp
  · split
    · simp
    · split
      · simp
      · split
        · simp
        · simp only [List.length_append, List.length_take, List.length_drop, List.length_cons, List.length_nil]
          omega
set_option maxRecDepth 100000 in
set_option maxHeartbeats 4000000 in
/-- impl.spliced of an empty list. -/
theorem spliced_noneC (b off cap : Nat) (ai : Option Addr) (ci : Nat) (x : Ac) (w : World) (hi : Acs ai 1 [x] w) :
    Calls Tryd.prog 50 #[.slice (some ⟨b, off, none⟩) 0 cap, .int .i64 0, .int .i64 0, .slice ai 1 ci] w fun e w' => ∃ a c, e = .returned (.slice a (0 + 1 + 0) c) ∧ OwnA a (0 + 1 + 0) ([] ++ [x] ++ []) w' ∧ (∀ Ad, a = some Ad → w.heap.size ≤ Ad.block ∧ Ad.block < w'.heap.size) ∧ Below w.heap.size w w' ∧ 0 + 1 + 0 ≤ c := by
  have HI : Hid (Acs ai 1 [x] w) := hi
  have k1 : (0 : Int) ≤ (cap : Int) := by omega
  clear hi
  go_enter Tryd.func50, Tryd.ntmps50
  go_wp2_with fail
  all_goals (
    refine (concat_triA w w.heap.size rfl 23 3 _ 0 _ [] ai 1 ci [x] _ 0 _ [] (by omega) ⟨rfl, fun h => absurd h (by omega)⟩ HI.out ⟨rfl, fun h => absurd h (by omega)⟩).mono ?_
    rintro e w1 ⟨a, c, rfl, hca, ho, hin, hbl⟩
    have R : Hid (OwnA a (0 + 1 + 0) ([] ++ [x] ++ []) w1 ∧ (∀ Ad, a = some Ad → w.heap.size ≤ Ad.block ∧ Ad.block < w1.heap.size) ∧ Below w.heap.size w w1 ∧ 0 + 1 + 0 ≤ c) := ⟨ho, hin, hbl, hca⟩
    clear ho hin hbl hca HI
    go_wp2
    go_ret
    exact ⟨a, c, rfl, R.out⟩)
theorem splicedAt (b off len cap : Nat) (l : List Ac) (k : Nat) (hk : k ≤ len) (hcap : len ≤ cap) (hm : len ≤ 1000) (ai : Option Addr) (ci : Nat) (x : Ac) (w : World) (hp : Acs (some ⟨b, off, none⟩) len l w) (hi : Acs ai 1 [x] w) :
    Calls Tryd.prog 50 #[.slice (some ⟨b, off, none⟩) len cap, .int .i64 k, .int .i64 0, .slice ai 1 ci] w fun e w' => ∃ a c, e = .returned (.slice a (len + 1) c) ∧ OwnA a (len + 1) (l.take k ++ [x] ++ l.drop (k + 0)) w' ∧ (∀ Ad, a = some Ad → w.heap.size ≤ Ad.block ∧ Ad.block < w'.heap.size) ∧ Below w.heap.size w w' ∧ len + 1 ≤ c := by
  by_cases h0 : len = 0
  · subst h0
    have hl : l = [] := List.eq_nil_of_length_eq_zero hp.1
    have hk0 : k = 0 := by omega
    subst hl hk0
    exact spliced_noneC b off cap ai ci x w hi
  · have := spliced_anyC (some ⟨b, off, none⟩) len cap l hp k 0 (by omega) hcap hm (by omega) ai 1 ci [x] (by omega) hi
    have e : k + 1 + (len - (k + 0)) = len + 1 := by omega
    rw [e] at this
    exact this
set_option maxRecDepth 100000 in
set_option maxHeartbeats 8000000 in
/-- impl.AceAdd. -/
theorem iAceAdd_cap (b off len cap : Nat) (l : List Ac) (n : Int) (x : Ac) (hcap : len ≤ cap) (hlen : len ≤ 1048576) (w : World) (hi : Acs (some ⟨b, off, none⟩) len l w) :
    Calls Tryd.prog 9 #[.slice (some ⟨b, off, none⟩) len cap, .int .i64 n, .agg #[.bool x.al, .int .i64 x.wh, .int .i64 x.id, .int .i64 x.fl, .int .i64 x.ma]] w (AnsC (addP l n x) w) := by
  have e1 := hi.1
  have hbA : Below w.heap.size w ((w.alloc (.cells #[.bool x.al, .int .i64 x.wh, .int .i64 x.id, .int .i64 x.fl, .int .i64 x.ma] 33)).alloc (.cells #[.slice none 0 0, .int .i64 0] 37)) := bl2A _ _ _
  have hX : Box2 ((w.alloc (.cells #[.bool x.al, .int .i64 x.wh, .int .i64 x.id, .int .i64 x.fl, .int .i64 x.ma] 33)).alloc (.cells #[.slice none 0 0, .int .i64 0] 37)) (w.heap.size + 1) (.slice none 0 0) (.int .i64 0) := (by have := box2_new (w.alloc (.cells #[.bool x.al, .int .i64 x.wh, .int .i64 x.id, .int .i64 x.fl, .int .i64 x.ma] 33)) (.slice none 0 0) (.int .i64 0) 37; simpa using this)
  have hQ : Five ((w.alloc (.cells #[.bool x.al, .int .i64 x.wh, .int .i64 x.id, .int .i64 x.fl, .int .i64 x.ma] 33)).alloc (.cells #[.slice none 0 0, .int .i64 0] 37)) w.heap.size 0 x := (five_new w x 33).below (by simp) (bel_alloc _ _)
  have hF : ((w.alloc (.cells #[.bool x.al, .int .i64 x.wh, .int .i64 x.id, .int .i64 x.fl, .int .i64 x.ma] 33)).alloc (.cells #[.slice none 0 0, .int .i64 0] 37)).frozen? ⟨w.heap.size + 1, 0, none⟩ = false ∧ ((w.alloc (.cells #[.bool x.al, .int .i64 x.wh, .int .i64 x.id, .int .i64 x.fl, .int .i64 x.ma] 33)).alloc (.cells #[.slice none 0 0, .int .i64 0] 37)).frozen? ⟨w.heap.size + 1, 1, none⟩ = false := by constructor <;> simp [go_sem]
  have hqlt : w.heap.size < ((w.alloc (.cells #[.bool x.al, .int .i64 x.wh, .int .i64 x.id, .int .i64 x.fl, .int .i64 x.ma] 33)).alloc (.cells #[.slice none 0 0, .int .i64 0] 37)).heap.size := by simp; omega
  by_cases h4 : 400 < len
  · have hp : Hid (addP l n x = ([], 2)) := addP_long (by omega)
    have h4' : (400 : Int) < (len : Int) := by omega
    clear hi e1 hQ hX hF hqlt
    go_enter Tryd.func9, Tryd.ntmps9
    go_wp2
    exact bodyPost_ret (v := .agg #[.slice none 0 0, .int .i64 2]) (by simp [results, Tryd.results9, go_sem]) rfl (ansC_ill hp.out (bl2A _ _ _))
  have h4' : ¬ (400 : Int) < (len : Int) := by omega
  have hR : Hid (∀ w', Below w.heap.size w w' → Calls Tryd.prog 23 #[.slice (some ⟨b, off, none⟩) len cap] w' fun e w'' => e = .returned (.bool (acesB l)) ∧ Below w'.heap.size w' w'') := (fun w' hb => iNfsRight_any _ len cap l w' (hi.below hb))
  have hRx : Hid (∀ w', Calls Tryd.prog 21 #[.agg #[.bool x.al, .int .i64 x.wh, .int .i64 x.id, .int .i64 x.fl, .int .i64 x.ma]] w' fun e w'' => e = .returned (.bool (aceB x)) ∧ Below w'.heap.size w' w'') := iAceRight_any x
  cases ha : acesB l
  · have hp : Hid (addP l n x = ([], 1)) := addP_form (by omega) (by rw [ha]; rfl)
    rw [ha] at hR
    clear hi e1 hQ hqlt
    go_enter Tryd.func9, Tryd.ntmps9
    go_wp2_with fail
    refine (hR.out _ hbA).mono ?_
    rintro e w1 ⟨rfl, hb1⟩
    have hB : Hid (Below w.heap.size w w1) := Below.on hbA hb1
    obtain ⟨xl, x0, x1⟩ := hX.below hb1
    obtain ⟨f0, f1⟩ : w1.frozen? ⟨w.heap.size + 1, 0, none⟩ = false ∧ w1.frozen? ⟨w.heap.size + 1, 1, none⟩ = false := ⟨(hb1.frozen (p := ⟨w.heap.size + 1, 0, none⟩) hX.lt).trans hF.1, (hb1.frozen (p := ⟨w.heap.size + 1, 1, none⟩) hX.lt).trans hF.2⟩
    clear hb1 hX hR hbA hF hRx
    go_wp2
    refine bodyPost_ret (v := .agg #[.slice none 0 0, .int .i64 1]) (by simp [results, Tryd.results9, go_sem, x0, x1]) rfl (ansC_ill hp.out ?_)
    exact bl_setA (bl_setA hB.out (by omega)) (by omega)
  rw [ha] at hR
  cases hx : aceB x
  · have hp : Hid (addP l n x = ([], 1)) := addP_form (by omega) (by rw [ha, hx]; rfl)
    rw [hx] at hRx
    clear hi e1
    go_enter Tryd.func9, Tryd.ntmps9
    go_wp2_with fail
    refine (hR.out _ hbA).mono ?_
    rintro e w0 ⟨rfl, hb0⟩
    have hB0 : Hid (Below w.heap.size w w0) := Below.on hbA hb0
    have hX0 := hX.below hb0
    obtain ⟨q0, q1, q2, q3, q4⟩ := hQ.below hqlt hb0
    simp only [Nat.zero_add] at q1 q2 q3 q4
    have hF0 : w0.frozen? ⟨w.heap.size + 1, 0, none⟩ = false ∧ w0.frozen? ⟨w.heap.size + 1, 1, none⟩ = false := ⟨(hb0.frozen (p := ⟨w.heap.size + 1, 0, none⟩) hX.lt).trans hF.1, (hb0.frozen (p := ⟨w.heap.size + 1, 1, none⟩) hX.lt).trans hF.2⟩
    clear hb0 hX hF hbA hR hQ hqlt
    go_wp2_with fail
    refine (hRx.out _).mono ?_
    rintro e w1 ⟨rfl, hb1⟩
    have hB : Hid (Below w.heap.size w w1) := Below.on hB0.out hb1
    obtain ⟨xl, x0, x1⟩ := hX0.below hb1
    obtain ⟨f0, f1⟩ : w1.frozen? ⟨w.heap.size + 1, 0, none⟩ = false ∧ w1.frozen? ⟨w.heap.size + 1, 1, none⟩ = false := ⟨(hb1.frozen (p := ⟨w.heap.size + 1, 0, none⟩) hX0.lt).trans hF0.1, (hb1.frozen (p := ⟨w.heap.size + 1, 1, none⟩) hX0.lt).trans hF0.2⟩
    clear hb1 hX0 hF0 hB0 q0 q1 q2 q3 q4 hRx
    go_wp2
    refine bodyPost_ret (v := .agg #[.slice none 0 0, .int .i64 1]) (by simp [results, Tryd.results9, go_sem, x0, x1]) rfl (ansC_ill hp.out ?_)
    exact bl_setA (bl_setA hB.out (by omega)) (by omega)
  rw [hx] at hRx
  have start : Hid (∀ w', Below ((w.alloc (.cells #[.bool x.al, .int .i64 x.wh, .int .i64 x.id, .int .i64 x.fl, .int .i64 x.ma] 33)).alloc (.cells #[.slice none 0 0, .int .i64 0] 37)).heap.size ((w.alloc (.cells #[.bool x.al, .int .i64 x.wh, .int .i64 x.id, .int .i64 x.fl, .int .i64 x.ma] 33)).alloc (.cells #[.slice none 0 0, .int .i64 0] 37)) w' → Below w.heap.size w w' ∧ Box2 w' (w.heap.size + 1) (.slice none 0 0) (.int .i64 0) ∧ (w'.frozen? ⟨w.heap.size + 1, 0, none⟩ = false ∧ w'.frozen? ⟨w.heap.size + 1, 1, none⟩ = false) ∧ Five w' w.heap.size 0 x) := (fun w' hb => ⟨Below.on hbA hb, hX.below hb, ⟨(hb.frozen (p := ⟨w.heap.size + 1, 0, none⟩) hX.lt).trans hF.1, (hb.frozen (p := ⟨w.heap.size + 1, 1, none⟩) hX.lt).trans hF.2⟩, hQ.below hqlt hb⟩)
  by_cases hn : n < 0 ∨ (l.length : Int) < n
  · have hp : Hid (addP l n x = ([], 8)) := addP_range ha hx hn
    rw [e1] at hn
    clear hi e1
    go_enter Tryd.func9, Tryd.ntmps9
    go_wp2_with fail
    refine (hR.out _ hbA).mono ?_
    rintro e w0 ⟨rfl, hb0⟩
    obtain ⟨q0, q1, q2, q3, q4⟩ := (start.out w0 hb0).2.2.2
    simp only [Nat.zero_add] at q1 q2 q3 q4
    have HB0 : Hid (Below ((w.alloc (.cells #[.bool x.al, .int .i64 x.wh, .int .i64 x.id, .int .i64 x.fl, .int .i64 x.ma] 33)).alloc (.cells #[.slice none 0 0, .int .i64 0] 37)).heap.size ((w.alloc (.cells #[.bool x.al, .int .i64 x.wh, .int .i64 x.id, .int .i64 x.fl, .int .i64 x.ma] 33)).alloc (.cells #[.slice none 0 0, .int .i64 0] 37)) w0) := hb0
    clear hb0 hX hF hbA hR hQ hqlt
    go_wp2_with fail
    refine (hRx.out _).mono ?_
    rintro e w1 ⟨rfl, hb1⟩
    obtain ⟨hB', ⟨xl, x0, x1⟩, ⟨f0, f1⟩, _⟩ := start.out w1 (Below.on HB0.out hb1)
    have hB : Hid (Below w.heap.size w w1) := hB'
    clear hb1 hB' HB0 start q0 q1 q2 q3 q4 hRx
    by_cases h0 : n < 0
    · clear hn
      go_wp2
      refine bodyPost_ret (v := .agg #[.slice none 0 0, .int .i64 8]) (by simp [results, Tryd.results9, go_sem, x0, x1]) rfl (ansC_ill hp.out ?_)
      exact bl_setA (bl_setA hB.out (by omega)) (by omega)
    · have h9 : (len : Int) < n := by omega
      clear hn
      go_wp2
      refine bodyPost_ret (v := .agg #[.slice none 0 0, .int .i64 8]) (by simp [results, Tryd.results9, go_sem, x0, x1]) rfl (ansC_ill hp.out ?_)
      exact bl_setA (bl_setA hB.out (by omega)) (by omega)
  obtain ⟨k, rfl⟩ := Int.eq_ofNat_of_zero_le (by omega : 0 ≤ n)
  have hk : k ≤ len := by omega
  have hk' : (k : Int) ≤ (len : Int) := by omega
  by_cases h32 : len = 32
  · have hp : Hid (addP l (k : Int) x = ([], 9)) := addP_full ha hx hn (by omega)
    have hk3 : (k : Int) ≤ 32 := by omega
    clear hi e1 hn
    subst h32
    go_enter Tryd.func9, Tryd.ntmps9
    go_wp2_with fail
    refine (hR.out _ hbA).mono ?_
    rintro e w0 ⟨rfl, hb0⟩
    obtain ⟨q0, q1, q2, q3, q4⟩ := (start.out w0 hb0).2.2.2
    simp only [Nat.zero_add] at q1 q2 q3 q4
    have HB0 : Hid (Below ((w.alloc (.cells #[.bool x.al, .int .i64 x.wh, .int .i64 x.id, .int .i64 x.fl, .int .i64 x.ma] 33)).alloc (.cells #[.slice none 0 0, .int .i64 0] 37)).heap.size ((w.alloc (.cells #[.bool x.al, .int .i64 x.wh, .int .i64 x.id, .int .i64 x.fl, .int .i64 x.ma] 33)).alloc (.cells #[.slice none 0 0, .int .i64 0] 37)) w0) := hb0
    clear hb0 hX hF hbA hR hQ hqlt
    go_wp2_with fail
    refine (hRx.out _).mono ?_
    rintro e w1 ⟨rfl, hb1⟩
    obtain ⟨hB', ⟨xl, x0, x1⟩, ⟨f0, f1⟩, _⟩ := start.out w1 (Below.on HB0.out hb1)
    have hB : Hid (Below w.heap.size w w1) := hB'
    clear hb1 hB' HB0 start q0 q1 q2 q3 q4 hRx
    go_wp2
    refine bodyPost_ret (v := .agg #[.slice none 0 0, .int .i64 9]) (by simp [results, Tryd.results9, go_sem, x0, x1]) rfl (ansC_ill hp.out ?_)
    exact bl_setA (bl_setA hB.out (by omega)) (by omega)
  have h32' : ((len : Int) == 32) = false := by simp; omega
  have hp : Hid (addP l (k : Int) x = (l.take k ++ [x] ++ l.drop (k + 0), 0)) := addP_yes ha hx (by omega) (by omega)
  have hS : Hid (∀ w' X, X = w'.heap.size → Below w.heap.size w w' → Calls Tryd.prog 50 #[.slice (some ⟨b, off, none⟩) len cap, .int .i64 k, .int .i64 0, .slice (some ⟨X, 0, none⟩) 1 1] (w'.alloc (.cells #[.bool x.al, .int .i64 x.wh, .int .i64 x.id, .int .i64 x.fl, .int .i64 x.ma] 33)) fun e w'' => ∃ a c, e = .returned (.slice a (len + 1) c) ∧ OwnA a (len + 1) (l.take k ++ [x] ++ l.drop (k + 0)) w'' ∧ (∀ Ad, a = some Ad → w'.heap.size ≤ Ad.block ∧ Ad.block < w''.heap.size) ∧ Below w'.heap.size w' w'' ∧ len + 1 ≤ c) := (fun w' X hX hb => by
    subst hX
    have hba := bel_alloc w' (.cells #[.bool x.al, .int .i64 x.wh, .int .i64 x.id, .int .i64 x.fl, .int .i64 x.ma] 33)
    refine (splicedAt b off len cap l k hk hcap (by omega) _ 1 x _ ((hi.below hb).below hba) (acs_one w' x _)).mono ?_
    rintro e w'' ⟨a, c, h1, h2, h3, h4, h6⟩
    exact ⟨a, c, h1, h2, fun A e => by have := h3 A e; have h5 := hba.size; omega, Below.on hba h4, h6⟩)
  have HLN : Hid ((l.take k ++ [x] ++ l.drop (k + 0)).length = len + 1) := (by show _ = _; simp; omega)
  generalize hres : l.take k ++ [x] ++ l.drop (k + 0) = res at hp hS HLN
  clear hi e1 hn hres
  go_enter Tryd.func9, Tryd.ntmps9
  go_wp2_with fail
  refine (hR.out _ hbA).mono ?_
  rintro e w0 ⟨rfl, hb0⟩
  obtain ⟨q0, q1, q2, q3, q4⟩ := (start.out w0 hb0).2.2.2
  simp only [Nat.zero_add] at q1 q2 q3 q4
  have HB0 : Hid (Below ((w.alloc (.cells #[.bool x.al, .int .i64 x.wh, .int .i64 x.id, .int .i64 x.fl, .int .i64 x.ma] 33)).alloc (.cells #[.slice none 0 0, .int .i64 0] 37)).heap.size ((w.alloc (.cells #[.bool x.al, .int .i64 x.wh, .int .i64 x.id, .int .i64 x.fl, .int .i64 x.ma] 33)).alloc (.cells #[.slice none 0 0, .int .i64 0] 37)) w0) := hb0
  clear hb0 hX hF hbA hR hQ hqlt
  go_wp2_with fail
  refine (hRx.out _).mono ?_
  rintro e w1 ⟨rfl, hb1⟩
  have HB1 : Hid (Below ((w.alloc (.cells #[.bool x.al, .int .i64 x.wh, .int .i64 x.id, .int .i64 x.fl, .int .i64 x.ma] 33)).alloc (.cells #[.slice none 0 0, .int .i64 0] 37)).heap.size ((w.alloc (.cells #[.bool x.al, .int .i64 x.wh, .int .i64 x.id, .int .i64 x.fl, .int .i64 x.ma] 33)).alloc (.cells #[.slice none 0 0, .int .i64 0] 37)) w1) := Below.on HB0.out hb1
  clear q0 q1 q2 q3 q4 hb1 HB0 hRx
  obtain ⟨hB', hX1, _, q0, q1, q2, q3, q4⟩ := start.out w1 HB1.out
  simp only [Nat.zero_add] at q1 q2 q3 q4
  have hB : Hid (Below w.heap.size w w1) := hB'
  clear hB'
  go_wp2_with fail
  refine (hS.out w1 _ rfl hB.out).mono ?_
  rintro e w2 ⟨a2, c2, rfl, hO2, hin2, hb2, hcp2⟩
  obtain ⟨_, ⟨xl, x0, x1⟩, ⟨f0, f1⟩, _⟩ := start.out w2 (Below.on HB1.out hb2)
  have HN : Hid (NewA w w2 a2 (len + 1) res) := ⟨hO2, fun A e => ⟨Nat.le_trans hB.out.size (hin2 A e).1, (hin2 A e).2⟩, Below.on hB.out hb2⟩
  have HNE : Hid (∀ A, a2 = some A → w.heap.size + 1 ≠ A.block) := (fun A e => by have h1 := (hin2 A e).1; have h2 := hX1.lt; omega)
  have HCP : Hid (len + 1 ≤ c2) := hcp2
  clear hcp2 hS hO2 hin2 hb2 hX1 HB1 start q0 q1 q2 q3 q4
  generalize len + 1 = sz at HN HLN HCP ⊢
  go_wp2
  refine bodyPost_ret (v := .agg #[.slice a2 sz c2, .int .i64 0]) (by simp [results, Tryd.results9, go_sem, x0, x1]) rfl (ansC_of hp.out HLN.out HCP.out ?_)
  exact (HN.out.set (by omega) HNE.out).set (by omega) HNE.out
/-- impl.AceAdd. -/
theorem iAceAdd_any (b off len cap : Nat) (l : List Ac) (n : Int) (x : Ac) (hcap : len ≤ cap) (hlen : len ≤ 1048576) (w : World) (hi : Acs (some ⟨b, off, none⟩) len l w) :
    Calls Tryd.prog 9 #[.slice (some ⟨b, off, none⟩) len cap, .int .i64 n, .agg #[.bool x.al, .int .i64 x.wh, .int .i64 x.id, .int .i64 x.fl, .int .i64 x.ma]] w (AnsP (addP l n x) w) := by
  refine (iAceAdd_cap b off len cap l n x hcap hlen w hi).mono ?_
  rintro e w' ⟨a, c, h1, h2, _⟩
  exact ⟨a, c, h1, h2⟩
end Go.Proofs.YtdidbaadladkpaaDoor
/- spec.AceAdd. -/
namespace Go.Proofs.YtdidbaadladkpaaDoor
open Go.RowKit Go.PlainAid Go.Deep
set_option linter.unusedVariables false
set_option maxRecDepth 100000 in
set_option maxHeartbeats 8000000 in
/-- spec.AceAdd, where nothing is put in. -/
theorem sAceAdd_no (b off len cap : Nat) (l : List Ac) (n : Int) (x : Ac) (hcap : len ≤ cap) (hlen : len ≤ 1048576) (w : World) (hi : Acs (some ⟨b, off, none⟩) len l w) (hz : ¬ (acesB l = true ∧ aceB x = true ∧ (0 ≤ n ∧ n ≤ (len : Int)) ∧ ¬ len = 32)) :
    Calls Tryd.prog 18 #[.slice (some ⟨b, off, none⟩) len cap, .int .i64 n, .agg #[.bool x.al, .int .i64 x.wh, .int .i64 x.id, .int .i64 x.fl, .int .i64 x.ma]] w (AnsP (addP l n x) w) := by
  have e1 := hi.1
  have hbA : Below w.heap.size w ((w.alloc (.cells #[.bool x.al, .int .i64 x.wh, .int .i64 x.id, .int .i64 x.fl, .int .i64 x.ma] 33)).alloc (.cells #[.slice none 0 0, .int .i64 0] 37)) := bl2A _ _ _
  have hX : Box2 ((w.alloc (.cells #[.bool x.al, .int .i64 x.wh, .int .i64 x.id, .int .i64 x.fl, .int .i64 x.ma] 33)).alloc (.cells #[.slice none 0 0, .int .i64 0] 37)) (w.heap.size + 1) (.slice none 0 0) (.int .i64 0) := (by have := box2_new (w.alloc (.cells #[.bool x.al, .int .i64 x.wh, .int .i64 x.id, .int .i64 x.fl, .int .i64 x.ma] 33)) (.slice none 0 0) (.int .i64 0) 37; simpa using this)
  have hQ : Five ((w.alloc (.cells #[.bool x.al, .int .i64 x.wh, .int .i64 x.id, .int .i64 x.fl, .int .i64 x.ma] 33)).alloc (.cells #[.slice none 0 0, .int .i64 0] 37)) w.heap.size 0 x := (five_new w x 33).below (by simp) (bel_alloc _ _)
  have hF : ((w.alloc (.cells #[.bool x.al, .int .i64 x.wh, .int .i64 x.id, .int .i64 x.fl, .int .i64 x.ma] 33)).alloc (.cells #[.slice none 0 0, .int .i64 0] 37)).frozen? ⟨w.heap.size + 1, 0, none⟩ = false ∧ ((w.alloc (.cells #[.bool x.al, .int .i64 x.wh, .int .i64 x.id, .int .i64 x.fl, .int .i64 x.ma] 33)).alloc (.cells #[.slice none 0 0, .int .i64 0] 37)).frozen? ⟨w.heap.size + 1, 1, none⟩ = false := by constructor <;> simp [go_sem]
  have hqlt : w.heap.size < ((w.alloc (.cells #[.bool x.al, .int .i64 x.wh, .int .i64 x.id, .int .i64 x.fl, .int .i64 x.ma] 33)).alloc (.cells #[.slice none 0 0, .int .i64 0] 37)).heap.size := by simp; omega
  have start : Hid (∀ w', Below ((w.alloc (.cells #[.bool x.al, .int .i64 x.wh, .int .i64 x.id, .int .i64 x.fl, .int .i64 x.ma] 33)).alloc (.cells #[.slice none 0 0, .int .i64 0] 37)).heap.size ((w.alloc (.cells #[.bool x.al, .int .i64 x.wh, .int .i64 x.id, .int .i64 x.fl, .int .i64 x.ma] 33)).alloc (.cells #[.slice none 0 0, .int .i64 0] 37)) w' → Below w.heap.size w w' ∧ Box2 w' (w.heap.size + 1) (.slice none 0 0) (.int .i64 0) ∧ (w'.frozen? ⟨w.heap.size + 1, 0, none⟩ = false ∧ w'.frozen? ⟨w.heap.size + 1, 1, none⟩ = false) ∧ Five w' w.heap.size 0 x) := (fun w' hb => ⟨Below.on hbA hb, hX.below hb, ⟨(hb.frozen (p := ⟨w.heap.size + 1, 0, none⟩) hX.lt).trans hF.1, (hb.frozen (p := ⟨w.heap.size + 1, 1, none⟩) hX.lt).trans hF.2⟩, hQ.below hqlt hb⟩)
  clear hX hQ hF hqlt
  by_cases h4 : 400 < len
  · have hp : Hid (addP l n x = ([], 2)) := addP_long (by omega)
    have h4' : (400 : Int) < (len : Int) := by omega
    clear hi e1 hz
    go_enter Tryd.func18, Tryd.ntmps18
    go_wp2_with fail
    refine (sIll4_any _ _).mono ?_
    rintro e w1 ⟨rfl, hb1⟩
    obtain ⟨hB', ⟨xl, x0, x1⟩, ⟨f0, f1⟩, _⟩ := start.out w1 (hb1)
    have hB : Hid (Below w.heap.size w w1) := hB'
    clear hb1 hB' start
    go_wp2
    refine bodyPost_ret (v := .agg #[.slice none 0 0, .int .i64 2]) (by simp [results, Tryd.results18, go_sem, x0, x1]) rfl (ansP_ill hp.out ?_)
    exact bl_setA (bl_setA hB.out (by omega)) (by omega)
  have h4' : ¬ (400 : Int) < (len : Int) := by omega
  have hR : Hid (∀ w', Below w.heap.size w w' → Calls Tryd.prog 24 #[.slice (some ⟨b, off, none⟩) len cap] w' fun e w'' => e = .returned (.bool (acesB l)) ∧ Below w'.heap.size w' w'') := (fun w' hb => sNfsRight_any _ len cap l hlen w' (hi.below hb))
  have hRx : Hid (∀ w', Calls Tryd.prog 22 #[.agg #[.bool x.al, .int .i64 x.wh, .int .i64 x.id, .int .i64 x.fl, .int .i64 x.ma]] w' fun e w'' => e = .returned (.bool (aceB x)) ∧ Below w'.heap.size w' w'') := sAceRight_any x
  cases ha : acesB l
  · have hp : Hid (addP l n x = ([], 1)) := addP_form (by omega) (by rw [ha]; rfl)
    rw [ha] at hR
    clear hi e1 hRx hz
    go_enter Tryd.func18, Tryd.ntmps18
    go_wp2_with fail
    refine (hR.out _ hbA).mono ?_
    rintro e w0 ⟨rfl, hb0⟩
    have HB0 : Hid (Below ((w.alloc (.cells #[.bool x.al, .int .i64 x.wh, .int .i64 x.id, .int .i64 x.fl, .int .i64 x.ma] 33)).alloc (.cells #[.slice none 0 0, .int .i64 0] 37)).heap.size ((w.alloc (.cells #[.bool x.al, .int .i64 x.wh, .int .i64 x.id, .int .i64 x.fl, .int .i64 x.ma] 33)).alloc (.cells #[.slice none 0 0, .int .i64 0] 37)) w0) := hb0
    clear hb0 hR
    clear hbA
    go_wp2_with fail
    refine (sIll4_any _ _).mono ?_
    rintro e w1 ⟨rfl, hb1⟩
    obtain ⟨hB', ⟨xl, x0, x1⟩, ⟨f0, f1⟩, _⟩ := start.out w1 (Below.on HB0.out hb1)
    have hB : Hid (Below w.heap.size w w1) := hB'
    clear hb1 hB' start
    go_wp2
    refine bodyPost_ret (v := .agg #[.slice none 0 0, .int .i64 1]) (by simp [results, Tryd.results18, go_sem, x0, x1]) rfl (ansP_ill hp.out ?_)
    exact bl_setA (bl_setA hB.out (by omega)) (by omega)
  rw [ha] at hR
  cases hx : aceB x
  · have hp : Hid (addP l n x = ([], 1)) := addP_form (by omega) (by rw [ha, hx]; rfl)
    rw [hx] at hRx
    clear hi e1 hz
    go_enter Tryd.func18, Tryd.ntmps18
    go_wp2_with fail
    refine (hR.out _ hbA).mono ?_
    rintro e w0 ⟨rfl, hb0⟩
    have HB0 : Hid (Below ((w.alloc (.cells #[.bool x.al, .int .i64 x.wh, .int .i64 x.id, .int .i64 x.fl, .int .i64 x.ma] 33)).alloc (.cells #[.slice none 0 0, .int .i64 0] 37)).heap.size ((w.alloc (.cells #[.bool x.al, .int .i64 x.wh, .int .i64 x.id, .int .i64 x.fl, .int .i64 x.ma] 33)).alloc (.cells #[.slice none 0 0, .int .i64 0] 37)) w0) := hb0
    clear hb0 hR
    obtain ⟨_, _, _, q0, q1, q2, q3, q4⟩ := start.out w0 HB0.out
    simp only [Nat.zero_add] at q1 q2 q3 q4
    go_wp2_with fail
    refine (hRx.out _).mono ?_
    rintro e w1 ⟨rfl, hb1⟩
    have HB1 : Hid (Below ((w.alloc (.cells #[.bool x.al, .int .i64 x.wh, .int .i64 x.id, .int .i64 x.fl, .int .i64 x.ma] 33)).alloc (.cells #[.slice none 0 0, .int .i64 0] 37)).heap.size ((w.alloc (.cells #[.bool x.al, .int .i64 x.wh, .int .i64 x.id, .int .i64 x.fl, .int .i64 x.ma] 33)).alloc (.cells #[.slice none 0 0, .int .i64 0] 37)) w1) := Below.on HB0.out hb1
    clear hb1 HB0 q0 q1 q2 q3 q4 hRx
    clear hbA
    go_wp2_with fail
    refine (sIll4_any _ _).mono ?_
    rintro e w2 ⟨rfl, hb2⟩
    obtain ⟨hB', ⟨xl, x0, x1⟩, ⟨f0, f1⟩, _⟩ := start.out w2 (Below.on HB1.out hb2)
    have hB : Hid (Below w.heap.size w w2) := hB'
    clear hb2 hB' start HB1
    go_wp2
    refine bodyPost_ret (v := .agg #[.slice none 0 0, .int .i64 1]) (by simp [results, Tryd.results18, go_sem, x0, x1]) rfl (ansP_ill hp.out ?_)
    exact bl_setA (bl_setA hB.out (by omega)) (by omega)
  rw [hx] at hRx
  by_cases hn : n < 0 ∨ (l.length : Int) < n
  · have hp : Hid (addP l n x = ([], 8)) := addP_range ha hx hn
    rw [e1] at hn
    have hno : inR 0 (len : Int) n = false := inR_no (by omega)
    have hIs : Hid (∀ (m : Int) w, m = (len : Int) → Calls Tryd.prog 54 #[.int .i64 n, .int .i64 0, .int .i64 m] w fun e w' => e = .returned (.bool false) ∧ w' = w) := (fun m w hm => by have := sIs_any n 0 m w; rw [hm, hno] at this; rw [hm]; exact this)
    clear hi e1 hno hn hz
    go_enter Tryd.func18, Tryd.ntmps18
    go_wp2_with fail
    refine (hR.out _ hbA).mono ?_
    rintro e w0 ⟨rfl, hb0⟩
    have HB0 : Hid (Below ((w.alloc (.cells #[.bool x.al, .int .i64 x.wh, .int .i64 x.id, .int .i64 x.fl, .int .i64 x.ma] 33)).alloc (.cells #[.slice none 0 0, .int .i64 0] 37)).heap.size ((w.alloc (.cells #[.bool x.al, .int .i64 x.wh, .int .i64 x.id, .int .i64 x.fl, .int .i64 x.ma] 33)).alloc (.cells #[.slice none 0 0, .int .i64 0] 37)) w0) := hb0
    clear hb0 hR
    obtain ⟨_, _, _, q0, q1, q2, q3, q4⟩ := start.out w0 HB0.out
    simp only [Nat.zero_add] at q1 q2 q3 q4
    go_wp2_with fail
    refine (hRx.out _).mono ?_
    rintro e w1 ⟨rfl, hb1⟩
    have HB1 : Hid (Below ((w.alloc (.cells #[.bool x.al, .int .i64 x.wh, .int .i64 x.id, .int .i64 x.fl, .int .i64 x.ma] 33)).alloc (.cells #[.slice none 0 0, .int .i64 0] 37)).heap.size ((w.alloc (.cells #[.bool x.al, .int .i64 x.wh, .int .i64 x.id, .int .i64 x.fl, .int .i64 x.ma] 33)).alloc (.cells #[.slice none 0 0, .int .i64 0] 37)) w1) := Below.on HB0.out hb1
    clear hb1 HB0 q0 q1 q2 q3 q4 hRx
    clear hbA
    go_wp2_with fail
    refine (hIs.out _ _ (by omega)).mono ?_
    rintro e w1 ⟨rfl, rfl⟩
    go_wp2_with fail
    refine (sIll4_any _ _).mono ?_
    rintro e w2 ⟨rfl, hb2⟩
    obtain ⟨hB', ⟨xl, x0, x1⟩, ⟨f0, f1⟩, _⟩ := start.out w2 (Below.on HB1.out hb2)
    have hB : Hid (Below w.heap.size w w2) := hB'
    clear hb2 hB' start HB1
    go_wp2
    refine bodyPost_ret (v := .agg #[.slice none 0 0, .int .i64 8]) (by simp [results, Tryd.results18, go_sem, x0, x1]) rfl (ansP_ill hp.out ?_)
    exact bl_setA (bl_setA hB.out (by omega)) (by omega)
  have h32 : len = 32 := Decidable.byContradiction fun h => hz ⟨ha, hx, by omega, h⟩
  have hp : Hid (addP l n x = ([], 9)) := addP_full ha hx hn (by omega)
  have hye : inR 0 (len : Int) n = true := inR_yes (by omega) (by omega)
  have hIs : Hid (∀ (m : Int) w, m = (len : Int) → Calls Tryd.prog 54 #[.int .i64 n, .int .i64 0, .int .i64 m] w fun e w' => e = .returned (.bool true) ∧ w' = w) := (fun m w hm => by have := sIs_any n 0 m w; rw [hm, hye] at this; rw [hm]; exact this)
  have h32' : (32 : Int) ≤ (len : Int) := by omega
  clear hi e1 hye hn hz h32
  go_enter Tryd.func18, Tryd.ntmps18
  go_wp2_with fail
  refine (hR.out _ hbA).mono ?_
  rintro e w0 ⟨rfl, hb0⟩
  have HB0 : Hid (Below ((w.alloc (.cells #[.bool x.al, .int .i64 x.wh, .int .i64 x.id, .int .i64 x.fl, .int .i64 x.ma] 33)).alloc (.cells #[.slice none 0 0, .int .i64 0] 37)).heap.size ((w.alloc (.cells #[.bool x.al, .int .i64 x.wh, .int .i64 x.id, .int .i64 x.fl, .int .i64 x.ma] 33)).alloc (.cells #[.slice none 0 0, .int .i64 0] 37)) w0) := hb0
  clear hb0 hR
  obtain ⟨_, _, _, q0, q1, q2, q3, q4⟩ := start.out w0 HB0.out
  simp only [Nat.zero_add] at q1 q2 q3 q4
  go_wp2_with fail
  refine (hRx.out _).mono ?_
  rintro e w1 ⟨rfl, hb1⟩
  have HB1 : Hid (Below ((w.alloc (.cells #[.bool x.al, .int .i64 x.wh, .int .i64 x.id, .int .i64 x.fl, .int .i64 x.ma] 33)).alloc (.cells #[.slice none 0 0, .int .i64 0] 37)).heap.size ((w.alloc (.cells #[.bool x.al, .int .i64 x.wh, .int .i64 x.id, .int .i64 x.fl, .int .i64 x.ma] 33)).alloc (.cells #[.slice none 0 0, .int .i64 0] 37)) w1) := Below.on HB0.out hb1
  clear hb1 HB0 q0 q1 q2 q3 q4 hRx
  clear hbA
  go_wp2_with fail
  refine (hIs.out _ _ (by omega)).mono ?_
  rintro e w1 ⟨rfl, rfl⟩
  go_wp2_with fail
  refine (sIll4_any _ _).mono ?_
  rintro e w2 ⟨rfl, hb2⟩
  obtain ⟨hB', ⟨xl, x0, x1⟩, ⟨f0, f1⟩, _⟩ := start.out w2 (Below.on HB1.out hb2)
  have hB : Hid (Below w.heap.size w w2) := hB'
  clear hb2 hB' start HB1
  go_wp2
  refine bodyPost_ret (v := .agg #[.slice none 0 0, .int .i64 9]) (by simp [results, Tryd.results18, go_sem, x0, x1]) rfl (ansP_ill hp.out ?_)
  exact bl_setA (bl_setA hB.out (by omega)) (by omega)
set_option maxRecDepth 100000 in
set_option maxHeartbeats 8000000 in
/-- spec.AceAdd, where it is put in. -/
theorem sAceAdd_yes (b off len cap : Nat) (l : List Ac) (k : Nat) (x : Ac) (hcap : len ≤ cap) (hlen : len ≤ 1048576) (w : World) (hi : Acs (some ⟨b, off, none⟩) len l w) (ha : acesB l = true) (hx : aceB x = true) (hk : k ≤ len) (h32 : ¬ len = 32) :
    Calls Tryd.prog 18 #[.slice (some ⟨b, off, none⟩) len cap, .int .i64 k, .agg #[.bool x.al, .int .i64 x.wh, .int .i64 x.id, .int .i64 x.fl, .int .i64 x.ma]] w (AnsP (addP l k x) w) := by
  have e1 := hi.1
  have hbA : Below w.heap.size w ((w.alloc (.cells #[.bool x.al, .int .i64 x.wh, .int .i64 x.id, .int .i64 x.fl, .int .i64 x.ma] 33)).alloc (.cells #[.slice none 0 0, .int .i64 0] 37)) := bl2A _ _ _
  have hX : Box2 ((w.alloc (.cells #[.bool x.al, .int .i64 x.wh, .int .i64 x.id, .int .i64 x.fl, .int .i64 x.ma] 33)).alloc (.cells #[.slice none 0 0, .int .i64 0] 37)) (w.heap.size + 1) (.slice none 0 0) (.int .i64 0) := (by have := box2_new (w.alloc (.cells #[.bool x.al, .int .i64 x.wh, .int .i64 x.id, .int .i64 x.fl, .int .i64 x.ma] 33)) (.slice none 0 0) (.int .i64 0) 37; simpa using this)
  have hQ : Five ((w.alloc (.cells #[.bool x.al, .int .i64 x.wh, .int .i64 x.id, .int .i64 x.fl, .int .i64 x.ma] 33)).alloc (.cells #[.slice none 0 0, .int .i64 0] 37)) w.heap.size 0 x := (five_new w x 33).below (by simp) (bel_alloc _ _)
  have hF : ((w.alloc (.cells #[.bool x.al, .int .i64 x.wh, .int .i64 x.id, .int .i64 x.fl, .int .i64 x.ma] 33)).alloc (.cells #[.slice none 0 0, .int .i64 0] 37)).frozen? ⟨w.heap.size + 1, 0, none⟩ = false ∧ ((w.alloc (.cells #[.bool x.al, .int .i64 x.wh, .int .i64 x.id, .int .i64 x.fl, .int .i64 x.ma] 33)).alloc (.cells #[.slice none 0 0, .int .i64 0] 37)).frozen? ⟨w.heap.size + 1, 1, none⟩ = false := by constructor <;> simp [go_sem]
  have hqlt : w.heap.size < ((w.alloc (.cells #[.bool x.al, .int .i64 x.wh, .int .i64 x.id, .int .i64 x.fl, .int .i64 x.ma] 33)).alloc (.cells #[.slice none 0 0, .int .i64 0] 37)).heap.size := by simp; omega
  have start : Hid (∀ w', Below ((w.alloc (.cells #[.bool x.al, .int .i64 x.wh, .int .i64 x.id, .int .i64 x.fl, .int .i64 x.ma] 33)).alloc (.cells #[.slice none 0 0, .int .i64 0] 37)).heap.size ((w.alloc (.cells #[.bool x.al, .int .i64 x.wh, .int .i64 x.id, .int .i64 x.fl, .int .i64 x.ma] 33)).alloc (.cells #[.slice none 0 0, .int .i64 0] 37)) w' → Below w.heap.size w w' ∧ Box2 w' (w.heap.size + 1) (.slice none 0 0) (.int .i64 0) ∧ (w'.frozen? ⟨w.heap.size + 1, 0, none⟩ = false ∧ w'.frozen? ⟨w.heap.size + 1, 1, none⟩ = false) ∧ Five w' w.heap.size 0 x) := (fun w' hb => ⟨Below.on hbA hb, hX.below hb, ⟨(hb.frozen (p := ⟨w.heap.size + 1, 0, none⟩) hX.lt).trans hF.1, (hb.frozen (p := ⟨w.heap.size + 1, 1, none⟩) hX.lt).trans hF.2⟩, hQ.below hqlt hb⟩)
  clear hX hQ hF hqlt
  have hl := aces_len ha
  have h4' : ¬ (400 : Int) < (len : Int) := by omega
  have h32' : ¬ (32 : Int) ≤ (len : Int) := by omega
  have hR : Hid (∀ w', Below w.heap.size w w' → Calls Tryd.prog 24 #[.slice (some ⟨b, off, none⟩) len cap] w' fun e w'' => e = .returned (.bool true) ∧ Below w'.heap.size w' w'') := (fun w' hb => by have := sNfsRight_any _ len cap l hlen w' (hi.below hb); rwa [ha] at this)
  have hRx : Hid (∀ w', Calls Tryd.prog 22 #[.agg #[.bool x.al, .int .i64 x.wh, .int .i64 x.id, .int .i64 x.fl, .int .i64 x.ma]] w' fun e w'' => e = .returned (.bool true) ∧ Below w'.heap.size w' w'') := (fun w' => by have := sAceRight_any x w'; rwa [hx] at this)
  have hye : inR 0 (len : Int) (k : Int) = true := inR_yes (by omega) (by omega)
  have hIs : Hid (∀ (m : Int) w, m = (len : Int) → Calls Tryd.prog 54 #[.int .i64 k, .int .i64 0, .int .i64 m] w fun e w' => e = .returned (.bool true) ∧ w' = w) := (fun m w hm => by have := sIs_any k 0 m w; rw [hm, hye] at this; rw [hm]; exact this)
  have hp : Hid (addP l (k : Int) x = (l.take k ++ [x] ++ l.drop k, 0)) := addP_yes ha hx (by omega) (by omega)
  have HA : Hid (Acs (some ⟨b, off, none⟩) len l w) := hi
  have k1 : (k : Int) ≤ (len : Int) := by omega
  have k2 : (k : Int) ≤ (cap : Int) := by omega
  have k3 : (len : Int) ≤ (cap : Int) := by omega
  clear hi ha hx hye
  go_enter Tryd.func18, Tryd.ntmps18
  go_wp2_with fail
  refine (hR.out _ hbA).mono ?_
  rintro e w0 ⟨rfl, hb0⟩
  have HB0 : Hid (Below ((w.alloc (.cells #[.bool x.al, .int .i64 x.wh, .int .i64 x.id, .int .i64 x.fl, .int .i64 x.ma] 33)).alloc (.cells #[.slice none 0 0, .int .i64 0] 37)).heap.size ((w.alloc (.cells #[.bool x.al, .int .i64 x.wh, .int .i64 x.id, .int .i64 x.fl, .int .i64 x.ma] 33)).alloc (.cells #[.slice none 0 0, .int .i64 0] 37)) w0) := hb0
  clear hb0 hR
  obtain ⟨_, _, _, q0, q1, q2, q3, q4⟩ := start.out w0 HB0.out
  simp only [Nat.zero_add] at q1 q2 q3 q4
  go_wp2_with fail
  refine (hRx.out _).mono ?_
  rintro e w1 ⟨rfl, hb1⟩
  have HB1 : Hid (Below ((w.alloc (.cells #[.bool x.al, .int .i64 x.wh, .int .i64 x.id, .int .i64 x.fl, .int .i64 x.ma] 33)).alloc (.cells #[.slice none 0 0, .int .i64 0] 37)).heap.size ((w.alloc (.cells #[.bool x.al, .int .i64 x.wh, .int .i64 x.id, .int .i64 x.fl, .int .i64 x.ma] 33)).alloc (.cells #[.slice none 0 0, .int .i64 0] 37)) w1) := Below.on HB0.out hb1
  clear hb1 HB0 q0 q1 q2 q3 q4 hRx
  clear hbA
  have hB1 : Hid (Below w.heap.size w w1) := (start.out w1 HB1.out).1
  obtain ⟨a1, c1, w2, hr1, hO1, hN1⟩ : ∃ a' c' w', (Builtin.append_ #[23, 23] 23 #[.slice (some ⟨w1.heap.size, 0, none⟩) 0 0, .slice (some ⟨b, off, none⟩) k cap]).run Tryd.prog (w1.alloc (.cells #[] 33)) = .ok (.slice a' k c') w' ∧ w'.ownsRow w1.heap.size 33 5 (.slice a' k c') (l.take k).length (pcA (l.take k)) ∧ NewA w1 w' a' k (l.take k) := by
    have hb0 := bel_alloc w1 (.cells #[] 33)
    have hA1 := (HA.out.below hB1.out).below hb0
    have htk : Acs (some ⟨b, off, none⟩) k (l.take k) (w1.alloc (.cells #[] 33)) := by
      refine ⟨by have := hA1.1; simp; omega, fun h0 => ?_⟩
      obtain ⟨b', off', e, hlt, hc⟩ := hA1.2 (by omega)
      exact ⟨b', off', e, hlt, fun i hi => by rw [acAt_take hi]; exact hc i (by omega)⟩
    obtain ⟨a1, c1, w2, hr, h1, h2⟩ := append_ownA w1 (w1.alloc (.cells #[] 33)) _ _ [] 0 (rowA_start w1 _ rfl 33) (some ⟨b, off, none⟩) k cap (l.take k) htk (by simp; omega) hb0 k (by have := hA1.1; simp; omega)
    exact ⟨a1, c1, w2, hr, h1, h2⟩
  obtain ⟨a2, c2, w3, hr2, hO2, hN2⟩ : ∃ a' c' w', (Builtin.append_ #[23, 23] 23 #[.slice a1 k c1, .slice (some ⟨w2.heap.size, 0, none⟩) 1 1]).run Tryd.prog (w2.alloc (.cells #[.bool x.al, .int .i64 x.wh, .int .i64 x.id, .int .i64 x.fl, .int .i64 x.ma] 33)) = .ok (.slice a' (k + 1) c') w' ∧ w'.ownsRow w1.heap.size 33 5 (.slice a' (k + 1) c') (l.take k ++ [x]).length (pcA (l.take k ++ [x])) ∧ NewA w1 w' a' (k + 1) (l.take k ++ [x]) := by
    have hb0 := bel_alloc w2 (.cells #[.bool x.al, .int .i64 x.wh, .int .i64 x.id, .int .i64 x.fl, .int .i64 x.ma] 33)
    exact append_ownA w1 (w2.alloc (.cells #[.bool x.al, .int .i64 x.wh, .int .i64 x.id, .int .i64 x.fl, .int .i64 x.ma] 33)) a1 c1 (l.take k) k (rowA_below hO1 hb0) _ 1 1 [x] (acs_one w2 x 33) (by simp; omega) (Below.on hN1.bel hb0) (k + 1) (by have := HA.out.1; simp; omega)
  have hsum : (l.take k ++ [x] ++ l.drop k).length = len + 1 := by have := HA.out.1; simp; omega
  have HA3 := HA.out.below (Below.on hB1.out hN2.bel)
  obtain ⟨_, _, _, q0, q1, q2, q3, q4⟩ := start.out w2 (Below.on HB1.out hN1.bel)
  simp only [Nat.zero_add] at q1 q2 q3 q4
  have fin : Hid (∀ a3 w4, NewA w1 w4 a3 (len + 1) (l.take k ++ [x] ++ l.drop k) → (Box2 w4 (w.heap.size + 1) (.slice none 0 0) (.int .i64 0) ∧ w4.frozen? ⟨w.heap.size + 1, 0, none⟩ = false ∧ w4.frozen? ⟨w.heap.size + 1, 1, none⟩ = false) ∧ NewA w w4 a3 (len + 1) (l.take k ++ [x] ++ l.drop k) ∧ (∀ A, a3 = some A → w.heap.size + 1 ≠ A.block)) := (fun a3 w4 hN => by
    obtain ⟨_, hX, hF, _⟩ := start.out w4 (Below.on HB1.out hN.bel)
    refine ⟨⟨hX, hF.1, hF.2⟩, hN.pre hB1.out, fun A e => ?_⟩
    have h1 := (hN.inn A e).1
    have h2 := (start.out w1 HB1.out).2.1.lt
    omega)
  obtain ⟨_, hcell⟩ := HA3
  by_cases hq : cap = k
  · obtain ⟨a3, c3, w4, hr3, hzz, hN3⟩ := append_ownA w1 w3 a2 c2 (l.take k ++ [x]) (k + 1) hO2 (some ⟨b, off, none⟩) (len - k) 0 (l.drop k) ⟨by have := HA.out.1; simp; omega, fun h => absurd h (by omega)⟩ (by have := HA.out.1; simp; omega) hN2.bel (len + 1) hsum
    clear hzz
    obtain ⟨⟨⟨xl, x0, x1⟩, f0, f1⟩, hN4, hne⟩ := fin.out a3 w4 hN3
    have HN : Hid (NewA w w4 a3 (len + 1) (l.take k ++ [x] ++ l.drop k) ∧ ∀ A, a3 = some A → w.heap.size + 1 ≠ A.block) := ⟨hN4, hne⟩
    have HS : Hid ((l.take k ++ [x] ++ l.drop k).length = len + 1) := hsum
    have hlk : len = k := by omega
    clear fin hO1 hN1 hsum hN2 hN3 hne HA hB1 hcell hO2 hN4 start HB1
    obtain ⟨sz, hsz⟩ : ∃ sz, sz = len + 1 := ⟨_, rfl⟩
    rw [← hsz] at hr3 HN HS
    clear hsz
    subst hq
    subst hlk
    simp only [Nat.sub_self] at hr3
    go_wp2_with (first | (go_at_call 54; refine (hIs.out _ _ (by omega)).mono ?_; rintro e w1 ⟨rfl, rfl⟩) | (at_builtin; first | refine wpList_append_runA _ rfl (.tmp 34) (.tmp 37) 23 23 rfl _ _ _ _ rfl rfl hr1 ?_ | refine wpList_append_runA _ rfl (.tmp 39) (.tmp 41) 23 23 rfl _ _ _ _ rfl rfl hr2 ?_ | refine wpList_append_runA _ rfl (.tmp 43) (.tmp 46) 23 23 rfl _ _ _ _ rfl rfl hr3 ?_))
    refine bodyPost_ret (v := .agg #[.slice a3 sz c3, .int .i64 0]) (by simp [results, Tryd.results18, go_sem, x0, x1]) rfl (ansP_of hp.out HS.out ?_)
    exact (HN.out.1.set (by omega) HN.out.2).set (by omega) HN.out.2
  · have k4 : (k : Int) < (cap : Int) := by omega
    have hdr : Acs (some ⟨b, off + k * 5, none⟩) (len - k) (l.drop k) w3 := by
      refine ⟨by have := HA.out.1; simp; omega, fun h0 => ?_⟩
      obtain ⟨b', off', e, hlt, hc⟩ := hcell (by omega)
      cases e
      refine ⟨b, off + k * 5, rfl, hlt, fun i hi => ?_⟩
      rw [acAt_drop]
      have := hc (k + i) (by omega)
      have e1 : off + (k + i) * 5 = off + k * 5 + i * 5 := by omega
      rw [e1] at this
      exact this
    obtain ⟨a3, c3, w4, hr3, hzz, hN3⟩ := append_ownA w1 w3 a2 c2 (l.take k ++ [x]) (k + 1) hO2 (some ⟨b, off + k * 5, none⟩) (len - k) (cap - k) (l.drop k) hdr (by have := HA.out.1; simp; omega) hN2.bel (len + 1) hsum
    clear hzz
    obtain ⟨⟨⟨xl, x0, x1⟩, f0, f1⟩, hN4, hne⟩ := fin.out a3 w4 hN3
    have HN : Hid (NewA w w4 a3 (len + 1) (l.take k ++ [x] ++ l.drop k) ∧ ∀ A, a3 = some A → w.heap.size + 1 ≠ A.block) := ⟨hN4, hne⟩
    have HS : Hid ((l.take k ++ [x] ++ l.drop k).length = len + 1) := hsum
    clear fin hO1 hN1 hsum hN2 hN3 hne HA hB1 hcell hO2 hN4 start HB1 hq hdr
    obtain ⟨sz, hsz⟩ : ∃ sz, sz = len + 1 := ⟨_, rfl⟩
    rw [← hsz] at hr3 HN HS
    clear hsz
    go_wp2_with (first | (go_at_call 54; refine (hIs.out _ _ (by omega)).mono ?_; rintro e w1 ⟨rfl, rfl⟩) | (at_builtin; first | refine wpList_append_runA _ rfl (.tmp 34) (.tmp 37) 23 23 rfl _ _ _ _ rfl rfl hr1 ?_ | refine wpList_append_runA _ rfl (.tmp 39) (.tmp 41) 23 23 rfl _ _ _ _ rfl rfl hr2 ?_ | refine wpList_append_runA _ rfl (.tmp 43) (.tmp 46) 23 23 rfl _ _ _ _ rfl rfl hr3 ?_))
    all_goals (
      refine bodyPost_ret (v := .agg #[.slice a3 sz c3, .int .i64 0]) (by simp [results, Tryd.results18, go_sem, x0, x1]) rfl (ansP_of hp.out HS.out ?_)
      exact (HN.out.1.set (by omega) HN.out.2).set (by omega) HN.out.2)
/-- spec.AceAdd. -/
theorem sAceAdd_any (b off len cap : Nat) (l : List Ac) (n : Int) (x : Ac) (hcap : len ≤ cap) (hlen : len ≤ 1048576) (w : World) (hi : Acs (some ⟨b, off, none⟩) len l w) :
    Calls Tryd.prog 18 #[.slice (some ⟨b, off, none⟩) len cap, .int .i64 n, .agg #[.bool x.al, .int .i64 x.wh, .int .i64 x.id, .int .i64 x.fl, .int .i64 x.ma]] w (AnsP (addP l n x) w) := by
  by_cases hz : acesB l = true ∧ aceB x = true ∧ (0 ≤ n ∧ n ≤ (len : Int)) ∧ ¬ len = 32
  · obtain ⟨ha, hx, ⟨h0, h1⟩, h32⟩ := hz
    obtain ⟨k, rfl⟩ := Int.eq_ofNat_of_zero_le h0
    exact sAceAdd_yes b off len cap l k x hcap hlen w hi ha hx (by omega) h32
  · exact sAceAdd_no b off len cap l n x hcap hlen w hi hz
end Go.Proofs.YtdidbaadladkpaaDoor
