/- Laid together: EntW, TrS1, TrM. -/
import Derived.Lib.IndexAny
import Derived.Test.YtgodbelcddgdmaaGreatNF4
/- isSigns, LinkBody, EntryName, the program's and the specification's: each answers just whether the text may be. -/
namespace Go.Proofs.YtgodbelcddgdmaaGreat
open Go.RowKit Go.PlainAid
set_option linter.unusedVariables false
/-- A byte from 33 to 126. -/
def sgB (b : Int) : Bool := decide (33 ≤ b) && decide (b ≤ 126)
def sgTo (s : ByteArray) : Nat → Bool
  | 0 => true
  | k + 1 => sgTo s k && sgB (bt s k)
/-- So many bytes from 33 to 126. -/
def signsB (s : ByteArray) (most : Nat) : Bool := decide (1 ≤ s.size) && decide (s.size ≤ most) && sgTo s s.size
def nsTo (s : ByteArray) : Nat → Bool
  | 0 => true
  | k + 1 => nsTo s k && bt s k != 47
/-- EntryName. -/
def entB (s : ByteArray) : Bool := signsB s 12 && ((s.toList != [46]) && ((s.toList != [46, 46]) && nsTo s s.size))
theorem sgB_yes {b : Int} (h1 : 33 ≤ b) (h2 : b ≤ 126) : sgB b = true := by simp [sgB, h1, h2]
theorem sgB_no {b : Int} (h : b < 33 ∨ 126 < b) : sgB b = false := by simp [sgB]; omega
theorem sgTo_false {s : ByteArray} {k n : Nat} (h : k < n) (hk : sgB (bt s k) = false) : sgTo s n = false := by
  induction n with
  | zero => omega
  | succ n ih =>
    by_cases e : k = n
    · subst e; simp [sgTo, hk]
    · simp [sgTo, ih (by omega)]
theorem nsTo_false {s : ByteArray} {k n : Nat} (h : k < n) (hk : bt s k = 47) : nsTo s n = false := by
  induction n with
  | zero => omega
  | succ n ih =>
    by_cases e : k = n
    · subst e; simp [nsTo, hk]
    · simp [nsTo, ih (by omega)]
theorem signs_no {s : ByteArray} {k m : Nat} (h : k < s.size) (hk : sgB (bt s k) = false) : signsB s m = false := by simp [signsB, sgTo_false h hk]
theorem signs_short {s : ByteArray} {m : Nat} (h : s.size < 1) : signsB s m = false := by
  have : ¬ 1 ≤ s.size := by omega
  simp [signsB, this]
theorem signs_long {s : ByteArray} {m : Nat} (h : m < s.size) : signsB s m = false := by
  have : ¬ s.size ≤ m := by omega
  simp [signsB, this]
theorem signs_yes {s : ByteArray} {m : Nat} (h1 : 1 ≤ s.size) (h2 : s.size ≤ m) (h : sgTo s s.size = true) : signsB s m = true := by simp [signsB, h1, h2, h]
theorem sgTo_next {s : ByteArray} {k : Nat} (h : sgTo s k = true) (hk : sgB (bt s k) = true) : sgTo s (k + 1) = true := by simp [sgTo, h, hk]
theorem nsTo_next {s : ByteArray} {k : Nat} (h : nsTo s k = true) (hk : ¬ bt s k = 47) : nsTo s (k + 1) = true := by simp [nsTo, h, hk]
theorem ret_boolS {a b : Bool} (h : a = b) : Ending.returned (.bool a) = .returned (.bool b) := by rw [h]
theorem signs_len {s : ByteArray} {m : Nat} (h : signsB s m = true) : 1 ≤ s.size ∧ s.size ≤ m := by
  simp only [signsB, Bool.and_eq_true, decide_eq_true_eq] at h
  exact h.1
set_option maxHeartbeats 1000000 in
theorem iSigns_in (s : ByteArray) (n : Nat) (hn : n ≤ 1000) (h1 : 1 ≤ s.size) (hs : s.size ≤ n) (w : World) :
    Calls Tryz.prog 87 #[.string s, .int .i64 n] w fun e w' => e = .returned (.bool (signsB s n)) ∧ w' = w := by
  have hbt := get_bt s
  have d1 : decide ((s.size : Int) < 1) = false := by simp; omega
  have d2 : decide ((n : Int) < (s.size : Int)) = false := by simp; omega
  go_enter Tryz.func87, Tryz.ntmps87
  go_wp2
  go_loop [17] (fun i => ∃ k : Nat, k ≤ s.size ∧ i = .int .i64 k ∧ Hid (sgTo s k = true)) (fun i => s.size - (intOf i).toNat)
  case atStart => exact ⟨0, Nat.zero_le _, rfl, rfl⟩
  case round =>
    obtain ⟨k, hk, rfl, hto⟩ := hrel
    by_cases hlt : k < s.size
    · by_cases c1 : bt s k < 33
      · have hno : Hid (signsB s n = false) := signs_no hlt (sgB_no (.inl c1))
        go_wp2
        go_ret
        exact ⟨ret_boolS hno.out.symm, rfl⟩
      · have e1 : decide (bt s k < 33) = false := by simp; omega
        by_cases c2 : 126 < bt s k
        · have hno : Hid (signsB s n = false) := signs_no hlt (sgB_no (.inr c2))
          clear c1
          go_wp2
          go_ret
          exact ⟨ret_boolS hno.out.symm, rfl⟩
        · have hok : Hid (sgB (bt s k) = true) := sgB_yes (by omega) (by omega)
          have e2 : decide (126 < bt s k) = false := by simp; omega
          clear c1 c2
          go_wp2
          go_round
          case rel => exact ⟨k + 1, by omega, by go_num, sgTo_next hto.out hok.out⟩
          case measure => simp [intOf]; omega
    · have : k = s.size := by omega
      subst this
      have hyes : Hid (signsB s n = true) := signs_yes h1 hs hto.out
      go_wp2
      go_ret
      exact ⟨ret_boolS hyes.out.symm, rfl⟩
theorem iSigns_short (s : ByteArray) (n : Nat) (h : (s.size : Int) < 1) (w : World) :
    Calls Tryz.prog 87 #[.string s, .int .i64 n] w fun e w' => e = .returned (.bool (signsB s n)) ∧ w' = w := by
  have hno : Hid (signsB s n = false) := signs_short (by omega)
  go_enter Tryz.func87, Tryz.ntmps87
  go_wp2
  go_ret
  exact ⟨ret_boolS hno.out.symm, rfl⟩
theorem iSigns_long (s : ByteArray) (n : Nat) (h : (n : Int) < (s.size : Int)) (hs : s.size ≤ maxLen) (w : World) :
    Calls Tryz.prog 87 #[.string s, .int .i64 n] w fun e w' => e = .returned (.bool (signsB s n)) ∧ w' = w := by
  unfold maxLen at hs
  have hno : Hid (signsB s n = false) := signs_long (by omega)
  have d1 : decide ((s.size : Int) < 1) = false := by simp; omega
  go_enter Tryz.func87, Tryz.ntmps87
  go_wp2
  go_ret
  exact ⟨ret_boolS hno.out.symm, rfl⟩
/-- impl.isSigns. -/
theorem iSigns_any (s : ByteArray) (n : Nat) (hn : n ≤ 1000) (hs : s.size ≤ maxLen) (w : World) :
    Calls Tryz.prog 87 #[.string s, .int .i64 n] w fun e w' => e = .returned (.bool (signsB s n)) ∧ w' = w := by
  by_cases h1 : (s.size : Int) < 1
  · exact iSigns_short s n h1 w
  · by_cases h2 : (n : Int) < (s.size : Int)
    · exact iSigns_long s n h2 hs w
    · exact iSigns_in s n hn (by omega) (by omega) w
set_option maxHeartbeats 1000000 in
/-- spec.l08Bytes. -/
theorem sBytes_any (s : ByteArray) (n : Nat) (hn : n ≤ 1000) (hs : s.size ≤ maxLen) (w : World) :
    Calls Tryz.prog 76 #[.string s, .int .i64 n] w fun e w' => e = .returned (.bool (signsB s n)) ∧ w' = w := by
  have hbt := get_bt s
  unfold maxLen at hs
  go_enter Tryz.func76, Tryz.ntmps76
  go_wp2
  go_loop [5] (fun i => ∃ k : Nat, k ≤ s.size ∧ k ≤ n + 1 ∧ i = .int .i64 k ∧ Hid (sgTo s k = true)) (fun i => s.size - (intOf i).toNat)
  case atStart => exact ⟨0, Nat.zero_le _, Nat.zero_le _, rfl, rfl⟩
  case round =>
    obtain ⟨k, hk, hk2, rfl, hto⟩ := hrel
    by_cases hlt : k < s.size
    · by_cases hle : k ≤ n
      · have f0 : (k : Int) < (s.size : Int) := by omega
        have f1 : (k : Int) ≤ (n : Int) := by omega
        by_cases c1 : bt s k < 33
        · have hno : Hid (signsB s n = false) := signs_no hlt (sgB_no (.inl c1))
          go_wp2
          go_ret
          exact ⟨ret_boolS hno.out.symm, rfl⟩
        · have e1 : decide (bt s k < 33) = false := by simp; omega
          by_cases c2 : 126 < bt s k
          · have hno : Hid (signsB s n = false) := signs_no hlt (sgB_no (.inr c2))
            clear c1
            go_wp2
            go_ret
            exact ⟨ret_boolS hno.out.symm, rfl⟩
          · have hok : Hid (sgB (bt s k) = true) := sgB_yes (by omega) (by omega)
            have e2 : decide (126 < bt s k) = false := by simp; omega
            clear c1 c2
            go_wp2
            go_round
            case rel => exact ⟨k + 1, by omega, by omega, by go_num, sgTo_next hto.out hok.out⟩
            case measure => simp [intOf]; omega
      · have hno : Hid (signsB s n = false) := signs_long (by omega)
        have f0 : (k : Int) < (s.size : Int) := by omega
        have f1 : decide ((k : Int) ≤ (n : Int)) = false := by simp; omega
        have f2 : decide (1 ≤ (s.size : Int)) = true := by simp; omega
        go_wp2
        go_ret
        exact ⟨ret_boolS (by rw [hno.out]; first | done | (simp; omega)), rfl⟩
    · have : k = s.size := by omega
      subst this
      have f0 : decide ((s.size : Int) < (s.size : Int)) = false := by simp
      by_cases h1 : 1 ≤ s.size
      · have f2 : decide (1 ≤ (s.size : Int)) = true := by simp; omega
        by_cases h2 : s.size ≤ n
        · have hyes : Hid (signsB s n = true) := signs_yes h1 h2 hto.out
          have f3 : s.size ≤ n := h2
          go_wp2
          go_ret
          exact ⟨ret_boolS (by rw [hyes.out]; first | done | simp [f3]), rfl⟩
        · have hno : Hid (signsB s n = false) := signs_long (by omega)
          go_wp2
          go_ret
          exact ⟨ret_boolS (by rw [hno.out]; first | done | (simp; omega)), rfl⟩
      · have hno : Hid (signsB s n = false) := signs_short (by omega)
        have f2 : decide (1 ≤ (s.size : Int)) = false := by simp; omega
        go_wp2
        go_ret
        exact ⟨ret_boolS hno.out.symm, rfl⟩
theorem iLink_any (s : ByteArray) (hs : s.size ≤ maxLen) (w : World) :
    Calls Tryz.prog 63 #[.string s] w fun e w' => e = .returned (.bool (signsB s 40)) ∧ w' = w := by
  go_enter Tryz.func63, Tryz.ntmps63
  go_wp2_with fail
  refine (iSigns_any s 40 (by omega) hs _).mono ?_
  rintro e w1 ⟨rfl, rfl⟩
  go_wp2
  go_ret
  exact ⟨rfl, rfl⟩
theorem sLink_any (s : ByteArray) (hs : s.size ≤ maxLen) (w : World) :
    Calls Tryz.prog 56 #[.string s] w fun e w' => e = .returned (.bool (signsB s 40)) ∧ w' = w := by
  go_enter Tryz.func56, Tryz.ntmps56
  go_wp2_with fail
  refine (sBytes_any s 40 (by omega) hs _).mono ?_
  rintro e w1 ⟨rfl, rfl⟩
  go_wp2
  go_ret
  exact ⟨rfl, rfl⟩
theorem strs_of {s : ByteArray} {b : Bool} {l : List UInt8} (h : (s.toList == l) = b) : (s.toList == l) = b ∧ (s.toList != l) = !b := ⟨h, by rw [bne, h]⟩
theorem ent_signs {s : ByteArray} (h : signsB s 12 = false) : entB s = false := by simp [entB, h]
theorem ent_dot {s : ByteArray} (h : (s.toList == [46]) = true) : entB s = false := by simp [entB, bne, h]
theorem ent_dots {s : ByteArray} (h : (s.toList == [46, 46]) = true) : entB s = false := by simp [entB, bne, h]
theorem ent_slash {s : ByteArray} (h : nsTo s s.size = false) : entB s = false := by simp [entB, h]
theorem ent_yes {s : ByteArray} (h0 : signsB s 12 = true) (h1 : (s.toList == [46]) = false) (h2 : (s.toList == [46, 46]) = false) (h : nsTo s s.size = true) : entB s = true := by simp [entB, bne, h0, h1, h2, h]
set_option maxHeartbeats 1000000 in
/-- spec.EntryName. -/
theorem sEntry_any (s : ByteArray) (hs : s.size ≤ maxLen) (w : World) :
    Calls Tryz.prog 90 #[.string s] w fun e w' => e = .returned (.bool (entB s)) ∧ w' = w := by
  have hbt := get_bt s
  have hc : Hid (∀ w, Calls Tryz.prog 76 #[.string s, .int .i64 12] w fun e w' => e = .returned (.bool (signsB s 12)) ∧ w' = w) := (fun w => sBytes_any s 12 (by omega) hs w)
  cases h0 : signsB s 12
  · have hno : Hid (entB s = false) := ent_signs h0
    rw [h0] at hc
    go_enter Tryz.func90, Tryz.ntmps90
    go_wp2_with (go_at_call 76; refine (hc.out _).mono ?_; rintro e w' ⟨rfl, rfl⟩)
    go_ret
    exact ⟨ret_boolS hno.out.symm, rfl⟩
  have hl := signs_len h0
  cases h1 : (s.toList == [46])
  · cases h2 : (s.toList == [46, 46])
    · have hy : Hid (nsTo s s.size = true → entB s = true) := ent_yes h0 h1 h2
      have hn : Hid (nsTo s s.size = false → entB s = false) := ent_slash
      rw [h0] at hc
      clear h0
      go_enter Tryz.func90, Tryz.ntmps90
      go_wp2_with (go_at_call 76; refine (hc.out _).mono ?_; rintro e w' ⟨rfl, rfl⟩)
      go_loop [3] (fun i => ∃ k : Nat, k ≤ s.size ∧ i = .int .i64 k ∧ Hid (nsTo s k = true)) (fun i => s.size - (intOf i).toNat)
      case atStart => exact ⟨0, Nat.zero_le _, rfl, rfl⟩
      case round =>
        obtain ⟨k, hk, rfl, hto⟩ := hrel
        by_cases hlt : k < s.size
        · by_cases c1 : bt s k = 47
          · have hno : Hid (entB s = false) := hn.out (nsTo_false hlt c1)
            have e1 : (bt s k == 47) = true := by simp [c1]
            clear c1
            go_wp2
            go_ret
            exact ⟨ret_boolS hno.out.symm, rfl⟩
          · have hok : Hid (¬ bt s k = 47) := c1
            have e1 : (bt s k == 47) = false := by simp [c1]
            clear c1
            go_wp2
            go_round
            case rel => exact ⟨k + 1, by omega, by go_num, nsTo_next hto.out hok.out⟩
            case measure => simp [intOf]; omega
        · have : k = s.size := by omega
          subst this
          have hyes : Hid (entB s = true) := hy.out hto.out
          go_wp2
          go_ret
          exact ⟨ret_boolS hyes.out.symm, rfl⟩
    · have hno : Hid (entB s = false) := ent_dots h2
      rw [h0] at hc
      clear h0
      go_enter Tryz.func90, Tryz.ntmps90
      go_wp2_with (go_at_call 76; refine (hc.out _).mono ?_; rintro e w' ⟨rfl, rfl⟩)
      go_ret
      exact ⟨ret_boolS hno.out.symm, rfl⟩
  · have hno : Hid (entB s = false) := ent_dot h1
    rw [h0] at hc
    clear h0
    go_enter Tryz.func90, Tryz.ntmps90
    go_wp2_with (go_at_call 76; refine (hc.out _).mono ?_; rintro e w' ⟨rfl, rfl⟩)
    go_ret
    exact ⟨ret_boolS hno.out.symm, rfl⟩
/-- The list is zero. -/
def Al.E (A : Al) : Bool := A.u == 0 && (A.g == 0 && (A.o == 0 && (A.m == 0 && (!A.r && (A.us.length == 0 && A.gs.length == 0)))))
/-- What only a directory has is zero. -/
def Nd.bare (x : Nd) : Bool := !x.sh && (x.D.E && (x.up == 0 && x.ns.length == 0))
def Nd.zero (x : Nd) : Bool := x.bare && (x.ow == 0 && (x.gr == 0 && (x.ex == 0 && (x.A.E && (x.li == 0 && ((x.bo.toList == []) && x.ti == 0))))))
theorem int_zero {n : Nat} : ((n : Int) == 0) = (n == 0) := by
  cases h : (n == 0)
  · rw [beq_eq_false_iff_ne] at h ⊢
    omega
  · rw [beq_iff_eq] at h
    subst h
    rfl
set_option maxHeartbeats 2000000 in
theorem sEmpty_any (A : Al) (aU : Option Addr) (cU : Nat) (aG : Option Addr) (cG : Nat) (w : World) :
    Calls Tryz.prog 51 #[.agg #[.int .i64 A.u, .int .i64 A.g, .int .i64 A.o, .slice aU A.us.length cU, .slice aG A.gs.length cG, .bool A.r, .int .i64 A.m]] w fun e w' => e = .returned (.bool A.E) ∧ Below w.heap.size w w' := by
  have HE : Hid (A.E = (A.u == 0 && (A.g == 0 && (A.o == 0 && (A.m == 0 && (!A.r && (((A.us.length : Int) == 0) && ((A.gs.length : Int) == 0)))))))) := (by show _ = _; rw [int_zero, int_zero]; rfl)
  go_enter Tryz.func51, Tryz.ntmps51
  go_wp2
  all_goals go_ret
  all_goals (refine ⟨ret_boolW ?_, bel_alloc _ _⟩; rw [HE.out]; simp [*])
set_option maxHeartbeats 4000000 in
theorem sBare_any (x : Nd) (y : Na) (w : World) :
    Calls Tryz.prog 50 #[.agg (ndV x y).toArray] w fun e w' => e = .returned (.bool x.bare) ∧ Below w.heap.size w w' := by
  have HE : Hid (x.bare = (!x.sh && (x.D.E && (x.up == 0 && ((x.ns.length : Int) == 0))))) := (by show _ = _; rw [int_zero]; rfl)
  have HB : Hid (Below w.heap.size w (w.alloc (.cells (ndV x y).toArray 31))) := bel_alloc _ _
  have HX : Hid (BoxR (w.alloc (.cells (ndV x y).toArray 31)) w.heap.size (ndV x y)) := boxR_new _ _ _
  go_enter Tryz.func50, Tryz.ntmps50
  go_upto_region 1 with fail
  generalize w.alloc (.cells (ndV x y).toArray 31) = w0 at HB HX ⊢
  obtain ⟨X, hX⟩ : ∃ X, X = w.heap.size := ⟨_, rfl⟩
  rw [← hX] at HX ⊢
  clear hX
  have e11 := N24.c11 HX.out.at0
  obtain ⟨c4, c5, c6, c7, c8, c9, c10⟩ := N24.lD HX.out.at0
  have e20 := N24.c20 HX.out.at0
  have e22 := N24.c22 HX.out.at0
  simp only [Nat.zero_add] at e11 c4 c5 c6 c7 c8 c9 c10 e20 e22
  go_wp2_with (go_at_call 51; refine (sEmpty_any x.D _ _ _ _ _).mono ?_; rintro e w1 ⟨rfl, hb⟩; have HB1 : Hid (Below w.heap.size w w1) := Below.on HB.out hb; have HX1 : Hid (BoxR w1 X (ndV x y)) := HX.out.below hb; clear hb e11 c4 c5 c6 c7 c8 c9 c10 e20 e22; have e20 := N24.c20 HX1.out.at0; have e22 := N24.c22 HX1.out.at0; simp only [Nat.zero_add] at e20 e22)
  all_goals go_ret
  all_goals trace_state
  all_goals (refine ⟨ret_boolW ?_, ?_⟩; (rw [HE.out]; simp [*]); (first | exact HB.out | exact HB1.out))
/-- A number is of a node that is there. -/
def thB (l : List Nd) (n : Int) : Bool := inR 1 l.length n && ((ndAt l (n - 1).toNat).k != 0)
def diB (l : List Nd) (n : Int) : Bool := thB l n && ((ndAt l (n - 1).toNat).k == 1)
theorem thB_off {l : List Nd} {n : Int} (h : inR 1 l.length n = false) : thB l n = false := by simp [thB, h]
theorem at_succ (l : List Nd) (k : Nat) : ndAt l ((k : Int) + 1 - 1).toNat = ndAt l k := by
  have : ((k : Int) + 1 - 1).toNat = k := by omega
  rw [this]
theorem thB_in {l : List Nd} {k : Nat} (h : inR 1 l.length ((k : Int) + 1) = true) : thB l (k + 1) = ((ndAt l k).k != 0) := by simp only [thB, h, at_succ, Bool.true_and]
theorem thB_num {l : List Nd} {n : Int} (h : thB l n = true) : inR 1 l.length n = true := by
  simp only [thB, Bool.and_eq_true] at h
  exact h.1
theorem diB_in {l : List Nd} {k : Nat} (h : thB l (k + 1) = true) : diB l (k + 1) = ((ndAt l k).k == 1) := by simp only [diB, h, at_succ, Bool.true_and]
/-- How many of the first k entries name n. -/
def cntE (ns : List (ByteArray × Int)) (n : Int) : Nat → Int
  | 0 => 0
  | k + 1 => cntE ns n k + (if noAt ns k == n then 1 else 0)
/-- One of the first k entries names n. -/
def hasE (ns : List (ByteArray × Int)) (n : Int) : Nat → Bool
  | 0 => false
  | k + 1 => hasE ns n k || (noAt ns k == n)
theorem cntE_b (ns : List (ByteArray × Int)) (n : Int) : ∀ k, 0 ≤ cntE ns n k ∧ cntE ns n k ≤ k
  | 0 => by simp [cntE]
  | k + 1 => by
    have := cntE_b ns n k
    simp only [cntE]
    split <;> omega
theorem hasE_cnt (ns : List (ByteArray × Int)) (n : Int) : ∀ k, hasE ns n k = decide (0 < cntE ns n k)
  | 0 => rfl
  | k + 1 => by
    have h := cntE_b ns n k
    simp only [hasE, cntE, hasE_cnt ns n k]
    by_cases e : noAt ns k = n
    · have h1 : 0 < cntE ns n k + 1 := by omega
      simp [e, h1]
    · simp [e]
theorem hasE_next {ns : List (ByteArray × Int)} {n : Int} {k m : Nat} (h : hasE ns n k = true) (hk : k ≤ m) : hasE ns n m = true := by
  induction m with
  | zero =>
    have : k = 0 := by omega
    rw [this] at h
    exact h
  | succ m ih =>
    by_cases e : k = m + 1
    · rw [← e]; exact h
    · simp [hasE, ih (by omega)]
/-- How many entries of the first k nodes name n. -/
def cntN (l : List Nd) (n : Int) : Nat → Int
  | 0 => 0
  | k + 1 => cntN l n k + cntE (ndAt l k).ns n (ndAt l k).ns.length
theorem cntN_b (l : List Nd) (n : Int) : ∀ k, k ≤ l.length → (∀ i, i < l.length → (ndAt l i).ns.length ≤ 1048576) → 0 ≤ cntN l n k ∧ cntN l n k ≤ k * 1048576
  | 0, _, _ => by simp [cntN]
  | k + 1, hk, h => by
    have h1 := cntN_b l n k (by omega) h
    have h2 := cntE_b (ndAt l k).ns n (ndAt l k).ns.length
    have h3 := h k (by omega)
    simp only [cntN]
    constructor
    · omega
    · rw [show ((k + 1 : Nat) : Int) * 1048576 = k * 1048576 + 1048576 by omega]
      omega
/-- From n one comes to the first node by Ups, in fewer than f steps. -/
def rtB (l : List Nd) : Nat → Int → Bool
  | 0, _ => false
  | f + 1, n => n == 1 || (diB l n && rtB l f (ndAt l (n - 1).toNat).up)
theorem diB_th {l : List Nd} {n : Int} (h : diB l n = true) : thB l n = true := by
  simp only [diB, Bool.and_eq_true] at h
  exact h.1
/-- The entry at place k may stand there. -/
def okE (l : List Nd) (ns : List (ByteArray × Int)) (k : Nat) : Bool := entB (nmAt ns k) && ((k == 0 || Op.bytesLess (nmAt ns (k - 1)).toList (nmAt ns k).toList) && (thB l (noAt ns k) && noAt ns k != 1))
def nsT (l : List Nd) (ns : List (ByteArray × Int)) : Nat → Bool
  | 0 => true
  | k + 1 => nsT l ns k && okE l ns k
/-- The names of a directory may be. -/
def nsB (l : List Nd) (ns : List (ByteArray × Int)) : Bool := decide (ns.length ≤ 6) && nsT l ns ns.length
theorem nsT_false {l : List Nd} {ns : List (ByteArray × Int)} {k n : Nat} (h : k < n) (hk : okE l ns k = false) : nsT l ns n = false := by
  induction n with
  | zero => omega
  | succ n ih =>
    by_cases e : k = n
    · subst e; simp [nsT, hk]
    · simp [nsT, ih (by omega)]
theorem nsB_no {l : List Nd} {ns : List (ByteArray × Int)} {k : Nat} (h : k < ns.length) (hk : okE l ns k = false) : nsB l ns = false := by simp [nsB, nsT_false h hk]
theorem nsB_long {l : List Nd} {ns : List (ByteArray × Int)} (h : 6 < ns.length) : nsB l ns = false := by
  have : ¬ ns.length ≤ 6 := by omega
  simp [nsB, this]
theorem nsB_yes {l : List Nd} {ns : List (ByteArray × Int)} (h : ns.length ≤ 6) (hr : nsT l ns ns.length = true) : nsB l ns = true := by simp [nsB, h, hr]
theorem nsT_next {l : List Nd} {ns : List (ByteArray × Int)} {k : Nat} (h : nsT l ns k = true) (hk : okE l ns k = true) : nsT l ns (k + 1) = true := by simp [nsT, h, hk]
/-- What is asked of a directory's Up. -/
def dirU (l : List Nd) : Nat → Int → Bool
  | 0, m => m == 1
  | d + 1, m => hasE (ndAt l (m - 1).toNat).ns (((d + 1 : Nat) : Int) + 1) (ndAt l (m - 1).toNat).ns.length && rtB l 13 (((d + 1 : Nat) : Int) + 1)
theorem dirU_pos {l : List Nd} {d : Nat} {m : Int} (h : 0 < d) : dirU l d m = (hasE (ndAt l (m - 1).toNat).ns ((d : Int) + 1) (ndAt l (m - 1).toNat).ns.length && rtB l 13 ((d : Int) + 1)) := by
  obtain ⟨k, rfl⟩ : ∃ k, d = k + 1 := ⟨d - 1, by omega⟩
  rfl
/-- The directory at place d may be so. -/
def dirB (l : List Nd) (d : Nat) : Bool := (ndAt l d).D.B && (((ndAt l d).sh || (ndAt l d).D.E) && (((ndAt l d).bo.toList == []) && ((ndAt l d).li == 1 && (nsB l (ndAt l d).ns && (diB l (ndAt l d).up && dirU l d (ndAt l d).up)))))
/-- The links of the node at place d. -/
def lnkN (l : List Nd) (d : Nat) : Int := cntN l ((d : Int) + 1) l.length + (if d = 0 then 1 else 0)
def kindB (l : List Nd) (d : Nat) (x : Nd) : Bool := if x.k == 1 then dirB l d else if x.k == 2 then x.bare && (x.bo.toList == []) else if x.k == 3 then x.bare && signsB x.bo 40 else false
/-- The node at place d may be so. -/
def nodeB (l : List Nd) (now : Int) (d : Nat) : Bool := inR 0 9999 (ndAt l d).ow && (inR 0 9999 (ndAt l d).gr && (inR 0 7 (ndAt l d).ex && ((ndAt l d).A.B && (inR 0 now (ndAt l d).ti && ((ndAt l d).li == lnkN l d && (inR 1 5 (lnkN l d) && kindB l d (ndAt l d)))))))
def treeT (l : List Nd) (now : Int) : Nat → Bool
  | 0 => true
  | k + 1 => treeT l now k && (if (ndAt l k).k == 0 then (ndAt l k).zero else nodeB l now k)
/-- TreeRight. -/
def treeB (l : List Nd) (now : Int) : Bool := decide (1 ≤ l.length) && (decide (l.length ≤ 12) && (inR 0 1000000 now && ((ndAt l 0).k == 1 && treeT l now l.length)))
/-- defaultRight. -/
def Nd.dB (x : Nd) : Bool := if x.sh then x.D.B else x.D.E
/-- sameNode of a node and the zero one. -/
def Nd.z0 (x : Nd) : Bool := x.k == 0 && (x.ow == 0 && (x.gr == 0 && (x.ex == 0 && (!x.sh && (x.li == 0 && (x.up == 0 && ((x.bo.toList == []) && (x.A.E && (x.D.E && x.ns.length == 0)))))))))
theorem diB_not {l : List Nd} {k : Nat} (h : inR 1 l.length ((k : Int) + 1) = true) (hd : diB l (k + 1) = false) : ((ndAt l k).k == 1) = false := by
  cases ht : thB l (k + 1)
  · rw [thB_in h] at ht
    have h0 : (ndAt l k).k = 0 := by simpa using ht
    rw [h0]
    rfl
  · rw [← diB_in ht]
    exact hd
/-- directoryRight. -/
def Nd.dirI (x : Nd) (l : List Nd) (n : Int) : Bool := x.li == 1 && ((x.bo.toList == []) && (x.dB && (nsB l x.ns && (n == 1 || (diB l x.up && hasE (ndAt l (x.up - 1).toNat).ns n (ndAt l (x.up - 1).toNat).ns.length)))))
end Go.Proofs.YtgodbelcddgdmaaGreat
