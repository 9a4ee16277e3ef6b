/- Laid together: Groups, CredTx. -/
import Derived.Deep.QuietTactic
import Derived.BigQuiet
import Derived.Handy
import Derived.Test.YtgooanaacebncaaDoorRE10
/- impl.groupsRight and CredRight, the program's and the specification's. -/
namespace Go.Proofs.YtgooanaacebncaaDoor
open Go.RowKit Go.PlainAid
set_option linter.unusedVariables false
set_option maxHeartbeats 1000000 in
theorem groups_long (a : Option Addr) (len cap : Nat) (h : 8 < (len : Int)) (w : World) :
    Calls Tryd.prog 48 #[.slice a len cap] w fun e w' => e = .returned (.bool false) ∧ w' = w := by
  go_enter Tryd.func48, Tryd.ntmps48
  go_wp2
  go_ret
  exact ⟨rfl, rfl⟩
set_option maxHeartbeats 1000000 in
theorem groups_none (a : Option Addr) (cap : Nat) (w : World) :
    Calls Tryd.prog 48 #[.slice a 0 cap] w fun e w' => e = .returned (.bool true) ∧ w' = w := by
  go_enter Tryd.func48, Tryd.ntmps48
  go_wp2
  go_rounds 1
  go_ret
  exact ⟨rfl, rfl⟩
set_option maxHeartbeats 2000000 in
theorem groups_some (b off len cap : Nat) (f : Nat → Int) (hl : len ≤ 8) (w : World) (hc : ∀ i, i < len → w.cell? ⟨b, off + i, none⟩ = some (.int .i64 (f i))) :
    Calls Tryd.prog 48 #[.slice (some ⟨b, off, none⟩) len cap] w fun e w' => e = .returned (.bool (grB len f)) ∧ w' = w := by
  have d0 : decide (8 < (len : Int)) = false := by simp; omega
  go_enter Tryd.func48, Tryd.ntmps48
  go_wp2
  have HC : Hid (∀ i, i < len → w.cell? ⟨b, off + i, none⟩ = some (.int .i64 (f i))) := hc
  clear hc
  go_loop [10] (fun i => ∃ k : Nat, k ≤ len ∧ i = .int .i64 k ∧ Hid (risesB f k = true)) (fun i => len - (intOf i).toNat)
  case atStart => exact ⟨0, Nat.zero_le _, rfl, rfl⟩
  case round =>
    obtain ⟨k, hk, rfl, hto⟩ := hrel
    by_cases hlt : k < len
    · have g0 := HC.out k hlt
      cases hid : inR 0 9999 (f k)
      · have hno : Hid (grB len f = false) := gr_no hlt (okG_id hid)
        go_wp2_with (go_at_call 47; refine (isId_any _ _).mono ?_; rintro e w' ⟨rfl, rfl⟩)
        go_ret
        exact ⟨ret_boolW hno.out.symm, rfl⟩
      · cases k with
        | zero =>
          have hok : Hid (okG f 0 = true) := okG_first hid
          simp only [Nat.add_zero] at g0
          go_wp2_with (go_at_call 47; refine (isId_any _ _).mono ?_; rintro e w' ⟨rfl, rfl⟩)
          go_round
          case rel => exact ⟨1, by omega, by go_num, rises_next hto.out hok.out⟩
          case measure => simp [intOf]; omega
        | succ j =>
          have g1 := HC.out j (by omega)
          by_cases hup : f j < f (j + 1)
          · have hok : Hid (okG f (j + 1) = true) := okG_up hid hup
            have dd : decide (f (j + 1) ≤ f j) = false := by simp; omega
            go_wp2_with (go_at_call 47; refine (isId_any _ _).mono ?_; rintro e w' ⟨rfl, rfl⟩)
            go_round
            case rel => exact ⟨j + 1 + 1, by omega, by go_num, rises_next hto.out hok.out⟩
            case measure => simp [intOf]; omega
          · have hno : Hid (grB len f = false) := gr_no hlt (okG_down hup)
            have dd : f (j + 1) ≤ f j := by omega
            clear hup
            go_wp2_with (go_at_call 47; refine (isId_any _ _).mono ?_; rintro e w' ⟨rfl, rfl⟩)
            go_ret
            exact ⟨ret_boolW hno.out.symm, rfl⟩
    · have : k = len := by omega
      subst this
      have hyes : Hid (grB k f = true) := gr_yes hl hto.out
      go_wp2
      go_ret
      exact ⟨ret_boolW hyes.out.symm, rfl⟩
/-- impl.groupsRight. -/
theorem groups_any (a : Option Addr) (len cap : Nat) (f : Nat → Int) (w : World) (hi : Ints a len f w) :
    Calls Tryd.prog 48 #[.slice a len cap] w fun e w' => e = .returned (.bool (grB len f)) ∧ w' = w := by
  by_cases h8 : 8 < len
  · rw [gr_long h8]
    exact groups_long a len cap (by omega) w
  · by_cases h0 : len = 0
    · subst h0
      exact groups_none a cap w
    · obtain ⟨b, off, rfl, hlt, hc⟩ := hi (by omega)
      exact groups_some b off len cap f (by omega) w hc
theorem below_drewN {B : Nat} {w w' : World} (h : Below B w w') (n : Nat) : Below B w (w'.drewN n) := h.trans ⟨rfl, rfl, rfl, Nat.le_refl _, fun _ _ => rfl⟩
theorem credB_u {u g : Int} {len : Nat} {f : Nat → Int} (h : inR 0 9999 u = false) : credB u g len f = false := by simp [credB, h]
theorem credB_g {u g : Int} {len : Nat} {f : Nat → Int} (h : inR 0 9999 g = false) : credB u g len f = false := by simp [credB, h]
theorem credB_gr {u g : Int} {len : Nat} {f : Nat → Int} (h0 : inR 0 9999 u = true) (h1 : inR 0 9999 g = true) : credB u g len f = grB len f := by simp [credB, h0, h1]
set_option maxHeartbeats 2000000 in
/-- impl.CredRight. -/
theorem iCredRight_any (u g : Int) (a : Option Addr) (len cap : Nat) (r : Bool) (f : Nat → Int) (w : World) (hi : Ints a len f w) :
    Calls Tryd.prog 14 #[.agg #[.int .i64 u, .int .i64 g, .slice a len cap, .bool r]] w fun e w' => e = .returned (.bool (credB u g len f)) ∧ Below w.heap.size w w' := by
  cases h0 : inR 0 9999 u
  · have hno : Hid (credB u g len f = false) := credB_u h0
    go_enter Tryd.func14, Tryd.ntmps14
    go_wp2_with (go_at_call 47; refine (isId_any _ _).mono ?_; rintro e w' ⟨rfl, rfl⟩)
    go_ret
    exact ⟨ret_boolW hno.out.symm, (Below.refl _ _).alloc (Nat.le_refl _) _⟩
  · cases h1 : inR 0 9999 g
    · have hno : Hid (credB u g len f = false) := credB_g h1
      go_enter Tryd.func14, Tryd.ntmps14
      go_wp2_with (go_at_call 47; refine (isId_any _ _).mono ?_; rintro e w' ⟨rfl, rfl⟩)
      go_ret
      exact ⟨ret_boolW hno.out.symm, (Below.refl _ _).alloc (Nat.le_refl _) _⟩
    · have hyes : Hid (credB u g len f = grB len f) := credB_gr h0 h1
      have hg : Hid (∀ w', Below w.heap.size w w' → Calls Tryd.prog 48 #[.slice a len cap] w' fun e w'' => e = .returned (.bool (grB len f)) ∧ w'' = w') := (fun w' hb => groups_any a len cap f w' (hi.below hb))
      clear hi
      go_enter Tryd.func14, Tryd.ntmps14
      go_wp2_with (first | (go_at_call 47; refine (isId_any _ _).mono ?_; rintro e w' ⟨rfl, rfl⟩) | (go_at_call 48; refine (hg.out _ ((Below.refl _ _).alloc (Nat.le_refl _) _)).mono ?_; rintro e w' ⟨rfl, rfl⟩))
      go_ret
      exact ⟨ret_boolW hyes.out.symm, (Below.refl _ _).alloc (Nat.le_refl _) _⟩
set_option maxHeartbeats 2000000 in
theorem sCredRight_u (u g : Int) (a : Option Addr) (len cap : Nat) (r : Bool) (h0 : inR 0 9999 u = false) (w : World) :
    Calls Tryd.prog 15 #[.agg #[.int .i64 u, .int .i64 g, .slice a len cap, .bool r]] w fun e w' => e = .returned (.bool false) ∧ Below w.heap.size w w' := by
  go_enter Tryd.func15, Tryd.ntmps15
  go_wp2_with (go_at_call 49; refine (sId_any _ _).mono ?_; rintro e w' ⟨rfl, rfl⟩)
  go_ret
  exact ⟨rfl, (Below.refl _ _).alloc (Nat.le_refl _) _⟩
set_option maxHeartbeats 2000000 in
theorem sCredRight_g (u g : Int) (a : Option Addr) (len cap : Nat) (r : Bool) (h0 : inR 0 9999 u = true) (h1 : inR 0 9999 g = false) (w : World) :
    Calls Tryd.prog 15 #[.agg #[.int .i64 u, .int .i64 g, .slice a len cap, .bool r]] w fun e w' => e = .returned (.bool false) ∧ Below w.heap.size w w' := by
  go_enter Tryd.func15, Tryd.ntmps15
  go_wp2_with (go_at_call 49; refine (sId_any _ _).mono ?_; rintro e w' ⟨rfl, rfl⟩)
  go_ret
  exact ⟨rfl, (Below.refl _ _).alloc (Nat.le_refl _) _⟩
set_option maxHeartbeats 2000000 in
theorem sCredRight_long (u g : Int) (a : Option Addr) (len cap : Nat) (r : Bool) (h0 : inR 0 9999 u = true) (h1 : inR 0 9999 g = true) (hl : 8 < (len : Int)) (w : World) :
    Calls Tryd.prog 15 #[.agg #[.int .i64 u, .int .i64 g, .slice a len cap, .bool r]] w fun e w' => e = .returned (.bool false) ∧ Below w.heap.size w w' := by
  go_enter Tryd.func15, Tryd.ntmps15
  go_wp2_with (go_at_call 49; refine (sId_any _ _).mono ?_; rintro e w' ⟨rfl, rfl⟩)
  go_ret
  exact ⟨rfl, (Below.refl _ _).alloc (Nat.le_refl _) _⟩
set_option maxHeartbeats 2000000 in
theorem sCredRight_none (u g : Int) (a : Option Addr) (cap : Nat) (r : Bool) (h0 : inR 0 9999 u = true) (h1 : inR 0 9999 g = true) (w : World) :
    Calls Tryd.prog 15 #[.agg #[.int .i64 u, .int .i64 g, .slice a 0 cap, .bool r]] w fun e w' => e = .returned (.bool true) ∧ Below w.heap.size w w' := by
  go_enter Tryd.func15, Tryd.ntmps15
  go_wp2_with (go_at_call 49; refine (sId_any _ _).mono ?_; rintro e w' ⟨rfl, rfl⟩)
  go_rounds 1
  go_ret
  exact ⟨rfl, (Below.refl _ _).alloc (Nat.le_refl _) _⟩
set_option maxHeartbeats 4000000 in
theorem sCredRight_some (u g : Int) (b off len cap : Nat) (r : Bool) (f : Nat → Int) (h0 : inR 0 9999 u = true) (h1 : inR 0 9999 g = true) (hl : len ≤ 8) (w : World) (hb : b < w.heap.size) (hc : ∀ i, i < len → w.cell? ⟨b, off + i, none⟩ = some (.int .i64 (f i))) :
    Calls Tryd.prog 15 #[.agg #[.int .i64 u, .int .i64 g, .slice (some ⟨b, off, none⟩) len cap, .bool r]] w fun e w' => e = .returned (.bool (grB len f)) ∧ Below w.heap.size w w' := by
  have d0 : decide (8 < (len : Int)) = false := by simp; omega
  have HC : Hid (∀ i, i < len → w.cell? ⟨b, off + i, none⟩ = some (.int .i64 (f i))) := hc
  clear hc
  go_enter Tryd.func15, Tryd.ntmps15
  go_wp2_with (go_at_call 49; refine (sId_any _ _).mono ?_; rintro e w' ⟨rfl, rfl⟩)
  go_loopw [3] (fun i wr => ∃ (k : Nat), k ≤ len ∧ i = .int .i64 k ∧ Hid (Below w.heap.size w wr) ∧ Hid (w.heap.size < wr.heap.size) ∧ wr.cell? ⟨w.heap.size, 2, none⟩ = some (.slice (some ⟨b, off, none⟩) len cap) ∧ Hid (risesB f k = true)) (fun i _ => len - (intOf i).toNat)
  case atStart => exact ⟨0, Nat.zero_le _, rfl, (Below.refl _ _).alloc (Nat.le_refl _) _, (by simp : w.heap.size < (w.alloc _).heap.size), by simp, rfl⟩
  case round =>
    obtain ⟨k, hk, rfl, hbel, hsz, hcl, hto⟩ := hrel
    by_cases hlt : k < len
    · have g0 : wr.cell? ⟨b, off + k, none⟩ = some (.int .i64 (f k)) := (hbel.out.cell (p := ⟨b, off + k, none⟩) hb).trans (HC.out k hlt)
      have hlt' : (k : Int) < (len : Int) := by omega
      cases hid : inR 0 9999 (f k)
      · have hno : Hid (grB len f = false) := gr_no hlt (okG_id hid)
        go_wp2
        go_quiet ((go_at_call 49; exact Calls.quiet_of_same (sId_any _ _)))
        go_wp2
        go_ret
        exact ⟨ret_boolW hno.out.symm, below_drewN hbel.out _⟩
      · cases k with
        | zero =>
          have hok : Hid (okG f 0 = true) := okG_first hid
          simp only [Nat.add_zero] at g0
          go_wp2
          go_quiet ((go_at_call 49; exact Calls.quiet_of_same (sId_any _ _)))
          go_wp2
          go_roundw
          case rel => exact ⟨1, by omega, by go_num, below_drewN hbel.out _, hsz, hcl, rises_next hto.out hok.out⟩
          case measure => simp [intOf]; omega
        | succ j =>
          have g1 : wr.cell? ⟨b, off + j, none⟩ = some (.int .i64 (f j)) := (hbel.out.cell (p := ⟨b, off + j, none⟩) hb).trans (HC.out j (by omega))
          have hj' : (j : Int) < (len : Int) := by omega
          have hj2 : (j : Int) + 1 < (len : Int) := by omega
          have hj0 : (0 : Int) < (j : Int) + 1 := by omega
          have hj3 : (j : Int) + 1 - 1 = (j : Int) := by omega
          by_cases hup : f j < f (j + 1)
          · have hok : Hid (okG f (j + 1) = true) := okG_up hid hup
            have dd : decide (f (j + 1) ≤ f j) = false := by simp; omega
            go_wp2
            go_quiet ((go_at_call 49; exact Calls.quiet_of_same (sId_any _ _)))
            go_wp2
            go_roundw
            case rel => exact ⟨j + 1 + 1, by omega, by go_num, below_drewN hbel.out _, hsz, hcl, rises_next hto.out hok.out⟩
            case measure => simp [intOf]; omega
          · have hno : Hid (grB len f = false) := gr_no hlt (okG_down hup)
            have dd : f (j + 1) ≤ f j := by omega
            clear hup
            go_wp2
            go_quiet ((go_at_call 49; exact Calls.quiet_of_same (sId_any _ _)))
            go_wp2
            go_ret
            exact ⟨ret_boolW hno.out.symm, below_drewN hbel.out _⟩
    · have : k = len := by omega
      subst this
      have hyes : Hid (grB k f = true) := gr_yes hl hto.out
      go_wp2
      go_ret
      exact ⟨ret_boolW hyes.out.symm, hbel.out⟩
/-- spec.CredRight. -/
theorem sCredRight_any (u g : Int) (a : Option Addr) (len cap : Nat) (r : Bool) (f : Nat → Int) (w : World) (hi : Ints a len f w) :
    Calls Tryd.prog 15 #[.agg #[.int .i64 u, .int .i64 g, .slice a len cap, .bool r]] w fun e w' => e = .returned (.bool (credB u g len f)) ∧ Below w.heap.size w w' := by
  cases h0 : inR 0 9999 u
  · rw [credB_u h0]
    exact sCredRight_u u g a len cap r h0 w
  · cases h1 : inR 0 9999 g
    · rw [credB_g h1]
      exact sCredRight_g u g a len cap r h0 h1 w
    · rw [credB_gr h0 h1]
      by_cases h8 : 8 < len
      · rw [gr_long h8]
        exact sCredRight_long u g a len cap r h0 h1 (by omega) w
      · by_cases hz : len = 0
        · subst hz
          exact sCredRight_none u g a cap r h0 h1 w
        · obtain ⟨b, off, rfl, hlt, hc⟩ := hi (by omega)
          exact sCredRight_some u g b off len cap r f h0 h1 (by omega) w hlt hc
/-- The first k ids, a comma between each two. -/
def jn (f : Nat → Int) : Nat → List UInt8
  | 0 => []
  | k + 1 => jn f k ++ (if k = 0 then [] else [44]) ++ Lib.decDigits (f k).toNat
def jnT (f : Nat → Int) (k : Nat) : ByteArray := ⟨(jn f k).toArray⟩
theorem jn_len {f : Nat → Int} {n : Nat} (h : ∀ i, i < n → 0 ≤ f i ∧ f i ≤ 9999) : ∀ k, k ≤ n → (jn f k).length ≤ 5 * k := by
  intro k
  induction k with
  | zero => intro _; simp [jn]
  | succ k ih =>
    intro hk
    have h1 := ih (by omega)
    have h2 := (dec_len (n := (f k).toNat) (by have := h k (by omega); omega)).2
    have h3 : (if k = 0 then ([] : List UInt8) else [44]).length ≤ 1 := by split <;> simp
    simp only [jn, List.length_append]
    omega
theorem jnT_size {f : Nat → Int} {n : Nat} (h : ∀ i, i < n → 0 ≤ f i ∧ f i ≤ 9999) {k : Nat} (hk : k ≤ n) : (jnT f k).size ≤ 5 * k := by
  have := jn_len h k hk
  simpa [jnT, ByteArray.size] using this
/-- The texts of the first k ids. -/
def txs (f : Nat → Int) (k : Nat) : List ByteArray := (List.range k).map fun i => decT (f i).toNat
theorem txs_len (f : Nat → Int) (k : Nat) : (txs f k).length = k := by simp [txs]
theorem txs_snoc (f : Nat → Int) (k : Nat) : txs f (k + 1) = txs f k ++ [decT (f k).toNat] := by simp [txs, List.range_succ]
theorem joinTail_snoc (sep : List UInt8) (r : List (List UInt8)) (y : List UInt8) : Lib.joinTail sep (r ++ [y]) = Lib.joinTail sep r ++ sep ++ y := by simp [Lib.joinTail]
theorem join_jn (f : Nat → Int) (k : Nat) : Lib.join ((txs f k).map (·.data.toList)) [44] = jn f k := by
  induction k with
  | zero => rfl
  | succ k ih =>
    rw [txs_snoc, List.map_append]
    cases hx : (txs f k).map (·.data.toList) with
    | nil =>
      have hk : k = 0 := by
        have := congrArg List.length hx
        simpa [txs_len] using this
      subst hk
      simp [jn, decT, Lib.join_one]
    | cons x r =>
      have hk : ¬ k = 0 := by
        intro e
        subst e
        simp [txs] at hx
      rw [hx, Lib.join_cons] at ih
      rw [List.cons_append, List.map_cons, List.map_nil, Lib.join_cons, joinTail_snoc, jn, if_neg hk, ← ih]
      simp [decT]
/-- The text ahead of the groups. -/
def preT (u g : Nat) : ByteArray := decT u ++ ⟨#[58]⟩ ++ decT g ++ ⟨#[58]⟩
theorem preT_size {u g : Nat} (hu : u ≤ 9999) (hg : g ≤ 9999) : (preT u g).size ≤ 10 := by
  have a := (decT_size hu).2
  have b := (decT_size hg).2
  have c : (⟨#[58]⟩ : ByteArray).size = 1 := rfl
  simp only [preT, ByteArray.size_append]
  omega
/-- CredText. -/
def credT (u g : Int) (cl : Nat) (f : Nat → Int) (cr : Bool) : ByteArray :=
  if credB u g cl f then (if cr then preT u.toNat g.toNat ++ jnT f cl ++ ⟨#[42]⟩ else preT u.toNat g.toNat ++ jnT f cl) else ⟨#[]⟩
theorem cat_end (a : ByteArray) : a ++ (⟨(([] : List UInt8)).toArray⟩ : ByteArray) = a := by
  apply ByteArray.ext
  rw [ByteArray.data_append]
  simp
theorem jnT_first (p : ByteArray) (f : Nat → Int) : p ++ jnT f 0 ++ decT (f 0).toNat = p ++ jnT f 1 := by
  apply ByteArray.ext
  simp [ByteArray.data_append, jnT, jn, decT]
theorem jnT_next (p : ByteArray) (f : Nat → Int) {k : Nat} (h : ¬ k = 0) : p ++ jnT f k ++ ⟨#[44]⟩ ++ decT (f k).toNat = p ++ jnT f (k + 1) := by
  apply ByteArray.ext
  apply Array.toList_inj.1
  simp [ByteArray.data_append, jnT, jn, decT, h]
end Go.Proofs.YtgooanaacebncaaDoor
