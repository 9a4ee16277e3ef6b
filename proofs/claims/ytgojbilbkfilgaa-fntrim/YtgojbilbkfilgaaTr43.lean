/- Laid together: Contains, InGroupWalks, Give. -/
import Derived.Test.YtgojbilbkfilgaaTr36
import Derived.Deep.QuietTactic
import Derived.BigQuiet
import Derived.Handy
import Derived.Test.YtgojbilbkfilgaaTr42
import Derived.Test.YtgojbilbkfilgaaTr41
import Derived.Test.YtgojbilbkfilgaaTr38
/- slices.Index and slices.Contains of numbers. -/
namespace Go.Proofs.Ytgojbilbkfilgaa
open Go.RowKit Go.PlainAid
set_option linter.unusedVariables false
theorem anyG_hit {f : Nat → Int} {gid : Int} {k n : Nat} (h : k < n) (hk : f k = gid) : anyG f gid n = true := by
  induction n with
  | zero => omega
  | succ n ih =>
    by_cases e : k = n
    · subst e; simp [anyG, hk]
    · simp [anyG, ih (by omega)]
theorem anyG_next {f : Nat → Int} {gid : Int} {k : Nat} (h : anyG f gid k = false) (hk : f k ≠ gid) : anyG f gid (k + 1) = false := by simp [anyG, h, hk]
theorem index_none (a : Option Addr) (cap : Nat) (gid : Int) (w : World) :
    Calls Try.prog 143 #[.slice a 0 cap, .int .i64 gid] w fun e w' => e = .returned (.int .i64 (-1)) ∧ w' = w := by
  go_enter Try.func143, Try.ntmps143
  go_wp2
  go_rounds 1
  go_ret
  exact ⟨rfl, rfl⟩
set_option maxHeartbeats 1000000 in
theorem index_some (b off len cap : Nat) (f : Nat → Int) (gid : Int) (hl : len ≤ 1048576) (w : World) (hc : Hid (∀ i, i < len → w.cell? ⟨b, off + i, none⟩ = some (.int .i64 (f i)))) :
    Calls Try.prog 143 #[.slice (some ⟨b, off, none⟩) len cap, .int .i64 gid] w fun e w' => (∃ z : Int, e = .returned (.int .i64 z) ∧ decide (0 ≤ z) = anyG f gid len) ∧ w' = w := by
  go_enter Try.func143, Try.ntmps143
  go_wp2
  go_loop [8] (fun i => ∃ k : Nat, k ≤ len ∧ i = .int .i64 k ∧ Hid (anyG f gid k = false)) (fun i => len - (intOf i).toNat)
  case atStart => exact ⟨0, Nat.zero_le _, rfl, rfl⟩
  case round =>
    obtain ⟨k, hk, rfl, hto⟩ := hrel
    by_cases hlt : k < len
    · have g0 := hc.out k hlt
      by_cases he : f k = gid
      · have hy : Hid (anyG f gid len = true) := anyG_hit hlt he
        have q : (gid == f k) = true := by rw [he]; simp
        clear he
        go_wp2
        go_ret
        exact ⟨⟨k, rfl, by rw [hy.out]; simp⟩, rfl⟩
      · have hy : Hid (anyG f gid (k + 1) = false) := anyG_next hto.out he
        have q : (gid == f k) = false := by rw [beq_eq_false_iff_ne]; exact fun e => he e.symm
        clear he
        go_wp2
        go_round
        case rel => exact ⟨k + 1, by omega, by go_num, hy⟩
        case measure => simp [intOf]; omega
    · have : k = len := by omega
      subst this
      go_wp2
      go_ret
      exact ⟨⟨-1, rfl, by rw [hto.out]; decide⟩, rfl⟩
theorem index_any (a : Option Addr) (len cap : Nat) (f : Nat → Int) (gid : Int) (hl : len ≤ 1048576) (w : World) (hi : Ints a len f w) :
    Calls Try.prog 143 #[.slice a len cap, .int .i64 gid] w fun e w' => (∃ z : Int, e = .returned (.int .i64 z) ∧ decide (0 ≤ z) = anyG f gid len) ∧ w' = w := by
  by_cases h0 : len = 0
  · subst h0
    refine (index_none a cap gid w).mono ?_
    rintro e w' ⟨rfl, rfl⟩
    exact ⟨⟨-1, rfl, by simp [anyG]⟩, rfl⟩
  · obtain ⟨b, off, rfl, hlt, hc⟩ := hi (by omega)
    exact index_some b off len cap f gid hl w hc
/-- slices.Contains. -/
theorem contains_any (a : Option Addr) (len cap : Nat) (f : Nat → Int) (gid : Int) (hl : len ≤ 1048576) (w : World) (hi : Ints a len f w) :
    Calls Try.prog 136 #[.slice a len cap, .int .i64 gid] w fun e w' => e = .returned (.bool (anyG f gid len)) ∧ w' = w := by
  have hc : Hid (∀ w', w' = w → Calls Try.prog 143 #[.slice a len cap, .int .i64 gid] w' fun e w'' => (∃ z : Int, e = .returned (.int .i64 z) ∧ decide (0 ≤ z) = anyG f gid len) ∧ w'' = w') := (fun w' e => by subst e; exact index_any a len cap f gid hl w' hi)
  clear hi
  go_enter Try.func136, Try.ntmps136
  go_wp2_with (go_at_call 143; refine (hc.out _ rfl).mono ?_; rintro e w' ⟨⟨z, rfl, hz⟩, rfl⟩)
  go_ret
  exact ⟨rfl, rfl⟩
end Go.Proofs.Ytgojbilbkfilgaa
/- InGroup: the program's, by the library's slices.Contains, and the specification's. -/
namespace Go.Proofs.Ytgojbilbkfilgaa
open Go.RowKit Go.PlainAid
set_option linter.unusedVariables false
theorem inGB_no {u g : Int} {len : Nat} {f : Nat → Int} {gid : Int} (h : credB u g len f = false) : inGB u g len f gid = false := by simp [inGB, h]
theorem inGB_yes {u g : Int} {len : Nat} {f : Nat → Int} {gid : Int} (h : credB u g len f = true) : inGB u g len f gid = (g == gid || anyG f gid len) := by simp [inGB, h]
set_option maxHeartbeats 2000000 in
/-- impl.InGroup. -/
theorem iInGroup_any (u g : Int) (a : Option Addr) (len cap : Nat) (r : Bool) (gid : Int) (f : Nat → Int) (w : World) (hi : Ints a len f w) :
    Calls Try.prog 124 #[.agg #[.int .i64 u, .int .i64 g, .slice a len cap, .bool r], .int .i64 gid] w fun e w' => e = .returned (.bool (inGB u g len f gid)) ∧ Below w.heap.size w w' := by
  have hr : Hid (∀ w', Below w.heap.size w w' → Calls Try.prog 97 #[.agg #[.int .i64 u, .int .i64 g, .slice a len cap, .bool r]] w' fun e w'' => e = .returned (.bool (credB u g len f)) ∧ Below w'.heap.size w' w'') := (fun w' hb => iCredRight_any u g a len cap r f w' (hi.below hb))
  have hB0 : Hid (Below w.heap.size w (w.alloc (.cells #[.int .i64 u, .int .i64 g, .slice a len cap, .bool r] 44))) := (Below.refl _ _).alloc (Nat.le_refl _) _
  cases h0 : credB u g len f
  · have hy : Hid (inGB u g len f gid = false) := inGB_no h0
    rw [h0] at hr
    clear hi
    go_enter Try.func124, Try.ntmps124
    go_wp2_with (go_at_call 97; refine (hr.out _ hB0.out).mono ?_; rintro e w1 ⟨rfl, hb1⟩)
    go_ret
    exact ⟨ret_boolW hy.out.symm, hB0.out.trans (hb1.mono (by simp))⟩
  · have hy : Hid (inGB u g len f gid = (g == gid || anyG f gid len)) := inGB_yes h0
    have h8 : len ≤ 8 := gr_len (credB_iff.mp h0).2.2
    rw [h0] at hr
    have hc : Hid (∀ w', Below w.heap.size w w' → Calls Try.prog 136 #[.slice a len cap, .int .i64 gid] w' fun e w'' => e = .returned (.bool (anyG f gid len)) ∧ w'' = w') := (fun w' hb => contains_any a len cap f gid (by omega) w' (hi.below hb))
    clear hi
    by_cases he : g = gid
    · have q : (gid == g) = true := by rw [he]; simp
      have q2 : Hid ((g == gid || anyG f gid len) = true) := (by show (g == gid || anyG f gid len) = true; rw [he]; simp)
      clear he
      go_enter Try.func124, Try.ntmps124
      go_wp2_with (go_at_call 97; refine (hr.out _ hB0.out).mono ?_; rintro e w1 ⟨rfl, hb1⟩; have xc1 : w1.cell? ⟨w.heap.size, 1, none⟩ = some (.int .i64 g) := (hb1.cell (p := ⟨w.heap.size, 1, none⟩) (by simp)).trans (by simp))
      go_ret
      exact ⟨ret_boolW (q2.out.symm.trans hy.out.symm), hB0.out.trans (hb1.mono (by simp))⟩
    · have q : (gid == g) = false := by rw [beq_eq_false_iff_ne]; exact fun e => he e.symm
      have q2 : Hid ((g == gid || anyG f gid len) = anyG f gid len) := (by show (g == gid || anyG f gid len) = anyG f gid len; simp [he])
      clear he
      go_enter Try.func124, Try.ntmps124
      go_wp2_with (first | (go_at_call 97; refine (hr.out _ hB0.out).mono ?_; rintro e w1 ⟨rfl, hb1⟩; have xc1 : w1.cell? ⟨w.heap.size, 1, none⟩ = some (.int .i64 g) := (hb1.cell (p := ⟨w.heap.size, 1, none⟩) (by simp)).trans (by simp); have xc2 : w1.cell? ⟨w.heap.size, 2, none⟩ = some (.slice a len cap) := (hb1.cell (p := ⟨w.heap.size, 2, none⟩) (by simp)).trans (by simp)) | (go_at_call 136; refine (hc.out _ (hB0.out.trans (hb1.mono (by simp)))).mono ?_; rintro e w2 ⟨rfl, rfl⟩))
      go_ret
      exact ⟨ret_boolW (q2.out.symm.trans hy.out.symm), hB0.out.trans (hb1.mono (by simp))⟩
set_option maxHeartbeats 2000000 in
/-- spec.l02In, of a Cred of few groups. -/
theorem l02In_some (u g : Int) (a : Option Addr) (len cap : Nat) (r : Bool) (gid : Int) (f : Nat → Int) (hl : len ≤ 8) (w : World) (hi : Hid (Ints a len f w)) :
    Calls Try.prog 127 #[.agg #[.int .i64 u, .int .i64 g, .slice a len cap, .bool r], .int .i64 gid] w fun e w' => e = .returned (.bool (g == gid || anyG f gid len)) ∧ Below w.heap.size w w' := by
  go_enter Try.func127, Try.ntmps127
  go_wp2
  go_loop [5, 6] (fun x i => ∃ k : Nat, k ≤ len ∧ i = .int .i64 k ∧ x = .bool (g == gid || anyG f gid k)) (fun _ i => len - (intOf i).toNat)
  case atStart => exact ⟨0, Nat.zero_le _, rfl, by simp [anyG]⟩
  case round =>
    obtain ⟨k, hk, rfl, rfl⟩ := hrel
    by_cases hlt : k < len
    · obtain ⟨b, off, rfl, hb, hc⟩ := hi.out (by omega)
      have g0 : (w.alloc (.cells #[.int .i64 u, .int .i64 g, .slice (some ⟨b, off, none⟩) len cap, .bool r] 44)).cell? ⟨b, off + k, none⟩ = some (.int .i64 (f k)) := ((((Below.refl w.heap.size w).alloc (Nat.le_refl _) _).cell (p := ⟨b, off + k, none⟩) hb)).trans (hc k hlt)
      have hn : Hid ((g == gid || anyG f gid (k + 1)) = ((g == gid || anyG f gid k) || f k == gid)) := (by show (g == gid || anyG f gid (k + 1)) = ((g == gid || anyG f gid k) || f k == gid); simp [anyG, Bool.or_assoc])
      clear hc
      cases hx : (g == gid || anyG f gid k)
      · rw [hx] at hn
        go_wp2
        go_round
        case rel => exact ⟨k + 1, by omega, by go_num, by rw [hn.out]; simp⟩
        case measure => simp [intOf]; omega
      · rw [hx] at hn
        go_wp2
        go_round
        case rel => exact ⟨k + 1, by omega, by go_num, by rw [hn.out]; simp⟩
        case measure => simp [intOf]; omega
    · have : k = len := by omega
      subst this
      obtain ⟨x, hgx⟩ : ∃ x, Hid ((g == gid || anyG f gid k) = x) := ⟨_, rfl⟩
      rw [hgx.out]
      go_wp2
      go_ret
      exact ⟨ret_boolW hgx.out.symm, (Below.refl _ _).alloc (Nat.le_refl _) _⟩
end Go.Proofs.Ytgojbilbkfilgaa
/- impl.ofAsker, impl.given: what a list in order gives somebody. -/
namespace Go.Proofs.Ytgojbilbkfilgaa
open Go.RowKit Go.PlainAid Go.Shelf
set_option linter.unusedVariables false
attribute [local go_sem] Oper.semAt_some
/-- It is of somebody. -/
def askB (owner group u g : Int) (len : Nat) (f : Nat → Int) (x : Ac) : Bool :=
  if x.wh = 1 then u == owner else if x.wh = 2 then inGB u g len f group else if x.wh = 3 then true else if x.wh = 4 then u == x.id else if x.wh = 5 then inGB u g len f x.id else false
/-- Four cells of a block. -/
structure Box4A (w : World) (B : Nat) (v0 v1 v2 v3 : Value) : Prop where
  lt : B < w.heap.size
  c0 : w.cell? ⟨B, 0, none⟩ = some v0
  c1 : w.cell? ⟨B, 1, none⟩ = some v1
  c2 : w.cell? ⟨B, 2, none⟩ = some v2
  c3 : w.cell? ⟨B, 3, none⟩ = some v3
theorem Box4A.keep {w w' : World} {B : Nat} {v0 v1 v2 v3 : Value} (h : Box4A w B v0 v1 v2 v3) (hlt : B < w'.heap.size) (hc : ∀ o, w'.cell? ⟨B, o, none⟩ = w.cell? ⟨B, o, none⟩) : Box4A w' B v0 v1 v2 v3 := ⟨hlt, (hc 0).trans h.c0, (hc 1).trans h.c1, (hc 2).trans h.c2, (hc 3).trans h.c3⟩
theorem Box4A.below {w w' : World} {B : Nat} {v0 v1 v2 v3 : Value} (h : Box4A w B v0 v1 v2 v3) {n : Nat} (hn : B < n) (hb : Below n w w') : Box4A w' B v0 v1 v2 v3 :=
  h.keep (Nat.lt_of_lt_of_le h.lt hb.size) (fun o => hb.cell (p := ⟨B, o, none⟩) hn)
theorem box4A_new (w : World) (v0 v1 v2 v3 : Value) (t : TypeId) : Box4A (w.alloc (.cells #[v0, v1, v2, v3] t)) w.heap.size v0 v1 v2 v3 := by
  have hb : (w.alloc (.cells #[v0, v1, v2, v3] t)).heap[w.heap.size]? = some (.cells #[v0, v1, v2, v3] t) := by
    rw [World.alloc]
    exact Array.getElem?_push_size
  refine ⟨by simp, ?_, ?_, ?_, ?_⟩ <;> (simp only [World.cell?, hb]; rfl)
set_option maxHeartbeats 1000000 in
theorem ofAsker_any (owner group u g : Int) (a : Option Addr) (len cap : Nat) (r : Bool) (w : World) :
    Calls Try.prog 112 #[.int .i64 owner, .int .i64 group, .agg #[.int .i64 u, .int .i64 g, .slice a len cap, .bool r]] w fun e w' => e = .returned (.func (.func 132) #[] #[.pointer (some ⟨w.heap.size + 1 + 1, 0, none⟩), .pointer (some ⟨w.heap.size, 0, none⟩), .pointer (some ⟨w.heap.size + 1, 0, none⟩)]) ∧ w' = ((w.alloc (.cells #[.int .i64 owner] 2)).alloc (.cells #[.int .i64 group] 2)).alloc (.cells #[.int .i64 u, .int .i64 g, .slice a len cap, .bool r] 44) := by
  go_enter Try.func112, Try.ntmps112
  go_wp2
  go_ret
  exact ⟨rfl, rfl⟩
set_option maxHeartbeats 4000000 in
theorem ofAsker1_any (x : Ac) (owner group u g : Int) (a : Option Addr) (len cap : Nat) (r : Bool) (f : Nat → Int) (Cc Co Cg : Nat) (w : World) (hi : Ints a len f w) (hb : Box4A w Cc (.int .i64 u) (.int .i64 g) (.slice a len cap) (.bool r)) (ho : w.cell? ⟨Co, 0, none⟩ = some (.int .i64 owner)) (hg : w.cell? ⟨Cg, 0, none⟩ = some (.int .i64 group)) :
    Calls Try.prog 132 #[.agg #[.bool x.al, .int .i64 x.wh, .int .i64 x.id, .int .i64 x.fl, .int .i64 x.ma], .pointer (some ⟨Cc, 0, none⟩), .pointer (some ⟨Co, 0, none⟩), .pointer (some ⟨Cg, 0, none⟩)] w fun e w' => e = .returned (.bool (askB owner group u g len f x)) ∧ Below w.heap.size w w' := by
  have hba := bel_alloc w (.cells #[.bool x.al, .int .i64 x.wh, .int .i64 x.id, .int .i64 x.fl, .int .i64 x.ma] 61)
  obtain ⟨bl, b0, b1, b2, b3⟩ := hb.below hb.lt hba
  have o1 := (hba.cell (p := ⟨Co, 0, none⟩) (block_lt_of_cell ho)).trans ho
  have g1 := (hba.cell (p := ⟨Cg, 0, none⟩) (block_lt_of_cell hg)).trans hg
  have hG : Hid (∀ gid, Calls Try.prog 124 #[.agg #[.int .i64 u, .int .i64 g, .slice a len cap, .bool r], .int .i64 gid] (w.alloc (.cells #[.bool x.al, .int .i64 x.wh, .int .i64 x.id, .int .i64 x.fl, .int .i64 x.ma] 61)) fun e w' => e = .returned (.bool (inGB u g len f gid)) ∧ Below w.heap.size w w') := (fun gid => (iInGroup_any u g a len cap r gid f _ (hi.below hba)).mono (fun e w' ⟨h1, h2⟩ => ⟨h1, Below.on hba h2⟩))
  have hB : Hid (Below w.heap.size w (w.alloc (.cells #[.bool x.al, .int .i64 x.wh, .int .i64 x.id, .int .i64 x.fl, .int .i64 x.ma] 61))) := hba
  have hQ : Hid (askB owner group u g len f x = (if x.wh = 1 then u == owner else if x.wh = 2 then inGB u g len f group else if x.wh = 3 then true else if x.wh = 4 then u == x.id else if x.wh = 5 then inGB u g len f x.id else false)) := rfl
  clear hi hb ho hg hba
  cases h1 : (x.wh == 1)
  · have n1 : ¬ x.wh = 1 := by simpa using h1
    cases h2 : (x.wh == 2)
    · have n2 : ¬ x.wh = 2 := by simpa using h2
      cases h3 : (x.wh == 3)
      · have n3 : ¬ x.wh = 3 := by simpa using h3
        cases h4 : (x.wh == 4)
        · have n4 : ¬ x.wh = 4 := by simpa using h4
          cases h5 : (x.wh == 5)
          · have n5 : ¬ x.wh = 5 := by simpa using h5
            have hr : Hid (askB owner group u g len f x = false) := (by show _ = _; rw [hQ.out, if_neg n1, if_neg n2, if_neg n3, if_neg n4, if_neg n5])
            clear n1 n2 n3 n4 n5 hQ hG
            go_enter Try.func132, Try.ntmps132
            go_wp2
            go_ret
            exact ⟨ret_boolW hr.out.symm, hB.out⟩
          · have n5 : x.wh = 5 := by simpa using h5
            have hr : Hid (askB owner group u g len f x = inGB u g len f x.id) := (by show _ = _; rw [hQ.out, if_neg n1, if_neg n2, if_neg n3, if_neg n4, if_pos n5])
            clear n1 n2 n3 n4 n5 hQ
            go_enter Try.func132, Try.ntmps132
            go_wp2_with (go_at_call 124; refine (hG.out _).mono ?_; rintro e w1 ⟨rfl, hb1⟩)
            go_ret
            exact ⟨ret_boolW hr.out.symm, hb1⟩
        · have n4 : x.wh = 4 := by simpa using h4
          have hr : Hid (askB owner group u g len f x = (u == x.id)) := (by show _ = _; rw [hQ.out, if_neg n1, if_neg n2, if_neg n3, if_pos n4])
          clear n1 n2 n3 n4 hQ hG
          go_enter Try.func132, Try.ntmps132
          go_wp2
          go_ret
          exact ⟨ret_boolW hr.out.symm, hB.out⟩
      · have n3 : x.wh = 3 := by simpa using h3
        have hr : Hid (askB owner group u g len f x = true) := (by show _ = _; rw [hQ.out, if_neg n1, if_neg n2, if_pos n3])
        clear n1 n2 n3 hQ hG
        go_enter Try.func132, Try.ntmps132
        go_wp2
        go_ret
        exact ⟨ret_boolW hr.out.symm, hB.out⟩
    · have n2 : x.wh = 2 := by simpa using h2
      have hr : Hid (askB owner group u g len f x = inGB u g len f group) := (by show _ = _; rw [hQ.out, if_neg n1, if_pos n2])
      clear n1 n2 hQ
      go_enter Try.func132, Try.ntmps132
      go_wp2_with (go_at_call 124; refine (hG.out _).mono ?_; rintro e w1 ⟨rfl, hb1⟩)
      go_ret
      exact ⟨ret_boolW hr.out.symm, hb1⟩
  · have n1 : x.wh = 1 := by simpa using h1
    have hr : Hid (askB owner group u g len f x = (u == owner)) := (by show _ = _; rw [hQ.out, if_pos n1])
    clear n1 hQ hG
    go_enter Try.func132, Try.ntmps132
    go_wp2
    go_ret
    exact ⟨ret_boolW hr.out.symm, hB.out⟩
end Go.Proofs.Ytgojbilbkfilgaa
