/- Laid together: WrT, ChmodF. -/
import Derived.Test.YtdidbaadladkpaaDoorNm29
import Derived.Test.YtdidbaadladkpaaDoorNm41
import Derived.Test.YtdidbaadladkpaaDoorNm40
import Derived.Test.YtdidbaadladkpaaDoorNm42
import Derived.Test.YtdidbaadladkpaaDoorNm43
import Derived.Test.YtdidbaadladkpaaDoorNm30
/- An answer with a list in order: two cells that may be written. -/
namespace Go.Proofs.YtdidbaadladkpaaDoor
open Go.RowKit Go.PlainAid Go.Deep
set_option linter.unusedVariables false
def AnsP (p : List Ac × Int) (w : World) (e : Ending) (w' : World) : Prop := AnsN p.1 p.2 w e w'
theorem ansP_ill {p : List Ac × Int} {c : Int} (h : p = ([], c)) {w w' : World} (hb : Below w.heap.size w w') : AnsP p w (.returned (.agg #[.slice none 0 0, .int .i64 c])) w' := by
  subst h
  exact ⟨none, 0, rfl, newA_nil hb⟩
theorem ansP_of {p : List Ac × Int} {xs : List Ac} {c : Int} (h : p = (xs, c)) {n : Nat} (hn : xs.length = n) {w w' : World} {a : Option Addr} {cp : Nat} (hN : NewA w w' a n xs) : AnsP p w (.returned (.agg #[.slice a n cp, .int .i64 c])) w' := by
  subst h
  subst hn
  exact ⟨a, cp, rfl, hN⟩
/-- Two cells that may be written: an empty answer. -/
structure Wr2 (w : World) (b : Nat) : Prop where
  lt : b < w.heap.size
  c0 : w.cell? ⟨b, 0, none⟩ = some (.slice none 0 0)
  c1 : w.cell? ⟨b, 1, none⟩ = some (.int .i64 0)
  z : ∀ o, w.frozen? ⟨b, o, none⟩ = false
theorem Wr2.below {w w' : World} {b : Nat} (h : Wr2 w b) (hb : Below w.heap.size w w') : Wr2 w' b := by
  have hc := fun o => hb.cell (p := ⟨b, o, none⟩) h.lt
  exact ⟨Nat.lt_of_lt_of_le h.lt hb.size, (hc 0).trans h.c0, (hc 1).trans h.c1, fun o => (hb.frozen (p := ⟨b, o, none⟩) h.lt).trans (h.z o)⟩
theorem wr2_new (w : World) (t : TypeId) : Wr2 (w.alloc (.cells #[.slice none 0 0, .int .i64 0] t)) w.heap.size := by
  have hb : (w.alloc (.cells #[.slice none 0 0, .int .i64 0] t)).heap[w.heap.size]? = some (.cells #[.slice none 0 0, .int .i64 0] t) := by
    rw [World.alloc]
    exact Array.getElem?_push_size
  refine ⟨by simp, ?_, ?_, fun o => ?_⟩
  · simp only [World.cell?, hb]; rfl
  · simp only [World.cell?, hb]; rfl
  · unfold World.frozen?
    simp only [hb]
    simp
theorem sIll5_any (c : Int) (w : World) :
    Calls Tryd.prog 56 #[.int .i64 c] w fun e w' => e = .returned (.agg #[.slice none 0 0, .int .i64 c]) ∧ Below w.heap.size w w' := by
  go_enter Tryd.func56, Tryd.ntmps56
  go_wp2
  exact bodyPost_ret (v := .agg #[.slice none 0 0, .int .i64 c]) (by simp [results, Tryd.results56, go_sem]) rfl ⟨rfl, bel_alloc _ _⟩
end Go.Proofs.YtdidbaadladkpaaDoor
/- NfsChmod, the program's and the specification's. -/
namespace Go.Proofs.YtdidbaadladkpaaDoor
open Go.RowKit Go.PlainAid Go.Deep
set_option linter.unusedVariables false
/-- NfsChmod. -/
def chP (l : List Ac) (n : Int) : List Ac × Int :=
  if 400 < l.length then ([], 2) else if acesB l = true ∧ inR 0 4095 n = true then (if 32 < (chL l (n / 64 % 8) (n / 8 % 8) (n % 8)).length then ([], 9) else (chL l (n / 64 % 8) (n / 8 % 8) (n % 8), 0)) else ([], 1)
theorem chP_len (l : List Ac) (n : Int) : (chP l n).1.length ≤ 32 := by
  unfold chP
  split
  · simp
  · split
    · split
      · simp
      · show (chL l _ _ _).length ≤ 32
        omega
    · simp
theorem chP_big {l : List Ac} {n : Int} (h : 400 < l.length) : chP l n = ([], 2) := by rw [chP, if_pos h]
theorem chP_ill {l : List Ac} {n : Int} (h : ¬ 400 < l.length) (h2 : ¬ (acesB l = true ∧ inR 0 4095 n = true)) : chP l n = ([], 1) := by rw [chP, if_neg h, if_neg h2]
theorem chP_full {l : List Ac} {n : Int} (h : ¬ 400 < l.length) (h2 : acesB l = true ∧ inR 0 4095 n = true) (h3 : 32 < (chL l (n / 64 % 8) (n / 8 % 8) (n % 8)).length) : chP l n = ([], 9) := by rw [chP, if_neg h, if_pos h2, if_pos h3]
theorem chP_yes {l : List Ac} {n : Int} (h : ¬ 400 < l.length) (h2 : acesB l = true ∧ inR 0 4095 n = true) (h3 : ¬ 32 < (chL l (n / 64 % 8) (n / 8 % 8) (n % 8)).length) : chP l n = (chL l (n / 64 % 8) (n / 8 % 8) (n % 8), 0) := by rw [chP, if_neg h, if_pos h2, if_neg h3]
set_option maxRecDepth 100000 in
set_option maxHeartbeats 4000000 in
/-- spec.NfsChmod. -/
theorem sNfsChmod_any (a : Option Addr) (len cap : Nat) (l : List Ac) (n : Int) (hcap : len ≤ cap) (hl : len ≤ 1048576) (w : World) (hi : Acs a len l w) :
    Calls Tryd.prog 36 #[.slice a len cap, .int .i64 n] w (AnsP (chP l n) w) := by
  have hln := hi.1
  have hY : Hid (Wr2 (w.alloc (.cells #[.slice none 0 0, .int .i64 0] 37)) w.heap.size) := wr2_new w _
  have hW0 : Hid (Below w.heap.size w (w.alloc (.cells #[.slice none 0 0, .int .i64 0] 37))) := bel_alloc _ _
  have HIL : Hid (∀ (c : Int) (w : World), Calls Tryd.prog 56 #[.int .i64 c] w fun e w' => e = .returned (.agg #[.slice none 0 0, .int .i64 c]) ∧ Below w.heap.size w w') := sIll5_any
  have HMO : Hid (∀ w, Calls Tryd.prog 68 #[.int .i64 n] w fun e w' => e = .returned (.bool (inR 0 4095 n)) ∧ w' = w) := sMode_any n
  have HR : Hid (∀ w', Below w.heap.size w w' → Calls Tryd.prog 24 #[.slice a len cap] w' fun e w'' => e = .returned (.bool (acesB l)) ∧ Below w'.heap.size w' w'') := (fun w' hb => sNfsRight_any a len cap l hl w' (hi.below hb))
  by_cases h4 : 400 < len
  · have h4' : (400 : Int) < (len : Int) := by omega
    have hO : Hid (chP l n = ([], 2)) := chP_big (by omega)
    clear hi HR HMO hln h4
    go_enter Tryd.func36, Tryd.ntmps36
    go_wp2_with fail
    refine (HIL.out 2 _).mono ?_
    rintro e w1 ⟨rfl, hb1⟩
    have hW1 : Hid (Below w.heap.size w w1) := Below.on hW0.out hb1
    obtain ⟨yl, y0, y1, yz⟩ := hY.out.below hb1
    have yz0 := yz 0
    have yz1 := yz 1
    clear yz hb1
    go_wp2
    refine bodyPost_ret (v := .agg #[.slice none 0 0, .int .i64 2]) (by simp [results, Tryd.results36, go_sem, y0, y1]) rfl (ansP_ill hO.out ?_)
    repeat (refine bl_setA ?_ (Nat.le_refl _))
    exact hW1.out
  have h4' : ¬ (400 : Int) < (len : Int) := by omega
  have HN4 : Hid (¬ 400 < l.length) := (by show ¬ _; omega)
  cases ha : acesB l
  · rw [ha] at HR
    have hO : Hid (chP l n = ([], 1)) := chP_ill HN4.out (by rw [ha]; simp)
    clear hi HMO hln ha h4
    go_enter Tryd.func36, Tryd.ntmps36
    go_wp2_with fail
    refine (HR.out _ hW0.out).mono ?_
    rintro e w1 ⟨rfl, hb1⟩
    have hW1 : Hid (Below w.heap.size w w1) := Below.on hW0.out hb1
    have hY1 : Hid (Wr2 w1 w.heap.size) := hY.out.below hb1
    clear hb1
    go_wp2_with fail
    refine (HIL.out 1 _).mono ?_
    rintro e w2 ⟨rfl, hb2⟩
    have hW2 : Hid (Below w.heap.size w w2) := Below.on hW1.out hb2
    obtain ⟨yl, y0, y1, yz⟩ := hY1.out.below hb2
    have yz0 := yz 0
    have yz1 := yz 1
    clear yz hb2
    go_wp2
    refine bodyPost_ret (v := .agg #[.slice none 0 0, .int .i64 1]) (by simp [results, Tryd.results36, go_sem, y0, y1]) rfl (ansP_ill hO.out ?_)
    repeat (refine bl_setA ?_ (Nat.le_refl _))
    exact hW2.out
  rw [ha] at HR
  cases hm : inR 0 4095 n
  · rw [hm] at HMO
    have hO : Hid (chP l n = ([], 1)) := chP_ill HN4.out (by rw [hm]; simp)
    clear hi hln ha h4 hm
    go_enter Tryd.func36, Tryd.ntmps36
    go_wp2_with fail
    refine (HR.out _ hW0.out).mono ?_
    rintro e w1 ⟨rfl, hb1⟩
    have hW1 : Hid (Below w.heap.size w w1) := Below.on hW0.out hb1
    have hY1 : Hid (Wr2 w1 w.heap.size) := hY.out.below hb1
    clear hb1
    go_wp2_with fail
    refine (HMO.out _).mono ?_
    rintro e w1 ⟨rfl, rfl⟩
    go_wp2_with fail
    refine (HIL.out 1 _).mono ?_
    rintro e w2 ⟨rfl, hb2⟩
    have hW2 : Hid (Below w.heap.size w w2) := Below.on hW1.out hb2
    obtain ⟨yl, y0, y1, yz⟩ := hY1.out.below hb2
    have yz0 := yz 0
    have yz1 := yz 1
    clear yz hb2
    go_wp2
    refine bodyPost_ret (v := .agg #[.slice none 0 0, .int .i64 1]) (by simp [results, Tryd.results36, go_sem, y0, y1]) rfl (ansP_ill hO.out ?_)
    repeat (refine bl_setA ?_ (Nat.le_refl _))
    exact hW2.out
  rw [hm] at HMO
  obtain ⟨m0, m1⟩ := inR_iff.1 hm
  have HCH : Hid (∀ w', Below w.heap.size w w' → Calls Tryd.prog 69 #[.slice a len cap, .int .i64 n] w' fun e w'' => ∃ a' c', e = .returned (.slice a' (chL l (n / 64 % 8) (n / 8 % 8) (n % 8)).length c') ∧ RowO w' w'' a' c' (chL l (n / 64 % 8) (n / 8 % 8) (n % 8))) := (fun w' hb => sChmodL_any a len cap l ha n m0 m1 w' (hi.below hb))
  have HO9 : Hid (32 < (chL l (n / 64 % 8) (n / 8 % 8) (n % 8)).length → chP l n = ([], 9)) := chP_full HN4.out ⟨ha, hm⟩
  have HO0 : Hid (¬ 32 < (chL l (n / 64 % 8) (n / 8 % 8) (n % 8)).length → chP l n = (chL l (n / 64 % 8) (n / 8 % 8) (n % 8), 0)) := chP_yes HN4.out ⟨ha, hm⟩
  generalize chL l (n / 64 % 8) (n / 8 % 8) (n % 8) = CL at HCH HO9 HO0
  clear hi hln ha h4 hm m0 m1
  go_enter Tryd.func36, Tryd.ntmps36
  go_wp2_with fail
  refine (HR.out _ hW0.out).mono ?_
  rintro e w1 ⟨rfl, hb1⟩
  have hW1 : Hid (Below w.heap.size w w1) := Below.on hW0.out hb1
  have hY1 : Hid (Wr2 w1 w.heap.size) := hY.out.below hb1
  clear hb1 HR hW0 hY
  go_wp2_with fail
  refine (HMO.out _).mono ?_
  rintro e w1 ⟨rfl, rfl⟩
  go_wp2_with fail
  refine (HCH.out _ hW1.out).mono ?_
  rintro e w2 ⟨a2, c2, rfl, hRO⟩
  have hW2 : Hid (Below w.heap.size w w2) := Below.on hW1.out hRO.2
  have hY2 : Hid (Wr2 w2 w.heap.size) := hY1.out.below hRO.2
  obtain ⟨a3, c3, hv, hOA, hin⟩ := ownA_of_row hRO.1
  have ea : a2 = a3 := by cases hv; rfl
  subst ea
  have HNA : Hid (NewA w w2 a2 CL.length CL) := ⟨hOA, fun A e => ⟨by have := (hin A e).1; have := hW1.out.size; omega, (hin A e).2⟩, hW2.out⟩
  have HNE : Hid (∀ A, a2 = some A → w.heap.size ≠ A.block) := (fun A e => by have := (hin A e).1; have := hY1.out.lt; omega)
  clear hRO hv hOA hin hY1 hW1 HCH
  by_cases h32 : 32 < CL.length
  · have h32' : (32 : Int) < (CL.length : Int) := by omega
    have hO : Hid (chP l n = ([], 9)) := HO9.out h32
    clear HO9 HO0 HNA HNE h32
    go_wp2_with fail
    refine (HIL.out 9 _).mono ?_
    rintro e w3 ⟨rfl, hb3⟩
    have hW3 : Hid (Below w.heap.size w w3) := Below.on hW2.out hb3
    obtain ⟨yl, y0, y1, yz⟩ := hY2.out.below hb3
    have yz0 := yz 0
    have yz1 := yz 1
    clear yz hb3
    go_wp2
    refine bodyPost_ret (v := .agg #[.slice none 0 0, .int .i64 9]) (by simp [results, Tryd.results36, go_sem, y0, y1]) rfl (ansP_ill hO.out ?_)
    repeat (refine bl_setA ?_ (Nat.le_refl _))
    exact hW3.out
  · have h32' : ¬ (32 : Int) < (CL.length : Int) := by omega
    have hO : Hid (chP l n = (CL, 0)) := HO0.out h32
    clear HO9 HO0
    generalize hGL : CL.length = GL at HNA h32' ⊢
    have HGL : Hid (CL.length = GL) := hGL
    clear hGL h32
    obtain ⟨yl, y0, y1, yz⟩ := hY2.out
    have yz0 := yz 0
    have yz1 := yz 1
    clear yz
    go_wp2
    refine bodyPost_ret (v := .agg #[.slice a2 GL c2, .int .i64 0]) (by simp [results, Tryd.results36, go_sem, y0, y1]) rfl (ansP_of hO.out HGL.out ?_)
    repeat (refine NewA.set ?_ (Nat.le_refl _) HNE.out)
    exact HNA.out
set_option maxRecDepth 100000 in
set_option maxHeartbeats 4000000 in
/-- impl.NfsChmod. -/
theorem iNfsChmod_any (a : Option Addr) (len cap : Nat) (l : List Ac) (n : Int) (hcap : len ≤ cap) (hl : len ≤ 1048576) (w : World) (hi : Acs a len l w) (hp : PlW w) :
    Calls Tryd.prog 34 #[.slice a len cap, .int .i64 n] w (AnsP (chP l n) w) := by
  have hln := hi.1
  have hY : Hid (Wr2 (w.alloc (.cells #[.slice none 0 0, .int .i64 0] 37)) w.heap.size) := wr2_new w _
  have hW0 : Hid (Below w.heap.size w (w.alloc (.cells #[.slice none 0 0, .int .i64 0] 37))) := bel_alloc _ _
  have HMO : Hid (∀ w, Calls Tryd.prog 64 #[.int .i64 n] w fun e w' => e = .returned (.bool (inR 0 4095 n)) ∧ w' = w) := isMode_any n
  have HR : Hid (∀ w', Below w.heap.size w w' → Calls Tryd.prog 23 #[.slice a len cap] w' fun e w'' => e = .returned (.bool (acesB l)) ∧ Below w'.heap.size w' w'') := (fun w' hb => iNfsRight_any a len cap l w' (hi.below hb))
  by_cases h4 : 400 < len
  · have h4' : (400 : Int) < (len : Int) := by omega
    have hO : Hid (chP l n = ([], 2)) := chP_big (by omega)
    clear hi HR HMO hln h4
    go_enter Tryd.func34, Tryd.ntmps34
    go_wp2
    refine bodyPost_ret (v := .agg #[.slice none 0 0, .int .i64 2]) (by simp [results, Tryd.results34, go_sem]) rfl (ansP_ill hO.out ?_)
    repeat (refine bl_setA ?_ (Nat.le_refl _))
    exact bel_alloc _ _
  have h4' : ¬ (400 : Int) < (len : Int) := by omega
  have HN4 : Hid (¬ 400 < l.length) := (by show ¬ _; omega)
  cases ha : acesB l
  · rw [ha] at HR
    have hO : Hid (chP l n = ([], 1)) := chP_ill HN4.out (by rw [ha]; simp)
    clear hi HMO hln ha h4
    go_enter Tryd.func34, Tryd.ntmps34
    go_wp2_with fail
    refine (HR.out _ hW0.out).mono ?_
    rintro e w1 ⟨rfl, hb1⟩
    have hW1 : Hid (Below w.heap.size w w1) := Below.on hW0.out hb1
    obtain ⟨yl, y0, y1, yz⟩ := hY.out.below hb1
    have yz0 := yz 0
    have yz1 := yz 1
    clear yz hb1
    go_wp2
    refine bodyPost_ret (v := .agg #[.slice none 0 0, .int .i64 1]) (by simp [results, Tryd.results34, go_sem, y0, y1]) rfl (ansP_ill hO.out ?_)
    repeat (refine bl_setA ?_ (Nat.le_refl _))
    exact hW1.out
  rw [ha] at HR
  cases hm : inR 0 4095 n
  · rw [hm] at HMO
    have hO : Hid (chP l n = ([], 1)) := chP_ill HN4.out (by rw [hm]; simp)
    clear hi hln ha h4 hm
    go_enter Tryd.func34, Tryd.ntmps34
    go_wp2_with fail
    refine (HR.out _ hW0.out).mono ?_
    rintro e w1 ⟨rfl, hb1⟩
    have hW1 : Hid (Below w.heap.size w w1) := Below.on hW0.out hb1
    have hY1 : Hid (Wr2 w1 w.heap.size) := hY.out.below hb1
    clear hb1
    go_wp2_with fail
    refine (HMO.out _).mono ?_
    rintro e w1 ⟨rfl, rfl⟩
    obtain ⟨yl, y0, y1, yz⟩ := hY1.out
    have yz0 := yz 0
    have yz1 := yz 1
    clear yz
    go_wp2
    refine bodyPost_ret (v := .agg #[.slice none 0 0, .int .i64 1]) (by simp [results, Tryd.results34, go_sem, y0, y1]) rfl (ansP_ill hO.out ?_)
    repeat (refine bl_setA ?_ (Nat.le_refl _))
    exact hW1.out
  rw [hm] at HMO
  obtain ⟨m0, m1⟩ := inR_iff.1 hm
  obtain ⟨k, rfl⟩ := Int.eq_ofNat_of_zero_le m0
  have hk : k ≤ 4095 := by omega
  have hl32 := aces_len ha
  have HCH : Hid (∀ w', Below w.heap.size w w' → Calls Tryd.prog 66 #[.slice a len cap, .int .i64 (k : Int)] w' fun e w'' => ∃ a' c, e = .returned (.slice a' (moL l ((k : Int) / 64 % 8) ((k : Int) / 8 % 8) ((k : Int) % 8)).length c) ∧ (moL l ((k : Int) / 64 % 8) ((k : Int) / 8 % 8) ((k : Int) % 8)).length ≤ c ∧ NewA w' w'' a' (moL l ((k : Int) / 64 % 8) ((k : Int) / 8 % 8) ((k : Int) % 8)).length (moL l ((k : Int) / 64 % 8) ((k : Int) / 8 % 8) ((k : Int) % 8))) := (fun w' hb => modeAces_any a len cap l ha k hk w' (hi.below hb) (hp.below hb))
  have HO9 : Hid (32 < (chL l ((k : Int) / 64 % 8) ((k : Int) / 8 % 8) ((k : Int) % 8)).length → chP l (k : Int) = ([], 9)) := chP_full HN4.out ⟨ha, hm⟩
  have HO0 : Hid (¬ 32 < (chL l ((k : Int) / 64 % 8) ((k : Int) / 8 % 8) ((k : Int) % 8)).length → chP l (k : Int) = (chL l ((k : Int) / 64 % 8) ((k : Int) / 8 % 8) ((k : Int) % 8), 0)) := chP_yes HN4.out ⟨ha, hm⟩
  have HMC : Hid (kpA (moL l ((k : Int) / 64 % 8) ((k : Int) / 8 % 8) ((k : Int) % 8)) (moL l ((k : Int) / 64 % 8) ((k : Int) / 8 % 8) ((k : Int) % 8)).length = chL l ((k : Int) / 64 % 8) ((k : Int) / 8 % 8) ((k : Int) % 8)) := mo_ch ha (by omega) (by omega) (by omega) (by omega) (by omega) (by omega)
  have HML : Hid ((moL l ((k : Int) / 64 % 8) ((k : Int) / 8 % 8) ((k : Int) % 8)).length ≤ 100 ∧ 0 < (moL l ((k : Int) / 64 % 8) ((k : Int) / 8 % 8) ((k : Int) % 8)).length) := moL_len _ _ _ hl32
  generalize chL l ((k : Int) / 64 % 8) ((k : Int) / 8 % 8) ((k : Int) % 8) = CL at HO9 HO0 HMC
  generalize moL l ((k : Int) / 64 % 8) ((k : Int) / 8 % 8) ((k : Int) % 8) = ML at HCH HMC HML
  clear hi hln ha h4 hm m0 m1 hp hl32
  go_enter Tryd.func34, Tryd.ntmps34
  go_wp2_with fail
  refine (HR.out _ hW0.out).mono ?_
  rintro e w1 ⟨rfl, hb1⟩
  have hW1 : Hid (Below w.heap.size w w1) := Below.on hW0.out hb1
  have hY1 : Hid (Wr2 w1 w.heap.size) := hY.out.below hb1
  clear hb1 HR hW0 hY
  go_wp2_with fail
  refine (HMO.out _).mono ?_
  rintro e w1 ⟨rfl, rfl⟩
  go_wp2_with fail
  refine (HCH.out _ hW1.out).mono ?_
  rintro e w2 ⟨a2, c2, rfl, hlc, hN2⟩
  obtain ⟨B, ha2, hBl, hAH⟩ := hN2.own.2 HML.out.2
  subst ha2
  have hW2 : Hid (Below w.heap.size w w2) := Below.on hW1.out hN2.bel
  have hY2 : Hid (Wr2 w2 w.heap.size) := hY1.out.below hN2.bel
  have HB1 : Hid (w1.heap.size ≤ B) := (hN2.inn _ rfl).1
  have HD : Hid (Calls Tryd.prog 65 #[.slice (some ⟨B, 0, none⟩) ML.length c2, .func (.func 67) #[] #[]] w2 fun e w' => e = .returned (.slice (some ⟨B, 0, none⟩) CL.length c2) ∧ AHold w' B (acAt CL) CL.length ∧ Below w1.heap.size w2 w' ∧ B < w'.heap.size) := (by
    have := deleteFn_any B ML.length c2 w1.heap.size ML (by have := HML.out; omega) hlc w2 hBl (hN2.inn _ rfl).1 hAH
    rw [HMC.out] at this
    exact this)
  clear hN2 hBl hAH hlc HCH HMC HML
  go_wp2_with fail
  refine HD.out.mono ?_
  rintro e w3 ⟨rfl, hA3, hb3, hz3⟩
  have hY3 : Hid (Wr2 w3 w.heap.size) := (by
    have hlt1 := hY1.out.lt
    have hc := fun o => hb3.cell (p := ⟨w.heap.size, o, none⟩) hlt1
    exact ⟨Nat.lt_of_lt_of_le hY2.out.lt hb3.size, (hc 0).trans hY2.out.c0, (hc 1).trans hY2.out.c1, fun o => (hb3.frozen (p := ⟨w.heap.size, o, none⟩) hlt1).trans (hY2.out.z o)⟩)
  have hW3 : Hid (Below w.heap.size w w3) := hW2.out.trans (hb3.mono hW1.out.size)
  have HNA : Hid (NewA w w3 (some ⟨B, 0, none⟩) CL.length CL) := ⟨⟨rfl, fun _ => ⟨B, rfl, hz3, hA3⟩⟩, fun A e => by cases e; exact ⟨Nat.le_trans hW1.out.size HB1.out, hz3⟩, hW3.out⟩
  have HNE : Hid (∀ A, (some ⟨B, 0, none⟩ : Option Addr) = some A → w.heap.size ≠ A.block) := (fun A e => by cases e; have := HB1.out; have := hY1.out.lt; show w.heap.size ≠ B; omega)
  clear hA3 hb3 hz3 hY1 hY2 hW1 hW2 HD HB1
  obtain ⟨yl, y0, y1, yz⟩ := hY3.out
  have yz0 := yz 0
  have yz1 := yz 1
  clear yz
  by_cases h32 : 32 < CL.length
  · have h32' : (32 : Int) < (CL.length : Int) := by omega
    have hO : Hid (chP l (k : Int) = ([], 9)) := HO9.out h32
    clear HO9 HO0 HNA HNE h32
    go_wp2
    refine bodyPost_ret (v := .agg #[.slice none 0 0, .int .i64 9]) (by simp [results, Tryd.results34, go_sem, y0, y1]) rfl (ansP_ill hO.out ?_)
    repeat (refine bl_setA ?_ (Nat.le_refl _))
    exact hW3.out
  · have h32' : ¬ (32 : Int) < (CL.length : Int) := by omega
    have hO : Hid (chP l (k : Int) = (CL, 0)) := HO0.out h32
    clear HO9 HO0
    generalize hGL : CL.length = GL at HNA h32' ⊢
    have HGL : Hid (CL.length = GL) := hGL
    clear hGL h32
    go_wp2
    refine bodyPost_ret (v := .agg #[.slice (some ⟨B, 0, none⟩) GL c2, .int .i64 0]) (by simp [results, Tryd.results34, go_sem, y0, y1]) rfl (ansP_of hO.out HGL.out ?_)
    repeat (refine NewA.set ?_ (Nat.le_refl _) HNE.out)
    exact HNA.out
end Go.Proofs.YtdidbaadladkpaaDoor
