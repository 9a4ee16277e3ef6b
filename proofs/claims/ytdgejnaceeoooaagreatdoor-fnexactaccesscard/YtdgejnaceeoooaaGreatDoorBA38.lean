/- Laid together: BegW. -/
import Derived.Test.YtdgejnaceeoooaaGreatDoorBA16
import Derived.Test.YtdgejnaceeoooaaGreatDoorBA37
import Derived.Deep.RegionHeld3
import Derived.Deep.DeepCutAuto
/- spec.l10Begin. -/
namespace Go.Proofs.YtdgejnaceeoooaaGreatDoor
open Go.RowKit Go.PlainAid Go.Deep
set_option linter.unusedVariables false
def begC (F : Wo) (s : ByteArray) (fi : Bool) : Int := if 8000 < s.size then 2 else if fi then F.c else 1
/-- A call at work: a tree of its own, and who asks. -/
structure BegJ (N : Nat) (w' : World) (l : List Nd) (now u g : Int) (ca : Option Addr) (cl cc : Nat) (r : Bool) (P : Nat) (v : Value) (ds : List (Nd × Na)) : Prop where
  job : BoxW w' P [v, .int .i64 now, .int .i64 u, .int .i64 g, .slice ca cl cc, .bool r]
  pw : N ≤ P
  cp : ∃ B, CpI w' B v ds ∧ N ≤ B ∧ (∀ k, v.ownBlock = some k → k < P) ∧ (∀ p ∈ ds, ∀ b, NaAt p.2 b → b < P)
  mp : ds.map (·.1) = l
theorem BegJ.below {N : Nat} {w' w2 : World} {l : List Nd} {now u g : Int} {ca : Option Addr} {cl cc : Nat} {r : Bool} {P : Nat} {v : Value} {ds : List (Nd × Na)} (h : BegJ N w' l now u g ca cl cc r P v ds) (hb : Below w'.heap.size w' w2) : BegJ N w2 l now u g ca cl cc r P v ds := by
  obtain ⟨B, h1, h2, h3, h4⟩ := h.cp
  exact ⟨h.job.below hb, h.pw, ⟨B, h1.below hb, h2, h3, h4⟩, h.mp⟩
/-- What it holds may be read. -/
theorem BegJ.mono {N M : Nat} {w' : World} {l : List Nd} {now u g : Int} {ca : Option Addr} {cl cc : Nat} {r : Bool} {P : Nat} {v : Value} {ds : List (Nd × Na)} (h : BegJ N w' l now u g ca cl cc r P v ds) (hm : M ≤ N) : BegJ M w' l now u g ca cl cc r P v ds := by
  obtain ⟨B, h1, h2, h3, h4⟩ := h.cp
  exact ⟨h.job, Nat.le_trans hm h.pw, ⟨B, h1, Nat.le_trans hm h2, h3, h4⟩, h.mp⟩
theorem BegJ.set {N : Nat} {w' : World} {l : List Nd} {now u g : Int} {ca : Option Addr} {cl cc : Nat} {r : Bool} {P : Nat} {v : Value} {ds : List (Nd × Na)} (h : BegJ N w' l now u g ca cl cc r P v ds) {Z o : Nat} {x : Value} (hz : Z < N) : BegJ N (w'.setCell ⟨Z, o, none⟩ x) l now u g ca cl cc r P v ds := by
  obtain ⟨B, h1, h2, h3, h4⟩ := h.cp
  have hp := h.pw
  exact ⟨h.job.other (by omega), h.pw, ⟨B, h1.set (by omega), h2, h3, h4⟩, h.mp⟩
theorem BegJ.nds {N : Nat} {w' : World} {l : List Nd} {now u g : Int} {ca : Option Addr} {cl cc : Nat} {r : Bool} {P : Nat} {v : Value} {ds : List (Nd × Na)} (h : BegJ N w' l now u g ca cl cc r P v ds) : ∃ a cap, v = .slice a l.length cap ∧ Nds a l.length l w' := by
  obtain ⟨B, h5, _, _, _⟩ := h.cp
  obtain ⟨a, cap, e, hn⟩ := nds_of_row h5.own h5.inn
  rw [h.mp] at hn
  have e2 : ds.length = l.length := by rw [← h.mp]; simp
  rw [e2] at hn e
  exact ⟨a, cap, e, hn⟩
set_option maxRecDepth 20000 in
set_option maxHeartbeats 8000000 in
theorem sBegin_any (a : Option Addr) (len cap : Nat) (l : List Nd) (now : Int) (u g : Int) (ca : Option Addr) (cl cc : Nat) (r : Bool) (cf : Nat → Int) (s : ByteArray) (fi fo : Bool) (hm : len ≤ 9223372036854775807) (hf : ∀ i, i < len → NdFit 1048576 (ndAt l i)) (hs : s.size ≤ 1048576) (w : World) (hi : Nds a len l w) (hci : Ints ca cl cf w) :
    Calls Tryz.prog 49 #[.agg #[.slice a len cap, .int .i64 now], .agg #[.int .i64 u, .int .i64 g, .slice ca cl cc, .bool r], .string s, .bool fi, .bool fo] w fun e w' => ∃ (W : Wo) (p : Option Addr), e = .returned (.tuple #[.pointer p, woV W, .int .i64 (begC (wkF l now u g cl r cf s fo) s fi)]) ∧ Below w.heap.size w w' ∧ (begC (wkF l now u g cl r cf s fo) s fi = 0 → W = wkF l now u g cl r cf s fo ∧ ∃ P v ds, p = some ⟨P, 0, none⟩ ∧ Hid (BegJ w.heap.size w' l now u g ca cl cc r P v ds)) := by
  have HT : Hid (∀ w', Below w.heap.size w w' → Calls Tryz.prog 33 #[.agg #[.slice a len cap, .int .i64 now]] w' fun e w'' => e = .returned (.bool (treeB l now)) ∧ Below w'.heap.size w' w'') := (fun w' hb => sTree_any a len cap l now hm hf w' (hi.below hb))
  have HCr : Hid (∀ w', Below w.heap.size w w' → Calls Tryz.prog 34 #[.agg #[.int .i64 u, .int .i64 g, .slice ca cl cc, .bool r]] w' fun e w'' => e = .returned (.bool (credB u g cl cf)) ∧ Below w'.heap.size w' w'') := (fun w' hb => sCredRight_any u g ca cl cc r cf w' (hci.below hb))
  have HWk : Hid (treeB l now = true → credB u g cl cf = true → ∀ w', Below w.heap.size w w' → Calls Tryz.prog 35 #[.agg #[.slice a len cap, .int .i64 now], .agg #[.int .i64 u, .int .i64 g, .slice ca cl cc, .bool r], .string s, .bool fo] w' fun e w'' => e = .returned (woV (wkO l (ltB l u g cl r cf) fo s)) ∧ Below w'.heap.size w' w'') := (fun ht hcr w' hb => by
    have hll := hi.1
    have h12 : len ≤ 12 := by rw [← hll]; exact tree_len ht
    have h1 : 1 ≤ len := by rw [← hll]; exact tree_one ht
    obtain ⟨tb, tf, Y, rfl, htb, hc⟩ := (hi.below hb).2 (by omega)
    exact sL09_any tb tf len cap l now u g ca cl cc r cf s fo Y h12 hll ht hcr hs w' htb hc hf (hci.below hb))
  have HCp : Hid (treeB l now = true → ∀ w', Below w.heap.size w w' → Calls Tryz.prog 93 #[.agg #[.slice a len cap, .int .i64 now]] w' fun e w'' => ∃ v ds, e = .returned (.agg #[v, .int .i64 now]) ∧ Hid (CpI w'' (w'.heap.size + 1 + 1 + 1) v ds) ∧ ds.map (·.1) = l ∧ Below w'.heap.size w' w'') := (fun ht w' hb => by
    have hll := hi.1
    have h12 : len ≤ 12 := by rw [← hll]; exact tree_len ht
    have h1 : 1 ≤ len := by rw [← hll]; exact tree_one ht
    obtain ⟨tb, tf, Y, rfl, htb, hc⟩ := (hi.below hb).2 (by omega)
    exact sCopyT_any tb tf len cap l Y now h12 hll hf w' htb hc)
  have HW : Hid (wkF l now u g cl r cf s fo = if 8000 < s.size then woC 2 else if treeB l now && credB u g cl cf then wkO l (ltB l u g cl r cf) fo s else woC 1) := rfl
  have HE0 : begC (wkF l now u g cl r cf s fo) s fi = if 8000 < s.size then 2 else if fi then (wkF l now u g cl r cf s fo).c else 1 := rfl
  clear hi hci hf
  generalize begC (wkF l now u g cl r cf s fo) s fi = R at HE0 ⊢
  generalize wkF l now u g cl r cf s fo = F at HW HE0 ⊢
  generalize wkO l (ltB l u g cl r cf) fo s = O at HW HWk
  have HB : Hid (Below w.heap.size w (((w.alloc (.cells #[.slice a len cap, .int .i64 now] 35)).alloc (.cells #[.int .i64 u, .int .i64 g, .slice ca cl cc, .bool r] 37)).alloc (.cells #[.int .i64 0, .int .i64 0, .string ⟨#[]⟩, .int .i64 0] 31))) := (Below.on (Below.on (Below.on (Below.refl _ _) (bel_alloc _ _)) (bel_alloc _ _)) (bel_alloc _ _))
  have HX : Hid (BoxR (((w.alloc (.cells #[.slice a len cap, .int .i64 now] 35)).alloc (.cells #[.int .i64 u, .int .i64 g, .slice ca cl cc, .bool r] 37)).alloc (.cells #[.int .i64 0, .int .i64 0, .string ⟨#[]⟩, .int .i64 0] 31)) (w.heap.size) [.slice a len cap, .int .i64 now]) := (by
    have h := (((boxR_new w [.slice a len cap, .int .i64 now] 35).below (bel_alloc (w.alloc (.cells #[.slice a len cap, .int .i64 now] 35)) (.cells #[.int .i64 u, .int .i64 g, .slice ca cl cc, .bool r] 37))).below (bel_alloc ((w.alloc (.cells #[.slice a len cap, .int .i64 now] 35)).alloc (.cells #[.int .i64 u, .int .i64 g, .slice ca cl cc, .bool r] 37)) (.cells #[.int .i64 0, .int .i64 0, .string ⟨#[]⟩, .int .i64 0] 31)))
    exact h)
  have HC : Hid (BoxR (((w.alloc (.cells #[.slice a len cap, .int .i64 now] 35)).alloc (.cells #[.int .i64 u, .int .i64 g, .slice ca cl cc, .bool r] 37)).alloc (.cells #[.int .i64 0, .int .i64 0, .string ⟨#[]⟩, .int .i64 0] 31)) (w.heap.size + 1) [.int .i64 u, .int .i64 g, .slice ca cl cc, .bool r]) := (by
    have h := ((boxR_new (w.alloc (.cells #[.slice a len cap, .int .i64 now] 35)) [.int .i64 u, .int .i64 g, .slice ca cl cc, .bool r] 37).below (bel_alloc ((w.alloc (.cells #[.slice a len cap, .int .i64 now] 35)).alloc (.cells #[.int .i64 u, .int .i64 g, .slice ca cl cc, .bool r] 37)) (.cells #[.int .i64 0, .int .i64 0, .string ⟨#[]⟩, .int .i64 0] 31)))
    simp only [World.size_alloc] at h
    exact h)
  have HO : Hid (BoxW (((w.alloc (.cells #[.slice a len cap, .int .i64 now] 35)).alloc (.cells #[.int .i64 u, .int .i64 g, .slice ca cl cc, .bool r] 37)).alloc (.cells #[.int .i64 0, .int .i64 0, .string ⟨#[]⟩, .int .i64 0] 31)) (w.heap.size + 1 + 1) [.int .i64 0, .int .i64 0, .string ⟨#[]⟩, .int .i64 0]) := (by
    have h := (boxW_new ((w.alloc (.cells #[.slice a len cap, .int .i64 now] 35)).alloc (.cells #[.int .i64 u, .int .i64 g, .slice ca cl cc, .bool r] 37)) [.int .i64 0, .int .i64 0, .string ⟨#[]⟩, .int .i64 0] 31)
    simp only [World.size_alloc] at h
    exact h)
  go_enter Tryz.func49, Tryz.ntmps49
  go_upto_region 1 with fail
  generalize (((w.alloc (.cells #[.slice a len cap, .int .i64 now] 35)).alloc (.cells #[.int .i64 u, .int .i64 g, .slice ca cl cc, .bool r] 37)).alloc (.cells #[.int .i64 0, .int .i64 0, .string ⟨#[]⟩, .int .i64 0] 31)) = w0 at HB HX HC HO ⊢
  obtain ⟨X, hX⟩ : ∃ X, X = w.heap.size := ⟨_, rfl⟩
  have HXw : Hid (X = w.heap.size) := hX
  rw [← hX] at HX HC HO ⊢
  clear hX
  have t0 : w0.cell? ⟨X, 0, none⟩ = some (.slice a len cap) := HX.out.at0 0 _ rfl
  have t1 : w0.cell? ⟨X, 1, none⟩ = some (.int .i64 now) := HX.out.at0 1 _ rfl
  have c0 : w0.cell? ⟨X + 1, 0, none⟩ = some (.int .i64 u) := HC.out.at0 0 _ rfl
  have c1 : w0.cell? ⟨X + 1, 1, none⟩ = some (.int .i64 g) := HC.out.at0 1 _ rfl
  have c2 : w0.cell? ⟨X + 1, 2, none⟩ = some (.slice ca cl cc) := HC.out.at0 2 _ rfl
  have c3 : w0.cell? ⟨X + 1, 3, none⟩ = some (.bool r) := HC.out.at0 3 _ rfl
  have o0 : w0.cell? ⟨X + 1 + 1, 0, none⟩ = some (.int .i64 0) := HO.out.at0 0 _ rfl
  have o1 : w0.cell? ⟨X + 1 + 1, 1, none⟩ = some (.int .i64 0) := HO.out.at0 1 _ rfl
  have o2 : w0.cell? ⟨X + 1 + 1, 2, none⟩ = some (.string ⟨#[]⟩) := HO.out.at0 2 _ rfl
  have o3 : w0.cell? ⟨X + 1 + 1, 3, none⟩ = some (.int .i64 0) := HO.out.at0 3 _ rfl
  have fz : ∀ o, w0.frozen? ⟨X + 1 + 1, o, none⟩ = false := HO.out.frz
  by_cases h8 : 8000 < s.size
  · have HE : Hid (R = 2) := (by show _ = _; rw [HE0, if_pos h8])
    have h8' : (8000 : Int) < (s.size : Int) := by omega
    clear HE0 HW HWk HCp
    go_wp2
    refine bodyPost_ret (v := .tuple #[.pointer none, .agg #[.int .i64 0, .int .i64 0, .string ⟨#[]⟩, .int .i64 0], .int .i64 (2)]) (by simp [results, Tryz.results49, go_sem, o0, o1, o2, o3]) rfl ?_
    exact ⟨⟨0, 0, emp, 0⟩, none, by rw [HE.out]; rfl, (by repeat (first | exact HB.out | refine bl_setT ?_ (by have := HXw.out; omega))), fun h => absurd h (by rw [HE.out]; decide)⟩
  have h8' : ¬ (8000 : Int) < (s.size : Int) := by omega
  rw [if_neg h8] at HW HE0
  clear h8
  cases ht : treeB l now
  · have HE : Hid (R = 1) := (by show _ = _; rw [HE0, HW.out, ht]; cases fi <;> rfl)
    rw [ht] at HT
    clear HW HE0 HWk HCp
    go_wp2_with (go_at_call 33; refine (HT.out _ HB.out).mono ?_; rintro e w1 ⟨rfl, hb⟩; replace HB : Hid (Below w.heap.size w w1) := Below.on HB.out hb; replace HX : Hid (BoxR w1 (X) [.slice a len cap, .int .i64 now]) := HX.out.below hb; replace HC : Hid (BoxR w1 (X + 1) [.int .i64 u, .int .i64 g, .slice ca cl cc, .bool r]) := HC.out.below hb; replace HO : Hid (BoxW w1 (X + 1 + 1) [.int .i64 0, .int .i64 0, .string ⟨#[]⟩, .int .i64 0]) := HO.out.below hb; clear hb; replace t0 : w1.cell? ⟨X, 0, none⟩ = some (.slice a len cap) := HX.out.at0 0 _ rfl; replace t1 : w1.cell? ⟨X, 1, none⟩ = some (.int .i64 now) := HX.out.at0 1 _ rfl; replace c0 : w1.cell? ⟨X + 1, 0, none⟩ = some (.int .i64 u) := HC.out.at0 0 _ rfl; replace c1 : w1.cell? ⟨X + 1, 1, none⟩ = some (.int .i64 g) := HC.out.at0 1 _ rfl; replace c2 : w1.cell? ⟨X + 1, 2, none⟩ = some (.slice ca cl cc) := HC.out.at0 2 _ rfl; replace c3 : w1.cell? ⟨X + 1, 3, none⟩ = some (.bool r) := HC.out.at0 3 _ rfl; replace o0 : w1.cell? ⟨X + 1 + 1, 0, none⟩ = some (.int .i64 0) := HO.out.at0 0 _ rfl; replace o1 : w1.cell? ⟨X + 1 + 1, 1, none⟩ = some (.int .i64 0) := HO.out.at0 1 _ rfl; replace o2 : w1.cell? ⟨X + 1 + 1, 2, none⟩ = some (.string ⟨#[]⟩) := HO.out.at0 2 _ rfl; replace o3 : w1.cell? ⟨X + 1 + 1, 3, none⟩ = some (.int .i64 0) := HO.out.at0 3 _ rfl; replace fz : ∀ o, w1.frozen? ⟨X + 1 + 1, o, none⟩ = false := HO.out.frz)
    refine bodyPost_ret (v := .tuple #[.pointer none, .agg #[.int .i64 0, .int .i64 0, .string ⟨#[]⟩, .int .i64 0], .int .i64 (1)]) (by simp [results, Tryz.results49, go_sem, o0, o1, o2, o3]) rfl ?_
    exact ⟨⟨0, 0, emp, 0⟩, none, by rw [HE.out]; rfl, (by repeat (first | exact HB.out | refine bl_setT ?_ (by have := HXw.out; omega))), fun h => absurd h (by rw [HE.out]; decide)⟩
  cases hcr : credB u g cl cf
  · have HE : Hid (R = 1) := (by show _ = _; rw [HE0, HW.out, ht, hcr]; cases fi <;> rfl)
    rw [ht] at HT
    rw [hcr] at HCr
    clear HW HE0 HWk HCp
    go_wp2_with (first | (go_at_call 33; refine (HT.out _ HB.out).mono ?_; rintro e w1 ⟨rfl, hb⟩; replace HB : Hid (Below w.heap.size w w1) := Below.on HB.out hb; replace HX : Hid (BoxR w1 (X) [.slice a len cap, .int .i64 now]) := HX.out.below hb; replace HC : Hid (BoxR w1 (X + 1) [.int .i64 u, .int .i64 g, .slice ca cl cc, .bool r]) := HC.out.below hb; replace HO : Hid (BoxW w1 (X + 1 + 1) [.int .i64 0, .int .i64 0, .string ⟨#[]⟩, .int .i64 0]) := HO.out.below hb; clear hb; replace t0 : w1.cell? ⟨X, 0, none⟩ = some (.slice a len cap) := HX.out.at0 0 _ rfl; replace t1 : w1.cell? ⟨X, 1, none⟩ = some (.int .i64 now) := HX.out.at0 1 _ rfl; replace c0 : w1.cell? ⟨X + 1, 0, none⟩ = some (.int .i64 u) := HC.out.at0 0 _ rfl; replace c1 : w1.cell? ⟨X + 1, 1, none⟩ = some (.int .i64 g) := HC.out.at0 1 _ rfl; replace c2 : w1.cell? ⟨X + 1, 2, none⟩ = some (.slice ca cl cc) := HC.out.at0 2 _ rfl; replace c3 : w1.cell? ⟨X + 1, 3, none⟩ = some (.bool r) := HC.out.at0 3 _ rfl; replace o0 : w1.cell? ⟨X + 1 + 1, 0, none⟩ = some (.int .i64 0) := HO.out.at0 0 _ rfl; replace o1 : w1.cell? ⟨X + 1 + 1, 1, none⟩ = some (.int .i64 0) := HO.out.at0 1 _ rfl; replace o2 : w1.cell? ⟨X + 1 + 1, 2, none⟩ = some (.string ⟨#[]⟩) := HO.out.at0 2 _ rfl; replace o3 : w1.cell? ⟨X + 1 + 1, 3, none⟩ = some (.int .i64 0) := HO.out.at0 3 _ rfl; replace fz : ∀ o, w1.frozen? ⟨X + 1 + 1, o, none⟩ = false := HO.out.frz) | (go_at_call 34; refine (HCr.out _ HB.out).mono ?_; rintro e w1 ⟨rfl, hb⟩; replace HB : Hid (Below w.heap.size w w1) := Below.on HB.out hb; replace HX : Hid (BoxR w1 (X) [.slice a len cap, .int .i64 now]) := HX.out.below hb; replace HC : Hid (BoxR w1 (X + 1) [.int .i64 u, .int .i64 g, .slice ca cl cc, .bool r]) := HC.out.below hb; replace HO : Hid (BoxW w1 (X + 1 + 1) [.int .i64 0, .int .i64 0, .string ⟨#[]⟩, .int .i64 0]) := HO.out.below hb; clear hb; replace t0 : w1.cell? ⟨X, 0, none⟩ = some (.slice a len cap) := HX.out.at0 0 _ rfl; replace t1 : w1.cell? ⟨X, 1, none⟩ = some (.int .i64 now) := HX.out.at0 1 _ rfl; replace c0 : w1.cell? ⟨X + 1, 0, none⟩ = some (.int .i64 u) := HC.out.at0 0 _ rfl; replace c1 : w1.cell? ⟨X + 1, 1, none⟩ = some (.int .i64 g) := HC.out.at0 1 _ rfl; replace c2 : w1.cell? ⟨X + 1, 2, none⟩ = some (.slice ca cl cc) := HC.out.at0 2 _ rfl; replace c3 : w1.cell? ⟨X + 1, 3, none⟩ = some (.bool r) := HC.out.at0 3 _ rfl; replace o0 : w1.cell? ⟨X + 1 + 1, 0, none⟩ = some (.int .i64 0) := HO.out.at0 0 _ rfl; replace o1 : w1.cell? ⟨X + 1 + 1, 1, none⟩ = some (.int .i64 0) := HO.out.at0 1 _ rfl; replace o2 : w1.cell? ⟨X + 1 + 1, 2, none⟩ = some (.string ⟨#[]⟩) := HO.out.at0 2 _ rfl; replace o3 : w1.cell? ⟨X + 1 + 1, 3, none⟩ = some (.int .i64 0) := HO.out.at0 3 _ rfl; replace fz : ∀ o, w1.frozen? ⟨X + 1 + 1, o, none⟩ = false := HO.out.frz))
    refine bodyPost_ret (v := .tuple #[.pointer none, .agg #[.int .i64 0, .int .i64 0, .string ⟨#[]⟩, .int .i64 0], .int .i64 (1)]) (by simp [results, Tryz.results49, go_sem, o0, o1, o2, o3]) rfl ?_
    exact ⟨⟨0, 0, emp, 0⟩, none, by rw [HE.out]; rfl, (by repeat (first | exact HB.out | refine bl_setT ?_ (by have := HXw.out; omega))), fun h => absurd h (by rw [HE.out]; decide)⟩
  cases fi
  · have HE : Hid (R = 1) := (by show _ = _; rw [HE0]; rfl)
    rw [ht] at HT
    rw [hcr] at HCr
    clear HW HE0 HWk HCp
    go_wp2_with (first | (go_at_call 33; refine (HT.out _ HB.out).mono ?_; rintro e w1 ⟨rfl, hb⟩; replace HB : Hid (Below w.heap.size w w1) := Below.on HB.out hb; replace HX : Hid (BoxR w1 (X) [.slice a len cap, .int .i64 now]) := HX.out.below hb; replace HC : Hid (BoxR w1 (X + 1) [.int .i64 u, .int .i64 g, .slice ca cl cc, .bool r]) := HC.out.below hb; replace HO : Hid (BoxW w1 (X + 1 + 1) [.int .i64 0, .int .i64 0, .string ⟨#[]⟩, .int .i64 0]) := HO.out.below hb; clear hb; replace t0 : w1.cell? ⟨X, 0, none⟩ = some (.slice a len cap) := HX.out.at0 0 _ rfl; replace t1 : w1.cell? ⟨X, 1, none⟩ = some (.int .i64 now) := HX.out.at0 1 _ rfl; replace c0 : w1.cell? ⟨X + 1, 0, none⟩ = some (.int .i64 u) := HC.out.at0 0 _ rfl; replace c1 : w1.cell? ⟨X + 1, 1, none⟩ = some (.int .i64 g) := HC.out.at0 1 _ rfl; replace c2 : w1.cell? ⟨X + 1, 2, none⟩ = some (.slice ca cl cc) := HC.out.at0 2 _ rfl; replace c3 : w1.cell? ⟨X + 1, 3, none⟩ = some (.bool r) := HC.out.at0 3 _ rfl; replace o0 : w1.cell? ⟨X + 1 + 1, 0, none⟩ = some (.int .i64 0) := HO.out.at0 0 _ rfl; replace o1 : w1.cell? ⟨X + 1 + 1, 1, none⟩ = some (.int .i64 0) := HO.out.at0 1 _ rfl; replace o2 : w1.cell? ⟨X + 1 + 1, 2, none⟩ = some (.string ⟨#[]⟩) := HO.out.at0 2 _ rfl; replace o3 : w1.cell? ⟨X + 1 + 1, 3, none⟩ = some (.int .i64 0) := HO.out.at0 3 _ rfl; replace fz : ∀ o, w1.frozen? ⟨X + 1 + 1, o, none⟩ = false := HO.out.frz) | (go_at_call 34; refine (HCr.out _ HB.out).mono ?_; rintro e w1 ⟨rfl, hb⟩; replace HB : Hid (Below w.heap.size w w1) := Below.on HB.out hb; replace HX : Hid (BoxR w1 (X) [.slice a len cap, .int .i64 now]) := HX.out.below hb; replace HC : Hid (BoxR w1 (X + 1) [.int .i64 u, .int .i64 g, .slice ca cl cc, .bool r]) := HC.out.below hb; replace HO : Hid (BoxW w1 (X + 1 + 1) [.int .i64 0, .int .i64 0, .string ⟨#[]⟩, .int .i64 0]) := HO.out.below hb; clear hb; replace t0 : w1.cell? ⟨X, 0, none⟩ = some (.slice a len cap) := HX.out.at0 0 _ rfl; replace t1 : w1.cell? ⟨X, 1, none⟩ = some (.int .i64 now) := HX.out.at0 1 _ rfl; replace c0 : w1.cell? ⟨X + 1, 0, none⟩ = some (.int .i64 u) := HC.out.at0 0 _ rfl; replace c1 : w1.cell? ⟨X + 1, 1, none⟩ = some (.int .i64 g) := HC.out.at0 1 _ rfl; replace c2 : w1.cell? ⟨X + 1, 2, none⟩ = some (.slice ca cl cc) := HC.out.at0 2 _ rfl; replace c3 : w1.cell? ⟨X + 1, 3, none⟩ = some (.bool r) := HC.out.at0 3 _ rfl; replace o0 : w1.cell? ⟨X + 1 + 1, 0, none⟩ = some (.int .i64 0) := HO.out.at0 0 _ rfl; replace o1 : w1.cell? ⟨X + 1 + 1, 1, none⟩ = some (.int .i64 0) := HO.out.at0 1 _ rfl; replace o2 : w1.cell? ⟨X + 1 + 1, 2, none⟩ = some (.string ⟨#[]⟩) := HO.out.at0 2 _ rfl; replace o3 : w1.cell? ⟨X + 1 + 1, 3, none⟩ = some (.int .i64 0) := HO.out.at0 3 _ rfl; replace fz : ∀ o, w1.frozen? ⟨X + 1 + 1, o, none⟩ = false := HO.out.frz))
    refine bodyPost_ret (v := .tuple #[.pointer none, .agg #[.int .i64 0, .int .i64 0, .string ⟨#[]⟩, .int .i64 0], .int .i64 (1)]) (by simp [results, Tryz.results49, go_sem, o0, o1, o2, o3]) rfl ?_
    exact ⟨⟨0, 0, emp, 0⟩, none, by rw [HE.out]; rfl, (by repeat (first | exact HB.out | refine bl_setT ?_ (by have := HXw.out; omega))), fun h => absurd h (by rw [HE.out]; decide)⟩
  have HF : Hid (F = O) := (by show _ = _; rw [HW.out, ht, hcr]; rfl)
  have hwk := HWk.out ht hcr
  have HWq : Hid (∀ w', Below w.heap.size w w' → Calls Tryz.prog 35 #[.agg #[.slice a len cap, .int .i64 now], .agg #[.int .i64 u, .int .i64 g, .slice ca cl cc, .bool r], .string s, .bool fo] w' fun e w'' => e = .returned (.agg #[.int .i64 O.n, .int .i64 O.d, .string O.nm, .int .i64 O.c]) ∧ Below w'.heap.size w' w'') := hwk
  have HCq : Hid (∀ w', Below w.heap.size w w' → Calls Tryz.prog 93 #[.agg #[.slice a len cap, .int .i64 now]] w' fun e w'' => ∃ v ds, e = .returned (.agg #[v, .int .i64 now]) ∧ Hid (CpI w'' (w'.heap.size + 1 + 1 + 1) v ds) ∧ ds.map (·.1) = l ∧ Below w'.heap.size w' w'') := HCp.out ht
  have HE1 : Hid (R = O.c) := (by show _ = _; rw [HE0, HF.out]; rfl)
  rw [ht] at HT
  rw [hcr] at HCr
  clear HW HWk hwk HE0 HCp
  go_upto_region 5 with (first | (go_at_call 33; refine (HT.out _ HB.out).mono ?_; rintro e w1 ⟨rfl, hb⟩; replace HB : Hid (Below w.heap.size w w1) := Below.on HB.out hb; replace HX : Hid (BoxR w1 (X) [.slice a len cap, .int .i64 now]) := HX.out.below hb; replace HC : Hid (BoxR w1 (X + 1) [.int .i64 u, .int .i64 g, .slice ca cl cc, .bool r]) := HC.out.below hb; replace HO : Hid (BoxW w1 (X + 1 + 1) [.int .i64 0, .int .i64 0, .string ⟨#[]⟩, .int .i64 0]) := HO.out.below hb; clear hb; replace t0 : w1.cell? ⟨X, 0, none⟩ = some (.slice a len cap) := HX.out.at0 0 _ rfl; replace t1 : w1.cell? ⟨X, 1, none⟩ = some (.int .i64 now) := HX.out.at0 1 _ rfl; replace c0 : w1.cell? ⟨X + 1, 0, none⟩ = some (.int .i64 u) := HC.out.at0 0 _ rfl; replace c1 : w1.cell? ⟨X + 1, 1, none⟩ = some (.int .i64 g) := HC.out.at0 1 _ rfl; replace c2 : w1.cell? ⟨X + 1, 2, none⟩ = some (.slice ca cl cc) := HC.out.at0 2 _ rfl; replace c3 : w1.cell? ⟨X + 1, 3, none⟩ = some (.bool r) := HC.out.at0 3 _ rfl; replace o0 : w1.cell? ⟨X + 1 + 1, 0, none⟩ = some (.int .i64 0) := HO.out.at0 0 _ rfl; replace o1 : w1.cell? ⟨X + 1 + 1, 1, none⟩ = some (.int .i64 0) := HO.out.at0 1 _ rfl; replace o2 : w1.cell? ⟨X + 1 + 1, 2, none⟩ = some (.string ⟨#[]⟩) := HO.out.at0 2 _ rfl; replace o3 : w1.cell? ⟨X + 1 + 1, 3, none⟩ = some (.int .i64 0) := HO.out.at0 3 _ rfl; replace fz : ∀ o, w1.frozen? ⟨X + 1 + 1, o, none⟩ = false := HO.out.frz) | (go_at_call 34; refine (HCr.out _ HB.out).mono ?_; rintro e w1 ⟨rfl, hb⟩; replace HB : Hid (Below w.heap.size w w1) := Below.on HB.out hb; replace HX : Hid (BoxR w1 (X) [.slice a len cap, .int .i64 now]) := HX.out.below hb; replace HC : Hid (BoxR w1 (X + 1) [.int .i64 u, .int .i64 g, .slice ca cl cc, .bool r]) := HC.out.below hb; replace HO : Hid (BoxW w1 (X + 1 + 1) [.int .i64 0, .int .i64 0, .string ⟨#[]⟩, .int .i64 0]) := HO.out.below hb; clear hb; replace t0 : w1.cell? ⟨X, 0, none⟩ = some (.slice a len cap) := HX.out.at0 0 _ rfl; replace t1 : w1.cell? ⟨X, 1, none⟩ = some (.int .i64 now) := HX.out.at0 1 _ rfl; replace c0 : w1.cell? ⟨X + 1, 0, none⟩ = some (.int .i64 u) := HC.out.at0 0 _ rfl; replace c1 : w1.cell? ⟨X + 1, 1, none⟩ = some (.int .i64 g) := HC.out.at0 1 _ rfl; replace c2 : w1.cell? ⟨X + 1, 2, none⟩ = some (.slice ca cl cc) := HC.out.at0 2 _ rfl; replace c3 : w1.cell? ⟨X + 1, 3, none⟩ = some (.bool r) := HC.out.at0 3 _ rfl; replace o0 : w1.cell? ⟨X + 1 + 1, 0, none⟩ = some (.int .i64 0) := HO.out.at0 0 _ rfl; replace o1 : w1.cell? ⟨X + 1 + 1, 1, none⟩ = some (.int .i64 0) := HO.out.at0 1 _ rfl; replace o2 : w1.cell? ⟨X + 1 + 1, 2, none⟩ = some (.string ⟨#[]⟩) := HO.out.at0 2 _ rfl; replace o3 : w1.cell? ⟨X + 1 + 1, 3, none⟩ = some (.int .i64 0) := HO.out.at0 3 _ rfl; replace fz : ∀ o, w1.frozen? ⟨X + 1 + 1, o, none⟩ = false := HO.out.frz))
  clear HT HCr
  go_wp2_with fail
  refine (HWq.out _ HB.out).mono ?_
  rintro e w2 ⟨rfl, hb⟩
  replace HB : Hid (Below w.heap.size w w2) := Below.on HB.out hb
  replace HX : Hid (BoxR w2 (X) [.slice a len cap, .int .i64 now]) := HX.out.below hb
  replace HC : Hid (BoxR w2 (X + 1) [.int .i64 u, .int .i64 g, .slice ca cl cc, .bool r]) := HC.out.below hb
  replace HO : Hid (BoxW w2 (X + 1 + 1) [.int .i64 0, .int .i64 0, .string ⟨#[]⟩, .int .i64 0]) := HO.out.below hb
  have HZl : Hid (X + 1 + 1 < w2.heap.size) := HO.out.lt
  have hbN : Below w2.heap.size w2 (w2.alloc (.cells #[.int .i64 O.n, .int .i64 O.d, .string O.nm, .int .i64 O.c] 31)) := bel_alloc _ _
  have HZ : Hid (BoxR (w2.alloc (.cells #[.int .i64 O.n, .int .i64 O.d, .string O.nm, .int .i64 O.c] 31)) w2.heap.size [.int .i64 O.n, .int .i64 O.d, .string O.nm, .int .i64 O.c]) := boxR_new _ _ _
  replace HB : Hid (Below w.heap.size w (w2.alloc (.cells #[.int .i64 O.n, .int .i64 O.d, .string O.nm, .int .i64 O.c] 31))) := Below.on HB.out hbN
  replace HX : Hid (BoxR (w2.alloc (.cells #[.int .i64 O.n, .int .i64 O.d, .string O.nm, .int .i64 O.c] 31)) (X) [.slice a len cap, .int .i64 now]) := HX.out.below hbN
  replace HC : Hid (BoxR (w2.alloc (.cells #[.int .i64 O.n, .int .i64 O.d, .string O.nm, .int .i64 O.c] 31)) (X + 1) [.int .i64 u, .int .i64 g, .slice ca cl cc, .bool r]) := HC.out.below hbN
  replace HO : Hid (BoxW (w2.alloc (.cells #[.int .i64 O.n, .int .i64 O.d, .string O.nm, .int .i64 O.c] 31)) (X + 1 + 1) [.int .i64 0, .int .i64 0, .string ⟨#[]⟩, .int .i64 0]) := HO.out.below hbN
  clear hb hbN t0 t1 c0 c1 c2 c3 o0 o1 o2 o3 fz HWq
  go_upto_region 6 with fail
  generalize (w2.alloc (.cells #[.int .i64 O.n, .int .i64 O.d, .string O.nm, .int .i64 O.c] 31)) = w3 at HB HX HC HO HZ ⊢
  generalize w2.heap.size = Z at HZ HZl ⊢
  have z0 : w3.cell? ⟨Z, 0, none⟩ = some (.int .i64 O.n) := HZ.out.at0 0 _ rfl
  have z1 : w3.cell? ⟨Z, 1, none⟩ = some (.int .i64 O.d) := HZ.out.at0 1 _ rfl
  have z2 : w3.cell? ⟨Z, 2, none⟩ = some (.string O.nm) := HZ.out.at0 2 _ rfl
  have z3 : w3.cell? ⟨Z, 3, none⟩ = some (.int .i64 O.c) := HZ.out.at0 3 _ rfl
  have fz : ∀ o, w3.frozen? ⟨X + 1 + 1, o, none⟩ = false := HO.out.frz
  have o0 : w3.cell? ⟨X + 1 + 1, 0, none⟩ = some (.int .i64 0) := HO.out.at0 0 _ rfl
  have o1 : w3.cell? ⟨X + 1 + 1, 1, none⟩ = some (.int .i64 0) := HO.out.at0 1 _ rfl
  have o2 : w3.cell? ⟨X + 1 + 1, 2, none⟩ = some (.string ⟨#[]⟩) := HO.out.at0 2 _ rfl
  have o3 : w3.cell? ⟨X + 1 + 1, 3, none⟩ = some (.int .i64 0) := HO.out.at0 3 _ rfl
  have nz1 : Z ≠ X + 1 + 1 := (by have := HZl.out; omega)
  have nz2 : X + 1 + 1 ≠ Z := fun e => nz1 e.symm
  by_cases hc : O.c = 0
  case neg =>
    have hc' : (O.c != 0) = true := by simpa [bne] using hc
    have hcn : R ≠ 0 := by rw [HE1.out]; exact hc
    go_upto_region 7 with fail
    go_region_held3 (fun w' => w'.cell? ⟨Z, 0, none⟩ = some (.int .i64 O.n) ∧ w'.cell? ⟨Z, 1, none⟩ = some (.int .i64 O.d) ∧ w'.cell? ⟨Z, 2, none⟩ = some (.string O.nm) ∧ w'.cell? ⟨Z, 3, none⟩ = some (.int .i64 O.c)) (go_keep) (fail)
    go_wp2
    refine bodyPost_ret (v := .tuple #[.pointer none, .agg #[.int .i64 O.n, .int .i64 O.d, .string O.nm, .int .i64 O.c], .int .i64 O.c]) (by simp [results, Tryz.results49, go_sem, o0, o1, o2, o3]) rfl ?_
    exact ⟨O, none, by rw [HE1.out]; rfl, (by repeat (first | exact HB.out | refine below_drewT ?_ | refine bl_setT ?_ (by have := HXw.out; omega))), fun h => absurd h hcn⟩
  have hc' : (O.c != 0) = false := by rw [hc]; rfl
  have HE : Hid (R = 0) := (by show _ = _; rw [HE1.out, hc])
  have t0 : w3.cell? ⟨X, 0, none⟩ = some (.slice a len cap) := HX.out.at0 0 _ rfl
  have t1 : w3.cell? ⟨X, 1, none⟩ = some (.int .i64 now) := HX.out.at0 1 _ rfl
  have c0 : w3.cell? ⟨X + 1, 0, none⟩ = some (.int .i64 u) := HC.out.at0 0 _ rfl
  have c1 : w3.cell? ⟨X + 1, 1, none⟩ = some (.int .i64 g) := HC.out.at0 1 _ rfl
  have c2 : w3.cell? ⟨X + 1, 2, none⟩ = some (.slice ca cl cc) := HC.out.at0 2 _ rfl
  have c3 : w3.cell? ⟨X + 1, 3, none⟩ = some (.bool r) := HC.out.at0 3 _ rfl
  have nx1 : X ≠ X + 1 + 1 := by omega
  have nx2 : X + 1 + 1 ≠ X := by omega
  have nx3 : X + 1 ≠ X + 1 + 1 := by omega
  have nx4 : X + 1 + 1 ≠ X + 1 := by omega
  clear HE1 hc
  go_upto_region 8 with fail
  go_region_held3 (fun w' => w'.cell? ⟨X, 0, none⟩ = some (.slice a len cap) ∧ w'.cell? ⟨X, 1, none⟩ = some (.int .i64 now) ∧ w'.cell? ⟨X + 1, 0, none⟩ = some (.int .i64 u) ∧ w'.cell? ⟨X + 1, 1, none⟩ = some (.int .i64 g) ∧ w'.cell? ⟨X + 1, 2, none⟩ = some (.slice ca cl cc) ∧ w'.cell? ⟨X + 1, 3, none⟩ = some (.bool r) ∧ w'.cell? ⟨Z, 0, none⟩ = some (.int .i64 O.n) ∧ w'.cell? ⟨Z, 1, none⟩ = some (.int .i64 O.d) ∧ w'.cell? ⟨Z, 2, none⟩ = some (.string O.nm) ∧ w'.cell? ⟨Z, 3, none⟩ = some (.int .i64 O.c)) (go_keep)
    (first | (go_at_call 93; refine (HCq.out _ (below_drewT HB.out)).mono ?_; rintro e w4 ⟨v, ds, rfl, hCp, hmp, hb⟩; have hbq : Below w3.heap.size w3 w4 := ⟨hb.os, hb.tape, hb.output, hb.size, hb.block⟩; have HX4 : Hid (BoxR w4 X [.slice a len cap, .int .i64 now]) := HX.out.below hbq; have HC4 : Hid (BoxR w4 (X + 1) [.int .i64 u, .int .i64 g, .slice ca cl cc, .bool r]) := HC.out.below hbq; have HO4 : Hid (BoxW w4 (X + 1 + 1) [.int .i64 0, .int .i64 0, .string ⟨#[]⟩, .int .i64 0]) := HO.out.below hbq; have HZ4 : Hid (BoxR w4 Z [.int .i64 O.n, .int .i64 O.d, .string O.nm, .int .i64 O.c]) := HZ.out.below hbq; have HB4 : Hid (Below w.heap.size w w4) := Below.on HB.out hbq; have HSz : Hid (w.heap.size ≤ w3.heap.size) := HB.out.size; have HMp : Hid (ds.map (·.1) = l) := hmp; clear hmp hb hbq; have tq0 : w4.cell? ⟨X, 0, none⟩ = some (.slice a len cap) := HX4.out.at0 0 _ rfl; have tq1 : w4.cell? ⟨X, 1, none⟩ = some (.int .i64 now) := HX4.out.at0 1 _ rfl; have cq0 : w4.cell? ⟨X + 1, 0, none⟩ = some (.int .i64 u) := HC4.out.at0 0 _ rfl; have cq1 : w4.cell? ⟨X + 1, 1, none⟩ = some (.int .i64 g) := HC4.out.at0 1 _ rfl; have cq2 : w4.cell? ⟨X + 1, 2, none⟩ = some (.slice ca cl cc) := HC4.out.at0 2 _ rfl; have cq3 : w4.cell? ⟨X + 1, 3, none⟩ = some (.bool r) := HC4.out.at0 3 _ rfl; have zq0 : w4.cell? ⟨Z, 0, none⟩ = some (.int .i64 O.n) := HZ4.out.at0 0 _ rfl; have zq1 : w4.cell? ⟨Z, 1, none⟩ = some (.int .i64 O.d) := HZ4.out.at0 1 _ rfl; have zq2 : w4.cell? ⟨Z, 2, none⟩ = some (.string O.nm) := HZ4.out.at0 2 _ rfl; have zq3 : w4.cell? ⟨Z, 3, none⟩ = some (.int .i64 O.c) := HZ4.out.at0 3 _ rfl; have oq0 : w4.cell? ⟨X + 1 + 1, 0, none⟩ = some (.int .i64 0) := HO4.out.at0 0 _ rfl; have oq1 : w4.cell? ⟨X + 1 + 1, 1, none⟩ = some (.int .i64 0) := HO4.out.at0 1 _ rfl; have oq2 : w4.cell? ⟨X + 1 + 1, 2, none⟩ = some (.string ⟨#[]⟩) := HO4.out.at0 2 _ rfl; have oq3 : w4.cell? ⟨X + 1 + 1, 3, none⟩ = some (.int .i64 0) := HO4.out.at0 3 _ rfl; have HOa : Hid (BoxW (w4.alloc (.cells #[v, .int .i64 now, .int .i64 u, .int .i64 g, .slice ca cl cc, .bool r] 144)) (X + 1 + 1) [.int .i64 0, .int .i64 0, .string ⟨#[]⟩, .int .i64 0]) := HO4.out.below (bel_alloc w4 (.cells #[v, .int .i64 now, .int .i64 u, .int .i64 g, .slice ca cl cc, .bool r] 144)); have oa0 : (w4.alloc (.cells #[v, .int .i64 now, .int .i64 u, .int .i64 g, .slice ca cl cc, .bool r] 144)).cell? ⟨X + 1 + 1, 0, none⟩ = some (.int .i64 0) := HOa.out.at0 0 _ rfl; have oa1 : (w4.alloc (.cells #[v, .int .i64 now, .int .i64 u, .int .i64 g, .slice ca cl cc, .bool r] 144)).cell? ⟨X + 1 + 1, 1, none⟩ = some (.int .i64 0) := HOa.out.at0 1 _ rfl; have oa2 : (w4.alloc (.cells #[v, .int .i64 now, .int .i64 u, .int .i64 g, .slice ca cl cc, .bool r] 144)).cell? ⟨X + 1 + 1, 2, none⟩ = some (.string ⟨#[]⟩) := HOa.out.at0 2 _ rfl; have oa3 : (w4.alloc (.cells #[v, .int .i64 now, .int .i64 u, .int .i64 g, .slice ca cl cc, .bool r] 144)).cell? ⟨X + 1 + 1, 3, none⟩ = some (.int .i64 0) := HOa.out.at0 3 _ rfl; have fza : ∀ o, (w4.alloc (.cells #[v, .int .i64 now, .int .i64 u, .int .i64 g, .slice ca cl cc, .bool r] 144)).frozen? ⟨X + 1 + 1, o, none⟩ = false := HOa.out.frz; clear HOa; have fzq : ∀ o, w4.frozen? ⟨X + 1 + 1, o, none⟩ = false := HO4.out.frz; have nzj : w4.heap.size ≠ X + 1 + 1 := (by have := HO4.out.lt; omega); have nzk : X + 1 + 1 ≠ w4.heap.size := (by have := HO4.out.lt; omega)))
  go_wp2
  refine bodyPost_ret (v := .tuple #[.pointer (some ⟨w4.heap.size, 0, none⟩), .agg #[.int .i64 O.n, .int .i64 O.d, .string O.nm, .int .i64 O.c], .int .i64 0]) (by simp [results, Tryz.results49, go_sem, oa0, oa1, oa2, oa3]) rfl ?_
  have hJ := ((((boxW_new w4 [v, .int .i64 now, .int .i64 u, .int .i64 g, .slice ca cl cc, .bool r] 144).other (o := 0) (v := .int .i64 O.n) nzk).other (o := 1) (v := .int .i64 O.d) nzk).other (o := 2) (v := .string O.nm) nzk).other (o := 3) (v := .int .i64 O.c) nzk
  have hb4 := bel_alloc w4 (.cells #[v, .int .i64 now, .int .i64 u, .int .i64 g, .slice ca cl cc, .bool r] 144)
  have hzz : X + 1 + 1 < w3.drew.heap.size + 1 + 1 + 1 := (by have h := HO.out.lt; show X + 1 + 1 < w3.heap.size + 1 + 1 + 1; omega)
  have hK := ((((hCp.out.below hb4).set (o := 0) (u := .int .i64 O.n) hzz).set (o := 1) (u := .int .i64 O.d) hzz).set (o := 2) (u := .string O.nm) hzz).set (o := 3) (u := .int .i64 O.c) hzz
  refine ⟨O, _, by rw [HE.out]; rfl, ?_, fun _ => ⟨HF.out.symm, w4.heap.size, v, ds, rfl, ⟨hJ, ?_, ⟨_, hK, ?_, fun k e => (hCp.out.lt k e).2, fun p hp b e => (hCp.out.loc p hp b e).2.1⟩, HMp.out⟩⟩⟩
  · have hx := HXw.out
    exact bl_setT (bl_setT (bl_setT (bl_setT (Below.on HB4.out hb4) (by omega)) (by omega)) (by omega)) (by omega)
  · exact HB4.out.size
  · have := HSz.out
    show w.heap.size ≤ w3.heap.size + 1 + 1 + 1
    omega
end Go.Proofs.YtdgejnaceeoooaaGreatDoor
