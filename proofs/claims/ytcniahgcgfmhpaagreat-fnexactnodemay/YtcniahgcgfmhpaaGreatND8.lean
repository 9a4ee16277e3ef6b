/- Laid together: TrM, TrS2. -/
import Derived.Test.YtcniahgcgfmhpaaGreatND2
import Derived.Test.YtcniahgcgfmhpaaGreatND7
/- What is asked of a tree's nodes. Nothing here names a program. -/
namespace Go.Proofs.YtcniahgcgfmhpaaGreat
open Go.RowKit Go.PlainAid
set_option linter.unusedVariables false
/-- A number is of a node that is there. -/
def thB (l : List Nd) (n : Int) : Bool := inR 1 l.length n && ((ndAt l (n - 1).toNat).k != 0)
def diB (l : List Nd) (n : Int) : Bool := thB l n && ((ndAt l (n - 1).toNat).k == 1)
theorem thB_off {l : List Nd} {n : Int} (h : inR 1 l.length n = false) : thB l n = false := by simp [thB, h]
theorem at_succ (l : List Nd) (k : Nat) : ndAt l ((k : Int) + 1 - 1).toNat = ndAt l k := by
  have : ((k : Int) + 1 - 1).toNat = k := by omega
  rw [this]
theorem thB_in {l : List Nd} {k : Nat} (h : inR 1 l.length ((k : Int) + 1) = true) : thB l (k + 1) = ((ndAt l k).k != 0) := by simp only [thB, h, at_succ, Bool.true_and]
theorem thB_num {l : List Nd} {n : Int} (h : thB l n = true) : inR 1 l.length n = true := by
  simp only [thB, Bool.and_eq_true] at h
  exact h.1
theorem diB_in {l : List Nd} {k : Nat} (h : thB l (k + 1) = true) : diB l (k + 1) = ((ndAt l k).k == 1) := by simp only [diB, h, at_succ, Bool.true_and]
/-- How many of the first k entries name n. -/
def cntE (ns : List (ByteArray × Int)) (n : Int) : Nat → Int
  | 0 => 0
  | k + 1 => cntE ns n k + (if noAt ns k == n then 1 else 0)
/-- One of the first k entries names n. -/
def hasE (ns : List (ByteArray × Int)) (n : Int) : Nat → Bool
  | 0 => false
  | k + 1 => hasE ns n k || (noAt ns k == n)
theorem cntE_b (ns : List (ByteArray × Int)) (n : Int) : ∀ k, 0 ≤ cntE ns n k ∧ cntE ns n k ≤ k
  | 0 => by simp [cntE]
  | k + 1 => by
    have := cntE_b ns n k
    simp only [cntE]
    split <;> omega
theorem hasE_cnt (ns : List (ByteArray × Int)) (n : Int) : ∀ k, hasE ns n k = decide (0 < cntE ns n k)
  | 0 => rfl
  | k + 1 => by
    have h := cntE_b ns n k
    simp only [hasE, cntE, hasE_cnt ns n k]
    by_cases e : noAt ns k = n
    · have h1 : 0 < cntE ns n k + 1 := by omega
      simp [e, h1]
    · simp [e]
theorem hasE_next {ns : List (ByteArray × Int)} {n : Int} {k m : Nat} (h : hasE ns n k = true) (hk : k ≤ m) : hasE ns n m = true := by
  induction m with
  | zero =>
    have : k = 0 := by omega
    rw [this] at h
    exact h
  | succ m ih =>
    by_cases e : k = m + 1
    · rw [← e]; exact h
    · simp [hasE, ih (by omega)]
/-- How many entries of the first k nodes name n. -/
def cntN (l : List Nd) (n : Int) : Nat → Int
  | 0 => 0
  | k + 1 => cntN l n k + cntE (ndAt l k).ns n (ndAt l k).ns.length
theorem cntN_b (l : List Nd) (n : Int) : ∀ k, k ≤ l.length → (∀ i, i < l.length → (ndAt l i).ns.length ≤ 1048576) → 0 ≤ cntN l n k ∧ cntN l n k ≤ k * 1048576
  | 0, _, _ => by simp [cntN]
  | k + 1, hk, h => by
    have h1 := cntN_b l n k (by omega) h
    have h2 := cntE_b (ndAt l k).ns n (ndAt l k).ns.length
    have h3 := h k (by omega)
    simp only [cntN]
    constructor
    · omega
    · rw [show ((k + 1 : Nat) : Int) * 1048576 = k * 1048576 + 1048576 by omega]
      omega
/-- From n one comes to the first node by Ups, in fewer than f steps. -/
def rtB (l : List Nd) : Nat → Int → Bool
  | 0, _ => false
  | f + 1, n => n == 1 || (diB l n && rtB l f (ndAt l (n - 1).toNat).up)
theorem diB_th {l : List Nd} {n : Int} (h : diB l n = true) : thB l n = true := by
  simp only [diB, Bool.and_eq_true] at h
  exact h.1
/-- The entry at place k may stand there. -/
def okE (l : List Nd) (ns : List (ByteArray × Int)) (k : Nat) : Bool := entB (nmAt ns k) && ((k == 0 || Op.bytesLess (nmAt ns (k - 1)).toList (nmAt ns k).toList) && (thB l (noAt ns k) && noAt ns k != 1))
def nsT (l : List Nd) (ns : List (ByteArray × Int)) : Nat → Bool
  | 0 => true
  | k + 1 => nsT l ns k && okE l ns k
/-- The names of a directory may be. -/
def nsB (l : List Nd) (ns : List (ByteArray × Int)) : Bool := decide (ns.length ≤ 6) && nsT l ns ns.length
theorem nsT_false {l : List Nd} {ns : List (ByteArray × Int)} {k n : Nat} (h : k < n) (hk : okE l ns k = false) : nsT l ns n = false := by
  induction n with
  | zero => omega
  | succ n ih =>
    by_cases e : k = n
    · subst e; simp [nsT, hk]
    · simp [nsT, ih (by omega)]
theorem nsB_no {l : List Nd} {ns : List (ByteArray × Int)} {k : Nat} (h : k < ns.length) (hk : okE l ns k = false) : nsB l ns = false := by simp [nsB, nsT_false h hk]
theorem nsB_long {l : List Nd} {ns : List (ByteArray × Int)} (h : 6 < ns.length) : nsB l ns = false := by
  have : ¬ ns.length ≤ 6 := by omega
  simp [nsB, this]
theorem nsB_yes {l : List Nd} {ns : List (ByteArray × Int)} (h : ns.length ≤ 6) (hr : nsT l ns ns.length = true) : nsB l ns = true := by simp [nsB, h, hr]
theorem nsT_next {l : List Nd} {ns : List (ByteArray × Int)} {k : Nat} (h : nsT l ns k = true) (hk : okE l ns k = true) : nsT l ns (k + 1) = true := by simp [nsT, h, hk]
/-- What is asked of a directory's Up. -/
def dirU (l : List Nd) : Nat → Int → Bool
  | 0, m => m == 1
  | d + 1, m => hasE (ndAt l (m - 1).toNat).ns (((d + 1 : Nat) : Int) + 1) (ndAt l (m - 1).toNat).ns.length && rtB l 13 (((d + 1 : Nat) : Int) + 1)
theorem dirU_pos {l : List Nd} {d : Nat} {m : Int} (h : 0 < d) : dirU l d m = (hasE (ndAt l (m - 1).toNat).ns ((d : Int) + 1) (ndAt l (m - 1).toNat).ns.length && rtB l 13 ((d : Int) + 1)) := by
  obtain ⟨k, rfl⟩ : ∃ k, d = k + 1 := ⟨d - 1, by omega⟩
  rfl
/-- The directory at place d may be so. -/
def dirB (l : List Nd) (d : Nat) : Bool := (ndAt l d).D.B && (((ndAt l d).sh || (ndAt l d).D.E) && (((ndAt l d).bo.toList == []) && ((ndAt l d).li == 1 && (nsB l (ndAt l d).ns && (diB l (ndAt l d).up && dirU l d (ndAt l d).up)))))
/-- The links of the node at place d. -/
def lnkN (l : List Nd) (d : Nat) : Int := cntN l ((d : Int) + 1) l.length + (if d = 0 then 1 else 0)
def kindB (l : List Nd) (d : Nat) (x : Nd) : Bool := if x.k == 1 then dirB l d else if x.k == 2 then x.bare && (x.bo.toList == []) else if x.k == 3 then x.bare && signsB x.bo 40 else false
/-- The node at place d may be so. -/
def nodeB (l : List Nd) (now : Int) (d : Nat) : Bool := inR 0 9999 (ndAt l d).ow && (inR 0 9999 (ndAt l d).gr && (inR 0 7 (ndAt l d).ex && ((ndAt l d).A.B && (inR 0 now (ndAt l d).ti && ((ndAt l d).li == lnkN l d && (inR 1 5 (lnkN l d) && kindB l d (ndAt l d)))))))
def treeT (l : List Nd) (now : Int) : Nat → Bool
  | 0 => true
  | k + 1 => treeT l now k && (if (ndAt l k).k == 0 then (ndAt l k).zero else nodeB l now k)
/-- TreeRight. -/
def treeB (l : List Nd) (now : Int) : Bool := decide (1 ≤ l.length) && (decide (l.length ≤ 12) && (inR 0 1000000 now && ((ndAt l 0).k == 1 && treeT l now l.length)))
/-- defaultRight. -/
def Nd.dB (x : Nd) : Bool := if x.sh then x.D.B else x.D.E
/-- sameNode of a node and the zero one. -/
def Nd.z0 (x : Nd) : Bool := x.k == 0 && (x.ow == 0 && (x.gr == 0 && (x.ex == 0 && (!x.sh && (x.li == 0 && (x.up == 0 && ((x.bo.toList == []) && (x.A.E && (x.D.E && x.ns.length == 0)))))))))
theorem diB_not {l : List Nd} {k : Nat} (h : inR 1 l.length ((k : Int) + 1) = true) (hd : diB l (k + 1) = false) : ((ndAt l k).k == 1) = false := by
  cases ht : thB l (k + 1)
  · rw [thB_in h] at ht
    have h0 : (ndAt l k).k = 0 := by simpa using ht
    rw [h0]
    rfl
  · rw [← diB_in ht]
    exact hd
/-- directoryRight. -/
def Nd.dirI (x : Nd) (l : List Nd) (n : Int) : Bool := x.li == 1 && ((x.bo.toList == []) && (x.dB && (nsB l x.ns && (n == 1 || (diB l x.up && hasE (ndAt l (x.up - 1).toNat).ns n (ndAt l (x.up - 1).toNat).ns.length)))))
end Go.Proofs.YtcniahgcgfmhpaaGreat
/- The specification's functions over a tree: l08Zero, l08There, l08IsDir, l08Count, l08Holds, l08Rooted. -/
namespace Go.Proofs.YtcniahgcgfmhpaaGreat
open Go.RowKit Go.PlainAid
set_option linter.unusedVariables false
set_option maxRecDepth 20000 in
set_option maxHeartbeats 8000000 in
theorem sZero_any (x : Nd) (y : Na) (w : World) :
    Calls Tryz.prog 47 #[.agg (ndV x y).toArray] w fun e w' => e = .returned (.bool x.zero) ∧ Below w.heap.size w w' := by
  have HE : Hid (x.zero = (x.bare && (x.ow == 0 && (x.gr == 0 && (x.ex == 0 && (x.A.E && (x.li == 0 && ((x.bo.toList == []) && x.ti == 0)))))))) := rfl
  have HB : Hid (Below w.heap.size w (w.alloc (.cells (ndV x y).toArray 45))) := bel_alloc _ _
  have HX : Hid (BoxR (w.alloc (.cells (ndV x y).toArray 45)) w.heap.size (ndV x y)) := boxR_new _ _ _
  go_enter Tryz.func47, Tryz.ntmps47
  go_upto_region 1 with fail
  generalize (w.alloc (.cells (ndV x y).toArray 45)) = w0 at HB HX ⊢
  obtain ⟨X, hX⟩ : ∃ X, X = w.heap.size := ⟨_, rfl⟩
  rw [← hX] at HX ⊢
  clear hX
  go_wp2_with (first
    | (refine wpList_load_mid (by rfl) 45 _ (by rfl) _ _ (by rfl) _ _ HX.out.at0 Tryz.underlying45 rfl (by kernel_rfl) ?_)
    | (go_at_call 72; refine (sBare_any x y _).mono ?_; rintro e w1 ⟨rfl, hb⟩; have HB1 : Hid (Below w.heap.size w w1) := Below.on HB.out hb; have HX1 : Hid (BoxR w1 X (ndV x y)) := HX.out.below hb; clear hb; have e1 := N24.c1 HX1.out.at0; have e2 := N24.c2 HX1.out.at0; have e3 := N24.c3 HX1.out.at0; have e19 := N24.c19 HX1.out.at0; have e21 := N24.c21 HX1.out.at0; have e23 := N24.c23 HX1.out.at0; obtain ⟨c4, c5, c6, c7, c8, c9, c10⟩ := N24.lA HX1.out.at0; simp only [Nat.zero_add] at e1 e2 e3 c4 c5 c6 c7 c8 c9 c10 e19 e21 e23)
    | (go_at_call 73; refine (sEmpty_any x.A _ _ _ _ _).mono ?_; rintro e w2 ⟨rfl, hb⟩; have HB2 : Hid (Below w.heap.size w w2) := Below.on HB1.out hb; have HX2 : Hid (BoxR w2 X (ndV x y)) := HX1.out.below hb; clear hb e1 e2 e3 c4 c5 c6 c7 c8 c9 c10 e19 e21 e23; have e19 := N24.c19 HX2.out.at0; have e21 := N24.c21 HX2.out.at0; have e23 := N24.c23 HX2.out.at0; simp only [Nat.zero_add] at e19 e21 e23))
  all_goals go_ret
  all_goals (refine ⟨ret_boolW ?_, ?_⟩; (rw [HE.out]; simp [*]); (first | exact HB2.out | exact HB1.out))
set_option maxHeartbeats 4000000 in
theorem sThere_any (a : Option Addr) (len cap : Nat) (l : List Nd) (now : Int) (n : Int) (hl : len ≤ 1048576) (w : World) (hi : Nds a len l w) :
    Calls Tryz.prog 22 #[.agg #[.slice a len cap, .int .i64 now], .int .i64 n] w fun e w' => e = .returned (.bool (thB l n)) ∧ Below w.heap.size w w' := by
  have hll := hi.1
  cases h : inR 1 len n
  · have HE : Hid (thB l n = false) := thB_off (by rw [hll]; exact h)
    clear hi hll
    have HB : Hid (Below w.heap.size w (w.alloc (.cells #[.slice a len cap, .int .i64 now] 33))) := bel_alloc _ _
    have HX : Hid (BoxR (w.alloc (.cells #[.slice a len cap, .int .i64 now] 33)) w.heap.size [.slice a len cap, .int .i64 now]) := boxR_new _ _ _
    go_enter Tryz.func22, Tryz.ntmps22
    go_upto_region 1 with fail
    generalize (w.alloc (.cells #[.slice a len cap, .int .i64 now] 33)) = w0 at HB HX ⊢
    obtain ⟨X, hX⟩ : ∃ X, X = w.heap.size := ⟨_, rfl⟩
    rw [← hX] at HX ⊢
    clear hX
    have t0 : w0.cell? ⟨X, 0, none⟩ = some (.slice a len cap) := HX.out.at0 0 _ rfl
    have t1 : w0.cell? ⟨X, 1, none⟩ = some (.int .i64 now) := HX.out.at0 1 _ rfl
    go_wp2_with (go_at_call 49; refine (sIs_any _ _ _ _).mono ?_; rintro e w' ⟨rfl, rfl⟩)
    go_ret
    exact ⟨ret_boolW HE.out.symm, HB.out⟩
  · have HE : Hid (∀ k : Nat, n = k + 1 → thB l n = ((ndAt l k).k != 0)) := (fun k e => by subst e; exact thB_in (by rw [hll]; exact h))
    obtain ⟨h1, h2⟩ := inR_iff.1 h
    obtain ⟨k, rfl⟩ : ∃ k : Nat, n = (k : Int) + 1 := ⟨(n - 1).toNat, by omega⟩
    have hk : k < len := by omega
    obtain ⟨b, off, Y, rfl, hb0, hc⟩ := hi.2 (by omega)
    have HN : Hid (N24 w b (off + k * 24) (ndAt l k) (Y k)) := (hc k hk).1
    clear hc hi
    have hk1 : (k : Int) < (len : Int) := by omega
    have hk0 : (0 : Int) ≤ (k : Int) := by omega
    have HE2 : Hid (thB l (k + 1) = ((ndAt l k).k != 0)) := HE.out k rfl
    clear HE hll
    have HB : Hid (Below w.heap.size w (w.alloc (.cells #[.slice (some ⟨b, off, none⟩) len cap, .int .i64 now] 33))) := bel_alloc _ _
    have HX : Hid (BoxR (w.alloc (.cells #[.slice (some ⟨b, off, none⟩) len cap, .int .i64 now] 33)) w.heap.size [.slice (some ⟨b, off, none⟩) len cap, .int .i64 now]) := boxR_new _ _ _
    go_enter Tryz.func22, Tryz.ntmps22
    go_upto_region 1 with fail
    generalize (w.alloc (.cells #[.slice (some ⟨b, off, none⟩) len cap, .int .i64 now] 33)) = w0 at HB HX ⊢
    obtain ⟨X, hX⟩ : ∃ X, X = w.heap.size := ⟨_, rfl⟩
    rw [← hX] at HX ⊢
    clear hX
    have t0 : w0.cell? ⟨X, 0, none⟩ = some (.slice (some ⟨b, off, none⟩) len cap) := HX.out.at0 0 _ rfl
    have t1 : w0.cell? ⟨X, 1, none⟩ = some (.int .i64 now) := HX.out.at0 1 _ rfl
    have c0 := N24.c0 (range_below HN.out hb0 HB.out)
    clear HN
    generalize ndAt l k = x at HE2 c0
    go_wp2_with (go_at_call 49; refine (sIs_any _ _ _ _).mono ?_; rintro e w' ⟨rfl, rfl⟩)
    all_goals go_ret
    all_goals exact ⟨ret_boolW (by rw [HE2.out]), HB.out⟩
set_option maxHeartbeats 4000000 in
theorem sIsDir_any (a : Option Addr) (len cap : Nat) (l : List Nd) (now : Int) (n : Int) (hl : len ≤ 1048576) (w : World) (hi : Nds a len l w) :
    Calls Tryz.prog 102 #[.agg #[.slice a len cap, .int .i64 now], .int .i64 n] w fun e w' => e = .returned (.bool (diB l n)) ∧ Below w.heap.size w w' := by
  have HC : Hid (∀ w', Below w.heap.size w w' → Calls Tryz.prog 22 #[.agg #[.slice a len cap, .int .i64 now], .int .i64 n] w' fun e w'' => e = .returned (.bool (thB l n)) ∧ Below w'.heap.size w' w'') := (fun w' hb => sThere_any a len cap l now n hl w' (hi.below hb))
  have hll := hi.1
  cases ht : thB l n
  · have HE : Hid (diB l n = false) := (by show _ = _; simp [diB, ht])
    rw [ht] at HC
    clear hi hll
    have HB : Hid (Below w.heap.size w (w.alloc (.cells #[.slice a len cap, .int .i64 now] 33))) := bel_alloc _ _
    have HX : Hid (BoxR (w.alloc (.cells #[.slice a len cap, .int .i64 now] 33)) w.heap.size [.slice a len cap, .int .i64 now]) := boxR_new _ _ _
    go_enter Tryz.func102, Tryz.ntmps102
    go_upto_region 1 with fail
    generalize (w.alloc (.cells #[.slice a len cap, .int .i64 now] 33)) = w0 at HB HX ⊢
    obtain ⟨X, hX⟩ : ∃ X, X = w.heap.size := ⟨_, rfl⟩
    rw [← hX] at HX ⊢
    clear hX
    have t0 : w0.cell? ⟨X, 0, none⟩ = some (.slice a len cap) := HX.out.at0 0 _ rfl
    have t1 : w0.cell? ⟨X, 1, none⟩ = some (.int .i64 now) := HX.out.at0 1 _ rfl
    go_wp2_with (go_at_call 22; refine (HC.out _ HB.out).mono ?_; rintro e w1 ⟨rfl, hb⟩; have HB1 : Hid (Below w.heap.size w w1) := Below.on HB.out hb; have HX1 : Hid (BoxR w1 X [.slice a len cap, .int .i64 now]) := HX.out.below hb; clear hb; clear t0 t1; have t0 : w1.cell? ⟨X, 0, none⟩ = some (.slice a len cap) := HX1.out.at0 0 _ rfl; have t1 : w1.cell? ⟨X, 1, none⟩ = some (.int .i64 now) := HX1.out.at0 1 _ rfl)
    go_ret
    exact ⟨ret_boolW HE.out.symm, HB1.out⟩
  · have h : inR 1 len n = true := by rw [← hll]; exact thB_num ht
    rw [ht] at HC
    have HE : Hid (∀ k : Nat, n = k + 1 → diB l n = ((ndAt l k).k == 1)) := (fun k e => by subst e; exact diB_in ht)
    clear ht
    obtain ⟨h1, h2⟩ := inR_iff.1 h
    obtain ⟨k, rfl⟩ : ∃ k : Nat, n = (k : Int) + 1 := ⟨(n - 1).toNat, by omega⟩
    have hk : k < len := by omega
    obtain ⟨b, off, Y, rfl, hb0, hc⟩ := hi.2 (by omega)
    have HN : Hid (N24 w b (off + k * 24) (ndAt l k) (Y k)) := (hc k hk).1
    clear hc hi
    have hk1 : (k : Int) < (len : Int) := by omega
    have hk0 : (0 : Int) ≤ (k : Int) := by omega
    have HE2 : Hid (diB l (k + 1) = ((ndAt l k).k == 1)) := HE.out k rfl
    clear HE hll
    have HB : Hid (Below w.heap.size w (w.alloc (.cells #[.slice (some ⟨b, off, none⟩) len cap, .int .i64 now] 33))) := bel_alloc _ _
    have HX : Hid (BoxR (w.alloc (.cells #[.slice (some ⟨b, off, none⟩) len cap, .int .i64 now] 33)) w.heap.size [.slice (some ⟨b, off, none⟩) len cap, .int .i64 now]) := boxR_new _ _ _
    go_enter Tryz.func102, Tryz.ntmps102
    go_upto_region 1 with fail
    generalize (w.alloc (.cells #[.slice (some ⟨b, off, none⟩) len cap, .int .i64 now] 33)) = w0 at HB HX ⊢
    obtain ⟨X, hX⟩ : ∃ X, X = w.heap.size := ⟨_, rfl⟩
    rw [← hX] at HX ⊢
    clear hX
    have t0 : w0.cell? ⟨X, 0, none⟩ = some (.slice (some ⟨b, off, none⟩) len cap) := HX.out.at0 0 _ rfl
    have t1 : w0.cell? ⟨X, 1, none⟩ = some (.int .i64 now) := HX.out.at0 1 _ rfl
    go_wp2_with (go_at_call 22; refine (HC.out _ HB.out).mono ?_; rintro e w1 ⟨rfl, hb⟩; have HB1 : Hid (Below w.heap.size w w1) := Below.on HB.out hb; have HX1 : Hid (BoxR w1 X [.slice (some ⟨b, off, none⟩) len cap, .int .i64 now]) := HX.out.below hb; clear hb; clear t0 t1; have t0 : w1.cell? ⟨X, 0, none⟩ = some (.slice (some ⟨b, off, none⟩) len cap) := HX1.out.at0 0 _ rfl; have t1 : w1.cell? ⟨X, 1, none⟩ = some (.int .i64 now) := HX1.out.at0 1 _ rfl; have c0 := N24.c0 (range_below HN.out hb0 HB1.out); clear HN; generalize ndAt l k = x at HE2 c0)
    all_goals go_ret
    all_goals exact ⟨ret_boolW (by rw [HE2.out]), HB1.out⟩
end Go.Proofs.YtcniahgcgfmhpaaGreat
