/- Laid together: NamedTo, CatMath. -/
import Derived.Test.YtfhhaencigmpoaaDoorDf3
import Derived.Deep.OwnRows
import Derived.Deep.QuietTactic
import Derived.BigQuiet
import Derived.Handy
import Derived.Test.YtfhhaencigmpoaaDoorDf4
import Derived.Laws.AppendOwn
import Derived.Deep.AppendSrc
import Derived.Deep.Upon
import Derived.Lib.AppendZeros
/- laws.toNamed, laws.toNamedS: a copy of a list of pairs. -/
namespace Go.Proofs.YtfhhaencigmpoaaDoor
open Go.RowKit Go.PlainAid
set_option linter.unusedVariables false
theorem bl_setN {B b o : Nat} {W w1 : World} {x : Value} (hb : Below B W w1) (h : B ≤ b) : Below B W (w1.setCell ⟨b, o, none⟩ x) := hb.setCell h _
theorem bl3N (w : World) (o1 o2 o3 : Obj) : Below w.heap.size w (((w.alloc o1).alloc o2).alloc o3) := (((Below.refl _ _).alloc (Nat.le_refl _) _).alloc (by simp) _).alloc (by simp; omega) _
theorem bl_cellN {W w1 : World} (hb : Below W.heap.size W w1) : (∀ b o, b < W.heap.size → w1.cell? ⟨b, o, none⟩ = W.cell? ⟨b, o, none⟩) ∧ (∀ b o, b < W.heap.size → w1.frozen? ⟨b, o, none⟩ = W.frozen? ⟨b, o, none⟩) :=
  ⟨fun b o h => hb.cell (p := ⟨b, o, none⟩) h, fun b o h => hb.frozen (p := ⟨b, o, none⟩) h⟩
/-- What a world holds of a row of pairs that may be written. -/
def PHold (w : World) (B : Nat) (F G : Nat → Int) (n : Nat) : Prop := ∀ i, i < n → (w.cell? ⟨B, i * 2, none⟩ = some (.int .i64 (F i)) ∧ w.cell? ⟨B, i * 2 + 1, none⟩ = some (.int .i64 (G i))) ∧ w.frozen? ⟨B, i * 2, none⟩ = false ∧ w.frozen? ⟨B, i * 2 + 1, none⟩ = false
theorem PHold.below {w w' : World} {B : Nat} {F G : Nat → Int} {n : Nat} (h : PHold w B F G n) (hlt : B < w.heap.size) (hb : Below w.heap.size w w') : PHold w' B F G n := fun i hi =>
  ⟨⟨(hb.cell (p := ⟨B, i * 2, none⟩) hlt).trans (h i hi).1.1, (hb.cell (p := ⟨B, i * 2 + 1, none⟩) hlt).trans (h i hi).1.2⟩, (hb.frozen (p := ⟨B, i * 2, none⟩) hlt).trans (h i hi).2.1, (hb.frozen (p := ⟨B, i * 2 + 1, none⟩) hlt).trans (h i hi).2.2⟩
theorem PHold.set0 {w : World} {B : Nat} {F G : Nat → Int} {n : Nat} (h : PHold w B F G n) (k : Nat) (hk : k < n) (v : Int) : PHold (w.setCell ⟨B, k * 2, none⟩ (.int .i64 v)) B (fun i => if i = k then v else F i) G n := by
  intro i hi
  have h1 := h i hi
  rw [World.frozen?_setCell, World.frozen?_setCell]
  refine ⟨⟨?_, ?_⟩, h1.2⟩
  · by_cases e : i = k
    · subst e
      simp only [if_pos]
      simp [go_sem, h1.1.1]
    · simp only [if_neg e]
      rw [← h1.1.1]
      exact World.cell?_setCell_other _ _ _ _ (by intro h; have h2 := congrArg Addr.off h; simp only at h2; omega)
  · rw [← h1.1.2]
    exact World.cell?_setCell_other _ _ _ _ (by intro h; have h2 := congrArg Addr.off h; simp only at h2; omega)
theorem PHold.set1 {w : World} {B : Nat} {F G : Nat → Int} {n : Nat} (h : PHold w B F G n) (k : Nat) (hk : k < n) (v : Int) : PHold (w.setCell ⟨B, k * 2 + 1, none⟩ (.int .i64 v)) B F (fun i => if i = k then v else G i) n := by
  intro i hi
  have h1 := h i hi
  rw [World.frozen?_setCell, World.frozen?_setCell]
  refine ⟨⟨?_, ?_⟩, h1.2⟩
  · rw [← h1.1.1]
    exact World.cell?_setCell_other _ _ _ _ (by intro h; have h2 := congrArg Addr.off h; simp only at h2; omega)
  · by_cases e : i = k
    · subst e
      simp only [if_pos]
      simp [go_sem, h1.1.2]
    · simp only [if_neg e]
      rw [← h1.1.2]
      exact World.cell?_setCell_other _ _ _ _ (by intro h; have h2 := congrArg Addr.off h; simp only at h2; omega)
/-- A list of pairs in memory of its own, that may be written. -/
def Own (a : Option Addr) (len : Nat) (l : List (Int × Int)) (w : World) : Prop :=
  l.length = len ∧ (0 < len → ∃ B, a = some ⟨B, 0, none⟩ ∧ B < w.heap.size ∧ PHold w B (idAt l) (btAt l) len)
theorem Own.prs {a : Option Addr} {len : Nat} {l : List (Int × Int)} {w : World} (h : Own a len l w) : Prs a len l w := by
  refine ⟨h.1, fun h0 => ?_⟩
  obtain ⟨B, ha, hlt, hp⟩ := h.2 h0
  exact ⟨B, 0, ha, hlt, fun i hi => by simpa using (hp i hi).1⟩
theorem Own.below {a : Option Addr} {len : Nat} {l : List (Int × Int)} {w w' : World} (h : Own a len l w) (hb : Below w.heap.size w w') : Own a len l w' := by
  refine ⟨h.1, fun h0 => ?_⟩
  obtain ⟨B, ha, hlt, hp⟩ := h.2 h0
  exact ⟨B, ha, Nat.lt_of_lt_of_le hlt hb.size, hp.below hlt hb⟩
theorem made_pairs (w : World) (n : Nat) (t : TypeId) : PHold (w.alloc (.cells (madeCells #[.int .i64 0, .int .i64 0] (n * 2)) t)) w.heap.size (fun _ => 0) (fun _ => 0) n := by
  have hb : (w.alloc (.cells (madeCells #[.int .i64 0, .int .i64 0] (n * 2)) t)).heap[w.heap.size]? = some (.cells (madeCells #[.int .i64 0, .int .i64 0] (n * 2)) t) := by
    rw [World.alloc]
    exact Array.getElem?_push_size
  have hc : ∀ j, j < n * 2 → (madeCells #[Value.int .i64 0, Value.int .i64 0] (n * 2))[j]? = some (.int .i64 0) := by
    intro j hj
    have : j % 2 = 0 ∨ j % 2 = 1 := by omega
    rcases this with e | e <;> simp [madeCells, hj, e]
  intro i hi
  refine ⟨⟨?_, ?_⟩, ?_, ?_⟩
  · simp only [World.cell?, hb]
    simpa using hc (i * 2) (by omega)
  · simp only [World.cell?, hb]
    simpa using hc (i * 2 + 1) (by omega)
  · simp only [World.frozen?, hb]
    simp
  · simp only [World.frozen?, hb]
    simp
theorem run_make_pairs {P : Program} (t e : TypeId) (ht : P.underlying t = some (.slice e)) (hinfo : (P.info? e).map (fun i => (i.zero, i.size, i.bytes)) = some (some (.agg #[.int .i64 0, .int .i64 0]), 2, 16))
    (kl kc : IntKind) (n : Nat) (hbytes : 16 * n ≤ 281474976710656) (w : World) :
    (Instr.makeSlice t (.int kl (n : Int)) (.int kc (n : Int))).run P w = .ok (.slice (some ⟨w.heap.size, 0, none⟩) n n) (w.alloc (.cells (madeCells #[.int .i64 0, .int .i64 0] (n * 2)) e)) := by
  obtain ⟨i, hi, hzz⟩ := Option.map_eq_some_iff.1 hinfo
  simp only [Prod.mk.injEq] at hzz
  obtain ⟨hz, hs, hb⟩ := hzz
  have hb' : (i.bytes : Int) * (n : Int) ≤ 281474976710656 := by
    have h : ((16 * n : Nat) : Int) ≤ 281474976710656 := by omega
    rw [hb]
    rwa [Int.natCast_mul] at h
  have hr := run_make (P := P) w t e i _ ht hi hz kl kc n n (by omega) (Int.le_refl _) hb' (by omega)
  simp only [Int.toNat_natCast, hs] at hr
  exact hr
set_option maxHeartbeats 1000000 in
theorem toNamed_any (x y : Int) (w : World) :
    Calls Tryd.prog 72 #[.agg #[.int .i64 x, .int .i64 y]] w fun e w' => e = .returned (.agg #[.int .i64 x, .int .i64 y]) ∧ Below w.heap.size w w' := by
  go_enter Tryd.func72, Tryd.ntmps72
  go_wp2
  exact bodyPost_ret (v := .agg #[.int .i64 x, .int .i64 y]) (by simp [results, Tryd.results72, go_sem]) rfl ⟨rfl, bl3N _ _ _ _⟩
theorem infoNamed : (Tryd.prog.info? 92).map (fun i => (i.zero, i.size, i.bytes)) = some (some (.agg #[.int .i64 0, .int .i64 0]), 2, 16) := by kernel_rfl
set_option maxHeartbeats 2000000 in
/-- laws.toNamedS. -/
theorem toNamedS_any (a : Option Addr) (len cap : Nat) (l : List (Int × Int)) (hl : len ≤ 1048576) (w : World) (hi : Prs a len l w) :
    Calls Tryd.prog 33 #[.slice a len cap] w fun e w' => e = .returned (.slice (some ⟨w.heap.size, 0, none⟩) len len) ∧ Own (some ⟨w.heap.size, 0, none⟩) len l w' ∧ w.heap.size < w'.heap.size ∧ Below w.heap.size w w' := by
  have hmk := run_make_pairs (P := Tryd.prog) 28 92 Tryd.underlying28 infoNamed .i64 .i64 len (by omega) w
  have hH0 : Hid (PHold (w.alloc (.cells (madeCells #[.int .i64 0, .int .i64 0] (len * 2)) 92)) w.heap.size (fun _ => 0) (fun _ => 0) len) := made_pairs w len _
  have hB0 : Hid (Below w.heap.size w (w.alloc (.cells (madeCells #[.int .i64 0, .int .i64 0] (len * 2)) 92))) := (Below.refl _ _).alloc (Nat.le_refl _) _
  have hZ0 : Hid (w.heap.size < (w.alloc (.cells (madeCells #[.int .i64 0, .int .i64 0] (len * 2)) 92)).heap.size) := (by show _ < _; simp)
  generalize w.alloc (.cells (madeCells #[.int .i64 0, .int .i64 0] (len * 2)) 92) = w0 at hmk hH0 hB0 hZ0
  have HI : Hid (Prs a len l w) := hi
  clear hi
  go_enter Tryd.func33, Tryd.ntmps33
  go_wp2
  go_loopw [4] (fun i wr => ∃ (k : Nat) (F G : Nat → Int), k ≤ len ∧ i = .int .i64 k ∧ Hid (PHold wr w.heap.size F G len) ∧ Hid (∀ j, j < k → F j = idAt l j ∧ G j = btAt l j) ∧ Hid (Below w.heap.size w wr) ∧ Hid (w.heap.size < wr.heap.size)) (fun i _ => len - (intOf i).toNat)
  case atStart => exact ⟨0, fun _ => 0, fun _ => 0, Nat.zero_le _, rfl, hH0, fun j hj => absurd hj (by omega), hB0, hZ0⟩
  case round =>
    obtain ⟨k, F, G, hk, rfl, hH, hg, hB, hZ⟩ := hrel
    by_cases hlt : k < len
    · obtain ⟨b, off, rfl, hb, hc⟩ := HI.out.2 (by omega)
      have hlt' : (k : Int) < (len : Int) := by omega
      have g0 : wr.cell? ⟨b, off + k * 2, none⟩ = some (.int .i64 (idAt l k)) := (hB.out.cell (p := ⟨b, off + k * 2, none⟩) hb).trans (hc k hlt).1
      have g1 : wr.cell? ⟨b, off + k * 2 + 1, none⟩ = some (.int .i64 (btAt l k)) := (hB.out.cell (p := ⟨b, off + k * 2 + 1, none⟩) hb).trans (hc k hlt).2
      clear hc hmk hH0 hB0 hZ0 HI
      go_wp2_with fail
      refine (toNamed_any _ _ _).mono ?_
      rintro e w1 ⟨rfl, hb1⟩
      have hH1 := hH.out.below hZ.out hb1
      have q := hH1 k hlt
      have g2 := q.1.1
      have g3 := q.1.2
      have g4 := q.2.1
      have g5 := q.2.2
      have hB1 : Below w.heap.size w w1 := hB.out.trans (hb1.mono hB.out.size)
      have hZ1 : w.heap.size < w1.heap.size := Nat.lt_of_lt_of_le hZ.out hb1.size
      have hH2 : Hid (PHold ((w1.setCell ⟨w.heap.size, k * 2, none⟩ (.int .i64 (idAt l k))).setCell ⟨w.heap.size, k * 2 + 1, none⟩ (.int .i64 (btAt l k))) w.heap.size (fun i => if i = k then idAt l k else F i) (fun i => if i = k then btAt l k else G i) len) := (hH1.set0 k hlt _).set1 k hlt _
      have hg2 : Hid (∀ j, j < k + 1 → (fun i => if i = k then idAt l k else F i) j = idAt l j ∧ (fun i => if i = k then btAt l k else G i) j = btAt l j) := (fun j hj => by
        show (if j = k then idAt l k else F j) = idAt l j ∧ (if j = k then btAt l k else G j) = btAt l j
        by_cases e : j = k
        · rw [if_pos e, if_pos e, e]; exact ⟨rfl, rfl⟩
        · rw [if_neg e, if_neg e]; exact hg.out j (by omega))
      have hB2 : Hid (Below w.heap.size w ((w1.setCell ⟨w.heap.size, k * 2, none⟩ (.int .i64 (idAt l k))).setCell ⟨w.heap.size, k * 2 + 1, none⟩ (.int .i64 (btAt l k)))) := bl_setN (bl_setN hB1 (Nat.le_refl _)) (Nat.le_refl _)
      have hZ2 : Hid (w.heap.size < ((w1.setCell ⟨w.heap.size, k * 2, none⟩ (.int .i64 (idAt l k))).setCell ⟨w.heap.size, k * 2 + 1, none⟩ (.int .i64 (btAt l k))).heap.size) := (by show _ < _; simp; exact hZ1)
      clear q hH hg hB hH1 hb1 g0 g1 hB1
      go_wp2
      go_roundw
      case rel => exact ⟨k + 1, _, _, by omega, by go_num, hH2, hg2, hB2, hZ2⟩
      case measure => simp [intOf]; omega
    · have : k = len := by omega
      subst this
      go_wp2
      go_ret
      refine ⟨rfl, ⟨HI.out.1, fun _ => ⟨w.heap.size, rfl, hZ.out, fun i hi => ?_⟩⟩, hZ.out, hB.out⟩
      have h1 := hH.out i hi
      rw [(hg.out i hi).1, (hg.out i hi).2] at h1
      exact h1
end Go.Proofs.YtfhhaencigmpoaaDoor
/- Lists of pairs that are put behind one another by append: nothing here names a program. -/
namespace Go.Proofs.YtfhhaencigmpoaaDoor
open Go.RowKit Go.PlainAid Go.Deep
set_option linter.unusedVariables false
/-- The cells of a list of pairs. -/
def pc : List (Int × Int) → List Value
  | [] => []
  | p :: l => .int .i64 p.1 :: .int .i64 p.2 :: pc l
theorem pc_length (l : List (Int × Int)) : (pc l).length = l.length * 2 := by
  induction l with
  | nil => rfl
  | cons p l ih => simp [pc, ih]; omega
theorem pc_append (l k : List (Int × Int)) : pc (l ++ k) = pc l ++ pc k := by
  induction l with
  | nil => rfl
  | cons p l ih => simp [pc, ih]
theorem pc_one (l : List (Int × Int)) : ∀ u ∈ pc l, u.oneCell' = true := by
  induction l with
  | nil => intro u h; cases h
  | cons p l ih =>
    intro u h
    simp only [pc, List.mem_cons] at h
    rcases h with rfl | rfl | h
    · rfl
    · rfl
    · exact ih u h
theorem pc_get (l : List (Int × Int)) : ∀ i, i < l.length → (pc l)[i * 2]? = some (.int .i64 (idAt l i)) ∧ (pc l)[i * 2 + 1]? = some (.int .i64 (btAt l i)) := by
  induction l with
  | nil => intro i h; simp at h
  | cons p l ih =>
    intro i h
    cases i with
    | zero => exact ⟨rfl, rfl⟩
    | succ i =>
      have h1 := ih i (by simpa using h)
      have e1 : (i + 1) * 2 = i * 2 + 1 + 1 := by omega
      rw [e1]
      simp only [pc, List.getElem?_cons_succ]
      exact h1
theorem addr_add0 (b off i : Nat) : (⟨b, off, none⟩ : Addr).add i = ⟨b, off + i, none⟩ := by
  by_cases e : i = 0
  · subst e; simp [Addr.add]
  · simp [Addr.add, e]
theorem prs_news {b off : Nat} {l : List (Int × Int)} {w : World} (hc : ∀ i, i < l.length → w.cell? ⟨b, off + i * 2, none⟩ = some (.int .i64 (idAt l i)) ∧ w.cell? ⟨b, off + i * 2 + 1, none⟩ = some (.int .i64 (btAt l i))) :
    ∀ j u, (pc l)[j]? = some u → w.cell? ((⟨b, off, none⟩ : Addr).add j) = some u := by
  intro j u hj
  have hlt : j < l.length * 2 := by
    have := (List.getElem?_eq_some_iff.1 hj).1
    rwa [pc_length] at this
  have hi : j / 2 < l.length := by omega
  obtain ⟨g0, g1⟩ := pc_get l (j / 2) hi
  obtain ⟨c0, c1⟩ := hc (j / 2) hi
  rw [addr_add0]
  rcases Nat.mod_two_eq_zero_or_one j with e | e
  · have ej : j = j / 2 * 2 := by omega
    rw [ej, g0] at hj
    rw [ej, ← hj]
    exact c0
  · have ej : j = j / 2 * 2 + 1 := by omega
    rw [ej, g1] at hj
    rw [ej, ← hj]
    exact c1
/-- A row that is owned, as a list of pairs. -/
theorem own_of_row {w : World} {B : Nat} {t : TypeId} {v : Value} {l : List (Int × Int)} (h : w.ownsRow B t 2 v l.length (pc l)) :
    ∃ a cap, v = .slice a l.length cap ∧ Own a l.length l w ∧ (∀ A, a = some A → B ≤ A.block ∧ A.block < w.heap.size) := by
  obtain ⟨_, ⟨rfl, hn⟩ | ⟨g, cap, cur, rfl, hb, hg, hc, _, hs, ht⟩⟩ := h
  · refine ⟨none, 0, by rw [hn], ⟨rfl, fun h => absurd h (by omega)⟩, fun A e => by cases e⟩
  · have hlt : g < w.heap.size := (Array.getElem?_eq_some_iff.1 hg).1
    refine ⟨some ⟨g, 0, none⟩, cap, rfl, ⟨rfl, fun _ => ⟨g, rfl, hlt, fun i hi => ?_⟩⟩, fun A e => by cases e; exact ⟨hb, hlt⟩⟩
    have cell : ∀ j u, (pc l)[j]? = some u → j < l.length * 2 → w.cell? ⟨g, j, none⟩ = some u := by
      intro j u hj hlt
      rw [← ht, List.getElem?_take_of_lt hlt] at hj
      have : w.cell? ⟨g, j, none⟩ = cur[j]? := by simp [World.cell?, hg]
      rw [this]
      simpa using hj
    have froz : ∀ j, j < cur.size → w.frozen? ⟨g, j, none⟩ = false := by
      intro j hj
      simp [World.frozen?, hg]
    have hsz : i * 2 + 1 < cur.size := by
      rw [hs]
      have : (i + 1) * 2 ≤ cap * 2 := Nat.mul_le_mul_right _ (by omega)
      omega
    exact ⟨⟨cell _ _ (pc_get l i hi).1 (by omega), cell _ _ (pc_get l i hi).2 (by omega)⟩, froz _ (by omega), froz _ hsz⟩
theorem own_blockN {w : World} {B : Nat} {t : TypeId} {s : Nat} {v : Value} {n : Nat} {xs : List Value} (h : w.ownsRow B t s v n xs) : ∀ k, v.ownBlock = some k → B ≤ k := by
  obtain ⟨_, ⟨rfl, _⟩ | ⟨g, cap, cur, rfl, hb, _⟩⟩ := h
  · intro k hk; simp [Value.ownBlock] at hk
  · intro k hk; simp [Value.ownBlock] at hk; omega
/-- append, of a list of pairs, onto a row that the call owns. -/
theorem run_append_prs {P : Program} (w : World) (base : Nat) (t ty e : TypeId) (ht : P.underlying t = some (.slice e)) (hinfo : (P.info? e).map (fun i => (i.zero, i.size, i.bytes)) = some (some (.agg #[.int .i64 0, .int .i64 0]), 2, 16))
    (v : Value) (acc : List (Int × Int)) (hown : w.ownsRow base e 2 v acc.length (pc acc)) (a : Option Addr) (len cap : Nat) (l : List (Int × Int)) (hp : Prs a len l w) (hsm : acc.length + len ≤ 1000000000) (hbase : base ≤ w.heap.size) :
    ∃ v' w', (Builtin.append_ #[t, t] ty #[v, .slice a len cap]).run P w = .ok v' w' ∧ w'.ownsRow base e 2 v' (acc ++ l).length (pc (acc ++ l)) ∧ w.grownBy w' v.ownBlock := by
  obtain ⟨i, hi, hzz⟩ := Option.map_eq_some_iff.1 hinfo
  simp only [Prod.mk.injEq] at hzz
  obtain ⟨hz, hs, hb⟩ := hzz
  obtain ⟨hln, hp⟩ := hp
  subst hln
  by_cases h0 : l.length = 0
  · have hl : l = [] := List.eq_nil_of_length_eq_zero h0
    subst hl
    rw [List.append_nil]
    have hsrc : Src P i.size t (.slice a 0 cap) 0 [] w := by
      cases a with
      | none => exact Src.ofNil w ht cap
      | some a => exact Src.ofSlice w ht a 0 cap [] (by simp) (fun j u h => by simp at h) (fun u h => by cases h)
    have hv : ∃ b n c, v = .slice b n c ∧ n ≤ c := by
      obtain ⟨_, ⟨rfl, hn⟩ | ⟨g, c, cur, rfl, _, _, hc, _⟩⟩ := hown
      · exact ⟨none, 0, 0, rfl, Nat.le_refl _⟩
      · exact ⟨_, _, _, rfl, hc⟩
    obtain ⟨b, n, c, rfl, hnc⟩ := hv
    exact ⟨_, w, run_append_nothing w t t ty e i ht hi b n c hnc _ hsrc, hown, ⟨rfl, rfl, rfl, Nat.le_refl _, fun _ _ _ => rfl⟩⟩
  · obtain ⟨b, off, rfl, hlt, hc⟩ := hp (by omega)
    obtain ⟨v', w', hr, h1, h2, _⟩ := run_append_own (P := P) w base t ty e i _ 2 16 ht hi hz hs hb rfl (by decide) v acc.length (pc acc) hown ⟨b, off, none⟩ l.length cap (pc l) (pc_length l) (prs_news hc) (pc_one l) (by unfold maxLen; omega) (by omega) hbase
    refine ⟨v', w', hr, ?_, h2⟩
    rw [pc_append, List.length_append]
    exact h1
/-- The builtin append, by what it runs to. -/
theorem wpList_append_run {P : Program} (w : World) {ops : Array Oper} {rest : List Oper} {o : Oper} {a : Act} {Q : Exit → Act → World → Prop} (hgd : o.guard = none) (s x : Operand) (t tx : TypeId)
    (ho : o.op = .call { callee := .builtin .append, args := #[s, x], argTypes := #[t, tx] }) (v xv v' : Value) (w' : World) (hs : a.eval s = v) (hx : a.eval x = xv)
    (hr : (Builtin.append_ #[t, tx] o.type #[v, xv]).run P w = .ok v' w') (h : wpList P ops Q rest (a.put o.dst v') w') : wpList P ops Q (o :: rest) a w :=
  wpList_plain hgd fun _ hK => by
    unfold Oper.wp execOp
    simp only [ho, resolve, invoke, builtin, Sem.run_bind, Sem.run_pure, Result.andThen_ok, List.map_toArray, List.map_cons, List.map_nil, hs, hx, hr]
    exact hK _ _ h
end Go.Proofs.YtfhhaencigmpoaaDoor
