/- Laid together: GrT. -/
import Derived.Test.YthgcobglecomcaaDoorDf28
import Derived.Test.YthgcobglecomcaaDoorDf23
import Derived.Test.YthgcobglecomcaaDoorDf29
/- impl.turned, by allowing and by denying. -/
namespace Go.Proofs.YthgcobglecomcaaDoor
open Go.RowKit Go.PlainAid Go.Deep
set_option linter.unusedVariables false
theorem cutG_below (w : World) (B : Nat) (h : B ≤ w.heap.size) : Below ({ w with heap := w.heap.extract 0 B } : World).heap.size { w with heap := w.heap.extract 0 B } w := by
  refine ⟨rfl, rfl, rfl, by simp; omega, fun k hk => ?_⟩
  have hk2 : k < B := by simpa using Nat.lt_of_lt_of_le hk (by simp; omega)
  show w.heap[k]? = (w.heap.extract 0 B)[k]?
  rw [Array.getElem?_extract]
  simp
  omega
theorem cutG_size (w : World) (B : Nat) (h : B ≤ w.heap.size) : ({ w with heap := w.heap.extract 0 B } : World).heap.size = B := by simp; omega
theorem rowG_lt {w : World} {B : Nat} {t : TypeId} {s : Nat} {v : Value} {n : Nat} {xs : List Value} (h : w.ownsRow B t s v n xs) {k : Nat} (hk : v.ownBlock = some k) : B ≤ k ∧ k < w.heap.size := by
  obtain ⟨_, ⟨rfl, hn⟩ | ⟨g, cap, cur, rfl, hB, hg, hc, hm, hs, ht⟩⟩ := h
  · simp [Value.ownBlock] at hk
  · have : g = k := by simpa [Value.ownBlock] using hk
    subst this
    exact ⟨hB, (Array.getElem?_eq_some_iff.1 hg).1⟩
/-- A row of aces that grows beside a map: w0 is the world since which it is owned. -/
structure LG (b : Nat) (w0 w : World) (v : Value) (l : List Ac) : Prop where
  own : w0.grownBy w (some b)
  row : w.ownsRow w0.heap.size 49 5 v l.length (pcA l)
  pl : b < w0.heap.size
theorem LG.call {b : Nat} {w0 w w' : World} {v : Value} {l : List Ac} (h : LG b w0 w v l) (ho : w.grownBy w' (some b)) : LG b w0 w' v l :=
  ⟨h.own.trans ho, rowP_keep h.row (fun k hk => by
    have h1 := rowG_lt h.row hk
    have h2 := h.pl
    exact ho.block k h1.2 (by simp; omega)), h.pl⟩
theorem grown_below {b : Nat} {w w' : World} (hb : Below w.heap.size w w') : w.grownBy w' (some b) := ⟨hb.os, hb.tape, hb.output, hb.size, fun k hk _ => hb.block k hk⟩
theorem LG.below {b : Nat} {w0 w w' : World} {v : Value} {l : List Ac} (h : LG b w0 w v l) (hb : Below w.heap.size w w') : LG b w0 w' v l := h.call (grown_below hb)
theorem LG.nil {b : Nat} {w0 w : World} (h : w0.grownBy w (some b)) (hp : b < w0.heap.size) : LG b w0 w (.slice none 0 0) [] := ⟨h, World.ownsRow_nil _ _ _ _, hp⟩
/-- append of one ace; the map is as it was. -/
theorem LG.app {b n : Nat} {φ : Int → Int → Int} {w0 w : World} {v : Value} {l : List Ac} (h : LG b w0 w v l) (hG : GM w b n φ) (x : Ac) (hl : l.length ≤ 1000000) :
    ∃ v' w', (Builtin.append_ #[27, 27] 27 #[v, .slice (some ⟨w.heap.size, 0, none⟩) 1 1]).run Tryd.prog (w.alloc (.cells #[.bool x.al, .int .i64 x.wh, .int .i64 x.id, .int .i64 x.fl, .int .i64 x.ma] 49)) = .ok v' w' ∧ LG b w0 w' v' (l ++ [x]) ∧ GM w' b n φ := by
  have q := h.own.size
  have hp := h.pl
  obtain ⟨v', w', hr, ho, hb⟩ := append_one (P := Tryd.prog) { w with heap := w.heap.extract 0 w0.heap.size } w 27 27 49 Tryd.underlying27 infoAce v l (by rw [cutG_size w w0.heap.size q]; exact h.row) (cutG_below w w0.heap.size q) x (by omega)
  rw [cutG_size w w0.heap.size q] at ho
  have hlow : ∀ k, k < w0.heap.size → w'.heap[k]? = w.heap[k]? := fun k hk => by
    have h1 := hb.block k (by rw [cutG_size w w0.heap.size q]; exact hk)
    have h2 := (cutG_below w w0.heap.size q).block k (by rw [cutG_size w w0.heap.size q]; exact hk)
    exact h1.trans h2.symm
  have hsz : w0.heap.size ≤ w'.heap.size := by
    have := hb.size
    rw [cutG_size w w0.heap.size q] at this
    exact this
  exact ⟨v', w', hr, ⟨⟨hb.os.trans h.own.os, hb.tape.trans h.own.tape, hb.output.trans h.own.output, hsz, fun k hk hne => (hlow k hk).trans (h.own.block k hk hne)⟩, ho, hp⟩, hG.kept (hlow b hp)⟩
/-- The aces that allow, and those that deny. -/
def alwX (φ : Int → Int → Int) (p : Int × Int) : Ac := ⟨true, p.1, p.2, 0, φ p.1 p.2⟩
def dnyX (φ : Int → Int → Int) (p : Int × Int) : Ac := ⟨false, p.1, p.2, 0, bits .andNot .i64 15 (φ p.1 p.2)⟩
def atW (l : List (Int × Int)) (k : Nat) : Int × Int := (idAt l k, btAt l k)
def alwN (φ : Int → Int → Int) (l : List (Int × Int)) : Nat → List Ac
  | 0 => []
  | k + 1 => alwN φ l k ++ [alwX φ (atW l k)]
theorem alwN_len (φ : Int → Int → Int) (l : List (Int × Int)) : ∀ k, (alwN φ l k).length = k := by
  intro k
  induction k with
  | zero => rfl
  | succ k ih => simp [alwN, ih]
/-- What is left behind the first k. -/
def lftN (φ : Int → Int → Int) (l : List (Int × Int)) : Nat → Int → Int → Int
  | 0 => φ
  | k + 1 => dropF (lftN φ l k) (idAt l k) (btAt l k)
def dnyN (φ : Int → Int → Int) (l : List (Int × Int)) : Nat → List Ac
  | 0 => []
  | k + 1 => dnyN φ l k ++ [dnyX (lftN φ l k) (atW l k)]
theorem dnyN_len (φ : Int → Int → Int) (l : List (Int × Int)) : ∀ k, (dnyN φ l k).length = k := by
  intro k
  induction k with
  | zero => rfl
  | succ k ih => simp [dnyN, ih]
def WfL (l : List (Int × Int)) (n : Nat) : Prop := ∀ k, k < n → (Lit.int .i64 (idAt l k)).wf = true ∧ (Lit.int .i64 (btAt l k)).wf = true
set_option maxRecDepth 100000 in
set_option maxHeartbeats 2000000 in
theorem turnedA_any (b n : Nat) (φ : Int → Int → Int) (a : Option Addr) (len cap : Nat) (l : List (Int × Int)) (hl : len ≤ 1000) (hw : WfL l len) (w : World) (hi : Own a len l w) (hne : ∀ A, a = some A → A.block ≠ b) (hG : GM w b n φ) :
    Calls Tryd.prog 39 #[.slice a len cap, .func (.func 37) #[.map (some b)] #[]] w fun e w' => ∃ v, e = .returned v ∧ LG b w w' v (alwN φ l len) ∧ GM w' b n φ := by
  have HI : Hid (Own a len l w) := hi
  have HW : Hid (WfL l len) := hw
  have hbl := hG.lt
  have HN : Hid (∀ A, a = some A → A.block ≠ b) := hne
  have HL0 : Hid (LG b w w (.slice none 0 0) (alwN φ l 0)) := LG.nil ⟨rfl, rfl, rfl, Nat.le_refl _, fun _ _ _ => rfl⟩ hbl
  have HG0 : Hid (GM w b n φ) := hG
  clear hi hw hG hne
  go_enter Tryd.func39, Tryd.ntmps39
  go_wp2
  go_loopw [5, 10] (fun v i wr => ∃ k : Nat, k ≤ len ∧ i = .int .i64 k ∧ Hid (LG b w wr v (alwN φ l k)) ∧ Hid (GM wr b n φ)) (fun _ i _ => len - (intOf i).toNat)
  case atStart => exact ⟨0, Nat.zero_le _, rfl, HL0, HG0⟩
  case round =>
    clear HL0 HG0
    obtain ⟨k, hk, rfl, hL, hG⟩ := hrel
    have hal := alwN_len φ l k
    by_cases hlt : k < len
    · have hlt' : (k : Int) < (len : Int) := by omega
      obtain ⟨wf1, wf2⟩ := HW.out k hlt
      obtain ⟨B, rfl, hBl, hp⟩ := HI.out.2 (by omega)
      have hBb := HN.out _ rfl
      simp only at hBb
      have q := (hp k hlt).1
      have kb : ∀ o, wr.cell? ⟨B, o, none⟩ = w.cell? ⟨B, o, none⟩ := fun o => World.cell?_of_block (hL.out.own.block B hBl (by simp; omega))
      have c0 : wr.cell? ⟨B, k * 2, none⟩ = some (.int .i64 (idAt l k)) := (kb _).trans q.1
      have c1 : wr.cell? ⟨B, k * 2 + 1, none⟩ = some (.int .i64 (btAt l k)) := (kb _).trans q.2
      have hbA := bel_alloc wr (.cells #[.int .i64 (idAt l k), .int .i64 (btAt l k)] 65)
      have HGA : Hid (GM (wr.alloc (.cells #[.int .i64 (idAt l k), .int .i64 (btAt l k)] 65)) b n φ) := hG.out.below hbA
      have HLA : Hid (LG b w (wr.alloc (.cells #[.int .i64 (idAt l k), .int .i64 (btAt l k)] 65)) u5 (alwN φ l k)) := hL.out.below hbA
      clear q hp kb hbA hL hG
      go_wp2_with fail
      refine (allowing_any b n φ (idAt l k) (btAt l k) wf1 wf2 _ HGA.out).mono ?_
      rintro e w2 ⟨rfl, hb2⟩
      have hG2 := HGA.out.below hb2
      obtain ⟨v3, w3, hr, hL3, hG3⟩ := LG.app (HLA.out.below hb2) hG2 (alwX φ (atW l k)) (by omega)
      have HL3 : Hid (LG b w w3 v3 (alwN φ l (k + 1))) := hL3
      have HG3 : Hid (GM w3 b n φ) := hG3
      simp only [alwX, atW] at hr
      clear hL3 hG3 hb2 hG2 HLA HGA c0 c1
      go_wp2_with (at_builtin; refine wpList_append_runA _ rfl (.tmp 14) (.tmp 18) 27 27 rfl _ _ _ _ rfl rfl hr ?_)
      go_roundw
      case rel => exact ⟨k + 1, by omega, by go_num, HL3, HG3⟩
      case measure => simp [intOf]; omega
    · have hkk : k = len := by omega
      subst hkk
      go_wp2
      go_ret
      exact ⟨_, rfl, hL.out, hG.out⟩
set_option maxRecDepth 100000 in
set_option maxHeartbeats 2000000 in
theorem turnedD_any (b n : Nat) (φ : Int → Int → Int) (a : Option Addr) (len cap : Nat) (l : List (Int × Int)) (hl : len ≤ 1000) (hw : WfL l len) (w : World) (hi : Own a len l w) (hne : ∀ A, a = some A → A.block ≠ b) (hG : GM w b n φ) :
    Calls Tryd.prog 39 #[.slice a len cap, .func (.func 38) #[.map (some b)] #[]] w fun e w' => ∃ v, e = .returned v ∧ LG b w w' v (dnyN φ l len) ∧ GM w' b n (lftN φ l len) := by
  have HI : Hid (Own a len l w) := hi
  have HW : Hid (WfL l len) := hw
  have hbl := hG.lt
  have HN : Hid (∀ A, a = some A → A.block ≠ b) := hne
  have HL0 : Hid (LG b w w (.slice none 0 0) (dnyN φ l 0)) := LG.nil ⟨rfl, rfl, rfl, Nat.le_refl _, fun _ _ _ => rfl⟩ hbl
  have HG0 : Hid (GM w b n (lftN φ l 0)) := hG
  clear hi hw hG hne
  go_enter Tryd.func39, Tryd.ntmps39
  go_wp2
  go_loopw [5, 10] (fun v i wr => ∃ k : Nat, k ≤ len ∧ i = .int .i64 k ∧ Hid (LG b w wr v (dnyN φ l k)) ∧ Hid (GM wr b n (lftN φ l k))) (fun _ i _ => len - (intOf i).toNat)
  case atStart => exact ⟨0, Nat.zero_le _, rfl, HL0, HG0⟩
  case round =>
    clear HL0 HG0
    obtain ⟨k, hk, rfl, hL, hG⟩ := hrel
    have hal := dnyN_len φ l k
    by_cases hlt : k < len
    · have hlt' : (k : Int) < (len : Int) := by omega
      obtain ⟨wf1, wf2⟩ := HW.out k hlt
      obtain ⟨B, rfl, hBl, hp⟩ := HI.out.2 (by omega)
      have hBb := HN.out _ rfl
      simp only at hBb
      have q := (hp k hlt).1
      have kb : ∀ o, wr.cell? ⟨B, o, none⟩ = w.cell? ⟨B, o, none⟩ := fun o => World.cell?_of_block (hL.out.own.block B hBl (by simp; omega))
      have c0 : wr.cell? ⟨B, k * 2, none⟩ = some (.int .i64 (idAt l k)) := (kb _).trans q.1
      have c1 : wr.cell? ⟨B, k * 2 + 1, none⟩ = some (.int .i64 (btAt l k)) := (kb _).trans q.2
      have hbA := bel_alloc wr (.cells #[.int .i64 (idAt l k), .int .i64 (btAt l k)] 65)
      have HGA : Hid (GM (wr.alloc (.cells #[.int .i64 (idAt l k), .int .i64 (btAt l k)] 65)) b n (lftN φ l k)) := hG.out.below hbA
      have HLA : Hid (LG b w (wr.alloc (.cells #[.int .i64 (idAt l k), .int .i64 (btAt l k)] 65)) u5 (dnyN φ l k)) := hL.out.below hbA
      clear q hp kb hbA hL hG
      go_wp2_with fail
      refine (denying_any b n (lftN φ l k) (idAt l k) (btAt l k) wf1 wf2 _ HGA.out).mono ?_
      rintro e w2 ⟨rfl, hG2, hg2⟩
      obtain ⟨v3, w3, hr, hL3, hG3⟩ := LG.app (HLA.out.call hg2) hG2 (dnyX (lftN φ l k) (atW l k)) (by omega)
      have HL3 : Hid (LG b w w3 v3 (dnyN φ l (k + 1))) := hL3
      have HG3 : Hid (GM w3 b n (lftN φ l (k + 1))) := hG3
      simp only [dnyX, atW] at hr
      clear hL3 hG3 hg2 hG2 HLA HGA c0 c1
      go_wp2_with (at_builtin; refine wpList_append_runA _ rfl (.tmp 14) (.tmp 18) 27 27 rfl _ _ _ _ rfl rfl hr ?_)
      go_roundw
      case rel => exact ⟨k + 1, by omega, by go_num, HL3, HG3⟩
      case measure => simp [intOf]; omega
    · have hkk : k = len := by omega
      subst hkk
      go_wp2
      go_ret
      exact ⟨_, rfl, hL.out, hG.out⟩
end Go.Proofs.YthgcobglecomcaaDoor
