/- entryText, namedTexts, AclText of the program. -/
import Derived.Test.YtlngfaplimpilabDoorAclTx
import Derived.Test.YtlngfaplimpilabDoorJoinL
import Derived.Deep.AppendSrc
namespace Go.Proofs.YtlngfaplimpilabDoor
open Go.RowKit Go.PlainAid Go.Deep
set_option linter.unusedVariables false
set_option maxRecDepth 100000 in
set_option maxHeartbeats 2000000 in
/-- impl.entryText. -/
theorem iEntry_any (word id : ByteArray) (b : Int) (hs : word.size + id.size ≤ 1000) (w : World) :
    Calls Tryd.prog 72 #[.string word, .string id, .int .i64 b] w fun e w' => e = .returned (.string (entT word id b)) ∧ Below w.heap.size w w' := by
  have hB : Hid (Calls Tryd.prog 90 #[.int .i64 b] w fun e w' => e = .returned (.string (bitsS b)) ∧ Below w.heap.size w w') := iBitsText_any b w
  have hz := bitsS_size b
  have HE : Hid (entT word id b = word ++ ⟨#[58]⟩ ++ id ++ ⟨#[58]⟩ ++ bitsS b) := rfl
  have HJ : Hid (∀ w, Calls Tryd.prog 89 #[.slice (some ⟨w.heap.size, 0, none⟩) 5 5] (w.alloc (.cells #[.string word, .string ⟨#[58]⟩, .string id, .string ⟨#[58]⟩, .string (bitsS b)] 9)) fun e' w' => e' = .returned (.string (word ++ ⟨#[58]⟩ ++ id ++ ⟨#[58]⟩ ++ bitsS b)) ∧ Below w.heap.size w w') := (fun w => join_five _ _ _ _ _ w (by have e2 : (⟨#[58]⟩ : ByteArray).size = 1 := rfl; omega) 5)
  generalize bitsS b = BT at hB HE HJ
  generalize entT word id b = R at HE ⊢
  clear hz hs
  go_enter Tryd.func72, Tryd.ntmps72
  go_wp2_with fail
  refine hB.out.mono ?_
  rintro e w1 ⟨rfl, hb1⟩
  have hW1 : Hid (Below w.heap.size w w1) := hb1
  clear hb1
  go_wp2_with fail
  refine (HJ.out _).mono ?_
  rintro e w2 ⟨rfl, hb2⟩
  have hW2 : Hid (Below w.heap.size w w2) := Below.on hW1.out hb2
  clear hb2
  go_wp2
  go_ret
  exact ⟨ret_acl HE.out.symm, hW2.out⟩
/-- append of one text, with what it leaves as it was. -/
theorem append_textG (w0 w : World) (v : Value) (l : List ByteArray) (hown : w.ownsRow w0.heap.size 9 1 v l.length (tv l)) (hB : Below w0.heap.size w0 w) (x : ByteArray) (hsm : l.length ≤ 100000000) :
    ∃ v' w', (Builtin.append_ #[43, 43] 43 #[v, .slice (some ⟨w.heap.size, 0, none⟩) 1 1]).run Tryd.prog (w.alloc (.cells #[.string x] 9)) = .ok v' w' ∧ w'.ownsRow w0.heap.size 9 1 v' (l ++ [x]).length (tv (l ++ [x])) ∧ Below w0.heap.size w0 w' ∧ ∀ (b o : Nat), b < w.heap.size → v.ownBlock ≠ some b → w'.cell? ⟨b, o, none⟩ = w.cell? ⟨b, o, none⟩ := by
  obtain ⟨i, hi, hzz⟩ := Option.map_eq_some_iff.1 infoStr
  simp only [Prod.mk.injEq] at hzz
  obtain ⟨hz, hs, hb⟩ := hzz
  have hb1 := bel_alloc w (.cells #[.string x] 9)
  have hB1 := Below.on hB hb1
  have hown1 := rowT_below hown hb1
  obtain ⟨v', w', hr, h1, h2, _⟩ := run_append_own (P := Tryd.prog) _ w0.heap.size 43 43 9 i _ 1 16 Tryd.underlying43 hi hz hs hb rfl (by decide) v l.length (tv l) hown1 ⟨w.heap.size, 0, none⟩ 1 1 [.string x] rfl (text_new w x _) (one_text x) (by unfold maxLen; omega) (by omega) hB1.size
  refine ⟨v', w', hr, ?_, hB1.grown h2 hB1.size (own_blockT hown1), fun b o hlt hne => ?_⟩
  · rw [tv_snoc, List.length_append]
    exact h1
  · exact (World.cell?_of_block (h2.block b (by simp; omega) (fun e => hne e.symm))).trans (hb1.cell (p := ⟨b, o, none⟩) hlt)
/-- append of a row of texts onto another one that is not empty. -/
theorem append_rowT (w0 w : World) (v v2 : Value) (l l2 : List ByteArray) {B2 : Nat} (hown : w.ownsRow w0.heap.size 9 1 v l.length (tv l)) (hpos : 0 < l.length) (hB : Below w0.heap.size w0 w) (hown2 : w.ownsRow B2 9 1 v2 l2.length (tv l2)) (hsm : l.length ≤ 1000000) (hsm2 : l2.length ≤ 1000000) :
    ∃ v' w', (Builtin.append_ #[43, 43] 43 #[v, v2]).run Tryd.prog w = .ok v' w' ∧ w'.ownsRow w0.heap.size 9 1 v' (l ++ l2).length (tv (l ++ l2)) ∧ Below w0.heap.size w0 w' ∧ ∀ (b o : Nat), b < w.heap.size → v.ownBlock ≠ some b → w'.cell? ⟨b, o, none⟩ = w.cell? ⟨b, o, none⟩ := by
  obtain ⟨i, hi, hzz⟩ := Option.map_eq_some_iff.1 infoStr
  simp only [Prod.mk.injEq] at hzz
  obtain ⟨hz, hs, hb⟩ := hzz
  have hown2' := hown2
  obtain ⟨_, ⟨rfl, hn⟩ | ⟨g, cap, cur, rfl, _, _, _, _, _, _⟩⟩ := hown2
  · have hl2 : l2 = [] := List.eq_nil_of_length_eq_zero hn
    subst hl2
    have hown' := hown
    obtain ⟨_, ⟨_, hn0⟩ | ⟨g, cap, cur, rfl, _, _, hc, _, _, _⟩⟩ := hown
    · omega
    · refine ⟨_, w, run_append_room_src (P := Tryd.prog) w 43 43 43 9 i Tryd.underlying43 hi g 0 l.length cap (.slice none 0 0) 0 [] (Src.ofNil w Tryd.underlying43 0) (by omega) (fun j hj => by simp at hj) (fun j hj => by simp at hj), ?_, ?_, ?_⟩
      · simpa using hown'
      · exact hB
      · intro b o _ _
        rfl
  · obtain ⟨v', w', hr, h1, h2, _⟩ := run_append_own (P := Tryd.prog) w w0.heap.size 43 43 9 i _ 1 16 Tryd.underlying43 hi hz hs hb rfl (by decide) v l.length (tv l) hown ⟨g, 0, none⟩ l2.length cap (tv l2) (by simp [tv]) (hown2'.cells rfl) (fun u hu => by simp [tv] at hu; obtain ⟨x, _, rfl⟩ := hu; rfl) (by unfold maxLen; omega) (by omega) hB.size
    refine ⟨v', w', hr, ?_, hB.grown h2 hB.size (own_blockT hown), fun b o hlt hne => World.cell?_of_block (h2.block b hlt (fun e => hne e.symm))⟩
    have e1 : tv (l ++ l2) = tv l ++ tv l2 := by simp [tv]
    rw [e1, List.length_append]
    exact h1
/-- The entries of the first k. -/
def nmL (word : ByteArray) (l : List (Int × Int)) (k : Nat) : List ByteArray := (List.range k).map (nmE word l)
theorem nmL_len (word : ByteArray) (l : List (Int × Int)) (k : Nat) : (nmL word l k).length = k := by simp [nmL]
theorem nmL_snoc (word : ByteArray) (l : List (Int × Int)) (k : Nat) : nmL word l (k + 1) = nmL word l k ++ [nmE word l k] := by simp [nmL, List.range_succ]
theorem own_lt {w : World} {B : Nat} {t : TypeId} {v : Value} {n : Nat} {xs : List Value} (h : w.ownsRow B t 1 v n xs) : v.ownBlock ≠ some w.heap.size := by
  intro e
  have := (h.lt _ e).2
  omega
set_option maxRecDepth 100000 in
set_option maxHeartbeats 4000000 in
/-- impl.namedTexts. -/
theorem iNamedT_any (word : ByteArray) (hw : word.size ≤ 5) (a : Option Addr) (len cap : Nat) (l : List (Int × Int)) (hl : len ≤ 6) (hid : IdsIn l) (w : World) (hi : Prs a len l w) (hp : PowW w) :
    Calls Tryd.prog 73 #[.string word, .slice a len cap] w fun e w' => ∃ v, e = .returned v ∧ w'.ownsRow w.heap.size 9 1 v (nmL word l len).length (tv (nmL word l len)) ∧ Below w.heap.size w w' := by
  have HD : Hid (∀ k w', k < len → Below w.heap.size w w' → Calls Tryd.prog 91 #[.int .i64 (idAt l k)] w' fun e w'' => e = .returned (.string (decT (idAt l k).toNat)) ∧ Below w'.heap.size w' w'') := (fun k w' hk hb => by
    have h1 := hid k (by rw [hi.1]; exact hk)
    have h2 := iDigits_any (idAt l k).toNat (by omega) w' (hp.below hb)
    rwa [Int.toNat_of_nonneg h1.1] at h2)
  have HE : Hid (∀ k w', k < len → Calls Tryd.prog 72 #[.string word, .string (decT (idAt l k).toNat), .int .i64 (btAt l k)] w' fun e w'' => e = .returned (.string (nmE word l k)) ∧ Below w'.heap.size w' w'') := (fun k w' hk => iEntry_any word _ _ (by have := (decT_size (n := (idAt l k).toNat) (by have := hid k (by rw [hi.1]; exact hk); omega)).2; omega) w')
  have HN : Hid (∀ k, nmL word l (k + 1) = nmL word l k ++ [nmE word l k]) := nmL_snoc word l
  have HNL : Hid (∀ k, (nmL word l k).length = k) := nmL_len word l
  have HI : Hid (Prs a len l w) := hi
  clear hi hid hp
  go_enter Tryd.func73, Tryd.ntmps73
  go_wp2
  go_loopw [5, 10] (fun v i wr => ∃ k : Nat, k ≤ len ∧ i = .int .i64 k ∧ Hid (wr.ownsRow w.heap.size 9 1 v (nmL word l k).length (tv (nmL word l k))) ∧ Hid (Below w.heap.size w wr)) (fun _ i _ => len - (intOf i).toNat)
  case atStart => exact ⟨0, Nat.zero_le _, rfl, World.ownsRow_nil _ _ _ _, Below.refl _ _⟩
  case round =>
    obtain ⟨k, hk, rfl, hOw, hB⟩ := hrel
    by_cases hlt : k < len
    · have hlt' : (k : Int) < (len : Int) := by omega
      obtain ⟨b, off, rfl, hbl, hcl⟩ := HI.out.2 (by omega)
      have c0 : wr.cell? ⟨b, off + k * 2, none⟩ = some (.int .i64 (idAt l k)) := (hB.out.cell (p := ⟨b, off + k * 2, none⟩) hbl).trans (hcl k hlt).1
      have c1 : wr.cell? ⟨b, off + k * 2 + 1, none⟩ = some (.int .i64 (btAt l k)) := (hB.out.cell (p := ⟨b, off + k * 2 + 1, none⟩) hbl).trans (hcl k hlt).2
      have d0 : Hid (∀ w', Below w.heap.size w w' → Calls Tryd.prog 91 #[.int .i64 (idAt l k)] w' fun e w'' => e = .returned (.string (decT (idAt l k).toNat)) ∧ Below w'.heap.size w' w'') := (fun w' hb => HD.out k w' hlt hb)
      have d1 : Hid (∀ w', Calls Tryd.prog 72 #[.string word, .string (decT (idAt l k).toNat), .int .i64 (btAt l k)] w' fun e w'' => e = .returned (.string (nmE word l k)) ∧ Below w'.heap.size w' w'') := (fun w' => HE.out k w' hlt)
      have hn : Hid (nmL word l (k + 1) = nmL word l k ++ [nmE word l k]) := HN.out k
      have hlk := HNL.out k
      clear hcl
      generalize decT (idAt l k).toNat = D at d0 d1
      generalize nmE word l k = EN at d1 hn
      generalize idAt l k = x at c0 d0
      generalize btAt l k = y at c1 d1
      go_wp2_with fail
      obtain ⟨p0, p1⟩ := pair_new wr (.int .i64 x) (.int .i64 y) 67
      have HB1 : Hid (Below w.heap.size w (wr.alloc (.cells #[.int .i64 x, .int .i64 y] 67))) := Below.onA hB.out
      have HO1 : Hid ((wr.alloc (.cells #[.int .i64 x, .int .i64 y] 67)).ownsRow w.heap.size 9 1 u5 (nmL word l k).length (tv (nmL word l k))) := rowT_below hOw.out (bel_alloc _ _)
      have HLT : Hid (wr.heap.size < (wr.alloc (.cells #[.int .i64 x, .int .i64 y] 67)).heap.size) := (show _ < _ by simp)
      have HNE : Hid (u5.ownBlock ≠ some wr.heap.size) := own_lt hOw.out
      have P0 : Hid ((wr.alloc (.cells #[.int .i64 x, .int .i64 y] 67)).cell? ⟨wr.heap.size, 0, none⟩ = some (.int .i64 x)) := p0
      have P1 : Hid ((wr.alloc (.cells #[.int .i64 x, .int .i64 y] 67)).cell? ⟨wr.heap.size, 1, none⟩ = some (.int .i64 y)) := p1
      clear p0 p1 c0 c1 hOw hB
      generalize wr.alloc (.cells #[.int .i64 x, .int .i64 y] 67) = w1 at HB1 HO1 HLT P0 P1 ⊢
      generalize wr.heap.size = X at HLT HNE P0 P1 ⊢
      have p0 := P0.out
      have p1 := P1.out
      go_region_held3 (fun w' => w'.cell? ⟨X, 0, none⟩ = some (.int .i64 x) ∧ w'.cell? ⟨X, 1, none⟩ = some (.int .i64 y)) (go_keep)
        (first
          | (refine step_append_run rfl (.tmp 14) (.tmp 22) 43 rfl u5 (.slice (some ⟨wb.heap.size, 0, none⟩) 1 1) v2 w2 (by simp [Act.eval]) (by simp [Act.eval]) HRR.out ?_)
          | (go_at_call 91; refine (d0.out _ (bdC HB1.out)).mono ?_; rintro e wa ⟨rfl, hba⟩; have hA : Hid (Below w1.heap.size w1 wa) := bdZ hba; have ya0 := (hA.out.cell (p := ⟨X, 0, none⟩) HLT.out).trans P0.out; have ya1 := (hA.out.cell (p := ⟨X, 1, none⟩) HLT.out).trans P1.out)
          | (go_at_call 72; refine (d1.out _).mono ?_; rintro e wb ⟨rfl, hbb⟩; have hBb : Hid (Below w1.heap.size w1 wb) := Below.on hA.out hbb; obtain ⟨v2, w2, hr, hO2, hB2, hk2⟩ := append_textG w wb u5 (nmL word l k) (rowT_below HO1.out hBb.out) (Below.on HB1.out hBb.out) EN (by omega); rw [← hn.out] at hO2; have yb0 := (hBb.out.cell (p := ⟨X, 0, none⟩) HLT.out).trans P0.out; have yb1 := (hBb.out.cell (p := ⟨X, 1, none⟩) HLT.out).trans P1.out; have yc0 := (hk2 X 0 (Nat.lt_of_lt_of_le HLT.out hBb.out.size) HNE.out).trans yb0; have yc1 := (hk2 X 1 (Nat.lt_of_lt_of_le HLT.out hBb.out.size) HNE.out).trans yb1; have HRR : Hid ((Builtin.append_ #[43, 43] 43 #[u5, .slice (some ⟨wb.heap.size, 0, none⟩) 1 1]).run Tryd.prog (wb.alloc (.cells #[.string EN] 9)) = .ok v2 w2) := hr; have HO2 : Hid (w2.ownsRow w.heap.size 9 1 v2 (nmL word l (k + 1)).length (tv (nmL word l (k + 1)))) := hO2; have HB2 : Hid (Below w.heap.size w w2) := hB2; clear hr hO2 hB2 hk2))
      clear p0 p1 ya0 ya1 yb0 yb1 yc0 yc1 hba hbb
      go_wp2
      go_roundw
      case rel => exact ⟨k + 1, by omega, by go_num, HO2, HB2⟩
      case measure => simp [intOf]; omega
    · have : k = len := by omega
      subst this
      go_wp2
      go_ret
      exact ⟨_, rfl, hOw.out, hB.out⟩
end Go.Proofs.YtlngfaplimpilabDoor
