/- AclFrom of the specification. -/
import Derived.Test.YtddkmlkfphmdoaaSTk
import Derived.Test.YtddkmlkfphmdoaaSAb
namespace Go.Proofs.Ytddkmlkfphmdoaa
open Go.RowKit Go.PlainAid Go.Deep
set_option linter.unusedVariables false
/-- AclFrom. -/
def afO (s : ByteArray) : Ans := if 8000 < s.size then illA 2 else if s.size = 0 then illA 4 else if byte s 0 ≠ 2 then illA 10 else if (fB s (nE s)).Y = s.data.toList then ⟨(fB s (nE s)).u, (fB s (nE s)).g, (fB s (nE s)).o, (fB s (nE s)).us, (fB s (nE s)).gs, (fB s (nE s)).r, (fB s (nE s)).m, 0⟩ else illA 3
def alT (a : Al) : ByteArray := abT a.u a.g a.o a.us a.gs a.r a.m
theorem alT_Y (a : Al) : (alT a).data.toList = a.Y := by simp [alT, abT]
theorem alT_eq {a : Al} {s : ByteArray} : alT a = s ↔ a.Y = s.data.toList := by
  rw [← alT_Y]
  constructor
  · intro e; rw [e]
  · intro e
    apply ByteArray.ext
    apply Array.toList_inj.1
    exact e
theorem afO_cases {s : ByteArray} (h8 : ¬ 8000 < s.size) (h0 : s.size ≠ 0) (h2 : byte s 0 = 2) : (∃ a : Al, fB s (nE s) = a ∧ fB s (nS s) = a ∧ alT a = s ∧ afO s = ⟨a.u, a.g, a.o, a.us, a.gs, a.r, a.m, 0⟩) ∨ (alT (fB s (nE s)) ≠ s ∧ alT (fB s (nS s)) ≠ s ∧ afO s = illA 3) := by
  have hne : s.data.toList ≠ [] := by
    intro e
    have : s.size = s.data.toList.length := Lib.size_eq s
    rw [e] at this
    exact h0 this
  rcases acl_bkey s with ⟨a, h1, h3, h4, h5⟩ | h
  · left
    refine ⟨a, h4, h5, alT_eq.2 h3, ?_⟩
    rw [afO, if_neg h8, if_neg h0, if_neg (by simpa using h2), h4, if_pos h3]
  · right
    have key : ∀ a : Al, alT a ≠ s := fun a e => hne (h a (alT_eq.1 e))
    refine ⟨key _, key _, ?_⟩
    rw [afO, if_neg h8, if_neg h0, if_neg (by simpa using h2), if_neg (fun e => hne (h _ e))]
theorem nE_iff {s : ByteArray} (h0 : s.size ≠ 0) (j : Nat) : j < nE s ↔ 4 * j + 5 ≤ s.size := by unfold nE; omega
theorem nS_iff {s : ByteArray} (h0 : s.size ≠ 0) (j : Nat) : j < nS s ↔ (4 * j + 5 ≤ s.size ∧ 4 * j + 1 < 90) := by
  unfold nS
  have := nE_iff h0 j
  split <;> omega
/-- Four bytes of a text. -/
def cut4 (s : ByteArray) (j : Nat) : ByteArray := s.extract (4 * j + 1) (4 * j + 5)
theorem cut4_size {s : ByteArray} {j : Nat} (h : 4 * j + 5 ≤ s.size) : (cut4 s j).size = 4 := by
  simp [cut4]
  omega
theorem cut4_byte {s : ByteArray} {j i : Nat} (h : 4 * j + 5 ≤ s.size) (hi : i < 4) : byte (cut4 s j) i = byte s (4 * j + 1 + i) := by
  have g : i < (cut4 s j).size := by rw [cut4_size h]; exact hi
  unfold byte
  rw [dif_pos g, dif_pos (by omega)]
  simp [cut4, ByteArray.getElem_extract]
theorem slice4 {s : ByteArray} {j : Nat} (h : 4 * j + 5 ≤ s.size) (i : Int) (hi : i = 4 * (j : Int) + 1) (w : World) : (Instr.slice 9 (.string s) (some (.int .i64 i)) (some (.int .i64 (i + 4))) none).run Try.prog w = .ok (.string (cut4 s j)) w := by
  subst hi
  rw [run_slice_string (P := Try.prog) w 9 s .i64 .i64 (4 * (j : Int) + 1) (4 * (j : Int) + 1 + 4) Try.underlying9 (by omega) (by omega) (by omega)]
  have e1 : (4 * (j : Int) + 1).toNat = 4 * j + 1 := by omega
  have e2 : (4 * (j : Int) + 1 + 4).toNat = 4 * j + 5 := by omega
  rw [e1, e2]
  rfl
theorem fB_next {s : ByteArray} {j : Nat} (h : 4 * j + 5 ≤ s.size) : fB s (j + 1) = takeE (fB s j) (byte (cut4 s j) 0) (byte (cut4 s j) 1) (256 * (byte (cut4 s j) 2 : Int) + byte (cut4 s j) 3) := by
  rw [cut4_byte h (by omega), cut4_byte h (by omega), cut4_byte h (by omega), cut4_byte h (by omega)]
  rfl
set_option maxRecDepth 100000 in
set_option maxHeartbeats 4000000 in
/-- spec.AclFrom. -/
theorem sAclFrom_any (s : ByteArray) (hs : s.size ≤ 1048576) (w : World) :
    Calls Try.prog 11 #[.string s] w (Answers (afO s) w) := by
  have hbt := get_byte s
  have hY : Hid (W8 (w.alloc (.cells #[.int .i64 0, .int .i64 0, .int .i64 0, .slice none 0 0, .slice none 0 0, .bool false, .int .i64 0, .int .i64 0] 34)) w.heap.size) := w8_new w _
  have hW0 : Hid (Below w.heap.size w (w.alloc (.cells #[.int .i64 0, .int .i64 0, .int .i64 0, .slice none 0 0, .slice none 0 0, .bool false, .int .i64 0, .int .i64 0] 34))) := bel_alloc _ _
  by_cases h8 : 8000 < s.size
  · have hO : Hid (afO s = illA 2) := (by show _ = _; rw [afO, if_pos h8])
    have h8' : (8000 : Int) < (s.size : Int) := by omega
    clear h8 hbt
    go_enter Try.func11, Try.ntmps11
    go_wp2
    refine bodyPost_ret (v := .agg #[.int .i64 0, .int .i64 0, .int .i64 0, .slice none 0 0, .slice none 0 0, .bool false, .int .i64 0, .int .i64 2]) (by simp [results, Try.results11, go_sem]) rfl (answers_ill hO.out ?_)
    repeat (refine bl_setL ?_ (Nat.le_refl _))
    exact bel_alloc _ _
  have h8' : ¬ (8000 : Int) < (s.size : Int) := by omega
  have hls : s.data.toList.length = s.size := (Lib.size_eq s).symm
  by_cases h0 : s.size = 0
  · have hO : Hid (afO s = illA 4) := (by show _ = _; rw [afO, if_neg h8, if_pos h0])
    have e0 : s.toList.isEmpty = true := tlL_empty (List.eq_nil_of_length_eq_zero (by omega))
    clear h8 hbt h0 hls
    go_enter Try.func11, Try.ntmps11
    go_wp2
    refine bodyPost_ret (v := .agg #[.int .i64 0, .int .i64 0, .int .i64 0, .slice none 0 0, .slice none 0 0, .bool false, .int .i64 0, .int .i64 4]) (by simp [results, Try.results11, go_sem]) rfl (answers_ill hO.out ?_)
    repeat (refine bl_setL ?_ (Nat.le_refl _))
    exact bel_alloc _ _
  have e0 : s.toList.isEmpty = false := tlL_full (fun e => h0 (by rw [e] at hls; simpa using hls.symm))
  have h0' : 0 < s.size := by omega
  by_cases h2 : ¬ byte s 0 = 2
  · have hO : Hid (afO s = illA 10) := (by show _ = _; rw [afO, if_neg h8, if_neg h0, if_pos h2])
    have q2 : ((byte s 0 : Int) == 2) = false := beq_eq_false_iff_ne.2 (by omega)
    clear h8 h0 hls h2
    go_enter Try.func11, Try.ntmps11
    go_wp2
    refine bodyPost_ret (v := .agg #[.int .i64 0, .int .i64 0, .int .i64 0, .slice none 0 0, .slice none 0 0, .bool false, .int .i64 0, .int .i64 10]) (by simp [results, Try.results11, go_sem]) rfl (answers_ill hO.out ?_)
    repeat (refine bl_setL ?_ (Nat.le_refl _))
    exact bel_alloc _ _
  have h2 : byte s 0 = 2 := Decidable.not_not.1 h2
  have hend : Hid ((alT (fB s (nS s)) = s ∧ afO s = ⟨(fB s (nS s)).u, (fB s (nS s)).g, (fB s (nS s)).o, (fB s (nS s)).us, (fB s (nS s)).gs, (fB s (nS s)).r, (fB s (nS s)).m, 0⟩) ∨ (alT (fB s (nS s)) ≠ s ∧ afO s = illA 3)) := (by
    rcases afO_cases h8 h0 h2 with ⟨a, _, h5, h6, h7⟩ | ⟨_, h6, h7⟩
    · exact .inl ⟨by rw [h5]; exact h6, by rw [h5]; exact h7⟩
    · exact .inr ⟨h6, h7⟩)
  have HI : Hid (∀ j, j < nS s ↔ (4 * j + 5 ≤ s.size ∧ 4 * j + 1 < 90)) := nS_iff h0
  have HFN : Hid (∀ j, 4 * j + 5 ≤ s.size → fB s (j + 1) = takeE (fB s j) (byte (cut4 s j) 0) (byte (cut4 s j) 1) (256 * (byte (cut4 s j) 2 : Int) + byte (cut4 s j) 3)) := (fun j h => fB_next h)
  have HFL : Hid (∀ j, (fB s j).us.length ≤ j ∧ (fB s j).gs.length ≤ j) := fB_len s
  have HNS : Hid (nS s ≤ 23) := (by show _ ≤ _; unfold nS; split <;> omega)
  clear hls h8 h0
  generalize hNN : nS s = NN at hend HI HNS
  clear hNN
  go_enter Try.func11, Try.ntmps11
  go_upto_region 8 with fail
  have hY1 : Hid (W8 (w.alloc (.cells #[.int .i64 0, .int .i64 0, .int .i64 0, .slice none 0 0, .slice none 0 0, .bool false, .int .i64 0, .int .i64 0] 34)) w.heap.size) := hY
  have hW1 : Hid (Below w.heap.size w (w.alloc (.cells #[.int .i64 0, .int .i64 0, .int .i64 0, .slice none 0 0, .slice none 0 0, .bool false, .int .i64 0, .int .i64 0] 34))) := hW0
  have hz1 : (w.alloc (.cells #[.int .i64 0, .int .i64 0, .int .i64 0, .slice none 0 0, .slice none 0 0, .bool false, .int .i64 0, .int .i64 0] 34)).heap.size = w.heap.size + 1 := by simp
  rw [← hz1]
  clear hz1 hY hW0
  generalize w.alloc (.cells #[.int .i64 0, .int .i64 0, .int .i64 0, .slice none 0 0, .slice none 0 0, .bool false, .int .i64 0, .int .i64 0] 34) = w1 at hY1 hW1 ⊢
  have hP1 : Hid (W7 (w1.alloc (.cells #[.int .i64 0, .int .i64 0, .int .i64 0, .slice none 0 0, .slice none 0 0, .bool false, .int .i64 0] 29)) w1.heap.size (.int .i64 (fB s 0).u) (.int .i64 (fB s 0).g) (.int .i64 (fB s 0).o) (.slice none (fB s 0).us.length 0) (.slice none (fB s 0).gs.length 0) (.bool (fB s 0).r) (.int .i64 (fB s 0).m)) := w7_new w1 _ _ _ _ _ _ _ 29
  have hR1 : Hid (R2 w1 (w1.alloc (.cells #[.int .i64 0, .int .i64 0, .int .i64 0, .slice none 0 0, .slice none 0 0, .bool false, .int .i64 0] 29)) (fB s 0) none 0 none 0) := (r2_start w1).below (bel_alloc _ _)
  go_wp2
  go_loopw [4] (fun i wr => ∃ (k : Nat) (aU : Option Addr) (cU : Nat) (aG : Option Addr) (cG : Nat), k ≤ NN ∧ i = .int .i64 (4 * (k : Int) + 1) ∧ Hid (W7 wr w1.heap.size (.int .i64 (fB s k).u) (.int .i64 (fB s k).g) (.int .i64 (fB s k).o) (.slice aU (fB s k).us.length cU) (.slice aG (fB s k).gs.length cG) (.bool (fB s k).r) (.int .i64 (fB s k).m)) ∧ Hid (R2 w1 wr (fB s k) aU cU aG cG) ∧ Hid ((∀ A, aU = some A → w1.heap.size < A.block) ∧ (∀ A, aG = some A → w1.heap.size < A.block))) (fun i _ => 100 - (intOf i).toNat)
  case atStart => exact ⟨0, none, 0, none, 0, Nat.zero_le _, rfl, hP1, hR1, ⟨fun A e => (by cases e), fun A e => (by cases e)⟩⟩
  case round =>
    obtain ⟨k, aU, cU, aG, cG, hk, rfl, hP, hR, hN⟩ := hrel
    obtain ⟨lu, lg⟩ := HFL.out k
    have h23 := HNS.out
    by_cases hgo : k < NN
    · obtain ⟨g1, g2⟩ := (HI.out k).1 hgo
      have g1' : 4 * (k : Int) + 1 + 4 ≤ (s.size : Int) := by omega
      have g2' : 4 * (k : Int) + 1 < 90 := by omega
      have hw5 : IntKind.i64.wrap (4 * (k : Int) + 1 + 4) = 4 * (k : Int) + 1 + 4 := by rw [IntKind.wrap_i64]; omega
      have d1 : 0 ≤ 4 * (k : Int) + 1 + 4 := by omega
      have d2 : 0 ≤ 4 * (k : Int) + 1 := by omega
      have d3 : 4 * (k : Int) + 1 ≤ 4 * (k : Int) + 1 + 4 := by omega
      have hex : s.extract (4 * (k : Int) + 1).toNat (4 * (k : Int) + 1 + 4).toNat = cut4 s k := by
        have e1 : (4 * (k : Int) + 1).toNat = 4 * k + 1 := by omega
        have e2 : (4 * (k : Int) + 1 + 4).toNat = 4 * k + 5 := by omega
        rw [e1, e2]
        rfl
      have HEN : Hid (∀ w', R2 w1 w' (fB s k) aU cU aG cG → Calls Try.prog 30 #[.agg #[.int .i64 (fB s k).u, .int .i64 (fB s k).g, .int .i64 (fB s k).o, .slice aU (fB s k).us.length cU, .slice aG (fB s k).gs.length cG, .bool (fB s k).r, .int .i64 (fB s k).m], .string (cut4 s k)] w' (fun e w'' => ∃ aU' cU' aG' cG', e = .returned (alV (fB s (k + 1)) aU' cU' aG' cG') ∧ EntW w1 w' w'' (fB s k) (fB s (k + 1)) aU cU aG cG aU' cU' aG' cG')) := (fun w' hr => by
        rw [HFN.out k g1]
        exact sTake_any w1 w' (fB s k) aU cU aG cG hr (by omega) (by omega) (cut4 s k) (cut4_size g1))
      generalize hbb : fB s (k + 1) = bb at HEN
      generalize fB s k = aa at hP hR HEN lu lg
      have HBE : Hid (fB s (k + 1) = bb) := hbb
      generalize cut4 s k = CT at hex HEN
      clear hbb g1 g2
      obtain ⟨pl, p0, p1, p2, p3, p4, p5, p6, pz⟩ := hP.out
      have pz0 := pz 0
      have pz1 := pz 1
      have pz2 := pz 2
      have pz3 := pz 3
      have pz4 := pz 4
      have pz5 := pz 5
      have pz6 := pz 6
      clear pz
      go_upto_region 11 with fail
      go_region_law (go_simp; go_at_call 30; refine (HEN.out _ hR.out.drew).mono ?_; rintro e w4 ⟨aU', cU', aG', cG', rfl, hE⟩; simp only [alV]; have hP4 : W7 w4 w1.heap.size (.int .i64 aa.u) (.int .i64 aa.g) (.int .i64 aa.o) (.slice aU aa.us.length cU) (.slice aG aa.gs.length cG) (.bool aa.r) (.int .i64 aa.m) := hP.out.drew.keep hE.but.1 (hE.but.2 _ hP.out.lt (fun A e => by have := hN.out.1 A e; omega) (fun A e => by have := hN.out.2 A e; omega)); have HN4 : Hid ((∀ A, aU' = some A → w1.heap.size < A.block) ∧ (∀ A, aG' = some A → w1.heap.size < A.block)) := ⟨fun A e => by rcases hE.fu A e with ⟨A2, e2, e3⟩ | h1; (· rw [e3]; exact hN.out.1 A2 e2); (· exact Nat.lt_of_lt_of_le hP.out.lt h1), fun A e => by rcases hE.fg A e with ⟨A2, e2, e3⟩ | h1; (· rw [e3]; exact hN.out.2 A2 e2); (· exact Nat.lt_of_lt_of_le hP.out.lt h1)⟩; have HP4 : Hid (W7 (((((((w4.setCell ⟨w1.heap.size, 0, none⟩ (.int .i64 bb.u)).setCell ⟨w1.heap.size, 1, none⟩ (.int .i64 bb.g)).setCell ⟨w1.heap.size, 2, none⟩ (.int .i64 bb.o)).setCell ⟨w1.heap.size, 3, none⟩ (.slice aU' bb.us.length cU')).setCell ⟨w1.heap.size, 4, none⟩ (.slice aG' bb.gs.length cG')).setCell ⟨w1.heap.size, 5, none⟩ (.bool bb.r)).setCell ⟨w1.heap.size, 6, none⟩ (.int .i64 bb.m)) w1.heap.size (.int .i64 bb.u) (.int .i64 bb.g) (.int .i64 bb.o) (.slice aU' bb.us.length cU') (.slice aG' bb.gs.length cG') (.bool bb.r) (.int .i64 bb.m)) := hP4.all _ _ _ _ _ _ _; have HR4 : Hid (R2 w1 (((((((w4.setCell ⟨w1.heap.size, 0, none⟩ (.int .i64 bb.u)).setCell ⟨w1.heap.size, 1, none⟩ (.int .i64 bb.g)).setCell ⟨w1.heap.size, 2, none⟩ (.int .i64 bb.o)).setCell ⟨w1.heap.size, 3, none⟩ (.slice aU' bb.us.length cU')).setCell ⟨w1.heap.size, 4, none⟩ (.slice aG' bb.gs.length cG')).setCell ⟨w1.heap.size, 5, none⟩ (.bool bb.r)).setCell ⟨w1.heap.size, 6, none⟩ (.int .i64 bb.m)) bb aU' cU' aG' cG') := hE.r.all (Nat.le_refl _) (fun A e => by have := HN4.out.1 A e; omega) (fun A e => by have := HN4.out.2 A e; omega) _ _ _ _ _ _ _; obtain ⟨rl, r0, r1, r2, r3, r4, r5, r6, rz⟩ := hP4; have rz0 := rz 0; have rz1 := rz 1; have rz2 := rz 2; have rz3 := rz 3; have rz4 := rz 4; have rz5 := rz 5; have rz6 := rz 6; clear rz hE)
      all_goals
        generalize (((((((w4.setCell ⟨w1.heap.size, 0, none⟩ (.int .i64 bb.u)).setCell ⟨w1.heap.size, 1, none⟩ (.int .i64 bb.g)).setCell ⟨w1.heap.size, 2, none⟩ (.int .i64 bb.o)).setCell ⟨w1.heap.size, 3, none⟩ (.slice aU' bb.us.length cU')).setCell ⟨w1.heap.size, 4, none⟩ (.slice aG' bb.gs.length cG')).setCell ⟨w1.heap.size, 5, none⟩ (.bool bb.r)).setCell ⟨w1.heap.size, 6, none⟩ (.int .i64 bb.m)) = w5 at HP4 HR4 ⊢
        clear pl p0 p1 p2 p3 p4 p5 p6 pz0 pz1 pz2 pz3 pz4 pz5 pz6 rl r0 r1 r2 r3 r4 r5 r6 rz0 rz1 rz2 rz3 rz4 rz5 rz6 hex hw5 d1 d2 d3
        go_wp2
        go_roundw
        case rel => exact ⟨k + 1, aU', cU', aG', cG', by omega, by go_num, by rw [HBE.out]; exact HP4, by rw [HBE.out]; exact HR4, HN4⟩
        case measure => simp [intOf]; omega
    · have hE : k = NN := by omega
      subst hE
      have hstop : Hid ((¬ 4 * (k : Int) + 1 + 4 ≤ (s.size : Int)) ∨ (4 * (k : Int) + 1 + 4 ≤ (s.size : Int) ∧ ¬ 4 * (k : Int) + 1 < 90)) := (by
        have hi := HI.out k
        by_cases g1 : 4 * k + 5 ≤ s.size
        · exact .inr ⟨by omega, fun g2 => hgo (hi.2 ⟨g1, by omega⟩)⟩
        · exact .inl (by omega))
      generalize fB s k = RS at hend hP hR lu lg
      have HT : Hid (∀ w', Below wr.heap.size wr w' → Calls Try.prog 7 #[.agg #[.int .i64 RS.u, .int .i64 RS.g, .int .i64 RS.o, .slice aU RS.us.length cU, .slice aG RS.gs.length cG, .bool RS.r, .int .i64 RS.m]] w' fun e w'' => e = .returned (.string (alT RS)) ∧ Below w'.heap.size w' w'') := (fun w' hb => sAclBytes_any RS.u RS.g RS.o aU RS.us.length cU aG RS.gs.length cG RS.r RS.m RS.us RS.gs (by omega) (by omega) w' (hR.out.prsU.below hb) (hR.out.prsG.below hb))
      have hYr : Hid (W8 wr w.heap.size) := hY1.out.below hR.out.bel
      have hWr : Hid (Below w.heap.size w wr) := Below.on hW1.out hR.out.bel
      have HNA : Hid (New w wr aU RS.us.length RS.us aG RS.gs.length RS.gs) := hR.out.new.pre hW1.out
      have HNE : Hid ((∀ A, aU = some A → w.heap.size ≠ A.block) ∧ (∀ A, aG = some A → w.heap.size ≠ A.block)) := ⟨fun A e => by have := hN.out.1 A e; have := hY1.out.lt; omega, fun A e => by have := hN.out.2 A e; have := hY1.out.lt; omega⟩
      clear hgo HI HFN HFL HNS hR hN hY1 hW1 hP1 hR1 hk hbt e0 h0' h2 h8'
      rcases hstop.out with q | ⟨q, q2⟩
      all_goals (
        clear hstop
        obtain ⟨pl, p0, p1, p2, p3, p4, p5, p6, pz⟩ := hP.out
        have pz0 := pz 0
        have pz1 := pz 1
        have pz2 := pz 2
        have pz3 := pz 3
        have pz4 := pz 4
        have pz5 := pz 5
        have pz6 := pz 6
        clear pz
        rcases hend.out with ⟨h1, h2⟩ | ⟨h1, h2⟩
        · rw [h1] at HT
          have hO2 : Hid _ := h2
          clear h1 h2 hend
          go_wp2_with fail
          refine (HT.out _ (Below.refl _ _)).mono ?_
          rintro e w4 ⟨rfl, hb4⟩
          have hP4 : Hid (W7 w4 w1.heap.size (.int .i64 RS.u) (.int .i64 RS.g) (.int .i64 RS.o) (.slice aU RS.us.length cU) (.slice aG RS.gs.length cG) (.bool RS.r) (.int .i64 RS.m)) := hP.out.below hb4
          have hY4 : Hid (W8 w4 w.heap.size) := hYr.out.below hb4
          have HNZ : Hid (New w w4 aU RS.us.length RS.us aG RS.gs.length RS.gs) := HNA.out.on hb4
          clear pl p0 p1 p2 p3 p4 p5 p6 pz0 pz1 pz2 pz3 pz4 pz5 pz6 hb4 HT
          obtain ⟨pl, p0, p1, p2, p3, p4, p5, p6, pz⟩ := hP4.out
          have pz0 := pz 0
          have pz1 := pz 1
          have pz2 := pz 2
          have pz3 := pz 3
          have pz4 := pz 4
          have pz5 := pz 5
          have pz6 := pz 6
          clear pz
          obtain ⟨yl, y0, y1, y2, y3, y4, y5, y6, y7, yz⟩ := hY4.out
          have yz0 := yz 0
          have yz1 := yz 1
          have yz2 := yz 2
          have yz3 := yz 3
          have yz4 := yz 4
          have yz5 := yz 5
          have yz6 := yz 6
          have yz7 := yz 7
          clear yz
          go_wp2
          refine bodyPost_ret (v := .agg #[.int .i64 RS.u, .int .i64 RS.g, .int .i64 RS.o, .slice aU RS.us.length cU, .slice aG RS.gs.length cG, .bool RS.r, .int .i64 RS.m, .int .i64 0]) (by simp [results, Try.results11, go_sem, y0, y1, y2, y3, y4, y5, y6, y7]) rfl (answers_of hO2.out rfl rfl ?_)
          repeat (refine New.set ?_ (Nat.le_refl _) HNE.out.1 HNE.out.2)
          exact HNZ.out
        · have e1 : ((alT RS).toList == s.toList) = false := by
            rw [ByteArray.toList_eq, ByteArray.toList_eq]
            exact beq_eq_false_iff_ne.2 (fun e => h1 (by apply ByteArray.ext; apply Array.toList_inj.1; exact e))
          have hO2 : Hid (afO s = illA 3) := h2
          clear h1 h2 hend
          generalize alT RS = TX at HT e1
          go_wp2_with fail
          refine (HT.out _ (Below.refl _ _)).mono ?_
          rintro e w4 ⟨rfl, hb4⟩
          have hY4 : Hid (W8 w4 w.heap.size) := hYr.out.below hb4
          have hW4 : Hid (Below w.heap.size w w4) := Below.on hWr.out hb4
          clear pl p0 p1 p2 p3 p4 p5 p6 pz0 pz1 pz2 pz3 pz4 pz5 pz6 hb4 HT
          obtain ⟨yl, y0, y1, y2, y3, y4, y5, y6, y7, yz⟩ := hY4.out
          have yz0 := yz 0
          have yz1 := yz 1
          have yz2 := yz 2
          have yz3 := yz 3
          have yz4 := yz 4
          have yz5 := yz 5
          have yz6 := yz 6
          have yz7 := yz 7
          clear yz
          go_wp2
          refine bodyPost_ret (v := .agg #[.int .i64 0, .int .i64 0, .int .i64 0, .slice none 0 0, .slice none 0 0, .bool false, .int .i64 0, .int .i64 3]) (by simp [results, Try.results11, go_sem, y0, y1, y2, y3, y4, y5, y6, y7]) rfl (answers_ill hO2.out ?_)
          repeat (refine bl_setL ?_ (Nat.le_refl _))
          exact hW4.out)
end Go.Proofs.Ytddkmlkfphmdoaa
