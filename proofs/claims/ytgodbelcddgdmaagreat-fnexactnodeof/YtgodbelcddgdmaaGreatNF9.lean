/- Laid together: Shelf, EntI, TrI3. -/
import Derived.Shelf.Strings.Search1
import Derived.Shelf.Strings.Search2
import Derived.Shelf.Strings.Search3
import Derived.Shelf.LaysM
import Derived.Shelf.Strings.Shaped
import Derived.Test.YtgodbelcddgdmaaGreatProg
import Derived.Lib.IndexLaws
import Derived.Test.YtgodbelcddgdmaaGreatNF8
/-
  DERIVED: THE SHELF's CONTRACTS AT THIS DUMP, IN PLAIN WORDS (tools/lay-plain.mjs out of 'TryzShelf.lean', which tools/lay-shelf.mjs wrote): THE SAME DECLARATIONS UNDER THE SAME NAMES: 'import', 'namespace', 'open', 'def', 'theorem' AND NOTHING ELSE: no command of the shelf's: FOR A HAND-IN. Each laying: the table of numbers ('.._ren') and one theorem, a field a fact of the dump's own or the kernel's comparison; each contract: ONE APPLICATION.
-/
namespace Go.Proofs
open Go.Shelf
def Tryz.lays144_ren : Go.Shelf.Ren := ⟨fun | 144 => 100 | 143 => 101 | 219 => 102 | 217 => 103 | 225 => 104 | 224 => 105 | 267 => 106 | 266 => 107 | 314 => 108 | n => n, fun | 9 => 9 | 4 => 4 | 3 => 3 | 5 => 5 | 46 => 114 | 146 => 116 | 51 => 115 | n => n, fun | 1 => 0 | n => n⟩
theorem Tryz.lays144 : Go.Proofs.Lays.n144 Tryz.prog Tryz.lays144_ren := {
  mixed := by kernel_rfl
  f143 := Tryz.func101.trans (congrArg some (by kernel_rfl))
  f144 := Tryz.func100.trans (congrArg some (by kernel_rfl))
  f217 := Tryz.func103.trans (congrArg some (by kernel_rfl))
  f219 := Tryz.func102.trans (congrArg some (by kernel_rfl))
  f224 := Tryz.func105.trans (congrArg some (by kernel_rfl))
  f225 := Tryz.func104.trans (congrArg some (by kernel_rfl))
  f266 := Tryz.func107.trans (congrArg some (by kernel_rfl))
  f267 := Tryz.func106.trans (congrArg some (by kernel_rfl))
  f314 := Tryz.func108.trans (congrArg some (by kernel_rfl))
  t3 := Tryz.underlying3
  a3 := Tryz.isAgg3
  z3 := Tryz.sizeOf3
  v3 := Tryz.zeroValue3
  t4 := Tryz.underlying4
  a4 := Tryz.isAgg4
  z4 := Tryz.sizeOf4
  v4 := Tryz.zeroValue4
  t5 := Tryz.underlying5
  a5 := Tryz.isAgg5
  z5 := Tryz.sizeOf5
  v5 := Tryz.zeroValue5
  t9 := Tryz.underlying9
  a9 := Tryz.isAgg9
  z9 := Tryz.sizeOf9
  v9 := Tryz.zeroValue9
  t46 := Tryz.underlying114
  a46 := Tryz.isAgg114
  z46 := Tryz.sizeOf114
  v46 := Tryz.zeroValue114
  t51 := Tryz.underlying115
  a51 := Tryz.isAgg115
  z51 := Tryz.sizeOf115
  v51 := Tryz.zeroValue115
  t146 := Tryz.underlying116
  a146 := Tryz.isAgg116
  z146 := Tryz.sizeOf116
  v146 := Tryz.zeroValue116
  g1 := by kernel_rfl }
open Go.RowKit Go.Lib in
/-- strings.Contains: "Contains reports whether substr is within s.": AT A substr OF ONE BYTE c: IT RETURNS 'decide (0 ≤ Lib.indexByte s c)'; the world is as it was. (LAID: no walk: one application.) -/
theorem Tryz.strings_Contains_one (s : ByteArray) (c : UInt8) (w : World) :
    Calls Tryz.prog 100 #[.string s, .string ⟨#[c]⟩] w fun e w' => e = .returned (.bool (decide (0 ≤ Lib.indexByte s.data.toList c))) ∧ w' = w := Any.strings_Contains_one Tryz.lays144 s c w
end Go.Proofs
/- impl.EntryName. -/
namespace Go.Proofs.YtgodbelcddgdmaaGreat
open Go.RowKit Go.PlainAid
set_option linter.unusedVariables false
theorem bt_is {s : ByteArray} {k : Nat} (h : k < s.size) : bt s k = ((s.data[k]'(by simpa using h)).toNat : Int) := by
  have h1 := get_bt s
  first
    | (simp [bt, h]; done)
    | (unfold bt; simp [h]; rfl)
theorem nsTo_all {s : ByteArray} : ∀ {n : Nat}, n ≤ s.size → (∀ k, k < n → ¬ bt s k = 47) → nsTo s n = true
  | 0, _, _ => rfl
  | n + 1, h, hk => nsTo_next (nsTo_all (by omega) (fun k hk2 => hk k (by omega))) (hk n (by omega))
/-- A text holds a stroke, or not. -/
theorem slash_is (s : ByteArray) : decide (0 ≤ Lib.indexByte s.data.toList 47) = !nsTo s s.size := by
  cases h : nsTo s s.size
  · rw [← Lib.contains_iff_indexByte]
    cases hc : s.data.toList.contains 47
    · exfalso
      have : nsTo s s.size = true := nsTo_all (Nat.le_refl _) (fun k hk e => by
        rw [bt_is hk] at e
        have h47 : s.data[k]'(by simpa using hk) = 47 := by
          apply UInt8.toNat_inj.1
          show _ = 47
          omega
        have hm : (47 : UInt8) ∈ s.data.toList := by
          rw [← h47]
          simp
        simp at hc
        exact hc (by simpa using hm))
      rw [this] at h
      cases h
    · rfl
  · rw [← Lib.contains_iff_indexByte]
    cases hc : s.data.toList.contains 47
    · rfl
    · exfalso
      have hm : (47 : UInt8) ∈ s.data.toList := by simpa using hc
      obtain ⟨k, hk, e⟩ := List.getElem_of_mem hm
      have hk2 : k < s.size := by simpa using hk
      have : nsTo s s.size = false := nsTo_false hk2 (by
        rw [bt_is hk2]
        have e2 : s.data[k]'(by simpa using hk2) = 47 := by simpa using e
        rw [e2]
        rfl)
      rw [this] at h
      cases h
set_option maxHeartbeats 1000000 in
/-- impl.EntryName. -/
theorem iEntry_any (s : ByteArray) (hs : s.size ≤ maxLen) (w : World) :
    Calls Tryz.prog 97 #[.string s] w fun e w' => e = .returned (.bool (entB s)) ∧ w' = w := by
  have hc : Hid (∀ w, Calls Tryz.prog 87 #[.string s, .int .i64 12] w fun e w' => e = .returned (.bool (signsB s 12)) ∧ w' = w) := (fun w => iSigns_any s 12 (by omega) hs w)
  have hd : Hid (∀ w, Calls Tryz.prog 100 #[.string s, .string ⟨#[47]⟩] w fun e w' => e = .returned (.bool (!nsTo s s.size)) ∧ w' = w) := (fun w => by
    have h := Tryz.strings_Contains_one s 47 w
    rwa [slash_is] at h)
  have hz : s.size ≤ 9223372036854775807 := hs
  cases h0 : signsB s 12
  · have hno : Hid (entB s = false) := ent_signs h0
    rw [h0] at hc
    go_enter Tryz.func97, Tryz.ntmps97
    go_wp2_with (go_at_call 87; refine (hc.out _).mono ?_; rintro e w' ⟨rfl, rfl⟩)
    go_ret
    exact ⟨ret_boolS hno.out.symm, rfl⟩
  cases h3 : nsTo s s.size
  · have hno : Hid (entB s = false) := ent_slash h3
    rw [h0] at hc
    rw [h3] at hd
    go_enter Tryz.func97, Tryz.ntmps97
    go_wp2_with (first | (go_at_call 87; refine (hc.out _).mono ?_; rintro e w' ⟨rfl, rfl⟩) | (go_at_call 100; refine (hd.out _).mono ?_; rintro e w' ⟨rfl, rfl⟩))
    go_ret
    exact ⟨ret_boolS hno.out.symm, rfl⟩
  cases h1 : (s.toList == [46])
  · have g1 : (s.toList != [46]) = true := (strs_of h1).2
    cases h2 : (s.toList == [46, 46])
    · have g2 : (s.toList != [46, 46]) = true := (strs_of h2).2
      have hyes : Hid (entB s = true) := ent_yes h0 h1 h2 h3
      rw [h0] at hc
      rw [h3] at hd
      go_enter Tryz.func97, Tryz.ntmps97
      go_wp2_with (first | (go_at_call 87; refine (hc.out _).mono ?_; rintro e w' ⟨rfl, rfl⟩) | (go_at_call 100; refine (hd.out _).mono ?_; rintro e w' ⟨rfl, rfl⟩))
      go_ret
      exact ⟨ret_boolS (by rw [hyes.out]), rfl⟩
    · have g2 : (s.toList != [46, 46]) = false := (strs_of h2).2
      have hno : Hid (entB s = false) := ent_dots h2
      rw [h0] at hc
      rw [h3] at hd
      go_enter Tryz.func97, Tryz.ntmps97
      go_wp2_with (first | (go_at_call 87; refine (hc.out _).mono ?_; rintro e w' ⟨rfl, rfl⟩) | (go_at_call 100; refine (hd.out _).mono ?_; rintro e w' ⟨rfl, rfl⟩))
      go_ret
      exact ⟨ret_boolS (by rw [hno.out]), rfl⟩
  · have g1 : (s.toList != [46]) = false := (strs_of h1).2
    have hno : Hid (entB s = false) := ent_dot h1
    rw [h0] at hc
    rw [h3] at hd
    go_enter Tryz.func97, Tryz.ntmps97
    go_wp2_with (first | (go_at_call 87; refine (hc.out _).mono ?_; rintro e w' ⟨rfl, rfl⟩) | (go_at_call 100; refine (hd.out _).mono ?_; rintro e w' ⟨rfl, rfl⟩))
    go_ret
    exact ⟨ret_boolS (by rw [hno.out]), rfl⟩
end Go.Proofs.YtgodbelcddgdmaaGreat
/- The program's namesRight. -/
namespace Go.Proofs.YtgodbelcddgdmaaGreat
open Go.RowKit Go.PlainAid Go.Deep
set_option linter.unusedVariables false
theorem less_tot : ∀ a b : List UInt8, (Op.bytesLess a b || a == b) = !Op.bytesLess b a
  | [], [] => rfl
  | [], _ :: _ => rfl
  | _ :: _, [] => rfl
  | a :: x, b :: y => by
    have ih := less_tot x y
    simp only [Op.bytesLess]
    by_cases h1 : a < b
    · have h2 : ¬ b < a := UInt8.lt_asymm h1
      have h3 : ¬ b = a := fun e => by subst e; exact UInt8.lt_irrefl _ h1
      simp [h1, h2, h3]
    · by_cases h2 : b < a
      · have h3 : ¬ a = b := fun e => by subst e; exact UInt8.lt_irrefl _ h2
        simp [h1, h2, h3]
      · have h3 : a = b := by
          apply UInt8.toNat_inj.1
          rw [UInt8.lt_iff_toNat_lt] at h1 h2
          omega
        subst h3
        simp [h1]
        simpa using ih
theorem binOp_leqS (t : TypeId) (a b : ByteArray) : binOp .leq t (.string a) (.string b) = pure (.bool !(Op.bytesLess b.toList a.toList)) := by
  rw [← less_tot]
  simp [binOp, Op.stringOp]
attribute [local go_sem high] binOp_leqS
set_option maxRecDepth 20000 in
set_option maxHeartbeats 16000000 in
theorem iNames_any (a : Option Addr) (len cap : Nat) (l : List Nd) (now : Int) (nA : Option Addr) (nC : Nat) (ns : List (ByteArray × Int)) (hl : len ≤ 1048576) (hnl : ns.length ≤ 1048576) (hnm : ∀ i, i < ns.length → (nmAt ns i).size ≤ 1048576) (w : World) (hi : Nds a len l w) (hn : Ens nA ns.length ns w) :
    Calls Tryz.prog 85 #[.agg #[.slice a len cap, .int .i64 now], .slice nA ns.length nC] w fun e w' => e = .returned (.bool (nsB l ns)) ∧ Below w.heap.size w w' := by
  have HI : Hid (Nds a len l w) := hi
  have HN : Hid (Ens nA ns.length ns w) := hn
  have HM : Hid (∀ i, i < ns.length → (nmAt ns i).size ≤ 1048576) := hnm
  clear hi hn hnm
  by_cases h6 : 6 < ns.length
  · have hno : Hid (nsB l ns = false) := nsB_long h6
    have h6' : (6 : Int) < (ns.length : Int) := by omega
    have HB : Hid (Below w.heap.size w (w.alloc (.cells #[.slice a len cap, .int .i64 now] 35))) := bel_alloc _ _
    have HX : Hid (BoxR (w.alloc (.cells #[.slice a len cap, .int .i64 now] 35)) w.heap.size [.slice a len cap, .int .i64 now]) := boxR_new _ _ _
    go_enter Tryz.func85, Tryz.ntmps85
    go_upto_region 1 with fail
    generalize (w.alloc (.cells #[.slice a len cap, .int .i64 now] 35)) = w0 at HB HX ⊢
    obtain ⟨X, hX⟩ : ∃ X, X = w.heap.size := ⟨_, rfl⟩
    rw [← hX] at HX ⊢
    clear hX
    have t0 : w0.cell? ⟨X, 0, none⟩ = some (.slice a len cap) := HX.out.at0 0 _ rfl
    have t1 : w0.cell? ⟨X, 1, none⟩ = some (.int .i64 now) := HX.out.at0 1 _ rfl
    go_wp2
    go_ret
    exact ⟨ret_boolW hno.out.symm, HB.out⟩
  have h6' : ¬ (6 : Int) < (ns.length : Int) := by omega
  have HB : Hid (Below w.heap.size w (w.alloc (.cells #[.slice a len cap, .int .i64 now] 35))) := bel_alloc _ _
  have HX : Hid (BoxR (w.alloc (.cells #[.slice a len cap, .int .i64 now] 35)) w.heap.size [.slice a len cap, .int .i64 now]) := boxR_new _ _ _
  go_enter Tryz.func85, Tryz.ntmps85
  go_upto_region 1 with fail
  generalize (w.alloc (.cells #[.slice a len cap, .int .i64 now] 35)) = w0 at HB HX ⊢
  obtain ⟨X, hX⟩ : ∃ X, X = w.heap.size := ⟨_, rfl⟩
  rw [← hX] at HX ⊢
  clear hX
  have t0 : w0.cell? ⟨X, 0, none⟩ = some (.slice a len cap) := HX.out.at0 0 _ rfl
  have t1 : w0.cell? ⟨X, 1, none⟩ = some (.int .i64 now) := HX.out.at0 1 _ rfl
  clear t0 t1
  go_wp2
  go_loopw [12] (fun i wr => ∃ (k : Nat), k ≤ ns.length ∧ i = .int .i64 k ∧ Hid (nsT l ns k = true) ∧ Hid (Below w.heap.size w wr) ∧ Hid (BoxR wr X [.slice a len cap, .int .i64 now])) (fun i _ => ns.length - (intOf i).toNat)
  case atStart => exact ⟨0, Nat.zero_le _, rfl, rfl, HB, HX⟩
  case round =>
    obtain ⟨k, hk, rfl, hto, hB, hX⟩ := hrel
    by_cases hlt : k < ns.length
    · obtain ⟨b, off, rfl, hb0, hc⟩ := (HN.out.below hB.out).2 (by omega)
      have hlt' : (k : Int) < (ns.length : Int) := by omega
      have hk0 : (0 : Int) ≤ (k : Int) := by omega
      have g0 := (hc k hlt).1
      have g1 := (hc k hlt).2
      have hsz := HM.out k hlt
      have HO : Hid (okE l ns k = (entB (nmAt ns k) && ((k == 0 || Op.bytesLess (nmAt ns (k - 1)).toList (nmAt ns k).toList) && (thB l (noAt ns k) && noAt ns k != 1)))) := rfl
      have HP : Hid (∀ m, k = m + 1 → wr.cell? ⟨b, off + m * 2, none⟩ = some (.string (nmAt ns m))) := (fun m e => (hc m (by omega)).1)
      have HT : Hid (∀ w', Below w.heap.size w w' → Calls Tryz.prog 98 #[.agg #[.slice a len cap, .int .i64 now], .int .i64 (noAt ns k)] w' fun e w'' => e = .returned (.bool (thB l (noAt ns k))) ∧ Below w'.heap.size w' w'') := (fun w' hb => iThere_any a len cap l now _ hl w' (HI.out.below hb))
      clear hc
      obtain ⟨nm, hnm⟩ : ∃ nm, nm = nmAt ns k := ⟨_, rfl⟩
      rw [← hnm] at g0 hsz HO
      clear hnm
      generalize noAt ns k = v at g1 HO HT
      have hbN : Below wr.heap.size wr (wr.alloc (.cells #[.string nm, .int .i64 v] 72)) := bel_alloc _ _
      have HBn : Hid (Below w.heap.size w (wr.alloc (.cells #[.string nm, .int .i64 v] 72))) := Below.on hB.out hbN
      have HXn : Hid (BoxR (wr.alloc (.cells #[.string nm, .int .i64 v] 72)) X [.slice a len cap, .int .i64 now]) := hX.out.below hbN
      have HZn : Hid (BoxR (wr.alloc (.cells #[.string nm, .int .i64 v] 72)) wr.heap.size [.string nm, .int .i64 v]) := boxR_new _ _ _
      have HPn : Hid (∀ m, k = m + 1 → (wr.alloc (.cells #[.string nm, .int .i64 v] 72)).cell? ⟨b, off + m * 2, none⟩ = some (.string (nmAt ns m))) := (fun m e => (hbN.cell (p := ⟨b, off + m * 2, none⟩) hb0).trans (HP.out m e))
      clear HP hbN hX
      go_upto_region 6 with fail
      generalize (wr.alloc (.cells #[.string nm, .int .i64 v] 72)) = wn at HBn HXn HZn HPn ⊢
      generalize wr.heap.size = Z at HZn ⊢
      clear g0 g1
      have z0 : ∀ d os, (Go.Sort.grow (redrawn wn d) os).cell? ⟨Z, 0, none⟩ = some (.string nm) := fun d os => cell_regrown (HZn.out.at0 0 _ rfl) d os
      have z1 : ∀ d os, (Go.Sort.grow (redrawn wn d) os).cell? ⟨Z, 1, none⟩ = some (.int .i64 v) := fun d os => cell_regrown (HZn.out.at0 1 _ rfl) d os
      have cE : ∀ d os, Calls Tryz.prog 97 #[.string nm] (Go.Sort.grow (redrawn wn d) os) fun e w'' => e = .returned (.bool (entB nm)) ∧ ∃ p : Regrown, w'' = Go.Sort.grow (redrawn wn p.d) p.os := fun d os => (iEntry_any nm (by unfold maxLen; omega) _).mono (fun e w'' ⟨h1, h2⟩ => ⟨h1, ⟨d, os⟩, h2⟩)
      cases he : entB nm
      · have hno : Hid (nsB l ns = false) := nsB_no hlt (by rw [HO.out]; simp [he])
        rw [he] at cE
        clear HO HPn
        refine wp_region_quiet_below (by kernel_rfl) (by kernel_rfl) ?_
        repeat (go_big_quiet_step (first | exact cE _ _))
        refine wpQuiet_nil ?_
        intro _ hw'
        obtain ⟨⟨dq, osq⟩, hw''⟩ := hw'
        subst hw''
        have HB2 : Hid (Below w.heap.size w (Go.Sort.grow (redrawn wn dq) osq)) := HBn.out.trans ((below_regrown wn dq osq).mono HBn.out.size)
        have HX2 : Hid (BoxR (Go.Sort.grow (redrawn wn dq) osq) X [.slice a len cap, .int .i64 now]) := HXn.out.below (below_regrown wn dq osq)
        have HZ2 : Hid (BoxR (Go.Sort.grow (redrawn wn dq) osq) Z [.string nm, .int .i64 v]) := HZn.out.below (below_regrown wn dq osq)
        generalize Go.Sort.grow (redrawn wn dq) osq = w1 at HB2 HX2 HZ2 ⊢
        clear z0 z1  cE
        go_wp2
        go_ret
        exact ⟨ret_boolW hno.out.symm, HB2.out⟩
      rw [he] at cE HO
      clear he
      by_cases hk00 : k = 0
      · subst hk00
        clear HPn
        refine wp_region_quiet_below (by kernel_rfl) (by kernel_rfl) ?_
        repeat (go_big_quiet_step (first | exact cE _ _))
        refine wpQuiet_nil ?_
        intro _ hw'
        obtain ⟨⟨dq, osq⟩, hw''⟩ := hw'
        subst hw''
        have HB2 : Hid (Below w.heap.size w (Go.Sort.grow (redrawn wn dq) osq)) := HBn.out.trans ((below_regrown wn dq osq).mono HBn.out.size)
        have HX2 : Hid (BoxR (Go.Sort.grow (redrawn wn dq) osq) X [.slice a len cap, .int .i64 now]) := HXn.out.below (below_regrown wn dq osq)
        have HZ2 : Hid (BoxR (Go.Sort.grow (redrawn wn dq) osq) Z [.string nm, .int .i64 v]) := HZn.out.below (below_regrown wn dq osq)
        generalize Go.Sort.grow (redrawn wn dq) osq = w1 at HB2 HX2 HZ2 ⊢
        clear z0 z1  cE
        skip
        have z0 : w1.cell? ⟨Z, 0, none⟩ = some (.string nm) := HZ2.out.at0 0 _ rfl
        have z1 : w1.cell? ⟨Z, 1, none⟩ = some (.int .i64 v) := HZ2.out.at0 1 _ rfl
        have t0 : w1.cell? ⟨X, 0, none⟩ = some (.slice a len cap) := HX2.out.at0 0 _ rfl
        have t1 : w1.cell? ⟨X, 1, none⟩ = some (.int .i64 now) := HX2.out.at0 1 _ rfl
        by_cases e1 : v = 1
        · have hno : Hid (nsB l ns = false) := nsB_no hlt (by rw [HO.out]; simp [e1])
          have e2 : (v == 1) = true := by simp [e1]
          clear e1 HO
          go_wp2
          go_ret
          exact ⟨ret_boolW hno.out.symm, HB2.out⟩
        · have e2 : (v == 1) = false := by simp [e1]
          cases ht : thB l v
          · have hno : Hid (nsB l ns = false) := nsB_no hlt (by rw [HO.out]; simp [ht])
            rw [ht] at HT
            clear e1 HO
            go_wp2_with (go_at_call 98; refine (HT.out _ HB2.out).mono ?_; rintro e w3 ⟨rfl, hb⟩; have HB3 : Hid (Below w.heap.size w w3) := Below.on HB2.out hb; have HX3 : Hid (BoxR w3 X [.slice a len cap, .int .i64 now]) := HX2.out.below hb; clear hb)
            go_ret
            exact ⟨ret_boolW hno.out.symm, HB3.out⟩
          · have hyes : Hid (nsT l ns (0 + 1) = true) := nsT_next hto.out (by rw [HO.out]; simp [ht, e1])
            rw [ht] at HT
            clear e1 HO
            go_wp2_with (go_at_call 98; refine (HT.out _ HB2.out).mono ?_; rintro e w3 ⟨rfl, hb⟩; have HB3 : Hid (Below w.heap.size w w3) := Below.on HB2.out hb; have HX3 : Hid (BoxR w3 X [.slice a len cap, .int .i64 now]) := HX2.out.below hb; clear hb)
            go_roundw
            case rel => exact ⟨0 + 1, by omega, by go_num, hyes, HB3, HX3⟩
            case measure => simp [intOf]; omega
      · obtain ⟨m, rfl⟩ : ∃ m, k = m + 1 := ⟨k - 1, by omega⟩
        have p0 : ∀ d os, (Go.Sort.grow (redrawn wn d) os).cell? ⟨b, off + m * 2, none⟩ = some (.string (nmAt ns m)) := fun d os => cell_regrown (HPn.out m rfl) d os
        clear HPn
        have hm1 : (m : Int) < (ns.length : Int) := by omega
        have hm0 : (0 : Int) ≤ (m : Int) := by omega
        have hgt : (0 : Int) < (m : Int) + 1 := by omega
        have eM : m + 1 - 1 = m := by omega
        have eZ : (m + 1 == 0) = false := by simp
        rw [eM, eZ] at HO
        clear eM eZ hk00
        simp only [Int.natCast_add, Int.cast_ofNat_Int] at hlt' hk0
        generalize nmAt ns m = pm at p0 HO
        cases hless : Op.bytesLess pm.toList nm.toList
        · have hno : Hid (nsB l ns = false) := nsB_no hlt (by rw [HO.out]; simp [hless])
          clear HO
          refine wp_region_quiet_below (by kernel_rfl) (by kernel_rfl) ?_
          repeat (go_big_quiet_step (first | exact cE _ _))
          refine wpQuiet_nil ?_
          intro _ hw'
          obtain ⟨⟨dq, osq⟩, hw''⟩ := hw'
          subst hw''
          have HB2 : Hid (Below w.heap.size w (Go.Sort.grow (redrawn wn dq) osq)) := HBn.out.trans ((below_regrown wn dq osq).mono HBn.out.size)
          have HX2 : Hid (BoxR (Go.Sort.grow (redrawn wn dq) osq) X [.slice a len cap, .int .i64 now]) := HXn.out.below (below_regrown wn dq osq)
          have HZ2 : Hid (BoxR (Go.Sort.grow (redrawn wn dq) osq) Z [.string nm, .int .i64 v]) := HZn.out.below (below_regrown wn dq osq)
          generalize Go.Sort.grow (redrawn wn dq) osq = w1 at HB2 HX2 HZ2 ⊢
          clear z0 z1 p0 cE
          go_wp2
          go_ret
          exact ⟨ret_boolW hno.out.symm, HB2.out⟩
        · rw [hless] at HO
          refine wp_region_quiet_below (by kernel_rfl) (by kernel_rfl) ?_
          repeat (go_big_quiet_step (first | exact cE _ _))
          refine wpQuiet_nil ?_
          intro _ hw'
          obtain ⟨⟨dq, osq⟩, hw''⟩ := hw'
          subst hw''
          have HB2 : Hid (Below w.heap.size w (Go.Sort.grow (redrawn wn dq) osq)) := HBn.out.trans ((below_regrown wn dq osq).mono HBn.out.size)
          have HX2 : Hid (BoxR (Go.Sort.grow (redrawn wn dq) osq) X [.slice a len cap, .int .i64 now]) := HXn.out.below (below_regrown wn dq osq)
          have HZ2 : Hid (BoxR (Go.Sort.grow (redrawn wn dq) osq) Z [.string nm, .int .i64 v]) := HZn.out.below (below_regrown wn dq osq)
          generalize Go.Sort.grow (redrawn wn dq) osq = w1 at HB2 HX2 HZ2 ⊢
          clear z0 z1 p0 cE
          skip
          have z0 : w1.cell? ⟨Z, 0, none⟩ = some (.string nm) := HZ2.out.at0 0 _ rfl
          have z1 : w1.cell? ⟨Z, 1, none⟩ = some (.int .i64 v) := HZ2.out.at0 1 _ rfl
          have t0 : w1.cell? ⟨X, 0, none⟩ = some (.slice a len cap) := HX2.out.at0 0 _ rfl
          have t1 : w1.cell? ⟨X, 1, none⟩ = some (.int .i64 now) := HX2.out.at0 1 _ rfl
          by_cases e1 : v = 1
          · have hno : Hid (nsB l ns = false) := nsB_no hlt (by rw [HO.out]; simp [e1])
            have e2 : (v == 1) = true := by simp [e1]
            clear e1 HO
            go_wp2
            go_ret
            exact ⟨ret_boolW hno.out.symm, HB2.out⟩
          · have e2 : (v == 1) = false := by simp [e1]
            cases ht : thB l v
            · have hno : Hid (nsB l ns = false) := nsB_no hlt (by rw [HO.out]; simp [ht])
              rw [ht] at HT
              clear e1 HO
              go_wp2_with (go_at_call 98; refine (HT.out _ HB2.out).mono ?_; rintro e w3 ⟨rfl, hb⟩; have HB3 : Hid (Below w.heap.size w w3) := Below.on HB2.out hb; have HX3 : Hid (BoxR w3 X [.slice a len cap, .int .i64 now]) := HX2.out.below hb; clear hb)
              go_ret
              exact ⟨ret_boolW hno.out.symm, HB3.out⟩
            · have hyes : Hid (nsT l ns (m + 1 + 1) = true) := nsT_next hto.out (by rw [HO.out]; simp [ht, e1])
              rw [ht] at HT
              clear e1 HO
              go_wp2_with (go_at_call 98; refine (HT.out _ HB2.out).mono ?_; rintro e w3 ⟨rfl, hb⟩; have HB3 : Hid (Below w.heap.size w w3) := Below.on HB2.out hb; have HX3 : Hid (BoxR w3 X [.slice a len cap, .int .i64 now]) := HX2.out.below hb; clear hb)
              go_roundw
              case rel => exact ⟨m + 1 + 1, by omega, by go_num, hyes, HB3, HX3⟩
              case measure => simp [intOf]; omega
    · have : k = ns.length := by omega
      subst this
      have hyes : Hid (nsB l ns = true) := nsB_yes (by omega) hto.out
      go_wp2
      go_ret
      exact ⟨ret_boolW hyes.out.symm, hB.out⟩
end Go.Proofs.YtgodbelcddgdmaaGreat
