/- modeAces of the program: the walk. -/
import Derived.Test.YtddkmlkfphmdoaaDoorChmodM
namespace Go.Proofs.YtddkmlkfphmdoaaDoor
open Go.RowKit Go.PlainAid Go.Deep
set_option linter.unusedVariables false
set_option maxRecDepth 100000 in
set_option maxHeartbeats 4000000 in
/-- impl.modeAces. -/
theorem modeAces_any (a : Option Addr) (len cap : Nat) (l : List Ac) (hb : acesB l = true) (k : Nat) (hk : k ≤ 4095) (w : World) (hi : Acs a len l w) (hp : PlW w) :
    Calls Tryd.prog 21 #[.slice a len cap, .int .i64 (k : Int)] w fun e w' => ∃ a' c, e = .returned (.slice a' (moL l ((k : Int) / 64 % 8) ((k : Int) / 8 % 8) ((k : Int) % 8)).length c) ∧ (moL l ((k : Int) / 64 % 8) ((k : Int) / 8 % 8) ((k : Int) % 8)).length ≤ c ∧ NewA w w' a' (moL l ((k : Int) / 64 % 8) ((k : Int) / 8 % 8) ((k : Int) % 8)).length (moL l ((k : Int) / 64 % 8) ((k : Int) / 8 % 8) ((k : Int) % 8)) := by
  have hln : len ≤ 32 := by rw [← hi.1]; exact aces_len hb
  have HT : Hid (∀ w, Calls Tryd.prog 33 #[.int .i64 (k : Int)] w fun e w' => e = .returned (.tuple #[.int .i64 ((k : Int) / 64 % 8), .int .i64 ((k : Int) / 8 % 8), .int .i64 ((k : Int) % 8)]) ∧ w' = w) := threeBits_in k hk
  have hu0 : 0 ≤ (k : Int) / 64 % 8 := by omega
  have hu1 : (k : Int) / 64 % 8 ≤ 7 := by omega
  have hg0 : 0 ≤ (k : Int) / 8 % 8 := by omega
  have hg1 : (k : Int) / 8 % 8 ≤ 7 := by omega
  have ho0 : 0 ≤ (k : Int) % 8 := by omega
  have ho1 : (k : Int) % 8 ≤ 7 := by omega
  generalize (k : Int) / 64 % 8 = u at HT hu0 hu1 ⊢
  generalize (k : Int) / 8 % 8 = g at HT hg0 hg1 ⊢
  generalize (k : Int) % 8 = o at HT ho0 ho1 ⊢
  have HNB : Hid (∀ n W, Below w.heap.size w W → Calls Tryd.prog 34 #[.int .i64 n] W fun e w' => e = .returned (.int .i64 (bitsZ n)) ∧ Below W.heap.size W w') := (fun n W hb => iNfsBits_any n W (hp.below hb))
  have HH : Hid (∀ W, Below w.heap.size w W → Calls Tryd.prog 36 #[.slice a len cap] W (AnsL (hdTo l len) W)) := (fun W h => handed_any a len cap l hb W (hi.below h))
  have HNM : Hid (∀ W, Below w.heap.size w W → Calls Tryd.prog 37 #[.slice a len cap, .int .i64 g] W (AnsL ((fltP nmdB l len).map (ctA g)) W)) := (fun W h => named_any a len cap l g (by omega) (fun i h2 => (ace_range hb (by rw [hi.1]; exact h2)).1) W (hi.below h) (hp.below h))
  have HL : Hid (moL l u g o = hdTo l len ++ ownL u ++ (fltP nmdB l len).map (ctA g) ++ rstL g o) := (by show _ = _; rw [moL, hi.1])
  have HLE : Hid ((hdTo l len).length ≤ len ∧ ((fltP nmdB l len).map (ctA g)).length ≤ len) := ⟨hd_len l len, by rw [List.length_map]; exact fltP_len _ _ _⟩
  generalize moL l u g o = ML at HL ⊢
  generalize hdTo l len = L0 at HH HL HLE
  generalize (fltP nmdB l len).map (ctA g) = L2 at HNM HL HLE
  have HOW : Hid (ownL u = [⟨true, 1, 0, 0, bits .or .i64 (bits .or .i64 (bitsZ u) 32) 64⟩, ⟨false, 1, 0, 0, bitsZ (7 - u)⟩]) := rfl
  have HRS : Hid (rstL g o = [⟨true, 2, 0, 0, bitsZ g⟩, ⟨false, 2, 0, 0, bitsZ (7 - g)⟩, ⟨true, 3, 0, 0, bits .or .i64 (bitsZ o) 32⟩]) := rfl
  clear hp hi hb hk
  go_enter Tryd.func21, Tryd.ntmps21
  go_wp2_with fail
  refine (HT.out _).mono ?_
  rintro e w1 ⟨rfl, rfl⟩
  clear HT
  go_wp2_with fail
  refine (HNB.out u _ (Below.refl _ _)).mono ?_
  rintro e w2 ⟨rfl, hb2⟩
  have hW2 : Hid (Below w1.heap.size w1 w2) := hb2
  clear hb2
  go_wp2_with fail
  refine (HNB.out (7 - u) _ hW2.out).mono ?_
  rintro e w3 ⟨rfl, hb3⟩
  have hW3 : Hid (Below w1.heap.size w1 w3) := Below.on hW2.out hb3
  clear hb3 hW2
  generalize bitsZ (7 - u) = bu7 at HOW ⊢
  generalize bits .or .i64 (bits .or .i64 (bitsZ u) 32) 64 = bu at HOW ⊢
  have hA1 : Hid (Acs (some ⟨w3.heap.size, 0, none⟩) 2 (ownL u) (w3.alloc (.cells #[.bool true, .int .i64 1, .int .i64 0, .int .i64 0, .int .i64 bu, .bool false, .int .i64 1, .int .i64 0, .int .i64 0, .int .i64 bu7] 39))) := (by rw [HOW.out]; exact acs_two w3 ⟨true, 1, 0, 0, bu⟩ ⟨false, 1, 0, 0, bu7⟩ _)
  have hW4 : Hid (Below w1.heap.size w1 (w3.alloc (.cells #[.bool true, .int .i64 1, .int .i64 0, .int .i64 0, .int .i64 bu, .bool false, .int .i64 1, .int .i64 0, .int .i64 0, .int .i64 bu7] 39))) := Below.on hW3.out (bel_alloc _ _)
  go_wp2_with fail
  generalize (w3.alloc (.cells #[.bool true, .int .i64 1, .int .i64 0, .int .i64 0, .int .i64 bu, .bool false, .int .i64 1, .int .i64 0, .int .i64 0, .int .i64 bu7] 39)) = w4 at hA1 hW4 ⊢
  refine (HNB.out g _ hW4.out).mono ?_
  rintro e w5 ⟨rfl, hb5⟩
  have hW5 : Hid (Below w1.heap.size w1 w5) := Below.on hW4.out hb5
  have hA5 : Hid (Acs (some ⟨w3.heap.size, 0, none⟩) 2 (ownL u) w5) := hA1.out.below hb5
  clear hb5 hW4 hA1
  go_wp2_with fail
  refine (HNB.out (7 - g) _ hW5.out).mono ?_
  rintro e w6 ⟨rfl, hb6⟩
  have hW6 : Hid (Below w1.heap.size w1 w6) := Below.on hW5.out hb6
  have hA6 : Hid (Acs (some ⟨w3.heap.size, 0, none⟩) 2 (ownL u) w6) := hA5.out.below hb6
  clear hb6 hW5 hA5
  go_wp2_with fail
  refine (HNB.out o _ hW6.out).mono ?_
  rintro e w7 ⟨rfl, hb7⟩
  have hW7 : Hid (Below w1.heap.size w1 w7) := Below.on hW6.out hb7
  have hA7 : Hid (Acs (some ⟨w3.heap.size, 0, none⟩) 2 (ownL u) w7) := hA6.out.below hb7
  clear hb7 hW6 hA6
  generalize bitsZ o = bo at HRS ⊢
  generalize bitsZ (7 - g) = bg7 at HRS ⊢
  generalize bitsZ g = bg at HRS ⊢
  have hA3 : Hid (Acs (some ⟨w7.heap.size, 0, none⟩) 3 (rstL g o) (w7.alloc (.cells #[.bool true, .int .i64 2, .int .i64 0, .int .i64 0, .int .i64 bg, .bool false, .int .i64 2, .int .i64 0, .int .i64 0, .int .i64 bg7, .bool true, .int .i64 3, .int .i64 0, .int .i64 0, .int .i64 (bits .or .i64 bo 32)] 39))) := (by rw [HRS.out]; exact acs_three w7 ⟨true, 2, 0, 0, bg⟩ ⟨false, 2, 0, 0, bg7⟩ ⟨true, 3, 0, 0, bits .or .i64 bo 32⟩ _)
  have hW8 : Hid (Below w1.heap.size w1 (w7.alloc (.cells #[.bool true, .int .i64 2, .int .i64 0, .int .i64 0, .int .i64 bg, .bool false, .int .i64 2, .int .i64 0, .int .i64 0, .int .i64 bg7, .bool true, .int .i64 3, .int .i64 0, .int .i64 0, .int .i64 (bits .or .i64 bo 32)] 39))) := Below.on hW7.out (bel_alloc _ _)
  have hA8 : Hid (Acs (some ⟨w3.heap.size, 0, none⟩) 2 (ownL u) (w7.alloc (.cells #[.bool true, .int .i64 2, .int .i64 0, .int .i64 0, .int .i64 bg, .bool false, .int .i64 2, .int .i64 0, .int .i64 0, .int .i64 bg7, .bool true, .int .i64 3, .int .i64 0, .int .i64 0, .int .i64 (bits .or .i64 bo 32)] 39))) := hA7.out.below (bel_alloc _ _)
  go_wp2_with fail
  generalize (w7.alloc (.cells #[.bool true, .int .i64 2, .int .i64 0, .int .i64 0, .int .i64 bg, .bool false, .int .i64 2, .int .i64 0, .int .i64 0, .int .i64 bg7, .bool true, .int .i64 3, .int .i64 0, .int .i64 0, .int .i64 (bits .or .i64 bo 32)] 39)) = w8 at hA3 hW8 hA8 ⊢
  refine (HH.out _ hW8.out).mono ?_
  rintro e w9 ⟨a9, c9, rfl, hN9⟩
  have hW9 : Hid (Below w1.heap.size w1 w9) := Below.on hW8.out hN9.bel
  have hB9 : Hid (Acs (some ⟨w3.heap.size, 0, none⟩) 2 (ownL u) w9) := hA8.out.below hN9.bel
  have hC9 : Hid (Acs (some ⟨w7.heap.size, 0, none⟩) 3 (rstL g o) w9) := hA3.out.below hN9.bel
  have hD9 : Hid (Acs a9 L0.length L0 w9) := hN9.own.acs
  clear hN9 hW8 hA8 hA3 hA7 hW7
  go_wp2_with fail
  refine (HNM.out _ hW9.out).mono ?_
  rintro e w10 ⟨a10, c10, rfl, hN10⟩
  have hW10 : Hid (Below w1.heap.size w1 w10) := Below.on hW9.out hN10.bel
  have hB10 : Hid (Acs (some ⟨w3.heap.size, 0, none⟩) 2 (ownL u) w10) := hB9.out.below hN10.bel
  have hC10 : Hid (Acs (some ⟨w7.heap.size, 0, none⟩) 3 (rstL g o) w10) := hC9.out.below hN10.bel
  have hD10 : Hid (Acs a9 L0.length L0 w10) := hD9.out.below hN10.bel
  have hE10 : Hid (Acs a10 L2.length L2 w10) := hN10.own.acs
  clear hN10 hB9 hC9 hD9 hW9
  go_wp2_with fail
  refine (concat_four w10 a9 (some ⟨w3.heap.size, 0, none⟩) a10 (some ⟨w7.heap.size, 0, none⟩) L0.length 2 L2.length 3 c9 2 c10 3 L0 (ownL u) L2 (rstL g o) hD10.out hB10.out hE10.out hC10.out (by have := HLE.out; omega) 24).mono ?_
  rintro e w11 ⟨a11, c11, rfl, q1, q2, q3, q4⟩
  rw [← HL.out] at q1 q2 ⊢
  have HF : Hid (ML.length ≤ c11 ∧ NewA w1 w11 a11 ML.length ML) := ⟨q1, q2, fun A e => ⟨Nat.le_trans hW10.out.size (q3 A e).1, (q3 A e).2⟩, Below.on hW10.out q4⟩
  clear q1 q2 q3 q4
  go_wp2
  go_ret
  exact ⟨a11, c11, rfl, HF.out⟩
end Go.Proofs.YtddkmlkfphmdoaaDoor
