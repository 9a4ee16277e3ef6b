/- Laid together: BornW. -/
import Derived.Test.YtgojbilbkfilgaaTr33
import Derived.Test.YtgojbilbkfilgaaTr34
import Derived.Test.YtgojbilbkfilgaaTr35
import Derived.Test.YtgojbilbkfilgaaTr36
/- The law FnNfsBorn. -/
namespace Go.Proofs.Ytgojbilbkfilgaa
open Go.RowKit Go.PlainAid Go.Deep
set_option linter.unusedVariables false
theorem LD.acs {a : Option Addr} {len cap : Nat} {g : Nat → Int} {p : Nat} {w0 w : World} {la : Option Addr} {lc : Nat} {l : List Ac} (h : LD a len cap g p w0 w la lc l) : Acs la l.length l w := by
  obtain ⟨a', c', e, ho, _⟩ := ownA_of_row h.row
  cases e
  exact ho.acs
theorem rowO_acs {w0 w : World} {la : Option Addr} {lc : Nat} {l : List Ac} (h : RowO w0 w la lc l) : Acs la l.length l w := by
  obtain ⟨a', c', e, ho, _⟩ := ownA_of_row h.1
  cases e
  exact ho.acs
set_option maxRecDepth 100000 in
set_option maxHeartbeats 2000000 in
theorem dDrawNfsBorn_any (a : Option Addr) (len cap : Nat) (g : Nat → Int) (w : World) (hc : Code a len g w.heap.size w) :
    Calls Try.prog 55 #[.slice a len cap] w fun e w' => ∃ (la : Option Addr) (lc : Nat) (l : List Ac) (d : Bool), e = .returned (.tuple #[.slice la l.length lc, .bool d]) ∧ Acs la l.length l w' ∧ l.length ≤ 50 ∧ Below w.heap.size w w' := by
  go_enter Try.func55, Try.ntmps55
  go_wp2_with fail
  refine (source_any a len cap g _ hc).mono ?_
  rintro e w1 ⟨rfl, hs1, hb1⟩
  go_wp2_with fail
  refine (drList_any a len cap g _ _ hs1).mono ?_
  rintro e w2 ⟨la, lc, l, rfl, hD, hl⟩
  go_wp2_with fail
  refine (one_any a len cap g _ _ (by decide) _ hD.src).mono ?_
  rintro e w3 ⟨d, rfl, hs3, ho3⟩
  have HD3 : Hid (LD a len cap g w.heap.size w1 w3 la lc l) := hD.call hs3 ho3
  have HB : Hid (Below w.heap.size w w3) := HD3.out.own.below hb1 (Nat.le_refl _) hb1.size
  clear hD hs3 ho3 hs1 hc
  go_wp2
  refine bodyPost_ret (v := .tuple #[.slice la l.length lc, .bool d]) (by simp [results, Try.results55, go_sem]) rfl ?_
  exact ⟨la, lc, l, d, rfl, HD3.out.acs, hl, HB.out⟩
set_option maxRecDepth 100000 in
theorem born_long (a0 : Option Addr) (len0 cap0 : Nat) (h0 : 1048576 < (len0 : Int)) (w : World) :
    Calls Try.prog 6 #[.slice a0 len0 cap0] w fun e w' => e = .returned (.bool true) ∧ Below w.heap.size w w' := by
  go_enter Try.func6, Try.ntmps6
  go_wp2
  go_ret
  exact ⟨rfl, Below.refl _ _⟩
set_option maxRecDepth 100000 in
set_option maxHeartbeats 8000000 in
theorem born_short (a : Option Addr) (la ca : Nat) (f : Nat → Int) (w : World) (hc : Code a la f w.heap.size w) :
    Calls Try.prog 6 #[.slice a la ca] w fun e w' => e = .returned (.bool true) ∧ Below w.heap.size w w' := by
  have h1 := hc.1
  have n1 : ¬ (1048576 : Int) < (la : Int) := by omega
  have HC : Hid (Code a la f w.heap.size w) := hc
  clear hc h1
  go_enter Try.func6, Try.ntmps6
  go_wp2_with fail
  refine (dDrawNfsBorn_any a la ca f _ HC.out).mono ?_
  rintro e w1 ⟨xa, xc, l, d, rfl, hA, hl, hb1⟩
  have HA1 : Hid (Acs xa l.length l w1) := hA
  have HB1 : Hid (Below w.heap.size w w1) := hb1
  clear hA hb1 HC
  go_wp2_with fail
  refine (iNfsBorn_any xa _ xc l d _ HA1.out).mono ?_
  rintro e w2 ⟨ba, bc, rfl, hN⟩
  have HA2 : Hid (Acs xa l.length l w2) := HA1.out.below hN.bel
  have HB2 : Hid (Below w.heap.size w w2) := Below.on HB1.out hN.bel
  have HN2 : Hid (Acs ba (bornL d l).length (bornL d l) w2) := hN.own.acs
  have hbl := bornL_len d l
  clear hN HA1 HB1
  go_wp2_with fail
  refine (sNfsBorn_any xa _ xc l d (by omega) _ HA2.out).mono ?_
  rintro e w3 ⟨sa, sc, rfl, hN⟩
  have HA3 : Hid (Acs xa l.length l w3) := HA2.out.below hN.bel
  have HB3 : Hid (Below w.heap.size w w3) := Below.on HB2.out hN.bel
  have HN3 : Hid (Acs ba (bornL d l).length (bornL d l) w3) := HN2.out.below hN.bel
  have HS3 : Hid (Acs sa (bornL d l).length (bornL d l) w3) := hN.own.acs
  clear hN HA2 HB2 HN2
  go_wp2_with fail
  refine (lwAces_any ba sa _ bc sc (bornL d l) (by omega) _ HN3.out HS3.out).mono ?_
  rintro e w4 ⟨rfl, hb4⟩
  have HA4 : Hid (Acs xa l.length l w4) := HA3.out.below hb4
  have HB4 : Hid (Below w.heap.size w w4) := Below.on HB3.out hb4
  have HN4 : Hid (Acs ba (bornL d l).length (bornL d l) w4) := HN3.out.below hb4
  clear hb4 HA3 HB3 HN3 HS3
  go_wp2_with fail
  refine (sNfsRight_any xa _ xc l (by omega) _ HA4.out).mono ?_
  rintro e w5 ⟨rfl, hb5⟩
  have HA5 : Hid (Acs xa l.length l w5) := HA4.out.below hb5
  have HB5 : Hid (Below w.heap.size w w5) := Below.on HB4.out hb5
  have HN5 : Hid (Acs ba (bornL d l).length (bornL d l) w5) := HN4.out.below hb5
  clear hb5 HA4 HB4 HN4
  cases hR : acesB l
  · go_wp2_with fail
    refine (sNfsBorn_any xa _ xc l d (by omega) _ HA5.out).mono ?_
    rintro e w6 ⟨sa, sc, rfl, hN⟩
    have HB6 : Hid (Below w.heap.size w w6) := Below.on HB5.out hN.bel
    have HN6 : Hid (Acs ba (bornL d l).length (bornL d l) w6) := HN5.out.below hN.bel
    have HS6 : Hid (Acs sa (bornL d l).length (bornL d l) w6) := hN.own.acs
    clear hN HA5 HB5 HN5
    go_wp2_with fail
    refine (lwAces_any ba sa _ bc sc (bornL d l) (by omega) _ HN6.out HS6.out).mono ?_
    rintro e w7 ⟨rfl, hb7⟩
    have HB7 : Hid (Below w.heap.size w w7) := Below.on HB6.out hb7
    clear hb7 HN6 HS6 HB6
    go_wp2
    go_ret
    exact ⟨rfl, HB7.out⟩
  · have HR : Hid (acesB l = true) := hR
    have hl32 := aces_len hR
    clear hR
    go_wp2_with fail
    refine (iNfsBorn_any xa _ xc l false _ HA5.out).mono ?_
    rintro e w6 ⟨fa, fc, rfl, hN⟩
    have HA6 : Hid (Acs xa l.length l w6) := HA5.out.below hN.bel
    have HB6 : Hid (Below w.heap.size w w6) := Below.on HB5.out hN.bel
    have HN6 : Hid (Acs ba (bornL d l).length (bornL d l) w6) := HN5.out.below hN.bel
    have HF6 : Hid (Acs fa (bornL false l).length (bornL false l) w6) := hN.own.acs
    have HFZ : Hid (∀ k, k < (bornL false l).length → (acAt (bornL false l) k).fl = 0) := (fun k hk => born_flags HR.out hk)
    have hfl := bornL_len false l
    clear hN HA5 HB5 HN5
    obtain ⟨fb, hfb⟩ : ∃ fb, fb = bornL false l := ⟨_, rfl⟩
    rw [← hfb] at HF6 HFZ hfl ⊢
    clear hfb
    go_wp2
    go_loopw [7] (fun i wr => ∃ k : Nat, k ≤ fb.length ∧ i = .int .i64 k ∧ Hid (wr = w6)) (fun i _ => fb.length - (intOf i).toNat)
    case atStart => exact ⟨0, Nat.zero_le _, rfl, rfl⟩
    case round =>
      obtain ⟨k, hk, rfl, hwr0⟩ := hrel
      have hwr := hwr0.out
      subst hwr
      clear hwr0
      by_cases hlt : k < fb.length
      · have hlt' : (k : Int) < (fb.length : Int) := by omega
        obtain ⟨b, off, rfl, hbl2, hcs⟩ := HF6.out.2 (by omega)
        have F := (hcs k hlt).c3
        rw [HFZ.out k hlt] at F
        clear hcs
        go_wp2
        go_roundw
        case rel => exact ⟨k + 1, by omega, by go_num, (by first | exact (trivial : True) | exact rfl)⟩
        case measure => simp [intOf]; omega
      · have hkk : k = fb.length := by omega
        subst hkk
        have HRE : Hid (RowO wr (wr.alloc (.cells #[] 61)) (some ⟨wr.heap.size, 0, none⟩) 0 []) := rowO_empty wr 61 rfl
        obtain ⟨v6, hv6⟩ : ∃ v, v = wr := ⟨_, rfl⟩
        subst hv6
        clear HF6 HFZ
        go_wp2
        go_loopw [8, 9] (fun o i wr => ∃ (k : Nat) (oa : Option Addr) (oc : Nat), k ≤ l.length ∧ i = .int .i64 k ∧ o = .slice oa (oftN l k).length oc ∧ Hid (RowO v6 wr oa oc (oftN l k))) (fun _ i _ => l.length - (intOf i).toNat)
        case atStart => exact ⟨0, _, _, Nat.zero_le _, rfl, rfl, HRE⟩
        case round =>
          clear HRE
          obtain ⟨k, oa, oc, hk, rfl, rfl, hO⟩ := hrel
          have hol := oftN_len l k
          by_cases hlt : k < l.length
          · have hlt' : (k : Int) < (l.length : Int) := by omega
            obtain ⟨b, off, rfl, hbl2, hcs⟩ := HA6.out.2 (by omega)
            have hrg := ((aceB_iff.1 (aces_at HR.out hlt)).2.2.2.1).1
            have F := (hcs k hlt).keep (fun j => hO.out.2.cell (p := ⟨b, j, none⟩) hbl2)
            have HE : Hid (oftN l (k + 1) = oftN l k ++ oftO (acAt l k)) := rfl
            clear hcs
            generalize acAt l k = x at F HE hrg
            obtain ⟨c0, c1, c2, c3, c4⟩ := F
            have hdm : IntKind.i64.wrap (x.fl.tdiv 4) = x.fl / 4 := by
              rw [Int.tdiv_eq_ediv_of_nonneg hrg.1, IntKind.wrap_i64]
              omega
            by_cases h4 : x.fl / 4 % 2 = 0
            · have hm : (IntKind.i64.wrap (x.fl.tdiv 4)).tmod 2 = 0 := by rw [hdm, Int.tmod_eq_emod_of_nonneg (by omega)]; exact h4
              have HE2 : Hid (oftN l (k + 1) = oftN l k ++ [x]) := (by show _ = _; rw [HE.out, oftO, if_pos h4])
              obtain ⟨a', c', w8, hr, hO8⟩ := append_row hO.out (by omega) x
              have HO8 : Hid _ := hO8
              have el : (oftN l k ++ [x]).length = (oftN l k).length + 1 := by simp
              rw [el] at hr
              clear hO8 hO
              go_wp2_with (at_builtin; refine wpList_append_runA _ rfl (.tmp 66) (.tmp 71) 49 49 rfl _ _ _ _ rfl rfl hr ?_)
              go_roundw
              case rel => exact ⟨k + 1, a', c', by omega, by go_num, by rw [HE2.out, el], (by have h := HO8.out; rw [← HE2.out] at h; exact h)⟩
              case measure => simp [intOf]; omega
            · have h41 : x.fl / 4 % 2 = 1 := by omega
              have hm : (IntKind.i64.wrap (x.fl.tdiv 4)).tmod 2 = 1 := by rw [hdm, Int.tmod_eq_emod_of_nonneg (by omega)]; exact h41
              have HE2 : Hid (oftN l (k + 1) = oftN l k) := (by show _ = _; rw [HE.out, oftO, if_neg h4, List.append_nil])
              clear hdm
              go_wp2
              go_roundw
              case rel => exact ⟨k + 1, oa, oc, by omega, by go_num, by rw [HE2.out], (by have h := hO.out; rw [← HE2.out] at h; exact h)⟩
              case measure => simp [intOf]; omega
          · have hkk : k = l.length := by omega
            subst hkk
            have hBR : acesB (bornL d l) = true := born_right HR.out
            have HN7 : Hid (Acs ba (bornL d l).length (bornL d l) wr) := HN6.out.below hO.out.2
            have HB7 : Hid (Below w.heap.size w wr) := Below.on HB6.out hO.out.2
            have HO7 : Hid (Acs oa (oftN l l.length).length (oftN l l.length) wr) := rowO_acs hO.out
            have HTW : Hid (bornL false (bornL true (oftN l l.length)) = bornL false (oftN l l.length)) := born_twice HR.out
            clear HA6 HB6 HN6 hO
            go_wp2_with fail
            refine (iNfsRight_any ba _ bc (bornL d l) _ HN7.out).mono ?_
            rintro e w9 ⟨rfl, hb9⟩
            rw [hBR]
            have HB9 : Hid (Below w.heap.size w w9) := Below.on HB7.out hb9
            have HO9 : Hid (Acs oa (oftN l l.length).length (oftN l l.length) w9) := HO7.out.below hb9
            clear hb9 HN7 HB7 HO7 hBR
            go_wp2_with fail
            refine (iNfsBorn_any oa _ oc (oftN l l.length) true _ HO9.out).mono ?_
            rintro e w10 ⟨ta, tc, rfl, hN⟩
            have HB10 : Hid (Below w.heap.size w w10) := Below.on HB9.out hN.bel
            have HO10 : Hid (Acs oa (oftN l l.length).length (oftN l l.length) w10) := HO9.out.below hN.bel
            have HT10 : Hid (Acs ta (bornL true (oftN l l.length)).length (bornL true (oftN l l.length)) w10) := hN.own.acs
            clear hN HB9 HO9
            go_wp2_with fail
            refine (iNfsBorn_any ta _ tc (bornL true (oftN l l.length)) false _ HT10.out).mono ?_
            rw [HTW.out]
            rintro e w11 ⟨ua, uc, rfl, hN⟩
            have HB11 : Hid (Below w.heap.size w w11) := Below.on HB10.out hN.bel
            have HO11 : Hid (Acs oa (oftN l l.length).length (oftN l l.length) w11) := HO10.out.below hN.bel
            have HU11 : Hid (Acs ua (bornL false (oftN l l.length)).length (bornL false (oftN l l.length)) w11) := hN.own.acs
            clear hN HB10 HO10 HT10 HTW
            go_wp2_with fail
            refine (iNfsBorn_any oa _ oc (oftN l l.length) false _ HO11.out).mono ?_
            rintro e w12 ⟨va, vc, rfl, hN⟩
            have HB12 : Hid (Below w.heap.size w w12) := Below.on HB11.out hN.bel
            have HU12 : Hid (Acs ua (bornL false (oftN l l.length)).length (bornL false (oftN l l.length)) w12) := HU11.out.below hN.bel
            have HV12 : Hid (Acs va (bornL false (oftN l l.length)).length (bornL false (oftN l l.length)) w12) := hN.own.acs
            have hol2 := bornL_len false (oftN l l.length)
            clear hN HB11 HO11 HU11
            go_wp2_with fail
            refine (lwAces_any ua va _ uc vc (bornL false (oftN l l.length)) (by omega) _ HU12.out HV12.out).mono ?_
            rintro e w13 ⟨rfl, hb13⟩
            have HB13 : Hid (Below w.heap.size w w13) := Below.on HB12.out hb13
            clear hb13 HU12 HV12 HB12
            go_wp2
            go_ret
            exact ⟨rfl, HB13.out⟩
end Go.Proofs.Ytgojbilbkfilgaa
