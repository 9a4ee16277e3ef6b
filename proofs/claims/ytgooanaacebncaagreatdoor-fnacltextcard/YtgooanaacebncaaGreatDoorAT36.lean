/- Laid together: STk, SAf, AclTxDr. -/
import Derived.Test.YtgooanaacebncaaGreatDoorAT35
import Derived.Test.YtgooanaacebncaaGreatDoorAT34
import Derived.Deep.Cut
import Derived.Test.YtgooanaacebncaaGreatDoorAT24
import Derived.Test.YtgooanaacebncaaGreatDoorAT33
/- An entry of four bytes taken in by the specification: l06Take. -/
namespace Go.Proofs.YtgooanaacebncaaGreatDoor
open Go.RowKit Go.PlainAid Go.Deep
set_option linter.unusedVariables false
set_option maxRecDepth 100000 in
set_option maxHeartbeats 4000000 in
/-- spec.l06Take, of the owner. -/
theorem sTake_u (w0 w : World) (a : Al) (aU : Option Addr) (cU : Nat) (aG : Option Addr) (cG : Nat) (h : R2 w0 w a aU cU aG cG) (hlu : a.us.length ≤ 100000) (hlg : a.gs.length ≤ 100000) (s : ByteArray) (hs : s.size = 4) (k b h1 l1 : Nat) (b0 : byte s 0 = k) (b1 : byte s 1 = b) (b2 : byte s 2 = h1) (b3 : byte s 3 = l1) (hk : k = 1) :
    Calls Tryz.prog 38 #[.agg #[.int .i64 a.u, .int .i64 a.g, .int .i64 a.o, .slice aU a.us.length cU, .slice aG a.gs.length cG, .bool a.r, .int .i64 a.m], .string s] w (fun e w' => ∃ aU' cU' aG' cG', e = .returned (alV ({ a with u := (b : Int) }) aU' cU' aG' cG') ∧ EntW w0 w w' a ({ a with u := (b : Int) }) aU cU aG cG aU' cU' aG' cG') := by
  have hlow := h.low
  have hbs := h.bel.size
  have hbt := get_byte s
  have lb : b ≤ 255 := by rw [← b1]; exact byte_le s 1
  have lh : h1 ≤ 255 := by rw [← b2]; exact byte_le s 2
  have ll : l1 ≤ 255 := by rw [← b3]; exact byte_le s 3
  have hP0 : Hid (W7 ((w.alloc (.cells #[.int .i64 a.u, .int .i64 a.g, .int .i64 a.o, .slice aU a.us.length cU, .slice aG a.gs.length cG, .bool a.r, .int .i64 a.m] 25)).alloc (.cells #[.int .i64 0, .int .i64 0, .int .i64 0, .slice none 0 0, .slice none 0 0, .bool false, .int .i64 0] 25)) w.heap.size (.int .i64 a.u) (.int .i64 a.g) (.int .i64 a.o) (.slice aU a.us.length cU) (.slice aG a.gs.length cG) (.bool a.r) (.int .i64 a.m)) := (w7_new w _ _ _ _ _ _ _ 25).below (bel_alloc _ _)
  have hY0 : Hid (W7 ((w.alloc (.cells #[.int .i64 a.u, .int .i64 a.g, .int .i64 a.o, .slice aU a.us.length cU, .slice aG a.gs.length cG, .bool a.r, .int .i64 a.m] 25)).alloc (.cells #[.int .i64 0, .int .i64 0, .int .i64 0, .slice none 0 0, .slice none 0 0, .bool false, .int .i64 0] 25)) (w.heap.size + 1) (.int .i64 0) (.int .i64 0) (.int .i64 0) (.slice none 0 0) (.slice none 0 0) (.bool false) (.int .i64 0)) := (by
    have := w7_new (w.alloc (.cells #[.int .i64 a.u, .int .i64 a.g, .int .i64 a.o, .slice aU a.us.length cU, .slice aG a.gs.length cG, .bool a.r, .int .i64 a.m] 25)) (.int .i64 0) (.int .i64 0) (.int .i64 0) (.slice none 0 0) (.slice none 0 0) (.bool false) (.int .i64 0) 25
    show W7 _ _ _ _ _ _ _ _ _
    simpa using this)
  have hW0 : Hid (Below w.heap.size w ((w.alloc (.cells #[.int .i64 a.u, .int .i64 a.g, .int .i64 a.o, .slice aU a.us.length cU, .slice aG a.gs.length cG, .bool a.r, .int .i64 a.m] 25)).alloc (.cells #[.int .i64 0, .int .i64 0, .int .i64 0, .slice none 0 0, .slice none 0 0, .bool false, .int .i64 0] 25))) := Below.on (bel_alloc _ _) (bel_alloc _ _)
  have HZ0 : Hid (((w.alloc (.cells #[.int .i64 a.u, .int .i64 a.g, .int .i64 a.o, .slice aU a.us.length cU, .slice aG a.gs.length cG, .bool a.r, .int .i64 a.m] 25)).alloc (.cells #[.int .i64 0, .int .i64 0, .int .i64 0, .slice none 0 0, .slice none 0 0, .bool false, .int .i64 0] 25)).heap.size = w.heap.size + 2) := (show _ = _ by simp)
  have HYb : Hid (w0.heap.size ≤ w.heap.size + 1) := (show _ ≤ _ by omega)
  have HYU : Hid (∀ A, aU = some A → w.heap.size + 1 ≠ A.block) := (fun A e => by have := hlow.1 A e; omega)
  have HYG : Hid (∀ A, aG = some A → w.heap.size + 1 ≠ A.block) := (fun A e => by have := hlow.2 A e; omega)
  have HPU : Hid (∀ A, aU = some A → w.heap.size ≠ A.block) := (fun A e => by have := hlow.1 A e; omega)
  have HPG : Hid (∀ A, aG = some A → w.heap.size ≠ A.block) := (fun A e => by have := hlow.2 A e; omega)
  have HBS : Hid (w0.heap.size ≤ w.heap.size) := hbs
  have H : Hid (R2 w0 w a aU cU aG cG) := h
  have HLN : Hid (a.us.length ≤ 100000 ∧ a.gs.length ≤ 100000) := ⟨hlu, hlg⟩
  clear hlow hbs h hlu hlg
  subst hk
  go_enter Tryz.func38, Tryz.ntmps38
  go_upto_region 2 with fail
  generalize ((w.alloc (.cells #[.int .i64 a.u, .int .i64 a.g, .int .i64 a.o, .slice aU a.us.length cU, .slice aG a.gs.length cG, .bool a.r, .int .i64 a.m] 25)).alloc (.cells #[.int .i64 0, .int .i64 0, .int .i64 0, .slice none 0 0, .slice none 0 0, .bool false, .int .i64 0] 25)) = wz at hP0 hY0 hW0 HZ0 ⊢
  go_region
  all_goals (
    have hb3 : Below wz.heap.size wz ((wz.alloc (.cells #[.int .i64 (256 * (h1 : Int) + l1), .int .i64 (b : Int)] 45)).drew) := bdC (bel_alloc _ _)
    have hP3 : Hid (W7 ((wz.alloc (.cells #[.int .i64 (256 * (h1 : Int) + l1), .int .i64 (b : Int)] 45)).drew) w.heap.size (.int .i64 a.u) (.int .i64 a.g) (.int .i64 a.o) (.slice aU a.us.length cU) (.slice aG a.gs.length cG) (.bool a.r) (.int .i64 a.m)) := hP0.out.below hb3
    have hY3 : Hid (W7 ((wz.alloc (.cells #[.int .i64 (256 * (h1 : Int) + l1), .int .i64 (b : Int)] 45)).drew) (w.heap.size + 1) (.int .i64 0) (.int .i64 0) (.int .i64 0) (.slice none 0 0) (.slice none 0 0) (.bool false) (.int .i64 0)) := hY0.out.below hb3
    have hW3 : Hid (Below w.heap.size w ((wz.alloc (.cells #[.int .i64 (256 * (h1 : Int) + l1), .int .i64 (b : Int)] 45)).drew)) := Below.on hW0.out hb3
    obtain ⟨x0, x1⟩ := pair_new wz (.int .i64 (256 * (h1 : Int) + l1)) (.int .i64 (b : Int)) 45
    have X0 : Hid (((wz.alloc (.cells #[.int .i64 (256 * (h1 : Int) + l1), .int .i64 (b : Int)] 45)).drew).cell? ⟨wz.heap.size, 0, none⟩ = some (.int .i64 (256 * (h1 : Int) + l1))) := x0
    have X1 : Hid (((wz.alloc (.cells #[.int .i64 (256 * (h1 : Int) + l1), .int .i64 (b : Int)] 45)).drew).cell? ⟨wz.heap.size, 1, none⟩ = some (.int .i64 (b : Int))) := x1
    have HXZ : Hid (wz.heap.size < ((wz.alloc (.cells #[.int .i64 (256 * (h1 : Int) + l1), .int .i64 (b : Int)] 45)).drew).heap.size) := (show wz.heap.size < (wz.alloc (.cells #[.int .i64 (256 * (h1 : Int) + l1), .int .i64 (b : Int)] 45)).heap.size by simp)
    have HXX : Hid (wz.heap.size = w.heap.size + 2) := HZ0
    clear hb3 x0 x1 hP0 hY0 hW0 HZ0
    generalize (wz.alloc (.cells #[.int .i64 (256 * (h1 : Int) + l1), .int .i64 (b : Int)] 45)).drew = w3 at hP3 hY3 hW3 X0 X1 HXZ ⊢
    generalize wz.heap.size = X at X0 X1 HXZ HXX ⊢
    have x0 := X0.out
    have x1 := X1.out
    obtain ⟨pl, p0, p1, p2, p3, p4, p5, p6, pz⟩ := hP3.out
    have pz0 := pz 0
    have pz1 := pz 1
    have pz2 := pz 2
    have pz3 := pz 3
    have pz4 := pz 4
    have pz5 := pz 5
    have pz6 := pz 6
    clear pz
    go_upto_region 17 with fail
    have hP4 : Hid (W7 (w3.setCell ⟨w.heap.size, 0, none⟩ (.int .i64 (b : Int))) w.heap.size (.int .i64 (b : Int)) (.int .i64 a.g) (.int .i64 a.o) (.slice aU a.us.length cU) (.slice aG a.gs.length cG) (.bool a.r) (.int .i64 a.m)) := (W7.set0 hP3.out)
    have hY4 : Hid (W7 (w3.setCell ⟨w.heap.size, 0, none⟩ (.int .i64 (b : Int))) (w.heap.size + 1) (.int .i64 0) (.int .i64 0) (.int .i64 0) (.slice none 0 0) (.slice none 0 0) (.bool false) (.int .i64 0)) := (W7.other hY3.out (by omega))
    have HE : Hid (EntW w0 w (w3.setCell ⟨w.heap.size, 0, none⟩ (.int .i64 (b : Int))) a ({ a with u := (b : Int) }) aU cU aG cG aU cU aG cG) := ⟨(R2.set (H.out.below hW3.out) HBS.out HPU.out HPG.out).as rfl rfl, (ButR.set (ButR.of_below hW3.out) (Nat.le_refl _)), FromR.refl _ _, FromR.refl _ _⟩
    clear hP3 hY3 hW3
    generalize (w3.setCell ⟨w.heap.size, 0, none⟩ (.int .i64 (b : Int))) = w4 at hP4 hY4 HE ⊢
    clear pl p0 p1 p2 p3 p4 p5 p6 pz0 pz1 pz2 pz3 pz4 pz5 pz6 x0 x1
    obtain ⟨pl, p0, p1, p2, p3, p4, p5, p6, pz⟩ := hP4.out
    have pz0 := pz 0
    have pz1 := pz 1
    have pz2 := pz 2
    have pz3 := pz 3
    have pz4 := pz 4
    have pz5 := pz 5
    have pz6 := pz 6
    clear pz
    obtain ⟨yl, y0, y1, y2, y3, y4, y5, y6, yz⟩ := hY4.out
    have yz0 := yz 0
    have yz1 := yz 1
    have yz2 := yz 2
    have yz3 := yz 3
    have yz4 := yz 4
    have yz5 := yz 5
    have yz6 := yz 6
    clear yz
    go_wp2
    refine bodyPost_ret (v := .agg #[.int .i64 (b : Int), .int .i64 a.g, .int .i64 a.o, .slice aU a.us.length cU, .slice aG a.gs.length cG, .bool a.r, .int .i64 a.m]) (by simp [results, Tryz.results38, go_sem, y0, y1, y2, y3, y4, y5, y6]) rfl ⟨aU, cU, aG, cG, rfl, ?_⟩
    repeat (refine EntW.set ?_ (Nat.le_add_right _ _) HYb.out HYU.out HYG.out)
    exact HE.out)
set_option maxRecDepth 100000 in
set_option maxHeartbeats 4000000 in
/-- spec.l06Take, of a user. -/
theorem sTake_us (w0 w : World) (a : Al) (aU : Option Addr) (cU : Nat) (aG : Option Addr) (cG : Nat) (h : R2 w0 w a aU cU aG cG) (hlu : a.us.length ≤ 100000) (hlg : a.gs.length ≤ 100000) (s : ByteArray) (hs : s.size = 4) (k b h1 l1 : Nat) (b0 : byte s 0 = k) (b1 : byte s 1 = b) (b2 : byte s 2 = h1) (b3 : byte s 3 = l1) (hk : k = 2) :
    Calls Tryz.prog 38 #[.agg #[.int .i64 a.u, .int .i64 a.g, .int .i64 a.o, .slice aU a.us.length cU, .slice aG a.gs.length cG, .bool a.r, .int .i64 a.m], .string s] w (fun e w' => ∃ aU' cU' aG' cG', e = .returned (alV ({ a with us := a.us ++ [((256 * (h1 : Int) + l1), (b : Int))] }) aU' cU' aG' cG') ∧ EntW w0 w w' a ({ a with us := a.us ++ [((256 * (h1 : Int) + l1), (b : Int))] }) aU cU aG cG aU' cU' aG' cG') := by
  have hlow := h.low
  have hbs := h.bel.size
  have hbt := get_byte s
  have lb : b ≤ 255 := by rw [← b1]; exact byte_le s 1
  have lh : h1 ≤ 255 := by rw [← b2]; exact byte_le s 2
  have ll : l1 ≤ 255 := by rw [← b3]; exact byte_le s 3
  have hP0 : Hid (W7 ((w.alloc (.cells #[.int .i64 a.u, .int .i64 a.g, .int .i64 a.o, .slice aU a.us.length cU, .slice aG a.gs.length cG, .bool a.r, .int .i64 a.m] 25)).alloc (.cells #[.int .i64 0, .int .i64 0, .int .i64 0, .slice none 0 0, .slice none 0 0, .bool false, .int .i64 0] 25)) w.heap.size (.int .i64 a.u) (.int .i64 a.g) (.int .i64 a.o) (.slice aU a.us.length cU) (.slice aG a.gs.length cG) (.bool a.r) (.int .i64 a.m)) := (w7_new w _ _ _ _ _ _ _ 25).below (bel_alloc _ _)
  have hY0 : Hid (W7 ((w.alloc (.cells #[.int .i64 a.u, .int .i64 a.g, .int .i64 a.o, .slice aU a.us.length cU, .slice aG a.gs.length cG, .bool a.r, .int .i64 a.m] 25)).alloc (.cells #[.int .i64 0, .int .i64 0, .int .i64 0, .slice none 0 0, .slice none 0 0, .bool false, .int .i64 0] 25)) (w.heap.size + 1) (.int .i64 0) (.int .i64 0) (.int .i64 0) (.slice none 0 0) (.slice none 0 0) (.bool false) (.int .i64 0)) := (by
    have := w7_new (w.alloc (.cells #[.int .i64 a.u, .int .i64 a.g, .int .i64 a.o, .slice aU a.us.length cU, .slice aG a.gs.length cG, .bool a.r, .int .i64 a.m] 25)) (.int .i64 0) (.int .i64 0) (.int .i64 0) (.slice none 0 0) (.slice none 0 0) (.bool false) (.int .i64 0) 25
    show W7 _ _ _ _ _ _ _ _ _
    simpa using this)
  have hW0 : Hid (Below w.heap.size w ((w.alloc (.cells #[.int .i64 a.u, .int .i64 a.g, .int .i64 a.o, .slice aU a.us.length cU, .slice aG a.gs.length cG, .bool a.r, .int .i64 a.m] 25)).alloc (.cells #[.int .i64 0, .int .i64 0, .int .i64 0, .slice none 0 0, .slice none 0 0, .bool false, .int .i64 0] 25))) := Below.on (bel_alloc _ _) (bel_alloc _ _)
  have HZ0 : Hid (((w.alloc (.cells #[.int .i64 a.u, .int .i64 a.g, .int .i64 a.o, .slice aU a.us.length cU, .slice aG a.gs.length cG, .bool a.r, .int .i64 a.m] 25)).alloc (.cells #[.int .i64 0, .int .i64 0, .int .i64 0, .slice none 0 0, .slice none 0 0, .bool false, .int .i64 0] 25)).heap.size = w.heap.size + 2) := (show _ = _ by simp)
  have HYb : Hid (w0.heap.size ≤ w.heap.size + 1) := (show _ ≤ _ by omega)
  have HYU : Hid (∀ A, aU = some A → w.heap.size + 1 ≠ A.block) := (fun A e => by have := hlow.1 A e; omega)
  have HYG : Hid (∀ A, aG = some A → w.heap.size + 1 ≠ A.block) := (fun A e => by have := hlow.2 A e; omega)
  have HPU : Hid (∀ A, aU = some A → w.heap.size ≠ A.block) := (fun A e => by have := hlow.1 A e; omega)
  have HPG : Hid (∀ A, aG = some A → w.heap.size ≠ A.block) := (fun A e => by have := hlow.2 A e; omega)
  have HBS : Hid (w0.heap.size ≤ w.heap.size) := hbs
  have H : Hid (R2 w0 w a aU cU aG cG) := h
  have HLN : Hid (a.us.length ≤ 100000 ∧ a.gs.length ≤ 100000) := ⟨hlu, hlg⟩
  clear hlow hbs h hlu hlg
  subst hk
  go_enter Tryz.func38, Tryz.ntmps38
  go_upto_region 2 with fail
  generalize ((w.alloc (.cells #[.int .i64 a.u, .int .i64 a.g, .int .i64 a.o, .slice aU a.us.length cU, .slice aG a.gs.length cG, .bool a.r, .int .i64 a.m] 25)).alloc (.cells #[.int .i64 0, .int .i64 0, .int .i64 0, .slice none 0 0, .slice none 0 0, .bool false, .int .i64 0] 25)) = wz at hP0 hY0 hW0 HZ0 ⊢
  go_region
  all_goals (
    have hb3 : Below wz.heap.size wz ((wz.alloc (.cells #[.int .i64 (256 * (h1 : Int) + l1), .int .i64 (b : Int)] 45)).drew) := bdC (bel_alloc _ _)
    have hP3 : Hid (W7 ((wz.alloc (.cells #[.int .i64 (256 * (h1 : Int) + l1), .int .i64 (b : Int)] 45)).drew) w.heap.size (.int .i64 a.u) (.int .i64 a.g) (.int .i64 a.o) (.slice aU a.us.length cU) (.slice aG a.gs.length cG) (.bool a.r) (.int .i64 a.m)) := hP0.out.below hb3
    have hY3 : Hid (W7 ((wz.alloc (.cells #[.int .i64 (256 * (h1 : Int) + l1), .int .i64 (b : Int)] 45)).drew) (w.heap.size + 1) (.int .i64 0) (.int .i64 0) (.int .i64 0) (.slice none 0 0) (.slice none 0 0) (.bool false) (.int .i64 0)) := hY0.out.below hb3
    have hW3 : Hid (Below w.heap.size w ((wz.alloc (.cells #[.int .i64 (256 * (h1 : Int) + l1), .int .i64 (b : Int)] 45)).drew)) := Below.on hW0.out hb3
    obtain ⟨x0, x1⟩ := pair_new wz (.int .i64 (256 * (h1 : Int) + l1)) (.int .i64 (b : Int)) 45
    have X0 : Hid (((wz.alloc (.cells #[.int .i64 (256 * (h1 : Int) + l1), .int .i64 (b : Int)] 45)).drew).cell? ⟨wz.heap.size, 0, none⟩ = some (.int .i64 (256 * (h1 : Int) + l1))) := x0
    have X1 : Hid (((wz.alloc (.cells #[.int .i64 (256 * (h1 : Int) + l1), .int .i64 (b : Int)] 45)).drew).cell? ⟨wz.heap.size, 1, none⟩ = some (.int .i64 (b : Int))) := x1
    have HXZ : Hid (wz.heap.size < ((wz.alloc (.cells #[.int .i64 (256 * (h1 : Int) + l1), .int .i64 (b : Int)] 45)).drew).heap.size) := (show wz.heap.size < (wz.alloc (.cells #[.int .i64 (256 * (h1 : Int) + l1), .int .i64 (b : Int)] 45)).heap.size by simp)
    have HXX : Hid (wz.heap.size = w.heap.size + 2) := HZ0
    clear hb3 x0 x1 hP0 hY0 hW0 HZ0
    generalize (wz.alloc (.cells #[.int .i64 (256 * (h1 : Int) + l1), .int .i64 (b : Int)] 45)).drew = w3 at hP3 hY3 hW3 X0 X1 HXZ ⊢
    generalize wz.heap.size = X at X0 X1 HXZ HXX ⊢
    have x0 := X0.out
    have x1 := X1.out
    obtain ⟨a', c', w4, hr, hR4, hsz4, hk4, hf4⟩ := (H.out.below hW3.out).addU (256 * (h1 : Int) + l1) (b : Int) (by have := HLN.out.1; omega)
    generalize hGL : (a.us ++ [((256 * (h1 : Int) + l1), (b : Int))]).length = GL at hr
    have HGL : Hid ((a.us ++ [((256 * (h1 : Int) + l1), (b : Int))]).length = GL) := hGL
    have hP4a : W7 w4 w.heap.size (.int .i64 a.u) (.int .i64 a.g) (.int .i64 a.o) (.slice aU a.us.length cU) (.slice aG a.gs.length cG) (.bool a.r) (.int .i64 a.m) := hP3.out.keep hsz4 (hk4 _ hP3.out.lt HPU.out)
    have hY4a : W7 w4 (w.heap.size + 1) (.int .i64 0) (.int .i64 0) (.int .i64 0) (.slice none 0 0) (.slice none 0 0) (.bool false) (.int .i64 0) := hY3.out.keep hsz4 (hk4 _ hY3.out.lt HYU.out)
    have HPN : ∀ A, a' = some A → w.heap.size ≠ A.block := fun A e => by
      rcases hf4 A e with ⟨A2, e2, e3⟩ | h2
      · rw [e3]; exact HPU.out A2 e2
      · have h3 := HXX.out
        have h4 := HXZ.out
        omega
    have HYN : Hid (∀ A, a' = some A → w.heap.size + 1 ≠ A.block) := (fun A e => by
      rcases hf4 A e with ⟨A2, e2, e3⟩ | h2
      · rw [e3]; exact HYU.out A2 e2
      · have h3 := HXX.out
        have h4 := HXZ.out
        omega)
    have hP4 : Hid (W7 (w4.setCell ⟨w.heap.size, 3, none⟩ (.slice a' GL c')) w.heap.size (.int .i64 a.u) (.int .i64 a.g) (.int .i64 a.o) (.slice a' GL c') (.slice aG a.gs.length cG) (.bool a.r) (.int .i64 a.m)) := hP4a.set3
    have hY4 : Hid (W7 (w4.setCell ⟨w.heap.size, 3, none⟩ (.slice a' GL c')) (w.heap.size + 1) (.int .i64 0) (.int .i64 0) (.int .i64 0) (.slice none 0 0) (.slice none 0 0) (.bool false) (.int .i64 0)) := hY4a.other (by omega)
    have HF5 : FromR aU a' w := fun A e => (hf4 A e).imp id (fun h2 => by have h3 := HXX.out; have h4 := HXZ.out; omega)
    have HE : Hid (EntW w0 w (w4.setCell ⟨w.heap.size, 3, none⟩ (.slice a' GL c')) a ({ a with us := a.us ++ [((256 * (h1 : Int) + l1), (b : Int))] }) aU cU aG cG a' c' aG cG) := ⟨hR4.set HBS.out HPN HPG.out, ButR.set (ButR.trans (ButR.of_below hW3.out) ⟨hsz4, fun b hb n1 n2 => hk4 b hb n1⟩) (Nat.le_refl _), HF5, FromR.refl _ _⟩
    have HRR : (Builtin.append_ #[23, 23] 23 #[.slice aU a.us.length cU, .slice (some ⟨w3.heap.size, 0, none⟩) 1 1]).run Tryz.prog (w3.alloc (.cells #[.int .i64 (256 * (h1 : Int) + l1), .int .i64 (b : Int)] 45)) = .ok (.slice a' GL c') w4 := hr
    obtain ⟨rl, r0, r1, r2, r3, r4, r5, r6, rz⟩ := hP4a
    have rz3 := rz 3
    obtain ⟨pl, p0, p1, p2, p3, p4, p5, p6, pz⟩ := hP3.out
    have pz0 := pz 0
    have pz1 := pz 1
    have pz2 := pz 2
    have pz3 := pz 3
    have pz4 := pz 4
    have pz5 := pz 5
    have pz6 := pz 6
    clear pz
    clear hr hGL HPN HF5 hk4 hf4 hR4 hY4a rz
    go_upto_region 17 with (at_builtin; refine wpList_append_runT _ rfl (.tmp 29) (.tmp 31) 23 23 rfl _ _ _ _ rfl rfl HRR ?_)
    clear hP3 hY3 hW3 HRR
    generalize (w4.setCell ⟨w.heap.size, 3, none⟩ (.slice a' GL c')) = w5 at hP4 hY4 HE ⊢
    clear rl r0 r1 r2 r3 r4 r5 r6 rz3
    clear pl p0 p1 p2 p3 p4 p5 p6 pz0 pz1 pz2 pz3 pz4 pz5 pz6 x0 x1
    obtain ⟨pl, p0, p1, p2, p3, p4, p5, p6, pz⟩ := hP4.out
    have pz0 := pz 0
    have pz1 := pz 1
    have pz2 := pz 2
    have pz3 := pz 3
    have pz4 := pz 4
    have pz5 := pz 5
    have pz6 := pz 6
    clear pz
    obtain ⟨yl, y0, y1, y2, y3, y4, y5, y6, yz⟩ := hY4.out
    have yz0 := yz 0
    have yz1 := yz 1
    have yz2 := yz 2
    have yz3 := yz 3
    have yz4 := yz 4
    have yz5 := yz 5
    have yz6 := yz 6
    clear yz
    go_wp2
    refine bodyPost_ret (v := .agg #[.int .i64 a.u, .int .i64 a.g, .int .i64 a.o, .slice a' GL c', .slice aG a.gs.length cG, .bool a.r, .int .i64 a.m]) (by simp [results, Tryz.results38, go_sem, y0, y1, y2, y3, y4, y5, y6]) rfl ⟨a', c', aG, cG, by rw [← HGL.out]; rfl, ?_⟩
    repeat (refine EntW.set ?_ (Nat.le_add_right _ _) HYb.out HYN.out HYG.out)
    exact HE.out)
set_option maxRecDepth 100000 in
set_option maxHeartbeats 4000000 in
/-- spec.l06Take, of the group. -/
theorem sTake_g (w0 w : World) (a : Al) (aU : Option Addr) (cU : Nat) (aG : Option Addr) (cG : Nat) (h : R2 w0 w a aU cU aG cG) (hlu : a.us.length ≤ 100000) (hlg : a.gs.length ≤ 100000) (s : ByteArray) (hs : s.size = 4) (k b h1 l1 : Nat) (b0 : byte s 0 = k) (b1 : byte s 1 = b) (b2 : byte s 2 = h1) (b3 : byte s 3 = l1) (hk : k = 4) :
    Calls Tryz.prog 38 #[.agg #[.int .i64 a.u, .int .i64 a.g, .int .i64 a.o, .slice aU a.us.length cU, .slice aG a.gs.length cG, .bool a.r, .int .i64 a.m], .string s] w (fun e w' => ∃ aU' cU' aG' cG', e = .returned (alV ({ a with g := (b : Int) }) aU' cU' aG' cG') ∧ EntW w0 w w' a ({ a with g := (b : Int) }) aU cU aG cG aU' cU' aG' cG') := by
  have hlow := h.low
  have hbs := h.bel.size
  have hbt := get_byte s
  have lb : b ≤ 255 := by rw [← b1]; exact byte_le s 1
  have lh : h1 ≤ 255 := by rw [← b2]; exact byte_le s 2
  have ll : l1 ≤ 255 := by rw [← b3]; exact byte_le s 3
  have hP0 : Hid (W7 ((w.alloc (.cells #[.int .i64 a.u, .int .i64 a.g, .int .i64 a.o, .slice aU a.us.length cU, .slice aG a.gs.length cG, .bool a.r, .int .i64 a.m] 25)).alloc (.cells #[.int .i64 0, .int .i64 0, .int .i64 0, .slice none 0 0, .slice none 0 0, .bool false, .int .i64 0] 25)) w.heap.size (.int .i64 a.u) (.int .i64 a.g) (.int .i64 a.o) (.slice aU a.us.length cU) (.slice aG a.gs.length cG) (.bool a.r) (.int .i64 a.m)) := (w7_new w _ _ _ _ _ _ _ 25).below (bel_alloc _ _)
  have hY0 : Hid (W7 ((w.alloc (.cells #[.int .i64 a.u, .int .i64 a.g, .int .i64 a.o, .slice aU a.us.length cU, .slice aG a.gs.length cG, .bool a.r, .int .i64 a.m] 25)).alloc (.cells #[.int .i64 0, .int .i64 0, .int .i64 0, .slice none 0 0, .slice none 0 0, .bool false, .int .i64 0] 25)) (w.heap.size + 1) (.int .i64 0) (.int .i64 0) (.int .i64 0) (.slice none 0 0) (.slice none 0 0) (.bool false) (.int .i64 0)) := (by
    have := w7_new (w.alloc (.cells #[.int .i64 a.u, .int .i64 a.g, .int .i64 a.o, .slice aU a.us.length cU, .slice aG a.gs.length cG, .bool a.r, .int .i64 a.m] 25)) (.int .i64 0) (.int .i64 0) (.int .i64 0) (.slice none 0 0) (.slice none 0 0) (.bool false) (.int .i64 0) 25
    show W7 _ _ _ _ _ _ _ _ _
    simpa using this)
  have hW0 : Hid (Below w.heap.size w ((w.alloc (.cells #[.int .i64 a.u, .int .i64 a.g, .int .i64 a.o, .slice aU a.us.length cU, .slice aG a.gs.length cG, .bool a.r, .int .i64 a.m] 25)).alloc (.cells #[.int .i64 0, .int .i64 0, .int .i64 0, .slice none 0 0, .slice none 0 0, .bool false, .int .i64 0] 25))) := Below.on (bel_alloc _ _) (bel_alloc _ _)
  have HZ0 : Hid (((w.alloc (.cells #[.int .i64 a.u, .int .i64 a.g, .int .i64 a.o, .slice aU a.us.length cU, .slice aG a.gs.length cG, .bool a.r, .int .i64 a.m] 25)).alloc (.cells #[.int .i64 0, .int .i64 0, .int .i64 0, .slice none 0 0, .slice none 0 0, .bool false, .int .i64 0] 25)).heap.size = w.heap.size + 2) := (show _ = _ by simp)
  have HYb : Hid (w0.heap.size ≤ w.heap.size + 1) := (show _ ≤ _ by omega)
  have HYU : Hid (∀ A, aU = some A → w.heap.size + 1 ≠ A.block) := (fun A e => by have := hlow.1 A e; omega)
  have HYG : Hid (∀ A, aG = some A → w.heap.size + 1 ≠ A.block) := (fun A e => by have := hlow.2 A e; omega)
  have HPU : Hid (∀ A, aU = some A → w.heap.size ≠ A.block) := (fun A e => by have := hlow.1 A e; omega)
  have HPG : Hid (∀ A, aG = some A → w.heap.size ≠ A.block) := (fun A e => by have := hlow.2 A e; omega)
  have HBS : Hid (w0.heap.size ≤ w.heap.size) := hbs
  have H : Hid (R2 w0 w a aU cU aG cG) := h
  have HLN : Hid (a.us.length ≤ 100000 ∧ a.gs.length ≤ 100000) := ⟨hlu, hlg⟩
  clear hlow hbs h hlu hlg
  subst hk
  go_enter Tryz.func38, Tryz.ntmps38
  go_upto_region 2 with fail
  generalize ((w.alloc (.cells #[.int .i64 a.u, .int .i64 a.g, .int .i64 a.o, .slice aU a.us.length cU, .slice aG a.gs.length cG, .bool a.r, .int .i64 a.m] 25)).alloc (.cells #[.int .i64 0, .int .i64 0, .int .i64 0, .slice none 0 0, .slice none 0 0, .bool false, .int .i64 0] 25)) = wz at hP0 hY0 hW0 HZ0 ⊢
  go_region
  all_goals (
    have hb3 : Below wz.heap.size wz ((wz.alloc (.cells #[.int .i64 (256 * (h1 : Int) + l1), .int .i64 (b : Int)] 45)).drew) := bdC (bel_alloc _ _)
    have hP3 : Hid (W7 ((wz.alloc (.cells #[.int .i64 (256 * (h1 : Int) + l1), .int .i64 (b : Int)] 45)).drew) w.heap.size (.int .i64 a.u) (.int .i64 a.g) (.int .i64 a.o) (.slice aU a.us.length cU) (.slice aG a.gs.length cG) (.bool a.r) (.int .i64 a.m)) := hP0.out.below hb3
    have hY3 : Hid (W7 ((wz.alloc (.cells #[.int .i64 (256 * (h1 : Int) + l1), .int .i64 (b : Int)] 45)).drew) (w.heap.size + 1) (.int .i64 0) (.int .i64 0) (.int .i64 0) (.slice none 0 0) (.slice none 0 0) (.bool false) (.int .i64 0)) := hY0.out.below hb3
    have hW3 : Hid (Below w.heap.size w ((wz.alloc (.cells #[.int .i64 (256 * (h1 : Int) + l1), .int .i64 (b : Int)] 45)).drew)) := Below.on hW0.out hb3
    obtain ⟨x0, x1⟩ := pair_new wz (.int .i64 (256 * (h1 : Int) + l1)) (.int .i64 (b : Int)) 45
    have X0 : Hid (((wz.alloc (.cells #[.int .i64 (256 * (h1 : Int) + l1), .int .i64 (b : Int)] 45)).drew).cell? ⟨wz.heap.size, 0, none⟩ = some (.int .i64 (256 * (h1 : Int) + l1))) := x0
    have X1 : Hid (((wz.alloc (.cells #[.int .i64 (256 * (h1 : Int) + l1), .int .i64 (b : Int)] 45)).drew).cell? ⟨wz.heap.size, 1, none⟩ = some (.int .i64 (b : Int))) := x1
    have HXZ : Hid (wz.heap.size < ((wz.alloc (.cells #[.int .i64 (256 * (h1 : Int) + l1), .int .i64 (b : Int)] 45)).drew).heap.size) := (show wz.heap.size < (wz.alloc (.cells #[.int .i64 (256 * (h1 : Int) + l1), .int .i64 (b : Int)] 45)).heap.size by simp)
    have HXX : Hid (wz.heap.size = w.heap.size + 2) := HZ0
    clear hb3 x0 x1 hP0 hY0 hW0 HZ0
    generalize (wz.alloc (.cells #[.int .i64 (256 * (h1 : Int) + l1), .int .i64 (b : Int)] 45)).drew = w3 at hP3 hY3 hW3 X0 X1 HXZ ⊢
    generalize wz.heap.size = X at X0 X1 HXZ HXX ⊢
    have x0 := X0.out
    have x1 := X1.out
    obtain ⟨pl, p0, p1, p2, p3, p4, p5, p6, pz⟩ := hP3.out
    have pz0 := pz 0
    have pz1 := pz 1
    have pz2 := pz 2
    have pz3 := pz 3
    have pz4 := pz 4
    have pz5 := pz 5
    have pz6 := pz 6
    clear pz
    go_upto_region 17 with fail
    have hP4 : Hid (W7 (w3.setCell ⟨w.heap.size, 1, none⟩ (.int .i64 (b : Int))) w.heap.size (.int .i64 a.u) (.int .i64 (b : Int)) (.int .i64 a.o) (.slice aU a.us.length cU) (.slice aG a.gs.length cG) (.bool a.r) (.int .i64 a.m)) := (W7.set1 hP3.out)
    have hY4 : Hid (W7 (w3.setCell ⟨w.heap.size, 1, none⟩ (.int .i64 (b : Int))) (w.heap.size + 1) (.int .i64 0) (.int .i64 0) (.int .i64 0) (.slice none 0 0) (.slice none 0 0) (.bool false) (.int .i64 0)) := (W7.other hY3.out (by omega))
    have HE : Hid (EntW w0 w (w3.setCell ⟨w.heap.size, 1, none⟩ (.int .i64 (b : Int))) a ({ a with g := (b : Int) }) aU cU aG cG aU cU aG cG) := ⟨(R2.set (H.out.below hW3.out) HBS.out HPU.out HPG.out).as rfl rfl, (ButR.set (ButR.of_below hW3.out) (Nat.le_refl _)), FromR.refl _ _, FromR.refl _ _⟩
    clear hP3 hY3 hW3
    generalize (w3.setCell ⟨w.heap.size, 1, none⟩ (.int .i64 (b : Int))) = w4 at hP4 hY4 HE ⊢
    clear pl p0 p1 p2 p3 p4 p5 p6 pz0 pz1 pz2 pz3 pz4 pz5 pz6 x0 x1
    obtain ⟨pl, p0, p1, p2, p3, p4, p5, p6, pz⟩ := hP4.out
    have pz0 := pz 0
    have pz1 := pz 1
    have pz2 := pz 2
    have pz3 := pz 3
    have pz4 := pz 4
    have pz5 := pz 5
    have pz6 := pz 6
    clear pz
    obtain ⟨yl, y0, y1, y2, y3, y4, y5, y6, yz⟩ := hY4.out
    have yz0 := yz 0
    have yz1 := yz 1
    have yz2 := yz 2
    have yz3 := yz 3
    have yz4 := yz 4
    have yz5 := yz 5
    have yz6 := yz 6
    clear yz
    go_wp2
    refine bodyPost_ret (v := .agg #[.int .i64 a.u, .int .i64 (b : Int), .int .i64 a.o, .slice aU a.us.length cU, .slice aG a.gs.length cG, .bool a.r, .int .i64 a.m]) (by simp [results, Tryz.results38, go_sem, y0, y1, y2, y3, y4, y5, y6]) rfl ⟨aU, cU, aG, cG, rfl, ?_⟩
    repeat (refine EntW.set ?_ (Nat.le_add_right _ _) HYb.out HYU.out HYG.out)
    exact HE.out)
set_option maxRecDepth 100000 in
set_option maxHeartbeats 4000000 in
/-- spec.l06Take, of a group. -/
theorem sTake_gs (w0 w : World) (a : Al) (aU : Option Addr) (cU : Nat) (aG : Option Addr) (cG : Nat) (h : R2 w0 w a aU cU aG cG) (hlu : a.us.length ≤ 100000) (hlg : a.gs.length ≤ 100000) (s : ByteArray) (hs : s.size = 4) (k b h1 l1 : Nat) (b0 : byte s 0 = k) (b1 : byte s 1 = b) (b2 : byte s 2 = h1) (b3 : byte s 3 = l1) (hk : k = 8) :
    Calls Tryz.prog 38 #[.agg #[.int .i64 a.u, .int .i64 a.g, .int .i64 a.o, .slice aU a.us.length cU, .slice aG a.gs.length cG, .bool a.r, .int .i64 a.m], .string s] w (fun e w' => ∃ aU' cU' aG' cG', e = .returned (alV ({ a with gs := a.gs ++ [((256 * (h1 : Int) + l1), (b : Int))] }) aU' cU' aG' cG') ∧ EntW w0 w w' a ({ a with gs := a.gs ++ [((256 * (h1 : Int) + l1), (b : Int))] }) aU cU aG cG aU' cU' aG' cG') := by
  have hlow := h.low
  have hbs := h.bel.size
  have hbt := get_byte s
  have lb : b ≤ 255 := by rw [← b1]; exact byte_le s 1
  have lh : h1 ≤ 255 := by rw [← b2]; exact byte_le s 2
  have ll : l1 ≤ 255 := by rw [← b3]; exact byte_le s 3
  have hP0 : Hid (W7 ((w.alloc (.cells #[.int .i64 a.u, .int .i64 a.g, .int .i64 a.o, .slice aU a.us.length cU, .slice aG a.gs.length cG, .bool a.r, .int .i64 a.m] 25)).alloc (.cells #[.int .i64 0, .int .i64 0, .int .i64 0, .slice none 0 0, .slice none 0 0, .bool false, .int .i64 0] 25)) w.heap.size (.int .i64 a.u) (.int .i64 a.g) (.int .i64 a.o) (.slice aU a.us.length cU) (.slice aG a.gs.length cG) (.bool a.r) (.int .i64 a.m)) := (w7_new w _ _ _ _ _ _ _ 25).below (bel_alloc _ _)
  have hY0 : Hid (W7 ((w.alloc (.cells #[.int .i64 a.u, .int .i64 a.g, .int .i64 a.o, .slice aU a.us.length cU, .slice aG a.gs.length cG, .bool a.r, .int .i64 a.m] 25)).alloc (.cells #[.int .i64 0, .int .i64 0, .int .i64 0, .slice none 0 0, .slice none 0 0, .bool false, .int .i64 0] 25)) (w.heap.size + 1) (.int .i64 0) (.int .i64 0) (.int .i64 0) (.slice none 0 0) (.slice none 0 0) (.bool false) (.int .i64 0)) := (by
    have := w7_new (w.alloc (.cells #[.int .i64 a.u, .int .i64 a.g, .int .i64 a.o, .slice aU a.us.length cU, .slice aG a.gs.length cG, .bool a.r, .int .i64 a.m] 25)) (.int .i64 0) (.int .i64 0) (.int .i64 0) (.slice none 0 0) (.slice none 0 0) (.bool false) (.int .i64 0) 25
    show W7 _ _ _ _ _ _ _ _ _
    simpa using this)
  have hW0 : Hid (Below w.heap.size w ((w.alloc (.cells #[.int .i64 a.u, .int .i64 a.g, .int .i64 a.o, .slice aU a.us.length cU, .slice aG a.gs.length cG, .bool a.r, .int .i64 a.m] 25)).alloc (.cells #[.int .i64 0, .int .i64 0, .int .i64 0, .slice none 0 0, .slice none 0 0, .bool false, .int .i64 0] 25))) := Below.on (bel_alloc _ _) (bel_alloc _ _)
  have HZ0 : Hid (((w.alloc (.cells #[.int .i64 a.u, .int .i64 a.g, .int .i64 a.o, .slice aU a.us.length cU, .slice aG a.gs.length cG, .bool a.r, .int .i64 a.m] 25)).alloc (.cells #[.int .i64 0, .int .i64 0, .int .i64 0, .slice none 0 0, .slice none 0 0, .bool false, .int .i64 0] 25)).heap.size = w.heap.size + 2) := (show _ = _ by simp)
  have HYb : Hid (w0.heap.size ≤ w.heap.size + 1) := (show _ ≤ _ by omega)
  have HYU : Hid (∀ A, aU = some A → w.heap.size + 1 ≠ A.block) := (fun A e => by have := hlow.1 A e; omega)
  have HYG : Hid (∀ A, aG = some A → w.heap.size + 1 ≠ A.block) := (fun A e => by have := hlow.2 A e; omega)
  have HPU : Hid (∀ A, aU = some A → w.heap.size ≠ A.block) := (fun A e => by have := hlow.1 A e; omega)
  have HPG : Hid (∀ A, aG = some A → w.heap.size ≠ A.block) := (fun A e => by have := hlow.2 A e; omega)
  have HBS : Hid (w0.heap.size ≤ w.heap.size) := hbs
  have H : Hid (R2 w0 w a aU cU aG cG) := h
  have HLN : Hid (a.us.length ≤ 100000 ∧ a.gs.length ≤ 100000) := ⟨hlu, hlg⟩
  clear hlow hbs h hlu hlg
  subst hk
  go_enter Tryz.func38, Tryz.ntmps38
  go_upto_region 2 with fail
  generalize ((w.alloc (.cells #[.int .i64 a.u, .int .i64 a.g, .int .i64 a.o, .slice aU a.us.length cU, .slice aG a.gs.length cG, .bool a.r, .int .i64 a.m] 25)).alloc (.cells #[.int .i64 0, .int .i64 0, .int .i64 0, .slice none 0 0, .slice none 0 0, .bool false, .int .i64 0] 25)) = wz at hP0 hY0 hW0 HZ0 ⊢
  go_region
  all_goals (
    have hb3 : Below wz.heap.size wz ((wz.alloc (.cells #[.int .i64 (256 * (h1 : Int) + l1), .int .i64 (b : Int)] 45)).drew) := bdC (bel_alloc _ _)
    have hP3 : Hid (W7 ((wz.alloc (.cells #[.int .i64 (256 * (h1 : Int) + l1), .int .i64 (b : Int)] 45)).drew) w.heap.size (.int .i64 a.u) (.int .i64 a.g) (.int .i64 a.o) (.slice aU a.us.length cU) (.slice aG a.gs.length cG) (.bool a.r) (.int .i64 a.m)) := hP0.out.below hb3
    have hY3 : Hid (W7 ((wz.alloc (.cells #[.int .i64 (256 * (h1 : Int) + l1), .int .i64 (b : Int)] 45)).drew) (w.heap.size + 1) (.int .i64 0) (.int .i64 0) (.int .i64 0) (.slice none 0 0) (.slice none 0 0) (.bool false) (.int .i64 0)) := hY0.out.below hb3
    have hW3 : Hid (Below w.heap.size w ((wz.alloc (.cells #[.int .i64 (256 * (h1 : Int) + l1), .int .i64 (b : Int)] 45)).drew)) := Below.on hW0.out hb3
    obtain ⟨x0, x1⟩ := pair_new wz (.int .i64 (256 * (h1 : Int) + l1)) (.int .i64 (b : Int)) 45
    have X0 : Hid (((wz.alloc (.cells #[.int .i64 (256 * (h1 : Int) + l1), .int .i64 (b : Int)] 45)).drew).cell? ⟨wz.heap.size, 0, none⟩ = some (.int .i64 (256 * (h1 : Int) + l1))) := x0
    have X1 : Hid (((wz.alloc (.cells #[.int .i64 (256 * (h1 : Int) + l1), .int .i64 (b : Int)] 45)).drew).cell? ⟨wz.heap.size, 1, none⟩ = some (.int .i64 (b : Int))) := x1
    have HXZ : Hid (wz.heap.size < ((wz.alloc (.cells #[.int .i64 (256 * (h1 : Int) + l1), .int .i64 (b : Int)] 45)).drew).heap.size) := (show wz.heap.size < (wz.alloc (.cells #[.int .i64 (256 * (h1 : Int) + l1), .int .i64 (b : Int)] 45)).heap.size by simp)
    have HXX : Hid (wz.heap.size = w.heap.size + 2) := HZ0
    clear hb3 x0 x1 hP0 hY0 hW0 HZ0
    generalize (wz.alloc (.cells #[.int .i64 (256 * (h1 : Int) + l1), .int .i64 (b : Int)] 45)).drew = w3 at hP3 hY3 hW3 X0 X1 HXZ ⊢
    generalize wz.heap.size = X at X0 X1 HXZ HXX ⊢
    have x0 := X0.out
    have x1 := X1.out
    obtain ⟨a', c', w4, hr, hR4, hsz4, hk4, hf4⟩ := (H.out.below hW3.out).addG (256 * (h1 : Int) + l1) (b : Int) (by have := HLN.out.2; omega)
    generalize hGL : (a.gs ++ [((256 * (h1 : Int) + l1), (b : Int))]).length = GL at hr
    have HGL : Hid ((a.gs ++ [((256 * (h1 : Int) + l1), (b : Int))]).length = GL) := hGL
    have hP4a : W7 w4 w.heap.size (.int .i64 a.u) (.int .i64 a.g) (.int .i64 a.o) (.slice aU a.us.length cU) (.slice aG a.gs.length cG) (.bool a.r) (.int .i64 a.m) := hP3.out.keep hsz4 (hk4 _ hP3.out.lt HPG.out)
    have hY4a : W7 w4 (w.heap.size + 1) (.int .i64 0) (.int .i64 0) (.int .i64 0) (.slice none 0 0) (.slice none 0 0) (.bool false) (.int .i64 0) := hY3.out.keep hsz4 (hk4 _ hY3.out.lt HYG.out)
    have HPN : ∀ A, a' = some A → w.heap.size ≠ A.block := fun A e => by
      rcases hf4 A e with ⟨A2, e2, e3⟩ | h2
      · rw [e3]; exact HPG.out A2 e2
      · have h3 := HXX.out
        have h4 := HXZ.out
        omega
    have HYN : Hid (∀ A, a' = some A → w.heap.size + 1 ≠ A.block) := (fun A e => by
      rcases hf4 A e with ⟨A2, e2, e3⟩ | h2
      · rw [e3]; exact HYG.out A2 e2
      · have h3 := HXX.out
        have h4 := HXZ.out
        omega)
    have hP4 : Hid (W7 (w4.setCell ⟨w.heap.size, 4, none⟩ (.slice a' GL c')) w.heap.size (.int .i64 a.u) (.int .i64 a.g) (.int .i64 a.o) (.slice aU a.us.length cU) (.slice a' GL c') (.bool a.r) (.int .i64 a.m)) := hP4a.set4
    have hY4 : Hid (W7 (w4.setCell ⟨w.heap.size, 4, none⟩ (.slice a' GL c')) (w.heap.size + 1) (.int .i64 0) (.int .i64 0) (.int .i64 0) (.slice none 0 0) (.slice none 0 0) (.bool false) (.int .i64 0)) := hY4a.other (by omega)
    have HF5 : FromR aG a' w := fun A e => (hf4 A e).imp id (fun h2 => by have h3 := HXX.out; have h4 := HXZ.out; omega)
    have HE : Hid (EntW w0 w (w4.setCell ⟨w.heap.size, 4, none⟩ (.slice a' GL c')) a ({ a with gs := a.gs ++ [((256 * (h1 : Int) + l1), (b : Int))] }) aU cU aG cG aU cU a' c') := ⟨hR4.set HBS.out HPU.out HPN, ButR.set (ButR.trans (ButR.of_below hW3.out) ⟨hsz4, fun b hb n1 n2 => hk4 b hb n2⟩) (Nat.le_refl _), FromR.refl _ _, HF5⟩
    have HRR : (Builtin.append_ #[23, 23] 23 #[.slice aG a.gs.length cG, .slice (some ⟨w3.heap.size, 0, none⟩) 1 1]).run Tryz.prog (w3.alloc (.cells #[.int .i64 (256 * (h1 : Int) + l1), .int .i64 (b : Int)] 45)) = .ok (.slice a' GL c') w4 := hr
    obtain ⟨rl, r0, r1, r2, r3, r4, r5, r6, rz⟩ := hP4a
    have rz4 := rz 4
    obtain ⟨pl, p0, p1, p2, p3, p4, p5, p6, pz⟩ := hP3.out
    have pz0 := pz 0
    have pz1 := pz 1
    have pz2 := pz 2
    have pz3 := pz 3
    have pz4 := pz 4
    have pz5 := pz 5
    have pz6 := pz 6
    clear pz
    clear hr hGL HPN HF5 hk4 hf4 hR4 hY4a rz
    go_upto_region 17 with (at_builtin; refine wpList_append_runT _ rfl (.tmp 41) (.tmp 43) 23 23 rfl _ _ _ _ rfl rfl HRR ?_)
    clear hP3 hY3 hW3 HRR
    generalize (w4.setCell ⟨w.heap.size, 4, none⟩ (.slice a' GL c')) = w5 at hP4 hY4 HE ⊢
    clear rl r0 r1 r2 r3 r4 r5 r6 rz4
    clear pl p0 p1 p2 p3 p4 p5 p6 pz0 pz1 pz2 pz3 pz4 pz5 pz6 x0 x1
    obtain ⟨pl, p0, p1, p2, p3, p4, p5, p6, pz⟩ := hP4.out
    have pz0 := pz 0
    have pz1 := pz 1
    have pz2 := pz 2
    have pz3 := pz 3
    have pz4 := pz 4
    have pz5 := pz 5
    have pz6 := pz 6
    clear pz
    obtain ⟨yl, y0, y1, y2, y3, y4, y5, y6, yz⟩ := hY4.out
    have yz0 := yz 0
    have yz1 := yz 1
    have yz2 := yz 2
    have yz3 := yz 3
    have yz4 := yz 4
    have yz5 := yz 5
    have yz6 := yz 6
    clear yz
    go_wp2
    refine bodyPost_ret (v := .agg #[.int .i64 a.u, .int .i64 a.g, .int .i64 a.o, .slice aU a.us.length cU, .slice a' GL c', .bool a.r, .int .i64 a.m]) (by simp [results, Tryz.results38, go_sem, y0, y1, y2, y3, y4, y5, y6]) rfl ⟨aU, cU, a', c', by rw [← HGL.out]; rfl, ?_⟩
    repeat (refine EntW.set ?_ (Nat.le_add_right _ _) HYb.out HYU.out HYN.out)
    exact HE.out)
set_option maxRecDepth 100000 in
set_option maxHeartbeats 4000000 in
/-- spec.l06Take, of the mask. -/
theorem sTake_m (w0 w : World) (a : Al) (aU : Option Addr) (cU : Nat) (aG : Option Addr) (cG : Nat) (h : R2 w0 w a aU cU aG cG) (hlu : a.us.length ≤ 100000) (hlg : a.gs.length ≤ 100000) (s : ByteArray) (hs : s.size = 4) (k b h1 l1 : Nat) (b0 : byte s 0 = k) (b1 : byte s 1 = b) (b2 : byte s 2 = h1) (b3 : byte s 3 = l1) (hk : k = 16) :
    Calls Tryz.prog 38 #[.agg #[.int .i64 a.u, .int .i64 a.g, .int .i64 a.o, .slice aU a.us.length cU, .slice aG a.gs.length cG, .bool a.r, .int .i64 a.m], .string s] w (fun e w' => ∃ aU' cU' aG' cG', e = .returned (alV ({ a with r := true, m := (b : Int) }) aU' cU' aG' cG') ∧ EntW w0 w w' a ({ a with r := true, m := (b : Int) }) aU cU aG cG aU' cU' aG' cG') := by
  have hlow := h.low
  have hbs := h.bel.size
  have hbt := get_byte s
  have lb : b ≤ 255 := by rw [← b1]; exact byte_le s 1
  have lh : h1 ≤ 255 := by rw [← b2]; exact byte_le s 2
  have ll : l1 ≤ 255 := by rw [← b3]; exact byte_le s 3
  have hP0 : Hid (W7 ((w.alloc (.cells #[.int .i64 a.u, .int .i64 a.g, .int .i64 a.o, .slice aU a.us.length cU, .slice aG a.gs.length cG, .bool a.r, .int .i64 a.m] 25)).alloc (.cells #[.int .i64 0, .int .i64 0, .int .i64 0, .slice none 0 0, .slice none 0 0, .bool false, .int .i64 0] 25)) w.heap.size (.int .i64 a.u) (.int .i64 a.g) (.int .i64 a.o) (.slice aU a.us.length cU) (.slice aG a.gs.length cG) (.bool a.r) (.int .i64 a.m)) := (w7_new w _ _ _ _ _ _ _ 25).below (bel_alloc _ _)
  have hY0 : Hid (W7 ((w.alloc (.cells #[.int .i64 a.u, .int .i64 a.g, .int .i64 a.o, .slice aU a.us.length cU, .slice aG a.gs.length cG, .bool a.r, .int .i64 a.m] 25)).alloc (.cells #[.int .i64 0, .int .i64 0, .int .i64 0, .slice none 0 0, .slice none 0 0, .bool false, .int .i64 0] 25)) (w.heap.size + 1) (.int .i64 0) (.int .i64 0) (.int .i64 0) (.slice none 0 0) (.slice none 0 0) (.bool false) (.int .i64 0)) := (by
    have := w7_new (w.alloc (.cells #[.int .i64 a.u, .int .i64 a.g, .int .i64 a.o, .slice aU a.us.length cU, .slice aG a.gs.length cG, .bool a.r, .int .i64 a.m] 25)) (.int .i64 0) (.int .i64 0) (.int .i64 0) (.slice none 0 0) (.slice none 0 0) (.bool false) (.int .i64 0) 25
    show W7 _ _ _ _ _ _ _ _ _
    simpa using this)
  have hW0 : Hid (Below w.heap.size w ((w.alloc (.cells #[.int .i64 a.u, .int .i64 a.g, .int .i64 a.o, .slice aU a.us.length cU, .slice aG a.gs.length cG, .bool a.r, .int .i64 a.m] 25)).alloc (.cells #[.int .i64 0, .int .i64 0, .int .i64 0, .slice none 0 0, .slice none 0 0, .bool false, .int .i64 0] 25))) := Below.on (bel_alloc _ _) (bel_alloc _ _)
  have HZ0 : Hid (((w.alloc (.cells #[.int .i64 a.u, .int .i64 a.g, .int .i64 a.o, .slice aU a.us.length cU, .slice aG a.gs.length cG, .bool a.r, .int .i64 a.m] 25)).alloc (.cells #[.int .i64 0, .int .i64 0, .int .i64 0, .slice none 0 0, .slice none 0 0, .bool false, .int .i64 0] 25)).heap.size = w.heap.size + 2) := (show _ = _ by simp)
  have HYb : Hid (w0.heap.size ≤ w.heap.size + 1) := (show _ ≤ _ by omega)
  have HYU : Hid (∀ A, aU = some A → w.heap.size + 1 ≠ A.block) := (fun A e => by have := hlow.1 A e; omega)
  have HYG : Hid (∀ A, aG = some A → w.heap.size + 1 ≠ A.block) := (fun A e => by have := hlow.2 A e; omega)
  have HPU : Hid (∀ A, aU = some A → w.heap.size ≠ A.block) := (fun A e => by have := hlow.1 A e; omega)
  have HPG : Hid (∀ A, aG = some A → w.heap.size ≠ A.block) := (fun A e => by have := hlow.2 A e; omega)
  have HBS : Hid (w0.heap.size ≤ w.heap.size) := hbs
  have H : Hid (R2 w0 w a aU cU aG cG) := h
  have HLN : Hid (a.us.length ≤ 100000 ∧ a.gs.length ≤ 100000) := ⟨hlu, hlg⟩
  clear hlow hbs h hlu hlg
  subst hk
  go_enter Tryz.func38, Tryz.ntmps38
  go_upto_region 2 with fail
  generalize ((w.alloc (.cells #[.int .i64 a.u, .int .i64 a.g, .int .i64 a.o, .slice aU a.us.length cU, .slice aG a.gs.length cG, .bool a.r, .int .i64 a.m] 25)).alloc (.cells #[.int .i64 0, .int .i64 0, .int .i64 0, .slice none 0 0, .slice none 0 0, .bool false, .int .i64 0] 25)) = wz at hP0 hY0 hW0 HZ0 ⊢
  go_region
  all_goals (
    have hb3 : Below wz.heap.size wz ((wz.alloc (.cells #[.int .i64 (256 * (h1 : Int) + l1), .int .i64 (b : Int)] 45)).drew) := bdC (bel_alloc _ _)
    have hP3 : Hid (W7 ((wz.alloc (.cells #[.int .i64 (256 * (h1 : Int) + l1), .int .i64 (b : Int)] 45)).drew) w.heap.size (.int .i64 a.u) (.int .i64 a.g) (.int .i64 a.o) (.slice aU a.us.length cU) (.slice aG a.gs.length cG) (.bool a.r) (.int .i64 a.m)) := hP0.out.below hb3
    have hY3 : Hid (W7 ((wz.alloc (.cells #[.int .i64 (256 * (h1 : Int) + l1), .int .i64 (b : Int)] 45)).drew) (w.heap.size + 1) (.int .i64 0) (.int .i64 0) (.int .i64 0) (.slice none 0 0) (.slice none 0 0) (.bool false) (.int .i64 0)) := hY0.out.below hb3
    have hW3 : Hid (Below w.heap.size w ((wz.alloc (.cells #[.int .i64 (256 * (h1 : Int) + l1), .int .i64 (b : Int)] 45)).drew)) := Below.on hW0.out hb3
    obtain ⟨x0, x1⟩ := pair_new wz (.int .i64 (256 * (h1 : Int) + l1)) (.int .i64 (b : Int)) 45
    have X0 : Hid (((wz.alloc (.cells #[.int .i64 (256 * (h1 : Int) + l1), .int .i64 (b : Int)] 45)).drew).cell? ⟨wz.heap.size, 0, none⟩ = some (.int .i64 (256 * (h1 : Int) + l1))) := x0
    have X1 : Hid (((wz.alloc (.cells #[.int .i64 (256 * (h1 : Int) + l1), .int .i64 (b : Int)] 45)).drew).cell? ⟨wz.heap.size, 1, none⟩ = some (.int .i64 (b : Int))) := x1
    have HXZ : Hid (wz.heap.size < ((wz.alloc (.cells #[.int .i64 (256 * (h1 : Int) + l1), .int .i64 (b : Int)] 45)).drew).heap.size) := (show wz.heap.size < (wz.alloc (.cells #[.int .i64 (256 * (h1 : Int) + l1), .int .i64 (b : Int)] 45)).heap.size by simp)
    have HXX : Hid (wz.heap.size = w.heap.size + 2) := HZ0
    clear hb3 x0 x1 hP0 hY0 hW0 HZ0
    generalize (wz.alloc (.cells #[.int .i64 (256 * (h1 : Int) + l1), .int .i64 (b : Int)] 45)).drew = w3 at hP3 hY3 hW3 X0 X1 HXZ ⊢
    generalize wz.heap.size = X at X0 X1 HXZ HXX ⊢
    have x0 := X0.out
    have x1 := X1.out
    obtain ⟨pl, p0, p1, p2, p3, p4, p5, p6, pz⟩ := hP3.out
    have pz0 := pz 0
    have pz1 := pz 1
    have pz2 := pz 2
    have pz3 := pz 3
    have pz4 := pz 4
    have pz5 := pz 5
    have pz6 := pz 6
    clear pz
    go_upto_region 17 with fail
    have hP4 : Hid (W7 ((w3.setCell ⟨w.heap.size, 5, none⟩ (.bool true)).setCell ⟨w.heap.size, 6, none⟩ (.int .i64 (b : Int))) w.heap.size (.int .i64 a.u) (.int .i64 a.g) (.int .i64 a.o) (.slice aU a.us.length cU) (.slice aG a.gs.length cG) (.bool true) (.int .i64 (b : Int))) := (W7.set6 (W7.set5 hP3.out))
    have hY4 : Hid (W7 ((w3.setCell ⟨w.heap.size, 5, none⟩ (.bool true)).setCell ⟨w.heap.size, 6, none⟩ (.int .i64 (b : Int))) (w.heap.size + 1) (.int .i64 0) (.int .i64 0) (.int .i64 0) (.slice none 0 0) (.slice none 0 0) (.bool false) (.int .i64 0)) := (W7.other (W7.other hY3.out (by omega)) (by omega))
    have HE : Hid (EntW w0 w ((w3.setCell ⟨w.heap.size, 5, none⟩ (.bool true)).setCell ⟨w.heap.size, 6, none⟩ (.int .i64 (b : Int))) a ({ a with r := true, m := (b : Int) }) aU cU aG cG aU cU aG cG) := ⟨(R2.set (R2.set (H.out.below hW3.out) HBS.out HPU.out HPG.out) HBS.out HPU.out HPG.out).as rfl rfl, (ButR.set (ButR.set (ButR.of_below hW3.out) (Nat.le_refl _)) (Nat.le_refl _)), FromR.refl _ _, FromR.refl _ _⟩
    clear hP3 hY3 hW3
    generalize ((w3.setCell ⟨w.heap.size, 5, none⟩ (.bool true)).setCell ⟨w.heap.size, 6, none⟩ (.int .i64 (b : Int))) = w4 at hP4 hY4 HE ⊢
    clear pl p0 p1 p2 p3 p4 p5 p6 pz0 pz1 pz2 pz3 pz4 pz5 pz6 x0 x1
    obtain ⟨pl, p0, p1, p2, p3, p4, p5, p6, pz⟩ := hP4.out
    have pz0 := pz 0
    have pz1 := pz 1
    have pz2 := pz 2
    have pz3 := pz 3
    have pz4 := pz 4
    have pz5 := pz 5
    have pz6 := pz 6
    clear pz
    obtain ⟨yl, y0, y1, y2, y3, y4, y5, y6, yz⟩ := hY4.out
    have yz0 := yz 0
    have yz1 := yz 1
    have yz2 := yz 2
    have yz3 := yz 3
    have yz4 := yz 4
    have yz5 := yz 5
    have yz6 := yz 6
    clear yz
    go_wp2
    refine bodyPost_ret (v := .agg #[.int .i64 a.u, .int .i64 a.g, .int .i64 a.o, .slice aU a.us.length cU, .slice aG a.gs.length cG, .bool true, .int .i64 (b : Int)]) (by simp [results, Tryz.results38, go_sem, y0, y1, y2, y3, y4, y5, y6]) rfl ⟨aU, cU, aG, cG, rfl, ?_⟩
    repeat (refine EntW.set ?_ (Nat.le_add_right _ _) HYb.out HYU.out HYG.out)
    exact HE.out)
set_option maxRecDepth 100000 in
set_option maxHeartbeats 4000000 in
/-- spec.l06Take, of others. -/
theorem sTake_o (w0 w : World) (a : Al) (aU : Option Addr) (cU : Nat) (aG : Option Addr) (cG : Nat) (h : R2 w0 w a aU cU aG cG) (hlu : a.us.length ≤ 100000) (hlg : a.gs.length ≤ 100000) (s : ByteArray) (hs : s.size = 4) (k b h1 l1 : Nat) (b0 : byte s 0 = k) (b1 : byte s 1 = b) (b2 : byte s 2 = h1) (b3 : byte s 3 = l1) (hk : k = 32) :
    Calls Tryz.prog 38 #[.agg #[.int .i64 a.u, .int .i64 a.g, .int .i64 a.o, .slice aU a.us.length cU, .slice aG a.gs.length cG, .bool a.r, .int .i64 a.m], .string s] w (fun e w' => ∃ aU' cU' aG' cG', e = .returned (alV ({ a with o := (b : Int) }) aU' cU' aG' cG') ∧ EntW w0 w w' a ({ a with o := (b : Int) }) aU cU aG cG aU' cU' aG' cG') := by
  have hlow := h.low
  have hbs := h.bel.size
  have hbt := get_byte s
  have lb : b ≤ 255 := by rw [← b1]; exact byte_le s 1
  have lh : h1 ≤ 255 := by rw [← b2]; exact byte_le s 2
  have ll : l1 ≤ 255 := by rw [← b3]; exact byte_le s 3
  have hP0 : Hid (W7 ((w.alloc (.cells #[.int .i64 a.u, .int .i64 a.g, .int .i64 a.o, .slice aU a.us.length cU, .slice aG a.gs.length cG, .bool a.r, .int .i64 a.m] 25)).alloc (.cells #[.int .i64 0, .int .i64 0, .int .i64 0, .slice none 0 0, .slice none 0 0, .bool false, .int .i64 0] 25)) w.heap.size (.int .i64 a.u) (.int .i64 a.g) (.int .i64 a.o) (.slice aU a.us.length cU) (.slice aG a.gs.length cG) (.bool a.r) (.int .i64 a.m)) := (w7_new w _ _ _ _ _ _ _ 25).below (bel_alloc _ _)
  have hY0 : Hid (W7 ((w.alloc (.cells #[.int .i64 a.u, .int .i64 a.g, .int .i64 a.o, .slice aU a.us.length cU, .slice aG a.gs.length cG, .bool a.r, .int .i64 a.m] 25)).alloc (.cells #[.int .i64 0, .int .i64 0, .int .i64 0, .slice none 0 0, .slice none 0 0, .bool false, .int .i64 0] 25)) (w.heap.size + 1) (.int .i64 0) (.int .i64 0) (.int .i64 0) (.slice none 0 0) (.slice none 0 0) (.bool false) (.int .i64 0)) := (by
    have := w7_new (w.alloc (.cells #[.int .i64 a.u, .int .i64 a.g, .int .i64 a.o, .slice aU a.us.length cU, .slice aG a.gs.length cG, .bool a.r, .int .i64 a.m] 25)) (.int .i64 0) (.int .i64 0) (.int .i64 0) (.slice none 0 0) (.slice none 0 0) (.bool false) (.int .i64 0) 25
    show W7 _ _ _ _ _ _ _ _ _
    simpa using this)
  have hW0 : Hid (Below w.heap.size w ((w.alloc (.cells #[.int .i64 a.u, .int .i64 a.g, .int .i64 a.o, .slice aU a.us.length cU, .slice aG a.gs.length cG, .bool a.r, .int .i64 a.m] 25)).alloc (.cells #[.int .i64 0, .int .i64 0, .int .i64 0, .slice none 0 0, .slice none 0 0, .bool false, .int .i64 0] 25))) := Below.on (bel_alloc _ _) (bel_alloc _ _)
  have HZ0 : Hid (((w.alloc (.cells #[.int .i64 a.u, .int .i64 a.g, .int .i64 a.o, .slice aU a.us.length cU, .slice aG a.gs.length cG, .bool a.r, .int .i64 a.m] 25)).alloc (.cells #[.int .i64 0, .int .i64 0, .int .i64 0, .slice none 0 0, .slice none 0 0, .bool false, .int .i64 0] 25)).heap.size = w.heap.size + 2) := (show _ = _ by simp)
  have HYb : Hid (w0.heap.size ≤ w.heap.size + 1) := (show _ ≤ _ by omega)
  have HYU : Hid (∀ A, aU = some A → w.heap.size + 1 ≠ A.block) := (fun A e => by have := hlow.1 A e; omega)
  have HYG : Hid (∀ A, aG = some A → w.heap.size + 1 ≠ A.block) := (fun A e => by have := hlow.2 A e; omega)
  have HPU : Hid (∀ A, aU = some A → w.heap.size ≠ A.block) := (fun A e => by have := hlow.1 A e; omega)
  have HPG : Hid (∀ A, aG = some A → w.heap.size ≠ A.block) := (fun A e => by have := hlow.2 A e; omega)
  have HBS : Hid (w0.heap.size ≤ w.heap.size) := hbs
  have H : Hid (R2 w0 w a aU cU aG cG) := h
  have HLN : Hid (a.us.length ≤ 100000 ∧ a.gs.length ≤ 100000) := ⟨hlu, hlg⟩
  clear hlow hbs h hlu hlg
  subst hk
  go_enter Tryz.func38, Tryz.ntmps38
  go_upto_region 2 with fail
  generalize ((w.alloc (.cells #[.int .i64 a.u, .int .i64 a.g, .int .i64 a.o, .slice aU a.us.length cU, .slice aG a.gs.length cG, .bool a.r, .int .i64 a.m] 25)).alloc (.cells #[.int .i64 0, .int .i64 0, .int .i64 0, .slice none 0 0, .slice none 0 0, .bool false, .int .i64 0] 25)) = wz at hP0 hY0 hW0 HZ0 ⊢
  go_region
  all_goals (
    have hb3 : Below wz.heap.size wz ((wz.alloc (.cells #[.int .i64 (256 * (h1 : Int) + l1), .int .i64 (b : Int)] 45)).drew) := bdC (bel_alloc _ _)
    have hP3 : Hid (W7 ((wz.alloc (.cells #[.int .i64 (256 * (h1 : Int) + l1), .int .i64 (b : Int)] 45)).drew) w.heap.size (.int .i64 a.u) (.int .i64 a.g) (.int .i64 a.o) (.slice aU a.us.length cU) (.slice aG a.gs.length cG) (.bool a.r) (.int .i64 a.m)) := hP0.out.below hb3
    have hY3 : Hid (W7 ((wz.alloc (.cells #[.int .i64 (256 * (h1 : Int) + l1), .int .i64 (b : Int)] 45)).drew) (w.heap.size + 1) (.int .i64 0) (.int .i64 0) (.int .i64 0) (.slice none 0 0) (.slice none 0 0) (.bool false) (.int .i64 0)) := hY0.out.below hb3
    have hW3 : Hid (Below w.heap.size w ((wz.alloc (.cells #[.int .i64 (256 * (h1 : Int) + l1), .int .i64 (b : Int)] 45)).drew)) := Below.on hW0.out hb3
    obtain ⟨x0, x1⟩ := pair_new wz (.int .i64 (256 * (h1 : Int) + l1)) (.int .i64 (b : Int)) 45
    have X0 : Hid (((wz.alloc (.cells #[.int .i64 (256 * (h1 : Int) + l1), .int .i64 (b : Int)] 45)).drew).cell? ⟨wz.heap.size, 0, none⟩ = some (.int .i64 (256 * (h1 : Int) + l1))) := x0
    have X1 : Hid (((wz.alloc (.cells #[.int .i64 (256 * (h1 : Int) + l1), .int .i64 (b : Int)] 45)).drew).cell? ⟨wz.heap.size, 1, none⟩ = some (.int .i64 (b : Int))) := x1
    have HXZ : Hid (wz.heap.size < ((wz.alloc (.cells #[.int .i64 (256 * (h1 : Int) + l1), .int .i64 (b : Int)] 45)).drew).heap.size) := (show wz.heap.size < (wz.alloc (.cells #[.int .i64 (256 * (h1 : Int) + l1), .int .i64 (b : Int)] 45)).heap.size by simp)
    have HXX : Hid (wz.heap.size = w.heap.size + 2) := HZ0
    clear hb3 x0 x1 hP0 hY0 hW0 HZ0
    generalize (wz.alloc (.cells #[.int .i64 (256 * (h1 : Int) + l1), .int .i64 (b : Int)] 45)).drew = w3 at hP3 hY3 hW3 X0 X1 HXZ ⊢
    generalize wz.heap.size = X at X0 X1 HXZ HXX ⊢
    have x0 := X0.out
    have x1 := X1.out
    obtain ⟨pl, p0, p1, p2, p3, p4, p5, p6, pz⟩ := hP3.out
    have pz0 := pz 0
    have pz1 := pz 1
    have pz2 := pz 2
    have pz3 := pz 3
    have pz4 := pz 4
    have pz5 := pz 5
    have pz6 := pz 6
    clear pz
    go_upto_region 17 with fail
    have hP4 : Hid (W7 (w3.setCell ⟨w.heap.size, 2, none⟩ (.int .i64 (b : Int))) w.heap.size (.int .i64 a.u) (.int .i64 a.g) (.int .i64 (b : Int)) (.slice aU a.us.length cU) (.slice aG a.gs.length cG) (.bool a.r) (.int .i64 a.m)) := (W7.set2 hP3.out)
    have hY4 : Hid (W7 (w3.setCell ⟨w.heap.size, 2, none⟩ (.int .i64 (b : Int))) (w.heap.size + 1) (.int .i64 0) (.int .i64 0) (.int .i64 0) (.slice none 0 0) (.slice none 0 0) (.bool false) (.int .i64 0)) := (W7.other hY3.out (by omega))
    have HE : Hid (EntW w0 w (w3.setCell ⟨w.heap.size, 2, none⟩ (.int .i64 (b : Int))) a ({ a with o := (b : Int) }) aU cU aG cG aU cU aG cG) := ⟨(R2.set (H.out.below hW3.out) HBS.out HPU.out HPG.out).as rfl rfl, (ButR.set (ButR.of_below hW3.out) (Nat.le_refl _)), FromR.refl _ _, FromR.refl _ _⟩
    clear hP3 hY3 hW3
    generalize (w3.setCell ⟨w.heap.size, 2, none⟩ (.int .i64 (b : Int))) = w4 at hP4 hY4 HE ⊢
    clear pl p0 p1 p2 p3 p4 p5 p6 pz0 pz1 pz2 pz3 pz4 pz5 pz6 x0 x1
    obtain ⟨pl, p0, p1, p2, p3, p4, p5, p6, pz⟩ := hP4.out
    have pz0 := pz 0
    have pz1 := pz 1
    have pz2 := pz 2
    have pz3 := pz 3
    have pz4 := pz 4
    have pz5 := pz 5
    have pz6 := pz 6
    clear pz
    obtain ⟨yl, y0, y1, y2, y3, y4, y5, y6, yz⟩ := hY4.out
    have yz0 := yz 0
    have yz1 := yz 1
    have yz2 := yz 2
    have yz3 := yz 3
    have yz4 := yz 4
    have yz5 := yz 5
    have yz6 := yz 6
    clear yz
    go_wp2
    refine bodyPost_ret (v := .agg #[.int .i64 a.u, .int .i64 a.g, .int .i64 (b : Int), .slice aU a.us.length cU, .slice aG a.gs.length cG, .bool a.r, .int .i64 a.m]) (by simp [results, Tryz.results38, go_sem, y0, y1, y2, y3, y4, y5, y6]) rfl ⟨aU, cU, aG, cG, rfl, ?_⟩
    repeat (refine EntW.set ?_ (Nat.le_add_right _ _) HYb.out HYU.out HYG.out)
    exact HE.out)
set_option maxRecDepth 100000 in
set_option maxHeartbeats 4000000 in
/-- spec.l06Take, of no kind. -/
theorem sTake_no (w0 w : World) (a : Al) (aU : Option Addr) (cU : Nat) (aG : Option Addr) (cG : Nat) (h : R2 w0 w a aU cU aG cG) (hlu : a.us.length ≤ 100000) (hlg : a.gs.length ≤ 100000) (s : ByteArray) (hs : s.size = 4) (k b h1 l1 : Nat) (b0 : byte s 0 = k) (b1 : byte s 1 = b) (b2 : byte s 2 = h1) (b3 : byte s 3 = l1) (n1 : k ≠ 1) (n2 : k ≠ 2) (n4 : k ≠ 4) (n8 : k ≠ 8) (n16 : k ≠ 16) (n32 : k ≠ 32) :
    Calls Tryz.prog 38 #[.agg #[.int .i64 a.u, .int .i64 a.g, .int .i64 a.o, .slice aU a.us.length cU, .slice aG a.gs.length cG, .bool a.r, .int .i64 a.m], .string s] w (fun e w' => ∃ aU' cU' aG' cG', e = .returned (alV (a) aU' cU' aG' cG') ∧ EntW w0 w w' a (a) aU cU aG cG aU' cU' aG' cG') := by
  have hlow := h.low
  have hbs := h.bel.size
  have hbt := get_byte s
  have lb : b ≤ 255 := by rw [← b1]; exact byte_le s 1
  have lh : h1 ≤ 255 := by rw [← b2]; exact byte_le s 2
  have ll : l1 ≤ 255 := by rw [← b3]; exact byte_le s 3
  have hP0 : Hid (W7 ((w.alloc (.cells #[.int .i64 a.u, .int .i64 a.g, .int .i64 a.o, .slice aU a.us.length cU, .slice aG a.gs.length cG, .bool a.r, .int .i64 a.m] 25)).alloc (.cells #[.int .i64 0, .int .i64 0, .int .i64 0, .slice none 0 0, .slice none 0 0, .bool false, .int .i64 0] 25)) w.heap.size (.int .i64 a.u) (.int .i64 a.g) (.int .i64 a.o) (.slice aU a.us.length cU) (.slice aG a.gs.length cG) (.bool a.r) (.int .i64 a.m)) := (w7_new w _ _ _ _ _ _ _ 25).below (bel_alloc _ _)
  have hY0 : Hid (W7 ((w.alloc (.cells #[.int .i64 a.u, .int .i64 a.g, .int .i64 a.o, .slice aU a.us.length cU, .slice aG a.gs.length cG, .bool a.r, .int .i64 a.m] 25)).alloc (.cells #[.int .i64 0, .int .i64 0, .int .i64 0, .slice none 0 0, .slice none 0 0, .bool false, .int .i64 0] 25)) (w.heap.size + 1) (.int .i64 0) (.int .i64 0) (.int .i64 0) (.slice none 0 0) (.slice none 0 0) (.bool false) (.int .i64 0)) := (by
    have := w7_new (w.alloc (.cells #[.int .i64 a.u, .int .i64 a.g, .int .i64 a.o, .slice aU a.us.length cU, .slice aG a.gs.length cG, .bool a.r, .int .i64 a.m] 25)) (.int .i64 0) (.int .i64 0) (.int .i64 0) (.slice none 0 0) (.slice none 0 0) (.bool false) (.int .i64 0) 25
    show W7 _ _ _ _ _ _ _ _ _
    simpa using this)
  have hW0 : Hid (Below w.heap.size w ((w.alloc (.cells #[.int .i64 a.u, .int .i64 a.g, .int .i64 a.o, .slice aU a.us.length cU, .slice aG a.gs.length cG, .bool a.r, .int .i64 a.m] 25)).alloc (.cells #[.int .i64 0, .int .i64 0, .int .i64 0, .slice none 0 0, .slice none 0 0, .bool false, .int .i64 0] 25))) := Below.on (bel_alloc _ _) (bel_alloc _ _)
  have HZ0 : Hid (((w.alloc (.cells #[.int .i64 a.u, .int .i64 a.g, .int .i64 a.o, .slice aU a.us.length cU, .slice aG a.gs.length cG, .bool a.r, .int .i64 a.m] 25)).alloc (.cells #[.int .i64 0, .int .i64 0, .int .i64 0, .slice none 0 0, .slice none 0 0, .bool false, .int .i64 0] 25)).heap.size = w.heap.size + 2) := (show _ = _ by simp)
  have HYb : Hid (w0.heap.size ≤ w.heap.size + 1) := (show _ ≤ _ by omega)
  have HYU : Hid (∀ A, aU = some A → w.heap.size + 1 ≠ A.block) := (fun A e => by have := hlow.1 A e; omega)
  have HYG : Hid (∀ A, aG = some A → w.heap.size + 1 ≠ A.block) := (fun A e => by have := hlow.2 A e; omega)
  have HPU : Hid (∀ A, aU = some A → w.heap.size ≠ A.block) := (fun A e => by have := hlow.1 A e; omega)
  have HPG : Hid (∀ A, aG = some A → w.heap.size ≠ A.block) := (fun A e => by have := hlow.2 A e; omega)
  have HBS : Hid (w0.heap.size ≤ w.heap.size) := hbs
  have H : Hid (R2 w0 w a aU cU aG cG) := h
  have HLN : Hid (a.us.length ≤ 100000 ∧ a.gs.length ≤ 100000) := ⟨hlu, hlg⟩
  clear hlow hbs h hlu hlg
  have lk : k ≤ 255 := by rw [← b0]; exact byte_le s 0
  have q1 : ((k : Int) == 1) = false := beq_eq_false_iff_ne.2 (by omega)
  have q2 : ((k : Int) == 2) = false := beq_eq_false_iff_ne.2 (by omega)
  have q4 : ((k : Int) == 4) = false := beq_eq_false_iff_ne.2 (by omega)
  have q8 : ((k : Int) == 8) = false := beq_eq_false_iff_ne.2 (by omega)
  have q16 : ((k : Int) == 16) = false := beq_eq_false_iff_ne.2 (by omega)
  have q32 : ((k : Int) == 32) = false := beq_eq_false_iff_ne.2 (by omega)
  clear n1 n2 n4 n8 n16 n32
  go_enter Tryz.func38, Tryz.ntmps38
  go_upto_region 2 with fail
  generalize ((w.alloc (.cells #[.int .i64 a.u, .int .i64 a.g, .int .i64 a.o, .slice aU a.us.length cU, .slice aG a.gs.length cG, .bool a.r, .int .i64 a.m] 25)).alloc (.cells #[.int .i64 0, .int .i64 0, .int .i64 0, .slice none 0 0, .slice none 0 0, .bool false, .int .i64 0] 25)) = wz at hP0 hY0 hW0 HZ0 ⊢
  go_region
  all_goals (
    have hb3 : Below wz.heap.size wz ((wz.alloc (.cells #[.int .i64 (256 * (h1 : Int) + l1), .int .i64 (b : Int)] 45)).drew) := bdC (bel_alloc _ _)
    have hP3 : Hid (W7 ((wz.alloc (.cells #[.int .i64 (256 * (h1 : Int) + l1), .int .i64 (b : Int)] 45)).drew) w.heap.size (.int .i64 a.u) (.int .i64 a.g) (.int .i64 a.o) (.slice aU a.us.length cU) (.slice aG a.gs.length cG) (.bool a.r) (.int .i64 a.m)) := hP0.out.below hb3
    have hY3 : Hid (W7 ((wz.alloc (.cells #[.int .i64 (256 * (h1 : Int) + l1), .int .i64 (b : Int)] 45)).drew) (w.heap.size + 1) (.int .i64 0) (.int .i64 0) (.int .i64 0) (.slice none 0 0) (.slice none 0 0) (.bool false) (.int .i64 0)) := hY0.out.below hb3
    have hW3 : Hid (Below w.heap.size w ((wz.alloc (.cells #[.int .i64 (256 * (h1 : Int) + l1), .int .i64 (b : Int)] 45)).drew)) := Below.on hW0.out hb3
    obtain ⟨x0, x1⟩ := pair_new wz (.int .i64 (256 * (h1 : Int) + l1)) (.int .i64 (b : Int)) 45
    have X0 : Hid (((wz.alloc (.cells #[.int .i64 (256 * (h1 : Int) + l1), .int .i64 (b : Int)] 45)).drew).cell? ⟨wz.heap.size, 0, none⟩ = some (.int .i64 (256 * (h1 : Int) + l1))) := x0
    have X1 : Hid (((wz.alloc (.cells #[.int .i64 (256 * (h1 : Int) + l1), .int .i64 (b : Int)] 45)).drew).cell? ⟨wz.heap.size, 1, none⟩ = some (.int .i64 (b : Int))) := x1
    have HXZ : Hid (wz.heap.size < ((wz.alloc (.cells #[.int .i64 (256 * (h1 : Int) + l1), .int .i64 (b : Int)] 45)).drew).heap.size) := (show wz.heap.size < (wz.alloc (.cells #[.int .i64 (256 * (h1 : Int) + l1), .int .i64 (b : Int)] 45)).heap.size by simp)
    have HXX : Hid (wz.heap.size = w.heap.size + 2) := HZ0
    clear hb3 x0 x1 hP0 hY0 hW0 HZ0
    generalize (wz.alloc (.cells #[.int .i64 (256 * (h1 : Int) + l1), .int .i64 (b : Int)] 45)).drew = w3 at hP3 hY3 hW3 X0 X1 HXZ ⊢
    generalize wz.heap.size = X at X0 X1 HXZ HXX ⊢
    have x0 := X0.out
    have x1 := X1.out
    obtain ⟨pl, p0, p1, p2, p3, p4, p5, p6, pz⟩ := hP3.out
    have pz0 := pz 0
    have pz1 := pz 1
    have pz2 := pz 2
    have pz3 := pz 3
    have pz4 := pz 4
    have pz5 := pz 5
    have pz6 := pz 6
    clear pz
    go_upto_region 17 with fail
    have hP4 : Hid _ := hP3.out
    have hY4 : Hid _ := hY3.out
    have HE : Hid (EntW w0 w w3 a a aU cU aG cG aU cU aG cG) := ⟨H.out.below hW3.out, ButR.of_below hW3.out, FromR.refl _ _, FromR.refl _ _⟩
    clear hP3 hY3 hW3
    clear pl p0 p1 p2 p3 p4 p5 p6 pz0 pz1 pz2 pz3 pz4 pz5 pz6 x0 x1
    obtain ⟨pl, p0, p1, p2, p3, p4, p5, p6, pz⟩ := hP4.out
    have pz0 := pz 0
    have pz1 := pz 1
    have pz2 := pz 2
    have pz3 := pz 3
    have pz4 := pz 4
    have pz5 := pz 5
    have pz6 := pz 6
    clear pz
    obtain ⟨yl, y0, y1, y2, y3, y4, y5, y6, yz⟩ := hY4.out
    have yz0 := yz 0
    have yz1 := yz 1
    have yz2 := yz 2
    have yz3 := yz 3
    have yz4 := yz 4
    have yz5 := yz 5
    have yz6 := yz 6
    clear yz
    go_wp2
    refine bodyPost_ret (v := .agg #[.int .i64 a.u, .int .i64 a.g, .int .i64 a.o, .slice aU a.us.length cU, .slice aG a.gs.length cG, .bool a.r, .int .i64 a.m]) (by simp [results, Tryz.results38, go_sem, y0, y1, y2, y3, y4, y5, y6]) rfl ⟨aU, cU, aG, cG, rfl, ?_⟩
    repeat (refine EntW.set ?_ (Nat.le_add_right _ _) HYb.out HYU.out HYG.out)
    exact HE.out)
/-- spec.l06Take. -/
theorem sTake_any (w0 w : World) (a : Al) (aU : Option Addr) (cU : Nat) (aG : Option Addr) (cG : Nat) (h : R2 w0 w a aU cU aG cG) (hlu : a.us.length ≤ 100000) (hlg : a.gs.length ≤ 100000) (s : ByteArray) (hs : s.size = 4) :
    Calls Tryz.prog 38 #[.agg #[.int .i64 a.u, .int .i64 a.g, .int .i64 a.o, .slice aU a.us.length cU, .slice aG a.gs.length cG, .bool a.r, .int .i64 a.m], .string s] w (fun e w' => ∃ aU' cU' aG' cG', e = .returned (alV (takeE a (byte s 0) (byte s 1) (256 * (byte s 2 : Int) + byte s 3)) aU' cU' aG' cG') ∧ EntW w0 w w' a (takeE a (byte s 0) (byte s 1) (256 * (byte s 2 : Int) + byte s 3)) aU cU aG cG aU' cU' aG' cG') := by
  by_cases n1 : byte s 0 = 1
  · rw [takeE, if_pos n1]
    exact sTake_u w0 w a aU cU aG cG h hlu hlg s hs _ _ _ _ rfl rfl rfl rfl n1
  by_cases n2 : byte s 0 = 2
  · rw [takeE, if_neg n1, if_pos n2]
    exact sTake_us w0 w a aU cU aG cG h hlu hlg s hs _ _ _ _ rfl rfl rfl rfl n2
  by_cases n4 : byte s 0 = 4
  · rw [takeE, if_neg n1, if_neg n2, if_pos n4]
    exact sTake_g w0 w a aU cU aG cG h hlu hlg s hs _ _ _ _ rfl rfl rfl rfl n4
  by_cases n8 : byte s 0 = 8
  · rw [takeE, if_neg n1, if_neg n2, if_neg n4, if_pos n8]
    exact sTake_gs w0 w a aU cU aG cG h hlu hlg s hs _ _ _ _ rfl rfl rfl rfl n8
  by_cases n16 : byte s 0 = 16
  · rw [takeE, if_neg n1, if_neg n2, if_neg n4, if_neg n8, if_pos n16]
    exact sTake_m w0 w a aU cU aG cG h hlu hlg s hs _ _ _ _ rfl rfl rfl rfl n16
  by_cases n32 : byte s 0 = 32
  · rw [takeE, if_neg n1, if_neg n2, if_neg n4, if_neg n8, if_neg n16, if_pos n32]
    exact sTake_o w0 w a aU cU aG cG h hlu hlg s hs _ _ _ _ rfl rfl rfl rfl n32
  · rw [takeE, if_neg n1, if_neg n2, if_neg n4, if_neg n8, if_neg n16, if_neg n32]
    exact sTake_no w0 w a aU cU aG cG h hlu hlg s hs _ _ _ _ rfl rfl rfl rfl n1 n2 n4 n8 n16 n32
/-- AclFrom. -/
def afO (s : ByteArray) : Ans := if 8000 < s.size then illA 2 else if s.size = 0 then illA 4 else if byte s 0 ≠ 2 then illA 10 else if (fB s (nE s)).Y = s.data.toList then ⟨(fB s (nE s)).u, (fB s (nE s)).g, (fB s (nE s)).o, (fB s (nE s)).us, (fB s (nE s)).gs, (fB s (nE s)).r, (fB s (nE s)).m, 0⟩ else illA 3
def alT (a : Al) : ByteArray := abT a.u a.g a.o a.us a.gs a.r a.m
theorem alT_Y (a : Al) : (alT a).data.toList = a.Y := by simp [alT, abT]
theorem alT_eq {a : Al} {s : ByteArray} : alT a = s ↔ a.Y = s.data.toList := by
  rw [← alT_Y]
  constructor
  · intro e; rw [e]
  · intro e
    apply ByteArray.ext
    apply Array.toList_inj.1
    exact e
theorem afO_cases {s : ByteArray} (h8 : ¬ 8000 < s.size) (h0 : s.size ≠ 0) (h2 : byte s 0 = 2) : (∃ a : Al, fB s (nE s) = a ∧ fB s (nS s) = a ∧ alT a = s ∧ afO s = ⟨a.u, a.g, a.o, a.us, a.gs, a.r, a.m, 0⟩) ∨ (alT (fB s (nE s)) ≠ s ∧ alT (fB s (nS s)) ≠ s ∧ afO s = illA 3) := by
  have hne : s.data.toList ≠ [] := by
    intro e
    have : s.size = s.data.toList.length := Lib.size_eq s
    rw [e] at this
    exact h0 this
  rcases acl_bkey s with ⟨a, h1, h3, h4, h5⟩ | h
  · left
    refine ⟨a, h4, h5, alT_eq.2 h3, ?_⟩
    rw [afO, if_neg h8, if_neg h0, if_neg (by simpa using h2), h4, if_pos h3]
  · right
    have key : ∀ a : Al, alT a ≠ s := fun a e => hne (h a (alT_eq.1 e))
    refine ⟨key _, key _, ?_⟩
    rw [afO, if_neg h8, if_neg h0, if_neg (by simpa using h2), if_neg (fun e => hne (h _ e))]
theorem nE_iff {s : ByteArray} (h0 : s.size ≠ 0) (j : Nat) : j < nE s ↔ 4 * j + 5 ≤ s.size := by unfold nE; omega
theorem nS_iff {s : ByteArray} (h0 : s.size ≠ 0) (j : Nat) : j < nS s ↔ (4 * j + 5 ≤ s.size ∧ 4 * j + 1 < 90) := by
  unfold nS
  have := nE_iff h0 j
  split <;> omega
/-- Four bytes of a text. -/
def cut4 (s : ByteArray) (j : Nat) : ByteArray := s.extract (4 * j + 1) (4 * j + 5)
theorem cut4_size {s : ByteArray} {j : Nat} (h : 4 * j + 5 ≤ s.size) : (cut4 s j).size = 4 := by
  simp [cut4]
  omega
theorem cut4_byte {s : ByteArray} {j i : Nat} (h : 4 * j + 5 ≤ s.size) (hi : i < 4) : byte (cut4 s j) i = byte s (4 * j + 1 + i) := by
  have g : i < (cut4 s j).size := by rw [cut4_size h]; exact hi
  unfold byte
  rw [dif_pos g, dif_pos (by omega)]
  simp [cut4, ByteArray.getElem_extract]
theorem fB_next {s : ByteArray} {j : Nat} (h : 4 * j + 5 ≤ s.size) : fB s (j + 1) = takeE (fB s j) (byte (cut4 s j) 0) (byte (cut4 s j) 1) (256 * (byte (cut4 s j) 2 : Int) + byte (cut4 s j) 3) := by
  rw [cut4_byte h (by omega), cut4_byte h (by omega), cut4_byte h (by omega), cut4_byte h (by omega)]
  rfl
set_option maxRecDepth 100000 in
set_option maxHeartbeats 4000000 in
/-- spec.AclFrom. -/
theorem sAclFrom_any (s : ByteArray) (hs : s.size ≤ 1048576) (w : World) :
    Calls Tryz.prog 16 #[.string s] w (Answers (afO s) w) := by
  have hbt := get_byte s
  have hY : Hid (W8 (w.alloc (.cells #[.int .i64 0, .int .i64 0, .int .i64 0, .slice none 0 0, .slice none 0 0, .bool false, .int .i64 0, .int .i64 0] 30)) w.heap.size) := w8_new w _
  have hW0 : Hid (Below w.heap.size w (w.alloc (.cells #[.int .i64 0, .int .i64 0, .int .i64 0, .slice none 0 0, .slice none 0 0, .bool false, .int .i64 0, .int .i64 0] 30))) := bel_alloc _ _
  by_cases h8 : 8000 < s.size
  · have hO : Hid (afO s = illA 2) := (by show _ = _; rw [afO, if_pos h8])
    have h8' : (8000 : Int) < (s.size : Int) := by omega
    clear h8 hbt
    go_enter Tryz.func16, Tryz.ntmps16
    go_wp2
    refine bodyPost_ret (v := .agg #[.int .i64 0, .int .i64 0, .int .i64 0, .slice none 0 0, .slice none 0 0, .bool false, .int .i64 0, .int .i64 2]) (by simp [results, Tryz.results16, go_sem]) rfl (answers_ill hO.out ?_)
    repeat (refine bl_setL ?_ (Nat.le_refl _))
    exact bel_alloc _ _
  have h8' : ¬ (8000 : Int) < (s.size : Int) := by omega
  have hls : s.data.toList.length = s.size := (Lib.size_eq s).symm
  by_cases h0 : s.size = 0
  · have hO : Hid (afO s = illA 4) := (by show _ = _; rw [afO, if_neg h8, if_pos h0])
    have e0 : s.toList.isEmpty = true := tlL_empty (List.eq_nil_of_length_eq_zero (by omega))
    clear h8 hbt h0 hls
    go_enter Tryz.func16, Tryz.ntmps16
    go_wp2
    refine bodyPost_ret (v := .agg #[.int .i64 0, .int .i64 0, .int .i64 0, .slice none 0 0, .slice none 0 0, .bool false, .int .i64 0, .int .i64 4]) (by simp [results, Tryz.results16, go_sem]) rfl (answers_ill hO.out ?_)
    repeat (refine bl_setL ?_ (Nat.le_refl _))
    exact bel_alloc _ _
  have e0 : s.toList.isEmpty = false := tlL_full (fun e => h0 (by rw [e] at hls; simpa using hls.symm))
  have h0' : 0 < s.size := by omega
  by_cases h2 : ¬ byte s 0 = 2
  · have hO : Hid (afO s = illA 10) := (by show _ = _; rw [afO, if_neg h8, if_neg h0, if_pos h2])
    have q2 : ((byte s 0 : Int) == 2) = false := beq_eq_false_iff_ne.2 (by omega)
    clear h8 h0 hls h2
    go_enter Tryz.func16, Tryz.ntmps16
    go_wp2
    refine bodyPost_ret (v := .agg #[.int .i64 0, .int .i64 0, .int .i64 0, .slice none 0 0, .slice none 0 0, .bool false, .int .i64 0, .int .i64 10]) (by simp [results, Tryz.results16, go_sem]) rfl (answers_ill hO.out ?_)
    repeat (refine bl_setL ?_ (Nat.le_refl _))
    exact bel_alloc _ _
  have h2 : byte s 0 = 2 := Decidable.not_not.1 h2
  have hend : Hid ((alT (fB s (nS s)) = s ∧ afO s = ⟨(fB s (nS s)).u, (fB s (nS s)).g, (fB s (nS s)).o, (fB s (nS s)).us, (fB s (nS s)).gs, (fB s (nS s)).r, (fB s (nS s)).m, 0⟩) ∨ (alT (fB s (nS s)) ≠ s ∧ afO s = illA 3)) := (by
    rcases afO_cases h8 h0 h2 with ⟨a, _, h5, h6, h7⟩ | ⟨_, h6, h7⟩
    · exact .inl ⟨by rw [h5]; exact h6, by rw [h5]; exact h7⟩
    · exact .inr ⟨h6, h7⟩)
  have HI : Hid (∀ j, j < nS s ↔ (4 * j + 5 ≤ s.size ∧ 4 * j + 1 < 90)) := nS_iff h0
  have HFN : Hid (∀ j, 4 * j + 5 ≤ s.size → fB s (j + 1) = takeE (fB s j) (byte (cut4 s j) 0) (byte (cut4 s j) 1) (256 * (byte (cut4 s j) 2 : Int) + byte (cut4 s j) 3)) := (fun j h => fB_next h)
  have HFL : Hid (∀ j, (fB s j).us.length ≤ j ∧ (fB s j).gs.length ≤ j) := fB_len s
  have HNS : Hid (nS s ≤ 23) := (by show _ ≤ _; unfold nS; split <;> omega)
  clear hls h8 h0
  generalize hNN : nS s = NN at hend HI HNS
  clear hNN
  go_enter Tryz.func16, Tryz.ntmps16
  go_upto_region 8 with fail
  have hY1 : Hid (W8 (w.alloc (.cells #[.int .i64 0, .int .i64 0, .int .i64 0, .slice none 0 0, .slice none 0 0, .bool false, .int .i64 0, .int .i64 0] 30)) w.heap.size) := hY
  have hW1 : Hid (Below w.heap.size w (w.alloc (.cells #[.int .i64 0, .int .i64 0, .int .i64 0, .slice none 0 0, .slice none 0 0, .bool false, .int .i64 0, .int .i64 0] 30))) := hW0
  have hz1 : (w.alloc (.cells #[.int .i64 0, .int .i64 0, .int .i64 0, .slice none 0 0, .slice none 0 0, .bool false, .int .i64 0, .int .i64 0] 30)).heap.size = w.heap.size + 1 := by simp
  rw [← hz1]
  clear hz1 hY hW0
  generalize w.alloc (.cells #[.int .i64 0, .int .i64 0, .int .i64 0, .slice none 0 0, .slice none 0 0, .bool false, .int .i64 0, .int .i64 0] 30) = w1 at hY1 hW1 ⊢
  have hP1 : Hid (W7 (w1.alloc (.cells #[.int .i64 0, .int .i64 0, .int .i64 0, .slice none 0 0, .slice none 0 0, .bool false, .int .i64 0] 25)) w1.heap.size (.int .i64 (fB s 0).u) (.int .i64 (fB s 0).g) (.int .i64 (fB s 0).o) (.slice none (fB s 0).us.length 0) (.slice none (fB s 0).gs.length 0) (.bool (fB s 0).r) (.int .i64 (fB s 0).m)) := w7_new w1 _ _ _ _ _ _ _ 25
  have hR1 : Hid (R2 w1 (w1.alloc (.cells #[.int .i64 0, .int .i64 0, .int .i64 0, .slice none 0 0, .slice none 0 0, .bool false, .int .i64 0] 25)) (fB s 0) none 0 none 0) := (r2_start w1).below (bel_alloc _ _)
  go_wp2
  go_loopw [4] (fun i wr => ∃ (k : Nat) (aU : Option Addr) (cU : Nat) (aG : Option Addr) (cG : Nat), k ≤ NN ∧ i = .int .i64 (4 * (k : Int) + 1) ∧ Hid (W7 wr w1.heap.size (.int .i64 (fB s k).u) (.int .i64 (fB s k).g) (.int .i64 (fB s k).o) (.slice aU (fB s k).us.length cU) (.slice aG (fB s k).gs.length cG) (.bool (fB s k).r) (.int .i64 (fB s k).m)) ∧ Hid (R2 w1 wr (fB s k) aU cU aG cG) ∧ Hid ((∀ A, aU = some A → w1.heap.size < A.block) ∧ (∀ A, aG = some A → w1.heap.size < A.block))) (fun i _ => 100 - (intOf i).toNat)
  case atStart => exact ⟨0, none, 0, none, 0, Nat.zero_le _, rfl, hP1, hR1, ⟨fun A e => (by cases e), fun A e => (by cases e)⟩⟩
  case round =>
    obtain ⟨k, aU, cU, aG, cG, hk, rfl, hP, hR, hN⟩ := hrel
    obtain ⟨lu, lg⟩ := HFL.out k
    have h23 := HNS.out
    by_cases hgo : k < NN
    · obtain ⟨g1, g2⟩ := (HI.out k).1 hgo
      have g1' : 4 * (k : Int) + 1 + 4 ≤ (s.size : Int) := by omega
      have g2' : 4 * (k : Int) + 1 < 90 := by omega
      have hw5 : IntKind.i64.wrap (4 * (k : Int) + 1 + 4) = 4 * (k : Int) + 1 + 4 := by rw [IntKind.wrap_i64]; omega
      have d1 : 0 ≤ 4 * (k : Int) + 1 + 4 := by omega
      have d2 : 0 ≤ 4 * (k : Int) + 1 := by omega
      have d3 : 4 * (k : Int) + 1 ≤ 4 * (k : Int) + 1 + 4 := by omega
      have hex : s.extract (4 * (k : Int) + 1).toNat (4 * (k : Int) + 1 + 4).toNat = cut4 s k := by
        have e1 : (4 * (k : Int) + 1).toNat = 4 * k + 1 := by omega
        have e2 : (4 * (k : Int) + 1 + 4).toNat = 4 * k + 5 := by omega
        rw [e1, e2]
        rfl
      have HEN : Hid (∀ w', R2 w1 w' (fB s k) aU cU aG cG → Calls Tryz.prog 38 #[.agg #[.int .i64 (fB s k).u, .int .i64 (fB s k).g, .int .i64 (fB s k).o, .slice aU (fB s k).us.length cU, .slice aG (fB s k).gs.length cG, .bool (fB s k).r, .int .i64 (fB s k).m], .string (cut4 s k)] w' (fun e w'' => ∃ aU' cU' aG' cG', e = .returned (alV (fB s (k + 1)) aU' cU' aG' cG') ∧ EntW w1 w' w'' (fB s k) (fB s (k + 1)) aU cU aG cG aU' cU' aG' cG')) := (fun w' hr => by
        rw [HFN.out k g1]
        exact sTake_any w1 w' (fB s k) aU cU aG cG hr (by omega) (by omega) (cut4 s k) (cut4_size g1))
      generalize hbb : fB s (k + 1) = bb at HEN
      generalize fB s k = aa at hP hR HEN lu lg
      have HBE : Hid (fB s (k + 1) = bb) := hbb
      generalize cut4 s k = CT at hex HEN
      clear hbb g1 g2
      obtain ⟨pl, p0, p1, p2, p3, p4, p5, p6, pz⟩ := hP.out
      have pz0 := pz 0
      have pz1 := pz 1
      have pz2 := pz 2
      have pz3 := pz 3
      have pz4 := pz 4
      have pz5 := pz 5
      have pz6 := pz 6
      clear pz
      go_upto_region 11 with fail
      go_region_law (go_simp; go_at_call 38; refine (HEN.out _ hR.out.drew).mono ?_; rintro e w4 ⟨aU', cU', aG', cG', rfl, hE⟩; simp only [alV]; have hP4 : W7 w4 w1.heap.size (.int .i64 aa.u) (.int .i64 aa.g) (.int .i64 aa.o) (.slice aU aa.us.length cU) (.slice aG aa.gs.length cG) (.bool aa.r) (.int .i64 aa.m) := hP.out.drew.keep hE.but.1 (hE.but.2 _ hP.out.lt (fun A e => by have := hN.out.1 A e; omega) (fun A e => by have := hN.out.2 A e; omega)); have HN4 : Hid ((∀ A, aU' = some A → w1.heap.size < A.block) ∧ (∀ A, aG' = some A → w1.heap.size < A.block)) := ⟨fun A e => by rcases hE.fu A e with ⟨A2, e2, e3⟩ | h1; (· rw [e3]; exact hN.out.1 A2 e2); (· exact Nat.lt_of_lt_of_le hP.out.lt h1), fun A e => by rcases hE.fg A e with ⟨A2, e2, e3⟩ | h1; (· rw [e3]; exact hN.out.2 A2 e2); (· exact Nat.lt_of_lt_of_le hP.out.lt h1)⟩; have HP4 : Hid (W7 (((((((w4.setCell ⟨w1.heap.size, 0, none⟩ (.int .i64 bb.u)).setCell ⟨w1.heap.size, 1, none⟩ (.int .i64 bb.g)).setCell ⟨w1.heap.size, 2, none⟩ (.int .i64 bb.o)).setCell ⟨w1.heap.size, 3, none⟩ (.slice aU' bb.us.length cU')).setCell ⟨w1.heap.size, 4, none⟩ (.slice aG' bb.gs.length cG')).setCell ⟨w1.heap.size, 5, none⟩ (.bool bb.r)).setCell ⟨w1.heap.size, 6, none⟩ (.int .i64 bb.m)) w1.heap.size (.int .i64 bb.u) (.int .i64 bb.g) (.int .i64 bb.o) (.slice aU' bb.us.length cU') (.slice aG' bb.gs.length cG') (.bool bb.r) (.int .i64 bb.m)) := hP4.all _ _ _ _ _ _ _; have HR4 : Hid (R2 w1 (((((((w4.setCell ⟨w1.heap.size, 0, none⟩ (.int .i64 bb.u)).setCell ⟨w1.heap.size, 1, none⟩ (.int .i64 bb.g)).setCell ⟨w1.heap.size, 2, none⟩ (.int .i64 bb.o)).setCell ⟨w1.heap.size, 3, none⟩ (.slice aU' bb.us.length cU')).setCell ⟨w1.heap.size, 4, none⟩ (.slice aG' bb.gs.length cG')).setCell ⟨w1.heap.size, 5, none⟩ (.bool bb.r)).setCell ⟨w1.heap.size, 6, none⟩ (.int .i64 bb.m)) bb aU' cU' aG' cG') := hE.r.all (Nat.le_refl _) (fun A e => by have := HN4.out.1 A e; omega) (fun A e => by have := HN4.out.2 A e; omega) _ _ _ _ _ _ _; obtain ⟨rl, r0, r1, r2, r3, r4, r5, r6, rz⟩ := hP4; have rz0 := rz 0; have rz1 := rz 1; have rz2 := rz 2; have rz3 := rz 3; have rz4 := rz 4; have rz5 := rz 5; have rz6 := rz 6; clear rz hE)
      all_goals
        generalize (((((((w4.setCell ⟨w1.heap.size, 0, none⟩ (.int .i64 bb.u)).setCell ⟨w1.heap.size, 1, none⟩ (.int .i64 bb.g)).setCell ⟨w1.heap.size, 2, none⟩ (.int .i64 bb.o)).setCell ⟨w1.heap.size, 3, none⟩ (.slice aU' bb.us.length cU')).setCell ⟨w1.heap.size, 4, none⟩ (.slice aG' bb.gs.length cG')).setCell ⟨w1.heap.size, 5, none⟩ (.bool bb.r)).setCell ⟨w1.heap.size, 6, none⟩ (.int .i64 bb.m)) = w5 at HP4 HR4 ⊢
        clear pl p0 p1 p2 p3 p4 p5 p6 pz0 pz1 pz2 pz3 pz4 pz5 pz6 rl r0 r1 r2 r3 r4 r5 r6 rz0 rz1 rz2 rz3 rz4 rz5 rz6 hex hw5 d1 d2 d3
        go_wp2
        go_roundw
        case rel => exact ⟨k + 1, aU', cU', aG', cG', by omega, by go_num, by rw [HBE.out]; exact HP4, by rw [HBE.out]; exact HR4, HN4⟩
        case measure => simp [intOf]; omega
    · have hE : k = NN := by omega
      subst hE
      have hstop : Hid ((¬ 4 * (k : Int) + 1 + 4 ≤ (s.size : Int)) ∨ (4 * (k : Int) + 1 + 4 ≤ (s.size : Int) ∧ ¬ 4 * (k : Int) + 1 < 90)) := (by
        have hi := HI.out k
        by_cases g1 : 4 * k + 5 ≤ s.size
        · exact .inr ⟨by omega, fun g2 => hgo (hi.2 ⟨g1, by omega⟩)⟩
        · exact .inl (by omega))
      generalize fB s k = RS at hend hP hR lu lg
      have HT : Hid (∀ w', Below wr.heap.size wr w' → Calls Tryz.prog 13 #[.agg #[.int .i64 RS.u, .int .i64 RS.g, .int .i64 RS.o, .slice aU RS.us.length cU, .slice aG RS.gs.length cG, .bool RS.r, .int .i64 RS.m]] w' fun e w'' => e = .returned (.string (alT RS)) ∧ Below w'.heap.size w' w'') := (fun w' hb => sAclBytes_any RS.u RS.g RS.o aU RS.us.length cU aG RS.gs.length cG RS.r RS.m RS.us RS.gs (by omega) (by omega) w' (hR.out.prsU.below hb) (hR.out.prsG.below hb))
      have hYr : Hid (W8 wr w.heap.size) := hY1.out.below hR.out.bel
      have hWr : Hid (Below w.heap.size w wr) := Below.on hW1.out hR.out.bel
      have HNA : Hid (New w wr aU RS.us.length RS.us aG RS.gs.length RS.gs) := hR.out.new.pre hW1.out
      have HNE : Hid ((∀ A, aU = some A → w.heap.size ≠ A.block) ∧ (∀ A, aG = some A → w.heap.size ≠ A.block)) := ⟨fun A e => by have := hN.out.1 A e; have := hY1.out.lt; omega, fun A e => by have := hN.out.2 A e; have := hY1.out.lt; omega⟩
      clear hgo HI HFN HFL HNS hR hN hY1 hW1 hP1 hR1 hk hbt e0 h0' h2 h8'
      rcases hstop.out with q | ⟨q, q2⟩
      all_goals (
        clear hstop
        obtain ⟨pl, p0, p1, p2, p3, p4, p5, p6, pz⟩ := hP.out
        have pz0 := pz 0
        have pz1 := pz 1
        have pz2 := pz 2
        have pz3 := pz 3
        have pz4 := pz 4
        have pz5 := pz 5
        have pz6 := pz 6
        clear pz
        rcases hend.out with ⟨h1, h2⟩ | ⟨h1, h2⟩
        · rw [h1] at HT
          have hO2 : Hid _ := h2
          clear h1 h2 hend
          go_wp2_with fail
          refine (HT.out _ (Below.refl _ _)).mono ?_
          rintro e w4 ⟨rfl, hb4⟩
          have hP4 : Hid (W7 w4 w1.heap.size (.int .i64 RS.u) (.int .i64 RS.g) (.int .i64 RS.o) (.slice aU RS.us.length cU) (.slice aG RS.gs.length cG) (.bool RS.r) (.int .i64 RS.m)) := hP.out.below hb4
          have hY4 : Hid (W8 w4 w.heap.size) := hYr.out.below hb4
          have HNZ : Hid (New w w4 aU RS.us.length RS.us aG RS.gs.length RS.gs) := HNA.out.on hb4
          clear pl p0 p1 p2 p3 p4 p5 p6 pz0 pz1 pz2 pz3 pz4 pz5 pz6 hb4 HT
          obtain ⟨pl, p0, p1, p2, p3, p4, p5, p6, pz⟩ := hP4.out
          have pz0 := pz 0
          have pz1 := pz 1
          have pz2 := pz 2
          have pz3 := pz 3
          have pz4 := pz 4
          have pz5 := pz 5
          have pz6 := pz 6
          clear pz
          obtain ⟨yl, y0, y1, y2, y3, y4, y5, y6, y7, yz⟩ := hY4.out
          have yz0 := yz 0
          have yz1 := yz 1
          have yz2 := yz 2
          have yz3 := yz 3
          have yz4 := yz 4
          have yz5 := yz 5
          have yz6 := yz 6
          have yz7 := yz 7
          clear yz
          go_wp2
          refine bodyPost_ret (v := .agg #[.int .i64 RS.u, .int .i64 RS.g, .int .i64 RS.o, .slice aU RS.us.length cU, .slice aG RS.gs.length cG, .bool RS.r, .int .i64 RS.m, .int .i64 0]) (by simp [results, Tryz.results16, go_sem, y0, y1, y2, y3, y4, y5, y6, y7]) rfl (answers_of hO2.out rfl rfl ?_)
          repeat (refine New.set ?_ (Nat.le_refl _) HNE.out.1 HNE.out.2)
          exact HNZ.out
        · have e1 : ((alT RS).toList == s.toList) = false := by
            rw [ByteArray.toList_eq, ByteArray.toList_eq]
            exact beq_eq_false_iff_ne.2 (fun e => h1 (by apply ByteArray.ext; apply Array.toList_inj.1; exact e))
          have hO2 : Hid (afO s = illA 3) := h2
          clear h1 h2 hend
          generalize alT RS = TX at HT e1
          go_wp2_with fail
          refine (HT.out _ (Below.refl _ _)).mono ?_
          rintro e w4 ⟨rfl, hb4⟩
          have hY4 : Hid (W8 w4 w.heap.size) := hYr.out.below hb4
          have hW4 : Hid (Below w.heap.size w w4) := Below.on hWr.out hb4
          clear pl p0 p1 p2 p3 p4 p5 p6 pz0 pz1 pz2 pz3 pz4 pz5 pz6 hb4 HT
          obtain ⟨yl, y0, y1, y2, y3, y4, y5, y6, y7, yz⟩ := hY4.out
          have yz0 := yz 0
          have yz1 := yz 1
          have yz2 := yz 2
          have yz3 := yz 3
          have yz4 := yz 4
          have yz5 := yz 5
          have yz6 := yz 6
          have yz7 := yz 7
          clear yz
          go_wp2
          refine bodyPost_ret (v := .agg #[.int .i64 0, .int .i64 0, .int .i64 0, .slice none 0 0, .slice none 0 0, .bool false, .int .i64 0, .int .i64 3]) (by simp [results, Tryz.results16, go_sem, y0, y1, y2, y3, y4, y5, y6, y7]) rfl (answers_ill hO2.out ?_)
          repeat (refine bl_setL ?_ (Nat.le_refl _))
          exact hW4.out)
theorem Src.belowT {a : Option Addr} {len cap : Nat} {g : Nat → Int} {p : Nat} {w w' : World} (h : Src a len cap g p w) (hb : Below w.heap.size w w') : Src a len cap g p w' := h.kept (fun k hk => hb.block k (by have := h.pos; omega))
theorem aclT_small (u g o : Int) (us gs : List (Int × Int)) (r : Bool) (m : Int) : (aclT u g o us gs r m).size ≤ 400 := by
  unfold aclT
  split
  · rename_i h
    obtain ⟨_, _, _, _, n1, n2⟩ := aclB_parts h
    have h1 := aclX_size (u := u) (g := g) n1 n2
    have h2 := bitsS_size m
    have h3 := bitsS_size o
    have e1 : (⟨#[44, 109, 97, 115, 107, 58, 58]⟩ : ByteArray).size = 7 := rfl
    have e2 : (⟨#[44, 111, 116, 104, 101, 114, 58, 58]⟩ : ByteArray).size = 8 := rfl
    unfold aclTx aclY
    split <;> (simp only [ByteArray.size_append, e1, e2]; omega)
  · exact Nat.zero_le _
theorem lits7 (w : World) (a b c d e f g : ByteArray) (t : TypeId) (h : a.size ≤ 1000 ∧ b.size ≤ 1000 ∧ c.size ≤ 1000 ∧ d.size ≤ 1000 ∧ e.size ≤ 1000 ∧ f.size ≤ 1000 ∧ g.size ≤ 1000) : ∀ j, j < 7 → ∃ x, (w.alloc (.cells #[.string a, .string b, .string c, .string d, .string e, .string f, .string g] t)).cell? ⟨w.heap.size, j, none⟩ = some (.string x) ∧ x.size ≤ 1000 := by
  intro j hj
  rw [lit_cell]
  match j, hj with
  | 0, _ => exact ⟨a, rfl, h.1⟩
  | 1, _ => exact ⟨b, rfl, h.2.1⟩
  | 2, _ => exact ⟨c, rfl, h.2.2.1⟩
  | 3, _ => exact ⟨d, rfl, h.2.2.2.1⟩
  | 4, _ => exact ⟨e, rfl, h.2.2.2.2.1⟩
  | 5, _ => exact ⟨f, rfl, h.2.2.2.2.2.1⟩
  | 6, _ => exact ⟨g, rfl, h.2.2.2.2.2.2⟩
set_option maxRecDepth 100000 in
set_option maxHeartbeats 4000000 in
theorem dDrawAclRead_any (a : Option Addr) (len cap : Nat) (g : Nat → Int) (w : World) (hc : Code a len g w.heap.size w) :
    Calls Tryz.prog 8 #[.slice a len cap] w fun e w' => ∃ t, t.size ≤ 8000 ∧ e = .returned (.string t) ∧ Below w.heap.size w w' := by
  go_enter Tryz.func8, Tryz.ntmps8
  go_wp2_with fail
  refine (source_any a len cap g _ hc).mono ?_
  rintro e w1 ⟨rfl, hs1, hb1⟩
  go_wp2_with fail
  refine (drAcl_any a len cap g _ _ hs1).mono ?_
  rintro e w2 ⟨A, aU, cU, aG, cG, rfl, hs2, ho2, hr2, _, hl1, hl2⟩
  obtain ⟨X, R, hu, hg⟩ := hr2
  have hB2 : Below w.heap.size w w2 := ho2.below hb1 (Nat.le_refl _) hb1.size
  have hpu := hu.own.prs
  have hpg := hg.own.prs
  clear hu hg ho2 hb1 hs1 hc
  go_wp2_with fail
  refine (sAclText_any A.u A.g A.o aU _ cU aG _ cG A.r A.m A.us A.gs (by omega) (by omega) _ hpu hpg).mono ?_
  rintro e w3 ⟨rfl, hb3⟩
  have ht := aclT_small A.u A.g A.o A.us A.gs A.r A.m
  generalize aclT A.u A.g A.o A.us A.gs A.r A.m = t at ht ⊢
  have hs3 := hs2.belowT hb3
  have hB3 : Below w.heap.size w w3 := Below.on hB2 hb3
  clear hs2 hB2 hb3 hpu hpg
  go_wp2_with fail
  refine (n_any a len cap g _ _ (by decide) _ hs3).mono ?_
  rintro e w4 ⟨x, rfl, x1, x2, hs4, ho4⟩
  have HB : Hid (Below w.heap.size w w4) := ho4.below hB3 (Nat.le_refl _) hB3.size
  have hpz := hs4.pos
  clear ho4 hs3 hB3
  by_cases e0 : x = 0
  · subst e0
    go_wp2_with fail
    refine (spoil_any a len cap g _ t (by omega) _ hs4).mono ?_
    rintro e w5 ⟨t', ht', rfl, hs5, ho5⟩
    have HB5 : Hid (Below w.heap.size w w5) := ho5.below HB.out (Nat.le_refl _) HB.out.size
    clear ho5 hs5 hs4
    go_wp2
    go_ret
    exact ⟨t', by omega, rfl, HB5.out⟩
  · have b0 : (x == 0) = false := by simpa using e0
    by_cases e1 : x = 1
    · subst e1
      clear e0
      go_wp2_with fail
      refine (pick_any a len cap g _ _ 7 _ (by omega) (by omega) _ (by simp) (by omega) (lits7 _ _ _ _ _ _ _ _ _ (by decide)) (src_alloc hs4 _)).mono ?_
      rintro e w5 ⟨t', ht', rfl, hs5, ho5⟩
      have HB5 : Hid (Below w.heap.size w w5) := ho5.below (HB.out.alloc HB.out.size _) (Nat.le_refl _) (by have := HB.out.size; simp; omega)
      clear ho5 hs5 hs4
      go_wp2
      go_ret
      exact ⟨t', by omega, rfl, HB5.out⟩
    · have b1 : (x == 1) = false := by simpa using e1
      clear hs4
      go_wp2
      go_ret
      exact ⟨t, by omega, rfl, HB.out⟩
set_option maxRecDepth 100000 in
set_option maxHeartbeats 4000000 in
theorem dDrawAclFrom_any (a : Option Addr) (len cap : Nat) (g : Nat → Int) (w : World) (hc : Code a len g w.heap.size w) :
    Calls Tryz.prog 9 #[.slice a len cap] w fun e w' => ∃ t, t.size ≤ 8000 ∧ e = .returned (.string t) ∧ Below w.heap.size w w' := by
  go_enter Tryz.func9, Tryz.ntmps9
  go_wp2_with fail
  refine (source_any a len cap g _ hc).mono ?_
  rintro e w1 ⟨rfl, hs1, hb1⟩
  go_wp2_with fail
  refine (drAcl_any a len cap g _ _ hs1).mono ?_
  rintro e w2 ⟨A, aU, cU, aG, cG, rfl, hs2, ho2, hr2, _, hl1, hl2⟩
  obtain ⟨X, R, hu, hg⟩ := hr2
  have hB2 : Below w.heap.size w w2 := ho2.below hb1 (Nat.le_refl _) hb1.size
  have hpu := hu.own.prs
  have hpg := hg.own.prs
  clear hu hg ho2 hb1 hs1 hc
  go_wp2_with fail
  refine (sAclBytes_any A.u A.g A.o aU _ cU aG _ cG A.r A.m A.us A.gs (by omega) (by omega) _ hpu hpg).mono ?_
  rintro e w3 ⟨rfl, hb3⟩
  have ht : (abT A.u A.g A.o A.us A.gs A.r A.m).size ≤ 65 := by
    have h1 := Y_len A
    have h2 : (abT A.u A.g A.o A.us A.gs A.r A.m).size = A.Y.length := by
      have := alT_Y A
      rw [← this]
      exact Lib.size_eq _
    omega
  generalize abT A.u A.g A.o A.us A.gs A.r A.m = t at ht ⊢
  have hs3 := hs2.belowT hb3
  have hB3 : Below w.heap.size w w3 := Below.on hB2 hb3
  clear hs2 hB2 hb3 hpu hpg
  go_wp2_with fail
  refine (n_any a len cap g _ _ (by decide) _ hs3).mono ?_
  rintro e w4 ⟨x, rfl, x1, x2, hs4, ho4⟩
  have HB : Hid (Below w.heap.size w w4) := ho4.below hB3 (Nat.le_refl _) hB3.size
  have hpz := hs4.pos
  clear ho4 hs3 hB3
  by_cases e0 : x = 0
  · subst e0
    go_wp2_with fail
    refine (spoil_any a len cap g _ t (by omega) _ hs4).mono ?_
    rintro e w5 ⟨t', ht', rfl, hs5, ho5⟩
    have HB5 : Hid (Below w.heap.size w w5) := ho5.below HB.out (Nat.le_refl _) HB.out.size
    clear ho5 hs5 hs4
    go_wp2
    go_ret
    exact ⟨t', by omega, rfl, HB5.out⟩
  · have b0 : (x == 0) = false := by simpa using e0
    by_cases e1 : x = 1
    · subst e1
      clear e0
      go_wp2_with fail
      refine (n_any a len cap g _ _ (by omega) _ hs4).mono ?_
      rintro e w5 ⟨y, rfl, y1, y2, hs5, ho5⟩
      have HB5 : Hid (Below w.heap.size w w5) := ho5.below HB.out (Nat.le_refl _) HB.out.size
      obtain ⟨k, rfl⟩ := Int.eq_ofNat_of_zero_le y1
      have hk : k ≤ t.size := by omega
      have hk' : (k : Int) ≤ (t.size : Int) := by omega
      have hcs := cut_sizeT t 0 k hk (by omega)
      clear ho5 hs5 hs4 y2
      go_wp2
      go_ret
      exact ⟨t.extract 0 k, by omega, rfl, HB5.out⟩
    · have b1 : (x == 1) = false := by simpa using e1
      clear hs4
      go_wp2
      go_ret
      exact ⟨t, by omega, rfl, HB.out⟩
theorem Code.upT {a : Option Addr} {len : Nat} {g : Nat → Int} {w w' : World} (h : Code a len g w.heap.size w) (hb : Below w.heap.size w w') : Code a len g w'.heap.size w' := by
  have h1 := h.below hb
  have hs := hb.size
  exact ⟨h1.1, h1.2.1, fun hl => by
    obtain ⟨b, off, e, hlt, hc⟩ := h1.2.2 hl
    exact ⟨b, off, e, by omega, hc⟩⟩
set_option maxRecDepth 100000 in
set_option maxHeartbeats 2000000 in
theorem dDrawAclText_any (a : Option Addr) (len cap : Nat) (g : Nat → Int) (w : World) (hc : Code a len g w.heap.size w) :
    Calls Tryz.prog 4 #[.slice a len cap] w fun e w' => ∃ (A : Al) (aU : Option Addr) (cU : Nat) (aG : Option Addr) (cG : Nat), e = .returned (.agg #[.int .i64 A.u, .int .i64 A.g, .int .i64 A.o, .slice aU A.us.length cU, .slice aG A.gs.length cG, .bool A.r, .int .i64 A.m]) ∧ AclIs w' A aU aG ∧ Below w.heap.size w w' := by
  have hbA := (bel_alloc w (.cells #[.int .i64 0, .int .i64 0, .int .i64 0, .slice none 0 0, .slice none 0 0, .bool false, .int .i64 0] 25))
  have eA : (w.alloc (.cells #[.int .i64 0, .int .i64 0, .int .i64 0, .slice none 0 0, .slice none 0 0, .bool false, .int .i64 0] 25)).heap.size = w.heap.size + 1 := by simp
  have hR := fr7_new w (.int .i64 0) (.int .i64 0) (.int .i64 0) (.slice none 0 0) (.slice none 0 0) (.bool false) (.int .i64 0) 25
  have HC : Hid _ := hc.upT hbA
  clear hc
  go_enter Tryz.func4, Tryz.ntmps4
  go_wp2_with fail
  refine (source_any a len cap g _ HC.out).mono ?_
  rintro e w1 ⟨rfl, hs1, hb1⟩
  have hR1 := hR.below hb1
  have hB1 : Below w.heap.size w w1 := Below.on hbA hb1
  rw [eA] at hs1
  clear hb1 hR HC hbA
  go_wp2_with fail
  refine (drAcl_any a len cap g _ _ hs1).mono ?_
  rintro e w2 ⟨A, aU, cU, aG, cG, rfl, hs2, ho2, hr2, _, hl1, hl2⟩
  have hD2 : Drn a len cap g (w.heap.size + 1) w w1 w2 A aU cU aG cG := Drn.of hB1 (by omega) hs1.pos hs2 ho2 hr2 hl1 hl2
  have hR2 := hR1.own ho2 (by omega)
  have hp1 := hs1.pos
  have HX : Hid (Fr7 (set7A w2 w.heap.size (.int .i64 A.u) (.int .i64 A.g) (.int .i64 A.o) (.slice aU A.us.length cU) (.slice aG A.gs.length cG) (.bool A.r) (.int .i64 A.m)) w.heap.size (.int .i64 A.u) (.int .i64 A.g) (.int .i64 A.o) (.slice aU A.us.length cU) (.slice aG A.gs.length cG) (.bool A.r) (.int .i64 A.m)) := hR2.sets _ _ _ _ _ _ _
  have HD : Hid (Rws w w1 (set7A w2 w.heap.size (.int .i64 A.u) (.int .i64 A.g) (.int .i64 A.o) (.slice aU A.us.length cU) (.slice aG A.gs.length cG) (.bool A.r) (.int .i64 A.m)) A aU cU aG cG) := hD2.rws.set7 (Nat.le_refl _) (by omega)
  have ZB := hR2.fz
  obtain ⟨z, z0, z1, z2, z3, z4, z5, z6⟩ := hR2.b
  have f0 := ZB 0
  have f1 := ZB 1
  have f2 := ZB 2
  have f3 := ZB 3
  have f4 := ZB 4
  have f5 := ZB 5
  have f6 := ZB 6
  clear hD2 hR2 hs2 ho2 hr2 hR1 hs1 hl1 hl2 ZB hB1
  go_wp2
  obtain ⟨y, y0, y1, y2, y3, y4, y5, y6⟩ := HX.out.b
  unfold set7A at y0 y1 y2 y3 y4 y5 y6
  refine bodyPost_ret (v := .agg #[.int .i64 A.u, .int .i64 A.g, .int .i64 A.o, .slice aU A.us.length cU, .slice aG A.gs.length cG, .bool A.r, .int .i64 A.m]) (by simp [results, Tryz.results4, go_sem, y0, y1, y2, y3, y4, y5, y6]) rfl ?_
  exact ⟨A, aU, cU, aG, cG, rfl, HD.out.is, HD.out.bel⟩
set_option maxRecDepth 100000 in
set_option maxHeartbeats 2000000 in
theorem dDrawAclBytes_any (a : Option Addr) (len cap : Nat) (g : Nat → Int) (w : World) (hc : Code a len g w.heap.size w) :
    Calls Tryz.prog 5 #[.slice a len cap] w fun e w' => ∃ (A : Al) (aU : Option Addr) (cU : Nat) (aG : Option Addr) (cG : Nat), e = .returned (.agg #[.int .i64 A.u, .int .i64 A.g, .int .i64 A.o, .slice aU A.us.length cU, .slice aG A.gs.length cG, .bool A.r, .int .i64 A.m]) ∧ AclIs w' A aU aG ∧ Below w.heap.size w w' := by
  have hbA := (bel_alloc w (.cells #[.int .i64 0, .int .i64 0, .int .i64 0, .slice none 0 0, .slice none 0 0, .bool false, .int .i64 0] 25))
  have eA : (w.alloc (.cells #[.int .i64 0, .int .i64 0, .int .i64 0, .slice none 0 0, .slice none 0 0, .bool false, .int .i64 0] 25)).heap.size = w.heap.size + 1 := by simp
  have hR := fr7_new w (.int .i64 0) (.int .i64 0) (.int .i64 0) (.slice none 0 0) (.slice none 0 0) (.bool false) (.int .i64 0) 25
  have HC : Hid _ := hc.upT hbA
  clear hc
  go_enter Tryz.func5, Tryz.ntmps5
  go_wp2_with fail
  refine (source_any a len cap g _ HC.out).mono ?_
  rintro e w1 ⟨rfl, hs1, hb1⟩
  have hR1 := hR.below hb1
  have hB1 : Below w.heap.size w w1 := Below.on hbA hb1
  rw [eA] at hs1
  clear hb1 hR HC hbA
  go_wp2_with fail
  refine (drAcl_any a len cap g _ _ hs1).mono ?_
  rintro e w2 ⟨A, aU, cU, aG, cG, rfl, hs2, ho2, hr2, _, hl1, hl2⟩
  have hD2 : Drn a len cap g (w.heap.size + 1) w w1 w2 A aU cU aG cG := Drn.of hB1 (by omega) hs1.pos hs2 ho2 hr2 hl1 hl2
  have hR2 := hR1.own ho2 (by omega)
  have hp1 := hs1.pos
  have HX : Hid (Fr7 (set7A w2 w.heap.size (.int .i64 A.u) (.int .i64 A.g) (.int .i64 A.o) (.slice aU A.us.length cU) (.slice aG A.gs.length cG) (.bool A.r) (.int .i64 A.m)) w.heap.size (.int .i64 A.u) (.int .i64 A.g) (.int .i64 A.o) (.slice aU A.us.length cU) (.slice aG A.gs.length cG) (.bool A.r) (.int .i64 A.m)) := hR2.sets _ _ _ _ _ _ _
  have HD : Hid (Rws w w1 (set7A w2 w.heap.size (.int .i64 A.u) (.int .i64 A.g) (.int .i64 A.o) (.slice aU A.us.length cU) (.slice aG A.gs.length cG) (.bool A.r) (.int .i64 A.m)) A aU cU aG cG) := hD2.rws.set7 (Nat.le_refl _) (by omega)
  have ZB := hR2.fz
  obtain ⟨z, z0, z1, z2, z3, z4, z5, z6⟩ := hR2.b
  have f0 := ZB 0
  have f1 := ZB 1
  have f2 := ZB 2
  have f3 := ZB 3
  have f4 := ZB 4
  have f5 := ZB 5
  have f6 := ZB 6
  clear hD2 hR2 hs2 ho2 hr2 hR1 hs1 hl1 hl2 ZB hB1
  go_wp2
  obtain ⟨y, y0, y1, y2, y3, y4, y5, y6⟩ := HX.out.b
  unfold set7A at y0 y1 y2 y3 y4 y5 y6
  refine bodyPost_ret (v := .agg #[.int .i64 A.u, .int .i64 A.g, .int .i64 A.o, .slice aU A.us.length cU, .slice aG A.gs.length cG, .bool A.r, .int .i64 A.m]) (by simp [results, Tryz.results5, go_sem, y0, y1, y2, y3, y4, y5, y6]) rfl ?_
  exact ⟨A, aU, cU, aG, cG, rfl, HD.out.is, HD.out.bel⟩
end Go.Proofs.YtgooanaacebncaaGreatDoor
