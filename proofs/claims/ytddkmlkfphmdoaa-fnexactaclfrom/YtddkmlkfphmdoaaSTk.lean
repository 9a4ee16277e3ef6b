/- An entry of four bytes taken in by the specification: l06Take. -/
import Derived.Test.YtddkmlkfphmdoaaAhdT
import Derived.Test.YtddkmlkfphmdoaaAbM
import Derived.Test.YtddkmlkfphmdoaaNamedRight
import Derived.Deep.Cut
import Derived.BigRegion
namespace Go.Proofs.Ytddkmlkfphmdoaa
open Go.RowKit Go.PlainAid Go.Deep
set_option linter.unusedVariables false
set_option maxRecDepth 100000 in
set_option maxHeartbeats 4000000 in
/-- spec.l06Take, of the owner. -/
theorem sTake_u (w0 w : World) (a : Al) (aU : Option Addr) (cU : Nat) (aG : Option Addr) (cG : Nat) (h : R2 w0 w a aU cU aG cG) (hlu : a.us.length ≤ 100000) (hlg : a.gs.length ≤ 100000) (s : ByteArray) (hs : s.size = 4) (k b h1 l1 : Nat) (b0 : byte s 0 = k) (b1 : byte s 1 = b) (b2 : byte s 2 = h1) (b3 : byte s 3 = l1) (hk : k = 1) :
    Calls Try.prog 30 #[.agg #[.int .i64 a.u, .int .i64 a.g, .int .i64 a.o, .slice aU a.us.length cU, .slice aG a.gs.length cG, .bool a.r, .int .i64 a.m], .string s] w (fun e w' => ∃ aU' cU' aG' cG', e = .returned (alV ({ a with u := (b : Int) }) aU' cU' aG' cG') ∧ EntW w0 w w' a ({ a with u := (b : Int) }) aU cU aG cG aU' cU' aG' cG') := by
  have hlow := h.low
  have hbs := h.bel.size
  have hbt := get_byte s
  have lb : b ≤ 255 := by rw [← b1]; exact byte_le s 1
  have lh : h1 ≤ 255 := by rw [← b2]; exact byte_le s 2
  have ll : l1 ≤ 255 := by rw [← b3]; exact byte_le s 3
  have hP0 : Hid (W7 ((w.alloc (.cells #[.int .i64 a.u, .int .i64 a.g, .int .i64 a.o, .slice aU a.us.length cU, .slice aG a.gs.length cG, .bool a.r, .int .i64 a.m] 29)).alloc (.cells #[.int .i64 0, .int .i64 0, .int .i64 0, .slice none 0 0, .slice none 0 0, .bool false, .int .i64 0] 29)) w.heap.size (.int .i64 a.u) (.int .i64 a.g) (.int .i64 a.o) (.slice aU a.us.length cU) (.slice aG a.gs.length cG) (.bool a.r) (.int .i64 a.m)) := (w7_new w _ _ _ _ _ _ _ 29).below (bel_alloc _ _)
  have hY0 : Hid (W7 ((w.alloc (.cells #[.int .i64 a.u, .int .i64 a.g, .int .i64 a.o, .slice aU a.us.length cU, .slice aG a.gs.length cG, .bool a.r, .int .i64 a.m] 29)).alloc (.cells #[.int .i64 0, .int .i64 0, .int .i64 0, .slice none 0 0, .slice none 0 0, .bool false, .int .i64 0] 29)) (w.heap.size + 1) (.int .i64 0) (.int .i64 0) (.int .i64 0) (.slice none 0 0) (.slice none 0 0) (.bool false) (.int .i64 0)) := (by
    have := w7_new (w.alloc (.cells #[.int .i64 a.u, .int .i64 a.g, .int .i64 a.o, .slice aU a.us.length cU, .slice aG a.gs.length cG, .bool a.r, .int .i64 a.m] 29)) (.int .i64 0) (.int .i64 0) (.int .i64 0) (.slice none 0 0) (.slice none 0 0) (.bool false) (.int .i64 0) 29
    show W7 _ _ _ _ _ _ _ _ _
    simpa using this)
  have hW0 : Hid (Below w.heap.size w ((w.alloc (.cells #[.int .i64 a.u, .int .i64 a.g, .int .i64 a.o, .slice aU a.us.length cU, .slice aG a.gs.length cG, .bool a.r, .int .i64 a.m] 29)).alloc (.cells #[.int .i64 0, .int .i64 0, .int .i64 0, .slice none 0 0, .slice none 0 0, .bool false, .int .i64 0] 29))) := Below.on (bel_alloc _ _) (bel_alloc _ _)
  have HZ0 : Hid (((w.alloc (.cells #[.int .i64 a.u, .int .i64 a.g, .int .i64 a.o, .slice aU a.us.length cU, .slice aG a.gs.length cG, .bool a.r, .int .i64 a.m] 29)).alloc (.cells #[.int .i64 0, .int .i64 0, .int .i64 0, .slice none 0 0, .slice none 0 0, .bool false, .int .i64 0] 29)).heap.size = w.heap.size + 2) := (show _ = _ by simp)
  have HYb : Hid (w0.heap.size ≤ w.heap.size + 1) := (show _ ≤ _ by omega)
  have HYU : Hid (∀ A, aU = some A → w.heap.size + 1 ≠ A.block) := (fun A e => by have := hlow.1 A e; omega)
  have HYG : Hid (∀ A, aG = some A → w.heap.size + 1 ≠ A.block) := (fun A e => by have := hlow.2 A e; omega)
  have HPU : Hid (∀ A, aU = some A → w.heap.size ≠ A.block) := (fun A e => by have := hlow.1 A e; omega)
  have HPG : Hid (∀ A, aG = some A → w.heap.size ≠ A.block) := (fun A e => by have := hlow.2 A e; omega)
  have HBS : Hid (w0.heap.size ≤ w.heap.size) := hbs
  have H : Hid (R2 w0 w a aU cU aG cG) := h
  have HLN : Hid (a.us.length ≤ 100000 ∧ a.gs.length ≤ 100000) := ⟨hlu, hlg⟩
  clear hlow hbs h hlu hlg
  subst hk
  go_enter Try.func30, Try.ntmps30
  go_upto_region 2 with fail
  generalize ((w.alloc (.cells #[.int .i64 a.u, .int .i64 a.g, .int .i64 a.o, .slice aU a.us.length cU, .slice aG a.gs.length cG, .bool a.r, .int .i64 a.m] 29)).alloc (.cells #[.int .i64 0, .int .i64 0, .int .i64 0, .slice none 0 0, .slice none 0 0, .bool false, .int .i64 0] 29)) = wz at hP0 hY0 hW0 HZ0 ⊢
  go_region
  all_goals (
    have hb3 : Below wz.heap.size wz ((wz.alloc (.cells #[.int .i64 (256 * (h1 : Int) + l1), .int .i64 (b : Int)] 54)).drew) := bdC (bel_alloc _ _)
    have hP3 : Hid (W7 ((wz.alloc (.cells #[.int .i64 (256 * (h1 : Int) + l1), .int .i64 (b : Int)] 54)).drew) w.heap.size (.int .i64 a.u) (.int .i64 a.g) (.int .i64 a.o) (.slice aU a.us.length cU) (.slice aG a.gs.length cG) (.bool a.r) (.int .i64 a.m)) := hP0.out.below hb3
    have hY3 : Hid (W7 ((wz.alloc (.cells #[.int .i64 (256 * (h1 : Int) + l1), .int .i64 (b : Int)] 54)).drew) (w.heap.size + 1) (.int .i64 0) (.int .i64 0) (.int .i64 0) (.slice none 0 0) (.slice none 0 0) (.bool false) (.int .i64 0)) := hY0.out.below hb3
    have hW3 : Hid (Below w.heap.size w ((wz.alloc (.cells #[.int .i64 (256 * (h1 : Int) + l1), .int .i64 (b : Int)] 54)).drew)) := Below.on hW0.out hb3
    obtain ⟨x0, x1⟩ := pair_new wz (.int .i64 (256 * (h1 : Int) + l1)) (.int .i64 (b : Int)) 54
    have X0 : Hid (((wz.alloc (.cells #[.int .i64 (256 * (h1 : Int) + l1), .int .i64 (b : Int)] 54)).drew).cell? ⟨wz.heap.size, 0, none⟩ = some (.int .i64 (256 * (h1 : Int) + l1))) := x0
    have X1 : Hid (((wz.alloc (.cells #[.int .i64 (256 * (h1 : Int) + l1), .int .i64 (b : Int)] 54)).drew).cell? ⟨wz.heap.size, 1, none⟩ = some (.int .i64 (b : Int))) := x1
    have HXZ : Hid (wz.heap.size < ((wz.alloc (.cells #[.int .i64 (256 * (h1 : Int) + l1), .int .i64 (b : Int)] 54)).drew).heap.size) := (show wz.heap.size < (wz.alloc (.cells #[.int .i64 (256 * (h1 : Int) + l1), .int .i64 (b : Int)] 54)).heap.size by simp)
    have HXX : Hid (wz.heap.size = w.heap.size + 2) := HZ0
    clear hb3 x0 x1 hP0 hY0 hW0 HZ0
    generalize (wz.alloc (.cells #[.int .i64 (256 * (h1 : Int) + l1), .int .i64 (b : Int)] 54)).drew = w3 at hP3 hY3 hW3 X0 X1 HXZ ⊢
    generalize wz.heap.size = X at X0 X1 HXZ HXX ⊢
    have x0 := X0.out
    have x1 := X1.out
    obtain ⟨pl, p0, p1, p2, p3, p4, p5, p6, pz⟩ := hP3.out
    have pz0 := pz 0
    have pz1 := pz 1
    have pz2 := pz 2
    have pz3 := pz 3
    have pz4 := pz 4
    have pz5 := pz 5
    have pz6 := pz 6
    clear pz
    go_upto_region 17 with fail
    have hP4 : Hid (W7 (w3.setCell ⟨w.heap.size, 0, none⟩ (.int .i64 (b : Int))) w.heap.size (.int .i64 (b : Int)) (.int .i64 a.g) (.int .i64 a.o) (.slice aU a.us.length cU) (.slice aG a.gs.length cG) (.bool a.r) (.int .i64 a.m)) := (W7.set0 hP3.out)
    have hY4 : Hid (W7 (w3.setCell ⟨w.heap.size, 0, none⟩ (.int .i64 (b : Int))) (w.heap.size + 1) (.int .i64 0) (.int .i64 0) (.int .i64 0) (.slice none 0 0) (.slice none 0 0) (.bool false) (.int .i64 0)) := (W7.other hY3.out (by omega))
    have HE : Hid (EntW w0 w (w3.setCell ⟨w.heap.size, 0, none⟩ (.int .i64 (b : Int))) a ({ a with u := (b : Int) }) aU cU aG cG aU cU aG cG) := ⟨(R2.set (H.out.below hW3.out) HBS.out HPU.out HPG.out).as rfl rfl, (ButR.set (ButR.of_below hW3.out) (Nat.le_refl _)), FromR.refl _ _, FromR.refl _ _⟩
    clear hP3 hY3 hW3
    generalize (w3.setCell ⟨w.heap.size, 0, none⟩ (.int .i64 (b : Int))) = w4 at hP4 hY4 HE ⊢
    clear pl p0 p1 p2 p3 p4 p5 p6 pz0 pz1 pz2 pz3 pz4 pz5 pz6 x0 x1
    obtain ⟨pl, p0, p1, p2, p3, p4, p5, p6, pz⟩ := hP4.out
    have pz0 := pz 0
    have pz1 := pz 1
    have pz2 := pz 2
    have pz3 := pz 3
    have pz4 := pz 4
    have pz5 := pz 5
    have pz6 := pz 6
    clear pz
    obtain ⟨yl, y0, y1, y2, y3, y4, y5, y6, yz⟩ := hY4.out
    have yz0 := yz 0
    have yz1 := yz 1
    have yz2 := yz 2
    have yz3 := yz 3
    have yz4 := yz 4
    have yz5 := yz 5
    have yz6 := yz 6
    clear yz
    go_wp2
    refine bodyPost_ret (v := .agg #[.int .i64 (b : Int), .int .i64 a.g, .int .i64 a.o, .slice aU a.us.length cU, .slice aG a.gs.length cG, .bool a.r, .int .i64 a.m]) (by simp [results, Try.results30, go_sem, y0, y1, y2, y3, y4, y5, y6]) rfl ⟨aU, cU, aG, cG, rfl, ?_⟩
    repeat (refine EntW.set ?_ (Nat.le_add_right _ _) HYb.out HYU.out HYG.out)
    exact HE.out)
set_option maxRecDepth 100000 in
set_option maxHeartbeats 4000000 in
/-- spec.l06Take, of a user. -/
theorem sTake_us (w0 w : World) (a : Al) (aU : Option Addr) (cU : Nat) (aG : Option Addr) (cG : Nat) (h : R2 w0 w a aU cU aG cG) (hlu : a.us.length ≤ 100000) (hlg : a.gs.length ≤ 100000) (s : ByteArray) (hs : s.size = 4) (k b h1 l1 : Nat) (b0 : byte s 0 = k) (b1 : byte s 1 = b) (b2 : byte s 2 = h1) (b3 : byte s 3 = l1) (hk : k = 2) :
    Calls Try.prog 30 #[.agg #[.int .i64 a.u, .int .i64 a.g, .int .i64 a.o, .slice aU a.us.length cU, .slice aG a.gs.length cG, .bool a.r, .int .i64 a.m], .string s] w (fun e w' => ∃ aU' cU' aG' cG', e = .returned (alV ({ a with us := a.us ++ [((256 * (h1 : Int) + l1), (b : Int))] }) aU' cU' aG' cG') ∧ EntW w0 w w' a ({ a with us := a.us ++ [((256 * (h1 : Int) + l1), (b : Int))] }) aU cU aG cG aU' cU' aG' cG') := by
  have hlow := h.low
  have hbs := h.bel.size
  have hbt := get_byte s
  have lb : b ≤ 255 := by rw [← b1]; exact byte_le s 1
  have lh : h1 ≤ 255 := by rw [← b2]; exact byte_le s 2
  have ll : l1 ≤ 255 := by rw [← b3]; exact byte_le s 3
  have hP0 : Hid (W7 ((w.alloc (.cells #[.int .i64 a.u, .int .i64 a.g, .int .i64 a.o, .slice aU a.us.length cU, .slice aG a.gs.length cG, .bool a.r, .int .i64 a.m] 29)).alloc (.cells #[.int .i64 0, .int .i64 0, .int .i64 0, .slice none 0 0, .slice none 0 0, .bool false, .int .i64 0] 29)) w.heap.size (.int .i64 a.u) (.int .i64 a.g) (.int .i64 a.o) (.slice aU a.us.length cU) (.slice aG a.gs.length cG) (.bool a.r) (.int .i64 a.m)) := (w7_new w _ _ _ _ _ _ _ 29).below (bel_alloc _ _)
  have hY0 : Hid (W7 ((w.alloc (.cells #[.int .i64 a.u, .int .i64 a.g, .int .i64 a.o, .slice aU a.us.length cU, .slice aG a.gs.length cG, .bool a.r, .int .i64 a.m] 29)).alloc (.cells #[.int .i64 0, .int .i64 0, .int .i64 0, .slice none 0 0, .slice none 0 0, .bool false, .int .i64 0] 29)) (w.heap.size + 1) (.int .i64 0) (.int .i64 0) (.int .i64 0) (.slice none 0 0) (.slice none 0 0) (.bool false) (.int .i64 0)) := (by
    have := w7_new (w.alloc (.cells #[.int .i64 a.u, .int .i64 a.g, .int .i64 a.o, .slice aU a.us.length cU, .slice aG a.gs.length cG, .bool a.r, .int .i64 a.m] 29)) (.int .i64 0) (.int .i64 0) (.int .i64 0) (.slice none 0 0) (.slice none 0 0) (.bool false) (.int .i64 0) 29
    show W7 _ _ _ _ _ _ _ _ _
    simpa using this)
  have hW0 : Hid (Below w.heap.size w ((w.alloc (.cells #[.int .i64 a.u, .int .i64 a.g, .int .i64 a.o, .slice aU a.us.length cU, .slice aG a.gs.length cG, .bool a.r, .int .i64 a.m] 29)).alloc (.cells #[.int .i64 0, .int .i64 0, .int .i64 0, .slice none 0 0, .slice none 0 0, .bool false, .int .i64 0] 29))) := Below.on (bel_alloc _ _) (bel_alloc _ _)
  have HZ0 : Hid (((w.alloc (.cells #[.int .i64 a.u, .int .i64 a.g, .int .i64 a.o, .slice aU a.us.length cU, .slice aG a.gs.length cG, .bool a.r, .int .i64 a.m] 29)).alloc (.cells #[.int .i64 0, .int .i64 0, .int .i64 0, .slice none 0 0, .slice none 0 0, .bool false, .int .i64 0] 29)).heap.size = w.heap.size + 2) := (show _ = _ by simp)
  have HYb : Hid (w0.heap.size ≤ w.heap.size + 1) := (show _ ≤ _ by omega)
  have HYU : Hid (∀ A, aU = some A → w.heap.size + 1 ≠ A.block) := (fun A e => by have := hlow.1 A e; omega)
  have HYG : Hid (∀ A, aG = some A → w.heap.size + 1 ≠ A.block) := (fun A e => by have := hlow.2 A e; omega)
  have HPU : Hid (∀ A, aU = some A → w.heap.size ≠ A.block) := (fun A e => by have := hlow.1 A e; omega)
  have HPG : Hid (∀ A, aG = some A → w.heap.size ≠ A.block) := (fun A e => by have := hlow.2 A e; omega)
  have HBS : Hid (w0.heap.size ≤ w.heap.size) := hbs
  have H : Hid (R2 w0 w a aU cU aG cG) := h
  have HLN : Hid (a.us.length ≤ 100000 ∧ a.gs.length ≤ 100000) := ⟨hlu, hlg⟩
  clear hlow hbs h hlu hlg
  subst hk
  go_enter Try.func30, Try.ntmps30
  go_upto_region 2 with fail
  generalize ((w.alloc (.cells #[.int .i64 a.u, .int .i64 a.g, .int .i64 a.o, .slice aU a.us.length cU, .slice aG a.gs.length cG, .bool a.r, .int .i64 a.m] 29)).alloc (.cells #[.int .i64 0, .int .i64 0, .int .i64 0, .slice none 0 0, .slice none 0 0, .bool false, .int .i64 0] 29)) = wz at hP0 hY0 hW0 HZ0 ⊢
  go_region
  all_goals (
    have hb3 : Below wz.heap.size wz ((wz.alloc (.cells #[.int .i64 (256 * (h1 : Int) + l1), .int .i64 (b : Int)] 54)).drew) := bdC (bel_alloc _ _)
    have hP3 : Hid (W7 ((wz.alloc (.cells #[.int .i64 (256 * (h1 : Int) + l1), .int .i64 (b : Int)] 54)).drew) w.heap.size (.int .i64 a.u) (.int .i64 a.g) (.int .i64 a.o) (.slice aU a.us.length cU) (.slice aG a.gs.length cG) (.bool a.r) (.int .i64 a.m)) := hP0.out.below hb3
    have hY3 : Hid (W7 ((wz.alloc (.cells #[.int .i64 (256 * (h1 : Int) + l1), .int .i64 (b : Int)] 54)).drew) (w.heap.size + 1) (.int .i64 0) (.int .i64 0) (.int .i64 0) (.slice none 0 0) (.slice none 0 0) (.bool false) (.int .i64 0)) := hY0.out.below hb3
    have hW3 : Hid (Below w.heap.size w ((wz.alloc (.cells #[.int .i64 (256 * (h1 : Int) + l1), .int .i64 (b : Int)] 54)).drew)) := Below.on hW0.out hb3
    obtain ⟨x0, x1⟩ := pair_new wz (.int .i64 (256 * (h1 : Int) + l1)) (.int .i64 (b : Int)) 54
    have X0 : Hid (((wz.alloc (.cells #[.int .i64 (256 * (h1 : Int) + l1), .int .i64 (b : Int)] 54)).drew).cell? ⟨wz.heap.size, 0, none⟩ = some (.int .i64 (256 * (h1 : Int) + l1))) := x0
    have X1 : Hid (((wz.alloc (.cells #[.int .i64 (256 * (h1 : Int) + l1), .int .i64 (b : Int)] 54)).drew).cell? ⟨wz.heap.size, 1, none⟩ = some (.int .i64 (b : Int))) := x1
    have HXZ : Hid (wz.heap.size < ((wz.alloc (.cells #[.int .i64 (256 * (h1 : Int) + l1), .int .i64 (b : Int)] 54)).drew).heap.size) := (show wz.heap.size < (wz.alloc (.cells #[.int .i64 (256 * (h1 : Int) + l1), .int .i64 (b : Int)] 54)).heap.size by simp)
    have HXX : Hid (wz.heap.size = w.heap.size + 2) := HZ0
    clear hb3 x0 x1 hP0 hY0 hW0 HZ0
    generalize (wz.alloc (.cells #[.int .i64 (256 * (h1 : Int) + l1), .int .i64 (b : Int)] 54)).drew = w3 at hP3 hY3 hW3 X0 X1 HXZ ⊢
    generalize wz.heap.size = X at X0 X1 HXZ HXX ⊢
    have x0 := X0.out
    have x1 := X1.out
    obtain ⟨a', c', w4, hr, hR4, hsz4, hk4, hf4⟩ := (H.out.below hW3.out).addU (256 * (h1 : Int) + l1) (b : Int) (by have := HLN.out.1; omega)
    generalize hGL : (a.us ++ [((256 * (h1 : Int) + l1), (b : Int))]).length = GL at hr
    have HGL : Hid ((a.us ++ [((256 * (h1 : Int) + l1), (b : Int))]).length = GL) := hGL
    have hP4a : W7 w4 w.heap.size (.int .i64 a.u) (.int .i64 a.g) (.int .i64 a.o) (.slice aU a.us.length cU) (.slice aG a.gs.length cG) (.bool a.r) (.int .i64 a.m) := hP3.out.keep hsz4 (hk4 _ hP3.out.lt HPU.out)
    have hY4a : W7 w4 (w.heap.size + 1) (.int .i64 0) (.int .i64 0) (.int .i64 0) (.slice none 0 0) (.slice none 0 0) (.bool false) (.int .i64 0) := hY3.out.keep hsz4 (hk4 _ hY3.out.lt HYU.out)
    have HPN : ∀ A, a' = some A → w.heap.size ≠ A.block := fun A e => by
      rcases hf4 A e with ⟨A2, e2, e3⟩ | h2
      · rw [e3]; exact HPU.out A2 e2
      · have h3 := HXX.out
        have h4 := HXZ.out
        omega
    have HYN : Hid (∀ A, a' = some A → w.heap.size + 1 ≠ A.block) := (fun A e => by
      rcases hf4 A e with ⟨A2, e2, e3⟩ | h2
      · rw [e3]; exact HYU.out A2 e2
      · have h3 := HXX.out
        have h4 := HXZ.out
        omega)
    have hP4 : Hid (W7 (w4.setCell ⟨w.heap.size, 3, none⟩ (.slice a' GL c')) w.heap.size (.int .i64 a.u) (.int .i64 a.g) (.int .i64 a.o) (.slice a' GL c') (.slice aG a.gs.length cG) (.bool a.r) (.int .i64 a.m)) := hP4a.set3
    have hY4 : Hid (W7 (w4.setCell ⟨w.heap.size, 3, none⟩ (.slice a' GL c')) (w.heap.size + 1) (.int .i64 0) (.int .i64 0) (.int .i64 0) (.slice none 0 0) (.slice none 0 0) (.bool false) (.int .i64 0)) := hY4a.other (by omega)
    have HF5 : FromR aU a' w := fun A e => (hf4 A e).imp id (fun h2 => by have h3 := HXX.out; have h4 := HXZ.out; omega)
    have HE : Hid (EntW w0 w (w4.setCell ⟨w.heap.size, 3, none⟩ (.slice a' GL c')) a ({ a with us := a.us ++ [((256 * (h1 : Int) + l1), (b : Int))] }) aU cU aG cG a' c' aG cG) := ⟨hR4.set HBS.out HPN HPG.out, ButR.set (ButR.trans (ButR.of_below hW3.out) ⟨hsz4, fun b hb n1 n2 => hk4 b hb n1⟩) (Nat.le_refl _), HF5, FromR.refl _ _⟩
    have HRR : (Builtin.append_ #[27, 27] 27 #[.slice aU a.us.length cU, .slice (some ⟨w3.heap.size, 0, none⟩) 1 1]).run Try.prog (w3.alloc (.cells #[.int .i64 (256 * (h1 : Int) + l1), .int .i64 (b : Int)] 54)) = .ok (.slice a' GL c') w4 := hr
    obtain ⟨rl, r0, r1, r2, r3, r4, r5, r6, rz⟩ := hP4a
    have rz3 := rz 3
    obtain ⟨pl, p0, p1, p2, p3, p4, p5, p6, pz⟩ := hP3.out
    have pz0 := pz 0
    have pz1 := pz 1
    have pz2 := pz 2
    have pz3 := pz 3
    have pz4 := pz 4
    have pz5 := pz 5
    have pz6 := pz 6
    clear pz
    clear hr hGL HPN HF5 hk4 hf4 hR4 hY4a rz
    go_upto_region 17 with (at_builtin; refine wpList_append_runT _ rfl (.tmp 29) (.tmp 31) 27 27 rfl _ _ _ _ rfl rfl HRR ?_)
    clear hP3 hY3 hW3 HRR
    generalize (w4.setCell ⟨w.heap.size, 3, none⟩ (.slice a' GL c')) = w5 at hP4 hY4 HE ⊢
    clear rl r0 r1 r2 r3 r4 r5 r6 rz3
    clear pl p0 p1 p2 p3 p4 p5 p6 pz0 pz1 pz2 pz3 pz4 pz5 pz6 x0 x1
    obtain ⟨pl, p0, p1, p2, p3, p4, p5, p6, pz⟩ := hP4.out
    have pz0 := pz 0
    have pz1 := pz 1
    have pz2 := pz 2
    have pz3 := pz 3
    have pz4 := pz 4
    have pz5 := pz 5
    have pz6 := pz 6
    clear pz
    obtain ⟨yl, y0, y1, y2, y3, y4, y5, y6, yz⟩ := hY4.out
    have yz0 := yz 0
    have yz1 := yz 1
    have yz2 := yz 2
    have yz3 := yz 3
    have yz4 := yz 4
    have yz5 := yz 5
    have yz6 := yz 6
    clear yz
    go_wp2
    refine bodyPost_ret (v := .agg #[.int .i64 a.u, .int .i64 a.g, .int .i64 a.o, .slice a' GL c', .slice aG a.gs.length cG, .bool a.r, .int .i64 a.m]) (by simp [results, Try.results30, go_sem, y0, y1, y2, y3, y4, y5, y6]) rfl ⟨a', c', aG, cG, by rw [← HGL.out]; rfl, ?_⟩
    repeat (refine EntW.set ?_ (Nat.le_add_right _ _) HYb.out HYN.out HYG.out)
    exact HE.out)
set_option maxRecDepth 100000 in
set_option maxHeartbeats 4000000 in
/-- spec.l06Take, of the group. -/
theorem sTake_g (w0 w : World) (a : Al) (aU : Option Addr) (cU : Nat) (aG : Option Addr) (cG : Nat) (h : R2 w0 w a aU cU aG cG) (hlu : a.us.length ≤ 100000) (hlg : a.gs.length ≤ 100000) (s : ByteArray) (hs : s.size = 4) (k b h1 l1 : Nat) (b0 : byte s 0 = k) (b1 : byte s 1 = b) (b2 : byte s 2 = h1) (b3 : byte s 3 = l1) (hk : k = 4) :
    Calls Try.prog 30 #[.agg #[.int .i64 a.u, .int .i64 a.g, .int .i64 a.o, .slice aU a.us.length cU, .slice aG a.gs.length cG, .bool a.r, .int .i64 a.m], .string s] w (fun e w' => ∃ aU' cU' aG' cG', e = .returned (alV ({ a with g := (b : Int) }) aU' cU' aG' cG') ∧ EntW w0 w w' a ({ a with g := (b : Int) }) aU cU aG cG aU' cU' aG' cG') := by
  have hlow := h.low
  have hbs := h.bel.size
  have hbt := get_byte s
  have lb : b ≤ 255 := by rw [← b1]; exact byte_le s 1
  have lh : h1 ≤ 255 := by rw [← b2]; exact byte_le s 2
  have ll : l1 ≤ 255 := by rw [← b3]; exact byte_le s 3
  have hP0 : Hid (W7 ((w.alloc (.cells #[.int .i64 a.u, .int .i64 a.g, .int .i64 a.o, .slice aU a.us.length cU, .slice aG a.gs.length cG, .bool a.r, .int .i64 a.m] 29)).alloc (.cells #[.int .i64 0, .int .i64 0, .int .i64 0, .slice none 0 0, .slice none 0 0, .bool false, .int .i64 0] 29)) w.heap.size (.int .i64 a.u) (.int .i64 a.g) (.int .i64 a.o) (.slice aU a.us.length cU) (.slice aG a.gs.length cG) (.bool a.r) (.int .i64 a.m)) := (w7_new w _ _ _ _ _ _ _ 29).below (bel_alloc _ _)
  have hY0 : Hid (W7 ((w.alloc (.cells #[.int .i64 a.u, .int .i64 a.g, .int .i64 a.o, .slice aU a.us.length cU, .slice aG a.gs.length cG, .bool a.r, .int .i64 a.m] 29)).alloc (.cells #[.int .i64 0, .int .i64 0, .int .i64 0, .slice none 0 0, .slice none 0 0, .bool false, .int .i64 0] 29)) (w.heap.size + 1) (.int .i64 0) (.int .i64 0) (.int .i64 0) (.slice none 0 0) (.slice none 0 0) (.bool false) (.int .i64 0)) := (by
    have := w7_new (w.alloc (.cells #[.int .i64 a.u, .int .i64 a.g, .int .i64 a.o, .slice aU a.us.length cU, .slice aG a.gs.length cG, .bool a.r, .int .i64 a.m] 29)) (.int .i64 0) (.int .i64 0) (.int .i64 0) (.slice none 0 0) (.slice none 0 0) (.bool false) (.int .i64 0) 29
    show W7 _ _ _ _ _ _ _ _ _
    simpa using this)
  have hW0 : Hid (Below w.heap.size w ((w.alloc (.cells #[.int .i64 a.u, .int .i64 a.g, .int .i64 a.o, .slice aU a.us.length cU, .slice aG a.gs.length cG, .bool a.r, .int .i64 a.m] 29)).alloc (.cells #[.int .i64 0, .int .i64 0, .int .i64 0, .slice none 0 0, .slice none 0 0, .bool false, .int .i64 0] 29))) := Below.on (bel_alloc _ _) (bel_alloc _ _)
  have HZ0 : Hid (((w.alloc (.cells #[.int .i64 a.u, .int .i64 a.g, .int .i64 a.o, .slice aU a.us.length cU, .slice aG a.gs.length cG, .bool a.r, .int .i64 a.m] 29)).alloc (.cells #[.int .i64 0, .int .i64 0, .int .i64 0, .slice none 0 0, .slice none 0 0, .bool false, .int .i64 0] 29)).heap.size = w.heap.size + 2) := (show _ = _ by simp)
  have HYb : Hid (w0.heap.size ≤ w.heap.size + 1) := (show _ ≤ _ by omega)
  have HYU : Hid (∀ A, aU = some A → w.heap.size + 1 ≠ A.block) := (fun A e => by have := hlow.1 A e; omega)
  have HYG : Hid (∀ A, aG = some A → w.heap.size + 1 ≠ A.block) := (fun A e => by have := hlow.2 A e; omega)
  have HPU : Hid (∀ A, aU = some A → w.heap.size ≠ A.block) := (fun A e => by have := hlow.1 A e; omega)
  have HPG : Hid (∀ A, aG = some A → w.heap.size ≠ A.block) := (fun A e => by have := hlow.2 A e; omega)
  have HBS : Hid (w0.heap.size ≤ w.heap.size) := hbs
  have H : Hid (R2 w0 w a aU cU aG cG) := h
  have HLN : Hid (a.us.length ≤ 100000 ∧ a.gs.length ≤ 100000) := ⟨hlu, hlg⟩
  clear hlow hbs h hlu hlg
  subst hk
  go_enter Try.func30, Try.ntmps30
  go_upto_region 2 with fail
  generalize ((w.alloc (.cells #[.int .i64 a.u, .int .i64 a.g, .int .i64 a.o, .slice aU a.us.length cU, .slice aG a.gs.length cG, .bool a.r, .int .i64 a.m] 29)).alloc (.cells #[.int .i64 0, .int .i64 0, .int .i64 0, .slice none 0 0, .slice none 0 0, .bool false, .int .i64 0] 29)) = wz at hP0 hY0 hW0 HZ0 ⊢
  go_region
  all_goals (
    have hb3 : Below wz.heap.size wz ((wz.alloc (.cells #[.int .i64 (256 * (h1 : Int) + l1), .int .i64 (b : Int)] 54)).drew) := bdC (bel_alloc _ _)
    have hP3 : Hid (W7 ((wz.alloc (.cells #[.int .i64 (256 * (h1 : Int) + l1), .int .i64 (b : Int)] 54)).drew) w.heap.size (.int .i64 a.u) (.int .i64 a.g) (.int .i64 a.o) (.slice aU a.us.length cU) (.slice aG a.gs.length cG) (.bool a.r) (.int .i64 a.m)) := hP0.out.below hb3
    have hY3 : Hid (W7 ((wz.alloc (.cells #[.int .i64 (256 * (h1 : Int) + l1), .int .i64 (b : Int)] 54)).drew) (w.heap.size + 1) (.int .i64 0) (.int .i64 0) (.int .i64 0) (.slice none 0 0) (.slice none 0 0) (.bool false) (.int .i64 0)) := hY0.out.below hb3
    have hW3 : Hid (Below w.heap.size w ((wz.alloc (.cells #[.int .i64 (256 * (h1 : Int) + l1), .int .i64 (b : Int)] 54)).drew)) := Below.on hW0.out hb3
    obtain ⟨x0, x1⟩ := pair_new wz (.int .i64 (256 * (h1 : Int) + l1)) (.int .i64 (b : Int)) 54
    have X0 : Hid (((wz.alloc (.cells #[.int .i64 (256 * (h1 : Int) + l1), .int .i64 (b : Int)] 54)).drew).cell? ⟨wz.heap.size, 0, none⟩ = some (.int .i64 (256 * (h1 : Int) + l1))) := x0
    have X1 : Hid (((wz.alloc (.cells #[.int .i64 (256 * (h1 : Int) + l1), .int .i64 (b : Int)] 54)).drew).cell? ⟨wz.heap.size, 1, none⟩ = some (.int .i64 (b : Int))) := x1
    have HXZ : Hid (wz.heap.size < ((wz.alloc (.cells #[.int .i64 (256 * (h1 : Int) + l1), .int .i64 (b : Int)] 54)).drew).heap.size) := (show wz.heap.size < (wz.alloc (.cells #[.int .i64 (256 * (h1 : Int) + l1), .int .i64 (b : Int)] 54)).heap.size by simp)
    have HXX : Hid (wz.heap.size = w.heap.size + 2) := HZ0
    clear hb3 x0 x1 hP0 hY0 hW0 HZ0
    generalize (wz.alloc (.cells #[.int .i64 (256 * (h1 : Int) + l1), .int .i64 (b : Int)] 54)).drew = w3 at hP3 hY3 hW3 X0 X1 HXZ ⊢
    generalize wz.heap.size = X at X0 X1 HXZ HXX ⊢
    have x0 := X0.out
    have x1 := X1.out
    obtain ⟨pl, p0, p1, p2, p3, p4, p5, p6, pz⟩ := hP3.out
    have pz0 := pz 0
    have pz1 := pz 1
    have pz2 := pz 2
    have pz3 := pz 3
    have pz4 := pz 4
    have pz5 := pz 5
    have pz6 := pz 6
    clear pz
    go_upto_region 17 with fail
    have hP4 : Hid (W7 (w3.setCell ⟨w.heap.size, 1, none⟩ (.int .i64 (b : Int))) w.heap.size (.int .i64 a.u) (.int .i64 (b : Int)) (.int .i64 a.o) (.slice aU a.us.length cU) (.slice aG a.gs.length cG) (.bool a.r) (.int .i64 a.m)) := (W7.set1 hP3.out)
    have hY4 : Hid (W7 (w3.setCell ⟨w.heap.size, 1, none⟩ (.int .i64 (b : Int))) (w.heap.size + 1) (.int .i64 0) (.int .i64 0) (.int .i64 0) (.slice none 0 0) (.slice none 0 0) (.bool false) (.int .i64 0)) := (W7.other hY3.out (by omega))
    have HE : Hid (EntW w0 w (w3.setCell ⟨w.heap.size, 1, none⟩ (.int .i64 (b : Int))) a ({ a with g := (b : Int) }) aU cU aG cG aU cU aG cG) := ⟨(R2.set (H.out.below hW3.out) HBS.out HPU.out HPG.out).as rfl rfl, (ButR.set (ButR.of_below hW3.out) (Nat.le_refl _)), FromR.refl _ _, FromR.refl _ _⟩
    clear hP3 hY3 hW3
    generalize (w3.setCell ⟨w.heap.size, 1, none⟩ (.int .i64 (b : Int))) = w4 at hP4 hY4 HE ⊢
    clear pl p0 p1 p2 p3 p4 p5 p6 pz0 pz1 pz2 pz3 pz4 pz5 pz6 x0 x1
    obtain ⟨pl, p0, p1, p2, p3, p4, p5, p6, pz⟩ := hP4.out
    have pz0 := pz 0
    have pz1 := pz 1
    have pz2 := pz 2
    have pz3 := pz 3
    have pz4 := pz 4
    have pz5 := pz 5
    have pz6 := pz 6
    clear pz
    obtain ⟨yl, y0, y1, y2, y3, y4, y5, y6, yz⟩ := hY4.out
    have yz0 := yz 0
    have yz1 := yz 1
    have yz2 := yz 2
    have yz3 := yz 3
    have yz4 := yz 4
    have yz5 := yz 5
    have yz6 := yz 6
    clear yz
    go_wp2
    refine bodyPost_ret (v := .agg #[.int .i64 a.u, .int .i64 (b : Int), .int .i64 a.o, .slice aU a.us.length cU, .slice aG a.gs.length cG, .bool a.r, .int .i64 a.m]) (by simp [results, Try.results30, go_sem, y0, y1, y2, y3, y4, y5, y6]) rfl ⟨aU, cU, aG, cG, rfl, ?_⟩
    repeat (refine EntW.set ?_ (Nat.le_add_right _ _) HYb.out HYU.out HYG.out)
    exact HE.out)
set_option maxRecDepth 100000 in
set_option maxHeartbeats 4000000 in
/-- spec.l06Take, of a group. -/
theorem sTake_gs (w0 w : World) (a : Al) (aU : Option Addr) (cU : Nat) (aG : Option Addr) (cG : Nat) (h : R2 w0 w a aU cU aG cG) (hlu : a.us.length ≤ 100000) (hlg : a.gs.length ≤ 100000) (s : ByteArray) (hs : s.size = 4) (k b h1 l1 : Nat) (b0 : byte s 0 = k) (b1 : byte s 1 = b) (b2 : byte s 2 = h1) (b3 : byte s 3 = l1) (hk : k = 8) :
    Calls Try.prog 30 #[.agg #[.int .i64 a.u, .int .i64 a.g, .int .i64 a.o, .slice aU a.us.length cU, .slice aG a.gs.length cG, .bool a.r, .int .i64 a.m], .string s] w (fun e w' => ∃ aU' cU' aG' cG', e = .returned (alV ({ a with gs := a.gs ++ [((256 * (h1 : Int) + l1), (b : Int))] }) aU' cU' aG' cG') ∧ EntW w0 w w' a ({ a with gs := a.gs ++ [((256 * (h1 : Int) + l1), (b : Int))] }) aU cU aG cG aU' cU' aG' cG') := by
  have hlow := h.low
  have hbs := h.bel.size
  have hbt := get_byte s
  have lb : b ≤ 255 := by rw [← b1]; exact byte_le s 1
  have lh : h1 ≤ 255 := by rw [← b2]; exact byte_le s 2
  have ll : l1 ≤ 255 := by rw [← b3]; exact byte_le s 3
  have hP0 : Hid (W7 ((w.alloc (.cells #[.int .i64 a.u, .int .i64 a.g, .int .i64 a.o, .slice aU a.us.length cU, .slice aG a.gs.length cG, .bool a.r, .int .i64 a.m] 29)).alloc (.cells #[.int .i64 0, .int .i64 0, .int .i64 0, .slice none 0 0, .slice none 0 0, .bool false, .int .i64 0] 29)) w.heap.size (.int .i64 a.u) (.int .i64 a.g) (.int .i64 a.o) (.slice aU a.us.length cU) (.slice aG a.gs.length cG) (.bool a.r) (.int .i64 a.m)) := (w7_new w _ _ _ _ _ _ _ 29).below (bel_alloc _ _)
  have hY0 : Hid (W7 ((w.alloc (.cells #[.int .i64 a.u, .int .i64 a.g, .int .i64 a.o, .slice aU a.us.length cU, .slice aG a.gs.length cG, .bool a.r, .int .i64 a.m] 29)).alloc (.cells #[.int .i64 0, .int .i64 0, .int .i64 0, .slice none 0 0, .slice none 0 0, .bool false, .int .i64 0] 29)) (w.heap.size + 1) (.int .i64 0) (.int .i64 0) (.int .i64 0) (.slice none 0 0) (.slice none 0 0) (.bool false) (.int .i64 0)) := (by
    have := w7_new (w.alloc (.cells #[.int .i64 a.u, .int .i64 a.g, .int .i64 a.o, .slice aU a.us.length cU, .slice aG a.gs.length cG, .bool a.r, .int .i64 a.m] 29)) (.int .i64 0) (.int .i64 0) (.int .i64 0) (.slice none 0 0) (.slice none 0 0) (.bool false) (.int .i64 0) 29
    show W7 _ _ _ _ _ _ _ _ _
    simpa using this)
  have hW0 : Hid (Below w.heap.size w ((w.alloc (.cells #[.int .i64 a.u, .int .i64 a.g, .int .i64 a.o, .slice aU a.us.length cU, .slice aG a.gs.length cG, .bool a.r, .int .i64 a.m] 29)).alloc (.cells #[.int .i64 0, .int .i64 0, .int .i64 0, .slice none 0 0, .slice none 0 0, .bool false, .int .i64 0] 29))) := Below.on (bel_alloc _ _) (bel_alloc _ _)
  have HZ0 : Hid (((w.alloc (.cells #[.int .i64 a.u, .int .i64 a.g, .int .i64 a.o, .slice aU a.us.length cU, .slice aG a.gs.length cG, .bool a.r, .int .i64 a.m] 29)).alloc (.cells #[.int .i64 0, .int .i64 0, .int .i64 0, .slice none 0 0, .slice none 0 0, .bool false, .int .i64 0] 29)).heap.size = w.heap.size + 2) := (show _ = _ by simp)
  have HYb : Hid (w0.heap.size ≤ w.heap.size + 1) := (show _ ≤ _ by omega)
  have HYU : Hid (∀ A, aU = some A → w.heap.size + 1 ≠ A.block) := (fun A e => by have := hlow.1 A e; omega)
  have HYG : Hid (∀ A, aG = some A → w.heap.size + 1 ≠ A.block) := (fun A e => by have := hlow.2 A e; omega)
  have HPU : Hid (∀ A, aU = some A → w.heap.size ≠ A.block) := (fun A e => by have := hlow.1 A e; omega)
  have HPG : Hid (∀ A, aG = some A → w.heap.size ≠ A.block) := (fun A e => by have := hlow.2 A e; omega)
  have HBS : Hid (w0.heap.size ≤ w.heap.size) := hbs
  have H : Hid (R2 w0 w a aU cU aG cG) := h
  have HLN : Hid (a.us.length ≤ 100000 ∧ a.gs.length ≤ 100000) := ⟨hlu, hlg⟩
  clear hlow hbs h hlu hlg
  subst hk
  go_enter Try.func30, Try.ntmps30
  go_upto_region 2 with fail
  generalize ((w.alloc (.cells #[.int .i64 a.u, .int .i64 a.g, .int .i64 a.o, .slice aU a.us.length cU, .slice aG a.gs.length cG, .bool a.r, .int .i64 a.m] 29)).alloc (.cells #[.int .i64 0, .int .i64 0, .int .i64 0, .slice none 0 0, .slice none 0 0, .bool false, .int .i64 0] 29)) = wz at hP0 hY0 hW0 HZ0 ⊢
  go_region
  all_goals (
    have hb3 : Below wz.heap.size wz ((wz.alloc (.cells #[.int .i64 (256 * (h1 : Int) + l1), .int .i64 (b : Int)] 54)).drew) := bdC (bel_alloc _ _)
    have hP3 : Hid (W7 ((wz.alloc (.cells #[.int .i64 (256 * (h1 : Int) + l1), .int .i64 (b : Int)] 54)).drew) w.heap.size (.int .i64 a.u) (.int .i64 a.g) (.int .i64 a.o) (.slice aU a.us.length cU) (.slice aG a.gs.length cG) (.bool a.r) (.int .i64 a.m)) := hP0.out.below hb3
    have hY3 : Hid (W7 ((wz.alloc (.cells #[.int .i64 (256 * (h1 : Int) + l1), .int .i64 (b : Int)] 54)).drew) (w.heap.size + 1) (.int .i64 0) (.int .i64 0) (.int .i64 0) (.slice none 0 0) (.slice none 0 0) (.bool false) (.int .i64 0)) := hY0.out.below hb3
    have hW3 : Hid (Below w.heap.size w ((wz.alloc (.cells #[.int .i64 (256 * (h1 : Int) + l1), .int .i64 (b : Int)] 54)).drew)) := Below.on hW0.out hb3
    obtain ⟨x0, x1⟩ := pair_new wz (.int .i64 (256 * (h1 : Int) + l1)) (.int .i64 (b : Int)) 54
    have X0 : Hid (((wz.alloc (.cells #[.int .i64 (256 * (h1 : Int) + l1), .int .i64 (b : Int)] 54)).drew).cell? ⟨wz.heap.size, 0, none⟩ = some (.int .i64 (256 * (h1 : Int) + l1))) := x0
    have X1 : Hid (((wz.alloc (.cells #[.int .i64 (256 * (h1 : Int) + l1), .int .i64 (b : Int)] 54)).drew).cell? ⟨wz.heap.size, 1, none⟩ = some (.int .i64 (b : Int))) := x1
    have HXZ : Hid (wz.heap.size < ((wz.alloc (.cells #[.int .i64 (256 * (h1 : Int) + l1), .int .i64 (b : Int)] 54)).drew).heap.size) := (show wz.heap.size < (wz.alloc (.cells #[.int .i64 (256 * (h1 : Int) + l1), .int .i64 (b : Int)] 54)).heap.size by simp)
    have HXX : Hid (wz.heap.size = w.heap.size + 2) := HZ0
    clear hb3 x0 x1 hP0 hY0 hW0 HZ0
    generalize (wz.alloc (.cells #[.int .i64 (256 * (h1 : Int) + l1), .int .i64 (b : Int)] 54)).drew = w3 at hP3 hY3 hW3 X0 X1 HXZ ⊢
    generalize wz.heap.size = X at X0 X1 HXZ HXX ⊢
    have x0 := X0.out
    have x1 := X1.out
    obtain ⟨a', c', w4, hr, hR4, hsz4, hk4, hf4⟩ := (H.out.below hW3.out).addG (256 * (h1 : Int) + l1) (b : Int) (by have := HLN.out.2; omega)
    generalize hGL : (a.gs ++ [((256 * (h1 : Int) + l1), (b : Int))]).length = GL at hr
    have HGL : Hid ((a.gs ++ [((256 * (h1 : Int) + l1), (b : Int))]).length = GL) := hGL
    have hP4a : W7 w4 w.heap.size (.int .i64 a.u) (.int .i64 a.g) (.int .i64 a.o) (.slice aU a.us.length cU) (.slice aG a.gs.length cG) (.bool a.r) (.int .i64 a.m) := hP3.out.keep hsz4 (hk4 _ hP3.out.lt HPG.out)
    have hY4a : W7 w4 (w.heap.size + 1) (.int .i64 0) (.int .i64 0) (.int .i64 0) (.slice none 0 0) (.slice none 0 0) (.bool false) (.int .i64 0) := hY3.out.keep hsz4 (hk4 _ hY3.out.lt HYG.out)
    have HPN : ∀ A, a' = some A → w.heap.size ≠ A.block := fun A e => by
      rcases hf4 A e with ⟨A2, e2, e3⟩ | h2
      · rw [e3]; exact HPG.out A2 e2
      · have h3 := HXX.out
        have h4 := HXZ.out
        omega
    have HYN : Hid (∀ A, a' = some A → w.heap.size + 1 ≠ A.block) := (fun A e => by
      rcases hf4 A e with ⟨A2, e2, e3⟩ | h2
      · rw [e3]; exact HYG.out A2 e2
      · have h3 := HXX.out
        have h4 := HXZ.out
        omega)
    have hP4 : Hid (W7 (w4.setCell ⟨w.heap.size, 4, none⟩ (.slice a' GL c')) w.heap.size (.int .i64 a.u) (.int .i64 a.g) (.int .i64 a.o) (.slice aU a.us.length cU) (.slice a' GL c') (.bool a.r) (.int .i64 a.m)) := hP4a.set4
    have hY4 : Hid (W7 (w4.setCell ⟨w.heap.size, 4, none⟩ (.slice a' GL c')) (w.heap.size + 1) (.int .i64 0) (.int .i64 0) (.int .i64 0) (.slice none 0 0) (.slice none 0 0) (.bool false) (.int .i64 0)) := hY4a.other (by omega)
    have HF5 : FromR aG a' w := fun A e => (hf4 A e).imp id (fun h2 => by have h3 := HXX.out; have h4 := HXZ.out; omega)
    have HE : Hid (EntW w0 w (w4.setCell ⟨w.heap.size, 4, none⟩ (.slice a' GL c')) a ({ a with gs := a.gs ++ [((256 * (h1 : Int) + l1), (b : Int))] }) aU cU aG cG aU cU a' c') := ⟨hR4.set HBS.out HPU.out HPN, ButR.set (ButR.trans (ButR.of_below hW3.out) ⟨hsz4, fun b hb n1 n2 => hk4 b hb n2⟩) (Nat.le_refl _), FromR.refl _ _, HF5⟩
    have HRR : (Builtin.append_ #[27, 27] 27 #[.slice aG a.gs.length cG, .slice (some ⟨w3.heap.size, 0, none⟩) 1 1]).run Try.prog (w3.alloc (.cells #[.int .i64 (256 * (h1 : Int) + l1), .int .i64 (b : Int)] 54)) = .ok (.slice a' GL c') w4 := hr
    obtain ⟨rl, r0, r1, r2, r3, r4, r5, r6, rz⟩ := hP4a
    have rz4 := rz 4
    obtain ⟨pl, p0, p1, p2, p3, p4, p5, p6, pz⟩ := hP3.out
    have pz0 := pz 0
    have pz1 := pz 1
    have pz2 := pz 2
    have pz3 := pz 3
    have pz4 := pz 4
    have pz5 := pz 5
    have pz6 := pz 6
    clear pz
    clear hr hGL HPN HF5 hk4 hf4 hR4 hY4a rz
    go_upto_region 17 with (at_builtin; refine wpList_append_runT _ rfl (.tmp 41) (.tmp 43) 27 27 rfl _ _ _ _ rfl rfl HRR ?_)
    clear hP3 hY3 hW3 HRR
    generalize (w4.setCell ⟨w.heap.size, 4, none⟩ (.slice a' GL c')) = w5 at hP4 hY4 HE ⊢
    clear rl r0 r1 r2 r3 r4 r5 r6 rz4
    clear pl p0 p1 p2 p3 p4 p5 p6 pz0 pz1 pz2 pz3 pz4 pz5 pz6 x0 x1
    obtain ⟨pl, p0, p1, p2, p3, p4, p5, p6, pz⟩ := hP4.out
    have pz0 := pz 0
    have pz1 := pz 1
    have pz2 := pz 2
    have pz3 := pz 3
    have pz4 := pz 4
    have pz5 := pz 5
    have pz6 := pz 6
    clear pz
    obtain ⟨yl, y0, y1, y2, y3, y4, y5, y6, yz⟩ := hY4.out
    have yz0 := yz 0
    have yz1 := yz 1
    have yz2 := yz 2
    have yz3 := yz 3
    have yz4 := yz 4
    have yz5 := yz 5
    have yz6 := yz 6
    clear yz
    go_wp2
    refine bodyPost_ret (v := .agg #[.int .i64 a.u, .int .i64 a.g, .int .i64 a.o, .slice aU a.us.length cU, .slice a' GL c', .bool a.r, .int .i64 a.m]) (by simp [results, Try.results30, go_sem, y0, y1, y2, y3, y4, y5, y6]) rfl ⟨aU, cU, a', c', by rw [← HGL.out]; rfl, ?_⟩
    repeat (refine EntW.set ?_ (Nat.le_add_right _ _) HYb.out HYU.out HYN.out)
    exact HE.out)
set_option maxRecDepth 100000 in
set_option maxHeartbeats 4000000 in
/-- spec.l06Take, of the mask. -/
theorem sTake_m (w0 w : World) (a : Al) (aU : Option Addr) (cU : Nat) (aG : Option Addr) (cG : Nat) (h : R2 w0 w a aU cU aG cG) (hlu : a.us.length ≤ 100000) (hlg : a.gs.length ≤ 100000) (s : ByteArray) (hs : s.size = 4) (k b h1 l1 : Nat) (b0 : byte s 0 = k) (b1 : byte s 1 = b) (b2 : byte s 2 = h1) (b3 : byte s 3 = l1) (hk : k = 16) :
    Calls Try.prog 30 #[.agg #[.int .i64 a.u, .int .i64 a.g, .int .i64 a.o, .slice aU a.us.length cU, .slice aG a.gs.length cG, .bool a.r, .int .i64 a.m], .string s] w (fun e w' => ∃ aU' cU' aG' cG', e = .returned (alV ({ a with r := true, m := (b : Int) }) aU' cU' aG' cG') ∧ EntW w0 w w' a ({ a with r := true, m := (b : Int) }) aU cU aG cG aU' cU' aG' cG') := by
  have hlow := h.low
  have hbs := h.bel.size
  have hbt := get_byte s
  have lb : b ≤ 255 := by rw [← b1]; exact byte_le s 1
  have lh : h1 ≤ 255 := by rw [← b2]; exact byte_le s 2
  have ll : l1 ≤ 255 := by rw [← b3]; exact byte_le s 3
  have hP0 : Hid (W7 ((w.alloc (.cells #[.int .i64 a.u, .int .i64 a.g, .int .i64 a.o, .slice aU a.us.length cU, .slice aG a.gs.length cG, .bool a.r, .int .i64 a.m] 29)).alloc (.cells #[.int .i64 0, .int .i64 0, .int .i64 0, .slice none 0 0, .slice none 0 0, .bool false, .int .i64 0] 29)) w.heap.size (.int .i64 a.u) (.int .i64 a.g) (.int .i64 a.o) (.slice aU a.us.length cU) (.slice aG a.gs.length cG) (.bool a.r) (.int .i64 a.m)) := (w7_new w _ _ _ _ _ _ _ 29).below (bel_alloc _ _)
  have hY0 : Hid (W7 ((w.alloc (.cells #[.int .i64 a.u, .int .i64 a.g, .int .i64 a.o, .slice aU a.us.length cU, .slice aG a.gs.length cG, .bool a.r, .int .i64 a.m] 29)).alloc (.cells #[.int .i64 0, .int .i64 0, .int .i64 0, .slice none 0 0, .slice none 0 0, .bool false, .int .i64 0] 29)) (w.heap.size + 1) (.int .i64 0) (.int .i64 0) (.int .i64 0) (.slice none 0 0) (.slice none 0 0) (.bool false) (.int .i64 0)) := (by
    have := w7_new (w.alloc (.cells #[.int .i64 a.u, .int .i64 a.g, .int .i64 a.o, .slice aU a.us.length cU, .slice aG a.gs.length cG, .bool a.r, .int .i64 a.m] 29)) (.int .i64 0) (.int .i64 0) (.int .i64 0) (.slice none 0 0) (.slice none 0 0) (.bool false) (.int .i64 0) 29
    show W7 _ _ _ _ _ _ _ _ _
    simpa using this)
  have hW0 : Hid (Below w.heap.size w ((w.alloc (.cells #[.int .i64 a.u, .int .i64 a.g, .int .i64 a.o, .slice aU a.us.length cU, .slice aG a.gs.length cG, .bool a.r, .int .i64 a.m] 29)).alloc (.cells #[.int .i64 0, .int .i64 0, .int .i64 0, .slice none 0 0, .slice none 0 0, .bool false, .int .i64 0] 29))) := Below.on (bel_alloc _ _) (bel_alloc _ _)
  have HZ0 : Hid (((w.alloc (.cells #[.int .i64 a.u, .int .i64 a.g, .int .i64 a.o, .slice aU a.us.length cU, .slice aG a.gs.length cG, .bool a.r, .int .i64 a.m] 29)).alloc (.cells #[.int .i64 0, .int .i64 0, .int .i64 0, .slice none 0 0, .slice none 0 0, .bool false, .int .i64 0] 29)).heap.size = w.heap.size + 2) := (show _ = _ by simp)
  have HYb : Hid (w0.heap.size ≤ w.heap.size + 1) := (show _ ≤ _ by omega)
  have HYU : Hid (∀ A, aU = some A → w.heap.size + 1 ≠ A.block) := (fun A e => by have := hlow.1 A e; omega)
  have HYG : Hid (∀ A, aG = some A → w.heap.size + 1 ≠ A.block) := (fun A e => by have := hlow.2 A e; omega)
  have HPU : Hid (∀ A, aU = some A → w.heap.size ≠ A.block) := (fun A e => by have := hlow.1 A e; omega)
  have HPG : Hid (∀ A, aG = some A → w.heap.size ≠ A.block) := (fun A e => by have := hlow.2 A e; omega)
  have HBS : Hid (w0.heap.size ≤ w.heap.size) := hbs
  have H : Hid (R2 w0 w a aU cU aG cG) := h
  have HLN : Hid (a.us.length ≤ 100000 ∧ a.gs.length ≤ 100000) := ⟨hlu, hlg⟩
  clear hlow hbs h hlu hlg
  subst hk
  go_enter Try.func30, Try.ntmps30
  go_upto_region 2 with fail
  generalize ((w.alloc (.cells #[.int .i64 a.u, .int .i64 a.g, .int .i64 a.o, .slice aU a.us.length cU, .slice aG a.gs.length cG, .bool a.r, .int .i64 a.m] 29)).alloc (.cells #[.int .i64 0, .int .i64 0, .int .i64 0, .slice none 0 0, .slice none 0 0, .bool false, .int .i64 0] 29)) = wz at hP0 hY0 hW0 HZ0 ⊢
  go_region
  all_goals (
    have hb3 : Below wz.heap.size wz ((wz.alloc (.cells #[.int .i64 (256 * (h1 : Int) + l1), .int .i64 (b : Int)] 54)).drew) := bdC (bel_alloc _ _)
    have hP3 : Hid (W7 ((wz.alloc (.cells #[.int .i64 (256 * (h1 : Int) + l1), .int .i64 (b : Int)] 54)).drew) w.heap.size (.int .i64 a.u) (.int .i64 a.g) (.int .i64 a.o) (.slice aU a.us.length cU) (.slice aG a.gs.length cG) (.bool a.r) (.int .i64 a.m)) := hP0.out.below hb3
    have hY3 : Hid (W7 ((wz.alloc (.cells #[.int .i64 (256 * (h1 : Int) + l1), .int .i64 (b : Int)] 54)).drew) (w.heap.size + 1) (.int .i64 0) (.int .i64 0) (.int .i64 0) (.slice none 0 0) (.slice none 0 0) (.bool false) (.int .i64 0)) := hY0.out.below hb3
    have hW3 : Hid (Below w.heap.size w ((wz.alloc (.cells #[.int .i64 (256 * (h1 : Int) + l1), .int .i64 (b : Int)] 54)).drew)) := Below.on hW0.out hb3
    obtain ⟨x0, x1⟩ := pair_new wz (.int .i64 (256 * (h1 : Int) + l1)) (.int .i64 (b : Int)) 54
    have X0 : Hid (((wz.alloc (.cells #[.int .i64 (256 * (h1 : Int) + l1), .int .i64 (b : Int)] 54)).drew).cell? ⟨wz.heap.size, 0, none⟩ = some (.int .i64 (256 * (h1 : Int) + l1))) := x0
    have X1 : Hid (((wz.alloc (.cells #[.int .i64 (256 * (h1 : Int) + l1), .int .i64 (b : Int)] 54)).drew).cell? ⟨wz.heap.size, 1, none⟩ = some (.int .i64 (b : Int))) := x1
    have HXZ : Hid (wz.heap.size < ((wz.alloc (.cells #[.int .i64 (256 * (h1 : Int) + l1), .int .i64 (b : Int)] 54)).drew).heap.size) := (show wz.heap.size < (wz.alloc (.cells #[.int .i64 (256 * (h1 : Int) + l1), .int .i64 (b : Int)] 54)).heap.size by simp)
    have HXX : Hid (wz.heap.size = w.heap.size + 2) := HZ0
    clear hb3 x0 x1 hP0 hY0 hW0 HZ0
    generalize (wz.alloc (.cells #[.int .i64 (256 * (h1 : Int) + l1), .int .i64 (b : Int)] 54)).drew = w3 at hP3 hY3 hW3 X0 X1 HXZ ⊢
    generalize wz.heap.size = X at X0 X1 HXZ HXX ⊢
    have x0 := X0.out
    have x1 := X1.out
    obtain ⟨pl, p0, p1, p2, p3, p4, p5, p6, pz⟩ := hP3.out
    have pz0 := pz 0
    have pz1 := pz 1
    have pz2 := pz 2
    have pz3 := pz 3
    have pz4 := pz 4
    have pz5 := pz 5
    have pz6 := pz 6
    clear pz
    go_upto_region 17 with fail
    have hP4 : Hid (W7 ((w3.setCell ⟨w.heap.size, 5, none⟩ (.bool true)).setCell ⟨w.heap.size, 6, none⟩ (.int .i64 (b : Int))) w.heap.size (.int .i64 a.u) (.int .i64 a.g) (.int .i64 a.o) (.slice aU a.us.length cU) (.slice aG a.gs.length cG) (.bool true) (.int .i64 (b : Int))) := (W7.set6 (W7.set5 hP3.out))
    have hY4 : Hid (W7 ((w3.setCell ⟨w.heap.size, 5, none⟩ (.bool true)).setCell ⟨w.heap.size, 6, none⟩ (.int .i64 (b : Int))) (w.heap.size + 1) (.int .i64 0) (.int .i64 0) (.int .i64 0) (.slice none 0 0) (.slice none 0 0) (.bool false) (.int .i64 0)) := (W7.other (W7.other hY3.out (by omega)) (by omega))
    have HE : Hid (EntW w0 w ((w3.setCell ⟨w.heap.size, 5, none⟩ (.bool true)).setCell ⟨w.heap.size, 6, none⟩ (.int .i64 (b : Int))) a ({ a with r := true, m := (b : Int) }) aU cU aG cG aU cU aG cG) := ⟨(R2.set (R2.set (H.out.below hW3.out) HBS.out HPU.out HPG.out) HBS.out HPU.out HPG.out).as rfl rfl, (ButR.set (ButR.set (ButR.of_below hW3.out) (Nat.le_refl _)) (Nat.le_refl _)), FromR.refl _ _, FromR.refl _ _⟩
    clear hP3 hY3 hW3
    generalize ((w3.setCell ⟨w.heap.size, 5, none⟩ (.bool true)).setCell ⟨w.heap.size, 6, none⟩ (.int .i64 (b : Int))) = w4 at hP4 hY4 HE ⊢
    clear pl p0 p1 p2 p3 p4 p5 p6 pz0 pz1 pz2 pz3 pz4 pz5 pz6 x0 x1
    obtain ⟨pl, p0, p1, p2, p3, p4, p5, p6, pz⟩ := hP4.out
    have pz0 := pz 0
    have pz1 := pz 1
    have pz2 := pz 2
    have pz3 := pz 3
    have pz4 := pz 4
    have pz5 := pz 5
    have pz6 := pz 6
    clear pz
    obtain ⟨yl, y0, y1, y2, y3, y4, y5, y6, yz⟩ := hY4.out
    have yz0 := yz 0
    have yz1 := yz 1
    have yz2 := yz 2
    have yz3 := yz 3
    have yz4 := yz 4
    have yz5 := yz 5
    have yz6 := yz 6
    clear yz
    go_wp2
    refine bodyPost_ret (v := .agg #[.int .i64 a.u, .int .i64 a.g, .int .i64 a.o, .slice aU a.us.length cU, .slice aG a.gs.length cG, .bool true, .int .i64 (b : Int)]) (by simp [results, Try.results30, go_sem, y0, y1, y2, y3, y4, y5, y6]) rfl ⟨aU, cU, aG, cG, rfl, ?_⟩
    repeat (refine EntW.set ?_ (Nat.le_add_right _ _) HYb.out HYU.out HYG.out)
    exact HE.out)
set_option maxRecDepth 100000 in
set_option maxHeartbeats 4000000 in
/-- spec.l06Take, of others. -/
theorem sTake_o (w0 w : World) (a : Al) (aU : Option Addr) (cU : Nat) (aG : Option Addr) (cG : Nat) (h : R2 w0 w a aU cU aG cG) (hlu : a.us.length ≤ 100000) (hlg : a.gs.length ≤ 100000) (s : ByteArray) (hs : s.size = 4) (k b h1 l1 : Nat) (b0 : byte s 0 = k) (b1 : byte s 1 = b) (b2 : byte s 2 = h1) (b3 : byte s 3 = l1) (hk : k = 32) :
    Calls Try.prog 30 #[.agg #[.int .i64 a.u, .int .i64 a.g, .int .i64 a.o, .slice aU a.us.length cU, .slice aG a.gs.length cG, .bool a.r, .int .i64 a.m], .string s] w (fun e w' => ∃ aU' cU' aG' cG', e = .returned (alV ({ a with o := (b : Int) }) aU' cU' aG' cG') ∧ EntW w0 w w' a ({ a with o := (b : Int) }) aU cU aG cG aU' cU' aG' cG') := by
  have hlow := h.low
  have hbs := h.bel.size
  have hbt := get_byte s
  have lb : b ≤ 255 := by rw [← b1]; exact byte_le s 1
  have lh : h1 ≤ 255 := by rw [← b2]; exact byte_le s 2
  have ll : l1 ≤ 255 := by rw [← b3]; exact byte_le s 3
  have hP0 : Hid (W7 ((w.alloc (.cells #[.int .i64 a.u, .int .i64 a.g, .int .i64 a.o, .slice aU a.us.length cU, .slice aG a.gs.length cG, .bool a.r, .int .i64 a.m] 29)).alloc (.cells #[.int .i64 0, .int .i64 0, .int .i64 0, .slice none 0 0, .slice none 0 0, .bool false, .int .i64 0] 29)) w.heap.size (.int .i64 a.u) (.int .i64 a.g) (.int .i64 a.o) (.slice aU a.us.length cU) (.slice aG a.gs.length cG) (.bool a.r) (.int .i64 a.m)) := (w7_new w _ _ _ _ _ _ _ 29).below (bel_alloc _ _)
  have hY0 : Hid (W7 ((w.alloc (.cells #[.int .i64 a.u, .int .i64 a.g, .int .i64 a.o, .slice aU a.us.length cU, .slice aG a.gs.length cG, .bool a.r, .int .i64 a.m] 29)).alloc (.cells #[.int .i64 0, .int .i64 0, .int .i64 0, .slice none 0 0, .slice none 0 0, .bool false, .int .i64 0] 29)) (w.heap.size + 1) (.int .i64 0) (.int .i64 0) (.int .i64 0) (.slice none 0 0) (.slice none 0 0) (.bool false) (.int .i64 0)) := (by
    have := w7_new (w.alloc (.cells #[.int .i64 a.u, .int .i64 a.g, .int .i64 a.o, .slice aU a.us.length cU, .slice aG a.gs.length cG, .bool a.r, .int .i64 a.m] 29)) (.int .i64 0) (.int .i64 0) (.int .i64 0) (.slice none 0 0) (.slice none 0 0) (.bool false) (.int .i64 0) 29
    show W7 _ _ _ _ _ _ _ _ _
    simpa using this)
  have hW0 : Hid (Below w.heap.size w ((w.alloc (.cells #[.int .i64 a.u, .int .i64 a.g, .int .i64 a.o, .slice aU a.us.length cU, .slice aG a.gs.length cG, .bool a.r, .int .i64 a.m] 29)).alloc (.cells #[.int .i64 0, .int .i64 0, .int .i64 0, .slice none 0 0, .slice none 0 0, .bool false, .int .i64 0] 29))) := Below.on (bel_alloc _ _) (bel_alloc _ _)
  have HZ0 : Hid (((w.alloc (.cells #[.int .i64 a.u, .int .i64 a.g, .int .i64 a.o, .slice aU a.us.length cU, .slice aG a.gs.length cG, .bool a.r, .int .i64 a.m] 29)).alloc (.cells #[.int .i64 0, .int .i64 0, .int .i64 0, .slice none 0 0, .slice none 0 0, .bool false, .int .i64 0] 29)).heap.size = w.heap.size + 2) := (show _ = _ by simp)
  have HYb : Hid (w0.heap.size ≤ w.heap.size + 1) := (show _ ≤ _ by omega)
  have HYU : Hid (∀ A, aU = some A → w.heap.size + 1 ≠ A.block) := (fun A e => by have := hlow.1 A e; omega)
  have HYG : Hid (∀ A, aG = some A → w.heap.size + 1 ≠ A.block) := (fun A e => by have := hlow.2 A e; omega)
  have HPU : Hid (∀ A, aU = some A → w.heap.size ≠ A.block) := (fun A e => by have := hlow.1 A e; omega)
  have HPG : Hid (∀ A, aG = some A → w.heap.size ≠ A.block) := (fun A e => by have := hlow.2 A e; omega)
  have HBS : Hid (w0.heap.size ≤ w.heap.size) := hbs
  have H : Hid (R2 w0 w a aU cU aG cG) := h
  have HLN : Hid (a.us.length ≤ 100000 ∧ a.gs.length ≤ 100000) := ⟨hlu, hlg⟩
  clear hlow hbs h hlu hlg
  subst hk
  go_enter Try.func30, Try.ntmps30
  go_upto_region 2 with fail
  generalize ((w.alloc (.cells #[.int .i64 a.u, .int .i64 a.g, .int .i64 a.o, .slice aU a.us.length cU, .slice aG a.gs.length cG, .bool a.r, .int .i64 a.m] 29)).alloc (.cells #[.int .i64 0, .int .i64 0, .int .i64 0, .slice none 0 0, .slice none 0 0, .bool false, .int .i64 0] 29)) = wz at hP0 hY0 hW0 HZ0 ⊢
  go_region
  all_goals (
    have hb3 : Below wz.heap.size wz ((wz.alloc (.cells #[.int .i64 (256 * (h1 : Int) + l1), .int .i64 (b : Int)] 54)).drew) := bdC (bel_alloc _ _)
    have hP3 : Hid (W7 ((wz.alloc (.cells #[.int .i64 (256 * (h1 : Int) + l1), .int .i64 (b : Int)] 54)).drew) w.heap.size (.int .i64 a.u) (.int .i64 a.g) (.int .i64 a.o) (.slice aU a.us.length cU) (.slice aG a.gs.length cG) (.bool a.r) (.int .i64 a.m)) := hP0.out.below hb3
    have hY3 : Hid (W7 ((wz.alloc (.cells #[.int .i64 (256 * (h1 : Int) + l1), .int .i64 (b : Int)] 54)).drew) (w.heap.size + 1) (.int .i64 0) (.int .i64 0) (.int .i64 0) (.slice none 0 0) (.slice none 0 0) (.bool false) (.int .i64 0)) := hY0.out.below hb3
    have hW3 : Hid (Below w.heap.size w ((wz.alloc (.cells #[.int .i64 (256 * (h1 : Int) + l1), .int .i64 (b : Int)] 54)).drew)) := Below.on hW0.out hb3
    obtain ⟨x0, x1⟩ := pair_new wz (.int .i64 (256 * (h1 : Int) + l1)) (.int .i64 (b : Int)) 54
    have X0 : Hid (((wz.alloc (.cells #[.int .i64 (256 * (h1 : Int) + l1), .int .i64 (b : Int)] 54)).drew).cell? ⟨wz.heap.size, 0, none⟩ = some (.int .i64 (256 * (h1 : Int) + l1))) := x0
    have X1 : Hid (((wz.alloc (.cells #[.int .i64 (256 * (h1 : Int) + l1), .int .i64 (b : Int)] 54)).drew).cell? ⟨wz.heap.size, 1, none⟩ = some (.int .i64 (b : Int))) := x1
    have HXZ : Hid (wz.heap.size < ((wz.alloc (.cells #[.int .i64 (256 * (h1 : Int) + l1), .int .i64 (b : Int)] 54)).drew).heap.size) := (show wz.heap.size < (wz.alloc (.cells #[.int .i64 (256 * (h1 : Int) + l1), .int .i64 (b : Int)] 54)).heap.size by simp)
    have HXX : Hid (wz.heap.size = w.heap.size + 2) := HZ0
    clear hb3 x0 x1 hP0 hY0 hW0 HZ0
    generalize (wz.alloc (.cells #[.int .i64 (256 * (h1 : Int) + l1), .int .i64 (b : Int)] 54)).drew = w3 at hP3 hY3 hW3 X0 X1 HXZ ⊢
    generalize wz.heap.size = X at X0 X1 HXZ HXX ⊢
    have x0 := X0.out
    have x1 := X1.out
    obtain ⟨pl, p0, p1, p2, p3, p4, p5, p6, pz⟩ := hP3.out
    have pz0 := pz 0
    have pz1 := pz 1
    have pz2 := pz 2
    have pz3 := pz 3
    have pz4 := pz 4
    have pz5 := pz 5
    have pz6 := pz 6
    clear pz
    go_upto_region 17 with fail
    have hP4 : Hid (W7 (w3.setCell ⟨w.heap.size, 2, none⟩ (.int .i64 (b : Int))) w.heap.size (.int .i64 a.u) (.int .i64 a.g) (.int .i64 (b : Int)) (.slice aU a.us.length cU) (.slice aG a.gs.length cG) (.bool a.r) (.int .i64 a.m)) := (W7.set2 hP3.out)
    have hY4 : Hid (W7 (w3.setCell ⟨w.heap.size, 2, none⟩ (.int .i64 (b : Int))) (w.heap.size + 1) (.int .i64 0) (.int .i64 0) (.int .i64 0) (.slice none 0 0) (.slice none 0 0) (.bool false) (.int .i64 0)) := (W7.other hY3.out (by omega))
    have HE : Hid (EntW w0 w (w3.setCell ⟨w.heap.size, 2, none⟩ (.int .i64 (b : Int))) a ({ a with o := (b : Int) }) aU cU aG cG aU cU aG cG) := ⟨(R2.set (H.out.below hW3.out) HBS.out HPU.out HPG.out).as rfl rfl, (ButR.set (ButR.of_below hW3.out) (Nat.le_refl _)), FromR.refl _ _, FromR.refl _ _⟩
    clear hP3 hY3 hW3
    generalize (w3.setCell ⟨w.heap.size, 2, none⟩ (.int .i64 (b : Int))) = w4 at hP4 hY4 HE ⊢
    clear pl p0 p1 p2 p3 p4 p5 p6 pz0 pz1 pz2 pz3 pz4 pz5 pz6 x0 x1
    obtain ⟨pl, p0, p1, p2, p3, p4, p5, p6, pz⟩ := hP4.out
    have pz0 := pz 0
    have pz1 := pz 1
    have pz2 := pz 2
    have pz3 := pz 3
    have pz4 := pz 4
    have pz5 := pz 5
    have pz6 := pz 6
    clear pz
    obtain ⟨yl, y0, y1, y2, y3, y4, y5, y6, yz⟩ := hY4.out
    have yz0 := yz 0
    have yz1 := yz 1
    have yz2 := yz 2
    have yz3 := yz 3
    have yz4 := yz 4
    have yz5 := yz 5
    have yz6 := yz 6
    clear yz
    go_wp2
    refine bodyPost_ret (v := .agg #[.int .i64 a.u, .int .i64 a.g, .int .i64 (b : Int), .slice aU a.us.length cU, .slice aG a.gs.length cG, .bool a.r, .int .i64 a.m]) (by simp [results, Try.results30, go_sem, y0, y1, y2, y3, y4, y5, y6]) rfl ⟨aU, cU, aG, cG, rfl, ?_⟩
    repeat (refine EntW.set ?_ (Nat.le_add_right _ _) HYb.out HYU.out HYG.out)
    exact HE.out)
set_option maxRecDepth 100000 in
set_option maxHeartbeats 4000000 in
/-- spec.l06Take, of no kind. -/
theorem sTake_no (w0 w : World) (a : Al) (aU : Option Addr) (cU : Nat) (aG : Option Addr) (cG : Nat) (h : R2 w0 w a aU cU aG cG) (hlu : a.us.length ≤ 100000) (hlg : a.gs.length ≤ 100000) (s : ByteArray) (hs : s.size = 4) (k b h1 l1 : Nat) (b0 : byte s 0 = k) (b1 : byte s 1 = b) (b2 : byte s 2 = h1) (b3 : byte s 3 = l1) (n1 : k ≠ 1) (n2 : k ≠ 2) (n4 : k ≠ 4) (n8 : k ≠ 8) (n16 : k ≠ 16) (n32 : k ≠ 32) :
    Calls Try.prog 30 #[.agg #[.int .i64 a.u, .int .i64 a.g, .int .i64 a.o, .slice aU a.us.length cU, .slice aG a.gs.length cG, .bool a.r, .int .i64 a.m], .string s] w (fun e w' => ∃ aU' cU' aG' cG', e = .returned (alV (a) aU' cU' aG' cG') ∧ EntW w0 w w' a (a) aU cU aG cG aU' cU' aG' cG') := by
  have hlow := h.low
  have hbs := h.bel.size
  have hbt := get_byte s
  have lb : b ≤ 255 := by rw [← b1]; exact byte_le s 1
  have lh : h1 ≤ 255 := by rw [← b2]; exact byte_le s 2
  have ll : l1 ≤ 255 := by rw [← b3]; exact byte_le s 3
  have hP0 : Hid (W7 ((w.alloc (.cells #[.int .i64 a.u, .int .i64 a.g, .int .i64 a.o, .slice aU a.us.length cU, .slice aG a.gs.length cG, .bool a.r, .int .i64 a.m] 29)).alloc (.cells #[.int .i64 0, .int .i64 0, .int .i64 0, .slice none 0 0, .slice none 0 0, .bool false, .int .i64 0] 29)) w.heap.size (.int .i64 a.u) (.int .i64 a.g) (.int .i64 a.o) (.slice aU a.us.length cU) (.slice aG a.gs.length cG) (.bool a.r) (.int .i64 a.m)) := (w7_new w _ _ _ _ _ _ _ 29).below (bel_alloc _ _)
  have hY0 : Hid (W7 ((w.alloc (.cells #[.int .i64 a.u, .int .i64 a.g, .int .i64 a.o, .slice aU a.us.length cU, .slice aG a.gs.length cG, .bool a.r, .int .i64 a.m] 29)).alloc (.cells #[.int .i64 0, .int .i64 0, .int .i64 0, .slice none 0 0, .slice none 0 0, .bool false, .int .i64 0] 29)) (w.heap.size + 1) (.int .i64 0) (.int .i64 0) (.int .i64 0) (.slice none 0 0) (.slice none 0 0) (.bool false) (.int .i64 0)) := (by
    have := w7_new (w.alloc (.cells #[.int .i64 a.u, .int .i64 a.g, .int .i64 a.o, .slice aU a.us.length cU, .slice aG a.gs.length cG, .bool a.r, .int .i64 a.m] 29)) (.int .i64 0) (.int .i64 0) (.int .i64 0) (.slice none 0 0) (.slice none 0 0) (.bool false) (.int .i64 0) 29
    show W7 _ _ _ _ _ _ _ _ _
    simpa using this)
  have hW0 : Hid (Below w.heap.size w ((w.alloc (.cells #[.int .i64 a.u, .int .i64 a.g, .int .i64 a.o, .slice aU a.us.length cU, .slice aG a.gs.length cG, .bool a.r, .int .i64 a.m] 29)).alloc (.cells #[.int .i64 0, .int .i64 0, .int .i64 0, .slice none 0 0, .slice none 0 0, .bool false, .int .i64 0] 29))) := Below.on (bel_alloc _ _) (bel_alloc _ _)
  have HZ0 : Hid (((w.alloc (.cells #[.int .i64 a.u, .int .i64 a.g, .int .i64 a.o, .slice aU a.us.length cU, .slice aG a.gs.length cG, .bool a.r, .int .i64 a.m] 29)).alloc (.cells #[.int .i64 0, .int .i64 0, .int .i64 0, .slice none 0 0, .slice none 0 0, .bool false, .int .i64 0] 29)).heap.size = w.heap.size + 2) := (show _ = _ by simp)
  have HYb : Hid (w0.heap.size ≤ w.heap.size + 1) := (show _ ≤ _ by omega)
  have HYU : Hid (∀ A, aU = some A → w.heap.size + 1 ≠ A.block) := (fun A e => by have := hlow.1 A e; omega)
  have HYG : Hid (∀ A, aG = some A → w.heap.size + 1 ≠ A.block) := (fun A e => by have := hlow.2 A e; omega)
  have HPU : Hid (∀ A, aU = some A → w.heap.size ≠ A.block) := (fun A e => by have := hlow.1 A e; omega)
  have HPG : Hid (∀ A, aG = some A → w.heap.size ≠ A.block) := (fun A e => by have := hlow.2 A e; omega)
  have HBS : Hid (w0.heap.size ≤ w.heap.size) := hbs
  have H : Hid (R2 w0 w a aU cU aG cG) := h
  have HLN : Hid (a.us.length ≤ 100000 ∧ a.gs.length ≤ 100000) := ⟨hlu, hlg⟩
  clear hlow hbs h hlu hlg
  have lk : k ≤ 255 := by rw [← b0]; exact byte_le s 0
  have q1 : ((k : Int) == 1) = false := beq_eq_false_iff_ne.2 (by omega)
  have q2 : ((k : Int) == 2) = false := beq_eq_false_iff_ne.2 (by omega)
  have q4 : ((k : Int) == 4) = false := beq_eq_false_iff_ne.2 (by omega)
  have q8 : ((k : Int) == 8) = false := beq_eq_false_iff_ne.2 (by omega)
  have q16 : ((k : Int) == 16) = false := beq_eq_false_iff_ne.2 (by omega)
  have q32 : ((k : Int) == 32) = false := beq_eq_false_iff_ne.2 (by omega)
  clear n1 n2 n4 n8 n16 n32
  go_enter Try.func30, Try.ntmps30
  go_upto_region 2 with fail
  generalize ((w.alloc (.cells #[.int .i64 a.u, .int .i64 a.g, .int .i64 a.o, .slice aU a.us.length cU, .slice aG a.gs.length cG, .bool a.r, .int .i64 a.m] 29)).alloc (.cells #[.int .i64 0, .int .i64 0, .int .i64 0, .slice none 0 0, .slice none 0 0, .bool false, .int .i64 0] 29)) = wz at hP0 hY0 hW0 HZ0 ⊢
  go_region
  all_goals (
    have hb3 : Below wz.heap.size wz ((wz.alloc (.cells #[.int .i64 (256 * (h1 : Int) + l1), .int .i64 (b : Int)] 54)).drew) := bdC (bel_alloc _ _)
    have hP3 : Hid (W7 ((wz.alloc (.cells #[.int .i64 (256 * (h1 : Int) + l1), .int .i64 (b : Int)] 54)).drew) w.heap.size (.int .i64 a.u) (.int .i64 a.g) (.int .i64 a.o) (.slice aU a.us.length cU) (.slice aG a.gs.length cG) (.bool a.r) (.int .i64 a.m)) := hP0.out.below hb3
    have hY3 : Hid (W7 ((wz.alloc (.cells #[.int .i64 (256 * (h1 : Int) + l1), .int .i64 (b : Int)] 54)).drew) (w.heap.size + 1) (.int .i64 0) (.int .i64 0) (.int .i64 0) (.slice none 0 0) (.slice none 0 0) (.bool false) (.int .i64 0)) := hY0.out.below hb3
    have hW3 : Hid (Below w.heap.size w ((wz.alloc (.cells #[.int .i64 (256 * (h1 : Int) + l1), .int .i64 (b : Int)] 54)).drew)) := Below.on hW0.out hb3
    obtain ⟨x0, x1⟩ := pair_new wz (.int .i64 (256 * (h1 : Int) + l1)) (.int .i64 (b : Int)) 54
    have X0 : Hid (((wz.alloc (.cells #[.int .i64 (256 * (h1 : Int) + l1), .int .i64 (b : Int)] 54)).drew).cell? ⟨wz.heap.size, 0, none⟩ = some (.int .i64 (256 * (h1 : Int) + l1))) := x0
    have X1 : Hid (((wz.alloc (.cells #[.int .i64 (256 * (h1 : Int) + l1), .int .i64 (b : Int)] 54)).drew).cell? ⟨wz.heap.size, 1, none⟩ = some (.int .i64 (b : Int))) := x1
    have HXZ : Hid (wz.heap.size < ((wz.alloc (.cells #[.int .i64 (256 * (h1 : Int) + l1), .int .i64 (b : Int)] 54)).drew).heap.size) := (show wz.heap.size < (wz.alloc (.cells #[.int .i64 (256 * (h1 : Int) + l1), .int .i64 (b : Int)] 54)).heap.size by simp)
    have HXX : Hid (wz.heap.size = w.heap.size + 2) := HZ0
    clear hb3 x0 x1 hP0 hY0 hW0 HZ0
    generalize (wz.alloc (.cells #[.int .i64 (256 * (h1 : Int) + l1), .int .i64 (b : Int)] 54)).drew = w3 at hP3 hY3 hW3 X0 X1 HXZ ⊢
    generalize wz.heap.size = X at X0 X1 HXZ HXX ⊢
    have x0 := X0.out
    have x1 := X1.out
    obtain ⟨pl, p0, p1, p2, p3, p4, p5, p6, pz⟩ := hP3.out
    have pz0 := pz 0
    have pz1 := pz 1
    have pz2 := pz 2
    have pz3 := pz 3
    have pz4 := pz 4
    have pz5 := pz 5
    have pz6 := pz 6
    clear pz
    go_upto_region 17 with fail
    have hP4 : Hid _ := hP3.out
    have hY4 : Hid _ := hY3.out
    have HE : Hid (EntW w0 w w3 a a aU cU aG cG aU cU aG cG) := ⟨H.out.below hW3.out, ButR.of_below hW3.out, FromR.refl _ _, FromR.refl _ _⟩
    clear hP3 hY3 hW3
    clear pl p0 p1 p2 p3 p4 p5 p6 pz0 pz1 pz2 pz3 pz4 pz5 pz6 x0 x1
    obtain ⟨pl, p0, p1, p2, p3, p4, p5, p6, pz⟩ := hP4.out
    have pz0 := pz 0
    have pz1 := pz 1
    have pz2 := pz 2
    have pz3 := pz 3
    have pz4 := pz 4
    have pz5 := pz 5
    have pz6 := pz 6
    clear pz
    obtain ⟨yl, y0, y1, y2, y3, y4, y5, y6, yz⟩ := hY4.out
    have yz0 := yz 0
    have yz1 := yz 1
    have yz2 := yz 2
    have yz3 := yz 3
    have yz4 := yz 4
    have yz5 := yz 5
    have yz6 := yz 6
    clear yz
    go_wp2
    refine bodyPost_ret (v := .agg #[.int .i64 a.u, .int .i64 a.g, .int .i64 a.o, .slice aU a.us.length cU, .slice aG a.gs.length cG, .bool a.r, .int .i64 a.m]) (by simp [results, Try.results30, go_sem, y0, y1, y2, y3, y4, y5, y6]) rfl ⟨aU, cU, aG, cG, rfl, ?_⟩
    repeat (refine EntW.set ?_ (Nat.le_add_right _ _) HYb.out HYU.out HYG.out)
    exact HE.out)
/-- spec.l06Take. -/
theorem sTake_any (w0 w : World) (a : Al) (aU : Option Addr) (cU : Nat) (aG : Option Addr) (cG : Nat) (h : R2 w0 w a aU cU aG cG) (hlu : a.us.length ≤ 100000) (hlg : a.gs.length ≤ 100000) (s : ByteArray) (hs : s.size = 4) :
    Calls Try.prog 30 #[.agg #[.int .i64 a.u, .int .i64 a.g, .int .i64 a.o, .slice aU a.us.length cU, .slice aG a.gs.length cG, .bool a.r, .int .i64 a.m], .string s] w (fun e w' => ∃ aU' cU' aG' cG', e = .returned (alV (takeE a (byte s 0) (byte s 1) (256 * (byte s 2 : Int) + byte s 3)) aU' cU' aG' cG') ∧ EntW w0 w w' a (takeE a (byte s 0) (byte s 1) (256 * (byte s 2 : Int) + byte s 3)) aU cU aG cG aU' cU' aG' cG') := by
  by_cases n1 : byte s 0 = 1
  · rw [takeE, if_pos n1]
    exact sTake_u w0 w a aU cU aG cG h hlu hlg s hs _ _ _ _ rfl rfl rfl rfl n1
  by_cases n2 : byte s 0 = 2
  · rw [takeE, if_neg n1, if_pos n2]
    exact sTake_us w0 w a aU cU aG cG h hlu hlg s hs _ _ _ _ rfl rfl rfl rfl n2
  by_cases n4 : byte s 0 = 4
  · rw [takeE, if_neg n1, if_neg n2, if_pos n4]
    exact sTake_g w0 w a aU cU aG cG h hlu hlg s hs _ _ _ _ rfl rfl rfl rfl n4
  by_cases n8 : byte s 0 = 8
  · rw [takeE, if_neg n1, if_neg n2, if_neg n4, if_pos n8]
    exact sTake_gs w0 w a aU cU aG cG h hlu hlg s hs _ _ _ _ rfl rfl rfl rfl n8
  by_cases n16 : byte s 0 = 16
  · rw [takeE, if_neg n1, if_neg n2, if_neg n4, if_neg n8, if_pos n16]
    exact sTake_m w0 w a aU cU aG cG h hlu hlg s hs _ _ _ _ rfl rfl rfl rfl n16
  by_cases n32 : byte s 0 = 32
  · rw [takeE, if_neg n1, if_neg n2, if_neg n4, if_neg n8, if_neg n16, if_pos n32]
    exact sTake_o w0 w a aU cU aG cG h hlu hlg s hs _ _ _ _ rfl rfl rfl rfl n32
  · rw [takeE, if_neg n1, if_neg n2, if_neg n4, if_neg n8, if_neg n16, if_neg n32]
    exact sTake_no w0 w a aU cU aG cG h hlu hlg s hs _ _ _ _ rfl rfl rfl rfl n1 n2 n4 n8 n16 n32
end Go.Proofs.Ytddkmlkfphmdoaa
