/- Laid together: InGroupWalks. -/
import Derived.Test.YtabfdidnjibdeaaGreatDoorBT24
/- InGroup: the program's, by the library's slices.Contains, and the specification's. -/
namespace Go.Proofs.YtabfdidnjibdeaaGreatDoor
open Go.RowKit Go.PlainAid
set_option linter.unusedVariables false
theorem inGB_no {u g:Int} {len:Nat} {f:Nat→Int} {gid:Int} (h:credB u g len f=false):inGB u g len f gid=false:=by simp [inGB,h]
theorem inGB_yes {u g:Int} {len:Nat} {f:Nat→Int} {gid:Int} (h:credB u g len f=true):inGB u g len f gid=(g == gid || anyG f gid len):=by simp [inGB,h]
set_option maxHeartbeats 2000000 in
/-- impl.InGroup. -/
theorem iInGroup_any (u g:Int) (a:Option Addr) (len cap:Nat) (r:Bool) (gid:Int) (f:Nat→Int) (w:World) (hi:Ints a len f w) :
    Calls Tryz.prog 200 #[.agg #[.int .i64 u,.int .i64 g,.slice a len cap,.bool r],.int .i64 gid] w fun e w' => e=.returned (.bool (inGB u g len f gid))∧Below w.heap.size w w':=by
  have hr:Hid (∀ w',Below w.heap.size w w'→Calls Tryz.prog 39 #[.agg #[.int .i64 u,.int .i64 g,.slice a len cap,.bool r]] w' fun e w'' => e=.returned (.bool (credB u g len f))∧Below w'.heap.size w' w''):=(fun w' hb => iCredRight_any u g a len cap r f w' (hi.below hb))
  have hB0:Hid (Below w.heap.size w (w.alloc (.cells #[.int .i64 u,.int .i64 g,.slice a len cap,.bool r] 37))):=(Below.refl _ _).alloc (Nat.le_refl _) _
  cases h0:credB u g len f
  · have hy : Hid (inGB u g len f gid = false) := inGB_no h0
    rw [h0] at hr
    clear hi
    go_enter Tryz.func200,Tryz.ntmps200
    go_wp2_with (go_at_call 39; refine (hr.out _ hB0.out).mono ?_; rintro e w1 ⟨rfl,hb1⟩)
    go_ret
    exact ⟨ret_boolW hy.out.symm,hB0.out.trans (hb1.mono (by simp))⟩
  · have hy : Hid (inGB u g len f gid = (g == gid || anyG f gid len)) := inGB_yes h0
    have h8:len≤8:=gr_len (credB_iff.mp h0).2.2
    rw [h0] at hr
    have hc:Hid (∀ w',Below w.heap.size w w'→Calls Tryz.prog 230 #[.slice a len cap,.int .i64 gid] w' fun e w'' => e=.returned (.bool (anyG f gid len))∧w''=w'):=(fun w' hb => contains_any a len cap f gid (by omega) w' (hi.below hb))
    clear hi
    by_cases he:g=gid
    · have q : (gid == g) = true := by rw [he]; simp
      have q2:Hid ((g == gid || anyG f gid len)=true):=(by show (g == gid || anyG f gid len)=true; rw [he]; simp)
      clear he
      go_enter Tryz.func200,Tryz.ntmps200
      go_wp2_with (go_at_call 39; refine (hr.out _ hB0.out).mono ?_; rintro e w1 ⟨rfl,hb1⟩; have xc1:w1.cell? ⟨w.heap.size,1,none⟩=some (.int .i64 g):=(hb1.cell (p:=⟨w.heap.size,1,none⟩) (by simp)).trans (by simp))
      go_ret
      exact ⟨ret_boolW (q2.out.symm.trans hy.out.symm),hB0.out.trans (hb1.mono (by simp))⟩
    · have q : (gid == g) = false := by rw [beq_eq_false_iff_ne]; exact fun e => he e.symm
      have q2:Hid ((g == gid || anyG f gid len)=anyG f gid len):=(by show (g == gid || anyG f gid len)=anyG f gid len; simp [he])
      clear he
      go_enter Tryz.func200,Tryz.ntmps200
      go_wp2_with (first | (go_at_call 39; refine (hr.out _ hB0.out).mono ?_; rintro e w1 ⟨rfl,hb1⟩; have xc1:w1.cell? ⟨w.heap.size,1,none⟩=some (.int .i64 g):=(hb1.cell (p:=⟨w.heap.size,1,none⟩) (by simp)).trans (by simp); have xc2:w1.cell? ⟨w.heap.size,2,none⟩=some (.slice a len cap):=(hb1.cell (p:=⟨w.heap.size,2,none⟩) (by simp)).trans (by simp)) | (go_at_call 230; refine (hc.out _ (hB0.out.trans (hb1.mono (by simp)))).mono ?_; rintro e w2 ⟨rfl,rfl⟩))
      go_ret
      exact ⟨ret_boolW (q2.out.symm.trans hy.out.symm),hB0.out.trans (hb1.mono (by simp))⟩
set_option maxHeartbeats 2000000 in
/-- spec.l02In, of a Cred of few groups. -/
theorem l02In_some (u g:Int) (a:Option Addr) (len cap:Nat) (r:Bool) (gid:Int) (f:Nat→Int) (hl:len≤8) (w:World) (hi:Hid (Ints a len f w)) :
    Calls Tryz.prog 175 #[.agg #[.int .i64 u,.int .i64 g,.slice a len cap,.bool r],.int .i64 gid] w fun e w' => e=.returned (.bool (g == gid || anyG f gid len))∧Below w.heap.size w w':=by
  go_enter Tryz.func175,Tryz.ntmps175
  go_wp2
  go_loop [5,6] (fun x i => ∃ k:Nat,k≤len∧i=.int .i64 k∧x=.bool (g == gid || anyG f gid k)) (fun _ i => len - (intOf i).toNat)
  case atStart => exact ⟨0,Nat.zero_le _,rfl,by simp [anyG]⟩
  case round =>
    obtain ⟨k,hk,rfl,rfl⟩:=hrel
    by_cases hlt:k < len
    · obtain ⟨b, off, rfl, hb, hc⟩ := hi.out (by omega)
      have g0:(w.alloc (.cells #[.int .i64 u,.int .i64 g,.slice (some ⟨b,off,none⟩) len cap,.bool r] 37)).cell? ⟨b,off + k,none⟩=some (.int .i64 (f k)):=((((Below.refl w.heap.size w).alloc (Nat.le_refl _) _).cell (p:=⟨b,off + k,none⟩) hb)).trans (hc k hlt)
      have hn:Hid ((g == gid || anyG f gid (k + 1))=((g == gid || anyG f gid k) || f k == gid)):=(by show (g == gid || anyG f gid (k + 1))=((g == gid || anyG f gid k) || f k == gid); simp [anyG,Bool.or_assoc])
      clear hc
      cases hx:(g == gid || anyG f gid k)
      · rw [hx] at hn
        go_wp2
        go_round
        case rel => exact ⟨k + 1,by omega,by go_num,by rw [hn.out]; simp⟩
        case measure => simp [intOf]; omega
      · rw [hx] at hn
        go_wp2
        go_round
        case rel => exact ⟨k + 1,by omega,by go_num,by rw [hn.out]; simp⟩
        case measure => simp [intOf]; omega
    · have : k = len := by omega
      subst this
      obtain ⟨x,hgx⟩:∃ x,Hid ((g == gid || anyG f gid k)=x):=⟨_,rfl⟩
      rw [hgx.out]
      go_wp2
      go_ret
      exact ⟨ret_boolW hgx.out.symm,(Below.refl _ _).alloc (Nat.le_refl _) _⟩
end Go.Proofs.YtabfdidnjibdeaaGreatDoor
