/- ReadDir answers as the specification does, at every tree, cred and path, writes into no argument, and its names own their memory; the four errors of the walk are laid by their own calls of errors.New. -/
import Derived.Test.YtabfdidnjibdeaaGreatDoorBR49
import Derived.Test.YtabfdidnjibdeaaGreatDoorBR50
namespace Go.Proofs.YtabfdidnjibdeaaGreatDoor.fnExactReadDir
open Go.ChangeShapes Go.WideShapes Go.ChangeAt Go.RowKit Go.Joins
open Go.ChangeMaps (open_string shut_string)
set_option linter.unusedVariables false

theorem over:Rows.fnExactReadDirRow.holds Tryz.pinned (OpenSpec.ofChange Rows.fnExactReadDirSpec) :=
  OpenClaim.holds_of_wide 7 Tryz.f7 rfl rfl rfl rfl rfl rfl rfl ⟨rfl,rfl,rfl,rfl,rfl⟩ rfl rfl rfl rfl rfl (by kernel_rfl) Tryz.func7 joined
    (of_decide_eq_true (by kernel_rfl)) (by unfold Func.isWrapper;first | (rw [if_pos (by decide +kernel)];kernel_rfl) | (rw [if_neg (by decide +kernel)];exact ⟨rfl,rfl⟩))
    (fun os started H enc _=>lifted os started H enc)

theorem proved:Rows.FnExactReadDirSaid:=over
end Go.Proofs.YtabfdidnjibdeaaGreatDoor.fnExactReadDir
namespace Go.Proofs.YtabfdidnjibdeaaGreatDoor
theorem fnExactReadDir_row:Rows.FnExactReadDirSaid:=fnExactReadDir.proved
theorem fnExactReadDir_holds:Rows.FnExactReadDirCardSaid :=
  Claim7.holds_tied_plain_at .later [] [.data, .sentinel, .sentinel, .sentinel, .sentinel, .pinned] true (true, "78ecb1c5dffe48ddb026d6c13e0f5f95e75eeefe416b4ca9cecdb160fdc3b026") true
    fnExactReadDir_row (fun _ h=>by cases h) (by kernel_rfl) (fun _ h=>by cases h) fnExactReadDir_row_tie rfl ⟨rfl,rfl⟩ (by kernel_rfl) rfl
    (fun f fn hf hfn=>by
      obtain rfl : f = 7 := Option.some.inj ((show Tryz.prog.funcNamed "loop.example/g00622/laws.FnExactReadDir" = some 7 by kernel_rfl).symm.trans hf) |>.symm
      obtain rfl:fn=Tryz.f7:=(Option.some.inj (Tryz.func7.symm.trans hfn)).symm
      exact ⟨by kernel_rfl,fun j t ht=>by
        rw [Tryz.params7] at ht
        rcases j with _ | j
        · have h3 : t = 24 := by simpa using ht.symm
          subst h3
          exact (show Tryz.prog.wantsStandIn 24=false by kernel_rfl)
        · rcases j with _ | j
          · have h3 : t = 27 := by simpa using ht.symm
            subst h3
            exact (show Tryz.prog.wantsStandIn 27=false by kernel_rfl)
          · rcases j with _ | j
            · have h3 : t = 9 := by simpa using ht.symm
              subst h3
              exact (show Tryz.prog.wantsStandIn 9=false by kernel_rfl)
            · simp at ht⟩)
    (by kernel_rfl)
end Go.Proofs.YtabfdidnjibdeaaGreatDoor
