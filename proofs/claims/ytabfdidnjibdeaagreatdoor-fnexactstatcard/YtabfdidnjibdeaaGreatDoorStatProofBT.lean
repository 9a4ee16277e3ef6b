/- Stat answers as the specification does, at every tree, cred, path and follow, and writes into no argument; the four errors of the walk are laid by their own calls of errors.New. -/
import Derived.Test.YtabfdidnjibdeaaGreatDoorRows
import Derived.WalkKit
import Derived.Test.YtabfdidnjibdeaaGreatDoorBT47
import Derived.Test.YtabfdidnjibdeaaGreatDoorBT48
import Derived.Test.YtabfdidnjibdeaaGreatDoorTie
import Derived.Test.YtabfdidnjibdeaaGreatDoorCards
import Derived.SevenTiedAt
import Derived.HandedShaped
import Derived.LaidMore
import Derived.Lay
import Derived.ChangeVars
import Derived.MakeChecks
import Derived.Stop.Joined
import Derived.Stop.LaidErr
import Derived.Test.YtabfdidnjibdeaaGreatDoorBT49
import Derived.WalkSpells
import Derived.WalkLawsBesides
import Derived.ProofKit
import Derived.OpenShut
import Derived.ShutString
import Derived.ChangeOld
import Derived.Below
import Derived.Lib.SmallJoins
import Derived.Test.YtabfdidnjibdeaaGreatDoorBT50
import Derived.Test.YtabfdidnjibdeaaGreatDoorBT51
namespace Go.Proofs.YtabfdidnjibdeaaGreatDoor.fnExactStat
open Go.ChangeShapes Go.WideShapes Go.ChangeAt Go.RowKit Go.Joins
open Go.ChangeMaps (open_string shut_string)
set_option linter.unusedVariables false

theorem over:Rows.fnExactStatRow.holds Tryz.pinned (OpenSpec.ofChange Rows.fnExactStatSpec) :=
  OpenClaim.holds_of_wide 6 Tryz.f6 rfl rfl rfl rfl rfl rfl rfl ⟨rfl,rfl,rfl,rfl,rfl⟩ rfl rfl rfl rfl rfl (by kernel_rfl) Tryz.func6 joined
    (of_decide_eq_true (by kernel_rfl)) (by unfold Func.isWrapper; first | (rw [if_pos (by decide +kernel)]; kernel_rfl) | (rw [if_neg (by decide +kernel)]; exact ⟨rfl,rfl⟩))
    (fun os started H enc _ => lifted os started H enc)

theorem proved:Rows.FnExactStatSaid:=over
end Go.Proofs.YtabfdidnjibdeaaGreatDoor.fnExactStat
namespace Go.Proofs.YtabfdidnjibdeaaGreatDoor
theorem fnExactStat_row:Rows.FnExactStatSaid:=fnExactStat.proved
theorem fnExactStat_holds:Rows.FnExactStatCardSaid :=
  Claim7.holds_tied_plain_at .later [] [.data, .sentinel, .sentinel, .sentinel, .sentinel, .pinned] true (true, "78ecb1c5dffe48ddb026d6c13e0f5f95e75eeefe416b4ca9cecdb160fdc3b026") true
    fnExactStat_row (fun _ h => by cases h) (by kernel_rfl) (fun _ h => by cases h) fnExactStat_row_tie rfl ⟨rfl,rfl⟩ (by kernel_rfl) rfl
    (fun f fn hf hfn => by
      obtain rfl : f = 6 := Option.some.inj ((show Tryz.prog.funcNamed "loop.example/g00622/laws.FnExactStat" = some 6 by kernel_rfl).symm.trans hf) |>.symm
      obtain rfl:fn=Tryz.f6:=(Option.some.inj (Tryz.func6.symm.trans hfn)).symm
      exact ⟨by kernel_rfl,fun j t ht => by
        rw [Tryz.params6] at ht
        rcases j with _ | j
        · have h3 : t = 24 := by simpa using ht.symm
          subst h3
          exact (show Tryz.prog.wantsStandIn 24=false by kernel_rfl)
        · rcases j with _ | j
          · have h3 : t = 27 := by simpa using ht.symm
            subst h3
            exact (show Tryz.prog.wantsStandIn 27=false by kernel_rfl)
          · rcases j with _ | j
            · have h3 : t = 9 := by simpa using ht.symm
              subst h3
              exact (show Tryz.prog.wantsStandIn 9=false by kernel_rfl)
            · rcases j with _ | j
              · have h3 : t = 4 := by simpa using ht.symm
                subst h3
                exact (show Tryz.prog.wantsStandIn 4=false by kernel_rfl)
              · simp at ht⟩)
    (by kernel_rfl)
end Go.Proofs.YtabfdidnjibdeaaGreatDoor
