/- Laid together: ErrIs. -/
import Derived.Test.YtabfdidnjibdeaaGreatDoorChecked
import Derived.WalkKit
import Derived.LaidEql
import Derived.LoopN
import Derived.Stop.Asserts
import Derived.RowKitTokens
import Derived.Test.YtabfdidnjibdeaaGreatDoorBT40
/- errors.Is over errors of errors.New's make; impl.codeOfWay. -/
namespace Go.Proofs.YtabfdidnjibdeaaGreatDoor
open Go.RowKit Go.Extern.Stop Go.Stop Go.Extern Go.PlainAid Go.Deep
set_option linter.unusedVariables false
theorem eTypeOf (v:Value) (w:World):(Extern.ReflectliteType.typeOf #[.iface 289 v]).run Tryz.prog w=.ok (.iface 227 (.agg #[.pointer (some ⟨7,289,none⟩)])) w:=by kernel_rfl
/-- What the type is asked: may it be compared? -/
def cmpF:TypeId→Sem Value:=fun t => do
  Go.Extern.Rtype.noPackHeld "Comparable" t
  pure (.bool (← typeInfo t).comparable)
theorem eComparable (w:World):(Extern.ReflectliteType.method cmpF #[.agg #[.pointer (some ⟨7,289,none⟩)]]).run Tryz.prog w=.ok (.bool true) w:=by kernel_rfl
theorem eMethod (v : Value) (w : World) : (Go.method 172 227 v "Comparable").run Tryz.prog w = .ok (280, v) w := by kernel_rfl
theorem eComp:(Tryz.prog.info? 289).map (·.comparable)=some true:=by kernel_rfl
theorem eSize:(Tryz.prog.info? 314).map (·.size)=some 1:=by kernel_rfl
theorem eNoIs (v:Value) (xT:TypeId) (w:World):(Instr.typeAssert (.iface 289 v) xT 229 true).run Tryz.prog w=.ok (.tuple #[.nilIface,.bool false]) w:=run_typeAssert_lacksB Tryz.underlying229 (by kernel_rfl) (by kernel_rfl) v xT w
theorem eNoUnwrap (v:Value) (xT:TypeId) (w:World):(Instr.typeAssert (.iface 289 v) xT 232 true).run Tryz.prog w=.ok (.tuple #[.nilIface,.bool false]) w:=run_typeAssert_lacksB Tryz.underlying232 (by kernel_rfl) (by kernel_rfl) v xT w
theorem eNoUnwraps (v:Value) (xT:TypeId) (w:World):(Instr.typeAssert (.iface 289 v) xT 233 true).run Tryz.prog w=.ok (.tuple #[.nilIface,.bool false]) w:=run_typeAssert_lacksB Tryz.underlying233 (by kernel_rfl) (by kernel_rfl) v xT w
set_option maxRecDepth 20000 in
set_option maxHeartbeats 4000000 in
theorem eIs_same (a:Addr) (w:World) :
    Calls Tryz.prog 85 #[.iface 289 (.pointer (some a)),.iface 289 (.pointer (some a))] w fun e w' => e=.returned (.bool true)∧w'=w:=by
  obtain ⟨i,hi,hcmp⟩:=Option.map_eq_some_iff.1 eComp
  obtain ⟨j,hj,hjs⟩:=Option.map_eq_some_iff.1 eSize
  have h8:=@run_callFunc_extern Tryz.prog 131 _ Extern.ReflectliteType.typeOf Tryz.func131 (by kernel_rfl) (by kernel_rfl) (by kernel_rfl) (by kernel_rfl)
  have h32:=@run_callFunc_extern Tryz.prog 280 _ (Extern.ReflectliteType.method cmpF) Tryz.func280 (by kernel_rfl) (by kernel_rfl) (by kernel_rfl) (by kernel_rfl)
  have tT:=eTypeOf
  have cT:=eComparable
  have mR:=eMethod
  have heq:=run_eql_iface_ptr_same (P:=Tryz.prog) w a Tryz.underlying72 Tryz.underlying289 hi hcmp hj
  go_enter Tryz.func85,Tryz.ntmps85
  go_wp2
  refine wp_loop_rounds 1 ?_
  rw [rounds_succ]
  go_wp2
  go_ret
  exact ⟨rfl,rfl⟩
set_option maxRecDepth 20000 in
set_option maxHeartbeats 4000000 in
theorem eIs_other (a b:Addr) (ca cb:Array Value) (ta tb:TypeId) (w:World) (hne:a ≠ b) (ha:w.heap[a.block]?=some (.cells ca ta (0,0))) (hb:w.heap[b.block]?=some (.cells cb tb (0,0))) :
    Calls Tryz.prog 85 #[.iface 289 (.pointer (some a)),.iface 289 (.pointer (some b))] w fun e w' => e=.returned (.bool false)∧w'=w:=by
  obtain ⟨i,hi,hcmp⟩:=Option.map_eq_some_iff.1 eComp
  obtain ⟨j,hj,hjs⟩:=Option.map_eq_some_iff.1 eSize
  have h8:=@run_callFunc_extern Tryz.prog 131 _ Extern.ReflectliteType.typeOf Tryz.func131 (by kernel_rfl) (by kernel_rfl) (by kernel_rfl) (by kernel_rfl)
  have h32:=@run_callFunc_extern Tryz.prog 280 _ (Extern.ReflectliteType.method cmpF) Tryz.func280 (by kernel_rfl) (by kernel_rfl) (by kernel_rfl) (by kernel_rfl)
  have tT:=eTypeOf
  have cT:=eComparable
  have mR:=eMethod
  have nE:=eNoIs
  have uE:=eNoUnwrap
  have vE:=eNoUnwraps
  have heq:=run_eql_iface_ptr_other (P:=Tryz.prog) w Tryz.underlying72 Tryz.underlying289 hi hcmp hj (by rw [hjs]; decide) hne ha hb
  go_enter Tryz.func85,Tryz.ntmps85
  go_wp2
  refine wp_loop_rounds 1 ?_
  rw [rounds_succ]
  go_wp2
  go_ret
  exact ⟨rfl,rfl⟩
end Go.Proofs.YtabfdidnjibdeaaGreatDoor
