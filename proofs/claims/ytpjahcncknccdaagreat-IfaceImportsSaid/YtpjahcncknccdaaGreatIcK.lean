/- errors.Is of two api.Errno. -/
import Derived.Test.YtpjahcncknccdaaGreatIcG
import Derived.LaidEql
import Derived.Stop.Asserts
import Derived.RowKitTokens
import Derived.Lib.IfaceEq
namespace Go.Proofs.YtpjahcncknccdaaGreat.Fo.Ic
open Go.RowKit Te Go.Extern.Stop Go.Stop Go.Extern
set_option linter.unusedSimpArgs false
set_option linter.unusedVariables false
set_option maxRecDepth 20000

theorem isComp : (Tryz.prog.info? 27).map (·.comparable) = some true := by kernel_rfl
theorem isTypeOf (v : Value) (w : World) : (Extern.ReflectliteType.typeOf #[.iface 27 v]).run Tryz.prog w = .ok (.iface 142 (.agg #[typeHandle Tryz.prog 27])) w := by kernel_rfl
theorem isCmp : ∃ M : Array Value → Sem Value, (∀ (args : Array Value) (w : World), (callFunc 218 args).run Tryz.prog w = ((M args).run Tryz.prog w).andThen fun v w' => .ok (.value v) w') ∧ ∀ w, (M #[.agg #[typeHandle Tryz.prog 27]]).run Tryz.prog w = .ok (.bool true) w :=
  ⟨(Extern.ReflectliteType.method fun t => do Extern.Rtype.noPackHeld "Comparable" t; pure (.bool (← typeInfo t).comparable)), @run_callFunc_extern Tryz.prog 218 _ (Extern.ReflectliteType.method fun t => do Extern.Rtype.noPackHeld "Comparable" t; pure (.bool (← typeInfo t).comparable)) Tryz.func218 (by kernel_rfl) (by kernel_rfl) (by kernel_rfl) (by kernel_rfl), fun w => by kernel_rfl⟩
theorem isMeth (v : Value) (w : World) : (Go.method 386 142 v "Comparable").run Tryz.prog w = .ok (218, v) w := by kernel_rfl
theorem noIs (v : Value) (xT : TypeId) (w : World) : (Instr.typeAssert (.iface 27 v) xT 144 true).run Tryz.prog w = .ok (.tuple #[.nilIface, .bool false]) w := run_typeAssert_lacksB Tryz.underlying144 (by kernel_rfl) (by kernel_rfl) v xT w
theorem noUn (v : Value) (xT : TypeId) (w : World) : (Instr.typeAssert (.iface 27 v) xT 147 true).run Tryz.prog w = .ok (.tuple #[.nilIface, .bool false]) w := run_typeAssert_lacksB Tryz.underlying147 (by kernel_rfl) (by kernel_rfl) v xT w
theorem noUns (v : Value) (xT : TypeId) (w : World) : (Instr.typeAssert (.iface 27 v) xT 149 true).run Tryz.prog w = .ok (.tuple #[.nilIface, .bool false]) w := run_typeAssert_lacksB Tryz.underlying149 (by kernel_rfl) (by kernel_rfl) v xT w
set_option maxHeartbeats 1000000 in
theorem is_any (a : Int) (w : World) : Calls Tryz.prog 27 #[.iface 27 (ci a), .iface 27 (ci 0)] w fun e w' => e = .returned (.bool (a == 0)) ∧ w' = w := by
  have h8 := @run_callFunc_extern Tryz.prog 53 _ Extern.ReflectliteType.typeOf Tryz.func53 (by kernel_rfl) (by kernel_rfl) (by kernel_rfl) (by kernel_rfl)
  obtain ⟨M, h32, cT⟩ := isCmp
  have mR := isMeth
  have tT := isTypeOf
  have n1 := noIs
  have n2 := noUn
  have n3 := noUns
  have heq : ∀ u : World, (binOp .eql 102 (.iface 27 (ci a)) (.iface 27 (ci 0))).run Tryz.prog u = .ok (.bool (a == 0)) u := fun u => Lib.run_eql_iface_int u a 0 Tryz.underlying102 isComp Tryz.underlying27
  cases h0 : (a == 0)
  · rw [h0] at heq
    go_enter Tryz.func27, Tryz.ntmps27
    go_wp2
    refine wp_loop_rounds 1 ?_
    rw [rounds_succ]
    go_wp2
    go_ret
    exact ⟨rfl, rfl⟩
  · rw [h0] at heq
    go_enter Tryz.func27, Tryz.ntmps27
    go_wp2
    refine wp_loop_rounds 1 ?_
    rw [rounds_succ]
    go_wp2
    go_ret
    exact ⟨rfl, rfl⟩
end Go.Proofs.YtpjahcncknccdaaGreat.Fo.Ic
