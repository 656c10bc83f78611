/- TrF -/
import Derived.Test.YteijjaabngkbjaaGreatDoorNyAB
set_option maxRecDepth 100000
set_option maxHeartbeats 40000000
set_option linter.unusedVariables false
set_option linter.unusedSimpArgs false
set_option linter.unusedSectionVars false
namespace Go.Proofs.YteijjaabngkbjaaGreatDoor
namespace Te
open Go.RowKit (wrap64)
theorem orE_zero (a b:Int):orE a b=0 ↔ a=0∧b=0:=by
 unfold orE
 split
 ·simp [*]
 ·simp [*]
theorem orE_ne {a:Int} (b:Int) (h:a≠0):orE a b=a:=by simp [orE,h]
section
variable (rn:Bs→Int) (cn:Int→Int)
theorem errL_cons (h:EH) (k r:Exs):errL rn cn (.cons h k r)=orE (orE (errH rn cn h k.len) (errL rn cn k)) (errL rn cn r):=rfl
end
theorem level_pos (h:EH):1≤level h:=by
 unfold level lv2
 repeat' split
 all_goals omega
end Te
end Go.Proofs.YteijjaabngkbjaaGreatDoor
