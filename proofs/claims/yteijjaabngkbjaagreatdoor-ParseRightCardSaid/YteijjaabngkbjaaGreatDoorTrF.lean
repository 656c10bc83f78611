/- TrF -/
import Derived.Test.YteijjaabngkbjaaGreatDoorNyAB
set_option maxRecDepth 100000
set_option maxHeartbeats 40000000
set_option linter.unusedVariables false
set_option linter.unusedSimpArgs false
set_option linter.unusedSectionVars false
namespace Go.Proofs.YteijjaabngkbjaaGreatDoor
namespace Te
open Go.RowKit (wrap64)
theorem orE_zero (a b:Int):orE a b=0 ↔ a=0∧b=0:=by
 unfold orE
 split
 ·simp [*]
 ·simp [*]
theorem orE_ne {a:Int} (b:Int) (h:a≠0):orE a b=a:=by simp [orE,h]
section
variable (rn:Bs→Int) (cn:Int→Int)
theorem errL_cons (h:EH) (k r:Exs):errL rn cn (.cons h k r)=orE (orE (errH rn cn h k.len) (errL rn cn k)) (errL rn cn r):=rfl
end
theorem le_dK (p:EH):∀(k:Exs) (f:Bool) (a acc:Int),acc≤dK p k f a acc
 | .nil,_,_,_=>Int.le_refl _
 | .cons h k r,f,a,acc=>by
   unfold dK
   exact Int.le_trans (Int.le_max_left _ _) (le_dK p r false a _)
theorem kidD_01 (p:EH):kidD p=0∨kidD p=1:=by
 unfold kidD
 repeat' split
 all_goals simp
theorem wrp_small {z:Int} (h0:0≤z) (h1:z≤100):wrap64 z=z:=by
 simp [wrap64,IntKind.wrap,IntKind.bits,IntKind.signed]
 omega
theorem inAt_le (h:EH) (l:Int) {a b:Int} (h0:0≤a) (hab:a≤b) (hb:b≤33):0≤inAt h l a∧inAt h l a≤inAt h l b∧inAt h l b≤b+1:=by
 unfold inAt
 split
 ·rw [wrp_small (by omega) (by omega),wrp_small (by omega) (by omega)]
  omega
 ·omega
theorem dK_deep:∀(k:Exs) (p:EH) (f:Bool) (a b acc acc':Int),0≤a→a≤b→b≤34→(33≤b→32<acc')→(32<acc→32<acc')→32<dK p k f a acc→32<dK p k f b acc'
 | .nil,p,f,a,b,acc,acc',_,_,_,_,h4,h5=>by
   simp only [dK] at *
   omega
 | .cons h k r,p,f,a,b,acc,acc',h0,h1,h2,h3,h4,h5=>by
   by_cases hacc:32<acc'
   ·exact Int.lt_of_lt_of_le hacc (le_dK p _ f b acc')
   ·have hb:b≤32:=by omega
    unfold dK at h5 ⊢
    have hk:=kidD_01 p
    have e1:=wrp_small (z:=a+kidD p) (by omega) (by omega)
    have e2:=wrp_small (z:=b+kidD p) (by omega) (by omega)
    rw [e1] at h5
    rw [e2]
    obtain ⟨i1,i2,i3⟩:=inAt_le h (kidL p f) (a:=a+kidD p) (b:=b+kidD p) (by omega) (by omega) (by omega)
    have ih:=dK_deep k h true _ _ (inAt h (kidL p f) (a+kidD p)) (inAt h (kidL p f) (b+kidD p)) i1 i2 (by omega) (fun h=>by omega) (fun h=>by omega)
    refine dK_deep r p false a b _ _ h0 h1 h2 (fun h=>by omega) (fun hm=>?_) h5
    rcases (show 32<acc∨32<dK h k true (inAt h (kidL p f) (a+kidD p)) (inAt h (kidL p f) (a+kidD p)) by omega) with h6 | h6
    ·have:=h4 h6;omega
    ·have:=ih h6;omega
theorem level_pos (h:EH):1≤level h:=by
 unfold level lv2
 repeat' split
 all_goals omega
end Te
end Go.Proofs.YteijjaabngkbjaaGreatDoor
