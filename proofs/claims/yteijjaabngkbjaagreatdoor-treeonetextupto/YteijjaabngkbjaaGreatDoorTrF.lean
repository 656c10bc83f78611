/- TrF -/
import Derived.Test.YteijjaabngkbjaaGreatDoorTrD2B
namespace Go.Proofs.YteijjaabngkbjaaGreatDoor
set_option linter.unusedSimpArgs false
set_option linter.unusedVariables false
namespace Te
open Go.RowKit (wrap64)
theorem orE_zero (a b : Int) : orE a b = 0 ↔ a = 0 ∧ b = 0 := by
  unfold orE
  split
  · simp [*]
  · simp [*]
theorem orE_0 (b : Int) : orE 0 b = b := rfl
theorem orE_ne {a : Int} (b : Int) (h : a ≠ 0) : orE a b = a := by simp [orE, h]
section
variable (rn : Bs → Int) (cn : Int → Int)
theorem errL_cons (h : EH) (k r : Exs) : errL rn cn (.cons h k r) = orE (orE (errH rn cn h k.len) (errL rn cn k)) (errL rn cn r) := rfl
end
theorem dK_cons (p h : EH) (k r : Exs) (f : Bool) (a acc : Int) : dK p (.cons h k r) f a acc = dK p r false a (max acc (dK h k true (inAt h (kidL p f) (wrap64 (a + kidD p))) (inAt h (kidL p f) (wrap64 (a + kidD p))))) := rfl
theorem level_pos (h : EH) : 1 ≤ level h := by
  unfold level lv2
  repeat' split
  all_goals omega
abbrev bh (op : Int) : EH := ⟨7, op, [], [], 0, 0⟩
abbrev two2 (h1 : EH) (k1 : Exs) (h2 : EH) (k2 : Exs) : Exs := .cons h1 k1 (.cons h2 k2 .nil)
section
variable (rn : Bs → Int) (cn : Int → Int)
variable (tx : Int → Int → Bs)
end
end Te
end Go.Proofs.YteijjaabngkbjaaGreatDoor
