/- The program's depth of statements and declarations. -/
import Derived.Test.YtbmaaaeipcopcaaTrD
namespace Go.Proofs.Ytbmaaaeipcopcaa
open Go.RowKit Te
set_option linter.unusedSimpArgs false
set_option linter.unusedVariables false

theorem ret_int {x y : Int} (h : x = y) : Ending.returned (.int .i64 x) = .returned (.int .i64 y) := by rw [h]
theorem dL_cons (h : EH) (k r : Exs) (a acc : Int) : dL (.cons h k r) a acc = dL r a (max acc (dX h k 1 a)) := rfl
/-- The greatest depth of a statement. -/
def dSt (h : SH) (e : Exs) (b l : Sts) (a : Int) : Int :=
  let x1 := dL e a a
  let x2 := if hasBody h.kind || decide (0 < b.len) then max x1 (dS b (wrap64 (a + 1)) (wrap64 (a + 1))) else x1
  if h.kind = 8 ∨ 0 < l.len then max x2 (dS l (wrap64 (a + 1)) (wrap64 (a + 1))) else x2
theorem dS_cons (h : SH) (e : Exs) (b l r : Sts) (a acc : Int) : dS (.cons h e b l r) a acc = dS r a (max acc (dSt h e b l a)) := rfl
end Go.Proofs.Ytbmaaaeipcopcaa
