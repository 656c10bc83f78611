/- The program's instructions and the document's: the law's sameCode. -/
import Derived.Test.YtphpmaimgndjmaaDoorCdMn
import Derived.Test.YtphpmaimgndjmaaDoorTrG
import Derived.Test.YtphpmaimgndjmaaDoorTyAll
namespace Go.Proofs.YtphpmaimgndjmaaDoor.Cd
open Go.RowKit Ty
set_option linter.unusedSimpArgs false
set_option linter.unusedVariables false

theorem take_one {α : Type} {l : List α} {j : Nat} {x : α} (h : l[j]? = some x) : l.take (j + 1) = l.take j ++ [x] := by
  rw [List.take_add_one, h]; rfl
theorem ne_of_at {la lb : List In} {j : Nat} {x y : In} (hx : la[j]? = some x) (hy : lb[j]? = some y) (h : x ≠ y) : la ≠ lb := by
  rintro rfl
  rw [hx] at hy
  exact h (Option.some.inj hy)
end Go.Proofs.YtphpmaimgndjmaaDoor.Cd
