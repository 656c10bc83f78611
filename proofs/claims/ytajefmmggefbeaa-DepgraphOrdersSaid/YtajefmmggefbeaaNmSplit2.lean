/- Split walked. -/
import Derived.Test.YtajefmmggefbeaaNmSplit
namespace Go.Proofs.Ytajefmmggefbeaa
open Go.RowKit Go.Sort
set_option linter.unusedSimpArgs false
set_option linter.unusedVariables false

/-- What Split answers. -/
def splitS (s : Str) : Str × Str × Int :=
  if dotS s < s.length then
    (if rightS (s.take (dotS s)) ≠ 0 then ([], [], rightS (s.take (dotS s)))
     else if rightS (s.drop (dotS s + 1)) ≠ 0 then ([], [], rightS (s.drop (dotS s + 1)))
     else (s.take (dotS s), s.drop (dotS s + 1), 0))
  else ([], [], 12)

end Go.Proofs.Ytajefmmggefbeaa
