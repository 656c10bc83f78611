/- What must come at any rate. -/
import Derived.Test.YtajefmmggefbeaaNmSplit2
import Derived.Test.YtajefmmggefbeaaNmCmp
namespace Go.Proofs.Ytajefmmggefbeaa
open Go.RowKit Go.Sort
set_option linter.unusedSimpArgs false
set_option linter.unusedVariables false

/-- A list that is laid by its words. -/
theorem Tn.lit (w : World) (l : List Str) (hl : l.length ≤ 9223372036854775807) : Tn (w.alloc (.cells (l.map encStr).toArray 9)) w.heap.size (.slice (some ⟨w.heap.size, 0, none⟩) l.length l.length) l := by
  refine ⟨_, l.length, rfl, Nat.le_refl _, hl, (fun h => by cases h), Or.inr ⟨w.heap.size, 0, rfl, Nat.le_refl _, by simp, fun j hj => ?_⟩⟩
  have hb := alloc_new w (.cells (l.map encStr).toArray 9)
  have hj' : j < l.length := by simpa using hj
  constructor
  · rw [Nat.zero_add, cell_of_row _ _ _ _ _ _ hb, getElem!_pos _ j hj]
    simp [hj']
  · exact frozen_of_row hb _

theorem setS_bab : setS [[98], [97], [98]] = [[97], [98]] :=
  (setS_ss _).ext (by unfold SS; decide) (fun x => by rw [mem_setS]; simp only [List.mem_cons, List.not_mem_nil, or_false]; by_cases h1 : x = [98] <;> by_cases h2 : x = [97] <;> simp [h1, h2])

end Go.Proofs.Ytajefmmggefbeaa
