/- A row that no string shares. -/
import Derived.Test.YtnmcehpdiopaiaaGreatDoorCdNAll
namespace Go.Proofs.YtnmcehpdiopaiaaGreatDoor.Cd
open Go.RowKit Ty
theorem fz_row {w : World} {g : Nat} {cs : Array Value} {t : TypeId} (hg : w.heap[g]? = some (.cells cs t (0, 0))) (j : Nat) : w.frozen? ⟨g, j, none⟩ = false := by simp [World.frozen?, hg]
end Go.Proofs.YtnmcehpdiopaiaaGreatDoor.Cd
