/- The program's printing of statements and declarations (1). -/
import Derived.Test.YteijjaabngkbjaaGreatDoorTrTAll
namespace Go.Proofs.YteijjaabngkbjaaGreatDoor
open Go.RowKit Te
set_option linter.unusedSimpArgs false
set_option linter.unusedVariables false

set_option maxRecDepth 20000 in
theorem type_is (t : Int) (ht : t = 0 ∨ t = 1 ∨ t = 2 ∨ t = 3) (w : World) :
    Calls Tryz.prog 80 #[ci t] w fun e w' => e = .returned (ct (tyT t)) ∧ w' = w := by
  rcases ht with rfl | rfl | rfl | rfl
  all_goals
    go_enter Tryz.func80, Tryz.ntmps80
    go_wp2
    go_ret
    exact ⟨rfl, rfl⟩
/-- A line of parts that were just put together. -/
theorem line_new (n : Nat) (l : List Bs) (acc T : Bs) (w0 w : World) (B b : Nat) (hw : PW w0 B b acc w) (hn : n ≤ 1000000) (hl9 : l.length ≤ 1000000) (hT : acc ++ Te.pad n ++ l.flatten ++ [10] = T) (hl : T.length ≤ 140737488355328) :
    Calls Tryz.prog 37 #[bp b, ci (n : Int), .slice (some ⟨w.heap.size, 0, none⟩) l.length l.length] (w.alloc (.cells (l.map ct).toArray 9)) fun e w' => e = .returned (.tuple #[]) ∧ PW w0 B b T w' :=
  (line_w n l w.heap.size acc T w0 _ B b (alloc_new _ _) (ne_pbld hw.bld) hn hl9 (hw.quiet (Fr.alloc _ _ _)) hT hl).mono fun e w' h => ⟨h.1, h.2.1⟩
end Go.Proofs.YteijjaabngkbjaaGreatDoor
