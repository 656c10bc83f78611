/- The law LexCovers: each token is the text at its place. -/
import Derived.Test.YteijjaabngkbjaaGreatDoorLxAll
import Derived.Deep.QuietTactic
import Derived.BigQuiet
namespace Go.Proofs.YteijjaabngkbjaaGreatDoor
open Go.RowKit Lx
set_option linter.unusedSimpArgs false
set_option linter.unusedVariables false

theorem nl_no' {c : UInt8} (h : c ≠ 10) : ((c.toNat : Int) == 10) = false := by
  rw [beq_eq_false_iff_ne]
  intro e
  exact h (UInt8.toNat_inj.1 (by simpa using (by omega : c.toNat = 10)))
theorem byte_ne {c : UInt8} {n : Nat} (hn : n < 256) (h : c ≠ UInt8.ofNat n) : ((c.toNat : Int) == (n : Int)) = false := by
  rw [beq_eq_false_iff_ne]
  intro e
  exact h (UInt8.toNat_inj.1 (by rw [UInt8.toNat_ofNat']; omega))
theorem index_succ (l : By) (j : Nat) (c : UInt8) (h : l[j + 1]? = some c) (w : World) : (Instr.index 9 (.string ⟨l.toArray⟩) (.int .i64 ((j : Int) + 1))).run Tryz.prog w = .ok (.int .u8 (c.toNat : Int)) w := by
  have := str_index l (j + 1) c h w
  rw [show ((j + 1 : Nat) : Int) = (j : Int) + 1 by omega] at this
  exact this

end Go.Proofs.YteijjaabngkbjaaGreatDoor
