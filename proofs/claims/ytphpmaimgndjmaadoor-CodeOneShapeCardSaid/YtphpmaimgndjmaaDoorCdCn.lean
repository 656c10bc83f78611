/- Numbers read byte by byte; the first instruction of bytes: the program's. -/
import Derived.Test.YtphpmaimgndjmaaDoorCdNAll
import Derived.Test.YtphpmaimgndjmaaDoorCdT
import Derived.Laws.Bits64b
namespace Go.Proofs.YtphpmaimgndjmaaDoor.Cd
open Go.RowKit Ty
set_option linter.unusedSimpArgs false
set_option linter.unusedVariables false

theorem numGo_snoc : ∀ (l : Bs) (a : Nat) (c : UInt8), numGo a (l ++ [c]) = numGo a l * 256 + c.toNat
  | [], a, c => rfl
  | d :: r, a, c => by
    simp only [List.cons_append, numGo]
    exact numGo_snoc r _ c
theorem or_byte (A : Nat) (x : UInt8) (h : A < 72057594037927936) : bits .or .u64 ((A : Int) * 256) (IntKind.u64.wrap (x.toNat : Int)) = ((A * 256 + x.toNat : Nat) : Int) := by
  have hx := x.toNat_lt
  have hw : IntKind.u64.wrap (x.toNat : Int) = (x.toNat : Int) := by rw [IntKind.wrap_u64]; omega
  rw [hw]
  have := bits_or_u64_nat (A * 256) x.toNat (by omega) (by omega)
  rw [show ((A * 256 : Nat) : Int) = (A : Int) * 256 by omega] at this
  rw [this]
  congr 1
  have h8 : x.toNat < 2 ^ 8 := by omega
  have := Nat.two_pow_add_eq_or_of_lt h8 A
  rw [show 2 ^ 8 * A = A * 256 by omega] at this
  exact this.symm
end Go.Proofs.YtphpmaimgndjmaaDoor.Cd
