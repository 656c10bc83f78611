/- The document's Decode. -/
import Derived.Test.YtphpmaimgndjmaaDoorCdDe
import Derived.Test.YtphpmaimgndjmaaDoorCdRr
namespace Go.Proofs.YtphpmaimgndjmaaDoor.Cd
open Go.RowKit Ty
set_option linter.unusedSimpArgs false
set_option linter.unusedVariables false

theorem bits_or_i64_nat (a b : Nat) (ha : a < 9223372036854775808) (hb : b < 9223372036854775808) : bits .or .i64 (a : Int) (b : Int) = ((a ||| b : Nat) : Int) := by
  have hx : a ||| b < 2 ^ 63 := Nat.or_lt_two_pow (by omega) (by omega)
  have h1 : (BitVec.ofInt 64 (a : Int)).toNat = a := by
    rw [BitVec.ofInt_natCast, BitVec.toNat_ofNat]; exact Nat.mod_eq_of_lt (by omega)
  have h2 : (BitVec.ofInt 64 (b : Int)).toNat = b := by
    rw [BitVec.ofInt_natCast, BitVec.toNat_ofNat]; exact Nat.mod_eq_of_lt (by omega)
  show IntKind.i64.wrap ((BitVec.ofInt 64 (a : Int) ||| BitVec.ofInt 64 (b : Int)).toNat : Int) = _
  rw [BitVec.toNat_or, h1, h2]
  exact wrap_small _ (by omega) (by omega)
theorem or_byte_i (A : Nat) (x : UInt8) (h : A < 1000000) : bits .or .i64 ((A : Int) * 256) (x.toNat : Int) = ((A * 256 + x.toNat : Nat) : Int) := by
  have hx := x.toNat_lt
  have := bits_or_i64_nat (A * 256) x.toNat (by omega) (by omega)
  rw [show ((A * 256 : Nat) : Int) = (A : Int) * 256 by omega] at this
  rw [this]
  congr 1
  have h8 : x.toNat < 2 ^ 8 := by omega
  have := Nat.two_pow_add_eq_or_of_lt h8 A
  rw [show 2 ^ 8 * A = A * 256 by omega] at this
  exact this.symm
theorem info_rin : (Tryd.prog.info? 55).map (fun i => (i.zero, i.size, i.bytes)) = some (some (.agg #[.int .i64 0, .int .i64 0, .int .i64 0, .int .u64 0]), 4, 32) := by kernel_rfl
theorem box4_set3 {w : World} {b : Nat} {x0 x1 x2 x3 : Value} {t : TypeId} (h : w.heap[b]? = some (.cells #[x0, x1, x2, x3] t (0, 0))) (v3 : Value) :
    (w.setCell ⟨b, 3, none⟩ v3).heap[b]? = some (.cells #[x0, x1, x2, v3] t (0, 0)) := heap_setCell_same _ b 3 _ t v3 h
theorem box4_set2' {w : World} {b : Nat} {x0 x1 x2 x3 : Value} {t : TypeId} (h : w.heap[b]? = some (.cells #[x0, x1, x2, x3] t (0, 0))) (v2 : Value) :
    (w.setCell ⟨b, 2, none⟩ v2).heap[b]? = some (.cells #[x0, x1, v2, x3] t (0, 0)) := heap_setCell_same _ b 2 _ t v2 h
theorem size_le10' (op : Int) : sizeS op ≤ 10 := by
  have h := wd_le op
  unfold sizeS
  by_cases h1 : known op = true
  · rw [if_pos h1]
    by_cases h2 : op = 1
    · rw [if_pos h2]; omega
    · rw [if_neg h2]; omega
  · rw [if_neg h1]; omega
end Go.Proofs.YtphpmaimgndjmaaDoor.Cd
