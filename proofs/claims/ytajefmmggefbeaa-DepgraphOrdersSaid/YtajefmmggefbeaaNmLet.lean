/- Letters, digits, reserved words, names. -/
import Derived.Test.YtajefmmggefbeaaNmTx
namespace Go.Proofs.Ytajefmmggefbeaa
open Go.RowKit Go.Sort
set_option linter.unusedSimpArgs false
set_option linter.unusedVariables false

def letB (n : Nat) : Bool := (decide (97 ≤ n) && decide (n ≤ 122)) || (decide (65 ≤ n) && decide (n ≤ 90)) || n == 95
def digB (n : Nat) : Bool := decide (48 ≤ n) && decide (n ≤ 57)

theorem ret_bool {a b : Bool} (h : a = true ↔ b = true) : Ending.returned (.bool a) = .returned (.bool b) := by rw [Bool.eq_iff_iff.2 h]

theorem letter_any (n : Nat) (r : Bool) (hr : Hidden (letB n = r)) (w : World) :
    Calls Try.prog 103 #[.int .u8 (n : Int)] w fun e w' => e = .returned (.bool r) ∧ w' = w := by
  go_enter Try.func103, Try.ntmps103
  go_wp2
  all_goals (go_ret; refine ⟨?_, rfl⟩; rw [← (show letB n = r from hr)]; clear hr; refine ret_bool ?_; simp [letB]; try omega)
theorem digit_any (n : Nat) (r : Bool) (hr : Hidden (digB n = r)) (w : World) :
    Calls Try.prog 104 #[.int .u8 (n : Int)] w fun e w' => e = .returned (.bool r) ∧ w' = w := by
  go_enter Try.func104, Try.ntmps104
  go_wp2
  all_goals (go_ret; refine ⟨?_, rfl⟩; rw [← (show digB n = r from hr)]; clear hr; refine ret_bool ?_; simp [digB]; try omega)
theorem rletter_any (n : Nat) (r : Bool) (hr : Hidden (letB n = r)) (w : World) :
    Calls Try.prog 73 #[.int .u8 (n : Int)] w fun e w' => e = .returned (.bool r) ∧ w' = w := by
  go_enter Try.func73, Try.ntmps73
  go_wp2
  all_goals (go_ret; refine ⟨?_, rfl⟩; rw [← (show letB n = r from hr)]; clear hr; refine ret_bool ?_; simp [letB]; try omega)
theorem rdigit_any (n : Nat) (r : Bool) (hr : Hidden (digB n = r)) (w : World) :
    Calls Try.prog 74 #[.int .u8 (n : Int)] w fun e w' => e = .returned (.bool r) ∧ w' = w := by
  go_enter Try.func74, Try.ntmps74
  go_wp2
  all_goals (go_ret; refine ⟨?_, rfl⟩; rw [← (show digB n = r from hr)]; clear hr; refine ret_bool ?_; simp [digB]; try omega)
end Go.Proofs.Ytajefmmggefbeaa
