/- Letters, digits, reserved words, names. -/
import Derived.Test.YtlbcneoebamjiabNmTx
namespace Go.Proofs.Ytlbcneoebamjiab
open Go.RowKit Go.Sort
set_option linter.unusedSimpArgs false
set_option linter.unusedVariables false

def letB (n : Nat) : Bool := (decide (97 ≤ n) && decide (n ≤ 122)) || (decide (65 ≤ n) && decide (n ≤ 90)) || n == 95
def digB (n : Nat) : Bool := decide (48 ≤ n) && decide (n ≤ 57)

theorem ret_bool {a b : Bool} (h : a = true ↔ b = true) : Ending.returned (.bool a) = .returned (.bool b) := by rw [Bool.eq_iff_iff.2 h]

theorem letter_any (n : Nat) (r : Bool) (hr : Hidden (letB n = r)) (w : World) :
    Calls Try.prog 19 #[.int .u8 (n : Int)] w fun e w' => e = .returned (.bool r) ∧ w' = w := by
  go_enter Try.func19, Try.ntmps19
  go_wp2
  all_goals (go_ret; refine ⟨?_, rfl⟩; rw [← (show letB n = r from hr)]; clear hr; refine ret_bool ?_; simp [letB]; try omega)
theorem digit_any (n : Nat) (r : Bool) (hr : Hidden (digB n = r)) (w : World) :
    Calls Try.prog 20 #[.int .u8 (n : Int)] w fun e w' => e = .returned (.bool r) ∧ w' = w := by
  go_enter Try.func20, Try.ntmps20
  go_wp2
  all_goals (go_ret; refine ⟨?_, rfl⟩; rw [← (show digB n = r from hr)]; clear hr; refine ret_bool ?_; simp [digB]; try omega)
end Go.Proofs.Ytlbcneoebamjiab
