/- Letters, digits, reserved words, names. -/
import Derived.Test.YtdnghklfeldbpaaNmTx
namespace Go.Proofs.Ytdnghklfeldbpaa
open Go.RowKit Go.Sort
set_option linter.unusedSimpArgs false
set_option linter.unusedVariables false

def letB (n : Nat) : Bool := (decide (97 ≤ n) && decide (n ≤ 122)) || (decide (65 ≤ n) && decide (n ≤ 90)) || n == 95
def digB (n : Nat) : Bool := decide (48 ≤ n) && decide (n ≤ 57)

theorem ret_bool {a b : Bool} (h : a = true ↔ b = true) : Ending.returned (.bool a) = .returned (.bool b) := by rw [Bool.eq_iff_iff.2 h]

theorem letter_any (n : Nat) (r : Bool) (hr : Hidden (letB n = r)) (w : World) :
    Calls Try.prog 109 #[.int .u8 (n : Int)] w fun e w' => e = .returned (.bool r) ∧ w' = w := by
  go_enter Try.func109, Try.ntmps109
  go_wp2
  all_goals (go_ret; refine ⟨?_, rfl⟩; rw [← (show letB n = r from hr)]; clear hr; refine ret_bool ?_; simp [letB]; try omega)
theorem digit_any (n : Nat) (r : Bool) (hr : Hidden (digB n = r)) (w : World) :
    Calls Try.prog 110 #[.int .u8 (n : Int)] w fun e w' => e = .returned (.bool r) ∧ w' = w := by
  go_enter Try.func110, Try.ntmps110
  go_wp2
  all_goals (go_ret; refine ⟨?_, rfl⟩; rw [← (show digB n = r from hr)]; clear hr; refine ret_bool ?_; simp [digB]; try omega)
theorem rletter_any (n : Nat) (r : Bool) (hr : Hidden (letB n = r)) (w : World) :
    Calls Try.prog 80 #[.int .u8 (n : Int)] w fun e w' => e = .returned (.bool r) ∧ w' = w := by
  go_enter Try.func80, Try.ntmps80
  go_wp2
  all_goals (go_ret; refine ⟨?_, rfl⟩; rw [← (show letB n = r from hr)]; clear hr; refine ret_bool ?_; simp [letB]; try omega)
theorem rdigit_any (n : Nat) (r : Bool) (hr : Hidden (digB n = r)) (w : World) :
    Calls Try.prog 81 #[.int .u8 (n : Int)] w fun e w' => e = .returned (.bool r) ∧ w' = w := by
  go_enter Try.func81, Try.ntmps81
  go_wp2
  all_goals (go_ret; refine ⟨?_, rfl⟩; rw [← (show digB n = r from hr)]; clear hr; refine ret_bool ?_; simp [digB]; try omega)
end Go.Proofs.Ytdnghklfeldbpaa
