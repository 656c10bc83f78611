/- The chapter's examples that every statement of layer 2 begins with. -/
import Derived.Test.YtoofbbojaoiadabDoorInRead2
namespace Go.Proofs.YtoofbbojaoiadabDoor
open Go.RowKit
set_option linter.unusedSimpArgs false
set_option linter.unusedVariables false

theorem wf_I {a : Int} (h : (Lit.int .i64 a).wf = true) : I64 a := by
  simp only [Lit.wf, Bool.and_eq_true, decide_eq_true_eq] at h
  have h1 := h.1
  have h2 := h.2
  simp [IntKind.min, IntKind.signed, IntKind.bits] at h1
  simp [IntKind.max, IntKind.signed, IntKind.bits] at h2
  exact ⟨by omega, by omega⟩

set_option maxRecDepth 20000 in
theorem live_any (w : World) (ht : Tab w) :
    Calls Tryd.prog 6 #[] w fun e w' => e = .returned (.bool true) ∧ Kb w w' := by
  have k1 := mul_any (-4611686018427387904) 2 ⟨by omega, by omega⟩ ⟨by omega, by omega⟩
  rw [show fitV (-4611686018427387904 * 2) = -9223372036854775808 by decide, show fitE (-4611686018427387904 * 2) = 0 by decide] at k1
  have k2 := add_any 9223372036854775807 1 ⟨by omega, by omega⟩ ⟨by omega, by omega⟩
  rw [show fitV (9223372036854775807 + 1) = 0 by decide, show fitE (9223372036854775807 + 1) = 80 by decide] at k2
  have k3 := div_any (-7) 2 ⟨by omega, by omega⟩ ⟨by omega, by omega⟩
  rw [show divV (-7) 2 = -3 by decide, show divE (-7) 2 = 0 by decide] at k3
  have hr : readS [45, 57, 50, 50, 51, 51, 55, 50, 48, 51, 54, 56, 53, 52, 55, 55, 53, 56, 48, 56] = (-9223372036854775808, 0, 0) := by decide
  have k4 := read_any [45, 57, 50, 50, 51, 51, 55, 50, 48, 51, 54, 56, 53, 52, 55, 55, 53, 56, 48, 56] _ _ _ hr (by decide)
  have k5 := dec_any (-40) ⟨by omega, by omega⟩
  have hd : Lib.itoa (-40) = [45, 52, 48] := by
    unfold Lib.itoa
    rw [if_pos (by omega), show (-40 : Int).natAbs = 40 from rfl, Lib.decDigits_two (by omega) (by omega)]
    rfl
  rw [hd] at k5
  clear hr hd
  go_enter Tryd.func6, Tryd.ntmps6
  go_wp2_with (first
    | (go_at_call 8; refine (k1 _).mono ?_; rintro e w' ⟨rfl, rfl⟩)
    | (go_at_call 7; refine (k2 _).mono ?_; rintro e w' ⟨rfl, rfl⟩)
    | (go_at_call 12; refine (k3 _).mono ?_; rintro e w' ⟨rfl, rfl⟩)
    | (go_at_call 13; refine (k4 _).mono ?_; rintro e w' ⟨rfl, g1⟩; have ht1 := tab_kb ht g1)
    | (go_at_call 14; refine (k5 _ (by with_reducible assumption)).mono ?_; rintro e w' ⟨rfl, g2⟩))
  go_ret
  exact ⟨rfl, g1.trans g2⟩
end Go.Proofs.YtoofbbojaoiadabDoor
