/- IntsExact walked, for any two numbers. -/
import Derived.Test.YtoofbbojaoiadaaDoorInExact
namespace Go.Proofs.YtoofbbojaoiadaaDoor
open Go.RowKit
set_option linter.unusedSimpArgs false
set_option linter.unusedVariables false

theorem intsExact.walk (a b : Int) (w0 : (Lit.int .i64 a).wf = true) (w1 : (Lit.int .i64 b).wf = true) (w : World) (ht : Tab w) :
    Calls Tryd.prog 6 #[.int .i64 a, .int .i64 b] w fun e w' => e = .returned (.bool true) ∧ Kb w w' := by
  have ha := wf_I w0
  have hb := wf_I w1
  have e := am_mul a b
  have hbd : ∀ z : Int, I64 z → 0 ≤ amS z ∧ amS z < 18446744073709551616 := by
    intro z hz
    obtain ⟨_, _⟩ := hz
    unfold amS
    split <;> omega
  exact exact_walk a b (amS (a * b) / 18446744073709551616) (amS (a * b) % 18446744073709551616) (fitV (a * b)) (fitE (a * b)) 0 0 (amS a) (amS b) (fit (a * b)) (mnS a b) ha hb (fitV_I _) rfl rfl (hbd a ha).1 (hbd a ha).2 (hbd b hb).1 (hbd b hb).2 (by rw [e]) (by rw [e]) rfl rfl rfl
    (fit_prod a b ha hb _ _ rfl rfl) (ex_prod a b ha hb _ _ rfl rfl) w ht
end Go.Proofs.YtoofbbojaoiadaaDoor
