/- fold.Decls: what its values are. -/
import Derived.Test.YtpjahcncknccdaaGreatFoQ3
namespace Go.Proofs.YtpjahcncknccdaaGreat.Fo
open Go.RowKit Te
set_option linter.unusedSimpArgs false
set_option linter.unusedVariables false

theorem evalS_b (l : List Con) (hok : ∀ c ∈ l, U64 c.b) (h : EH) (hh : OkE h) (k : Exs) (hk : OkX k) : U64 (evalS l h k).1.2 := by
  have hz : U64 0 := ⟨by decide, by decide⟩
  unfold evalS
  split
  · have hu := evX_U l hok h hh k hk
    generalize evX l h k = E at hu ⊢
    cases E with
    | ok v => exact hu v rfl
    | flt c => exact hz
    | trp c => exact hz
  · exact hz
theorem valAt_b {d : De} (od : OkD d) (l : List Con) (hok : ∀ c ∈ l, U64 c.b) : U64 (valAt d l).1.2 := by
  have hz : U64 0 := ⟨by decide, by decide⟩
  have oe := od.e
  unfold valAt
  split
  · rename_i h k e
    rw [e] at oe
    have := evalS_b l hok h oe.1 k oe.2.1
    split
    · exact hz
    · split
      · exact hz
      · exact this
  · exact hz
theorem size_con (u : World) : (sizeOf 123).run Tryz.prog u = .ok 4 u := by
  simp [sizeOf, go_sem]
  rfl
/-- What a row holds from a place on. -/
theorem slice_from_row (kg L kc f : Nat) (h : f ≤ L) : ∃ ao', (f < kc → ao' = some ⟨kg, f * 4, none⟩) ∧ ∀ u : World, (Instr.slice 82 (.slice (some ⟨kg, 0, none⟩) L kc) (some (.int .i64 (f : Int))) none none).run Tryz.prog u = .ok (.slice ao' (L - f) (kc - f)) u := by
  refine ⟨if kc = f then some ⟨kg, 0, none⟩ else some ⟨kg, f * 4, none⟩, fun hf => by rw [if_neg (by omega)], fun u => ?_⟩
  have he : Tryz.prog.elem 82 = 123 := by kernel_rfl
  rw [run_slice_l u _ _ _ _ (by rw [he]; exact Tryz.underlying82) .i64 (f : Int) (by omega) (by omega), he, size_con u]
  simp only [Result.andThen, sliced, Int.toNat_natCast]
  by_cases hk : kc = f
  · simp [hk]
  · simp [hk, Addr.add_lit]
end Go.Proofs.YtpjahcncknccdaaGreat.Fo
