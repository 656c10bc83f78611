/- A []api.Iface that comes in: how long it is. -/
import Derived.Test.YtpjahcncknccdaaGreatFoIn
import Derived.SizedLaws
namespace Go.Proofs.YtpjahcncknccdaaGreat.Fo
open Go.RowKit Te Go.ChangeShapes Go.WideShapes
set_option linter.unusedSimpArgs false
set_option linter.unusedVariables false
variable {H : Type} {enc : TypeId × Value → H} {W : World}
theorem ifaces_size {fuel : Nat} {l : List Ty.Fc} {c : Value} {x : DataW H × List MemPlace} (ht : DataW.trod enc Tryz.prog W 0 (fun _ => true) true fuel 40 [c] = some x) (hI : FcL W c l) (hw : ∀ n ∈ x.1.weights Tryz.prog 40, n ≤ reachBytes) : l.length * 40 ≤ 140737488351232 ∧ ∀ cap, c = .slice none l.length cap → cap = 0 := by
  obtain ⟨ao, cap, rfl, _⟩ := hI
  rcases Ty.open_sl Tryz.underlying40 ht with h0 | ⟨a, len, cap2, n2, el, rest, hfu, h0, _, _, hx, hl, hel⟩
  · simp only [Value.slice.injEq] at h0
    refine ⟨by rw [h0.2.1]; simp, fun cap' e => ?_⟩
    simp only [Value.slice.injEq] at e
    rw [← e.2.2, h0.2.2]
  · simp only [Value.slice.injEq] at h0
    have hb : Tryz.prog.bytesOf 24 = 40 := by kernel_rfl
    have e : x.1.weights Tryz.prog 40 = (el.length + rest.length) * Tryz.prog.bytesOf 24 :: (DataW.weightsAll Tryz.prog 24 (el.map (·.1)) ++ DataW.weightsAll Tryz.prog 24 (rest.map (·.1))) := by
      rw [hx]
      simp only [DataW.weights, Tryz.underlying40, List.length_map]
    rw [e] at hw
    have := hw _ (List.mem_cons_self ..)
    rw [hb] at this
    unfold reachBytes at this
    refine ⟨by omega, fun cap' e => ?_⟩
    simp only [Value.slice.injEq] at e
    rw [h0.1] at e
    cases e.1
end Go.Proofs.YtpjahcncknccdaaGreat.Fo
