/- A declaration that comes in; how much memory a module's declarations take. -/
import Derived.Test.YtncachlopnpcjaaGreatDoorTrIn
import Derived.Test.YtncachlopnpcjaaGreatDoorRwA
import Derived.SizedLaws
namespace Go.Proofs.YtncachlopnpcjaaGreatDoor
open Go.RowKit Te
set_option linter.unusedSimpArgs false
set_option linter.unusedVariables false
/-- A declaration by itself. -/
def DeV (w : World) (d : De) (v : Value) : Prop := ∃ pv ev bv, v = deV d pv ev bv ∧ DeI w d pv ev bv
theorem DeV.keep {w w' : World} {d : De} {v : Value} (h : DeV w d v) (hf : Fr (fun _ => False) w w') : DeV w' d v := by
  obtain ⟨pv, ev, bv, h1, h2⟩ := h
  exact ⟨pv, ev, bv, h1, h2.keep hf⟩
end Go.Proofs.YtncachlopnpcjaaGreatDoor
namespace Go.Proofs.YtncachlopnpcjaaGreatDoor.In
open Go.RowKit Te
set_option linter.unusedSimpArgs false
set_option linter.unusedVariables false
variable {H : Type} {enc : TypeId × Value → H} {W : World}
theorem de_arg {fuel : Nat} {v : Value} {x : DataW H × List MemPlace} (h : DataW.trod enc Tryz.prog W 0 (fun _ => true) true fuel 47 v.cells.toList = some x) : ∃ (d : De), DeV W d v ∧ OkD d ∧ bkD d ≤ bulk x + 1 := by
  have hl : v.cells.toList.length = 7 := by
    obtain ⟨xs, n, _, _, hlen, _⟩ := DataW.trod_struct Tryz.underlying47 h
    rw [cells_de] at hlen
    exact hlen
  have hv : v = .agg v.cells.toList.toArray := by
    cases v with
    | agg cs => simp [Value.cells]
    | _ => simp [Value.cells] at hl
  obtain ⟨d, pv, ev, bv, h1, h2, h3, h4⟩ := de_in h
  refine ⟨d, ⟨pv, ev, bv, ?_, h2⟩, h3, ?_⟩
  · rw [hv, h1]
    rfl
  · unfold bkD
    unfold bulk at *
    omega
set_option maxRecDepth 20000 in
theorem mo_size {fuel : Nat} {m : Mo} {v : Value} {x : DataW H × List MemPlace} (h : DataW.trod enc Tryz.prog W 0 (fun _ => true) true fuel 25 v.cells.toList = some x) (hm : MoI W m v) (hw : ∀ n ∈ x.1.weights Tryz.prog 25, n ≤ reachBytes) : m.decls.length * 112 ≤ reachBytes := by
  obtain ⟨ao, cap, ao', cap', rfl, _, _⟩ := hm
  obtain ⟨xs, n, rfl, rfl, hlen, hxl, hf⟩ := DataW.trod_struct Tryz.underlying25 h
  have hxl : xs.length = 3 := hxl
  match xs, hxl with
  | [x0, x1, x2], _ =>
    have f2 : DataW.trod enc Tryz.prog W 0 (fun _ => true) true n 23 [.slice ao' m.decls.length cap'] = some x2 := by
      have : DataW.trod enc Tryz.prog W 0 (fun _ => true) true n 23 (((moV m ao cap ao' cap').cells.toList.drop 2).take (Tryz.prog.cellsOf 23)) = some x2 := hf 2 _ rfl
      rw [cells_des] at this
      exact this
    rcases open_sl Tryz.underlying23 f2 with h0 | ⟨a, len, cap2, n2, el, rest, _, h0, _, _, hx, hl, _⟩
    · simp only [Value.slice.injEq] at h0
      rw [h0.2.1]
      simp
    · simp only [Value.slice.injEq] at h0
      have hb : Tryz.prog.bytesOf 47 = 112 := by kernel_rfl
      have hmem : (el.length + rest.length) * Tryz.prog.bytesOf 47 ∈ (DataW.agg ([x0, x1, x2].map (·.1))).weights Tryz.prog 25 := by
        simp only [DataW.weights, Tryz.underlying25, List.map_cons, List.map_nil, DataW.weightsEach, hx, Tryz.underlying23]
        simp
      have := hw _ hmem
      rw [hb, hl] at this
      rw [h0.2.1]
      omega
set_option maxRecDepth 20000 in
/-- A module's declarations that lie nowhere have no room. -/
theorem mo_nil {fuel : Nat} {m : Mo} {ao : Option Addr} {cap cap' : Nat} {x : DataW H × List MemPlace} (h : DataW.trod enc Tryz.prog W 0 (fun _ => true) true fuel 25 (moV m ao cap none cap').cells.toList = some x) : cap' = 0 := by
  obtain ⟨xs, n, rfl, rfl, hlen, hxl, hf⟩ := DataW.trod_struct Tryz.underlying25 h
  have hxl : xs.length = 3 := hxl
  match xs, hxl with
  | [x0, x1, x2], _ =>
    have f2 : DataW.trod enc Tryz.prog W 0 (fun _ => true) true n 23 [.slice none m.decls.length cap'] = some x2 := by
      have : DataW.trod enc Tryz.prog W 0 (fun _ => true) true n 23 (((moV m ao cap none cap').cells.toList.drop 2).take (Tryz.prog.cellsOf 23)) = some x2 := hf 2 _ rfl
      rw [cells_des] at this
      exact this
    rcases open_sl Tryz.underlying23 f2 with h0 | ⟨a, len, cap2, n2, el, rest, _, h0, _⟩
    · simp only [Value.slice.injEq] at h0
      exact h0.2.2
    · simp at h0
end Go.Proofs.YtncachlopnpcjaaGreatDoor.In
