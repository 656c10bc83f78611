/- Rows of expressions of the call's own; an element put anew (for FoldLifts). -/
import Derived.Test.YtbmaaaeipcopcaaFoL2
import Derived.Test.YtbmaaaeipcopcaaRwA
import Derived.Test.YtbmaaaeipcopcaaTyT
namespace Go.Proofs.Ytbmaaaeipcopcaa.Fo
open Go.RowKit Te
set_option linter.unusedSimpArgs false
set_option linter.unusedVariables false

/-- Two results, both in memory. -/
theorem results_cell_cell {fn : Func} {p u : Tmp} {ty ty2 : TypeId} (h : fn.results = #[.cell p ty, .cell u ty2]) (tmps : Array Value) (P : Program) (w : World) :
    (results fn tmps).run P w =
      ((asAddr (tmps.getD p undef)).run P w).andThen fun a w₁ => ((loadVar ty a).run P w₁).andThen fun v w₂ => ((asAddr (tmps.getD u undef)).run P w₂).andThen fun a2 w₃ => ((loadVar ty2 a2).run P w₃).andThen fun v2 w₄ => .ok (.tuple #[v, v2]) w₄ := by
  simp only [results, h]
  simp [Sem.run_bind, Result.andThen]
theorem info_ex2 : (Try.prog.info? 27).map (·.size) = some 7 := by kernel_rfl
theorem post_xx {fn : Func} {R : Ending → World → Prop} {a : Act} {w : World} {p u : Tmp} {g g2 : Nat} {h h2 : EH} {v v2 : Value} (hg : w.heap[g]? = some (exO h v)) (hg2 : w.heap[g2]? = some (exO h2 v2)) (hr : fn.results = #[.cell p 27, .cell u 27]) (hd : a.defers = [])
    (hp : a.tmps.getD p undef = .pointer (some ⟨g, 0, none⟩)) (hu : a.tmps.getD u undef = .pointer (some ⟨g2, 0, none⟩)) (hR : R (.returned (.tuple #[exV h v, exV h2 v2])) w) : bodyPost Try.prog fn R .ret a w := by
  refine ⟨hd, _, ?_, hR⟩
  rw [results_cell_cell hr, hp, hu]
  have hl : (loadVar 27 ⟨g, 0, none⟩).run Try.prog w = .ok (exV h v) w := run_loadVar_row _ _ _ _ _ _ _ hg Try.underlying27 rfl info_ex2
  have hl2 : (loadVar 27 ⟨g2, 0, none⟩).run Try.prog w = .ok (exV h2 v2) w := run_loadVar_row _ _ _ _ _ _ _ hg2 Try.underlying27 rfl info_ex2
  simp [asAddr, hl, hl2, Result.andThen]
/- A forest as a list. -/
def toL : Exs → List (EH × Exs)
  | .nil => []
  | .cons h k r => (h, k) :: toL r
theorem toL_len : ∀ k : Exs, (toL k).length = k.len
  | .nil => rfl
  | .cons h k r => by simp only [toL, List.length_cons, Exs.len, toL_len r]
theorem toL_get : ∀ (k : Exs) (i : Nat), (toL k)[i]? = getX k i
  | .nil, i => by cases i <;> rfl
  | .cons h k r, 0 => rfl
  | .cons h k r, i + 1 => by simpa [toL, getX] using toL_get r i
theorem toL_set : ∀ (k : Exs) (i : Nat) (y : EH × Exs), toL (setX k i y) = (toL k).set i y
  | .nil, _, _ => rfl
  | .cons h k r, 0, y => rfl
  | .cons h k r, i + 1, y => by simp only [setX, toL, toL_set r i y, List.set_cons_succ]
/-- An expression whose Kids lie in a world. -/
def RX (W : World) (y : EH × Exs) (c : List Value) : Prop := ∃ ao cap, ExL W ao cap y.2 ∧ c = exC y.1 (.slice ao y.2.len cap)
theorem exC_one (h : EH) (ao : Option Addr) (n cap : Nat) : ∀ u ∈ exC h (.slice ao n cap), u.oneCell' = true := by
  intro u hu
  simp only [exC, List.mem_cons, List.not_mem_nil, or_false] at hu
  rcases hu with rfl | rfl | rfl | rfl | rfl | rfl | rfl <;> rfl
theorem chunks_ex (W : World) (b : Nat) : ∀ (k : Exs) (off : Nat), ExA W k b off → ∃ cs, Rw.Chunks (RX W) 7 (toL k) cs ∧ (∀ (j : Nat) (u : Value), cs[j]? = some u → W.cell? ⟨b, off + j, none⟩ = some u) ∧ ∀ u ∈ cs, u.oneCell' = true
  | .nil, off, _ => ⟨[], rfl, fun j u h => by simp at h, fun u h => by simp at h⟩
  | .cons h k r, off, hA => by
    obtain ⟨ao, cap, h1, h2, c0, c1, c2, c3, c4, c5, c6⟩ := ex_row hA
    obtain ⟨cs, q1, q2, q3⟩ := chunks_ex W b r (off + 7) h2
    have hl : (exC h (.slice ao k.len cap)).length = 7 := rfl
    refine ⟨exC h (.slice ao k.len cap) ++ cs, ⟨_, _, rfl, rfl, ⟨ao, cap, h1, rfl⟩, q1⟩, fun j u hj => ?_, fun u hu => ?_⟩
    · by_cases hj7 : j < 7
      · rw [List.getElem?_append_left (by rw [hl]; exact hj7)] at hj
        rcases j with _ | _ | _ | _ | _ | _ | _ | j
        · cases hj; exact c0
        · cases hj; exact c1
        · cases hj; exact c2
        · cases hj; exact c3
        · cases hj; exact c4
        · cases hj; exact c5
        · cases hj; exact c6
        · omega
      · rw [List.getElem?_append_right (by rw [hl]; omega), hl] at hj
        have := q2 (j - 7) u hj
        rw [show off + 7 + (j - 7) = off + j by omega] at this
        exact this
    · rcases List.mem_append.1 hu with hu | hu
      · exact exC_one _ _ _ _ u hu
      · exact q3 u hu
/-- A row of expressions that can be read. -/
theorem exA_of {W w : World} {g : Nat} (hf : Fr FN W w) : ∀ (k : Exs) (off : Nat) (cs : List Value), Rw.Chunks (RX W) 7 (toL k) cs → (∀ (j : Nat) (u : Value), cs[j]? = some u → w.cell? ⟨g, off + j, none⟩ = some u) → ExA w k g off
  | .nil, _, _, _, _ => trivial
  | .cons h k r, off, cs, ⟨c, rest, e, h1, ⟨ao, cap, h2, hc⟩, h3⟩, hh => by
    subst e
    have hc : c = exC h (.slice ao k.len cap) := hc
    subst hc
    have ih := exA_of hf r (off + 7) rest h3 (fun j u hu => by
      have := hh (7 + j) u (by rw [List.getElem?_append_right (by rw [h1]; omega), h1, show 7 + j - 7 = j by omega]; exact hu)
      rw [show off + (7 + j) = off + 7 + j by omega] at this
      exact this)
    have hk := h2.keep hf
    refine ⟨⟨ao, cap, fun j u hu => hh j u ?_, hk.1, hk.2.1, hk.2.2⟩, ih⟩
    rw [List.getElem?_append_left (List.getElem?_eq_some_iff.1 hu).1]
    exact hu
end Go.Proofs.Ytbmaaaeipcopcaa.Fo
