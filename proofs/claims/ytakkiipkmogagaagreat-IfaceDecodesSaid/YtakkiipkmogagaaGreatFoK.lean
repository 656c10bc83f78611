/- Rows of constants of the call's own; Own. -/
import Derived.Test.YtakkiipkmogagaaGreatFoBll
import Derived.Test.YtakkiipkmogagaaGreatRwA
namespace Go.Proofs.YtakkiipkmogagaaGreat.Fo
open Go.RowKit Te
set_option linter.unusedSimpArgs false
set_option linter.unusedVariables false

def RC (c : Con) (cs : List Value) : Prop := cs = coC c
/-- A row of constants of the call's own. -/
abbrev CoW (w : World) (B : Nat) (v : Value) (l : List Con) : Prop := Rw.Row RC 137 4 w B v l
theorem info_con : (Tryz.prog.info? 137).map (fun i => (i.zero, i.size, i.bytes)) = some (some (.agg #[.string ⟨#[]⟩, .string ⟨#[]⟩, .int .i64 0, .int .u64 0]), 4, 48) := by kernel_rfl
theorem CoW.col {w : World} {B : Nat} {v : Value} {l : List Con} (h : CoW w B v l) : ∃ ao cap, v = .slice ao l.length cap ∧ CoL w ao cap l := by
  obtain ⟨ao, cap, h1, h2, h3, h4⟩ := h.slice
  refine ⟨ao, cap, h1, h2, h3, ?_⟩
  rcases h4 with h4 | ⟨g, rfl, hc⟩
  · exact Or.inl h4
  · refine Or.inr ⟨g, 0, rfl, fun i x hx j u hu => ?_⟩
    obtain ⟨c, h5, _, h6⟩ := hc i x hx
    have h5 : c = coC x := h5
    subst h5
    rw [Nat.zero_add]
    exact h6 j u hu
theorem CoW.none (w : World) (B : Nat) : CoW w B (.slice none 0 0) [] := ⟨[], ⟨by simp, Or.inl ⟨rfl, rfl⟩⟩, rfl⟩
theorem CoW.keepN {w w' : World} {B : Nat} {v : Value} {l : List Con} (h : CoW w B v l) (hf : Fr FN w w') : CoW w' B v l := h.keep hf (fun _ _ f => f)
theorem chunk1 (c : Con) : Rw.Chunks RC 4 [c] (coC c) := ⟨coC c, [], by simp, rfl, rfl, rfl⟩
theorem coC_one (c : Con) : ∀ u ∈ coC c, u.oneCell' = true := by
  intro u hu
  simp only [coC, List.mem_cons, List.not_mem_nil, or_false] at hu
  rcases hu with rfl | rfl | rfl | rfl <;> rfl
theorem co_row {w : World} {g : Nat} {c : Con} {t : TypeId} (h : w.heap[g]? = some (.cells #[ct c.mod, ct c.name, ci c.t, .int .u64 c.b] t (0, 0))) : ∀ (j : Nat) (u : Value), (coC c)[j]? = some u → w.cell? ((⟨g, 0, none⟩ : Addr).add j) = some u := by
  intro j u hu
  rcases j with _ | _ | _ | _ | j
  · cases hu; exact cell_of_row _ _ 0 _ _ _ h
  · cases hu; exact cell_of_row _ _ 1 _ _ _ h
  · cases hu; exact cell_of_row _ _ 2 _ _ _ h
  · cases hu; exact cell_of_row _ _ 3 _ _ _ h
  · simp [coC] at hu
theorem take_snoc {α : Type} {l : List α} {i : Nat} {c : α} (h : l[i]? = some c) : l.take (i + 1) = l.take i ++ [c] := by
  rw [List.take_add_one, h]; rfl
end Go.Proofs.YtakkiipkmogagaaGreat.Fo
