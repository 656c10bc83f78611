/- The law's whole, and what must come at any rate. -/
import Derived.Test.YtakkiipkmogagaaGreatFoBll
namespace Go.Proofs.YtakkiipkmogagaaGreat.Fo
open Go.RowKit Te
set_option linter.unusedSimpArgs false
set_option linter.unusedVariables false

theorem bin_is (op : Int) (ta va tb vb t v q : Int) (ha : U64 va) (hb : U64 vb) (h : binF op (ta, va) (tb, vb) = ((t, v), q)) (w : World) :
    Calls Tryz.prog 173 #[ci op, .agg #[.int .i64 ta, .int .u64 va], .agg #[.int .i64 tb, .int .u64 vb]] w fun r w' => r = .returned (.tuple #[.agg #[.int .i64 t, .int .u64 v], ci q]) ∧ Fr FN w w' := by
  have k := bin_any op (ta, va) (tb, vb) ha hb w
  rw [h] at k
  exact k
theorem eval_is (l : List Con) (hok : ∀ c ∈ l, U64 c.b) (h : EH) (k : Exs) (v : Value) (la : Option Addr) (lc : Nat) (w : World) (ho : OkE h) (hx : OkX k) (hv : ExI w h k v) (hl : CoL w la lc l) (t b c : Int) (he : evalS l h k = ((t, b), c)) :
    Calls Tryz.prog 114 #[v, .slice la l.length lc] w fun e w' => e = .returned (.tuple #[.agg #[.int .i64 t, .int .u64 b], ci c]) ∧ Fr FN w w' := by
  have kk := eval_any l hok h k v la lc w ho hx hv hl
  rw [he] at kk
  exact kk
theorem al_1 : binF 4 (1, 18446744073709551609) (1, 2) = ((1, 18446744073709551613), 0) := by decide +kernel
theorem al_2 : binF 1 (1, 9223372036854775807) (1, 1) = ((0, 0), 1) := by decide +kernel
theorem al_3 : evalS [⟨[], [120], 1, 5⟩] ⟨2, 0, [], [120], 0, 0⟩ .nil = ((1, 5), 0) := by decide +kernel
theorem al_4 : evalS [] ⟨8, 0, [], [], 0, 0⟩ .nil = ((0, 0), 25) := by decide +kernel
theorem okE_2 : OkE ⟨2, 0, [], [120], 0, 0⟩ := ⟨by constructor <;> decide, by constructor <;> decide, by constructor <;> decide, by decide, by decide, by unfold OkN; decide, by unfold OkN; decide⟩
theorem okE_8 : OkE ⟨8, 0, [], [], 0, 0⟩ := ⟨by constructor <;> decide, by constructor <;> decide, by constructor <;> decide, by decide, by decide, by unfold OkN; decide, by unfold OkN; decide⟩
theorem exI_nil (w : World) (h : EH) : ExI w h .nil (exV h (.slice none 0 0)) := ⟨none, 0, rfl, Nat.le_refl _, by unfold maxLen; omega, Or.inl rfl⟩
theorem co_one {w : World} {g : Nat} {c : Con} (h : w.heap[g]? = some (coO c)) : CoL w (some ⟨g, 0, none⟩) 1 [c] := by
  refine ⟨Nat.le_refl _, by unfold maxLen; omega, Or.inr ⟨g, 0, rfl, fun i x hx j u hu => ?_⟩⟩
  rcases i with _ | i
  · cases hx
    rcases j with _ | _ | _ | _ | j
    · cases hu; exact cell_of_row _ _ 0 _ _ _ h
    · cases hu; exact cell_of_row _ _ 1 _ _ _ h
    · cases hu; exact cell_of_row _ _ 2 _ _ _ h
    · cases hu; exact cell_of_row _ _ 3 _ _ _ h
    · simp [coC] at hu
  · simp at hx
end Go.Proofs.YtakkiipkmogagaaGreat.Fo
