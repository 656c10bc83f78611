/- The law's lifted: a step (for FoldLifts). -/
import Derived.Test.YtbmaaaeipcopcaaFoL5
namespace Go.Proofs.Ytbmaaaeipcopcaa.Fo
open Go.RowKit Te
set_option linter.unusedSimpArgs false
set_option linter.unusedVariables false

/-- What stands behind the region: both boxes, in whatever order they were made. -/
def EndR (T : Nat) (W0 : World) (X P : EH × Exs) (p9 p10 : Value) (wx : World) : Prop := ∃ g9 g10 a1 c1 a2 c2, p9 = .pointer (some ⟨g9, 0, none⟩) ∧ p10 = .pointer (some ⟨g10, 0, none⟩) ∧ wx.heap[g9]? = some (exO X.1 (.slice a1 X.2.len c1)) ∧ wx.heap[g10]? = some (exO P.1 (.slice a2 P.2.len c2)) ∧ KpX wx (fun b => T ≤ b ∧ b < W0.heap.size) a1 c1 X.2 ∧ KpX wx (fun b => T ≤ b ∧ b < W0.heap.size) a2 c2 P.2 ∧ W0.heap.size ≤ g9 ∧ W0.heap.size ≤ g10 ∧ g9 ≠ g10 ∧ Fr FN W0 wx
section
variable {T n : Nat} {W0 w6 : World} {X P : EH × Exs} {a1 a2 : Option Addr} {c1 c2 : Nat}
/-- Kept over stores into boxes that were there ahead of the call. -/
theorem KpX.over {wx : World} {S : Nat → Prop} {ao : Option Addr} {cap : Nat} {k : Exs} (h : KpX w6 (fun b => T ≤ b ∧ b < n) ao cap k) (hf : Fr S w6 wx) (hS : ∀ b, b < w6.heap.size → S b → T ≤ b ∧ b < n) (hn : W0.heap.size ≤ n) : KpX wx (fun b => T ≤ b ∧ b < W0.heap.size) ao cap k :=
  fun w'' g => h w'' ((hf.mono hS).trans g (fun b _ hb => ⟨hb.1, by omega⟩))
theorem end_1 (g6 : Fr FN W0 w6) (hn : W0.heap.size ≤ n) (hx : KpX w6 (fun b => T ≤ b ∧ b < n) a1 c1 X.2) (hp : KpX w6 (fun b => T ≤ b ∧ b < n) a2 c2 P.2) :
    EndR T W0 X P (.pointer (some ⟨w6.heap.size, 0, none⟩)) (.pointer (some ⟨w6.heap.size + 1, 0, none⟩)) ((w6.alloc (exO X.1 (.slice a1 X.2.len c1))).alloc (exO P.1 (.slice a2 P.2.len c2))) := by
  have f := (Fr.alloc FN w6 (exO X.1 (.slice a1 X.2.len c1))).same (Fr.alloc FN _ (exO P.1 (.slice a2 P.2.len c2)))
  exact ⟨_, _, a1, c1, a2, c2, rfl, rfl, (alloc_old _ _ _ (by simp)).trans (alloc_new _ _), alloc_at _ _ _ (by simp), hx.over f (fun _ _ h => h.elim) hn, hp.over f (fun _ _ h => h.elim) hn, g6.size, Nat.le_succ_of_le g6.size, by omega, g6.same f⟩
theorem end_2 (g6 : Fr FN W0 w6) (hn : W0.heap.size ≤ n) (hx : KpX w6 (fun b => T ≤ b ∧ b < n) a1 c1 X.2) (hp : KpX w6 (fun b => T ≤ b ∧ b < n) a2 c2 P.2) :
    EndR T W0 X P (.pointer (some ⟨w6.heap.size + 1, 0, none⟩)) (.pointer (some ⟨w6.heap.size, 0, none⟩)) ((w6.alloc (exO P.1 (.slice a2 P.2.len c2))).alloc (exO X.1 (.slice a1 X.2.len c1))) := by
  have f := (Fr.alloc FN w6 (exO P.1 (.slice a2 P.2.len c2))).same (Fr.alloc FN _ (exO X.1 (.slice a1 X.2.len c1)))
  exact ⟨_, _, a1, c1, a2, c2, rfl, rfl, alloc_at _ _ _ (by simp), (alloc_old _ _ _ (by simp)).trans (alloc_new _ _), hx.over f (fun _ _ h => h.elim) hn, hp.over f (fun _ _ h => h.elim) hn, Nat.le_succ_of_le g6.size, g6.size, by omega, g6.same f⟩
/-- A box that was made ahead, stored into; then the other one. -/
theorem end_s {g9 g10 : Nat} {wx : World} {S : Nat → Prop} (hf : Fr S w6 wx) (hS : ∀ b, S b → W0.heap.size ≤ b ∧ (b < w6.heap.size → b < n)) (h9 : wx.heap[g9]? = some (exO X.1 (.slice a1 X.2.len c1))) (h10 : wx.heap[g10]? = some (exO P.1 (.slice a2 P.2.len c2))) (b9 : W0.heap.size ≤ g9) (b10 : W0.heap.size ≤ g10) (hne : g9 ≠ g10)
    (g6 : Fr FN W0 w6) (hn : W0.heap.size ≤ n) (hx : KpX w6 (fun b => T ≤ b ∧ b < n) a1 c1 X.2) (hp : KpX w6 (fun b => T ≤ b ∧ b < n) a2 c2 P.2) (hT : T ≤ W0.heap.size) :
    EndR T W0 X P (.pointer (some ⟨g9, 0, none⟩)) (.pointer (some ⟨g10, 0, none⟩)) wx := by
  refine ⟨g9, g10, a1, c1, a2, c2, rfl, rfl, h9, h10, hx.over hf (fun b hb h => ?_) hn, hp.over hf (fun b hb h => ?_) hn, b9, b10, hne, g6.over hf (fun b h => (hS b h).1)⟩
  · have := hS b h; exact ⟨by omega, this.2 hb⟩
  · have := hS b h; exact ⟨by omega, this.2 hb⟩
end
end Go.Proofs.Ytbmaaaeipcopcaa.Fo
