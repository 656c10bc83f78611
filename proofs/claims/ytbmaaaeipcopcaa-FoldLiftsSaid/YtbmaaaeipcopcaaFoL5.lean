/- The law's lifted (for FoldLifts). -/
import Derived.Test.YtbmaaaeipcopcaaFoL4
import Derived.Deep.DeepCutAuto
namespace Go.Proofs.Ytbmaaaeipcopcaa.Fo
open Go.RowKit Te
set_option linter.unusedSimpArgs false
set_option linter.unusedVariables false

abbrev zE : Obj := exO ⟨0, 0, [], [], 0, 0⟩ (.slice none 0 0)
/-- A row of truths. -/
def BoR (w : World) (ao : Option Addr) (cap : Nat) (l : List Bool) : Prop := l.length ≤ cap ∧ cap ≤ maxLen ∧ (l = [] ∨ ∃ b off, ao = some ⟨b, off, none⟩ ∧ ∀ (i : Nat) (x : Bool), l[i]? = some x → w.cell? ⟨b, off + i, none⟩ = some (.bool x))
theorem BoR.keep {w w' : World} {ao : Option Addr} {cap : Nat} {l : List Bool} (h : BoR w ao cap l) (hf : Fr FN w w') : BoR w' ao cap l := by
  obtain ⟨h1, h2, h4⟩ := h
  refine ⟨h1, h2, ?_⟩
  rcases h4 with h4 | ⟨b, off, rfl, h4⟩
  · exact Or.inl h4
  · exact Or.inr ⟨b, off, rfl, fun i x hx => hf.cellN (h4 i x hx)⟩
theorem BoR.tail {w : World} {b off cap : Nat} {x : Bool} {l : List Bool} (h : BoR w (some ⟨b, off, none⟩) cap (x :: l)) : BoR w (some ⟨b, off + 1, none⟩) (cap - 1) l := by
  obtain ⟨h1, h2, h4⟩ := h
  simp only [List.length_cons] at h1
  refine ⟨by omega, by omega, ?_⟩
  rcases h4 with h4 | ⟨b', off', e, h4⟩
  · cases h4
  · cases e
    refine Or.inr ⟨b, off + 1, rfl, fun i y hy => ?_⟩
    have := h4 (i + 1) y (by simpa using hy)
    rw [show off + 1 + i = off + (i + 1) by omega]
    exact this
/-- Kids that every world keeps that differs in S alone. -/
def KpX (w : World) (S : Nat → Prop) (ao : Option Addr) (cap : Nat) (k : Exs) : Prop := ∀ w'', Fr S w w'' → ExL w'' ao cap k
theorem KpX.now {w : World} {S : Nat → Prop} {ao : Option Addr} {cap : Nat} {k : Exs} (h : KpX w S ao cap k) : ExL w ao cap k := h w (Fr.refl _ _)
theorem KpX.keep {w w' : World} {S S' : Nat → Prop} {ao : Option Addr} {cap : Nat} {k : Exs} (h : KpX w S ao cap k) (hf : Fr FN w w') (hS : ∀ b, b < w.heap.size → S' b → S b) : KpX w' S' ao cap k := fun w'' g => h w'' ((hf.mono (fun _ _ f => f.elim)).trans g hS)
/-- What lifted answers: the argument lies ahead of the block T. -/
def LfE (T : Nat) (w : World) (x p : EH × Exs) (e : Ending) (w' : World) : Prop := ∃ a1 c1 a2 c2, e = .returned (.tuple #[exV x.1 (.slice a1 x.2.len c1), exV p.1 (.slice a2 p.2.len c2)]) ∧ KpX w' (fun b => T ≤ b ∧ b < w.heap.size) a1 c1 x.2 ∧ KpX w' (fun b => T ≤ b ∧ b < w.heap.size) a2 c2 p.2 ∧ Fr FN w w'
def LfX (ws : List Bool) : Prop := ∀ (h : EH) (k : Exs) (ao : Option Addr) (cap : Nat) (wa : Option Addr) (wc : Nat) (T : Nat) (w : World), T ≤ w.heap.size → KpX w (fun b => T ≤ b) ao cap k → k.len * 88 ≤ 140737488351232 → BdX k → BoR w wa wc ws →
  Calls Try.prog 8 #[exV h (.slice ao k.len cap), .slice wa ws.length wc, ct zz] w (LfE T w (liftS ws h k).1 (liftS ws h k).2)
theorem exL_nil (w : World) : ExL w none 0 .nil := ⟨Nat.le_refl _, by unfold maxLen; omega, Or.inl rfl⟩
set_option maxRecDepth 20000 in
set_option maxHeartbeats 4000000 in
theorem lift_base (ws : List Bool) (h : EH) (k : Exs) (hb : ws = [] ∨ k.len = 0) (ao : Option Addr) (cap : Nat) (wa : Option Addr) (wc : Nat) (T : Nat) (w : World) (hkp : KpX w (fun b => T ≤ b) ao cap k) (hw : BoR w wa wc ws) :
    Calls Try.prog 8 #[exV h (.slice ao k.len cap), .slice wa ws.length wc, ct zz] w (LfE T w (leafH, .nil) (h, k)) := by
  have hk := hkp.now
  have hc1 := hk.1
  have hc2 : cap ≤ 9223372036854775807 := by have := hk.2.1; unfold maxLen at this; omega
  have hd1 := hw.1
  have hd2 : wc ≤ 9223372036854775807 := by have := hw.2.1; unfold maxLen at this; omega
  have f0 : Fr FN w (((w.alloc (exO h (.slice ao k.len cap))).alloc (exO leafH (.slice none 0 0))).alloc (exO h (.slice ao k.len cap))).drew := (((Fr.alloc _ _ _).same (Fr.alloc _ _ _)).same (Fr.alloc _ _ _)).same (Fr.drew _ _)
  have hB : (((w.alloc (exO h (.slice ao k.len cap))).alloc (exO leafH (.slice none 0 0))).alloc (exO h (.slice ao k.len cap))).drew.heap[w.heap.size + 1]? = some (exO leafH (.slice none 0 0)) := (alloc_old _ _ _ (by simp)).trans (alloc_at _ _ _ (by simp))
  have hC : (((w.alloc (exO h (.slice ao k.len cap))).alloc (exO leafH (.slice none 0 0))).alloc (exO h (.slice ao k.len cap))).drew.heap[w.heap.size + 2]? = some (exO h (.slice ao k.len cap)) := alloc_at _ _ _ (by simp)
  have hBH : Hidden ((((w.alloc (exO h (.slice ao k.len cap))).alloc (exO leafH (.slice none 0 0))).alloc (exO h (.slice ao k.len cap))).drew.heap[w.heap.size + 1]? = some (exO leafH (.slice none 0 0))) := hB
  have hCH : Hidden ((((w.alloc (exO h (.slice ao k.len cap))).alloc (exO leafH (.slice none 0 0))).alloc (exO h (.slice ao k.len cap))).drew.heap[w.heap.size + 2]? = some (exO h (.slice ao k.len cap))) := hC
  have hL : Hidden (LfE T w (leafH, .nil) (h, k) (.returned (.tuple #[exV leafH (.slice none 0 0), exV h (.slice ao k.len cap)])) (((w.alloc (exO h (.slice ao k.len cap))).alloc (exO leafH (.slice none 0 0))).alloc (exO h (.slice ao k.len cap))).drew) := ⟨none, 0, ao, cap, rfl, fun _ _ => exL_nil _, hkp.keep f0 (fun _ _ hb => hb.1), f0⟩
  clear hB hC hk hw hkp
  by_cases hk0 : k.len = 0
  · have t1 : ((k.len : Int) == 0) = true := by simp [hk0]
    clear hk0 hb
    go_enter Try.func8, Try.ntmps8
    go_wp2_with fail
    go_region
    all_goals (go_wp2_with fail)
    all_goals exact post_xx (h := leafH) (v := .slice none 0 0) (h2 := h) (v2 := .slice ao k.len cap) hBH hCH rfl rfl rfl rfl hL
  · have hws : ws = [] := by rcases hb with e | e; exact e; exact absurd e hk0
    subst hws
    have t1 : ((k.len : Int) == 0) = false := by simp; omega
    clear hk0 hb
    go_enter Try.func8, Try.ntmps8
    go_wp2_with fail
    go_region
    all_goals (go_wp2_with fail)
    all_goals exact post_xx (h := leafH) (v := .slice none 0 0) (h2 := h) (v2 := .slice ao k.len cap) hBH hCH rfl rfl rfl rfl hL
theorem exA_of_L {w : World} {kb ko cap : Nat} {k : Exs} (h : ExL w (some ⟨kb, ko, none⟩) cap k) (hk : 0 < k.len) : ExA w k kb ko := by
  rcases h.2.2 with h0 | ⟨b, off, e, hA⟩
  · omega
  · cases e; exact hA
theorem KpX.low {w : World} {T kb ko cap j : Nat} {k : Exs} {y : EH × Exs} (h : KpX w (fun b => T ≤ b) (some ⟨kb, ko, none⟩) cap k) (hy : getX k j = some y) : kb < T := by
  refine Decidable.byContradiction fun hc => ?_
  have hlt := getX_lt k j y hy
  obtain ⟨ya, yc, _, _, _, _, _, _, _, d6⟩ := exA_at k ko j y (exA_of_L h.now (by omega)) hy
  have hz := h (w.setCell ⟨kb, ko + j * 7 + 6, none⟩ (.bool true)) ((Fr.setCell w _ _).mono (fun b _ e => by have e' : b = kb := e; show T ≤ b; omega))
  obtain ⟨za, zc, _, _, _, _, _, _, _, c6⟩ := exA_at k ko j y (exA_of_L hz (by omega)) hy
  rw [World.cell?_setCell_same' w _ _ (by rw [d6]; rfl)] at c6
  cases c6
/-- One of the Kids. -/
theorem KpX.kid {w : World} {T kb ko cap j : Nat} {k : Exs} {y : EH × Exs} (h : KpX w (fun b => T ≤ b) (some ⟨kb, ko, none⟩) cap k) (hy : getX k j = some y) : ∃ ya yc, KpX w (fun b => T ≤ b) ya yc y.2 ∧ w.cell? ⟨kb, ko + j * 7, none⟩ = some (ci y.1.kind) ∧ w.cell? ⟨kb, ko + j * 7 + 1, none⟩ = some (ci y.1.op) ∧ w.cell? ⟨kb, ko + j * 7 + 2, none⟩ = some (ct y.1.mod) ∧
    w.cell? ⟨kb, ko + j * 7 + 3, none⟩ = some (ct y.1.name) ∧ w.cell? ⟨kb, ko + j * 7 + 4, none⟩ = some (ci y.1.vt) ∧ w.cell? ⟨kb, ko + j * 7 + 5, none⟩ = some (.int .u64 y.1.vb) ∧ w.cell? ⟨kb, ko + j * 7 + 6, none⟩ = some (.slice ya y.2.len yc) := by
  have hlow := h.low hy
  have hlt := getX_lt k j y hy
  obtain ⟨ya, yc, _, d0, d1, d2, d3, d4, d5, d6⟩ := exA_at k ko j y (exA_of_L h.now (by omega)) hy
  refine ⟨ya, yc, fun w'' g => ?_, d0, d1, d2, d3, d4, d5, d6⟩
  obtain ⟨za, zc, hL, _, _, _, _, _, _, c6⟩ := exA_at k ko j y (exA_of_L (h w'' g) (by omega)) hy
  rw [g.cell d6 (by show ¬ T ≤ kb; omega)] at c6
  cases c6
  exact hL
/-- An expression stored into a box. -/
def sev (w : World) (g : Nat) (h : EH) (v : Value) : World := ((((((w.setCell ⟨g, 0, none⟩ (ci h.kind)).setCell ⟨g, 1, none⟩ (ci h.op)).setCell ⟨g, 2, none⟩ (ct h.mod)).setCell ⟨g, 3, none⟩ (ct h.name)).setCell ⟨g, 4, none⟩ (ci h.vt)).setCell ⟨g, 5, none⟩ (.int .u64 h.vb)).setCell ⟨g, 6, none⟩ v
theorem set7 {w : World} {g : Nat} {a b c d e f h : Value} {t : TypeId} (hg : w.heap[g]? = some (.cells #[a, b, c, d, e, f, h] t (0, 0))) (v0 v1 v2 v3 v4 v5 v6 : Value) :
    (((((((w.setCell ⟨g, 0, none⟩ v0).setCell ⟨g, 1, none⟩ v1).setCell ⟨g, 2, none⟩ v2).setCell ⟨g, 3, none⟩ v3).setCell ⟨g, 4, none⟩ v4).setCell ⟨g, 5, none⟩ v5).setCell ⟨g, 6, none⟩ v6).heap[g]? = some (.cells #[v0, v1, v2, v3, v4, v5, v6] t (0, 0)) := by
  have h1 : (w.setCell ⟨g, 0, none⟩ v0).heap[g]? = some (.cells #[v0, b, c, d, e, f, h] t (0, 0)) := heap_setCell_same _ g 0 _ t v0 hg
  have h2 : ((w.setCell ⟨g, 0, none⟩ v0).setCell ⟨g, 1, none⟩ v1).heap[g]? = some (.cells #[v0, v1, c, d, e, f, h] t (0, 0)) := heap_setCell_same _ g 1 _ t v1 h1
  have h3 : (((w.setCell ⟨g, 0, none⟩ v0).setCell ⟨g, 1, none⟩ v1).setCell ⟨g, 2, none⟩ v2).heap[g]? = some (.cells #[v0, v1, v2, d, e, f, h] t (0, 0)) := heap_setCell_same _ g 2 _ t v2 h2
  have h4 : ((((w.setCell ⟨g, 0, none⟩ v0).setCell ⟨g, 1, none⟩ v1).setCell ⟨g, 2, none⟩ v2).setCell ⟨g, 3, none⟩ v3).heap[g]? = some (.cells #[v0, v1, v2, v3, e, f, h] t (0, 0)) := heap_setCell_same _ g 3 _ t v3 h3
  have h5 : (((((w.setCell ⟨g, 0, none⟩ v0).setCell ⟨g, 1, none⟩ v1).setCell ⟨g, 2, none⟩ v2).setCell ⟨g, 3, none⟩ v3).setCell ⟨g, 4, none⟩ v4).heap[g]? = some (.cells #[v0, v1, v2, v3, v4, f, h] t (0, 0)) := heap_setCell_same _ g 4 _ t v4 h4
  have h6 : ((((((w.setCell ⟨g, 0, none⟩ v0).setCell ⟨g, 1, none⟩ v1).setCell ⟨g, 2, none⟩ v2).setCell ⟨g, 3, none⟩ v3).setCell ⟨g, 4, none⟩ v4).setCell ⟨g, 5, none⟩ v5).heap[g]? = some (.cells #[v0, v1, v2, v3, v4, v5, h] t (0, 0)) := heap_setCell_same _ g 5 _ t v5 h5
  have h7 : (((((((w.setCell ⟨g, 0, none⟩ v0).setCell ⟨g, 1, none⟩ v1).setCell ⟨g, 2, none⟩ v2).setCell ⟨g, 3, none⟩ v3).setCell ⟨g, 4, none⟩ v4).setCell ⟨g, 5, none⟩ v5).setCell ⟨g, 6, none⟩ v6).heap[g]? = some (.cells #[v0, v1, v2, v3, v4, v5, v6] t (0, 0)) := heap_setCell_same _ g 6 _ t v6 h6
  exact h7
theorem sev_same {w : World} {g : Nat} {h0 : EH} {v0 : Value} (hg : w.heap[g]? = some (exO h0 v0)) (h : EH) (v : Value) : (sev w g h v).heap[g]? = some (exO h v) := set7 hg _ _ _ _ _ _ _
theorem fr_s {w w' : World} {g : Nat} (h : Fr (fun k => k = g) w w') (off : Nat) (v : Value) : Fr (fun k => k = g) w (w'.setCell ⟨g, off, none⟩ v) := h.same (Fr.setCell w' ⟨g, off, none⟩ v)
theorem sev_fr (w : World) (g : Nat) (h : EH) (v : Value) : Fr (fun k => k = g) w (sev w g h v) := by
  unfold sev
  exact fr_s (fr_s (fr_s (fr_s (fr_s (fr_s (fr_s (Fr.refl _ w) _ _) _ _) _ _) _ _) _ _) _ _) _ _
end Go.Proofs.Ytbmaaaeipcopcaa.Fo
