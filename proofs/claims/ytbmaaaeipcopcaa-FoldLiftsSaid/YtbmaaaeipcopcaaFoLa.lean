/- Rows of cells that are put anew; expressions in a row, kept (for FoldLifts). -/
import Derived.Test.YtbmaaaeipcopcaaFoL6
namespace Go.Proofs.Ytbmaaaeipcopcaa.Fo
open Go.RowKit Te
set_option linter.unusedSimpArgs false
set_option linter.unusedVariables false

/-- Cells stored one behind the other. -/
def setRow (w : World) (g : Nat) : Nat → List Value → World
  | _, [] => w
  | o, v :: vs => setRow (w.setCell ⟨g, o, none⟩ v) g (o + 1) vs
theorem setRow_fr (g : Nat) : ∀ (vs : List Value) (w : World) (o : Nat), Fr (fun k => k = g) w (setRow w g o vs)
  | [], w, o => Fr.refl _ _
  | v :: vs, w, o => (Fr.setCell w ⟨g, o, none⟩ v).same (setRow_fr g vs _ (o + 1))
theorem setRow_out (g p : Nat) : ∀ (vs : List Value) (w : World) (o : Nat), p < o ∨ o + vs.length ≤ p → (setRow w g o vs).cell? ⟨g, p, none⟩ = w.cell? ⟨g, p, none⟩
  | [], w, o, _ => rfl
  | v :: vs, w, o, h => by
    simp only [List.length_cons] at h
    rw [setRow, setRow_out g p vs _ (o + 1) (by omega)]
    exact World.cell?_setCell_other w _ _ v (fun e => by have := congrArg Addr.off e; simp at this; omega)
theorem setRow_in (g : Nat) : ∀ (vs : List Value) (w : World) (o m : Nat) (u : Value), (∀ j, j < vs.length → (w.cell? ⟨g, o + j, none⟩).isSome = true) → vs[m]? = some u → (setRow w g o vs).cell? ⟨g, o + m, none⟩ = some u
  | [], w, o, m, u, _, h => by simp at h
  | v :: vs, w, o, 0, u, hs, h => by
    obtain rfl : v = u := by simpa using h
    show (setRow (w.setCell ⟨g, o, none⟩ v) g (o + 1) vs).cell? ⟨g, o, none⟩ = some v
    rw [setRow_out g o vs _ (o + 1) (by omega)]
    exact World.cell?_setCell_same' w _ _ (by simpa using hs 0 (by simp))
  | v :: vs, w, o, m + 1, u, hs, h => by
    rw [setRow, show o + (m + 1) = o + 1 + m by omega]
    refine setRow_in g vs _ (o + 1) m u (fun j hj => ?_) (by simpa using h)
    rw [World.cell?_setCell_other w _ _ v (fun e => by have := congrArg Addr.off e; simp at this; omega), show o + 1 + j = o + (j + 1) by omega]
    exact hs (j + 1) (by simpa using hj)
/-- An expression's cells, its Kids told by P. -/
def RP (P : Option Addr → Nat → Exs → Prop) (y : EH × Exs) (c : List Value) : Prop := ∃ ao cap, P ao cap y.2 ∧ c = exC y.1 (.slice ao y.2.len cap)
theorem chunks_rp (P : Option Addr → Nat → Exs → Prop) (W : World) (b : Nat) : ∀ (l : List (EH × Exs)) (off : Nat), (∀ (i : Nat) (y : EH × Exs), l[i]? = some y → ∃ ao cap, P ao cap y.2 ∧ ∀ (j : Nat) (u : Value), (exC y.1 (.slice ao y.2.len cap))[j]? = some u → W.cell? ⟨b, off + i * 7 + j, none⟩ = some u) →
    ∃ cs, Rw.Chunks (RP P) 7 l cs ∧ (∀ (j : Nat) (u : Value), cs[j]? = some u → W.cell? ⟨b, off + j, none⟩ = some u) ∧ ∀ u ∈ cs, u.oneCell' = true
  | [], off, _ => ⟨[], rfl, fun j u h => by simp at h, fun u h => by simp at h⟩
  | y :: l, off, h => by
    obtain ⟨ao, cap, hI, hc⟩ := h 0 y rfl
    obtain ⟨cs, h1, h2, h3⟩ := chunks_rp P W b l (off + 7) (fun i d' hd => by
      obtain ⟨ao, cap, hI, hc⟩ := h (i + 1) d' (by simpa using hd)
      refine ⟨ao, cap, hI, fun j x hx => ?_⟩
      have := hc j x hx
      rw [show off + 7 + i * 7 + j = off + (i + 1) * 7 + j by omega]
      exact this)
    have hl : (exC y.1 (.slice ao y.2.len cap)).length = 7 := rfl
    refine ⟨exC y.1 (.slice ao y.2.len cap) ++ cs, ⟨_, _, rfl, rfl, ⟨ao, cap, hI, rfl⟩, h1⟩, fun j u hj => ?_, fun u hu => ?_⟩
    · by_cases hj7 : j < 7
      · rw [List.getElem?_append_left (by rw [hl]; exact hj7)] at hj
        have := hc j u hj
        simpa using this
      · rw [List.getElem?_append_right (by rw [hl]; omega), hl] at hj
        have := h2 (j - 7) u hj
        rw [show off + 7 + (j - 7) = off + j by omega] at this
        exact this
    · rcases List.mem_append.1 hu with hu | hu
      · exact exC_one y.1 ao y.2.len cap u hu
      · exact h3 u hu
/-- The seven cells of an expression. -/
def Sev (w : World) (b off : Nat) (h : EH) (v : Value) : Prop := ∀ (j : Nat) (u : Value), (exC h v)[j]? = some u → w.cell? ⟨b, off + j, none⟩ = some u
theorem sev_of {w : World} {b off : Nat} {h : EH} {v : Value} (d0 : w.cell? ⟨b, off, none⟩ = some (ci h.kind)) (d1 : w.cell? ⟨b, off + 1, none⟩ = some (ci h.op)) (d2 : w.cell? ⟨b, off + 2, none⟩ = some (ct h.mod)) (d3 : w.cell? ⟨b, off + 3, none⟩ = some (ct h.name)) (d4 : w.cell? ⟨b, off + 4, none⟩ = some (ci h.vt)) (d5 : w.cell? ⟨b, off + 5, none⟩ = some (.int .u64 h.vb)) (d6 : w.cell? ⟨b, off + 6, none⟩ = some v) : Sev w b off h v := by
  intro j u hj
  match j, hj with
  | 0, hj => simp [exC] at hj; subst hj; exact d0
  | 1, hj => simp [exC] at hj; subst hj; exact d1
  | 2, hj => simp [exC] at hj; subst hj; exact d2
  | 3, hj => simp [exC] at hj; subst hj; exact d3
  | 4, hj => simp [exC] at hj; subst hj; exact d4
  | 5, hj => simp [exC] at hj; subst hj; exact d5
  | 6, hj => simp [exC] at hj; subst hj; exact d6
  | j + 7, hj => simp [exC] at hj
theorem Sev.all {w : World} {b off : Nat} {h : EH} {v : Value} (s : Sev w b off h v) : w.cell? ⟨b, off, none⟩ = some (ci h.kind) ∧ w.cell? ⟨b, off + 1, none⟩ = some (ci h.op) ∧ w.cell? ⟨b, off + 2, none⟩ = some (ct h.mod) ∧ w.cell? ⟨b, off + 3, none⟩ = some (ct h.name) ∧ w.cell? ⟨b, off + 4, none⟩ = some (ci h.vt) ∧ w.cell? ⟨b, off + 5, none⟩ = some (.int .u64 h.vb) ∧ w.cell? ⟨b, off + 6, none⟩ = some v :=
  ⟨s 0 _ rfl, s 1 _ rfl, s 2 _ rfl, s 3 _ rfl, s 4 _ rfl, s 5 _ rfl, s 6 _ rfl⟩
theorem exA_mk {w : World} {b : Nat} : ∀ (k : Exs) (off : Nat), (∀ (j : Nat) (y : EH × Exs), getX k j = some y → ∃ ao cap, ExL w ao cap y.2 ∧ Sev w b (off + j * 7) y.1 (.slice ao y.2.len cap)) → ExA w k b off
  | .nil, off, _ => trivial
  | .cons h k r, off, H => by
    obtain ⟨ao, cap, hL, hs⟩ := H 0 (h, k) rfl
    refine ⟨⟨ao, cap, fun j x hx => by simpa using hs j x hx, hL.1, hL.2.1, hL.2.2⟩, exA_mk r (off + 7) fun j y hy => ?_⟩
    obtain ⟨ao, cap, hL, hs⟩ := H (j + 1) y (by simpa [getX] using hy)
    refine ⟨ao, cap, hL, ?_⟩
    rw [show off + 7 + j * 7 = off + (j + 1) * 7 by omega]
    exact hs
theorem getX_set : ∀ (k : Exs) (i j : Nat) (x y : EH × Exs), getX (setX k i x) j = some y → (j = i ∧ y = x) ∨ (j ≠ i ∧ getX k j = some y)
  | .nil, i, j, x, y, h => by simp [setX, getX] at h
  | .cons h k r, 0, 0, x, y, hy => by
    simp only [setX, getX, Option.some.injEq] at hy
    exact Or.inl ⟨rfl, hy.symm⟩
  | .cons h k r, 0, j + 1, x, y, hy => Or.inr ⟨by omega, by simpa [setX, getX] using hy⟩
  | .cons h k r, i + 1, 0, x, y, hy => Or.inr ⟨by omega, by simpa [setX, getX] using hy⟩
  | .cons h k r, i + 1, j + 1, x, y, hy => by
    rcases getX_set r i j x y (by simpa [setX, getX] using hy) with ⟨e1, e2⟩ | ⟨e1, e2⟩
    · exact Or.inl ⟨by omega, e2⟩
    · exact Or.inr ⟨by omega, by simpa [getX] using e2⟩
/-- The Kids with one of them put anew, in a row of the call's own. -/
theorem kids_set {T i g cap : Nat} {w wc w8 wF : World} {k : Exs} {X : EH × Exs} {a1 : Option Addr} {c1 : Nat} (hle : k.len ≤ cap) (hcm : cap ≤ maxLen) (hw : w.heap.size ≤ g) (hi : i < k.len)
    (hrow : ∀ (j : Nat) (y : EH × Exs), getX k j = some y → ∃ ao c, KpX w (fun b => T ≤ b) ao c y.2 ∧ Sev w8 g (j * 7) y.1 (.slice ao y.2.len c))
    (hx : KpX wc (fun b => T ≤ b ∧ b < w.heap.size + 3) a1 c1 X.2) (fw : Fr FN w wF) (fc : Fr (fun b => T ≤ b ∧ b < w.heap.size + 3) wc wF)
    (h9 : ∀ p, wF.cell? ⟨g, p, none⟩ = (setRow w8 g (i * 7) (exC X.1 (.slice a1 X.2.len c1))).cell? ⟨g, p, none⟩) : KpX wF (fun b => T ≤ b ∧ b < w.heap.size) (some ⟨g, 0, none⟩) cap (setX k i X) := by
  intro w'' f
  refine ⟨by rw [setX_len]; exact hle, hcm, Or.inr ⟨g, 0, rfl, exA_mk _ 0 fun j y hy => ?_⟩⟩
  have hg : ∀ {p : Nat} {u : Value}, wF.cell? ⟨g, p, none⟩ = some u → w''.cell? ⟨g, p, none⟩ = some u := fun h => f.cell h (fun hb => by have := hb.2; simp at this; omega)
  rcases getX_set k i j X y hy with ⟨rfl, rfl⟩ | ⟨hne, hk⟩
  · refine ⟨a1, c1, hx w'' (fc.trans f (fun b _ hb => ⟨hb.1, by omega⟩)), fun m u hm => ?_⟩
    rw [Nat.zero_add]
    refine hg ((h9 _).trans (setRow_in g _ _ _ m u (fun q hq => ?_) hm))
    obtain ⟨y0, hy0⟩ := getX_some k j hi
    obtain ⟨ao, c, _, hs⟩ := hrow j y0 hy0
    have hq7 : q < 7 := hq
    obtain ⟨u0, hu0⟩ : ∃ u0, (exC y0.1 (.slice ao y0.2.len c))[q]? = some u0 := ⟨_, List.getElem?_eq_getElem (by simp [exC]; exact hq7)⟩
    rw [hs q u0 hu0]
    rfl
  · obtain ⟨ao, c, hK, hs⟩ := hrow j y hk
    refine ⟨ao, c, hK w'' ((fw.mono (fun _ _ h => h.elim)).trans f (fun b _ hb => hb.1)), fun m u hm => ?_⟩
    rw [Nat.zero_add]
    have hm7 : m < 7 := by
      have := (List.getElem?_eq_some_iff.1 hm).1
      simpa [exC] using this
    refine hg ((h9 _).trans ?_)
    rw [setRow_out g _ _ w8 (i * 7) (by rw [show (exC X.1 (.slice a1 X.2.len c1)).length = 7 from rfl]; omega)]
    exact hs m u hm
end Go.Proofs.Ytbmaaaeipcopcaa.Fo
