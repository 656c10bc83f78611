/- Patch: the program's and the document's. -/
import Derived.Test.YtphpmaimgndjmaaDoorCdAp
namespace Go.Proofs.YtphpmaimgndjmaaDoor.Cd
open Go.RowKit Ty
set_option linter.unusedSimpArgs false
set_option linter.unusedVariables false

theorem own_at {w : World} {B : Nat} {e : TypeId} {size : Nat} {v : Value} {n : Nat} {cells : List Value} (h : w.ownsRow B e size v n cells) (j : Nat) (hj : j < cells.length) :
    ∃ g cap cur, v = .slice (some ⟨g, 0, none⟩) n cap ∧ B ≤ g ∧ n ≤ cap ∧ cap ≤ maxLen ∧ w.heap[g]? = some (.cells cur e (0, 0)) ∧ (∀ (i : Nat) (u : Value), cells[i]? = some u → w.cell? ⟨g, i, none⟩ = some u) ∧
      (∀ i, w.frozen? ⟨g, i, none⟩ = false) ∧ ∀ u, (w.setCell ⟨g, j, none⟩ u).ownsRow B e size v n (cells.set j u) := by
  obtain ⟨hl, hh⟩ := h
  rcases hh with ⟨rfl, rfl⟩ | ⟨g, cap, cur, rfl, hb, hg, hnc, hcm, hcs, ht⟩
  · rw [Nat.zero_mul] at hl; omega
  · refine ⟨g, cap, cur, rfl, hb, hnc, hcm, hg, fun i u hu => ?_, fun i => fz_row hg i, fun u => ⟨by rw [List.length_set]; exact hl, Or.inr ⟨g, cap, cur.setIfInBounds j u, rfl, hb, heap_setCell_same w g j cur e u hg, hnc, hcm, by simpa using hcs, ?_⟩⟩⟩
    · rw [cell_of_row w g _ cur e (0, 0) hg]
      rw [← ht, List.getElem?_take] at hu
      split at hu
      · simpa using hu
      · cases hu
    · rw [← ht]
      simp [List.take_set]
def patS (l : List In) (a n : Int) : Int × List In :=
  if a < 0 ∨ (l.length : Int) ≤ a then (1, []) else
    let x := l.getD a.toNat default
    if rightS { x with n := n } then (0, l.set a.toNat { x with n := n }) else (51, [])
theorem flat_set : ∀ (l : List In) (k : Nat) (x : In) (n : Int), l[k]? = some x → (l.flatMap inC).set (k * 4 + 1) (ci n) = (l.set k { x with n := n }).flatMap inC
  | [], k, x, n, h => by simp at h
  | y :: r, 0, x, n, h => by
    obtain rfl : y = x := by simpa using h
    rfl
  | y :: r, k + 1, x, n, h => by
    have ih := flat_set r k x n (by simpa using h)
    rw [List.set_cons_succ, List.flatMap_cons, List.flatMap_cons, ← ih]
    rw [show (k + 1) * 4 + 1 = (inC y).length + (k * 4 + 1) by rw [inC_len]; omega]
    rw [List.set_append_right _ _ (by omega)]
    congr 2
    omega
theorem IL.cells {w : World} {ao : Option Addr} {cap : Nat} {l : List In} (h : IL w ao cap l) : (ao = none → l.length = 0 ∧ cap = 0) ∧ ∀ ad, ao = some ad → ∀ (j : Nat) (u : Value), (l.flatMap inC)[j]? = some u → w.cell? (ad.add j) = some u := by
  obtain ⟨h1, h2, h3, h4⟩ := h
  refine ⟨fun e => ⟨by have := h3 e; omega, h3 e⟩, fun ad e j u hu => ?_⟩
  rcases h4 with rfl | ⟨b, off, e2, h4⟩
  · simp at hu
  · rw [e] at e2
    obtain rfl := Option.some.inj e2
    have hj : j < l.length * 4 := by
      have := (List.getElem?_eq_some_iff.1 hu).1
      rw [flat_len] at this
      exact this
    have hx : l[j / 4]? = some l[j / 4] := List.getElem?_eq_getElem (by omega)
    have hu2 : (inC l[j / 4])[j % 4]? = some u := by
      have h5 : j % 4 < (inC l[j / 4]).length := by rw [inC_len]; omega
      have := flat_get l (j / 4) _ hx (j % 4) _ (List.getElem?_eq_getElem h5)
      rw [show j / 4 * 4 + j % 4 = j by omega, hu] at this
      rw [List.getElem?_eq_getElem h5, ← this]
    have := h4 _ _ hx _ _ hu2
    rw [Addr.add_lit]
    rw [show off + j / 4 * 4 + j % 4 = off + j by omega] at this
    exact this
theorem flat_one (l : List In) : ∀ u ∈ l.flatMap inC, u.oneCell' = true := by
  intro u hu
  obtain ⟨x, _, hx⟩ := List.mem_flatMap.1 hu
  exact inC_one x u hx
end Go.Proofs.YtphpmaimgndjmaaDoor.Cd
