/- The first instruction of bytes: the program's firstIns. -/
import Derived.Test.YtphpmaimgndjmaaDoorCdCn
import Derived.Test.YtphpmaimgndjmaaDoorCdMn
import Derived.Test.YtphpmaimgndjmaaDoorCdFz
namespace Go.Proofs.YtphpmaimgndjmaaDoor.Cd
open Go.RowKit Ty
set_option linter.unusedSimpArgs false
set_option linter.unusedVariables false

/-- What firstIns answers of bytes of which there is at least one. -/
def fstB (c : UInt8) (r : Bs) : Bool := !(decide (sizeS (c.toNat : Int) = 0 ∨ ((c :: r).length : Int) < sizeS (c.toNat : Int)))
def fstI (c : UInt8) (r : Bs) : In := if fstB c r then rawI (c :: r) else default
def fstO (c : UInt8) (r : Bs) : Bool := fstB c r && rightS (rawI (c :: r))
theorem firstS_eq (c : UInt8) (r : Bs) : firstS (c :: r) = if fstO c r then some (fstI c r) else none := by
  unfold firstS fstO fstI fstB
  simp only []
  by_cases h : sizeS (c.toNat : Int) = 0 ∨ ((c :: r).length : Int) < sizeS (c.toNat : Int)
  · rw [if_pos h, decide_eq_true h]; simp
  · rw [if_neg h, decide_eq_false h]; simp
theorem size_cases (op : Int) : sizeS op = 0 ∨ (op = 1 ∧ sizeS op = 10) ∨ ((op == 1) = false ∧ (wd op = 0 ∧ sizeS op = 1 ∨ wd op = 1 ∧ sizeS op = 2 ∨ wd op = 2 ∧ sizeS op = 3)) := by
  unfold sizeS
  by_cases hk : known op = true
  · rw [if_pos hk]
    by_cases h1 : op = 1
    · right; left; exact ⟨h1, by rw [if_pos h1]⟩
    · right; right
      refine ⟨by simp [h1], ?_⟩
      rw [if_neg h1]
      have : wd op ≤ 2 := by
        unfold wd
        by_cases q1 : op = 2 ∨ op = 3 ∨ op = 6 ∨ op = 7
        · rw [if_pos q1]; omega
        · rw [if_neg q1]
          by_cases q2 : op = 4 ∨ op = 5 ∨ op = 8 ∨ op = 9 ∨ op = 10 ∨ op = 15
          · rw [if_pos q2]; omega
          · rw [if_neg q2]; omega
      omega
  · left; rw [if_neg hk]
theorem box4_set2 {w : World} {b : Nat} {x0 x1 x2 x3 : Value} {t : TypeId} (h : w.heap[b]? = some (.cells #[x0, x1, x2, x3] t (0, 0))) (v2 v3 : Value) :
    ((w.setCell ⟨b, 2, none⟩ v2).setCell ⟨b, 3, none⟩ v3).heap[b]? = some (.cells #[x0, x1, v2, v3] t (0, 0)) := by
  have h0 : (w.setCell ⟨b, 2, none⟩ v2).heap[b]? = some (.cells #[x0, x1, v2, x3] t (0, 0)) := heap_setCell_same _ b 2 _ t v2 h
  exact heap_setCell_same _ b 3 _ t v3 h0
theorem box4_set1 {w : World} {b : Nat} {x0 x1 x2 x3 : Value} {t : TypeId} (h : w.heap[b]? = some (.cells #[x0, x1, x2, x3] t (0, 0))) (v1 : Value) :
    (w.setCell ⟨b, 1, none⟩ v1).heap[b]? = some (.cells #[x0, v1, x2, x3] t (0, 0)) := heap_setCell_same _ b 1 _ t v1 h
theorem BL.sub {w : World} {b off cap m : Nat} {l : Bs} (k : Nat) (h : BL w (some ⟨b, off, none⟩) cap l) (hk : k + m ≤ l.length) (hc : k < cap) : BL w (some ⟨b, off + k, none⟩) (cap - k) ((l.drop k).take m) := by
  obtain ⟨h1, h2, h3, h4⟩ := h
  have hl : ((l.drop k).take m).length = m := by rw [List.length_take, List.length_drop]; omega
  refine ⟨by omega, by omega, (fun e => by cases e), ?_⟩
  rcases h4 with rfl | ⟨b', off', e, h4⟩
  · left; simp
  · right
    cases e
    refine ⟨b, off + k, rfl, fun i c hc => ?_⟩
    rw [List.getElem?_take] at hc
    split at hc
    · rw [List.getElem?_drop] at hc
      have := h4 _ _ hc
      rw [show off + k + i = off + (k + i) by omega]
      exact this
    · cases hc
theorem cell_ot {w : World} {a b : Addr} {v u : Value} (h : w.cell? a = some u) (hn : a.block ≠ b.block) : (w.setCell b v).cell? a = some u := (Fr.setCell w b v).cell h hn
theorem info_in4 : (Tryd.prog.info? 50).map (·.size) = some 4 := by kernel_rfl
theorem four_put {w : World} {g : Nat} {x0 x1 x2 x3 : Value} {t : TypeId} (h : w.heap[g]? = some (.cells #[x0, x1, x2, x3] t (0, 0))) (v0 v1 v2 v3 : Value) :
    ((((w.setCell ⟨g, 0, none⟩ v0).setCell ⟨g, 1, none⟩ v1).setCell ⟨g, 2, none⟩ v2).setCell ⟨g, 3, none⟩ v3).heap[g]? = some (.cells #[v0, v1, v2, v3] t (0, 0)) := by
  have h0 : (w.setCell ⟨g, 0, none⟩ v0).heap[g]? = some (.cells #[v0, x1, x2, x3] t (0, 0)) := heap_setCell_same _ g 0 _ t v0 h
  have h1 : ((w.setCell ⟨g, 0, none⟩ v0).setCell ⟨g, 1, none⟩ v1).heap[g]? = some (.cells #[v0, v1, x2, x3] t (0, 0)) := heap_setCell_same _ g 1 _ t v1 h0
  have h2 : (((w.setCell ⟨g, 0, none⟩ v0).setCell ⟨g, 1, none⟩ v1).setCell ⟨g, 2, none⟩ v2).heap[g]? = some (.cells #[v0, v1, v2, x3] t (0, 0)) := heap_setCell_same _ g 2 _ t v2 h1
  exact heap_setCell_same _ g 3 _ t v3 h2
theorem four_fr (w : World) (g : Nat) (v0 v1 v2 v3 : Value) : Fr (fun k => k = g) w ((((w.setCell ⟨g, 0, none⟩ v0).setCell ⟨g, 1, none⟩ v1).setCell ⟨g, 2, none⟩ v2).setCell ⟨g, 3, none⟩ v3) :=
  (((Fr.setCell w ⟨g, 0, none⟩ v0).same (Fr.setCell _ ⟨g, 1, none⟩ v1)).same (Fr.setCell _ ⟨g, 2, none⟩ v2)).same (Fr.setCell _ ⟨g, 3, none⟩ v3)
end Go.Proofs.YtphpmaimgndjmaaDoor.Cd
