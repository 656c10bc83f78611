/- A list of texts that comes in. -/
import Derived.Test.YtajefmmggefbeaaNmTx
import Derived.Test.YtajefmmggefbeaaRows
import Derived.Deep.Slices
import Derived.Deep.Strs
import Derived.ChangeSlices
import Derived.ChangeArms
import Derived.DataReads
namespace Go.Proofs.Ytajefmmggefbeaa
open Go.RowKit Go.WideShapes Go.ChangeShapes Go.ChangeAt Go.Deep
set_option linter.unusedSimpArgs false
set_option linter.unusedVariables false

theorem Try.cells_str : Try.prog.cellsOf 9 = 1 := by kernel_rfl
theorem Addr_plain {W : World} {a : Addr} {x : Value} (h : W.cell? (a.add 0) = some x) : a.spot = none := by
  have := World.cell?_spot h
  unfold Addr.add at this
  simpa using this
variable {H : Type} {enc : TypeId × Value → H} {W : World}
theorem bulk_strs (n : Nat) (Sx : Nat → ByteArray) : Rows.uptoBulkAll ((List.range n).map fun i => (DataW.lit (.string (Sx i).data.toList) : DataW H)) = ((List.range n).map fun i => (Sx i).data.toList.length + 1).sum := by
  generalize List.range n = r
  induction r with
  | nil => rfl
  | cons x r ih => simp only [List.map_cons, Rows.uptoBulkAll, Rows.uptoBulk, ih, List.sum_cons]
theorem sum_ge (l : List Nat) (f : Nat → Nat) : l.length ≤ (l.map fun i => f i + 1).sum := by
  induction l with
  | nil => simp
  | cons a l ih => simp only [List.map_cons, List.sum_cons, List.length_cons]; omega
theorem sum_mem (l : List Nat) (f : Nat → Nat) (i : Nat) (h : i ∈ l) : f i + 1 ≤ (l.map fun i => f i + 1).sum := by
  induction l with
  | nil => cases h
  | cons a l ih =>
    simp only [List.map_cons, List.sum_cons]
    rcases List.mem_cons.1 h with rfl | h
    · omega
    · have := ih h
      omega

/-- What it holds; how much it is: by its length, and all together. -/
theorem strs_in {fuel : Nat} {c : Value} {x : DataW H × List MemPlace} (h : DataW.trod enc Try.prog W 0 (fun _ => true) true fuel 23 [c] = some x) :
    ∃ t : List Str, Tl W c t ∧ t.length ≤ Rows.uptoBulk x.1 ∧ (∀ s ∈ t, s.length ≤ Rows.uptoBulk x.1) ∧ (∀ s ∈ t, s.length ≤ 9223372036854775807) ∧ (t = [] ∨ ∃ elems spare, x.1 = .slice elems spare ∧ elems.length = t.length) := by
  rcases open_strs Try.underlying23 Try.underlying9 Try.cells_str h with ⟨hcs, rfl⟩ | ⟨a, len, cap, m, Sx, hcs, _, hl, hm, hz, rfl, hcell⟩
  · simp only [List.cons.injEq, and_true] at hcs
    subst hcs
    exact ⟨[], Tl.nil W, by simp, by simp, by simp, Or.inl rfl⟩
  · simp only [List.cons.injEq, and_true] at hcs
    subst hcs
    simp only [if_true] at hz
    have hbk : ((List.range len).map fun i => (Sx i).data.toList.length + 1).sum ≤ Rows.uptoBulk (DataW.slice ((List.range len).map fun i => (DataW.lit (.string (Sx i).data.toList) : DataW H)) ((List.range (m - len)).map fun i => (DataW.lit (.string (Sx (len + i)).data.toList) : DataW H))) := by
      rw [← bulk_strs (H := H)]
      simp only [Rows.uptoBulk]
      omega
    refine ⟨(List.range len).map fun i => (Sx i).data.toList, ⟨some a, cap, by simp, by simp; exact hl, hm, (fun h => by cases h), ?_⟩, ?_, ?_, ?_, Or.inr ⟨_, _, rfl, by simp⟩⟩
    · by_cases h0 : len = 0
      · left; rw [h0]; rfl
      · right
        have hsp := Addr_plain (hcell 0 (by omega)).1
        obtain ⟨b, off, spot⟩ := a
        simp only at hsp
        subst hsp
        refine ⟨b, off, rfl, fun i y hy => ?_⟩
        simp only [List.getElem?_map] at hy
        by_cases hi : i < len
        · rw [List.getElem?_range hi] at hy
          simp only [Option.map_some, Option.some.injEq] at hy
          have := (hcell i (by omega)).1
          rw [Addr.add_lit] at this
          rw [this, ← hy]
        · rw [List.getElem?_eq_none (by simp; omega)] at hy
          cases hy
    · have := sum_ge (List.range len) (fun i => (Sx i).data.toList.length)
      simp only [List.length_range] at this
      rw [List.length_map, List.length_range]
      refine Nat.le_trans this ?_
      first | exact hbk | (simp only [Rows.uptoBulk] at hbk ⊢; omega)
    · intro s hs
      simp only [List.mem_map] at hs
      obtain ⟨i, hi, rfl⟩ := hs
      have := sum_mem (List.range len) (fun i => (Sx i).data.toList.length) i hi
      refine Nat.le_trans (Nat.le_trans (Nat.le_succ _) this) ?_
      first | exact hbk | (simp only [Rows.uptoBulk] at hbk ⊢; omega)
    · intro s hs
      simp only [List.mem_map, List.mem_range] at hs
      obtain ⟨i, hi, rfl⟩ := hs
      have := (hcell i (by omega)).2
      rw [Array.length_toList]
      exact this
end Go.Proofs.Ytajefmmggefbeaa
