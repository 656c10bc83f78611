/- Regions that draw their order, by an invariant: what stands once these operations have come up, in whatever order. -/
import Derived.Test.YtphpmaimgndjmaaDoorNxA
import Derived.Orders
namespace Go.Proofs.YtphpmaimgndjmaaDoor
open Go.RowKit
set_option linter.unusedSimpArgs false
set_option linter.unusedVariables false

/-- The operations that this one waits for. -/
def depsOf (ops : Array Oper) (i : Nat) : List Nat := ((ops[i]?).map fun o => (o.after.toList.filter (Region.binds .any)).map (·.on)).getD []
/-- Each operation waits for earlier ones alone. -/
def depsLow (ops : Array Oper) : Bool := (List.range ops.size).all fun i => (depsOf ops i).all fun j => decide (j < i)
theorem ready_iff {ops : Array Oper} {l : Array Bool} {i : Nat} : i ∈ Region.ready .any ops l ↔ l.getD i true = false ∧ i < ops.size ∧ ∀ j ∈ depsOf ops i, l.getD j false = true := by
  rw [mem_ready]
  constructor
  · rintro ⟨h1, o, ho, h2⟩
    refine ⟨h1, (Array.getElem?_eq_some_iff.1 ho).1, fun j hj => ?_⟩
    unfold depsOf at hj
    rw [ho] at hj
    simp only [Option.map_some, Option.getD_some, List.mem_map, List.mem_filter, Array.mem_toList_iff] at hj
    obtain ⟨e, ⟨he, hb⟩, rfl⟩ := hj
    exact h2 e he hb
  · rintro ⟨h1, hi, h2⟩
    refine ⟨h1, ops[i], Array.getElem?_eq_getElem hi, fun e he hb => h2 e.on ?_⟩
    unfold depsOf
    rw [Array.getElem?_eq_getElem hi]
    simp only [Option.map_some, Option.getD_some, List.mem_map, List.mem_filter, Array.mem_toList_iff]
    exact ⟨e, ⟨he, hb⟩, rfl⟩
theorem all_listed {ops : Array Oper} {l : Array Bool} (hl : depsLow ops = true) (hr : Region.ready .any ops l = []) : ∀ i, i < ops.size → l.getD i true = true := by
  intro i
  induction i using Nat.strongRecOn with
  | _ i ih =>
    intro hi
    cases h : l.getD i true with
    | true => rfl
    | false =>
      exfalso
      have hm : i ∈ Region.ready .any ops l := by
        refine ready_iff.2 ⟨h, hi, fun j hj => ?_⟩
        have h1 : j < i := by
          unfold depsLow at hl
          rw [List.all_eq_true] at hl
          have := hl i (List.mem_range.2 hi)
          rw [List.all_eq_true] at this
          exact of_decide_eq_true (this j hj)
        have h2 := ih j h1 (by omega)
        have h3 : j < l.size := by
          have : i < l.size := by
            by_cases h4 : i < l.size
            · exact h4
            · rw [Array.getD_eq_getD_getElem?, Array.getElem?_eq_none (by omega)] at h; cases h
          omega
        rw [Array.getD_eq_getD_getElem?, Array.getElem?_eq_getElem h3] at h2 ⊢
        exact h2
      rw [hr] at hm
      cases hm
theorem wpAny_inv {P : Program} {ops : Array Oper} {Q : Exit → Act → World → Prop} {J : Array Bool → Act → World → Prop} (hl : depsLow ops = true)
    (hs : ∀ l a w i, l.size = ops.size → J l a w → l.getD i true = false → i < ops.size → (∀ j ∈ depsOf ops i, l.getD j false = true) → wpOp P ops Q i (J (l.setIfInBounds i true)) a w)
    (he : ∀ l a w, l.size = ops.size → (∀ i, i < ops.size → l.getD i true = true) → J l a w → Q .normal a w) :
    ∀ (fuel : Nat) (l : Array Bool) (a : Act) (w : World), l.size = ops.size → l.toList.count false ≤ fuel → J l a w → wpAny P .any ops Q fuel l a w
  | 0, l, a, w, hz, hc, hJ => by
    have hn : Region.ready .any ops l = [] := by
      cases hr : Region.ready .any ops l with
      | nil => rfl
      | cons i t =>
        exfalso
        have hi : i ∈ Region.ready .any ops l := by rw [hr]; exact List.mem_cons_self
        have h1 := (ready_iff.1 hi).1
        have h2 : i < l.size := by rw [hz]; exact (ready_iff.1 hi).2.1
        rw [Array.getD_eq_getD_getElem?, Array.getElem?_eq_getElem h2, Option.getD_some] at h1
        have : false ∈ l.toList := by rw [← h1]; exact Array.mem_toList_iff.2 (Array.getElem_mem h2)
        have := List.count_pos_iff.2 this
        omega
    exact ⟨hn, he l a w hz (all_listed hl hn) hJ⟩
  | fuel + 1, l, a, w, hz, hc, hJ => by
    refine ⟨fun h0 => he l a w hz (all_listed hl h0) hJ, fun i hi => ?_⟩
    obtain ⟨h1, h2, h3⟩ := ready_iff.1 hi
    refine wpOp_mono (fun a' w' h => wpAny_inv hl hs he fuel _ a' w' (by simpa using hz) ?_ h) (hs l a w i hz hJ h1 h2 h3)
    have h4 : i < l.toList.length := by simp; omega
    have h5 : l.toList[i] = false := by
      rw [Array.getD_eq_getD_getElem?, Array.getElem?_eq_getElem (by omega), Option.getD_some] at h1
      simpa using h1
    rw [Array.toList_setIfInBounds, List.count_set h4, h5]
    have : 0 < l.toList.count false := List.count_pos_iff.2 (by rw [← h5]; exact List.getElem_mem h4)
    have e1 : (false == false) = true := rfl
    have e2 : (true == false) = false := rfl
    rw [e1, e2, if_pos rfl, if_neg (by decide)]
    omega
theorem wp_region_inv {P : Program} {ops : Array Oper} {Q : Exit → Act → World → Prop} {id : Nat} {a : Act} {w : World} (J : Array Bool → Act → World → Prop) (hm : P.follows .mixedOrders = true) (hl : depsLow ops = true)
    (h0 : J (Array.replicate ops.size false) a w.drew)
    (hs : ∀ l a w i, l.size = ops.size → J l a w → l.getD i true = false → i < ops.size → (∀ j ∈ depsOf ops i, l.getD j false = true) → wpOp P ops Q i (J (l.setIfInBounds i true)) a w)
    (he : ∀ l a w, l.size = ops.size → (∀ i, i < ops.size → l.getD i true = true) → J l a w → Q .normal a w) : (Code.region id ops true).wp P Q a w :=
  wp_region_any hm (wpAny_inv hl hs he ops.size _ a _ (by simp) (Nat.le_trans List.count_le_length (by simp)) h0)
end Go.Proofs.YtphpmaimgndjmaaDoor
