/- A slice of numbers that comes in: what is read of it, and that it reads as it did behind a call that turned nothing. -/
import Derived.Test.YtoofbbojaoiadabDoorInLive
import Derived.OwnWalk
import Derived.WideShapes
import Derived.ChangeSlices
import Derived.OpenShut
import Derived.SizedLaws
import Derived.ProofKit
namespace Go.Proofs.YtoofbbojaoiadabDoor
open Go.RowKit Go.WideShapes Go.ChangeShapes Go.ChangeAt
set_option linter.unusedSimpArgs false
set_option linter.unusedVariables false

theorem kb_cell {w w' : World} (h : Kb w w') {a : Addr} {v : Value} (hc : w.cell? a = some v) : w'.cell? a = some v := by
  obtain ⟨⟨_, _, hk⟩, _⟩ := h
  unfold World.cell? at hc ⊢
  cases e1 : w.heap[a.block]? with
  | none => rw [e1] at hc; simp at hc
  | some o =>
    have ha : a.block < w.heap.size := by
      rcases Nat.lt_or_ge a.block w.heap.size with h' | h'
      · exact h'
      · rw [Array.getElem?_eq_none h'] at e1; cases e1
    have := hk a.block ha
    rw [e1] at this hc
    cases e2 : w'.heap[a.block]? with
    | none =>
      rw [e2] at this
      cases o <;> simp at this
    | some o' =>
      rw [e2] at this
      cases o with
      | cells c t fr =>
        cases o' with
        | cells c' t' fr' =>
          simp only at this hc ⊢
          rw [this.2.2.2 a.off (fun h => h)]
          exact hc
        | _ => simp at this
      | map es clock => simp at hc
      | _ =>
        simp only at this
        rw [this]
        exact hc

/-- What a slice of numbers of 64 bits holds. -/
def SlI (w : World) (v : Value) (l : List Int) : Prop :=
  (v = .slice none 0 0 ∧ l = []) ∨ ∃ (ad : Addr) (cap : Nat), v = .slice (some ad) l.length cap ∧ l.length ≤ cap ∧ cap ≤ maxLen ∧ l.length * 8 ≤ 140737488351232 ∧ (∀ x ∈ l, I64 x) ∧
    (l = [] ∨ ∃ b off, ad = ⟨b, off, none⟩ ∧ b < w.heap.size ∧ ∀ (i : Nat) (x : Int), l[i]? = some x → w.cell? ⟨b, off + i, none⟩ = some (.int .i64 x))

theorem Tryd.cells_i64 : Tryd.prog.cellsOf 2 = 1 := by kernel_rfl
theorem Tryd.bytes_i64 : Tryd.prog.bytesOf 2 = 8 := by kernel_rfl

theorem slice_in {H : Type} {enc : TypeId × Value → H} {W : World} {a : Option Addr} {len cap : Nat} {d : DataW H} {p : List MemPlace}
    (h0 : DataW.Trod enc Tryd.prog W 0 (fun _ => true) true 28 (.slice a len cap) d p) (hlt : ∀ x ∈ p, x.block < W.heap.size)
    (hsize : ∀ es sp, d = .slice es sp → (es.length + sp.length) * 8 ≤ 140737488351232) :
    (∃ l, SlI W (.slice a len cap) l) ∧ ∀ W', Kb W W' → DataW.Trod enc Tryd.prog W' 0 (fun b => decide (b < W.heap.size)) true 28 (.slice a len cap) d p := by
  obtain ⟨fuel, hf⟩ := h0
  rcases open_ints Tryd.underlying28 Tryd.underlying2 Tryd.cells_i64 hf with ⟨hcs, hx⟩ | ⟨a', len', cap', zs, hcs, _, hl, hm, hz, hx, hcell, hwz⟩
  · simp [Value.cells] at hcs
    obtain ⟨rfl, rfl, rfl⟩ := hcs
    simp only [Prod.mk.injEq] at hx
    obtain ⟨rfl, rfl⟩ := hx
    exact ⟨⟨[], Or.inl ⟨rfl, rfl⟩⟩, fun W' _ => shut_slice_nil Tryd.underlying28⟩
  · simp [Value.cells] at hcs
    obtain ⟨rfl, rfl, rfl⟩ := hcs
    simp only [Prod.mk.injEq] at hx
    obtain ⟨rfl, rfl⟩ := hx
    simp only [if_true] at hz
    have hsz := hsize _ _ rfl
    simp only [lits, List.length_map, List.length_take, List.length_drop] at hsz
    have hll : (zs.take len).length = len := by rw [List.length_take]; omega
    constructor
    · refine ⟨zs.take len, Or.inr ⟨a', cap, by rw [hll], by omega, hm, by rw [hll]; omega, fun x hx => wf_I (hwz x (List.mem_of_mem_take hx)), ?_⟩⟩
      by_cases h0 : len = 0
      · left; rw [h0, List.take_zero]
      · right
        obtain ⟨b, off, spot⟩ := a'
        have hspot : spot = none := by simpa [Addr.add] using World.cell?_spot (hcell 0 (by omega))
        subst hspot
        have hbW : b < W.heap.size := hlt (.cell b off) (MemPlace.mem_row.2 ⟨0, by omega, by simp⟩)
        refine ⟨b, off, rfl, hbW, fun i x hx => ?_⟩
        obtain ⟨hi, hxx⟩ := List.getElem?_eq_some_iff.1 hx
        have hi2 : i < zs.length := by omega
        have := hcell i hi2
        rw [add_plain] at this
        rw [this]
        have e : zs.getD i 0 = x := by
          rw [List.getElem_take] at hxx
          simp [List.getD, List.getElem?_eq_getElem hi2, hxx]
        rw [e]
    · intro W' hk
      have hz' : zs.length = (if (fun b => decide (b < W.heap.size)) a'.block = true then cap else len) := by
        simp only [decide_eq_true_eq]
        split
        · exact hz
        · rename_i hnb
          by_cases h0 : zs.length = 0
          · omega
          · exfalso
            obtain ⟨b, off, spot⟩ := a'
            have hspot : spot = none := by simpa [Addr.add] using World.cell?_spot (hcell 0 (by omega))
            subst hspot
            exact hnb (hlt (.cell b off) (MemPlace.mem_row.2 ⟨0, by omega, by simp⟩))
      have t0 := shut_ints (enc := enc) (w := W') (base := 0) (spare := fun b => decide (b < W.heap.size)) (held := true) (zs := zs) (a := a') (len := len) (cap := cap) 0 Tryd.underlying28 Tryd.underlying2 Tryd.cells_i64 (Nat.zero_le _) hl hm hz' (fun i hi => kb_cell hk (hcell i hi)) hwz
      exact ⟨2, by simpa [Value.cells] using t0⟩
end Go.Proofs.YtoofbbojaoiadabDoor
