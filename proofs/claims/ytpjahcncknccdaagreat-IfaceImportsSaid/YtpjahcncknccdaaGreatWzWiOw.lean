/- Bytes of a call's own, at any offset; append to them. -/
import Derived.Test.YtpjahcncknccdaaGreatWzWiW2
import Derived.Deep.AppendSrc
import Derived.Deep.Upon
import Derived.Deep.MidRow
namespace Go.Proofs.YtpjahcncknccdaaGreat.Wi
open Go.RowKit
set_option linter.unusedSimpArgs false
set_option linter.unusedVariables false
set_option maxRecDepth 20000

/-- A slice in memory of the call's own: all places up to the capacity are there and may be written. -/
def Ow (w : World) (B : Nat) (v : Value) (xs : List Value) : Prop :=
  Sl w v xs ∧ ∃ ao len cap, v = .slice ao len cap ∧ (ao = none ∨ ∃ g off, ao = some ⟨g, off, none⟩ ∧ B ≤ g ∧ g < w.heap.size ∧ ∀ j, j < cap → (w.cell? ⟨g, off + j, none⟩).isSome = true ∧ w.frozen? ⟨g, off + j, none⟩ = false)

theorem Ow.nil (w : World) (B : Nat) : Ow w B (.slice none 0 0) [] := ⟨Sl.nil w, none, 0, 0, rfl, Or.inl rfl⟩
theorem Ow.keep {S : Nat → Prop} {w w' : World} {B : Nat} {v : Value} {xs : List Value} (h : Ow w B v xs) (hf : Fr S w w') (hn : ∀ k, v.ownBlock = some k → ¬ S k) : Ow w' B v xs := by
  obtain ⟨h1, ao, len, cap, rfl, h2⟩ := h
  refine ⟨h1.keep hf hn, ao, len, cap, rfl, ?_⟩
  rcases h2 with rfl | ⟨g, off, rfl, hB, hlt, hc⟩
  · exact Or.inl rfl
  · refine Or.inr ⟨g, off, rfl, hB, Nat.lt_of_lt_of_le hlt hf.size, fun j hj => ?_⟩
    have e := hf.block g hlt (hn g rfl)
    rw [World.cell?_of_block (a := ⟨g, off + j, none⟩) e, World.frozen?_of_block (a := ⟨g, off + j, none⟩) e]
    exact hc j hj
theorem Ow.own {w : World} {B : Nat} {v : Value} {xs : List Value} (h : Ow w B v xs) : ∀ k, v.ownBlock = some k → B ≤ k ∧ k < w.heap.size := by
  obtain ⟨h1, ao, len, cap, rfl, h2⟩ := h
  intro k hk
  rcases h2 with rfl | ⟨g, off, rfl, hB, hlt, hc⟩
  · cases hk
  · have : g = k := by simpa [Value.ownBlock] using hk
    subst this
    exact ⟨hB, hlt⟩
theorem Ow.of_own {w : World} {base : Nat} {v : Value} {n : Nat} {xs : List Value} (h : w.ownsRow base 5 1 v n xs) : Ow w base v xs := by
  refine ⟨(Sl.of_own h).1, ?_⟩
  rcases h.2 with ⟨rfl, _⟩ | ⟨g, cap, cur, rfl, hb, hg, hnc, hcm, hcs, ht⟩
  · exact ⟨none, 0, 0, rfl, Or.inl rfl⟩
  · refine ⟨_, n, cap, rfl, Or.inr ⟨g, 0, rfl, hb, lt_of_heap hg, fun j hj => ⟨?_, by simp [World.frozen?, hg]⟩⟩⟩
    rw [Nat.zero_add, cell_of_row w g j cur 5 (0, 0) hg]
    simp
    omega
theorem Ow.drop {w : World} {B : Nat} {ao : Option Addr} {len cap : Nat} {xs : List Value} (h : Ow w B (.slice ao len cap) xs) (hs : ∀ n, n ≤ len → Sl w (.slice (if cap = n then ao else ao.map fun a => a.add n) (len - n) (cap - n)) (xs.drop n)) (n : Nat) (hn : n ≤ len) : Ow w B (.slice (if cap = n then ao else ao.map fun a => a.add n) (len - n) (cap - n)) (xs.drop n) := by
  obtain ⟨h1, ao', len', cap', e, h2⟩ := h
  cases e
  refine ⟨hs n hn, _, _, _, rfl, ?_⟩
  rcases h2 with rfl | ⟨g, off, rfl, hB, hlt, hc⟩
  · left; split <;> rfl
  · right
    by_cases hcn : cap = n
    · rw [if_pos hcn]
      exact ⟨g, off, rfl, hB, hlt, fun j hj => by omega⟩
    · rw [if_neg hcn]
      refine ⟨g, off + n, by simp [Addr.add_lit], hB, hlt, fun j hj => ?_⟩
      rw [Nat.add_assoc]
      exact hc _ (by omega)
end Go.Proofs.YtpjahcncknccdaaGreat.Wi
