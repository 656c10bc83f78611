/- Lists of texts in memory: Texts. -/
import Derived.Test.YtajefmmggefbeaaNmMem
import Derived.Test.YtajefmmggefbeaaNmSet
import Derived.Sort.EncStr
import Derived.Deep.RegionWith
namespace Go.Proofs.Ytajefmmggefbeaa
open Go.RowKit Go.Sort
set_option linter.unusedSimpArgs false
set_option linter.unusedVariables false

/-- A list of texts that can be read at v. -/
def Tl (w : World) (v : Value) (l : List Str) : Prop :=
  ∃ ao cap, v = .slice ao l.length cap ∧ l.length ≤ cap ∧ cap ≤ 9223372036854775807 ∧ (ao = none → cap = 0) ∧
    (l = [] ∨ ∃ b off, ao = some ⟨b, off, none⟩ ∧ ∀ (i : Nat) (x : Str), l[i]? = some x → w.cell? ⟨b, off + i, none⟩ = some (encStr x))
/-- A list of texts in memory of the call's own, which may be written. -/
def Tn (w : World) (B : Nat) (v : Value) (l : List Str) : Prop :=
  ∃ ao cap, v = .slice ao l.length cap ∧ l.length ≤ cap ∧ cap ≤ 9223372036854775807 ∧ (ao = none → cap = 0) ∧
    (l = [] ∨ ∃ b off, ao = some ⟨b, off, none⟩ ∧ B ≤ b ∧ b < w.heap.size ∧ Holds encStr w b off l.toArray)

theorem Tn.tl {w : World} {B : Nat} {v : Value} {l : List Str} (h : Tn w B v l) : Tl w v l := by
  obtain ⟨ao, cap, rfl, h1, h2, h3, h4⟩ := h
  refine ⟨ao, cap, rfl, h1, h2, h3, ?_⟩
  rcases h4 with h4 | ⟨b, off, rfl, hB, hb, hH⟩
  · exact Or.inl h4
  · refine Or.inr ⟨b, off, rfl, fun i x hx => ?_⟩
    obtain ⟨hi, e⟩ := List.getElem?_eq_some_iff.1 hx
    have := (hH i (by simpa using hi)).1
    rw [this, getElem!_pos _ i (by simpa using hi)]
    simp [e]
theorem Tl.keep {S : Nat → Prop} {w w' : World} {v : Value} {l : List Str} (h : Tl w v l) (hf : Fr S w w') (hn : ∀ k, v.ownBlock = some k → ¬ S k) : Tl w' v l := by
  obtain ⟨ao, cap, rfl, h1, h2, h3, h4⟩ := h
  refine ⟨ao, cap, rfl, h1, h2, h3, ?_⟩
  rcases h4 with rfl | ⟨b, off, rfl, hc⟩
  · exact Or.inl rfl
  · exact Or.inr ⟨b, off, rfl, fun i x hx => hf.cell (hc i x hx) (hn b rfl)⟩
theorem Tl.later {w w' : World} {v : Value} {l : List Str} (h : Tl w v l) (hf : Fr (fun _ => False) w w') : Tl w' v l := h.keep hf (fun _ _ f => f)
theorem Tn.keep {S : Nat → Prop} {w w' : World} {B : Nat} {v : Value} {l : List Str} (h : Tn w B v l) (hf : Fr S w w') (hn : ∀ k, v.ownBlock = some k → ¬ S k) : Tn w' B v l := by
  obtain ⟨ao, cap, rfl, h1, h2, h3, h4⟩ := h
  refine ⟨ao, cap, rfl, h1, h2, h3, ?_⟩
  rcases h4 with rfl | ⟨b, off, rfl, hB, hb, hH⟩
  · exact Or.inl rfl
  · refine Or.inr ⟨b, off, rfl, hB, Nat.lt_of_lt_of_le hb hf.size, fun j hj => ?_⟩
    have e := hf.block b hb (hn b rfl)
    rw [World.cell?_of_block (a := ⟨b, off + j, none⟩) e, World.frozen?_of_block (a := ⟨b, off + j, none⟩) e]
    exact hH j hj
theorem Tn.later {w w' : World} {B : Nat} {v : Value} {l : List Str} (h : Tn w B v l) (hf : Fr (fun _ => False) w w') : Tn w' B v l := h.keep hf (fun _ _ f => f)
theorem Tn.lower {w : World} {B B' : Nat} {v : Value} {l : List Str} (h : Tn w B v l) (hb : B' ≤ B) : Tn w B' v l := by
  obtain ⟨ao, cap, rfl, h1, h2, h3, h4⟩ := h
  refine ⟨ao, cap, rfl, h1, h2, h3, ?_⟩
  rcases h4 with rfl | ⟨b, off, rfl, hB, hr⟩
  · exact Or.inl rfl
  · exact Or.inr ⟨b, off, rfl, by omega, hr⟩
/-- What lies in memory from ahead is apart from what is new. -/
theorem Tl.nil (w : World) : Tl w (.slice none 0 0) [] := ⟨none, 0, rfl, by simp, by simp, fun _ => rfl, Or.inl rfl⟩

end Go.Proofs.Ytajefmmggefbeaa
