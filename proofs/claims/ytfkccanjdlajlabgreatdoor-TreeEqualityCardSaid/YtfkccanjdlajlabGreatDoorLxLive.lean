/- What must come at any rate. -/
import Derived.Test.YtfkccanjdlajlabGreatDoorLxLex
namespace Go.Proofs.YtfkccanjdlajlabGreatDoor
open Go.RowKit Lx
set_option linter.unusedSimpArgs false
set_option linter.unusedVariables false

def live1 : By := [108, 101, 116, 32, 120, 60, 61, 49, 46, 53, 59, 32, 47, 47, 32, 103, 111]
def live2 : By := [97, 32, 38, 32, 98]
theorem live1_lex : lexS wordsL valS live1 = ([⟨2, [108, 101, 116], 0, 0, 0⟩, ⟨1, [120], 0, 0, 4⟩, ⟨5, [60, 61], 0, 0, 5⟩, ⟨4, [49, 46, 53], 2, 4609434218613702656, 7⟩, ⟨5, [59], 0, 0, 10⟩], 0, 0) := by
  decide +kernel
theorem live2_lex : lexS wordsL valS live2 = ([], 2, 10) := by decide +kernel
theorem Tr.out {w : World} {B : Nat} {e : TypeId} {v : Value} {ts : List Tok} (h : Tr w B e v ts) (h0 : ts ≠ []) : ∃ g cap, v = .slice (some ⟨g, 0, none⟩) ts.length cap ∧ ts.length ≤ cap ∧ cap ≤ maxLen ∧ B ≤ g ∧ g < w.heap.size ∧
    ∀ (i : Nat) (t : Tok), ts[i]? = some t → ∀ (j : Nat) (x : Value), (tokC t)[j]? = some x → w.cell? ⟨g, i * 5 + j, none⟩ = some x := by
  have hlt := World.ownsRow.lt h
  obtain ⟨ao, cap, hv, h1, h2, h3⟩ := h.tk
  obtain ⟨_, h4⟩ := h
  rcases h4 with ⟨_, hz⟩ | ⟨g, cap', cur, hv', hb, _⟩
  · exact absurd (List.eq_nil_of_length_eq_zero hz) h0
  · rw [hv] at hv' hlt
    simp only [Value.slice.injEq, true_and] at hv'
    obtain ⟨rfl, rfl⟩ := hv'
    rcases h3 with h3 | ⟨b, off, hbo, hc⟩
    · exact absurd h3 h0
    · simp only [Option.some.injEq, Addr.mk.injEq, and_true] at hbo
      obtain ⟨rfl, rfl⟩ := hbo
      exact ⟨g, cap, hv, h1, h2, hb, (hlt g rfl).2, fun i t hi j x hj => by have := hc i t hi j x hj; rw [Nat.zero_add] at this; exact this⟩

end Go.Proofs.YtfkccanjdlajlabGreatDoor
