/- The document's bytes of single values. -/
import Derived.Test.YtpjahcncknccdaaGreatWzWiOw
import Derived.Test.YtpjahcncknccdaaGreatWzWiR
namespace Go.Proofs.YtpjahcncknccdaaGreat.Wi
open Go.RowKit
set_option linter.unusedSimpArgs false
set_option linter.unusedVariables false
set_option maxRecDepth 20000

/-- New bytes. -/
def Made (w w' : World) (v : Value) (l : List UInt8) : Prop := Ow w' w.heap.size v (bc l) ∧ Fr (fun _ => False) w w'

theorem Fr.over {T : Nat → Prop} {a b c : World} (h : Fr (fun _ => False) a b) (g : Fr T b c) (hT : ∀ k, T k → a.heap.size ≤ k) : Fr (fun _ => False) a c :=
  h.trans g (fun k hk t => by have := hT k t; omega)
theorem Ow.shape {w : World} {B : Nat} {v : Value} {l : List UInt8} (h : Ow w B v (bc l)) : ∃ ao cap, v = .slice ao l.length cap ∧ l.length ≤ cap ∧ cap ≤ 9223372036854775807 := by
  obtain ⟨⟨ao, cap, e, h1, h2, _⟩, _⟩ := h
  rw [bc_length] at *
  exact ⟨ao, cap, e, h1, by unfold maxLen at h2; omega⟩

theorem Made.one (w : World) (c : UInt8) : Made w (w.alloc (.cells #[.int .u8 (c.toNat : Int)] 5)) (.slice (some ⟨w.heap.size, 0, none⟩) 1 1) [c] := by
  refine ⟨Ow.of_own (n := 1) ⟨by simp, Or.inr ⟨w.heap.size, 1, _, rfl, Nat.le_refl _, alloc_new w _, by omega, by simp [maxLen], by simp, by simp [bc]⟩⟩, Fr.alloc _ _ _⟩
end Go.Proofs.YtpjahcncknccdaaGreat.Wi
