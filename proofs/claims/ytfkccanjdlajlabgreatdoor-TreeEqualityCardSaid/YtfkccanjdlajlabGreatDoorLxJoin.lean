/- The program's Join and Same. -/
import Derived.Test.YtfkccanjdlajlabGreatDoorLxBld
namespace Go.Proofs.YtfkccanjdlajlabGreatDoor
open Go.RowKit Lx
set_option linter.unusedSimpArgs false
set_option linter.unusedVariables false

def tailJ (l : List Tok) : By := l.flatMap fun t => 32 :: t.x
theorem joinS_cons (t : Tok) (ts : List Tok) : joinS (t :: ts) = t.x ++ tailJ ts := by
  induction ts generalizing t with
  | nil => simp [joinS, tailJ]
  | cons t' ts ih =>
    show t.x ++ 32 :: joinS (t' :: ts) = _
    rw [ih]
    simp [tailJ]
theorem fr_below {S : Nat → Prop} {B : Nat} {w w' : World} (h : Below B w w') (hS : ∀ k, B ≤ k → S k) : Fr S w w' :=
  ⟨h.os, h.output, h.size, fun k hk hn => h.block k (Nat.lt_of_not_le (fun hb => hn (hS k hb)))⟩
theorem Bat.low {B b : Nat} {p : Value} {bs : By} {w : World} (h : Bat B b p bs w) : B ≤ b := h.1
theorem Bld.lt {B b : Nat} {bs : By} {w : World} (h : Bld B b bs w) : b < w.heap.size := by
  rcases h with ⟨_, v, hb, _⟩ | ⟨_, v, hb, _⟩
  · exact lt_of_heap hb
  · exact lt_of_heap hb
theorem Bld.low {B b : Nat} {bs : By} {w : World} (h : Bld B b bs w) : B ≤ b := by
  rcases h with h | h
  · exact h.1
  · exact h.1
theorem Bld.alloc {B b : Nat} {bs : By} {w : World} (h : Bld B b bs w) (o : Obj) : Bld B b bs (w.alloc o) := by
  rcases h with ⟨h1, v, hb, ho, hn⟩ | ⟨h1, v, hb, ho, hn⟩
  · exact Or.inl ⟨h1, v, (alloc_old _ _ _ (lt_of_heap hb)).trans hb, ho.alloc o, hn⟩
  · exact Or.inr ⟨h1, v, (alloc_old _ _ _ (lt_of_heap hb)).trans hb, ho.alloc o, hn⟩
/-- Behind a builder's call: what lay there ahead of it. -/
theorem bs_over {B b : Nat} {w w1 w2 : World} (h : Fr (fun _ => False) w w1) (g : Fr (BS B b w1) w1 w2) (hB : w.heap.size ≤ B) (hb : B ≤ b) : Fr (fun _ => False) w w2 :=
  h.over g (fun k hk => by rcases hk with rfl | ⟨h1, _⟩ <;> omega)

end Go.Proofs.YtfkccanjdlajlabGreatDoor
