/- Rows of copies (for TreeCopies): what lies within an interval of blocks. -/
import Derived.Test.YtncachlopnpcjaaGreatDoorTrC3
namespace Go.Proofs.YtncachlopnpcjaaGreatDoor.Sl
open Go.RowKit Te
set_option linter.unusedSimpArgs false
set_option linter.unusedVariables false

/-- Two worlds agree on the blocks from lo up to hi. -/
def Ag (lo hi : Nat) (w u : World) : Prop := ∀ b, lo ≤ b → b < hi → u.heap[b]? = w.heap[b]?
theorem Ag.refl (lo hi : Nat) (w : World) : Ag lo hi w w := fun _ _ _ => rfl
theorem Ag.trans {lo hi : Nat} {a b c : World} (h : Ag lo hi a b) (g : Ag lo hi b c) : Ag lo hi a c := fun k h1 h2 => (g k h1 h2).trans (h k h1 h2)
theorem Ag.sub {lo hi a b : Nat} {w u : World} (h : Ag lo hi w u) (h1 : lo ≤ a) (h2 : b ≤ hi) : Ag a b w u := fun k h3 h4 => h k (by omega) (by omega)
theorem Ag.of_fr {lo hi : Nat} {S : Nat → Prop} {w u : World} (h : Fr S w u) (hi' : hi ≤ w.heap.size) (hS : ∀ k, lo ≤ k → k < hi → ¬ S k) : Ag lo hi w u := fun k h1 h2 => h.block k (by omega) (hS k h1 h2)
/-- P holds in every world that agrees with this one on these blocks. -/
def Within (lo hi : Nat) (w : World) (P : World → Prop) : Prop := ∀ u, Ag lo hi w u → P u
theorem Within.now {lo hi : Nat} {w : World} {P : World → Prop} (h : Within lo hi w P) : P w := h w (Ag.refl _ _ _)
theorem Within.later {lo hi : Nat} {w u : World} {P : World → Prop} (h : Within lo hi w P) (g : Ag lo hi w u) : Within lo hi u P := fun v hv => h v (g.trans hv)
/-- An element of a row of copies: what it holds lies within an interval of its own, which the row's own block is not in. -/
def RE {α : Type} (K : Nat → Nat → World → α → List Value → Prop) (lo : Nat) (W : World) (v : Value) (x : α) (c : List Value) : Prop := ∃ a b, lo ≤ a ∧ b ≤ W.heap.size ∧ (∀ g, v.ownBlock = some g → ¬ (a ≤ g ∧ g < b)) ∧ Within a b W (fun u => K a b u x c)
theorem RE.step {α : Type} {K : Nat → Nat → World → α → List Value → Prop} {lo : Nat} {W W' : World} {v v' : Value} {x : α} {c : List Value} (h : RE K lo W v x c) (f : Fr (fun k => v.ownBlock = some k) W W') (hv : v'.ownBlock = v.ownBlock ∨ ∃ n, W.heap.size ≤ n ∧ v'.ownBlock = some n) : RE K lo W' v' x c := by
  obtain ⟨a, b, h1, h2, h3, h4⟩ := h
  refine ⟨a, b, h1, Nat.le_trans h2 f.size, fun g hg => ?_, h4.later (Ag.of_fr f h2 (fun k k1 k2 e => h3 k e ⟨k1, k2⟩))⟩
  rcases hv with e | ⟨n, hn, e⟩
  · exact h3 g (by rw [← e]; exact hg)
  · rw [e] at hg
    injection hg with hg
    omega
theorem RE.keep {α : Type} {K : Nat → Nat → World → α → List Value → Prop} {lo : Nat} {W W' : World} {v : Value} {x : α} {c : List Value} (h : RE K lo W v x c) (f : Fr (fun _ => False) W W') : RE K lo W' v x c := h.step (f.mono (fun _ _ f => f.elim)) (Or.inl rfl)
theorem chunks_map {α : Type} {R R' : α → List Value → Prop} {size : Nat} : ∀ {l : List α} {cs : List Value}, Rw.Chunks R size l cs → (∀ x c, R x c → R' x c) → Rw.Chunks R' size l cs
  | [], cs, h, _ => h
  | y :: l, cs, ⟨d, rest, e, h1, h2, h3⟩, hR => ⟨d, rest, e, h1, hR _ _ h2, chunks_map h3 hR⟩
theorem row_map {α : Type} {R R' : α → List Value → Prop} {e : TypeId} {size : Nat} {w : World} {B : Nat} {v : Value} {l : List α} (h : Rw.Row R e size w B v l) (hR : ∀ x c, R x c → R' x c) : Rw.Row R' e size w B v l := by
  obtain ⟨cells, h1, h2⟩ := h
  exact ⟨cells, h1, chunks_map h2 hR⟩
/-- What a row of copies holds, in every world that agrees with this one from lo on. -/
theorem row_open {α : Type} {K : Nat → Nat → World → α → List Value → Prop} {lo : Nat} {ty : TypeId} {size : Nat} {W : World} {v : Value} {l : List α} (h : Rw.Row (RE K lo W v) ty size W lo v l) : ∃ ao cap, v = .slice ao l.length cap ∧ l.length ≤ cap ∧ cap ≤ maxLen ∧
    Within lo W.heap.size W (fun u => l = [] ∨ ∃ g, ao = some ⟨g, 0, none⟩ ∧ RwB u lo W.heap.size g ty (l.length * size) ∧ ∀ (i : Nat) (x : α), l[i]? = some x → ∃ a b c, lo ≤ a ∧ b ≤ W.heap.size ∧ K a b u x c ∧ c.length = size ∧ ∀ (j : Nat) (y : Value), c[j]? = some y → u.cell? ⟨g, i * size + j, none⟩ = some y) := by
  obtain ⟨cells, ⟨h1, h2⟩, h3⟩ := h
  rcases h2 with ⟨rfl, h0⟩ | ⟨g, cap, cur, rfl, hB, hg, hnc, hcm, hcs, ht⟩
  · exact ⟨none, 0, by rw [h0], by omega, by decide, fun u _ => Or.inl (List.eq_nil_of_length_eq_zero h0)⟩
  · refine ⟨_, cap, rfl, hnc, hcm, fun u hu => Or.inr ⟨g, rfl, ?_, fun i x hi => ?_⟩⟩
    · have hlt := (Array.getElem?_eq_some_iff.1 hg).1
      refine ⟨hB, hlt, cur, (hu g hB hlt).trans hg, ?_⟩
      rw [hcs]
      exact Nat.mul_le_mul_right _ hnc
    · have hlt := (Array.getElem?_eq_some_iff.1 hg).1
      obtain ⟨c, ⟨a, b, k1, k2, _, k4⟩, hcl, hcc⟩ := h3.get hi
      refine ⟨a, b, c, k1, k2, k4 u (hu.sub k1 k2), hcl, fun j y hj => ?_⟩
      have h6 := hcc j y hj
      rw [cell_of_row u g _ cur ty (0, 0) ((hu g hB hlt).trans hg)]
      rw [← ht, List.getElem?_take] at h6
      split at h6
      · simpa using h6
      · cases h6
theorem RwB.wide {w : World} {lo hi lo' hi' b n : Nat} {ty : TypeId} (h : RwB w lo hi b ty n) (h1 : lo' ≤ lo) (h2 : hi ≤ hi') : RwB w lo' hi' b ty n := by
  obtain ⟨k1, k2, k3⟩ := h
  exact ⟨by omega, by omega, k3⟩
theorem ShE.wide {w : World} {lo hi lo' hi' : Nat} (h1 : lo' ≤ lo) (h2 : hi ≤ hi') : ∀ (k : Exs) (b i : Nat), ShE w lo hi k b i → ShE w lo' hi' k b i
  | .nil, _, _, _ => trivial
  | .cons _ k r, b, i, ⟨⟨ao, cap, e1, e2, e3, e4⟩, e5⟩ => by
    refine ⟨⟨ao, cap, e1, e2, e3, ?_⟩, ShE.wide h1 h2 r b (i + 1) e5⟩
    rcases e4 with e4 | ⟨b', rfl, e6, e7⟩
    · exact Or.inl e4
    · exact Or.inr ⟨b', rfl, e6.wide h1 h2, ShE.wide h1 h2 k b' 0 e7⟩
theorem ShX.wide {w : World} {lo hi lo' hi' : Nat} {ao : Option Addr} {cap : Nat} {k : Exs} (h : ShX w lo hi ao cap k) (h1 : lo' ≤ lo) (h2 : hi ≤ hi') : ShX w lo' hi' ao cap k := by
  obtain ⟨a, b, c⟩ := h
  refine ⟨a, b, ?_⟩
  rcases c with c | ⟨g, rfl, c1, c2⟩
  · exact Or.inl c
  · exact Or.inr ⟨g, rfl, c1.wide h1 h2, ShE.wide h1 h2 k g 0 c2⟩
/- Expressions. -/
def toL : Exs → List (EH × Exs)
  | .nil => []
  | .cons h k r => (h, k) :: toL r
theorem toL_len : ∀ k : Exs, (toL k).length = k.len
  | .nil => rfl
  | .cons h k r => by simp [toL, Exs.len, toL_len r]
def KE (a b : Nat) (u : World) (y : EH × Exs) (c : List Value) : Prop := ∃ ao cap, c = exC y.1 (.slice ao y.2.len cap) ∧ ExL u ao cap y.2 ∧ ShX u a b ao cap y.2
theorem ex_all {u : World} {lo hi g : Nat} : ∀ (k : Exs) (n : Nat), (∀ (i : Nat) (y : EH × Exs), (toL k)[i]? = some y → ∃ a b c, lo ≤ a ∧ b ≤ hi ∧ KE a b u y c ∧ c.length = 7 ∧ ∀ (j : Nat) (x : Value), c[j]? = some x → u.cell? ⟨g, (n + i) * 7 + j, none⟩ = some x) → ExA u k g (n * 7) ∧ ShE u lo hi k g n
  | .nil, n, _ => ⟨trivial, trivial⟩
  | .cons h k r, n, H => by
    obtain ⟨a, b, c, h1, h2, ⟨ao, cap, rfl, hL, hS⟩, _, hc⟩ := H 0 (h, k) rfl
    obtain ⟨i1, i2⟩ := ex_all r (n + 1) (fun i y hy => by
      obtain ⟨a, b, c, q1, q2, q3, q4, q5⟩ := H (i + 1) y (by simpa [toL] using hy)
      exact ⟨a, b, c, q1, q2, q3, q4, fun j x hx => by rw [show n + 1 + i = n + (i + 1) by omega]; exact q5 j x hx⟩)
    have hS' := hS.wide h1 h2
    simp only [Nat.add_zero] at hc
    refine ⟨⟨⟨ao, cap, hc, hL.1, hL.2.1, hL.2.2⟩, ?_⟩, ⟨ao, cap, hc 6 _ rfl, hS'.1, hS'.2.1, hS'.2.2⟩, i2⟩
    rw [show n * 7 + 7 = (n + 1) * 7 by omega]
    exact i1
/-- A row of copied expressions. -/
theorem row_ex {lo : Nat} {W : World} {v : Value} {k : Exs} (h : Rw.Row (RE KE lo W v) 39 7 W lo v (toL k)) : ∃ ao cap, v = .slice ao k.len cap ∧ Within lo W.heap.size W (fun u => ExL u ao cap k ∧ ShX u lo W.heap.size ao cap k) := by
  obtain ⟨ao, cap, h1, h2, h3, h4⟩ := row_open h
  rw [toL_len] at h1 h2
  refine ⟨ao, cap, h1, fun u hu => ?_⟩
  rcases h4 u hu with h0 | ⟨g, rfl, hb, hc⟩
  · have hk : k.len = 0 := by rw [← toL_len, h0]; rfl
    exact ⟨⟨h2, h3, Or.inl hk⟩, ⟨h2, h3, Or.inl hk⟩⟩
  · rw [toL_len] at hb
    obtain ⟨e1, e2⟩ := ex_all (u := u) (lo := lo) (hi := W.heap.size) (g := g) k 0 (fun i y hy => by
      obtain ⟨a, b, c, q1, q2, q3, q4, q5⟩ := hc i y hy
      exact ⟨a, b, c, q1, q2, q3, q4, fun j x hx => by rw [Nat.zero_add]; exact q5 j x hx⟩)
    rw [Nat.zero_mul] at e1
    exact ⟨⟨h2, h3, Or.inr ⟨g, 0, rfl, e1⟩⟩, ⟨h2, h3, Or.inr ⟨g, rfl, hb, e2⟩⟩⟩
end Go.Proofs.YtncachlopnpcjaaGreatDoor.Sl
