/- Rows of the call's own that are spoilt (for TreeCopies): what may change, and what shape stays. -/
import Derived.Test.YtncachlopnpcjaaGreatDoorTrM
import Derived.Test.YtncachlopnpcjaaGreatDoorRwA
namespace Go.Proofs.YtncachlopnpcjaaGreatDoor.Sl
open Go.RowKit Te
set_option linter.unusedSimpArgs false
set_option linter.unusedVariables false

theorem frozen_r {w : World} {g : Nat} {cs : Array Value} {t : TypeId} (hg : w.heap[g]? = some (.cells cs t (0, 0))) (j : Nat) : w.frozen? ⟨g, j, none⟩ = false := by simp [World.frozen?, hg]
/-- The places of a row that may change. -/
def free (ty : TypeId) (p : Nat) : Prop :=
  if ty = 39 then p % 7 = 0 ∨ p % 7 = 3 else if ty = 67 then p % 5 = 0 ∨ p % 5 = 1 else if ty = 47 then p % 7 = 0 else if ty = 53 then p % 2 = 0 else ty = 9
/-- Blocks from lo up to hi keep their type, their size, and all cells but those places; all other blocks are as they were. -/
structure Sp (lo hi : Nat) (w w' : World) : Prop where
  fr : Fr (fun k => lo ≤ k ∧ k < hi) w w'
  blk : ∀ (b : Nat) (cur : Array Value) (ty : TypeId), lo ≤ b → b < hi → w.heap[b]? = some (.cells cur ty (0, 0)) → ∃ cur', w'.heap[b]? = some (.cells cur' ty (0, 0)) ∧ cur'.size = cur.size ∧ ∀ p, ¬ free ty p → cur'[p]? = cur[p]?
theorem Sp.refl (lo hi : Nat) (w : World) : Sp lo hi w w := ⟨Fr.refl _ _, fun b cur ty _ _ h => ⟨cur, h, rfl, fun _ _ => rfl⟩⟩
theorem Sp.trans {lo hi : Nat} {a b c : World} (h : Sp lo hi a b) (g : Sp lo hi b c) : Sp lo hi a c := by
  refine ⟨h.fr.same g.fr, fun k cur ty h1 h2 hk => ?_⟩
  obtain ⟨c1, e1, s1, p1⟩ := h.blk k cur ty h1 h2 hk
  obtain ⟨c2, e2, s2, p2⟩ := g.blk k c1 ty h1 h2 e1
  exact ⟨c2, e2, by omega, fun p hp => (p2 p hp).trans (p1 p hp)⟩
theorem Sp.of_fr {lo hi : Nat} {w w' : World} (h : Fr (fun _ => False) w w') : Sp lo hi w w' :=
  ⟨h.mono (fun _ _ f => f.elim), fun b cur ty _ _ hb => ⟨cur, h.heap hb (fun f => f), rfl, fun _ _ => rfl⟩⟩
theorem Sp.set {lo hi : Nat} {w : World} {b p : Nat} {cur : Array Value} {ty : TypeId} (h1 : lo ≤ b) (h2 : b < hi) (hb : w.heap[b]? = some (.cells cur ty (0, 0))) (hf : free ty p) (v : Value) : Sp lo hi w (w.setCell ⟨b, p, none⟩ v) := by
  have fr := Fr.setCell w ⟨b, p, none⟩ v
  refine ⟨fr.mono (fun k _ e => by have e : k = b := e; omega), fun k c2 ty2 _ _ hk => ?_⟩
  by_cases e : k = b
  · subst e
    rw [hb] at hk
    simp only [Option.some.injEq, Obj.cells.injEq, and_true] at hk
    obtain ⟨rfl, rfl⟩ := hk
    refine ⟨_, heap_setCell_same w k p cur ty v hb, by simp, fun q hq => ?_⟩
    rw [Array.getElem?_setIfInBounds]
    split
    · rename_i e; subst e; exact absurd hf hq
    · rfl
  · exact ⟨c2, fr.heap hk (fun e2 => e e2), rfl, fun _ _ => rfl⟩
/-- A row of the call's own: its block lies from lo up to hi, and has n cells at least. -/
def RwB (w : World) (lo hi b : Nat) (ty : TypeId) (n : Nat) : Prop := lo ≤ b ∧ b < hi ∧ ∃ cur, w.heap[b]? = some (.cells cur ty (0, 0)) ∧ n ≤ cur.size
theorem RwB.sp {lo hi b n : Nat} {ty : TypeId} {w w' : World} (h : RwB w lo hi b ty n) (g : Sp lo hi w w') : RwB w' lo hi b ty n := by
  obtain ⟨h1, h2, cur, h3, h4⟩ := h
  obtain ⟨c2, e2, s2, _⟩ := g.blk b cur ty h1 h2 h3
  exact ⟨h1, h2, c2, e2, by omega⟩
/-- A cell of it is there, and may be written. -/
theorem RwB.cell {lo hi b n : Nat} {ty : TypeId} {w : World} (h : RwB w lo hi b ty n) {p : Nat} (hp : p < n) : ∃ v, w.cell? ⟨b, p, none⟩ = some v ∧ w.frozen? ⟨b, p, none⟩ = false := by
  obtain ⟨h1, h2, cur, h3, h4⟩ := h
  exact ⟨cur[p]'(by omega), by rw [cell_of_row w b p cur ty (0, 0) h3]; exact Array.getElem?_eq_getElem (by omega), frozen_r h3 p⟩
theorem RwB.set {lo hi b n p : Nat} {ty : TypeId} {w : World} (h : RwB w lo hi b ty n) (hf : free ty p) (v : Value) : Sp lo hi w (w.setCell ⟨b, p, none⟩ v) := by
  obtain ⟨h1, h2, cur, h3, h4⟩ := h
  exact Sp.set h1 h2 h3 hf v
/-- A cell that may not change. -/
theorem RwB.same {lo hi b n p : Nat} {ty : TypeId} {w w' : World} (h : RwB w lo hi b ty n) (g : Sp lo hi w w') (hf : ¬ free ty p) {v : Value} (hv : w.cell? ⟨b, p, none⟩ = some v) : w'.cell? ⟨b, p, none⟩ = some v := by
  obtain ⟨h1, h2, cur, h3, h4⟩ := h
  obtain ⟨c2, e2, s2, q2⟩ := g.blk b cur ty h1 h2 h3
  rw [cell_of_row w b p cur ty (0, 0) h3] at hv
  rw [cell_of_row w' b p c2 ty (0, 0) e2, q2 p hf, hv]
theorem free_ex (p : Nat) : free 39 p ↔ (p % 7 = 0 ∨ p % 7 = 3) := by unfold free; simp
theorem free_st (p : Nat) : free 67 p ↔ (p % 5 = 0 ∨ p % 5 = 1) := by unfold free; simp
theorem free_de (p : Nat) : free 47 p ↔ p % 7 = 0 := by unfold free; simp
theorem free_pa (p : Nat) : free 53 p ↔ p % 2 = 0 := by unfold free; simp
theorem free_str (p : Nat) : free 9 p := by unfold free; simp
/-- The shape of a row of expressions from element i on: where the Kids lie. -/
def ShE (w : World) (lo hi : Nat) : Exs → Nat → Nat → Prop
  | .nil, _, _ => True
  | .cons _ k r, b, i => (∃ ao cap, w.cell? ⟨b, i * 7 + 6, none⟩ = some (.slice ao k.len cap) ∧ k.len ≤ cap ∧ cap ≤ maxLen ∧ (k.len = 0 ∨ ∃ b', ao = some ⟨b', 0, none⟩ ∧ RwB w lo hi b' 39 (k.len * 7) ∧ ShE w lo hi k b' 0)) ∧ ShE w lo hi r b (i + 1)
def ShX (w : World) (lo hi : Nat) (ao : Option Addr) (cap : Nat) (k : Exs) : Prop := k.len ≤ cap ∧ cap ≤ maxLen ∧ (k.len = 0 ∨ ∃ b, ao = some ⟨b, 0, none⟩ ∧ RwB w lo hi b 39 (k.len * 7) ∧ ShE w lo hi k b 0)
theorem ShE.sp {lo hi : Nat} {w w' : World} (g : Sp lo hi w w') : ∀ (k : Exs) (b i n : Nat), RwB w lo hi b 39 n → ShE w lo hi k b i → ShE w' lo hi k b i
  | .nil, _, _, _, _, _ => trivial
  | .cons h k r, b, i, n, hb, ⟨⟨ao, cap, h1, h2, h3, h4⟩, h5⟩ => by
    refine ⟨⟨ao, cap, hb.same g (by rw [free_ex]; omega) h1, h2, h3, ?_⟩, ShE.sp g r b (i + 1) n hb h5⟩
    rcases h4 with h4 | ⟨b', rfl, h6, h7⟩
    · exact Or.inl h4
    · exact Or.inr ⟨b', rfl, h6.sp g, ShE.sp g k b' 0 _ h6 h7⟩
theorem ShX.sp {lo hi : Nat} {w w' : World} {ao : Option Addr} {cap : Nat} {k : Exs} (h : ShX w lo hi ao cap k) (g : Sp lo hi w w') : ShX w' lo hi ao cap k := by
  obtain ⟨h1, h2, h3⟩ := h
  refine ⟨h1, h2, ?_⟩
  rcases h3 with h3 | ⟨b, rfl, h4, h5⟩
  · exact Or.inl h3
  · exact Or.inr ⟨b, rfl, h4.sp g, ShE.sp g k b 0 _ h4 h5⟩
/-- The same of statements. -/
def ShS (w : World) (lo hi : Nat) : Sts → Nat → Nat → Prop
  | .nil, _, _ => True
  | .cons _ e bo el r, b, i => (∃ ao1 c1 ao2 c2 ao3 c3, w.cell? ⟨b, i * 5 + 2, none⟩ = some (.slice ao1 e.len c1) ∧ w.cell? ⟨b, i * 5 + 3, none⟩ = some (.slice ao2 bo.len c2) ∧ w.cell? ⟨b, i * 5 + 4, none⟩ = some (.slice ao3 el.len c3) ∧
      ShX w lo hi ao1 c1 e ∧ (bo.len ≤ c2 ∧ c2 ≤ maxLen ∧ (bo.len = 0 ∨ ∃ b', ao2 = some ⟨b', 0, none⟩ ∧ RwB w lo hi b' 67 (bo.len * 5) ∧ ShS w lo hi bo b' 0)) ∧
      (el.len ≤ c3 ∧ c3 ≤ maxLen ∧ (el.len = 0 ∨ ∃ b', ao3 = some ⟨b', 0, none⟩ ∧ RwB w lo hi b' 67 (el.len * 5) ∧ ShS w lo hi el b' 0))) ∧ ShS w lo hi r b (i + 1)
def ShT (w : World) (lo hi : Nat) (ao : Option Addr) (cap : Nat) (k : Sts) : Prop := k.len ≤ cap ∧ cap ≤ maxLen ∧ (k.len = 0 ∨ ∃ b, ao = some ⟨b, 0, none⟩ ∧ RwB w lo hi b 67 (k.len * 5) ∧ ShS w lo hi k b 0)
theorem ShS.sp {lo hi : Nat} {w w' : World} (g : Sp lo hi w w') : ∀ (k : Sts) (b i n : Nat), RwB w lo hi b 67 n → ShS w lo hi k b i → ShS w' lo hi k b i
  | .nil, _, _, _, _, _ => trivial
  | .cons h e bo el r, b, i, n, hb, ⟨⟨ao1, c1, ao2, c2, ao3, c3, x1, x2, x3, hx, ⟨y1, y2, y3⟩, ⟨z1, z2, z3⟩⟩, h5⟩ => by
    refine ⟨⟨ao1, c1, ao2, c2, ao3, c3, hb.same g (by rw [free_st]; omega) x1, hb.same g (by rw [free_st]; omega) x2, hb.same g (by rw [free_st]; omega) x3, hx.sp g, ⟨y1, y2, ?_⟩, ⟨z1, z2, ?_⟩⟩, ShS.sp g r b (i + 1) n hb h5⟩
    · rcases y3 with y3 | ⟨b', rfl, h6, h7⟩
      · exact Or.inl y3
      · exact Or.inr ⟨b', rfl, h6.sp g, ShS.sp g bo b' 0 _ h6 h7⟩
    · rcases z3 with z3 | ⟨b', rfl, h6, h7⟩
      · exact Or.inl z3
      · exact Or.inr ⟨b', rfl, h6.sp g, ShS.sp g el b' 0 _ h6 h7⟩
theorem ShT.sp {lo hi : Nat} {w w' : World} {ao : Option Addr} {cap : Nat} {k : Sts} (h : ShT w lo hi ao cap k) (g : Sp lo hi w w') : ShT w' lo hi ao cap k := by
  obtain ⟨h1, h2, h3⟩ := h
  refine ⟨h1, h2, ?_⟩
  rcases h3 with h3 | ⟨b, rfl, h4, h5⟩
  · exact Or.inl h3
  · exact Or.inr ⟨b, rfl, h4.sp g, ShS.sp g k b 0 _ h4 h5⟩
end Go.Proofs.YtncachlopnpcjaaGreatDoor.Sl
