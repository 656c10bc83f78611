/- Memory that a Writer, a Reader and plain slices hold; what calls leave as it was. -/
import Derived.Test.YtpjahcncknccdaaGreatRows
import Derived.WalkKit
import Derived.WalkSpells
import Derived.WalkLawsBesides
import Derived.ProofKit
import Derived.RowKit3
import Derived.Laws.AppendOwn
import Derived.Laws.AppendOwnNone
import Derived.Maps.AppendAt
import Derived.Laws.Rows
import Derived.OwnWalk
import Derived.Deep.LoopGhost
import Derived.Deep.DeepCutAuto
namespace Go.Proofs.YtpjahcncknccdaaGreat.Wi
open Go.RowKit
set_option linter.unusedSimpArgs false
set_option linter.unusedVariables false
set_option maxRecDepth 20000

/-- A fact kept from the walk. -/
def Hidden (p : Prop) : Prop := p
theorem alloc_old (w : World) (o : Obj) (k : Nat) (h : k < w.heap.size) : (w.alloc o).heap[k]? = w.heap[k]? := by
  show (w.heap.push o)[k]? = _
  rw [Array.getElem?_push_lt h]
  exact (Array.getElem?_eq_getElem h).symm
theorem alloc_new (w : World) (o : Obj) : (w.alloc o).heap[w.heap.size]? = some o := by
  show (w.heap.push o)[w.heap.size]? = _
  simp

/-- All blocks that were there, but for some, are as they were. -/
structure Fr (S : Nat → Prop) (w w' : World) : Prop where
  os : w'.os = w.os
  output : w'.output = w.output
  size : w.heap.size ≤ w'.heap.size
  block : ∀ k, k < w.heap.size → ¬ S k → w'.heap[k]? = w.heap[k]?

theorem Fr.refl (S : Nat → Prop) (w : World) : Fr S w w := ⟨rfl, rfl, Nat.le_refl _, fun _ _ _ => rfl⟩
theorem Fr.trans {S T : Nat → Prop} {a b c : World} (h : Fr S a b) (g : Fr T b c) (hT : ∀ k, k < a.heap.size → T k → S k) : Fr S a c :=
  ⟨g.os.trans h.os, g.output.trans h.output, Nat.le_trans h.size g.size, fun k hk hn =>
    (g.block k (Nat.lt_of_lt_of_le hk h.size) (fun t => hn (hT k hk t))).trans (h.block k hk hn)⟩
theorem Fr.same {S : Nat → Prop} {a b c : World} (h : Fr S a b) (g : Fr S b c) : Fr S a c := h.trans g (fun _ _ t => t)
theorem Fr.mono {S T : Nat → Prop} {a b : World} (h : Fr S a b) (hT : ∀ k, k < a.heap.size → S k → T k) : Fr T a b :=
  ⟨h.os, h.output, h.size, fun k hk hn => h.block k hk (fun t => hn (hT k hk t))⟩
theorem Fr.alloc (S : Nat → Prop) (w : World) (o : Obj) : Fr S w (w.alloc o) := ⟨rfl, rfl, by simp, fun k hk _ => alloc_old w o k hk⟩
theorem Fr.drew (S : Nat → Prop) (w : World) : Fr S w w.drew := ⟨rfl, rfl, Nat.le_refl _, fun _ _ _ => rfl⟩
theorem Fr.grown {w w' : World} {row : Option Nat} (h : w.grownBy w' row) : Fr (fun k => some k = row) w w' := ⟨h.os, h.output, h.size, fun k hk hn => h.block k hk hn⟩
theorem Fr.setCell (w : World) (a : Addr) (v : Value) : Fr (fun k => k = a.block) w (w.setCell a v) :=
  ⟨rfl, rfl, by simp, fun k _ hn => heap_setCell_other w a k v hn⟩
theorem Fr.kept {w w' : World} (h : Fr (fun _ => False) w w') : w.keptBut w' (fun _ => False) :=
  ⟨h.os, h.output, fun i hi => by
    rw [h.block i hi (fun f => f)]
    cases w.heap[i]? with
    | none => rfl
    | some o => cases o <;> simp⟩
theorem Fr.cell {S : Nat → Prop} {w w' : World} (h : Fr S w w') {a : Addr} {v : Value} (hc : w.cell? a = some v) (hn : ¬ S a.block) : w'.cell? a = some v :=
  (World.cell?_of_block (h.block a.block (World.block_lt_of_cell? w a hc) hn)).trans hc
theorem lt_of_heap {w : World} {k : Nat} {o : Obj} (h : w.heap[k]? = some o) : k < w.heap.size := (Array.getElem?_eq_some_iff.1 h).1
theorem Fr.heap {S : Nat → Prop} {w w' : World} (h : Fr S w w') {k : Nat} {o : Obj} (hc : w.heap[k]? = some o) (hn : ¬ S k) : w'.heap[k]? = some o :=
  (h.block k (lt_of_heap hc) hn).trans hc

/-- A slice of one-cell elements, and what they hold. -/
def Sl (w : World) (v : Value) (xs : List Value) : Prop :=
  ∃ ao cap, v = .slice ao xs.length cap ∧ xs.length ≤ cap ∧ cap ≤ maxLen ∧ (ao = none → cap = 0) ∧
    (xs = [] ∨ ∃ b off, ao = some ⟨b, off, none⟩ ∧ ∀ (i : Nat) (x : Value), xs[i]? = some x → w.cell? ⟨b, off + i, none⟩ = some x)

theorem Sl.nil (w : World) : Sl w (.slice none 0 0) [] := ⟨none, 0, rfl, by simp, by simp, fun _ => rfl, Or.inl rfl⟩
theorem Sl.keep {S : Nat → Prop} {w w' : World} {v : Value} {xs : List Value} (h : Sl w v xs) (hf : Fr S w w') (hn : ∀ k, v.ownBlock = some k → ¬ S k) : Sl w' v xs := by
  obtain ⟨ao, cap, rfl, h1, h2, h3, h4⟩ := h
  refine ⟨ao, cap, rfl, h1, h2, h3, ?_⟩
  rcases h4 with rfl | ⟨b, off, rfl, hc⟩
  · exact Or.inl rfl
  · exact Or.inr ⟨b, off, rfl, fun i x hx => hf.cell (hc i x hx) (hn b rfl)⟩
theorem Sl.of_own {w : World} {base : Nat} {e : TypeId} {v : Value} {n : Nat} {xs : List Value} (h : w.ownsRow base e 1 v n xs) : Sl w v xs ∧ n = xs.length := by
  obtain ⟨hl, hh⟩ := h
  obtain rfl : n = xs.length := by omega
  refine ⟨?_, rfl⟩
  rcases hh with ⟨rfl, h0⟩ | ⟨g, cap, cur, rfl, hb, hg, hnc, hcm, hcs, ht⟩
  · obtain rfl : xs = [] := List.eq_nil_of_length_eq_zero h0
    exact Sl.nil w
  · refine ⟨some ⟨g, 0, none⟩, cap, rfl, hnc, hcm, (fun h => by cases h), Or.inr ⟨g, 0, rfl, fun i x hx => ?_⟩⟩
    rw [Nat.zero_add, cell_of_row w g i cur e (0, 0) hg]
    rw [← ht, List.getElem?_take] at hx
    split at hx
    · simpa using hx
    · cases hx

/-- Bytes as cells. -/
def bc (l : List UInt8) : List Value := l.map fun c => .int .u8 (c.toNat : Int)
@[simp] theorem bc_length (l : List UInt8) : (bc l).length = l.length := by simp [bc]
theorem bc_append (a b : List UInt8) : bc (a ++ b) = bc a ++ bc b := by simp [bc]
theorem bc_one (l : List UInt8) : ∀ u ∈ bc l, u.oneCell' = true := by
  intro u hu
  simp only [bc, List.mem_map] at hu
  obtain ⟨c, _, rfl⟩ := hu
  rfl

/-- A Writer at block p: all bytes that it holds; its array's block. -/
def Wr (w : World) (p : Nat) (bs : List UInt8) (g : Option Nat) : Prop :=
  ∃ v, w.heap[p]? = some (.cells #[v] 61 (0, 0)) ∧ w.ownsRow 0 5 1 v bs.length (bc bs) ∧ v.ownBlock = g ∧ g ≠ some p

theorem Wr.keep {S : Nat → Prop} {w w' : World} {p : Nat} {bs : List UInt8} {g : Option Nat} (h : Wr w p bs g) (hf : Fr S w w') (hp : ¬ S p) (hg : ∀ k, g = some k → ¬ S k) : Wr w' p bs g := by
  obtain ⟨v, h1, h2, h3, h4⟩ := h
  refine ⟨v, hf.heap h1 hp, ⟨h2.1, ?_⟩, h3, h4⟩
  rcases h2.2 with hn | ⟨g', cap, cur, rfl, hb, hgg, rest⟩
  · exact Or.inl hn
  · exact Or.inr ⟨g', cap, cur, rfl, hb, hf.heap hgg (hg g' h3.symm), rest⟩

/-- A writer's pointer (nil: nothing is known), with room for n bytes more. -/
def WrO (pv : Value) (w : World) (bs : List UInt8) (g : Option Nat) (n : Nat) : Prop :=
  (pv = .pointer none ∧ g = none) ∨ ∃ p, pv = .pointer (some ⟨p, 0, none⟩) ∧ Wr w p bs g ∧ bs.length + n ≤ 140737488355328

/-- The block of a pointer. -/
def pblk : Value → Option Nat
  | .pointer (some a) => some a.block
  | _ => none

def WTo (pv : Value) (w : World) (g : Option Nat) (w' : World) (bs : List UInt8) (n : Nat) : Prop :=
  ∃ g', WrO pv w' bs g' n ∧ Fr (fun k => pblk pv = some k ∨ g = some k) w w' ∧ (g' = g ∨ ∃ k, g' = some k ∧ w.heap.size ≤ k)

theorem WrO.alloc {pv : Value} {w : World} {bs : List UInt8} {g : Option Nat} {n : Nat} (h : WrO pv w bs g n) (o : Obj) : WrO pv (w.alloc o) bs g n := by
  rcases h with h | ⟨p, rfl, hw, hb⟩
  · exact Or.inl h
  · exact Or.inr ⟨p, rfl, hw.keep (Fr.alloc (fun _ => False) w o) (fun f => f) (fun _ _ f => f), hb⟩
theorem WrO.keep {S : Nat → Prop} {pv : Value} {w w' : World} {bs : List UInt8} {g : Option Nat} {n : Nat} (h : WrO pv w bs g n) (hf : Fr S w w') (hp : ∀ k, pblk pv = some k → ¬ S k) (hg : ∀ k, g = some k → ¬ S k) : WrO pv w' bs g n := by
  rcases h with h | ⟨p, rfl, hw, hb⟩
  · exact Or.inl h
  · exact Or.inr ⟨p, rfl, hw.keep hf (hp p rfl) hg, hb⟩
theorem WTo.refl {pv : Value} {w : World} {bs : List UInt8} {g : Option Nat} {n : Nat} (h : WrO pv w bs g n) : WTo pv w g w bs n := ⟨g, h, Fr.refl _ _, Or.inl rfl⟩
/-- Behind new memory. -/
theorem WTo.of_alloc {pv : Value} {w w' : World} {bs : List UInt8} {g : Option Nat} {n : Nat} {o : Obj} (h : WTo pv (w.alloc o) g w' bs n) : WTo pv w g w' bs n := by
  obtain ⟨g', h1, h2, h3⟩ := h
  refine ⟨g', h1, (Fr.alloc _ w o).same h2, ?_⟩
  rcases h3 with h3 | ⟨k, h3, h4⟩
  · exact Or.inl h3
  · exact Or.inr ⟨k, h3, by simp at h4; omega⟩
theorem WTo.trans {pv : Value} {w w1 w2 : World} {bs : List UInt8} {g g1 : Option Nat} {n : Nat}
    (hf : Fr (fun k => pblk pv = some k ∨ g = some k) w w1) (hg : g1 = g ∨ ∃ k, g1 = some k ∧ w.heap.size ≤ k) (h : WTo pv w1 g1 w2 bs n) : WTo pv w g w2 bs n := by
  obtain ⟨g2, h1, h2, h3⟩ := h
  refine ⟨g2, h1, hf.trans h2 ?_, ?_⟩
  · intro k hk hs
    rcases hs with hs | hs
    · exact Or.inl hs
    · rcases hg with rfl | ⟨k', rfl, hk'⟩
      · exact Or.inr hs
      · have : k' = k := by simpa using hs
        omega
  · rcases h3 with rfl | ⟨k, h3, h4⟩
    · exact hg
    · exact Or.inr ⟨k, h3, by have := hf.size; omega⟩
end Go.Proofs.YtpjahcncknccdaaGreat.Wi
