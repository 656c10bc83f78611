/- Texts of ours, in one. -/
import Derived.Test.YtoiglopilpoafaaGreatDoorRows
import Derived.WalkKit
import Derived.WalkSpells
import Derived.WalkLawsBesides
import Derived.ProofKit
import Derived.RowKit3
import Derived.Laws.AppendOwn
import Derived.Laws.AppendOwnNone
import Derived.Maps.AppendAt
import Derived.Laws.Rows
import Derived.OwnWalk
import Derived.Deep.LoopGhost
import Derived.Deep.DeepCutAuto
import Derived.Lib.SlicesCompact
import Derived.Sort.EncStr
import Derived.Deep.RegionWith
namespace Go.Proofs.YtoiglopilpoafaaGreatDoor
open Go.RowKit
set_option linter.unusedSimpArgs false
set_option linter.unusedVariables false

/-- A fact kept from the walk. -/
def Hidden (p : Prop) : Prop := p
theorem alloc_old (w : World) (o : Obj) (k : Nat) (h : k < w.heap.size) : (w.alloc o).heap[k]? = w.heap[k]? := by
  show (w.heap.push o)[k]? = _
  rw [Array.getElem?_push_lt h]
  exact (Array.getElem?_eq_getElem h).symm
theorem alloc_new (w : World) (o : Obj) : (w.alloc o).heap[w.heap.size]? = some o := by
  show (w.heap.push o)[w.heap.size]? = _
  simp

/-- All blocks that were there, but for some, are as they were. -/
structure Fr (S : Nat → Prop) (w w' : World) : Prop where
  os : w'.os = w.os
  output : w'.output = w.output
  size : w.heap.size ≤ w'.heap.size
  block : ∀ k, k < w.heap.size → ¬ S k → w'.heap[k]? = w.heap[k]?

theorem Fr.refl (S : Nat → Prop) (w : World) : Fr S w w := ⟨rfl, rfl, Nat.le_refl _, fun _ _ _ => rfl⟩
theorem Fr.trans {S T : Nat → Prop} {a b c : World} (h : Fr S a b) (g : Fr T b c) (hT : ∀ k, k < a.heap.size → T k → S k) : Fr S a c :=
  ⟨g.os.trans h.os, g.output.trans h.output, Nat.le_trans h.size g.size, fun k hk hn =>
    (g.block k (Nat.lt_of_lt_of_le hk h.size) (fun t => hn (hT k hk t))).trans (h.block k hk hn)⟩
theorem Fr.same {S : Nat → Prop} {a b c : World} (h : Fr S a b) (g : Fr S b c) : Fr S a c := h.trans g (fun _ _ t => t)
theorem Fr.mono {S T : Nat → Prop} {a b : World} (h : Fr S a b) (hT : ∀ k, k < a.heap.size → S k → T k) : Fr T a b :=
  ⟨h.os, h.output, h.size, fun k hk hn => h.block k hk (fun t => hn (hT k hk t))⟩
theorem Fr.alloc (S : Nat → Prop) (w : World) (o : Obj) : Fr S w (w.alloc o) := ⟨rfl, rfl, by simp, fun k hk _ => alloc_old w o k hk⟩
theorem Fr.drew (S : Nat → Prop) (w : World) : Fr S w w.drew := ⟨rfl, rfl, Nat.le_refl _, fun _ _ _ => rfl⟩
theorem Fr.grown {w w' : World} {row : Option Nat} (h : w.grownBy w' row) : Fr (fun k => some k = row) w w' := ⟨h.os, h.output, h.size, fun k hk hn => h.block k hk hn⟩
theorem Fr.setCell (w : World) (a : Addr) (v : Value) : Fr (fun k => k = a.block) w (w.setCell a v) :=
  ⟨rfl, rfl, by simp, fun k _ hn => heap_setCell_other w a k v hn⟩
theorem Fr.kept {w w' : World} (h : Fr (fun _ => False) w w') : w.keptBut w' (fun _ => False) :=
  ⟨h.os, h.output, fun i hi => by
    rw [h.block i hi (fun f => f)]
    cases w.heap[i]? with
    | none => rfl
    | some o => cases o <;> simp⟩
theorem Fr.cell {S : Nat → Prop} {w w' : World} (h : Fr S w w') {a : Addr} {v : Value} (hc : w.cell? a = some v) (hn : ¬ S a.block) : w'.cell? a = some v :=
  (World.cell?_of_block (h.block a.block (World.block_lt_of_cell? w a hc) hn)).trans hc
theorem lt_of_heap {w : World} {k : Nat} {o : Obj} (h : w.heap[k]? = some o) : k < w.heap.size := (Array.getElem?_eq_some_iff.1 h).1
theorem Fr.heap {S : Nat → Prop} {w w' : World} (h : Fr S w w') {k : Nat} {o : Obj} (hc : w.heap[k]? = some o) (hn : ¬ S k) : w'.heap[k]? = some o :=
  (h.block k (lt_of_heap hc) hn).trans hc

/-- A slice of one-cell elements, and what they hold. -/
def Sl (w : World) (v : Value) (xs : List Value) : Prop :=
  ∃ ao cap, v = .slice ao xs.length cap ∧ xs.length ≤ cap ∧ cap ≤ maxLen ∧ (ao = none → cap = 0) ∧
    (xs = [] ∨ ∃ b off, ao = some ⟨b, off, none⟩ ∧ ∀ (i : Nat) (x : Value), xs[i]? = some x → w.cell? ⟨b, off + i, none⟩ = some x)

theorem Sl.nil (w : World) : Sl w (.slice none 0 0) [] := ⟨none, 0, rfl, by simp, by simp, fun _ => rfl, Or.inl rfl⟩
theorem Sl.keep {S : Nat → Prop} {w w' : World} {v : Value} {xs : List Value} (h : Sl w v xs) (hf : Fr S w w') (hn : ∀ k, v.ownBlock = some k → ¬ S k) : Sl w' v xs := by
  obtain ⟨ao, cap, rfl, h1, h2, h3, h4⟩ := h
  refine ⟨ao, cap, rfl, h1, h2, h3, ?_⟩
  rcases h4 with rfl | ⟨b, off, rfl, hc⟩
  · exact Or.inl rfl
  · exact Or.inr ⟨b, off, rfl, fun i x hx => hf.cell (hc i x hx) (hn b rfl)⟩
theorem Sl.of_own {w : World} {base : Nat} {e : TypeId} {v : Value} {n : Nat} {xs : List Value} (h : w.ownsRow base e 1 v n xs) : Sl w v xs ∧ n = xs.length := by
  obtain ⟨hl, hh⟩ := h
  obtain rfl : n = xs.length := by omega
  refine ⟨?_, rfl⟩
  rcases hh with ⟨rfl, h0⟩ | ⟨g, cap, cur, rfl, hb, hg, hnc, hcm, hcs, ht⟩
  · obtain rfl : xs = [] := List.eq_nil_of_length_eq_zero h0
    exact Sl.nil w
  · refine ⟨some ⟨g, 0, none⟩, cap, rfl, hnc, hcm, (fun h => by cases h), Or.inr ⟨g, 0, rfl, fun i x hx => ?_⟩⟩
    rw [Nat.zero_add, cell_of_row w g i cur e (0, 0) hg]
    rw [← ht, List.getElem?_take] at hx
    split at hx
    · simpa using hx
    · cases hx

theorem Fr.over {S T : Nat → Prop} {a b c : World} (h : Fr S a b) (g : Fr T b c) (hT : ∀ k, T k → a.heap.size ≤ k) : Fr S a c :=
  h.trans g (fun k hk t => absurd (hT k t) (by omega))
/-- A new row is not one of those that were. -/
theorem Fr.cellN {w w' : World} (h : Fr (fun _ => False) w w') {a : Addr} {v : Value} (hc : w.cell? a = some v) : w'.cell? a = some v := h.cell hc (fun f => f)
end Go.Proofs.YtoiglopilpoafaaGreatDoor

namespace Go.Proofs.YtoiglopilpoafaaGreatDoor
set_option linter.unusedSimpArgs false
set_option linter.unusedVariables false

abbrev Str := List UInt8

/-- A set: in order, each once. -/
def SS (l : List Str) : Prop := l.Pairwise (· < ·)

theorem SS.ext : ∀ {a b : List Str}, SS a → SS b → (∀ x, x ∈ a ↔ x ∈ b) → a = b
  | [], [], _, _, _ => rfl
  | [], y :: b, _, _, h => absurd ((h y).2 (by simp)) (by simp)
  | x :: a, [], _, _, h => absurd ((h x).1 (by simp)) (by simp)
  | x :: a, y :: b, ha, hb, h => by
    obtain ⟨ha1, ha2⟩ := List.pairwise_cons.1 ha
    obtain ⟨hb1, hb2⟩ := List.pairwise_cons.1 hb
    have e : x = y := by
      rcases List.mem_cons.1 ((h x).1 (by simp)) with e | hx
      · exact e
      · rcases List.mem_cons.1 ((h y).2 (by simp)) with e | hy
        · exact e.symm
        · exact absurd (Std.lt_trans (ha1 y hy) (hb1 x hx)) Std.lt_irrefl
    subst e
    have ht : a = b := SS.ext ha2 hb2 fun z => by
      constructor
      · intro hz
        rcases List.mem_cons.1 ((h z).1 (by simp [hz])) with e | hz'
        · subst e; exact absurd (ha1 z hz) Std.lt_irrefl
        · exact hz'
      · intro hz
        rcases List.mem_cons.1 ((h z).2 (by simp [hz])) with e | hz'
        · subst e; exact absurd (hb1 z hz) Std.lt_irrefl
        · exact hz'
    rw [ht]
end Go.Proofs.YtoiglopilpoafaaGreatDoor

namespace Go.Proofs.YtoiglopilpoafaaGreatDoor
open Go.RowKit Go.Sort
set_option linter.unusedSimpArgs false
set_option linter.unusedVariables false

/-- A list of texts that can be read at v. -/
def Tl (w : World) (v : Value) (l : List Str) : Prop :=
  ∃ ao cap, v = .slice ao l.length cap ∧ l.length ≤ cap ∧ cap ≤ 9223372036854775807 ∧ (ao = none → cap = 0) ∧
    (l = [] ∨ ∃ b off, ao = some ⟨b, off, none⟩ ∧ ∀ (i : Nat) (x : Str), l[i]? = some x → w.cell? ⟨b, off + i, none⟩ = some (encStr x))
/-- A list of texts in memory of the call's own, which may be written. -/
def Tn (w : World) (B : Nat) (v : Value) (l : List Str) : Prop :=
  ∃ ao cap, v = .slice ao l.length cap ∧ l.length ≤ cap ∧ cap ≤ 9223372036854775807 ∧ (ao = none → cap = 0) ∧
    (l = [] ∨ ∃ b off, ao = some ⟨b, off, none⟩ ∧ B ≤ b ∧ b < w.heap.size ∧ Holds encStr w b off l.toArray)

theorem Tn.tl {w : World} {B : Nat} {v : Value} {l : List Str} (h : Tn w B v l) : Tl w v l := by
  obtain ⟨ao, cap, rfl, h1, h2, h3, h4⟩ := h
  refine ⟨ao, cap, rfl, h1, h2, h3, ?_⟩
  rcases h4 with h4 | ⟨b, off, rfl, hB, hb, hH⟩
  · exact Or.inl h4
  · refine Or.inr ⟨b, off, rfl, fun i x hx => ?_⟩
    obtain ⟨hi, e⟩ := List.getElem?_eq_some_iff.1 hx
    have := (hH i (by simpa using hi)).1
    rw [this, getElem!_pos _ i (by simpa using hi)]
    simp [e]
theorem Tl.keep {S : Nat → Prop} {w w' : World} {v : Value} {l : List Str} (h : Tl w v l) (hf : Fr S w w') (hn : ∀ k, v.ownBlock = some k → ¬ S k) : Tl w' v l := by
  obtain ⟨ao, cap, rfl, h1, h2, h3, h4⟩ := h
  refine ⟨ao, cap, rfl, h1, h2, h3, ?_⟩
  rcases h4 with rfl | ⟨b, off, rfl, hc⟩
  · exact Or.inl rfl
  · exact Or.inr ⟨b, off, rfl, fun i x hx => hf.cell (hc i x hx) (hn b rfl)⟩
theorem Tn.keep {S : Nat → Prop} {w w' : World} {B : Nat} {v : Value} {l : List Str} (h : Tn w B v l) (hf : Fr S w w') (hn : ∀ k, v.ownBlock = some k → ¬ S k) : Tn w' B v l := by
  obtain ⟨ao, cap, rfl, h1, h2, h3, h4⟩ := h
  refine ⟨ao, cap, rfl, h1, h2, h3, ?_⟩
  rcases h4 with rfl | ⟨b, off, rfl, hB, hb, hH⟩
  · exact Or.inl rfl
  · refine Or.inr ⟨b, off, rfl, hB, Nat.lt_of_lt_of_le hb hf.size, fun j hj => ?_⟩
    have e := hf.block b hb (hn b rfl)
    rw [World.cell?_of_block (a := ⟨b, off + j, none⟩) e, World.frozen?_of_block (a := ⟨b, off + j, none⟩) e]
    exact hH j hj
/-- What lies in memory from ahead is apart from what is new. -/
theorem Tl.nil (w : World) : Tl w (.slice none 0 0) [] := ⟨none, 0, rfl, by simp, by simp, fun _ => rfl, Or.inl rfl⟩
end Go.Proofs.YtoiglopilpoafaaGreatDoor

namespace Go.Proofs.YtoiglopilpoafaaGreatDoor
open Go.RowKit Go.Sort
set_option linter.unusedSimpArgs false
set_option linter.unusedVariables false
end Go.Proofs.YtoiglopilpoafaaGreatDoor

namespace Go.Proofs.YtoiglopilpoafaaGreatDoor
open Go.RowKit Go.Sort
set_option linter.unusedSimpArgs false
set_option linter.unusedVariables false

theorem str_len (t : List UInt8) : ((⟨t.toArray⟩ : ByteArray).size : Int) = (t.length : Int) := by simp [ByteArray.size]
theorem str_index (l : List UInt8) (k : Nat) (c : UInt8) (h : l[k]? = some c) (w : World) :
    (Instr.index 9 (.string ⟨l.toArray⟩) (.int .i64 (k : Int))).run Tryz.prog w = .ok (.int .u8 (c.toNat : Int)) w := by
  obtain ⟨hk, hc⟩ := List.getElem?_eq_some_iff.1 h
  have hs : k < (⟨l.toArray⟩ : ByteArray).size := by simpa [ByteArray.size] using hk
  rw [run_index_string _ _ _ _ _ Tryz.underlying9, dif_pos ⟨by omega, by omega⟩]
  have e : (⟨l.toArray⟩ : ByteArray)[k]'hs = c := by
    show l.toArray[k] = c
    simpa using hc
  simp only [Int.toNat_natCast]
  rw [e]
theorem drop_at {α : Type} {l : List α} {j : Nat} {c : α} (h : l[j]? = some c) : l.drop j = c :: l.drop (j + 1) := by
  obtain ⟨hj, rfl⟩ := List.getElem?_eq_some_iff.1 h
  exact List.drop_eq_getElem_cons hj

theorem frozen_of_row {w : World} {g : Nat} {cur : Array Value} {e : TypeId} (h : w.heap[g]? = some (.cells cur e (0, 0))) (j : Nat) : w.frozen? ⟨g, j, none⟩ = false := by simp [World.frozen?, h]

/-- The reserved words. -/
def wordsL : List Str := [[98, 111, 111, 108], [99, 97, 116, 99, 104], [99, 111, 110, 115, 116], [101, 108, 115, 101], [101, 120, 112, 111, 114, 116], [102, 97, 105, 108], [102, 97, 108, 115, 101], [102, 108, 111, 97, 116], [102, 110], [105, 102], [105, 109, 112, 111, 114, 116], [105, 110, 102], [105, 110, 112, 117, 116], [105, 110, 116], [108, 101, 116], [109, 111, 100, 117, 108, 101], [110, 97, 110], [114, 101, 116, 117, 114, 110], [115, 104, 111, 119], [116, 114, 117, 101], [116, 114, 121], [118, 97, 114], [119, 104, 105, 108, 101]]

theorem Tn.words (w : World) : Tn (w.alloc (.cells (wordsL.map encStr).toArray 9)) w.heap.size (.slice (some ⟨w.heap.size, 0, none⟩) 23 23) wordsL := by
  refine ⟨_, 23, rfl, by decide, by omega, (fun h => by cases h), Or.inr ⟨w.heap.size, 0, rfl, Nat.le_refl _, by simp, fun j hj => ?_⟩⟩
  have hb := alloc_new w (.cells (wordsL.map encStr).toArray 9)
  have hj' : j < wordsL.length := by simpa using hj
  constructor
  · rw [Nat.zero_add, cell_of_row _ _ _ _ _ _ hb, getElem!_pos _ j hj]
    simp [hj']
  · exact frozen_of_row hb _

end Go.Proofs.YtoiglopilpoafaaGreatDoor

namespace Go.Proofs.YtoiglopilpoafaaGreatDoor
open Go.RowKit Go.Sort
set_option linter.unusedSimpArgs false
set_option linter.unusedVariables false

/-- The least place of s, from a place on. -/
def idxGo (s : Str) : List Str → Nat → Int
  | [], _ => -1
  | x :: r, i => if x = s then (i : Int) else idxGo s r (i + 1)
def findGo (s : Str) : List Str → Nat → Int × Bool
  | [], _ => (0, false)
  | x :: r, i => if x = s then ((i : Int), true) else findGo s r (i + 1)
def findS (l : List Str) (s : Str) : Int × Bool := findGo s l 0
theorem findGo_spec (s : Str) : ∀ (l : List Str) (i : Nat), (s ∉ l ∧ findGo s l i = (0, false) ∧ idxGo s l i = -1) ∨ ∃ k : Nat, l[k]? = some s ∧ findGo s l i = (((i + k : Nat) : Int), true) ∧ idxGo s l i = ((i + k : Nat) : Int)
  | [], i => Or.inl ⟨by simp, rfl, rfl⟩
  | x :: r, i => by
    unfold findGo idxGo
    by_cases h : x = s
    · rw [if_pos h, if_pos h]
      exact Or.inr ⟨0, by simp [h], by simp, by simp⟩
    · rw [if_neg h, if_neg h]
      rcases findGo_spec s r (i + 1) with ⟨h1, h2, h3⟩ | ⟨k, h1, h2, h3⟩
      · exact Or.inl ⟨by simp [h1, Ne.symm h], h2, h3⟩
      · exact Or.inr ⟨k + 1, by simpa using h1, by rw [h2]; congr 2; omega, by rw [h3]; congr 1; omega⟩
theorem findS_spec (l : List Str) (s : Str) : (s ∉ l ∧ findS l s = (0, false) ∧ idxGo s l 0 = -1) ∨ ∃ k : Nat, l[k]? = some s ∧ findS l s = ((k : Int), true) ∧ idxGo s l 0 = (k : Int) := by
  have := findGo_spec s l 0
  simp only [Nat.zero_add] at this
  exact this
theorem findS_mem (l : List Str) (s : Str) : (findS l s).2 = decide (s ∈ l) := by
  rcases findS_spec l s with ⟨h1, h2, _⟩ | ⟨k, h1, h2, _⟩
  · rw [h2]; simp [h1]
  · rw [h2, decide_eq_true (List.mem_of_getElem? h1)]

end Go.Proofs.YtoiglopilpoafaaGreatDoor

namespace Go.Proofs.YtoiglopilpoafaaGreatDoor.Im
open Go.RowKit
set_option linter.unusedSimpArgs false
set_option linter.unusedVariables false

/-- What is written can be told from what stands behind it. -/
def PF {α β : Type} (P : α → Prop) (enc : α → List β) : Prop := ∀ a b x y, P a → P b → enc a ++ x = enc b ++ y → a = b ∧ x = y
theorem PF.fix {α β : Type} {P : α → Prop} {enc : α → List β} (n : Nat) (hl : ∀ a, P a → (enc a).length = n) (hi : ∀ a b, P a → P b → enc a = enc b → a = b) : PF P enc := by
  intro a b x y ha hb e
  obtain ⟨e1, e2⟩ := List.append_inj e ((hl a ha).trans (hl b hb).symm)
  exact ⟨hi a b ha hb e1, e2⟩
theorem PF.pair {α γ β : Type} {P : α → Prop} {R : γ → Prop} {e1 : α → List β} {e2 : γ → List β} (h1 : PF P e1) (h2 : PF R e2) : PF (fun z : α × γ => P z.1 ∧ R z.2) (fun z => e1 z.1 ++ e2 z.2) := by
  intro a b x y ha hb e
  simp only [List.append_assoc] at e
  obtain ⟨q1, q2⟩ := h1 a.1 b.1 _ _ ha.1 hb.1 e
  obtain ⟨q3, q4⟩ := h2 a.2 b.2 _ _ ha.2 hb.2 q2
  exact ⟨Prod.ext q1 q3, q4⟩
theorem PF.map {α γ β : Type} {P : α → Prop} {R : γ → Prop} {e1 : γ → List β} (h : PF R e1) (f : α → γ) (hp : ∀ a, P a → R (f a)) (hi : ∀ a b, P a → P b → f a = f b → a = b) : PF P (fun a => e1 (f a)) := by
  intro a b x y ha hb e
  obtain ⟨q1, q2⟩ := h _ _ _ _ (hp a ha) (hp b hb) e
  exact ⟨hi a b ha hb q1, q2⟩
theorem PF.many {α β : Type} {P : α → Prop} {enc : α → List β} (h : PF P enc) : ∀ (l m : List α) (x y : List β), (∀ a ∈ l, P a) → (∀ a ∈ m, P a) → l.length = m.length → l.flatMap enc ++ x = m.flatMap enc ++ y → l = m ∧ x = y
  | [], [], x, y, _, _, _, e => ⟨rfl, by simpa using e⟩
  | [], b :: m, x, y, _, _, hl, _ => by simp at hl
  | a :: l, [], x, y, _, _, hl, _ => by simp at hl
  | a :: l, b :: m, x, y, hp, hq, hl, e => by
    simp only [List.flatMap_cons, List.append_assoc] at e
    obtain ⟨q1, q2⟩ := h a b _ _ (hp a List.mem_cons_self) (hq b List.mem_cons_self) e
    obtain ⟨q3, q4⟩ := PF.many h l m x y (fun c hc => hp c (List.mem_cons_of_mem _ hc)) (fun c hc => hq c (List.mem_cons_of_mem _ hc)) (by simpa using hl) q2
    exact ⟨by rw [q1, q3], q4⟩
/-- A row with how many there are ahead of it. -/
theorem PF.counted {α β : Type} {P : α → Prop} {enc : α → List β} {N : Nat → Prop} {cnt : Nat → List β} (h : PF P enc) (hc : PF N cnt) : PF (fun l : List α => N l.length ∧ ∀ a ∈ l, P a) (fun l => cnt l.length ++ l.flatMap enc) := by
  intro a b x y ha hb e
  simp only [List.append_assoc] at e
  obtain ⟨q1, q2⟩ := hc _ _ _ _ ha.1 hb.1 e
  exact PF.many h a b x y ha.2 hb.2 q1 q2
/-- A row of signs with its length ahead of it. -/
theorem PF.raw {β : Type} {N : Nat → Prop} {cnt : Nat → List β} (hc : PF N cnt) : PF (fun l : List β => N l.length) (fun l => cnt l.length ++ l) := by
  intro a b x y ha hb e
  simp only [List.append_assoc] at e
  obtain ⟨q1, q2⟩ := hc _ _ _ _ ha hb e
  exact List.append_inj q2 q1
/-- Neither a beginning of another nor more than it. -/
theorem PF.cut {α β : Type} {P : α → Prop} {enc : α → List β} (h : PF P enc) {a b : α} (ha : P a) (hb : P b) {s t r : List β} (hl : s.length = t.length) (e : enc a ++ s = enc b ++ t ++ r) : r = [] ∧ a = b ∧ s = t := by
  rw [List.append_assoc] at e
  obtain ⟨q1, q2⟩ := h a b _ _ ha hb e
  have : r = [] := by
    have := congrArg List.length q2
    rw [List.length_append] at this
    exact List.eq_nil_of_length_eq_zero (by omega)
  subst this
  exact ⟨rfl, q1, by simpa using q2⟩
end Go.Proofs.YtoiglopilpoafaaGreatDoor.Im

namespace Go.Proofs.YtoiglopilpoafaaGreatDoor.Im
open Go.RowKit
set_option linter.unusedSimpArgs false
set_option linter.unusedVariables false

/-- One byte. -/
def fnvB (h : Nat) (b : Nat) : Nat := ((h ^^^ b) * 16777619) % 4294967296
def fnvS (h : Nat) (l : List Nat) : Nat := l.foldl fnvB h
theorem fnvB_lt (h b : Nat) : fnvB h b < 4294967296 := Nat.mod_lt _ (by decide)
theorem fnvS_lt (h : Nat) (hh : h < 4294967296) : ∀ l : List Nat, fnvS h l < 4294967296 := by
  intro l
  induction l generalizing h with
  | nil => exact hh
  | cons b r ih => exact ih _ (fnvB_lt h b)
theorem mul_inj {x y : Nat} (hx : x < 4294967296) (hy : y < 4294967296) (h : (x * 16777619) % 4294967296 = (y * 16777619) % 4294967296) : x = y := by
  have e : ∀ z, z < 4294967296 → ((z * 16777619) % 4294967296 * 899433627) % 4294967296 = z := by
    intro z hz
    rw [Nat.mul_mod, Nat.mod_mod, ← Nat.mul_mod, Nat.mul_assoc, show 16777619 * 899433627 = 1 + 4294967296 * 3513497 by decide, Nat.mul_add, Nat.mul_one, Nat.mul_left_comm, Nat.add_mul_mod_self_left, Nat.mod_eq_of_lt hz]
  rw [← e x hx, ← e y hy, h]
theorem xor_lt32 {h b : Nat} (hh : h < 4294967296) (hb : b < 256) : h ^^^ b < 4294967296 := Nat.xor_lt_two_pow (n := 32) hh (by omega)
theorem xor_inj_left {a b c : Nat} (h : a ^^^ c = b ^^^ c) : a = b := by
  have := congrArg (fun z => z ^^^ c) h
  simpa [Nat.xor_assoc, Nat.xor_self] using this
theorem fnvB_inj {h h' b : Nat} (h1 : h < 4294967296) (h2 : h' < 4294967296) (hb : b < 256) (e : fnvB h b = fnvB h' b) : h = h' :=
  xor_inj_left (mul_inj (xor_lt32 h1 hb) (xor_lt32 h2 hb) e)
theorem fnvB_turn {h b b' : Nat} (h1 : h < 4294967296) (hb : b < 256) (hb' : b' < 256) (e : fnvB h b = fnvB h b') : b = b' := by
  have := mul_inj (xor_lt32 h1 hb) (xor_lt32 h1 hb') e
  rw [Nat.xor_comm h b, Nat.xor_comm h b'] at this
  exact xor_inj_left this
theorem fnvS_inj : ∀ (l : List Nat) {h h' : Nat}, h < 4294967296 → h' < 4294967296 → (∀ b ∈ l, b < 256) → fnvS h l = fnvS h' l → h = h'
  | [], h, h', _, _, _, e => e
  | b :: r, h, h', h1, h2, hl, e => by
    have hb := hl b List.mem_cons_self
    exact fnvB_inj h1 h2 hb (fnvS_inj r (fnvB_lt h b) (fnvB_lt h' b) (fun x hx => hl x (List.mem_cons_of_mem _ hx)) e)
/-- Of bytes with one turned the sum is another. -/
theorem fnv_turn {h : Nat} (hh : h < 4294967296) (l r : List Nat) (a b : Nat) (hl : ∀ x ∈ l, x < 256) (hr : ∀ x ∈ r, x < 256) (ha : a < 256) (hb : b < 256) (hne : a ≠ b) : fnvS h (l ++ a :: r) ≠ fnvS h (l ++ b :: r) := by
  intro e
  unfold fnvS at e
  rw [List.foldl_append, List.foldl_append] at e
  have e2 : fnvS (fnvB (fnvS h l) a) r = fnvS (fnvB (fnvS h l) b) r := e
  exact hne (fnvB_turn (fnvS_lt h hh l) ha hb (fnvS_inj r (fnvB_lt _ _) (fnvB_lt _ _) hr e2))
end Go.Proofs.YtoiglopilpoafaaGreatDoor.Im

namespace Go.Proofs.YtoiglopilpoafaaGreatDoor.Ty
open Go.RowKit
set_option linter.unusedSimpArgs false
set_option linter.unusedVariables false

abbrev Bs := List UInt8
abbrev ct (l : Bs) : Value := .string ⟨l.toArray⟩
abbrev ci (z : Int) : Value := .int .i64 z
def I64 (z : Int) : Prop := -9223372036854775808 ≤ z ∧ z ≤ 9223372036854775807
def OkN (l : Bs) : Prop := l.length ≤ 9223372036854775807
def U64 (z : Int) : Prop := 0 ≤ z ∧ z < 18446744073709551616
/-- An item. -/
structure It where
  kind : Int
  name : Bs
  typ : Int
  bits : Int
  params : List Int
deriving DecidableEq
/-- An interface. -/
structure Fc where
  name : Bs
  items : List It
deriving DecidableEq
instance : Inhabited It := ⟨⟨0, [], 0, 0, []⟩⟩
def valued (t : Int) : Bool := t == 1 || t == 2 || t == 3
def nameS (t : Int) : Bs := if t = 1 then [105, 110, 116] else if t = 2 then [102, 108, 111, 97, 116] else if t = 3 then [98, 111, 111, 108] else []
def findS (s : Bs) : Int × Bool := if s = [105, 110, 116] then (1, true) else if s = [102, 108, 111, 97, 116] then (2, true) else if s = [98, 111, 111, 108] then (3, true) else (0, false)
def truthS (b : Int) : Bs := if b = 0 then [102, 97, 108, 115, 101] else [116, 114, 117, 101]
def unS (op t : Int) : Int × Int :=
  if op = 1 then (if t = 1 then (1, 0) else if t = 2 then (2, 0) else (0, 22))
  else if op = 2 then (if t = 3 then (3, 0) else (0, 22))
  else if op = 3 then (if t = 2 then (1, 0) else (0, 22))
  else if op = 4 then (if t = 1 then (2, 0) else (0, 22)) else (0, 1)
/-- What an operator of two makes of two of the type a, by four numbers. -/
def rowB (op : Int) : Int × Int × Int :=
  if op ≤ 4 then (1, 2, 0) else if op = 5 then (1, 0, 0) else if op ≤ 7 then (3, 3, 3) else if op ≤ 11 then (3, 3, 0) else (0, 0, 3)
def takenS (x1 x2 x3 t : Int) : Int × Int :=
  if t = 1 then (if x1 = 0 then (0, 22) else (x1, 0)) else if t = 2 then (if x2 = 0 then (0, 22) else (x2, 0)) else if t = 3 then (if x3 = 0 then (0, 22) else (x3, 0)) else (0, 22)
def binS (op a b : Int) : Int × Int :=
  if op < 1 ∨ 13 < op then (0, 1) else if a ≠ b then (0, 22) else takenS (rowB op).1 (rowB op).2.1 (rowB op).2.2 a
def fitsFn (i : It) : Bool := (i.typ == 0 || valued i.typ) && i.bits == 0 && i.params.all valued
def joinS (sep : Bs) : List Bs → Bs
  | [] => []
  | [a] => a
  | a :: b :: r => a ++ sep ++ joinS sep (b :: r)
def paramsS (l : List Int) : Bs := joinS [44, 32] (l.map nameS)
def resultS (t : Int) : Bs := if nameS t = [] then [] else [58, 32] ++ nameS t
structure OkI (i : It) : Prop where
  kind : I64 i.kind
  name : OkN i.name
  typ : I64 i.typ
  bits : U64 i.bits
  params : ∀ p ∈ i.params, I64 p
  len : i.params.length ≤ 9223372036854775807

theorem valued_iff (t : Int) : valued t = true ↔ (t = 1 ∨ t = 2 ∨ t = 3) := by simp [valued, or_assoc]
theorem nameS_val {t : Int} (h : valued t = false) : nameS t = [] := by
  have : ¬ (t = 1 ∨ t = 2 ∨ t = 3) := fun h' => by rw [(valued_iff t).2 h'] at h; cases h
  unfold nameS
  rw [if_neg (fun e => this (Or.inl e)), if_neg (fun e => this (Or.inr (Or.inl e))), if_neg (fun e => this (Or.inr (Or.inr e)))]
end Go.Proofs.YtoiglopilpoafaaGreatDoor.Ty
