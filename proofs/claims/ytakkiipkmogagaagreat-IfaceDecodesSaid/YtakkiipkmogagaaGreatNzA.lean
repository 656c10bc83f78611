/- Texts NzNmMem, NzNmSet, NzNmTx, NzNmApp, NzNmLet, NzNmName, NzNmRight, NzNmSplit, NzNmSplit2, NzNmCmp, NzNmLive, NzNmPut. -/
import Derived.Test.YtakkiipkmogagaaGreatRows
import Derived.WalkKit
import Derived.WalkSpells
import Derived.WalkLawsBesides
import Derived.ProofKit
import Derived.RowKit3
import Derived.Laws.AppendOwn
import Derived.Laws.AppendOwnNone
import Derived.Maps.AppendAt
import Derived.Laws.Rows
import Derived.OwnWalk
import Derived.Deep.LoopGhost
import Derived.Deep.DeepCutAuto
import Derived.Lib.SlicesCompact
import Derived.Sort.EncStr
import Derived.Deep.RegionWith
import Derived.Test.YtakkiipkmogagaaGreatShelf3
import Derived.Deep.AppendSrc
import Derived.Deep.Upon
import Derived.Sort.OwnSorted
import Derived.Lib.OwnBridge
import Derived.Lib.IndexBytes
import Derived.Sort.Walk0
import Derived.Shelf.SlSorted.Search
namespace Go.Proofs.YtakkiipkmogagaaGreat.U
open Go.RowKit
set_option linter.unusedSimpArgs false
set_option linter.unusedVariables false

/-- A fact kept from the walk. -/
def Hidden (p : Prop) : Prop := p
theorem alloc_old (w : World) (o : Obj) (k : Nat) (h : k < w.heap.size) : (w.alloc o).heap[k]? = w.heap[k]? := by
  show (w.heap.push o)[k]? = _
  rw [Array.getElem?_push_lt h]
  exact (Array.getElem?_eq_getElem h).symm
theorem alloc_new (w : World) (o : Obj) : (w.alloc o).heap[w.heap.size]? = some o := by
  show (w.heap.push o)[w.heap.size]? = _
  simp

/-- All blocks that were there, but for some, are as they were. -/
structure Fr (S : Nat → Prop) (w w' : World) : Prop where
  os : w'.os = w.os
  output : w'.output = w.output
  size : w.heap.size ≤ w'.heap.size
  block : ∀ k, k < w.heap.size → ¬ S k → w'.heap[k]? = w.heap[k]?

theorem Fr.refl (S : Nat → Prop) (w : World) : Fr S w w := ⟨rfl, rfl, Nat.le_refl _, fun _ _ _ => rfl⟩
theorem Fr.trans {S T : Nat → Prop} {a b c : World} (h : Fr S a b) (g : Fr T b c) (hT : ∀ k, k < a.heap.size → T k → S k) : Fr S a c :=
  ⟨g.os.trans h.os, g.output.trans h.output, Nat.le_trans h.size g.size, fun k hk hn =>
    (g.block k (Nat.lt_of_lt_of_le hk h.size) (fun t => hn (hT k hk t))).trans (h.block k hk hn)⟩
theorem Fr.same {S : Nat → Prop} {a b c : World} (h : Fr S a b) (g : Fr S b c) : Fr S a c := h.trans g (fun _ _ t => t)
theorem Fr.mono {S T : Nat → Prop} {a b : World} (h : Fr S a b) (hT : ∀ k, k < a.heap.size → S k → T k) : Fr T a b :=
  ⟨h.os, h.output, h.size, fun k hk hn => h.block k hk (fun t => hn (hT k hk t))⟩
theorem Fr.alloc (S : Nat → Prop) (w : World) (o : Obj) : Fr S w (w.alloc o) := ⟨rfl, rfl, by simp, fun k hk _ => alloc_old w o k hk⟩
theorem Fr.drew (S : Nat → Prop) (w : World) : Fr S w w.drew := ⟨rfl, rfl, Nat.le_refl _, fun _ _ _ => rfl⟩
theorem Fr.grown {w w' : World} {row : Option Nat} (h : w.grownBy w' row) : Fr (fun k => some k = row) w w' := ⟨h.os, h.output, h.size, fun k hk hn => h.block k hk hn⟩
theorem Fr.kept {w w' : World} (h : Fr (fun _ => False) w w') : w.keptBut w' (fun _ => False) :=
  ⟨h.os, h.output, fun i hi => by
    rw [h.block i hi (fun f => f)]
    cases w.heap[i]? with
    | none => rfl
    | some o => cases o <;> simp⟩
theorem Fr.cell {S : Nat → Prop} {w w' : World} (h : Fr S w w') {a : Addr} {v : Value} (hc : w.cell? a = some v) (hn : ¬ S a.block) : w'.cell? a = some v :=
  (World.cell?_of_block (h.block a.block (World.block_lt_of_cell? w a hc) hn)).trans hc
theorem lt_of_heap {w : World} {k : Nat} {o : Obj} (h : w.heap[k]? = some o) : k < w.heap.size := (Array.getElem?_eq_some_iff.1 h).1
theorem Fr.heap {S : Nat → Prop} {w w' : World} (h : Fr S w w') {k : Nat} {o : Obj} (hc : w.heap[k]? = some o) (hn : ¬ S k) : w'.heap[k]? = some o :=
  (h.block k (lt_of_heap hc) hn).trans hc

/-- A slice of one-cell elements, and what they hold. -/
def Sl (w : World) (v : Value) (xs : List Value) : Prop :=
  ∃ ao cap, v = .slice ao xs.length cap ∧ xs.length ≤ cap ∧ cap ≤ maxLen ∧ (ao = none → cap = 0) ∧
    (xs = [] ∨ ∃ b off, ao = some ⟨b, off, none⟩ ∧ ∀ (i : Nat) (x : Value), xs[i]? = some x → w.cell? ⟨b, off + i, none⟩ = some x)

theorem Sl.nil (w : World) : Sl w (.slice none 0 0) [] := ⟨none, 0, rfl, by simp, by simp, fun _ => rfl, Or.inl rfl⟩
theorem Sl.keep {S : Nat → Prop} {w w' : World} {v : Value} {xs : List Value} (h : Sl w v xs) (hf : Fr S w w') (hn : ∀ k, v.ownBlock = some k → ¬ S k) : Sl w' v xs := by
  obtain ⟨ao, cap, rfl, h1, h2, h3, h4⟩ := h
  refine ⟨ao, cap, rfl, h1, h2, h3, ?_⟩
  rcases h4 with rfl | ⟨b, off, rfl, hc⟩
  · exact Or.inl rfl
  · exact Or.inr ⟨b, off, rfl, fun i x hx => hf.cell (hc i x hx) (hn b rfl)⟩
theorem Fr.over {S T : Nat → Prop} {a b c : World} (h : Fr S a b) (g : Fr T b c) (hT : ∀ k, T k → a.heap.size ≤ k) : Fr S a c :=
  h.trans g (fun k hk t => absurd (hT k t) (by omega))
end Go.Proofs.YtakkiipkmogagaaGreat.U

namespace Go.Proofs.YtakkiipkmogagaaGreat.U
set_option linter.unusedSimpArgs false
set_option linter.unusedVariables false

abbrev Str := List UInt8

/-- A set: in order, each once. -/
def SS (l : List Str) : Prop := l.Pairwise (· < ·)

theorem SS.ext : ∀ {a b : List Str}, SS a → SS b → (∀ x, x ∈ a ↔ x ∈ b) → a = b
  | [], [], _, _, _ => rfl
  | [], y :: b, _, _, h => absurd ((h y).2 (by simp)) (by simp)
  | x :: a, [], _, _, h => absurd ((h x).1 (by simp)) (by simp)
  | x :: a, y :: b, ha, hb, h => by
    obtain ⟨ha1, ha2⟩ := List.pairwise_cons.1 ha
    obtain ⟨hb1, hb2⟩ := List.pairwise_cons.1 hb
    have e : x = y := by
      rcases List.mem_cons.1 ((h x).1 (by simp)) with e | hx
      · exact e
      · rcases List.mem_cons.1 ((h y).2 (by simp)) with e | hy
        · exact e.symm
        · exact absurd (Std.lt_trans (ha1 y hy) (hb1 x hx)) Std.lt_irrefl
    subst e
    have ht : a = b := SS.ext ha2 hb2 fun z => by
      constructor
      · intro hz
        rcases List.mem_cons.1 ((h z).1 (by simp [hz])) with e | hz'
        · subst e; exact absurd (ha1 z hz) Std.lt_irrefl
        · exact hz'
      · intro hz
        rcases List.mem_cons.1 ((h z).2 (by simp [hz])) with e | hz'
        · subst e; exact absurd (hb1 z hz) Std.lt_irrefl
        · exact hz'
    rw [ht]

def sortS (l : List Str) : List Str := l.mergeSort fun x y => decide (x ≤ y)
def setS (l : List Str) : List Str := Lib.compact (sortS l)

theorem sortS_sorted (l : List Str) : (sortS l).Pairwise (· ≤ ·) := by
  have := List.pairwise_mergeSort (le := fun x y : Str => decide (x ≤ y)) (fun a b c h g => by
    simp only [decide_eq_true_eq] at *; exact List.le_trans h g) (fun a b => by
    rcases List.le_total a b with h | h <;> simp [h]) l
  exact this.imp (fun h => by simpa using h)
theorem mem_sortS (l : List Str) (x : Str) : x ∈ sortS l ↔ x ∈ l := List.mem_mergeSort
theorem length_sortS (l : List Str) : (sortS l).length = l.length := List.length_mergeSort _

theorem compactUpTo_set (d : Array Str) (hd : ∀ i j, i ≤ j → j < d.size → d[i]! ≤ d[j]!) : ∀ m, m ≤ d.size → SS (Lib.compactUpTo d m) ∧ ∀ x, x ∈ Lib.compactUpTo d m ↔ ∃ j, j < m ∧ d[j]! = x
  | 0, _ => by
    have : Lib.compactUpTo d 0 = [] := rfl
    rw [this]
    exact ⟨List.Pairwise.nil, fun x => by simp⟩
  | m + 1, hm => by
    obtain ⟨h1, h2⟩ := compactUpTo_set d hd m (by omega)
    rw [Lib.compactUpTo_succ]
    by_cases hk : Lib.keeps d m = true
    · rw [if_pos hk]
      have hlt : ∀ j, j < m → d[j]! < d[m]! := fun j hj => by
        have hne : d[m]! ≠ d[m - 1]! := by
          have : m = 0 ∨ d[m]! ≠ d[m - 1]! := by simpa [Lib.keeps] using hk
          rcases this with h | h
          · omega
          · exact h
        exact Std.lt_of_le_of_lt (hd j (m - 1) (by omega) (by omega)) (Std.lt_of_le_of_ne (hd (m - 1) m (by omega) (by omega)) (Ne.symm hne))
      refine ⟨List.pairwise_append.2 ⟨h1, by simp, fun a ha b hb => ?_⟩, fun x => ?_⟩
      · obtain ⟨j, hj, rfl⟩ := (h2 a).1 ha
        have : b = d[m]! := by simpa using hb
        subst this
        exact hlt j hj
      · rw [List.mem_append, h2]
        constructor
        · rintro (⟨j, hj, e⟩ | h)
          · exact ⟨j, by omega, e⟩
          · exact ⟨m, by omega, (by simpa using h : x = d[m]!).symm⟩
        · rintro ⟨j, hj, e⟩
          by_cases hjm : j = m
          · subst hjm; right; simp [e]
          · exact Or.inl ⟨j, by omega, e⟩
    · rw [if_neg hk, List.append_nil]
      refine ⟨h1, fun x => ?_⟩
      rw [h2]
      have hk' : m ≠ 0 ∧ d[m]! = d[m - 1]! := by
        have : ¬ (m = 0 ∨ d[m]! ≠ d[m - 1]!) := by simpa [Lib.keeps] using hk
        exact ⟨fun e => this (Or.inl e), Classical.byContradiction fun e => this (Or.inr e)⟩
      constructor
      · rintro ⟨j, hj, e⟩
        exact ⟨j, by omega, e⟩
      · rintro ⟨j, hj, e⟩
        by_cases hjm : j = m
        · subst hjm; exact ⟨j - 1, by omega, by rw [← hk'.2]; exact e⟩
        · exact ⟨j, by omega, e⟩

theorem setS_both (l : List Str) : SS (setS l) ∧ ∀ x, x ∈ setS l ↔ x ∈ l := by
  have hs := sortS_sorted l
  have hd : ∀ i j, i ≤ j → j < (sortS l).toArray.size → (sortS l).toArray[i]! ≤ (sortS l).toArray[j]! := fun i j hij hj => by
    have hj' : j < (sortS l).length := by simpa using hj
    rw [getElem!_pos _ i (by simp; omega), getElem!_pos _ j hj]
    simp only [List.getElem_toArray]
    by_cases e : i = j
    · subst e; exact List.le_refl _
    · exact List.pairwise_iff_getElem.1 hs i j (by omega) hj' (by omega)
  obtain ⟨h1, h2⟩ := compactUpTo_set _ hd (sortS l).length (by simp)
  refine ⟨h1, fun x => ?_⟩
  show x ∈ Lib.compactUpTo _ _ ↔ _
  rw [h2, ← mem_sortS l x]
  constructor
  · rintro ⟨j, hj, rfl⟩
    rw [getElem!_pos _ j (by simpa using hj)]
    simp
  · intro hx
    obtain ⟨j, hj, e⟩ := List.getElem_of_mem hx
    exact ⟨j, hj, by rw [getElem!_pos _ j (by simpa using hj)]; simpa using e⟩
theorem setS_ss (l : List Str) : SS (setS l) := (setS_both l).1
theorem mem_setS {l : List Str} {x : Str} : x ∈ setS l ↔ x ∈ l := (setS_both l).2 x
theorem setS_len (l : List Str) : (setS l).length ≤ l.length := by
  show (Lib.compactUpTo _ _).length ≤ _
  unfold Lib.compactUpTo
  rw [List.length_map]
  refine Nat.le_trans (List.length_filter_le _ _) ?_
  rw [List.length_range, length_sortS]
  exact Nat.le_refl _
/-- The document's Put: what its loop makes, from any place on. -/
def putGo (s : Str) : List Str → List Str → Bool → List Str
  | [], out, done => if done then out else out ++ [s]
  | x :: r, out, done => if s = x then putGo s r (out ++ [x]) true else if s < x ∧ done = false then putGo s r (out ++ [s] ++ [x]) true else putGo s r (out ++ [x]) done
def putS (l : List Str) (s : Str) : List Str := putGo s l [] false

theorem putGo_spec (s : Str) : ∀ (r out : List Str) (done : Bool), SS (out ++ r) → (done = true → s ∈ out) → (done = false → ∀ x ∈ out, x < s) → SS (putGo s r out done) ∧ ∀ x, x ∈ putGo s r out done ↔ x ∈ out ++ r ∨ x = s
  | [], out, done, h1, h2, h3 => by
    rw [List.append_nil] at *
    unfold putGo
    cases done with
    | true =>
      refine ⟨h1, fun x => ⟨Or.inl, ?_⟩⟩
      rintro (h | rfl)
      · exact h
      · exact h2 rfl
    | false =>
      refine ⟨List.pairwise_append.2 ⟨h1, by simp, fun a ha b hb => ?_⟩, fun x => by simp⟩
      have : b = s := by simpa using hb
      subst this
      exact h3 rfl a ha
  | x :: r, out, done, h1, h2, h3 => by
    have h1' : SS ((out ++ [x]) ++ r) := by simpa using h1
    unfold putGo
    by_cases e : s = x
    · subst e
      rw [if_pos rfl]
      obtain ⟨a, b⟩ := putGo_spec s r (out ++ [s]) true h1' (by simp) (by simp)
      exact ⟨a, fun y => by rw [b y]; simp⟩
    · rw [if_neg e]
      by_cases hc : s < x ∧ done = false
      · rw [if_pos hc]
        have hout := h3 hc.2
        obtain ⟨p1, p2, p3⟩ := List.pairwise_append.1 h1
        obtain ⟨q1, q2⟩ := List.pairwise_cons.1 p2
        have hs : SS (out ++ [s] ++ [x] ++ r) := by
          have : SS (out ++ (s :: x :: r)) := by
            refine List.pairwise_append.2 ⟨p1, List.pairwise_cons.2 ⟨fun y hy => ?_, p2⟩, fun a ha b hb => ?_⟩
            · rcases List.mem_cons.1 hy with rfl | hy
              · exact hc.1
              · exact Std.lt_trans hc.1 (q1 y hy)
            · rcases List.mem_cons.1 hb with rfl | hb
              · exact hout a ha
              · exact p3 a ha b hb
          simpa using this
        obtain ⟨a, b⟩ := putGo_spec s r (out ++ [s] ++ [x]) true hs (by simp) (by simp)
        refine ⟨a, fun y => ?_⟩
        rw [b y]
        simp only [List.mem_append, List.mem_cons, List.not_mem_nil, or_false]
        by_cases g1 : y ∈ out <;> by_cases g2 : y = s <;> by_cases g3 : y = x <;> by_cases g4 : y ∈ r <;> simp [g1, g2, g3, g4]
      · rw [if_neg hc]
        obtain ⟨a, b⟩ := putGo_spec s r (out ++ [x]) done h1' (fun h => by simp [h2 h]) (fun h y hy => by
          rcases List.mem_append.1 hy with hy | hy
          · exact h3 h y hy
          · have : y = x := by simpa using hy
            subst this
            rcases Std.lt_trichotomy s y with g | g | g
            · exact absurd ⟨g, h⟩ hc
            · exact absurd g e
            · exact g)
        exact ⟨a, fun y => by rw [b y]; simp⟩
theorem putS_spec {l : List Str} (s : Str) (h : SS l) : SS (putS l s) ∧ ∀ x, x ∈ putS l s ↔ x ∈ l ∨ x = s := by
  have := putGo_spec s l [] false (by simpa using h) (by simp) (by simp)
  rw [List.nil_append] at this
  exact this
theorem foldl_put : ∀ (b : List Str) (a : List Str), SS a → SS (b.foldl putS a) ∧ ∀ x, x ∈ b.foldl putS a ↔ x ∈ a ∨ x ∈ b
  | [], a, h => ⟨h, fun x => by simp⟩
  | s :: b, a, h => by
    obtain ⟨h1, h2⟩ := putS_spec s h
    obtain ⟨h3, h4⟩ := foldl_put b (putS a s) h1
    refine ⟨h3, fun x => ?_⟩
    rw [List.foldl_cons, h4, h2]
    simp [or_assoc]
theorem foldl_put_set (l : List Str) : l.foldl putS [] = setS l := by
  obtain ⟨h1, h2⟩ := foldl_put l [] List.Pairwise.nil
  exact h1.ext (setS_ss l) fun x => by rw [h2, mem_setS]; simp
end Go.Proofs.YtakkiipkmogagaaGreat.U

namespace Go.Proofs.YtakkiipkmogagaaGreat.U
open Go.RowKit Go.Sort
set_option linter.unusedSimpArgs false
set_option linter.unusedVariables false

/-- A list of texts that can be read at v. -/
def Tl (w : World) (v : Value) (l : List Str) : Prop :=
  ∃ ao cap, v = .slice ao l.length cap ∧ l.length ≤ cap ∧ cap ≤ 9223372036854775807 ∧ (ao = none → cap = 0) ∧
    (l = [] ∨ ∃ b off, ao = some ⟨b, off, none⟩ ∧ ∀ (i : Nat) (x : Str), l[i]? = some x → w.cell? ⟨b, off + i, none⟩ = some (encStr x))
/-- A list of texts in memory of the call's own, which may be written. -/
def Tn (w : World) (B : Nat) (v : Value) (l : List Str) : Prop :=
  ∃ ao cap, v = .slice ao l.length cap ∧ l.length ≤ cap ∧ cap ≤ 9223372036854775807 ∧ (ao = none → cap = 0) ∧
    (l = [] ∨ ∃ b off, ao = some ⟨b, off, none⟩ ∧ B ≤ b ∧ b < w.heap.size ∧ Holds encStr w b off l.toArray)

theorem Tn.tl {w : World} {B : Nat} {v : Value} {l : List Str} (h : Tn w B v l) : Tl w v l := by
  obtain ⟨ao, cap, rfl, h1, h2, h3, h4⟩ := h
  refine ⟨ao, cap, rfl, h1, h2, h3, ?_⟩
  rcases h4 with h4 | ⟨b, off, rfl, hB, hb, hH⟩
  · exact Or.inl h4
  · refine Or.inr ⟨b, off, rfl, fun i x hx => ?_⟩
    obtain ⟨hi, e⟩ := List.getElem?_eq_some_iff.1 hx
    have := (hH i (by simpa using hi)).1
    rw [this, getElem!_pos _ i (by simpa using hi)]
    simp [e]
theorem Tl.keep {S : Nat → Prop} {w w' : World} {v : Value} {l : List Str} (h : Tl w v l) (hf : Fr S w w') (hn : ∀ k, v.ownBlock = some k → ¬ S k) : Tl w' v l := by
  obtain ⟨ao, cap, rfl, h1, h2, h3, h4⟩ := h
  refine ⟨ao, cap, rfl, h1, h2, h3, ?_⟩
  rcases h4 with rfl | ⟨b, off, rfl, hc⟩
  · exact Or.inl rfl
  · exact Or.inr ⟨b, off, rfl, fun i x hx => hf.cell (hc i x hx) (hn b rfl)⟩
theorem Tl.later {w w' : World} {v : Value} {l : List Str} (h : Tl w v l) (hf : Fr (fun _ => False) w w') : Tl w' v l := h.keep hf (fun _ _ f => f)
theorem Tn.keep {S : Nat → Prop} {w w' : World} {B : Nat} {v : Value} {l : List Str} (h : Tn w B v l) (hf : Fr S w w') (hn : ∀ k, v.ownBlock = some k → ¬ S k) : Tn w' B v l := by
  obtain ⟨ao, cap, rfl, h1, h2, h3, h4⟩ := h
  refine ⟨ao, cap, rfl, h1, h2, h3, ?_⟩
  rcases h4 with rfl | ⟨b, off, rfl, hB, hb, hH⟩
  · exact Or.inl rfl
  · refine Or.inr ⟨b, off, rfl, hB, Nat.lt_of_lt_of_le hb hf.size, fun j hj => ?_⟩
    have e := hf.block b hb (hn b rfl)
    rw [World.cell?_of_block (a := ⟨b, off + j, none⟩) e, World.frozen?_of_block (a := ⟨b, off + j, none⟩) e]
    exact hH j hj
theorem Tn.later {w w' : World} {B : Nat} {v : Value} {l : List Str} (h : Tn w B v l) (hf : Fr (fun _ => False) w w') : Tn w' B v l := h.keep hf (fun _ _ f => f)
/-- What lies in memory from ahead is apart from what is new. -/
theorem Tl.nil (w : World) : Tl w (.slice none 0 0) [] := ⟨none, 0, rfl, by simp, by simp, fun _ => rfl, Or.inl rfl⟩

end Go.Proofs.YtakkiipkmogagaaGreat.U

namespace Go.Proofs.YtakkiipkmogagaaGreat.U
open Go.RowKit Go.Sort
set_option linter.unusedSimpArgs false
set_option linter.unusedVariables false

theorem Tryz.info_str : (Tryz.prog.info? 9).map (fun i => (i.zero, i.size, i.bytes)) = some (some (.string ⟨#[]⟩), 1, 16) := by kernel_rfl

/-- A list of texts that fills a row of the call's own from its beginning. -/
def To (w : World) (B : Nat) (v : Value) (l : List Str) : Prop := w.ownsRow B 9 1 v l.length (l.map encStr)

theorem To.nil (w : World) (B : Nat) : To w B (.slice none 0 0) [] := ⟨by simp, Or.inl ⟨rfl, rfl⟩⟩
theorem To.tn {w : World} {B : Nat} {v : Value} {l : List Str} (h : To w B v l) : Tn w B v l := by
  by_cases hv : v = .slice none 0 0
  · subst hv
    rcases h.2 with ⟨_, h0⟩ | ⟨g, cap, cur, e, _⟩
    · obtain rfl : l = [] := List.eq_nil_of_length_eq_zero h0
      exact ⟨none, 0, rfl, by simp, by omega, fun _ => rfl, Or.inl rfl⟩
    · cases e
  · obtain ⟨g, cap, rfl, hb, hlt, hn, hm, hl, hH⟩ := Go.Lib.holds_of_ownsRow h hv
    exact ⟨_, cap, rfl, hn, hm, (fun h => by cases h), Or.inr ⟨g, 0, rfl, hb, hlt, hH⟩⟩
theorem To.keep {S : Nat → Prop} {w w' : World} {B : Nat} {v : Value} {l : List Str} (h : To w B v l) (hf : Fr S w w') (hn : ∀ k, v.ownBlock = some k → ¬ S k) : To w' B v l := by
  refine ⟨h.1, ?_⟩
  rcases h.2 with h0 | ⟨g, cap, cur, rfl, hb, hg, rest⟩
  · exact Or.inl h0
  · exact Or.inr ⟨g, cap, cur, rfl, hb, hf.heap hg (hn g rfl), rest⟩
theorem To.own {w : World} {B : Nat} {v : Value} {l : List Str} (h : To w B v l) : ∀ k, v.ownBlock = some k → B ≤ k ∧ k < w.heap.size := by
  intro k hk
  rcases h.2 with ⟨rfl, _⟩ | ⟨g, cap, cur, rfl, hb, hg, rest⟩
  · cases hk
  · have : g = k := by simpa [Value.ownBlock] using hk
    subst this
    exact ⟨hb, lt_of_heap hg⟩
theorem To.shape {w : World} {B : Nat} {v : Value} {l : List Str} (h : To w B v l) : ∃ ao cap, v = .slice ao l.length cap ∧ l.length ≤ cap ∧ cap ≤ 9223372036854775807 := by
  obtain ⟨ao, cap, e, h1, h2, _⟩ := h.tn
  exact ⟨ao, cap, e, h1, h2⟩

theorem enc_one (l : List Str) : ∀ u ∈ l.map encStr, u.oneCell' = true := by
  intro u hu
  simp only [List.mem_map] at hu
  obtain ⟨c, _, rfl⟩ := hu
  rfl
theorem Tl.news {w : World} {b : Nat} {off : Nat} {l : List Str} (h : ∀ (i : Nat) (x : Str), l[i]? = some x → w.cell? ⟨b, off + i, none⟩ = some (encStr x)) : ∀ (j : Nat) (u : Value), (l.map encStr)[j]? = some u → w.cell? ((⟨b, off, none⟩ : Addr).add j) = some u := by
  intro j u hu
  rw [List.getElem?_map] at hu
  cases hx : l[j]? with
  | none => rw [hx] at hu; cases hu
  | some x =>
    rw [hx] at hu
    simp only [Option.map_some, Option.some.injEq] at hu
    subst hu
    rw [Addr.add_lit]
    exact h j x hx

theorem run_app (w : World) (B : Nat) (v x : Value) (l m : List Str) (ty : TypeId) (hv : To w B v l) (hx : Tl w x m) (hB : B ≤ w.heap.size) (hb : (l.length + m.length) * 16 ≤ 140737488355328) :
    ∃ v' w', (Builtin.append_ #[61, 61] ty #[v, x]).run Tryz.prog w = .ok v' w' ∧ To w' B v' (l ++ m) ∧ Fr (fun k => v.ownBlock = some k) w w' ∧ (v'.ownBlock = v.ownBlock ∨ v'.ownBlock = some w.heap.size) := by
  obtain ⟨i0, hi, hz0, hz1, hz2⟩ := info_parts Tryz.info_str
  obtain ⟨xo, xc, rfl, x1, x2, x3, x4⟩ := hx
  cases xo with
  | none =>
    have hc := x3 rfl
    have hm : m = [] := List.eq_nil_of_length_eq_zero (by omega)
    subst hm
    have hsrc : Src Tryz.prog i0.size 61 (.slice none 0 xc) 0 [] w := Src.ofNil w Tryz.underlying61 xc
    obtain ⟨ao, cap, rfl, h1, h2⟩ := hv.shape
    have hr := run_append_nothing (P := Tryz.prog) w 61 61 ty 9 i0 Tryz.underlying61 hi ao l.length cap h1 _ hsrc
    exact ⟨_, _, hr, by rw [List.append_nil]; exact hv, Fr.refl _ _, Or.inl rfl⟩
  | some a =>
    have hnews : ∀ (j : Nat) (u : Value), (m.map encStr)[j]? = some u → w.cell? (a.add j) = some u := by
      rcases x4 with rfl | ⟨b, off, e, hc⟩
      · intro j u hu; simp at hu
      · cases e
        exact Tl.news hc
    obtain ⟨v', w', hr, h2, h3, _, h5⟩ := run_append_own_at (P := Tryz.prog) w B 61 ty 9 i0 (.string ⟨#[]⟩) 1 16 Tryz.underlying61 hi hz0 hz1 hz2 rfl (by decide) v l.length (l.map encStr) hv a m.length xc (m.map encStr) (by simp) hnews (enc_one m) (by unfold maxLen; omega) hb hB
    refine ⟨v', w', hr, ?_, ?_, h5⟩
    · unfold To
      rw [List.length_append, List.map_append]
      exact h2
    · refine (Fr.grown h3).mono fun k _ e => e.symm

theorem wpList_app {w : World} {ops : Array Oper} {rest : List Oper} {o : Oper} {a : Act} {Q : Exit → Act → World → Prop} (hgd : o.guard = none) (s x : Operand)
    (ho : o.op = .call { callee := .builtin .append, args := #[s, x], argTypes := #[61, 61] }) (B : Nat) (v xv : Value) (l m : List Str)
    (hs : a.eval s = v) (hv : To w B v l) (hx : a.eval x = xv) (hxs : Tl w xv m) (hB : B ≤ w.heap.size) (hb : (l.length + m.length) * 16 ≤ 140737488355328)
    (h : ∀ v' w', To w' B v' (l ++ m) → Fr (fun k => v.ownBlock = some k) w w' → (v'.ownBlock = v.ownBlock ∨ v'.ownBlock = some w.heap.size) → wpList Tryz.prog ops Q rest (a.put o.dst v') w') : wpList Tryz.prog ops Q (o :: rest) a w := by
  refine wpList_plain hgd fun K hK => ?_
  obtain ⟨v', w', hr, h2, h3, h4⟩ := run_app w B v xv l m o.type hv hxs hB hb
  unfold Oper.wp
  simp only [execOp, ho, resolve, invoke, builtin, Sem.run_bind, Sem.run_pure, Result.andThen_ok, List.map_toArray, List.map_cons, List.map_nil, hs, hx, hr]
  exact hK _ _ (h v' w' h2 h3 h4)

/-- Behind a call that has laid a row anew. -/
theorem Fr.row {w : World} {blk off n : Nat} {d : Array Str} {os : Array Obj} : Fr (fun k => k = blk) w (grow (putRow encStr (Sort.ahead w n) blk off d) os) := by
  refine ⟨rfl, rfl, by simp, fun k hk hne => ?_⟩
  rw [heap_grow_old _ _ (by simpa using hk)]
  have hne' : ¬ blk = k := fun e => hne e.symm
  simp [putRow, mapBlock, Sort.ahead, Array.getElem?_modify, hne']
theorem Fr.row0 {w : World} {blk off n : Nat} {d : Array Str} : Fr (fun k => k = blk) w (putRow encStr (Sort.ahead w n) blk off d) := by
  refine ⟨rfl, rfl, by simp, fun k hk hne => ?_⟩
  have hne' : ¬ blk = k := fun e => hne e.symm
  simp [putRow, mapBlock, Sort.ahead, Array.getElem?_modify, hne']

end Go.Proofs.YtakkiipkmogagaaGreat.U

namespace Go.Proofs.YtakkiipkmogagaaGreat.U
open Go.RowKit Go.Sort
set_option linter.unusedSimpArgs false
set_option linter.unusedVariables false
end Go.Proofs.YtakkiipkmogagaaGreat.U

namespace Go.Proofs.YtakkiipkmogagaaGreat.U
open Go.RowKit Go.Sort
set_option linter.unusedSimpArgs false
set_option linter.unusedVariables false

theorem str_len (t : List UInt8) : ((⟨t.toArray⟩ : ByteArray).size : Int) = (t.length : Int) := by simp [ByteArray.size]
theorem str_index (l : List UInt8) (k : Nat) (c : UInt8) (h : l[k]? = some c) (w : World) :
    (Instr.index 9 (.string ⟨l.toArray⟩) (.int .i64 (k : Int))).run Tryz.prog w = .ok (.int .u8 (c.toNat : Int)) w := by
  obtain ⟨hk, hc⟩ := List.getElem?_eq_some_iff.1 h
  have hs : k < (⟨l.toArray⟩ : ByteArray).size := by simpa [ByteArray.size] using hk
  rw [run_index_string _ _ _ _ _ Tryz.underlying9, dif_pos ⟨by omega, by omega⟩]
  have e : (⟨l.toArray⟩ : ByteArray)[k]'hs = c := by
    show l.toArray[k] = c
    simpa using hc
  simp only [Int.toNat_natCast]
  rw [e]
theorem drop_at {α : Type} {l : List α} {j : Nat} {c : α} (h : l[j]? = some c) : l.drop j = c :: l.drop (j + 1) := by
  obtain ⟨hj, rfl⟩ := List.getElem?_eq_some_iff.1 h
  exact List.drop_eq_getElem_cons hj

theorem frozen_of_row {w : World} {g : Nat} {cur : Array Value} {e : TypeId} (h : w.heap[g]? = some (.cells cur e (0, 0))) (j : Nat) : w.frozen? ⟨g, j, none⟩ = false := by simp [World.frozen?, h]
end Go.Proofs.YtakkiipkmogagaaGreat.U

namespace Go.Proofs.YtakkiipkmogagaaGreat.U
open Go.RowKit Go.Sort
set_option linter.unusedSimpArgs false
set_option linter.unusedVariables false
end Go.Proofs.YtakkiipkmogagaaGreat.U

namespace Go.Proofs.YtakkiipkmogagaaGreat.U
open Go.RowKit Go.Sort
set_option linter.unusedSimpArgs false
set_option linter.unusedVariables false
end Go.Proofs.YtakkiipkmogagaaGreat.U

namespace Go.Proofs.YtakkiipkmogagaaGreat.U
open Go.RowKit Go.Sort
set_option linter.unusedSimpArgs false
set_option linter.unusedVariables false
end Go.Proofs.YtakkiipkmogagaaGreat.U

namespace Go.Proofs.YtakkiipkmogagaaGreat.U
open Go.RowKit Go.Sort
set_option linter.unusedSimpArgs false
set_option linter.unusedVariables false

def cmpS (a b : Str) : Int := if a < b then -1 else if b < a then 1 else 0

theorem cmpS_cons (x y : UInt8) (a b : Str) : cmpS (x :: a) (y :: b) = if x < y then -1 else if y < x then 1 else cmpS a b := by
  unfold cmpS
  by_cases h1 : x < y
  · rw [if_pos (List.cons_lt_cons_iff.2 (Or.inl h1)), if_pos h1]
  · rw [if_neg h1]
    by_cases h2 : y < x
    · rw [if_pos h2, if_neg, if_pos (List.cons_lt_cons_iff.2 (Or.inl h2))]
      rw [List.cons_lt_cons_iff]
      rintro (h | ⟨rfl, _⟩)
      · exact h1 h
      · exact UInt8.lt_irrefl _ h2
    · rw [if_neg h2]
      have e : x = y := UInt8.le_antisymm (UInt8.not_lt.1 h2) (UInt8.not_lt.1 h1)
      subst e
      simp [List.cons_lt_cons_iff]
theorem cmpS_nil (b : Str) : cmpS [] b = if 0 < b.length then -1 else 0 := by
  cases b <;> simp [cmpS]
theorem cmpS_nil' (a : Str) : cmpS a [] = if 0 < a.length then 1 else 0 := by
  cases a <;> simp [cmpS]

set_option maxHeartbeats 1000000 in
theorem rcmp_any (a b : Str) (r : Int) (hr : Hidden (cmpS a b = r)) (ha : a.length ≤ 9223372036854775807) (hb : b.length ≤ 9223372036854775807) (w : World) :
    Calls Tryz.prog 45 #[.string ⟨a.toArray⟩, .string ⟨b.toArray⟩] w fun e w' => e = .returned (.int .i64 r) ∧ Fr (fun _ => False) w w' := by
  have hsa := str_len a
  have hsb := str_len b
  go_enter Tryz.func45, Tryz.ntmps45
  go_wp2
  go_loopg [5] a.length (fun k iv wr => ∃ j : Nat, iv = .int .i64 (j : Int) ∧ j ≤ a.length ∧ j ≤ b.length ∧ k = a.length - j ∧ Fr (fun _ => False) w wr ∧ cmpS (a.drop j) (b.drop j) = r)
  case atStart => exact ⟨0, rfl, by omega, by omega, rfl, Fr.refl _ _, hr⟩
  case round =>
    obtain ⟨j, rfl, hja, hjb, hk, hfr, hf⟩ := hrel
    have hkH : Hidden (gk = a.length - j) := hk
    have hfH : Hidden (Fr (fun _ => False) w wr) := hfr
    clear hk hfr hr
    by_cases h1 : j < a.length
    · by_cases h2 : j < b.length
      · obtain ⟨x, hx⟩ : ∃ c, a[j]? = some c := ⟨a[j], List.getElem?_eq_getElem h1⟩
        obtain ⟨y, hy⟩ : ∃ c, b[j]? = some c := ⟨b[j], List.getElem?_eq_getElem h2⟩
        rw [drop_at hx, drop_at hy, cmpS_cons] at hf
        have ix := str_index a j x hx
        have iy := str_index b j y hy
        clear hx hy
        by_cases hlt : x < y
        · rw [if_pos hlt] at hf
          subst hf
          have hlt' : (x.toNat : Int) < (y.toNat : Int) := by have := UInt8.lt_iff_toNat_lt.1 hlt; omega
          obtain ⟨X, hX⟩ : ∃ m, x.toNat = m := ⟨_, rfl⟩
          obtain ⟨Y, hY⟩ : ∃ m, y.toNat = m := ⟨_, rfl⟩
          rw [hX] at ix hlt'
          rw [hY] at iy hlt'
          clear hlt hX hY
          go_wp2
          go_region
          go_wp2
          go_ret
          exact ⟨rfl, hfH.same (Fr.drew _ _)⟩
        · rw [if_neg hlt] at hf
          by_cases hgt : y < x
          · rw [if_pos hgt] at hf
            subst hf
            have hgt' : (y.toNat : Int) < (x.toNat : Int) := by have := UInt8.lt_iff_toNat_lt.1 hgt; omega
            obtain ⟨X, hX⟩ : ∃ m, x.toNat = m := ⟨_, rfl⟩
            obtain ⟨Y, hY⟩ : ∃ m, y.toNat = m := ⟨_, rfl⟩
            rw [hX] at ix hgt'
            rw [hY] at iy hgt'
            have hle : ¬ (X : Int) < (Y : Int) := by omega
            clear hlt hgt hX hY
            go_wp2
            go_region
            go_wp2
            go_region
            go_wp2
            go_ret
            exact ⟨rfl, (hfH.same (Fr.drew _ _)).same (Fr.drew _ _)⟩
          · rw [if_neg hgt] at hf
            have e : x = y := UInt8.le_antisymm (UInt8.not_lt.1 hgt) (UInt8.not_lt.1 hlt)
            subst e
            obtain ⟨X, hX⟩ : ∃ m, x.toNat = m := ⟨_, rfl⟩
            rw [hX] at ix iy
            have hle : ¬ (X : Int) < (X : Int) := by omega
            have hcH : Hidden (cmpS (a.drop (j + 1)) (b.drop (j + 1)) = r) := hf
            clear hlt hgt hX hf
            go_wp2
            go_region
            go_wp2
            go_region
            go_wp2
            go_roundg (a.length - (j + 1))
            case measure => have := (show gk = a.length - j from hkH); omega
            case rel => exact ⟨j + 1, by go_num, by omega, by omega, rfl, (hfH.same (Fr.drew _ _)).same (Fr.drew _ _), hcH⟩
      · obtain rfl : j = b.length := by omega
        rw [List.drop_length, cmpS_nil', if_pos (by simp; omega)] at hf
        subst hf
        go_wp2
        go_ret
        exact ⟨rfl, hfH⟩
    · obtain rfl : j = a.length := by omega
      rw [List.drop_length, cmpS_nil] at hf
      by_cases h2 : a.length < b.length
      · rw [if_pos (by simp; omega)] at hf
        subst hf
        go_wp2
        go_ret
        exact ⟨rfl, hfH⟩
      · rw [if_neg (by simp; omega)] at hf
        subst hf
        go_wp2
        go_ret
        exact ⟨rfl, hfH⟩
end Go.Proofs.YtakkiipkmogagaaGreat.U

namespace Go.Proofs.YtakkiipkmogagaaGreat.U
open Go.RowKit Go.Sort
set_option linter.unusedSimpArgs false
set_option linter.unusedVariables false

/-- A list that is laid by its words. -/
theorem Tn.lit (w : World) (l : List Str) (hl : l.length ≤ 9223372036854775807) : Tn (w.alloc (.cells (l.map encStr).toArray 9)) w.heap.size (.slice (some ⟨w.heap.size, 0, none⟩) l.length l.length) l := by
  refine ⟨_, l.length, rfl, Nat.le_refl _, hl, (fun h => by cases h), Or.inr ⟨w.heap.size, 0, rfl, Nat.le_refl _, by simp, fun j hj => ?_⟩⟩
  have hb := alloc_new w (.cells (l.map encStr).toArray 9)
  have hj' : j < l.length := by simpa using hj
  constructor
  · rw [Nat.zero_add, cell_of_row _ _ _ _ _ _ hb, getElem!_pos _ j hj]
    simp [hj']
  · exact frozen_of_row hb _
end Go.Proofs.YtakkiipkmogagaaGreat.U

namespace Go.Proofs.YtakkiipkmogagaaGreat.U
open Go.RowKit Go.Sort
set_option linter.unusedSimpArgs false
set_option linter.unusedVariables false

theorem app_fr {w wr w1 w2 : World} {ov : Value} {out : List Str} (g : Fr (fun _ => False) w wr) (t : To wr w.heap.size ov out) (f1 : Fr (fun _ => False) wr w1) (f2 : Fr (fun k => ov.ownBlock = some k) w1 w2) : Fr (fun _ => False) w w2 :=
  (g.same f1).over f2 (fun k hk => (t.own k hk).1)
theorem apart_lt {b w : Nat} (h : w ≤ b) (h2 : Hidden (b < w)) : False := by have : b < w := h2; omega
theorem To.later {w w' : World} {B : Nat} {v : Value} {l : List Str} (h : To w B v l) (hf : Fr (fun _ => False) w w') : To w' B v l := h.keep hf (fun _ _ f => f)
theorem Tl.one (w : World) (s : Str) : Tl (w.alloc (.cells #[.string ⟨s.toArray⟩] 9)) (.slice (some ⟨w.heap.size, 0, none⟩) 1 1) [s] := (Tn.lit w [s] (by simp)).tl
theorem cmpS_gt {x y : Str} (h : y < x) : cmpS x y = 1 := by unfold cmpS; rw [if_neg (fun g => Std.lt_irrefl (Std.lt_trans g h)), if_pos h]
theorem cmpS_lt' {x y : Str} (h : x < y) : cmpS x y = -1 := by unfold cmpS; rw [if_pos h]
theorem cmpS_eq (x : Str) : cmpS x x = 0 := by unfold cmpS; rw [if_neg Std.lt_irrefl, if_neg Std.lt_irrefl]

end Go.Proofs.YtakkiipkmogagaaGreat.U
