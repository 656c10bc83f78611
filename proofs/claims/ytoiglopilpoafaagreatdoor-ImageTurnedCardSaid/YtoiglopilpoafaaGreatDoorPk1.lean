/- Texts of ours, in one. -/
import Derived.Test.YtoiglopilpoafaaGreatDoorRows
import Derived.WalkKit
import Derived.WalkSpells
import Derived.WalkLawsBesides
import Derived.ProofKit
import Derived.RowKit3
import Derived.Laws.AppendOwn
import Derived.Laws.AppendOwnNone
import Derived.Maps.AppendAt
import Derived.Laws.Rows
import Derived.OwnWalk
import Derived.Deep.LoopGhost
import Derived.Deep.DeepCutAuto
import Derived.Laws.IdiomStrings
import Derived.Laws.Bits64b
namespace Go.Proofs.YtoiglopilpoafaaGreatDoor.Wi
open Go.RowKit
set_option linter.unusedSimpArgs false
set_option linter.unusedVariables false
set_option maxRecDepth 20000

/-- A fact kept from the walk. -/
def Hidden (p : Prop) : Prop := p
theorem alloc_old (w : World) (o : Obj) (k : Nat) (h : k < w.heap.size) : (w.alloc o).heap[k]? = w.heap[k]? := by
  show (w.heap.push o)[k]? = _
  rw [Array.getElem?_push_lt h]
  exact (Array.getElem?_eq_getElem h).symm
theorem alloc_new (w : World) (o : Obj) : (w.alloc o).heap[w.heap.size]? = some o := by
  show (w.heap.push o)[w.heap.size]? = _
  simp

/-- All blocks that were there, but for some, are as they were. -/
structure Fr (S : Nat → Prop) (w w' : World) : Prop where
  os : w'.os = w.os
  output : w'.output = w.output
  size : w.heap.size ≤ w'.heap.size
  block : ∀ k, k < w.heap.size → ¬ S k → w'.heap[k]? = w.heap[k]?

theorem Fr.refl (S : Nat → Prop) (w : World) : Fr S w w := ⟨rfl, rfl, Nat.le_refl _, fun _ _ _ => rfl⟩
theorem Fr.trans {S T : Nat → Prop} {a b c : World} (h : Fr S a b) (g : Fr T b c) (hT : ∀ k, k < a.heap.size → T k → S k) : Fr S a c :=
  ⟨g.os.trans h.os, g.output.trans h.output, Nat.le_trans h.size g.size, fun k hk hn =>
    (g.block k (Nat.lt_of_lt_of_le hk h.size) (fun t => hn (hT k hk t))).trans (h.block k hk hn)⟩
theorem Fr.same {S : Nat → Prop} {a b c : World} (h : Fr S a b) (g : Fr S b c) : Fr S a c := h.trans g (fun _ _ t => t)
theorem Fr.mono {S T : Nat → Prop} {a b : World} (h : Fr S a b) (hT : ∀ k, k < a.heap.size → S k → T k) : Fr T a b :=
  ⟨h.os, h.output, h.size, fun k hk hn => h.block k hk (fun t => hn (hT k hk t))⟩
theorem Fr.alloc (S : Nat → Prop) (w : World) (o : Obj) : Fr S w (w.alloc o) := ⟨rfl, rfl, by simp, fun k hk _ => alloc_old w o k hk⟩
theorem Fr.grown {w w' : World} {row : Option Nat} (h : w.grownBy w' row) : Fr (fun k => some k = row) w w' := ⟨h.os, h.output, h.size, fun k hk hn => h.block k hk hn⟩
theorem Fr.setCell (w : World) (a : Addr) (v : Value) : Fr (fun k => k = a.block) w (w.setCell a v) :=
  ⟨rfl, rfl, by simp, fun k _ hn => heap_setCell_other w a k v hn⟩
theorem Fr.kept {w w' : World} (h : Fr (fun _ => False) w w') : w.keptBut w' (fun _ => False) :=
  ⟨h.os, h.output, fun i hi => by
    rw [h.block i hi (fun f => f)]
    cases w.heap[i]? with
    | none => rfl
    | some o => cases o <;> simp⟩
theorem Fr.cell {S : Nat → Prop} {w w' : World} (h : Fr S w w') {a : Addr} {v : Value} (hc : w.cell? a = some v) (hn : ¬ S a.block) : w'.cell? a = some v :=
  (World.cell?_of_block (h.block a.block (World.block_lt_of_cell? w a hc) hn)).trans hc
theorem lt_of_heap {w : World} {k : Nat} {o : Obj} (h : w.heap[k]? = some o) : k < w.heap.size := (Array.getElem?_eq_some_iff.1 h).1
theorem Fr.heap {S : Nat → Prop} {w w' : World} (h : Fr S w w') {k : Nat} {o : Obj} (hc : w.heap[k]? = some o) (hn : ¬ S k) : w'.heap[k]? = some o :=
  (h.block k (lt_of_heap hc) hn).trans hc

/-- A slice of one-cell elements, and what they hold. -/
def Sl (w : World) (v : Value) (xs : List Value) : Prop :=
  ∃ ao cap, v = .slice ao xs.length cap ∧ xs.length ≤ cap ∧ cap ≤ maxLen ∧ (ao = none → cap = 0) ∧
    (xs = [] ∨ ∃ b off, ao = some ⟨b, off, none⟩ ∧ ∀ (i : Nat) (x : Value), xs[i]? = some x → w.cell? ⟨b, off + i, none⟩ = some x)

theorem Sl.nil (w : World) : Sl w (.slice none 0 0) [] := ⟨none, 0, rfl, by simp, by simp, fun _ => rfl, Or.inl rfl⟩
theorem Sl.keep {S : Nat → Prop} {w w' : World} {v : Value} {xs : List Value} (h : Sl w v xs) (hf : Fr S w w') (hn : ∀ k, v.ownBlock = some k → ¬ S k) : Sl w' v xs := by
  obtain ⟨ao, cap, rfl, h1, h2, h3, h4⟩ := h
  refine ⟨ao, cap, rfl, h1, h2, h3, ?_⟩
  rcases h4 with rfl | ⟨b, off, rfl, hc⟩
  · exact Or.inl rfl
  · exact Or.inr ⟨b, off, rfl, fun i x hx => hf.cell (hc i x hx) (hn b rfl)⟩
theorem Sl.of_own {w : World} {base : Nat} {e : TypeId} {v : Value} {n : Nat} {xs : List Value} (h : w.ownsRow base e 1 v n xs) : Sl w v xs ∧ n = xs.length := by
  obtain ⟨hl, hh⟩ := h
  obtain rfl : n = xs.length := by omega
  refine ⟨?_, rfl⟩
  rcases hh with ⟨rfl, h0⟩ | ⟨g, cap, cur, rfl, hb, hg, hnc, hcm, hcs, ht⟩
  · obtain rfl : xs = [] := List.eq_nil_of_length_eq_zero h0
    exact Sl.nil w
  · refine ⟨some ⟨g, 0, none⟩, cap, rfl, hnc, hcm, (fun h => by cases h), Or.inr ⟨g, 0, rfl, fun i x hx => ?_⟩⟩
    rw [Nat.zero_add, cell_of_row w g i cur e (0, 0) hg]
    rw [← ht, List.getElem?_take] at hx
    split at hx
    · simpa using hx
    · cases hx

/-- Bytes as cells. -/
def bc (l : List UInt8) : List Value := l.map fun c => .int .u8 (c.toNat : Int)
@[simp] theorem bc_length (l : List UInt8) : (bc l).length = l.length := by simp [bc]
theorem bc_append (a b : List UInt8) : bc (a ++ b) = bc a ++ bc b := by simp [bc]
theorem bc_one (l : List UInt8) : ∀ u ∈ bc l, u.oneCell' = true := by
  intro u hu
  simp only [bc, List.mem_map] at hu
  obtain ⟨c, _, rfl⟩ := hu
  rfl

/-- A Writer at block p: all bytes that it holds; its array's block. -/
def Wr (w : World) (p : Nat) (bs : List UInt8) (g : Option Nat) : Prop :=
  ∃ v, w.heap[p]? = some (.cells #[v] 83 (0, 0)) ∧ w.ownsRow 0 5 1 v bs.length (bc bs) ∧ v.ownBlock = g ∧ g ≠ some p

theorem Wr.keep {S : Nat → Prop} {w w' : World} {p : Nat} {bs : List UInt8} {g : Option Nat} (h : Wr w p bs g) (hf : Fr S w w') (hp : ¬ S p) (hg : ∀ k, g = some k → ¬ S k) : Wr w' p bs g := by
  obtain ⟨v, h1, h2, h3, h4⟩ := h
  refine ⟨v, hf.heap h1 hp, ⟨h2.1, ?_⟩, h3, h4⟩
  rcases h2.2 with hn | ⟨g', cap, cur, rfl, hb, hgg, rest⟩
  · exact Or.inl hn
  · exact Or.inr ⟨g', cap, cur, rfl, hb, hf.heap hgg (hg g' h3.symm), rest⟩

/-- A writer's pointer (nil: nothing is known), with room for n bytes more. -/
def WrO (pv : Value) (w : World) (bs : List UInt8) (g : Option Nat) (n : Nat) : Prop :=
  (pv = .pointer none ∧ g = none) ∨ ∃ p, pv = .pointer (some ⟨p, 0, none⟩) ∧ Wr w p bs g ∧ bs.length + n ≤ 140737488355328

/-- The block of a pointer. -/
def pblk : Value → Option Nat
  | .pointer (some a) => some a.block
  | _ => none

def WTo (pv : Value) (w : World) (g : Option Nat) (w' : World) (bs : List UInt8) (n : Nat) : Prop :=
  ∃ g', WrO pv w' bs g' n ∧ Fr (fun k => pblk pv = some k ∨ g = some k) w w' ∧ (g' = g ∨ ∃ k, g' = some k ∧ w.heap.size ≤ k)

theorem WrO.alloc {pv : Value} {w : World} {bs : List UInt8} {g : Option Nat} {n : Nat} (h : WrO pv w bs g n) (o : Obj) : WrO pv (w.alloc o) bs g n := by
  rcases h with h | ⟨p, rfl, hw, hb⟩
  · exact Or.inl h
  · exact Or.inr ⟨p, rfl, hw.keep (Fr.alloc (fun _ => False) w o) (fun f => f) (fun _ _ f => f), hb⟩
theorem WrO.keep {S : Nat → Prop} {pv : Value} {w w' : World} {bs : List UInt8} {g : Option Nat} {n : Nat} (h : WrO pv w bs g n) (hf : Fr S w w') (hp : ∀ k, pblk pv = some k → ¬ S k) (hg : ∀ k, g = some k → ¬ S k) : WrO pv w' bs g n := by
  rcases h with h | ⟨p, rfl, hw, hb⟩
  · exact Or.inl h
  · exact Or.inr ⟨p, rfl, hw.keep hf (hp p rfl) hg, hb⟩
theorem WTo.refl {pv : Value} {w : World} {bs : List UInt8} {g : Option Nat} {n : Nat} (h : WrO pv w bs g n) : WTo pv w g w bs n := ⟨g, h, Fr.refl _ _, Or.inl rfl⟩
/-- Behind new memory. -/
theorem WTo.of_alloc {pv : Value} {w w' : World} {bs : List UInt8} {g : Option Nat} {n : Nat} {o : Obj} (h : WTo pv (w.alloc o) g w' bs n) : WTo pv w g w' bs n := by
  obtain ⟨g', h1, h2, h3⟩ := h
  refine ⟨g', h1, (Fr.alloc _ w o).same h2, ?_⟩
  rcases h3 with h3 | ⟨k, h3, h4⟩
  · exact Or.inl h3
  · exact Or.inr ⟨k, h3, by simp at h4; omega⟩
theorem WTo.trans {pv : Value} {w w1 w2 : World} {bs : List UInt8} {g g1 : Option Nat} {n : Nat}
    (hf : Fr (fun k => pblk pv = some k ∨ g = some k) w w1) (hg : g1 = g ∨ ∃ k, g1 = some k ∧ w.heap.size ≤ k) (h : WTo pv w1 g1 w2 bs n) : WTo pv w g w2 bs n := by
  obtain ⟨g2, h1, h2, h3⟩ := h
  refine ⟨g2, h1, hf.trans h2 ?_, ?_⟩
  · intro k hk hs
    rcases hs with hs | hs
    · exact Or.inl hs
    · rcases hg with rfl | ⟨k', rfl, hk'⟩
      · exact Or.inr hs
      · have : k' = k := by simpa using hs
        omega
  · rcases h3 with rfl | ⟨k, h3, h4⟩
    · exact hg
    · exact Or.inr ⟨k, h3, by have := hf.size; omega⟩
end Go.Proofs.YtoiglopilpoafaaGreatDoor.Wi

namespace Go.Proofs.YtoiglopilpoafaaGreatDoor.Wi
open Go.RowKit
set_option linter.unusedSimpArgs false
set_option linter.unusedVariables false
set_option maxRecDepth 20000

theorem Sl.src {w : World} {v : Value} {xs : List Value} (h : Sl w v xs) : (v = .slice none 0 0 ∧ xs = []) ∨
    ∃ ad cap, v = .slice (some ad) xs.length cap ∧ xs.length ≤ cap ∧ cap ≤ maxLen ∧ ∀ j u, xs[j]? = some u → w.cell? (ad.add j) = some u := by
  obtain ⟨ao, cap, rfl, h1, h2, h3, h4⟩ := h
  cases ao with
  | none =>
    have h0 := h3 rfl
    have hx : xs = [] := List.eq_nil_of_length_eq_zero (by omega)
    subst hx
    subst h0
    exact Or.inl ⟨rfl, rfl⟩
  | some ad =>
    refine Or.inr ⟨ad, cap, rfl, h1, h2, ?_⟩
    rcases h4 with rfl | ⟨b, off, hb, hc⟩
    · intro j u hu
      simp at hu
    · simp only [Option.some.injEq] at hb
      subst hb
      intro j u hu
      rw [Addr.add_lit]
      exact hc j u hu

theorem info_parts {i : Option TypeInfo} {zero : Value} {size bytes : Nat} (h : i.map (fun i => (i.zero, i.size, i.bytes)) = some (some zero, size, bytes)) :
    ∃ i0, i = some i0 ∧ i0.zero = some zero ∧ i0.size = size ∧ i0.bytes = bytes := by
  cases i with
  | none => cases h
  | some i0 =>
    simp only [Option.map_some, Option.some.injEq, Prod.mk.injEq] at h
    exact ⟨i0, rfl, h.1, h.2.1, h.2.2⟩
theorem Tryz.info_u8 : (Tryz.prog.info? 5).map (fun i => (i.zero, i.size, i.bytes)) = some (some (.int .u8 0), 1, 1) := by kernel_rfl

/-- What a store of the longer slice leaves. -/
theorem put_end {p : Nat} {bs add : List UInt8} {g : Option Nat} {n : Nat} {w w1 : World} {u v' : Value} (hp : w.heap[p]? = some (.cells #[u] 83 (0, 0))) (hg : u.ownBlock = g) (hgp : g ≠ some p)
    (hb : bs.length + (add.length + n) ≤ 140737488355328) (hown : w1.ownsRow 0 5 1 v' (bs.length + add.length) (bc bs ++ bc add)) (hgr : w.grownBy w1 u.ownBlock) (hold : v'.ownBlock = g ∨ ∃ k, v'.ownBlock = some k ∧ w.heap.size ≤ k) :
    WTo (.pointer (some ⟨p, 0, none⟩)) w g (w1.setCell ⟨p, 0, none⟩ v') (bs ++ add) n := by
  have hp1 : w1.heap[p]? = some (.cells #[u] 83 (0, 0)) := (hgr.block p (lt_of_heap hp) (fun e => hgp (by rw [← hg]; exact e.symm))).trans hp
  have hne : v'.ownBlock ≠ some p := by
    rcases hold with h | ⟨k, h, hk⟩
    · rw [h]; exact hgp
    · rw [h]
      intro e
      have : k = p := by simpa using e
      have := lt_of_heap hp
      omega
  have hrow : (w1.setCell ⟨p, 0, none⟩ v').heap[p]? = some (.cells #[v'] 83 (0, 0)) := by
    have := heap_setCell_same w1 p 0 #[u] 83 v' hp1
    simpa using this
  have hwr : Wr (w1.setCell ⟨p, 0, none⟩ v') p (bs ++ add) v'.ownBlock := by
    refine ⟨v', hrow, ⟨by simp [bc], ?_⟩, rfl, hne⟩
    rw [bc_append, List.length_append]
    rcases hown.2 with ⟨h1, h2⟩ | ⟨g2, cap, cur, h1, h2, h3, h4⟩
    · exact Or.inl ⟨h1, h2⟩
    · refine Or.inr ⟨g2, cap, cur, h1, h2, ?_, h4⟩
      rw [heap_setCell_other w1 _ g2 v' (fun e => hne (by rw [h1]; simp [Value.ownBlock]; exact e))]
      exact h3
  have hfr : Fr (fun k => pblk (.pointer (some ⟨p, 0, none⟩)) = some k ∨ g = some k) w (w1.setCell ⟨p, 0, none⟩ v') := by
    refine ((Fr.grown hgr).mono (fun k _ h => Or.inr (by rw [← hg]; exact h.symm))).trans (Fr.setCell w1 ⟨p, 0, none⟩ v') (fun k _ h => Or.inl ?_)
    rw [h]; rfl
  refine ⟨v'.ownBlock, Or.inr ⟨p, rfl, hwr, by rw [List.length_append]; omega⟩, hfr, ?_⟩
  rcases hold with h | ⟨k, h, hk⟩
  · exact Or.inl h
  · exact Or.inr ⟨k, h, hk⟩

set_option maxHeartbeats 400000 in
theorem put_any (pv v : Value) (bs add : List UInt8) (g : Option Nat) (n : Nat) (w : World) (hw : WrO pv w bs g (add.length + n)) (hs : Sl w v (bc add)) :
    Calls Tryz.prog 44 #[pv, v] w fun e w' => e = .returned (.tuple #[]) ∧ WTo pv w g w' (bs ++ add) n := by
  rcases hw with ⟨rfl, rfl⟩ | ⟨p, rfl, ⟨u, hp, hown, hg, hgp⟩, hb⟩
  · go_enter Tryz.func44, Tryz.ntmps44
    go_wp2
    go_end0
    exact ⟨rfl, WTo.refl (Or.inl ⟨rfl, rfl⟩)⟩
  · obtain ⟨i0, hi, hz0, hz1, hz2⟩ := info_parts Tryz.info_u8
    have hcell : w.cell? ⟨p, 0, none⟩ = some u := by rw [cell_of_row w p 0 #[u] 83 (0, 0) hp]; rfl
    have hfroz : w.frozen? ⟨p, 0, none⟩ = false := by simp [World.frozen?, hp]
    obtain ⟨uo, ul, uc, rfl⟩ : ∃ uo ul uc, u = .slice uo ul uc := by
      rcases hown.2 with ⟨rfl, _⟩ | ⟨_, _, _, rfl, _⟩ <;> exact ⟨_, _, _, rfl⟩
    subst hg
    rcases hs.src with ⟨rfl, hx⟩ | ⟨ad, cap, rfl, hl, hm, hnews⟩
    · obtain rfl : add = [] := by simpa [bc] using hx
      go_enter Tryz.func44, Tryz.ntmps44
      go_wp2_with (at_builtin; refine wpList_append_own_none rfl _ _ 30 rfl 0 5 i0 1 Tryz.underlying30 hi _ bs.length (bc bs) rfl hown rfl ?_)
      go_end0
      refine ⟨rfl, put_end hp rfl hgp hb ?_ ⟨rfl, rfl, rfl, Nat.le_refl _, fun _ _ _ => rfl⟩ (Or.inl rfl)⟩
      simpa [bc] using hown
    · have hout : ∀ v' w1, w1.ownsRow 0 5 1 v' (bs.length + add.length) (bc bs ++ bc add) → w.grownBy w1 (Value.slice uo ul uc).ownBlock → w1.cell? ⟨p, 0, none⟩ = some (.slice uo ul uc) ∧ w1.frozen? ⟨p, 0, none⟩ = false ∧ ∃ a b c, v' = .slice a b c := by
        intro v' w1 h2 hgr
        have hp1 : w1.heap[p]? = some (.cells #[.slice uo ul uc] 83 (0, 0)) := (hgr.block p (lt_of_heap hp) (fun e => hgp e.symm)).trans hp
        refine ⟨by rw [cell_of_row w1 p 0 _ 83 (0, 0) hp1]; rfl, by simp [World.frozen?, hp1], ?_⟩
        rcases h2.2 with ⟨rfl, _⟩ | ⟨_, _, _, rfl, _⟩ <;> exact ⟨_, _, _, rfl⟩
      rw [bc_length] at hl ⊢
      go_enter Tryz.func44, Tryz.ntmps44
      go_wp2_with (at_builtin; refine wpList_append_own_at _ rfl _ _ 30 rfl 0 5 i0 (.int .u8 0) 1 1 Tryz.underlying30 hi hz0 hz1 hz2 rfl (by decide) _ bs.length (bc bs) rfl hown ad add.length _ (bc add) rfl ?q1 hnews (bc_one add) ?q2 ?q3 (Nat.zero_le _) ?_)
      case q1 => simp
      case q2 => unfold maxLen; omega
      case q3 => omega
      intro v' w1 h2 hgr hne hwh
      obtain ⟨hc1, hf1, a', b', c', rfl⟩ := hout v' w1 h2 hgr
      go_wp2
      go_end0
      refine ⟨rfl, put_end hp rfl hgp hb h2 hgr ?_⟩
      rcases hwh with h | h
      · exact Or.inl h
      · exact Or.inr ⟨_, h, Nat.le_refl _⟩
end Go.Proofs.YtoiglopilpoafaaGreatDoor.Wi

namespace Go.Proofs.YtoiglopilpoafaaGreatDoor.Wi
open Go.RowKit
set_option linter.unusedSimpArgs false
set_option linter.unusedVariables false
set_option maxRecDepth 20000

/-- The lowest k bytes of a number, the highest first. -/
def beS (n : Nat) : Nat → List UInt8
  | 0 => []
  | k + 1 => UInt8.ofNat (n / 2 ^ (8 * k)) :: beS n k
@[simp] theorem beS_length (n k : Nat) : (beS n k).length = k := by induction k with
  | zero => rfl
  | succ k ih => simp [beS, ih]

theorem Sl.one (w : World) (x : Value) (t : TypeId) : Sl (w.alloc (.cells #[x] t)) (.slice (some ⟨w.heap.size, 0, none⟩) 1 1) [x] := by
  refine ⟨some ⟨w.heap.size, 0, none⟩, 1, rfl, by simp, by simp [maxLen], (fun h => by cases h), Or.inr ⟨w.heap.size, 0, rfl, fun i y hy => ?_⟩⟩
  obtain ⟨hi, hh⟩ := List.getElem?_eq_some_iff.1 hy
  obtain rfl : i = 0 := by simp at hi; omega
  have hx : x = y := by simpa using hh
  subst hx
  rw [Nat.zero_add, cell_of_row _ w.heap.size 0 #[x] t (0, 0) (alloc_new _ _)]
  rfl

set_option maxHeartbeats 400000 in
theorem putNumber_any (pv : Value) (N size : Nat) (bs : List UInt8) (g : Option Nat) (n : Nat) (w : World) (hN : N < 18446744073709551616) (hs : size ≤ 8) (hw : WrO pv w bs g (size + n)) :
    Calls Tryz.prog 45 #[pv, .int .u64 (N : Int), .int .i64 (size : Int)] w fun e w' => e = .returned (.tuple #[]) ∧ WTo pv w g w' (bs ++ beS N size) n := by
  have hwH : Hidden (WrO pv w bs g (size + n)) := hw
  clear hw
  go_enter Tryz.func45, Tryz.ntmps45
  go_wp2
  go_loopg [6] size (fun k b wr => b = .int .i64 ((k : Int) - 1) ∧ k ≤ size ∧ ∃ pre, WTo pv w g wr (bs ++ pre) (k + n) ∧ pre ++ beS N k = beS N size)
  case atStart => 
    exact ⟨rfl, Nat.le_refl _, [], by rw [List.append_nil]; exact WTo.refl hwH, rfl⟩
  case round =>
    obtain ⟨rfl, hk, pre, hto, hpre⟩ := hrel
    have hH : Hidden (WTo pv w g wr (bs ++ pre) (gk + n) ∧ pre ++ beS N gk = beS N size) := ⟨hto, hpre⟩
    clear hto hpre
    cases gk with
    | zero =>
      go_wp2
      go_end0
      obtain ⟨hto, hpre⟩ := hH
      simp only [beS, List.append_nil] at hpre
      subst hpre
      exact ⟨rfl, by simpa using hto⟩
    | succ k =>
      obtain ⟨⟨g1, ho, hf, hg⟩, hpre⟩ := id hH
      have kp := put_any pv (.slice (some ⟨wr.heap.size, 0, none⟩) 1 1) (bs ++ pre) [UInt8.ofNat (N / 2 ^ (8 * k))] g1 (k + n) (wr.alloc (.cells #[.int .u8 ((N : Int) / 2 ^ (8 * k) % 256)] 5))
        ((by simpa [Nat.add_comm, Nat.add_left_comm, Nat.add_assoc] using ho : WrO pv wr (bs ++ pre) g1 ([UInt8.ofNat (N / 2 ^ (8 * k))].length + (k + n))).alloc _) (by
          have e : bc [UInt8.ofNat (N / 2 ^ (8 * k))] = [.int .u8 ((N : Int) / 2 ^ (8 * k) % 256)] := by
            simp [bc]
          rw [e]; exact Sl.one _ _ _)
      clear ho hpre
      have hfH : Hidden (Fr (fun k => pblk pv = some k ∨ g = some k) w wr ∧ (g1 = g ∨ ∃ k, g1 = some k ∧ w.heap.size ≤ k)) := ⟨hf, hg⟩
      clear hf hg
      go_wp2_with (go_at_call 44; refine kp.mono ?_; rintro e w' ⟨rfl, hto⟩)
      go_roundg k
      case measure => omega
      case rel =>
        obtain ⟨hf, hg⟩ := hfH
        obtain ⟨_, hpre⟩ := hH
        refine ⟨by go_num, by omega, pre ++ [UInt8.ofNat (N / 2 ^ (8 * k))], ?_, by rw [← hpre, beS]; simp⟩
        rw [← List.append_assoc]
        exact WTo.trans hf hg hto.of_alloc
end Go.Proofs.YtoiglopilpoafaaGreatDoor.Wi

namespace Go.Proofs.YtoiglopilpoafaaGreatDoor.Wi
open Go.RowKit
set_option linter.unusedSimpArgs false
set_option linter.unusedVariables false
set_option maxRecDepth 20000

theorem byte_any (pv : Value) (c : UInt8) (bs : List UInt8) (g : Option Nat) (n : Nat) (w : World) (hw : WrO pv w bs g (1 + n)) :
    Calls Tryz.prog 26 #[pv, .int .u8 (c.toNat : Int)] w fun e w' => e = .returned (.tuple #[]) ∧ WTo pv w g w' (bs ++ [c]) n := by
  have kp := put_any pv (.slice (some ⟨w.heap.size, 0, none⟩) 1 1) bs [c] g n _ (hw.alloc (.cells #[.int .u8 (c.toNat : Int)] 5)) (Sl.one w _ 5)
  clear hw
  go_enter Tryz.func26, Tryz.ntmps26
  go_wp2_with (go_at_call 44; refine kp.mono ?_; rintro e w' ⟨rfl, hto⟩)
  go_end0
  exact ⟨rfl, hto.of_alloc⟩

/-- The bits of an int, as a number without a sign. -/
def u64 (n : Int) : Nat := (n % 18446744073709551616).toNat
theorem u64_lt (n : Int) : u64 n < 18446744073709551616 := by unfold u64; omega

theorem long_any (pv : Value) (N : Nat) (bs : List UInt8) (g : Option Nat) (n : Nat) (w : World) (hN : N < 18446744073709551616) (hw : WrO pv w bs g (8 + n)) :
    Calls Tryz.prog 28 #[pv, .int .u64 (N : Int)] w fun e w' => e = .returned (.tuple #[]) ∧ WTo pv w g w' (bs ++ beS N 8) n := by
  have kp := putNumber_any pv N 8 bs g n w hN (by omega) hw
  clear hw
  go_enter Tryz.func28, Tryz.ntmps28
  go_wp2_with (go_at_call 45; refine kp.mono ?_; rintro e w' ⟨rfl, hto⟩)
  go_end0
  exact ⟨rfl, hto⟩

theorem and31 (x : Int) : bits .and .u64 (IntKind.u64.wrap x) 2147483647 = ((u64 x % 2147483648 : Nat) : Int) := by
  have hw : IntKind.u64.wrap x = (u64 x : Int) := by
    rw [IntKind.wrap_u64]; unfold u64; omega
  rw [hw]
  have := bits_and_u64_nat (u64 x) 2147483647 (u64_lt x) (by omega)
  rw [show ((2147483647 : Nat) : Int) = 2147483647 from rfl] at this
  rw [this]
  congr 1
  exact Nat.and_two_pow_sub_one_eq_mod (u64 x) 31

/-- The four bytes of an int. -/
def i31 (x : Int) : List UInt8 := beS (u64 x % 2147483648) 4
@[simp] theorem i31_length (x : Int) : (i31 x).length = 4 := beS_length _ _

theorem int_any (pv : Value) (x : Int) (bs : List UInt8) (g : Option Nat) (n : Nat) (w : World) (hw : WrO pv w bs g (4 + n)) :
    Calls Tryz.prog 27 #[pv, .int .i64 x] w fun e w' => e = .returned (.tuple #[]) ∧ WTo pv w g w' (bs ++ i31 x) n := by
  have e31 := and31 x
  have hm : u64 x % 2147483648 < 2147483648 := Nat.mod_lt _ (by omega)
  have kp := putNumber_any pv (u64 x % 2147483648) 4 bs g n w (by omega) (by omega) hw
  clear hw hm
  go_enter Tryz.func27, Tryz.ntmps27
  go_wp2_with (go_at_call 45; refine kp.mono ?_; rintro e w' ⟨rfl, hto⟩)
  go_end0
  exact ⟨rfl, hto⟩

/-- Raw bytes, as they are written. -/
def rawS (l : List UInt8) : List UInt8 := i31 (l.length : Int) ++ l
@[simp] theorem rawS_length (l : List UInt8) : (rawS l).length = 4 + l.length := by simp [rawS]

/-- A slice that shares no memory with a writer. -/
def Apart (xs : List Value) (v pv : Value) (g : Option Nat) : Prop := xs = [] ∨ ∀ k, v.ownBlock = some k → ¬ (pblk pv = some k ∨ g = some k)
theorem Sl.keepA {S : Nat → Prop} {w w' : World} {v : Value} {xs : List Value} (h : Sl w v xs) (hf : Fr S w w') (hn : xs = [] ∨ ∀ k, v.ownBlock = some k → ¬ S k) : Sl w' v xs := by
  rcases hn with rfl | hn
  · obtain ⟨ao, cap, rfl, h1, h2, h3, h4⟩ := h
    exact ⟨ao, cap, rfl, h1, h2, h3, Or.inl rfl⟩
  · exact h.keep hf hn

theorem raw_any (pv v : Value) (l : List UInt8) (bs : List UInt8) (g : Option Nat) (n : Nat) (w : World) (hw : WrO pv w bs g (4 + (l.length + n))) (hs : Sl w v (bc l)) (ha : Apart (bc l) v pv g) :
    Calls Tryz.prog 48 #[pv, v] w fun e w' => e = .returned (.tuple #[]) ∧ WTo pv w g w' (bs ++ rawS l) n := by
  have ki := int_any pv (l.length : Int) bs g (l.length + n) w hw
  have kp : ∀ w1, WTo pv w g w1 (bs ++ i31 (l.length : Int)) (l.length + n) → Calls Tryz.prog 44 #[pv, v] w1 fun e w' => e = .returned (.tuple #[]) ∧ WTo pv w g w' (bs ++ rawS l) n := by
    rintro w1 ⟨g1, ho, hf, hg⟩
    refine (put_any pv v _ l g1 n w1 ho (hs.keepA hf ha)).mono ?_
    rintro e w' ⟨rfl, hto⟩
    refine ⟨rfl, ?_⟩
    rw [rawS, ← List.append_assoc]
    exact WTo.trans hf hg hto
  obtain ⟨ao, cap, rfl, h1, h2, h3, h4⟩ := hs
  rw [bc_length] at *
  clear h4 h3 ha hw
  go_enter Tryz.func48, Tryz.ntmps48
  go_wp2_with (first
    | (go_at_call 27; refine ki.mono ?_; rintro e w1 ⟨rfl, hto⟩)
    | (go_at_call 44; refine (kp _ hto).mono ?_; rintro e w2 ⟨rfl, hto2⟩))
  go_end0
  exact ⟨rfl, hto2⟩
end Go.Proofs.YtoiglopilpoafaaGreatDoor.Wi

namespace Go.Proofs.YtoiglopilpoafaaGreatDoor.Wi
open Go.RowKit
set_option linter.unusedSimpArgs false
set_option linter.unusedVariables false
set_option maxRecDepth 20000

theorem WrO.lt {pv : Value} {w : World} {bs : List UInt8} {g : Option Nat} {n : Nat} (h : WrO pv w bs g n) : ∀ k, pblk pv = some k ∨ g = some k → k < w.heap.size := by
  intro k hk
  rcases h with ⟨rfl, rfl⟩ | ⟨p, rfl, ⟨v, h1, h2, h3, h4⟩, hb⟩
  · rcases hk with hk | hk <;> cases hk
  · rcases hk with hk | hk
    · have : p = k := by simpa [pblk] using hk
      subst this
      exact lt_of_heap h1
    · exact (h2.lt k (h3.trans hk)).2
theorem WrO.less {pv : Value} {w : World} {bs : List UInt8} {g : Option Nat} {n m : Nat} (h : WrO pv w bs g n) (hm : m ≤ n) : WrO pv w bs g m := by
  rcases h with h | ⟨p, rfl, hw, hb⟩
  · exact Or.inl h
  · exact Or.inr ⟨p, rfl, hw, by omega⟩

theorem take_next {α : Type} {l : List α} {j : Nat} {x : α} (h : l[j]? = some x) : l.take (j + 1) = l.take j ++ [x] := by
  rw [List.take_add_one, h]; rfl
theorem Wr.value {w : World} {p : Nat} {bs : List UInt8} {g : Option Nat} (h : Wr w p bs g) : ∃ ao cap, w.cell? ⟨p, 0, none⟩ = some (.slice ao bs.length cap) ∧ Sl w (.slice ao bs.length cap) (bc bs) ∧ (Value.slice ao bs.length cap).ownBlock = g ∧ cap ≤ maxLen ∧ bs.length ≤ cap := by
  obtain ⟨v, h1, h2, h3, h4⟩ := h
  obtain ⟨ao, cap, e, a1, a2, a3, a4⟩ := (Sl.of_own h2).1
  rw [bc_length] at e
  subst e
  refine ⟨ao, cap, by rw [cell_of_row w p 0 _ 83 (0, 0) h1]; rfl, ⟨ao, cap, by rw [bc_length], a1, a2, a3, a4⟩, h3, a2, by simpa using a1⟩

/-- A new slice of the call's own, with those bytes. -/
def Copied (w w' : World) (v : Value) (xs : List Value) : Prop := w'.ownsRow w.heap.size 5 1 v xs.length xs ∧ Fr (fun _ => False) w w'

theorem clone_nil (w : World) :
    Calls Tryz.prog 49 #[.slice none 0 0] w fun e w' => e = .returned (.slice none 0 0) ∧ w = w' := by
  have he : ∀ w : World, (binOp .eql 30 (.slice none 0 0) (.slice none 0 0)).run Tryz.prog w = .ok (.bool true) w := fun _ => rfl
  go_enter Tryz.func49, Tryz.ntmps49
  go_wp2
  go_ret
  exact ⟨rfl, rfl⟩

theorem clone_any (v : Value) (l : List UInt8) (w : World) (hb : l.length ≤ 140737488355328) (hs : Sl w v (bc l)) :
    Calls Tryz.prog 49 #[v] w fun e w' => ∃ v', e = .returned v' ∧ Copied w w' v' (bc l) := by
  rcases hs.src with ⟨rfl, hx⟩ | ⟨ad, cap, rfl, hl, hm, hnews⟩
  · rw [hx]
    refine (clone_nil w).mono ?_
    rintro e w' ⟨rfl, rfl⟩
    exact ⟨_, rfl, World.ownsRow_nil _ _ _ _, Fr.refl _ _⟩
  · obtain ⟨i0, hi, hz0, hz1, hz2⟩ := info_parts Tryz.info_u8
    rw [bc_length] at hl ⊢
    have hnews2 : ∀ j u, (bc l)[j]? = some u → (w.alloc (.cells #[] 5)).cell? (ad.add j) = some u := by
      intro j u hu
      exact (Fr.alloc (fun _ => False) w _).cell (hnews j u hu) (fun f => f)
    have hcm : cap ≤ 9223372036854775807 := hm
    clear hs hnews hm
    have he : ∀ w : World, (binOp .eql 30 (.slice (some ad) l.length cap) (.slice none 0 0)).run Tryz.prog w = .ok (.bool false) w := fun _ => rfl
    go_enter Tryz.func49, Tryz.ntmps49
    go_wp2_with (at_builtin; refine wpList_append_own _ rfl _ _ 30 rfl w.heap.size 5 i0 (.int .u8 0) 1 1 Tryz.underlying30 hi hz0 hz1 hz2 rfl (by decide) _ 0 [] rfl ?q0 ad l.length _ (bc l) rfl ?q1 hnews2 (bc_one l) ?q2 ?q3 ?q4 ?_)
    case q0 => exact World.ownsRow_made w #[] 0 (Nat.le_refl _) (by simp [maxLen]) (by simp)
    case q1 => simp
    case q2 => unfold maxLen; omega
    case q3 => omega
    case q4 => simp
    intro v' w1 hown hg hne
    have hfin : Hidden (Copied w w1 v' (bc l)) := by
      refine ⟨by simpa using hown, (Fr.alloc _ w _).trans (Fr.grown hg) (fun k hk h => ?_)⟩
      have : k = w.heap.size := by simpa [Value.ownBlock] using h
      omega
    clear hown hg hne hnews2
    go_wp2
    go_ret
    exact ⟨_, rfl, hfin⟩

theorem bytes_some (p : Nat) (bs : List UInt8) (g : Option Nat) (w : World) (hw : Wr w p bs g) (hb : bs.length ≤ 140737488355328) :
    Calls Tryz.prog 30 #[.pointer (some ⟨p, 0, none⟩)] w fun e w' => ∃ v', e = .returned v' ∧ Copied w w' v' (bc bs) := by
  obtain ⟨ao, cap, hc, hs, _, h1, h2⟩ := hw.value
  have kc := clone_any _ bs w hb hs
  clear hw hs
  go_enter Tryz.func30, Tryz.ntmps30
  go_wp2_with (go_at_call 49; refine kc.mono ?_; rintro e w' ⟨v', rfl, hcp⟩)
  go_ret
  exact ⟨_, rfl, hcp⟩
end Go.Proofs.YtoiglopilpoafaaGreatDoor.Wi
