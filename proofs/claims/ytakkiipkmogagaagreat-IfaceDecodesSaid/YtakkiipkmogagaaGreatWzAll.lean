/- Texts of ours, in one. -/
import Derived.Test.YtakkiipkmogagaaGreatRows
import Derived.WalkKit
import Derived.WalkSpells
import Derived.WalkLawsBesides
import Derived.ProofKit
import Derived.RowKit3
import Derived.Laws.AppendOwn
import Derived.Laws.AppendOwnNone
import Derived.Maps.AppendAt
import Derived.Laws.Rows
import Derived.OwnWalk
import Derived.Deep.LoopGhost
import Derived.Deep.DeepCutAuto
import Derived.Laws.IdiomStrings
import Derived.Laws.Bits64b
import Derived.Recover
import Derived.Deep.AppendSrc
import Derived.Deep.Upon
import Derived.Deep.MidRow
import Derived.Laws.EntriesVeiled
namespace Go.Proofs.YtakkiipkmogagaaGreat.Wi
open Go.RowKit
set_option linter.unusedSimpArgs false
set_option linter.unusedVariables false
set_option maxRecDepth 20000

/-- A fact kept from the walk. -/
def Hidden (p : Prop) : Prop := p
theorem alloc_old (w : World) (o : Obj) (k : Nat) (h : k < w.heap.size) : (w.alloc o).heap[k]? = w.heap[k]? := by
  show (w.heap.push o)[k]? = _
  rw [Array.getElem?_push_lt h]
  exact (Array.getElem?_eq_getElem h).symm
theorem alloc_new (w : World) (o : Obj) : (w.alloc o).heap[w.heap.size]? = some o := by
  show (w.heap.push o)[w.heap.size]? = _
  simp

/-- All blocks that were there, but for some, are as they were. -/
structure Fr (S : Nat → Prop) (w w' : World) : Prop where
  os : w'.os = w.os
  output : w'.output = w.output
  size : w.heap.size ≤ w'.heap.size
  block : ∀ k, k < w.heap.size → ¬ S k → w'.heap[k]? = w.heap[k]?

theorem Fr.refl (S : Nat → Prop) (w : World) : Fr S w w := ⟨rfl, rfl, Nat.le_refl _, fun _ _ _ => rfl⟩
theorem Fr.trans {S T : Nat → Prop} {a b c : World} (h : Fr S a b) (g : Fr T b c) (hT : ∀ k, k < a.heap.size → T k → S k) : Fr S a c :=
  ⟨g.os.trans h.os, g.output.trans h.output, Nat.le_trans h.size g.size, fun k hk hn =>
    (g.block k (Nat.lt_of_lt_of_le hk h.size) (fun t => hn (hT k hk t))).trans (h.block k hk hn)⟩
theorem Fr.same {S : Nat → Prop} {a b c : World} (h : Fr S a b) (g : Fr S b c) : Fr S a c := h.trans g (fun _ _ t => t)
theorem Fr.mono {S T : Nat → Prop} {a b : World} (h : Fr S a b) (hT : ∀ k, k < a.heap.size → S k → T k) : Fr T a b :=
  ⟨h.os, h.output, h.size, fun k hk hn => h.block k hk (fun t => hn (hT k hk t))⟩
theorem Fr.alloc (S : Nat → Prop) (w : World) (o : Obj) : Fr S w (w.alloc o) := ⟨rfl, rfl, by simp, fun k hk _ => alloc_old w o k hk⟩
theorem Fr.drew (S : Nat → Prop) (w : World) : Fr S w w.drew := ⟨rfl, rfl, Nat.le_refl _, fun _ _ _ => rfl⟩
theorem Fr.grown {w w' : World} {row : Option Nat} (h : w.grownBy w' row) : Fr (fun k => some k = row) w w' := ⟨h.os, h.output, h.size, fun k hk hn => h.block k hk hn⟩
theorem Fr.setCell (w : World) (a : Addr) (v : Value) : Fr (fun k => k = a.block) w (w.setCell a v) :=
  ⟨rfl, rfl, by simp, fun k _ hn => heap_setCell_other w a k v hn⟩
theorem Fr.kept {w w' : World} (h : Fr (fun _ => False) w w') : w.keptBut w' (fun _ => False) :=
  ⟨h.os, h.output, fun i hi => by
    rw [h.block i hi (fun f => f)]
    cases w.heap[i]? with
    | none => rfl
    | some o => cases o <;> simp⟩
theorem Fr.cell {S : Nat → Prop} {w w' : World} (h : Fr S w w') {a : Addr} {v : Value} (hc : w.cell? a = some v) (hn : ¬ S a.block) : w'.cell? a = some v :=
  (World.cell?_of_block (h.block a.block (World.block_lt_of_cell? w a hc) hn)).trans hc
theorem lt_of_heap {w : World} {k : Nat} {o : Obj} (h : w.heap[k]? = some o) : k < w.heap.size := (Array.getElem?_eq_some_iff.1 h).1
theorem Fr.heap {S : Nat → Prop} {w w' : World} (h : Fr S w w') {k : Nat} {o : Obj} (hc : w.heap[k]? = some o) (hn : ¬ S k) : w'.heap[k]? = some o :=
  (h.block k (lt_of_heap hc) hn).trans hc

/-- A slice of one-cell elements, and what they hold. -/
def Sl (w : World) (v : Value) (xs : List Value) : Prop :=
  ∃ ao cap, v = .slice ao xs.length cap ∧ xs.length ≤ cap ∧ cap ≤ maxLen ∧ (ao = none → cap = 0) ∧
    (xs = [] ∨ ∃ b off, ao = some ⟨b, off, none⟩ ∧ ∀ (i : Nat) (x : Value), xs[i]? = some x → w.cell? ⟨b, off + i, none⟩ = some x)

theorem Sl.nil (w : World) : Sl w (.slice none 0 0) [] := ⟨none, 0, rfl, by simp, by simp, fun _ => rfl, Or.inl rfl⟩
theorem Sl.keep {S : Nat → Prop} {w w' : World} {v : Value} {xs : List Value} (h : Sl w v xs) (hf : Fr S w w') (hn : ∀ k, v.ownBlock = some k → ¬ S k) : Sl w' v xs := by
  obtain ⟨ao, cap, rfl, h1, h2, h3, h4⟩ := h
  refine ⟨ao, cap, rfl, h1, h2, h3, ?_⟩
  rcases h4 with rfl | ⟨b, off, rfl, hc⟩
  · exact Or.inl rfl
  · exact Or.inr ⟨b, off, rfl, fun i x hx => hf.cell (hc i x hx) (hn b rfl)⟩
theorem Sl.of_own {w : World} {base : Nat} {e : TypeId} {v : Value} {n : Nat} {xs : List Value} (h : w.ownsRow base e 1 v n xs) : Sl w v xs ∧ n = xs.length := by
  obtain ⟨hl, hh⟩ := h
  obtain rfl : n = xs.length := by omega
  refine ⟨?_, rfl⟩
  rcases hh with ⟨rfl, h0⟩ | ⟨g, cap, cur, rfl, hb, hg, hnc, hcm, hcs, ht⟩
  · obtain rfl : xs = [] := List.eq_nil_of_length_eq_zero h0
    exact Sl.nil w
  · refine ⟨some ⟨g, 0, none⟩, cap, rfl, hnc, hcm, (fun h => by cases h), Or.inr ⟨g, 0, rfl, fun i x hx => ?_⟩⟩
    rw [Nat.zero_add, cell_of_row w g i cur e (0, 0) hg]
    rw [← ht, List.getElem?_take] at hx
    split at hx
    · simpa using hx
    · cases hx

/-- Bytes as cells. -/
def bc (l : List UInt8) : List Value := l.map fun c => .int .u8 (c.toNat : Int)
@[simp] theorem bc_length (l : List UInt8) : (bc l).length = l.length := by simp [bc]
theorem bc_append (a b : List UInt8) : bc (a ++ b) = bc a ++ bc b := by simp [bc]
theorem bc_one (l : List UInt8) : ∀ u ∈ bc l, u.oneCell' = true := by
  intro u hu
  simp only [bc, List.mem_map] at hu
  obtain ⟨c, _, rfl⟩ := hu
  rfl

/-- A Writer at block p: all bytes that it holds; its array's block. -/
def Wr (w : World) (p : Nat) (bs : List UInt8) (g : Option Nat) : Prop :=
  ∃ v, w.heap[p]? = some (.cells #[v] 99 (0, 0)) ∧ w.ownsRow 0 5 1 v bs.length (bc bs) ∧ v.ownBlock = g ∧ g ≠ some p

theorem Wr.keep {S : Nat → Prop} {w w' : World} {p : Nat} {bs : List UInt8} {g : Option Nat} (h : Wr w p bs g) (hf : Fr S w w') (hp : ¬ S p) (hg : ∀ k, g = some k → ¬ S k) : Wr w' p bs g := by
  obtain ⟨v, h1, h2, h3, h4⟩ := h
  refine ⟨v, hf.heap h1 hp, ⟨h2.1, ?_⟩, h3, h4⟩
  rcases h2.2 with hn | ⟨g', cap, cur, rfl, hb, hgg, rest⟩
  · exact Or.inl hn
  · exact Or.inr ⟨g', cap, cur, rfl, hb, hf.heap hgg (hg g' h3.symm), rest⟩

/-- A writer's pointer (nil: nothing is known), with room for n bytes more. -/
def WrO (pv : Value) (w : World) (bs : List UInt8) (g : Option Nat) (n : Nat) : Prop :=
  (pv = .pointer none ∧ g = none) ∨ ∃ p, pv = .pointer (some ⟨p, 0, none⟩) ∧ Wr w p bs g ∧ bs.length + n ≤ 140737488355328

/-- The block of a pointer. -/
def pblk : Value → Option Nat
  | .pointer (some a) => some a.block
  | _ => none

def WTo (pv : Value) (w : World) (g : Option Nat) (w' : World) (bs : List UInt8) (n : Nat) : Prop :=
  ∃ g', WrO pv w' bs g' n ∧ Fr (fun k => pblk pv = some k ∨ g = some k) w w' ∧ (g' = g ∨ ∃ k, g' = some k ∧ w.heap.size ≤ k)

theorem WrO.alloc {pv : Value} {w : World} {bs : List UInt8} {g : Option Nat} {n : Nat} (h : WrO pv w bs g n) (o : Obj) : WrO pv (w.alloc o) bs g n := by
  rcases h with h | ⟨p, rfl, hw, hb⟩
  · exact Or.inl h
  · exact Or.inr ⟨p, rfl, hw.keep (Fr.alloc (fun _ => False) w o) (fun f => f) (fun _ _ f => f), hb⟩
theorem WrO.keep {S : Nat → Prop} {pv : Value} {w w' : World} {bs : List UInt8} {g : Option Nat} {n : Nat} (h : WrO pv w bs g n) (hf : Fr S w w') (hp : ∀ k, pblk pv = some k → ¬ S k) (hg : ∀ k, g = some k → ¬ S k) : WrO pv w' bs g n := by
  rcases h with h | ⟨p, rfl, hw, hb⟩
  · exact Or.inl h
  · exact Or.inr ⟨p, rfl, hw.keep hf (hp p rfl) hg, hb⟩
theorem WTo.refl {pv : Value} {w : World} {bs : List UInt8} {g : Option Nat} {n : Nat} (h : WrO pv w bs g n) : WTo pv w g w bs n := ⟨g, h, Fr.refl _ _, Or.inl rfl⟩
/-- Behind new memory. -/
theorem WTo.of_alloc {pv : Value} {w w' : World} {bs : List UInt8} {g : Option Nat} {n : Nat} {o : Obj} (h : WTo pv (w.alloc o) g w' bs n) : WTo pv w g w' bs n := by
  obtain ⟨g', h1, h2, h3⟩ := h
  refine ⟨g', h1, (Fr.alloc _ w o).same h2, ?_⟩
  rcases h3 with h3 | ⟨k, h3, h4⟩
  · exact Or.inl h3
  · exact Or.inr ⟨k, h3, by simp at h4; omega⟩
theorem WTo.trans {pv : Value} {w w1 w2 : World} {bs : List UInt8} {g g1 : Option Nat} {n : Nat}
    (hf : Fr (fun k => pblk pv = some k ∨ g = some k) w w1) (hg : g1 = g ∨ ∃ k, g1 = some k ∧ w.heap.size ≤ k) (h : WTo pv w1 g1 w2 bs n) : WTo pv w g w2 bs n := by
  obtain ⟨g2, h1, h2, h3⟩ := h
  refine ⟨g2, h1, hf.trans h2 ?_, ?_⟩
  · intro k hk hs
    rcases hs with hs | hs
    · exact Or.inl hs
    · rcases hg with rfl | ⟨k', rfl, hk'⟩
      · exact Or.inr hs
      · have : k' = k := by simpa using hs
        omega
  · rcases h3 with rfl | ⟨k, h3, h4⟩
    · exact hg
    · exact Or.inr ⟨k, h3, by have := hf.size; omega⟩
end Go.Proofs.YtakkiipkmogagaaGreat.Wi

namespace Go.Proofs.YtakkiipkmogagaaGreat.Wi
open Go.RowKit
set_option linter.unusedSimpArgs false
set_option linter.unusedVariables false
set_option maxRecDepth 20000

theorem Sl.src {w : World} {v : Value} {xs : List Value} (h : Sl w v xs) : (v = .slice none 0 0 ∧ xs = []) ∨
    ∃ ad cap, v = .slice (some ad) xs.length cap ∧ xs.length ≤ cap ∧ cap ≤ maxLen ∧ ∀ j u, xs[j]? = some u → w.cell? (ad.add j) = some u := by
  obtain ⟨ao, cap, rfl, h1, h2, h3, h4⟩ := h
  cases ao with
  | none =>
    have h0 := h3 rfl
    have hx : xs = [] := List.eq_nil_of_length_eq_zero (by omega)
    subst hx
    subst h0
    exact Or.inl ⟨rfl, rfl⟩
  | some ad =>
    refine Or.inr ⟨ad, cap, rfl, h1, h2, ?_⟩
    rcases h4 with rfl | ⟨b, off, hb, hc⟩
    · intro j u hu
      simp at hu
    · simp only [Option.some.injEq] at hb
      subst hb
      intro j u hu
      rw [Addr.add_lit]
      exact hc j u hu

theorem info_parts {i : Option TypeInfo} {zero : Value} {size bytes : Nat} (h : i.map (fun i => (i.zero, i.size, i.bytes)) = some (some zero, size, bytes)) :
    ∃ i0, i = some i0 ∧ i0.zero = some zero ∧ i0.size = size ∧ i0.bytes = bytes := by
  cases i with
  | none => cases h
  | some i0 =>
    simp only [Option.map_some, Option.some.injEq, Prod.mk.injEq] at h
    exact ⟨i0, rfl, h.1, h.2.1, h.2.2⟩
theorem Tryz.info_u8 : (Tryz.prog.info? 5).map (fun i => (i.zero, i.size, i.bytes)) = some (some (.int .u8 0), 1, 1) := by kernel_rfl

/-- What a store of the longer slice leaves. -/
theorem put_end {p : Nat} {bs add : List UInt8} {g : Option Nat} {n : Nat} {w w1 : World} {u v' : Value} (hp : w.heap[p]? = some (.cells #[u] 99 (0, 0))) (hg : u.ownBlock = g) (hgp : g ≠ some p)
    (hb : bs.length + (add.length + n) ≤ 140737488355328) (hown : w1.ownsRow 0 5 1 v' (bs.length + add.length) (bc bs ++ bc add)) (hgr : w.grownBy w1 u.ownBlock) (hold : v'.ownBlock = g ∨ ∃ k, v'.ownBlock = some k ∧ w.heap.size ≤ k) :
    WTo (.pointer (some ⟨p, 0, none⟩)) w g (w1.setCell ⟨p, 0, none⟩ v') (bs ++ add) n := by
  have hp1 : w1.heap[p]? = some (.cells #[u] 99 (0, 0)) := (hgr.block p (lt_of_heap hp) (fun e => hgp (by rw [← hg]; exact e.symm))).trans hp
  have hne : v'.ownBlock ≠ some p := by
    rcases hold with h | ⟨k, h, hk⟩
    · rw [h]; exact hgp
    · rw [h]
      intro e
      have : k = p := by simpa using e
      have := lt_of_heap hp
      omega
  have hrow : (w1.setCell ⟨p, 0, none⟩ v').heap[p]? = some (.cells #[v'] 99 (0, 0)) := by
    have := heap_setCell_same w1 p 0 #[u] 99 v' hp1
    simpa using this
  have hwr : Wr (w1.setCell ⟨p, 0, none⟩ v') p (bs ++ add) v'.ownBlock := by
    refine ⟨v', hrow, ⟨by simp [bc], ?_⟩, rfl, hne⟩
    rw [bc_append, List.length_append]
    rcases hown.2 with ⟨h1, h2⟩ | ⟨g2, cap, cur, h1, h2, h3, h4⟩
    · exact Or.inl ⟨h1, h2⟩
    · refine Or.inr ⟨g2, cap, cur, h1, h2, ?_, h4⟩
      rw [heap_setCell_other w1 _ g2 v' (fun e => hne (by rw [h1]; simp [Value.ownBlock]; exact e))]
      exact h3
  have hfr : Fr (fun k => pblk (.pointer (some ⟨p, 0, none⟩)) = some k ∨ g = some k) w (w1.setCell ⟨p, 0, none⟩ v') := by
    refine ((Fr.grown hgr).mono (fun k _ h => Or.inr (by rw [← hg]; exact h.symm))).trans (Fr.setCell w1 ⟨p, 0, none⟩ v') (fun k _ h => Or.inl ?_)
    rw [h]; rfl
  refine ⟨v'.ownBlock, Or.inr ⟨p, rfl, hwr, by rw [List.length_append]; omega⟩, hfr, ?_⟩
  rcases hold with h | ⟨k, h, hk⟩
  · exact Or.inl h
  · exact Or.inr ⟨k, h, hk⟩

set_option maxHeartbeats 400000 in
theorem put_any (pv v : Value) (bs add : List UInt8) (g : Option Nat) (n : Nat) (w : World) (hw : WrO pv w bs g (add.length + n)) (hs : Sl w v (bc add)) :
    Calls Tryz.prog 117 #[pv, v] w fun e w' => e = .returned (.tuple #[]) ∧ WTo pv w g w' (bs ++ add) n := by
  rcases hw with ⟨rfl, rfl⟩ | ⟨p, rfl, ⟨u, hp, hown, hg, hgp⟩, hb⟩
  · go_enter Tryz.func117, Tryz.ntmps117
    go_wp2
    go_end0
    exact ⟨rfl, WTo.refl (Or.inl ⟨rfl, rfl⟩)⟩
  · obtain ⟨i0, hi, hz0, hz1, hz2⟩ := info_parts Tryz.info_u8
    have hcell : w.cell? ⟨p, 0, none⟩ = some u := by rw [cell_of_row w p 0 #[u] 99 (0, 0) hp]; rfl
    have hfroz : w.frozen? ⟨p, 0, none⟩ = false := by simp [World.frozen?, hp]
    obtain ⟨uo, ul, uc, rfl⟩ : ∃ uo ul uc, u = .slice uo ul uc := by
      rcases hown.2 with ⟨rfl, _⟩ | ⟨_, _, _, rfl, _⟩ <;> exact ⟨_, _, _, rfl⟩
    subst hg
    rcases hs.src with ⟨rfl, hx⟩ | ⟨ad, cap, rfl, hl, hm, hnews⟩
    · obtain rfl : add = [] := by simpa [bc] using hx
      go_enter Tryz.func117, Tryz.ntmps117
      go_wp2_with (at_builtin; refine wpList_append_own_none rfl _ _ 22 rfl 0 5 i0 1 Tryz.underlying22 hi _ bs.length (bc bs) rfl hown rfl ?_)
      go_end0
      refine ⟨rfl, put_end hp rfl hgp hb ?_ ⟨rfl, rfl, rfl, Nat.le_refl _, fun _ _ _ => rfl⟩ (Or.inl rfl)⟩
      simpa [bc] using hown
    · have hout : ∀ v' w1, w1.ownsRow 0 5 1 v' (bs.length + add.length) (bc bs ++ bc add) → w.grownBy w1 (Value.slice uo ul uc).ownBlock → w1.cell? ⟨p, 0, none⟩ = some (.slice uo ul uc) ∧ w1.frozen? ⟨p, 0, none⟩ = false ∧ ∃ a b c, v' = .slice a b c := by
        intro v' w1 h2 hgr
        have hp1 : w1.heap[p]? = some (.cells #[.slice uo ul uc] 99 (0, 0)) := (hgr.block p (lt_of_heap hp) (fun e => hgp e.symm)).trans hp
        refine ⟨by rw [cell_of_row w1 p 0 _ 99 (0, 0) hp1]; rfl, by simp [World.frozen?, hp1], ?_⟩
        rcases h2.2 with ⟨rfl, _⟩ | ⟨_, _, _, rfl, _⟩ <;> exact ⟨_, _, _, rfl⟩
      rw [bc_length] at hl ⊢
      go_enter Tryz.func117, Tryz.ntmps117
      go_wp2_with (at_builtin; refine wpList_append_own_at _ rfl _ _ 22 rfl 0 5 i0 (.int .u8 0) 1 1 Tryz.underlying22 hi hz0 hz1 hz2 rfl (by decide) _ bs.length (bc bs) rfl hown ad add.length _ (bc add) rfl ?q1 hnews (bc_one add) ?q2 ?q3 (Nat.zero_le _) ?_)
      case q1 => simp
      case q2 => unfold maxLen; omega
      case q3 => omega
      intro v' w1 h2 hgr hne hwh
      obtain ⟨hc1, hf1, a', b', c', rfl⟩ := hout v' w1 h2 hgr
      go_wp2
      go_end0
      refine ⟨rfl, put_end hp rfl hgp hb h2 hgr ?_⟩
      rcases hwh with h | h
      · exact Or.inl h
      · exact Or.inr ⟨_, h, Nat.le_refl _⟩
end Go.Proofs.YtakkiipkmogagaaGreat.Wi

namespace Go.Proofs.YtakkiipkmogagaaGreat.Wi
open Go.RowKit
set_option linter.unusedSimpArgs false
set_option linter.unusedVariables false
set_option maxRecDepth 20000

/-- The lowest k bytes of a number, the highest first. -/
def beS (n : Nat) : Nat → List UInt8
  | 0 => []
  | k + 1 => UInt8.ofNat (n / 2 ^ (8 * k)) :: beS n k
@[simp] theorem beS_length (n k : Nat) : (beS n k).length = k := by induction k with
  | zero => rfl
  | succ k ih => simp [beS, ih]

theorem Sl.one (w : World) (x : Value) (t : TypeId) : Sl (w.alloc (.cells #[x] t)) (.slice (some ⟨w.heap.size, 0, none⟩) 1 1) [x] := by
  refine ⟨some ⟨w.heap.size, 0, none⟩, 1, rfl, by simp, by simp [maxLen], (fun h => by cases h), Or.inr ⟨w.heap.size, 0, rfl, fun i y hy => ?_⟩⟩
  obtain ⟨hi, hh⟩ := List.getElem?_eq_some_iff.1 hy
  obtain rfl : i = 0 := by simp at hi; omega
  have hx : x = y := by simpa using hh
  subst hx
  rw [Nat.zero_add, cell_of_row _ w.heap.size 0 #[x] t (0, 0) (alloc_new _ _)]
  rfl

set_option maxHeartbeats 400000 in
theorem putNumber_any (pv : Value) (N size : Nat) (bs : List UInt8) (g : Option Nat) (n : Nat) (w : World) (hN : N < 18446744073709551616) (hs : size ≤ 8) (hw : WrO pv w bs g (size + n)) :
    Calls Tryz.prog 85 #[pv, .int .u64 (N : Int), .int .i64 (size : Int)] w fun e w' => e = .returned (.tuple #[]) ∧ WTo pv w g w' (bs ++ beS N size) n := by
  have hwH : Hidden (WrO pv w bs g (size + n)) := hw
  clear hw
  go_enter Tryz.func85, Tryz.ntmps85
  go_wp2
  go_loopg [6] size (fun k b wr => b = .int .i64 ((k : Int) - 1) ∧ k ≤ size ∧ ∃ pre, WTo pv w g wr (bs ++ pre) (k + n) ∧ pre ++ beS N k = beS N size)
  case atStart => 
    exact ⟨rfl, Nat.le_refl _, [], by rw [List.append_nil]; exact WTo.refl hwH, rfl⟩
  case round =>
    obtain ⟨rfl, hk, pre, hto, hpre⟩ := hrel
    have hH : Hidden (WTo pv w g wr (bs ++ pre) (gk + n) ∧ pre ++ beS N gk = beS N size) := ⟨hto, hpre⟩
    clear hto hpre
    cases gk with
    | zero =>
      go_wp2
      go_end0
      obtain ⟨hto, hpre⟩ := hH
      simp only [beS, List.append_nil] at hpre
      subst hpre
      exact ⟨rfl, by simpa using hto⟩
    | succ k =>
      obtain ⟨⟨g1, ho, hf, hg⟩, hpre⟩ := id hH
      have kp := put_any pv (.slice (some ⟨wr.heap.size, 0, none⟩) 1 1) (bs ++ pre) [UInt8.ofNat (N / 2 ^ (8 * k))] g1 (k + n) (wr.alloc (.cells #[.int .u8 ((N : Int) / 2 ^ (8 * k) % 256)] 5))
        ((by simpa [Nat.add_comm, Nat.add_left_comm, Nat.add_assoc] using ho : WrO pv wr (bs ++ pre) g1 ([UInt8.ofNat (N / 2 ^ (8 * k))].length + (k + n))).alloc _) (by
          have e : bc [UInt8.ofNat (N / 2 ^ (8 * k))] = [.int .u8 ((N : Int) / 2 ^ (8 * k) % 256)] := by
            simp [bc]
          rw [e]; exact Sl.one _ _ _)
      clear ho hpre
      have hfH : Hidden (Fr (fun k => pblk pv = some k ∨ g = some k) w wr ∧ (g1 = g ∨ ∃ k, g1 = some k ∧ w.heap.size ≤ k)) := ⟨hf, hg⟩
      clear hf hg
      go_wp2_with (go_at_call 117; refine kp.mono ?_; rintro e w' ⟨rfl, hto⟩)
      go_roundg k
      case measure => omega
      case rel =>
        obtain ⟨hf, hg⟩ := hfH
        obtain ⟨_, hpre⟩ := hH
        refine ⟨by go_num, by omega, pre ++ [UInt8.ofNat (N / 2 ^ (8 * k))], ?_, by rw [← hpre, beS]; simp⟩
        rw [← List.append_assoc]
        exact WTo.trans hf hg hto.of_alloc
end Go.Proofs.YtakkiipkmogagaaGreat.Wi

namespace Go.Proofs.YtakkiipkmogagaaGreat.Wi
open Go.RowKit
set_option linter.unusedSimpArgs false
set_option linter.unusedVariables false
set_option maxRecDepth 20000

theorem byte_any (pv : Value) (c : UInt8) (bs : List UInt8) (g : Option Nat) (n : Nat) (w : World) (hw : WrO pv w bs g (1 + n)) :
    Calls Tryz.prog 86 #[pv, .int .u8 (c.toNat : Int)] w fun e w' => e = .returned (.tuple #[]) ∧ WTo pv w g w' (bs ++ [c]) n := by
  have kp := put_any pv (.slice (some ⟨w.heap.size, 0, none⟩) 1 1) bs [c] g n _ (hw.alloc (.cells #[.int .u8 (c.toNat : Int)] 5)) (Sl.one w _ 5)
  clear hw
  go_enter Tryz.func86, Tryz.ntmps86
  go_wp2_with (go_at_call 117; refine kp.mono ?_; rintro e w' ⟨rfl, hto⟩)
  go_end0
  exact ⟨rfl, hto.of_alloc⟩

/-- The bits of an int, as a number without a sign. -/
def u64 (n : Int) : Nat := (n % 18446744073709551616).toNat
theorem u64_lt (n : Int) : u64 n < 18446744073709551616 := by unfold u64; omega

theorem long_any (pv : Value) (N : Nat) (bs : List UInt8) (g : Option Nat) (n : Nat) (w : World) (hN : N < 18446744073709551616) (hw : WrO pv w bs g (8 + n)) :
    Calls Tryz.prog 87 #[pv, .int .u64 (N : Int)] w fun e w' => e = .returned (.tuple #[]) ∧ WTo pv w g w' (bs ++ beS N 8) n := by
  have kp := putNumber_any pv N 8 bs g n w hN (by omega) hw
  clear hw
  go_enter Tryz.func87, Tryz.ntmps87
  go_wp2_with (go_at_call 85; refine kp.mono ?_; rintro e w' ⟨rfl, hto⟩)
  go_end0
  exact ⟨rfl, hto⟩

theorem and31 (x : Int) : bits .and .u64 (IntKind.u64.wrap x) 2147483647 = ((u64 x % 2147483648 : Nat) : Int) := by
  have hw : IntKind.u64.wrap x = (u64 x : Int) := by
    rw [IntKind.wrap_u64]; unfold u64; omega
  rw [hw]
  have := bits_and_u64_nat (u64 x) 2147483647 (u64_lt x) (by omega)
  rw [show ((2147483647 : Nat) : Int) = 2147483647 from rfl] at this
  rw [this]
  congr 1
  exact Nat.and_two_pow_sub_one_eq_mod (u64 x) 31

/-- The four bytes of an int. -/
def i31 (x : Int) : List UInt8 := beS (u64 x % 2147483648) 4
@[simp] theorem i31_length (x : Int) : (i31 x).length = 4 := beS_length _ _

theorem int_any (pv : Value) (x : Int) (bs : List UInt8) (g : Option Nat) (n : Nat) (w : World) (hw : WrO pv w bs g (4 + n)) :
    Calls Tryz.prog 53 #[pv, .int .i64 x] w fun e w' => e = .returned (.tuple #[]) ∧ WTo pv w g w' (bs ++ i31 x) n := by
  have e31 := and31 x
  have hm : u64 x % 2147483648 < 2147483648 := Nat.mod_lt _ (by omega)
  have kp := putNumber_any pv (u64 x % 2147483648) 4 bs g n w (by omega) (by omega) hw
  clear hw hm
  go_enter Tryz.func53, Tryz.ntmps53
  go_wp2_with (go_at_call 85; refine kp.mono ?_; rintro e w' ⟨rfl, hto⟩)
  go_end0
  exact ⟨rfl, hto⟩

/-- Raw bytes, as they are written. -/
def rawS (l : List UInt8) : List UInt8 := i31 (l.length : Int) ++ l
@[simp] theorem rawS_length (l : List UInt8) : (rawS l).length = 4 + l.length := by simp [rawS]

/-- A slice that shares no memory with a writer. -/
def Apart (xs : List Value) (v pv : Value) (g : Option Nat) : Prop := xs = [] ∨ ∀ k, v.ownBlock = some k → ¬ (pblk pv = some k ∨ g = some k)
theorem Sl.keepA {S : Nat → Prop} {w w' : World} {v : Value} {xs : List Value} (h : Sl w v xs) (hf : Fr S w w') (hn : xs = [] ∨ ∀ k, v.ownBlock = some k → ¬ S k) : Sl w' v xs := by
  rcases hn with rfl | hn
  · obtain ⟨ao, cap, rfl, h1, h2, h3, h4⟩ := h
    exact ⟨ao, cap, rfl, h1, h2, h3, Or.inl rfl⟩
  · exact h.keep hf hn

theorem raw_any (pv v : Value) (l : List UInt8) (bs : List UInt8) (g : Option Nat) (n : Nat) (w : World) (hw : WrO pv w bs g (4 + (l.length + n))) (hs : Sl w v (bc l)) (ha : Apart (bc l) v pv g) :
    Calls Tryz.prog 84 #[pv, v] w fun e w' => e = .returned (.tuple #[]) ∧ WTo pv w g w' (bs ++ rawS l) n := by
  have ki := int_any pv (l.length : Int) bs g (l.length + n) w hw
  have kp : ∀ w1, WTo pv w g w1 (bs ++ i31 (l.length : Int)) (l.length + n) → Calls Tryz.prog 117 #[pv, v] w1 fun e w' => e = .returned (.tuple #[]) ∧ WTo pv w g w' (bs ++ rawS l) n := by
    rintro w1 ⟨g1, ho, hf, hg⟩
    refine (put_any pv v _ l g1 n w1 ho (hs.keepA hf ha)).mono ?_
    rintro e w' ⟨rfl, hto⟩
    refine ⟨rfl, ?_⟩
    rw [rawS, ← List.append_assoc]
    exact WTo.trans hf hg hto
  obtain ⟨ao, cap, rfl, h1, h2, h3, h4⟩ := hs
  rw [bc_length] at *
  clear h4 h3 ha hw
  go_enter Tryz.func84, Tryz.ntmps84
  go_wp2_with (first
    | (go_at_call 53; refine ki.mono ?_; rintro e w1 ⟨rfl, hto⟩)
    | (go_at_call 117; refine (kp _ hto).mono ?_; rintro e w2 ⟨rfl, hto2⟩))
  go_end0
  exact ⟨rfl, hto2⟩

/-- The bytes of a string in new memory. -/
def bcap (w : World) (l : List UInt8) : Nat := grownCap w l.length 0 5
def bconv (w : World) (l : List UInt8) : World :=
  w.drew.alloc (.cells (bytesRow ⟨l.toArray⟩ (bcap w l)) 5 ((bytesRow ⟨l.toArray⟩ (bcap w l)).size, (bytesRow ⟨l.toArray⟩ (bcap w l)).size + 1))
theorem run_conv (w : World) (l : List UInt8) : (convert 9 22 (.string ⟨l.toArray⟩)).run Tryz.prog w = .ok (.slice (some ⟨w.heap.size, 0, none⟩) l.length (bcap w l)) (bconv w l) := by
  rw [run_bytes_of_string w 9 22 5 ⟨l.toArray⟩ Tryz.underlying9 Tryz.underlying22 Tryz.underlying5]
  simp only [bconv, bcap, ByteArray.size, List.size_toArray]
theorem bconv_fr (S : Nat → Prop) (w : World) (l : List UInt8) : Fr S w (bconv w l) := (Fr.drew S w).same (Fr.alloc S w.drew _)
theorem bconv_sl (w : World) (l : List UInt8) (hl : l.length ≤ 9223372036854775807) : Sl (bconv w l) (.slice (some ⟨w.heap.size, 0, none⟩) l.length (bcap w l)) (bc l) := by
  refine ⟨some ⟨w.heap.size, 0, none⟩, bcap w l, by rw [bc_length], by rw [bc_length]; exact grownCap_ge _ _ _ _, grownCap_le_maxLen _ _ _ _ (by unfold maxLen; omega), (fun h => by cases h), Or.inr ⟨w.heap.size, 0, rfl, fun i x hx => ?_⟩⟩
  rw [Nat.zero_add]
  have := World.cell?_alloc_mark w.drew (bytesRow ⟨l.toArray⟩ (bcap w l)) 5 ((bytesRow ⟨l.toArray⟩ (bcap w l)).size, (bytesRow ⟨l.toArray⟩ (bcap w l)).size + 1) i
  rw [World.size_drew] at this
  show (World.alloc _ _).cell? _ = _
  rw [this]
  obtain ⟨hi, hh⟩ := List.getElem?_eq_some_iff.1 hx
  have hi' : i < l.length := by simpa using hi
  rw [bytesRow_at ⟨l.toArray⟩ (bcap w l) i (by simpa using hi')]
  simp [bc] at hh
  rw [← hh]
  simp

theorem text_any (pv : Value) (l : List UInt8) (bs : List UInt8) (g : Option Nat) (n : Nat) (w : World) (hl : l.length ≤ 9223372036854775807) (hw : WrO pv w bs g (4 + (l.length + n))) (hb : ∀ k, pblk pv = some k ∨ g = some k → k < w.heap.size) :
    Calls Tryz.prog 52 #[pv, .string ⟨l.toArray⟩] w fun e w' => e = .returned (.tuple #[]) ∧ WTo pv w g w' (bs ++ rawS l) n := by
  have hcv := run_conv w l
  have kr := raw_any pv (.slice (some ⟨w.heap.size, 0, none⟩) l.length (bcap w l)) l bs g n (bconv w l) (hw.keep (bconv_fr (fun _ => False) w l) (fun _ _ f => f) (fun _ _ f => f)) (bconv_sl w l hl) (Or.inr fun k hk hs => by
    have : w.heap.size = k := by simpa [Value.ownBlock] using hk
    have := hb k hs
    omega)
  have hfin : ∀ w', WTo pv (bconv w l) g w' (bs ++ rawS l) n → WTo pv w g w' (bs ++ rawS l) n := fun w' h => WTo.trans (bconv_fr _ w l) (Or.inl rfl) h
  clear hw hb
  go_enter Tryz.func52, Tryz.ntmps52
  go_wp2_with (go_at_call 84; refine kr.mono ?_; rintro e w' ⟨rfl, hto⟩)
  go_end0
  exact ⟨rfl, hfin _ hto⟩
end Go.Proofs.YtakkiipkmogagaaGreat.Wi

namespace Go.Proofs.YtakkiipkmogagaaGreat.Wi
open Go.RowKit
set_option linter.unusedSimpArgs false
set_option linter.unusedVariables false
set_option maxRecDepth 20000

theorem WrO.lt {pv : Value} {w : World} {bs : List UInt8} {g : Option Nat} {n : Nat} (h : WrO pv w bs g n) : ∀ k, pblk pv = some k ∨ g = some k → k < w.heap.size := by
  intro k hk
  rcases h with ⟨rfl, rfl⟩ | ⟨p, rfl, ⟨v, h1, h2, h3, h4⟩, hb⟩
  · rcases hk with hk | hk <;> cases hk
  · rcases hk with hk | hk
    · have : p = k := by simpa [pblk] using hk
      subst this
      exact lt_of_heap h1
    · exact (h2.lt k (h3.trans hk)).2
theorem WrO.less {pv : Value} {w : World} {bs : List UInt8} {g : Option Nat} {n m : Nat} (h : WrO pv w bs g n) (hm : m ≤ n) : WrO pv w bs g m := by
  rcases h with h | ⟨p, rfl, hw, hb⟩
  · exact Or.inl h
  · exact Or.inr ⟨p, rfl, hw, by omega⟩

/-- Lists, as they are written. -/
def intsS (l : List Int) : List UInt8 := i31 (l.length : Int) ++ (l.map i31).flatten
theorem take_next {α : Type} {l : List α} {j : Nat} {x : α} (h : l[j]? = some x) : l.take (j + 1) = l.take j ++ [x] := by
  rw [List.take_add_one, h]; rfl
theorem drop_now {α : Type} {l : List α} {j : Nat} {x : α} (h : l[j]? = some x) : l.drop j = x :: l.drop (j + 1) := by
  obtain ⟨hj, hx⟩ := List.getElem?_eq_some_iff.1 h
  rw [← hx]
  exact List.drop_eq_getElem_cons hj

/-- Behind one more of a list. -/
theorem list_step {α : Type} {f : α → List UInt8} {l : List α} {j : Nat} {x : α} {pv : Value} {w wr w' : World} {g g1 : Option Nat} {bs : List UInt8} {n : Nat} (hx : l[j]? = some x)
    (hf : Fr (fun k => pblk pv = some k ∨ g = some k) w wr) (hg : g1 = g ∨ ∃ k, g1 = some k ∧ w.heap.size ≤ k)
    (h : WTo pv wr g1 w' (bs ++ ((l.take j).map f).flatten ++ f x) (((l.drop (j + 1)).map f).flatten.length + n)) :
    WTo pv w g w' (bs ++ ((l.take (j + 1)).map f).flatten) (((l.drop (j + 1)).map f).flatten.length + n) := by
  rw [take_next hx, List.map_append, List.flatten_append, ← List.append_assoc]
  simpa using WTo.trans hf hg h

set_option maxHeartbeats 400000 in
theorem ints_any (pv v : Value) (l : List Int) (len : Nat) (hlen : Hidden (l.length = len)) (bs : List UInt8) (g : Option Nat) (n : Nat) (w : World) (hll : len ≤ 9223372036854775807) (hw : WrO pv w bs g (4 + ((l.map i31).flatten.length + n))) (hs : Sl w v (l.map fun x => .int .i64 x)) (ha : Apart (l.map fun x => .int .i64 x) v pv g) :
    Calls Tryz.prog 88 #[pv, v] w fun e w' => e = .returned (.tuple #[]) ∧ WTo pv w g w' (bs ++ intsS l) n := by
  have ki := int_any pv (len : Int) bs g _ w hw
  have hsH : Hidden (Sl w v (l.map fun x => .int .i64 x) ∧ Apart (l.map fun x => .int .i64 x) v pv g) := ⟨hs, ha⟩
  obtain ⟨ao, cap, rfl, h1, h2, h3, h4⟩ := hs
  have hml : (l.map fun x => Value.int .i64 x).length = len := by rw [List.length_map]; exact hlen
  rw [hml] at *
  clear hml h1 h2 h3 h4 ha hw
  go_enter Tryz.func88, Tryz.ntmps88
  go_wp2_with (go_at_call 53; refine ki.mono ?_; rintro e w1 ⟨rfl, hto⟩)
  go_loopg [12] len (fun k iv wr => ∃ j : Nat, iv = .int .i64 (j : Int) ∧ j ≤ len ∧ k = len - j ∧ WTo pv w g wr (bs ++ i31 (len : Int) ++ ((l.take j).map i31).flatten) (((l.drop j).map i31).flatten.length + n))
  case atStart => exact ⟨0, rfl, by omega, rfl, by simpa using hto⟩
  case round =>
    obtain ⟨j, rfl, hj, hk, hto2⟩ := hrel
    have hkH : Hidden (gk = len - j) := hk
    clear hk
    have hlen' : l.length = len := hlen
    by_cases hjl : j < len
    · obtain ⟨x, hx⟩ : ∃ x, l[j]? = some x := ⟨l[j], List.getElem?_eq_getElem (by omega)⟩
      obtain ⟨hs, ha⟩ := hsH
      obtain ⟨g1, ho, hf, hg⟩ := hto2
      obtain ⟨ao', cap', e1, h1, h2, h3, h4⟩ := hs.keepA hf ha
      cases e1
      rcases h4 with h4 | ⟨b, off, rfl, hc⟩
      · have : l = [] := by simpa using h4
        subst this
        simp at hx
      · have hcj : wr.cell? ⟨b, off + j, none⟩ = some (.int .i64 x) := hc j _ (by rw [List.getElem?_map, hx]; rfl)
        have kx := int_any pv x (bs ++ i31 (len : Int) ++ ((l.take j).map i31).flatten) g1 (((l.drop (j + 1)).map i31).flatten.length + n) wr (by
          rw [drop_now hx] at ho
          simpa [Nat.add_assoc] using ho)
        have hfin : Hidden (∀ w', WTo pv wr g1 w' (bs ++ i31 (len : Int) ++ ((l.take j).map i31).flatten ++ i31 x) (((l.drop (j + 1)).map i31).flatten.length + n) → WTo pv w g w' (bs ++ i31 (len : Int) ++ ((l.take (j + 1)).map i31).flatten) (((l.drop (j + 1)).map i31).flatten.length + n)) := fun w' h => list_step hx hf hg h
        clear hx hs ha ho hf hg h1 h2 h3 hc hlen' ki hto hlen
        go_wp2_with (go_at_call 53; refine kx.mono ?_; rintro e w2 ⟨rfl, hto3⟩)
        go_roundg (len - (j + 1))
        case measure =>
          have : gk = len - j := hkH
          omega
        case rel => exact ⟨j + 1, by go_num, by omega, rfl, hfin _ hto3⟩
    · obtain rfl : j = len := by omega
      have hfin : Hidden (WTo pv w g wr (bs ++ intsS l) n) := by
        rw [← hlen', List.take_length, List.drop_length] at hto2
        show WTo pv w g wr (bs ++ intsS l) n
        simpa [intsS] using hto2
      clear hto2 hto ki hlen' hsH
      go_wp2
      go_end0
      exact ⟨rfl, hfin⟩
theorem Wr.value {w : World} {p : Nat} {bs : List UInt8} {g : Option Nat} (h : Wr w p bs g) : ∃ ao cap, w.cell? ⟨p, 0, none⟩ = some (.slice ao bs.length cap) ∧ Sl w (.slice ao bs.length cap) (bc bs) ∧ (Value.slice ao bs.length cap).ownBlock = g ∧ cap ≤ maxLen ∧ bs.length ≤ cap := by
  obtain ⟨v, h1, h2, h3, h4⟩ := h
  obtain ⟨ao, cap, e, a1, a2, a3, a4⟩ := (Sl.of_own h2).1
  rw [bc_length] at e
  subst e
  refine ⟨ao, cap, by rw [cell_of_row w p 0 _ 99 (0, 0) h1]; rfl, ⟨ao, cap, by rw [bc_length], a1, a2, a3, a4⟩, h3, a2, by simpa using a1⟩

/-- A new slice of the call's own, with those bytes. -/
def Copied (w w' : World) (v : Value) (xs : List Value) : Prop := w'.ownsRow w.heap.size 5 1 v xs.length xs ∧ Fr (fun _ => False) w w'

theorem clone_nil (w : World) :
    Calls Tryz.prog 26 #[.slice none 0 0] w fun e w' => e = .returned (.slice none 0 0) ∧ w = w' := by
  have he : ∀ w : World, (binOp .eql 22 (.slice none 0 0) (.slice none 0 0)).run Tryz.prog w = .ok (.bool true) w := fun _ => rfl
  go_enter Tryz.func26, Tryz.ntmps26
  go_wp2
  go_ret
  exact ⟨rfl, rfl⟩

theorem clone_any (v : Value) (l : List UInt8) (w : World) (hb : l.length ≤ 140737488355328) (hs : Sl w v (bc l)) :
    Calls Tryz.prog 26 #[v] w fun e w' => ∃ v', e = .returned v' ∧ Copied w w' v' (bc l) := by
  rcases hs.src with ⟨rfl, hx⟩ | ⟨ad, cap, rfl, hl, hm, hnews⟩
  · rw [hx]
    refine (clone_nil w).mono ?_
    rintro e w' ⟨rfl, rfl⟩
    exact ⟨_, rfl, World.ownsRow_nil _ _ _ _, Fr.refl _ _⟩
  · obtain ⟨i0, hi, hz0, hz1, hz2⟩ := info_parts Tryz.info_u8
    rw [bc_length] at hl ⊢
    have hnews2 : ∀ j u, (bc l)[j]? = some u → (w.alloc (.cells #[] 5)).cell? (ad.add j) = some u := by
      intro j u hu
      exact (Fr.alloc (fun _ => False) w _).cell (hnews j u hu) (fun f => f)
    have hcm : cap ≤ 9223372036854775807 := hm
    clear hs hnews hm
    have he : ∀ w : World, (binOp .eql 22 (.slice (some ad) l.length cap) (.slice none 0 0)).run Tryz.prog w = .ok (.bool false) w := fun _ => rfl
    go_enter Tryz.func26, Tryz.ntmps26
    go_wp2_with (at_builtin; refine wpList_append_own _ rfl _ _ 22 rfl w.heap.size 5 i0 (.int .u8 0) 1 1 Tryz.underlying22 hi hz0 hz1 hz2 rfl (by decide) _ 0 [] rfl ?q0 ad l.length _ (bc l) rfl ?q1 hnews2 (bc_one l) ?q2 ?q3 ?q4 ?_)
    case q0 => exact World.ownsRow_made w #[] 0 (Nat.le_refl _) (by simp [maxLen]) (by simp)
    case q1 => simp
    case q2 => unfold maxLen; omega
    case q3 => omega
    case q4 => simp
    intro v' w1 hown hg hne
    have hfin : Hidden (Copied w w1 v' (bc l)) := by
      refine ⟨by simpa using hown, (Fr.alloc _ w _).trans (Fr.grown hg) (fun k hk h => ?_)⟩
      have : k = w.heap.size := by simpa [Value.ownBlock] using h
      omega
    clear hown hg hne hnews2
    go_wp2
    go_ret
    exact ⟨_, rfl, hfin⟩

theorem bytes_some (p : Nat) (bs : List UInt8) (g : Option Nat) (w : World) (hw : Wr w p bs g) (hb : bs.length ≤ 140737488355328) :
    Calls Tryz.prog 55 #[.pointer (some ⟨p, 0, none⟩)] w fun e w' => ∃ v', e = .returned v' ∧ Copied w w' v' (bc bs) := by
  obtain ⟨ao, cap, hc, hs, _, h1, h2⟩ := hw.value
  have kc := clone_any _ bs w hb hs
  clear hw hs
  go_enter Tryz.func55, Tryz.ntmps55
  go_wp2_with (go_at_call 26; refine kc.mono ?_; rintro e w' ⟨v', rfl, hcp⟩)
  go_ret
  exact ⟨_, rfl, hcp⟩
end Go.Proofs.YtakkiipkmogagaaGreat.Wi

namespace Go.Proofs.YtakkiipkmogagaaGreat.Wi
open Go.RowKit
set_option linter.unusedSimpArgs false
set_option linter.unusedVariables false
set_option maxRecDepth 20000

/-- A Reader at block q: what is left, and its error. -/
def Rd (w : World) (q : Nat) (rest : List UInt8) (e : Int) : Prop :=
  ∃ v, w.heap[q]? = some (.cells #[v, .int .i64 e] 70 (0, 0)) ∧ Sl w v (bc rest) ∧ ∀ k, v.ownBlock = some k → k < q
theorem Rd.keep {S : Nat → Prop} {w w' : World} {q : Nat} {rest : List UInt8} {e : Int} (h : Rd w q rest e) (hf : Fr S w w') (hq : ¬ S q) (hv : ∀ v k, w.heap[q]? = some (.cells #[v, .int .i64 e] 70 (0, 0)) → v.ownBlock = some k → ¬ S k) : Rd w' q rest e := by
  obtain ⟨v, h1, h2, h3⟩ := h
  exact ⟨v, hf.heap h1 hq, h2.keep hf (fun k hk => hv v k h1 hk), h3⟩

abbrev rp (q : Nat) : Value := .pointer (some ⟨q, 0, none⟩)

theorem Sl.drop {w : World} {ao : Option Addr} {len cap : Nat} {xs : List Value} (h : Sl w (.slice ao len cap) xs) (n : Nat) (hn : n ≤ len) : Sl w (.slice (if cap = n then ao else ao.map fun a => a.add n) (len - n) (cap - n)) (xs.drop n) := by
  obtain ⟨ao', cap', e, h1, h2, h3, h4⟩ := h
  cases e
  refine ⟨_, _, by rw [List.length_drop], by rw [List.length_drop]; omega, by omega, ?_, ?_⟩
  · intro h
    split at h
    · omega
    · have := h3 (by simpa using h)
      omega
  · by_cases hx : xs.drop n = []
    · exact Or.inl hx
    · right
      rcases h4 with rfl | ⟨b, off, rfl, hc⟩
      · simp at hx
      · have hlt : n < xs.length := by
          rcases Nat.lt_or_ge n xs.length with h | h
          · exact h
          · exact absurd (List.drop_eq_nil_of_le h) hx
        rw [if_neg (by omega)]
        refine ⟨b, off + n, by simp [Addr.add_lit], fun i x hi => ?_⟩
        rw [List.getElem?_drop] at hi
        rw [Nat.add_assoc]
        exact hc _ x hi
theorem Sl.take {w : World} {ao : Option Addr} {len cap : Nat} {xs : List Value} (h : Sl w (.slice ao len cap) xs) (n : Nat) (hn : n ≤ len) : Sl w (.slice ao n cap) (xs.take n) := by
  obtain ⟨ao', cap', e, h1, h2, h3, h4⟩ := h
  cases e
  refine ⟨ao, cap, by rw [List.length_take]; congr 1; omega, by rw [List.length_take]; omega, h2, h3, ?_⟩
  rcases h4 with rfl | ⟨b, off, rfl, hc⟩
  · exact Or.inl (by simp)
  · refine Or.inr ⟨b, off, rfl, fun i x hi => ?_⟩
    rw [List.getElem?_take] at hi
    split at hi
    · exact hc i x hi
    · cases hi

theorem ownBlock_slice (ao : Option Addr) (l c : Nat) : (Value.slice ao l c).ownBlock = ao.map (·.block) := by cases ao <;> rfl
theorem add_block (a : Addr) (n : Nat) : (a.add n).block = a.block := by
  unfold Addr.add
  split <;> rfl
theorem bc_take (l : List UInt8) (n : Nat) : bc (l.take n) = (bc l).take n := by simp [bc]
theorem bc_drop (l : List UInt8) (n : Nat) : bc (l.drop n) = (bc l).drop n := by simp [bc]

theorem rd_set {w : World} {q : Nat} {v : Value} {e : Int} {rest : List UInt8} {u : Value} (hq : w.heap[q]? = some (.cells #[u, .int .i64 e] 70 (0, 0))) (hs : Sl w v (bc rest)) (hne : ∀ k, v.ownBlock = some k → k < q) :
    Rd (w.setCell ⟨q, 0, none⟩ v) q rest e ∧ Fr (fun k => k = q) w (w.setCell ⟨q, 0, none⟩ v) := by
  have hf := Fr.setCell w ⟨q, 0, none⟩ v
  refine ⟨⟨v, ?_, hs.keep hf (fun k hk e => by have := hne k hk; have : k = q := e; omega), hne⟩, hf⟩
  have := heap_setCell_same w q 0 #[u, .int .i64 e] 70 v hq
  simpa using this

theorem take_end {w : World} {q : Nat} {ao : Option Addr} {cap n : Nat} {rest : List UInt8} {v2 : Value} (hs : Sl w (.slice ao rest.length cap) (bc rest)) (hq : w.heap[q]? = some (.cells #[.slice ao rest.length cap, .int .i64 0] 70 (0, 0)))
    (hne : ∀ k, (Value.slice ao rest.length cap).ownBlock = some k → k < q) (hn : n ≤ rest.length) (h2 : v2 = .slice (if cap = n then ao else ao.map fun x => x.add n) (rest.length - n) (cap - n)) :
    Sl (w.setCell ⟨q, 0, none⟩ v2) (.slice ao n cap) (bc (rest.take n)) ∧ Rd (w.setCell ⟨q, 0, none⟩ v2) q (rest.drop n) 0 ∧ Fr (fun k => k = q) w (w.setCell ⟨q, 0, none⟩ v2) := by
  have hd := hs.drop n hn
  rw [← bc_drop, ← h2] at hd
  have ht := hs.take n hn
  rw [← bc_take] at ht
  have hne2 : ∀ k, v2.ownBlock = some k → k < q := by
    intro k hk
    refine hne k ?_
    rw [h2] at hk
    rw [ownBlock_slice] at hk ⊢
    split at hk
    · exact hk
    · cases ao with
      | none => simp at hk
      | some a => simpa [add_block] using hk
  obtain ⟨hr, hf⟩ := rd_set hq hd hne2
  refine ⟨ht.keep hf (fun k hk e => by have := hne k (by rw [ownBlock_slice] at hk ⊢; exact hk); have : k = q := e; omega), hr, hf⟩

set_option maxHeartbeats 400000 in
theorem take_out (q : Nat) (rest : List UInt8) (n : Int) (w : World) (hr : Rd w q rest 0) (hn : (rest.length : Int) < n) :
    Calls Tryz.prog 57 #[rp q, .int .i64 n] w fun e w' => e = .panicked [{ v := .iface 106 (.agg #[.int .i64 40]), recovered := false }] ∧ w = w' := by
  obtain ⟨v, h1, ⟨ao, cap, rfl, a1, a2, a3, a4⟩, h3⟩ := hr
  rw [bc_length] at *
  have hcell : w.cell? ⟨q, 0, none⟩ = some (.slice ao rest.length cap) := by rw [cell_of_row w q 0 _ 70 (0, 0) h1]; rfl
  unfold maxLen at a2
  clear a3 a4 h1 h3
  go_enter Tryz.func57, Tryz.ntmps57
  go_wp2
  exact ⟨rfl, rfl, rfl⟩

set_option maxHeartbeats 400000 in
theorem take_in (q : Nat) (rest : List UInt8) (n : Nat) (w : World) (hr : Rd w q rest 0) (hn : n ≤ rest.length) :
    Calls Tryz.prog 57 #[rp q, .int .i64 (n : Int)] w fun e w' => ∃ v, e = .returned v ∧ Sl w' v (bc (rest.take n)) ∧ Rd w' q (rest.drop n) 0 ∧ Fr (fun k => k = q) w w' := by
  obtain ⟨v, h1, ⟨ao, cap, rfl, a1, a2, a3, a4⟩, h3⟩ := hr
  rw [bc_length] at *
  have hcell : w.cell? ⟨q, 0, none⟩ = some (.slice ao rest.length cap) := by rw [cell_of_row w q 0 _ 70 (0, 0) h1]; rfl
  have hfroz : w.frozen? ⟨q, 0, none⟩ = false := by simp [World.frozen?, h1]
  unfold maxLen at a2
  have hH : Hidden (Sl w (.slice ao rest.length cap) (bc rest) ∧ w.heap[q]? = some (.cells #[.slice ao rest.length cap, .int .i64 0] 70 (0, 0)) ∧ ∀ k, (Value.slice ao rest.length cap).ownBlock = some k → k < q) := ⟨⟨ao, cap, by rw [bc_length], by rw [bc_length]; exact a1, a2, a3, a4⟩, h1, h3⟩
  clear a3 a4 h1 h3
  go_enter Tryz.func57, Tryz.ntmps57
  go_wp2
  · go_ret
    refine ⟨_, rfl, ?_⟩
    obtain ⟨hs, hh, hne⟩ := hH
    subst h
    have := take_end hs hh hne hn rfl
    rw [if_pos rfl, Nat.sub_self] at this
    exact this
  · go_ret
    refine ⟨_, rfl, ?_⟩
    obtain ⟨hs, hh, hne⟩ := hH
    have := take_end hs hh hne hn rfl
    rw [if_neg h] at this
    exact this
end Go.Proofs.YtakkiipkmogagaaGreat.Wi

namespace Go.Proofs.YtakkiipkmogagaaGreat.Wi
open Go.RowKit
set_option linter.unusedSimpArgs false
set_option linter.unusedVariables false
set_option maxRecDepth 20000

/-- The number that bytes are, the highest first. -/
def numS (l : List UInt8) : Nat := l.foldl (fun n c => n * 256 + c.toNat) 0
theorem numS_snoc (l : List UInt8) (c : UInt8) : numS (l ++ [c]) = numS l * 256 + c.toNat := by simp [numS]
theorem fold_lt (l : List UInt8) : ∀ a : Nat, l.foldl (fun n c => n * 256 + c.toNat) a < (a + 1) * 256 ^ l.length := by
  induction l with
  | nil => intro a; simp
  | cons c r ih =>
    intro a
    have h := ih (a * 256 + c.toNat)
    have hc := c.toNat_lt
    simp only [List.foldl_cons, List.length_cons, Nat.pow_succ]
    have h2 : (a * 256 + c.toNat + 1) * 256 ^ r.length ≤ ((a + 1) * 256) * 256 ^ r.length := Nat.mul_le_mul_right _ (by omega)
    have h3 : ((a + 1) * 256) * 256 ^ r.length = (a + 1) * (256 ^ r.length * 256) := by rw [Nat.mul_assoc, Nat.mul_comm 256]
    omega
theorem numS_lt (l : List UInt8) : numS l < 256 ^ l.length := by
  have := fold_lt l 0
  simpa [numS] using this
theorem or_byte (A : Nat) (x : UInt8) (h : A < 72057594037927936) : bits .or .u64 ((A : Int) * 256) (IntKind.u64.wrap (x.toNat : Int)) = ((A * 256 + x.toNat : Nat) : Int) := by
  have hx := x.toNat_lt
  have hw : IntKind.u64.wrap (x.toNat : Int) = (x.toNat : Int) := by rw [IntKind.wrap_u64]; omega
  rw [hw]
  have := bits_or_u64_nat (A * 256) x.toNat (by omega) (by omega)
  rw [show ((A * 256 : Nat) : Int) = (A : Int) * 256 by omega] at this
  rw [this]
  congr 1
  have h8 : x.toNat < 2 ^ 8 := by omega
  have := Nat.two_pow_add_eq_or_of_lt h8 A
  rw [show 2 ^ 8 * A = A * 256 by omega] at this
  exact this.symm

def giveUp (code : Int) : Ending := .panicked [{ v := .iface 106 (.agg #[.int .i64 code]), recovered := false }]

theorem number_out (q : Nat) (rest : List UInt8) (n : Int) (w : World) (hr : Rd w q rest 0) (hn : (rest.length : Int) < n) :
    Calls Tryz.prog 90 #[rp q, .int .i64 n] w fun e w' => e = giveUp 40 ∧ w = w' := by
  have kt := take_out q rest n w hr hn
  clear hr hn
  go_enter Tryz.func90, Tryz.ntmps90
  go_wp2_with (go_at_call 57; refine kt.mono ?_; rintro e w' ⟨rfl, rfl⟩)
  exact ⟨rfl, rfl, rfl⟩

set_option maxHeartbeats 400000 in
theorem number_in (q : Nat) (rest : List UInt8) (n : Nat) (w : World) (hr : Rd w q rest 0) (hn : n ≤ rest.length) (h8 : n ≤ 8) :
    Calls Tryz.prog 90 #[rp q, .int .i64 (n : Int)] w fun e w' => e = .returned (.int .u64 (numS (rest.take n) : Int)) ∧ Rd w' q (rest.drop n) 0 ∧ Fr (fun k => k = q) w w' := by
  have kt := take_in q rest n w hr hn
  obtain ⟨l, hl⟩ : ∃ l, rest.take n = l := ⟨_, rfl⟩
  have hll : Hidden (l.length = n) := by
    show l.length = n
    rw [← hl, List.length_take]; omega
  rw [hl] at kt ⊢
  have kt2 : Calls Tryz.prog 57 #[rp q, .int .i64 (n : Int)] w fun e w' => ∃ ao cap, e = .returned (.slice ao n cap) ∧ Sl w' (.slice ao n cap) (bc l) ∧ Rd w' q (rest.drop n) 0 ∧ Fr (fun k => k = q) w w' := by
    refine kt.mono ?_
    rintro e w' ⟨v, rfl, h1, h2⟩
    obtain ⟨ao, cap, e1, _⟩ := id h1
    rw [bc_length, show l.length = n from hll] at e1
    subst e1
    exact ⟨_, _, rfl, h1, h2⟩
  clear kt hr hl
  go_enter Tryz.func90, Tryz.ntmps90
  go_wp2_with (go_at_call 57; refine kt2.mono ?_; rintro e w1 ⟨ao, cap, rfl, hs, hrd, hfr⟩)
  have hH : Hidden (Sl w1 (.slice ao n cap) (bc l) ∧ Rd w1 q (rest.drop n) 0 ∧ Fr (fun k => k = q) w w1) := ⟨hs, hrd, hfr⟩
  clear hs hrd hfr kt2
  go_loopg [5, 12] n (fun k nv iv wr => ∃ j : Nat, nv = .int .u64 (numS (l.take j) : Int) ∧ iv = .int .i64 (j : Int) ∧ j ≤ n ∧ k = n - j ∧ wr = w1)
  case atStart => exact ⟨0, by simp [numS], rfl, by omega, rfl, rfl⟩
  case round =>
    obtain ⟨j, rfl, rfl, hj, hk, rfl⟩ := hrel
    have hkH : Hidden (gk = n - j) := hk
    clear hk
    by_cases hjl : j < n
    · have hll' : l.length = n := hll
      obtain ⟨x, hx⟩ : ∃ x, l[j]? = some x := ⟨l[j], List.getElem?_eq_getElem (by omega)⟩
      obtain ⟨ao', cap', e1, a1, a2, a3, a4⟩ := hH.1
      have hA : Hidden (numS (l.take (j + 1)) = numS (l.take j) * 256 + x.toNat) := by
        rw [take_next hx, numS_snoc]; exact rfl
      have hlt : Hidden (numS (l.take j) < 256 ^ j) := by
        have := numS_lt (l.take j)
        rw [List.length_take] at this
        rw [Nat.min_eq_left (by omega)] at this
        exact this
      simp only [Value.slice.injEq] at e1
      obtain ⟨rfl, hbl, rfl⟩ := e1
      clear hbl
      rcases a4 with h4 | ⟨b, off, rfl, hc⟩
      · have : l = [] := by simpa [bc] using h4
        subst this
        simp at hx
      · have hcj : wr.cell? ⟨b, off + j, none⟩ = some (.int .u8 (x.toNat : Int)) := hc j _ (by simp [bc, hx])
        obtain ⟨A, hAe⟩ : ∃ A, numS (l.take j) = A := ⟨_, rfl⟩
        rw [hAe] at hA hlt ⊢
        have hA2 : A < 72057594037927936 := by
          have : A < 256 ^ j := hlt
          have : 256 ^ j ≤ 256 ^ 7 := Nat.pow_le_pow_right (by omega) (by omega)
          omega
        have e_or := or_byte A x hA2
        clear hx a1 a2 a3 hc hll' hAe
        go_wp2
        go_roundg (n - (j + 1))
        case measure =>
          have : gk = n - j := hkH
          omega
        case rel => exact ⟨j + 1, by rw [show numS (l.take (j + 1)) = A * 256 + x.toNat from hA]; simp, by go_num, by omega, rfl, rfl⟩
    · obtain rfl : j = n := by omega
      have hll' : l.length = j := hll
      have e : l.take j = l := by rw [← hll', List.take_length]
      rw [e]
      clear hll' e
      go_wp2
      go_ret
      exact ⟨rfl, hH.2⟩
end Go.Proofs.YtakkiipkmogagaaGreat.Wi

namespace Go.Proofs.YtakkiipkmogagaaGreat.Wi
open Go.RowKit
set_option linter.unusedSimpArgs false
set_option linter.unusedVariables false
set_option maxRecDepth 20000

theorem Rd.cells {w : World} {q : Nat} {rest : List UInt8} {e : Int} (h : Rd w q rest e) : ∃ ao cap, w.cell? ⟨q, 0, none⟩ = some (.slice ao rest.length cap) ∧ w.cell? ⟨q, 1, none⟩ = some (.int .i64 e) ∧ w.frozen? ⟨q, 0, none⟩ = false ∧ w.frozen? ⟨q, 1, none⟩ = false ∧ rest.length ≤ cap ∧ cap ≤ 9223372036854775807 := by
  obtain ⟨v, h1, ⟨ao, cap, rfl, a1, a2, a3, a4⟩, h3⟩ := h
  rw [bc_length] at *
  refine ⟨ao, cap, ?_, ?_, by simp [World.frozen?, h1], by simp [World.frozen?, h1], a1, by unfold maxLen at a2; omega⟩
  · rw [cell_of_row w q 0 _ 70 (0, 0) h1]; rfl
  · rw [cell_of_row w q 1 _ 70 (0, 0) h1]; rfl

theorem err_some (q : Nat) (rest : List UInt8) (c : Int) (w : World) (hr : Rd w q rest c) :
    Calls Tryz.prog 37 #[rp q] w fun e w' => e = .returned (.int .i64 c) ∧ w = w' := by
  obtain ⟨ao, cap, h0, h1, _⟩ := hr.cells
  clear hr
  go_enter Tryz.func37, Tryz.ntmps37
  go_wp2
  go_ret
  exact ⟨rfl, rfl⟩
theorem left_some (q : Nat) (rest : List UInt8) (c : Int) (w : World) (hr : Rd w q rest c) :
    Calls Tryz.prog 38 #[rp q] w fun e w' => e = .returned (.int .i64 (rest.length : Int)) ∧ w = w' := by
  obtain ⟨ao, cap, h0, h1, _, _, h2, h3⟩ := hr.cells
  clear hr
  go_enter Tryz.func38, Tryz.ntmps38
  go_wp2
  go_ret
  exact ⟨rfl, rfl⟩
theorem done_end (q : Nat) (w : World) (hr : Rd w q [] 0) :
    Calls Tryz.prog 14 #[rp q] w fun e w' => e = .returned (.int .i64 0) ∧ w = w' := by
  have k1 := err_some q [] 0 w hr
  have k2 := left_some q [] 0 w hr
  clear hr
  go_enter Tryz.func14, Tryz.ntmps14
  go_wp2_with (first
    | (go_at_call 37; refine k1.mono ?_; rintro e w' ⟨rfl, rfl⟩)
    | (go_at_call 38; refine k2.mono ?_; rintro e w' ⟨rfl, rfl⟩))
  go_ret
  exact ⟨rfl, rfl⟩
theorem done_err (pv : Value) (c : Int) (w : World) (hc : (c == 0) = false) (k1 : Calls Tryz.prog 37 #[pv] w fun e w' => e = .returned (.int .i64 c) ∧ w = w') :
    Calls Tryz.prog 14 #[pv] w fun e w' => e = .returned (.int .i64 c) ∧ w = w' := by
  go_enter Tryz.func14, Tryz.ntmps14
  go_wp2_with (go_at_call 37; refine k1.mono ?_; rintro e w' ⟨rfl, rfl⟩)
  go_ret
  exact ⟨rfl, rfl⟩

theorem rd_fail {w : World} {q : Nat} {rest : List UInt8} {c : Int} (hr : Rd w q rest 0) : Rd ((w.setCell ⟨q, 1, none⟩ (.int .i64 c)).setCell ⟨q, 0, none⟩ (.slice none 0 0)) q [] c ∧ Fr (fun k => k = q) w ((w.setCell ⟨q, 1, none⟩ (.int .i64 c)).setCell ⟨q, 0, none⟩ (.slice none 0 0)) := by
  obtain ⟨v, h1, h2, h3⟩ := hr
  have e1 : (w.setCell ⟨q, 1, none⟩ (.int .i64 c)).heap[q]? = some (.cells #[v, .int .i64 c] 70 (0, 0)) := by
    have := heap_setCell_same w q 1 #[v, .int .i64 0] 70 (.int .i64 c) h1
    simpa using this
  obtain ⟨a, b⟩ := rd_set (rest := []) e1 (Sl.nil _) (fun k hk => by cases hk)
  exact ⟨a, (Fr.setCell w ⟨q, 1, none⟩ _).same b⟩

theorem fail_first (q : Nat) (rest : List UInt8) (c : Int) (w : World) (hr : Rd w q rest 0) (hc : (c == 0) = false) :
    Calls Tryz.prog 11 #[rp q, .int .i64 c] w fun e w' => e = .returned (.tuple #[]) ∧ Rd w' q [] c ∧ Fr (fun k => k = q) w w' := by
  obtain ⟨ao, cap, h0, h1, f0, f1, h2, h3⟩ := hr.cells
  have hf : Hidden _ := rd_fail (c := c) hr
  clear hr
  go_enter Tryz.func11, Tryz.ntmps11
  go_wp2
  go_end0
  exact ⟨rfl, hf⟩

/-- A frame that has given up. -/
def giving (c : Int) (done : Bool) : FrameMode := .panicking [{ v := .iface 106 (.agg #[.int .i64 c]), recovered := done }]

theorem assert_gave (v : Value) (w : World) : (Instr.typeAssert (.iface 106 v) 20 106 true).run Tryz.prog w = .ok (.tuple #[v, .bool true]) w := by kernel_rfl
end Go.Proofs.YtakkiipkmogagaaGreat.Wi

namespace Go.Proofs.YtakkiipkmogagaaGreat.Wi
open Go.RowKit
set_option linter.unusedSimpArgs false
set_option linter.unusedVariables false
set_option maxRecDepth 20000

/-- A value was taken. -/
def Took (q : Nat) (w : World) (A : Value → World → Prop) (rest' : List UInt8) (e : Ending) (w' : World) : Prop := (∃ v, e = .returned v ∧ A v w') ∧ Rd w' q rest' 0 ∧ Fr (fun k => k = q) w w'
/-- It gave up. -/
def Gave (q : Nat) (w : World) (c : Int) (e : Ending) (w' : World) : Prop := e = giveUp c ∧ (∃ rest', Rd w' q rest' 0) ∧ Fr (fun k => k = q) w w'
def Is (x : Value) : Value → World → Prop := fun v _ => v = x

theorem number_gave (q : Nat) (rest : List UInt8) (n : Int) (w : World) (hr : Rd w q rest 0) (hn : (rest.length : Int) < n) :
    Calls Tryz.prog 90 #[rp q, .int .i64 n] w (Gave q w 40) := by
  refine (number_out q rest n w hr hn).mono ?_
  rintro e w' ⟨rfl, rfl⟩
  exact ⟨rfl, ⟨_, hr⟩, Fr.refl _ _⟩

theorem takeByte_in (q : Nat) (c : UInt8) (r : List UInt8) (w : World) (hr : Rd w q (c :: r) 0) :
    Calls Tryz.prog 92 #[rp q] w (Took q w (Is (.int .u8 (c.toNat : Int))) r) := by
  have kn := number_in q (c :: r) 1 w hr (by simp) (by omega)
  simp only [List.take_succ_cons, List.take_zero, List.drop_succ_cons, List.drop_zero] at kn
  have e1 : numS [c] = c.toNat := by simp [numS]
  rw [e1] at kn
  have hc := c.toNat_lt
  clear hr e1
  go_enter Tryz.func92, Tryz.ntmps92
  go_wp2_with (go_at_call 90; refine kn.mono ?_; rintro e w1 ⟨rfl, h1, h2⟩)
  go_ret
  refine ⟨⟨_, rfl, ?_⟩, h1, h2⟩
  simp [Is]
theorem takeByte_out (q : Nat) (w : World) (hr : Rd w q [] 0) :
    Calls Tryz.prog 92 #[rp q] w (Gave q w 40) := by
  have kn := number_gave q [] 1 w hr (by simp)
  clear hr
  unfold Gave giveUp at *
  go_enter Tryz.func92, Tryz.ntmps92
  go_wp2_with (go_at_call 90; refine kn.mono ?_; rintro e w1 ⟨rfl, h1, h2⟩)
  exact ⟨rfl, rfl, h1, h2⟩

theorem takeLong_in (q : Nat) (rest : List UInt8) (w : World) (hl : 8 ≤ rest.length) (hr : Rd w q rest 0) :
    Calls Tryz.prog 94 #[rp q] w (Took q w (Is (.int .u64 (numS (rest.take 8) : Int))) (rest.drop 8)) := by
  have kn := number_in q rest 8 w hr hl (by omega)
  unfold Took Is at *
  clear hr
  go_enter Tryz.func94, Tryz.ntmps94
  go_wp2_with (go_at_call 90; refine kn.mono ?_; rintro e w1 ⟨rfl, h1, h2⟩)
  go_ret
  exact ⟨⟨_, rfl, rfl⟩, h1, h2⟩
theorem takeLong_out (q : Nat) (rest : List UInt8) (w : World) (hl : rest.length < 8) (hr : Rd w q rest 0) :
    Calls Tryz.prog 94 #[rp q] w (Gave q w 40) := by
  have kn := number_gave q rest 8 w hr (by omega)
  clear hr
  unfold Gave giveUp at *
  go_enter Tryz.func94, Tryz.ntmps94
  go_wp2_with (go_at_call 90; refine kn.mono ?_; rintro e w1 ⟨rfl, h1, h2⟩)
  exact ⟨rfl, rfl, h1, h2⟩

theorem takeInt_in (q : Nat) (rest : List UInt8) (N : Nat) (w : World) (hl : 4 ≤ rest.length) (hN : Hidden (numS (rest.take 4) = N)) (hlt : N < 2147483648) (hr : Rd w q rest 0) :
    Calls Tryz.prog 60 #[rp q] w (Took q w (Is (.int .i64 (N : Int))) (rest.drop 4)) := by
  have kn := number_in q rest 4 w hr hl (by omega)
  rw [show numS (rest.take 4) = N from hN] at kn
  unfold Took Is at *
  clear hr hN
  go_enter Tryz.func60, Tryz.ntmps60
  go_wp2_with (go_at_call 90; refine kn.mono ?_; rintro e w1 ⟨rfl, h1, h2⟩)
  go_ret
  refine ⟨⟨_, rfl, ?_⟩, h1, h2⟩
  rfl
theorem takeInt_bad (q : Nat) (rest : List UInt8) (N : Nat) (w : World) (hl : 4 ≤ rest.length) (hN : Hidden (numS (rest.take 4) = N)) (hlt : 2147483647 < N) (hr : Rd w q rest 0) :
    Calls Tryz.prog 60 #[rp q] w (Gave q w 42) := by
  have kn := number_in q rest 4 w hr hl (by omega)
  rw [show numS (rest.take 4) = N from hN] at kn
  unfold Gave giveUp at *
  clear hr hN
  go_enter Tryz.func60, Tryz.ntmps60
  go_wp2_with (go_at_call 90; refine kn.mono ?_; rintro e w1 ⟨rfl, h1, h2⟩)
  exact ⟨rfl, rfl, ⟨_, h1⟩, h2⟩
theorem takeInt_out (q : Nat) (rest : List UInt8) (w : World) (hl : rest.length < 4) (hr : Rd w q rest 0) :
    Calls Tryz.prog 60 #[rp q] w (Gave q w 40) := by
  have kn := number_gave q rest 4 w hr (by omega)
  clear hr
  unfold Gave giveUp at *
  go_enter Tryz.func60, Tryz.ntmps60
  go_wp2_with (go_at_call 90; refine kn.mono ?_; rintro e w1 ⟨rfl, h1, h2⟩)
  exact ⟨rfl, rfl, h1, h2⟩

theorem takeCount_in (q : Nat) (rest : List UInt8) (N : Nat) (most : Int) (w : World) (hl : 4 ≤ rest.length) (hN : Hidden (numS (rest.take 4) = N)) (hlt : N < 2147483648) (hm : (N : Int) ≤ most) (hr : Rd w q rest 0) :
    Calls Tryz.prog 58 #[rp q, .int .i64 most] w (Took q w (Is (.int .i64 (N : Int))) (rest.drop 4)) := by
  have kn := takeInt_in q rest N w hl hN hlt hr
  unfold Took Is at *
  clear hr hN
  go_enter Tryz.func58, Tryz.ntmps58
  go_wp2_with (go_at_call 60; refine kn.mono ?_; rintro e w1 ⟨⟨v, rfl, rfl⟩, h1, h2⟩)
  go_ret
  exact ⟨⟨_, rfl, rfl⟩, h1, h2⟩
theorem takeCount_big (q : Nat) (rest : List UInt8) (N : Nat) (most : Int) (w : World) (hl : 4 ≤ rest.length) (hN : Hidden (numS (rest.take 4) = N)) (hlt : N < 2147483648) (hm : most < (N : Int)) (hr : Rd w q rest 0) :
    Calls Tryz.prog 58 #[rp q, .int .i64 most] w (Gave q w 3) := by
  have kn := takeInt_in q rest N w hl hN hlt hr
  unfold Took Is Gave giveUp at *
  clear hr hN
  go_enter Tryz.func58, Tryz.ntmps58
  go_wp2_with (go_at_call 60; refine kn.mono ?_; rintro e w1 ⟨⟨v, rfl, rfl⟩, h1, h2⟩)
  exact ⟨rfl, rfl, ⟨_, h1⟩, h2⟩
theorem takeCount_gave (q : Nat) (c most : Int) (w : World) (kn : Calls Tryz.prog 60 #[rp q] w (Gave q w c)) :
    Calls Tryz.prog 58 #[rp q, .int .i64 most] w (Gave q w c) := by
  unfold Gave giveUp at *
  go_enter Tryz.func58, Tryz.ntmps58
  go_wp2_with (go_at_call 60; refine kn.mono ?_; rintro e w1 ⟨rfl, h1, h2⟩)
  exact ⟨rfl, rfl, h1, h2⟩
end Go.Proofs.YtakkiipkmogagaaGreat.Wi

namespace Go.Proofs.YtakkiipkmogagaaGreat.Wi
open Go.RowKit
set_option linter.unusedSimpArgs false
set_option linter.unusedVariables false
set_option maxRecDepth 20000

set_option maxHeartbeats 400000 in
theorem catch_byte (b q : Nat) (rest : List UInt8) (c : Int) (w : World) (hb : w.cell? ⟨b, 0, none⟩ = some (rp q)) (hr : Rd w q rest 0) (hc : (c == 0) = false) :
    CallsD Tryz.prog 118 #[.pointer (some ⟨b, 0, none⟩)] (giving c false) w fun e u' w' =>
      e = .returned (.tuple #[]) ∧ u' = giving c true ∧ Rd w' q [] c ∧ Fr (fun k => k = q) w w' := by
  have kf := fun o : Obj => fail_first q rest c (w.alloc o) (hr.keep (Fr.alloc (fun _ => False) w o) (fun f => f) (fun _ _ _ _ f => f)) hc
  have hba : ∀ o : Obj, (w.alloc o).cell? ⟨b, 0, none⟩ = some (rp q) := fun o => (Fr.alloc (fun _ => False) w o).cell hb (fun f => f)
  have hta := assert_gave
  clear hr
  refine callsD_of_wpS Tryz.func118 rfl fun c₀ cs hu => ?_
  have e0 : (#[Value.pointer (some ⟨b, 0, none⟩)] ++ Array.replicate (Tryz.f118.ntmps - (#[Value.pointer (some ⟨b, 0, none⟩)] : Array Value).size) undef) = #[Value.pointer (some ⟨b, 0, none⟩), undef, undef, undef, undef, undef, undef, undef, undef, undef, undef, undef, undef, undef] := rfl
  rw [e0]
  clear e0
  apply wpS_seq
  apply wpS_region
  simp [wpOpsS, go_sem, recoverD, hu, Tryz.ntmps118, Exit.thenS, giving]
  refine wpS_of_wp ?_
  go_wp2_with (go_at_call 11; refine (kf _).mono ?_; rintro e w' ⟨rfl, h1, h2⟩)
  refine ⟨rfl, _, rfl, _, results_none rfl _ _ _, rfl, rfl, h1, (Fr.alloc _ w _).same h2⟩

set_option maxHeartbeats 400000 in
theorem idle_byte (b : Nat) (w : World) :
    CallsD Tryz.prog 118 #[.pointer (some ⟨b, 0, none⟩)] .returning w fun e u' w' => e = .returned (.tuple #[]) ∧ u' = .returning ∧ w' = w := by
  refine callsD_of_wpS Tryz.func118 rfl fun c₀ cs hu => ?_
  have e0 : (#[Value.pointer (some ⟨b, 0, none⟩)] ++ Array.replicate (Tryz.f118.ntmps - (#[Value.pointer (some ⟨b, 0, none⟩)] : Array Value).size) undef) = #[Value.pointer (some ⟨b, 0, none⟩), undef, undef, undef, undef, undef, undef, undef, undef, undef, undef, undef, undef, undef] := rfl
  rw [e0]
  clear e0
  apply wpS_seq
  apply wpS_region
  simp [wpOpsS, go_sem, recoverD, hu, Tryz.ntmps118, Exit.thenS]
  refine wpS_of_wp ?_
  go_wp2
  refine ⟨rfl, .returning, ?_, _, results_none rfl _ _ _, rfl, rfl, rfl⟩
  rw [← hu]

set_option maxHeartbeats 400000 in
theorem face_byte_ok (q : Nat) (rest rest' : List UInt8) (A : Value → World → Prop) (w : World) (hr : Rd w q rest 0)
    (kt : Calls Tryz.prog 92 #[rp q] (w.alloc (.cells #[rp q] 32)) fun e w' => (∃ v, e = .returned v ∧ A v w') ∧ Rd w' q rest' 0 ∧ Fr (fun k => k = q) (w.alloc (.cells #[rp q] 32)) w') :
    Calls Tryz.prog 91 #[rp q, .func (.func 92) #[rp q] #[]] w fun e w' => (∃ v, e = .returned v ∧ A v w') ∧ Rd w' q rest' 0 ∧ Fr (fun k => k = q) w w' := by
  have hmf : ∀ (fn : Fn) (first cap : Array Value) (w : World), (Instr.makeFunc fn first cap).run Tryz.prog w = .ok (.func fn first cap) w := fun _ _ _ _ => rfl
  have ke := fun o : Obj => err_some q rest 0 (w.alloc o) (hr.keep (Fr.alloc (fun _ => False) w o) (fun f => f) (fun _ _ _ _ f => f))
  clear hr
  go_enter_defers Tryz.func91, Tryz.ntmps91
  go_wp2_with (first
    | (go_at_call 37; refine (ke _).mono ?_; rintro e w' ⟨rfl, rfl⟩)
    | (go_at_call 92; refine kt.mono ?_; rintro e w1 ⟨⟨v, rfl, hv⟩, h1, h2⟩))
  refine leaves_cons (f := 118) (args := #[.pointer (some ⟨w.heap.size, 0, none⟩)]) (by simp) (by simp [go_sem]) ?_
  refine (idle_byte w.heap.size _).mono ?_
  rintro e u' w'' ⟨rfl, rfl, rfl⟩
  exact ⟨_, results_tmp rfl _ _ _, ⟨v, rfl, hv⟩, h1, (Fr.alloc _ w _).same h2⟩

set_option maxHeartbeats 400000 in
theorem face_byte_err (q : Nat) (rest : List UInt8) (c : Int) (w : World) (hr : Rd w q rest 0) (hc : (c == 0) = false)
    (kt : Calls Tryz.prog 92 #[rp q] (w.alloc (.cells #[rp q] 32)) fun e w' => e = giveUp c ∧ (∃ rest', Rd w' q rest' 0) ∧ Fr (fun k => k = q) (w.alloc (.cells #[rp q] 32)) w') :
    Calls Tryz.prog 91 #[rp q, .func (.func 92) #[rp q] #[]] w fun e w' => e = .returned (.int .u8 0) ∧ Rd w' q [] c ∧ Fr (fun k => k = q) w w' := by
  have hmf : ∀ (fn : Fn) (first cap : Array Value) (w : World), (Instr.makeFunc fn first cap).run Tryz.prog w = .ok (.func fn first cap) w := fun _ _ _ _ => rfl
  have ke := fun o : Obj => err_some q rest 0 (w.alloc o) (hr.keep (Fr.alloc (fun _ => False) w o) (fun f => f) (fun _ _ _ _ f => f))
  have hq : q < w.heap.size := by obtain ⟨v, h, _⟩ := hr; exact lt_of_heap h
  clear hr
  unfold giveUp at kt
  go_enter_defers Tryz.func91, Tryz.ntmps91
  go_wp2_with (first
    | (go_at_call 37; refine (ke _).mono ?_; rintro e w' ⟨rfl, rfl⟩)
    | (go_at_call 92; refine kt.mono ?_; rintro e w1 ⟨rfl, ⟨rest', h1⟩, h2⟩))
  refine leaves_cons (f := 118) (args := #[.pointer (some ⟨w.heap.size, 0, none⟩)]) (by simp) (by simp [go_sem]) ?_
  have hb : w1.cell? ⟨w.heap.size, 0, none⟩ = some (rp q) := h2.cell (by simp) (by show ¬ w.heap.size = q; omega)
  refine (catch_byte w.heap.size q rest' c w1 hb h1 hc).mono ?_
  rintro e u' w'' ⟨rfl, rfl, h3, h4⟩
  simp [Leaves, settle, results, Tryz.results91, go_sem, giving]
  exact ⟨h3, (Fr.alloc _ w _).same (h2.same h4)⟩

set_option maxHeartbeats 400000 in
theorem catch_int (b q : Nat) (rest : List UInt8) (c : Int) (w : World) (hb : w.cell? ⟨b, 0, none⟩ = some (rp q)) (hr : Rd w q rest 0) (hc : (c == 0) = false) :
    CallsD Tryz.prog 89 #[.pointer (some ⟨b, 0, none⟩)] (giving c false) w fun e u' w' =>
      e = .returned (.tuple #[]) ∧ u' = giving c true ∧ Rd w' q [] c ∧ Fr (fun k => k = q) w w' := by
  have kf := fun o : Obj => fail_first q rest c (w.alloc o) (hr.keep (Fr.alloc (fun _ => False) w o) (fun f => f) (fun _ _ _ _ f => f)) hc
  have hba : ∀ o : Obj, (w.alloc o).cell? ⟨b, 0, none⟩ = some (rp q) := fun o => (Fr.alloc (fun _ => False) w o).cell hb (fun f => f)
  have hta := assert_gave
  clear hr
  refine callsD_of_wpS Tryz.func89 rfl fun c₀ cs hu => ?_
  have e0 : (#[Value.pointer (some ⟨b, 0, none⟩)] ++ Array.replicate (Tryz.f89.ntmps - (#[Value.pointer (some ⟨b, 0, none⟩)] : Array Value).size) undef) = #[Value.pointer (some ⟨b, 0, none⟩), undef, undef, undef, undef, undef, undef, undef, undef, undef, undef, undef, undef, undef] := rfl
  rw [e0]
  clear e0
  apply wpS_seq
  apply wpS_region
  simp [wpOpsS, go_sem, recoverD, hu, Tryz.ntmps89, Exit.thenS, giving]
  refine wpS_of_wp ?_
  go_wp2_with (go_at_call 11; refine (kf _).mono ?_; rintro e w' ⟨rfl, h1, h2⟩)
  refine ⟨rfl, _, rfl, _, results_none rfl _ _ _, rfl, rfl, h1, (Fr.alloc _ w _).same h2⟩

set_option maxHeartbeats 400000 in
theorem idle_int (b : Nat) (w : World) :
    CallsD Tryz.prog 89 #[.pointer (some ⟨b, 0, none⟩)] .returning w fun e u' w' => e = .returned (.tuple #[]) ∧ u' = .returning ∧ w' = w := by
  refine callsD_of_wpS Tryz.func89 rfl fun c₀ cs hu => ?_
  have e0 : (#[Value.pointer (some ⟨b, 0, none⟩)] ++ Array.replicate (Tryz.f89.ntmps - (#[Value.pointer (some ⟨b, 0, none⟩)] : Array Value).size) undef) = #[Value.pointer (some ⟨b, 0, none⟩), undef, undef, undef, undef, undef, undef, undef, undef, undef, undef, undef, undef, undef] := rfl
  rw [e0]
  clear e0
  apply wpS_seq
  apply wpS_region
  simp [wpOpsS, go_sem, recoverD, hu, Tryz.ntmps89, Exit.thenS]
  refine wpS_of_wp ?_
  go_wp2
  refine ⟨rfl, .returning, ?_, _, results_none rfl _ _ _, rfl, rfl, rfl⟩
  rw [← hu]

set_option maxHeartbeats 400000 in
theorem face_int_ok (q : Nat) (rest rest' : List UInt8) (A : Value → World → Prop) (w : World) (hr : Rd w q rest 0)
    (kt : Calls Tryz.prog 60 #[rp q] (w.alloc (.cells #[rp q] 32)) fun e w' => (∃ v, e = .returned v ∧ A v w') ∧ Rd w' q rest' 0 ∧ Fr (fun k => k = q) (w.alloc (.cells #[rp q] 32)) w') :
    Calls Tryz.prog 59 #[rp q, .func (.func 60) #[rp q] #[]] w fun e w' => (∃ v, e = .returned v ∧ A v w') ∧ Rd w' q rest' 0 ∧ Fr (fun k => k = q) w w' := by
  have hmf : ∀ (fn : Fn) (first cap : Array Value) (w : World), (Instr.makeFunc fn first cap).run Tryz.prog w = .ok (.func fn first cap) w := fun _ _ _ _ => rfl
  have ke := fun o : Obj => err_some q rest 0 (w.alloc o) (hr.keep (Fr.alloc (fun _ => False) w o) (fun f => f) (fun _ _ _ _ f => f))
  clear hr
  go_enter_defers Tryz.func59, Tryz.ntmps59
  go_wp2_with (first
    | (go_at_call 37; refine (ke _).mono ?_; rintro e w' ⟨rfl, rfl⟩)
    | (go_at_call 60; refine kt.mono ?_; rintro e w1 ⟨⟨v, rfl, hv⟩, h1, h2⟩))
  refine leaves_cons (f := 89) (args := #[.pointer (some ⟨w.heap.size, 0, none⟩)]) (by simp) (by simp [go_sem]) ?_
  refine (idle_int w.heap.size _).mono ?_
  rintro e u' w'' ⟨rfl, rfl, rfl⟩
  exact ⟨_, results_tmp rfl _ _ _, ⟨v, rfl, hv⟩, h1, (Fr.alloc _ w _).same h2⟩

set_option maxHeartbeats 400000 in
theorem face_int_err (q : Nat) (rest : List UInt8) (c : Int) (w : World) (hr : Rd w q rest 0) (hc : (c == 0) = false)
    (kt : Calls Tryz.prog 60 #[rp q] (w.alloc (.cells #[rp q] 32)) fun e w' => e = giveUp c ∧ (∃ rest', Rd w' q rest' 0) ∧ Fr (fun k => k = q) (w.alloc (.cells #[rp q] 32)) w') :
    Calls Tryz.prog 59 #[rp q, .func (.func 60) #[rp q] #[]] w fun e w' => e = .returned (.int .i64 0) ∧ Rd w' q [] c ∧ Fr (fun k => k = q) w w' := by
  have hmf : ∀ (fn : Fn) (first cap : Array Value) (w : World), (Instr.makeFunc fn first cap).run Tryz.prog w = .ok (.func fn first cap) w := fun _ _ _ _ => rfl
  have ke := fun o : Obj => err_some q rest 0 (w.alloc o) (hr.keep (Fr.alloc (fun _ => False) w o) (fun f => f) (fun _ _ _ _ f => f))
  have hq : q < w.heap.size := by obtain ⟨v, h, _⟩ := hr; exact lt_of_heap h
  clear hr
  unfold giveUp at kt
  go_enter_defers Tryz.func59, Tryz.ntmps59
  go_wp2_with (first
    | (go_at_call 37; refine (ke _).mono ?_; rintro e w' ⟨rfl, rfl⟩)
    | (go_at_call 60; refine kt.mono ?_; rintro e w1 ⟨rfl, ⟨rest', h1⟩, h2⟩))
  refine leaves_cons (f := 89) (args := #[.pointer (some ⟨w.heap.size, 0, none⟩)]) (by simp) (by simp [go_sem]) ?_
  have hb : w1.cell? ⟨w.heap.size, 0, none⟩ = some (rp q) := h2.cell (by simp) (by show ¬ w.heap.size = q; omega)
  refine (catch_int w.heap.size q rest' c w1 hb h1 hc).mono ?_
  rintro e u' w'' ⟨rfl, rfl, h3, h4⟩
  simp [Leaves, settle, results, Tryz.results59, go_sem, giving]
  exact ⟨h3, (Fr.alloc _ w _).same (h2.same h4)⟩

set_option maxHeartbeats 400000 in
theorem catch_long (b q : Nat) (rest : List UInt8) (c : Int) (w : World) (hb : w.cell? ⟨b, 0, none⟩ = some (rp q)) (hr : Rd w q rest 0) (hc : (c == 0) = false) :
    CallsD Tryz.prog 119 #[.pointer (some ⟨b, 0, none⟩)] (giving c false) w fun e u' w' =>
      e = .returned (.tuple #[]) ∧ u' = giving c true ∧ Rd w' q [] c ∧ Fr (fun k => k = q) w w' := by
  have kf := fun o : Obj => fail_first q rest c (w.alloc o) (hr.keep (Fr.alloc (fun _ => False) w o) (fun f => f) (fun _ _ _ _ f => f)) hc
  have hba : ∀ o : Obj, (w.alloc o).cell? ⟨b, 0, none⟩ = some (rp q) := fun o => (Fr.alloc (fun _ => False) w o).cell hb (fun f => f)
  have hta := assert_gave
  clear hr
  refine callsD_of_wpS Tryz.func119 rfl fun c₀ cs hu => ?_
  have e0 : (#[Value.pointer (some ⟨b, 0, none⟩)] ++ Array.replicate (Tryz.f119.ntmps - (#[Value.pointer (some ⟨b, 0, none⟩)] : Array Value).size) undef) = #[Value.pointer (some ⟨b, 0, none⟩), undef, undef, undef, undef, undef, undef, undef, undef, undef, undef, undef, undef, undef] := rfl
  rw [e0]
  clear e0
  apply wpS_seq
  apply wpS_region
  simp [wpOpsS, go_sem, recoverD, hu, Tryz.ntmps119, Exit.thenS, giving]
  refine wpS_of_wp ?_
  go_wp2_with (go_at_call 11; refine (kf _).mono ?_; rintro e w' ⟨rfl, h1, h2⟩)
  refine ⟨rfl, _, rfl, _, results_none rfl _ _ _, rfl, rfl, h1, (Fr.alloc _ w _).same h2⟩

set_option maxHeartbeats 400000 in
theorem idle_long (b : Nat) (w : World) :
    CallsD Tryz.prog 119 #[.pointer (some ⟨b, 0, none⟩)] .returning w fun e u' w' => e = .returned (.tuple #[]) ∧ u' = .returning ∧ w' = w := by
  refine callsD_of_wpS Tryz.func119 rfl fun c₀ cs hu => ?_
  have e0 : (#[Value.pointer (some ⟨b, 0, none⟩)] ++ Array.replicate (Tryz.f119.ntmps - (#[Value.pointer (some ⟨b, 0, none⟩)] : Array Value).size) undef) = #[Value.pointer (some ⟨b, 0, none⟩), undef, undef, undef, undef, undef, undef, undef, undef, undef, undef, undef, undef, undef] := rfl
  rw [e0]
  clear e0
  apply wpS_seq
  apply wpS_region
  simp [wpOpsS, go_sem, recoverD, hu, Tryz.ntmps119, Exit.thenS]
  refine wpS_of_wp ?_
  go_wp2
  refine ⟨rfl, .returning, ?_, _, results_none rfl _ _ _, rfl, rfl, rfl⟩
  rw [← hu]

set_option maxHeartbeats 400000 in
theorem face_long_ok (q : Nat) (rest rest' : List UInt8) (A : Value → World → Prop) (w : World) (hr : Rd w q rest 0)
    (kt : Calls Tryz.prog 94 #[rp q] (w.alloc (.cells #[rp q] 32)) fun e w' => (∃ v, e = .returned v ∧ A v w') ∧ Rd w' q rest' 0 ∧ Fr (fun k => k = q) (w.alloc (.cells #[rp q] 32)) w') :
    Calls Tryz.prog 93 #[rp q, .func (.func 94) #[rp q] #[]] w fun e w' => (∃ v, e = .returned v ∧ A v w') ∧ Rd w' q rest' 0 ∧ Fr (fun k => k = q) w w' := by
  have hmf : ∀ (fn : Fn) (first cap : Array Value) (w : World), (Instr.makeFunc fn first cap).run Tryz.prog w = .ok (.func fn first cap) w := fun _ _ _ _ => rfl
  have ke := fun o : Obj => err_some q rest 0 (w.alloc o) (hr.keep (Fr.alloc (fun _ => False) w o) (fun f => f) (fun _ _ _ _ f => f))
  clear hr
  go_enter_defers Tryz.func93, Tryz.ntmps93
  go_wp2_with (first
    | (go_at_call 37; refine (ke _).mono ?_; rintro e w' ⟨rfl, rfl⟩)
    | (go_at_call 94; refine kt.mono ?_; rintro e w1 ⟨⟨v, rfl, hv⟩, h1, h2⟩))
  refine leaves_cons (f := 119) (args := #[.pointer (some ⟨w.heap.size, 0, none⟩)]) (by simp) (by simp [go_sem]) ?_
  refine (idle_long w.heap.size _).mono ?_
  rintro e u' w'' ⟨rfl, rfl, rfl⟩
  exact ⟨_, results_tmp rfl _ _ _, ⟨v, rfl, hv⟩, h1, (Fr.alloc _ w _).same h2⟩

set_option maxHeartbeats 400000 in
theorem face_long_err (q : Nat) (rest : List UInt8) (c : Int) (w : World) (hr : Rd w q rest 0) (hc : (c == 0) = false)
    (kt : Calls Tryz.prog 94 #[rp q] (w.alloc (.cells #[rp q] 32)) fun e w' => e = giveUp c ∧ (∃ rest', Rd w' q rest' 0) ∧ Fr (fun k => k = q) (w.alloc (.cells #[rp q] 32)) w') :
    Calls Tryz.prog 93 #[rp q, .func (.func 94) #[rp q] #[]] w fun e w' => e = .returned (.int .u64 0) ∧ Rd w' q [] c ∧ Fr (fun k => k = q) w w' := by
  have hmf : ∀ (fn : Fn) (first cap : Array Value) (w : World), (Instr.makeFunc fn first cap).run Tryz.prog w = .ok (.func fn first cap) w := fun _ _ _ _ => rfl
  have ke := fun o : Obj => err_some q rest 0 (w.alloc o) (hr.keep (Fr.alloc (fun _ => False) w o) (fun f => f) (fun _ _ _ _ f => f))
  have hq : q < w.heap.size := by obtain ⟨v, h, _⟩ := hr; exact lt_of_heap h
  clear hr
  unfold giveUp at kt
  go_enter_defers Tryz.func93, Tryz.ntmps93
  go_wp2_with (first
    | (go_at_call 37; refine (ke _).mono ?_; rintro e w' ⟨rfl, rfl⟩)
    | (go_at_call 94; refine kt.mono ?_; rintro e w1 ⟨rfl, ⟨rest', h1⟩, h2⟩))
  refine leaves_cons (f := 119) (args := #[.pointer (some ⟨w.heap.size, 0, none⟩)]) (by simp) (by simp [go_sem]) ?_
  have hb : w1.cell? ⟨w.heap.size, 0, none⟩ = some (rp q) := h2.cell (by simp) (by show ¬ w.heap.size = q; omega)
  refine (catch_long w.heap.size q rest' c w1 hb h1 hc).mono ?_
  rintro e u' w'' ⟨rfl, rfl, h3, h4⟩
  simp [Leaves, settle, results, Tryz.results93, go_sem, giving]
  exact ⟨h3, (Fr.alloc _ w _).same (h2.same h4)⟩
end Go.Proofs.YtakkiipkmogagaaGreat.Wi

namespace Go.Proofs.YtakkiipkmogagaaGreat.Wi
open Go.RowKit
set_option linter.unusedSimpArgs false
set_option linter.unusedVariables false
set_option maxRecDepth 20000

/-- A slice in memory of the call's own: all places up to the capacity are there and may be written. -/
def Ow (w : World) (B : Nat) (v : Value) (xs : List Value) : Prop :=
  Sl w v xs ∧ ∃ ao len cap, v = .slice ao len cap ∧ (ao = none ∨ ∃ g off, ao = some ⟨g, off, none⟩ ∧ B ≤ g ∧ g < w.heap.size ∧ ∀ j, j < cap → (w.cell? ⟨g, off + j, none⟩).isSome = true ∧ w.frozen? ⟨g, off + j, none⟩ = false)

theorem Ow.nil (w : World) (B : Nat) : Ow w B (.slice none 0 0) [] := ⟨Sl.nil w, none, 0, 0, rfl, Or.inl rfl⟩
theorem Ow.keep {S : Nat → Prop} {w w' : World} {B : Nat} {v : Value} {xs : List Value} (h : Ow w B v xs) (hf : Fr S w w') (hn : ∀ k, v.ownBlock = some k → ¬ S k) : Ow w' B v xs := by
  obtain ⟨h1, ao, len, cap, rfl, h2⟩ := h
  refine ⟨h1.keep hf hn, ao, len, cap, rfl, ?_⟩
  rcases h2 with rfl | ⟨g, off, rfl, hB, hlt, hc⟩
  · exact Or.inl rfl
  · refine Or.inr ⟨g, off, rfl, hB, Nat.lt_of_lt_of_le hlt hf.size, fun j hj => ?_⟩
    have e := hf.block g hlt (hn g rfl)
    rw [World.cell?_of_block (a := ⟨g, off + j, none⟩) e, World.frozen?_of_block (a := ⟨g, off + j, none⟩) e]
    exact hc j hj
theorem Ow.own {w : World} {B : Nat} {v : Value} {xs : List Value} (h : Ow w B v xs) : ∀ k, v.ownBlock = some k → B ≤ k ∧ k < w.heap.size := by
  obtain ⟨h1, ao, len, cap, rfl, h2⟩ := h
  intro k hk
  rcases h2 with rfl | ⟨g, off, rfl, hB, hlt, hc⟩
  · cases hk
  · have : g = k := by simpa [Value.ownBlock] using hk
    subst this
    exact ⟨hB, hlt⟩
theorem Ow.of_own {w : World} {base : Nat} {v : Value} {n : Nat} {xs : List Value} (h : w.ownsRow base 5 1 v n xs) : Ow w base v xs := by
  refine ⟨(Sl.of_own h).1, ?_⟩
  rcases h.2 with ⟨rfl, _⟩ | ⟨g, cap, cur, rfl, hb, hg, hnc, hcm, hcs, ht⟩
  · exact ⟨none, 0, 0, rfl, Or.inl rfl⟩
  · refine ⟨_, n, cap, rfl, Or.inr ⟨g, 0, rfl, hb, lt_of_heap hg, fun j hj => ⟨?_, by simp [World.frozen?, hg]⟩⟩⟩
    rw [Nat.zero_add, cell_of_row w g j cur 5 (0, 0) hg]
    simp
    omega
theorem Ow.drop {w : World} {B : Nat} {ao : Option Addr} {len cap : Nat} {xs : List Value} (h : Ow w B (.slice ao len cap) xs) (hs : ∀ n, n ≤ len → Sl w (.slice (if cap = n then ao else ao.map fun a => a.add n) (len - n) (cap - n)) (xs.drop n)) (n : Nat) (hn : n ≤ len) : Ow w B (.slice (if cap = n then ao else ao.map fun a => a.add n) (len - n) (cap - n)) (xs.drop n) := by
  obtain ⟨h1, ao', len', cap', e, h2⟩ := h
  cases e
  refine ⟨hs n hn, _, _, _, rfl, ?_⟩
  rcases h2 with rfl | ⟨g, off, rfl, hB, hlt, hc⟩
  · left; split <;> rfl
  · right
    by_cases hcn : cap = n
    · rw [if_pos hcn]
      exact ⟨g, off, rfl, hB, hlt, fun j hj => by omega⟩
    · rw [if_neg hcn]
      refine ⟨g, off + n, by simp [Addr.add_lit], hB, hlt, fun j hj => ?_⟩
      rw [Nat.add_assoc]
      exact hc _ (by omega)
end Go.Proofs.YtakkiipkmogagaaGreat.Wi

namespace Go.Proofs.YtakkiipkmogagaaGreat.Wi
open Go.RowKit
set_option linter.unusedSimpArgs false
set_option linter.unusedVariables false
set_option maxRecDepth 20000

/-- New bytes. -/
def Made (w w' : World) (v : Value) (l : List UInt8) : Prop := Ow w' w.heap.size v (bc l) ∧ Fr (fun _ => False) w w'

theorem Fr.over {T : Nat → Prop} {a b c : World} (h : Fr (fun _ => False) a b) (g : Fr T b c) (hT : ∀ k, T k → a.heap.size ≤ k) : Fr (fun _ => False) a c :=
  h.trans g (fun k hk t => by have := hT k t; omega)
theorem Ow.shape {w : World} {B : Nat} {v : Value} {l : List UInt8} (h : Ow w B v (bc l)) : ∃ ao cap, v = .slice ao l.length cap ∧ l.length ≤ cap ∧ cap ≤ 9223372036854775807 := by
  obtain ⟨⟨ao, cap, e, h1, h2, _⟩, _⟩ := h
  rw [bc_length] at *
  exact ⟨ao, cap, e, h1, by unfold maxLen at h2; omega⟩

theorem Made.one (w : World) (c : UInt8) : Made w (w.alloc (.cells #[.int .u8 (c.toNat : Int)] 5)) (.slice (some ⟨w.heap.size, 0, none⟩) 1 1) [c] := by
  refine ⟨Ow.of_own (n := 1) ⟨by simp, Or.inr ⟨w.heap.size, 1, _, rfl, Nat.le_refl _, alloc_new w _, by omega, by simp [maxLen], by simp, by simp [bc]⟩⟩, Fr.alloc _ _ _⟩
end Go.Proofs.YtakkiipkmogagaaGreat.Wi

namespace Go.Proofs.YtakkiipkmogagaaGreat.Wi
open Go.RowKit
set_option linter.unusedSimpArgs false
set_option linter.unusedVariables false
set_option maxRecDepth 20000

/-- A writer of the call's own. -/
def WOwn (W : World) (pv : Value) (w : World) (bs : List UInt8) (n : Nat) : Prop :=
  ∃ g, WrO pv w bs g n ∧ Fr (fun _ => False) W w ∧ ∀ k, pblk pv = some k ∨ g = some k → W.heap.size ≤ k
theorem WOwn.step {W w w' : World} {pv : Value} {g : Option Nat} {bs : List UInt8} {n : Nat} (h2 : Fr (fun _ => False) W w) (h3 : ∀ k, pblk pv = some k ∨ g = some k → W.heap.size ≤ k) (h : WTo pv w g w' bs n) : WOwn W pv w' bs n := by
  obtain ⟨g', a, b, c⟩ := h
  refine ⟨g', a, h2.over b h3, fun k hk => ?_⟩
  rcases hk with hk | hk
  · exact h3 k (Or.inl hk)
  · rcases c with rfl | ⟨k', e, hk'⟩
    · exact h3 k (Or.inr hk)
    · rw [e] at hk
      have : k' = k := by simpa using hk
      have := h2.size
      omega
theorem WOwn.new (w : World) (n : Nat) (hn : n ≤ 140737488355328) : WOwn w (.pointer (some ⟨w.heap.size, 0, none⟩)) (w.alloc (.cells #[.slice none 0 0] 99)) [] n := by
  refine ⟨none, Or.inr ⟨w.heap.size, rfl, ⟨.slice none 0 0, alloc_new w _, World.ownsRow_nil _ _ _ _, rfl, by simp⟩, by simpa using hn⟩, Fr.alloc _ _ _, fun k hk => ?_⟩
  rcases hk with hk | hk
  · have : w.heap.size = k := by simpa [pblk] using hk
    omega
  · cases hk
theorem WOwn.keep {S : Nat → Prop} {W w w' : World} {pv : Value} {bs : List UInt8} {n : Nat} (h : WOwn W pv w bs n) (hf : Fr S w w') (hS : ∀ k, S k → w.heap.size ≤ k) : WOwn W pv w' bs n := by
  obtain ⟨g, a, b, c⟩ := h
  refine ⟨g, a.keep hf (fun k hk s => ?_) (fun k hk s => ?_), b.over hf (fun k hk => Nat.le_trans b.size (hS k hk)), c⟩
  · have := a.lt k (Or.inl hk)
    have := hS k s
    omega
  · have := a.lt k (Or.inr hk)
    have := hS k s
    omega
theorem WOwn.past {S : Nat → Prop} {W V w w' : World} {pv : Value} {bs : List UInt8} {n : Nat} (h : WOwn W pv V bs n) (hV : Fr (fun _ => False) V w) (hf : Fr S w w') (hS : ∀ k, S k → V.heap.size ≤ k) : WOwn W pv w' bs n :=
  h.keep (hV.over hf hS) (fun _ f => f.elim)
theorem WOwn.less {W w : World} {pv : Value} {bs : List UInt8} {n m : Nat} (h : WOwn W pv w bs n) (hm : m ≤ n) : WOwn W pv w bs m := by
  obtain ⟨g, a, b, c⟩ := h
  exact ⟨g, a.less hm, b, c⟩
theorem byte_own (W : World) (pv : Value) (c : UInt8) (bs : List UInt8) (n : Nat) (w : World) (h : WOwn W pv w bs (1 + n)) :
    Calls Tryz.prog 86 #[pv, .int .u8 (c.toNat : Int)] w fun e w' => e = .returned (.tuple #[]) ∧ WOwn W pv w' (bs ++ [c]) n := by
  obtain ⟨g, a, b, d⟩ := h
  refine (byte_any pv c bs g n w a).mono ?_
  rintro e w' ⟨rfl, hto⟩
  exact ⟨rfl, WOwn.step b d hto⟩
theorem text_own (W : World) (pv : Value) (l : List UInt8) (bs : List UInt8) (n : Nat) (w : World) (hl : l.length ≤ 9223372036854775807) (h : WOwn W pv w bs (4 + (l.length + n))) :
    Calls Tryz.prog 52 #[pv, .string ⟨l.toArray⟩] w fun e w' => e = .returned (.tuple #[]) ∧ WOwn W pv w' (bs ++ rawS l) n := by
  obtain ⟨g, a, b, d⟩ := h
  refine (text_any pv l bs g n w hl a a.lt).mono ?_
  rintro e w' ⟨rfl, hto⟩
  exact ⟨rfl, WOwn.step b d hto⟩
theorem WOwn.wr {W w : World} {p : Nat} {bs : List UInt8} {n : Nat} (h : WOwn W (.pointer (some ⟨p, 0, none⟩)) w bs n) : ∃ g, Wr w p bs g ∧ bs.length + n ≤ 140737488355328 := by
  obtain ⟨g, a, b, d⟩ := h
  rcases a with ⟨e, _⟩ | ⟨p', e, hw, hb⟩
  · cases e
  · simp only [Value.pointer.injEq, Option.some.injEq, Addr.mk.injEq, and_true] at e
    subst e
    exact ⟨g, hw, hb⟩
theorem WOwn.fr {W w : World} {pv : Value} {bs : List UInt8} {n : Nat} (h : WOwn W pv w bs n) : Fr (fun _ => False) W w := by
  obtain ⟨g, a, b, d⟩ := h
  exact b
theorem run_str (w : World) (v : Value) (l : List UInt8) (h : Sl w v (bc l)) : (convert 22 9 v).run Tryz.prog w = .ok (.string ⟨l.toArray⟩) w := by
  rcases h.src with ⟨rfl, hx⟩ | ⟨ad, cap, rfl, hl, hm, hnews⟩
  · obtain rfl : l = [] := by simpa [bc] using hx
    rw [run_convert_bytes_string w 22 9 5 none 0 0 Tryz.underlying22 Tryz.underlying5 Tryz.underlying9]
    rfl
  · rw [bc_length] at *
    exact run_convert_bytes_back w 22 9 5 ad cap l Tryz.underlying22 Tryz.underlying5 Tryz.underlying9 (fun j hj => hnews j _ (by simp [bc, hj]))

/-- What Bytes hands back, told by its shape. -/
theorem bytes_own (W : World) (p : Nat) (bs : List UInt8) (n : Nat) (w : World) (h : WOwn W (.pointer (some ⟨p, 0, none⟩)) w bs n) :
    Calls Tryz.prog 55 #[.pointer (some ⟨p, 0, none⟩)] w fun e w' => ∃ ao cap, e = .returned (.slice ao bs.length cap) ∧ Ow w' w.heap.size (.slice ao bs.length cap) (bc bs) ∧ Fr (fun _ => False) w w' := by
  obtain ⟨g, hw, hb⟩ := h.wr
  refine (bytes_some p bs g w hw (by omega)).mono ?_
  rintro e w' ⟨v', rfl, hc⟩
  have ho := Ow.of_own hc.1
  obtain ⟨ao, cap, rfl, _⟩ := ho.shape
  exact ⟨_, _, rfl, ho, hc.2⟩

/-- A new Reader. -/
theorem read_any (v : Value) (l : List UInt8) (w : World) (hb : l.length ≤ 140737488355328) (hs : Sl w v (bc l)) :
    Calls Tryz.prog 8 #[v] w fun e w' => ∃ q, e = .returned (rp q) ∧ Rd w' q l 0 ∧ w.heap.size ≤ q ∧ Fr (fun _ => False) w w' := by
  have kc : Calls Tryz.prog 26 #[v] w fun e w' => ∃ ao cap, e = .returned (.slice ao l.length cap) ∧ Ow w' w.heap.size (.slice ao l.length cap) (bc l) ∧ Fr (fun _ => False) w w' := by
    refine (clone_any v l w hb hs).mono ?_
    rintro e w' ⟨v', rfl, hc⟩
    have ho := Ow.of_own hc.1
    obtain ⟨ao, cap, rfl, _⟩ := ho.shape
    exact ⟨_, _, rfl, ho, hc.2⟩
  obtain ⟨ao0, cap0, rfl, a1, a2, a3, a4⟩ := id hs
  clear a1 a2 a3 a4
  rw [bc_length] at kc ⊢
  clear hs
  go_enter Tryz.func8, Tryz.ntmps8
  go_wp2_with (go_at_call 26; refine kc.mono ?_; rintro e w1 ⟨ao, cap, rfl, ho, hf⟩)
  go_ret
  refine ⟨w1.heap.size, rfl, ⟨.slice ao l.length cap, alloc_new w1 _, ho.1.keep (Fr.alloc (fun _ => False) w1 _) (fun _ _ f => f), fun k hk => (ho.own k hk).2⟩, hf.size, hf.same (Fr.alloc _ _ _)⟩
end Go.Proofs.YtakkiipkmogagaaGreat.Wi

namespace Go.Proofs.YtakkiipkmogagaaGreat.Wi
open Go.RowKit
set_option linter.unusedSimpArgs false
set_option linter.unusedVariables false
set_option maxRecDepth 20000

theorem take_shaped (q : Nat) (rest : List UInt8) (n : Nat) (w : World) (hr : Rd w q rest 0) (hn : n ≤ rest.length) :
    Calls Tryz.prog 57 #[rp q, .int .i64 (n : Int)] w fun e w' => ∃ ao cap, e = .returned (.slice ao n cap) ∧ Sl w' (.slice ao n cap) (bc (rest.take n)) ∧ Rd w' q (rest.drop n) 0 ∧ Fr (fun k => k = q) w w' := by
  refine (take_in q rest n w hr hn).mono ?_
  rintro e w' ⟨v, rfl, h1, h2⟩
  obtain ⟨ao, cap, e1, _⟩ := id h1
  rw [bc_length, List.length_take, Nat.min_eq_left hn] at e1
  subst e1
  exact ⟨_, _, rfl, h1, h2⟩
theorem take_gave (q : Nat) (rest : List UInt8) (n : Int) (w : World) (hr : Rd w q rest 0) (hn : (rest.length : Int) < n) :
    Calls Tryz.prog 57 #[rp q, .int .i64 n] w (Gave q w 40) := by
  refine (take_out q rest n w hr hn).mono ?_
  rintro e w' ⟨rfl, rfl⟩
  exact ⟨rfl, ⟨_, hr⟩, Fr.refl _ _⟩
theorem Gave.past {q : Nat} {w w1 w' : World} {c : Int} {e : Ending} (hf : Fr (fun k => k = q) w w1) (h : Gave q w1 c e w') : Gave q w c e w' := ⟨h.1, h.2.1, hf.same h.2.2⟩

theorem takeText_in (q : Nat) (rest : List UInt8) (N : Nat) (most : Int) (w : World) (hl : 4 ≤ rest.length) (hN : Hidden (numS (rest.take 4) = N)) (hlt : N < 2147483648) (hm : (N : Int) ≤ most) (hr : Rd w q rest 0) (hb : N ≤ (rest.drop 4).length) :
    Calls Tryz.prog 29 #[rp q, .int .i64 most] w (Took q w (Is (.string ⟨((rest.drop 4).take N).toArray⟩)) ((rest.drop 4).drop N)) := by
  have kc := takeCount_in q rest N most w hl hN hlt hm hr
  obtain ⟨D, hD⟩ : ∃ D, rest.drop 4 = D := ⟨_, rfl⟩
  rw [hD] at kc hb ⊢
  have kt := fun w1 (h : Rd w1 q D 0) => take_shaped q D N w1 h hb
  unfold Took Is at *
  clear hr hN hD hb
  go_enter Tryz.func29, Tryz.ntmps29
  go_wp2_with (first
    | (go_at_call 58; refine kc.mono ?_; rintro e w1 ⟨⟨v, rfl, rfl⟩, h1, h2⟩)
    | (go_at_call 57; refine (kt _ h1).mono ?_; rintro e w2 ⟨ao, cap, rfl, h3, h4, h5⟩; have hs := run_str w2 _ _ h3))
  go_ret
  exact ⟨⟨_, rfl, rfl⟩, h4, h2.same h5⟩
theorem takeText_out (q : Nat) (rest : List UInt8) (N : Nat) (most : Int) (w : World) (hl : 4 ≤ rest.length) (hN : Hidden (numS (rest.take 4) = N)) (hlt : N < 2147483648) (hm : (N : Int) ≤ most) (hr : Rd w q rest 0) (hb : (rest.drop 4).length < N) :
    Calls Tryz.prog 29 #[rp q, .int .i64 most] w (Gave q w 40) := by
  have kc := takeCount_in q rest N most w hl hN hlt hm hr
  obtain ⟨D, hD⟩ : ∃ D, rest.drop 4 = D := ⟨_, rfl⟩
  rw [hD] at kc hb
  have kt := fun w1 (h : Rd w1 q D 0) => take_gave q D N w1 h (by omega)
  unfold Took Is Gave giveUp at *
  clear hr hN hD hb
  go_enter Tryz.func29, Tryz.ntmps29
  go_wp2_with (first
    | (go_at_call 58; refine kc.mono ?_; rintro e w1 ⟨⟨v, rfl, rfl⟩, h1, h2⟩)
    | (go_at_call 57; refine (kt _ h1).mono ?_; rintro e w2 ⟨rfl, h4, h5⟩))
  exact ⟨rfl, rfl, h4, h2.same h5⟩
theorem takeText_gave (q : Nat) (c most : Int) (w : World) (kn : Calls Tryz.prog 58 #[rp q, .int .i64 most] w (Gave q w c)) :
    Calls Tryz.prog 29 #[rp q, .int .i64 most] w (Gave q w c) := by
  unfold Gave giveUp at *
  go_enter Tryz.func29, Tryz.ntmps29
  go_wp2_with (go_at_call 58; refine kn.mono ?_; rintro e w1 ⟨rfl, h1, h2⟩)
  exact ⟨rfl, rfl, h1, h2⟩
end Go.Proofs.YtakkiipkmogagaaGreat.Wi

namespace Go.Proofs.YtakkiipkmogagaaGreat.Wi
open Go.RowKit
set_option linter.unusedSimpArgs false
set_option linter.unusedVariables false
set_option maxRecDepth 20000

theorem fold_be (n : Nat) : ∀ k a : Nat, (beS n k).foldl (fun n c => n * 256 + c.toNat) a = a * 256 ^ k + n % 256 ^ k := by
  intro k
  induction k with
  | zero => intro a; simp [beS, Nat.mod_one]
  | succ k ih =>
    intro a
    rw [beS, List.foldl_cons, ih]
    have e : (UInt8.ofNat (n / 2 ^ (8 * k))).toNat = n / 256 ^ k % 256 := by
      rw [UInt8.toNat_ofNat', Nat.pow_mul]
    have h2 : n % 256 ^ (k + 1) = n % 256 ^ k + 256 ^ k * (n / 256 ^ k % 256) := by
      rw [Nat.pow_succ]
      exact Nat.mod_mul
    rw [e, h2, Nat.pow_succ, Nat.add_mul, Nat.mul_assoc, Nat.mul_comm 256 (256 ^ k), Nat.mul_comm (n / 256 ^ k % 256)]
    omega
theorem num_be (n k : Nat) : numS (beS n k) = n % 256 ^ k := by
  have := fold_be n k 0
  simpa [numS] using this
theorem num_i31 (x : Int) : numS (i31 x) = u64 x % 2147483648 := by
  rw [i31, num_be]
  have : u64 x % 2147483648 < 2147483648 := Nat.mod_lt _ (by omega)
  exact Nat.mod_eq_of_lt (by omega)
theorem num_len (n : Nat) (h : n < 2147483648) : numS (i31 (n : Int)) = n := by
  rw [num_i31]
  unfold u64
  omega

theorem Rd.lt {w : World} {q : Nat} {rest : List UInt8} {e : Int} (h : Rd w q rest e) : q < w.heap.size := by
  obtain ⟨v, h, _⟩ := h
  exact lt_of_heap h
/-- A new list that was read. -/
def NewL (B : Nat) (vs : List Value) : Value → World → Prop := fun v w => ∃ ao cap, v = .slice ao vs.length cap ∧ vs.length ≤ cap ∧ cap ≤ maxLen ∧ Sl w v vs ∧ ∀ k, v.ownBlock = some k → B ≤ k
theorem Rd.aside {w w' : World} {q : Nat} {rest : List UInt8} {e : Int} {S : Nat → Prop} (h : Rd w q rest e) (hf : Fr S w w') (hS : ∀ k, S k → q < k) : Rd w' q rest e :=
  let ⟨v, h1, h2, h3⟩ := h
  ⟨v, hf.heap h1 (fun s => by have := hS q s; omega), h2.keep hf (fun k hk s => by have := hS k s; have := h3 k hk; omega), h3⟩

theorem own_keep {S : Nat → Prop} {w w' : World} {B : Nat} {e : TypeId} {v : Value} {n : Nat} {xs : List Value} (h : w.ownsRow B e 1 v n xs) (hf : Fr S w w') (hS : ∀ k, B ≤ k → ¬ S k) : w'.ownsRow B e 1 v n xs := by
  refine ⟨h.1, ?_⟩
  rcases h.2 with hn | ⟨g, cap, cur, rfl, hb, hg, rest⟩
  · exact Or.inl hn
  · exact Or.inr ⟨g, cap, cur, rfl, hb, hf.heap hg (hS g hb), rest⟩
theorem cut_cases {D z a R : List UInt8} (h : D ++ z = a ++ R) (hz : z ≠ []) : (∃ D', D = a ++ D' ∧ D' ++ z = R) ∨ ∃ z', D ++ z' = a ∧ z' ≠ [] := by
  rcases List.append_eq_append_iff.1 h with ⟨c, h1, h2⟩ | ⟨c, h1, h2⟩
  · by_cases hc : c = []
    · subst hc
      left
      exact ⟨[], by simpa using h1.symm, by simpa using h2⟩
    · right
      exact ⟨c, h1.symm, hc⟩
  · left
    exact ⟨c, h1, h2.symm⟩

theorem Tryz.info_int : (Tryz.prog.info? 3).map (fun i => (i.zero, i.size, i.bytes)) = some (some (.int .i64 0), 1, 8) := by kernel_rfl

set_option maxHeartbeats 1000000 in
theorem list_int_in (W : World) (q : Nat) (l : List Int) (len : Nat) (hlen : Hidden (l.length = len)) (most : Int) (more : List UInt8) (hr : Rd W q (i31 (len : Int) ++ ((l.map i31).flatten ++ more)) 0) (h31 : len < 2147483648) (hm : (len : Int) ≤ most)
    (kone : Hidden (∀ (x : Int) (mr : List UInt8) (w1 : World), x ∈ l → Fr (fun k => k = q) W w1 → Rd w1 q (i31 x ++ mr) 0 → Calls Tryz.prog 60 #[rp q] w1 (Took q w1 (Is ((fun x : Int => Value.int .i64 ((u64 x % 2147483648 : Nat) : Int)) x)) mr))) :
    Calls Tryz.prog 97 #[rp q, .int .i64 most, .func (.func 60) #[rp q] #[]] W (Took q W (NewL W.heap.size (l.map (fun x : Int => Value.int .i64 ((u64 x % 2147483648 : Nat) : Int)))) more) := by
  obtain ⟨i0, hi, hz0, hz1, hz2⟩ := info_parts Tryz.info_int
  have hq := hr.lt
  have kc := takeCount_in q _ len most W (by simp) (show numS ((i31 (len : Int) ++ ((l.map i31).flatten ++ more)).take 4) = len by rw [List.take_append_of_le_length (by simp), List.take_of_length_le (by simp)]; exact num_len len h31) h31 hm hr
  rw [show (i31 (len : Int) ++ ((l.map i31).flatten ++ more)).drop 4 = (l.map i31).flatten ++ more by rw [List.drop_append_of_le_length (by simp), List.drop_of_length_le (by simp)]; rfl] at kc
  have kcell : Hidden (∀ w1, Rd w1 q ((l.map i31).flatten ++ more) 0 → ∃ ao cap L, w1.cell? ⟨q, 0, none⟩ = some (.slice ao L cap) ∧ L ≤ 9223372036854775807) := fun w1 h => by
    obtain ⟨ao, cap, h1, _, _, _, h2, h3⟩ := h.cells
    exact ⟨ao, cap, _, h1, by omega⟩
  unfold Took Is at kc
  clear hr
  go_enter Tryz.func97, Tryz.ntmps97
  go_upto_region 2 with (go_at_call 58; refine kc.mono ?_; rintro e w1 ⟨⟨v, rfl, rfl⟩, h1, h2⟩; obtain ⟨ao, cap, L, hc, hL⟩ := kcell w1 h1; have hs1 := h2.size)
  go_cut [8] (fun lv wx => wx.ownsRow W.heap.size 3 1 lv 0 [] ∧ Rd wx q ((l.map i31).flatten ++ more) 0 ∧ Fr (fun k => k = q) W wx)
  case first =>
    have hH : Hidden (∀ w2 lv, w2.ownsRow W.heap.size 3 1 lv 0 [] → w1.grownBy w2 none → w2.ownsRow W.heap.size 3 1 lv 0 [] ∧ Rd w2 q ((l.map i31).flatten ++ more) 0 ∧ Fr (fun k => k = q) W w2) :=
      fun w2 lv hown hg => ⟨hown, h1.aside (Fr.grown hg) (fun k hk => by cases hk), h2.same ((Fr.grown hg).mono (fun k _ hk => by cases hk))⟩
    clear h1 h2 kc kcell
    go_wp2_with (at_make; refine wpList_make_own _ rfl _ _ 45 rfl W.heap.size 3 i0 (.int .i64 0) 1 Tryz.underlying45 hi hz0 hz1 .i64 .i64 _ (min len (L / 4)) rfl rfl (by split <;> omega) (by rw [hz2]; omega) (by unfold maxLen; omega) (by omega) ?_)
    all_goals
      intro w2 hown hg
      have hh : Hidden (w2.ownsRow W.heap.size 3 1 _ 0 [] ∧ Rd w2 q ((l.map i31).flatten ++ more) 0 ∧ Fr (fun k => k = q) W w2) := hH w2 _ hown hg
      clear hown hg hH
      go_wp2
      go_meet
      exact hh
  case rest =>
  have hH : Hidden (wc.ownsRow W.heap.size 3 1 u8 0 [] ∧ Rd wc q ((l.map i31).flatten ++ more) 0 ∧ Fr (fun k => k = q) W wc) := hcut
  clear hcut h1 h2 hc kc kcell hs1 hL
  go_wp2
  go_loopg [8, 22] len (fun k lv iv wr => ∃ j : Nat, iv = .int .i64 (j : Int) ∧ j ≤ len ∧ k = len - j ∧ wr.ownsRow W.heap.size 3 1 lv j ((l.take j).map (fun x : Int => Value.int .i64 ((u64 x % 2147483648 : Nat) : Int))) ∧ Rd wr q (((l.drop j).map i31).flatten ++ more) 0 ∧ Fr (fun k => k = q) W wr)
  case atStart => exact ⟨0, rfl, by omega, rfl, hH⟩
  case round =>
    obtain ⟨j, rfl, hj, hk, hrest⟩ := hrel
    have hkH : Hidden (gk = len - j) := hk
    have hlen' : l.length = len := hlen
    have hrH : Hidden (wr.ownsRow W.heap.size 3 1 u8 j ((l.take j).map (fun x : Int => Value.int .i64 ((u64 x % 2147483648 : Nat) : Int))) ∧ Rd wr q (((l.drop j).map i31).flatten ++ more) 0 ∧ Fr (fun k => k = q) W wr) := hrest
    clear hk hrest hH
    by_cases hjl : j < len
    · obtain ⟨x, hx⟩ : ∃ x, l[j]? = some x := ⟨l[j], List.getElem?_eq_getElem (by omega)⟩
      have hrd : Rd wr q (i31 x ++ (((l.drop (j + 1)).map i31).flatten ++ more)) 0 := by
        have := hrH.2.1
        rw [drop_now hx] at this
        simpa using this
      have k1 := (show ∀ (x : Int) (mr : List UInt8) (w1 : World), x ∈ l → Fr (fun k => k = q) W w1 → Rd w1 q (i31 x ++ mr) 0 → Calls Tryz.prog 60 #[rp q] w1 (Took q w1 (Is ((fun x : Int => Value.int .i64 ((u64 x % 2147483648 : Nat) : Int)) x)) mr) from kone) x _ wr (List.mem_of_getElem? hx) hrH.2.2 hrd
      have htk : Hidden ((l.take (j + 1)).map (fun x : Int => Value.int .i64 ((u64 x % 2147483648 : Nat) : Int)) = (l.take j).map (fun x : Int => Value.int .i64 ((u64 x % 2147483648 : Nat) : Int)) ++ [(fun x : Int => Value.int .i64 ((u64 x % 2147483648 : Nat) : Int)) x]) := by
        show (l.take (j + 1)).map (fun x : Int => Value.int .i64 ((u64 x % 2147483648 : Nat) : Int)) = (l.take j).map (fun x : Int => Value.int .i64 ((u64 x % 2147483648 : Nat) : Int)) ++ [(fun x : Int => Value.int .i64 ((u64 x % 2147483648 : Nat) : Int)) x]
        rw [take_next hx]; simp
      have hsz := hrH.2.2.size
      unfold Took Is at k1
      skip
      clear hx hrd hlen'
      go_wp2_with (first
        | (go_at_call 60; refine k1.mono ?_; rintro e w3 ⟨⟨v, rfl, rfl⟩, h3, h4⟩; have hs3 := h4.size)
        | (at_builtin; refine wpList_append_own _ rfl _ _ 45 rfl W.heap.size 3 i0 (.int .i64 0) 1 8 Tryz.underlying45 hi hz0 hz1 hz2 rfl (by decide) _ j ((l.take j).map (fun x : Int => Value.int .i64 ((u64 x % 2147483648 : Nat) : Int))) rfl ?q0 ⟨w3.heap.size, 0, none⟩ 1 1 [.int .i64 ((u64 x % 2147483648 : Nat) : Int)] rfl rfl ?q1 ?q2 ?q3 ?q4 ?q5 ?_))
      case q0 => exact (own_keep hrH.1 h4 (fun k hk e => by omega)).alloc _
      case q1 => exact cell_one_new w3 _ _
      case q2 => intro u hu; simp at hu; subst hu; rfl
      case q3 => unfold maxLen; omega
      case q4 => omega
      case q5 => simp; omega
      intro v' w4 hown4 hg4 _
      have hfin : Hidden (w4.ownsRow W.heap.size 3 1 v' (j + 1) ((l.take (j + 1)).map (fun x : Int => Value.int .i64 ((u64 x % 2147483648 : Nat) : Int))) ∧ Rd w4 q (((l.drop (j + 1)).map i31).flatten ++ more) 0 ∧ Fr (fun k => k = q) W w4) := by
        have hrow : ∀ k, some k = u8.ownBlock → W.heap.size ≤ k := fun k hk => (hrH.1.lt k hk.symm).1
        refine ⟨?_, ?_, ?_⟩
        · rw [show (l.take (j + 1)).map (fun x : Int => Value.int .i64 ((u64 x % 2147483648 : Nat) : Int)) = _ from htk]; simpa [List.map_take] using hown4
        · exact (h3.keep (Fr.alloc (fun _ => False) w3 _) (fun f => f) (fun _ _ _ _ f => f)).aside (Fr.grown hg4) (fun k hk => by have := hrow k hk; omega)
        · refine (hrH.2.2.same (h4.same (Fr.alloc _ w3 _))).trans (Fr.grown hg4) (fun k hk h => ?_)
          have := hrow k h
          omega
      clear hown4 hg4 h3 h4
      go_wp2
      go_roundg (len - (j + 1))
      case measure =>
        have : gk = len - j := hkH
        omega
      case rel => exact ⟨j + 1, by go_num, by omega, rfl, hfin⟩
    · obtain rfl : j = len := by omega
      have hfin : Hidden (NewL W.heap.size (l.map (fun x : Int => Value.int .i64 ((u64 x % 2147483648 : Nat) : Int))) u8 wr ∧ Rd wr q more 0 ∧ Fr (fun k => k = q) W wr) := by
        obtain ⟨a, b, c⟩ := hrH
        rw [← hlen', List.take_length] at a
        rw [← hlen', List.drop_length] at b
        obtain ⟨hs, hn⟩ := Sl.of_own a
        have hlt := a.lt
        obtain ⟨ao', cap', e, b1, b2, b3⟩ := id hs
        exact ⟨⟨ao', cap', e, b1, b2, hs, fun k hk => (hlt k hk).1⟩, by simpa using b, c⟩
      clear hlen' hrH kone
      go_wp2
      go_ret
      exact ⟨⟨_, rfl, hfin.1⟩, hfin.2⟩
end Go.Proofs.YtakkiipkmogagaaGreat.Wi

namespace Go.Proofs.YtakkiipkmogagaaGreat.Wi
open Go.RowKit
set_option linter.unusedSimpArgs false
set_option linter.unusedVariables false
set_option maxRecDepth 20000

set_option maxHeartbeats 400000 in
theorem catch_text (b q : Nat) (rest : List UInt8) (c : Int) (w : World) (hb : w.cell? ⟨b, 0, none⟩ = some (rp q)) (hr : Rd w q rest 0) (hc : (c == 0) = false) :
    CallsD Tryz.prog 56 #[.pointer (some ⟨b, 0, none⟩)] (giving c false) w fun e u' w' =>
      e = .returned (.tuple #[]) ∧ u' = giving c true ∧ Rd w' q [] c ∧ Fr (fun k => k = q) w w' := by
  have kf := fun o : Obj => fail_first q rest c (w.alloc o) (hr.keep (Fr.alloc (fun _ => False) w o) (fun f => f) (fun _ _ _ _ f => f)) hc
  have hba : ∀ o : Obj, (w.alloc o).cell? ⟨b, 0, none⟩ = some (rp q) := fun o => (Fr.alloc (fun _ => False) w o).cell hb (fun f => f)
  have hta := assert_gave
  clear hr
  refine callsD_of_wpS Tryz.func56 rfl fun c₀ cs hu => ?_
  have e0 : (#[Value.pointer (some ⟨b, 0, none⟩)] ++ Array.replicate (Tryz.f56.ntmps - (#[Value.pointer (some ⟨b, 0, none⟩)] : Array Value).size) undef) = #[Value.pointer (some ⟨b, 0, none⟩), undef, undef, undef, undef, undef, undef, undef, undef, undef, undef, undef, undef, undef] := rfl
  rw [e0]
  clear e0
  apply wpS_seq
  apply wpS_region
  simp [wpOpsS, go_sem, recoverD, hu, Tryz.ntmps56, Exit.thenS, giving]
  refine wpS_of_wp ?_
  go_wp2_with (go_at_call 11; refine (kf _).mono ?_; rintro e w' ⟨rfl, h1, h2⟩)
  refine ⟨rfl, _, rfl, _, results_none rfl _ _ _, rfl, rfl, h1, (Fr.alloc _ w _).same h2⟩

set_option maxHeartbeats 400000 in
theorem idle_text (b : Nat) (w : World) :
    CallsD Tryz.prog 56 #[.pointer (some ⟨b, 0, none⟩)] .returning w fun e u' w' => e = .returned (.tuple #[]) ∧ u' = .returning ∧ w' = w := by
  refine callsD_of_wpS Tryz.func56 rfl fun c₀ cs hu => ?_
  have e0 : (#[Value.pointer (some ⟨b, 0, none⟩)] ++ Array.replicate (Tryz.f56.ntmps - (#[Value.pointer (some ⟨b, 0, none⟩)] : Array Value).size) undef) = #[Value.pointer (some ⟨b, 0, none⟩), undef, undef, undef, undef, undef, undef, undef, undef, undef, undef, undef, undef, undef] := rfl
  rw [e0]
  clear e0
  apply wpS_seq
  apply wpS_region
  simp [wpOpsS, go_sem, recoverD, hu, Tryz.ntmps56, Exit.thenS]
  refine wpS_of_wp ?_
  go_wp2
  refine ⟨rfl, .returning, ?_, _, results_none rfl _ _ _, rfl, rfl, rfl⟩
  rw [← hu]

set_option maxHeartbeats 400000 in
theorem face_text_ok (p0 p1 : Value) (q : Nat) (rest rest' : List UInt8) (A : Value → World → Prop) (w : World) (hr : Rd w q rest 0)
    (kt : Calls Tryz.prog 28 #[p0, p1] (w.alloc (.cells #[rp q] 32)) fun e w' => (∃ v, e = .returned v ∧ A v w') ∧ Rd w' q rest' 0 ∧ Fr (fun k => k = q) (w.alloc (.cells #[rp q] 32)) w') :
    Calls Tryz.prog 27 #[rp q, .func (.func 28) #[] #[p0, p1]] w fun e w' => (∃ v, e = .returned v ∧ A v w') ∧ Rd w' q rest' 0 ∧ Fr (fun k => k = q) w w' := by
  have hmf : ∀ (fn : Fn) (first cap : Array Value) (w : World), (Instr.makeFunc fn first cap).run Tryz.prog w = .ok (.func fn first cap) w := fun _ _ _ _ => rfl
  have ke := fun o : Obj => err_some q rest 0 (w.alloc o) (hr.keep (Fr.alloc (fun _ => False) w o) (fun f => f) (fun _ _ _ _ f => f))
  clear hr
  go_enter_defers Tryz.func27, Tryz.ntmps27
  go_wp2_with (first
    | (go_at_call 37; refine (ke _).mono ?_; rintro e w' ⟨rfl, rfl⟩)
    | (go_at_call 28; refine kt.mono ?_; rintro e w1 ⟨⟨v, rfl, hv⟩, h1, h2⟩))
  refine leaves_cons (f := 56) (args := #[.pointer (some ⟨w.heap.size, 0, none⟩)]) (by simp) (by simp [go_sem]) ?_
  refine (idle_text w.heap.size _).mono ?_
  rintro e u' w'' ⟨rfl, rfl, rfl⟩
  exact ⟨_, results_tmp rfl _ _ _, ⟨v, rfl, hv⟩, h1, (Fr.alloc _ w _).same h2⟩

set_option maxHeartbeats 400000 in
theorem face_text_err (p0 p1 : Value) (q : Nat) (rest : List UInt8) (c : Int) (w : World) (hr : Rd w q rest 0) (hc : (c == 0) = false)
    (kt : Calls Tryz.prog 28 #[p0, p1] (w.alloc (.cells #[rp q] 32)) fun e w' => e = giveUp c ∧ (∃ rest', Rd w' q rest' 0) ∧ Fr (fun k => k = q) (w.alloc (.cells #[rp q] 32)) w') :
    Calls Tryz.prog 27 #[rp q, .func (.func 28) #[] #[p0, p1]] w fun e w' => e = .returned (.string ⟨#[]⟩) ∧ Rd w' q [] c ∧ Fr (fun k => k = q) w w' := by
  have hmf : ∀ (fn : Fn) (first cap : Array Value) (w : World), (Instr.makeFunc fn first cap).run Tryz.prog w = .ok (.func fn first cap) w := fun _ _ _ _ => rfl
  have ke := fun o : Obj => err_some q rest 0 (w.alloc o) (hr.keep (Fr.alloc (fun _ => False) w o) (fun f => f) (fun _ _ _ _ f => f))
  have hq : q < w.heap.size := by obtain ⟨v, h, _⟩ := hr; exact lt_of_heap h
  clear hr
  unfold giveUp at kt
  go_enter_defers Tryz.func27, Tryz.ntmps27
  go_wp2_with (first
    | (go_at_call 37; refine (ke _).mono ?_; rintro e w' ⟨rfl, rfl⟩)
    | (go_at_call 28; refine kt.mono ?_; rintro e w1 ⟨rfl, ⟨rest', h1⟩, h2⟩))
  refine leaves_cons (f := 56) (args := #[.pointer (some ⟨w.heap.size, 0, none⟩)]) (by simp) (by simp [go_sem]) ?_
  have hb : w1.cell? ⟨w.heap.size, 0, none⟩ = some (rp q) := h2.cell (by simp) (by show ¬ w.heap.size = q; omega)
  refine (catch_text w.heap.size q rest' c w1 hb h1 hc).mono ?_
  rintro e u' w'' ⟨rfl, rfl, h3, h4⟩
  simp [Leaves, settle, results, Tryz.results27, go_sem, giving]
  exact ⟨h3, (Fr.alloc _ w _).same (h2.same h4)⟩

set_option maxHeartbeats 400000 in
theorem catch_ints (b q : Nat) (rest : List UInt8) (c : Int) (w : World) (hb : w.cell? ⟨b, 0, none⟩ = some (rp q)) (hr : Rd w q rest 0) (hc : (c == 0) = false) :
    CallsD Tryz.prog 120 #[.pointer (some ⟨b, 0, none⟩)] (giving c false) w fun e u' w' =>
      e = .returned (.tuple #[]) ∧ u' = giving c true ∧ Rd w' q [] c ∧ Fr (fun k => k = q) w w' := by
  have kf := fun o : Obj => fail_first q rest c (w.alloc o) (hr.keep (Fr.alloc (fun _ => False) w o) (fun f => f) (fun _ _ _ _ f => f)) hc
  have hba : ∀ o : Obj, (w.alloc o).cell? ⟨b, 0, none⟩ = some (rp q) := fun o => (Fr.alloc (fun _ => False) w o).cell hb (fun f => f)
  have hta := assert_gave
  clear hr
  refine callsD_of_wpS Tryz.func120 rfl fun c₀ cs hu => ?_
  have e0 : (#[Value.pointer (some ⟨b, 0, none⟩)] ++ Array.replicate (Tryz.f120.ntmps - (#[Value.pointer (some ⟨b, 0, none⟩)] : Array Value).size) undef) = #[Value.pointer (some ⟨b, 0, none⟩), undef, undef, undef, undef, undef, undef, undef, undef, undef, undef, undef, undef, undef] := rfl
  rw [e0]
  clear e0
  apply wpS_seq
  apply wpS_region
  simp [wpOpsS, go_sem, recoverD, hu, Tryz.ntmps120, Exit.thenS, giving]
  refine wpS_of_wp ?_
  go_wp2_with (go_at_call 11; refine (kf _).mono ?_; rintro e w' ⟨rfl, h1, h2⟩)
  refine ⟨rfl, _, rfl, _, results_none rfl _ _ _, rfl, rfl, h1, (Fr.alloc _ w _).same h2⟩

set_option maxHeartbeats 400000 in
theorem idle_ints (b : Nat) (w : World) :
    CallsD Tryz.prog 120 #[.pointer (some ⟨b, 0, none⟩)] .returning w fun e u' w' => e = .returned (.tuple #[]) ∧ u' = .returning ∧ w' = w := by
  refine callsD_of_wpS Tryz.func120 rfl fun c₀ cs hu => ?_
  have e0 : (#[Value.pointer (some ⟨b, 0, none⟩)] ++ Array.replicate (Tryz.f120.ntmps - (#[Value.pointer (some ⟨b, 0, none⟩)] : Array Value).size) undef) = #[Value.pointer (some ⟨b, 0, none⟩), undef, undef, undef, undef, undef, undef, undef, undef, undef, undef, undef, undef, undef] := rfl
  rw [e0]
  clear e0
  apply wpS_seq
  apply wpS_region
  simp [wpOpsS, go_sem, recoverD, hu, Tryz.ntmps120, Exit.thenS]
  refine wpS_of_wp ?_
  go_wp2
  refine ⟨rfl, .returning, ?_, _, results_none rfl _ _ _, rfl, rfl, rfl⟩
  rw [← hu]

set_option maxHeartbeats 400000 in
theorem face_ints_ok (p0 p1 : Value) (q : Nat) (rest rest' : List UInt8) (A : Value → World → Prop) (w : World) (hr : Rd w q rest 0)
    (kt : Calls Tryz.prog 96 #[p0, p1] (w.alloc (.cells #[rp q] 32)) fun e w' => (∃ v, e = .returned v ∧ A v w') ∧ Rd w' q rest' 0 ∧ Fr (fun k => k = q) (w.alloc (.cells #[rp q] 32)) w') :
    Calls Tryz.prog 95 #[rp q, .func (.func 96) #[] #[p0, p1]] w fun e w' => (∃ v, e = .returned v ∧ A v w') ∧ Rd w' q rest' 0 ∧ Fr (fun k => k = q) w w' := by
  have hmf : ∀ (fn : Fn) (first cap : Array Value) (w : World), (Instr.makeFunc fn first cap).run Tryz.prog w = .ok (.func fn first cap) w := fun _ _ _ _ => rfl
  have ke := fun o : Obj => err_some q rest 0 (w.alloc o) (hr.keep (Fr.alloc (fun _ => False) w o) (fun f => f) (fun _ _ _ _ f => f))
  clear hr
  go_enter_defers Tryz.func95, Tryz.ntmps95
  go_wp2_with (first
    | (go_at_call 37; refine (ke _).mono ?_; rintro e w' ⟨rfl, rfl⟩)
    | (go_at_call 96; refine kt.mono ?_; rintro e w1 ⟨⟨v, rfl, hv⟩, h1, h2⟩))
  refine leaves_cons (f := 120) (args := #[.pointer (some ⟨w.heap.size, 0, none⟩)]) (by simp) (by simp [go_sem]) ?_
  refine (idle_ints w.heap.size _).mono ?_
  rintro e u' w'' ⟨rfl, rfl, rfl⟩
  exact ⟨_, results_tmp rfl _ _ _, ⟨v, rfl, hv⟩, h1, (Fr.alloc _ w _).same h2⟩

set_option maxHeartbeats 400000 in
theorem face_ints_err (p0 p1 : Value) (q : Nat) (rest : List UInt8) (c : Int) (w : World) (hr : Rd w q rest 0) (hc : (c == 0) = false)
    (kt : Calls Tryz.prog 96 #[p0, p1] (w.alloc (.cells #[rp q] 32)) fun e w' => e = giveUp c ∧ (∃ rest', Rd w' q rest' 0) ∧ Fr (fun k => k = q) (w.alloc (.cells #[rp q] 32)) w') :
    Calls Tryz.prog 95 #[rp q, .func (.func 96) #[] #[p0, p1]] w fun e w' => e = .returned (.slice none 0 0) ∧ Rd w' q [] c ∧ Fr (fun k => k = q) w w' := by
  have hmf : ∀ (fn : Fn) (first cap : Array Value) (w : World), (Instr.makeFunc fn first cap).run Tryz.prog w = .ok (.func fn first cap) w := fun _ _ _ _ => rfl
  have ke := fun o : Obj => err_some q rest 0 (w.alloc o) (hr.keep (Fr.alloc (fun _ => False) w o) (fun f => f) (fun _ _ _ _ f => f))
  have hq : q < w.heap.size := by obtain ⟨v, h, _⟩ := hr; exact lt_of_heap h
  clear hr
  unfold giveUp at kt
  go_enter_defers Tryz.func95, Tryz.ntmps95
  go_wp2_with (first
    | (go_at_call 37; refine (ke _).mono ?_; rintro e w' ⟨rfl, rfl⟩)
    | (go_at_call 96; refine kt.mono ?_; rintro e w1 ⟨rfl, ⟨rest', h1⟩, h2⟩))
  refine leaves_cons (f := 120) (args := #[.pointer (some ⟨w.heap.size, 0, none⟩)]) (by simp) (by simp [go_sem]) ?_
  have hb : w1.cell? ⟨w.heap.size, 0, none⟩ = some (rp q) := h2.cell (by simp) (by show ¬ w.heap.size = q; omega)
  refine (catch_ints w.heap.size q rest' c w1 hb h1 hc).mono ?_
  rintro e u' w'' ⟨rfl, rfl, h3, h4⟩
  simp [Leaves, settle, results, Tryz.results95, go_sem, giving]
  exact ⟨h3, (Fr.alloc _ w _).same (h2.same h4)⟩
end Go.Proofs.YtakkiipkmogagaaGreat.Wi

namespace Go.Proofs.YtakkiipkmogagaaGreat.Wi
open Go.RowKit
set_option linter.unusedSimpArgs false
set_option linter.unusedVariables false
set_option maxRecDepth 20000

theorem mkfn (fn : Fn) (first cap : Array Value) (w : World) : (Instr.makeFunc fn first cap).run Tryz.prog w = .ok (.func fn first cap) w := rfl
theorem Rd.later {w w' : World} {q : Nat} {rest : List UInt8} {e : Int} (h : Rd w q rest e) (hf : Fr (fun _ => False) w w') : Rd w' q rest e :=
  h.keep hf (fun f => f) (fun _ _ _ _ f => f)
theorem box1 {w w' : World} {v : Value} {t : TypeId} {n : Nat} (hn : w.heap.size = n) (hf : Fr (fun _ => False) (w.alloc (.cells #[v] t)) w') : w'.cell? ⟨n, 0, none⟩ = some v := by
  subst hn
  have h := hf.heap (alloc_new w _) (fun f => f)
  rw [cell_of_row w' w.heap.size 0 _ _ _ h]
  rfl
/-- It failed. -/
def Failed (q : Nat) (w : World) (zero : Value) (c : Int) (e : Ending) (w' : World) : Prop := e = .returned zero ∧ Rd w' q [] c ∧ Fr (fun k => k = q) w w'
theorem Took.past {q : Nat} {w w1 w' : World} {A : Value → World → Prop} {rest : List UInt8} {e : Ending} (hf : Fr (fun _ => False) w w1) (h : Took q w1 A rest e w') : Took q w A rest e w' := ⟨h.1, h.2.1, (hf.mono (fun _ _ f => f.elim)).same h.2.2⟩
theorem Failed.past {q : Nat} {w w1 w' : World} {z : Value} {c : Int} {e : Ending} (hf : Fr (fun _ => False) w w1) (h : Failed q w1 z c e w') : Failed q w z c e w' := ⟨h.1, h.2.1, (hf.mono (fun _ _ f => f.elim)).same h.2.2⟩

theorem rd_Byte_in (q : Nat) (rest rest' : List UInt8) (A : Value → World → Prop) (w : World) (hr : Rd w q rest 0) (kt : ∀ w1, Rd w1 q rest 0 → Calls Tryz.prog 92 #[rp q] w1 (Took q w1 A rest')) :
    Calls Tryz.prog 61 #[rp q] w (Took q w A rest') := by
  have hmf := mkfn
  have kf := face_byte_ok q rest rest' A w hr (kt _ (hr.later (Fr.alloc _ w _)))
  unfold Took
  clear hr kt
  go_enter Tryz.func61, Tryz.ntmps61
  go_wp2_with (go_at_call 91; refine kf.mono ?_; rintro e w1 ⟨⟨v, rfl, hv⟩, h1, h2⟩)
  go_ret
  exact ⟨⟨_, rfl, hv⟩, h1, h2⟩
theorem rd_Byte_out (q : Nat) (rest : List UInt8) (c : Int) (w : World) (hc : (c == 0) = false) (hr : Rd w q rest 0) (kt : ∀ w1, Rd w1 q rest 0 → Calls Tryz.prog 92 #[rp q] w1 (Gave q w1 c)) :
    Calls Tryz.prog 61 #[rp q] w (Failed q w (.int .u8 0) c) := by
  have hmf := mkfn
  have kf := face_byte_err q rest c w hr hc (kt _ (hr.later (Fr.alloc _ w _)))
  unfold Failed
  clear hr kt
  go_enter Tryz.func61, Tryz.ntmps61
  go_wp2_with (go_at_call 91; refine kf.mono ?_; rintro e w1 ⟨rfl, h1, h2⟩)
  go_ret
  exact ⟨rfl, h1, h2⟩

theorem rd_Int_in (q : Nat) (rest rest' : List UInt8) (A : Value → World → Prop) (w : World) (hr : Rd w q rest 0) (kt : ∀ w1, Rd w1 q rest 0 → Calls Tryz.prog 60 #[rp q] w1 (Took q w1 A rest')) :
    Calls Tryz.prog 30 #[rp q] w (Took q w A rest') := by
  have hmf := mkfn
  have kf := face_int_ok q rest rest' A w hr (kt _ (hr.later (Fr.alloc _ w _)))
  unfold Took
  clear hr kt
  go_enter Tryz.func30, Tryz.ntmps30
  go_wp2_with (go_at_call 59; refine kf.mono ?_; rintro e w1 ⟨⟨v, rfl, hv⟩, h1, h2⟩)
  go_ret
  exact ⟨⟨_, rfl, hv⟩, h1, h2⟩
theorem rd_Int_out (q : Nat) (rest : List UInt8) (c : Int) (w : World) (hc : (c == 0) = false) (hr : Rd w q rest 0) (kt : ∀ w1, Rd w1 q rest 0 → Calls Tryz.prog 60 #[rp q] w1 (Gave q w1 c)) :
    Calls Tryz.prog 30 #[rp q] w (Failed q w (.int .i64 0) c) := by
  have hmf := mkfn
  have kf := face_int_err q rest c w hr hc (kt _ (hr.later (Fr.alloc _ w _)))
  unfold Failed
  clear hr kt
  go_enter Tryz.func30, Tryz.ntmps30
  go_wp2_with (go_at_call 59; refine kf.mono ?_; rintro e w1 ⟨rfl, h1, h2⟩)
  go_ret
  exact ⟨rfl, h1, h2⟩

theorem rd_Long_in (q : Nat) (rest rest' : List UInt8) (A : Value → World → Prop) (w : World) (hr : Rd w q rest 0) (kt : ∀ w1, Rd w1 q rest 0 → Calls Tryz.prog 94 #[rp q] w1 (Took q w1 A rest')) :
    Calls Tryz.prog 62 #[rp q] w (Took q w A rest') := by
  have hmf := mkfn
  have kf := face_long_ok q rest rest' A w hr (kt _ (hr.later (Fr.alloc _ w _)))
  unfold Took
  clear hr kt
  go_enter Tryz.func62, Tryz.ntmps62
  go_wp2_with (go_at_call 93; refine kf.mono ?_; rintro e w1 ⟨⟨v, rfl, hv⟩, h1, h2⟩)
  go_ret
  exact ⟨⟨_, rfl, hv⟩, h1, h2⟩
theorem rd_Long_out (q : Nat) (rest : List UInt8) (c : Int) (w : World) (hc : (c == 0) = false) (hr : Rd w q rest 0) (kt : ∀ w1, Rd w1 q rest 0 → Calls Tryz.prog 94 #[rp q] w1 (Gave q w1 c)) :
    Calls Tryz.prog 62 #[rp q] w (Failed q w (.int .u64 0) c) := by
  have hmf := mkfn
  have kf := face_long_err q rest c w hr hc (kt _ (hr.later (Fr.alloc _ w _)))
  unfold Failed
  clear hr kt
  go_enter Tryz.func62, Tryz.ntmps62
  go_wp2_with (go_at_call 93; refine kf.mono ?_; rintro e w1 ⟨rfl, h1, h2⟩)
  go_ret
  exact ⟨rfl, h1, h2⟩

theorem clo_Text_in (q b0 b1 : Nat) (A : Value → World → Prop) (rest' : List UInt8) (w : World) (h0 : w.cell? ⟨b0, 0, none⟩ = some (rp q)) (h1 : w.cell? ⟨b1, 0, none⟩ = some (.int .i64 32)) (kt : Calls Tryz.prog 29 #[rp q, .int .i64 32] w (Took q w A rest')) :
    Calls Tryz.prog 28 #[.pointer (some ⟨b0, 0, none⟩), .pointer (some ⟨b1, 0, none⟩)] w (Took q w A rest') := by
  have hmf := mkfn
  unfold Took at *
  go_enter Tryz.func28, Tryz.ntmps28
  go_wp2_with (go_at_call 29; refine kt.mono ?_; rintro e w1 ⟨⟨v, rfl, hv⟩, h1', h2'⟩)
  go_ret
  exact ⟨⟨_, rfl, hv⟩, h1', h2'⟩

theorem clo_Text_out (q b0 b1 : Nat) (c : Int) (w : World) (h0 : w.cell? ⟨b0, 0, none⟩ = some (rp q)) (h1 : w.cell? ⟨b1, 0, none⟩ = some (.int .i64 32)) (kt : Calls Tryz.prog 29 #[rp q, .int .i64 32] w (Gave q w c)) :
    Calls Tryz.prog 28 #[.pointer (some ⟨b0, 0, none⟩), .pointer (some ⟨b1, 0, none⟩)] w (Gave q w c) := by
  have hmf := mkfn
  unfold Gave giveUp at *
  go_enter Tryz.func28, Tryz.ntmps28
  go_wp2_with (go_at_call 29; refine kt.mono ?_; rintro e w1 ⟨rfl, h1', h2'⟩)

  exact ⟨rfl, rfl, h1', h2'⟩

set_option maxHeartbeats 400000 in
theorem rd_Text_in (q : Nat) (rest rest' : List UInt8) (A : Value → World → Prop) (w : World) (hr : Rd w q rest 0) (kt : ∀ w1, Fr (fun _ => False) ((w.alloc (.cells #[rp q] 32)).alloc (.cells #[.int .i64 32] 3)) w1 → Rd w1 q rest 0 → Calls Tryz.prog 29 #[rp q, .int .i64 32] w1 (Took q w1 A rest')) :
    Calls Tryz.prog 9 #[rp q, .int .i64 32] w (Took q w A rest') := by
  have hmf := mkfn
  obtain ⟨W2, hW2⟩ : ∃ W2, ((w.alloc (.cells #[rp q] 32)).alloc (.cells #[.int .i64 32] 3)) = W2 := ⟨_, rfl⟩
  have hF : Fr (fun _ => False) w W2 := by rw [← hW2]; exact (Fr.alloc _ w _).same (Fr.alloc _ _ _)
  have kf := face_text_ok (.pointer (some ⟨w.heap.size, 0, none⟩)) (.pointer (some ⟨w.heap.size + 1, 0, none⟩)) q rest rest' A W2 (hr.later hF) (by
    refine clo_Text_in q w.heap.size (w.heap.size + 1) A rest' _ ?_ ?_ (kt _ (by rw [hW2]; exact Fr.alloc _ _ _) ((hr.later hF).later (Fr.alloc _ _ _)))
    all_goals
      rw [← hW2]
      first
        | exact box1 (w := w) rfl (by repeat (first | exact Fr.alloc _ _ _ | refine Fr.same ?_ (Fr.alloc _ _ _)))
        | exact box1 (w := w.alloc _) (by simp) (by repeat (first | exact Fr.alloc _ _ _ | refine Fr.same ?_ (Fr.alloc _ _ _)))
        | exact box1 (w := ((w.alloc _).alloc _).alloc _) (by simp) (by repeat (first | exact Fr.alloc _ _ _ | refine Fr.same ?_ (Fr.alloc _ _ _))))
  have hF2 : Hidden (Fr (fun _ => False) w W2) := hF
  rw [← hW2] at kf hF2
  unfold Took
  clear hr kt hW2 hF
  go_enter Tryz.func9, Tryz.ntmps9
  go_wp2_with (go_at_call 27; refine kf.mono ?_; rintro e w1 ⟨⟨v, rfl, hv⟩, h1, h2⟩)
  go_ret
  exact ⟨⟨_, rfl, hv⟩, h1, (Fr.mono (show Fr (fun _ => False) w _ from hF2) (fun _ _ f => f.elim)).same h2⟩

set_option maxHeartbeats 400000 in
theorem rd_Text_out (q : Nat) (rest : List UInt8) (c : Int) (w : World) (hc : (c == 0) = false) (hr : Rd w q rest 0) (kt : ∀ w1, Fr (fun _ => False) ((w.alloc (.cells #[rp q] 32)).alloc (.cells #[.int .i64 32] 3)) w1 → Rd w1 q rest 0 → Calls Tryz.prog 29 #[rp q, .int .i64 32] w1 (Gave q w1 c)) :
    Calls Tryz.prog 9 #[rp q, .int .i64 32] w (Failed q w (.string ⟨#[]⟩) c) := by
  have hmf := mkfn
  obtain ⟨W2, hW2⟩ : ∃ W2, ((w.alloc (.cells #[rp q] 32)).alloc (.cells #[.int .i64 32] 3)) = W2 := ⟨_, rfl⟩
  have hF : Fr (fun _ => False) w W2 := by rw [← hW2]; exact (Fr.alloc _ w _).same (Fr.alloc _ _ _)
  have kf := face_text_err (.pointer (some ⟨w.heap.size, 0, none⟩)) (.pointer (some ⟨w.heap.size + 1, 0, none⟩)) q rest c W2 (hr.later hF) hc (by
    refine clo_Text_out q w.heap.size (w.heap.size + 1) c _ ?_ ?_ (kt _ (by rw [hW2]; exact Fr.alloc _ _ _) ((hr.later hF).later (Fr.alloc _ _ _)))
    all_goals
      rw [← hW2]
      first
        | exact box1 (w := w) rfl (by repeat (first | exact Fr.alloc _ _ _ | refine Fr.same ?_ (Fr.alloc _ _ _)))
        | exact box1 (w := w.alloc _) (by simp) (by repeat (first | exact Fr.alloc _ _ _ | refine Fr.same ?_ (Fr.alloc _ _ _)))
        | exact box1 (w := ((w.alloc _).alloc _).alloc _) (by simp) (by repeat (first | exact Fr.alloc _ _ _ | refine Fr.same ?_ (Fr.alloc _ _ _))))
  have hF2 : Hidden (Fr (fun _ => False) w W2) := hF
  rw [← hW2] at kf hF2
  unfold Failed
  clear hr kt hW2 hF
  go_enter Tryz.func9, Tryz.ntmps9
  go_wp2_with (go_at_call 27; refine kf.mono ?_; rintro e w1 ⟨rfl, h1, h2⟩)
  go_ret
  exact ⟨rfl, h1, (Fr.mono (show Fr (fun _ => False) w _ from hF2) (fun _ _ f => f.elim)).same h2⟩

theorem clo_Ints_in (q b0 b1 : Nat) (A : Value → World → Prop) (rest' : List UInt8) (w : World) (h0 : w.cell? ⟨b0, 0, none⟩ = some (rp q)) (h1 : w.cell? ⟨b1, 0, none⟩ = some (.int .i64 8)) (kt : Calls Tryz.prog 97 #[rp q, .int .i64 8, .func (.func 60) #[rp q] #[]] w (Took q w A rest')) :
    Calls Tryz.prog 96 #[.pointer (some ⟨b0, 0, none⟩), .pointer (some ⟨b1, 0, none⟩)] w (Took q w A rest') := by
  have hmf := mkfn
  unfold Took at *
  go_enter Tryz.func96, Tryz.ntmps96
  go_wp2_with (go_at_call 97; refine kt.mono ?_; rintro e w1 ⟨⟨v, rfl, hv⟩, h1', h2'⟩)
  go_ret
  exact ⟨⟨_, rfl, hv⟩, h1', h2'⟩

theorem clo_Ints_out (q b0 b1 : Nat) (c : Int) (w : World) (h0 : w.cell? ⟨b0, 0, none⟩ = some (rp q)) (h1 : w.cell? ⟨b1, 0, none⟩ = some (.int .i64 8)) (kt : Calls Tryz.prog 97 #[rp q, .int .i64 8, .func (.func 60) #[rp q] #[]] w (Gave q w c)) :
    Calls Tryz.prog 96 #[.pointer (some ⟨b0, 0, none⟩), .pointer (some ⟨b1, 0, none⟩)] w (Gave q w c) := by
  have hmf := mkfn
  unfold Gave giveUp at *
  go_enter Tryz.func96, Tryz.ntmps96
  go_wp2_with (go_at_call 97; refine kt.mono ?_; rintro e w1 ⟨rfl, h1', h2'⟩)

  exact ⟨rfl, rfl, h1', h2'⟩

set_option maxHeartbeats 400000 in
theorem rd_Ints_in (q : Nat) (rest rest' : List UInt8) (A : Value → World → Prop) (w : World) (hr : Rd w q rest 0) (kt : ∀ w1, Fr (fun _ => False) ((w.alloc (.cells #[rp q] 32)).alloc (.cells #[.int .i64 8] 3)) w1 → Rd w1 q rest 0 → Calls Tryz.prog 97 #[rp q, .int .i64 8, .func (.func 60) #[rp q] #[]] w1 (Took q w1 A rest')) :
    Calls Tryz.prog 63 #[rp q, .int .i64 8] w (Took q w A rest') := by
  have hmf := mkfn
  obtain ⟨W2, hW2⟩ : ∃ W2, ((w.alloc (.cells #[rp q] 32)).alloc (.cells #[.int .i64 8] 3)) = W2 := ⟨_, rfl⟩
  have hF : Fr (fun _ => False) w W2 := by rw [← hW2]; exact (Fr.alloc _ w _).same (Fr.alloc _ _ _)
  have kf := face_ints_ok (.pointer (some ⟨w.heap.size, 0, none⟩)) (.pointer (some ⟨w.heap.size + 1, 0, none⟩)) q rest rest' A W2 (hr.later hF) (by
    refine clo_Ints_in q w.heap.size (w.heap.size + 1) A rest' _ ?_ ?_ (kt _ (by rw [hW2]; exact Fr.alloc _ _ _) ((hr.later hF).later (Fr.alloc _ _ _)))
    all_goals
      rw [← hW2]
      first
        | exact box1 (w := w) rfl (by repeat (first | exact Fr.alloc _ _ _ | refine Fr.same ?_ (Fr.alloc _ _ _)))
        | exact box1 (w := w.alloc _) (by simp) (by repeat (first | exact Fr.alloc _ _ _ | refine Fr.same ?_ (Fr.alloc _ _ _)))
        | exact box1 (w := ((w.alloc _).alloc _).alloc _) (by simp) (by repeat (first | exact Fr.alloc _ _ _ | refine Fr.same ?_ (Fr.alloc _ _ _))))
  have hF2 : Hidden (Fr (fun _ => False) w W2) := hF
  rw [← hW2] at kf hF2
  unfold Took
  clear hr kt hW2 hF
  go_enter Tryz.func63, Tryz.ntmps63
  go_wp2_with (go_at_call 95; refine kf.mono ?_; rintro e w1 ⟨⟨v, rfl, hv⟩, h1, h2⟩)
  go_ret
  exact ⟨⟨_, rfl, hv⟩, h1, (Fr.mono (show Fr (fun _ => False) w _ from hF2) (fun _ _ f => f.elim)).same h2⟩

set_option maxHeartbeats 400000 in
theorem rd_Ints_out (q : Nat) (rest : List UInt8) (c : Int) (w : World) (hc : (c == 0) = false) (hr : Rd w q rest 0) (kt : ∀ w1, Fr (fun _ => False) ((w.alloc (.cells #[rp q] 32)).alloc (.cells #[.int .i64 8] 3)) w1 → Rd w1 q rest 0 → Calls Tryz.prog 97 #[rp q, .int .i64 8, .func (.func 60) #[rp q] #[]] w1 (Gave q w1 c)) :
    Calls Tryz.prog 63 #[rp q, .int .i64 8] w (Failed q w (.slice none 0 0) c) := by
  have hmf := mkfn
  obtain ⟨W2, hW2⟩ : ∃ W2, ((w.alloc (.cells #[rp q] 32)).alloc (.cells #[.int .i64 8] 3)) = W2 := ⟨_, rfl⟩
  have hF : Fr (fun _ => False) w W2 := by rw [← hW2]; exact (Fr.alloc _ w _).same (Fr.alloc _ _ _)
  have kf := face_ints_err (.pointer (some ⟨w.heap.size, 0, none⟩)) (.pointer (some ⟨w.heap.size + 1, 0, none⟩)) q rest c W2 (hr.later hF) hc (by
    refine clo_Ints_out q w.heap.size (w.heap.size + 1) c _ ?_ ?_ (kt _ (by rw [hW2]; exact Fr.alloc _ _ _) ((hr.later hF).later (Fr.alloc _ _ _)))
    all_goals
      rw [← hW2]
      first
        | exact box1 (w := w) rfl (by repeat (first | exact Fr.alloc _ _ _ | refine Fr.same ?_ (Fr.alloc _ _ _)))
        | exact box1 (w := w.alloc _) (by simp) (by repeat (first | exact Fr.alloc _ _ _ | refine Fr.same ?_ (Fr.alloc _ _ _)))
        | exact box1 (w := ((w.alloc _).alloc _).alloc _) (by simp) (by repeat (first | exact Fr.alloc _ _ _ | refine Fr.same ?_ (Fr.alloc _ _ _))))
  have hF2 : Hidden (Fr (fun _ => False) w W2) := hF
  rw [← hW2] at kf hF2
  unfold Failed
  clear hr kt hW2 hF
  go_enter Tryz.func63, Tryz.ntmps63
  go_wp2_with (go_at_call 95; refine kf.mono ?_; rintro e w1 ⟨rfl, h1, h2⟩)
  go_ret
  exact ⟨rfl, h1, (Fr.mono (show Fr (fun _ => False) w _ from hF2) (fun _ _ f => f.elim)).same h2⟩
end Go.Proofs.YtakkiipkmogagaaGreat.Wi

namespace Go.Proofs.YtakkiipkmogagaaGreat.Wi
open Go.RowKit
set_option linter.unusedSimpArgs false
set_option linter.unusedVariables false
set_option maxRecDepth 20000


set_option maxHeartbeats 1000000 in
theorem list_int_out (W : World) (q : Nat) (l : List Int) (len : Nat) (hlen : Hidden (l.length = len)) (most : Int) (D z : List UInt8) (hz : Hidden (z ≠ [])) (hD : Hidden (D ++ z = (l.map i31).flatten)) (hr : Rd W q (i31 (len : Int) ++ D) 0) (h31 : len < 2147483648) (hm : (len : Int) ≤ most)
    (kone : Hidden (∀ (x : Int) (mr : List UInt8) (w1 : World), x ∈ l → Fr (fun k => k = q) W w1 → Rd w1 q (i31 x ++ mr) 0 → Calls Tryz.prog 60 #[rp q] w1 (Took q w1 (Is ((fun x : Int => Value.int .i64 ((u64 x % 2147483648 : Nat) : Int)) x)) mr)))
    (kout : Hidden (∀ (x : Int) (D' z' : List UInt8) (w1 : World), x ∈ l → Fr (fun k => k = q) W w1 → D' ++ z' = i31 x → z' ≠ [] → Rd w1 q D' 0 → Calls Tryz.prog 60 #[rp q] w1 (Gave q w1 40))) :
    Calls Tryz.prog 97 #[rp q, .int .i64 most, .func (.func 60) #[rp q] #[]] W (Gave q W 40) := by
  obtain ⟨i0, hi, hz0, hz1, hz2⟩ := info_parts Tryz.info_int
  have hq := hr.lt
  have kc := takeCount_in q _ len most W (by simp) (show numS ((i31 (len : Int) ++ D).take 4) = len by rw [List.take_append_of_le_length (by simp), List.take_of_length_le (by simp)]; exact num_len len h31) h31 hm hr
  rw [show (i31 (len : Int) ++ D).drop 4 = D by rw [List.drop_append_of_le_length (by simp), List.drop_of_length_le (by simp)]; rfl] at kc
  have kcell : Hidden (∀ w1, Rd w1 q D 0 → ∃ ao cap L, w1.cell? ⟨q, 0, none⟩ = some (.slice ao L cap) ∧ L ≤ 9223372036854775807) := fun w1 h => by
    obtain ⟨ao, cap, h1, _, _, _, h2, h3⟩ := h.cells
    exact ⟨ao, cap, _, h1, by omega⟩
  unfold Took Is at kc
  clear hr
  unfold Gave
  go_enter Tryz.func97, Tryz.ntmps97
  go_upto_region 2 with (go_at_call 58; refine kc.mono ?_; rintro e w1 ⟨⟨v, rfl, rfl⟩, h1, h2⟩; obtain ⟨ao, cap, L, hc, hL⟩ := kcell w1 h1; have hs1 := h2.size)
  go_cut [8] (fun lv wx => wx.ownsRow W.heap.size 3 1 lv 0 [] ∧ Rd wx q D 0 ∧ Fr (fun k => k = q) W wx)
  case first =>
    have hH : Hidden (∀ w2 lv, w2.ownsRow W.heap.size 3 1 lv 0 [] → w1.grownBy w2 none → w2.ownsRow W.heap.size 3 1 lv 0 [] ∧ Rd w2 q D 0 ∧ Fr (fun k => k = q) W w2) :=
      fun w2 lv hown hg => ⟨hown, h1.aside (Fr.grown hg) (fun k hk => by cases hk), h2.same ((Fr.grown hg).mono (fun k _ hk => by cases hk))⟩
    clear h1 h2 kc kcell
    go_wp2_with (at_make; refine wpList_make_own _ rfl _ _ 45 rfl W.heap.size 3 i0 (.int .i64 0) 1 Tryz.underlying45 hi hz0 hz1 .i64 .i64 _ (min len (L / 4)) rfl rfl (by split <;> omega) (by rw [hz2]; omega) (by unfold maxLen; omega) (by omega) ?_)
    all_goals
      intro w2 hown hg
      have hh : Hidden (w2.ownsRow W.heap.size 3 1 _ 0 [] ∧ Rd w2 q D 0 ∧ Fr (fun k => k = q) W w2) := hH w2 _ hown hg
      clear hown hg hH
      go_wp2
      go_meet
      exact hh
  case rest =>
  have hH : Hidden (wc.ownsRow W.heap.size 3 1 u8 0 [] ∧ Rd wc q D 0 ∧ Fr (fun k => k = q) W wc) := hcut
  clear hcut h1 h2 hc kc kcell hs1 hL
  go_wp2
  go_loopg [8, 22] len (fun k lv iv wr => ∃ (j : Nat) (D' : List UInt8), iv = .int .i64 (j : Int) ∧ j ≤ len ∧ k = len - j ∧ D' ++ z = ((l.drop j).map i31).flatten ∧ wr.ownsRow W.heap.size 3 1 lv j ((l.take j).map (fun x : Int => Value.int .i64 ((u64 x % 2147483648 : Nat) : Int))) ∧ Rd wr q D' 0 ∧ Fr (fun k => k = q) W wr)
  case atStart => exact ⟨0, D, rfl, by omega, rfl, hD, hH⟩
  case round =>
    obtain ⟨j, D', rfl, hj, hk, hDz, hrest⟩ := hrel
    have hkH : Hidden (gk = len - j) := hk
    have hlen' : l.length = len := hlen
    have hrH : Hidden (wr.ownsRow W.heap.size 3 1 u8 j ((l.take j).map (fun x : Int => Value.int .i64 ((u64 x % 2147483648 : Nat) : Int))) ∧ Rd wr q D' 0 ∧ Fr (fun k => k = q) W wr) := hrest
    clear hk hrest hH
    by_cases hjl : j < len
    · obtain ⟨x, hx⟩ : ∃ x, l[j]? = some x := ⟨l[j], List.getElem?_eq_getElem (by omega)⟩
      have hDx : D' ++ z = i31 x ++ ((l.drop (j + 1)).map i31).flatten := by
        rw [drop_now hx] at hDz
        simpa using hDz
      rcases (cut_cases hDx hz).symm with ⟨z', hz1, hz2⟩ | ⟨D2, rfl, hD2⟩
      · have k2 := (show ∀ (x : Int) (D' z' : List UInt8) (w1 : World), x ∈ l → Fr (fun k => k = q) W w1 → D' ++ z' = i31 x → z' ≠ [] → Rd w1 q D' 0 → Calls Tryz.prog 60 #[rp q] w1 (Gave q w1 40) from kout) x D' z' wr (List.mem_of_getElem? hx) hrH.2.2 hz1 hz2 hrH.2.1
        unfold Gave giveUp at k2
        clear hx hlen' hDz hDx hz1 hz2
        go_wp2_with (go_at_call 60; refine k2.mono ?_; rintro e w3 ⟨rfl, h3, h4⟩)
        exact ⟨rfl, rfl, h3, hrH.2.2.same h4⟩
      have hD2H : Hidden (D2 ++ z = ((l.drop (j + 1)).map i31).flatten) := hD2
      have k1 := (show ∀ (x : Int) (mr : List UInt8) (w1 : World), x ∈ l → Fr (fun k => k = q) W w1 → Rd w1 q (i31 x ++ mr) 0 → Calls Tryz.prog 60 #[rp q] w1 (Took q w1 (Is ((fun x : Int => Value.int .i64 ((u64 x % 2147483648 : Nat) : Int)) x)) mr) from kone) x _ wr (List.mem_of_getElem? hx) hrH.2.2 hrH.2.1
      have htk : Hidden ((l.take (j + 1)).map (fun x : Int => Value.int .i64 ((u64 x % 2147483648 : Nat) : Int)) = (l.take j).map (fun x : Int => Value.int .i64 ((u64 x % 2147483648 : Nat) : Int)) ++ [(fun x : Int => Value.int .i64 ((u64 x % 2147483648 : Nat) : Int)) x]) := by
        show (l.take (j + 1)).map (fun x : Int => Value.int .i64 ((u64 x % 2147483648 : Nat) : Int)) = (l.take j).map (fun x : Int => Value.int .i64 ((u64 x % 2147483648 : Nat) : Int)) ++ [(fun x : Int => Value.int .i64 ((u64 x % 2147483648 : Nat) : Int)) x]
        rw [take_next hx]; simp
      have hsz := hrH.2.2.size
      unfold Took Is at k1
      skip
      clear hx hlen' hDz hDx hD2
      go_wp2_with (first
        | (go_at_call 60; refine k1.mono ?_; rintro e w3 ⟨⟨v, rfl, rfl⟩, h3, h4⟩; have hs3 := h4.size)
        | (at_builtin; refine wpList_append_own _ rfl _ _ 45 rfl W.heap.size 3 i0 (.int .i64 0) 1 8 Tryz.underlying45 hi hz0 hz1 hz2 rfl (by decide) _ j ((l.take j).map (fun x : Int => Value.int .i64 ((u64 x % 2147483648 : Nat) : Int))) rfl ?q0 ⟨w3.heap.size, 0, none⟩ 1 1 [.int .i64 ((u64 x % 2147483648 : Nat) : Int)] rfl rfl ?q1 ?q2 ?q3 ?q4 ?q5 ?_))
      case q0 => exact (own_keep hrH.1 h4 (fun k hk e => by omega)).alloc _
      case q1 => exact cell_one_new w3 _ _
      case q2 => intro u hu; simp at hu; subst hu; rfl
      case q3 => unfold maxLen; omega
      case q4 => omega
      case q5 => simp; omega
      intro v' w4 hown4 hg4 _
      have hfin : Hidden (w4.ownsRow W.heap.size 3 1 v' (j + 1) ((l.take (j + 1)).map (fun x : Int => Value.int .i64 ((u64 x % 2147483648 : Nat) : Int))) ∧ Rd w4 q D2 0 ∧ Fr (fun k => k = q) W w4) := by
        have hrow : ∀ k, some k = u8.ownBlock → W.heap.size ≤ k := fun k hk => (hrH.1.lt k hk.symm).1
        refine ⟨?_, ?_, ?_⟩
        · rw [show (l.take (j + 1)).map (fun x : Int => Value.int .i64 ((u64 x % 2147483648 : Nat) : Int)) = _ from htk]; simpa [List.map_take] using hown4
        · exact (h3.keep (Fr.alloc (fun _ => False) w3 _) (fun f => f) (fun _ _ _ _ f => f)).aside (Fr.grown hg4) (fun k hk => by have := hrow k hk; omega)
        · refine (hrH.2.2.same (h4.same (Fr.alloc _ w3 _))).trans (Fr.grown hg4) (fun k hk h => ?_)
          have := hrow k h
          omega
      clear hown4 hg4 h3 h4
      go_wp2
      go_roundg (len - (j + 1))
      case measure =>
        have : gk = len - j := hkH
        omega
      case rel => exact ⟨j + 1, D2, by go_num, by omega, rfl, hD2H, hfin⟩
    · obtain rfl : j = len := by omega
      rw [← hlen', List.drop_length] at hDz
      exact absurd (show D' = [] ∧ z = [] by simpa using hDz).2 hz
end Go.Proofs.YtakkiipkmogagaaGreat.Wi

namespace Go.Proofs.YtakkiipkmogagaaGreat.Wi
open Go.RowKit
set_option linter.unusedSimpArgs false
set_option linter.unusedVariables false
set_option maxRecDepth 20000

theorem face_byte_dead (pv fv : Value) (c : Int) (w : World) (hc : (c == 0) = false) (hp : ∃ a, pv = .pointer a) (hfv : ∃ x y z, fv = .func x y z)
    (ke : ∀ o : Obj, Calls Tryz.prog 37 #[pv] (w.alloc o) fun e w' => e = .returned (.int .i64 c) ∧ w.alloc o = w') :
    Calls Tryz.prog 91 #[pv, fv] w fun e w' => e = .returned (.int .u8 0) ∧ w' = w.alloc (.cells #[pv] 32) := by
  obtain ⟨a, rfl⟩ := hp
  obtain ⟨x, y, z, rfl⟩ := hfv
  go_enter_defers Tryz.func91, Tryz.ntmps91
  go_wp2_with (go_at_call 37; refine (ke _).mono ?_; rintro e w' ⟨rfl, rfl⟩)
  exact ⟨_, results_tmp rfl _ _ _, rfl, rfl⟩
theorem face_int_dead (pv fv : Value) (c : Int) (w : World) (hc : (c == 0) = false) (hp : ∃ a, pv = .pointer a) (hfv : ∃ x y z, fv = .func x y z)
    (ke : ∀ o : Obj, Calls Tryz.prog 37 #[pv] (w.alloc o) fun e w' => e = .returned (.int .i64 c) ∧ w.alloc o = w') :
    Calls Tryz.prog 59 #[pv, fv] w fun e w' => e = .returned (.int .i64 0) ∧ w' = w.alloc (.cells #[pv] 32) := by
  obtain ⟨a, rfl⟩ := hp
  obtain ⟨x, y, z, rfl⟩ := hfv
  go_enter_defers Tryz.func59, Tryz.ntmps59
  go_wp2_with (go_at_call 37; refine (ke _).mono ?_; rintro e w' ⟨rfl, rfl⟩)
  exact ⟨_, results_tmp rfl _ _ _, rfl, rfl⟩
theorem face_long_dead (pv fv : Value) (c : Int) (w : World) (hc : (c == 0) = false) (hp : ∃ a, pv = .pointer a) (hfv : ∃ x y z, fv = .func x y z)
    (ke : ∀ o : Obj, Calls Tryz.prog 37 #[pv] (w.alloc o) fun e w' => e = .returned (.int .i64 c) ∧ w.alloc o = w') :
    Calls Tryz.prog 93 #[pv, fv] w fun e w' => e = .returned (.int .u64 0) ∧ w' = w.alloc (.cells #[pv] 32) := by
  obtain ⟨a, rfl⟩ := hp
  obtain ⟨x, y, z, rfl⟩ := hfv
  go_enter_defers Tryz.func93, Tryz.ntmps93
  go_wp2_with (go_at_call 37; refine (ke _).mono ?_; rintro e w' ⟨rfl, rfl⟩)
  exact ⟨_, results_tmp rfl _ _ _, rfl, rfl⟩
theorem face_text_dead (pv fv : Value) (c : Int) (w : World) (hc : (c == 0) = false) (hp : ∃ a, pv = .pointer a) (hfv : ∃ x y z, fv = .func x y z)
    (ke : ∀ o : Obj, Calls Tryz.prog 37 #[pv] (w.alloc o) fun e w' => e = .returned (.int .i64 c) ∧ w.alloc o = w') :
    Calls Tryz.prog 27 #[pv, fv] w fun e w' => e = .returned (.string ⟨#[]⟩) ∧ w' = w.alloc (.cells #[pv] 32) := by
  obtain ⟨a, rfl⟩ := hp
  obtain ⟨x, y, z, rfl⟩ := hfv
  go_enter_defers Tryz.func27, Tryz.ntmps27
  go_wp2_with (go_at_call 37; refine (ke _).mono ?_; rintro e w' ⟨rfl, rfl⟩)
  exact ⟨_, results_tmp rfl _ _ _, rfl, rfl⟩
theorem face_ints_dead (pv fv : Value) (c : Int) (w : World) (hc : (c == 0) = false) (hp : ∃ a, pv = .pointer a) (hfv : ∃ x y z, fv = .func x y z)
    (ke : ∀ o : Obj, Calls Tryz.prog 37 #[pv] (w.alloc o) fun e w' => e = .returned (.int .i64 c) ∧ w.alloc o = w') :
    Calls Tryz.prog 95 #[pv, fv] w fun e w' => e = .returned (.slice none 0 0) ∧ w' = w.alloc (.cells #[pv] 32) := by
  obtain ⟨a, rfl⟩ := hp
  obtain ⟨x, y, z, rfl⟩ := hfv
  go_enter_defers Tryz.func95, Tryz.ntmps95
  go_wp2_with (go_at_call 37; refine (ke _).mono ?_; rintro e w' ⟨rfl, rfl⟩)
  exact ⟨_, results_tmp rfl _ _ _, rfl, rfl⟩
theorem dead_Byte (q : Nat) (rest : List UInt8) (c : Int) (w : World) (hc : (c == 0) = false) (hr : Rd w q rest c) :
    Calls Tryz.prog 61 #[rp q] w fun e w' => e = .returned (.int .u8 0) ∧ Fr (fun _ => False) w w' := by
  have hmf := mkfn
  have kf := fun (fv : Value) (hfv : ∃ x y z, fv = .func x y z) => face_byte_dead (rp q) fv c w hc ⟨_, rfl⟩ hfv (fun o => err_some q rest c (w.alloc o) (hr.later (Fr.alloc _ w _)))
  clear hr
  go_enter Tryz.func61, Tryz.ntmps61
  go_wp2_with (go_at_call 91; refine (kf _ ⟨_, _, _, rfl⟩).mono ?_; rintro e w1 ⟨rfl, rfl⟩)
  go_ret
  exact ⟨rfl, Fr.alloc _ _ _⟩
theorem dead_Int (q : Nat) (rest : List UInt8) (c : Int) (w : World) (hc : (c == 0) = false) (hr : Rd w q rest c) :
    Calls Tryz.prog 30 #[rp q] w fun e w' => e = .returned (.int .i64 0) ∧ Fr (fun _ => False) w w' := by
  have hmf := mkfn
  have kf := fun (fv : Value) (hfv : ∃ x y z, fv = .func x y z) => face_int_dead (rp q) fv c w hc ⟨_, rfl⟩ hfv (fun o => err_some q rest c (w.alloc o) (hr.later (Fr.alloc _ w _)))
  clear hr
  go_enter Tryz.func30, Tryz.ntmps30
  go_wp2_with (go_at_call 59; refine (kf _ ⟨_, _, _, rfl⟩).mono ?_; rintro e w1 ⟨rfl, rfl⟩)
  go_ret
  exact ⟨rfl, Fr.alloc _ _ _⟩
theorem dead_Long (q : Nat) (rest : List UInt8) (c : Int) (w : World) (hc : (c == 0) = false) (hr : Rd w q rest c) :
    Calls Tryz.prog 62 #[rp q] w fun e w' => e = .returned (.int .u64 0) ∧ Fr (fun _ => False) w w' := by
  have hmf := mkfn
  have kf := fun (fv : Value) (hfv : ∃ x y z, fv = .func x y z) => face_long_dead (rp q) fv c w hc ⟨_, rfl⟩ hfv (fun o => err_some q rest c (w.alloc o) (hr.later (Fr.alloc _ w _)))
  clear hr
  go_enter Tryz.func62, Tryz.ntmps62
  go_wp2_with (go_at_call 93; refine (kf _ ⟨_, _, _, rfl⟩).mono ?_; rintro e w1 ⟨rfl, rfl⟩)
  go_ret
  exact ⟨rfl, Fr.alloc _ _ _⟩
theorem dead_Text (q : Nat) (rest : List UInt8) (c : Int) (w : World) (hc : (c == 0) = false) (hr : Rd w q rest c) :
    Calls Tryz.prog 9 #[rp q, .int .i64 32] w fun e w' => e = .returned (.string ⟨#[]⟩) ∧ Fr (fun _ => False) w w' := by
  have hmf := mkfn
  have kf := fun (fv : Value) (hfv : ∃ x y z, fv = .func x y z) => face_text_dead (rp q) fv c ((w.alloc (.cells #[rp q] 32)).alloc (.cells #[.int .i64 32] 3)) hc ⟨_, rfl⟩ hfv (fun o => err_some q rest c _ (((hr.later (Fr.alloc _ w _)).later (Fr.alloc _ _ _)).later (Fr.alloc _ _ _)))
  clear hr
  go_enter Tryz.func9, Tryz.ntmps9
  go_wp2_with (go_at_call 27; refine (kf _ ⟨_, _, _, rfl⟩).mono ?_; rintro e w1 ⟨rfl, rfl⟩)
  go_ret
  exact ⟨rfl, ((Fr.alloc _ _ _).same (Fr.alloc _ _ _)).same (Fr.alloc _ _ _)⟩
theorem dead_Ints (q : Nat) (rest : List UInt8) (c : Int) (w : World) (hc : (c == 0) = false) (hr : Rd w q rest c) :
    Calls Tryz.prog 63 #[rp q, .int .i64 8] w fun e w' => e = .returned (.slice none 0 0) ∧ Fr (fun _ => False) w w' := by
  have hmf := mkfn
  have kf := fun (fv : Value) (hfv : ∃ x y z, fv = .func x y z) => face_ints_dead (rp q) fv c ((w.alloc (.cells #[rp q] 32)).alloc (.cells #[.int .i64 8] 3)) hc ⟨_, rfl⟩ hfv (fun o => err_some q rest c _ (((hr.later (Fr.alloc _ w _)).later (Fr.alloc _ _ _)).later (Fr.alloc _ _ _)))
  clear hr
  go_enter Tryz.func63, Tryz.ntmps63
  go_wp2_with (go_at_call 95; refine (kf _ ⟨_, _, _, rfl⟩).mono ?_; rintro e w1 ⟨rfl, rfl⟩)
  go_ret
  exact ⟨rfl, ((Fr.alloc _ _ _).same (Fr.alloc _ _ _)).same (Fr.alloc _ _ _)⟩
theorem list_int_gave (q : Nat) (c most : Int) (w : World) (kn : Calls Tryz.prog 58 #[rp q, .int .i64 most] w (Gave q w c)) :
    Calls Tryz.prog 97 #[rp q, .int .i64 most, .func (.func 60) #[rp q] #[]] w (Gave q w c) := by
  unfold Gave giveUp at *
  go_enter Tryz.func97, Tryz.ntmps97
  go_wp2_with (go_at_call 58; refine kn.mono ?_; rintro e w1 ⟨rfl, h1, h2⟩)
  exact ⟨rfl, rfl, h1, h2⟩
set_option maxHeartbeats 1000000 in
theorem list_bad (W : World) (q : Nat) (l : List Int) (len : Nat) (hlen : Hidden (l.length < len)) (most : Int) (Z : List UInt8) (c : Int) (hr : Rd W q (i31 (len : Int) ++ ((l.map i31).flatten ++ Z)) 0) (h31 : len < 2147483648) (hm : (len : Int) ≤ most)
    (kone : Hidden (∀ (x : Int) (mr : List UInt8) (w1 : World), x ∈ l → Fr (fun k => k = q) W w1 → Rd w1 q (i31 x ++ mr) 0 → Calls Tryz.prog 60 #[rp q] w1 (Took q w1 (Is ((fun x : Int => Value.int .i64 ((u64 x % 2147483648 : Nat) : Int)) x)) mr)))
    (kout : Hidden (∀ (w1 : World), Rd w1 q Z 0 → Calls Tryz.prog 60 #[rp q] w1 (Gave q w1 c))) :
    Calls Tryz.prog 97 #[rp q, .int .i64 most, .func (.func 60) #[rp q] #[]] W (Gave q W c) := by
  obtain ⟨D, hD⟩ : ∃ D, (l.map i31).flatten ++ Z = D := ⟨_, rfl⟩
  rw [hD] at hr
  replace hD : Hidden ((l.map i31).flatten ++ Z = D) := hD
  obtain ⟨i0, hi, hz0, hz1, hz2⟩ := info_parts Tryz.info_int
  have hq := hr.lt
  have kc := takeCount_in q _ len most W (by simp) (show numS ((i31 (len : Int) ++ D).take 4) = len by rw [List.take_append_of_le_length (by simp), List.take_of_length_le (by simp)]; exact num_len len h31) h31 hm hr
  rw [show (i31 (len : Int) ++ D).drop 4 = D by rw [List.drop_append_of_le_length (by simp), List.drop_of_length_le (by simp)]; rfl] at kc
  have kcell : Hidden (∀ w1, Rd w1 q D 0 → ∃ ao cap L, w1.cell? ⟨q, 0, none⟩ = some (.slice ao L cap) ∧ L ≤ 9223372036854775807) := fun w1 h => by
    obtain ⟨ao, cap, h1, _, _, _, h2, h3⟩ := h.cells
    exact ⟨ao, cap, _, h1, by omega⟩
  unfold Took Is at kc
  clear hr
  unfold Gave
  go_enter Tryz.func97, Tryz.ntmps97
  go_upto_region 2 with (go_at_call 58; refine kc.mono ?_; rintro e w1 ⟨⟨v, rfl, rfl⟩, h1, h2⟩; obtain ⟨ao, cap, L, hc, hL⟩ := kcell w1 h1; have hs1 := h2.size)
  go_cut [8] (fun lv wx => wx.ownsRow W.heap.size 3 1 lv 0 [] ∧ Rd wx q D 0 ∧ Fr (fun k => k = q) W wx)
  case first =>
    have hH : Hidden (∀ w2 lv, w2.ownsRow W.heap.size 3 1 lv 0 [] → w1.grownBy w2 none → w2.ownsRow W.heap.size 3 1 lv 0 [] ∧ Rd w2 q D 0 ∧ Fr (fun k => k = q) W w2) :=
      fun w2 lv hown hg => ⟨hown, h1.aside (Fr.grown hg) (fun k hk => by cases hk), h2.same ((Fr.grown hg).mono (fun k _ hk => by cases hk))⟩
    clear h1 h2 kc kcell
    go_wp2_with (at_make; refine wpList_make_own _ rfl _ _ 45 rfl W.heap.size 3 i0 (.int .i64 0) 1 Tryz.underlying45 hi hz0 hz1 .i64 .i64 _ (min len (L / 4)) rfl rfl (by split <;> omega) (by rw [hz2]; omega) (by unfold maxLen; omega) (by omega) ?_)
    all_goals
      intro w2 hown hg
      have hh : Hidden (w2.ownsRow W.heap.size 3 1 _ 0 [] ∧ Rd w2 q D 0 ∧ Fr (fun k => k = q) W w2) := hH w2 _ hown hg
      clear hown hg hH
      go_wp2
      go_meet
      exact hh
  case rest =>
  have hH : Hidden (wc.ownsRow W.heap.size 3 1 u8 0 [] ∧ Rd wc q D 0 ∧ Fr (fun k => k = q) W wc) := hcut
  clear hcut h1 h2 hc kc kcell hs1 hL
  go_wp2
  go_loopg [8, 22] len (fun k lv iv wr => ∃ (j : Nat) (D' : List UInt8), j ≤ l.length ∧ iv = .int .i64 (j : Int) ∧ j ≤ len ∧ k = len - j ∧ D' = ((l.drop j).map i31).flatten ++ Z ∧ wr.ownsRow W.heap.size 3 1 lv j ((l.take j).map (fun x : Int => Value.int .i64 ((u64 x % 2147483648 : Nat) : Int))) ∧ Rd wr q D' 0 ∧ Fr (fun k => k = q) W wr)
  case atStart => exact ⟨0, D, by omega, rfl, by omega, rfl, (show _ = D from hD).symm, hH⟩
  case round =>
    obtain ⟨j, D', hjl0, rfl, hj, hk, hDz, hrest⟩ := hrel
    have hkH : Hidden (gk = len - j) := hk
    have hlen' : l.length < len := hlen
    have hrH : Hidden (wr.ownsRow W.heap.size 3 1 u8 j ((l.take j).map (fun x : Int => Value.int .i64 ((u64 x % 2147483648 : Nat) : Int))) ∧ Rd wr q D' 0 ∧ Fr (fun k => k = q) W wr) := hrest
    clear hk hrest hH
    by_cases hjl : j < l.length
    · obtain ⟨x, hx⟩ : ∃ x, l[j]? = some x := ⟨l[j], List.getElem?_eq_getElem (by omega)⟩
      obtain ⟨D2, hD2⟩ : ∃ D2, ((l.drop (j + 1)).map i31).flatten ++ Z = D2 := ⟨_, rfl⟩
      have hDx : D' = i31 x ++ D2 := by
        rw [hDz, drop_now hx, ← hD2]
        simp
      subst hDx
      replace hD2 := hD2.symm
      have hD2H : Hidden (D2 = ((l.drop (j + 1)).map i31).flatten ++ Z) := hD2
      have k1 := (show ∀ (x : Int) (mr : List UInt8) (w1 : World), x ∈ l → Fr (fun k => k = q) W w1 → Rd w1 q (i31 x ++ mr) 0 → Calls Tryz.prog 60 #[rp q] w1 (Took q w1 (Is ((fun x : Int => Value.int .i64 ((u64 x % 2147483648 : Nat) : Int)) x)) mr) from kone) x _ wr (List.mem_of_getElem? hx) hrH.2.2 hrH.2.1
      have htk : Hidden ((l.take (j + 1)).map (fun x : Int => Value.int .i64 ((u64 x % 2147483648 : Nat) : Int)) = (l.take j).map (fun x : Int => Value.int .i64 ((u64 x % 2147483648 : Nat) : Int)) ++ [(fun x : Int => Value.int .i64 ((u64 x % 2147483648 : Nat) : Int)) x]) := by
        show (l.take (j + 1)).map (fun x : Int => Value.int .i64 ((u64 x % 2147483648 : Nat) : Int)) = (l.take j).map (fun x : Int => Value.int .i64 ((u64 x % 2147483648 : Nat) : Int)) ++ [(fun x : Int => Value.int .i64 ((u64 x % 2147483648 : Nat) : Int)) x]
        rw [take_next hx]; simp
      have hsz := hrH.2.2.size
      unfold Took Is at k1
      skip
      have hjlen : j < len := by omega
      clear hx hlen' hDz hD2
      go_wp2_with (first
        | (go_at_call 60; refine k1.mono ?_; rintro e w3 ⟨⟨v, rfl, rfl⟩, h3, h4⟩; have hs3 := h4.size)
        | (at_builtin; refine wpList_append_own _ rfl _ _ 45 rfl W.heap.size 3 i0 (.int .i64 0) 1 8 Tryz.underlying45 hi hz0 hz1 hz2 rfl (by decide) _ j ((l.take j).map (fun x : Int => Value.int .i64 ((u64 x % 2147483648 : Nat) : Int))) rfl ?q0 ⟨w3.heap.size, 0, none⟩ 1 1 [.int .i64 ((u64 x % 2147483648 : Nat) : Int)] rfl rfl ?q1 ?q2 ?q3 ?q4 ?q5 ?_))
      case q0 => exact (own_keep hrH.1 h4 (fun k hk e => by omega)).alloc _
      case q1 => exact cell_one_new w3 _ _
      case q2 => intro u hu; simp at hu; subst hu; rfl
      case q3 => unfold maxLen; omega
      case q4 => omega
      case q5 => simp; omega
      intro v' w4 hown4 hg4 _
      have hfin : Hidden (w4.ownsRow W.heap.size 3 1 v' (j + 1) ((l.take (j + 1)).map (fun x : Int => Value.int .i64 ((u64 x % 2147483648 : Nat) : Int))) ∧ Rd w4 q D2 0 ∧ Fr (fun k => k = q) W w4) := by
        have hrow : ∀ k, some k = u8.ownBlock → W.heap.size ≤ k := fun k hk => (hrH.1.lt k hk.symm).1
        refine ⟨?_, ?_, ?_⟩
        · rw [show (l.take (j + 1)).map (fun x : Int => Value.int .i64 ((u64 x % 2147483648 : Nat) : Int)) = _ from htk]; simpa [List.map_take] using hown4
        · exact (h3.keep (Fr.alloc (fun _ => False) w3 _) (fun f => f) (fun _ _ _ _ f => f)).aside (Fr.grown hg4) (fun k hk => by have := hrow k hk; omega)
        · refine (hrH.2.2.same (h4.same (Fr.alloc _ w3 _))).trans (Fr.grown hg4) (fun k hk h => ?_)
          have := hrow k h
          omega
      clear hown4 hg4 h3 h4
      go_wp2
      go_roundg (len - (j + 1))
      case measure =>
        have : gk = len - j := hkH
        omega
      case rel => exact ⟨j + 1, D2, by omega, by go_num, by omega, rfl, hD2H, hfin⟩
    · obtain rfl : j = l.length := by omega
      rw [List.drop_length] at hDz
      have hDZ : D' = Z := by simpa using hDz
      subst hDZ
      have k2 := (show ∀ (w1 : World), Rd w1 q D' 0 → _ from kout) wr hrH.2.1
      have hjlen : l.length < len := hlen'
      unfold Gave giveUp at k2
      clear hDz hlen'
      go_wp2_with (go_at_call 60; refine k2.mono ?_; rintro e w3 ⟨rfl, h3, h4⟩)
      exact ⟨rfl, rfl, h3, hrH.2.2.same h4⟩
end Go.Proofs.YtakkiipkmogagaaGreat.Wi
