/- The Reader: what it holds; bytes taken. -/
import Derived.Test.YtpjahcncknccdaaGreatWzWiW2
import Derived.Recover
namespace Go.Proofs.YtpjahcncknccdaaGreat.Wi
open Go.RowKit
set_option linter.unusedSimpArgs false
set_option linter.unusedVariables false
set_option maxRecDepth 20000

/-- A Reader at block q: what is left, and its error. -/
def Rd (w : World) (q : Nat) (rest : List UInt8) (e : Int) : Prop :=
  ∃ v, w.heap[q]? = some (.cells #[v, .int .i64 e] 96 (0, 0)) ∧ Sl w v (bc rest) ∧ ∀ k, v.ownBlock = some k → k < q
theorem Rd.keep {S : Nat → Prop} {w w' : World} {q : Nat} {rest : List UInt8} {e : Int} (h : Rd w q rest e) (hf : Fr S w w') (hq : ¬ S q) (hv : ∀ v k, w.heap[q]? = some (.cells #[v, .int .i64 e] 96 (0, 0)) → v.ownBlock = some k → ¬ S k) : Rd w' q rest e := by
  obtain ⟨v, h1, h2, h3⟩ := h
  exact ⟨v, hf.heap h1 hq, h2.keep hf (fun k hk => hv v k h1 hk), h3⟩

abbrev rp (q : Nat) : Value := .pointer (some ⟨q, 0, none⟩)

theorem Sl.drop {w : World} {ao : Option Addr} {len cap : Nat} {xs : List Value} (h : Sl w (.slice ao len cap) xs) (n : Nat) (hn : n ≤ len) : Sl w (.slice (if cap = n then ao else ao.map fun a => a.add n) (len - n) (cap - n)) (xs.drop n) := by
  obtain ⟨ao', cap', e, h1, h2, h3, h4⟩ := h
  cases e
  refine ⟨_, _, by rw [List.length_drop], by rw [List.length_drop]; omega, by omega, ?_, ?_⟩
  · intro h
    split at h
    · omega
    · have := h3 (by simpa using h)
      omega
  · by_cases hx : xs.drop n = []
    · exact Or.inl hx
    · right
      rcases h4 with rfl | ⟨b, off, rfl, hc⟩
      · simp at hx
      · have hlt : n < xs.length := by
          rcases Nat.lt_or_ge n xs.length with h | h
          · exact h
          · exact absurd (List.drop_eq_nil_of_le h) hx
        rw [if_neg (by omega)]
        refine ⟨b, off + n, by simp [Addr.add_lit], fun i x hi => ?_⟩
        rw [List.getElem?_drop] at hi
        rw [Nat.add_assoc]
        exact hc _ x hi
theorem Sl.take {w : World} {ao : Option Addr} {len cap : Nat} {xs : List Value} (h : Sl w (.slice ao len cap) xs) (n : Nat) (hn : n ≤ len) : Sl w (.slice ao n cap) (xs.take n) := by
  obtain ⟨ao', cap', e, h1, h2, h3, h4⟩ := h
  cases e
  refine ⟨ao, cap, by rw [List.length_take]; congr 1; omega, by rw [List.length_take]; omega, h2, h3, ?_⟩
  rcases h4 with rfl | ⟨b, off, rfl, hc⟩
  · exact Or.inl (by simp)
  · refine Or.inr ⟨b, off, rfl, fun i x hi => ?_⟩
    rw [List.getElem?_take] at hi
    split at hi
    · exact hc i x hi
    · cases hi

theorem ownBlock_slice (ao : Option Addr) (l c : Nat) : (Value.slice ao l c).ownBlock = ao.map (·.block) := by cases ao <;> rfl
theorem add_block (a : Addr) (n : Nat) : (a.add n).block = a.block := by
  unfold Addr.add
  split <;> rfl
theorem bc_take (l : List UInt8) (n : Nat) : bc (l.take n) = (bc l).take n := by simp [bc]
theorem bc_drop (l : List UInt8) (n : Nat) : bc (l.drop n) = (bc l).drop n := by simp [bc]

theorem rd_set {w : World} {q : Nat} {v : Value} {e : Int} {rest : List UInt8} {u : Value} (hq : w.heap[q]? = some (.cells #[u, .int .i64 e] 96 (0, 0))) (hs : Sl w v (bc rest)) (hne : ∀ k, v.ownBlock = some k → k < q) :
    Rd (w.setCell ⟨q, 0, none⟩ v) q rest e ∧ Fr (fun k => k = q) w (w.setCell ⟨q, 0, none⟩ v) := by
  have hf := Fr.setCell w ⟨q, 0, none⟩ v
  refine ⟨⟨v, ?_, hs.keep hf (fun k hk e => by have := hne k hk; have : k = q := e; omega), hne⟩, hf⟩
  have := heap_setCell_same w q 0 #[u, .int .i64 e] 96 v hq
  simpa using this

theorem take_end {w : World} {q : Nat} {ao : Option Addr} {cap n : Nat} {rest : List UInt8} {v2 : Value} (hs : Sl w (.slice ao rest.length cap) (bc rest)) (hq : w.heap[q]? = some (.cells #[.slice ao rest.length cap, .int .i64 0] 96 (0, 0)))
    (hne : ∀ k, (Value.slice ao rest.length cap).ownBlock = some k → k < q) (hn : n ≤ rest.length) (h2 : v2 = .slice (if cap = n then ao else ao.map fun x => x.add n) (rest.length - n) (cap - n)) :
    Sl (w.setCell ⟨q, 0, none⟩ v2) (.slice ao n cap) (bc (rest.take n)) ∧ Rd (w.setCell ⟨q, 0, none⟩ v2) q (rest.drop n) 0 ∧ Fr (fun k => k = q) w (w.setCell ⟨q, 0, none⟩ v2) := by
  have hd := hs.drop n hn
  rw [← bc_drop, ← h2] at hd
  have ht := hs.take n hn
  rw [← bc_take] at ht
  have hne2 : ∀ k, v2.ownBlock = some k → k < q := by
    intro k hk
    refine hne k ?_
    rw [h2] at hk
    rw [ownBlock_slice] at hk ⊢
    split at hk
    · exact hk
    · cases ao with
      | none => simp at hk
      | some a => simpa [add_block] using hk
  obtain ⟨hr, hf⟩ := rd_set hq hd hne2
  refine ⟨ht.keep hf (fun k hk e => by have := hne k (by rw [ownBlock_slice] at hk ⊢; exact hk); have : k = q := e; omega), hr, hf⟩

set_option maxHeartbeats 400000 in
theorem take_out (q : Nat) (rest : List UInt8) (n : Int) (w : World) (hr : Rd w q rest 0) (hn : (rest.length : Int) < n) :
    Calls Tryz.prog 80 #[rp q, .int .i64 n] w fun e w' => e = .panicked [{ v := .iface 134 (.agg #[.int .i64 40]), recovered := false }] ∧ w = w' := by
  obtain ⟨v, h1, ⟨ao, cap, rfl, a1, a2, a3, a4⟩, h3⟩ := hr
  rw [bc_length] at *
  have hcell : w.cell? ⟨q, 0, none⟩ = some (.slice ao rest.length cap) := by rw [cell_of_row w q 0 _ 96 (0, 0) h1]; rfl
  unfold maxLen at a2
  clear a3 a4 h1 h3
  go_enter Tryz.func80, Tryz.ntmps80
  go_wp2
  exact ⟨rfl, rfl, rfl⟩

set_option maxHeartbeats 400000 in
theorem take_in (q : Nat) (rest : List UInt8) (n : Nat) (w : World) (hr : Rd w q rest 0) (hn : n ≤ rest.length) :
    Calls Tryz.prog 80 #[rp q, .int .i64 (n : Int)] w fun e w' => ∃ v, e = .returned v ∧ Sl w' v (bc (rest.take n)) ∧ Rd w' q (rest.drop n) 0 ∧ Fr (fun k => k = q) w w' := by
  obtain ⟨v, h1, ⟨ao, cap, rfl, a1, a2, a3, a4⟩, h3⟩ := hr
  rw [bc_length] at *
  have hcell : w.cell? ⟨q, 0, none⟩ = some (.slice ao rest.length cap) := by rw [cell_of_row w q 0 _ 96 (0, 0) h1]; rfl
  have hfroz : w.frozen? ⟨q, 0, none⟩ = false := by simp [World.frozen?, h1]
  unfold maxLen at a2
  have hH : Hidden (Sl w (.slice ao rest.length cap) (bc rest) ∧ w.heap[q]? = some (.cells #[.slice ao rest.length cap, .int .i64 0] 96 (0, 0)) ∧ ∀ k, (Value.slice ao rest.length cap).ownBlock = some k → k < q) := ⟨⟨ao, cap, by rw [bc_length], by rw [bc_length]; exact a1, a2, a3, a4⟩, h1, h3⟩
  clear a3 a4 h1 h3
  go_enter Tryz.func80, Tryz.ntmps80
  go_wp2
  · go_ret
    refine ⟨_, rfl, ?_⟩
    obtain ⟨hs, hh, hne⟩ := hH
    subst h
    have := take_end hs hh hne hn rfl
    rw [if_pos rfl, Nat.sub_self] at this
    exact this
  · go_ret
    refine ⟨_, rfl, ?_⟩
    obtain ⟨hs, hh, hne⟩ := hH
    have := take_end hs hh hne hn rfl
    rw [if_neg h] at this
    exact this
end Go.Proofs.YtpjahcncknccdaaGreat.Wi
