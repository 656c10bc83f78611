/- Bytes of a call's own, at any offset; append to them. -/
import Derived.Test.YtflemhekoffpoaaWiW2
import Derived.Deep.AppendSrc
import Derived.Deep.Upon
import Derived.Deep.MidRow
namespace Go.Proofs.Ytflemhekoffpoaa
open Go.RowKit
set_option linter.unusedSimpArgs false
set_option linter.unusedVariables false

/-- A slice in memory of the call's own: all places up to the capacity are there and may be written. -/
def Ow (w : World) (B : Nat) (v : Value) (xs : List Value) : Prop :=
  Sl w v xs ∧ ∃ ao len cap, v = .slice ao len cap ∧ (ao = none ∨ ∃ g off, ao = some ⟨g, off, none⟩ ∧ B ≤ g ∧ g < w.heap.size ∧ ∀ j, j < cap → (w.cell? ⟨g, off + j, none⟩).isSome = true ∧ w.frozen? ⟨g, off + j, none⟩ = false)

theorem Ow.nil (w : World) (B : Nat) : Ow w B (.slice none 0 0) [] := ⟨Sl.nil w, none, 0, 0, rfl, Or.inl rfl⟩
theorem Ow.keep {S : Nat → Prop} {w w' : World} {B : Nat} {v : Value} {xs : List Value} (h : Ow w B v xs) (hf : Fr S w w') (hn : ∀ k, v.ownBlock = some k → ¬ S k) : Ow w' B v xs := by
  obtain ⟨h1, ao, len, cap, rfl, h2⟩ := h
  refine ⟨h1.keep hf hn, ao, len, cap, rfl, ?_⟩
  rcases h2 with rfl | ⟨g, off, rfl, hB, hlt, hc⟩
  · exact Or.inl rfl
  · refine Or.inr ⟨g, off, rfl, hB, Nat.lt_of_lt_of_le hlt hf.size, fun j hj => ?_⟩
    have e := hf.block g hlt (hn g rfl)
    rw [World.cell?_of_block (a := ⟨g, off + j, none⟩) e, World.frozen?_of_block (a := ⟨g, off + j, none⟩) e]
    exact hc j hj
theorem Ow.own {w : World} {B : Nat} {v : Value} {xs : List Value} (h : Ow w B v xs) : ∀ k, v.ownBlock = some k → B ≤ k ∧ k < w.heap.size := by
  obtain ⟨h1, ao, len, cap, rfl, h2⟩ := h
  intro k hk
  rcases h2 with rfl | ⟨g, off, rfl, hB, hlt, hc⟩
  · cases hk
  · have : g = k := by simpa [Value.ownBlock] using hk
    subst this
    exact ⟨hB, hlt⟩
theorem Ow.of_own {w : World} {base : Nat} {v : Value} {n : Nat} {xs : List Value} (h : w.ownsRow base 5 1 v n xs) : Ow w base v xs := by
  refine ⟨(Sl.of_own h).1, ?_⟩
  rcases h.2 with ⟨rfl, _⟩ | ⟨g, cap, cur, rfl, hb, hg, hnc, hcm, hcs, ht⟩
  · exact ⟨none, 0, 0, rfl, Or.inl rfl⟩
  · refine ⟨_, n, cap, rfl, Or.inr ⟨g, 0, rfl, hb, lt_of_heap hg, fun j hj => ⟨?_, by simp [World.frozen?, hg]⟩⟩⟩
    rw [Nat.zero_add, cell_of_row w g j cur 5 (0, 0) hg]
    simp
    omega
theorem Ow.drop {w : World} {B : Nat} {ao : Option Addr} {len cap : Nat} {xs : List Value} (h : Ow w B (.slice ao len cap) xs) (hs : ∀ n, n ≤ len → Sl w (.slice (if cap = n then ao else ao.map fun a => a.add n) (len - n) (cap - n)) (xs.drop n)) (n : Nat) (hn : n ≤ len) : Ow w B (.slice (if cap = n then ao else ao.map fun a => a.add n) (len - n) (cap - n)) (xs.drop n) := by
  obtain ⟨h1, ao', len', cap', e, h2⟩ := h
  cases e
  refine ⟨hs n hn, _, _, _, rfl, ?_⟩
  rcases h2 with rfl | ⟨g, off, rfl, hB, hlt, hc⟩
  · left; split <;> rfl
  · right
    by_cases hcn : cap = n
    · rw [if_pos hcn]
      exact ⟨g, off, rfl, hB, hlt, fun j hj => by omega⟩
    · rw [if_neg hcn]
      refine ⟨g, off + n, by simp [Addr.add_lit], hB, hlt, fun j hj => ?_⟩
      rw [Nat.add_assoc]
      exact hc _ (by omega)

theorem Sl.source {w : World} {x : Value} {l : List UInt8} (h : Sl w x (bc l)) : Src Try.prog 1 24 x l.length (bc l) w := by
  rcases h.src with ⟨rfl, hx⟩ | ⟨ad, cap, rfl, hl, hm, hnews⟩
  · obtain rfl : l = [] := by simpa [bc] using hx
    exact Src.ofNil w Try.underlying24 0
  · rw [bc_length] at *
    exact Src.ofSlice w Try.underlying24 ad l.length cap (bc l) (by simp) hnews (bc_one l)

theorem size_setCells (g : Nat) : ∀ (vs : List Value) (o : Nat) (w : World), (w.setCells g o vs).heap.size = w.heap.size
  | [], _, _ => rfl
  | v :: r, o, w => by rw [World.setCells, size_setCells g r, World.size_setCell]

theorem run_append_ow (w : World) (B : Nat) (v x : Value) (l add : List UInt8) (ty : TypeId) (hv : Ow w B v (bc l)) (hx : Sl w x (bc add)) (hB : B ≤ w.heap.size) (hb : l.length + add.length ≤ 140737488355328) :
    ∃ v' w', (Builtin.append_ #[24, 24] ty #[v, x]).run Try.prog w = .ok v' w' ∧ Ow w' B v' (bc (l ++ add)) ∧ Fr (fun k => v.ownBlock = some k) w w' ∧ (v'.ownBlock = v.ownBlock ∨ v'.ownBlock = some w.heap.size) := by
  obtain ⟨i0, hi, hz0, hz1, hz2⟩ := info_parts Try.info_u8
  have hsrc := hx.source
  rw [← hz1] at hsrc
  obtain ⟨hs, ao, len, cap, rfl, ho⟩ := hv
  obtain ⟨ao', cap', e, a1, a2, a3, a4⟩ := id hs
  cases e
  rw [bc_length] at *
  by_cases hn : add = []
  · subst hn
    have hr := run_append_nothing (P := Try.prog) w 24 24 ty 5 i0 Try.underlying24 hi ao l.length cap a1 x hsrc
    rw [List.append_nil]
    exact ⟨_, _, hr, ⟨hs, _, _, _, rfl, ho⟩, Fr.refl _ _, Or.inl rfl⟩
  have hpos : 0 < add.length := List.length_pos_iff.2 hn
  by_cases hroom : l.length + add.length ≤ cap
  · rcases ho with rfl | ⟨g, off, rfl, hBg, hlt, hc⟩
    · have := a3 rfl
      omega
    · have hcs : ∀ j, j < (bc add).length → (w.cell? ⟨g, off + l.length + j, none⟩).isSome = true := fun j hj => by rw [Nat.add_assoc]; exact (hc _ (by rw [bc_length] at hj; omega)).1
      have hr := run_append_room_src (P := Try.prog) w 24 24 ty 5 i0 Try.underlying24 hi g off l.length cap x add.length (bc add) hsrc hroom
        (fun j hj => by rw [hz1, Nat.mul_one]; exact hcs j hj) (fun j hj => by rw [hz1, Nat.mul_one, Nat.add_assoc]; exact (hc _ (by rw [bc_length] at hj; omega)).2)
      rw [hz1, Nat.mul_one] at hr
      refine ⟨_, _, hr, ⟨⟨_, _, by rw [bc_length, List.length_append], by rw [bc_length, List.length_append]; exact hroom, a2, (fun h => by cases h), Or.inr ⟨g, off, rfl, fun i y hy => ?_⟩⟩, _, _, _, rfl, Or.inr ⟨g, off, rfl, hBg, by rw [size_setCells]; exact hlt, fun j hj => ⟨World.isSome_setCells g _ _ w _ (hc j hj).1, by rw [World.frozen?_setCells]; exact (hc j hj).2⟩⟩⟩, ?_, Or.inl rfl⟩
      · rw [bc_append] at hy
        by_cases hil : i < l.length
        · rw [List.getElem?_append_left (by rw [bc_length]; exact hil)] at hy
          rw [World.cell?_setCells_out g _ _ w _ (fun _ _ => Or.inl (by show off + i < off + l.length; omega))]
          rcases a4 with h4 | ⟨b', o', he, hcc⟩
          · rw [h4] at hy
            simp at hy
          · simp only [Option.some.injEq, Addr.mk.injEq, and_true] at he
            obtain ⟨rfl, rfl⟩ := he
            exact hcc i y hy
        · rw [List.getElem?_append_right (by rw [bc_length]; omega), bc_length] at hy
          obtain ⟨hj, hyy⟩ := List.getElem?_eq_some_iff.1 hy
          have := World.cell?_setCells_in g (bc add) (off + l.length) w hcs (i - l.length) hj
          rw [show off + l.length + (i - l.length) = off + i by omega] at this
          rw [this, hyy]
      · refine ⟨World.os_setCells _ _ _ _, World.output_setCells _ _ _ _, by rw [size_setCells]; exact Nat.le_refl _, fun k hk hne => World.heap_setCells_other w g _ _ hk (fun e => hne (by rw [e]; rfl))⟩
  · have hold : (Builtin.firstCells i0.size l.length (.slice ao l.length cap)).run Try.prog w.drew = .ok (bc l).toArray w.drew := by
      rw [hz1]
      exact hs.source.cellsD
    have hr := run_append_grow_src (P := Try.prog) w 24 24 ty 5 i0 (.int .u8 0) Try.underlying24 hi hz0 ao l.length cap (bc l) hold x add.length (bc add) hsrc (by omega) (by omega) (by rw [hz2]; exact growslice_fits (by omega) (by omega))
    have hge := grownCap_ge w (l.length + add.length) cap 5
    have hgl := grownCap_le_maxLen w (l.length + add.length) cap 5 (by unfold maxLen; omega)
    refine ⟨_, _, hr, Ow.of_own (n := (l ++ add).length) ⟨by rw [bc_length, Nat.mul_one], Or.inr ⟨w.heap.size, _, _, by rw [List.length_append], hB, alloc_new w.drew _, by rw [List.length_append]; exact hge, hgl, ?_, ?_⟩⟩, ⟨rfl, rfl, by simp, fun k hk _ => alloc_old w.drew _ k hk⟩, Or.inr rfl⟩
    · simp only [Array.size_append, List.size_toArray, List.length_append, bc_length, size_zeroCells, Value.cells]
      simp
      omega
    · rw [Nat.mul_one, Array.toList_append, bc_append, show (l ++ add).length = (bc l ++ bc add).length by simp]
      exact List.take_left

theorem wpList_append_ow {w : World} {ops : Array Oper} {rest : List Oper} {o : Oper} {a : Act} {Q : Exit → Act → World → Prop} (hgd : o.guard = none) (s x : Operand)
    (ho : o.op = .call { callee := .builtin .append, args := #[s, x], argTypes := #[24, 24] }) (B : Nat) (v xv : Value) (l add : List UInt8)
    (hs : a.eval s = v) (hv : Ow w B v (bc l)) (hx : a.eval x = xv) (hxs : Sl w xv (bc add)) (hB : B ≤ w.heap.size) (hb : l.length + add.length ≤ 140737488355328)
    (h : ∀ v' w', Ow w' B v' (bc (l ++ add)) → Fr (fun k => v.ownBlock = some k) w w' → (v'.ownBlock = v.ownBlock ∨ v'.ownBlock = some w.heap.size) → wpList Try.prog ops Q rest (a.put o.dst v') w') : wpList Try.prog ops Q (o :: rest) a w := by
  refine wpList_plain hgd fun K hK => ?_
  obtain ⟨v', w', hr, h2, h3, h4⟩ := run_append_ow w B v xv l add o.type hv hxs hB hb
  unfold Oper.wp
  simp only [execOp, ho, resolve, invoke, builtin, Sem.run_bind, Sem.run_pure, Result.andThen_ok, List.map_toArray, List.map_cons, List.map_nil, hs, hx, hr]
  exact hK _ _ (h v' w' h2 h3 h4)
end Go.Proofs.Ytflemhekoffpoaa
