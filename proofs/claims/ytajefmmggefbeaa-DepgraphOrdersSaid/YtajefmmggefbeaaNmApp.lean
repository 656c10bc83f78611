/- Lists of texts that a call makes: append, and the set of a list. -/
import Derived.Test.YtajefmmggefbeaaNmTx
import Derived.Test.YtajefmmggefbeaaShelf
import Derived.Deep.AppendSrc
import Derived.Deep.Upon
import Derived.Sort.OwnSorted
import Derived.Lib.OwnBridge
namespace Go.Proofs.Ytajefmmggefbeaa
open Go.RowKit Go.Sort
set_option linter.unusedSimpArgs false
set_option linter.unusedVariables false

theorem Try.info_str : (Try.prog.info? 9).map (fun i => (i.zero, i.size, i.bytes)) = some (some (.string ⟨#[]⟩), 1, 16) := by kernel_rfl

/-- A list of texts that fills a row of the call's own from its beginning. -/
def To (w : World) (B : Nat) (v : Value) (l : List Str) : Prop := w.ownsRow B 9 1 v l.length (l.map encStr)

theorem To.nil (w : World) (B : Nat) : To w B (.slice none 0 0) [] := ⟨by simp, Or.inl ⟨rfl, rfl⟩⟩
theorem To.tn {w : World} {B : Nat} {v : Value} {l : List Str} (h : To w B v l) : Tn w B v l := by
  by_cases hv : v = .slice none 0 0
  · subst hv
    rcases h.2 with ⟨_, h0⟩ | ⟨g, cap, cur, e, _⟩
    · obtain rfl : l = [] := List.eq_nil_of_length_eq_zero h0
      exact ⟨none, 0, rfl, by simp, by omega, fun _ => rfl, Or.inl rfl⟩
    · cases e
  · obtain ⟨g, cap, rfl, hb, hlt, hn, hm, hl, hH⟩ := Go.Lib.holds_of_ownsRow h hv
    exact ⟨_, cap, rfl, hn, hm, (fun h => by cases h), Or.inr ⟨g, 0, rfl, hb, hlt, hH⟩⟩
theorem To.keep {S : Nat → Prop} {w w' : World} {B : Nat} {v : Value} {l : List Str} (h : To w B v l) (hf : Fr S w w') (hn : ∀ k, v.ownBlock = some k → ¬ S k) : To w' B v l := by
  refine ⟨h.1, ?_⟩
  rcases h.2 with h0 | ⟨g, cap, cur, rfl, hb, hg, rest⟩
  · exact Or.inl h0
  · exact Or.inr ⟨g, cap, cur, rfl, hb, hf.heap hg (hn g rfl), rest⟩
theorem To.own {w : World} {B : Nat} {v : Value} {l : List Str} (h : To w B v l) : ∀ k, v.ownBlock = some k → B ≤ k ∧ k < w.heap.size := by
  intro k hk
  rcases h.2 with ⟨rfl, _⟩ | ⟨g, cap, cur, rfl, hb, hg, rest⟩
  · cases hk
  · have : g = k := by simpa [Value.ownBlock] using hk
    subst this
    exact ⟨hb, lt_of_heap hg⟩
theorem To.shape {w : World} {B : Nat} {v : Value} {l : List Str} (h : To w B v l) : ∃ ao cap, v = .slice ao l.length cap ∧ l.length ≤ cap ∧ cap ≤ 9223372036854775807 := by
  obtain ⟨ao, cap, e, h1, h2, _⟩ := h.tn
  exact ⟨ao, cap, e, h1, h2⟩

theorem enc_one (l : List Str) : ∀ u ∈ l.map encStr, u.oneCell' = true := by
  intro u hu
  simp only [List.mem_map] at hu
  obtain ⟨c, _, rfl⟩ := hu
  rfl
theorem Tl.news {w : World} {b : Nat} {off : Nat} {l : List Str} (h : ∀ (i : Nat) (x : Str), l[i]? = some x → w.cell? ⟨b, off + i, none⟩ = some (encStr x)) : ∀ (j : Nat) (u : Value), (l.map encStr)[j]? = some u → w.cell? ((⟨b, off, none⟩ : Addr).add j) = some u := by
  intro j u hu
  rw [List.getElem?_map] at hu
  cases hx : l[j]? with
  | none => rw [hx] at hu; cases hu
  | some x =>
    rw [hx] at hu
    simp only [Option.map_some, Option.some.injEq] at hu
    subst hu
    rw [Addr.add_lit]
    exact h j x hx

theorem run_app (w : World) (B : Nat) (v x : Value) (l m : List Str) (ty : TypeId) (hv : To w B v l) (hx : Tl w x m) (hB : B ≤ w.heap.size) (hb : (l.length + m.length) * 16 ≤ 140737488355328) :
    ∃ v' w', (Builtin.append_ #[23, 23] ty #[v, x]).run Try.prog w = .ok v' w' ∧ To w' B v' (l ++ m) ∧ Fr (fun k => v.ownBlock = some k) w w' ∧ (v'.ownBlock = v.ownBlock ∨ v'.ownBlock = some w.heap.size) := by
  obtain ⟨i0, hi, hz0, hz1, hz2⟩ := info_parts Try.info_str
  obtain ⟨xo, xc, rfl, x1, x2, x3, x4⟩ := hx
  cases xo with
  | none =>
    have hc := x3 rfl
    have hm : m = [] := List.eq_nil_of_length_eq_zero (by omega)
    subst hm
    have hsrc : Src Try.prog i0.size 23 (.slice none 0 xc) 0 [] w := Src.ofNil w Try.underlying23 xc
    obtain ⟨ao, cap, rfl, h1, h2⟩ := hv.shape
    have hr := run_append_nothing (P := Try.prog) w 23 23 ty 9 i0 Try.underlying23 hi ao l.length cap h1 _ hsrc
    exact ⟨_, _, hr, by rw [List.append_nil]; exact hv, Fr.refl _ _, Or.inl rfl⟩
  | some a =>
    have hnews : ∀ (j : Nat) (u : Value), (m.map encStr)[j]? = some u → w.cell? (a.add j) = some u := by
      rcases x4 with rfl | ⟨b, off, e, hc⟩
      · intro j u hu; simp at hu
      · cases e
        exact Tl.news hc
    obtain ⟨v', w', hr, h2, h3, _, h5⟩ := run_append_own_at (P := Try.prog) w B 23 ty 9 i0 (.string ⟨#[]⟩) 1 16 Try.underlying23 hi hz0 hz1 hz2 rfl (by decide) v l.length (l.map encStr) hv a m.length xc (m.map encStr) (by simp) hnews (enc_one m) (by unfold maxLen; omega) hb hB
    refine ⟨v', w', hr, ?_, ?_, h5⟩
    · unfold To
      rw [List.length_append, List.map_append]
      exact h2
    · refine (Fr.grown h3).mono fun k _ e => e.symm

theorem wpList_app {w : World} {ops : Array Oper} {rest : List Oper} {o : Oper} {a : Act} {Q : Exit → Act → World → Prop} (hgd : o.guard = none) (s x : Operand)
    (ho : o.op = .call { callee := .builtin .append, args := #[s, x], argTypes := #[23, 23] }) (B : Nat) (v xv : Value) (l m : List Str)
    (hs : a.eval s = v) (hv : To w B v l) (hx : a.eval x = xv) (hxs : Tl w xv m) (hB : B ≤ w.heap.size) (hb : (l.length + m.length) * 16 ≤ 140737488355328)
    (h : ∀ v' w', To w' B v' (l ++ m) → Fr (fun k => v.ownBlock = some k) w w' → (v'.ownBlock = v.ownBlock ∨ v'.ownBlock = some w.heap.size) → wpList Try.prog ops Q rest (a.put o.dst v') w') : wpList Try.prog ops Q (o :: rest) a w := by
  refine wpList_plain hgd fun K hK => ?_
  obtain ⟨v', w', hr, h2, h3, h4⟩ := run_app w B v xv l m o.type hv hxs hB hb
  unfold Oper.wp
  simp only [execOp, ho, resolve, invoke, builtin, Sem.run_bind, Sem.run_pure, Result.andThen_ok, List.map_toArray, List.map_cons, List.map_nil, hs, hx, hr]
  exact hK _ _ (h v' w' h2 h3 h4)

/-- Behind a call that has laid a row anew. -/
theorem Fr.row {w : World} {blk off n : Nat} {d : Array Str} {os : Array Obj} : Fr (fun k => k = blk) w (grow (putRow encStr (Sort.ahead w n) blk off d) os) := by
  refine ⟨rfl, rfl, by simp, fun k hk hne => ?_⟩
  rw [heap_grow_old _ _ (by simpa using hk)]
  have hne' : ¬ blk = k := fun e => hne e.symm
  simp [putRow, mapBlock, Sort.ahead, Array.getElem?_modify, hne']
theorem Fr.row0 {w : World} {blk off n : Nat} {d : Array Str} : Fr (fun k => k = blk) w (putRow encStr (Sort.ahead w n) blk off d) := by
  refine ⟨rfl, rfl, by simp, fun k hk hne => ?_⟩
  have hne' : ¬ blk = k := fun e => hne e.symm
  simp [putRow, mapBlock, Sort.ahead, Array.getElem?_modify, hne']

/-- slices.Sort and slices.Compact, of a list of the call's own. -/
theorem sort_any (v : Value) (l : List Str) (B : Nat) (w : World) (h : Tn w B v l) (hl : l.length < 4611686018427387904) :
    Calls Try.prog 61 #[v] w fun e w' => e = .returned (.tuple #[]) ∧ Tn w' B v (sortS l) ∧ Fr (fun k => v.ownBlock = some k) w w' := by
  obtain ⟨ao, cap, rfl, h1, h2, h3, h4⟩ := h
  by_cases h0 : l = []
  · subst h0
    refine (Try.slices_Sort_string_none ao cap w).mono ?_
    rintro e w' ⟨rfl, rfl⟩
    have e0 : sortS [] = [] := by simp [sortS]
    rw [e0]
    exact ⟨rfl, ⟨ao, cap, rfl, h1, h2, h3, Or.inl rfl⟩, Fr.refl _ _⟩
  · rcases h4 with h4 | ⟨b, off, rfl, hB, hb, hH⟩
    · exact absurd h4 h0
    refine (Try.slices_Sort_string b off cap l w hH hb hl).mono ?_
    rintro e w' ⟨rfl, n, os, rfl⟩
    have hs : (sortS l).toArray.size = l.toArray.size := by simp [length_sortS]
    refine ⟨rfl, ⟨_, cap, by rw [length_sortS], by rw [length_sortS]; exact h1, h2, h3, Or.inr ⟨b, off, rfl, hB, by simp; omega, ?_⟩⟩, Fr.row.mono fun k _ e => by rw [e]; rfl⟩
    exact holds_grow encStr _ os b off _ (by simpa using hb) (holds_putRow encStr _ b off l.toArray _ (holds_ahead encStr w n b off _ hH) hs)
theorem compact_any (v : Value) (l : List Str) (B : Nat) (w : World) (h : Tn w B v l) (hl : l.length < 4611686018427387904) :
    Calls Try.prog 82 #[v] w fun e w' => ∃ v', e = .returned v' ∧ Tn w' B v' (Lib.compact l) ∧ Fr (fun k => v.ownBlock = some k) w w' ∧ v'.ownBlock = v.ownBlock := by
  obtain ⟨ao, cap, rfl, h1, h2, h3, h4⟩ := h
  by_cases h0 : l = []
  · subst h0
    refine (Try.slices_Compact_string_empty ao cap w).mono ?_
    rintro e w' ⟨rfl, rfl⟩
    exact ⟨_, rfl, ⟨ao, cap, rfl, h1, h2, h3, Or.inl rfl⟩, Fr.refl _ _, rfl⟩
  · rcases h4 with h4 | ⟨b, off, rfl, hB, hb, hH⟩
    · exact absurd h4 h0
    refine (Try.slices_Compact_string b off cap l w hH (by omega) h1).mono ?_
    rintro e w' ⟨rfl, n, rfl⟩
    have hcl : (Lib.compact l).length ≤ l.length := by
      show (Lib.compactUpTo _ _).length ≤ _
      unfold Lib.compactUpTo
      rw [List.length_map]
      exact Nat.le_trans (List.length_filter_le _ _) (by simp)
    have hs : (Lib.compact l ++ List.replicate (l.length - (Lib.compact l).length) []).toArray.size = l.toArray.size := by simp; omega
    refine ⟨_, rfl, ⟨_, cap, rfl, by omega, h2, h3, Or.inr ⟨b, off, rfl, hB, by simpa using hb, fun j hj => ?_⟩⟩, Fr.row0.mono fun k _ e => by rw [e]; rfl, rfl⟩
    have hj' : j < (Lib.compact l).length := by simpa using hj
    have := holds_putRow encStr _ b off l.toArray _ (holds_ahead encStr w n b off _ hH) hs j (by simp; omega)
    rw [this.1, this.2]
    refine ⟨?_, rfl⟩
    rw [getElem!_pos (Lib.compact l).toArray j hj, getElem!_pos _ j (by simp; omega)]
    simp [List.getElem_append_left hj']

/-- The set of a list, in memory of the call's own. -/
theorem setof_any (v : Value) (l : List Str) (w : World) (h : Tl w v l) (hb : l.length * 16 ≤ 140737488355328) :
    Calls Try.prog 72 #[v] w fun e w' => ∃ v', e = .returned v' ∧ Tn w' w.heap.size v' (setS l) ∧ Fr (fun _ => False) w w' := by
  have hbH : Hidden ((0 + l.length) * 16 ≤ 140737488355328) := by show _ ≤ _; omega
  have hlH : Hidden (l.length < 4611686018427387904) := by show _ < _; omega
  have hH : Hidden (Tl w v l) := h
  obtain ⟨ao, cap, rfl, h1, h2, h3, h4⟩ := h
  obtain ⟨n, hn⟩ : ∃ n, l.length = n := ⟨_, rfl⟩
  rw [hn] at hH h1 ⊢
  clear h3 h4 hb hn
  go_enter Try.func72, Try.ntmps72
  go_wp2_with (first
    | (at_builtin; refine wpList_app rfl _ _ rfl w.heap.size _ _ [] l rfl (To.nil _ _) rfl hH (Nat.le_refl _) hbH ?_; intro v1 w1 ht1 hf1 _; have ks := sort_any v1 l _ w1 ht1.tn hlH)
    | (go_at_call 61; refine ks.mono ?_; rintro e w2 ⟨rfl, ht2, hf2⟩; have kc := compact_any v1 (sortS l) _ w2 ht2 (by rw [length_sortS]; exact hlH))
    | (go_at_call 82; refine kc.mono ?_; rintro e w3 ⟨v3, rfl, ht3, hf3, _⟩))
  go_ret
  refine ⟨v3, rfl, ht3, ?_⟩
  have f1 : Fr (fun _ => False) w w1 := hf1.mono fun k _ e => by cases e
  exact (f1.over hf2 fun k hk => (ht1.own k hk).1).over hf3 fun k hk => (ht1.own k hk).1

theorem set_any (v : Value) (l : List Str) (w : World) (h : Tl w v l) (hb : l.length * 16 ≤ 140737488355328) :
    Calls Try.prog 57 #[v] w fun e w' => ∃ v', e = .returned v' ∧ Tn w' w.heap.size v' (setS l) ∧ Fr (fun _ => False) w w' := by
  have k := setof_any v l w h hb
  obtain ⟨ao, cap, rfl, h1, h2, h3, h4⟩ := h
  obtain ⟨n, hn⟩ : ∃ n, l.length = n := ⟨_, rfl⟩
  rw [hn] at k h1 ⊢
  clear h3 h4 hb hn
  go_enter Try.func57, Try.ntmps57
  go_wp2_with (go_at_call 72; refine k.mono ?_; rintro e w1 ⟨v1, rfl, ht1, hf1⟩)
  go_ret
  exact ⟨v1, rfl, ht1, hf1⟩
end Go.Proofs.Ytajefmmggefbeaa
