/- Union: two lists one behind the other. -/
import Derived.Test.YtjnjajiofhkinaaGreatDoorNzA
import Derived.Lib.AppendZerosOnto
namespace Go.Proofs.YtjnjajiofhkinaaGreatDoor.U
open Go.RowKit Go.Sort
set_option linter.unusedSimpArgs false
set_option linter.unusedVariables false

theorem Tn.lower {w : World} {B B' : Nat} {v : Value} {l : List Str} (h : Tn w B v l) (hb : B' ≤ B) : Tn w B' v l := by
  obtain ⟨ao, cap, rfl, h1, h2, h3, h4⟩ := h
  refine ⟨ao, cap, rfl, h1, h2, h3, ?_⟩
  rcases h4 with rfl | ⟨b, off, rfl, hB, hr⟩
  · exact Or.inl rfl
  · exact Or.inr ⟨b, off, rfl, by omega, hr⟩

set_option maxHeartbeats 800000 in
theorem grow_any (n : Nat) (w : World) (hb : n * 16 ≤ 140737488355328) :
    Calls Tryz.prog 72 #[.slice none 0 0, .int .i64 (n : Int)] w fun e w' => ∃ v, e = .returned v ∧ To w' w.heap.size v [] ∧ Fr (fun _ => False) w w' := by
  by_cases h0 : n = 0
  · subst h0
    go_enter Tryz.func72, Tryz.ntmps72
    go_wp2
    go_ret
    exact ⟨_, rfl, To.nil _ _, Fr.refl _ _⟩
  · obtain ⟨i0, hi, hz0, hz1, hz2⟩ := info_parts Tryz.info_str
    have hold : (Builtin.firstCells i0.size 0 (.slice none 0 0)).run Tryz.prog w.drew = .ok ([] : List Value).toArray w.drew := run_firstCells_none w.drew i0.size 0 0 0
    have hr : ∀ ty, (Builtin.append_ #[36, 3] ty #[.slice none 0 0, .int .i64 (n : Int)]).run Tryz.prog w = _ := fun ty => Lib.run_append_grow_zeros w 36 3 ty 9 i0 (.string ⟨#[]⟩) .i64 .i64 Tryz.underlying36 Tryz.underlying3 hi hz0 none 0 0 [] hold n (by omega) (by omega) (by omega) (by omega) (by rw [hz2]; omega) (by rw [hz2]; exact growslice_fits (by omega) (by omega))
    have hGn : n ≤ grownCap w (0 + n) 0 9 := by have := grownCap_ge w (0 + n) 0 9; omega
    have hG63 : grownCap w (0 + n) 0 9 ≤ 9223372036854775807 := by
      have := grownCap_le_maxLen w (0 + n) 0 9 (by unfold maxLen; omega)
      unfold maxLen at this
      omega
    obtain ⟨G, cur, g1, g2, g3, g4⟩ : ∃ (G : Nat) (cur : Array Value), n ≤ G ∧ G ≤ 9223372036854775807 ∧ cur.size = G ∧ ∀ ty, (Builtin.append_ #[36, 3] ty #[.slice none 0 0, .int .i64 (n : Int)]).run Tryz.prog w = .ok (.slice (some ⟨w.heap.size, 0, none⟩) n G) (w.drew.alloc (.cells cur 9)) := by
      refine ⟨grownCap w (0 + n) 0 9, _, hGn, hG63, ?_, fun ty => by rw [hr ty, Nat.zero_add]⟩
      simp only [Array.size_append, size_zeroCells, Value.cells]
      rw [Nat.zero_add] at hGn ⊢
      simp
      omega
    have hcurH : Hidden (cur.size = G) := g3
    clear hr hold hGn hG63 hi hz0 hz1 hz2 g3
    go_enter Tryz.func72, Tryz.ntmps72
    go_wp2_with (at_builtin; refine Lib.wpList_append_run _ rfl _ _ _ _ rfl _ _ rfl rfl _ _ (g4 _) ?_)
    go_ret
    refine ⟨_, rfl, ⟨by simp, Or.inr ⟨w.heap.size, G, cur, rfl, Nat.le_refl _, alloc_new w.drew _, by simp, g2, by rw [show cur.size = G from hcurH]; omega, by simp⟩⟩, (Fr.drew _ _).same (Fr.alloc _ _ _)⟩

/-- Two lists that are handed on together. -/
theorem concat_any (bk : Nat) (va vb : Value) (a b : List Str) (w : World) (c0 : w.cell? ⟨bk, 0, none⟩ = some va) (c1 : w.cell? ⟨bk, 1, none⟩ = some vb) (ha : Tl w va a) (hb : Tl w vb b) (hl : (a.length + b.length) * 16 ≤ 140737488355328) :
    Calls Tryz.prog 53 #[.slice (some ⟨bk, 0, none⟩) 2 2] w fun e w' => ∃ v', e = .returned v' ∧ To w' w.heap.size v' (a ++ b) ∧ Fr (fun _ => False) w w' := by
  have haH : Hidden (Tl w va a) := ha
  have hbH : Hidden (Tl w vb b) := hb
  have c0H : Hidden (w.cell? ⟨bk, 0, none⟩ = some va) := c0
  have c1H : Hidden (w.cell? ⟨bk, 1, none⟩ = some vb) := c1
  have kg := grow_any (a.length + b.length) w hl
  have h1H : Hidden ((0 + a.length) * 16 ≤ 140737488355328) := by show _ ≤ _; omega
  have h2H : Hidden ((a.length + b.length) * 16 ≤ 140737488355328) := hl
  obtain ⟨ao, ca, rfl, a1, a2, a3, a4⟩ := ha
  obtain ⟨bo, cb, rfl, b1, b2, b3, b4⟩ := hb
  obtain ⟨na, hna⟩ : ∃ n, a.length = n := ⟨_, rfl⟩
  obtain ⟨nb, hnb⟩ : ∃ n, b.length = n := ⟨_, rfl⟩
  rw [hna] at haH c0 c0H a1
  rw [hnb] at hbH c1 c1H b1
  rw [hna, hnb] at kg hl
  clear a3 a4 b3 b4 hna hnb
  have e1 : (((na + nb : Nat) : Int)) = (na : Int) + (nb : Int) := by omega
  rw [e1] at kg
  have hbk : Hidden (bk < w.heap.size) := World.block_lt_of_cell? w _ c0
  clear e1
  go_enter Tryz.func53, Tryz.ntmps53
  go_wp2
  refine wp_loop_rounds 3 ?_
  rw [rounds_succ]
  go_wp2
  rw [rounds_succ]
  go_wp2
  rw [rounds_succ]
  go_wp2_with (go_at_call 72; refine kg.mono ?_; rintro e w1 ⟨v1, rfl, t1, f1⟩; have d0 := f1.cell c0 (fun f => f); have d1H : Hidden (w1.cell? ⟨bk, 1, none⟩ = some (.slice bo nb cb)) := f1.cell c1 (fun f => f); clear c0 c1)
  refine wp_loop_rounds 3 ?_
  rw [rounds_succ]
  go_wp2_with (at_builtin; refine wpList_app rfl _ _ rfl w.heap.size _ _ [] a rfl t1 rfl ((show Tl w _ a from haH).later f1) f1.size h1H ?_; intro v2 w2 t2 f2 _)
  have hlow : ∀ k, v1.ownBlock = some k → ¬ k = bk := fun k hk e => by
    have := (t1.own k hk).1
    have : bk < w.heap.size := hbk
    omega
  have d1 : w2.cell? ⟨bk, 1, none⟩ = some (.slice bo nb cb) := f2.cell d1H (fun hk => hlow _ hk rfl)
  have x2 : Hidden (Tl w2 (.slice bo nb cb) b) := by
    have h : Tl w1 (.slice bo nb cb) b := (show Tl w _ b from hbH).later f1
    have hw : Tl w (.slice bo nb cb) b := hbH
    by_cases h0 : b = []
    · obtain ⟨ao', cap', e, q1, q2, q3, _⟩ := h
      exact ⟨ao', cap', e, q1, q2, q3, Or.inl h0⟩
    · refine h.keep f2 (fun k hk hs => ?_)
      have h1 := (t1.own k hs).1
      obtain ⟨ao', cap', e, q1, q2, q3, q4⟩ := hw
      rcases q4 with q4 | ⟨b', off', rfl, hc⟩
      · exact h0 q4
      · cases e
        obtain ⟨x, r, rfl⟩ := List.exists_cons_of_ne_nil h0
        have := World.block_lt_of_cell? w _ (hc 0 x rfl)
        have e2 : b' = k := by simpa [Value.ownBlock] using hk
        subst e2
        simp only at this
        omega
  clear hlow d1H
  rw [rounds_succ]
  go_wp2_with (at_builtin; refine wpList_app rfl _ _ rfl w.heap.size _ _ a b rfl t2 rfl x2 (Nat.le_trans f1.size f2.size) h2H ?_; intro v3 w3 t3 f3 _)
  rw [rounds_succ]
  go_wp2
  go_ret
  exact ⟨v3, rfl, t3, (f1.over f2 (fun k hk => (t1.own k hk).1)).over f3 (fun k hk => (t2.own k hk).1)⟩

theorem union_any (va vb : Value) (a b : List Str) (w : World) (ha : Tl w va a) (hb : Tl w vb b) (hl : (a.length + b.length) * 16 ≤ 140737488355328) :
    Calls Tryz.prog 30 #[va, vb] w fun e w' => ∃ v', e = .returned v' ∧ Tn w' w.heap.size v' (setS (a ++ b)) ∧ Fr (fun _ => False) w w' := by
  have f0 : Fr (fun _ => False) w (w.alloc (.cells #[va, vb] 36)) := Fr.alloc _ _ _
  have hn := alloc_new w (.cells #[va, vb] 36)
  have kc := concat_any w.heap.size va vb a b (w.alloc (.cells #[va, vb] 36)) (by rw [cell_of_row _ _ _ _ _ _ hn]; rfl) (by rw [cell_of_row _ _ _ _ _ _ hn]; rfl) (ha.later f0) (hb.later f0) hl
  have f0H : Hidden (Fr (fun _ => False) w (w.alloc (.cells #[va, vb] 36))) := f0
  have hlH : Hidden ((a ++ b).length * 16 ≤ 140737488355328) := by rw [List.length_append]; exact hl
  obtain ⟨ao, ca, rfl, a1, a2, a3, a4⟩ := ha
  obtain ⟨bo, cb, rfl, b1, b2, b3, b4⟩ := hb
  obtain ⟨na, hna⟩ : ∃ n, a.length = n := ⟨_, rfl⟩
  obtain ⟨nb, hnb⟩ : ∃ n, b.length = n := ⟨_, rfl⟩
  rw [hna, hnb] at kc f0H ⊢
  rw [hna] at a1
  rw [hnb] at b1
  clear a3 a4 b3 b4 hl hna hnb f0 hn
  go_enter Tryz.func30, Tryz.ntmps30
  go_wp2_with (first
    | (go_at_call 53; refine kc.mono ?_; rintro e w1 ⟨v1, rfl, t1, f1⟩; have ks := setof_any v1 (a ++ b) w1 t1.tn.tl hlH)
    | (go_at_call 52; refine ks.mono ?_; rintro e w2 ⟨v2, rfl, t2, f2⟩))
  go_ret
  have f01 : Fr (fun _ => False) w w1 := (show Fr (fun _ => False) w _ from f0H).same f1
  exact ⟨v2, rfl, t2.lower f01.size, f01.same f2⟩
end Go.Proofs.YtjnjajiofhkinaaGreatDoor.U
