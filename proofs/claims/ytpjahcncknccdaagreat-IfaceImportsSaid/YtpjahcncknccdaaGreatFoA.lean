/- The program's operators: small ones. -/
import Derived.Test.YtpjahcncknccdaaGreatFoS
import Derived.Laws.ResultCell
namespace Go.Proofs.YtpjahcncknccdaaGreat.Fo
open Go.RowKit
set_option linter.unusedSimpArgs false
set_option linter.unusedVariables false

theorem frozen_row {w : World} {g : Nat} {cs : Array Value} {t : TypeId} (hg : w.heap[g]? = some (.cells cs t (0, 0))) (j : Nat) : w.frozen? ⟨g, j, none⟩ = false := by simp [World.frozen?, hg]
theorem set_two {w : World} {g : Nat} {a b : Value} {t : TypeId} (hg : w.heap[g]? = some (.cells #[a, b] t (0, 0))) (x y : Value) : ((w.setCell ⟨g, 0, none⟩ x).setCell ⟨g, 1, none⟩ y).heap[g]? = some (.cells #[x, y] t (0, 0)) := by
  have h1 := heap_setCell_same w g 0 #[a, b] t x hg
  have h2 := heap_setCell_same (w.setCell ⟨g, 0, none⟩ x) g 1 _ t y h1
  exact h2
theorem fr_two {S : Nat → Prop} {w w' : World} (h : Fr S w w') {g : Nat} (hg : w.heap.size ≤ g) (x y : Value) : Fr S w ((w'.setCell ⟨g, 0, none⟩ x).setCell ⟨g, 1, none⟩ y) :=
  h.over ((Fr.setCell w' ⟨g, 0, none⟩ x).same (Fr.setCell _ ⟨g, 1, none⟩ y)) (fun k hk => by subst hk; exact hg)
theorem info_val : (Tryz.prog.info? 54).map (·.size) = some 2 := by kernel_rfl
abbrev zb (x y : Value) : Obj := .cells #[x, y] 54 (0, 0)
/-- Two results, the first one a value that lies in memory. -/
theorem post_v {fn : Func} {R : Ending → World → Prop} {a : Act} {w : World} {p u : Tmp} {g : Nat} {x y : Value} (hg : w.heap[g]? = some (zb x y)) (h : fn.results = #[.cell p 54, .tmp u]) (hd : a.defers = [])
    (hp : a.tmps.getD p undef = .pointer (some ⟨g, 0, none⟩)) (hR : R (.returned (.tuple #[.agg #[x, y], a.tmps.getD u undef])) w) : bodyPost Tryz.prog fn R .ret a w := by
  refine ⟨hd, _, ?_, hR⟩
  rw [results_cell_tmp h, hp]
  have hl : (loadVar 54 ⟨g, 0, none⟩).run Tryz.prog w = .ok (.agg #[x, y]) w := run_loadVar_row _ _ _ _ _ _ _ hg Tryz.underlying54 rfl info_val
  simp [asAddr, hl, Result.andThen]
theorem post_v1 {fn : Func} {R : Ending → World → Prop} {a : Act} {w : World} {p : Tmp} {g : Nat} {x y : Value} (hg : w.heap[g]? = some (zb x y)) (h : fn.results = #[.cell p 54]) (hd : a.defers = [])
    (hp : a.tmps.getD p undef = .pointer (some ⟨g, 0, none⟩)) (hR : R (.returned (.agg #[x, y])) w) : bodyPost Tryz.prog fn R .ret a w :=
  ⟨hd, _, results_cell_row h _ _ g _ #[x, y] (0, 0) _ hp hg Tryz.underlying54 rfl info_val, hR⟩
/-- What a value's box holds. -/
theorem box2 {w : World} {g : Nat} {x y : Value} (hg : w.heap[g]? = some (zb x y)) : w.cell? ⟨g, 0, none⟩ = some x ∧ w.cell? ⟨g, 1, none⟩ = some y ∧ w.frozen? ⟨g, 0, none⟩ = false ∧ w.frozen? ⟨g, 1, none⟩ = false :=
  ⟨cell_of_row _ _ 0 _ _ _ hg, cell_of_row _ _ 1 _ _ _ hg, frozen_row hg 0, frozen_row hg 1⟩
theorem alloc_at (w : World) (o : Obj) (k : Nat) (h : k = w.heap.size) : (w.alloc o).heap[k]? = some o := by rw [h]; exact alloc_new _ _

theorem trapOf_any (e : Int) (w : World) : Calls Tryz.prog 169 #[ci e] w fun r w' => r = .returned (ci (trapF e)) ∧ w' = w := by
  unfold trapF
  by_cases h1 : e = 80
  · subst h1
    go_enter Tryz.func169, Tryz.ntmps169
    go_wp2
    go_ret
    exact ⟨rfl, rfl⟩
  by_cases h2 : e = 81
  · subst h2
    go_enter Tryz.func169, Tryz.ntmps169
    go_wp2
    go_ret
    exact ⟨rfl, rfl⟩
  rw [if_neg h1, if_neg h2]
  have b1 : (e == 80) = false := by simp [h1]
  have b2 : (e == 81) = false := by simp [h2]
  clear h1 h2
  go_enter Tryz.func169, Tryz.ntmps169
  go_wp2
  go_ret
  exact ⟨rfl, rfl⟩
theorem errno_any (t : Int) (w : World) : Calls Tryz.prog 113 #[ci t] w fun r w' => r = .returned (ci (errnoF t)) ∧ w' = w := by
  unfold errnoF
  by_cases h0 : t = 0
  · subst h0
    go_enter Tryz.func113, Tryz.ntmps113
    go_wp2
    go_ret
    exact ⟨rfl, rfl⟩
  by_cases h1 : t = 1
  · subst h1
    go_enter Tryz.func113, Tryz.ntmps113
    go_wp2
    go_ret
    exact ⟨rfl, rfl⟩
  by_cases h2 : t = 2
  · subst h2
    go_enter Tryz.func113, Tryz.ntmps113
    go_wp2
    go_ret
    exact ⟨rfl, rfl⟩
  by_cases h3 : t = 3
  · subst h3
    go_enter Tryz.func113, Tryz.ntmps113
    go_wp2
    go_ret
    exact ⟨rfl, rfl⟩
  rw [if_neg h0, if_neg h1, if_neg h2, if_neg h3]
  have b0 : (t == 0) = false := by simp [h0]
  have b1 : (t == 1) = false := by simp [h1]
  have b2 : (t == 2) = false := by simp [h2]
  have b3 : (t == 3) = false := by simp [h3]
  clear h0 h1 h2 h3
  go_enter Tryz.func113, Tryz.ntmps113
  go_wp2
  go_ret
  exact ⟨rfl, rfl⟩
theorem whole_any (n e : Int) (w : World) : Calls Tryz.prog 154 #[ci n, ci e] w fun r w' => r = .returned (.tuple #[vv (wholeF n e).1, ci (wholeF n e).2]) ∧ Fr (fun _ => False) w w' := by
  unfold wholeF
  by_cases h : e = 0
  · subst h
    go_enter Tryz.func154, Tryz.ntmps154
    go_wp2
    refine post_v (alloc_at _ _ _ (by simp)) rfl rfl rfl ⟨rfl, Fr.alloc _ _ _⟩
  · rw [if_neg h]
    have b0 : (e != 0) = true := by simp [h]
    have kt := trapOf_any e
    clear h
    go_enter Tryz.func154, Tryz.ntmps154
    go_wp2_with (go_at_call 169; refine (kt _).mono ?_; rintro r w' ⟨rfl, hw⟩; rw [hw]; clear hw)
    refine post_v (alloc_at _ _ _ (by simp)) rfl rfl rfl ⟨rfl, Fr.alloc _ _ _⟩
theorem float_any (b : Int) (w : World) : Calls Tryz.prog 156 #[.int .u64 b] w fun r w' => r = .returned (vv (2, b)) ∧ Fr (fun _ => False) w w' := by
  go_enter Tryz.func156, Tryz.ntmps156
  go_wp2
  exact post_v1 (alloc_at _ _ _ (by simp)) rfl rfl rfl ⟨rfl, Fr.alloc _ _ _⟩
theorem truth_any (b : Bool) (w : World) : Calls Tryz.prog 153 #[.bool b] w fun r w' => r = .returned (vv (truthF b)) ∧ Fr (fun _ => False) w w' := by
  cases b
  · go_enter Tryz.func153, Tryz.ntmps153
    go_wp2
    exact post_v1 (alloc_at _ _ _ (by simp)) rfl rfl rfl ⟨rfl, Fr.alloc _ _ _⟩
  · go_enter Tryz.func153, Tryz.ntmps153
    go_wp2
    exact post_v1 (alloc_at _ _ _ (by simp)) rfl rfl rfl ⟨rfl, Fr.alloc _ _ _⟩
theorem beqd (o : Int) : (o == 0) = decide (o = 0) := rfl
theorem intsAre_any (op o : Int) (w : World) : Calls Tryz.prog 180 #[ci op, ci o] w fun r w' => r = .returned (.bool (cmpF op o)) ∧ w' = w := by
  unfold cmpF
  by_cases h6 : op = 6
  · subst h6
    go_enter Tryz.func180, Tryz.ntmps180
    go_wp2
    go_ret
    exact ⟨by simp [beqd], rfl⟩
  by_cases h7 : op = 7
  · subst h7
    go_enter Tryz.func180, Tryz.ntmps180
    go_wp2
    go_ret
    exact ⟨by simp [bne, Bool.beq_eq_decide_eq], rfl⟩
  by_cases h8 : op = 8
  · subst h8
    go_enter Tryz.func180, Tryz.ntmps180
    go_wp2
    go_ret
    exact ⟨by simp, rfl⟩
  by_cases h9 : op = 9
  · subst h9
    go_enter Tryz.func180, Tryz.ntmps180
    go_wp2
    go_ret
    exact ⟨by simp, rfl⟩
  by_cases h10 : op = 10
  · subst h10
    go_enter Tryz.func180, Tryz.ntmps180
    go_wp2
    go_ret
    exact ⟨by simp, rfl⟩
  rw [if_neg h6, if_neg h7, if_neg h8, if_neg h9, if_neg h10]
  have b6 : (op == 6) = false := by simp [h6]
  have b7 : (op == 7) = false := by simp [h7]
  have b8 : (op == 8) = false := by simp [h8]
  have b9 : (op == 9) = false := by simp [h9]
  have b10 : (op == 10) = false := by simp [h10]
  clear h6 h7 h8 h9 h10
  go_enter Tryz.func180, Tryz.ntmps180
  go_wp2
  go_ret
  exact ⟨by simp, rfl⟩
end Go.Proofs.YtpjahcncknccdaaGreat.Fo
