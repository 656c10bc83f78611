/- The program's meaning, tokenAt. -/
import Derived.Test.YtfkccanjdlajlabGreatDoorLxW5
import Derived.Laws.Tables
namespace Go.Proofs.YtfkccanjdlajlabGreatDoor
open Go.RowKit Lx
set_option linter.unusedSimpArgs false
set_option linter.unusedVariables false

theorem setRow_fr (w : World) (g : Nat) (cs : Array Value) : Fr (fun k => k = g) w (w.setRow g cs) := ⟨rfl, rfl, by simp, fun k _ hn => setRow_other w g k cs (fun e => hn e)⟩

theorem frozen_row {w : World} {g : Nat} {cs : Array Value} {t : TypeId} (hg : w.heap[g]? = some (.cells cs t (0, 0))) (j : Nat) : w.frozen? ⟨g, j, none⟩ = false := by simp [World.frozen?, hg]
theorem set_two {w : World} {g : Nat} {a b : Value} {t : TypeId} (hg : w.heap[g]? = some (.cells #[a, b] t (0, 0))) (x y : Value) : ((w.setCell ⟨g, 0, none⟩ x).setCell ⟨g, 1, none⟩ y).heap[g]? = some (.cells #[x, y] t (0, 0)) := by
  have h1 := heap_setCell_same w g 0 #[a, b] t x hg
  have h2 := heap_setCell_same (w.setCell ⟨g, 0, none⟩ x) g 1 _ t y h1
  exact h2
theorem post_val {fn : Func} {R : Ending → World → Prop} {a : Act} {w : World} {p u : Tmp} {g : Nat} {x y : Value} {t b : Int} (hg : w.heap[g]? = some (.cells #[x, y] 42 (0, 0))) (h : fn.results = #[.cell p 42, .tmp u]) (hd : a.defers = [])
    (hp : a.tmps.getD p undef = .pointer (some ⟨g, 0, none⟩)) (hR : R (.returned (.tuple #[.agg #[.int .i64 t, .int .u64 b], a.tmps.getD u undef])) ((w.setCell ⟨g, 0, none⟩ (.int .i64 t)).setCell ⟨g, 1, none⟩ (.int .u64 b))) :
    bodyPost Tryz.prog fn R .ret a ((w.setCell ⟨g, 0, none⟩ (.int .i64 t)).setCell ⟨g, 1, none⟩ (.int .u64 b)) :=
  post_cell h hd g #[.int .i64 t, .int .u64 b] hp (run_loadVar_row _ _ _ _ _ _ _ (set_two hg _ _) Tryz.underlying42 rfl info_val) hR
theorem fr_two {S : Nat → Prop} {w w' : World} (h : Fr S w w') {g : Nat} (hg : w.heap.size ≤ g) (i j : Nat) (x y : Value) : Fr S w ((w'.setCell ⟨g, i, none⟩ x).setCell ⟨g, j, none⟩ y) :=
  h.over ((Fr.setCell w' ⟨g, i, none⟩ x).same (Fr.setCell _ ⟨g, j, none⟩ y)) (fun k hk => by subst hk; exact hg)
set_option maxRecDepth 20000 in
theorem meaning_int (x y : By) (v p e t' b' : Int) (hl : x.length ≤ 9223372036854775800) (hy : Hidden (noughts x = y)) (hn : Hidden (I.natS y = (v, p, e))) (hv : 0 ≤ v) (hv2 : v ≤ 9223372036854775807)
    (h : Hidden ((e = 0 ∧ t' = 1 ∧ b' = v) ∨ (e ≠ 0 ∧ t' = 0 ∧ b' = 0))) (w : World) :
    Calls Tryz.prog 90 #[.int .i64 3, .string ⟨x.toArray⟩] w fun r w' => r = .returned (.tuple #[.agg #[.int .i64 t', .int .u64 b'], .int .i64 e]) ∧ Fr (fun _ => False) w w' := by
  have k1 := noughts_walk x y hl hy
  have hyl : y.length ≤ 9223372036854775807 := by have := noughts_le x; rw [show noughts x = y from hy] at this; omega
  have k2 := I.nat_any y v p e hn hyl
  have k3 := valueOf_walk 1 v e t' b' h
  clear hyl
  go_enter Tryz.func90, Tryz.ntmps90
  go_wp2_with (first
    | (go_at_call 115; refine (k1 _).mono ?_; rintro e w' ⟨rfl, rfl⟩)
    | (go_at_call 114; refine (k2 _).mono ?_; rintro e W1 ⟨rfl, g1⟩; have f1 := fr_of_kept g1.1 g1.2)
    | (go_at_call 116; refine (k3 _).mono ?_; rintro e W2 ⟨rfl, f2⟩
       have hg : Hidden (W2.heap[w.heap.size]? = some (.cells #[.int .i64 0, .int .u64 0] 42 (0, 0))) := f2.heap (f1.heap (alloc_new _ _) (fun f => f)) (fun f => f)
       have hc0 : W2.cell? ⟨w.heap.size, 0, none⟩ = some (.int .i64 0) := cell_of_row _ _ 0 _ _ _ hg
       have hc1 : W2.cell? ⟨w.heap.size, 1, none⟩ = some (.int .u64 0) := cell_of_row _ _ 1 _ _ _ hg
       have hf0 := frozen_row hg 0
       have hf1 := frozen_row hg 1))
  (try simp only [Exit.inBlock, Exit.then])
  refine post_val hg rfl rfl rfl ⟨rfl, ?_⟩
  exact fr_two (((Fr.alloc (fun _ => False) w _).over f1 (fun _ h => h.elim)).over f2 (fun _ h => h.elim)) (Nat.le_refl _) 0 1 _ _
set_option maxRecDepth 20000 in
theorem meaning_float (x : By) (hx : Bool) (v e t' b' : Int) (hl : x.length ≤ 9223372036854775800) (hh : Hidden (decide (x.take 2 = [48, 120]) = hx)) (hn : Hidden ((if hx then F.parseS x else F.litS x) = (v, e)))
    (h : Hidden ((e = 0 ∧ t' = 2 ∧ b' = v) ∨ (e ≠ 0 ∧ t' = 0 ∧ b' = 0))) (w : World) (htab : F.Tab w) :
    Calls Tryz.prog 90 #[.int .i64 4, .string ⟨x.toArray⟩] w fun r w' => r = .returned (.tuple #[.agg #[.int .i64 t', .int .u64 b'], .int .i64 e]) ∧ Fr (fun _ => False) w w' := by
  have k1 := has2 x 48 120
  rw [show decide (x.take 2 = [48, 120]) = hx from hh] at k1
  have k3 := valueOf_walk 2 v e t' b' h
  have htab1 : F.Tab (w.alloc (.cells #[.int .i64 0, .int .u64 0] 42 (0, 0))) := tab_fr htab (Fr.alloc _ _ _)
  cases hx
  · have k2 := F.lit_any x v e hn (by omega)
    go_enter Tryz.func90, Tryz.ntmps90
    go_wp2_with (first
      | (go_at_call 87; refine (k1 _).mono ?_; rintro e w' ⟨rfl, rfl⟩)
      | (go_at_call 117; refine (k2 _).mono ?_; rintro e W1 ⟨rfl, g1⟩; have f1 := fr_of_kept g1.1 g1.2)
      | (go_at_call 116; refine (k3 _).mono ?_; rintro e W2 ⟨rfl, f2⟩
         have hg : Hidden (W2.heap[w.heap.size]? = some (.cells #[.int .i64 0, .int .u64 0] 42 (0, 0))) := f2.heap (f1.heap (alloc_new _ _) (fun f => f)) (fun f => f)
         have hc0 : W2.cell? ⟨w.heap.size, 0, none⟩ = some (.int .i64 0) := cell_of_row _ _ 0 _ _ _ hg
         have hc1 : W2.cell? ⟨w.heap.size, 1, none⟩ = some (.int .u64 0) := cell_of_row _ _ 1 _ _ _ hg
         have hf0 := frozen_row hg 0
         have hf1 := frozen_row hg 1))
    (try simp only [Exit.inBlock, Exit.then])
    refine post_val hg rfl rfl rfl ⟨rfl, ?_⟩
    exact fr_two (((Fr.alloc (fun _ => False) w _).over f1 (fun _ h => h.elim)).over f2 (fun _ h => h.elim)) (Nat.le_refl _) 0 1 _ _
  · have k2 := F.parse_any x v e hn (by omega)
    go_enter Tryz.func90, Tryz.ntmps90
    go_wp2_with (first
      | (go_at_call 87; refine (k1 _).mono ?_; rintro e w' ⟨rfl, rfl⟩)
      | (go_at_call 118; refine (k2 _ htab1).mono ?_; rintro e W1 ⟨rfl, g1⟩; have f1 := fr_of_kept g1.1 g1.2)
      | (go_at_call 116; refine (k3 _).mono ?_; rintro e W2 ⟨rfl, f2⟩
         have hg : Hidden (W2.heap[w.heap.size]? = some (.cells #[.int .i64 0, .int .u64 0] 42 (0, 0))) := f2.heap (f1.heap (alloc_new _ _) (fun f => f)) (fun f => f)
         have hc0 : W2.cell? ⟨w.heap.size, 0, none⟩ = some (.int .i64 0) := cell_of_row _ _ 0 _ _ _ hg
         have hc1 : W2.cell? ⟨w.heap.size, 1, none⟩ = some (.int .u64 0) := cell_of_row _ _ 1 _ _ _ hg
         have hf0 := frozen_row hg 0
         have hf1 := frozen_row hg 1))
    (try simp only [Exit.inBlock, Exit.then])
    refine post_val hg rfl rfl rfl ⟨rfl, ?_⟩
    exact fr_two (((Fr.alloc (fun _ => False) w _).over f1 (fun _ h => h.elim)).over f2 (fun _ h => h.elim)) (Nat.le_refl _) 0 1 _ _
theorem nat_v (y : By) : 0 ≤ (I.natS y).1 ∧ (I.natS y).1 ≤ 9223372036854775807 := by
  have := I.amt_bounds 9223372036854775807 y (I.natS y).1 (I.natS y).2.1 (I.natS y).2.2 rfl
  omega
theorem meaning_any (k : Nat) (x : By) (t b e : Int) (hk : 1 ≤ k ∧ k ≤ 5) (hl : x.length ≤ 9223372036854775800) (h : valS k x = (t, b, e)) (w : World) (htab : F.Tab w) :
    Calls Tryz.prog 90 #[.int .i64 (k : Int), .string ⟨x.toArray⟩] w fun r w' => r = .returned (.tuple #[.agg #[.int .i64 t, .int .u64 b], .int .i64 e]) ∧ Fr (fun _ => False) w w' := by
  unfold valS at h
  obtain rfl | rfl | rfl | rfl | rfl : k = 1 ∨ k = 2 ∨ k = 3 ∨ k = 4 ∨ k = 5 := by omega
  · rw [if_pos rfl] at h
    cases h
    exact meaning_name x _ hl rfl w
  · simp only [Nat.reduceEqDiff, if_false] at h
    cases h
    exact meaning_plain 2 x (Or.inl rfl) w
  · simp only [Nat.reduceEqDiff, if_false, if_true] at h
    have hv := nat_v (noughts x)
    refine meaning_int x _ (I.natS (noughts x)).1 (I.natS (noughts x)).2.1 e t b hl rfl ?_ hv.1 hv.2 ?_ w
    · show _ = _
      split at h
      · rename_i h0
        cases h
        rw [← h0]
      · cases h
        rfl
    · split at h
      · cases h
        exact Or.inl ⟨rfl, rfl, rfl⟩
      · rename_i h0
        cases h
        exact Or.inr ⟨h0, rfl, rfl⟩
  · simp only [Nat.reduceEqDiff, if_false, if_true] at h
    by_cases hx : x.take 2 = [48, 120]
    · rw [if_pos hx] at h
      refine meaning_float x true (F.parseS x).1 e t b hl (decide_eq_true hx) ?_ ?_ w htab
      · show _ = _
        simp only [if_true]
        split at h
        · rename_i h0
          cases h
          rw [← h0]
        · cases h
          rfl
      · split at h
        · cases h
          exact Or.inl ⟨rfl, rfl, rfl⟩
        · rename_i h0
          cases h
          exact Or.inr ⟨h0, rfl, rfl⟩
    · rw [if_neg hx] at h
      refine meaning_float x false (F.litS x).1 e t b hl (decide_eq_false hx) ?_ ?_ w htab
      · show _ = _
        simp only [Bool.false_eq_true, if_false]
        split at h
        · rename_i h0
          cases h
          rw [← h0]
        · cases h
          rfl
      · split at h
        · cases h
          exact Or.inl ⟨rfl, rfl, rfl⟩
        · rename_i h0
          cases h
          exact Or.inr ⟨h0, rfl, rfl⟩
  · simp only [Nat.reduceEqDiff, if_false] at h
    cases h
    exact meaning_plain 5 x (Or.inr rfl) w
end Go.Proofs.YtfkccanjdlajlabGreatDoor
