/- The program's tokenAt. -/
import Derived.Test.YtfkccanjdlajlabGreatDoorLxW6
namespace Go.Proofs.YtfkccanjdlajlabGreatDoor
open Go.RowKit Lx
set_option linter.unusedSimpArgs false
set_option linter.unusedVariables false

theorem set_five {w : World} {g : Nat} {a b c d e : Value} {t : TypeId} (hg : w.heap[g]? = some (.cells #[a, b, c, d, e] t (0, 0))) (v0 v1 v2 v3 v4 : Value) :
    (((((w.setCell ⟨g, 0, none⟩ v0).setCell ⟨g, 1, none⟩ v1).setCell ⟨g, 2, none⟩ v2).setCell ⟨g, 3, none⟩ v3).setCell ⟨g, 4, none⟩ v4).heap[g]? = some (.cells #[v0, v1, v2, v3, v4] t (0, 0)) := by
  have h1 := heap_setCell_same w g 0 _ t v0 hg
  have h2 := heap_setCell_same _ g 1 _ t v1 h1
  have h3 := heap_setCell_same _ g 2 _ t v2 h2
  have h4 := heap_setCell_same _ g 3 _ t v3 h3
  exact heap_setCell_same _ g 4 _ t v4 h4
theorem kind_range (words : List By) (u : By) : 1 ≤ (kindLen words u).1 ∧ (kindLen words u).1 ≤ 5 := by
  cases u with
  | nil => simp [kindLen]
  | cons c r =>
    rw [kind_cons]
    split
    · unfold numLen
      split
      · simp
      · split <;> simp
    · split
      · simp only []
        split <;> simp
      · simp
theorem post_tok {fn : Func} {R : Ending → World → Prop} {a : Act} {w : World} {p u : Tmp} {g : Nat} {x0 x1 x2 x3 x4 v0 v1 v2 v3 v4 : Value} (hg : w.heap[g]? = some (.cells #[x0, x1, x2, x3, x4] 109 (0, 0))) (h : fn.results = #[.cell p 109, .tmp u]) (hd : a.defers = [])
    (hp : a.tmps.getD p undef = .pointer (some ⟨g, 0, none⟩)) (hR : R (.returned (.tuple #[.agg #[v0, v1, v2, v3, v4], a.tmps.getD u undef])) (((((w.setCell ⟨g, 0, none⟩ v0).setCell ⟨g, 1, none⟩ v1).setCell ⟨g, 2, none⟩ v2).setCell ⟨g, 3, none⟩ v3).setCell ⟨g, 4, none⟩ v4)) :
    bodyPost Tryz.prog fn R .ret a (((((w.setCell ⟨g, 0, none⟩ v0).setCell ⟨g, 1, none⟩ v1).setCell ⟨g, 2, none⟩ v2).setCell ⟨g, 3, none⟩ v3).setCell ⟨g, 4, none⟩ v4) :=
  post_cell h hd g #[v0, v1, v2, v3, v4] hp (run_loadVar_row _ _ _ _ _ _ _ (set_five hg _ _ _ _ _) Tryz.underlying109 rfl info_tok) hR
theorem fr_five {S : Nat → Prop} {w w' : World} (h : Fr S w w') {g : Nat} (hg : w.heap.size ≤ g) (v0 v1 v2 v3 v4 : Value) :
    Fr S w (((((w'.setCell ⟨g, 0, none⟩ v0).setCell ⟨g, 1, none⟩ v1).setCell ⟨g, 2, none⟩ v2).setCell ⟨g, 3, none⟩ v3).setCell ⟨g, 4, none⟩ v4) :=
  h.over (((((Fr.setCell w' ⟨g, 0, none⟩ v0).same (Fr.setCell _ ⟨g, 1, none⟩ v1)).same (Fr.setCell _ ⟨g, 2, none⟩ v2)).same (Fr.setCell _ ⟨g, 3, none⟩ v3)).same (Fr.setCell _ ⟨g, 4, none⟩ v4)) (fun k hk => by subst hk; exact hg)
def tokA (k : Int) (x : By) (t b p : Int) : Value := .agg #[.int .i64 k, .string ⟨x.toArray⟩, .int .i64 t, .int .u64 b, .int .i64 p]

theorem tokenAt_none (l : By) (i k : Nat) (hl : l.length ≤ 9223372036854775800)
    (kl : ∀ w, Calls Tryz.prog 89 #[.string ⟨l.toArray⟩, .int .i64 (i : Int)] w fun e w' => e = .returned (.tuple #[.int .i64 (k : Int), .int .i64 (i : Int)]) ∧ w' = w) (w : World) :
    Calls Tryz.prog 68 #[.string ⟨l.toArray⟩, .int .i64 (i : Int)] w fun r w' => r = .returned (.tuple #[.agg #[.int .i64 0, .string ⟨#[]⟩, .int .i64 0, .int .u64 0, .int .i64 0], .int .i64 10]) ∧ Fr (fun _ => False) w w' := by
  go_enter Tryz.func68, Tryz.ntmps68
  go_wp2_with (first
    | (go_at_call 89; refine (kl _).mono ?_; rintro e w' ⟨rfl, rfl⟩))
  exact post_cell rfl rfl w.heap.size _ rfl (run_loadVar_row _ _ _ _ _ _ _ (alloc_new _ _) Tryz.underlying109 rfl info_tok) ⟨rfl, Fr.alloc _ _ _⟩

set_option maxRecDepth 20000 in
set_option maxHeartbeats 1000000 in
theorem tokenAt_some (l x : By) (i k j : Nat) (t b e : Int) (hl : l.length ≤ 9223372036854775800) (hij : i < j) (hj : j ≤ l.length) (hx : Hidden ((l.drop i).take (j - i) = x))
    (kl : ∀ w, Calls Tryz.prog 89 #[.string ⟨l.toArray⟩, .int .i64 (i : Int)] w fun e w' => e = .returned (.tuple #[.int .i64 (k : Int), .int .i64 (j : Int)]) ∧ w' = w)
    (km : ∀ w, F.Tab w → Calls Tryz.prog 90 #[.int .i64 (k : Int), .string ⟨x.toArray⟩] w fun r w' => r = .returned (.tuple #[.agg #[.int .i64 t, .int .u64 b], .int .i64 e]) ∧ Fr (fun _ => False) w w') (w : World) (htab : F.Tab w) :
    Calls Tryz.prog 68 #[.string ⟨l.toArray⟩, .int .i64 (i : Int)] w fun r w' => r = .returned (.tuple #[.agg #[.int .i64 (k : Int), .string ⟨x.toArray⟩, .int .i64 t, .int .u64 b, .int .i64 (i : Int)], .int .i64 e]) ∧ Fr (fun _ => False) w w' := by
  have hsl := slice_mid l i j (by omega) hj (by omega)
  rw [show (l.drop i).take (j - i) = x from hx] at hsl
  have hne : ((j : Int) == (i : Int)) = false := by rw [beq_eq_false_iff_ne]; omega
  have ht2 : Hidden (F.Tab ((w.alloc (.cells #[.int .i64 0, .string ⟨#[]⟩, .int .i64 0, .int .u64 0, .int .i64 0] 109 (0, 0))).alloc (.cells #[.int .i64 (k : Int), .string ⟨x.toArray⟩, .int .i64 0, .int .u64 0, .int .i64 (i : Int)] 109 (0, 0)))) := tab_fr (tab_fr htab (Fr.alloc _ _ _)) (Fr.alloc _ _ _)
  go_enter Tryz.func68, Tryz.ntmps68
  go_wp2_with (first
    | (go_at_call 89; refine (kl _).mono ?_; rintro e w' ⟨rfl, rfl⟩)
    | (go_at_call 90; refine (km _ ht2).mono ?_; rintro e W1 ⟨rfl, f1⟩
       have ha : Hidden (W1.heap[w.heap.size]? = some (.cells #[.int .i64 0, .string ⟨#[]⟩, .int .i64 0, .int .u64 0, .int .i64 0] 109 (0, 0))) := f1.heap (heap_alloc2_old _ _ _) (fun f => f)
       have hb : Hidden (W1.heap[w.heap.size + 1]? = some (.cells #[.int .i64 (k : Int), .string ⟨x.toArray⟩, .int .i64 0, .int .u64 0, .int .i64 (i : Int)] 109 (0, 0))) := f1.heap (heap_alloc2_new _ _ _) (fun f => f)
       have ca0 : W1.cell? ⟨w.heap.size, 0, none⟩ = some (.int .i64 0) := cell_of_row _ _ 0 _ _ _ ha
       have fa0 := frozen_row ha 0
       have ca1 : W1.cell? ⟨w.heap.size, 1, none⟩ = some (.string ⟨#[]⟩) := cell_of_row _ _ 1 _ _ _ ha
       have fa1 := frozen_row ha 1
       have ca2 : W1.cell? ⟨w.heap.size, 2, none⟩ = some (.int .i64 0) := cell_of_row _ _ 2 _ _ _ ha
       have fa2 := frozen_row ha 2
       have ca3 : W1.cell? ⟨w.heap.size, 3, none⟩ = some (.int .u64 0) := cell_of_row _ _ 3 _ _ _ ha
       have fa3 := frozen_row ha 3
       have ca4 : W1.cell? ⟨w.heap.size, 4, none⟩ = some (.int .i64 0) := cell_of_row _ _ 4 _ _ _ ha
       have fa4 := frozen_row ha 4
       have cb0 : W1.cell? ⟨w.heap.size + 1, 0, none⟩ = some (.int .i64 (k : Int)) := cell_of_row _ _ 0 _ _ _ hb
       have fb0 := frozen_row hb 0
       have cb1 : W1.cell? ⟨w.heap.size + 1, 1, none⟩ = some (.string ⟨x.toArray⟩) := cell_of_row _ _ 1 _ _ _ hb
       have fb1 := frozen_row hb 1
       have cb2 : W1.cell? ⟨w.heap.size + 1, 2, none⟩ = some (.int .i64 0) := cell_of_row _ _ 2 _ _ _ hb
       have fb2 := frozen_row hb 2
       have cb3 : W1.cell? ⟨w.heap.size + 1, 3, none⟩ = some (.int .u64 0) := cell_of_row _ _ 3 _ _ _ hb
       have fb3 := frozen_row hb 3
       have cb4 : W1.cell? ⟨w.heap.size + 1, 4, none⟩ = some (.int .i64 (i : Int)) := cell_of_row _ _ 4 _ _ _ hb
       have fb4 := frozen_row hb 4
       skip))
  have ha2 : ((W1.setCell ⟨w.heap.size + 1, 2, none⟩ (.int .i64 t)).setCell ⟨w.heap.size + 1, 3, none⟩ (.int .u64 b)).heap[w.heap.size]? = some (.cells #[.int .i64 0, .string ⟨#[]⟩, .int .i64 0, .int .u64 0, .int .i64 0] 109 (0, 0)) := by
    rw [heap_setCell_other _ _ _ _ (by show w.heap.size ≠ w.heap.size + 1; omega), heap_setCell_other _ _ _ _ (by show w.heap.size ≠ w.heap.size + 1; omega)]
    exact ha
  refine post_tok ha2 rfl rfl rfl ⟨rfl, ?_⟩
  exact fr_five (fr_two (((Fr.alloc (fun _ => False) w _).same (Fr.alloc _ _ _)).same f1) (by omega) 2 3 _ _) (Nat.le_refl _) _ _ _ _ _
/-- tokenAt: no token begins there, or its kind, text, value and place, and an error. -/
theorem tokenAt_any (l : By) (i k n : Nat) (hi : i < l.length) (hl : l.length ≤ 9223372036854775800) (h : kindLen wordsL (l.drop i) = (k, n)) (w : World) (htab : F.Tab w) :
    Calls Tryz.prog 68 #[.string ⟨l.toArray⟩, .int .i64 (i : Int)] w fun r w' => (n = 0 → r = .returned (.tuple #[.agg #[.int .i64 0, .string ⟨#[]⟩, .int .i64 0, .int .u64 0, .int .i64 0], .int .i64 10])) ∧
      (n ≠ 0 → r = .returned (.tuple #[.agg #[.int .i64 (k : Int), .string ⟨((l.drop i).take n).toArray⟩, .int .i64 (valS k ((l.drop i).take n)).1, .int .u64 (valS k ((l.drop i).take n)).2.1, .int .i64 (i : Int)], .int .i64 (valS k ((l.drop i).take n)).2.2])) ∧ Fr (fun _ => False) w w' := by
  have kl := longest_any l i k n hi hl h
  have hle := kind_le wordsL (l.drop i)
  rw [h, List.length_drop] at hle
  by_cases h0 : n = 0
  · subst h0
    exact (tokenAt_none l i k hl kl w).mono fun r w' ⟨h1, h2⟩ => ⟨fun _ => h1, fun h => absurd rfl h, h2⟩
  · have hk := kind_range wordsL (l.drop i)
    rw [h] at hk
    have hlx : ((l.drop i).take n).length ≤ 9223372036854775800 := by rw [List.length_take, List.length_drop]; omega
    have := tokenAt_some l ((l.drop i).take n) i k (i + n) (valS k ((l.drop i).take n)).1 (valS k ((l.drop i).take n)).2.1 (valS k ((l.drop i).take n)).2.2 hl (by omega) (by simp only at hle; omega) (by show _ = _; rw [show i + n - i = n by omega]) kl
      (fun w ht => meaning_any k _ _ _ _ hk hlx rfl w ht) w htab
    exact this.mono fun r w' ⟨h1, h2⟩ => ⟨fun h => absurd h h0, fun _ => h1, h2⟩
end Go.Proofs.YtfkccanjdlajlabGreatDoor
