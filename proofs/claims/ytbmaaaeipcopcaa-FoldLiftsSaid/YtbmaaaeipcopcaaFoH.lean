/- The law's whole, and what must come at any rate. -/
import Derived.Test.YtbmaaaeipcopcaaFoG
namespace Go.Proofs.Ytbmaaaeipcopcaa.Fo
open Go.RowKit Te
set_option linter.unusedSimpArgs false
set_option linter.unusedVariables false

theorem lw_any (n : Int) (w : World) : Calls Try.prog 10 #[ci n] w fun r w' => r = .returned (vv (1, IntKind.u64.wrap n)) ∧ Fr FN w w' := by
  go_enter Try.func10, Try.ntmps10
  go_wp2
  exact post_v1 (alloc_at _ _ _ (by simp)) rfl rfl rfl ⟨rfl, Fr.alloc _ _ _⟩
theorem lw_is (n v : Int) (h : IntKind.u64.wrap n = v) (w : World) : Calls Try.prog 10 #[ci n] w fun r w' => r = .returned (.agg #[.int .i64 1, .int .u64 v]) ∧ Fr FN w w' := h ▸ lw_any n w
theorem bin_is (op : Int) (ta va tb vb t v q : Int) (ha : U64 va) (hb : U64 vb) (h : binF op (ta, va) (tb, vb) = ((t, v), q)) (w : World) :
    Calls Try.prog 9 #[ci op, .agg #[.int .i64 ta, .int .u64 va], .agg #[.int .i64 tb, .int .u64 vb]] w fun r w' => r = .returned (.tuple #[.agg #[.int .i64 t, .int .u64 v], ci q]) ∧ Fr FN w w' := by
  have k := bin_any op (ta, va) (tb, vb) ha hb w
  rw [h] at k
  exact k
theorem eval_is (l : List Con) (hok : ∀ c ∈ l, U64 c.b) (h : EH) (k : Exs) (v : Value) (la : Option Addr) (lc : Nat) (w : World) (ho : OkE h) (hx : OkX k) (hv : ExI w h k v) (hl : CoL w la lc l) (t b c : Int) (he : evalS l h k = ((t, b), c)) :
    Calls Try.prog 7 #[v, .slice la l.length lc] w fun e w' => e = .returned (.tuple #[.agg #[.int .i64 t, .int .u64 b], ci c]) ∧ Fr FN w w' := by
  have kk := eval_any l hok h k v la lc w ho hx hv hl
  rw [he] at kk
  exact kk
theorem al_1 : binF 4 (1, 18446744073709551609) (1, 2) = ((1, 18446744073709551613), 0) := by decide +kernel
theorem al_2 : binF 1 (1, 9223372036854775807) (1, 1) = ((0, 0), 1) := by decide +kernel
theorem al_3 : evalS [⟨[], [120], 1, 5⟩] ⟨2, 0, [], [120], 0, 0⟩ .nil = ((1, 5), 0) := by decide +kernel
theorem al_4 : evalS [] ⟨8, 0, [], [], 0, 0⟩ .nil = ((0, 0), 25) := by decide +kernel
theorem okE_2 : OkE ⟨2, 0, [], [120], 0, 0⟩ := ⟨by constructor <;> decide, by constructor <;> decide, by constructor <;> decide, by decide, by decide, by unfold OkN; decide, by unfold OkN; decide⟩
theorem okE_8 : OkE ⟨8, 0, [], [], 0, 0⟩ := ⟨by constructor <;> decide, by constructor <;> decide, by constructor <;> decide, by decide, by decide, by unfold OkN; decide, by unfold OkN; decide⟩
theorem exI_nil (w : World) (h : EH) : ExI w h .nil (exV h (.slice none 0 0)) := ⟨none, 0, rfl, Nat.le_refl _, by unfold maxLen; omega, Or.inl rfl⟩
theorem co_one {w : World} {g : Nat} {c : Con} (h : w.heap[g]? = some (coO c)) : CoL w (some ⟨g, 0, none⟩) 1 [c] := by
  refine ⟨Nat.le_refl _, by unfold maxLen; omega, Or.inr ⟨g, 0, rfl, fun i x hx j u hu => ?_⟩⟩
  rcases i with _ | i
  · cases hx
    rcases j with _ | _ | _ | _ | j
    · cases hu; exact cell_of_row _ _ 0 _ _ _ h
    · cases hu; exact cell_of_row _ _ 1 _ _ _ h
    · cases hu; exact cell_of_row _ _ 2 _ _ _ h
    · cases hu; exact cell_of_row _ _ 3 _ _ _ h
    · simp [coC] at hu
  · simp at hx
set_option maxRecDepth 20000 in
set_option maxHeartbeats 4000000 in
theorem alive_any (w : World) : Calls Try.prog 6 #[] w fun e w' => e = .returned (.bool true) ∧ Fr FN w w' := by
  have k1 := lw_is (-7) 18446744073709551609 (by decide)
  have k2 := lw_is 2 2 (by decide)
  have k3 := bin_is 4 1 18446744073709551609 1 2 1 18446744073709551613 0 ⟨by decide, by decide⟩ ⟨by decide, by decide⟩ al_1
  have k4 := lw_is 9223372036854775807 9223372036854775807 (by decide)
  have k5 := lw_is 1 1 (by decide)
  have k6 := bin_is 1 1 9223372036854775807 1 1 0 0 1 ⟨by decide, by decide⟩ ⟨by decide, by decide⟩ al_2
  have k7 := lw_is 5 5 (by decide)
  have k8 := fun w la lc hl => eval_is [⟨[], [120], 1, 5⟩] (fun c hc => by rw [List.mem_singleton] at hc; subst hc; exact ⟨by decide, by decide⟩) ⟨2, 0, [], [120], 0, 0⟩ .nil _ la lc w okE_2 trivial (exI_nil w _) hl 1 5 0 al_3
  have k9 := fun w => eval_is [] (fun c hc => by cases hc) ⟨8, 0, [], [], 0, 0⟩ .nil _ none 0 w okE_8 trivial (exI_nil w _) (CoL.nil w) 0 0 25 al_4
  have ka := lw_is (-3) 18446744073709551613 (by decide)
  have kb := errno_any 2
  rw [show errnoF 2 = 81 from rfl] at kb
  go_enter Try.func6, Try.ntmps6
  go_wp2_with fail
  go_at_call 10
  refine (k1 _).mono ?_
  rintro e w1 ⟨rfl, f1⟩
  go_wp2_with fail
  go_at_call 10
  refine (k2 _).mono ?_
  rintro e w2 ⟨rfl, f2⟩
  go_wp2_with fail
  go_at_call 9
  refine (k3 _).mono ?_
  rintro e w3 ⟨rfl, f3⟩
  have b3 : Hidden ((w3.alloc (zb (ci 1) (.int .u64 18446744073709551613))).heap[w3.heap.size]? = some (zb (ci 1) (.int .u64 18446744073709551613))) := alloc_new _ _
  have g3 : Hidden (Fr FN w (w3.alloc (zb (ci 1) (.int .u64 18446744073709551613)))) := (f1.same (f2.same f3)).same (Fr.alloc _ _ _)
  clear f1 f2 f3 k1 k2 k3
  go_wp2_with fail
  go_at_call 10
  refine (k4 _).mono ?_
  rintro e w4 ⟨rfl, f4⟩
  go_wp2_with fail
  go_at_call 10
  refine (k5 _).mono ?_
  rintro e w5 ⟨rfl, f5⟩
  go_wp2_with fail
  go_at_call 9
  refine (k6 _).mono ?_
  rintro e w6 ⟨rfl, f6⟩
  have fa := Fr.alloc FN w6 zo
  have b6 : Hidden ((w6.alloc zo).heap[w3.heap.size]? = some (zb (ci 1) (.int .u64 18446744073709551613))) := (f4.same (f5.same (f6.same fa))).heap b3 (fun f => f)
  have g6 : Hidden (Fr FN w (w6.alloc zo)) := (show Fr FN w _ from g3).same (f4.same (f5.same (f6.same fa)))
  clear f4 f5 f6 fa b3 g3 k4 k5 k6
  go_wp2_with fail
  go_at_call 10
  refine (k7 _).mono ?_
  rintro e w7 ⟨rfl, f7⟩
  have hrow : CoL (w7.alloc (coO ⟨[], [120], 1, 5⟩)) (some ⟨w7.heap.size, 0, none⟩) 1 [⟨[], [120], 1, 5⟩] := co_one (alloc_new _ _)
  have k8' := k8 _ _ _ hrow
  go_wp2_with fail
  go_at_call 7
  refine k8'.mono ?_
  rintro e w8 ⟨rfl, f8⟩
  have fa := Fr.alloc FN w8 (zb (ci 1) (.int .u64 5))
  have fc := Fr.alloc FN w7 (coO ⟨[], [120], 1, 5⟩)
  have b8 : Hidden ((w8.alloc (zb (ci 1) (.int .u64 5))).heap[w3.heap.size]? = some (zb (ci 1) (.int .u64 18446744073709551613))) := (f7.same (fc.same (f8.same fa))).heap b6 (fun f => f)
  have d8 : Hidden ((w8.alloc (zb (ci 1) (.int .u64 5))).heap[w8.heap.size]? = some (zb (ci 1) (.int .u64 5))) := alloc_new _ _
  have g8 : Hidden (Fr FN w (w8.alloc (zb (ci 1) (.int .u64 5)))) := (show Fr FN w _ from g6).same (f7.same (fc.same (f8.same fa)))
  clear f7 f8 fa fc b6 g6 k8 k8' hrow
  go_wp2_with fail
  go_at_call 7
  refine (k9 _).mono ?_
  rintro e w9 ⟨rfl, f9⟩
  have fa := Fr.alloc FN w9 zo
  have b9 : Hidden ((w9.alloc zo).heap[w3.heap.size]? = some (zb (ci 1) (.int .u64 18446744073709551613))) := (f9.same fa).heap b8 (fun f => f)
  have d9 : Hidden ((w9.alloc zo).heap[w8.heap.size]? = some (zb (ci 1) (.int .u64 5))) := (f9.same fa).heap d8 (fun f => f)
  have g9 : Hidden (Fr FN w (w9.alloc zo)) := (show Fr FN w _ from g8).same (f9.same fa)
  obtain ⟨x0, x1, _, _⟩ := box2 b9
  obtain ⟨y0, y1, _, _⟩ := box2 d9
  obtain ⟨W, hW⟩ : ∃ W, W = w9.alloc zo := ⟨_, rfl⟩
  have hWH : Hidden (W = _) := hW
  rw [← hW] at g9 x0 x1 y0 y1
  clear f9 fa b8 d8 g8 b9 d9 k9 hW
  go_wp2_with fail
  rw [← (show W = _ from hWH)]
  go_region_held3 (fun w' => w'.cell? ⟨w3.heap.size, 0, none⟩ = some (ci 1) ∧ w'.cell? ⟨w3.heap.size, 1, none⟩ = some (.int .u64 18446744073709551613) ∧ w'.cell? ⟨w8.heap.size, 0, none⟩ = some (ci 1) ∧ w'.cell? ⟨w8.heap.size, 1, none⟩ = some (.int .u64 5)) (first | (refine ⟨by with_reducible assumption, by with_reducible assumption, by with_reducible assumption, by with_reducible assumption⟩) | go_keep) (first
    | (go_at_call 10; with_reducible (refine Calls.mono (ka _) ?_); rintro e wa ⟨rfl, fa⟩; have ga := (Fr.drew FN W).same fa; have p0 := ga.cellN x0; have p1 := ga.cellN x1; have p2 := ga.cellN y0; have p3 := ga.cellN y1; clear fa)
    | (go_at_call 10; with_reducible (refine Calls.mono (k7 _) ?_); rintro e wb ⟨rfl, fb⟩; have gb := ga.same fb; have q0 := gb.cellN x0; have q1 := gb.cellN x1; have q2 := gb.cellN y0; have q3 := gb.cellN y1; clear fb)
    | (go_at_call 11; refine (kb _).mono ?_; rintro e wc ⟨rfl, hw⟩; rw [hw]; clear hw))
  all_goals
    go_wp2_with fail
    go_ret
    exact ⟨rfl, (show Fr FN w W from g9).same gb⟩
end Go.Proofs.Ytbmaaaeipcopcaa.Fo
