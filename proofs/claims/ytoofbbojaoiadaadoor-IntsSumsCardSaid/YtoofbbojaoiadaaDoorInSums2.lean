/- IntsSums walked, for any list of numbers. -/
import Derived.Test.YtoofbbojaoiadaaDoorInSums
import Derived.Test.YtoofbbojaoiadaaDoorInSlice
namespace Go.Proofs.YtoofbbojaoiadaaDoor
open Go.RowKit Go.WideShapes
set_option linter.unusedSimpArgs false
set_option linter.unusedVariables false

theorem own_none (w : World) : (w.alloc (.cells #[] 2)).ownsRow w.heap.size 2 1 (.slice (some ⟨w.heap.size, 0, none⟩) 0 0) 0 [] :=
  ⟨rfl, Or.inr ⟨w.heap.size, 0, #[], rfl, Nat.le_refl _, by show (w.heap.push _)[w.heap.size]? = _; simp, Nat.le_refl _, by unfold maxLen; omega, rfl, rfl⟩⟩

set_option maxRecDepth 20000 in
set_option maxHeartbeats 2000000 in
theorem sums_nil (w : World) (ht : Tab w) :
    Calls Tryd.prog 4 #[.slice none 0 0] w fun e w' => e = .returned (.bool true) ∧ Kb w w' := by
  obtain ⟨i0, hi, hz0, hz1, hz2⟩ := info_parts Tryd.info_i64
  go_enter Tryd.func4, Tryd.ntmps4
  go_wp2_with (first
    | (at_builtin; refine wpList_append_own_none rfl _ _ 29 rfl w.heap.size 2 i0 1 Tryd.underlying29 hi _ 0 [] rfl ?c0 rfl ?_)
    | fail)
  case c0 => exact own_none w
  have hK : Kb w (w.alloc (.cells #[] 2)) := Kb.of_grown (Grown.alloc (Grown.refl _) _ _)
  have kl := live_any _ (tab_kb ht hK)
  have k1 := sum_empty (some ⟨w.heap.size, 0, none⟩) 0
  have k2 := rsum_empty none 0
  clear hi hz0 hz1 hz2
  go_wp2_with (first
    | (go_at_call 24; refine (k1 _).mono ?_; rintro e w' ⟨rfl, rfl⟩)
    | (go_at_call 25; refine (k2 _).mono ?_; rintro e w' ⟨rfl, rfl⟩))
  refine wp_loop_rounds 1 ?_
  rw [rounds_succ]
  go_wp2_with (go_at_call 23; refine kl.mono ?_; rintro e w' ⟨rfl, g5⟩)
  go_ret
  exact ⟨rfl, hK.trans g5⟩

set_option maxRecDepth 20000 in
set_option maxHeartbeats 2000000 in
theorem sums_zero (ad : Addr) (cap : Nat) (w : World) (ht : Tab w) :
    Calls Tryd.prog 4 #[.slice (some ad) 0 cap] w fun e w' => e = .returned (.bool true) ∧ Kb w w' := by
  obtain ⟨i0, hi, hz0, hz1, hz2⟩ := info_parts Tryd.info_i64
  go_enter Tryd.func4, Tryd.ntmps4
  go_wp2_with (first
    | (at_builtin; refine wpList_append_own _ rfl _ _ 29 rfl w.heap.size 2 i0 (.int .i64 0) 1 8 Tryd.underlying29 hi hz0 hz1 hz2 rfl (by decide) _ 0 [] rfl ?c0 ad 0 cap [] rfl rfl ?c2 ?c3 ?c4 ?c5 ?c6 ?_)
    | fail)
  case c0 => exact own_none w
  case c2 => intro j u hu; simp at hu
  case c3 => intro u hu; simp at hu
  case c4 => unfold maxLen; omega
  case c5 => omega
  case c6 => simp
  intro v' w2 hown hg hne
  obtain ⟨g, cap2, rfl, _, hB⟩ := own_row w w2 v' 0 [] rfl hown hg hne
  have hK : Kb w w2 := Kb.of_below hB
  have kl := live_any _ (tab_kb ht hK)
  have k1 := sum_empty (some ⟨g, 0, none⟩) cap2
  have k2 := rsum_empty (some ad) cap
  clear hown hg hne hB hi hz0 hz1 hz2
  go_wp2_with (first
    | (go_at_call 24; refine (k1 _).mono ?_; rintro e w' ⟨rfl, rfl⟩)
    | (go_at_call 25; refine (k2 _).mono ?_; rintro e w' ⟨rfl, rfl⟩))
  refine wp_loop_rounds 1 ?_
  rw [rounds_succ]
  go_wp2_with (go_at_call 23; refine kl.mono ?_; rintro e w' ⟨rfl, g5⟩)
  go_ret
  exact ⟨rfl, hK.trans g5⟩

theorem intsSums.walk (v : Value) (w : World) (hv : ∃ l, SlI w v l) (ht : Tab w) :
    Calls Tryd.prog 4 #[v] w fun e w' => e = .returned (.bool true) ∧ Kb w w' := by
  obtain ⟨l, ⟨rfl, rfl⟩ | ⟨ad, cap, rfl, h1, h2, h3, h4, h5⟩⟩ := hv
  · exact sums_nil w ht
  · rcases h5 with rfl | ⟨b, off, rfl, hb, hc⟩
    · exact sums_zero ad cap w ht
    · exact sums_some b off cap l.length l _ _ _ rfl rfl h3 h4 w hb hc ht
end Go.Proofs.YtoofbbojaoiadaaDoor
