/- IntsPrefix walked, for any list and any place to cut it. -/
import Derived.Test.YtoofbbojaoiadabDoorInPrefix
namespace Go.Proofs.YtoofbbojaoiadabDoor
open Go.RowKit Go.WideShapes
set_option linter.unusedSimpArgs false
set_option linter.unusedVariables false

theorem zero_sum : sumS [0] 0 0 = (0, 0, 0) := by decide
theorem zero_I : ∀ x ∈ [(0 : Int)], I64 x := fun x hx => by
  have : x = 0 := by simpa using hx
  subst this
  exact ⟨by omega, by omega⟩

theorem nil_sum (w1 : World) : Calls Tryd.prog 11 #[.slice (some ⟨w1.heap.size, 0, none⟩) 1 1] (w1.alloc (.cells #[.int .i64 0] 2)) fun r w' => r = .returned (.tuple #[.int .i64 0, .int .i64 0, .int .i64 0]) ∧ (w1.alloc (.cells #[.int .i64 0] 2)) = w' :=
  sum_walk w1.heap.size 0 1 1 [0] _ _ _ rfl zero_sum (by omega) zero_I (w1.alloc (.cells #[.int .i64 0] 2)) (fun i x hx => by
    obtain ⟨hi, hxx⟩ := List.getElem?_eq_some_iff.1 hx
    obtain rfl : i = 0 := by simp at hi; omega
    have : x = 0 := by simpa using hxx.symm
    subst this
    simp)

set_option maxRecDepth 20000 in
set_option maxHeartbeats 400000 in
theorem prefix_nil (w : World) (ht : Tab w) :
    Calls Tryd.prog 5 #[.slice none 0 0, .int .i64 0] w fun e w' => e = .returned (.bool true) ∧ Kb w w' := by
  obtain ⟨i0, hi, hz0, hz1, hz2⟩ := info_parts Tryd.info_i64
  have kl := live_any w ht
  have k1 := sum_empty none 0
  go_enter Tryd.func5, Tryd.ntmps5
  go_wp2_with (first
    | (go_at_call 6; refine kl.mono ?_; rintro e w1 ⟨rfl, g1⟩)
    | (go_at_call 11; first | (refine k3.mono ?_; rintro e w' ⟨rfl, rfl⟩) | (refine (k1 _).mono ?_; rintro e w' ⟨rfl, rfl⟩))
    | (at_builtin; refine wpList_append_own_none rfl _ _ 28 rfl w1.heap.size 2 i0 1 Tryd.underlying28 hi _ 1 [.int .i64 0] rfl (own_one w1 0) rfl ?_; have k3 := nil_sum w1; clear k1))
  go_ret
  exact ⟨rfl, g1.trans (Kb.of_grown (Grown.alloc (Grown.refl _) _ _))⟩

set_option maxRecDepth 20000 in
set_option maxHeartbeats 2000000 in
theorem prefix_zero (ad : Addr) (cap : Nat) (hcap : cap ≤ 9223372036854775807) (w : World) (ht : Tab w) :
    Calls Tryd.prog 5 #[.slice (some ad) 0 cap, .int .i64 0] w fun e w' => e = .returned (.bool true) ∧ Kb w w' := by
  obtain ⟨i0, hi, hz0, hz1, hz2⟩ := info_parts Tryd.info_i64
  have kl := live_any w ht
  have k1 := sum_empty (some ad) cap
  have fin : ∀ (w1 w2 : World) (v' : Value), w2.ownsRow w1.heap.size 2 1 v' 1 [.int .i64 0] → (w1.alloc (.cells #[.int .i64 0] 2)).grownBy w2 (some w1.heap.size) → ¬ v' = .slice none 0 0 →
      ∃ g cap2, v' = .slice (some ⟨g, 0, none⟩) 1 cap2 ∧ Kb w1 w2 ∧ Calls Tryd.prog 11 #[.slice (some ⟨g, 0, none⟩) 1 cap2] w2 fun r w' => r = .returned (.tuple #[.int .i64 0, .int .i64 0, .int .i64 0]) ∧ w2 = w' := by
    intro w1 w2 v' hown hg hne
    obtain ⟨g', cap2, rfl, hcg, hK⟩ := own_row w1 w2 _ v' 1 [0] rfl hown hg hne
    exact ⟨g', cap2, rfl, hK, sum_walk g' 0 cap2 1 [0] _ _ _ rfl zero_sum (by omega) zero_I w2 hcg⟩
  by_cases h0 : cap = 0
  · subst h0
    go_enter Tryd.func5, Tryd.ntmps5
    go_wp2_with (first
      | (go_at_call 6; refine kl.mono ?_; rintro e w1 ⟨rfl, g1⟩)
      | (go_at_call 11; refine (k1 _).mono ?_; rintro e w' ⟨rfl, rfl⟩)
      | (at_builtin; refine wpList_append_own _ rfl _ _ 28 rfl w1.heap.size 2 i0 (.int .i64 0) 1 8 Tryd.underlying28 hi hz0 hz1 hz2 rfl (by decide) _ 1 [.int .i64 0] rfl ?c0 _ 0 _ [] rfl ?c1 ?c2 ?c3 ?c4 ?c5 ?c6 ?_))
    case c0 => exact own_one w1 0
    case c1 => rfl
    case c2 => intro j u hu; simp at hu
    case c3 => intro u hu; simp at hu
    case c4 => unfold maxLen; omega
    case c5 => omega
    case c6 => simp
    intro v' w2 hown hg hne
    obtain ⟨g', cap2, rfl, hK, k3⟩ := fin w1 w2 v' hown hg hne
    clear hown hg hne hi hz0 hz1 hz2 fin k1
    go_wp2_with (go_at_call 11; refine k3.mono ?_; rintro e w' ⟨rfl, rfl⟩)
    go_ret
    exact ⟨rfl, g1.trans hK⟩
  · go_enter Tryd.func5, Tryd.ntmps5
    go_wp2_with (first
      | (go_at_call 6; refine kl.mono ?_; rintro e w1 ⟨rfl, g1⟩)
      | (go_at_call 11; refine (k1 _).mono ?_; rintro e w' ⟨rfl, rfl⟩)
      | (at_builtin; refine wpList_append_own _ rfl _ _ 28 rfl w1.heap.size 2 i0 (.int .i64 0) 1 8 Tryd.underlying28 hi hz0 hz1 hz2 rfl (by decide) _ 1 [.int .i64 0] rfl ?d0 _ 0 _ [] rfl ?d1 ?d2 ?d3 ?d4 ?d5 ?d6 ?_))
    case d0 => exact own_one w1 0
    case d1 => rfl
    case d2 => intro j u hu; simp at hu
    case d3 => intro u hu; simp at hu
    case d4 => unfold maxLen; omega
    case d5 => omega
    case d6 => simp
    intro v' w2 hown hg hne
    obtain ⟨g', cap2, rfl, hK, k3⟩ := fin w1 w2 v' hown hg hne
    clear hown hg hne hi hz0 hz1 hz2 fin k1
    go_wp2_with (go_at_call 11; refine k3.mono ?_; rintro e w' ⟨rfl, rfl⟩)
    go_ret
    exact ⟨rfl, g1.trans hK⟩

theorem intsPrefix.walk (v : Value) (c : Int) (w : World) (hv : ∃ l, SlI w v l) (w1 : (Lit.int .i64 c).wf = true) (ht : Tab w) :
    Calls Tryd.prog 5 #[v, .int .i64 c] w fun e w' => e = .returned (.bool true) ∧ Kb w w' := by
  obtain ⟨l, hv⟩ := hv
  have hcI := wf_I w1
  have hsh : ∃ ao len cap, v = .slice ao len cap ∧ len = l.length ∧ l.length * 8 ≤ 140737488351232 := by
    rcases hv with ⟨rfl, rfl⟩ | ⟨ad, cap, rfl, h1, h2, h3, h4, h5⟩
    · exact ⟨none, 0, 0, rfl, rfl, by simp⟩
    · exact ⟨some ad, _, cap, rfl, rfl, h3⟩
  obtain ⟨ao, len, cap0, hve, hl, h8⟩ := hsh
  by_cases hout : c < 0 ∨ (¬ c < 0 ∧ (len : Int) < c)
  · exact prefix_out v len ao cap0 c hve hout (by omega) w ht
  have hin : 0 ≤ c ∧ c ≤ l.length := by omega
  obtain ⟨n, rfl⟩ := Int.eq_ofNat_of_zero_le hin.1
  rcases hv with ⟨rfl, rfl⟩ | ⟨ad, cap, rfl, h1, h2, h3, h4, h5⟩
  · obtain rfl : n = 0 := by simp at hin; omega
    exact prefix_nil w ht
  · have h2' : cap ≤ 9223372036854775807 := h2
    rcases h5 with rfl | ⟨b, off, rfl, hb, hc⟩
    · obtain rfl : n = 0 := by simp at hin; omega
      exact prefix_zero ad cap h2' w ht
    · obtain ⟨a, i, e, bb, k, f, cc, m, g, hT⟩ := trio_of (l.take n) (l.drop n)
      exact prefix_some b off cap l.length n l a i e bb k f cc m g rfl hT (by omega) h1 h2' h3 h4 w hb hc ht
end Go.Proofs.YtoofbbojaoiadabDoor
