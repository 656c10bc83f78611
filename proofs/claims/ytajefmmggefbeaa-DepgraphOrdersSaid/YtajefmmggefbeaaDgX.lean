/- alive: the chapter's example. -/
import Derived.Test.YtajefmmggefbeaaDgK2
import Derived.Test.YtajefmmggefbeaaDgJ
import Derived.Test.YtajefmmggefbeaaDgV
namespace Go.Proofs.Ytajefmmggefbeaa.Dg
open Go.RowKit Go.Sort
set_option linter.unusedSimpArgs false
set_option linter.unusedVariables false

abbrev exN : List Nd := [([97], [[98], [99]]), ([98], [[99]]), ([99], [])]
abbrev exG : Gr := ⟨[[97], [98], [99]], fun s => if s = [97] then [[98], [99]] else if s = [98] then [[99]] else []⟩
theorem set_of_ss {l : List Str} (h : SS l) : setS l = l := SS.ext (setS_ss l) h fun x => mem_setS
theorem exG_is : gOf exN = exG := by
  unfold gOf exG
  congr 1
  · exact set_of_ss (by unfold SS; decide)
  · funext s
    by_cases h1 : s = [97]
    · subst h1
      rw [if_pos rfl]
      exact set_of_ss (by unfold SS; decide)
    · rw [if_neg h1]
      by_cases h2 : s = [98]
      · subst h2
        rw [if_pos rfl]
        exact set_of_ss (by unfold SS; decide)
      · rw [if_neg h2]
        by_cases h3 : s = [99]
        · subst h3
          exact set_of_ss List.Pairwise.nil
        · rw [find_none (by simp [h1, h2, h3])]
theorem ex_new : newE exN = 0 := by decide
theorem ex_ord : ordE exG = 0 := by decide
theorem ex_order : orderS exG = some [[99], [98], [97]] := by decide
theorem ex_levels : levelsS exG = some [[[99]], [[98]], [[97]]] := by decide
theorem ex_users : usersS exG [99] = [[97], [98]] := by decide
theorem ex_reach (x : Str) : Reach exG [97] x ↔ x = [98] ∨ x = [99] := by
  constructor
  · intro h
    induction h with
    | one h => simpa using h
    | more _ h ih =>
      rcases ih with rfl | rfl
      · exact Or.inr (by simpa using h)
      · simp at h
  · rintro (rfl | rfl)
    · exact .one (by simp)
    · exact .one (by simp)
theorem ex_under {l : List Str} (h : IsUnder exG [97] l) : l = [[98], [99]] := SS.ext h.1 (by unfold SS; decide) fun x => by rw [h.2 x, ex_reach]; simp
theorem ex_over {l : List Str} (h : IsOver exG [[98]] l) : l = [[97], [98]] := by
  refine SS.ext h.1 (by unfold SS; decide) fun x => ?_
  rw [h.2 x]
  constructor
  · rintro ⟨h1, h2⟩
    rcases h2 with h2 | ⟨y, h2, h3⟩
    · simp at h2; simp [h2]
    · simp at h2
      subst h2
      simp at h1
      rcases h1 with rfl | rfl | rfl
      · simp
      · simp
      · rcases h3.first with k | ⟨b, k, _⟩ <;> simp at k
  · intro hx
    simp at hx
    rcases hx with rfl | rfl
    · exact ⟨by simp, Or.inr ⟨[98], by simp, .one (by simp)⟩⟩
    · exact ⟨by simp, Or.inl (by simp)⟩
/-- The example's nodes, laid by their words. -/
theorem ex_nl (w : World) : NL (((w.alloc (.cells #[ct [98], ct [99]] 9)).alloc (.cells #[ct [99]] 9)).alloc (.cells #[ct [97], .slice (some ⟨w.heap.size, 0, none⟩) 2 2, ct [98], .slice (some ⟨w.heap.size + 1, 0, none⟩) 1 1, ct [99], .slice none 0 0] 50)) (.slice (some ⟨w.heap.size + 1 + 1, 0, none⟩) 3 3) exN := by
  have h0 := alloc_new ((w.alloc (.cells #[ct [98], ct [99]] 9)).alloc (.cells #[ct [99]] 9)) (.cells #[ct [97], .slice (some ⟨w.heap.size, 0, none⟩) 2 2, ct [98], .slice (some ⟨w.heap.size + 1, 0, none⟩) 1 1, ct [99], .slice none 0 0] 50)
  have e0 : ((w.alloc (.cells #[ct [98], ct [99]] 9)).alloc (.cells #[ct [99]] 9)).heap.size = w.heap.size + 1 + 1 := by simp
  rw [e0] at h0
  have t1 : Tl (w.alloc (.cells #[ct [98], ct [99]] 9)) (.slice (some ⟨w.heap.size, 0, none⟩) 2 2) [[98], [99]] := by
    refine ⟨_, 2, rfl, by simp, by omega, (fun h => by cases h), Or.inr ⟨w.heap.size, 0, rfl, fun i x hx => ?_⟩⟩
    rw [Nat.zero_add, cell_of_row _ _ _ _ _ _ (alloc_new w _)]
    rcases i with _ | _ | i
    · simp at hx; subst hx; rfl
    · simp at hx; subst hx; rfl
    · simp at hx
  have t2 := Tl.one (w.alloc (.cells #[ct [98], ct [99]] 9)) [99]
  have e1 : (w.alloc (.cells #[ct [98], ct [99]] 9)).heap.size = w.heap.size + 1 := by simp
  rw [e1] at t2
  refine ⟨_, 3, rfl, by simp, by omega, Or.inr ⟨w.heap.size + 1 + 1, 0, rfl, fun i n hn => ?_⟩⟩
  rcases i with _ | _ | _ | i
  · simp at hn; subst hn
    exact ⟨_, by rw [cell_of_row _ _ _ _ _ _ h0]; rfl, by rw [cell_of_row _ _ _ _ _ _ h0]; rfl, Tl.later (Tl.later t1 (Fr.alloc _ _ _)) (Fr.alloc _ _ _)⟩
  · simp at hn; subst hn
    exact ⟨_, by rw [cell_of_row _ _ _ _ _ _ h0]; rfl, by rw [cell_of_row _ _ _ _ _ _ h0]; rfl, Tl.later t2 (Fr.alloc _ _ _)⟩
  · simp at hn; subst hn
    exact ⟨_, by rw [cell_of_row _ _ _ _ _ _ h0]; rfl, by rw [cell_of_row _ _ _ _ _ _ h0]; rfl, Tl.nil _⟩
  · simp at hn
theorem Tl.two (w : World) (a b : Str) : Tl (w.alloc (.cells #[ct a, ct b] 9)) (.slice (some ⟨w.heap.size, 0, none⟩) 2 2) [a, b] := by
  refine ⟨_, 2, rfl, by simp, by omega, (fun h => by cases h), Or.inr ⟨w.heap.size, 0, rfl, fun i x hx => ?_⟩⟩
  rw [Nat.zero_add, cell_of_row _ _ _ _ _ _ (alloc_new w _)]
  rcases i with _ | _ | i
  · simp at hx; subst hx; rfl
  · simp at hx; subst hx; rfl
  · simp at hx
theorem Tl.three (w : World) (a b c : Str) : Tl (w.alloc (.cells #[ct a, ct b, ct c] 9)) (.slice (some ⟨w.heap.size, 0, none⟩) 3 3) [a, b, c] := by
  refine ⟨_, 3, rfl, by simp, by omega, (fun h => by cases h), Or.inr ⟨w.heap.size, 0, rfl, fun i x hx => ?_⟩⟩
  rw [Nat.zero_add, cell_of_row _ _ _ _ _ _ (alloc_new w _)]
  rcases i with _ | _ | _ | i
  · simp at hx; subst hx; rfl
  · simp at hx; subst hx; rfl
  · simp at hx; subst hx; rfl
  · simp at hx
theorem okShort (s : Str) (h : s.length ≤ 32) : OkN s := by unfold OkN; omega
set_option maxRecDepth 20000 in
set_option maxHeartbeats 4000000 in
theorem alive_any (w : World) : Calls Try.prog 29 #[] w fun e w' => e = .returned (.bool true) ∧ Fr (fun _ => False) w w' := by
  have kn := new_any _ 3 exN _ (ex_nl w) (fun n hn => ⟨okShort _ ((show ∀ n ∈ exN, n.1.length ≤ 32 ∧ ∀ x ∈ n.2, x.length ≤ 32 by decide) n hn).1, fun x hx => okShort x (((show ∀ n ∈ exN, n.1.length ≤ 32 ∧ ∀ x ∈ n.2, x.length ≤ 32 by decide) n hn).2 x hx)⟩)
  have f0 : Hidden (Fr (fun _ => False) w (((w.alloc (.cells #[ct [98], ct [99]] 9)).alloc (.cells #[ct [99]] 9)).alloc (.cells #[ct [97], .slice (some ⟨w.heap.size, 0, none⟩) 2 2, ct [98], .slice (some ⟨w.heap.size + 1, 0, none⟩) 1 1, ct [99], .slice none 0 0] 50))) := ((Fr.alloc _ _ _).same (Fr.alloc _ _ _)).same (Fr.alloc _ _ _)
  go_enter Try.func29, Try.ntmps29
  go_wp2_with fail
  refine kn.mono ?_
  rintro e w1 ⟨hR, f1⟩
  rcases hR with ⟨q, _⟩ | ⟨_, B, rfl, hG⟩
  · exact absurd ex_new q
  have hg : Gp w1 (.pointer (some ⟨B, 0, none⟩)) exG := by rw [← exG_is]; exact hG w1 (Fr.refl _ _)
  have hgH : Hidden (Gp w1 (.pointer (some ⟨B, 0, none⟩)) exG) := hg
  have f1H : Hidden (Fr (fun _ => False) w w1) := Fr.same f0 f1
  have ko := order_ok (some ⟨B, 0, none⟩) exG w1 hg ex_ord _ ex_order
  clear kn f0 f1 hG hg
  go_wp2_with fail
  refine ko.mono ?_
  rintro e w2 ⟨⟨ao2, cap2, rfl, t2⟩, f2⟩
  have t2H : Hidden (Tl w2 (.slice ao2 3 cap2) [[99], [98], [97]]) := t2.tn.tl
  have f2H : Hidden (Fr (fun _ => False) w1 w2) := f2
  have kl := levels_ok (some ⟨B, 0, none⟩) exG w2 (Gp.later hgH f2) ex_ord _ ex_levels
  clear ko t2 f2
  go_wp2_with fail
  refine kl.mono ?_
  rintro e w3 ⟨⟨ao3, cap3, rfl, t3⟩, f3⟩
  have f3H : Hidden (Fr (fun _ => False) w1 w3) := Fr.same f2H f3
  have kt := texts3_is _ _ _ _ _ (Tl.later (Tl.later t2H f3) (Fr.alloc _ w3 (.cells #[ct [99], ct [98], ct [97]] 9))) (Tl.three w3 [99] [98] [97]) true (by decide)
  clear kl t3 f3
  go_wp2_with fail
  refine kt.mono ?_
  rintro e w4 ⟨rfl, f4⟩
  have f4H : Hidden (Fr (fun _ => False) w1 w4) := Fr.same f3H ((Fr.alloc _ _ _).same f4)
  have ku := users_any (.pointer (some ⟨B, 0, none⟩)) exG [99] w4 (Gp.later hgH f4H)
  rw [ex_users] at ku
  clear kt f4
  go_wp2_with fail
  refine ku.mono ?_
  rintro e w5 ⟨⟨ao5, cap5, rfl, t5⟩, f5⟩
  have f5H : Hidden (Fr (fun _ => False) w1 w5) := Fr.same f4H f5
  have kt := texts3_is _ _ _ _ _ (Tl.later t5.tn.tl (Fr.alloc _ w5 (.cells #[ct [97], ct [98]] 9))) (Tl.two w5 [97] [98]) true (by decide)
  clear ku t5 f5
  go_wp2_with fail
  refine kt.mono ?_
  rintro e w6 ⟨rfl, f6⟩
  have f6H : Hidden (Fr (fun _ => False) w1 w6) := Fr.same f5H ((Fr.alloc _ _ _).same f6)
  have kd := under_any (.pointer (some ⟨B, 0, none⟩)) exG [97] w6 (Gp.later hgH f6H) (okShort _ (by decide))
  clear kt f6
  go_wp2_with fail
  refine kd.mono ?_
  rintro e w7 ⟨⟨l7, ⟨ao7, cap7, rfl, t7⟩, u7⟩, f7⟩
  obtain rfl := ex_under u7
  have f7H : Hidden (Fr (fun _ => False) w1 w7) := Fr.same f6H f7
  have kt := texts3_is _ _ _ _ _ (Tl.later t7.tn.tl (Fr.alloc _ w7 (.cells #[ct [98], ct [99]] 9))) (Tl.two w7 [98] [99]) true (by decide)
  clear kd t7 f7 u7
  go_wp2_with fail
  refine kt.mono ?_
  rintro e w8 ⟨rfl, f8⟩
  have f8H : Hidden (Fr (fun _ => False) w1 w8) := Fr.same f7H ((Fr.alloc _ _ _).same f8)
  have kv := over_any (.pointer (some ⟨B, 0, none⟩)) exG _ _ [[98]] _ (Gp.later hgH (Fr.same f8H (Fr.alloc _ w8 (.cells #[ct [98]] 9)))) (Tl.one w8 [98]) (fun x hx => by simp at hx; subst hx; exact okShort _ (by decide)) (by decide)
  clear kt f8
  go_wp2_with fail
  refine kv.mono ?_
  rintro e w9 ⟨⟨l9, ⟨ao9, cap9, rfl, t9⟩, u9⟩, f9⟩
  obtain rfl := ex_over u9
  have f9H : Hidden (Fr (fun _ => False) w1 w9) := Fr.same f8H ((Fr.alloc _ _ _).same f9)
  have kt := texts3_is _ _ _ _ _ (Tl.later t9 (Fr.alloc _ w9 (.cells #[ct [97], ct [98]] 9))) (Tl.two w9 [97] [98]) true (by decide)
  clear kv t9 f9 u9
  go_wp2_with fail
  refine kt.mono ?_
  rintro e w10 ⟨rfl, f10⟩
  have f10H : Hidden (Fr (fun _ => False) w w10) := Fr.same f1H (Fr.same f9H ((Fr.alloc _ _ _).same f10))
  clear kt f10
  go_wp2
  go_ret
  exact ⟨rfl, f10H⟩
end Go.Proofs.Ytajefmmggefbeaa.Dg
