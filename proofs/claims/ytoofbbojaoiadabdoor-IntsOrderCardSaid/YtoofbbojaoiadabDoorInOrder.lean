/- IntsOrder walked: Cmp is the sign of the difference, where that has room; an order through a third one. -/
import Derived.Test.YtoofbbojaoiadabDoorInLive
namespace Go.Proofs.YtoofbbojaoiadabDoor
open Go.RowKit
set_option linter.unusedSimpArgs false
set_option linter.unusedVariables false

theorem sub_is (a b v e : Int) (ha : I64 a) (hb : I64 b) (hv : fitV (a - b) = v) (he : fitE (a - b) = e) (w : World) :
    Calls Tryd.prog 9 #[.int .i64 a, .int .i64 b] w fun e' w' => e' = .returned (.tuple #[.int .i64 v, .int .i64 e]) ∧ w = w' := hv ▸ he ▸ sub_any a b ha hb w
theorem cmp_is (a b v : Int) (h : cmpS a b = v) (w : World) :
    Calls Tryd.prog 10 #[.int .i64 a, .int .i64 b] w fun e w' => e = .returned (.int .i64 v) ∧ w = w' := h ▸ cmp_any a b w

theorem order_walk (a b c d e k k0 kb kc ka : Int) (ha : I64 a) (hb : I64 b) (h1 : fitV (a - b) = d) (h2 : fitE (a - b) = e) (h3 : cmpS a b = k) (h4 : cmpS d 0 = k0) (h5 : cmpS b a = kb) (h6 : cmpS b c = kc) (h7 : cmpS a c = ka)
    (t1 : (e == 0) = false ∨ ((e == 0) = true ∧ k = k0)) (t2 : kb = -k) (t3 : (k == 0) = (a == b)) (bk : -1 ≤ k) (bk2 : k ≤ 1) (t4 : 0 < k ∨ (k ≤ 0 ∧ 0 < kc) ∨ (k ≤ 0 ∧ kc ≤ 0 ∧ ka ≤ 0)) (w : World) (ht : Tab w) :
    Calls Tryd.prog 4 #[.int .i64 a, .int .i64 b, .int .i64 c] w fun e w' => e = .returned (.bool true) ∧ Kb w w' := by
  have kl := live_any w ht
  subst t2
  cases hab : (a == b)
  all_goals
    rw [hab] at t3
    rcases t1 with t1 | ⟨t1, rfl⟩
    all_goals
      rcases t4 with t4 | ⟨t4, t5⟩ | ⟨t4, t5, t6⟩
      all_goals
        go_enter Tryd.func4, Tryd.ntmps4
        go_wp2_with (first
          | (go_at_call 6; refine kl.mono ?_; rintro e w1 ⟨rfl, g1⟩)
          | (go_at_call 9; refine (sub_is _ _ _ _ (by with_reducible assumption) (by with_reducible assumption) (by with_reducible assumption) (by with_reducible assumption) _).mono ?_; rintro e w' ⟨rfl, rfl⟩)
          | (go_at_call 10; refine (cmp_is _ _ _ (by with_reducible assumption) _).mono ?_; rintro e w' ⟨rfl, rfl⟩))
        go_ret
        exact ⟨rfl, g1⟩

theorem intsOrder.walk (a b c : Int) (w0 : (Lit.int .i64 a).wf = true) (w1 : (Lit.int .i64 b).wf = true) (w2 : (Lit.int .i64 c).wf = true) (w : World) (ht : Tab w) :
    Calls Tryd.prog 4 #[.int .i64 a, .int .i64 b, .int .i64 c] w fun e w' => e = .returned (.bool true) ∧ Kb w w' := by
  have ha := wf_I w0
  have hb := wf_I w1
  refine order_walk a b c (fitV (a - b)) (fitE (a - b)) (cmpS a b) (cmpS (fitV (a - b)) 0) (cmpS b a) (cmpS b c) (cmpS a c) ha hb rfl rfl rfl rfl rfl rfl rfl ?_ ?_ ?_ ?_ ?_ ?_ w ht
  · by_cases h : I64 (a - b)
    · right
      rw [(fitV_in h).1, (fitV_in h).2]
      refine ⟨rfl, ?_⟩
      unfold cmpS
      repeat' split
      all_goals omega
    · left; rw [(fitV_out h).2]; rfl
  · unfold cmpS
    repeat' split
    all_goals omega
  · rw [Bool.eq_iff_iff, beq_iff_eq, beq_iff_eq]
    unfold cmpS
    repeat' split
    all_goals omega
  · unfold cmpS
    repeat' split
    all_goals omega
  · unfold cmpS
    repeat' split
    all_goals omega
  · unfold cmpS
    repeat' split
    all_goals omega
end Go.Proofs.YtoofbbojaoiadabDoor
