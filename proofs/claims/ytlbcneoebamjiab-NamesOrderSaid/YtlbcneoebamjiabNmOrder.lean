/- NamesOrder walked. -/
import Derived.Test.YtlbcneoebamjiabNmLive
namespace Go.Proofs.Ytlbcneoebamjiab
open Go.RowKit Go.Sort
set_option linter.unusedSimpArgs false
set_option linter.unusedVariables false

theorem cmp_lt {x y : Str} (h : x < y) : cmpS x y = -1 := by unfold cmpS; rw [if_pos h]
theorem cmp_gt {x y : Str} (h : y < x) : cmpS x y = 1 := by unfold cmpS; rw [if_neg (fun g => Std.lt_irrefl (Std.lt_trans g h)), if_pos h]
theorem cmp_eq (x : Str) : cmpS x x = 0 := by unfold cmpS; rw [if_neg Std.lt_irrefl, if_neg Std.lt_irrefl]
theorem lt_behind : ∀ (c : Str) {a b : Str}, a < b → c ++ a < c ++ b
  | [], _, _, h => h
  | x :: c, _, _, h => List.cons_lt_cons_iff.2 (Or.inr ⟨rfl, lt_behind c h⟩)
theorem lt_more : ∀ (c : Str) {a : Str}, a ≠ [] → c < c ++ a
  | [], a, h => by
    cases a with
    | nil => exact absurd rfl h
    | cons x r => simp
  | x :: c, _, h => List.cons_lt_cons_iff.2 (Or.inr ⟨rfl, lt_more c h⟩)
theorem cmp_le {x y : Str} : cmpS x y ≤ 0 ↔ ¬ y < x := by
  rcases Std.lt_trichotomy x y with h | h | h
  · rw [cmp_lt h]; simp; exact fun g => Std.lt_irrefl (Std.lt_trans g h)
  · subst h; rw [cmp_eq]; simp
  · rw [cmp_gt h]; simp [h]
theorem cmp_trans {x y z : Str} (h : cmpS x y ≤ 0) (g : cmpS y z ≤ 0) : cmpS x z ≤ 0 := by
  rw [cmp_le] at *
  intro hz
  rcases Std.lt_trichotomy x y with k | k | k
  · exact g (Std.lt_trans hz k)
  · subst k; exact g hz
  · exact h k

set_option maxHeartbeats 4000000 in
set_option maxRecDepth 20000 in
theorem namesOrder.walk (a b c : Str) (w : World) (ha : a.length ≤ 140737488351232) (hb : b.length ≤ 140737488351232) (hc : c.length ≤ 140737488351232) :
    Calls Try.prog 3 #[.string ⟨a.toArray⟩, .string ⟨b.toArray⟩, .string ⟨c.toArray⟩] w fun e w' => e = .returned (.bool true) ∧ Fr (fun _ => False) w w' := by
  have kl := live_any
  have h1 : ∀ w, (Op.stringOp .add ⟨c.toArray⟩ ⟨a.toArray⟩).run Try.prog w = .ok (.string ⟨(c ++ a).toArray⟩) w := fun w => by
    rw [run_string_add_sum w _ _ (by simp [ByteArray.size]; omega), append_str]
  have h2 : ∀ w, (Op.stringOp .add ⟨c.toArray⟩ ⟨b.toArray⟩).run Try.prog w = .ok (.string ⟨(c ++ b).toArray⟩) w := fun w => by
    rw [run_string_add_sum w _ _ (by simp [ByteArray.size]; omega), append_str]
  have kbc := cmp_any b c _ rfl
  have kac := cmp_any a c _ rfl
  have htr := @cmp_trans a b c
  have kmore : a ≠ [] → ∀ w, Calls Try.prog 6 #[.string ⟨c.toArray⟩, .string ⟨(c ++ a).toArray⟩] w fun e w' => e = .returned (.int .i64 (-1)) ∧ w' = w := fun h => cmp_any c (c ++ a) (-1) (cmp_lt (lt_more c h))
  have hlem : a = [] ∨ a ≠ [] := Classical.em _
  rcases Std.lt_trichotomy a b with h | h | h
  · have k1 := cmp_any a b (-1) (cmp_lt h)
    have k2 := cmp_any b a 1 (cmp_gt h)
    have k3 := cmp_any (c ++ a) (c ++ b) (-1) (cmp_lt (lt_behind c h))
    have hab : (a == b) = false := beq_eq_false_iff_ne.2 (fun e => by subst e; exact Std.lt_irrefl h)
    replace htr : cmpS b c ≤ 0 → cmpS a c ≤ 0 := htr (by rw [cmp_lt h]; decide)
    clear h
    rcases hlem with ha0 | ha0
    · subst ha0
      clear kmore
      simp only [List.append_nil] at k3 h1
      generalize cmpS b c = L at kbc htr
      generalize cmpS [] c = M at kac htr
      by_cases hL : L ≤ 0
      · have hM := htr hL
        clear htr
        go_enter Try.func3, Try.ntmps3
        go_wp2_with fail
        refine (kl _).mono ?_
        rintro e w1 ⟨rfl, f1⟩
        go_wp2_with fail
        refine (k1 _).mono ?_
        rintro e w2 ⟨rfl, rfl⟩
        go_wp2_with fail
        refine (k2 _).mono ?_
        rintro e w2 ⟨rfl, rfl⟩
        go_wp2_with fail
        refine (k3 _).mono ?_
        rintro e w2 ⟨rfl, rfl⟩
        go_wp2_with fail
        refine (kbc _).mono ?_
        rintro e w2 ⟨rfl, rfl⟩
        go_wp2_with fail
        refine (kac _).mono ?_
        rintro e w2 ⟨rfl, rfl⟩
        go_wp2_with fail
        go_ret
        exact ⟨by simp [hM], f1⟩
      · have hL2 : decide (L ≤ 0) = false := decide_eq_false hL
        clear htr
        go_enter Try.func3, Try.ntmps3
        go_wp2_with fail
        refine (kl _).mono ?_
        rintro e w1 ⟨rfl, f1⟩
        go_wp2_with fail
        refine (k1 _).mono ?_
        rintro e w2 ⟨rfl, rfl⟩
        go_wp2_with fail
        refine (k2 _).mono ?_
        rintro e w2 ⟨rfl, rfl⟩
        go_wp2_with fail
        refine (k3 _).mono ?_
        rintro e w2 ⟨rfl, rfl⟩
        go_wp2_with fail
        refine (kbc _).mono ?_
        rintro e w2 ⟨rfl, rfl⟩
        go_wp2_with fail
        go_ret
        exact ⟨rfl, f1⟩
    · have hne : (a == []) = false := beq_eq_false_iff_ne.2 ha0
      have hne2 : (a != []) = true := by simp [ha0]
      have k4 := kmore ha0
      clear ha0 kmore
      generalize cmpS b c = L at kbc htr
      generalize cmpS a c = M at kac htr
      by_cases hL : L ≤ 0
      · have hM := htr hL
        clear htr
        go_enter Try.func3, Try.ntmps3
        go_wp2_with fail
        refine (kl _).mono ?_
        rintro e w1 ⟨rfl, f1⟩
        go_wp2_with fail
        refine (k1 _).mono ?_
        rintro e w2 ⟨rfl, rfl⟩
        go_wp2_with fail
        refine (k2 _).mono ?_
        rintro e w2 ⟨rfl, rfl⟩
        go_wp2_with fail
        refine (k3 _).mono ?_
        rintro e w2 ⟨rfl, rfl⟩
        go_wp2_with fail
        refine (k4 _).mono ?_
        rintro e w2 ⟨rfl, rfl⟩
        go_wp2_with fail
        refine (kbc _).mono ?_
        rintro e w2 ⟨rfl, rfl⟩
        go_wp2_with fail
        refine (kac _).mono ?_
        rintro e w2 ⟨rfl, rfl⟩
        go_wp2_with fail
        go_ret
        exact ⟨by simp [hM], f1⟩
      · have hL2 : decide (L ≤ 0) = false := decide_eq_false hL
        clear htr
        go_enter Try.func3, Try.ntmps3
        go_wp2_with fail
        refine (kl _).mono ?_
        rintro e w1 ⟨rfl, f1⟩
        go_wp2_with fail
        refine (k1 _).mono ?_
        rintro e w2 ⟨rfl, rfl⟩
        go_wp2_with fail
        refine (k2 _).mono ?_
        rintro e w2 ⟨rfl, rfl⟩
        go_wp2_with fail
        refine (k3 _).mono ?_
        rintro e w2 ⟨rfl, rfl⟩
        go_wp2_with fail
        refine (k4 _).mono ?_
        rintro e w2 ⟨rfl, rfl⟩
        go_wp2_with fail
        refine (kbc _).mono ?_
        rintro e w2 ⟨rfl, rfl⟩
        go_wp2_with fail
        go_ret
        exact ⟨rfl, f1⟩
  · subst h
    have k1 := cmp_any a a 0 (cmp_eq a)
    have k2 := cmp_any a a 0 (cmp_eq a)
    have k3 := cmp_any (c ++ a) (c ++ a) 0 (cmp_eq _)
    replace htr : cmpS a c ≤ 0 → cmpS a c ≤ 0 := id
    rcases hlem with ha0 | ha0
    · subst ha0
      clear kmore
      simp only [List.append_nil] at k3 h1
      generalize cmpS [] c = L at kbc kac htr
      by_cases hL : L ≤ 0
      · have hM := htr hL
        clear htr
        go_enter Try.func3, Try.ntmps3
        go_wp2_with fail
        refine (kl _).mono ?_
        rintro e w1 ⟨rfl, f1⟩
        go_wp2_with fail
        refine (k1 _).mono ?_
        rintro e w2 ⟨rfl, rfl⟩
        go_wp2_with fail
        refine (k2 _).mono ?_
        rintro e w2 ⟨rfl, rfl⟩
        go_wp2_with fail
        refine (k3 _).mono ?_
        rintro e w2 ⟨rfl, rfl⟩
        go_wp2_with fail
        refine (kbc _).mono ?_
        rintro e w2 ⟨rfl, rfl⟩
        go_wp2_with fail
        refine (kac _).mono ?_
        rintro e w2 ⟨rfl, rfl⟩
        go_wp2_with fail
        go_ret
        exact ⟨by simp [hM], f1⟩
      · have hL2 : decide (L ≤ 0) = false := decide_eq_false hL
        clear htr
        go_enter Try.func3, Try.ntmps3
        go_wp2_with fail
        refine (kl _).mono ?_
        rintro e w1 ⟨rfl, f1⟩
        go_wp2_with fail
        refine (k1 _).mono ?_
        rintro e w2 ⟨rfl, rfl⟩
        go_wp2_with fail
        refine (k2 _).mono ?_
        rintro e w2 ⟨rfl, rfl⟩
        go_wp2_with fail
        refine (k3 _).mono ?_
        rintro e w2 ⟨rfl, rfl⟩
        go_wp2_with fail
        refine (kbc _).mono ?_
        rintro e w2 ⟨rfl, rfl⟩
        go_wp2_with fail
        go_ret
        exact ⟨rfl, f1⟩
    · have hne : (a == []) = false := beq_eq_false_iff_ne.2 ha0
      have hne2 : (a != []) = true := by simp [ha0]
      have k4 := kmore ha0
      clear ha0 kmore
      generalize cmpS a c = L at kbc kac htr
      by_cases hL : L ≤ 0
      · have hM := htr hL
        clear htr
        go_enter Try.func3, Try.ntmps3
        go_wp2_with fail
        refine (kl _).mono ?_
        rintro e w1 ⟨rfl, f1⟩
        go_wp2_with fail
        refine (k1 _).mono ?_
        rintro e w2 ⟨rfl, rfl⟩
        go_wp2_with fail
        refine (k2 _).mono ?_
        rintro e w2 ⟨rfl, rfl⟩
        go_wp2_with fail
        refine (k3 _).mono ?_
        rintro e w2 ⟨rfl, rfl⟩
        go_wp2_with fail
        refine (k4 _).mono ?_
        rintro e w2 ⟨rfl, rfl⟩
        go_wp2_with fail
        refine (kbc _).mono ?_
        rintro e w2 ⟨rfl, rfl⟩
        go_wp2_with fail
        refine (kac _).mono ?_
        rintro e w2 ⟨rfl, rfl⟩
        go_wp2_with fail
        go_ret
        exact ⟨by simp [hM], f1⟩
      · have hL2 : decide (L ≤ 0) = false := decide_eq_false hL
        clear htr
        go_enter Try.func3, Try.ntmps3
        go_wp2_with fail
        refine (kl _).mono ?_
        rintro e w1 ⟨rfl, f1⟩
        go_wp2_with fail
        refine (k1 _).mono ?_
        rintro e w2 ⟨rfl, rfl⟩
        go_wp2_with fail
        refine (k2 _).mono ?_
        rintro e w2 ⟨rfl, rfl⟩
        go_wp2_with fail
        refine (k3 _).mono ?_
        rintro e w2 ⟨rfl, rfl⟩
        go_wp2_with fail
        refine (k4 _).mono ?_
        rintro e w2 ⟨rfl, rfl⟩
        go_wp2_with fail
        refine (kbc _).mono ?_
        rintro e w2 ⟨rfl, rfl⟩
        go_wp2_with fail
        go_ret
        exact ⟨rfl, f1⟩
  · have k1 := cmp_any a b 1 (cmp_gt h)
    have k2 := cmp_any b a (-1) (cmp_lt h)
    have k3 := cmp_any (c ++ a) (c ++ b) 1 (cmp_gt (lt_behind c h))
    have hab : (a == b) = false := beq_eq_false_iff_ne.2 (fun e => by subst e; exact Std.lt_irrefl h)
    have ha0 : a ≠ [] := fun e => by subst e; exact absurd h (by simp)
    clear h hlem
    · have hne : (a == []) = false := beq_eq_false_iff_ne.2 ha0
      have hne2 : (a != []) = true := by simp [ha0]
      have k4 := kmore ha0
      clear ha0 kmore
      · clear htr kbc kac
        go_enter Try.func3, Try.ntmps3
        go_wp2_with fail
        refine (kl _).mono ?_
        rintro e w1 ⟨rfl, f1⟩
        go_wp2_with fail
        refine (k1 _).mono ?_
        rintro e w2 ⟨rfl, rfl⟩
        go_wp2_with fail
        refine (k2 _).mono ?_
        rintro e w2 ⟨rfl, rfl⟩
        go_wp2_with fail
        refine (k3 _).mono ?_
        rintro e w2 ⟨rfl, rfl⟩
        go_wp2_with fail
        refine (k4 _).mono ?_
        rintro e w2 ⟨rfl, rfl⟩
        go_wp2_with fail
        go_ret
        exact ⟨rfl, f1⟩
end Go.Proofs.Ytlbcneoebamjiab
