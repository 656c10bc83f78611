/- The program's Cmp. -/
import Derived.Test.YtakkiipkmogagaaGreatNzA
import Derived.Sort.Walk0
import Derived.Shelf.SlSorted.Search
namespace Go.Proofs.YtakkiipkmogagaaGreat.U
open Go.RowKit Go.Sort
set_option linter.unusedSimpArgs false
set_option linter.unusedVariables false

theorem isnan_any (x : Str) (w : World) : Calls Tryz.prog 105 #[.string ⟨x.toArray⟩] w fun e w' => e = .returned (.bool false) ∧ w' = w := by
  go_enter Tryz.func105, Tryz.ntmps105
  go_wp2
  go_ret
  exact ⟨by simp, rfl⟩

theorem compare_any (a b : Str) (r : Int) (hr : cmpS a b = r) (w : World) : Calls Tryz.prog 68 #[.string ⟨a.toArray⟩, .string ⟨b.toArray⟩] w fun e w' => e = .returned (.int .i64 r) ∧ w' = w := by
  unfold cmpS at hr
  have kn := isnan_any
  rcases Std.lt_trichotomy a b with h | h | h
  · rw [if_pos h] at hr
    subst hr
    have h1 : Op.bytesLess a b = true := by rw [bytesLess_eq, decide_eq_true h]
    clear h
    go_enter Tryz.func68, Tryz.ntmps68
    go_wp2_with (go_at_call 105; refine (kn _ _).mono ?_; rintro e w' ⟨rfl, rfl⟩)
    go_ret
    exact ⟨rfl, rfl⟩
  · subst h
    rw [if_neg Std.lt_irrefl, if_neg Std.lt_irrefl] at hr
    subst hr
    have h1 : Op.bytesLess a a = false := by rw [bytesLess_eq, decide_eq_false Std.lt_irrefl]
    go_enter Tryz.func68, Tryz.ntmps68
    go_wp2_with (go_at_call 105; refine (kn _ _).mono ?_; rintro e w' ⟨rfl, rfl⟩)
    go_ret
    exact ⟨rfl, rfl⟩
  · have hn : ¬ a < b := fun g => Std.lt_irrefl (Std.lt_trans g h)
    rw [if_neg hn, if_pos h] at hr
    subst hr
    have h1 : Op.bytesLess a b = false := by rw [bytesLess_eq, decide_eq_false hn]
    have h2 : (a == b) = false := beq_eq_false_iff_ne.2 (fun e => by subst e; exact Std.lt_irrefl h)
    clear h hn
    go_enter Tryz.func68, Tryz.ntmps68
    go_wp2_with (go_at_call 105; refine (kn _ _).mono ?_; rintro e w' ⟨rfl, rfl⟩)
    go_ret
    exact ⟨rfl, rfl⟩

theorem cmp_any (a b : Str) (r : Int) (hr : cmpS a b = r) (w : World) : Calls Tryz.prog 34 #[.string ⟨a.toArray⟩, .string ⟨b.toArray⟩] w fun e w' => e = .returned (.int .i64 r) ∧ w' = w := by
  have kc := compare_any a b r hr
  clear hr
  go_enter Tryz.func34, Tryz.ntmps34
  go_wp2_with (go_at_call 68; refine (kc _).mono ?_; rintro e w' ⟨rfl, rfl⟩)
  go_ret
  exact ⟨rfl, rfl⟩

end Go.Proofs.YtakkiipkmogagaaGreat.U
