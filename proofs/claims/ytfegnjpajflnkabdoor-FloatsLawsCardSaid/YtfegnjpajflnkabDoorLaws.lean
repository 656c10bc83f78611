/- FloatsLaws walked: sums and products turned round, differences, for any two bit patterns. -/
import Derived.Test.YtfegnjpajflnkabDoorT2
namespace Go.Proofs.YtfegnjpajflnkabDoor
open Go.RowKit Fl
set_option linter.unusedSimpArgs false
set_option linter.unusedVariables false

theorem add_is (a b v : Int) (h : resS (floatBits .add .f64 a.toNat b.toNat) = v) (w : World) :
    Calls Tryd.prog 6 #[.int .u64 a, .int .u64 b] w fun e w' => e = .returned (.int .u64 v) ∧ Grown w w' := h ▸ add_any a b w
theorem mul_is (a b v : Int) (h : resS (floatBits .mul .f64 a.toNat b.toNat) = v) (w : World) :
    Calls Tryd.prog 7 #[.int .u64 a, .int .u64 b] w fun e w' => e = .returned (.int .u64 v) ∧ Grown w w' := h ▸ mul_any a b w
theorem sub_is (a b v : Int) (h : resS (floatBits .sub .f64 a.toNat b.toNat) = v) (w : World) :
    Calls Tryd.prog 8 #[.int .u64 a, .int .u64 b] w fun e w' => e = .returned (.int .u64 v) ∧ Grown w w' := h ▸ sub_any a b w

theorem laws_small (a b A M S n ca cb : Int) (ha : U a) (hb : U b) (h1 : resS (floatBits .add .f64 a.toNat b.toNat) = A) (h2 : resS (floatBits .add .f64 b.toNat a.toNat) = A)
    (h3 : resS (floatBits .mul .f64 a.toNat b.toNat) = M) (h4 : resS (floatBits .mul .f64 b.toNat a.toNat) = M) (h5 : resS (floatBits .sub .f64 a.toNat b.toNat) = S) (hn : negS b = n) (h6 : resS (floatBits .add .f64 a.toNat n.toNat) = S)
    (hca : classS a = ca) (hcb : classS b = cb) (hc : ca < 3 ∨ (¬ ca < 3 ∧ cb < 3)) (w : World) :
    Calls Tryd.prog 3 #[.int .u64 a, .int .u64 b] w fun e w' => e = .returned (.bool true) ∧ Grown w w' := by
  have kn := neg_any b hb
  rw [hn] at kn
  rcases hc with hc | ⟨hc, hc'⟩
  all_goals
    go_enter Tryd.func3, Tryd.ntmps3
    go_wp2_with (first
      | (go_at_call 6; refine (add_is _ _ _ (by with_reducible assumption) _).mono ?_; rintro e w' ⟨rfl, g⟩)
      | (go_at_call 7; refine (mul_is _ _ _ (by with_reducible assumption) _).mono ?_; rintro e w' ⟨rfl, g⟩)
      | (go_at_call 8; refine (sub_is _ _ _ (by with_reducible assumption) _).mono ?_; rintro e w' ⟨rfl, g⟩)
      | (go_at_call 9; refine (kn _).mono ?_; rintro e w' ⟨rfl, rfl⟩)
      | (go_at_call 10; refine (alive_any _).mono ?_; rintro e w' ⟨rfl, g⟩)
      | (go_at_call 11; refine (class_is _ _ (by with_reducible assumption) (by with_reducible assumption) _).mono ?_; rintro e w' ⟨rfl, rfl⟩))
    go_ret
    refine ⟨rfl, ?_⟩
    repeat (first | assumption | (refine grown_trans (by with_reducible assumption) ?_))

theorem div_is (a b v : Int) (h : resS (floatBits .quo .f64 a.toNat b.toNat) = v) (w : World) :
    Calls Tryd.prog 14 #[.int .u64 a, .int .u64 b] w fun e w' => e = .returned (.int .u64 v) ∧ Grown w w' := h ▸ div_any a b w

theorem laws_great (a b A M S n ca cb cd : Int) (E L : Bool) (ha : U a) (hb : U b) (hS : U S) (h0 : U 0) (h1 : resS (floatBits .add .f64 a.toNat b.toNat) = A) (h2 : resS (floatBits .add .f64 b.toNat a.toNat) = A)
    (h3 : resS (floatBits .mul .f64 a.toNat b.toNat) = M) (h4 : resS (floatBits .mul .f64 b.toNat a.toNat) = M) (h5 : resS (floatBits .sub .f64 a.toNat b.toNat) = S) (hn : negS b = n) (h6 : resS (floatBits .add .f64 a.toNat n.toNat) = S)
    (hca : classS a = ca) (hcb : classS b = cb) (hc : ¬ ca < 3) (hc' : ¬ cb < 3) (hcd : classS S = cd) (hE : (cd == 3) = E) (hE' : eqS a b = E) (hL : lessS a b = L) (hL' : lessS S 0 = L)
    (hd : resS (floatBits .quo .f64 a.toNat (4607182418800017408 : Int).toNat) = a) (w : World) :
    Calls Tryd.prog 3 #[.int .u64 a, .int .u64 b] w fun e w' => e = .returned (.bool true) ∧ Grown w w' := by
  have kn := neg_any b hb
  rw [hn] at kn
  go_enter Tryd.func3, Tryd.ntmps3
  go_wp2_with (first
      | (go_at_call 6; refine (add_is _ _ _ (by with_reducible assumption) _).mono ?_; rintro e w' ⟨rfl, g⟩)
      | (go_at_call 7; refine (mul_is _ _ _ (by with_reducible assumption) _).mono ?_; rintro e w' ⟨rfl, g⟩)
      | (go_at_call 8; refine (sub_is _ _ _ (by with_reducible assumption) _).mono ?_; rintro e w' ⟨rfl, g⟩)
      | (go_at_call 14; refine (div_is _ _ _ (by with_reducible assumption) _).mono ?_; rintro e w' ⟨rfl, g⟩)
      | (go_at_call 9; refine (kn _).mono ?_; rintro e w' ⟨rfl, rfl⟩)
      | (go_at_call 10; refine (alive_any _).mono ?_; rintro e w' ⟨rfl, g⟩)
      | (go_at_call 12; refine (equal_is _ _ _ (by with_reducible assumption) (by with_reducible assumption) (by with_reducible assumption) _).mono ?_; rintro e w' ⟨rfl, rfl⟩)
      | (go_at_call 13; refine (less_is _ _ _ (by with_reducible assumption) (by with_reducible assumption) (by with_reducible assumption) _).mono ?_; rintro e w' ⟨rfl, rfl⟩)
      | (go_at_call 11; refine (class_is _ _ (by with_reducible assumption) (by with_reducible assumption) _).mono ?_; rintro e w' ⟨rfl, rfl⟩))
  go_ret
  refine ⟨rfl, ?_⟩
  repeat (first | assumption | (refine grown_trans (by with_reducible assumption) ?_))

theorem floatsLaws.walk (a b : Int) (w0 : (Lit.int .u64 a).wf = true) (w1 : (Lit.int .u64 b).wf = true) (w : World) :
    Calls Tryd.prog 3 #[.int .u64 a, .int .u64 b] w fun e w' => e = .returned (.bool true) ∧ Grown w w' := by
  have ha := wf_U w0
  have hb := wf_U w1
  by_cases c1 : classS a < 3
  · exact laws_small a b _ _ _ _ _ _ ha hb rfl (laws_add a b) rfl (laws_mul a b) rfl rfl (laws_sub a b hb) rfl rfl (Or.inl c1) w
  by_cases c2 : classS b < 3
  · exact laws_small a b _ _ _ _ _ _ ha hb rfl (laws_add a b) rfl (laws_mul a b) rfl rfl (laws_sub a b hb) rfl rfl (Or.inr ⟨c1, c2⟩) w
  have d := laws_diff a b ha hb c1 c2
  exact laws_great a b _ _ _ _ _ _ _ _ _ ha hb (res_U _ _ _) ⟨by omega, by omega⟩ rfl (laws_add a b) rfl (laws_mul a b) rfl rfl (laws_sub a b hb) rfl rfl c1 c2 rfl d.1 rfl rfl d.2 (laws_div a ha c1) w
end Go.Proofs.YtfegnjpajflnkabDoor
