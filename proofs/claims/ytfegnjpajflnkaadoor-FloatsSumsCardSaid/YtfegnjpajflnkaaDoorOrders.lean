/- FloatsOrders and FloatsSums walked: package floats answers as the document does, for any two bit patterns. -/
import Derived.Test.YtfegnjpajflnkaaDoorRef
namespace Go.Proofs.YtfegnjpajflnkaaDoor
open Go.RowKit Fl
set_option linter.unusedSimpArgs false
set_option linter.unusedVariables false

theorem floatsOrders.walk (a b : Int) (w0 : (Lit.int .u64 a).wf = true) (w1 : (Lit.int .u64 b).wf = true) (w : World) :
    Calls Tryd.prog 5 #[.int .u64 a, .int .u64 b] w fun e w' => e = .returned (.bool true) ∧ Grown w w' := by
  have ha := wf_U w0
  have hb := wf_U w1
  have k1 := equal_any a b ha hb
  have k2 := requal_any a b ha hb
  have k3 := less_any a b ha hb
  have k4 := rless_any a b ha hb
  have k5 := lessEq_any a b ha hb
  have k6 := rlessEq_any a b ha hb
  have k7 := compare_any a b ha hb
  have k8 := rcompare_any a b ha hb
  generalize (lessS a b || eqS a b) = LE at *
  generalize lessS a b = L at *
  generalize eqS a b = E at *
  generalize cmpS a b = C at *
  go_enter Tryd.func5, Tryd.ntmps5
  go_wp2_with (first
    | (go_at_call 32; refine (k1 _).mono ?_; rintro e w' ⟨rfl, rfl⟩)
    | (go_at_call 33; refine (k2 _).mono ?_; rintro e w' ⟨rfl, rfl⟩)
    | (go_at_call 34; refine (k3 _).mono ?_; rintro e w' ⟨rfl, rfl⟩)
    | (go_at_call 35; refine (k4 _).mono ?_; rintro e w' ⟨rfl, rfl⟩)
    | (go_at_call 36; refine (k5 _).mono ?_; rintro e w' ⟨rfl, rfl⟩)
    | (go_at_call 37; refine (k6 _).mono ?_; rintro e w' ⟨rfl, rfl⟩)
    | (go_at_call 38; refine (k7 _).mono ?_; rintro e w' ⟨rfl, rfl⟩)
    | (go_at_call 39; refine (k8 _).mono ?_; rintro e w' ⟨rfl, rfl⟩)
    | (go_at_call 23; refine (alive_any _).mono ?_; rintro e w' ⟨rfl, hg⟩))
  go_ret
  exact ⟨rfl, hg⟩

theorem floatsSums.walk (a b : Int) (w0 : (Lit.int .u64 a).wf = true) (w1 : (Lit.int .u64 b).wf = true) (w : World) :
    Calls Tryd.prog 4 #[.int .u64 a, .int .u64 b] w fun e w' => e = .returned (.bool true) ∧ Grown w w' := by
  have k1 := add_any a b
  have k2 := radd_any a b
  have k3 := sub_any a b
  have k4 := rsub_any a b
  have k5 := mul_any a b
  have k6 := rmul_any a b
  have k7 := div_any a b
  have k8 := rdiv_any a b
  generalize resS (floatBits .add .f64 a.toNat b.toNat) = A at *
  generalize resS (floatBits .sub .f64 a.toNat b.toNat) = S at *
  generalize resS (floatBits .mul .f64 a.toNat b.toNat) = M at *
  generalize resS (floatBits .quo .f64 a.toNat b.toNat) = D at *
  go_enter Tryd.func4, Tryd.ntmps4
  go_wp2_with (first
    | (go_at_call 24; refine (k1 _).mono ?_; rintro e w' ⟨rfl, g1⟩)
    | (go_at_call 25; refine (k2 _).mono ?_; rintro e w' ⟨rfl, g2⟩)
    | (go_at_call 26; refine (k3 _).mono ?_; rintro e w' ⟨rfl, g3⟩)
    | (go_at_call 27; refine (k4 _).mono ?_; rintro e w' ⟨rfl, g4⟩)
    | (go_at_call 28; refine (k5 _).mono ?_; rintro e w' ⟨rfl, g5⟩)
    | (go_at_call 29; refine (k6 _).mono ?_; rintro e w' ⟨rfl, g6⟩)
    | (go_at_call 30; refine (k7 _).mono ?_; rintro e w' ⟨rfl, g7⟩)
    | (go_at_call 31; refine (k8 _).mono ?_; rintro e w' ⟨rfl, g8⟩)
    | (go_at_call 23; refine (alive_any _).mono ?_; rintro e w' ⟨rfl, g9⟩))
  go_ret
  exact ⟨rfl, grown_trans g1 (grown_trans g2 (grown_trans g3 (grown_trans g4 (grown_trans g5 (grown_trans g6 (grown_trans g7 (grown_trans g8 g9)))))))⟩
end Go.Proofs.YtfegnjpajflnkaaDoor
