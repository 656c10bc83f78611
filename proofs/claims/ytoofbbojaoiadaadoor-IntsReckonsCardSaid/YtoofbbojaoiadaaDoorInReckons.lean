/- IntsReckons walked: any two numbers. -/
import Derived.Test.YtoofbbojaoiadaaDoorInLive
import Derived.Test.YtoofbbojaoiadaaDoorInRef
namespace Go.Proofs.YtoofbbojaoiadaaDoor
open Go.RowKit
set_option linter.unusedSimpArgs false
set_option linter.unusedVariables false

set_option maxHeartbeats 1000000 in
theorem intsReckons.walk (a b : Int) (w0 : (Lit.int .i64 a).wf = true) (w1 : (Lit.int .i64 b).wf = true) (w : World) (ht : Tab w) :
    Calls Tryd.prog 3 #[.int .i64 a, .int .i64 b] w fun e w' => e = .returned (.bool true) ∧ Kb w w' := by
  have ha := wf_I w0
  have hb := wf_I w1
  have k1 := add_any a b ha hb
  have r1 := radd_any a b ha hb
  have k2 := sub_any a b ha hb
  have r2 := rsub_any a b ha hb
  have k3 := mul_any a b ha hb
  have r3 := rmul_any a b ha hb
  have k4 := div_any a b ha hb
  have r4 := rdiv_any a b ha hb
  have k5 := rem_any a b ha hb
  have r5 := rrem_any a b ha hb
  have k6 := neg_any a ha
  have r6 := rneg_any a ha
  have k7 := cmp_any a b
  have r7 := rcmp_any a b
  have kl := live_any
  clear w0 w1 ha hb
  generalize fitV (a + b) = v1 at *
  generalize fitE (a + b) = e1 at *
  generalize fitV (a - b) = v2 at *
  generalize fitE (a - b) = e2 at *
  generalize fitV (a * b) = v3 at *
  generalize fitE (a * b) = e3 at *
  generalize divV a b = v4 at *
  generalize divE a b = e4 at *
  generalize remV a b = v5 at *
  generalize remE b = e5 at *
  generalize fitV (-a) = v6 at *
  generalize fitE (-a) = e6 at *
  generalize cmpS a b = v7 at *
  go_enter Tryd.func3, Tryd.ntmps3
  go_wp2_with (first
    | (go_at_call 9; refine (k1 _).mono ?_; rintro e w' ⟨rfl, rfl⟩)
    | (go_at_call 10; refine (r1 _).mono ?_; rintro e w' ⟨rfl, rfl⟩)
    | (go_at_call 11; refine (k2 _).mono ?_; rintro e w' ⟨rfl, rfl⟩)
    | (go_at_call 12; refine (r2 _).mono ?_; rintro e w' ⟨rfl, rfl⟩)
    | (go_at_call 13; refine (k3 _).mono ?_; rintro e w' ⟨rfl, rfl⟩)
    | (go_at_call 14; refine (r3 _).mono ?_; rintro e w' ⟨rfl, rfl⟩)
    | (go_at_call 15; refine (k4 _).mono ?_; rintro e w' ⟨rfl, rfl⟩)
    | (go_at_call 16; refine (r4 _).mono ?_; rintro e w' ⟨rfl, rfl⟩)
    | (go_at_call 17; refine (k5 _).mono ?_; rintro e w' ⟨rfl, rfl⟩)
    | (go_at_call 18; refine (r5 _).mono ?_; rintro e w' ⟨rfl, rfl⟩)
    | (go_at_call 19; refine (k6 _).mono ?_; rintro e w' ⟨rfl, rfl⟩)
    | (go_at_call 20; refine (r6 _).mono ?_; rintro e w' ⟨rfl, rfl⟩)
    | (go_at_call 21; refine (k7 _).mono ?_; rintro e w' ⟨rfl, rfl⟩)
    | (go_at_call 22; refine (r7 _).mono ?_; rintro e w' ⟨rfl, rfl⟩)
    | (go_at_call 23; refine (kl _ ht).mono ?_; rintro e w' ⟨rfl, g⟩))
  go_ret
  exact ⟨rfl, g⟩
end Go.Proofs.YtoofbbojaoiadaaDoor
