/- The law TypesOps. -/
import Derived.Test.YtddkmefpfhdliaaDoorTyE2
import Derived.Test.YtddkmefpfhdliaaDoorTyB3
namespace Go.Proofs.YtddkmefpfhdliaaDoor.typesOps
open Go.RowKit Ty
set_option linter.unusedSimpArgs false
set_option linter.unusedVariables false

set_option maxRecDepth 20000 in
set_option maxHeartbeats 1000000 in
theorem walk (op a b : Int) (w : World) (h0 : (Lit.int .i64 op).wf = true) (h1 : (Lit.int .i64 a).wf = true) (h2 : (Lit.int .i64 b).wf = true) (ht : F.Tab w) :
    Calls Tryd.prog 4 #[.int .i64 op, .int .i64 a, .int .i64 b] w fun e w' => e = .returned (.bool true) ∧ Fr (fun _ => False) w w' := by
  have ku := fun w => unary_any op a w
  have kru := fun w => runary_any op a w
  have kb := fun w => binary_any op a b w
  have krb := fun w => rbinary_any op a b w
  have kl := fun (w1 : World) (f : Fr (fun _ => False) w w1) => live_any w1 (tab_fr ht f)
  generalize unS op a = U at ku kru
  generalize binS op a b = V at kb krb
  obtain ⟨U1, U2⟩ := U
  obtain ⟨V1, V2⟩ := V
  have e1 : (U1 == U1) = true := by simp
  have e2 : (U2 == U2) = true := by simp
  have e3 : (V1 == V1) = true := by simp
  have e4 : (V2 == V2) = true := by simp
  go_enter Tryd.func4, Tryd.ntmps4
  go_wp2_with (first
    | (go_at_call 19; refine (ku _).mono ?_; rintro e w1 ⟨rfl, f1⟩)
    | (go_at_call 20; refine (kru _).mono ?_; rintro e w2 ⟨rfl, rfl⟩)
    | (go_at_call 21; refine (kb _).mono ?_; rintro e w3 ⟨rfl, f3⟩)
    | (go_at_call 22; refine (krb _).mono ?_; rintro e w4 ⟨rfl, rfl⟩)
    | (go_at_call 18; refine (kl _ (f1.same f3)).mono ?_; rintro e w5 ⟨rfl, f5⟩))
  go_ret
  exact ⟨rfl, (f1.same f3).same f5⟩
end Go.Proofs.YtddkmefpfhdliaaDoor.typesOps
