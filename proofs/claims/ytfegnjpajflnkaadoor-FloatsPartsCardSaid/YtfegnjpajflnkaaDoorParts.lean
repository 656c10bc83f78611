/- FloatsParts walked: package floats answers of any bits as the document does. -/
import Derived.Test.YtfegnjpajflnkaaDoorRText
import Derived.Test.YtfegnjpajflnkaaDoorRToInt
namespace Go.Proofs.YtfegnjpajflnkaaDoor
open Go.RowKit Fl
set_option linter.unusedSimpArgs false
set_option linter.unusedVariables false

theorem floatsParts.walk (a : Int) (w0 : (Lit.int .u64 a).wf = true) (w : World) (ht : Tab w) :
    Calls Tryd.prog 3 #[.int .u64 a] w fun e w' => e = .returned (.bool true) ∧ Kb w w' := by
  have ha := wf_U w0
  have k1 := parts_any a ha
  have k2 := rparts_any a ha
  have k3 := toInt_any a ha
  have k4 := rtoInt_any a ha
  have k5 := canon_any a ha
  have k6 := rcanon_any a ha
  have k7 := class_any a ha
  have k8 := rclass_any a ha
  have k9 := neg_any a ha
  have k10 := rneg_any a ha
  have k11 := next_any a ha
  have k12 := rnext_any a ha
  have k13 := text_any a ha
  have k14 := rtext_any a ha
  generalize partN a = N at *
  generalize partM a = M at *
  generalize partE a = E at *
  generalize toI a = I at *
  generalize toE a = R at *
  generalize canonS a = C at *
  generalize classS a = L at *
  generalize negS a = G at *
  generalize nextS a = X at *
  generalize textS a = T at *
  go_enter Tryd.func3, Tryd.ntmps3
  go_wp2_with (first
    | (go_at_call 9; refine (k1 _).mono ?_; rintro e w' ⟨rfl, rfl⟩)
    | (go_at_call 10; refine (k2 _).mono ?_; rintro e w' ⟨rfl, rfl⟩)
    | (go_at_call 11; refine (k3 _).mono ?_; rintro e w' ⟨rfl, rfl⟩)
    | (go_at_call 12; refine (k4 _).mono ?_; rintro e w' ⟨rfl, rfl⟩)
    | (go_at_call 13; refine (k5 _).mono ?_; rintro e w' ⟨rfl, rfl⟩)
    | (go_at_call 14; refine (k6 _).mono ?_; rintro e w' ⟨rfl, rfl⟩)
    | (go_at_call 15; refine (k7 _).mono ?_; rintro e w' ⟨rfl, rfl⟩)
    | (go_at_call 16; refine (k8 _).mono ?_; rintro e w' ⟨rfl, rfl⟩)
    | (go_at_call 17; refine (k9 _).mono ?_; rintro e w' ⟨rfl, rfl⟩)
    | (go_at_call 18; refine (k10 _).mono ?_; rintro e w' ⟨rfl, rfl⟩)
    | (go_at_call 19; refine (k11 _).mono ?_; rintro e w' ⟨rfl, rfl⟩)
    | (go_at_call 20; refine (k12 _).mono ?_; rintro e w' ⟨rfl, rfl⟩)
    | (go_at_call 21; refine (k13 _ ht).mono ?_; rintro e w' ⟨rfl, g1⟩)
    | (go_at_call 22; refine (k14 _).mono ?_; rintro e w' ⟨rfl, g2⟩)
    | (go_at_call 23; refine (alive_any _).mono ?_; rintro e w' ⟨rfl, g3⟩))
  go_ret
  exact ⟨rfl, g1.trans (g2.trans (Kb.of_grown g3))⟩
end Go.Proofs.YtfegnjpajflnkaaDoor
