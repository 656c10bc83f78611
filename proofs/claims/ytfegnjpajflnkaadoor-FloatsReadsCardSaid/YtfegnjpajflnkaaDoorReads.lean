/- FloatsReads walked: any text. -/
import Derived.Test.YtfegnjpajflnkaaDoorRLit
namespace Go.Proofs.YtfegnjpajflnkaaDoor
open Go.RowKit Fl
set_option linter.unusedSimpArgs false
set_option linter.unusedVariables false

theorem reads_walk (s : List UInt8) (a e x g : Int) (h1 : parseS s = (a, e)) (h2 : litS s = (x, g)) (hs : s.length ≤ 9223372036854775807) (w : World) (ht : Tab w) :
    Calls Tryd.prog 6 #[.string ⟨s.toArray⟩] w fun e w' => e = .returned (.bool true) ∧ Kb w w' := by
  have k1 := parse_any s a e h1 hs
  have k2 := rparse_any s a e h1 hs
  have k3 := lit_any s x g h2 hs
  have k4 := rlit_any s x g h2 hs
  clear h1 h2
  go_enter Tryd.func6, Tryd.ntmps6
  go_wp2_with (first
    | (go_at_call 40; refine (k1 _ ht).mono ?_; rintro e w' ⟨rfl, g1⟩)
    | (go_at_call 41; refine (k2 _).mono ?_; rintro e w' ⟨rfl, g2⟩)
    | (go_at_call 42; refine (k3 _).mono ?_; rintro e w' ⟨rfl, g3⟩)
    | (go_at_call 43; refine (k4 _).mono ?_; rintro e w' ⟨rfl, g4⟩)
    | (go_at_call 23; refine (alive_any _).mono ?_; rintro e w' ⟨rfl, g5⟩))
  go_ret
  exact ⟨rfl, g1.trans (g2.trans (g3.trans (g4.trans (Kb.of_grown g5))))⟩
theorem floatsReads.walk (s : List UInt8) (hs : s.length ≤ 9223372036854775807) (w : World) (ht : Tab w) :
    Calls Tryd.prog 6 #[.string ⟨s.toArray⟩] w fun e w' => e = .returned (.bool true) ∧ Kb w w' :=
  reads_walk s _ _ _ _ rfl rfl hs w ht
end Go.Proofs.YtfegnjpajflnkaaDoor
