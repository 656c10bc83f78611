/- IntsReads walked: any text, any number. -/
import Derived.Test.YtoofbbojaoiadaaDoorInLive
import Derived.Test.YtoofbbojaoiadaaDoorInRDec
namespace Go.Proofs.YtoofbbojaoiadaaDoor
open Go.RowKit
set_option linter.unusedSimpArgs false
set_option linter.unusedVariables false

theorem ireads_walk (s : List UInt8) (v a i e b k f : Int) (h1 : natS s = (a, i, e)) (h2 : readS s = (b, k, f)) (hs : s.length ≤ 9223372036854775807) (hv : I64 v) (w : World) (ht : Tab w) :
    Calls Tryd.prog 5 #[.string ⟨s.toArray⟩, .int .i64 v] w fun e w' => e = .returned (.bool true) ∧ Kb w w' := by
  have k1 := nat_any s a i e h1 hs
  have r1 := rnat_any s a i e h1 hs
  have k2 := read_any s b k f h2 hs
  have r2 := rread_any s b k f h2 hs
  have k3 := dec_any v hv
  have r3 := rdec_is v hv
  have kl := live_any
  clear h1 h2 hv
  generalize Lib.itoa v = l at *
  go_enter Tryd.func5, Tryd.ntmps5
  go_wp2_with (first
    | (go_at_call 26; refine (k1 _).mono ?_; rintro e w' ⟨rfl, g1⟩; have ht1 := tab_kb ht g1)
    | (go_at_call 27; refine (r1 _).mono ?_; rintro e w' ⟨rfl, rfl⟩)
    | (go_at_call 28; refine (k2 _).mono ?_; rintro e w' ⟨rfl, g2⟩; have ht2 := tab_kb ht1 g2)
    | (go_at_call 29; refine (r2 _).mono ?_; rintro e w' ⟨rfl, rfl⟩)
    | (go_at_call 30; refine (k3 _ ht2).mono ?_; rintro e w' ⟨rfl, g3⟩; have ht3 := tab_kb ht2 g3)
    | (go_at_call 31; refine (r3 _).mono ?_; rintro e w' ⟨rfl, g4⟩; have ht4 := tab_kb ht3 g4)
    | (go_at_call 23; refine (kl _ ht4).mono ?_; rintro e w' ⟨rfl, g5⟩))
  go_ret
  exact ⟨rfl, g1.trans (g2.trans (g3.trans (g4.trans g5)))⟩
theorem intsReads.walk (s : List UInt8) (v : Int) (hs : s.length ≤ 9223372036854775807) (w1 : (Lit.int .i64 v).wf = true) (w : World) (ht : Tab w) :
    Calls Tryd.prog 5 #[.string ⟨s.toArray⟩, .int .i64 v] w fun e w' => e = .returned (.bool true) ∧ Kb w w' :=
  ireads_walk s v _ _ _ _ _ _ rfl rfl hs (wf_I w1) w ht
end Go.Proofs.YtoofbbojaoiadaaDoor
