/- FloatsBetween walked, a way at a time: each test on the road is decided ahead of the walk. -/
import Derived.Test.YtfegnjpajflnkabDoorT2
namespace Go.Proofs.YtfegnjpajflnkabDoor
open Go.RowKit Fl
set_option linter.unusedSimpArgs false
set_option linter.unusedVariables false

theorem bw_A1y (a b c N KA KB Y Z V T CA CB : Int) (ha : U a) (hb : U b) (hc : U c) (hN : U N) (hn : nextS a = N) (za : canonS a = KA) (zb : canonS b = KB) (xbc : cmpS b c = Y) (xac : cmpS a c = Z) (xan : cmpS a N = V) (xnb : cmpS N b = T) (xab : cmpS a b = 0) (xba : cmpS b a = 0) (hY : Y ≤ 0) (hZ : ¬ 0 < Z) (hk : KA = KB) (ca : classS a = 1) (cb : classS b = 1) (hl : lessS a b = false) (he : eqS a b = false) (hle : (lessS a b || eqS a b) = false) (w : World) :
    Calls Tryd.prog 4 #[.int .u64 a, .int .u64 b, .int .u64 c] w fun e w' => e = .returned (.bool true) ∧ Grown w w' := by
  go_enter Tryd.func4, Tryd.ntmps4
  go_wp2_with (first
    | (go_at_call 15; refine (compare_is _ _ _ (by with_reducible assumption) (by with_reducible assumption) (by with_reducible assumption) _).mono ?_; rintro e w' ⟨rfl, rfl⟩)
    | (go_at_call 16; refine (canon_is _ _ (by with_reducible assumption) (by with_reducible assumption) _).mono ?_; rintro e w' ⟨rfl, rfl⟩)
    | (go_at_call 11; refine (class_is _ _ (by with_reducible assumption) (by with_reducible assumption) _).mono ?_; rintro e w' ⟨rfl, rfl⟩)
    | (go_at_call 10; refine (alive_any _).mono ?_; rintro e w' ⟨rfl, hg⟩)
    | (go_at_call 17; refine (next_is _ _ (by with_reducible assumption) (by with_reducible assumption) _).mono ?_; rintro e w' ⟨rfl, rfl⟩)
    | (go_at_call 13; refine (less_is _ _ _ (by with_reducible assumption) (by with_reducible assumption) (by with_reducible assumption) _).mono ?_; rintro e w' ⟨rfl, rfl⟩)
    | (go_at_call 12; refine (equal_is _ _ _ (by with_reducible assumption) (by with_reducible assumption) (by with_reducible assumption) _).mono ?_; rintro e w' ⟨rfl, rfl⟩)
    | (go_at_call 18; refine (lessEq_is _ _ _ (by with_reducible assumption) (by with_reducible assumption) (by with_reducible assumption) _).mono ?_; rintro e w' ⟨rfl, rfl⟩))
  go_ret
  exact ⟨rfl, hg⟩

theorem bw_A1n (a b c N KA KB Y Z V T CA CB : Int) (ha : U a) (hb : U b) (hc : U c) (hN : U N) (hn : nextS a = N) (za : canonS a = KA) (zb : canonS b = KB) (xbc : cmpS b c = Y) (xac : cmpS a c = Z) (xan : cmpS a N = V) (xnb : cmpS N b = T) (xab : cmpS a b = 0) (xba : cmpS b a = 0) (hY : ¬ Y ≤ 0) (hk : KA = KB) (ca : classS a = 1) (cb : classS b = 1) (hl : lessS a b = false) (he : eqS a b = false) (hle : (lessS a b || eqS a b) = false) (w : World) :
    Calls Tryd.prog 4 #[.int .u64 a, .int .u64 b, .int .u64 c] w fun e w' => e = .returned (.bool true) ∧ Grown w w' := by
  go_enter Tryd.func4, Tryd.ntmps4
  go_wp2_with (first
    | (go_at_call 15; refine (compare_is _ _ _ (by with_reducible assumption) (by with_reducible assumption) (by with_reducible assumption) _).mono ?_; rintro e w' ⟨rfl, rfl⟩)
    | (go_at_call 16; refine (canon_is _ _ (by with_reducible assumption) (by with_reducible assumption) _).mono ?_; rintro e w' ⟨rfl, rfl⟩)
    | (go_at_call 11; refine (class_is _ _ (by with_reducible assumption) (by with_reducible assumption) _).mono ?_; rintro e w' ⟨rfl, rfl⟩)
    | (go_at_call 10; refine (alive_any _).mono ?_; rintro e w' ⟨rfl, hg⟩)
    | (go_at_call 17; refine (next_is _ _ (by with_reducible assumption) (by with_reducible assumption) _).mono ?_; rintro e w' ⟨rfl, rfl⟩)
    | (go_at_call 13; refine (less_is _ _ _ (by with_reducible assumption) (by with_reducible assumption) (by with_reducible assumption) _).mono ?_; rintro e w' ⟨rfl, rfl⟩)
    | (go_at_call 12; refine (equal_is _ _ _ (by with_reducible assumption) (by with_reducible assumption) (by with_reducible assumption) _).mono ?_; rintro e w' ⟨rfl, rfl⟩)
    | (go_at_call 18; refine (lessEq_is _ _ _ (by with_reducible assumption) (by with_reducible assumption) (by with_reducible assumption) _).mono ?_; rintro e w' ⟨rfl, rfl⟩))
  go_ret
  exact ⟨rfl, hg⟩

theorem bw_A2 (a b c N KA KB Y Z V T CA CB : Int) (ha : U a) (hb : U b) (hc : U c) (hN : U N) (hn : nextS a = N) (za : canonS a = KA) (zb : canonS b = KB) (xbc : cmpS b c = Y) (xac : cmpS a c = Z) (xan : cmpS a N = V) (xnb : cmpS N b = T) (xab : cmpS a b = 1) (xba : cmpS b a = -1) (ca : classS a = 1) (cb : classS b = CB) (hCB : (CB == 1) = false) (hl : lessS a b = false) (he : eqS a b = false) (hle : (lessS a b || eqS a b) = false) (w : World) :
    Calls Tryd.prog 4 #[.int .u64 a, .int .u64 b, .int .u64 c] w fun e w' => e = .returned (.bool true) ∧ Grown w w' := by
  go_enter Tryd.func4, Tryd.ntmps4
  go_wp2_with (first
    | (go_at_call 15; refine (compare_is _ _ _ (by with_reducible assumption) (by with_reducible assumption) (by with_reducible assumption) _).mono ?_; rintro e w' ⟨rfl, rfl⟩)
    | (go_at_call 16; refine (canon_is _ _ (by with_reducible assumption) (by with_reducible assumption) _).mono ?_; rintro e w' ⟨rfl, rfl⟩)
    | (go_at_call 11; refine (class_is _ _ (by with_reducible assumption) (by with_reducible assumption) _).mono ?_; rintro e w' ⟨rfl, rfl⟩)
    | (go_at_call 10; refine (alive_any _).mono ?_; rintro e w' ⟨rfl, hg⟩)
    | (go_at_call 17; refine (next_is _ _ (by with_reducible assumption) (by with_reducible assumption) _).mono ?_; rintro e w' ⟨rfl, rfl⟩)
    | (go_at_call 13; refine (less_is _ _ _ (by with_reducible assumption) (by with_reducible assumption) (by with_reducible assumption) _).mono ?_; rintro e w' ⟨rfl, rfl⟩)
    | (go_at_call 12; refine (equal_is _ _ _ (by with_reducible assumption) (by with_reducible assumption) (by with_reducible assumption) _).mono ?_; rintro e w' ⟨rfl, rfl⟩)
    | (go_at_call 18; refine (lessEq_is _ _ _ (by with_reducible assumption) (by with_reducible assumption) (by with_reducible assumption) _).mono ?_; rintro e w' ⟨rfl, rfl⟩))
  go_ret
  exact ⟨rfl, hg⟩

theorem bw_A3y (a b c N KA KB Y Z V T CA CB : Int) (ha : U a) (hb : U b) (hc : U c) (hN : U N) (hn : nextS a = N) (za : canonS a = KA) (zb : canonS b = KB) (xbc : cmpS b c = Y) (xac : cmpS a c = Z) (xan : cmpS a N = V) (xnb : cmpS N b = T) (xab : cmpS a b = -1) (xba : cmpS b a = 1) (hY : Y ≤ 0) (hZ : ¬ 0 < Z) (ca : classS a = CA) (hCA : (CA == 1) = false) (hCA2 : (CA != 1) = true) (cb : classS b = 1) (hV : V = -1) (hT : ¬ 0 < T) (hl : lessS a b = false) (he : eqS a b = false) (hle : (lessS a b || eqS a b) = false) (w : World) :
    Calls Tryd.prog 4 #[.int .u64 a, .int .u64 b, .int .u64 c] w fun e w' => e = .returned (.bool true) ∧ Grown w w' := by
  go_enter Tryd.func4, Tryd.ntmps4
  go_wp2_with (first
    | (go_at_call 15; refine (compare_is _ _ _ (by with_reducible assumption) (by with_reducible assumption) (by with_reducible assumption) _).mono ?_; rintro e w' ⟨rfl, rfl⟩)
    | (go_at_call 16; refine (canon_is _ _ (by with_reducible assumption) (by with_reducible assumption) _).mono ?_; rintro e w' ⟨rfl, rfl⟩)
    | (go_at_call 11; refine (class_is _ _ (by with_reducible assumption) (by with_reducible assumption) _).mono ?_; rintro e w' ⟨rfl, rfl⟩)
    | (go_at_call 10; refine (alive_any _).mono ?_; rintro e w' ⟨rfl, hg⟩)
    | (go_at_call 17; refine (next_is _ _ (by with_reducible assumption) (by with_reducible assumption) _).mono ?_; rintro e w' ⟨rfl, rfl⟩)
    | (go_at_call 13; refine (less_is _ _ _ (by with_reducible assumption) (by with_reducible assumption) (by with_reducible assumption) _).mono ?_; rintro e w' ⟨rfl, rfl⟩)
    | (go_at_call 12; refine (equal_is _ _ _ (by with_reducible assumption) (by with_reducible assumption) (by with_reducible assumption) _).mono ?_; rintro e w' ⟨rfl, rfl⟩)
    | (go_at_call 18; refine (lessEq_is _ _ _ (by with_reducible assumption) (by with_reducible assumption) (by with_reducible assumption) _).mono ?_; rintro e w' ⟨rfl, rfl⟩))
  go_ret
  exact ⟨rfl, hg⟩

theorem bw_A3n (a b c N KA KB Y Z V T CA CB : Int) (ha : U a) (hb : U b) (hc : U c) (hN : U N) (hn : nextS a = N) (za : canonS a = KA) (zb : canonS b = KB) (xbc : cmpS b c = Y) (xac : cmpS a c = Z) (xan : cmpS a N = V) (xnb : cmpS N b = T) (xab : cmpS a b = -1) (xba : cmpS b a = 1) (hY : ¬ Y ≤ 0) (ca : classS a = CA) (hCA : (CA == 1) = false) (hCA2 : (CA != 1) = true) (cb : classS b = 1) (hV : V = -1) (hT : ¬ 0 < T) (hl : lessS a b = false) (he : eqS a b = false) (hle : (lessS a b || eqS a b) = false) (w : World) :
    Calls Tryd.prog 4 #[.int .u64 a, .int .u64 b, .int .u64 c] w fun e w' => e = .returned (.bool true) ∧ Grown w w' := by
  go_enter Tryd.func4, Tryd.ntmps4
  go_wp2_with (first
    | (go_at_call 15; refine (compare_is _ _ _ (by with_reducible assumption) (by with_reducible assumption) (by with_reducible assumption) _).mono ?_; rintro e w' ⟨rfl, rfl⟩)
    | (go_at_call 16; refine (canon_is _ _ (by with_reducible assumption) (by with_reducible assumption) _).mono ?_; rintro e w' ⟨rfl, rfl⟩)
    | (go_at_call 11; refine (class_is _ _ (by with_reducible assumption) (by with_reducible assumption) _).mono ?_; rintro e w' ⟨rfl, rfl⟩)
    | (go_at_call 10; refine (alive_any _).mono ?_; rintro e w' ⟨rfl, hg⟩)
    | (go_at_call 17; refine (next_is _ _ (by with_reducible assumption) (by with_reducible assumption) _).mono ?_; rintro e w' ⟨rfl, rfl⟩)
    | (go_at_call 13; refine (less_is _ _ _ (by with_reducible assumption) (by with_reducible assumption) (by with_reducible assumption) _).mono ?_; rintro e w' ⟨rfl, rfl⟩)
    | (go_at_call 12; refine (equal_is _ _ _ (by with_reducible assumption) (by with_reducible assumption) (by with_reducible assumption) _).mono ?_; rintro e w' ⟨rfl, rfl⟩)
    | (go_at_call 18; refine (lessEq_is _ _ _ (by with_reducible assumption) (by with_reducible assumption) (by with_reducible assumption) _).mono ?_; rintro e w' ⟨rfl, rfl⟩))
  go_ret
  exact ⟨rfl, hg⟩

theorem bw_Xmyzz (a b c N KA KB Y Z V T CA CB : Int) (ha : U a) (hb : U b) (hc : U c) (hN : U N) (hn : nextS a = N) (za : canonS a = KA) (zb : canonS b = KB) (xbc : cmpS b c = Y) (xac : cmpS a c = Z) (xan : cmpS a N = V) (xnb : cmpS N b = T) (xab : cmpS a b = -1) (xba : cmpS b a = 1) (hY : Y ≤ 0) (hZ : ¬ 0 < Z) (hV : V = -1) (hT : ¬ 0 < T) (ca : classS a = 3) (cb : classS b = 3) (hl : lessS a b = false) (he : eqS a b = true) (w : World) :
    Calls Tryd.prog 4 #[.int .u64 a, .int .u64 b, .int .u64 c] w fun e w' => e = .returned (.bool true) ∧ Grown w w' := by
  go_enter Tryd.func4, Tryd.ntmps4
  go_wp2_with (first
    | (go_at_call 15; refine (compare_is _ _ _ (by with_reducible assumption) (by with_reducible assumption) (by with_reducible assumption) _).mono ?_; rintro e w' ⟨rfl, rfl⟩)
    | (go_at_call 16; refine (canon_is _ _ (by with_reducible assumption) (by with_reducible assumption) _).mono ?_; rintro e w' ⟨rfl, rfl⟩)
    | (go_at_call 11; refine (class_is _ _ (by with_reducible assumption) (by with_reducible assumption) _).mono ?_; rintro e w' ⟨rfl, rfl⟩)
    | (go_at_call 10; refine (alive_any _).mono ?_; rintro e w' ⟨rfl, hg⟩)
    | (go_at_call 17; refine (next_is _ _ (by with_reducible assumption) (by with_reducible assumption) _).mono ?_; rintro e w' ⟨rfl, rfl⟩)
    | (go_at_call 13; refine (less_is _ _ _ (by with_reducible assumption) (by with_reducible assumption) (by with_reducible assumption) _).mono ?_; rintro e w' ⟨rfl, rfl⟩)
    | (go_at_call 12; refine (equal_is _ _ _ (by with_reducible assumption) (by with_reducible assumption) (by with_reducible assumption) _).mono ?_; rintro e w' ⟨rfl, rfl⟩)
    | (go_at_call 18; refine (lessEq_is _ _ _ (by with_reducible assumption) (by with_reducible assumption) (by with_reducible assumption) _).mono ?_; rintro e w' ⟨rfl, rfl⟩))
  go_ret
  exact ⟨rfl, hg⟩

theorem bw_Xmyzo (a b c N KA KB Y Z V T CA CB : Int) (ha : U a) (hb : U b) (hc : U c) (hN : U N) (hn : nextS a = N) (za : canonS a = KA) (zb : canonS b = KB) (xbc : cmpS b c = Y) (xac : cmpS a c = Z) (xan : cmpS a N = V) (xnb : cmpS N b = T) (xab : cmpS a b = -1) (xba : cmpS b a = 1) (hY : Y ≤ 0) (hZ : ¬ 0 < Z) (hV : V = -1) (hT : ¬ 0 < T) (ca : classS a = 3) (cb : classS b = CB) (hCB : (CB == 1) = false) (hCB3 : (CB == 3) = false) (hl : lessS a b = true) (he : eqS a b = false) (w : World) :
    Calls Tryd.prog 4 #[.int .u64 a, .int .u64 b, .int .u64 c] w fun e w' => e = .returned (.bool true) ∧ Grown w w' := by
  go_enter Tryd.func4, Tryd.ntmps4
  go_wp2_with (first
    | (go_at_call 15; refine (compare_is _ _ _ (by with_reducible assumption) (by with_reducible assumption) (by with_reducible assumption) _).mono ?_; rintro e w' ⟨rfl, rfl⟩)
    | (go_at_call 16; refine (canon_is _ _ (by with_reducible assumption) (by with_reducible assumption) _).mono ?_; rintro e w' ⟨rfl, rfl⟩)
    | (go_at_call 11; refine (class_is _ _ (by with_reducible assumption) (by with_reducible assumption) _).mono ?_; rintro e w' ⟨rfl, rfl⟩)
    | (go_at_call 10; refine (alive_any _).mono ?_; rintro e w' ⟨rfl, hg⟩)
    | (go_at_call 17; refine (next_is _ _ (by with_reducible assumption) (by with_reducible assumption) _).mono ?_; rintro e w' ⟨rfl, rfl⟩)
    | (go_at_call 13; refine (less_is _ _ _ (by with_reducible assumption) (by with_reducible assumption) (by with_reducible assumption) _).mono ?_; rintro e w' ⟨rfl, rfl⟩)
    | (go_at_call 12; refine (equal_is _ _ _ (by with_reducible assumption) (by with_reducible assumption) (by with_reducible assumption) _).mono ?_; rintro e w' ⟨rfl, rfl⟩)
    | (go_at_call 18; refine (lessEq_is _ _ _ (by with_reducible assumption) (by with_reducible assumption) (by with_reducible assumption) _).mono ?_; rintro e w' ⟨rfl, rfl⟩))
  go_ret
  exact ⟨rfl, hg⟩

theorem bw_Xmyo (a b c N KA KB Y Z V T CA CB : Int) (ha : U a) (hb : U b) (hc : U c) (hN : U N) (hn : nextS a = N) (za : canonS a = KA) (zb : canonS b = KB) (xbc : cmpS b c = Y) (xac : cmpS a c = Z) (xan : cmpS a N = V) (xnb : cmpS N b = T) (xab : cmpS a b = -1) (xba : cmpS b a = 1) (hY : Y ≤ 0) (hZ : ¬ 0 < Z) (hV : V = -1) (hT : ¬ 0 < T) (ca : classS a = CA) (hCA : (CA == 1) = false) (hCA2 : (CA != 1) = true) (hCA3 : (CA == 3) = false) (cb : classS b = CB) (hCB : (CB == 1) = false) (hl : lessS a b = true) (he : eqS a b = false) (w : World) :
    Calls Tryd.prog 4 #[.int .u64 a, .int .u64 b, .int .u64 c] w fun e w' => e = .returned (.bool true) ∧ Grown w w' := by
  go_enter Tryd.func4, Tryd.ntmps4
  go_wp2_with (first
    | (go_at_call 15; refine (compare_is _ _ _ (by with_reducible assumption) (by with_reducible assumption) (by with_reducible assumption) _).mono ?_; rintro e w' ⟨rfl, rfl⟩)
    | (go_at_call 16; refine (canon_is _ _ (by with_reducible assumption) (by with_reducible assumption) _).mono ?_; rintro e w' ⟨rfl, rfl⟩)
    | (go_at_call 11; refine (class_is _ _ (by with_reducible assumption) (by with_reducible assumption) _).mono ?_; rintro e w' ⟨rfl, rfl⟩)
    | (go_at_call 10; refine (alive_any _).mono ?_; rintro e w' ⟨rfl, hg⟩)
    | (go_at_call 17; refine (next_is _ _ (by with_reducible assumption) (by with_reducible assumption) _).mono ?_; rintro e w' ⟨rfl, rfl⟩)
    | (go_at_call 13; refine (less_is _ _ _ (by with_reducible assumption) (by with_reducible assumption) (by with_reducible assumption) _).mono ?_; rintro e w' ⟨rfl, rfl⟩)
    | (go_at_call 12; refine (equal_is _ _ _ (by with_reducible assumption) (by with_reducible assumption) (by with_reducible assumption) _).mono ?_; rintro e w' ⟨rfl, rfl⟩)
    | (go_at_call 18; refine (lessEq_is _ _ _ (by with_reducible assumption) (by with_reducible assumption) (by with_reducible assumption) _).mono ?_; rintro e w' ⟨rfl, rfl⟩))
  go_ret
  exact ⟨rfl, hg⟩

theorem bw_Xmnzz (a b c N KA KB Y Z V T CA CB : Int) (ha : U a) (hb : U b) (hc : U c) (hN : U N) (hn : nextS a = N) (za : canonS a = KA) (zb : canonS b = KB) (xbc : cmpS b c = Y) (xac : cmpS a c = Z) (xan : cmpS a N = V) (xnb : cmpS N b = T) (xab : cmpS a b = -1) (xba : cmpS b a = 1) (hY : ¬ Y ≤ 0) (hV : V = -1) (hT : ¬ 0 < T) (ca : classS a = 3) (cb : classS b = 3) (hl : lessS a b = false) (he : eqS a b = true) (w : World) :
    Calls Tryd.prog 4 #[.int .u64 a, .int .u64 b, .int .u64 c] w fun e w' => e = .returned (.bool true) ∧ Grown w w' := by
  go_enter Tryd.func4, Tryd.ntmps4
  go_wp2_with (first
    | (go_at_call 15; refine (compare_is _ _ _ (by with_reducible assumption) (by with_reducible assumption) (by with_reducible assumption) _).mono ?_; rintro e w' ⟨rfl, rfl⟩)
    | (go_at_call 16; refine (canon_is _ _ (by with_reducible assumption) (by with_reducible assumption) _).mono ?_; rintro e w' ⟨rfl, rfl⟩)
    | (go_at_call 11; refine (class_is _ _ (by with_reducible assumption) (by with_reducible assumption) _).mono ?_; rintro e w' ⟨rfl, rfl⟩)
    | (go_at_call 10; refine (alive_any _).mono ?_; rintro e w' ⟨rfl, hg⟩)
    | (go_at_call 17; refine (next_is _ _ (by with_reducible assumption) (by with_reducible assumption) _).mono ?_; rintro e w' ⟨rfl, rfl⟩)
    | (go_at_call 13; refine (less_is _ _ _ (by with_reducible assumption) (by with_reducible assumption) (by with_reducible assumption) _).mono ?_; rintro e w' ⟨rfl, rfl⟩)
    | (go_at_call 12; refine (equal_is _ _ _ (by with_reducible assumption) (by with_reducible assumption) (by with_reducible assumption) _).mono ?_; rintro e w' ⟨rfl, rfl⟩)
    | (go_at_call 18; refine (lessEq_is _ _ _ (by with_reducible assumption) (by with_reducible assumption) (by with_reducible assumption) _).mono ?_; rintro e w' ⟨rfl, rfl⟩))
  go_ret
  exact ⟨rfl, hg⟩

theorem bw_Xmnzo (a b c N KA KB Y Z V T CA CB : Int) (ha : U a) (hb : U b) (hc : U c) (hN : U N) (hn : nextS a = N) (za : canonS a = KA) (zb : canonS b = KB) (xbc : cmpS b c = Y) (xac : cmpS a c = Z) (xan : cmpS a N = V) (xnb : cmpS N b = T) (xab : cmpS a b = -1) (xba : cmpS b a = 1) (hY : ¬ Y ≤ 0) (hV : V = -1) (hT : ¬ 0 < T) (ca : classS a = 3) (cb : classS b = CB) (hCB : (CB == 1) = false) (hCB3 : (CB == 3) = false) (hl : lessS a b = true) (he : eqS a b = false) (w : World) :
    Calls Tryd.prog 4 #[.int .u64 a, .int .u64 b, .int .u64 c] w fun e w' => e = .returned (.bool true) ∧ Grown w w' := by
  go_enter Tryd.func4, Tryd.ntmps4
  go_wp2_with (first
    | (go_at_call 15; refine (compare_is _ _ _ (by with_reducible assumption) (by with_reducible assumption) (by with_reducible assumption) _).mono ?_; rintro e w' ⟨rfl, rfl⟩)
    | (go_at_call 16; refine (canon_is _ _ (by with_reducible assumption) (by with_reducible assumption) _).mono ?_; rintro e w' ⟨rfl, rfl⟩)
    | (go_at_call 11; refine (class_is _ _ (by with_reducible assumption) (by with_reducible assumption) _).mono ?_; rintro e w' ⟨rfl, rfl⟩)
    | (go_at_call 10; refine (alive_any _).mono ?_; rintro e w' ⟨rfl, hg⟩)
    | (go_at_call 17; refine (next_is _ _ (by with_reducible assumption) (by with_reducible assumption) _).mono ?_; rintro e w' ⟨rfl, rfl⟩)
    | (go_at_call 13; refine (less_is _ _ _ (by with_reducible assumption) (by with_reducible assumption) (by with_reducible assumption) _).mono ?_; rintro e w' ⟨rfl, rfl⟩)
    | (go_at_call 12; refine (equal_is _ _ _ (by with_reducible assumption) (by with_reducible assumption) (by with_reducible assumption) _).mono ?_; rintro e w' ⟨rfl, rfl⟩)
    | (go_at_call 18; refine (lessEq_is _ _ _ (by with_reducible assumption) (by with_reducible assumption) (by with_reducible assumption) _).mono ?_; rintro e w' ⟨rfl, rfl⟩))
  go_ret
  exact ⟨rfl, hg⟩

theorem bw_Xmno (a b c N KA KB Y Z V T CA CB : Int) (ha : U a) (hb : U b) (hc : U c) (hN : U N) (hn : nextS a = N) (za : canonS a = KA) (zb : canonS b = KB) (xbc : cmpS b c = Y) (xac : cmpS a c = Z) (xan : cmpS a N = V) (xnb : cmpS N b = T) (xab : cmpS a b = -1) (xba : cmpS b a = 1) (hY : ¬ Y ≤ 0) (hV : V = -1) (hT : ¬ 0 < T) (ca : classS a = CA) (hCA : (CA == 1) = false) (hCA2 : (CA != 1) = true) (hCA3 : (CA == 3) = false) (cb : classS b = CB) (hCB : (CB == 1) = false) (hl : lessS a b = true) (he : eqS a b = false) (w : World) :
    Calls Tryd.prog 4 #[.int .u64 a, .int .u64 b, .int .u64 c] w fun e w' => e = .returned (.bool true) ∧ Grown w w' := by
  go_enter Tryd.func4, Tryd.ntmps4
  go_wp2_with (first
    | (go_at_call 15; refine (compare_is _ _ _ (by with_reducible assumption) (by with_reducible assumption) (by with_reducible assumption) _).mono ?_; rintro e w' ⟨rfl, rfl⟩)
    | (go_at_call 16; refine (canon_is _ _ (by with_reducible assumption) (by with_reducible assumption) _).mono ?_; rintro e w' ⟨rfl, rfl⟩)
    | (go_at_call 11; refine (class_is _ _ (by with_reducible assumption) (by with_reducible assumption) _).mono ?_; rintro e w' ⟨rfl, rfl⟩)
    | (go_at_call 10; refine (alive_any _).mono ?_; rintro e w' ⟨rfl, hg⟩)
    | (go_at_call 17; refine (next_is _ _ (by with_reducible assumption) (by with_reducible assumption) _).mono ?_; rintro e w' ⟨rfl, rfl⟩)
    | (go_at_call 13; refine (less_is _ _ _ (by with_reducible assumption) (by with_reducible assumption) (by with_reducible assumption) _).mono ?_; rintro e w' ⟨rfl, rfl⟩)
    | (go_at_call 12; refine (equal_is _ _ _ (by with_reducible assumption) (by with_reducible assumption) (by with_reducible assumption) _).mono ?_; rintro e w' ⟨rfl, rfl⟩)
    | (go_at_call 18; refine (lessEq_is _ _ _ (by with_reducible assumption) (by with_reducible assumption) (by with_reducible assumption) _).mono ?_; rintro e w' ⟨rfl, rfl⟩))
  go_ret
  exact ⟨rfl, hg⟩

theorem bw_Xeyzz (a b c N KA KB Y Z V T CA CB : Int) (ha : U a) (hb : U b) (hc : U c) (hN : U N) (hn : nextS a = N) (za : canonS a = KA) (zb : canonS b = KB) (xbc : cmpS b c = Y) (xac : cmpS a c = Z) (xan : cmpS a N = V) (xnb : cmpS N b = T) (xab : cmpS a b = 0) (xba : cmpS b a = 0) (hY : Y ≤ 0) (hZ : ¬ 0 < Z) (hV : V = -1) (hk : KA = KB) (ca : classS a = 3) (cb : classS b = 3) (hl : lessS a b = false) (he : eqS a b = true) (w : World) :
    Calls Tryd.prog 4 #[.int .u64 a, .int .u64 b, .int .u64 c] w fun e w' => e = .returned (.bool true) ∧ Grown w w' := by
  go_enter Tryd.func4, Tryd.ntmps4
  go_wp2_with (first
    | (go_at_call 15; refine (compare_is _ _ _ (by with_reducible assumption) (by with_reducible assumption) (by with_reducible assumption) _).mono ?_; rintro e w' ⟨rfl, rfl⟩)
    | (go_at_call 16; refine (canon_is _ _ (by with_reducible assumption) (by with_reducible assumption) _).mono ?_; rintro e w' ⟨rfl, rfl⟩)
    | (go_at_call 11; refine (class_is _ _ (by with_reducible assumption) (by with_reducible assumption) _).mono ?_; rintro e w' ⟨rfl, rfl⟩)
    | (go_at_call 10; refine (alive_any _).mono ?_; rintro e w' ⟨rfl, hg⟩)
    | (go_at_call 17; refine (next_is _ _ (by with_reducible assumption) (by with_reducible assumption) _).mono ?_; rintro e w' ⟨rfl, rfl⟩)
    | (go_at_call 13; refine (less_is _ _ _ (by with_reducible assumption) (by with_reducible assumption) (by with_reducible assumption) _).mono ?_; rintro e w' ⟨rfl, rfl⟩)
    | (go_at_call 12; refine (equal_is _ _ _ (by with_reducible assumption) (by with_reducible assumption) (by with_reducible assumption) _).mono ?_; rintro e w' ⟨rfl, rfl⟩)
    | (go_at_call 18; refine (lessEq_is _ _ _ (by with_reducible assumption) (by with_reducible assumption) (by with_reducible assumption) _).mono ?_; rintro e w' ⟨rfl, rfl⟩))
  go_ret
  exact ⟨rfl, hg⟩

theorem bw_Xeyzo (a b c N KA KB Y Z V T CA CB : Int) (ha : U a) (hb : U b) (hc : U c) (hN : U N) (hn : nextS a = N) (za : canonS a = KA) (zb : canonS b = KB) (xbc : cmpS b c = Y) (xac : cmpS a c = Z) (xan : cmpS a N = V) (xnb : cmpS N b = T) (xab : cmpS a b = 0) (xba : cmpS b a = 0) (hY : Y ≤ 0) (hZ : ¬ 0 < Z) (hV : V = -1) (hk : KA = KB) (ca : classS a = 3) (cb : classS b = CB) (hCB : (CB == 1) = false) (hCB3 : (CB == 3) = false) (hl : lessS a b = false) (he : eqS a b = true) (w : World) :
    Calls Tryd.prog 4 #[.int .u64 a, .int .u64 b, .int .u64 c] w fun e w' => e = .returned (.bool true) ∧ Grown w w' := by
  go_enter Tryd.func4, Tryd.ntmps4
  go_wp2_with (first
    | (go_at_call 15; refine (compare_is _ _ _ (by with_reducible assumption) (by with_reducible assumption) (by with_reducible assumption) _).mono ?_; rintro e w' ⟨rfl, rfl⟩)
    | (go_at_call 16; refine (canon_is _ _ (by with_reducible assumption) (by with_reducible assumption) _).mono ?_; rintro e w' ⟨rfl, rfl⟩)
    | (go_at_call 11; refine (class_is _ _ (by with_reducible assumption) (by with_reducible assumption) _).mono ?_; rintro e w' ⟨rfl, rfl⟩)
    | (go_at_call 10; refine (alive_any _).mono ?_; rintro e w' ⟨rfl, hg⟩)
    | (go_at_call 17; refine (next_is _ _ (by with_reducible assumption) (by with_reducible assumption) _).mono ?_; rintro e w' ⟨rfl, rfl⟩)
    | (go_at_call 13; refine (less_is _ _ _ (by with_reducible assumption) (by with_reducible assumption) (by with_reducible assumption) _).mono ?_; rintro e w' ⟨rfl, rfl⟩)
    | (go_at_call 12; refine (equal_is _ _ _ (by with_reducible assumption) (by with_reducible assumption) (by with_reducible assumption) _).mono ?_; rintro e w' ⟨rfl, rfl⟩)
    | (go_at_call 18; refine (lessEq_is _ _ _ (by with_reducible assumption) (by with_reducible assumption) (by with_reducible assumption) _).mono ?_; rintro e w' ⟨rfl, rfl⟩))
  go_ret
  exact ⟨rfl, hg⟩

theorem bw_Xeyo (a b c N KA KB Y Z V T CA CB : Int) (ha : U a) (hb : U b) (hc : U c) (hN : U N) (hn : nextS a = N) (za : canonS a = KA) (zb : canonS b = KB) (xbc : cmpS b c = Y) (xac : cmpS a c = Z) (xan : cmpS a N = V) (xnb : cmpS N b = T) (xab : cmpS a b = 0) (xba : cmpS b a = 0) (hY : Y ≤ 0) (hZ : ¬ 0 < Z) (hV : V = -1) (hk : KA = KB) (ca : classS a = CA) (hCA : (CA == 1) = false) (hCA2 : (CA != 1) = true) (hCA3 : (CA == 3) = false) (cb : classS b = CB) (hCB : (CB == 1) = false) (hl : lessS a b = false) (he : eqS a b = true) (w : World) :
    Calls Tryd.prog 4 #[.int .u64 a, .int .u64 b, .int .u64 c] w fun e w' => e = .returned (.bool true) ∧ Grown w w' := by
  go_enter Tryd.func4, Tryd.ntmps4
  go_wp2_with (first
    | (go_at_call 15; refine (compare_is _ _ _ (by with_reducible assumption) (by with_reducible assumption) (by with_reducible assumption) _).mono ?_; rintro e w' ⟨rfl, rfl⟩)
    | (go_at_call 16; refine (canon_is _ _ (by with_reducible assumption) (by with_reducible assumption) _).mono ?_; rintro e w' ⟨rfl, rfl⟩)
    | (go_at_call 11; refine (class_is _ _ (by with_reducible assumption) (by with_reducible assumption) _).mono ?_; rintro e w' ⟨rfl, rfl⟩)
    | (go_at_call 10; refine (alive_any _).mono ?_; rintro e w' ⟨rfl, hg⟩)
    | (go_at_call 17; refine (next_is _ _ (by with_reducible assumption) (by with_reducible assumption) _).mono ?_; rintro e w' ⟨rfl, rfl⟩)
    | (go_at_call 13; refine (less_is _ _ _ (by with_reducible assumption) (by with_reducible assumption) (by with_reducible assumption) _).mono ?_; rintro e w' ⟨rfl, rfl⟩)
    | (go_at_call 12; refine (equal_is _ _ _ (by with_reducible assumption) (by with_reducible assumption) (by with_reducible assumption) _).mono ?_; rintro e w' ⟨rfl, rfl⟩)
    | (go_at_call 18; refine (lessEq_is _ _ _ (by with_reducible assumption) (by with_reducible assumption) (by with_reducible assumption) _).mono ?_; rintro e w' ⟨rfl, rfl⟩))
  go_ret
  exact ⟨rfl, hg⟩

theorem bw_Xenzz (a b c N KA KB Y Z V T CA CB : Int) (ha : U a) (hb : U b) (hc : U c) (hN : U N) (hn : nextS a = N) (za : canonS a = KA) (zb : canonS b = KB) (xbc : cmpS b c = Y) (xac : cmpS a c = Z) (xan : cmpS a N = V) (xnb : cmpS N b = T) (xab : cmpS a b = 0) (xba : cmpS b a = 0) (hY : ¬ Y ≤ 0) (hV : V = -1) (hk : KA = KB) (ca : classS a = 3) (cb : classS b = 3) (hl : lessS a b = false) (he : eqS a b = true) (w : World) :
    Calls Tryd.prog 4 #[.int .u64 a, .int .u64 b, .int .u64 c] w fun e w' => e = .returned (.bool true) ∧ Grown w w' := by
  go_enter Tryd.func4, Tryd.ntmps4
  go_wp2_with (first
    | (go_at_call 15; refine (compare_is _ _ _ (by with_reducible assumption) (by with_reducible assumption) (by with_reducible assumption) _).mono ?_; rintro e w' ⟨rfl, rfl⟩)
    | (go_at_call 16; refine (canon_is _ _ (by with_reducible assumption) (by with_reducible assumption) _).mono ?_; rintro e w' ⟨rfl, rfl⟩)
    | (go_at_call 11; refine (class_is _ _ (by with_reducible assumption) (by with_reducible assumption) _).mono ?_; rintro e w' ⟨rfl, rfl⟩)
    | (go_at_call 10; refine (alive_any _).mono ?_; rintro e w' ⟨rfl, hg⟩)
    | (go_at_call 17; refine (next_is _ _ (by with_reducible assumption) (by with_reducible assumption) _).mono ?_; rintro e w' ⟨rfl, rfl⟩)
    | (go_at_call 13; refine (less_is _ _ _ (by with_reducible assumption) (by with_reducible assumption) (by with_reducible assumption) _).mono ?_; rintro e w' ⟨rfl, rfl⟩)
    | (go_at_call 12; refine (equal_is _ _ _ (by with_reducible assumption) (by with_reducible assumption) (by with_reducible assumption) _).mono ?_; rintro e w' ⟨rfl, rfl⟩)
    | (go_at_call 18; refine (lessEq_is _ _ _ (by with_reducible assumption) (by with_reducible assumption) (by with_reducible assumption) _).mono ?_; rintro e w' ⟨rfl, rfl⟩))
  go_ret
  exact ⟨rfl, hg⟩

theorem bw_Xenzo (a b c N KA KB Y Z V T CA CB : Int) (ha : U a) (hb : U b) (hc : U c) (hN : U N) (hn : nextS a = N) (za : canonS a = KA) (zb : canonS b = KB) (xbc : cmpS b c = Y) (xac : cmpS a c = Z) (xan : cmpS a N = V) (xnb : cmpS N b = T) (xab : cmpS a b = 0) (xba : cmpS b a = 0) (hY : ¬ Y ≤ 0) (hV : V = -1) (hk : KA = KB) (ca : classS a = 3) (cb : classS b = CB) (hCB : (CB == 1) = false) (hCB3 : (CB == 3) = false) (hl : lessS a b = false) (he : eqS a b = true) (w : World) :
    Calls Tryd.prog 4 #[.int .u64 a, .int .u64 b, .int .u64 c] w fun e w' => e = .returned (.bool true) ∧ Grown w w' := by
  go_enter Tryd.func4, Tryd.ntmps4
  go_wp2_with (first
    | (go_at_call 15; refine (compare_is _ _ _ (by with_reducible assumption) (by with_reducible assumption) (by with_reducible assumption) _).mono ?_; rintro e w' ⟨rfl, rfl⟩)
    | (go_at_call 16; refine (canon_is _ _ (by with_reducible assumption) (by with_reducible assumption) _).mono ?_; rintro e w' ⟨rfl, rfl⟩)
    | (go_at_call 11; refine (class_is _ _ (by with_reducible assumption) (by with_reducible assumption) _).mono ?_; rintro e w' ⟨rfl, rfl⟩)
    | (go_at_call 10; refine (alive_any _).mono ?_; rintro e w' ⟨rfl, hg⟩)
    | (go_at_call 17; refine (next_is _ _ (by with_reducible assumption) (by with_reducible assumption) _).mono ?_; rintro e w' ⟨rfl, rfl⟩)
    | (go_at_call 13; refine (less_is _ _ _ (by with_reducible assumption) (by with_reducible assumption) (by with_reducible assumption) _).mono ?_; rintro e w' ⟨rfl, rfl⟩)
    | (go_at_call 12; refine (equal_is _ _ _ (by with_reducible assumption) (by with_reducible assumption) (by with_reducible assumption) _).mono ?_; rintro e w' ⟨rfl, rfl⟩)
    | (go_at_call 18; refine (lessEq_is _ _ _ (by with_reducible assumption) (by with_reducible assumption) (by with_reducible assumption) _).mono ?_; rintro e w' ⟨rfl, rfl⟩))
  go_ret
  exact ⟨rfl, hg⟩

theorem bw_Xeno (a b c N KA KB Y Z V T CA CB : Int) (ha : U a) (hb : U b) (hc : U c) (hN : U N) (hn : nextS a = N) (za : canonS a = KA) (zb : canonS b = KB) (xbc : cmpS b c = Y) (xac : cmpS a c = Z) (xan : cmpS a N = V) (xnb : cmpS N b = T) (xab : cmpS a b = 0) (xba : cmpS b a = 0) (hY : ¬ Y ≤ 0) (hV : V = -1) (hk : KA = KB) (ca : classS a = CA) (hCA : (CA == 1) = false) (hCA2 : (CA != 1) = true) (hCA3 : (CA == 3) = false) (cb : classS b = CB) (hCB : (CB == 1) = false) (hl : lessS a b = false) (he : eqS a b = true) (w : World) :
    Calls Tryd.prog 4 #[.int .u64 a, .int .u64 b, .int .u64 c] w fun e w' => e = .returned (.bool true) ∧ Grown w w' := by
  go_enter Tryd.func4, Tryd.ntmps4
  go_wp2_with (first
    | (go_at_call 15; refine (compare_is _ _ _ (by with_reducible assumption) (by with_reducible assumption) (by with_reducible assumption) _).mono ?_; rintro e w' ⟨rfl, rfl⟩)
    | (go_at_call 16; refine (canon_is _ _ (by with_reducible assumption) (by with_reducible assumption) _).mono ?_; rintro e w' ⟨rfl, rfl⟩)
    | (go_at_call 11; refine (class_is _ _ (by with_reducible assumption) (by with_reducible assumption) _).mono ?_; rintro e w' ⟨rfl, rfl⟩)
    | (go_at_call 10; refine (alive_any _).mono ?_; rintro e w' ⟨rfl, hg⟩)
    | (go_at_call 17; refine (next_is _ _ (by with_reducible assumption) (by with_reducible assumption) _).mono ?_; rintro e w' ⟨rfl, rfl⟩)
    | (go_at_call 13; refine (less_is _ _ _ (by with_reducible assumption) (by with_reducible assumption) (by with_reducible assumption) _).mono ?_; rintro e w' ⟨rfl, rfl⟩)
    | (go_at_call 12; refine (equal_is _ _ _ (by with_reducible assumption) (by with_reducible assumption) (by with_reducible assumption) _).mono ?_; rintro e w' ⟨rfl, rfl⟩)
    | (go_at_call 18; refine (lessEq_is _ _ _ (by with_reducible assumption) (by with_reducible assumption) (by with_reducible assumption) _).mono ?_; rintro e w' ⟨rfl, rfl⟩))
  go_ret
  exact ⟨rfl, hg⟩

theorem bw_Xpzz (a b c N KA KB Y Z V T CA CB : Int) (ha : U a) (hb : U b) (hc : U c) (hN : U N) (hn : nextS a = N) (za : canonS a = KA) (zb : canonS b = KB) (xbc : cmpS b c = Y) (xac : cmpS a c = Z) (xan : cmpS a N = V) (xnb : cmpS N b = T) (xab : cmpS a b = 1) (xba : cmpS b a = -1)  (hV : V = -1) (ca : classS a = 3) (cb : classS b = 3) (hl : lessS a b = false) (he : eqS a b = true) (w : World) :
    Calls Tryd.prog 4 #[.int .u64 a, .int .u64 b, .int .u64 c] w fun e w' => e = .returned (.bool true) ∧ Grown w w' := by
  go_enter Tryd.func4, Tryd.ntmps4
  go_wp2_with (first
    | (go_at_call 15; refine (compare_is _ _ _ (by with_reducible assumption) (by with_reducible assumption) (by with_reducible assumption) _).mono ?_; rintro e w' ⟨rfl, rfl⟩)
    | (go_at_call 16; refine (canon_is _ _ (by with_reducible assumption) (by with_reducible assumption) _).mono ?_; rintro e w' ⟨rfl, rfl⟩)
    | (go_at_call 11; refine (class_is _ _ (by with_reducible assumption) (by with_reducible assumption) _).mono ?_; rintro e w' ⟨rfl, rfl⟩)
    | (go_at_call 10; refine (alive_any _).mono ?_; rintro e w' ⟨rfl, hg⟩)
    | (go_at_call 17; refine (next_is _ _ (by with_reducible assumption) (by with_reducible assumption) _).mono ?_; rintro e w' ⟨rfl, rfl⟩)
    | (go_at_call 13; refine (less_is _ _ _ (by with_reducible assumption) (by with_reducible assumption) (by with_reducible assumption) _).mono ?_; rintro e w' ⟨rfl, rfl⟩)
    | (go_at_call 12; refine (equal_is _ _ _ (by with_reducible assumption) (by with_reducible assumption) (by with_reducible assumption) _).mono ?_; rintro e w' ⟨rfl, rfl⟩)
    | (go_at_call 18; refine (lessEq_is _ _ _ (by with_reducible assumption) (by with_reducible assumption) (by with_reducible assumption) _).mono ?_; rintro e w' ⟨rfl, rfl⟩))
  go_ret
  exact ⟨rfl, hg⟩

theorem bw_Xpzo (a b c N KA KB Y Z V T CA CB : Int) (ha : U a) (hb : U b) (hc : U c) (hN : U N) (hn : nextS a = N) (za : canonS a = KA) (zb : canonS b = KB) (xbc : cmpS b c = Y) (xac : cmpS a c = Z) (xan : cmpS a N = V) (xnb : cmpS N b = T) (xab : cmpS a b = 1) (xba : cmpS b a = -1)  (hV : V = -1) (ca : classS a = 3) (cb : classS b = CB) (hCB : (CB == 1) = false) (hCB3 : (CB == 3) = false) (hl : lessS a b = false) (he : eqS a b = false) (w : World) :
    Calls Tryd.prog 4 #[.int .u64 a, .int .u64 b, .int .u64 c] w fun e w' => e = .returned (.bool true) ∧ Grown w w' := by
  go_enter Tryd.func4, Tryd.ntmps4
  go_wp2_with (first
    | (go_at_call 15; refine (compare_is _ _ _ (by with_reducible assumption) (by with_reducible assumption) (by with_reducible assumption) _).mono ?_; rintro e w' ⟨rfl, rfl⟩)
    | (go_at_call 16; refine (canon_is _ _ (by with_reducible assumption) (by with_reducible assumption) _).mono ?_; rintro e w' ⟨rfl, rfl⟩)
    | (go_at_call 11; refine (class_is _ _ (by with_reducible assumption) (by with_reducible assumption) _).mono ?_; rintro e w' ⟨rfl, rfl⟩)
    | (go_at_call 10; refine (alive_any _).mono ?_; rintro e w' ⟨rfl, hg⟩)
    | (go_at_call 17; refine (next_is _ _ (by with_reducible assumption) (by with_reducible assumption) _).mono ?_; rintro e w' ⟨rfl, rfl⟩)
    | (go_at_call 13; refine (less_is _ _ _ (by with_reducible assumption) (by with_reducible assumption) (by with_reducible assumption) _).mono ?_; rintro e w' ⟨rfl, rfl⟩)
    | (go_at_call 12; refine (equal_is _ _ _ (by with_reducible assumption) (by with_reducible assumption) (by with_reducible assumption) _).mono ?_; rintro e w' ⟨rfl, rfl⟩)
    | (go_at_call 18; refine (lessEq_is _ _ _ (by with_reducible assumption) (by with_reducible assumption) (by with_reducible assumption) _).mono ?_; rintro e w' ⟨rfl, rfl⟩))
  go_ret
  exact ⟨rfl, hg⟩

theorem bw_Xpo (a b c N KA KB Y Z V T CA CB : Int) (ha : U a) (hb : U b) (hc : U c) (hN : U N) (hn : nextS a = N) (za : canonS a = KA) (zb : canonS b = KB) (xbc : cmpS b c = Y) (xac : cmpS a c = Z) (xan : cmpS a N = V) (xnb : cmpS N b = T) (xab : cmpS a b = 1) (xba : cmpS b a = -1)  (hV : V = -1) (ca : classS a = CA) (hCA : (CA == 1) = false) (hCA2 : (CA != 1) = true) (hCA3 : (CA == 3) = false) (cb : classS b = CB) (hCB : (CB == 1) = false) (hl : lessS a b = false) (he : eqS a b = false) (w : World) :
    Calls Tryd.prog 4 #[.int .u64 a, .int .u64 b, .int .u64 c] w fun e w' => e = .returned (.bool true) ∧ Grown w w' := by
  go_enter Tryd.func4, Tryd.ntmps4
  go_wp2_with (first
    | (go_at_call 15; refine (compare_is _ _ _ (by with_reducible assumption) (by with_reducible assumption) (by with_reducible assumption) _).mono ?_; rintro e w' ⟨rfl, rfl⟩)
    | (go_at_call 16; refine (canon_is _ _ (by with_reducible assumption) (by with_reducible assumption) _).mono ?_; rintro e w' ⟨rfl, rfl⟩)
    | (go_at_call 11; refine (class_is _ _ (by with_reducible assumption) (by with_reducible assumption) _).mono ?_; rintro e w' ⟨rfl, rfl⟩)
    | (go_at_call 10; refine (alive_any _).mono ?_; rintro e w' ⟨rfl, hg⟩)
    | (go_at_call 17; refine (next_is _ _ (by with_reducible assumption) (by with_reducible assumption) _).mono ?_; rintro e w' ⟨rfl, rfl⟩)
    | (go_at_call 13; refine (less_is _ _ _ (by with_reducible assumption) (by with_reducible assumption) (by with_reducible assumption) _).mono ?_; rintro e w' ⟨rfl, rfl⟩)
    | (go_at_call 12; refine (equal_is _ _ _ (by with_reducible assumption) (by with_reducible assumption) (by with_reducible assumption) _).mono ?_; rintro e w' ⟨rfl, rfl⟩)
    | (go_at_call 18; refine (lessEq_is _ _ _ (by with_reducible assumption) (by with_reducible assumption) (by with_reducible assumption) _).mono ?_; rintro e w' ⟨rfl, rfl⟩))
  go_ret
  exact ⟨rfl, hg⟩

end Go.Proofs.YtfegnjpajflnkabDoor
