/- What the document's Parse answers, for any text: the same. -/
import Derived.Test.YtfegnjpajflnkaaDoorRRead
namespace Go.Proofs.YtfegnjpajflnkaaDoor
open Go.RowKit Fl
set_option linter.unusedSimpArgs false
set_option linter.unusedVariables false

theorem good_nan : Good [110, 97, 110] 9221120237041090561 := good_special _ _ rfl ⟨by omega, by omega⟩
theorem good_inf : Good [105, 110, 102] 9218868437227405312 := good_special _ _ rfl ⟨by omega, by omega⟩
theorem good_ninf : Good [45, 105, 110, 102] 18442240474082181120 := good_special _ _ rfl ⟨by omega, by omega⟩
theorem good_nzero : Good [45, 48, 120, 48, 112, 43, 48] 9223372036854775808 := good_special _ _ rfl ⟨by omega, by omega⟩
set_option maxRecDepth 20000 in
theorem read_any (s : List UInt8) (hl : s.length ≤ 9223372036854775807) (w : World) :
    Calls Tryd.prog 59 #[.string ⟨s.toArray⟩] w fun e w' => ∃ v, e = .returned (.int .u64 v) ∧ Good s v ∧ w = w' := by
  by_cases h1 : s = [110, 97, 110]
  · subst h1
    go_enter Tryd.func59, Tryd.ntmps59
    go_wp2
    go_ret
    exact ⟨_, rfl, good_nan, rfl⟩
  by_cases h2 : s = [105, 110, 102]
  · subst h2
    go_enter Tryd.func59, Tryd.ntmps59
    go_wp2
    go_ret
    exact ⟨_, rfl, good_inf, rfl⟩
  by_cases h3 : s = [45, 105, 110, 102]
  · subst h3
    go_enter Tryd.func59, Tryd.ntmps59
    go_wp2
    go_ret
    exact ⟨_, rfl, good_ninf, rfl⟩
  by_cases h4 : s = [45, 48, 120, 48, 112, 43, 48]
  · subst h4
    go_enter Tryd.func59, Tryd.ntmps59
    go_wp2
    go_ret
    exact ⟨_, rfl, good_nzero, rfl⟩
  have k1 : (s == [110, 97, 110]) = false := by simpa using h1
  have k2 : (s == [105, 110, 102]) = false := by simpa using h2
  have k3 : (s == [45, 105, 110, 102]) = false := by simpa using h3
  have k4 : (s == [45, 48, 120, 48, 112, 43, 48]) = false := by simpa using h4
  have key := text_form s _ _ k1 k2 k3 k4 rfl rfl
  refine read_walk s (Lib.trimPrefix s [45]) (Lib.hasPrefix s [45]) hl k1 k2 k3 k4 (sign_split s) ?_ ?_ w
  · intro hno
    refine ⟨⟨by omega, by omega⟩, fun a ha e => ?_⟩
    rcases key a ha e with ⟨z, _⟩ | ⟨F, E, f, _⟩
    · exact z.symm
    · exact absurd f (hno F E)
  · intro v hv htk hf
    refine ⟨hv, fun a ha e => ?_⟩
    rcases key a ha e with ⟨_, z⟩ | ⟨F, E, f, g⟩
    · rw [z] at htk
      exact absurd htk (by decide)
    · rw [g]
      exact hf F E f

theorem parse_good (s : List UInt8) (v : Int) (g : Good s v) : parseS s = if textS v == s then (v, 0) else (0, 10) := by
  by_cases h : textS v = s
  · have e : (textS v == s) = true := by simpa using h
    have h2 := g.2 v g.1 h
    rw [if_pos e, ← h, parse_text v g.1, ← h2]
  · have e : (textS v == s) = false := by simpa using h
    rw [if_neg (by rw [e]; simp)]
    unfold parseS
    generalize hx : signed_ (Lib.hasPrefix s [45]) (rsS (Lib.trimPrefix s [45])).1 = x
    have hxU : U x := by
      rw [← hx]
      unfold signed_
      split
      · exact neg_U _ (rs_U _)
      · exact rs_U _
    by_cases hq : textS x = s
    · have h2 := g.2 x hxU hq
      exfalso
      apply h
      rw [h2, text_canon x hxU, hq]
    · have e2 : (textS x == s) = false := by simpa using hq
      rw [e2, Bool.and_false]
      rfl

theorem rparse_walk (s : List UInt8) (P : Int × Int → Prop) (hP : Hidden (∀ v, Good s v → P (if textS v == s then (v, 0) else (0, 10)))) (hl : s.length ≤ 9223372036854775807) (w : World) :
    Calls Tryd.prog 41 #[.string ⟨s.toArray⟩] w fun r w' => ∃ a e, P (a, e) ∧ r = .returned (.tuple #[.int .u64 a, .int .i64 e]) ∧ Kb w w' := by
  have k1 := read_any s hl
  go_enter Tryd.func41, Tryd.ntmps41
  go_wp2_with (first
    | (go_at_call 59; refine (k1 _).mono ?_; rintro e w' ⟨v, rfl, g, rfl⟩; have kt := rtext_any v g.1; have hPv := (show ∀ v, Good s v → P _ from hP) v g; generalize textS v = T at kt hPv; have hPH : Hidden (P (if T == s then (v, 0) else (0, 10))) := hPv; clear hPv)
    | (go_at_call 22; refine (kt _).mono ?_; rintro e w' ⟨rfl, g2⟩))
  · go_ret2
    rename_i hq
    have hq' : (T == s) = false := by simpa using hq
    have hP2 : P (if T == s then (v, 0) else (0, 10)) := hPH
    rw [hq'] at hP2
    exact ⟨0, 10, hP2, rfl, g2⟩
  · go_ret2
    rename_i hq
    have hq' : (T == s) = true := by simpa using hq
    have hP2 : P (if T == s then (v, 0) else (0, 10)) := hPH
    rw [hq'] at hP2
    exact ⟨v, 0, hP2, rfl, g2⟩

theorem rparse_any (s : List UInt8) (a e : Int) (h : parseS s = (a, e)) (hl : s.length ≤ 9223372036854775807) (w : World) :
    Calls Tryd.prog 41 #[.string ⟨s.toArray⟩] w fun r w' => r = .returned (.tuple #[.int .u64 a, .int .i64 e]) ∧ Kb w w' := by
  refine (rparse_walk s (fun p => p = (a, e)) (fun v g => by rw [← parse_good s v g]; exact h) hl w).mono ?_
  rintro r w' ⟨a', e', hp, rfl, g⟩
  cases hp
  exact ⟨rfl, g⟩
end Go.Proofs.YtfegnjpajflnkaaDoor
