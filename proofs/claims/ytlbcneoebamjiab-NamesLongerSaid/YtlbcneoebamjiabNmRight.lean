/- Find and Right, and the document's. -/
import Derived.Test.YtlbcneoebamjiabNmName
namespace Go.Proofs.Ytlbcneoebamjiab
open Go.RowKit Go.Sort
set_option linter.unusedSimpArgs false
set_option linter.unusedVariables false

/-- The least place of s, from a place on. -/
def idxGo (s : Str) : List Str → Nat → Int
  | [], _ => -1
  | x :: r, i => if x = s then (i : Int) else idxGo s r (i + 1)
def findGo (s : Str) : List Str → Nat → Int × Bool
  | [], _ => (0, false)
  | x :: r, i => if x = s then ((i : Int), true) else findGo s r (i + 1)
def findS (l : List Str) (s : Str) : Int × Bool := findGo s l 0
theorem findGo_spec (s : Str) : ∀ (l : List Str) (i : Nat), (s ∉ l ∧ findGo s l i = (0, false) ∧ idxGo s l i = -1) ∨ ∃ k : Nat, l[k]? = some s ∧ findGo s l i = (((i + k : Nat) : Int), true) ∧ idxGo s l i = ((i + k : Nat) : Int)
  | [], i => Or.inl ⟨by simp, rfl, rfl⟩
  | x :: r, i => by
    unfold findGo idxGo
    by_cases h : x = s
    · rw [if_pos h, if_pos h]
      exact Or.inr ⟨0, by simp [h], by simp, by simp⟩
    · rw [if_neg h, if_neg h]
      rcases findGo_spec s r (i + 1) with ⟨h1, h2, h3⟩ | ⟨k, h1, h2, h3⟩
      · exact Or.inl ⟨by simp [h1, Ne.symm h], h2, h3⟩
      · exact Or.inr ⟨k + 1, by simpa using h1, by rw [h2]; congr 2; omega, by rw [h3]; congr 1; omega⟩
theorem findS_spec (l : List Str) (s : Str) : (s ∉ l ∧ findS l s = (0, false) ∧ idxGo s l 0 = -1) ∨ ∃ k : Nat, l[k]? = some s ∧ findS l s = ((k : Int), true) ∧ idxGo s l 0 = (k : Int) := by
  have := findGo_spec s l 0
  simp only [Nat.zero_add] at this
  exact this
theorem findS_mem (l : List Str) (s : Str) : (findS l s).2 = decide (s ∈ l) := by
  rcases findS_spec l s with ⟨h1, h2, _⟩ | ⟨k, h1, h2, _⟩
  · rw [h2]; simp [h1]
  · rw [h2, decide_eq_true (List.mem_of_getElem? h1)]

/-- What Right answers. -/
def rightS (s : Str) : Int := if speltS s = true then (if 32 < s.length then 3 else if s ∈ wordsL then 12 else 0) else 12

theorem right_any (s : Str) (r : Int) (hr : rightS s = r) (hl : s.length ≤ 9223372036854775807) (w : World) :
    Calls Try.prog 7 #[.string ⟨s.toArray⟩] w fun e w' => e = .returned (.int .i64 r) ∧ w' = w := by
  have ks := spelt_any s _ rfl hl
  have hs := str_len s
  unfold rightS at hr
  cases hsp : speltS s
  · rw [hsp] at ks hr
    simp only [Bool.false_eq_true, if_false] at hr
    subst hr
    clear hsp
    go_enter Try.func7, Try.ntmps7
    go_wp2_with (go_at_call 14; refine (ks _).mono ?_; rintro e w' ⟨rfl, rfl⟩)
    go_ret
    exact ⟨rfl, rfl⟩
  · rw [hsp] at ks hr
    rw [if_pos rfl] at hr
    clear hsp
    by_cases h32 : 32 < s.length
    · rw [if_pos h32] at hr
      subst hr
      go_enter Try.func7, Try.ntmps7
      go_wp2_with (go_at_call 14; refine (ks _).mono ?_; rintro e w' ⟨rfl, rfl⟩)
      go_ret
      exact ⟨rfl, rfl⟩
    · rw [if_neg h32] at hr
      have kr := reserved_any s _ rfl
      by_cases hw : s ∈ wordsL
      · rw [if_pos hw] at hr
        rw [decide_eq_true hw] at kr
        subst hr
        clear hw
        go_enter Try.func7, Try.ntmps7
        go_wp2_with (first | (go_at_call 14; refine (ks _).mono ?_; rintro e w' ⟨rfl, rfl⟩) | (go_at_call 8; refine (kr _).mono ?_; rintro e w' ⟨rfl, rfl⟩))
        go_ret
        exact ⟨rfl, rfl⟩
      · rw [if_neg hw] at hr
        rw [decide_eq_false hw] at kr
        subst hr
        clear hw
        go_enter Try.func7, Try.ntmps7
        go_wp2_with (first | (go_at_call 14; refine (ks _).mono ?_; rintro e w' ⟨rfl, rfl⟩) | (go_at_call 8; refine (kr _).mono ?_; rintro e w' ⟨rfl, rfl⟩))
        go_ret
        exact ⟨rfl, rfl⟩
end Go.Proofs.Ytlbcneoebamjiab
