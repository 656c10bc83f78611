/- Find and Right, and the document's. -/
import Derived.Test.YtajefmmggefbeaaNmName
namespace Go.Proofs.Ytajefmmggefbeaa
open Go.RowKit Go.Sort
set_option linter.unusedSimpArgs false
set_option linter.unusedVariables false

/-- The least place of s, from a place on. -/
def idxGo (s : Str) : List Str → Nat → Int
  | [], _ => -1
  | x :: r, i => if x = s then (i : Int) else idxGo s r (i + 1)
def findGo (s : Str) : List Str → Nat → Int × Bool
  | [], _ => (0, false)
  | x :: r, i => if x = s then ((i : Int), true) else findGo s r (i + 1)
def findS (l : List Str) (s : Str) : Int × Bool := findGo s l 0
theorem findGo_spec (s : Str) : ∀ (l : List Str) (i : Nat), (s ∉ l ∧ findGo s l i = (0, false) ∧ idxGo s l i = -1) ∨ ∃ k : Nat, l[k]? = some s ∧ findGo s l i = (((i + k : Nat) : Int), true) ∧ idxGo s l i = ((i + k : Nat) : Int)
  | [], i => Or.inl ⟨by simp, rfl, rfl⟩
  | x :: r, i => by
    unfold findGo idxGo
    by_cases h : x = s
    · rw [if_pos h, if_pos h]
      exact Or.inr ⟨0, by simp [h], by simp, by simp⟩
    · rw [if_neg h, if_neg h]
      rcases findGo_spec s r (i + 1) with ⟨h1, h2, h3⟩ | ⟨k, h1, h2, h3⟩
      · exact Or.inl ⟨by simp [h1, Ne.symm h], h2, h3⟩
      · exact Or.inr ⟨k + 1, by simpa using h1, by rw [h2]; congr 2; omega, by rw [h3]; congr 1; omega⟩
theorem findS_spec (l : List Str) (s : Str) : (s ∉ l ∧ findS l s = (0, false) ∧ idxGo s l 0 = -1) ∨ ∃ k : Nat, l[k]? = some s ∧ findS l s = ((k : Int), true) ∧ idxGo s l 0 = (k : Int) := by
  have := findGo_spec s l 0
  simp only [Nat.zero_add] at this
  exact this
theorem findS_mem (l : List Str) (s : Str) : (findS l s).2 = decide (s ∈ l) := by
  rcases findS_spec l s with ⟨h1, h2, _⟩ | ⟨k, h1, h2, _⟩
  · rw [h2]; simp [h1]
  · rw [h2, decide_eq_true (List.mem_of_getElem? h1)]

set_option maxHeartbeats 400000 in
theorem rfind_walk (ao : Option Addr) (n cap : Nat) (l : List Str) (s : Str) (R : Int × Bool) (w : World) (hn : Hidden (l.length = n)) (h1 : n ≤ cap) (h2 : cap ≤ 9223372036854775807)
    (ha : Hidden (l = [] ∨ ∃ b off, ao = some ⟨b, off, none⟩ ∧ ∀ (i : Nat) (x : Str), l[i]? = some x → w.cell? ⟨b, off + i, none⟩ = some (encStr x))) (hR : Hidden (findGo s l 0 = R)) :
    Calls Try.prog 59 #[.slice ao n cap, .string ⟨s.toArray⟩] w fun e w' => e = .returned (.tuple #[.int .i64 R.1, .bool R.2]) ∧ w' = w := by
  go_enter Try.func59, Try.ntmps59
  go_wp2
  go_loopg [6] n (fun k iv wr => ∃ j : Nat, iv = .int .i64 (j : Int) ∧ j ≤ n ∧ k = n - j ∧ wr = w ∧ findGo s (l.drop j) j = R)
  case atStart => exact ⟨0, rfl, by omega, rfl, rfl, hR⟩
  case round =>
    obtain ⟨j, rfl, hj, hk, rfl, hf⟩ := hrel
    have hkH : Hidden (gk = n - j) := hk
    have hn' : l.length = n := hn
    clear hk hR
    by_cases hjl : j < n
    · obtain ⟨x, hx⟩ : ∃ x, l[j]? = some x := ⟨l[j], List.getElem?_eq_getElem (by omega)⟩
      rcases (show l = [] ∨ _ from ha) with h0 | ⟨b, o, rfl, hc⟩
      · rw [h0] at hx; simp at hx
      have c1 := hc j x hx
      rw [drop_at hx, findGo] at hf
      clear hc hn' hx
      by_cases hxs : x = s
      · subst hxs
        rw [if_pos rfl] at hf
        subst hf
        go_wp2
        go_ret2
        exact ⟨rfl, rfl⟩
      · rw [if_neg hxs] at hf
        have hne : (x == s) = false := beq_eq_false_iff_ne.2 hxs
        have hfH : Hidden (findGo s (l.drop (j + 1)) (j + 1) = R) := hf
        clear hf hxs
        go_wp2
        go_roundg (n - (j + 1))
        case measure => have := (show gk = n - j from hkH); omega
        case rel => exact ⟨j + 1, by go_num, by omega, rfl, rfl, hfH⟩
    · obtain rfl : j = n := by omega
      rw [List.drop_eq_nil_of_le (by omega)] at hf
      obtain rfl : (0, false) = R := hf
      clear hn'
      go_wp2
      go_ret2
      exact ⟨rfl, rfl⟩
theorem rfind_any (v : Value) (l : List Str) (s : Str) (R : Int × Bool) (hR : findS l s = R) (w : World) (h : Tl w v l) :
    Calls Try.prog 59 #[v, .string ⟨s.toArray⟩] w fun e w' => e = .returned (.tuple #[.int .i64 R.1, .bool R.2]) ∧ w' = w := by
  obtain ⟨ao, cap, rfl, h1, h2, h3, h4⟩ := h
  exact rfind_walk ao _ cap l s R w rfl h1 h2 h4 hR
set_option maxHeartbeats 400000 in
theorem index_walk (ao : Option Addr) (n cap : Nat) (l : List Str) (s : Str) (R : Int) (w : World) (hn : Hidden (l.length = n)) (h1 : n ≤ cap) (h2 : cap ≤ 9223372036854775807)
    (ha : Hidden (l = [] ∨ ∃ b off, ao = some ⟨b, off, none⟩ ∧ ∀ (i : Nat) (x : Str), l[i]? = some x → w.cell? ⟨b, off + i, none⟩ = some (encStr x))) (hR : Hidden (idxGo s l 0 = R)) :
    Calls Try.prog 63 #[.slice ao n cap, .string ⟨s.toArray⟩] w fun e w' => e = .returned (.int .i64 R) ∧ w' = w := by
  go_enter Try.func63, Try.ntmps63
  go_wp2
  go_loopg [8] n (fun k iv wr => ∃ j : Nat, iv = .int .i64 (j : Int) ∧ j ≤ n ∧ k = n - j ∧ wr = w ∧ idxGo s (l.drop j) j = R)
  case atStart => exact ⟨0, rfl, by omega, rfl, rfl, hR⟩
  case round =>
    obtain ⟨j, rfl, hj, hk, rfl, hf⟩ := hrel
    have hkH : Hidden (gk = n - j) := hk
    have hn' : l.length = n := hn
    clear hk hR
    by_cases hjl : j < n
    · obtain ⟨x, hx⟩ : ∃ x, l[j]? = some x := ⟨l[j], List.getElem?_eq_getElem (by omega)⟩
      rcases (show l = [] ∨ _ from ha) with h0 | ⟨b, o, rfl, hc⟩
      · rw [h0] at hx; simp at hx
      have c1 := hc j x hx
      rw [drop_at hx, idxGo] at hf
      clear hc hn' hx
      by_cases hxs : x = s
      · subst hxs
        rw [if_pos rfl] at hf
        subst hf
        go_wp2
        go_ret
        exact ⟨rfl, rfl⟩
      · rw [if_neg hxs] at hf
        have hne : (s == x) = false := beq_eq_false_iff_ne.2 (Ne.symm hxs)
        have hfH : Hidden (idxGo s (l.drop (j + 1)) (j + 1) = R) := hf
        clear hf hxs
        go_wp2
        go_roundg (n - (j + 1))
        case measure => have := (show gk = n - j from hkH); omega
        case rel => exact ⟨j + 1, by go_num, by omega, rfl, rfl, hfH⟩
    · obtain rfl : j = n := by omega
      rw [List.drop_eq_nil_of_le (by omega)] at hf
      obtain rfl : -1 = R := hf
      clear hn'
      go_wp2
      go_ret
      exact ⟨rfl, rfl⟩
theorem find_any (v : Value) (l : List Str) (s : Str) (R : Int × Bool) (hR : findS l s = R) (w : World) (h : Tl w v l) :
    Calls Try.prog 35 #[v, .string ⟨s.toArray⟩] w fun e w' => e = .returned (.tuple #[.int .i64 R.1, .bool R.2]) ∧ w' = w := by
  obtain ⟨ao, cap, rfl, h1, h2, h3, h4⟩ := h
  have ki := index_walk ao _ cap l s _ w rfl h1 h2 h4 rfl
  rcases findS_spec l s with ⟨_, e1, e2⟩ | ⟨k, _, e1, e2⟩
  · rw [e2] at ki
    rw [e1] at hR
    subst hR
    obtain ⟨n, hn⟩ : ∃ n, l.length = n := ⟨_, rfl⟩
    rw [hn] at ki ⊢
    clear hn h1 h3 h4 e1 e2
    go_enter Try.func35, Try.ntmps35
    go_wp2_with (go_at_call 63; refine ki.mono ?_; rintro e w' ⟨rfl, rfl⟩)
    go_ret2
    exact ⟨rfl, rfl⟩
  · rw [e2] at ki
    rw [e1] at hR
    subst hR
    obtain ⟨n, hn⟩ : ∃ n, l.length = n := ⟨_, rfl⟩
    rw [hn] at ki ⊢
    clear hn h1 h3 h4 e1 e2
    go_enter Try.func35, Try.ntmps35
    go_wp2_with (go_at_call 63; refine ki.mono ?_; rintro e w' ⟨rfl, rfl⟩)
    go_ret2
    refine ⟨?_, rfl⟩
    have : max (k : Int) 0 = k := by omega
    simp [this]
theorem rreserved_any (s : Str) (r : Bool) (hr : decide (s ∈ wordsL) = r) (w : World) :
    Calls Try.prog 75 #[.string ⟨s.toArray⟩] w fun e w' => e = .returned (.bool r) ∧ Fr (fun _ => False) w w' := by
  have kf := rfind_any _ wordsL s _ rfl _ (Tn.words w).tl
  rw [← hr, ← findS_mem]
  go_enter Try.func75, Try.ntmps75
  go_wp2_with (first
    | (go_at_call 83; refine (rwords_any _).mono ?_; rintro e w' ⟨rfl, rfl⟩)
    | (go_at_call 59; refine kf.mono ?_; rintro e w' ⟨rfl, rfl⟩))
  go_ret
  exact ⟨rfl, Fr.alloc _ _ _⟩
/-- What Right answers. -/
def rightS (s : Str) : Int := if speltS s = true then (if 32 < s.length then 3 else if s ∈ wordsL then 12 else 0) else 12

theorem right_any (s : Str) (r : Int) (hr : rightS s = r) (hl : s.length ≤ 9223372036854775807) (w : World) :
    Calls Try.prog 81 #[.string ⟨s.toArray⟩] w fun e w' => e = .returned (.int .i64 r) ∧ w' = w := by
  have ks := spelt_any s _ rfl hl
  have hs := str_len s
  unfold rightS at hr
  cases hsp : speltS s
  · rw [hsp] at ks hr
    simp only [Bool.false_eq_true, if_false] at hr
    subst hr
    clear hsp
    go_enter Try.func81, Try.ntmps81
    go_wp2_with (go_at_call 95; refine (ks _).mono ?_; rintro e w' ⟨rfl, rfl⟩)
    go_ret
    exact ⟨rfl, rfl⟩
  · rw [hsp] at ks hr
    rw [if_pos rfl] at hr
    clear hsp
    by_cases h32 : 32 < s.length
    · rw [if_pos h32] at hr
      subst hr
      go_enter Try.func81, Try.ntmps81
      go_wp2_with (go_at_call 95; refine (ks _).mono ?_; rintro e w' ⟨rfl, rfl⟩)
      go_ret
      exact ⟨rfl, rfl⟩
    · rw [if_neg h32] at hr
      have kr := reserved_any s _ rfl
      by_cases hw : s ∈ wordsL
      · rw [if_pos hw] at hr
        rw [decide_eq_true hw] at kr
        subst hr
        clear hw
        go_enter Try.func81, Try.ntmps81
        go_wp2_with (first | (go_at_call 95; refine (ks _).mono ?_; rintro e w' ⟨rfl, rfl⟩) | (go_at_call 96; refine (kr _).mono ?_; rintro e w' ⟨rfl, rfl⟩))
        go_ret
        exact ⟨rfl, rfl⟩
      · rw [if_neg hw] at hr
        rw [decide_eq_false hw] at kr
        subst hr
        clear hw
        go_enter Try.func81, Try.ntmps81
        go_wp2_with (first | (go_at_call 95; refine (ks _).mono ?_; rintro e w' ⟨rfl, rfl⟩) | (go_at_call 96; refine (kr _).mono ?_; rintro e w' ⟨rfl, rfl⟩))
        go_ret
        exact ⟨rfl, rfl⟩
end Go.Proofs.Ytajefmmggefbeaa
