/- Line, of the program and of the document; the law LexLines. -/
import Derived.Test.YtdhiombagbiffaaDoorLxLive
namespace Go.Proofs.YtdhiombagbiffaaDoor
open Go.RowKit Lx
set_option linter.unusedSimpArgs false
set_option linter.unusedVariables false

def lnS : By → Nat → Nat → Nat → Nat × Nat
  | [], _, n, b => (n, b)
  | c :: r, i, n, b => if c = 10 then lnS r (i + 1) (n + 1) (i + 1) else lnS r (i + 1) n b
theorem take_at {l : By} {a j : Nat} {c : UInt8} (h : l[j]? = some c) (hja : j < a) : (l.take a).drop j = c :: (l.take a).drop (j + 1) := drop_at (by rw [List.getElem?_take, if_pos hja]; exact h)
theorem nl_no {c : UInt8} (h : c ≠ 10) : ((c.toNat : Int) == 10) = false := by
  rw [beq_eq_false_iff_ne]
  intro e
  exact h (UInt8.toNat_inj.1 (by simpa using (by omega : c.toNat = 10)))

set_option maxHeartbeats 400000 in
theorem line_walk (l : By) (i : Int) (a N B : Nat) (hl : l.length ≤ 9223372036854775800) (ha : a ≤ l.length) (hm : min (max i 0) (l.length : Int) = (a : Int)) (hN : Hidden (lnS (l.take a) 0 0 0 = (N, B))) (w : World) :
    Calls Tryd.prog 18 #[.string ⟨l.toArray⟩, .int .i64 i] w fun e w' => e = .returned (.tuple #[.int .i64 (N : Int), .int .i64 ((a : Int) - (B : Int))]) ∧ w' = w := by
  have hs := str_len l
  go_enter Tryd.func18, Tryd.ntmps18
  go_wp2
  go_loopg [6, 7, 15] a (fun k nv bv iv wr => ∃ j n b : Nat, nv = .int .i64 (n : Int) ∧ bv = .int .i64 (b : Int) ∧ iv = .int .i64 (j : Int) ∧ j ≤ a ∧ n ≤ j ∧ b ≤ j ∧ lnS ((l.take a).drop j) j n b = (N, B) ∧ k = a - j ∧ wr = w)
  case atStart => exact ⟨0, 0, 0, rfl, rfl, rfl, by omega, by omega, by omega, by rw [List.drop_zero]; exact hN, rfl, rfl⟩
  case round =>
    obtain ⟨j, n, b, rfl, rfl, rfl, hj, hnj, hbj, hf, hgk, rfl⟩ := hrel
    have hgkH : Hidden (gk = a - j) := hgk
    clear hgk hN
    by_cases hja : j < a
    · obtain ⟨c, hc⟩ : ∃ c, l[j]? = some c := ⟨l[j]'(by omega), List.getElem?_eq_getElem (by omega)⟩
      have hx := str_index l j c hc
      rw [take_at hc hja, lnS] at hf
      by_cases h10 : c = 10
      · rw [if_pos h10] at hf
        subst h10
        have hfH : Hidden (lnS ((l.take a).drop (j + 1)) (j + 1) (n + 1) (j + 1) = (N, B)) := hf
        clear hf hc
        go_wp2
        go_roundg (a - (j + 1))
        case measure =>
          have : gk = a - j := hgkH
          omega
        case rel => exact ⟨j + 1, n + 1, j + 1, by go_num, by go_num, by go_num, by omega, by omega, by omega, hfH, rfl, rfl⟩
      · rw [if_neg h10] at hf
        have h11 := nl_no h10
        have hfH : Hidden (lnS ((l.take a).drop (j + 1)) (j + 1) n b = (N, B)) := hf
        clear hf hc h10
        go_wp2
        go_roundg (a - (j + 1))
        case measure =>
          have : gk = a - j := hgkH
          omega
        case rel => exact ⟨j + 1, n, b, by go_num, by go_num, by go_num, by omega, by omega, by omega, hfH, rfl, rfl⟩
    · obtain rfl : j = a := by omega
      rw [List.drop_eq_nil_of_le (by rw [List.length_take]; omega), lnS] at hf
      cases hf
      go_wp2
      go_ret2
      exact ⟨rfl, rfl⟩

/-- The document's, behind its two tests. -/
theorem rline_walk (l : By) (i : Int) (a N B : Nat) (hl : l.length ≤ 9223372036854775800) (ha : a ≤ l.length) (hm : Hidden ((i < 0 ∧ a = 0) ∨ ((l.length : Int) < i ∧ a = l.length) ∨ (0 ≤ i ∧ i ≤ (l.length : Int) ∧ i = (a : Int)))) (hN : Hidden (lnS (l.take a) 0 0 0 = (N, B))) (w : World) :
    Calls Tryd.prog 19 #[.string ⟨l.toArray⟩, .int .i64 i] w fun e w' => e = .returned (.tuple #[.int .i64 (N : Int), .int .i64 ((a : Int) - (B : Int))]) ∧ w' = w := by
  have hs := str_len l
  rcases hm with ⟨h1, rfl⟩ | ⟨h1, rfl⟩ | ⟨h1, h2, rfl⟩
  · go_enter Tryd.func19, Tryd.ntmps19
    go_wp2
    rw [List.take_zero] at hN
    cases hN
    go_loopg [6, 7, 8] 1 (fun k nv bv iv wr => nv = .int .i64 0 ∧ bv = .int .i64 0 ∧ iv = .int .i64 0 ∧ wr = w)
    case atStart => exact ⟨rfl, rfl, rfl, rfl⟩
    case round =>
      obtain ⟨rfl, rfl, rfl, rfl⟩ := hrel
      go_wp2
      go_ret2
      exact ⟨rfl, rfl⟩
  · obtain ⟨a, rfl⟩ : ∃ a, a = l.length := ⟨_, rfl⟩
    go_enter Tryd.func19, Tryd.ntmps19
    go_wp2
    go_loopg [6, 7, 8] (l.length) (fun k nv bv iv wr => ∃ j n b : Nat, nv = .int .i64 (n : Int) ∧ bv = .int .i64 (b : Int) ∧ iv = .int .i64 (j : Int) ∧ j ≤ (l.length) ∧ n ≤ j ∧ b ≤ j ∧ lnS ((l.take (l.length)).drop j) j n b = (N, B) ∧ k = (l.length) - j ∧ wr = w)
    case atStart => exact ⟨0, 0, 0, rfl, rfl, rfl, by omega, by omega, by omega, by rw [List.drop_zero]; exact hN, rfl, rfl⟩
    case round =>
      obtain ⟨j, n, b, rfl, rfl, rfl, hj, hnj, hbj, hf, hgk, rfl⟩ := hrel
      have hgkH : Hidden (gk = (l.length) - j) := hgk
      clear hgk hN
      by_cases hja : j < (l.length)
      · obtain ⟨c, hc⟩ : ∃ c, l[j]? = some c := ⟨l[j]'(by omega), List.getElem?_eq_getElem (by omega)⟩
        have hx := str_index l j c hc
        rw [take_at hc hja, lnS] at hf
        by_cases h10 : c = 10
        · rw [if_pos h10] at hf
          subst h10
          have hfH : Hidden (lnS ((l.take (l.length)).drop (j + 1)) (j + 1) (n + 1) (j + 1) = (N, B)) := hf
          clear hf hc
          go_wp2
          go_roundg ((l.length) - (j + 1))
          case measure =>
            have : gk = (l.length) - j := hgkH
            omega
          case rel => exact ⟨j + 1, n + 1, j + 1, by go_num, by go_num, by go_num, by omega, by omega, by omega, hfH, rfl, rfl⟩
        · rw [if_neg h10] at hf
          have h11 := nl_no h10
          have hfH : Hidden (lnS ((l.take (l.length)).drop (j + 1)) (j + 1) n b = (N, B)) := hf
          clear hf hc h10
          go_wp2
          go_roundg ((l.length) - (j + 1))
          case measure =>
            have : gk = (l.length) - j := hgkH
            omega
          case rel => exact ⟨j + 1, n, b, by go_num, by go_num, by go_num, by omega, by omega, by omega, hfH, rfl, rfl⟩
      · obtain rfl : j = l.length := by omega
        rw [List.drop_eq_nil_of_le (by rw [List.length_take]; omega), lnS] at hf
        cases hf
        go_wp2
        go_ret2
        exact ⟨rfl, rfl⟩
  · go_enter Tryd.func19, Tryd.ntmps19
    go_wp2
    go_loopg [6, 7, 8] a (fun k nv bv iv wr => ∃ j n b : Nat, nv = .int .i64 (n : Int) ∧ bv = .int .i64 (b : Int) ∧ iv = .int .i64 (j : Int) ∧ j ≤ a ∧ n ≤ j ∧ b ≤ j ∧ lnS ((l.take a).drop j) j n b = (N, B) ∧ k = a - j ∧ wr = w)
    case atStart => exact ⟨0, 0, 0, rfl, rfl, rfl, by omega, by omega, by omega, by rw [List.drop_zero]; exact hN, rfl, rfl⟩
    case round =>
      obtain ⟨j, n, b, rfl, rfl, rfl, hj, hnj, hbj, hf, hgk, rfl⟩ := hrel
      have hgkH : Hidden (gk = a - j) := hgk
      clear hgk hN
      by_cases hja : j < a
      · obtain ⟨c, hc⟩ : ∃ c, l[j]? = some c := ⟨l[j]'(by omega), List.getElem?_eq_getElem (by omega)⟩
        have hx := str_index l j c hc
        rw [take_at hc hja, lnS] at hf
        by_cases h10 : c = 10
        · rw [if_pos h10] at hf
          subst h10
          have hfH : Hidden (lnS ((l.take a).drop (j + 1)) (j + 1) (n + 1) (j + 1) = (N, B)) := hf
          clear hf hc
          go_wp2
          go_roundg (a - (j + 1))
          case measure =>
            have : gk = a - j := hgkH
            omega
          case rel => exact ⟨j + 1, n + 1, j + 1, by go_num, by go_num, by go_num, by omega, by omega, by omega, hfH, rfl, rfl⟩
        · rw [if_neg h10] at hf
          have h11 := nl_no h10
          have hfH : Hidden (lnS ((l.take a).drop (j + 1)) (j + 1) n b = (N, B)) := hf
          clear hf hc h10
          go_wp2
          go_roundg (a - (j + 1))
          case measure =>
            have : gk = a - j := hgkH
            omega
          case rel => exact ⟨j + 1, n, b, by go_num, by go_num, by go_num, by omega, by omega, by omega, hfH, rfl, rfl⟩
      · obtain rfl : j = a := by omega
        rw [List.drop_eq_nil_of_le (by rw [List.length_take]; omega), lnS] at hf
        cases hf
        go_wp2
        go_ret2
        exact ⟨rfl, rfl⟩
theorem line_place (l : By) (i : Int) : ∃ a : Nat, a ≤ l.length ∧ min (max i 0) (l.length : Int) = (a : Int) ∧ ((i < 0 ∧ a = 0) ∨ ((l.length : Int) < i ∧ a = l.length) ∨ (0 ≤ i ∧ i ≤ (l.length : Int) ∧ i = (a : Int))) := by
  by_cases h1 : i < 0
  · exact ⟨0, by omega, by omega, Or.inl ⟨h1, rfl⟩⟩
  · by_cases h2 : (l.length : Int) < i
    · exact ⟨l.length, by omega, by omega, Or.inr (Or.inl ⟨h2, rfl⟩)⟩
    · exact ⟨i.toNat, by omega, by omega, Or.inr (Or.inr ⟨by omega, by omega, by omega⟩)⟩
theorem lexLines.walk (l : By) (i : Int) (w : World) (hl : l.length ≤ 140737488351232) (hi : (Lit.int .i64 i).wf = true) (htab : F.Tab w) :
    Calls Tryd.prog 5 #[.string ⟨l.toArray⟩, .int .i64 i] w fun e w' => e = .returned (.bool true) ∧ Fr (fun _ => False) w w' := by
  obtain ⟨a, ha, h1, h2⟩ := line_place l i
  obtain ⟨N, B, hN⟩ : ∃ N B, lnS (l.take a) 0 0 0 = (N, B) := ⟨_, _, rfl⟩
  have k1 := line_walk l i a N B (by omega) ha h1 hN
  have k2 := rline_walk l i a N B (by omega) ha h2 hN
  have k3 := alive_any
  clear h1 h2 hN hi
  go_enter Tryd.func5, Tryd.ntmps5
  go_wp2_with (first
    | (go_at_call 18; refine (k1 _).mono ?_; rintro e w' ⟨rfl, rfl⟩)
    | (go_at_call 19; refine (k2 _).mono ?_; rintro e w' ⟨rfl, rfl⟩)
    | (go_at_call 11; refine (k3 _ htab).mono ?_; rintro e W1 ⟨rfl, f1⟩))
  go_ret
  exact ⟨rfl, f1⟩
end Go.Proofs.YtdhiombagbiffaaDoor
