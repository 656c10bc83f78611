/- What Sum of package ints answers, for any list. -/
import Derived.Test.YtoofbbojaoiadabDoorInRead
namespace Go.Proofs.YtoofbbojaoiadabDoor
open Go.RowKit
set_option linter.unusedSimpArgs false
set_option linter.unusedVariables false

/-- Numbers added one by one: the sum; or the place of the first that is too much. -/
def sumS : List Int → Int → Int → Int × Int × Int
  | [], s, _ => (s, 0, 0)
  | x :: r, s, i => if fit (s + x) then sumS r (s + x) (i + 1) else (0, i, 80)

theorem add_is (a b v e : Int) (ha : I64 a) (hb : I64 b) (hv : fitV (a + b) = v) (he : fitE (a + b) = e) (w : World) :
    Calls Tryd.prog 7 #[.int .i64 a, .int .i64 b] w fun e' w' => e' = .returned (.tuple #[.int .i64 v, .int .i64 e]) ∧ w = w' := hv ▸ he ▸ add_any a b ha hb w

theorem sum_empty (ao : Option Addr) (cap : Nat) (w : World) :
    Calls Tryd.prog 11 #[.slice ao 0 cap] w fun r w' => r = .returned (.tuple #[.int .i64 0, .int .i64 0, .int .i64 0]) ∧ w = w' := by
  go_enter Tryd.func11, Tryd.ntmps11
  go_wp2
  refine wp_loop_rounds 1 ?_
  rw [rounds_succ]
  go_wp2
  go_ret3
  exact ⟨rfl, rfl⟩

set_option maxHeartbeats 1000000 in
theorem sum_walk (b off cap len : Nat) (l : List Int) (v p e : Int) (hlen : Hidden (l.length = len)) (hres : Hidden (sumS l 0 0 = (v, p, e))) (hl : len ≤ 9223372036854775807) (hI : Hidden (∀ x ∈ l, I64 x)) (w : World)
    (hc : Hidden (∀ (i : Nat) (x : Int), l[i]? = some x → w.cell? ⟨b, off + i, none⟩ = some (.int .i64 x))) :
    Calls Tryd.prog 11 #[.slice (some ⟨b, off, none⟩) len cap] w fun r w' => r = .returned (.tuple #[.int .i64 v, .int .i64 p, .int .i64 e]) ∧ w = w' := by
  go_enter Tryd.func11, Tryd.ntmps11
  go_wp2
  go_loop [5, 12] (fun sv iv => ∃ (j : Nat) (s : Int), sv = .int .i64 s ∧ iv = .int .i64 (j : Int) ∧ j ≤ len ∧ I64 s ∧ sumS (l.drop j) s j = (v, p, e)) (fun _ iv => len - (intOf iv).toNat)
  case atStart => exact ⟨0, 0, rfl, rfl, by omega, ⟨by omega, by omega⟩, hres⟩
  case round =>
    obtain ⟨j, s, rfl, rfl, hj, hs, hf⟩ := hrel
    have hlen' : l.length = len := hlen
    by_cases hjl : j < len
    · obtain ⟨x, hx⟩ : ∃ x, l[j]? = some x := ⟨l[j], List.getElem?_eq_getElem (by omega)⟩
      have hdr : l.drop j = x :: l.drop (j + 1) := by
        have := List.drop_eq_getElem_cons (show j < l.length by omega)
        rw [List.getElem?_eq_getElem (by omega)] at hx
        cases hx
        exact this
      have hcj := (show ∀ (i : Nat) (x : Int), l[i]? = some x → w.cell? ⟨b, off + i, none⟩ = some (.int .i64 x) from hc) j x hx
      have hxI : I64 x := (show ∀ x ∈ l, I64 x from hI) x (List.mem_of_getElem? hx)
      rw [hdr, sumS] at hf
      have hfi := @fitV_in (s + x)
      have hfo := @fitV_out (s + x)
      rw [← fit_iff] at hfi hfo
      clear hdr hx hlen'
      cases ht : fit (s + x)
      · rw [ht] at hf hfo
        simp only [Bool.false_eq_true, if_false] at hf
        have hfH : Hidden ((v, p, e) = (0, (j : Int), 80)) := hf.symm
        obtain ⟨k1, k2⟩ := hfo (by simp)
        have ka := add_is s x 0 80 hs hxI k1 k2
        clear hf hfi hfo k1 k2 ht hs hxI
        go_wp2_with (go_at_call 7; refine (ka _).mono ?_; rintro e w' ⟨rfl, rfl⟩)
        go_ret3
        exact ⟨ret3 (show (v, p, e) = (0, (j : Int), 80) from hfH).symm, rfl⟩
      · rw [ht] at hf hfi
        simp only [if_true] at hf
        obtain ⟨k1, k2⟩ := hfi rfl
        have hn : Hidden (I64 (s + x)) := (fit_iff _).1 ht
        have ka := add_is s x _ 0 hs hxI k1 k2
        obtain ⟨S, hS⟩ : ∃ S, s + x = S := ⟨_, rfl⟩
        rw [hS] at ka hf hn
        have hfH : Hidden (sumS (l.drop (j + 1)) S ((j : Int) + 1) = (v, p, e)) := hf
        clear hf hfi hfo k1 k2 ht hs hxI hS
        go_wp2_with (go_at_call 7; refine (ka _).mono ?_; rintro e w' ⟨rfl, rfl⟩)
        go_round
        case rel => exact ⟨j + 1, S, rfl, by go_num, by omega, hn, by rw [show ((j + 1 : Nat) : Int) = (j : Int) + 1 by omega]; exact hfH⟩
        case measure => simp [intOf]; omega
    · obtain rfl : j = len := by omega
      rw [← hlen', List.drop_length, sumS] at hf
      have hfH : Hidden ((v, p, e) = (s, 0, 0)) := hf.symm
      clear hf hlen' hs
      go_wp2
      go_ret3
      exact ⟨ret3 (show (v, p, e) = (s, 0, 0) from hfH).symm, rfl⟩
end Go.Proofs.YtoofbbojaoiadabDoor
