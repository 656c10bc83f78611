/- What Natural and Read of package ints, and the document's, answer, for any text. -/
import Derived.Test.YtoofbbojaoiadabDoorInRead
namespace Go.Proofs.YtoofbbojaoiadabDoor
open Go.RowKit
set_option linter.unusedSimpArgs false
set_option linter.unusedVariables false

theorem ra_empty (m : Int) (w : World) :
    Calls Tryd.prog 23 #[.string ⟨#[]⟩, .int .u64 m] w fun r w' => r = .returned (.tuple #[.int .u64 0, .int .i64 0, .int .i64 10]) ∧ Kb w w' := by
  have hnx := next_end w []
  simp only [List.length_nil] at hnx
  go_enter Tryd.func23, Tryd.ntmps23
  go_wp2
  refine wp_loop_rounds 1 ?_
  rw [rounds_succ]
  go_wp2
  go_ret3
  exact ⟨rfl, kb_iter _ _ _⟩
theorem ra_any (l : List UInt8) (m : Nat) (v p e : Int) (hres : amtS m l = (v, p, e)) (hm : m ≤ 9223372036854775808) (hl : l.length ≤ 9223372036854775807) (w : World) :
    Calls Tryd.prog 23 #[.string ⟨l.toArray⟩, .int .u64 (m : Int)] w fun r w' => r = .returned (.tuple #[.int .u64 v, .int .i64 p, .int .i64 e]) ∧ Kb w w' := by
  cases l with
  | nil =>
    simp only [amtS, runD, List.length_nil, Nat.lt_irrefl, if_false, if_true, Prod.mk.injEq] at hres
    obtain ⟨rfl, rfl, rfl⟩ := hres
    exact ra_empty _ w
  | cons c r => exact ra_walk (c :: r) m v p e hres hm hl rfl w

theorem amt_bounds (m : Nat) (l : List UInt8) (v p e : Int) (h : amtS m l = (v, p, e)) : 0 ≤ v ∧ v ≤ m ∧ 0 ≤ p ∧ p ≤ l.length := by
  by_cases he : e = 0
  · subst he
    obtain ⟨h1, h2, h3, _⟩ := amt_ok m l v p h
    exact ⟨h2, h3, by omega, by omega⟩
  · obtain ⟨h1, h2, h3⟩ := amt_err m l v p e h he
    exact ⟨by omega, by omega, h2, h3⟩

theorem nat_any (l : List UInt8) (v p e : Int) (hres : natS l = (v, p, e)) (hl : l.length ≤ 9223372036854775807) (w : World) :
    Calls Tryd.prog 22 #[.string ⟨l.toArray⟩] w fun r w' => r = .returned (.tuple #[.int .i64 v, .int .i64 p, .int .i64 e]) ∧ Kb w w' := by
  have k := ra_any l 9223372036854775807 v p e hres (by omega) hl
  have hb := amt_bounds _ _ _ _ _ hres
  have h0 : 0 ≤ v := hb.1
  have h1 : v ≤ 9223372036854775807 := by omega
  have hw : wrap64 v = v := wrap64_I ⟨by omega, h1⟩
  clear hres hb
  go_enter Tryd.func22, Tryd.ntmps22
  go_wp2_with (go_at_call 23; refine (k _).mono ?_; rintro e w' ⟨rfl, g⟩)
  go_ret3
  first | exact ⟨rfl, g⟩ | exact ⟨ret3 (by rw [hw]), g⟩

theorem sign_split (s : List UInt8) : (Lib.hasPrefix s [45] = true ∧ ∃ t, s = 45 :: t ∧ Lib.trimPrefix s [45] = t) ∨ (Lib.hasPrefix s [45] = false ∧ Lib.trimPrefix s [45] = s ∧ s.head? ≠ some 45) := by
  cases s with
  | nil => right; exact ⟨rfl, rfl, by simp⟩
  | cons c q =>
    by_cases h : c = 45
    · subst h
      left
      exact ⟨by simp [Lib.hasPrefix], q, rfl, by simp [Lib.trimPrefix, Lib.hasPrefix]⟩
    · right
      have h2 : Lib.hasPrefix (c :: q) [45] = false := by
        show List.isPrefixOf [45] (c :: q) = false
        simp [List.isPrefixOf]
        exact fun e => h e.symm
      exact ⟨h2, by simp [Lib.trimPrefix, h2], by simpa using h⟩

theorem neg_wrap (v : Int) (h0 : 0 < v) (h1 : v ≤ 9223372036854775808) : wrap64 (IntKind.u64.wrap (-v)) = -v := by
  rw [wrap_u]
  unfold wrap64
  omega

theorem readS_pos (l : List UInt8) (h : l.head? ≠ some 45) : readS l = natS l := by unfold readS; rw [if_neg h]
theorem readS_neg (t : List UInt8) (a q f : Int) (h : amtS 9223372036854775808 t = (a, q, f)) : readS (45 :: t) = if f ≠ 0 then (0, 1 + q, f) else if a = 0 then (0, 1, 10) else (-a, 0, 0) := by
  unfold readS
  rw [if_pos (by simp), List.tail_cons, h]

theorem read_any (l : List UInt8) (v p e : Int) (hres : readS l = (v, p, e)) (hl : l.length ≤ 9223372036854775807) (w : World) :
    Calls Tryd.prog 13 #[.string ⟨l.toArray⟩] w fun r w' => r = .returned (.tuple #[.int .i64 v, .int .i64 p, .int .i64 e]) ∧ Kb w w' := by
  rcases sign_split l with ⟨h1, t, rfl, h3⟩ | ⟨h1, h2, h3⟩
  · have kc := cutp_any (45 :: t) [45] t true h3 h1
    obtain ⟨⟨a, q, f⟩, hA⟩ : ∃ x, amtS 9223372036854775808 t = x := ⟨_, rfl⟩
    have ka := ra_any t 9223372036854775808 a q f hA (by omega) (by simp at hl; omega)
    have hb := amt_bounds _ _ _ _ _ hA
    rw [readS_neg t a q f hA] at hres
    have q0 : 0 ≤ q := hb.2.2.1
    have q1 : q < 9223372036854775807 := by simp at hl; omega
    have a0 : 0 ≤ a := hb.1
    have a1 : a ≤ 9223372036854775808 := hb.2.1
    generalize hL : (45 :: t : List UInt8) = L at *
    clear hA h1 h3 hl hL hb
    by_cases hf : f = 0
    · subst hf
      simp only [ne_eq, not_true_eq_false, if_false] at hres
      by_cases ha : a = 0
      · subst ha
        simp only [if_true, Prod.mk.injEq] at hres
        obtain ⟨rfl, rfl, rfl⟩ := hres
        go_enter Tryd.func13, Tryd.ntmps13
        go_wp2_with (first
          | (go_at_call 21; refine (kc _).mono ?_; rintro e w' ⟨rfl, rfl⟩)
          | (go_at_call 23; refine (ka _).mono ?_; rintro e w' ⟨rfl, g⟩))
        go_ret3
        exact ⟨rfl, g⟩
      · have hn := neg_wrap a (by omega) a1
        have ha' : (a == 0) = false := by simpa using ha
        rw [if_neg ha] at hres
        simp only [Prod.mk.injEq] at hres
        obtain ⟨rfl, rfl, rfl⟩ := hres
        go_enter Tryd.func13, Tryd.ntmps13
        go_wp2_with (first
          | (go_at_call 21; refine (kc _).mono ?_; rintro e w' ⟨rfl, rfl⟩)
          | (go_at_call 23; refine (ka _).mono ?_; rintro e w' ⟨rfl, g⟩))
        go_ret3
        first | exact ⟨rfl, g⟩ | exact ⟨ret3 (by rw [hn]), g⟩
    · have hf' : (f != 0) = true := by simpa using hf
      rw [if_pos hf] at hres
      simp only [Prod.mk.injEq] at hres
      obtain ⟨rfl, rfl, rfl⟩ := hres
      go_enter Tryd.func13, Tryd.ntmps13
      go_wp2_with (first
        | (go_at_call 21; refine (kc _).mono ?_; rintro e w' ⟨rfl, rfl⟩)
        | (go_at_call 23; refine (ka _).mono ?_; rintro e w' ⟨rfl, g⟩))
      go_ret3
      exact ⟨rfl, g⟩
  · have kc := cutp_any l [45] l false h2 h1
    rw [readS_pos l h3] at hres
    have kn := nat_any l v p e hres hl
    clear hres h1 h2 h3
    go_enter Tryd.func13, Tryd.ntmps13
    go_wp2_with (first
      | (go_at_call 21; refine (kc _).mono ?_; rintro e w' ⟨rfl, rfl⟩)
      | (go_at_call 22; refine (kn _).mono ?_; rintro e w' ⟨rfl, g⟩))
    go_ret3
    exact ⟨rfl, g⟩
end Go.Proofs.YtoofbbojaoiadabDoor
