/- The program's longestNumber, longest, withoutNoughts. -/
import Derived.Test.YtfkccanjdlajlabGreatDoorLxW3
namespace Go.Proofs.YtfkccanjdlajlabGreatDoor
open Go.RowKit Lx
set_option linter.unusedSimpArgs false
set_option linter.unusedVariables false

theorem pre1 (l : By) (a : UInt8) (j : Nat) : Lib.hasPrefix (l.drop j) [a] = (l[j]? == some a) := by
  unfold Lib.hasPrefix
  cases h : l[j]? with
  | none =>
    rw [List.getElem?_eq_none_iff] at h
    rw [List.drop_eq_nil_of_le h]
    rfl
  | some c =>
    rw [drop_at h, Bool.eq_iff_iff]
    simp only [List.isPrefixOf, Bool.and_true, beq_iff_eq, Option.some.injEq]
    exact ⟨fun h => h.symm, fun h => h.symm⟩
theorem pre_take (l : By) (a b : UInt8) : Lib.hasPrefix l [a, b] = decide (l.take 2 = [a, b]) := by
  have h := pre2 l a b 0
  rw [List.drop_zero] at h
  rw [h]
  match l with
  | [] => rfl
  | [c] => simp
  | c :: d :: r =>
    rw [Bool.eq_iff_iff]
    simp
theorem has2 (l : By) (a b : UInt8) (w : World) : Calls Tryz.prog 87 #[.string ⟨l.toArray⟩, .string ⟨#[a, b]⟩] w fun e w' => e = .returned (.bool (decide (l.take 2 = [a, b]))) ∧ w' = w := by
  have := Tryz.strings_HasPrefix ⟨l.toArray⟩ ⟨#[a, b]⟩ w
  simp only [] at this
  rw [pre_take] at this
  exact this
theorem has1 (l : By) (a : UInt8) (j : Nat) (w : World) : Calls Tryz.prog 87 #[.string ⟨(l.drop j).toArray⟩, .string ⟨#[a]⟩] w fun e w' => e = .returned (.bool (l[j]? == some a)) ∧ w' = w := by
  have := Tryz.strings_HasPrefix ⟨(l.drop j).toArray⟩ ⟨#[a]⟩ w
  simp only [] at this
  rw [pre1] at this
  exact this
theorem p1 (c : UInt8) : (bits BinOp.and IntKind.i64 (partsN c.toNat : Int) ((1 : Nat) : Int) != 0) = dgt c := (parts_dgt c).1
theorem p2 (c : UInt8) : (bits BinOp.and IntKind.i64 (partsN c.toNat : Int) ((2 : Nat) : Int) != 0) = hxB c := (parts_dgt c).2.1
theorem p4 (c : UInt8) : (bits BinOp.and IntKind.i64 (partsN c.toNat : Int) ((4 : Nat) : Int) != 0) = nmB c := (parts_dgt c).2.2

theorem ln_hex (l : By) (i n : Nat) (hi : i + 2 ≤ l.length) (hl : l.length ≤ 9223372036854775800) (h : Hidden ((l.drop i).take 2 = [48, 120])) (hn : Hidden (run hxB (l.drop (i + 2)) = n)) (w : World) :
    Calls Tryz.prog 111 #[.string ⟨l.toArray⟩, .int .i64 (i : Int)] w fun e w' => e = .returned (.tuple #[.int .i64 4, .int .i64 ((i + 2 + n : Nat) : Int)]) ∧ w' = w := by
  have hsl := slice_from l i (by omega) (by omega)
  have kh := has2 (l.drop i) 48 120
  rw [show decide ((l.drop i).take 2 = [48, 120]) = true from decide_eq_true h] at kh
  have kr := runEnd_walk l (i + 2) 2 (i + 2 + n) hxB p2 hi (by omega) (by show _ = _; rw [show run hxB (l.drop (i + 2)) = n from hn])
  go_enter Tryz.func111, Tryz.ntmps111
  go_wp2_with (first
    | (go_at_call 87; refine (kh _).mono ?_; rintro e w' ⟨rfl, rfl⟩)
    | (go_at_call 112; refine (kr _).mono ?_; rintro e w' ⟨rfl, rfl⟩))
  go_ret2
  exact ⟨rfl, rfl⟩
theorem ln_int (l : By) (i a : Nat) (hi : i ≤ l.length) (ha : a ≤ l.length) (hl : l.length ≤ 9223372036854775800) (h : Hidden (¬ (l.drop i).take 2 = [48, 120])) (hn : Hidden (i + run dgt (l.drop i) = a)) (hp : Hidden ((l[a]? == some 46) = false)) (w : World) :
    Calls Tryz.prog 111 #[.string ⟨l.toArray⟩, .int .i64 (i : Int)] w fun e w' => e = .returned (.tuple #[.int .i64 3, .int .i64 (a : Int)]) ∧ w' = w := by
  have hsl := slice_from l i (by omega) (by omega)
  have hsl2 := slice_from l a ha (by omega)
  have kh := has2 (l.drop i) 48 120
  rw [show decide ((l.drop i).take 2 = [48, 120]) = false from decide_eq_false h] at kh
  have kh2 := has1 l 46 a
  rw [show (l[a]? == some 46) = false from hp] at kh2
  have kr := runEnd_walk l i 1 a dgt p1 (by omega) (by omega) hn
  go_enter Tryz.func111, Tryz.ntmps111
  go_wp2_with fail
  go_at_call 87; refine (kh _).mono ?_; rintro e w' ⟨rfl, rfl⟩
  go_wp2_with fail
  go_at_call 112; refine (kr _).mono ?_; rintro e w' ⟨rfl, rfl⟩
  go_wp2_with fail
  go_at_call 87; refine (kh2 _).mono ?_; rintro e w' ⟨rfl, rfl⟩
  go_wp2_with fail
  go_ret2
  exact ⟨rfl, rfl⟩
theorem ln_point (l : By) (i a b : Nat) (t : Bool) (hi : i ≤ l.length) (ha : a + 1 ≤ l.length) (hl : l.length ≤ 9223372036854775800) (h : Hidden (¬ (l.drop i).take 2 = [48, 120])) (hn : Hidden (i + run dgt (l.drop i) = a)) (hp : Hidden ((l[a]? == some 46) = true)) (hm : Hidden (a + 1 + run dgt (l.drop (a + 1)) = b))
    (ht : ((b : Int) == (a : Int) + 1) = t) (w : World) :
    Calls Tryz.prog 111 #[.string ⟨l.toArray⟩, .int .i64 (i : Int)] w fun e w' => e = .returned (.tuple #[.int .i64 (if t then 3 else 4), .int .i64 (if t then (a : Int) else (b : Int))]) ∧ w' = w := by
  have hsl := slice_from l i (by omega) (by omega)
  have hsl2 := slice_from l a (by omega) (by omega)
  have kh := has2 (l.drop i) 48 120
  rw [show decide ((l.drop i).take 2 = [48, 120]) = false from decide_eq_false h] at kh
  have kh2 := has1 l 46 a
  rw [show (l[a]? == some 46) = true from hp] at kh2
  have kr := runEnd_walk l i 1 a dgt p1 (by omega) (by omega) hn
  have kr2 := runEnd_walk l (a + 1) 1 b dgt p1 (by omega) (by omega) hm
  cases t
  all_goals
    go_enter Tryz.func111, Tryz.ntmps111
    go_wp2_with fail
    go_at_call 87; refine (kh _).mono ?_; rintro e w' ⟨rfl, rfl⟩
    go_wp2_with fail
    go_at_call 112; refine (kr _).mono ?_; rintro e w' ⟨rfl, rfl⟩
    go_wp2_with fail
    go_at_call 87; refine (kh2 _).mono ?_; rintro e w' ⟨rfl, rfl⟩
    go_wp2_with fail
    go_at_call 112; refine (kr2 _).mono ?_; rintro e w' ⟨rfl, rfl⟩
    go_wp2_with fail
    go_ret2
    exact ⟨rfl, rfl⟩
theorem ret_two {k1 k2 : IntKind} {a b c d : Int} (h1 : a = c) (h2 : b = d) : Ending.returned (.tuple #[.int k1 a, .int k2 b]) = .returned (.tuple #[.int k1 c, .int k2 d]) := by rw [h1, h2]
/-- longestNumber. -/
theorem ln_any (l : By) (i k n : Nat) (hi : i < l.length) (hl : l.length ≤ 9223372036854775800) (h : numLen (l.drop i) = (k, n)) (w : World) :
    Calls Tryz.prog 111 #[.string ⟨l.toArray⟩, .int .i64 (i : Int)] w fun e w' => e = .returned (.tuple #[.int .i64 (k : Int), .int .i64 ((i + n : Nat) : Int)]) ∧ w' = w := by
  unfold numLen at h
  by_cases e1 : (l.drop i).take 2 = [48, 120]
  · rw [if_pos e1] at h
    simp only [Prod.mk.injEq, List.drop_drop] at h
    obtain ⟨rfl, h⟩ := h
    have hlen : i + 2 ≤ l.length := by
      have := congrArg List.length e1
      simp only [List.length_take, List.length_drop, List.length_cons, List.length_nil] at this
      omega
    have := ln_hex l i _ hlen hl e1 rfl w
    rw [show i + 2 + run hxB (l.drop (i + 2)) = i + n by omega] at this
    exact this
  · rw [if_neg e1] at h
    have hr := run_le dgt (l.drop i)
    rw [List.length_drop] at hr
    obtain ⟨a, ha⟩ : ∃ a, i + run dgt (l.drop i) = a := ⟨_, rfl⟩
    have e2 : (l.drop i)[run dgt (l.drop i)]? = l[a]? := by rw [List.getElem?_drop, ha]
    rw [e2, List.drop_drop, show i + (run dgt (l.drop i) + 1) = a + 1 by omega] at h
    by_cases e3 : l[a]? = some 46
    · have hal : a < l.length := (List.getElem?_eq_some_iff.1 e3).1
      obtain ⟨b, hb⟩ : ∃ b, a + 1 + run dgt (l.drop (a + 1)) = b := ⟨_, rfl⟩
      by_cases e4 : run dgt (l.drop (a + 1)) = 0
      · rw [if_neg (by rw [e4]; simp)] at h
        simp only [Prod.mk.injEq] at h
        obtain ⟨rfl, h⟩ := h
        have := ln_point l i a b true (by omega) hal hl e1 ha (by show _ = _; rw [e3]; rfl) hb (by simp; omega) w
        simp only [if_true] at this
        rw [show i + n = a by omega]
        exact this
      · rw [if_pos ⟨e3, e4⟩] at h
        simp only [Prod.mk.injEq] at h
        obtain ⟨rfl, h⟩ := h
        have := ln_point l i a b false (by omega) hal hl e1 ha (by show _ = _; rw [e3]; rfl) hb (by rw [beq_eq_false_iff_ne]; omega) w
        simp only [Bool.false_eq_true, if_false] at this
        rw [show i + n = b by omega]
        exact this
    · rw [if_neg (fun hh => e3 hh.1)] at h
      simp only [Prod.mk.injEq] at h
      obtain ⟨rfl, h⟩ := h
      have := ln_int l i a (by omega) (by omega) hl e1 ha (by show _ = _; rw [beq_eq_false_iff_ne]; exact e3) w
      rw [show i + n = a by omega]
      exact this
end Go.Proofs.YtfkccanjdlajlabGreatDoor
