/- Split walked. -/
import Derived.Test.YtlbcneoebamjiabNmSplit
namespace Go.Proofs.Ytlbcneoebamjiab
open Go.RowKit Go.Sort
set_option linter.unusedSimpArgs false
set_option linter.unusedVariables false

/-- What Split answers. -/
def splitS (s : Str) : Str × Str × Int :=
  if dotS s < s.length then
    (if rightS (s.take (dotS s)) ≠ 0 then ([], [], rightS (s.take (dotS s)))
     else if rightS (s.drop (dotS s + 1)) ≠ 0 then ([], [], rightS (s.drop (dotS s + 1)))
     else (s.take (dotS s), s.drop (dotS s + 1), 0))
  else ([], [], 12)

theorem or_new (x y r : Int) (hr : (if x ≠ 0 then x else y) = r) (w : World) :
    Calls Try.prog 16 #[.slice (some ⟨w.heap.size, 0, none⟩) 2 2] (w.alloc (.cells #[.int .i64 x, .int .i64 y] 25)) fun e w' => e = .returned (.int .i64 r) ∧ w' = w.alloc (.cells #[.int .i64 x, .int .i64 y] 25) := by
  have hb := alloc_new w (.cells #[.int .i64 x, .int .i64 y] 25)
  exact or_any _ x y r hr _ (by rw [cell_of_row _ _ _ _ _ _ hb]; rfl) (by rw [cell_of_row _ _ _ _ _ _ hb]; rfl)

theorem split_out (s : Str) (h : dotS s = s.length) (w : World) :
    Calls Try.prog 9 #[.string ⟨s.toArray⟩] w fun e w' => e = .returned (.tuple #[.string ⟨#[]⟩, .string ⟨#[]⟩, .int .i64 12]) ∧ Fr (fun _ => False) w w' := by
  have k := cut_out s h
  clear h
  go_enter Try.func9, Try.ntmps9
  go_wp2_with (go_at_call 15; refine (k _).mono ?_; rintro e w1 ⟨rfl, hf1⟩)
  go_ret3
  exact ⟨rfl, hf1⟩
set_option maxHeartbeats 400000 in
theorem split_in (s m n : Str) (rm rn r : Int) (k : ∀ w, Calls Try.prog 15 #[.string ⟨s.toArray⟩, .string ⟨#[46]⟩] w fun e w' => e = .returned (.tuple #[.string ⟨m.toArray⟩, .string ⟨n.toArray⟩, .bool true]) ∧ Fr (fun _ => False) w w')
    (km : ∀ w, Calls Try.prog 7 #[.string ⟨m.toArray⟩] w fun e w' => e = .returned (.int .i64 rm) ∧ w' = w) (kn : ∀ w, Calls Try.prog 7 #[.string ⟨n.toArray⟩] w fun e w' => e = .returned (.int .i64 rn) ∧ w' = w)
    (hr : (if rm ≠ 0 then rm else rn) = r) (w : World) :
    Calls Try.prog 9 #[.string ⟨s.toArray⟩] w fun e w' => e = .returned (.tuple #[.string ⟨(if r = 0 then m else []).toArray⟩, .string ⟨(if r = 0 then n else []).toArray⟩, .int .i64 r]) ∧ Fr (fun _ => False) w w' := by
  have ko := or_new rm rn r hr
  clear hr
  by_cases h0 : r = 0
  · subst h0
    rw [if_pos rfl, if_pos rfl]
    go_enter Try.func9, Try.ntmps9
    go_wp2_with (first
      | (go_at_call 15; refine (k _).mono ?_; rintro e w1 ⟨rfl, hf1⟩)
      | (go_at_call 16; refine (ko _).mono ?_; rintro e w4 ⟨rfl, rfl⟩)
      | fail)
    refine (km _).mono ?_
    rintro e w2 ⟨rfl, rfl⟩
    go_wp2_with (first
      | (go_at_call 16; refine (ko _).mono ?_; rintro e w4 ⟨rfl, rfl⟩)
      | fail)
    refine (kn _).mono ?_
    rintro e w3 ⟨rfl, rfl⟩
    go_wp2_with (first
      | (go_at_call 16; refine (ko _).mono ?_; rintro e w4 ⟨rfl, rfl⟩)
      | fail)
    go_ret3
    exact ⟨rfl, hf1.same (Fr.alloc _ _ _)⟩
  · rw [if_neg h0, if_neg h0]
    have h0' : (r == 0) = false := by simp [h0]
    clear h0
    go_enter Try.func9, Try.ntmps9
    go_wp2_with (first
      | (go_at_call 15; refine (k _).mono ?_; rintro e w1 ⟨rfl, hf1⟩)
      | fail)
    refine (km _).mono ?_
    rintro e w2 ⟨rfl, rfl⟩
    go_wp2_with (first
      | (go_at_call 16; refine (ko _).mono ?_; rintro e w4 ⟨rfl, rfl⟩)
      | fail)
    refine (kn _).mono ?_
    rintro e w3 ⟨rfl, rfl⟩
    go_wp2_with (first
      | (go_at_call 16; refine (ko _).mono ?_; rintro e w4 ⟨rfl, rfl⟩)
      | fail)
    go_ret3
    exact ⟨rfl, hf1.same (Fr.alloc _ _ _)⟩
theorem split_any (s : Str) (R : Str × Str × Int) (hR : splitS s = R) (hl : s.length ≤ 9223372036854775807) (w : World) :
    Calls Try.prog 9 #[.string ⟨s.toArray⟩] w fun e w' => e = .returned (.tuple #[.string ⟨R.1.toArray⟩, .string ⟨R.2.1.toArray⟩, .int .i64 R.2.2]) ∧ Fr (fun _ => False) w w' := by
  unfold splitS at hR
  have hle := dotS_le s
  by_cases hd : dotS s < s.length
  · rw [if_pos hd] at hR
    have hk := cut_in s _ rfl hd hl
    have km := right_any (s.take (dotS s)) _ rfl (by rw [List.length_take]; omega)
    have kn := right_any (s.drop (dotS s + 1)) _ rfl (by rw [List.length_drop]; omega)
    have h := split_in s _ _ _ _ _ hk km kn rfl w
    generalize rightS (s.take (dotS s)) = rm at *
    generalize rightS (s.drop (dotS s + 1)) = rn at *
    by_cases h1 : rm = 0
    · subst h1
      by_cases h2 : rn = 0
      · subst h2
        subst hR
        simpa using h
      · simp only [ne_eq, not_true_eq_false, if_false, h2, not_false_eq_true, if_true] at hR h
        subst hR
        exact h
    · simp only [ne_eq, h1, not_false_eq_true, if_true, if_false] at hR h
      subst hR
      exact h
  · rw [if_neg hd] at hR
    subst hR
    exact split_out s (by omega) w
end Go.Proofs.Ytlbcneoebamjiab
