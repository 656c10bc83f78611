/- The law LexBlanks walked. -/
import Derived.Test.YtdhiombagbiffaaDoorLxBl
namespace Go.Proofs.YtdhiombagbiffaaDoor
open Go.RowKit Lx
set_option linter.unusedSimpArgs false
set_option linter.unusedVariables false

theorem cat (x y z : By) (hz : x ++ y = z) (h : x.length + y.length ≤ 9223372036854775807) (w : World) : (Op.stringOp .add ⟨x.toArray⟩ ⟨y.toArray⟩).run Tryd.prog w = .ok (.string ⟨z.toArray⟩) w := by
  rw [run_string_add_sum w _ _ (by simp [ByteArray.size]; omega), ByteArray.mk_append_mk, ← hz]

set_option maxRecDepth 20000 in
set_option maxHeartbeats 1000000 in
theorem blanks_bad (l m : By) (which what : Int) (q : Nat) (er : Int) (hl : l.length ≤ 140737488351232) (he : er ≠ 0) (hR : Hidden (lexS wordsL valS l = ([], q, er))) (w : World) (htab : F.Tab w) :
    Calls Tryd.prog 8 #[.string ⟨l.toArray⟩, .int .i64 which, .int .i64 what, .string ⟨m.toArray⟩] w fun e w' => e = .returned (.bool true) ∧ Fr (fun _ => False) w w' := by
  have kl := lex_any l [] q er (by omega) hR w htab
  have he2 : (er != 0) = true := by simpa using he
  clear he
  go_enter Tryd.func8, Tryd.ntmps8
  go_wp2_with (first
    | (go_at_call 9; refine kl.mono ?_; rintro e W1 ⟨v1, rfl, r1, f1⟩; obtain ⟨ao, cap, rfl⟩ := r1.len; have ka := alive_any W1 (tab_fr htab f1); simp only [List.length_nil])
    | (go_at_call 11; refine ka.mono ?_; rintro e W2 ⟨rfl, f2⟩))
  go_ret
  exact ⟨rfl, f1.same f2⟩
set_option maxRecDepth 20000 in
set_option maxHeartbeats 1000000 in
theorem blanks_out (l m : By) (which what : Int) (ts : List Tok) (hl : l.length ≤ 4096) (hts : ts.length ≤ 1024) (hw : which < 0 ∨ (¬ which < 0 ∧ (ts.length : Int) ≤ which)) (hR : Hidden (lexS wordsL valS l = (ts, 0, 0))) (w : World) (htab : F.Tab w) :
    Calls Tryd.prog 8 #[.string ⟨l.toArray⟩, .int .i64 which, .int .i64 what, .string ⟨m.toArray⟩] w fun e w' => e = .returned (.bool true) ∧ Fr (fun _ => False) w w' := by
  have kl := lex_any l ts 0 0 (by omega) hR w htab
  by_cases h0 : ts = []
  · subst h0
    go_enter Tryd.func8, Tryd.ntmps8
    clear hw
    go_wp2_with (first
      | (go_at_call 9; refine kl.mono ?_; rintro e W1 ⟨v1, rfl, r1, f1⟩; obtain ⟨ao, cap, rfl⟩ := r1.len; have ka := alive_any W1 (tab_fr htab f1); simp only [List.length_nil])
      | (go_at_call 11; refine ka.mono ?_; rintro e W2 ⟨rfl, f2⟩))
    go_ret
    exact ⟨rfl, f1.same f2⟩
  · have hz : ((ts.length : Int) == 0) = false := by
      rw [beq_eq_false_iff_ne]
      intro e
      exact h0 (List.eq_nil_of_length_eq_zero (by omega))
    clear h0
    rcases hw with hw | ⟨hw, hw2⟩
    · have d1 : decide (which < 0) = true := decide_eq_true hw
      go_enter Tryd.func8, Tryd.ntmps8
      go_wp2_with (first
        | (go_at_call 9; refine kl.mono ?_; rintro e W1 ⟨v1, rfl, r1, f1⟩; obtain ⟨ao, cap, rfl⟩ := r1.len; have ka := alive_any W1 (tab_fr htab f1))
        | (go_at_call 11; refine ka.mono ?_; rintro e W2 ⟨rfl, f2⟩))
      go_ret
      exact ⟨rfl, f1.same f2⟩
    · have d1 : decide (which < 0) = false := decide_eq_false hw
      have d2 : decide ((ts.length : Int) ≤ which) = true := decide_eq_true hw2
      go_enter Tryd.func8, Tryd.ntmps8
      go_wp2_with (first
        | (go_at_call 9; refine kl.mono ?_; rintro e W1 ⟨v1, rfl, r1, f1⟩; obtain ⟨ao, cap, rfl⟩ := r1.len; have ka := alive_any W1 (tab_fr htab f1))
        | (go_at_call 11; refine ka.mono ?_; rintro e W2 ⟨rfl, f2⟩))
      go_ret
      exact ⟨rfl, f1.same f2⟩
end Go.Proofs.YtdhiombagbiffaaDoor
