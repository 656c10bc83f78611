/- The Reader's error, what is left, its failure. -/
import Derived.Test.YtflemhekoffpoaaWiR2
namespace Go.Proofs.Ytflemhekoffpoaa
open Go.RowKit
set_option linter.unusedSimpArgs false
set_option linter.unusedVariables false

theorem Rd.cells {w : World} {q : Nat} {rest : List UInt8} {e : Int} (h : Rd w q rest e) : ∃ ao cap, w.cell? ⟨q, 0, none⟩ = some (.slice ao rest.length cap) ∧ w.cell? ⟨q, 1, none⟩ = some (.int .i64 e) ∧ w.frozen? ⟨q, 0, none⟩ = false ∧ w.frozen? ⟨q, 1, none⟩ = false ∧ rest.length ≤ cap ∧ cap ≤ 9223372036854775807 := by
  obtain ⟨v, h1, ⟨ao, cap, rfl, a1, a2, a3, a4⟩, h3⟩ := h
  rw [bc_length] at *
  refine ⟨ao, cap, ?_, ?_, by simp [World.frozen?, h1], by simp [World.frozen?, h1], a1, by unfold maxLen at a2; omega⟩
  · rw [cell_of_row w q 0 _ 68 (0, 0) h1]; rfl
  · rw [cell_of_row w q 1 _ 68 (0, 0) h1]; rfl

theorem err_some (q : Nat) (rest : List UInt8) (c : Int) (w : World) (hr : Rd w q rest c) :
    Calls Try.prog 18 #[rp q] w fun e w' => e = .returned (.int .i64 c) ∧ w = w' := by
  obtain ⟨ao, cap, h0, h1, _⟩ := hr.cells
  clear hr
  go_enter Try.func18, Try.ntmps18
  go_wp2
  go_ret
  exact ⟨rfl, rfl⟩
theorem err_nil (w : World) :
    Calls Try.prog 18 #[.pointer none] w fun e w' => e = .returned (.int .i64 2) ∧ w = w' := by
  go_enter Try.func18, Try.ntmps18
  go_wp2
  go_ret
  exact ⟨rfl, rfl⟩
theorem left_some (q : Nat) (rest : List UInt8) (c : Int) (w : World) (hr : Rd w q rest c) :
    Calls Try.prog 16 #[rp q] w fun e w' => e = .returned (.int .i64 (rest.length : Int)) ∧ w = w' := by
  obtain ⟨ao, cap, h0, h1, _, _, h2, h3⟩ := hr.cells
  clear hr
  go_enter Try.func16, Try.ntmps16
  go_wp2
  go_ret
  exact ⟨rfl, rfl⟩
theorem left_nil (w : World) :
    Calls Try.prog 16 #[.pointer none] w fun e w' => e = .returned (.int .i64 0) ∧ w = w' := by
  go_enter Try.func16, Try.ntmps16
  go_wp2
  go_ret
  exact ⟨rfl, rfl⟩
theorem done_end (q : Nat) (w : World) (hr : Rd w q [] 0) :
    Calls Try.prog 19 #[rp q] w fun e w' => e = .returned (.int .i64 0) ∧ w = w' := by
  have k1 := err_some q [] 0 w hr
  have k2 := left_some q [] 0 w hr
  clear hr
  go_enter Try.func19, Try.ntmps19
  go_wp2_with (first
    | (go_at_call 18; refine k1.mono ?_; rintro e w' ⟨rfl, rfl⟩)
    | (go_at_call 16; refine k2.mono ?_; rintro e w' ⟨rfl, rfl⟩))
  go_ret
  exact ⟨rfl, rfl⟩
theorem done_err (pv : Value) (c : Int) (w : World) (hc : (c == 0) = false) (k1 : Calls Try.prog 18 #[pv] w fun e w' => e = .returned (.int .i64 c) ∧ w = w') :
    Calls Try.prog 19 #[pv] w fun e w' => e = .returned (.int .i64 c) ∧ w = w' := by
  go_enter Try.func19, Try.ntmps19
  go_wp2_with (go_at_call 18; refine k1.mono ?_; rintro e w' ⟨rfl, rfl⟩)
  go_ret
  exact ⟨rfl, rfl⟩

theorem rd_fail {w : World} {q : Nat} {rest : List UInt8} {c : Int} (hr : Rd w q rest 0) : Rd ((w.setCell ⟨q, 1, none⟩ (.int .i64 c)).setCell ⟨q, 0, none⟩ (.slice none 0 0)) q [] c ∧ Fr (fun k => k = q) w ((w.setCell ⟨q, 1, none⟩ (.int .i64 c)).setCell ⟨q, 0, none⟩ (.slice none 0 0)) := by
  obtain ⟨v, h1, h2, h3⟩ := hr
  have e1 : (w.setCell ⟨q, 1, none⟩ (.int .i64 c)).heap[q]? = some (.cells #[v, .int .i64 c] 68 (0, 0)) := by
    have := heap_setCell_same w q 1 #[v, .int .i64 0] 68 (.int .i64 c) h1
    simpa using this
  obtain ⟨a, b⟩ := rd_set (rest := []) e1 (Sl.nil _) (fun k hk => by cases hk)
  exact ⟨a, (Fr.setCell w ⟨q, 1, none⟩ _).same b⟩

theorem fail_first (q : Nat) (rest : List UInt8) (c : Int) (w : World) (hr : Rd w q rest 0) (hc : (c == 0) = false) :
    Calls Try.prog 60 #[rp q, .int .i64 c] w fun e w' => e = .returned (.tuple #[]) ∧ Rd w' q [] c ∧ Fr (fun k => k = q) w w' := by
  obtain ⟨ao, cap, h0, h1, f0, f1, h2, h3⟩ := hr.cells
  have hf : Hidden _ := rd_fail (c := c) hr
  clear hr
  go_enter Try.func60, Try.ntmps60
  go_wp2
  go_end0
  exact ⟨rfl, hf⟩

/-- A frame that has given up. -/
def giving (c : Int) (done : Bool) : FrameMode := .panicking [{ v := .iface 95 (.agg #[.int .i64 c]), recovered := done }]

theorem assert_gave (v : Value) (w : World) : (Instr.typeAssert (.iface 95 v) 20 95 true).run Try.prog w = .ok (.tuple #[v, .bool true]) w := by kernel_rfl

end Go.Proofs.Ytflemhekoffpoaa
