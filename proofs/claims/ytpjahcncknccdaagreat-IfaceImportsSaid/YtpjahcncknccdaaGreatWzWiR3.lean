/- The Reader's error, what is left, its failure. -/
import Derived.Test.YtpjahcncknccdaaGreatWzWiR2
namespace Go.Proofs.YtpjahcncknccdaaGreat.Wi
open Go.RowKit
set_option linter.unusedSimpArgs false
set_option linter.unusedVariables false
set_option maxRecDepth 20000

theorem Rd.cells {w : World} {q : Nat} {rest : List UInt8} {e : Int} (h : Rd w q rest e) : ∃ ao cap, w.cell? ⟨q, 0, none⟩ = some (.slice ao rest.length cap) ∧ w.cell? ⟨q, 1, none⟩ = some (.int .i64 e) ∧ w.frozen? ⟨q, 0, none⟩ = false ∧ w.frozen? ⟨q, 1, none⟩ = false ∧ rest.length ≤ cap ∧ cap ≤ 9223372036854775807 := by
  obtain ⟨v, h1, ⟨ao, cap, rfl, a1, a2, a3, a4⟩, h3⟩ := h
  rw [bc_length] at *
  refine ⟨ao, cap, ?_, ?_, by simp [World.frozen?, h1], by simp [World.frozen?, h1], a1, by unfold maxLen at a2; omega⟩
  · rw [cell_of_row w q 0 _ 96 (0, 0) h1]; rfl
  · rw [cell_of_row w q 1 _ 96 (0, 0) h1]; rfl

theorem err_some (q : Nat) (rest : List UInt8) (c : Int) (w : World) (hr : Rd w q rest c) :
    Calls Tryz.prog 55 #[rp q] w fun e w' => e = .returned (.int .i64 c) ∧ w = w' := by
  obtain ⟨ao, cap, h0, h1, _⟩ := hr.cells
  clear hr
  go_enter Tryz.func55, Tryz.ntmps55
  go_wp2
  go_ret
  exact ⟨rfl, rfl⟩
theorem left_some (q : Nat) (rest : List UInt8) (c : Int) (w : World) (hr : Rd w q rest c) :
    Calls Tryz.prog 56 #[rp q] w fun e w' => e = .returned (.int .i64 (rest.length : Int)) ∧ w = w' := by
  obtain ⟨ao, cap, h0, h1, _, _, h2, h3⟩ := hr.cells
  clear hr
  go_enter Tryz.func56, Tryz.ntmps56
  go_wp2
  go_ret
  exact ⟨rfl, rfl⟩
theorem done_end (q : Nat) (w : World) (hr : Rd w q [] 0) :
    Calls Tryz.prog 28 #[rp q] w fun e w' => e = .returned (.int .i64 0) ∧ w = w' := by
  have k1 := err_some q [] 0 w hr
  have k2 := left_some q [] 0 w hr
  clear hr
  go_enter Tryz.func28, Tryz.ntmps28
  go_wp2_with (first
    | (go_at_call 55; refine k1.mono ?_; rintro e w' ⟨rfl, rfl⟩)
    | (go_at_call 56; refine k2.mono ?_; rintro e w' ⟨rfl, rfl⟩))
  go_ret
  exact ⟨rfl, rfl⟩
theorem done_err (pv : Value) (c : Int) (w : World) (hc : (c == 0) = false) (k1 : Calls Tryz.prog 55 #[pv] w fun e w' => e = .returned (.int .i64 c) ∧ w = w') :
    Calls Tryz.prog 28 #[pv] w fun e w' => e = .returned (.int .i64 c) ∧ w = w' := by
  go_enter Tryz.func28, Tryz.ntmps28
  go_wp2_with (go_at_call 55; refine k1.mono ?_; rintro e w' ⟨rfl, rfl⟩)
  go_ret
  exact ⟨rfl, rfl⟩

theorem rd_fail {w : World} {q : Nat} {rest : List UInt8} {c : Int} (hr : Rd w q rest 0) : Rd ((w.setCell ⟨q, 1, none⟩ (.int .i64 c)).setCell ⟨q, 0, none⟩ (.slice none 0 0)) q [] c ∧ Fr (fun k => k = q) w ((w.setCell ⟨q, 1, none⟩ (.int .i64 c)).setCell ⟨q, 0, none⟩ (.slice none 0 0)) := by
  obtain ⟨v, h1, h2, h3⟩ := hr
  have e1 : (w.setCell ⟨q, 1, none⟩ (.int .i64 c)).heap[q]? = some (.cells #[v, .int .i64 c] 96 (0, 0)) := by
    have := heap_setCell_same w q 1 #[v, .int .i64 0] 96 (.int .i64 c) h1
    simpa using this
  obtain ⟨a, b⟩ := rd_set (rest := []) e1 (Sl.nil _) (fun k hk => by cases hk)
  exact ⟨a, (Fr.setCell w ⟨q, 1, none⟩ _).same b⟩

theorem fail_first (q : Nat) (rest : List UInt8) (c : Int) (w : World) (hr : Rd w q rest 0) (hc : (c == 0) = false) :
    Calls Tryz.prog 26 #[rp q, .int .i64 c] w fun e w' => e = .returned (.tuple #[]) ∧ Rd w' q [] c ∧ Fr (fun k => k = q) w w' := by
  obtain ⟨ao, cap, h0, h1, f0, f1, h2, h3⟩ := hr.cells
  have hf : Hidden _ := rd_fail (c := c) hr
  clear hr
  go_enter Tryz.func26, Tryz.ntmps26
  go_wp2
  go_end0
  exact ⟨rfl, hf⟩

/-- A frame that has given up. -/
def giving (c : Int) (done : Bool) : FrameMode := .panicking [{ v := .iface 134 (.agg #[.int .i64 c]), recovered := done }]

theorem assert_gave (v : Value) (w : World) : (Instr.typeAssert (.iface 134 v) 20 134 true).run Tryz.prog w = .ok (.tuple #[v, .bool true]) w := by kernel_rfl
end Go.Proofs.YtpjahcncknccdaaGreat.Wi
