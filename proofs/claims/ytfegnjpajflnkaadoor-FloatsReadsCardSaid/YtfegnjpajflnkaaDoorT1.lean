/- Text at 1.5, from its parts. -/
import Derived.Test.YtfegnjpajflnkaaDoorW2
import Derived.Laws.IdiomStrings
namespace Go.Proofs.YtfegnjpajflnkaaDoor
open Go.RowKit Fl
set_option linter.unusedSimpArgs false
set_option linter.unusedVariables false

theorem conv_back (w : World) (a : Addr) (n cap : Nat) (l : List UInt8) (hn : l.length = n) (hc : ∀ j (hj : j < l.length), w.cell? (a.add j) = some (.int .u8 (l[j].toNat : Int))) :
    (convert 59 9 (.slice (some a) n cap)).run Tryd.prog w = .ok (.string ⟨l.toArray⟩) w := by
  subst hn
  exact run_convert_bytes_back w 59 9 5 a cap l Tryd.underlying59 Tryd.underlying5 Tryd.underlying9 hc

theorem frac_15 (w : World) :
    Calls Tryd.prog 66 #[.int .u64 2251799813685248] w fun e w' => e = .returned (.string ⟨#[46, 56]⟩) ∧ Grown w w' := by
  have hmk : ∀ w, (Instr.makeSlice 59 (.int .i64 0) (.int .i64 14)).run Tryd.prog w = .ok (.slice (some ⟨w.heap.size, 0, none⟩) 0 14) (w.alloc (.cells #[.int .u8 0, .int .u8 0, .int .u8 0, .int .u8 0, .int .u8 0, .int .u8 0, .int .u8 0, .int .u8 0, .int .u8 0, .int .u8 0, .int .u8 0, .int .u8 0, .int .u8 0, .int .u8 0] 5)) := fun _ => by kernel_rfl
  have hix : ∀ w, (Instr.index 9 (.string ⟨#[48, 49, 50, 51, 52, 53, 54, 55, 56, 57, 97, 98, 99, 100, 101, 102]⟩) (.int .u64 8)).run Tryd.prog w = .ok (.int .u8 56) w := fun _ => by kernel_rfl
  have hand : bits BinOp.and IntKind.u64 36028797018963968 4503599627370495 = 0 := by decide
  go_enter Tryd.func66, Tryd.ntmps66
  go_wp2
  refine wp_loop_rounds 2 ?_
  rw [rounds_succ]
  go_wp2
  rw [rounds_succ]
  go_wp2
  rw [conv_back _ _ 2 14 [46, 56] rfl ?hc]
  case hc =>
    intro j hj
    match j, hj with
    | 0, _ => simp [go_sem, World.cell?_alloc_past, Addr.add]
    | 1, _ => simp [go_sem, World.cell?_alloc_past, Addr.add]
  go_wp2
  go_ret
  exact ⟨rfl, by repeat (first | exact Grown.refl _ | apply Grown.drew | apply Grown.alloc)⟩

set_option maxRecDepth 100000 in
theorem len_1 (w : World) :
    Calls Tryd.prog 75 #[.int .u64 4503599627370496] w fun e w' => e = .returned (.int .i64 53) ∧ w = w' := by
  go_enter Tryd.func75, Tryd.ntmps75
  go_wp2
  go_ret
  exact ⟨by kernel_rfl, rfl⟩
set_option maxRecDepth 100000 in
theorem len_2 (w : World) :
    Calls Tryd.prog 75 #[.int .u64 6755399441055744] w fun e w' => e = .returned (.int .i64 53) ∧ w = w' := by
  go_enter Tryd.func75, Tryd.ntmps75
  go_wp2
  go_ret
  exact ⟨by kernel_rfl, rfl⟩
theorem exp_0 (w : World) :
    Calls Tryd.prog 67 #[.int .i64 0] w fun e w' => e = .returned (.string ⟨#[43, 48]⟩) ∧ w = w' := by
  go_enter Tryd.func67, Tryd.ntmps67
  go_wp2
  go_ret
  exact ⟨by kernel_rfl, rfl⟩
theorem lead_1 (w : World) :
    Calls Tryd.prog 65 #[.int .u64 4503599627370496] w fun e w' => e = .returned (.int .i64 11) ∧ w = w' := by
  go_enter Tryd.func65, Tryd.ntmps65
  go_wp2_with (go_at_call 75; refine (len_1 _).mono ?_; rintro e w' ⟨rfl, rfl⟩)
  go_ret
  exact ⟨rfl, rfl⟩
theorem lead_2 (w : World) :
    Calls Tryd.prog 65 #[.int .u64 6755399441055744] w fun e w' => e = .returned (.int .i64 11) ∧ w = w' := by
  go_enter Tryd.func65, Tryd.ntmps65
  go_wp2_with (go_at_call 75; refine (len_2 _).mono ?_; rintro e w' ⟨rfl, rfl⟩)
  go_ret
  exact ⟨rfl, rfl⟩
theorem lead_11 (x : Int) (h : x = 4503599627370496 ∨ x = 6755399441055744) (w : World) :
    Calls Tryd.prog 65 #[.int .u64 x] w fun e w' => e = .returned (.int .i64 11) ∧ w = w' := by
  rcases h with rfl | rfl
  · exact lead_1 w
  · exact lead_2 w
theorem size_15 (w : World) :
    Calls Tryd.prog 50 #[.int .i64 5, .int .u64 6755399441055744, .int .i64 (-52)] w fun e w' => e = .returned (.string ⟨#[48, 120, 49, 46, 56, 112, 43, 48]⟩) ∧ Grown w w' := by
  have hand : bits BinOp.and IntKind.u64 6755399441055744 4503599627370495 = 2251799813685248 := by decide
  go_enter Tryd.func50, Tryd.ntmps50
  go_wp2_with (first
    | (go_at_call 65; refine (lead_11 _ (by decide) _).mono ?_; rintro e w' ⟨rfl, rfl⟩)
    | (go_at_call 66; refine (frac_15 _).mono ?_; rintro e w' ⟨rfl, hg⟩)
    | (go_at_call 67; refine (exp_0 _).mono ?_; rintro e w' ⟨rfl, rfl⟩))
  go_ret
  exact ⟨rfl, hg⟩
end Go.Proofs.YtfegnjpajflnkaaDoor
