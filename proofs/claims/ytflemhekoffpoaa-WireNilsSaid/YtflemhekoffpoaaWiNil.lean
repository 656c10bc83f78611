/- A nil Reader, and the document's Reader that has failed. -/
import Derived.Test.YtflemhekoffpoaaWiLive
import Derived.Test.YtflemhekoffpoaaWiR5
import Derived.LoopN
import Derived.Laws.EntriesVeiled
namespace Go.Proofs.Ytflemhekoffpoaa
open Go.RowKit
set_option linter.unusedSimpArgs false
set_option linter.unusedVariables false

theorem mkf (fn : Fn) (first cap : Array Value) (w : World) : (Instr.makeFunc fn first cap).run Try.prog w = .ok (.func fn first cap) w := rfl

theorem nil_Byte (w : World) :
    Calls Try.prog 42 #[.pointer none] w fun e w' => e = .returned (.int .u8 0) ∧ Fr (fun _ => False) w w' := by
  have hmf := mkf
  have kf := fun (fv : Value) (w : World) (hfv : ∃ x y z, fv = .func x y z) => face_byte_dead (.pointer none) fv 2 w (by decide) ⟨none, rfl⟩ hfv (fun o => err_nil (w.alloc o))
  go_enter Try.func42, Try.ntmps42
  go_wp2_with (go_at_call 68; refine (kf _ _ ⟨_, _, _, rfl⟩).mono ?_; rintro e w1 ⟨rfl, rfl⟩)
  go_ret
  exact ⟨rfl, by repeat (first | exact Fr.refl _ _ | exact Fr.alloc _ _ _ | exact (Fr.alloc _ _ _).same (Fr.alloc _ _ _) | refine Fr.same ?_ (Fr.alloc _ _ _) | refine (Fr.alloc _ w _).same ?_)⟩

theorem nil_Bool (w : World) :
    Calls Try.prog 41 #[.pointer none] w fun e w' => e = .returned (.bool false) ∧ Fr (fun _ => False) w w' := by
  have hmf := mkf
  have kf := fun (fv : Value) (w : World) (hfv : ∃ x y z, fv = .func x y z) => face_bool_dead (.pointer none) fv 2 w (by decide) ⟨none, rfl⟩ hfv (fun o => err_nil (w.alloc o))
  go_enter Try.func41, Try.ntmps41
  go_wp2_with (go_at_call 66; refine (kf _ _ ⟨_, _, _, rfl⟩).mono ?_; rintro e w1 ⟨rfl, rfl⟩)
  go_ret
  exact ⟨rfl, by repeat (first | exact Fr.refl _ _ | exact Fr.alloc _ _ _ | exact (Fr.alloc _ _ _).same (Fr.alloc _ _ _) | refine Fr.same ?_ (Fr.alloc _ _ _) | refine (Fr.alloc _ w _).same ?_)⟩

theorem nil_Short (w : World) :
    Calls Try.prog 45 #[.pointer none] w fun e w' => e = .returned (.int .i64 0) ∧ Fr (fun _ => False) w w' := by
  have hmf := mkf
  have kf := fun (fv : Value) (w : World) (hfv : ∃ x y z, fv = .func x y z) => face_int_dead (.pointer none) fv 2 w (by decide) ⟨none, rfl⟩ hfv (fun o => err_nil (w.alloc o))
  go_enter Try.func45, Try.ntmps45
  go_wp2_with (go_at_call 71; refine (kf _ _ ⟨_, _, _, rfl⟩).mono ?_; rintro e w1 ⟨rfl, rfl⟩)
  go_ret
  exact ⟨rfl, by repeat (first | exact Fr.refl _ _ | exact Fr.alloc _ _ _ | exact (Fr.alloc _ _ _).same (Fr.alloc _ _ _) | refine Fr.same ?_ (Fr.alloc _ _ _) | refine (Fr.alloc _ w _).same ?_)⟩

theorem nil_Int (w : World) :
    Calls Try.prog 47 #[.pointer none] w fun e w' => e = .returned (.int .i64 0) ∧ Fr (fun _ => False) w w' := by
  have hmf := mkf
  have kf := fun (fv : Value) (w : World) (hfv : ∃ x y z, fv = .func x y z) => face_int_dead (.pointer none) fv 2 w (by decide) ⟨none, rfl⟩ hfv (fun o => err_nil (w.alloc o))
  go_enter Try.func47, Try.ntmps47
  go_wp2_with (go_at_call 71; refine (kf _ _ ⟨_, _, _, rfl⟩).mono ?_; rintro e w1 ⟨rfl, rfl⟩)
  go_ret
  exact ⟨rfl, by repeat (first | exact Fr.refl _ _ | exact Fr.alloc _ _ _ | exact (Fr.alloc _ _ _).same (Fr.alloc _ _ _) | refine Fr.same ?_ (Fr.alloc _ _ _) | refine (Fr.alloc _ w _).same ?_)⟩

theorem nil_Long (w : World) :
    Calls Try.prog 22 #[.pointer none] w fun e w' => e = .returned (.int .u64 0) ∧ Fr (fun _ => False) w w' := by
  have hmf := mkf
  have kf := fun (fv : Value) (w : World) (hfv : ∃ x y z, fv = .func x y z) => face_long_dead (.pointer none) fv 2 w (by decide) ⟨none, rfl⟩ hfv (fun o => err_nil (w.alloc o))
  go_enter Try.func22, Try.ntmps22
  go_wp2_with (go_at_call 62; refine (kf _ _ ⟨_, _, _, rfl⟩).mono ?_; rintro e w1 ⟨rfl, rfl⟩)
  go_ret
  exact ⟨rfl, by repeat (first | exact Fr.refl _ _ | exact Fr.alloc _ _ _ | exact (Fr.alloc _ _ _).same (Fr.alloc _ _ _) | refine Fr.same ?_ (Fr.alloc _ _ _) | refine (Fr.alloc _ w _).same ?_)⟩

theorem nil_Text (w : World) (m0 : Int) :
    Calls Try.prog 50 #[.pointer none, .int .i64 m0] w fun e w' => e = .returned (.string ⟨#[]⟩) ∧ Fr (fun _ => False) w w' := by
  have hmf := mkf
  have kf := fun (fv : Value) (w : World) (hfv : ∃ x y z, fv = .func x y z) => face_text_dead (.pointer none) fv 2 w (by decide) ⟨none, rfl⟩ hfv (fun o => err_nil (w.alloc o))
  go_enter Try.func50, Try.ntmps50
  go_wp2_with (go_at_call 74; refine (kf _ _ ⟨_, _, _, rfl⟩).mono ?_; rintro e w1 ⟨rfl, rfl⟩)
  go_ret
  exact ⟨rfl, by repeat (first | exact Fr.refl _ _ | exact Fr.alloc _ _ _ | exact (Fr.alloc _ _ _).same (Fr.alloc _ _ _) | refine Fr.same ?_ (Fr.alloc _ _ _) | refine (Fr.alloc _ w _).same ?_)⟩

theorem nil_Raw (w : World) (m0 : Int) :
    Calls Try.prog 52 #[.pointer none, .int .i64 m0] w fun e w' => e = .returned (.slice none 0 0) ∧ Fr (fun _ => False) w w' := by
  have hmf := mkf
  have kf := fun (fv : Value) (w : World) (hfv : ∃ x y z, fv = .func x y z) => face_raw_dead (.pointer none) fv 2 w (by decide) ⟨none, rfl⟩ hfv (fun o => err_nil (w.alloc o))
  go_enter Try.func52, Try.ntmps52
  go_wp2_with (go_at_call 77; refine (kf _ _ ⟨_, _, _, rfl⟩).mono ?_; rintro e w1 ⟨rfl, rfl⟩)
  go_ret
  exact ⟨rfl, by repeat (first | exact Fr.refl _ _ | exact Fr.alloc _ _ _ | exact (Fr.alloc _ _ _).same (Fr.alloc _ _ _) | refine Fr.same ?_ (Fr.alloc _ _ _) | refine (Fr.alloc _ w _).same ?_)⟩

theorem nil_Ints (w : World) (m0 : Int) :
    Calls Try.prog 55 #[.pointer none, .int .i64 m0] w fun e w' => e = .returned (.slice none 0 0) ∧ Fr (fun _ => False) w w' := by
  have hmf := mkf
  have kf := fun (fv : Value) (w : World) (hfv : ∃ x y z, fv = .func x y z) => face_ints_dead (.pointer none) fv 2 w (by decide) ⟨none, rfl⟩ hfv (fun o => err_nil (w.alloc o))
  go_enter Try.func55, Try.ntmps55
  go_wp2_with (go_at_call 81; refine (kf _ _ ⟨_, _, _, rfl⟩).mono ?_; rintro e w1 ⟨rfl, rfl⟩)
  go_ret
  exact ⟨rfl, by repeat (first | exact Fr.refl _ _ | exact Fr.alloc _ _ _ | exact (Fr.alloc _ _ _).same (Fr.alloc _ _ _) | refine Fr.same ?_ (Fr.alloc _ _ _) | refine (Fr.alloc _ w _).same ?_)⟩

theorem nil_Texts (w : World) (m0 : Int) (m1 : Int) :
    Calls Try.prog 58 #[.pointer none, .int .i64 m0, .int .i64 m1] w fun e w' => e = .returned (.slice none 0 0) ∧ Fr (fun _ => False) w w' := by
  have hmf := mkf
  have kf := fun (fv : Value) (w : World) (hfv : ∃ x y z, fv = .func x y z) => face_texts_dead (.pointer none) fv 2 w (by decide) ⟨none, rfl⟩ hfv (fun o => err_nil (w.alloc o))
  go_enter Try.func58, Try.ntmps58
  go_wp2_with (go_at_call 85; refine (kf _ _ ⟨_, _, _, rfl⟩).mono ?_; rintro e w1 ⟨rfl, rfl⟩)
  go_ret
  exact ⟨rfl, by repeat (first | exact Fr.refl _ _ | exact Fr.alloc _ _ _ | exact (Fr.alloc _ _ _).same (Fr.alloc _ _ _) | refine Fr.same ?_ (Fr.alloc _ _ _) | refine (Fr.alloc _ w _).same ?_)⟩

theorem nil_Fail (w : World) (c : Int) :
    Calls Try.prog 60 #[.pointer none, .int .i64 c] w fun e w' => e = .returned (.tuple #[]) ∧ w = w' := by
  go_enter Try.func60, Try.ntmps60
  go_wp2
  first | go_end0 | refine bodyPost_ret (results_none rfl _ _ _) rfl ?_
  exact ⟨rfl, rfl⟩

theorem dead_take (q : Nat) (n : Int) (w : World) (hq : w.cell? ⟨q, 2, none⟩ = some (.int .i64 2)) :
    Calls Try.prog 70 #[rp q, .int .i64 n] w fun e w' => e = .returned (.int .u64 0) ∧ w = w' := by
  go_enter Try.func70, Try.ntmps70
  go_wp2
  go_ret
  exact ⟨rfl, rfl⟩
theorem dead_Fail (q : Nat) (c : Int) (w : World) (hq : w.cell? ⟨q, 2, none⟩ = some (.int .i64 2)) :
    Calls Try.prog 61 #[rp q, .int .i64 c] w fun e w' => e = .returned (.tuple #[]) ∧ w = w' := by
  go_enter Try.func61, Try.ntmps61
  go_wp2
  first | go_end0 | refine bodyPost_ret (results_none rfl _ _ _) rfl ?_
  exact ⟨rfl, rfl⟩

theorem dead_Byte (q : Nat) (w : World) (hq : w.cell? ⟨q, 2, none⟩ = some (.int .i64 2)) :
    Calls Try.prog 43 #[rp q] w fun e w' => e = .returned (.int .u8 0) ∧ w = w' := by
  have kt := fun n => dead_take q n w hq
  clear hq
  go_enter Try.func43, Try.ntmps43
  go_wp2_with (go_at_call 70; refine (kt _).mono ?_; rintro e w1 ⟨rfl, rfl⟩)
  go_ret
  exact ⟨rfl, rfl⟩

theorem dead_Bool (q : Nat) (w : World) (hq : w.cell? ⟨q, 2, none⟩ = some (.int .i64 2)) :
    Calls Try.prog 44 #[rp q] w fun e w' => e = .returned (.bool false) ∧ w = w' := by
  have kt := fun n => dead_take q n w hq
  clear hq
  go_enter Try.func44, Try.ntmps44
  go_wp2_with (go_at_call 70; refine (kt _).mono ?_; rintro e w1 ⟨rfl, rfl⟩)
  go_ret
  exact ⟨rfl, rfl⟩

theorem dead_Short (q : Nat) (w : World) (hq : w.cell? ⟨q, 2, none⟩ = some (.int .i64 2)) :
    Calls Try.prog 46 #[rp q] w fun e w' => e = .returned (.int .i64 0) ∧ w = w' := by
  have kt := fun n => dead_take q n w hq
  clear hq
  go_enter Try.func46, Try.ntmps46
  go_wp2_with (go_at_call 70; refine (kt _).mono ?_; rintro e w1 ⟨rfl, rfl⟩)
  go_ret
  exact ⟨rfl, rfl⟩

theorem dead_Int (q : Nat) (w : World) (hq : w.cell? ⟨q, 2, none⟩ = some (.int .i64 2)) :
    Calls Try.prog 48 #[rp q] w fun e w' => e = .returned (.int .i64 0) ∧ w = w' := by
  have kt := fun n => dead_take q n w hq
  clear hq
  go_enter Try.func48, Try.ntmps48
  go_wp2_with (go_at_call 70; refine (kt _).mono ?_; rintro e w1 ⟨rfl, rfl⟩)
  go_ret
  exact ⟨rfl, rfl⟩

theorem dead_Long (q : Nat) (w : World) (hq : w.cell? ⟨q, 2, none⟩ = some (.int .i64 2)) :
    Calls Try.prog 49 #[rp q] w fun e w' => e = .returned (.int .u64 0) ∧ w = w' := by
  have kt := fun n => dead_take q n w hq
  clear hq
  go_enter Try.func49, Try.ntmps49
  go_wp2_with (go_at_call 70; refine (kt _).mono ?_; rintro e w1 ⟨rfl, rfl⟩)
  go_ret
  exact ⟨rfl, rfl⟩

theorem dead_many (q : Nat) (m : Int) (w : World) (hq : w.cell? ⟨q, 2, none⟩ = some (.int .i64 2)) :
    Calls Try.prog 80 #[rp q, .int .i64 m] w fun e w' => e = .returned (.int .i64 0) ∧ w = w' := by
  have kt := dead_Int q w hq
  clear hq
  by_cases hm : m < 0
  · have h1 : decide (m < 0) = true := by simpa using hm
    go_enter Try.func80, Try.ntmps80
    go_wp2_with (go_at_call 48; refine kt.mono ?_; rintro e w1 ⟨rfl, rfl⟩)
    go_ret
    exact ⟨rfl, rfl⟩
  · have h1 : decide (m < 0) = false := by simpa using hm
    go_enter Try.func80, Try.ntmps80
    go_wp2_with (go_at_call 48; refine kt.mono ?_; rintro e w1 ⟨rfl, rfl⟩)
    go_ret
    exact ⟨rfl, rfl⟩
theorem dead_Raw (q : Nat) (m : Int) (w : World) (hq : w.cell? ⟨q, 2, none⟩ = some (.int .i64 2)) :
    Calls Try.prog 53 #[rp q, .int .i64 m] w fun e w' => e = .returned (.slice none 0 0) ∧ w = w' := by
  have kt := dead_many q m w hq
  go_enter Try.func53, Try.ntmps53
  go_wp2_with (go_at_call 80; refine kt.mono ?_; rintro e w1 ⟨rfl, rfl⟩)
  go_ret
  exact ⟨rfl, rfl⟩
theorem dead_Text (q : Nat) (m : Int) (w : World) (hq : w.cell? ⟨q, 2, none⟩ = some (.int .i64 2)) :
    Calls Try.prog 51 #[rp q, .int .i64 m] w fun e w' => e = .returned (.string ⟨#[]⟩) ∧ w = w' := by
  have kt := dead_Raw q m w hq
  have hs := run_str w (.slice none 0 0) [] (Sl.nil w)
  clear hq
  go_enter Try.func51, Try.ntmps51
  go_wp2_with (go_at_call 53; refine kt.mono ?_; rintro e w1 ⟨rfl, rfl⟩)
  go_ret
  exact ⟨rfl, rfl⟩

theorem dead_Ints (q : Nat) (m : Int) (w : World) (hq : w.cell? ⟨q, 2, none⟩ = some (.int .i64 2)) :
    Calls Try.prog 56 #[rp q, .int .i64 m] w fun e w' => e = .returned (.slice none 0 0) ∧ w = w' := by
  have kt := dead_many q m w hq
  go_enter Try.func56, Try.ntmps56
  go_wp2_with (go_at_call 80; refine kt.mono ?_; rintro e w1 ⟨rfl, rfl⟩)
  refine wp_loop_rounds 1 ?_
  rw [rounds_succ]
  go_wp2
  go_ret
  exact ⟨rfl, rfl⟩

theorem dead_Texts (q : Nat) (m n : Int) (w : World) (hq : w.cell? ⟨q, 2, none⟩ = some (.int .i64 2)) :
    Calls Try.prog 59 #[rp q, .int .i64 m, .int .i64 n] w fun e w' => e = .returned (.slice none 0 0) ∧ w = w' := by
  have kt := dead_many q m w hq
  go_enter Try.func59, Try.ntmps59
  go_wp2_with (go_at_call 80; refine kt.mono ?_; rintro e w1 ⟨rfl, rfl⟩)
  refine wp_loop_rounds 1 ?_
  rw [rounds_succ]
  go_wp2
  go_ret
  exact ⟨rfl, rfl⟩

theorem same_Ints_nil (w : World) :
    Calls Try.prog 54 #[.slice none 0 0, .slice none 0 0] w fun e w' => e = .returned (.bool true) ∧ w = w' := by
  go_enter Try.func54, Try.ntmps54
  go_wp2
  refine wp_loop_rounds 1 ?_
  rw [rounds_succ]
  go_wp2
  go_ret
  exact ⟨rfl, rfl⟩

theorem same_Texts_nil (w : World) :
    Calls Try.prog 57 #[.slice none 0 0, .slice none 0 0] w fun e w' => e = .returned (.bool true) ∧ w = w' := by
  go_enter Try.func57, Try.ntmps57
  go_wp2
  refine wp_loop_rounds 1 ?_
  rw [rounds_succ]
  go_wp2
  go_ret
  exact ⟨rfl, rfl⟩
end Go.Proofs.Ytflemhekoffpoaa
