/- The law's 'asked', of a nil Reader and the document's Reader that has failed. -/
import Derived.Test.YtflemhekoffpoaaWiNil
import Derived.Test.YtflemhekoffpoaaWiWrite
import Derived.Deep.RegionHeld3
namespace Go.Proofs.Ytflemhekoffpoaa
open Go.RowKit
set_option linter.unusedSimpArgs false
set_option linter.unusedVariables false

/-- The block that a value is boxed in. -/
def opo (k : Int) (N : Nat) (s : List UInt8) (lv tv : Value) (mo lo : Int) : Obj := .cells #[.int .i64 k, .int .u64 (N : Int), .string ⟨s.toArray⟩, lv, tv, .int .i64 mo, .int .i64 lo] 32
theorem box_cells {w w1 : World} {k : Int} {N : Nat} {s : List UInt8} {lv tv : Value} {mo lo : Int} {S : Nat → Prop} (hf : Fr S (w.alloc (opo k N s lv tv mo lo)) w1) (hS : ¬ S w.heap.size) :
    w1.cell? ⟨w.heap.size, 0, none⟩ = some (.int .i64 k) ∧ w1.cell? ⟨w.heap.size, 1, none⟩ = some (.int .u64 (N : Int)) ∧ w1.cell? ⟨w.heap.size, 2, none⟩ = some (.string ⟨s.toArray⟩) ∧ w1.cell? ⟨w.heap.size, 3, none⟩ = some lv ∧ w1.cell? ⟨w.heap.size, 4, none⟩ = some tv ∧ w1.cell? ⟨w.heap.size, 5, none⟩ = some (.int .i64 mo) ∧ w1.cell? ⟨w.heap.size, 6, none⟩ = some (.int .i64 lo) := by
  have h := hf.heap (alloc_new w _) hS
  refine ⟨?_, ?_, ?_, ?_, ?_, ?_, ?_⟩ <;> (rw [cell_of_row w1 w.heap.size _ _ _ _ h]; rfl)

set_option maxHeartbeats 800000 in
theorem asked_1 (q : Nat) (lv tv : Value) (N : Nat) (s : List UInt8) (mo lo : Int) (w : World) (hq : w.cell? ⟨q, 2, none⟩ = some (.int .i64 2)) (hl : ∃ a b c, lv = .slice a b c) (ht : ∃ a b c, tv = .slice a b c) :
    Calls Try.prog 15 #[.pointer none, rp q, opv 1 N s lv tv mo lo] w fun e w' => e = .returned (.bool true) ∧ Fr (fun _ => False) w w' := by
  obtain ⟨a1, b1, c1, rfl⟩ := hl
  obtain ⟨a2, b2, c2, rfl⟩ := ht
  have hmf := mkf
  have t0 : ∀ o, (w.alloc o).cell? ⟨q, 2, none⟩ = some (.int .i64 2) := fun o => (Fr.alloc (fun _ => False) w o).cell hq (fun f => f)
  have bx : Hidden (∀ w1, Fr (fun _ => False) (w.alloc (opo 1 N s (.slice a1 b1 c1) (.slice a2 b2 c2) mo lo)) w1 → w1.cell? ⟨w.heap.size, 5, none⟩ = some (.int .i64 mo) ∧ w1.cell? ⟨w.heap.size, 6, none⟩ = some (.int .i64 lo)) := fun w1 hf => ⟨(box_cells hf (fun f => f)).2.2.2.2.2.1, (box_cells hf (fun f => f)).2.2.2.2.2.2⟩
  clear hq
  unfold opv
  go_enter Try.func15, Try.ntmps15
  go_wp2_with (first
    | (go_at_call 42; refine (nil_Byte _).mono ?_; rintro e w1 ⟨rfl, hf1⟩; have t1 := hf1.cell (t0 _) (fun f => f))
    | (go_at_call 43; refine (dead_Byte q _ t1).mono ?_; rintro e w2 ⟨rfl, rfl⟩))
  go_ret
  exact ⟨rfl, (Fr.alloc _ w _).same hf1⟩

set_option maxHeartbeats 800000 in
theorem asked_2 (q : Nat) (lv tv : Value) (N : Nat) (s : List UInt8) (mo lo : Int) (w : World) (hq : w.cell? ⟨q, 2, none⟩ = some (.int .i64 2)) (hl : ∃ a b c, lv = .slice a b c) (ht : ∃ a b c, tv = .slice a b c) :
    Calls Try.prog 15 #[.pointer none, rp q, opv 2 N s lv tv mo lo] w fun e w' => e = .returned (.bool true) ∧ Fr (fun _ => False) w w' := by
  obtain ⟨a1, b1, c1, rfl⟩ := hl
  obtain ⟨a2, b2, c2, rfl⟩ := ht
  have hmf := mkf
  have t0 : ∀ o, (w.alloc o).cell? ⟨q, 2, none⟩ = some (.int .i64 2) := fun o => (Fr.alloc (fun _ => False) w o).cell hq (fun f => f)
  have bx : Hidden (∀ w1, Fr (fun _ => False) (w.alloc (opo 2 N s (.slice a1 b1 c1) (.slice a2 b2 c2) mo lo)) w1 → w1.cell? ⟨w.heap.size, 5, none⟩ = some (.int .i64 mo) ∧ w1.cell? ⟨w.heap.size, 6, none⟩ = some (.int .i64 lo)) := fun w1 hf => ⟨(box_cells hf (fun f => f)).2.2.2.2.2.1, (box_cells hf (fun f => f)).2.2.2.2.2.2⟩
  clear hq
  unfold opv
  go_enter Try.func15, Try.ntmps15
  go_wp2_with (first
    | (go_at_call 41; refine (nil_Bool _).mono ?_; rintro e w1 ⟨rfl, hf1⟩; have t1 := hf1.cell (t0 _) (fun f => f))
    | (go_at_call 44; refine (dead_Bool q _ t1).mono ?_; rintro e w2 ⟨rfl, rfl⟩))
  go_ret
  exact ⟨rfl, (Fr.alloc _ w _).same hf1⟩

set_option maxHeartbeats 800000 in
theorem asked_3 (q : Nat) (lv tv : Value) (N : Nat) (s : List UInt8) (mo lo : Int) (w : World) (hq : w.cell? ⟨q, 2, none⟩ = some (.int .i64 2)) (hl : ∃ a b c, lv = .slice a b c) (ht : ∃ a b c, tv = .slice a b c) :
    Calls Try.prog 15 #[.pointer none, rp q, opv 3 N s lv tv mo lo] w fun e w' => e = .returned (.bool true) ∧ Fr (fun _ => False) w w' := by
  obtain ⟨a1, b1, c1, rfl⟩ := hl
  obtain ⟨a2, b2, c2, rfl⟩ := ht
  have hmf := mkf
  have t0 : ∀ o, (w.alloc o).cell? ⟨q, 2, none⟩ = some (.int .i64 2) := fun o => (Fr.alloc (fun _ => False) w o).cell hq (fun f => f)
  have bx : Hidden (∀ w1, Fr (fun _ => False) (w.alloc (opo 3 N s (.slice a1 b1 c1) (.slice a2 b2 c2) mo lo)) w1 → w1.cell? ⟨w.heap.size, 5, none⟩ = some (.int .i64 mo) ∧ w1.cell? ⟨w.heap.size, 6, none⟩ = some (.int .i64 lo)) := fun w1 hf => ⟨(box_cells hf (fun f => f)).2.2.2.2.2.1, (box_cells hf (fun f => f)).2.2.2.2.2.2⟩
  clear hq
  unfold opv
  go_enter Try.func15, Try.ntmps15
  go_wp2_with (first
    | (go_at_call 45; refine (nil_Short _).mono ?_; rintro e w1 ⟨rfl, hf1⟩; have t1 := hf1.cell (t0 _) (fun f => f))
    | (go_at_call 46; refine (dead_Short q _ t1).mono ?_; rintro e w2 ⟨rfl, rfl⟩))
  go_ret
  exact ⟨rfl, (Fr.alloc _ w _).same hf1⟩

set_option maxHeartbeats 800000 in
theorem asked_4 (q : Nat) (lv tv : Value) (N : Nat) (s : List UInt8) (mo lo : Int) (w : World) (hq : w.cell? ⟨q, 2, none⟩ = some (.int .i64 2)) (hl : ∃ a b c, lv = .slice a b c) (ht : ∃ a b c, tv = .slice a b c) :
    Calls Try.prog 15 #[.pointer none, rp q, opv 4 N s lv tv mo lo] w fun e w' => e = .returned (.bool true) ∧ Fr (fun _ => False) w w' := by
  obtain ⟨a1, b1, c1, rfl⟩ := hl
  obtain ⟨a2, b2, c2, rfl⟩ := ht
  have hmf := mkf
  have t0 : ∀ o, (w.alloc o).cell? ⟨q, 2, none⟩ = some (.int .i64 2) := fun o => (Fr.alloc (fun _ => False) w o).cell hq (fun f => f)
  have bx : Hidden (∀ w1, Fr (fun _ => False) (w.alloc (opo 4 N s (.slice a1 b1 c1) (.slice a2 b2 c2) mo lo)) w1 → w1.cell? ⟨w.heap.size, 5, none⟩ = some (.int .i64 mo) ∧ w1.cell? ⟨w.heap.size, 6, none⟩ = some (.int .i64 lo)) := fun w1 hf => ⟨(box_cells hf (fun f => f)).2.2.2.2.2.1, (box_cells hf (fun f => f)).2.2.2.2.2.2⟩
  clear hq
  unfold opv
  go_enter Try.func15, Try.ntmps15
  go_wp2_with (first
    | (go_at_call 47; refine (nil_Int _).mono ?_; rintro e w1 ⟨rfl, hf1⟩; have t1 := hf1.cell (t0 _) (fun f => f))
    | (go_at_call 48; refine (dead_Int q _ t1).mono ?_; rintro e w2 ⟨rfl, rfl⟩))
  go_ret
  exact ⟨rfl, (Fr.alloc _ w _).same hf1⟩

set_option maxHeartbeats 800000 in
theorem asked_5 (q : Nat) (lv tv : Value) (N : Nat) (s : List UInt8) (mo lo : Int) (w : World) (hq : w.cell? ⟨q, 2, none⟩ = some (.int .i64 2)) (hl : ∃ a b c, lv = .slice a b c) (ht : ∃ a b c, tv = .slice a b c) :
    Calls Try.prog 15 #[.pointer none, rp q, opv 5 N s lv tv mo lo] w fun e w' => e = .returned (.bool true) ∧ Fr (fun _ => False) w w' := by
  obtain ⟨a1, b1, c1, rfl⟩ := hl
  obtain ⟨a2, b2, c2, rfl⟩ := ht
  have hmf := mkf
  have t0 : ∀ o, (w.alloc o).cell? ⟨q, 2, none⟩ = some (.int .i64 2) := fun o => (Fr.alloc (fun _ => False) w o).cell hq (fun f => f)
  have bx : Hidden (∀ w1, Fr (fun _ => False) (w.alloc (opo 5 N s (.slice a1 b1 c1) (.slice a2 b2 c2) mo lo)) w1 → w1.cell? ⟨w.heap.size, 5, none⟩ = some (.int .i64 mo) ∧ w1.cell? ⟨w.heap.size, 6, none⟩ = some (.int .i64 lo)) := fun w1 hf => ⟨(box_cells hf (fun f => f)).2.2.2.2.2.1, (box_cells hf (fun f => f)).2.2.2.2.2.2⟩
  clear hq
  unfold opv
  go_enter Try.func15, Try.ntmps15
  go_wp2_with (first
    | (go_at_call 22; refine (nil_Long _).mono ?_; rintro e w1 ⟨rfl, hf1⟩; have t1 := hf1.cell (t0 _) (fun f => f))
    | (go_at_call 49; refine (dead_Long q _ t1).mono ?_; rintro e w2 ⟨rfl, rfl⟩))
  go_ret
  exact ⟨rfl, (Fr.alloc _ w _).same hf1⟩

set_option maxHeartbeats 800000 in
theorem asked_6 (q : Nat) (lv tv : Value) (N : Nat) (s : List UInt8) (mo lo : Int) (w : World) (hq : w.cell? ⟨q, 2, none⟩ = some (.int .i64 2)) (hl : ∃ a b c, lv = .slice a b c) (ht : ∃ a b c, tv = .slice a b c) :
    Calls Try.prog 15 #[.pointer none, rp q, opv 6 N s lv tv mo lo] w fun e w' => e = .returned (.bool true) ∧ Fr (fun _ => False) w w' := by
  obtain ⟨a1, b1, c1, rfl⟩ := hl
  obtain ⟨a2, b2, c2, rfl⟩ := ht
  have hmf := mkf
  have t0 : ∀ o, (w.alloc o).cell? ⟨q, 2, none⟩ = some (.int .i64 2) := fun o => (Fr.alloc (fun _ => False) w o).cell hq (fun f => f)
  have bx : Hidden (∀ w1, Fr (fun _ => False) (w.alloc (opo 6 N s (.slice a1 b1 c1) (.slice a2 b2 c2) mo lo)) w1 → w1.cell? ⟨w.heap.size, 5, none⟩ = some (.int .i64 mo) ∧ w1.cell? ⟨w.heap.size, 6, none⟩ = some (.int .i64 lo)) := fun w1 hf => ⟨(box_cells hf (fun f => f)).2.2.2.2.2.1, (box_cells hf (fun f => f)).2.2.2.2.2.2⟩
  clear hq
  unfold opv
  go_enter Try.func15, Try.ntmps15
  go_wp2_with fail
  go_region_held3 (fun w' => w'.cell? ⟨w.heap.size, 5, none⟩ = some (.int .i64 mo) ∧ w'.cell? ⟨w.heap.size, 6, none⟩ = some (.int .i64 lo) ∧ w'.cell? ⟨q, 2, none⟩ = some (.int .i64 2)) (go_keep) (first
    | (go_at_call 50; refine (nil_Text _ _).mono ?_; rintro e w1 ⟨rfl, hf1⟩; have hf2 : Fr (fun _ => False) w w1 := Fr.same ((Fr.alloc _ w _).same (Fr.drew _ _)) hf1; have t1 := hf1.cell (t0 _) (fun f => f); obtain ⟨d5, d6⟩ := bx w1 (Fr.same (Fr.drew _ _) hf1))
    | (go_at_call 51; first | (refine (dead_Text q _ _ t1).mono ?_; rintro e w2 ⟨rfl, rfl⟩) | (refine (dead_Text q _ _ (t0 _)).mono ?_; rintro e w2 ⟨rfl, rfl⟩)))
  all_goals
    go_wp2
    go_ret
    exact ⟨rfl, hf2⟩

set_option maxHeartbeats 800000 in
theorem asked_7 (q : Nat) (lv tv : Value) (N : Nat) (s : List UInt8) (mo lo : Int) (w : World) (hq : w.cell? ⟨q, 2, none⟩ = some (.int .i64 2)) (hl : ∃ a b c, lv = .slice a b c) (ht : ∃ a b c, tv = .slice a b c) :
    Calls Try.prog 15 #[.pointer none, rp q, opv 7 N s lv tv mo lo] w fun e w' => e = .returned (.bool true) ∧ Fr (fun _ => False) w w' := by
  obtain ⟨a1, b1, c1, rfl⟩ := hl
  obtain ⟨a2, b2, c2, rfl⟩ := ht
  have hmf := mkf
  have t0 : ∀ o, (w.alloc o).cell? ⟨q, 2, none⟩ = some (.int .i64 2) := fun o => (Fr.alloc (fun _ => False) w o).cell hq (fun f => f)
  have bx : Hidden (∀ w1, Fr (fun _ => False) (w.alloc (opo 7 N s (.slice a1 b1 c1) (.slice a2 b2 c2) mo lo)) w1 → w1.cell? ⟨w.heap.size, 5, none⟩ = some (.int .i64 mo) ∧ w1.cell? ⟨w.heap.size, 6, none⟩ = some (.int .i64 lo)) := fun w1 hf => ⟨(box_cells hf (fun f => f)).2.2.2.2.2.1, (box_cells hf (fun f => f)).2.2.2.2.2.2⟩
  clear hq
  unfold opv
  go_enter Try.func15, Try.ntmps15
  have hs0 := fun w => run_str w (.slice none 0 0) [] (Sl.nil w)
  go_wp2_with fail
  go_region_held3 (fun w' => w'.cell? ⟨w.heap.size, 5, none⟩ = some (.int .i64 mo) ∧ w'.cell? ⟨w.heap.size, 6, none⟩ = some (.int .i64 lo) ∧ w'.cell? ⟨q, 2, none⟩ = some (.int .i64 2)) (go_keep) (first
    | (go_at_call 52; refine (nil_Raw _ _).mono ?_; rintro e w1 ⟨rfl, hf1⟩; have hf2 : Fr (fun _ => False) w w1 := Fr.same ((Fr.alloc _ w _).same (Fr.drew _ _)) hf1; have t1 := hf1.cell (t0 _) (fun f => f); obtain ⟨d5, d6⟩ := bx w1 (Fr.same (Fr.drew _ _) hf1))
    | (go_at_call 53; first | (refine (dead_Raw q _ _ t1).mono ?_; rintro e w2 ⟨rfl, rfl⟩) | (refine (dead_Raw q _ _ (t0 _)).mono ?_; rintro e w2 ⟨rfl, rfl⟩)))
  all_goals
    go_wp2
    go_ret
    exact ⟨rfl, hf2⟩

set_option maxHeartbeats 800000 in
theorem asked_8 (q : Nat) (lv tv : Value) (N : Nat) (s : List UInt8) (mo lo : Int) (w : World) (hq : w.cell? ⟨q, 2, none⟩ = some (.int .i64 2)) (hl : ∃ a b c, lv = .slice a b c) (ht : ∃ a b c, tv = .slice a b c) :
    Calls Try.prog 15 #[.pointer none, rp q, opv 8 N s lv tv mo lo] w fun e w' => e = .returned (.bool true) ∧ Fr (fun _ => False) w w' := by
  obtain ⟨a1, b1, c1, rfl⟩ := hl
  obtain ⟨a2, b2, c2, rfl⟩ := ht
  have hmf := mkf
  have t0 : ∀ o, (w.alloc o).cell? ⟨q, 2, none⟩ = some (.int .i64 2) := fun o => (Fr.alloc (fun _ => False) w o).cell hq (fun f => f)
  have bx : Hidden (∀ w1, Fr (fun _ => False) (w.alloc (opo 8 N s (.slice a1 b1 c1) (.slice a2 b2 c2) mo lo)) w1 → w1.cell? ⟨w.heap.size, 5, none⟩ = some (.int .i64 mo) ∧ w1.cell? ⟨w.heap.size, 6, none⟩ = some (.int .i64 lo)) := fun w1 hf => ⟨(box_cells hf (fun f => f)).2.2.2.2.2.1, (box_cells hf (fun f => f)).2.2.2.2.2.2⟩
  clear hq
  unfold opv
  go_enter Try.func15, Try.ntmps15
  go_wp2_with fail
  go_region_held3 (fun w' => w'.cell? ⟨w.heap.size, 5, none⟩ = some (.int .i64 mo) ∧ w'.cell? ⟨w.heap.size, 6, none⟩ = some (.int .i64 lo) ∧ w'.cell? ⟨q, 2, none⟩ = some (.int .i64 2)) (go_keep) (first
    | (go_at_call 55; refine (nil_Ints _ _).mono ?_; rintro e w1 ⟨rfl, hf1⟩; have hf2 : Fr (fun _ => False) w w1 := Fr.same ((Fr.alloc _ w _).same (Fr.drew _ _)) hf1; have t1 := hf1.cell (t0 _) (fun f => f); obtain ⟨d5, d6⟩ := bx w1 (Fr.same (Fr.drew _ _) hf1))
    | (go_at_call 56; first | (refine (dead_Ints q _ _ t1).mono ?_; rintro e w2 ⟨rfl, rfl⟩) | (refine (dead_Ints q _ _ (t0 _)).mono ?_; rintro e w2 ⟨rfl, rfl⟩))
    | (go_at_call 54; refine (same_Ints_nil _).mono ?_; rintro e w3 ⟨rfl, rfl⟩))
  all_goals
    go_wp2
    go_ret
    exact ⟨rfl, hf2⟩

set_option maxHeartbeats 800000 in
theorem asked_9 (q : Nat) (lv tv : Value) (N : Nat) (s : List UInt8) (mo lo : Int) (w : World) (hq : w.cell? ⟨q, 2, none⟩ = some (.int .i64 2)) (hl : ∃ a b c, lv = .slice a b c) (ht : ∃ a b c, tv = .slice a b c) :
    Calls Try.prog 15 #[.pointer none, rp q, opv 9 N s lv tv mo lo] w fun e w' => e = .returned (.bool true) ∧ Fr (fun _ => False) w w' := by
  obtain ⟨a1, b1, c1, rfl⟩ := hl
  obtain ⟨a2, b2, c2, rfl⟩ := ht
  have hmf := mkf
  have t0 : ∀ o, (w.alloc o).cell? ⟨q, 2, none⟩ = some (.int .i64 2) := fun o => (Fr.alloc (fun _ => False) w o).cell hq (fun f => f)
  have bx : Hidden (∀ w1, Fr (fun _ => False) (w.alloc (opo 9 N s (.slice a1 b1 c1) (.slice a2 b2 c2) mo lo)) w1 → w1.cell? ⟨w.heap.size, 5, none⟩ = some (.int .i64 mo) ∧ w1.cell? ⟨w.heap.size, 6, none⟩ = some (.int .i64 lo)) := fun w1 hf => ⟨(box_cells hf (fun f => f)).2.2.2.2.2.1, (box_cells hf (fun f => f)).2.2.2.2.2.2⟩
  clear hq
  unfold opv
  go_enter Try.func15, Try.ntmps15
  go_wp2_with fail
  go_region_held3 (fun w' => w'.cell? ⟨w.heap.size, 5, none⟩ = some (.int .i64 mo) ∧ w'.cell? ⟨w.heap.size, 6, none⟩ = some (.int .i64 lo) ∧ w'.cell? ⟨q, 2, none⟩ = some (.int .i64 2)) (go_keep) (first
    | (go_at_call 58; refine (nil_Texts _ _ _).mono ?_; rintro e w1 ⟨rfl, hf1⟩; have hf2 : Fr (fun _ => False) w w1 := Fr.same ((Fr.alloc _ w _).same (Fr.drew _ _)) hf1; have t1 := hf1.cell (t0 _) (fun f => f); obtain ⟨d5, d6⟩ := bx w1 (Fr.same (Fr.drew _ _) hf1))
    | (go_at_call 59; first | (refine (dead_Texts q _ _ _ t1).mono ?_; rintro e w2 ⟨rfl, rfl⟩) | (refine (dead_Texts q _ _ _ (t0 _)).mono ?_; rintro e w2 ⟨rfl, rfl⟩))
    | (go_at_call 57; refine (same_Texts_nil _).mono ?_; rintro e w3 ⟨rfl, rfl⟩))
  all_goals
    go_wp2
    go_ret
    exact ⟨rfl, hf2⟩

set_option maxHeartbeats 800000 in
theorem asked_10 (q : Nat) (lv tv : Value) (N : Nat) (s : List UInt8) (mo lo : Int) (w : World) (hq : w.cell? ⟨q, 2, none⟩ = some (.int .i64 2)) (hl : ∃ a b c, lv = .slice a b c) (ht : ∃ a b c, tv = .slice a b c) :
    Calls Try.prog 15 #[.pointer none, rp q, opv 10 N s lv tv mo lo] w fun e w' => e = .returned (.bool true) ∧ Fr (fun _ => False) w w' := by
  obtain ⟨a1, b1, c1, rfl⟩ := hl
  obtain ⟨a2, b2, c2, rfl⟩ := ht
  have hmf := mkf
  have t0 : ∀ o, (w.alloc o).cell? ⟨q, 2, none⟩ = some (.int .i64 2) := fun o => (Fr.alloc (fun _ => False) w o).cell hq (fun f => f)
  have bx : Hidden (∀ w1, Fr (fun _ => False) (w.alloc (opo 10 N s (.slice a1 b1 c1) (.slice a2 b2 c2) mo lo)) w1 → w1.cell? ⟨w.heap.size, 5, none⟩ = some (.int .i64 mo) ∧ w1.cell? ⟨w.heap.size, 6, none⟩ = some (.int .i64 lo)) := fun w1 hf => ⟨(box_cells hf (fun f => f)).2.2.2.2.2.1, (box_cells hf (fun f => f)).2.2.2.2.2.2⟩
  clear hq
  unfold opv
  go_enter Try.func15, Try.ntmps15
  go_wp2_with (first
    | (go_at_call 60; refine (nil_Fail _ _).mono ?_; rintro e w1 ⟨rfl, rfl⟩)
    | (go_at_call 61; refine (dead_Fail q _ _ (t0 _)).mono ?_; rintro e w2 ⟨rfl, rfl⟩))
  go_ret
  exact ⟨rfl, Fr.alloc _ w _⟩

set_option maxHeartbeats 800000 in
theorem asked_0 (q : Nat) (lv tv : Value) (k : Int) (N : Nat) (s : List UInt8) (mo lo : Int) (w : World) (h1 : (k == 1) = false) (h2 : (k == 2) = false) (h3 : (k == 3) = false) (h4 : (k == 4) = false) (h5 : (k == 5) = false) (h6 : (k == 6) = false) (h7 : (k == 7) = false) (h8 : (k == 8) = false) (h9 : (k == 9) = false) (h10 : (k == 10) = false) (hl : ∃ a b c, lv = .slice a b c) (ht : ∃ a b c, tv = .slice a b c) :
    Calls Try.prog 15 #[.pointer none, rp q, opv k N s lv tv mo lo] w fun e w' => e = .returned (.bool true) ∧ Fr (fun _ => False) w w' := by
  obtain ⟨a1, b1, c1, rfl⟩ := hl
  obtain ⟨a2, b2, c2, rfl⟩ := ht
  unfold opv
  go_enter Try.func15, Try.ntmps15
  go_wp2
  go_ret
  exact ⟨rfl, Fr.alloc _ w _⟩

theorem asked_nil (q : Nat) (lv tv : Value) (k : Int) (N : Nat) (s : List UInt8) (mo lo : Int) (w : World) (hq : w.cell? ⟨q, 2, none⟩ = some (.int .i64 2)) (hl : ∃ a b c, lv = .slice a b c) (ht : ∃ a b c, tv = .slice a b c) :
    Calls Try.prog 15 #[.pointer none, rp q, opv k N s lv tv mo lo] w fun e w' => e = .returned (.bool true) ∧ Fr (fun _ => False) w w' := by
  by_cases e1 : k = 1
  · subst e1
    exact asked_1 q lv tv N s mo lo w hq hl ht
  by_cases e2 : k = 2
  · subst e2
    exact asked_2 q lv tv N s mo lo w hq hl ht
  by_cases e3 : k = 3
  · subst e3
    exact asked_3 q lv tv N s mo lo w hq hl ht
  by_cases e4 : k = 4
  · subst e4
    exact asked_4 q lv tv N s mo lo w hq hl ht
  by_cases e5 : k = 5
  · subst e5
    exact asked_5 q lv tv N s mo lo w hq hl ht
  by_cases e6 : k = 6
  · subst e6
    exact asked_6 q lv tv N s mo lo w hq hl ht
  by_cases e7 : k = 7
  · subst e7
    exact asked_7 q lv tv N s mo lo w hq hl ht
  by_cases e8 : k = 8
  · subst e8
    exact asked_8 q lv tv N s mo lo w hq hl ht
  by_cases e9 : k = 9
  · subst e9
    exact asked_9 q lv tv N s mo lo w hq hl ht
  by_cases e10 : k = 10
  · subst e10
    exact asked_10 q lv tv N s mo lo w hq hl ht
  exact asked_0 q lv tv k N s mo lo w (by simpa using e1) (by simpa using e2) (by simpa using e3) (by simpa using e4) (by simpa using e5) (by simpa using e6) (by simpa using e7) (by simpa using e8) (by simpa using e9) (by simpa using e10) hl ht
end Go.Proofs.Ytflemhekoffpoaa
