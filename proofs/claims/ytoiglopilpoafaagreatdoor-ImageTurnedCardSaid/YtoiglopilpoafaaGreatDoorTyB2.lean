/- The program's operators. -/
import Derived.Test.YtoiglopilpoafaaGreatDoorPk11
namespace Go.Proofs.YtoiglopilpoafaaGreatDoor.Ty
open Go.RowKit
set_option linter.unusedSimpArgs false
set_option linter.unusedVariables false

set_option maxRecDepth 20000 in
theorem taken_any (x0 x1 x2 x3 t : Int) (w : World) :
    Calls Tryz.prog 126 #[.agg #[ci x0, ci x1, ci x2, ci x3], ci t] w fun e w' => e = .returned (.tuple #[ci (takenS x1 x2 x3 t).1, ci (takenS x1 x2 x3 t).2]) ∧ Fr (fun _ => False) w w' := by
  have kv := ofv_any t
  unfold takenS
  by_cases h1 : t = 1
  · subst h1
    rw [show valued 1 = true from rfl] at kv
    by_cases hx : x1 = 0
    · subst hx
      go_enter Tryz.func126, Tryz.ntmps126
      go_wp2_with (go_at_call 131; refine (kv _).mono ?_; rintro e w' ⟨rfl, rfl⟩)
      go_ret2
      exact ⟨rfl, Fr.alloc _ _ _⟩
    · have hb : (x1 == 0) = false := by simpa using hx
      have hxH : Hidden (x1 ≠ 0) := hx
      clear hx
      go_enter Tryz.func126, Tryz.ntmps126
      go_wp2_with (go_at_call 131; refine (kv _).mono ?_; rintro e w' ⟨rfl, rfl⟩)
      go_ret2
      refine ⟨?_, Fr.alloc _ _ _⟩
      simp [show x1 ≠ 0 from hxH]
  by_cases h2 : t = 2
  · subst h2
    rw [show valued 2 = true from rfl] at kv
    by_cases hx : x2 = 0
    · subst hx
      go_enter Tryz.func126, Tryz.ntmps126
      go_wp2_with (go_at_call 131; refine (kv _).mono ?_; rintro e w' ⟨rfl, rfl⟩)
      go_ret2
      exact ⟨rfl, Fr.alloc _ _ _⟩
    · have hb : (x2 == 0) = false := by simpa using hx
      have hxH : Hidden (x2 ≠ 0) := hx
      clear hx
      go_enter Tryz.func126, Tryz.ntmps126
      go_wp2_with (go_at_call 131; refine (kv _).mono ?_; rintro e w' ⟨rfl, rfl⟩)
      go_ret2
      refine ⟨?_, Fr.alloc _ _ _⟩
      simp [show x2 ≠ 0 from hxH]
  by_cases h3 : t = 3
  · subst h3
    rw [show valued 3 = true from rfl] at kv
    by_cases hx : x3 = 0
    · subst hx
      go_enter Tryz.func126, Tryz.ntmps126
      go_wp2_with (go_at_call 131; refine (kv _).mono ?_; rintro e w' ⟨rfl, rfl⟩)
      go_ret2
      exact ⟨rfl, Fr.alloc _ _ _⟩
    · have hb : (x3 == 0) = false := by simpa using hx
      have hxH : Hidden (x3 ≠ 0) := hx
      clear hx
      go_enter Tryz.func126, Tryz.ntmps126
      go_wp2_with (go_at_call 131; refine (kv _).mono ?_; rintro e w' ⟨rfl, rfl⟩)
      go_ret2
      refine ⟨?_, Fr.alloc _ _ _⟩
      simp [show x3 ≠ 0 from hxH]
  have hv : valued t = false := by
    rw [← Bool.not_eq_true, valued_iff]
    omega
  rw [hv] at kv
  rw [if_neg h1, if_neg h2, if_neg h3]
  clear h1 h2 h3 hv
  go_enter Tryz.func126, Tryz.ntmps126
  go_wp2_with (go_at_call 131; refine (kv _).mono ?_; rintro e w' ⟨rfl, rfl⟩)
  go_ret2
  exact ⟨rfl, Fr.alloc _ _ _⟩
set_option maxRecDepth 20000 in
set_option maxHeartbeats 1000000 in
theorem unary_1 (t : Int) (w : World) : Calls Tryz.prog 122 #[ci 1, ci t] w fun e w' => e = .returned (.tuple #[ci (takenS 1 2 0 t).1, ci (takenS 1 2 0 t).2]) ∧ Fr (fun _ => False) w w' := by
  have kt := fun w => taken_any 0 1 2 0 t w
  generalize takenS 1 2 0 t = R at kt ⊢
  go_enter Tryz.func122, Tryz.ntmps122
  go_upto_region 1 with fail
  apply wp_region_lit
  refine wpl_build rfl _ _ rfl #[ci 0, ci 1, ci 2, ci 0] (by kernel_rfl) ?_
  intro a' ha; simp only [Act.put, List.setIfInBounds_toArray, List.set_cons_zero, List.set_cons_succ] at ha; subst ha
  refine wpl_build rfl _ _ rfl #[ci 0, ci 0, ci 0, ci 3] (by kernel_rfl) ?_
  intro a' ha; simp only [Act.put, List.setIfInBounds_toArray, List.set_cons_zero, List.set_cons_succ] at ha; subst ha
  refine wpl_build rfl _ _ rfl #[ci 0, ci 0, ci 1, ci 0] (by kernel_rfl) ?_
  intro a' ha; simp only [Act.put, List.setIfInBounds_toArray, List.set_cons_zero, List.set_cons_succ] at ha; subst ha
  refine wpl_build rfl _ _ rfl #[ci 0, ci 2, ci 0, ci 0] (by kernel_rfl) ?_
  intro a' ha; simp only [Act.put, List.setIfInBounds_toArray, List.set_cons_zero, List.set_cons_succ] at ha; subst ha
  refine wpl_build rfl _ _ rfl #[ci 0, ci 0, ci 0, ci 0, ci 0, ci 1, ci 2, ci 0, ci 0, ci 0, ci 0, ci 3, ci 0, ci 0, ci 1, ci 0, ci 0, ci 2, ci 0, ci 0] (by kernel_rfl) ?_
  intro a' ha; simp only [Act.put, List.setIfInBounds_toArray, List.set_cons_zero, List.set_cons_succ] at ha; subst ha
  refine wpl_alloc rfl (.pointer (some ⟨w.heap.size, 0, none⟩)) (.cells #[ci 0, ci 0, ci 0, ci 0, ci 0, ci 0, ci 0, ci 0, ci 0, ci 0, ci 0, ci 0, ci 0, ci 0, ci 0, ci 0, ci 0, ci 0, ci 0, ci 0] 196 (0, 0)) (by kernel_rfl) ?_
  intro a' ha; simp only [Act.put, List.setIfInBounds_toArray, List.set_cons_zero, List.set_cons_succ] at ha; subst ha
  refine wpl_store rfl _ _ _ rfl #[ci 0, ci 0, ci 0, ci 0, ci 0, ci 1, ci 2, ci 0, ci 0, ci 0, ci 0, ci 3, ci 0, ci 0, ci 1, ci 0, ci 0, ci 2, ci 0, ci 0] #[ci 0, ci 0, ci 0, ci 0, ci 0, ci 0, ci 0, ci 0, ci 0, ci 0, ci 0, ci 0, ci 0, ci 0, ci 0, ci 0, ci 0, ci 0, ci 0, ci 0] _ rfl rfl (by kernel_rfl) rfl (by kernel_rfl) ?_
  intro a' ha; simp only [Act.put, List.setIfInBounds_toArray, List.set_cons_zero, List.set_cons_succ] at ha; subst ha
  go_wp2_with (go_at_call 126; refine (kt _).mono ?_; rintro e w1 ⟨rfl, f1⟩)
  go_ret2
  exact ⟨rfl, (Fr.alloc _ _ _).same f1⟩
set_option maxRecDepth 20000 in
set_option maxHeartbeats 1000000 in
theorem unary_2 (t : Int) (w : World) : Calls Tryz.prog 122 #[ci 2, ci t] w fun e w' => e = .returned (.tuple #[ci (takenS 0 0 3 t).1, ci (takenS 0 0 3 t).2]) ∧ Fr (fun _ => False) w w' := by
  have kt := fun w => taken_any 0 0 0 3 t w
  generalize takenS 0 0 3 t = R at kt ⊢
  go_enter Tryz.func122, Tryz.ntmps122
  go_upto_region 1 with fail
  apply wp_region_lit
  refine wpl_build rfl _ _ rfl #[ci 0, ci 1, ci 2, ci 0] (by kernel_rfl) ?_
  intro a' ha; simp only [Act.put, List.setIfInBounds_toArray, List.set_cons_zero, List.set_cons_succ] at ha; subst ha
  refine wpl_build rfl _ _ rfl #[ci 0, ci 0, ci 0, ci 3] (by kernel_rfl) ?_
  intro a' ha; simp only [Act.put, List.setIfInBounds_toArray, List.set_cons_zero, List.set_cons_succ] at ha; subst ha
  refine wpl_build rfl _ _ rfl #[ci 0, ci 0, ci 1, ci 0] (by kernel_rfl) ?_
  intro a' ha; simp only [Act.put, List.setIfInBounds_toArray, List.set_cons_zero, List.set_cons_succ] at ha; subst ha
  refine wpl_build rfl _ _ rfl #[ci 0, ci 2, ci 0, ci 0] (by kernel_rfl) ?_
  intro a' ha; simp only [Act.put, List.setIfInBounds_toArray, List.set_cons_zero, List.set_cons_succ] at ha; subst ha
  refine wpl_build rfl _ _ rfl #[ci 0, ci 0, ci 0, ci 0, ci 0, ci 1, ci 2, ci 0, ci 0, ci 0, ci 0, ci 3, ci 0, ci 0, ci 1, ci 0, ci 0, ci 2, ci 0, ci 0] (by kernel_rfl) ?_
  intro a' ha; simp only [Act.put, List.setIfInBounds_toArray, List.set_cons_zero, List.set_cons_succ] at ha; subst ha
  refine wpl_alloc rfl (.pointer (some ⟨w.heap.size, 0, none⟩)) (.cells #[ci 0, ci 0, ci 0, ci 0, ci 0, ci 0, ci 0, ci 0, ci 0, ci 0, ci 0, ci 0, ci 0, ci 0, ci 0, ci 0, ci 0, ci 0, ci 0, ci 0] 196 (0, 0)) (by kernel_rfl) ?_
  intro a' ha; simp only [Act.put, List.setIfInBounds_toArray, List.set_cons_zero, List.set_cons_succ] at ha; subst ha
  refine wpl_store rfl _ _ _ rfl #[ci 0, ci 0, ci 0, ci 0, ci 0, ci 1, ci 2, ci 0, ci 0, ci 0, ci 0, ci 3, ci 0, ci 0, ci 1, ci 0, ci 0, ci 2, ci 0, ci 0] #[ci 0, ci 0, ci 0, ci 0, ci 0, ci 0, ci 0, ci 0, ci 0, ci 0, ci 0, ci 0, ci 0, ci 0, ci 0, ci 0, ci 0, ci 0, ci 0, ci 0] _ rfl rfl (by kernel_rfl) rfl (by kernel_rfl) ?_
  intro a' ha; simp only [Act.put, List.setIfInBounds_toArray, List.set_cons_zero, List.set_cons_succ] at ha; subst ha
  go_wp2_with (go_at_call 126; refine (kt _).mono ?_; rintro e w1 ⟨rfl, f1⟩)
  go_ret2
  exact ⟨rfl, (Fr.alloc _ _ _).same f1⟩
set_option maxRecDepth 20000 in
set_option maxHeartbeats 1000000 in
theorem unary_3 (t : Int) (w : World) : Calls Tryz.prog 122 #[ci 3, ci t] w fun e w' => e = .returned (.tuple #[ci (takenS 0 1 0 t).1, ci (takenS 0 1 0 t).2]) ∧ Fr (fun _ => False) w w' := by
  have kt := fun w => taken_any 0 0 1 0 t w
  generalize takenS 0 1 0 t = R at kt ⊢
  go_enter Tryz.func122, Tryz.ntmps122
  go_upto_region 1 with fail
  apply wp_region_lit
  refine wpl_build rfl _ _ rfl #[ci 0, ci 1, ci 2, ci 0] (by kernel_rfl) ?_
  intro a' ha; simp only [Act.put, List.setIfInBounds_toArray, List.set_cons_zero, List.set_cons_succ] at ha; subst ha
  refine wpl_build rfl _ _ rfl #[ci 0, ci 0, ci 0, ci 3] (by kernel_rfl) ?_
  intro a' ha; simp only [Act.put, List.setIfInBounds_toArray, List.set_cons_zero, List.set_cons_succ] at ha; subst ha
  refine wpl_build rfl _ _ rfl #[ci 0, ci 0, ci 1, ci 0] (by kernel_rfl) ?_
  intro a' ha; simp only [Act.put, List.setIfInBounds_toArray, List.set_cons_zero, List.set_cons_succ] at ha; subst ha
  refine wpl_build rfl _ _ rfl #[ci 0, ci 2, ci 0, ci 0] (by kernel_rfl) ?_
  intro a' ha; simp only [Act.put, List.setIfInBounds_toArray, List.set_cons_zero, List.set_cons_succ] at ha; subst ha
  refine wpl_build rfl _ _ rfl #[ci 0, ci 0, ci 0, ci 0, ci 0, ci 1, ci 2, ci 0, ci 0, ci 0, ci 0, ci 3, ci 0, ci 0, ci 1, ci 0, ci 0, ci 2, ci 0, ci 0] (by kernel_rfl) ?_
  intro a' ha; simp only [Act.put, List.setIfInBounds_toArray, List.set_cons_zero, List.set_cons_succ] at ha; subst ha
  refine wpl_alloc rfl (.pointer (some ⟨w.heap.size, 0, none⟩)) (.cells #[ci 0, ci 0, ci 0, ci 0, ci 0, ci 0, ci 0, ci 0, ci 0, ci 0, ci 0, ci 0, ci 0, ci 0, ci 0, ci 0, ci 0, ci 0, ci 0, ci 0] 196 (0, 0)) (by kernel_rfl) ?_
  intro a' ha; simp only [Act.put, List.setIfInBounds_toArray, List.set_cons_zero, List.set_cons_succ] at ha; subst ha
  refine wpl_store rfl _ _ _ rfl #[ci 0, ci 0, ci 0, ci 0, ci 0, ci 1, ci 2, ci 0, ci 0, ci 0, ci 0, ci 3, ci 0, ci 0, ci 1, ci 0, ci 0, ci 2, ci 0, ci 0] #[ci 0, ci 0, ci 0, ci 0, ci 0, ci 0, ci 0, ci 0, ci 0, ci 0, ci 0, ci 0, ci 0, ci 0, ci 0, ci 0, ci 0, ci 0, ci 0, ci 0] _ rfl rfl (by kernel_rfl) rfl (by kernel_rfl) ?_
  intro a' ha; simp only [Act.put, List.setIfInBounds_toArray, List.set_cons_zero, List.set_cons_succ] at ha; subst ha
  go_wp2_with (go_at_call 126; refine (kt _).mono ?_; rintro e w1 ⟨rfl, f1⟩)
  go_ret2
  exact ⟨rfl, (Fr.alloc _ _ _).same f1⟩
set_option maxRecDepth 20000 in
set_option maxHeartbeats 1000000 in
theorem unary_4 (t : Int) (w : World) : Calls Tryz.prog 122 #[ci 4, ci t] w fun e w' => e = .returned (.tuple #[ci (takenS 2 0 0 t).1, ci (takenS 2 0 0 t).2]) ∧ Fr (fun _ => False) w w' := by
  have kt := fun w => taken_any 0 2 0 0 t w
  generalize takenS 2 0 0 t = R at kt ⊢
  go_enter Tryz.func122, Tryz.ntmps122
  go_upto_region 1 with fail
  apply wp_region_lit
  refine wpl_build rfl _ _ rfl #[ci 0, ci 1, ci 2, ci 0] (by kernel_rfl) ?_
  intro a' ha; simp only [Act.put, List.setIfInBounds_toArray, List.set_cons_zero, List.set_cons_succ] at ha; subst ha
  refine wpl_build rfl _ _ rfl #[ci 0, ci 0, ci 0, ci 3] (by kernel_rfl) ?_
  intro a' ha; simp only [Act.put, List.setIfInBounds_toArray, List.set_cons_zero, List.set_cons_succ] at ha; subst ha
  refine wpl_build rfl _ _ rfl #[ci 0, ci 0, ci 1, ci 0] (by kernel_rfl) ?_
  intro a' ha; simp only [Act.put, List.setIfInBounds_toArray, List.set_cons_zero, List.set_cons_succ] at ha; subst ha
  refine wpl_build rfl _ _ rfl #[ci 0, ci 2, ci 0, ci 0] (by kernel_rfl) ?_
  intro a' ha; simp only [Act.put, List.setIfInBounds_toArray, List.set_cons_zero, List.set_cons_succ] at ha; subst ha
  refine wpl_build rfl _ _ rfl #[ci 0, ci 0, ci 0, ci 0, ci 0, ci 1, ci 2, ci 0, ci 0, ci 0, ci 0, ci 3, ci 0, ci 0, ci 1, ci 0, ci 0, ci 2, ci 0, ci 0] (by kernel_rfl) ?_
  intro a' ha; simp only [Act.put, List.setIfInBounds_toArray, List.set_cons_zero, List.set_cons_succ] at ha; subst ha
  refine wpl_alloc rfl (.pointer (some ⟨w.heap.size, 0, none⟩)) (.cells #[ci 0, ci 0, ci 0, ci 0, ci 0, ci 0, ci 0, ci 0, ci 0, ci 0, ci 0, ci 0, ci 0, ci 0, ci 0, ci 0, ci 0, ci 0, ci 0, ci 0] 196 (0, 0)) (by kernel_rfl) ?_
  intro a' ha; simp only [Act.put, List.setIfInBounds_toArray, List.set_cons_zero, List.set_cons_succ] at ha; subst ha
  refine wpl_store rfl _ _ _ rfl #[ci 0, ci 0, ci 0, ci 0, ci 0, ci 1, ci 2, ci 0, ci 0, ci 0, ci 0, ci 3, ci 0, ci 0, ci 1, ci 0, ci 0, ci 2, ci 0, ci 0] #[ci 0, ci 0, ci 0, ci 0, ci 0, ci 0, ci 0, ci 0, ci 0, ci 0, ci 0, ci 0, ci 0, ci 0, ci 0, ci 0, ci 0, ci 0, ci 0, ci 0] _ rfl rfl (by kernel_rfl) rfl (by kernel_rfl) ?_
  intro a' ha; simp only [Act.put, List.setIfInBounds_toArray, List.set_cons_zero, List.set_cons_succ] at ha; subst ha
  go_wp2_with (go_at_call 126; refine (kt _).mono ?_; rintro e w1 ⟨rfl, f1⟩)
  go_ret2
  exact ⟨rfl, (Fr.alloc _ _ _).same f1⟩
set_option maxRecDepth 20000 in
set_option maxHeartbeats 1000000 in
theorem unary_no (op t : Int) (hop : op < 1 ∨ 5 ≤ op) (w : World) : Calls Tryz.prog 122 #[ci op, ci t] w fun e w' => e = .returned (.tuple #[ci 0, ci 1]) ∧ Fr (fun _ => False) w w' := by
  have hd : (decide (op < 1) = true) ∨ (decide (op < 1) = false ∧ decide ((5 : Int) ≤ op) = true) := by simp; omega
  clear hop
  go_enter Tryz.func122, Tryz.ntmps122
  go_upto_region 1 with fail
  apply wp_region_lit
  refine wpl_build rfl _ _ rfl #[ci 0, ci 1, ci 2, ci 0] (by kernel_rfl) ?_
  intro a' ha; simp only [Act.put, List.setIfInBounds_toArray, List.set_cons_zero, List.set_cons_succ] at ha; subst ha
  refine wpl_build rfl _ _ rfl #[ci 0, ci 0, ci 0, ci 3] (by kernel_rfl) ?_
  intro a' ha; simp only [Act.put, List.setIfInBounds_toArray, List.set_cons_zero, List.set_cons_succ] at ha; subst ha
  refine wpl_build rfl _ _ rfl #[ci 0, ci 0, ci 1, ci 0] (by kernel_rfl) ?_
  intro a' ha; simp only [Act.put, List.setIfInBounds_toArray, List.set_cons_zero, List.set_cons_succ] at ha; subst ha
  refine wpl_build rfl _ _ rfl #[ci 0, ci 2, ci 0, ci 0] (by kernel_rfl) ?_
  intro a' ha; simp only [Act.put, List.setIfInBounds_toArray, List.set_cons_zero, List.set_cons_succ] at ha; subst ha
  refine wpl_build rfl _ _ rfl #[ci 0, ci 0, ci 0, ci 0, ci 0, ci 1, ci 2, ci 0, ci 0, ci 0, ci 0, ci 3, ci 0, ci 0, ci 1, ci 0, ci 0, ci 2, ci 0, ci 0] (by kernel_rfl) ?_
  intro a' ha; simp only [Act.put, List.setIfInBounds_toArray, List.set_cons_zero, List.set_cons_succ] at ha; subst ha
  refine wpl_alloc rfl (.pointer (some ⟨w.heap.size, 0, none⟩)) (.cells #[ci 0, ci 0, ci 0, ci 0, ci 0, ci 0, ci 0, ci 0, ci 0, ci 0, ci 0, ci 0, ci 0, ci 0, ci 0, ci 0, ci 0, ci 0, ci 0, ci 0] 196 (0, 0)) (by kernel_rfl) ?_
  intro a' ha; simp only [Act.put, List.setIfInBounds_toArray, List.set_cons_zero, List.set_cons_succ] at ha; subst ha
  refine wpl_store rfl _ _ _ rfl #[ci 0, ci 0, ci 0, ci 0, ci 0, ci 1, ci 2, ci 0, ci 0, ci 0, ci 0, ci 3, ci 0, ci 0, ci 1, ci 0, ci 0, ci 2, ci 0, ci 0] #[ci 0, ci 0, ci 0, ci 0, ci 0, ci 0, ci 0, ci 0, ci 0, ci 0, ci 0, ci 0, ci 0, ci 0, ci 0, ci 0, ci 0, ci 0, ci 0, ci 0] _ rfl rfl (by kernel_rfl) rfl (by kernel_rfl) ?_
  intro a' ha; simp only [Act.put, List.setIfInBounds_toArray, List.set_cons_zero, List.set_cons_succ] at ha; subst ha
  rcases hd with hd | ⟨hd, hd2⟩
  · go_wp2
    go_ret2
    exact ⟨rfl, Fr.alloc _ _ _⟩
  · go_wp2
    go_ret2
    exact ⟨rfl, Fr.alloc _ _ _⟩
theorem unary_any (op t : Int) (w : World) : Calls Tryz.prog 122 #[ci op, ci t] w fun e w' => e = .returned (.tuple #[ci (unS op t).1, ci (unS op t).2]) ∧ Fr (fun _ => False) w w' := by
  by_cases h1 : op = 1
  · subst h1
    have e : unS 1 t = takenS 1 2 0 t := by
      unfold unS takenS
      by_cases t1 : t = 1
      · subst t1; rfl
      by_cases t2 : t = 2
      · subst t2; rfl
      by_cases t3 : t = 3
      · subst t3; rfl
      simp [t1, t2, t3]
    rw [e]
    exact unary_1 t w
  by_cases h2 : op = 2
  · subst h2
    have e : unS 2 t = takenS 0 0 3 t := by
      unfold unS takenS
      by_cases t1 : t = 1
      · subst t1; rfl
      by_cases t2 : t = 2
      · subst t2; rfl
      by_cases t3 : t = 3
      · subst t3; rfl
      simp [t1, t2, t3]
    rw [e]
    exact unary_2 t w
  by_cases h3 : op = 3
  · subst h3
    have e : unS 3 t = takenS 0 1 0 t := by
      unfold unS takenS
      by_cases t1 : t = 1
      · subst t1; rfl
      by_cases t2 : t = 2
      · subst t2; rfl
      by_cases t3 : t = 3
      · subst t3; rfl
      simp [t1, t2, t3]
    rw [e]
    exact unary_3 t w
  by_cases h4 : op = 4
  · subst h4
    have e : unS 4 t = takenS 2 0 0 t := by
      unfold unS takenS
      by_cases t1 : t = 1
      · subst t1; rfl
      by_cases t2 : t = 2
      · subst t2; rfl
      by_cases t3 : t = 3
      · subst t3; rfl
      simp [t1, t2, t3]
    rw [e]
    exact unary_4 t w
  have e : unS op t = (0, 1) := by unfold unS; rw [if_neg h1, if_neg h2, if_neg h3, if_neg h4]
  rw [e]
  exact unary_no op t (by omega) w
set_option maxRecDepth 20000 in
set_option maxHeartbeats 4000000 in
theorem binary_any (op a b : Int) (w : World) : Calls Tryz.prog 123 #[ci op, ci a, ci b] w fun e w' => e = .returned (.tuple #[ci (binS op a b).1, ci (binS op a b).2]) ∧ Fr (fun _ => False) w w' := by
  obtain ⟨R, hR⟩ : ∃ R, binS op a b = R := ⟨_, rfl⟩
  rw [hR]
  replace hR : Hidden (binS op a b = R) := hR
  go_enter Tryz.func123, Tryz.ntmps123
  go_upto_region 1 with fail
  apply wp_region_lit
  refine wpl_build rfl _ _ rfl #[ci 0, ci 1, ci 2, ci 0] (by kernel_rfl) ?_
  intro a' ha; simp only [Act.put, List.setIfInBounds_toArray, List.set_cons_zero, List.set_cons_succ] at ha; subst ha
  refine wpl_alloc rfl (.pointer (some ⟨w.heap.size, 0, none⟩)) (.cells #[ci 0, ci 0, ci 0, ci 0] 195 (0, 0)) (by kernel_rfl) ?_
  intro a' ha; simp only [Act.put, List.setIfInBounds_toArray, List.set_cons_zero, List.set_cons_succ] at ha; subst ha
  refine wpl_store rfl _ _ _ rfl #[ci 0, ci 1, ci 2, ci 0] #[ci 0, ci 0, ci 0, ci 0] _ rfl rfl (by kernel_rfl) rfl (by kernel_rfl) ?_
  intro a' ha; simp only [Act.put, List.setIfInBounds_toArray, List.set_cons_zero, List.set_cons_succ] at ha; subst ha
  obtain ⟨W1, hW1⟩ : ∃ W, W = w.alloc (.cells #[ci 0, ci 1, ci 2, ci 0] 195 (0, 0)) := ⟨_, rfl⟩
  rw [← hW1]
  have b1 : Hidden (W1.heap[w.heap.size]? = some (.cells #[ci 0, ci 1, ci 2, ci 0] 195 (0, 0))) := by rw [hW1]; exact alloc_new _ _
  have s1 : Fr (fun _ => False) w W1 := by rw [hW1]; exact Fr.alloc _ _ _
  clear hW1
  go_upto_region 2 with fail
  apply wp_region_lit
  refine wpl_build rfl _ _ rfl #[ci 0, ci 3, ci 3, ci 3] (by kernel_rfl) ?_
  intro a' ha; simp only [Act.put, List.setIfInBounds_toArray, List.set_cons_zero, List.set_cons_succ] at ha; subst ha
  refine wpl_alloc rfl (.pointer (some ⟨W1.heap.size, 0, none⟩)) (.cells #[ci 0, ci 0, ci 0, ci 0] 195 (0, 0)) (by kernel_rfl) ?_
  intro a' ha; simp only [Act.put, List.setIfInBounds_toArray, List.set_cons_zero, List.set_cons_succ] at ha; subst ha
  refine wpl_store rfl _ _ _ rfl #[ci 0, ci 3, ci 3, ci 3] #[ci 0, ci 0, ci 0, ci 0] _ rfl rfl (by kernel_rfl) rfl (by kernel_rfl) ?_
  intro a' ha; simp only [Act.put, List.setIfInBounds_toArray, List.set_cons_zero, List.set_cons_succ] at ha; subst ha
  obtain ⟨W2, hW2⟩ : ∃ W, W = W1.alloc (.cells #[ci 0, ci 3, ci 3, ci 3] 195 (0, 0)) := ⟨_, rfl⟩
  rw [← hW2]
  have b2 : Hidden (W2.heap[W1.heap.size]? = some (.cells #[ci 0, ci 3, ci 3, ci 3] 195 (0, 0))) := by rw [hW2]; exact alloc_new _ _
  have s2 : Fr (fun _ => False) W1 W2 := by rw [hW2]; exact Fr.alloc _ _ _
  replace b1 : Hidden (W2.heap[w.heap.size]? = some (.cells #[ci 0, ci 1, ci 2, ci 0] 195 (0, 0))) := s2.heap b1 (fun f => f)
  clear hW2
  go_upto_region 3 with fail
  apply wp_region_lit
  refine wpl_build rfl _ _ rfl #[ci 0, ci 3, ci 3, ci 0] (by kernel_rfl) ?_
  intro a' ha; simp only [Act.put, List.setIfInBounds_toArray, List.set_cons_zero, List.set_cons_succ] at ha; subst ha
  refine wpl_alloc rfl (.pointer (some ⟨W2.heap.size, 0, none⟩)) (.cells #[ci 0, ci 0, ci 0, ci 0] 195 (0, 0)) (by kernel_rfl) ?_
  intro a' ha; simp only [Act.put, List.setIfInBounds_toArray, List.set_cons_zero, List.set_cons_succ] at ha; subst ha
  refine wpl_store rfl _ _ _ rfl #[ci 0, ci 3, ci 3, ci 0] #[ci 0, ci 0, ci 0, ci 0] _ rfl rfl (by kernel_rfl) rfl (by kernel_rfl) ?_
  intro a' ha; simp only [Act.put, List.setIfInBounds_toArray, List.set_cons_zero, List.set_cons_succ] at ha; subst ha
  obtain ⟨W3, hW3⟩ : ∃ W, W = W2.alloc (.cells #[ci 0, ci 3, ci 3, ci 0] 195 (0, 0)) := ⟨_, rfl⟩
  rw [← hW3]
  have b3 : Hidden (W3.heap[W2.heap.size]? = some (.cells #[ci 0, ci 3, ci 3, ci 0] 195 (0, 0))) := by rw [hW3]; exact alloc_new _ _
  have s3 : Fr (fun _ => False) W2 W3 := by rw [hW3]; exact Fr.alloc _ _ _
  replace b1 : Hidden (W3.heap[w.heap.size]? = some (.cells #[ci 0, ci 1, ci 2, ci 0] 195 (0, 0))) := s3.heap b1 (fun f => f)
  replace b2 : Hidden (W3.heap[W1.heap.size]? = some (.cells #[ci 0, ci 3, ci 3, ci 3] 195 (0, 0))) := s3.heap b2 (fun f => f)
  clear hW3
  go_upto_region 4 with fail
  apply wp_region_lit
  refine wpl_build rfl _ _ rfl #[ci 0, ci 0, ci 0, ci 3] (by kernel_rfl) ?_
  intro a' ha; simp only [Act.put, List.setIfInBounds_toArray, List.set_cons_zero, List.set_cons_succ] at ha; subst ha
  refine wpl_alloc rfl (.pointer (some ⟨W3.heap.size, 0, none⟩)) (.cells #[ci 0, ci 0, ci 0, ci 0] 195 (0, 0)) (by kernel_rfl) ?_
  intro a' ha; simp only [Act.put, List.setIfInBounds_toArray, List.set_cons_zero, List.set_cons_succ] at ha; subst ha
  refine wpl_store rfl _ _ _ rfl #[ci 0, ci 0, ci 0, ci 3] #[ci 0, ci 0, ci 0, ci 0] _ rfl rfl (by kernel_rfl) rfl (by kernel_rfl) ?_
  intro a' ha; simp only [Act.put, List.setIfInBounds_toArray, List.set_cons_zero, List.set_cons_succ] at ha; subst ha
  obtain ⟨W4, hW4⟩ : ∃ W, W = W3.alloc (.cells #[ci 0, ci 0, ci 0, ci 3] 195 (0, 0)) := ⟨_, rfl⟩
  rw [← hW4]
  have b4 : Hidden (W4.heap[W3.heap.size]? = some (.cells #[ci 0, ci 0, ci 0, ci 3] 195 (0, 0))) := by rw [hW4]; exact alloc_new _ _
  have s4 : Fr (fun _ => False) W3 W4 := by rw [hW4]; exact Fr.alloc _ _ _
  replace b1 : Hidden (W4.heap[w.heap.size]? = some (.cells #[ci 0, ci 1, ci 2, ci 0] 195 (0, 0))) := s4.heap b1 (fun f => f)
  replace b2 : Hidden (W4.heap[W1.heap.size]? = some (.cells #[ci 0, ci 3, ci 3, ci 3] 195 (0, 0))) := s4.heap b2 (fun f => f)
  replace b3 : Hidden (W4.heap[W2.heap.size]? = some (.cells #[ci 0, ci 3, ci 3, ci 0] 195 (0, 0))) := s4.heap b3 (fun f => f)
  clear hW4
  go_upto_region 5 with fail
  apply wp_region_lit
  refine wpl_load rfl _ _ rfl w.heap.size #[ci 0, ci 1, ci 2, ci 0] _ _ rfl b1 Tryz.underlying195 rfl (by kernel_rfl) ?_
  intro a' ha; simp only [Act.put, List.setIfInBounds_toArray, List.set_cons_zero, List.set_cons_succ] at ha; subst ha
  refine wpl_load rfl _ _ rfl w.heap.size #[ci 0, ci 1, ci 2, ci 0] _ _ rfl b1 Tryz.underlying195 rfl (by kernel_rfl) ?_
  intro a' ha; simp only [Act.put, List.setIfInBounds_toArray, List.set_cons_zero, List.set_cons_succ] at ha; subst ha
  refine wpl_load rfl _ _ rfl w.heap.size #[ci 0, ci 1, ci 2, ci 0] _ _ rfl b1 Tryz.underlying195 rfl (by kernel_rfl) ?_
  intro a' ha; simp only [Act.put, List.setIfInBounds_toArray, List.set_cons_zero, List.set_cons_succ] at ha; subst ha
  refine wpl_load rfl _ _ rfl w.heap.size #[ci 0, ci 1, ci 2, ci 0] _ _ rfl b1 Tryz.underlying195 rfl (by kernel_rfl) ?_
  intro a' ha; simp only [Act.put, List.setIfInBounds_toArray, List.set_cons_zero, List.set_cons_succ] at ha; subst ha
  refine wpl_build rfl _ _ rfl #[ci 0, ci 1, ci 0, ci 0] (by kernel_rfl) ?_
  intro a' ha; simp only [Act.put, List.setIfInBounds_toArray, List.set_cons_zero, List.set_cons_succ] at ha; subst ha
  refine wpl_load rfl _ _ rfl W1.heap.size #[ci 0, ci 3, ci 3, ci 3] _ _ rfl b2 Tryz.underlying195 rfl (by kernel_rfl) ?_
  intro a' ha; simp only [Act.put, List.setIfInBounds_toArray, List.set_cons_zero, List.set_cons_succ] at ha; subst ha
  refine wpl_load rfl _ _ rfl W1.heap.size #[ci 0, ci 3, ci 3, ci 3] _ _ rfl b2 Tryz.underlying195 rfl (by kernel_rfl) ?_
  intro a' ha; simp only [Act.put, List.setIfInBounds_toArray, List.set_cons_zero, List.set_cons_succ] at ha; subst ha
  refine wpl_load rfl _ _ rfl W2.heap.size #[ci 0, ci 3, ci 3, ci 0] _ _ rfl b3 Tryz.underlying195 rfl (by kernel_rfl) ?_
  intro a' ha; simp only [Act.put, List.setIfInBounds_toArray, List.set_cons_zero, List.set_cons_succ] at ha; subst ha
  refine wpl_load rfl _ _ rfl W2.heap.size #[ci 0, ci 3, ci 3, ci 0] _ _ rfl b3 Tryz.underlying195 rfl (by kernel_rfl) ?_
  intro a' ha; simp only [Act.put, List.setIfInBounds_toArray, List.set_cons_zero, List.set_cons_succ] at ha; subst ha
  refine wpl_load rfl _ _ rfl W2.heap.size #[ci 0, ci 3, ci 3, ci 0] _ _ rfl b3 Tryz.underlying195 rfl (by kernel_rfl) ?_
  intro a' ha; simp only [Act.put, List.setIfInBounds_toArray, List.set_cons_zero, List.set_cons_succ] at ha; subst ha
  refine wpl_load rfl _ _ rfl W2.heap.size #[ci 0, ci 3, ci 3, ci 0] _ _ rfl b3 Tryz.underlying195 rfl (by kernel_rfl) ?_
  intro a' ha; simp only [Act.put, List.setIfInBounds_toArray, List.set_cons_zero, List.set_cons_succ] at ha; subst ha
  refine wpl_load rfl _ _ rfl W3.heap.size #[ci 0, ci 0, ci 0, ci 3] _ _ rfl b4 Tryz.underlying195 rfl (by kernel_rfl) ?_
  intro a' ha; simp only [Act.put, List.setIfInBounds_toArray, List.set_cons_zero, List.set_cons_succ] at ha; subst ha
  refine wpl_load rfl _ _ rfl W3.heap.size #[ci 0, ci 0, ci 0, ci 3] _ _ rfl b4 Tryz.underlying195 rfl (by kernel_rfl) ?_
  intro a' ha; simp only [Act.put, List.setIfInBounds_toArray, List.set_cons_zero, List.set_cons_succ] at ha; subst ha
  refine wpl_build rfl _ _ rfl #[ci 0, ci 0, ci 0, ci 0, ci 0, ci 1, ci 2, ci 0, ci 0, ci 1, ci 2, ci 0, ci 0, ci 1, ci 2, ci 0, ci 0, ci 1, ci 2, ci 0, ci 0, ci 1, ci 0, ci 0, ci 0, ci 3, ci 3, ci 3, ci 0, ci 3, ci 3, ci 3, ci 0, ci 3, ci 3, ci 0, ci 0, ci 3, ci 3, ci 0, ci 0, ci 3, ci 3, ci 0, ci 0, ci 3, ci 3, ci 0, ci 0, ci 0, ci 0, ci 3, ci 0, ci 0, ci 0, ci 3] (by kernel_rfl) ?_
  intro a' ha; simp only [Act.put, List.setIfInBounds_toArray, List.set_cons_zero, List.set_cons_succ] at ha; subst ha
  refine wpl_alloc rfl (.pointer (some ⟨W4.heap.size, 0, none⟩)) (.cells #[ci 0, ci 0, ci 0, ci 0, ci 0, ci 0, ci 0, ci 0, ci 0, ci 0, ci 0, ci 0, ci 0, ci 0, ci 0, ci 0, ci 0, ci 0, ci 0, ci 0, ci 0, ci 0, ci 0, ci 0, ci 0, ci 0, ci 0, ci 0, ci 0, ci 0, ci 0, ci 0, ci 0, ci 0, ci 0, ci 0, ci 0, ci 0, ci 0, ci 0, ci 0, ci 0, ci 0, ci 0, ci 0, ci 0, ci 0, ci 0, ci 0, ci 0, ci 0, ci 0, ci 0, ci 0, ci 0, ci 0] 198 (0, 0)) (by kernel_rfl) ?_
  intro a' ha; simp only [Act.put, List.setIfInBounds_toArray, List.set_cons_zero, List.set_cons_succ] at ha; subst ha
  refine wpl_store rfl _ _ _ rfl #[ci 0, ci 0, ci 0, ci 0, ci 0, ci 1, ci 2, ci 0, ci 0, ci 1, ci 2, ci 0, ci 0, ci 1, ci 2, ci 0, ci 0, ci 1, ci 2, ci 0, ci 0, ci 1, ci 0, ci 0, ci 0, ci 3, ci 3, ci 3, ci 0, ci 3, ci 3, ci 3, ci 0, ci 3, ci 3, ci 0, ci 0, ci 3, ci 3, ci 0, ci 0, ci 3, ci 3, ci 0, ci 0, ci 3, ci 3, ci 0, ci 0, ci 0, ci 0, ci 3, ci 0, ci 0, ci 0, ci 3] #[ci 0, ci 0, ci 0, ci 0, ci 0, ci 0, ci 0, ci 0, ci 0, ci 0, ci 0, ci 0, ci 0, ci 0, ci 0, ci 0, ci 0, ci 0, ci 0, ci 0, ci 0, ci 0, ci 0, ci 0, ci 0, ci 0, ci 0, ci 0, ci 0, ci 0, ci 0, ci 0, ci 0, ci 0, ci 0, ci 0, ci 0, ci 0, ci 0, ci 0, ci 0, ci 0, ci 0, ci 0, ci 0, ci 0, ci 0, ci 0, ci 0, ci 0, ci 0, ci 0, ci 0, ci 0, ci 0, ci 0] _ rfl rfl (by kernel_rfl) rfl (by kernel_rfl) ?_
  intro a' ha; simp only [Act.put, List.setIfInBounds_toArray, List.set_cons_zero, List.set_cons_succ] at ha; subst ha
  obtain ⟨W5, hW5⟩ : ∃ W, W = W4.alloc (.cells #[ci 0, ci 0, ci 0, ci 0, ci 0, ci 1, ci 2, ci 0, ci 0, ci 1, ci 2, ci 0, ci 0, ci 1, ci 2, ci 0, ci 0, ci 1, ci 2, ci 0, ci 0, ci 1, ci 0, ci 0, ci 0, ci 3, ci 3, ci 3, ci 0, ci 3, ci 3, ci 3, ci 0, ci 3, ci 3, ci 0, ci 0, ci 3, ci 3, ci 0, ci 0, ci 3, ci 3, ci 0, ci 0, ci 3, ci 3, ci 0, ci 0, ci 0, ci 0, ci 3, ci 0, ci 0, ci 0, ci 3] 198 (0, 0)) := ⟨_, rfl⟩
  rw [← hW5]
  have b5 : Hidden (W5.heap[W4.heap.size]? = some (.cells #[ci 0, ci 0, ci 0, ci 0, ci 0, ci 1, ci 2, ci 0, ci 0, ci 1, ci 2, ci 0, ci 0, ci 1, ci 2, ci 0, ci 0, ci 1, ci 2, ci 0, ci 0, ci 1, ci 0, ci 0, ci 0, ci 3, ci 3, ci 3, ci 0, ci 3, ci 3, ci 3, ci 0, ci 3, ci 3, ci 0, ci 0, ci 3, ci 3, ci 0, ci 0, ci 3, ci 3, ci 0, ci 0, ci 3, ci 3, ci 0, ci 0, ci 0, ci 0, ci 3, ci 0, ci 0, ci 0, ci 3] 198 (0, 0))) := by rw [hW5]; exact alloc_new _ _
  have s5 : Fr (fun _ => False) W4 W5 := by rw [hW5]; exact Fr.alloc _ _ _
  have sA : Hidden (Fr (fun _ => False) w W5) := (((s1.same s2).same s3).same s4).same s5
  clear hW5 s1 s2 s3 s4 s5 b1 b2 b3 b4
  by_cases hop : op < 1 ∨ 13 < op
  · obtain rfl : (0, 1) = R := by rw [← (show binS op a b = R from hR)]; unfold binS; rw [if_pos hop]
    have hd : (decide (op < 1) = true) ∨ (decide (op < 1) = false ∧ decide ((14 : Int) ≤ op) = true) := by simp; omega
    clear hop hR
    rcases hd with hd | ⟨hd, hd2⟩
    · go_wp2
      go_ret2
      exact ⟨rfl, sA⟩
    · go_wp2
      go_ret2
      exact ⟨rfl, sA⟩
  · by_cases hab : a = b
    · subst hab
      replace hR : takenS (rowB op).1 (rowB op).2.1 (rowB op).2.2 a = R := by rw [← (show binS op a a = R from hR)]; unfold binS; rw [if_neg hop, if_neg (by simp)]
      have hne : (a != a) = false := by simp
      have hc : op = 1 ∨ op = 2 ∨ op = 3 ∨ op = 4 ∨ op = 5 ∨ op = 6 ∨ op = 7 ∨ op = 8 ∨ op = 9 ∨ op = 10 ∨ op = 11 ∨ op = 12 ∨ op = 13 := by omega
      clear hop
      rcases hc with rfl | rfl | rfl | rfl | rfl | rfl | rfl | rfl | rfl | rfl | rfl | rfl | rfl
      · have kt := fun w => taken_any 0 1 2 0 a w
        rw [show takenS (rowB 1).1 (rowB 1).2.1 (rowB 1).2.2 a = takenS 1 2 0 a from rfl] at hR
        rw [hR] at kt
        have c0 : W5.cell? ⟨W4.heap.size, 4, none⟩ = some (ci 0) := cell_of_row _ _ 4 _ _ _ b5
        have c1 : W5.cell? ⟨W4.heap.size, 5, none⟩ = some (ci 1) := cell_of_row _ _ 5 _ _ _ b5
        have c2 : W5.cell? ⟨W4.heap.size, 6, none⟩ = some (ci 2) := cell_of_row _ _ 6 _ _ _ b5
        have c3 : W5.cell? ⟨W4.heap.size, 7, none⟩ = some (ci 0) := cell_of_row _ _ 7 _ _ _ b5
        clear hR
        go_wp2_with (go_at_call 126; refine (kt _).mono ?_; rintro e w1 ⟨rfl, f1⟩)
        go_ret2
        exact ⟨rfl, sA.same f1⟩
      · have kt := fun w => taken_any 0 1 2 0 a w
        rw [show takenS (rowB 2).1 (rowB 2).2.1 (rowB 2).2.2 a = takenS 1 2 0 a from rfl] at hR
        rw [hR] at kt
        have c0 : W5.cell? ⟨W4.heap.size, 8, none⟩ = some (ci 0) := cell_of_row _ _ 8 _ _ _ b5
        have c1 : W5.cell? ⟨W4.heap.size, 9, none⟩ = some (ci 1) := cell_of_row _ _ 9 _ _ _ b5
        have c2 : W5.cell? ⟨W4.heap.size, 10, none⟩ = some (ci 2) := cell_of_row _ _ 10 _ _ _ b5
        have c3 : W5.cell? ⟨W4.heap.size, 11, none⟩ = some (ci 0) := cell_of_row _ _ 11 _ _ _ b5
        clear hR
        go_wp2_with (go_at_call 126; refine (kt _).mono ?_; rintro e w1 ⟨rfl, f1⟩)
        go_ret2
        exact ⟨rfl, sA.same f1⟩
      · have kt := fun w => taken_any 0 1 2 0 a w
        rw [show takenS (rowB 3).1 (rowB 3).2.1 (rowB 3).2.2 a = takenS 1 2 0 a from rfl] at hR
        rw [hR] at kt
        have c0 : W5.cell? ⟨W4.heap.size, 12, none⟩ = some (ci 0) := cell_of_row _ _ 12 _ _ _ b5
        have c1 : W5.cell? ⟨W4.heap.size, 13, none⟩ = some (ci 1) := cell_of_row _ _ 13 _ _ _ b5
        have c2 : W5.cell? ⟨W4.heap.size, 14, none⟩ = some (ci 2) := cell_of_row _ _ 14 _ _ _ b5
        have c3 : W5.cell? ⟨W4.heap.size, 15, none⟩ = some (ci 0) := cell_of_row _ _ 15 _ _ _ b5
        clear hR
        go_wp2_with (go_at_call 126; refine (kt _).mono ?_; rintro e w1 ⟨rfl, f1⟩)
        go_ret2
        exact ⟨rfl, sA.same f1⟩
      · have kt := fun w => taken_any 0 1 2 0 a w
        rw [show takenS (rowB 4).1 (rowB 4).2.1 (rowB 4).2.2 a = takenS 1 2 0 a from rfl] at hR
        rw [hR] at kt
        have c0 : W5.cell? ⟨W4.heap.size, 16, none⟩ = some (ci 0) := cell_of_row _ _ 16 _ _ _ b5
        have c1 : W5.cell? ⟨W4.heap.size, 17, none⟩ = some (ci 1) := cell_of_row _ _ 17 _ _ _ b5
        have c2 : W5.cell? ⟨W4.heap.size, 18, none⟩ = some (ci 2) := cell_of_row _ _ 18 _ _ _ b5
        have c3 : W5.cell? ⟨W4.heap.size, 19, none⟩ = some (ci 0) := cell_of_row _ _ 19 _ _ _ b5
        clear hR
        go_wp2_with (go_at_call 126; refine (kt _).mono ?_; rintro e w1 ⟨rfl, f1⟩)
        go_ret2
        exact ⟨rfl, sA.same f1⟩
      · have kt := fun w => taken_any 0 1 0 0 a w
        rw [show takenS (rowB 5).1 (rowB 5).2.1 (rowB 5).2.2 a = takenS 1 0 0 a from rfl] at hR
        rw [hR] at kt
        have c0 : W5.cell? ⟨W4.heap.size, 20, none⟩ = some (ci 0) := cell_of_row _ _ 20 _ _ _ b5
        have c1 : W5.cell? ⟨W4.heap.size, 21, none⟩ = some (ci 1) := cell_of_row _ _ 21 _ _ _ b5
        have c2 : W5.cell? ⟨W4.heap.size, 22, none⟩ = some (ci 0) := cell_of_row _ _ 22 _ _ _ b5
        have c3 : W5.cell? ⟨W4.heap.size, 23, none⟩ = some (ci 0) := cell_of_row _ _ 23 _ _ _ b5
        clear hR
        go_wp2_with (go_at_call 126; refine (kt _).mono ?_; rintro e w1 ⟨rfl, f1⟩)
        go_ret2
        exact ⟨rfl, sA.same f1⟩
      · have kt := fun w => taken_any 0 3 3 3 a w
        rw [show takenS (rowB 6).1 (rowB 6).2.1 (rowB 6).2.2 a = takenS 3 3 3 a from rfl] at hR
        rw [hR] at kt
        have c0 : W5.cell? ⟨W4.heap.size, 24, none⟩ = some (ci 0) := cell_of_row _ _ 24 _ _ _ b5
        have c1 : W5.cell? ⟨W4.heap.size, 25, none⟩ = some (ci 3) := cell_of_row _ _ 25 _ _ _ b5
        have c2 : W5.cell? ⟨W4.heap.size, 26, none⟩ = some (ci 3) := cell_of_row _ _ 26 _ _ _ b5
        have c3 : W5.cell? ⟨W4.heap.size, 27, none⟩ = some (ci 3) := cell_of_row _ _ 27 _ _ _ b5
        clear hR
        go_wp2_with (go_at_call 126; refine (kt _).mono ?_; rintro e w1 ⟨rfl, f1⟩)
        go_ret2
        exact ⟨rfl, sA.same f1⟩
      · have kt := fun w => taken_any 0 3 3 3 a w
        rw [show takenS (rowB 7).1 (rowB 7).2.1 (rowB 7).2.2 a = takenS 3 3 3 a from rfl] at hR
        rw [hR] at kt
        have c0 : W5.cell? ⟨W4.heap.size, 28, none⟩ = some (ci 0) := cell_of_row _ _ 28 _ _ _ b5
        have c1 : W5.cell? ⟨W4.heap.size, 29, none⟩ = some (ci 3) := cell_of_row _ _ 29 _ _ _ b5
        have c2 : W5.cell? ⟨W4.heap.size, 30, none⟩ = some (ci 3) := cell_of_row _ _ 30 _ _ _ b5
        have c3 : W5.cell? ⟨W4.heap.size, 31, none⟩ = some (ci 3) := cell_of_row _ _ 31 _ _ _ b5
        clear hR
        go_wp2_with (go_at_call 126; refine (kt _).mono ?_; rintro e w1 ⟨rfl, f1⟩)
        go_ret2
        exact ⟨rfl, sA.same f1⟩
      · have kt := fun w => taken_any 0 3 3 0 a w
        rw [show takenS (rowB 8).1 (rowB 8).2.1 (rowB 8).2.2 a = takenS 3 3 0 a from rfl] at hR
        rw [hR] at kt
        have c0 : W5.cell? ⟨W4.heap.size, 32, none⟩ = some (ci 0) := cell_of_row _ _ 32 _ _ _ b5
        have c1 : W5.cell? ⟨W4.heap.size, 33, none⟩ = some (ci 3) := cell_of_row _ _ 33 _ _ _ b5
        have c2 : W5.cell? ⟨W4.heap.size, 34, none⟩ = some (ci 3) := cell_of_row _ _ 34 _ _ _ b5
        have c3 : W5.cell? ⟨W4.heap.size, 35, none⟩ = some (ci 0) := cell_of_row _ _ 35 _ _ _ b5
        clear hR
        go_wp2_with (go_at_call 126; refine (kt _).mono ?_; rintro e w1 ⟨rfl, f1⟩)
        go_ret2
        exact ⟨rfl, sA.same f1⟩
      · have kt := fun w => taken_any 0 3 3 0 a w
        rw [show takenS (rowB 9).1 (rowB 9).2.1 (rowB 9).2.2 a = takenS 3 3 0 a from rfl] at hR
        rw [hR] at kt
        have c0 : W5.cell? ⟨W4.heap.size, 36, none⟩ = some (ci 0) := cell_of_row _ _ 36 _ _ _ b5
        have c1 : W5.cell? ⟨W4.heap.size, 37, none⟩ = some (ci 3) := cell_of_row _ _ 37 _ _ _ b5
        have c2 : W5.cell? ⟨W4.heap.size, 38, none⟩ = some (ci 3) := cell_of_row _ _ 38 _ _ _ b5
        have c3 : W5.cell? ⟨W4.heap.size, 39, none⟩ = some (ci 0) := cell_of_row _ _ 39 _ _ _ b5
        clear hR
        go_wp2_with (go_at_call 126; refine (kt _).mono ?_; rintro e w1 ⟨rfl, f1⟩)
        go_ret2
        exact ⟨rfl, sA.same f1⟩
      · have kt := fun w => taken_any 0 3 3 0 a w
        rw [show takenS (rowB 10).1 (rowB 10).2.1 (rowB 10).2.2 a = takenS 3 3 0 a from rfl] at hR
        rw [hR] at kt
        have c0 : W5.cell? ⟨W4.heap.size, 40, none⟩ = some (ci 0) := cell_of_row _ _ 40 _ _ _ b5
        have c1 : W5.cell? ⟨W4.heap.size, 41, none⟩ = some (ci 3) := cell_of_row _ _ 41 _ _ _ b5
        have c2 : W5.cell? ⟨W4.heap.size, 42, none⟩ = some (ci 3) := cell_of_row _ _ 42 _ _ _ b5
        have c3 : W5.cell? ⟨W4.heap.size, 43, none⟩ = some (ci 0) := cell_of_row _ _ 43 _ _ _ b5
        clear hR
        go_wp2_with (go_at_call 126; refine (kt _).mono ?_; rintro e w1 ⟨rfl, f1⟩)
        go_ret2
        exact ⟨rfl, sA.same f1⟩
      · have kt := fun w => taken_any 0 3 3 0 a w
        rw [show takenS (rowB 11).1 (rowB 11).2.1 (rowB 11).2.2 a = takenS 3 3 0 a from rfl] at hR
        rw [hR] at kt
        have c0 : W5.cell? ⟨W4.heap.size, 44, none⟩ = some (ci 0) := cell_of_row _ _ 44 _ _ _ b5
        have c1 : W5.cell? ⟨W4.heap.size, 45, none⟩ = some (ci 3) := cell_of_row _ _ 45 _ _ _ b5
        have c2 : W5.cell? ⟨W4.heap.size, 46, none⟩ = some (ci 3) := cell_of_row _ _ 46 _ _ _ b5
        have c3 : W5.cell? ⟨W4.heap.size, 47, none⟩ = some (ci 0) := cell_of_row _ _ 47 _ _ _ b5
        clear hR
        go_wp2_with (go_at_call 126; refine (kt _).mono ?_; rintro e w1 ⟨rfl, f1⟩)
        go_ret2
        exact ⟨rfl, sA.same f1⟩
      · have kt := fun w => taken_any 0 0 0 3 a w
        rw [show takenS (rowB 12).1 (rowB 12).2.1 (rowB 12).2.2 a = takenS 0 0 3 a from rfl] at hR
        rw [hR] at kt
        have c0 : W5.cell? ⟨W4.heap.size, 48, none⟩ = some (ci 0) := cell_of_row _ _ 48 _ _ _ b5
        have c1 : W5.cell? ⟨W4.heap.size, 49, none⟩ = some (ci 0) := cell_of_row _ _ 49 _ _ _ b5
        have c2 : W5.cell? ⟨W4.heap.size, 50, none⟩ = some (ci 0) := cell_of_row _ _ 50 _ _ _ b5
        have c3 : W5.cell? ⟨W4.heap.size, 51, none⟩ = some (ci 3) := cell_of_row _ _ 51 _ _ _ b5
        clear hR
        go_wp2_with (go_at_call 126; refine (kt _).mono ?_; rintro e w1 ⟨rfl, f1⟩)
        go_ret2
        exact ⟨rfl, sA.same f1⟩
      · have kt := fun w => taken_any 0 0 0 3 a w
        rw [show takenS (rowB 13).1 (rowB 13).2.1 (rowB 13).2.2 a = takenS 0 0 3 a from rfl] at hR
        rw [hR] at kt
        have c0 : W5.cell? ⟨W4.heap.size, 52, none⟩ = some (ci 0) := cell_of_row _ _ 52 _ _ _ b5
        have c1 : W5.cell? ⟨W4.heap.size, 53, none⟩ = some (ci 0) := cell_of_row _ _ 53 _ _ _ b5
        have c2 : W5.cell? ⟨W4.heap.size, 54, none⟩ = some (ci 0) := cell_of_row _ _ 54 _ _ _ b5
        have c3 : W5.cell? ⟨W4.heap.size, 55, none⟩ = some (ci 3) := cell_of_row _ _ 55 _ _ _ b5
        clear hR
        go_wp2_with (go_at_call 126; refine (kt _).mono ?_; rintro e w1 ⟨rfl, f1⟩)
        go_ret2
        exact ⟨rfl, sA.same f1⟩
    · obtain rfl : (0, 22) = R := by rw [← (show binS op a b = R from hR)]; unfold binS; rw [if_neg hop, if_pos hab]
      have hne : (a != b) = true := by simpa using hab
      have hd : decide (op < 1) = false := by simp; omega
      have hge : decide ((14 : Int) ≤ op) = false := by simp; omega
      clear hab hop hR
      go_wp2
      go_ret2
      exact ⟨rfl, sA⟩
end Go.Proofs.YtoiglopilpoafaaGreatDoor.Ty
