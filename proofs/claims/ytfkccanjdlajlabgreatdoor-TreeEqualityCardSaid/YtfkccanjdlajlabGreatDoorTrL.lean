/- The program's look at expressions: what fits. -/
import Derived.Test.YtfkccanjdlajlabGreatDoorTrD2
import Derived.Test.YtfkccanjdlajlabGreatDoorNyA
import Derived.Test.YtfkccanjdlajlabGreatDoorFxA
import Derived.Deep.QuietTactic
import Derived.BigQuiet
namespace Go.Proofs.YtfkccanjdlajlabGreatDoor
open Go.RowKit Te
set_option linter.unusedSimpArgs false
set_option linter.unusedVariables false

/-- It gave up by an error. -/
def gUp (c : Int) : Ending := .panicked [{ v := .iface 101 (.agg #[.int .i64 c]), recovered := false }]
/-- What a look comes to. -/
def lk (c : Int) : Ending := if c = 0 then .returned (.tuple #[]) else gUp c
theorem lk_0 : lk 0 = .returned (.tuple #[]) := rfl
theorem lk_ne {c : Int} (h : c ≠ 0) : lk c = gUp c := by simp [lk, h]

theorem must_ok (c : Int) (w : World) : Calls Tryz.prog 57 #[.bool true, ci c] w fun e w' => e = .returned (.tuple #[]) ∧ w' = w := by
  go_enter Tryz.func57, Tryz.ntmps57
  go_wp2
  go_end0
  exact ⟨rfl, rfl⟩
theorem must_no (c : Int) (w : World) : Calls Tryz.prog 57 #[.bool false, ci c] w fun e w' => e = gUp c ∧ w' = w := by
  go_enter Tryz.func57, Tryz.ntmps57
  go_wp2
  exact ⟨rfl, rfl, rfl⟩
theorem mustName_ok (s : Bs) (hr : N.rightS s = 0) (hl : OkN s) (w : World) : Calls Tryz.prog 63 #[ct s] w fun e w' => e = .returned (.tuple #[]) ∧ w' = w := by
  have kr := fun w => N.right_any s _ hr hl w
  have km := fun w => must_ok 0 w
  clear hr
  go_enter Tryz.func63, Tryz.ntmps63
  go_wp2_with (first
    | (go_at_call 78; refine (kr _).mono ?_; rintro e w' ⟨rfl, rfl⟩)
    | (go_at_call 57; refine (km _).mono ?_; rintro e w' ⟨rfl, rfl⟩))
  go_end0
  exact ⟨rfl, rfl⟩
theorem mustName_no (s : Bs) (c : Int) (hr : N.rightS s = c) (hc : c ≠ 0) (hl : OkN s) (w : World) : Calls Tryz.prog 63 #[ct s] w fun e w' => e = gUp c ∧ w' = w := by
  have kr := fun w => N.right_any s _ hr hl w
  have km := fun w => must_no c w
  have hb : (c == 0) = false := by simp [hc]
  clear hr hc
  unfold gUp at *
  go_enter Tryz.func63, Tryz.ntmps63
  go_wp2_with (first
    | (go_at_call 78; refine (kr _).mono ?_; rintro e w' ⟨rfl, rfl⟩)
    | (go_at_call 57; refine (km _).mono ?_; rintro e w' ⟨rfl, rfl⟩))
  exact ⟨rfl, rfl, rfl⟩

theorem drewN_fr {S : Nat → Prop} {w w' : World} (h : Fr S w w') (n : Nat) : Fr S w (w'.drewN n) := ⟨h.os, h.output, h.size, h.block⟩
theorem ret_bl {x y : Bool} (h : x = y) : Ending.returned (.bool x) = .returned (.bool y) := by rw [h]
set_option maxRecDepth 20000 in
theorem isLit_any (vt vb : Int) (hb0 : 0 ≤ vb) (hb1 : vb < 18446744073709551616) (r : Bool) (hr : Hidden (litOk F.Fl.canonS vt vb = r)) (w : World) :
    Calls Tryz.prog 96 #[.agg #[ci vt, .int .u64 vb]] w fun e w' => e = .returned (.bool r) ∧ Fr (fun _ => False) w w' := by
  have kc := fun w => (F.canon_any vb ⟨hb0, hb1⟩ w).mono (fun e w' h => (⟨h.1, h.2.symm⟩ : _ ∧ w' = w))
  by_cases h2 : (vt == 2) = true
  · have h1 : (vt == 1) = false := by simp only [beq_iff_eq] at *; simp [h2]
    have e2 : vt = 2 := by simpa using h2
    by_cases hlt : vb < 9223372036854775808
    · have t1 : decide (vb < 9223372036854775808) = true := by simpa using hlt
      have hr1 : Hidden (decide (F.Fl.canonS vb = vb) = r) := by rw [← (show _ = r from hr)]; simp [Hidden, litOk, e2, hlt]
      clear e2 hr
      go_enter Tryz.func96, Tryz.ntmps96
      go_wp2_with fail
      go_quiet ((go_at_call 130; exact Calls.quiet_of_same (kc _)))
      go_wp2_with fail
      go_ret
      refine ⟨ret_bl ?_, drewN_fr (Fr.alloc _ _ _) _⟩
      rw [← (show _ = r from hr1)]
      rfl
    · have t1 : decide (vb < 9223372036854775808) = false := by simpa using hlt
      have hr1 : Hidden (false = r) := by rw [← (show _ = r from hr)]; simp [Hidden, litOk, e2, hlt]
      clear e2 hr
      go_enter Tryz.func96, Tryz.ntmps96
      go_wp2_with fail
      go_quiet ((go_at_call 130; exact Calls.quiet_of_same (kc _)))
      go_wp2_with fail
      go_ret
      exact ⟨ret_bl hr1, drewN_fr (Fr.alloc _ _ _) _⟩
  · have h2' : (vt == 2) = false := by simpa using h2
    clear h2
    go_enter Tryz.func96, Tryz.ntmps96
    go_wp2_with fail
    all_goals (go_ret; refine ⟨ret_bl ?_, Fr.alloc _ _ _⟩; rw [← (show _ = r from hr)]; clear hr)
    all_goals (simp only [beq_iff_eq, beq_eq_false_iff_ne, ne_eq] at *; simp [litOk, *])
theorem isType_any (t : Int) (r : Bool) (hr : Hidden (isTy t = r)) (w : World) : Calls Tryz.prog 80 #[ci t] w fun e w' => e = .returned (.bool r) ∧ w' = w := by
  go_enter Tryz.func80, Tryz.ntmps80
  go_wp2
  all_goals (go_ret; refine ⟨ret_bl ?_, rfl⟩; rw [← (show _ = r from hr)]; clear hr)
  all_goals (simp [isTy, *])

theorem fr_set {w w' : World} {b : Nat} (h : Fr (fun _ => False) w w') (hb : w.heap.size ≤ b) (off : Nat) (v : Value) : Fr (fun _ => False) w (w'.setCell ⟨b, off, none⟩ v) :=
  h.over (Fr.setCell w' ⟨b, off, none⟩ v) (fun k hk => by have : k = b := hk; omega)
set_option maxRecDepth 20000 in
set_option maxHeartbeats 4000000 in
theorem fits_1 (op vt vb : Int) (mod name : Bs) (k : Nat) (hb0 : 0 ≤ vb) (hb1 : vb < 18446744073709551616) (ao : Option Addr) (cap : Nat) (hcap : k ≤ cap) (hmax : cap ≤ 9223372036854775807) (r : Bool) (hr : Hidden (fitsE F.Fl.canonS ⟨1, op, mod, name, vt, vb⟩ k = r)) (w : World) :
    Calls Tryz.prog 74 #[exV ⟨1, op, mod, name, vt, vb⟩ (.slice ao k cap)] w fun e w' => e = .returned (.bool r) ∧ Fr (fun _ => False) w w' := by
  have kl := fun w => isLit_any vt vb hb0 hb1 _ rfl w
  have hbx : Hidden ((w.alloc (.cells #[ci 1, ci op, ct mod, ct name, ci vt, .int .u64 vb, .slice ao k cap] 44)).heap[w.heap.size]? = some (.cells #[ci 1, ci op, ct mod, ct name, ci vt, .int .u64 vb, .slice ao k cap] 44 (0, 0))) := alloc_new _ _
  have hr2 : Hidden ((litOk F.Fl.canonS vt vb && decide (op = 0 ∧ mod = [] ∧ name = [] ∧ k = 0)) = r) := hr
  generalize litOk F.Fl.canonS vt vb = lo at kl hr2
  clear hr
  cases lo
  all_goals
    go_enter Tryz.func74, Tryz.ntmps74
    go_wp2_with fail
    go_at_call 96
    refine (kl _).mono ?_
    rintro e w1 ⟨rfl, f1⟩
    have hb1 := f1.heap hbx (fun f => f)
    obtain ⟨c0, c1, c2, c3, c4, c5, c6⟩ := ex_box hb1
    have z4 : w1.frozen? ⟨w.heap.size, 4, none⟩ = false := frozen_of_row hb1 4
    have z5 : w1.frozen? ⟨w.heap.size, 5, none⟩ = false := frozen_of_row hb1 5
    go_wp2_with fail
    all_goals
      go_ret
      refine ⟨ret_bl ?_, ?_⟩
      · rw [← (show _ = r from hr2)]
        clear hr2
        subst_vars
        first | (simp [*]; done) | (simp [*]; omega) | (rw [Bool.eq_iff_iff]; simp [*]; done) | (rw [Bool.eq_iff_iff]; simp [*]; omega)
      · repeat (refine fr_set ?_ (Nat.le_refl _) _ _)
        exact (Fr.alloc _ _ _).same f1
set_option maxRecDepth 20000 in
set_option maxHeartbeats 4000000 in
theorem fits_2 (op vt vb : Int) (mod name : Bs) (k : Nat) (ao : Option Addr) (cap : Nat) (hcap : k ≤ cap) (hmax : cap ≤ 9223372036854775807) (r : Bool) (hr : Hidden (fitsE F.Fl.canonS ⟨2, op, mod, name, vt, vb⟩ k = r)) (w : World) :
    Calls Tryz.prog 74 #[exV ⟨2, op, mod, name, vt, vb⟩ (.slice ao k cap)] w fun e w' => e = .returned (.bool r) ∧ Fr (fun _ => False) w w' := by
  go_enter Tryz.func74, Tryz.ntmps74
  go_wp2_with fail
  all_goals
    go_ret
    refine ⟨ret_bl ?_, ?_⟩
    · rw [← (show _ = r from hr)]
      clear hr
      subst_vars
      first | (simp [fitsE, *]; done) | (simp [fitsE, *]; omega) | (rw [Bool.eq_iff_iff]; simp [fitsE, *]; done) | (rw [Bool.eq_iff_iff]; simp [fitsE, *]; omega)
    · repeat (refine fr_set ?_ (Nat.le_refl _) _ _)
      first | exact Fr.alloc _ _ _ | exact (Fr.alloc _ _ _).same f1
set_option maxRecDepth 20000 in
set_option maxHeartbeats 4000000 in
theorem fits_3 (op vt vb : Int) (mod name : Bs) (k : Nat) (ao : Option Addr) (cap : Nat) (hcap : k ≤ cap) (hmax : cap ≤ 9223372036854775807) (r : Bool) (hr : Hidden (fitsE F.Fl.canonS ⟨3, op, mod, name, vt, vb⟩ k = r)) (w : World) :
    Calls Tryz.prog 74 #[exV ⟨3, op, mod, name, vt, vb⟩ (.slice ao k cap)] w fun e w' => e = .returned (.bool r) ∧ Fr (fun _ => False) w w' := by
  go_enter Tryz.func74, Tryz.ntmps74
  go_wp2_with fail
  all_goals
    go_ret
    refine ⟨ret_bl ?_, ?_⟩
    · rw [← (show _ = r from hr)]
      clear hr
      subst_vars
      first | (simp [fitsE, *]; done) | (simp [fitsE, *]; omega) | (rw [Bool.eq_iff_iff]; simp [fitsE, *]; done) | (rw [Bool.eq_iff_iff]; simp [fitsE, *]; omega)
    · repeat (refine fr_set ?_ (Nat.le_refl _) _ _)
      first | exact Fr.alloc _ _ _ | exact (Fr.alloc _ _ _).same f1
set_option maxRecDepth 20000 in
set_option maxHeartbeats 4000000 in
theorem fits_4 (op vt vb : Int) (mod name : Bs) (k : Nat) (ao : Option Addr) (cap : Nat) (hcap : k ≤ cap) (hmax : cap ≤ 9223372036854775807) (r : Bool) (hr : Hidden (fitsE F.Fl.canonS ⟨4, op, mod, name, vt, vb⟩ k = r)) (w : World) :
    Calls Tryz.prog 74 #[exV ⟨4, op, mod, name, vt, vb⟩ (.slice ao k cap)] w fun e w' => e = .returned (.bool r) ∧ Fr (fun _ => False) w w' := by
  go_enter Tryz.func74, Tryz.ntmps74
  go_wp2_with fail
  all_goals
    go_ret
    refine ⟨ret_bl ?_, ?_⟩
    · rw [← (show _ = r from hr)]
      clear hr
      subst_vars
      first | (simp [fitsE, *]; done) | (simp [fitsE, *]; omega) | (rw [Bool.eq_iff_iff]; simp [fitsE, *]; done) | (rw [Bool.eq_iff_iff]; simp [fitsE, *]; omega)
    · repeat (refine fr_set ?_ (Nat.le_refl _) _ _)
      first | exact Fr.alloc _ _ _ | exact (Fr.alloc _ _ _).same f1
set_option maxRecDepth 20000 in
set_option maxHeartbeats 4000000 in
theorem fits_5 (op vt vb : Int) (mod name : Bs) (k : Nat) (ao : Option Addr) (cap : Nat) (hcap : k ≤ cap) (hmax : cap ≤ 9223372036854775807) (r : Bool) (hr : Hidden (fitsE F.Fl.canonS ⟨5, op, mod, name, vt, vb⟩ k = r)) (w : World) :
    Calls Tryz.prog 74 #[exV ⟨5, op, mod, name, vt, vb⟩ (.slice ao k cap)] w fun e w' => e = .returned (.bool r) ∧ Fr (fun _ => False) w w' := by
  go_enter Tryz.func74, Tryz.ntmps74
  go_wp2_with fail
  all_goals
    go_ret
    refine ⟨ret_bl ?_, ?_⟩
    · rw [← (show _ = r from hr)]
      clear hr
      subst_vars
      first | (simp [fitsE, *]; done) | (simp [fitsE, *]; omega) | (rw [Bool.eq_iff_iff]; simp [fitsE, *]; done) | (rw [Bool.eq_iff_iff]; simp [fitsE, *]; omega)
    · repeat (refine fr_set ?_ (Nat.le_refl _) _ _)
      first | exact Fr.alloc _ _ _ | exact (Fr.alloc _ _ _).same f1
set_option maxRecDepth 20000 in
set_option maxHeartbeats 4000000 in
theorem fits_6 (op vt vb : Int) (mod name : Bs) (k : Nat) (ao : Option Addr) (cap : Nat) (hcap : k ≤ cap) (hmax : cap ≤ 9223372036854775807) (r : Bool) (hr : Hidden (fitsE F.Fl.canonS ⟨6, op, mod, name, vt, vb⟩ k = r)) (w : World) :
    Calls Tryz.prog 74 #[exV ⟨6, op, mod, name, vt, vb⟩ (.slice ao k cap)] w fun e w' => e = .returned (.bool r) ∧ Fr (fun _ => False) w w' := by
  go_enter Tryz.func74, Tryz.ntmps74
  go_wp2_with fail
  all_goals
    go_ret
    refine ⟨ret_bl ?_, ?_⟩
    · rw [← (show _ = r from hr)]
      clear hr
      subst_vars
      first | (simp [fitsE, *]; done) | (simp [fitsE, *]; omega) | (rw [Bool.eq_iff_iff]; simp [fitsE, *]; done) | (rw [Bool.eq_iff_iff]; simp [fitsE, *]; omega)
    · repeat (refine fr_set ?_ (Nat.le_refl _) _ _)
      first | exact Fr.alloc _ _ _ | exact (Fr.alloc _ _ _).same f1
set_option maxRecDepth 20000 in
set_option maxHeartbeats 4000000 in
theorem fits_7 (op vt vb : Int) (mod name : Bs) (k : Nat) (ao : Option Addr) (cap : Nat) (hcap : k ≤ cap) (hmax : cap ≤ 9223372036854775807) (r : Bool) (hr : Hidden (fitsE F.Fl.canonS ⟨7, op, mod, name, vt, vb⟩ k = r)) (w : World) :
    Calls Tryz.prog 74 #[exV ⟨7, op, mod, name, vt, vb⟩ (.slice ao k cap)] w fun e w' => e = .returned (.bool r) ∧ Fr (fun _ => False) w w' := by
  go_enter Tryz.func74, Tryz.ntmps74
  go_wp2_with fail
  all_goals
    go_ret
    refine ⟨ret_bl ?_, ?_⟩
    · rw [← (show _ = r from hr)]
      clear hr
      subst_vars
      first | (simp [fitsE, *]; done) | (simp [fitsE, *]; omega) | (rw [Bool.eq_iff_iff]; simp [fitsE, *]; done) | (rw [Bool.eq_iff_iff]; simp [fitsE, *]; omega)
    · repeat (refine fr_set ?_ (Nat.le_refl _) _ _)
      first | exact Fr.alloc _ _ _ | exact (Fr.alloc _ _ _).same f1
set_option maxRecDepth 20000 in
set_option maxHeartbeats 4000000 in
theorem fits_8 (op vt vb : Int) (mod name : Bs) (k : Nat) (ao : Option Addr) (cap : Nat) (hcap : k ≤ cap) (hmax : cap ≤ 9223372036854775807) (r : Bool) (hr : Hidden (fitsE F.Fl.canonS ⟨8, op, mod, name, vt, vb⟩ k = r)) (w : World) :
    Calls Tryz.prog 74 #[exV ⟨8, op, mod, name, vt, vb⟩ (.slice ao k cap)] w fun e w' => e = .returned (.bool r) ∧ Fr (fun _ => False) w w' := by
  go_enter Tryz.func74, Tryz.ntmps74
  go_wp2_with fail
  all_goals
    go_ret
    refine ⟨ret_bl ?_, ?_⟩
    · rw [← (show _ = r from hr)]
      clear hr
      subst_vars
      first | (simp [fitsE, *]; done) | (simp [fitsE, *]; omega) | (rw [Bool.eq_iff_iff]; simp [fitsE, *]; done) | (rw [Bool.eq_iff_iff]; simp [fitsE, *]; omega)
    · repeat (refine fr_set ?_ (Nat.le_refl _) _ _)
      first | exact Fr.alloc _ _ _ | exact (Fr.alloc _ _ _).same f1
set_option maxRecDepth 20000 in
set_option maxHeartbeats 4000000 in
theorem fits_no (kind op vt vb : Int) (mod name : Bs) (k : Nat) (hk : ¬ (1 ≤ kind ∧ kind ≤ 8)) (ao : Option Addr) (cap : Nat) (hcap : k ≤ cap) (hmax : cap ≤ 9223372036854775807) (r : Bool) (hr : Hidden (fitsE F.Fl.canonS ⟨kind, op, mod, name, vt, vb⟩ k = r)) (w : World) :
    Calls Tryz.prog 74 #[exV ⟨kind, op, mod, name, vt, vb⟩ (.slice ao k cap)] w fun e w' => e = .returned (.bool r) ∧ Fr (fun _ => False) w w' := by
  have n1 : (kind == 1) = false := by simp only [beq_eq_false_iff_ne, ne_eq]; omega
  have n2 : (kind == 2) = false := by simp only [beq_eq_false_iff_ne, ne_eq]; omega
  have n3 : (kind == 3) = false := by simp only [beq_eq_false_iff_ne, ne_eq]; omega
  have n4 : (kind == 4) = false := by simp only [beq_eq_false_iff_ne, ne_eq]; omega
  have n5 : (kind == 5) = false := by simp only [beq_eq_false_iff_ne, ne_eq]; omega
  have n6 : (kind == 6) = false := by simp only [beq_eq_false_iff_ne, ne_eq]; omega
  have n7 : (kind == 7) = false := by simp only [beq_eq_false_iff_ne, ne_eq]; omega
  have n8 : (kind == 8) = false := by simp only [beq_eq_false_iff_ne, ne_eq]; omega
  have hr2 : Hidden (false = r) := by
    rw [← (show _ = r from hr)]
    simp only [beq_eq_false_iff_ne, ne_eq] at n1 n2 n3 n4 n5 n6 n7 n8
    simp [Hidden, fitsE, n1, n2, n3, n4, n5, n6, n7, n8]
  clear hr hk
  go_enter Tryz.func74, Tryz.ntmps74
  go_wp2_with fail
  go_ret
  exact ⟨ret_bl hr2, Fr.alloc _ _ _⟩
theorem fits_any (h : EH) (k : Nat) (hok : OkE h) (ao : Option Addr) (cap : Nat) (hcap : k ≤ cap) (hmax : cap ≤ 9223372036854775807) (r : Bool) (hr : fitsE F.Fl.canonS h k = r) (w : World) :
    Calls Tryz.prog 74 #[exV h (.slice ao k cap)] w fun e w' => e = .returned (.bool r) ∧ Fr (fun _ => False) w w' := by
  obtain ⟨kind, op, mod, name, vt, vb⟩ := h
  by_cases hk : 1 ≤ kind ∧ kind ≤ 8
  · obtain rfl | rfl | rfl | rfl | rfl | rfl | rfl | rfl : kind = 1 ∨ kind = 2 ∨ kind = 3 ∨ kind = 4 ∨ kind = 5 ∨ kind = 6 ∨ kind = 7 ∨ kind = 8 := by omega
    · exact fits_1 op vt vb mod name k hok.vb0 hok.vb1 ao cap hcap hmax r hr w
    · exact fits_2 op vt vb mod name k ao cap hcap hmax r hr w
    · exact fits_3 op vt vb mod name k ao cap hcap hmax r hr w
    · exact fits_4 op vt vb mod name k ao cap hcap hmax r hr w
    · exact fits_5 op vt vb mod name k ao cap hcap hmax r hr w
    · exact fits_6 op vt vb mod name k ao cap hcap hmax r hr w
    · exact fits_7 op vt vb mod name k ao cap hcap hmax r hr w
    · exact fits_8 op vt vb mod name k ao cap hcap hmax r hr w
  · exact fits_no kind op vt vb mod name k hk ao cap hcap hmax r hr w
end Go.Proofs.YtfkccanjdlajlabGreatDoor
