/- Texts of ours, in one. -/
import Derived.Test.YtbmaaaeipcopcaaTrD2
import Derived.Test.YtbmaaaeipcopcaaNyA
import Derived.Test.YtbmaaaeipcopcaaFxA
import Derived.Deep.QuietTactic
import Derived.BigQuiet
import Derived.Test.YtbmaaaeipcopcaaTrF
namespace Go.Proofs.Ytbmaaaeipcopcaa
open Go.RowKit Te
set_option linter.unusedSimpArgs false
set_option linter.unusedVariables false

/-- It gave up by an error. -/
def gUp (c : Int) : Ending := .panicked [{ v := .iface 82 (.agg #[.int .i64 c]), recovered := false }]
/-- What a look comes to. -/
def lk (c : Int) : Ending := if c = 0 then .returned (.tuple #[]) else gUp c
theorem lk_0 : lk 0 = .returned (.tuple #[]) := rfl
theorem lk_ne {c : Int} (h : c ≠ 0) : lk c = gUp c := by simp [lk, h]

theorem must_ok (c : Int) (w : World) : Calls Try.prog 22 #[.bool true, ci c] w fun e w' => e = .returned (.tuple #[]) ∧ w' = w := by
  go_enter Try.func22, Try.ntmps22
  go_wp2
  go_end0
  exact ⟨rfl, rfl⟩
theorem must_no (c : Int) (w : World) : Calls Try.prog 22 #[.bool false, ci c] w fun e w' => e = gUp c ∧ w' = w := by
  go_enter Try.func22, Try.ntmps22
  go_wp2
  exact ⟨rfl, rfl, rfl⟩
theorem mustName_ok (s : Bs) (hr : N.rightS s = 0) (hl : OkN s) (w : World) : Calls Try.prog 50 #[ct s] w fun e w' => e = .returned (.tuple #[]) ∧ w' = w := by
  have kr := fun w => N.right_any s _ hr hl w
  have km := fun w => must_ok 0 w
  clear hr
  go_enter Try.func50, Try.ntmps50
  go_wp2_with (first
    | (go_at_call 73; refine (kr _).mono ?_; rintro e w' ⟨rfl, rfl⟩)
    | (go_at_call 22; refine (km _).mono ?_; rintro e w' ⟨rfl, rfl⟩))
  go_end0
  exact ⟨rfl, rfl⟩
theorem mustName_no (s : Bs) (c : Int) (hr : N.rightS s = c) (hc : c ≠ 0) (hl : OkN s) (w : World) : Calls Try.prog 50 #[ct s] w fun e w' => e = gUp c ∧ w' = w := by
  have kr := fun w => N.right_any s _ hr hl w
  have km := fun w => must_no c w
  have hb : (c == 0) = false := by simp [hc]
  clear hr hc
  unfold gUp at *
  go_enter Try.func50, Try.ntmps50
  go_wp2_with (first
    | (go_at_call 73; refine (kr _).mono ?_; rintro e w' ⟨rfl, rfl⟩)
    | (go_at_call 22; refine (km _).mono ?_; rintro e w' ⟨rfl, rfl⟩))
  exact ⟨rfl, rfl, rfl⟩

theorem drewN_fr {S : Nat → Prop} {w w' : World} (h : Fr S w w') (n : Nat) : Fr S w (w'.drewN n) := ⟨h.os, h.output, h.size, h.block⟩
theorem ret_bl {x y : Bool} (h : x = y) : Ending.returned (.bool x) = .returned (.bool y) := by rw [h]
set_option maxRecDepth 20000 in
theorem isLit_any (vt vb : Int) (hb0 : 0 ≤ vb) (hb1 : vb < 18446744073709551616) (r : Bool) (hr : Hidden (litOk F.Fl.canonS vt vb = r)) (w : World) :
    Calls Try.prog 72 #[.agg #[ci vt, .int .u64 vb]] w fun e w' => e = .returned (.bool r) ∧ Fr (fun _ => False) w w' := by
  have kc := fun w => (F.canon_any vb ⟨hb0, hb1⟩ w).mono (fun e w' h => (⟨h.1, h.2.symm⟩ : _ ∧ w' = w))
  by_cases h2 : (vt == 2) = true
  · have h1 : (vt == 1) = false := by simp only [beq_iff_eq] at *; simp [h2]
    have e2 : vt = 2 := by simpa using h2
    by_cases hlt : vb < 9223372036854775808
    · have t1 : decide (vb < 9223372036854775808) = true := by simpa using hlt
      have hr1 : Hidden (decide (F.Fl.canonS vb = vb) = r) := by rw [← (show _ = r from hr)]; simp [Hidden, litOk, e2, hlt]
      clear e2 hr
      go_enter Try.func72, Try.ntmps72
      go_wp2_with fail
      go_quiet ((go_at_call 30; exact Calls.quiet_of_same (kc _)))
      go_wp2_with fail
      go_ret
      refine ⟨ret_bl ?_, drewN_fr (Fr.alloc _ _ _) _⟩
      rw [← (show _ = r from hr1)]
      rfl
    · have t1 : decide (vb < 9223372036854775808) = false := by simpa using hlt
      have hr1 : Hidden (false = r) := by rw [← (show _ = r from hr)]; simp [Hidden, litOk, e2, hlt]
      clear e2 hr
      go_enter Try.func72, Try.ntmps72
      go_wp2_with fail
      go_quiet ((go_at_call 30; exact Calls.quiet_of_same (kc _)))
      go_wp2_with fail
      go_ret
      exact ⟨ret_bl hr1, drewN_fr (Fr.alloc _ _ _) _⟩
  · have h2' : (vt == 2) = false := by simpa using h2
    clear h2
    go_enter Try.func72, Try.ntmps72
    go_wp2_with fail
    all_goals (go_ret; refine ⟨ret_bl ?_, Fr.alloc _ _ _⟩; rw [← (show _ = r from hr)]; clear hr)
    all_goals (simp only [beq_iff_eq, beq_eq_false_iff_ne, ne_eq] at *; simp [litOk, *])
theorem fr_set {w w' : World} {b : Nat} (h : Fr (fun _ => False) w w') (hb : w.heap.size ≤ b) (off : Nat) (v : Value) : Fr (fun _ => False) w (w'.setCell ⟨b, off, none⟩ v) :=
  h.over (Fr.setCell w' ⟨b, off, none⟩ v) (fun k hk => by have : k = b := hk; omega)
set_option maxRecDepth 20000 in
set_option maxHeartbeats 4000000 in
theorem fits_1 (op vt vb : Int) (mod name : Bs) (k : Nat) (hb0 : 0 ≤ vb) (hb1 : vb < 18446744073709551616) (ao : Option Addr) (cap : Nat) (hcap : k ≤ cap) (hmax : cap ≤ 9223372036854775807) (r : Bool) (hr : Hidden (fitsE F.Fl.canonS ⟨1, op, mod, name, vt, vb⟩ k = r)) (w : World) :
    Calls Try.prog 49 #[exV ⟨1, op, mod, name, vt, vb⟩ (.slice ao k cap)] w fun e w' => e = .returned (.bool r) ∧ Fr (fun _ => False) w w' := by
  have kl := fun w => isLit_any vt vb hb0 hb1 _ rfl w
  have hbx : Hidden ((w.alloc (.cells #[ci 1, ci op, ct mod, ct name, ci vt, .int .u64 vb, .slice ao k cap] 27)).heap[w.heap.size]? = some (.cells #[ci 1, ci op, ct mod, ct name, ci vt, .int .u64 vb, .slice ao k cap] 27 (0, 0))) := alloc_new _ _
  have hr2 : Hidden ((litOk F.Fl.canonS vt vb && decide (op = 0 ∧ mod = [] ∧ name = [] ∧ k = 0)) = r) := hr
  generalize litOk F.Fl.canonS vt vb = lo at kl hr2
  clear hr
  cases lo
  all_goals
    go_enter Try.func49, Try.ntmps49
    go_wp2_with fail
    go_at_call 72
    refine (kl _).mono ?_
    rintro e w1 ⟨rfl, f1⟩
    have hb1 := f1.heap hbx (fun f => f)
    obtain ⟨c0, c1, c2, c3, c4, c5, c6⟩ := ex_box hb1
    have z4 : w1.frozen? ⟨w.heap.size, 4, none⟩ = false := frozen_of_row hb1 4
    have z5 : w1.frozen? ⟨w.heap.size, 5, none⟩ = false := frozen_of_row hb1 5
    go_wp2_with fail
    all_goals
      go_ret
      refine ⟨ret_bl ?_, ?_⟩
      · rw [← (show _ = r from hr2)]
        clear hr2
        subst_vars
        first | (simp [*]; done) | (simp [*]; omega) | (rw [Bool.eq_iff_iff]; simp [*]; done) | (rw [Bool.eq_iff_iff]; simp [*]; omega)
      · repeat (refine fr_set ?_ (Nat.le_refl _) _ _)
        exact (Fr.alloc _ _ _).same f1
set_option maxRecDepth 20000 in
set_option maxHeartbeats 4000000 in
theorem fits_2 (op vt vb : Int) (mod name : Bs) (k : Nat) (ao : Option Addr) (cap : Nat) (hcap : k ≤ cap) (hmax : cap ≤ 9223372036854775807) (r : Bool) (hr : Hidden (fitsE F.Fl.canonS ⟨2, op, mod, name, vt, vb⟩ k = r)) (w : World) :
    Calls Try.prog 49 #[exV ⟨2, op, mod, name, vt, vb⟩ (.slice ao k cap)] w fun e w' => e = .returned (.bool r) ∧ Fr (fun _ => False) w w' := by
  go_enter Try.func49, Try.ntmps49
  go_wp2_with fail
  all_goals
    go_ret
    refine ⟨ret_bl ?_, ?_⟩
    · rw [← (show _ = r from hr)]
      clear hr
      subst_vars
      first | (simp [fitsE, *]; done) | (simp [fitsE, *]; omega) | (rw [Bool.eq_iff_iff]; simp [fitsE, *]; done) | (rw [Bool.eq_iff_iff]; simp [fitsE, *]; omega)
    · repeat (refine fr_set ?_ (Nat.le_refl _) _ _)
      first | exact Fr.alloc _ _ _ | exact (Fr.alloc _ _ _).same f1
set_option maxRecDepth 20000 in
set_option maxHeartbeats 4000000 in
theorem fits_3 (op vt vb : Int) (mod name : Bs) (k : Nat) (ao : Option Addr) (cap : Nat) (hcap : k ≤ cap) (hmax : cap ≤ 9223372036854775807) (r : Bool) (hr : Hidden (fitsE F.Fl.canonS ⟨3, op, mod, name, vt, vb⟩ k = r)) (w : World) :
    Calls Try.prog 49 #[exV ⟨3, op, mod, name, vt, vb⟩ (.slice ao k cap)] w fun e w' => e = .returned (.bool r) ∧ Fr (fun _ => False) w w' := by
  go_enter Try.func49, Try.ntmps49
  go_wp2_with fail
  all_goals
    go_ret
    refine ⟨ret_bl ?_, ?_⟩
    · rw [← (show _ = r from hr)]
      clear hr
      subst_vars
      first | (simp [fitsE, *]; done) | (simp [fitsE, *]; omega) | (rw [Bool.eq_iff_iff]; simp [fitsE, *]; done) | (rw [Bool.eq_iff_iff]; simp [fitsE, *]; omega)
    · repeat (refine fr_set ?_ (Nat.le_refl _) _ _)
      first | exact Fr.alloc _ _ _ | exact (Fr.alloc _ _ _).same f1
set_option maxRecDepth 20000 in
set_option maxHeartbeats 4000000 in
theorem fits_4 (op vt vb : Int) (mod name : Bs) (k : Nat) (ao : Option Addr) (cap : Nat) (hcap : k ≤ cap) (hmax : cap ≤ 9223372036854775807) (r : Bool) (hr : Hidden (fitsE F.Fl.canonS ⟨4, op, mod, name, vt, vb⟩ k = r)) (w : World) :
    Calls Try.prog 49 #[exV ⟨4, op, mod, name, vt, vb⟩ (.slice ao k cap)] w fun e w' => e = .returned (.bool r) ∧ Fr (fun _ => False) w w' := by
  go_enter Try.func49, Try.ntmps49
  go_wp2_with fail
  all_goals
    go_ret
    refine ⟨ret_bl ?_, ?_⟩
    · rw [← (show _ = r from hr)]
      clear hr
      subst_vars
      first | (simp [fitsE, *]; done) | (simp [fitsE, *]; omega) | (rw [Bool.eq_iff_iff]; simp [fitsE, *]; done) | (rw [Bool.eq_iff_iff]; simp [fitsE, *]; omega)
    · repeat (refine fr_set ?_ (Nat.le_refl _) _ _)
      first | exact Fr.alloc _ _ _ | exact (Fr.alloc _ _ _).same f1
set_option maxRecDepth 20000 in
set_option maxHeartbeats 4000000 in
theorem fits_5 (op vt vb : Int) (mod name : Bs) (k : Nat) (ao : Option Addr) (cap : Nat) (hcap : k ≤ cap) (hmax : cap ≤ 9223372036854775807) (r : Bool) (hr : Hidden (fitsE F.Fl.canonS ⟨5, op, mod, name, vt, vb⟩ k = r)) (w : World) :
    Calls Try.prog 49 #[exV ⟨5, op, mod, name, vt, vb⟩ (.slice ao k cap)] w fun e w' => e = .returned (.bool r) ∧ Fr (fun _ => False) w w' := by
  go_enter Try.func49, Try.ntmps49
  go_wp2_with fail
  all_goals
    go_ret
    refine ⟨ret_bl ?_, ?_⟩
    · rw [← (show _ = r from hr)]
      clear hr
      subst_vars
      first | (simp [fitsE, *]; done) | (simp [fitsE, *]; omega) | (rw [Bool.eq_iff_iff]; simp [fitsE, *]; done) | (rw [Bool.eq_iff_iff]; simp [fitsE, *]; omega)
    · repeat (refine fr_set ?_ (Nat.le_refl _) _ _)
      first | exact Fr.alloc _ _ _ | exact (Fr.alloc _ _ _).same f1
set_option maxRecDepth 20000 in
set_option maxHeartbeats 4000000 in
theorem fits_6 (op vt vb : Int) (mod name : Bs) (k : Nat) (ao : Option Addr) (cap : Nat) (hcap : k ≤ cap) (hmax : cap ≤ 9223372036854775807) (r : Bool) (hr : Hidden (fitsE F.Fl.canonS ⟨6, op, mod, name, vt, vb⟩ k = r)) (w : World) :
    Calls Try.prog 49 #[exV ⟨6, op, mod, name, vt, vb⟩ (.slice ao k cap)] w fun e w' => e = .returned (.bool r) ∧ Fr (fun _ => False) w w' := by
  go_enter Try.func49, Try.ntmps49
  go_wp2_with fail
  all_goals
    go_ret
    refine ⟨ret_bl ?_, ?_⟩
    · rw [← (show _ = r from hr)]
      clear hr
      subst_vars
      first | (simp [fitsE, *]; done) | (simp [fitsE, *]; omega) | (rw [Bool.eq_iff_iff]; simp [fitsE, *]; done) | (rw [Bool.eq_iff_iff]; simp [fitsE, *]; omega)
    · repeat (refine fr_set ?_ (Nat.le_refl _) _ _)
      first | exact Fr.alloc _ _ _ | exact (Fr.alloc _ _ _).same f1
set_option maxRecDepth 20000 in
set_option maxHeartbeats 4000000 in
theorem fits_7 (op vt vb : Int) (mod name : Bs) (k : Nat) (ao : Option Addr) (cap : Nat) (hcap : k ≤ cap) (hmax : cap ≤ 9223372036854775807) (r : Bool) (hr : Hidden (fitsE F.Fl.canonS ⟨7, op, mod, name, vt, vb⟩ k = r)) (w : World) :
    Calls Try.prog 49 #[exV ⟨7, op, mod, name, vt, vb⟩ (.slice ao k cap)] w fun e w' => e = .returned (.bool r) ∧ Fr (fun _ => False) w w' := by
  go_enter Try.func49, Try.ntmps49
  go_wp2_with fail
  all_goals
    go_ret
    refine ⟨ret_bl ?_, ?_⟩
    · rw [← (show _ = r from hr)]
      clear hr
      subst_vars
      first | (simp [fitsE, *]; done) | (simp [fitsE, *]; omega) | (rw [Bool.eq_iff_iff]; simp [fitsE, *]; done) | (rw [Bool.eq_iff_iff]; simp [fitsE, *]; omega)
    · repeat (refine fr_set ?_ (Nat.le_refl _) _ _)
      first | exact Fr.alloc _ _ _ | exact (Fr.alloc _ _ _).same f1
set_option maxRecDepth 20000 in
set_option maxHeartbeats 4000000 in
theorem fits_8 (op vt vb : Int) (mod name : Bs) (k : Nat) (ao : Option Addr) (cap : Nat) (hcap : k ≤ cap) (hmax : cap ≤ 9223372036854775807) (r : Bool) (hr : Hidden (fitsE F.Fl.canonS ⟨8, op, mod, name, vt, vb⟩ k = r)) (w : World) :
    Calls Try.prog 49 #[exV ⟨8, op, mod, name, vt, vb⟩ (.slice ao k cap)] w fun e w' => e = .returned (.bool r) ∧ Fr (fun _ => False) w w' := by
  go_enter Try.func49, Try.ntmps49
  go_wp2_with fail
  all_goals
    go_ret
    refine ⟨ret_bl ?_, ?_⟩
    · rw [← (show _ = r from hr)]
      clear hr
      subst_vars
      first | (simp [fitsE, *]; done) | (simp [fitsE, *]; omega) | (rw [Bool.eq_iff_iff]; simp [fitsE, *]; done) | (rw [Bool.eq_iff_iff]; simp [fitsE, *]; omega)
    · repeat (refine fr_set ?_ (Nat.le_refl _) _ _)
      first | exact Fr.alloc _ _ _ | exact (Fr.alloc _ _ _).same f1
set_option maxRecDepth 20000 in
set_option maxHeartbeats 4000000 in
theorem fits_no (kind op vt vb : Int) (mod name : Bs) (k : Nat) (hk : ¬ (1 ≤ kind ∧ kind ≤ 8)) (ao : Option Addr) (cap : Nat) (hcap : k ≤ cap) (hmax : cap ≤ 9223372036854775807) (r : Bool) (hr : Hidden (fitsE F.Fl.canonS ⟨kind, op, mod, name, vt, vb⟩ k = r)) (w : World) :
    Calls Try.prog 49 #[exV ⟨kind, op, mod, name, vt, vb⟩ (.slice ao k cap)] w fun e w' => e = .returned (.bool r) ∧ Fr (fun _ => False) w w' := by
  have n1 : (kind == 1) = false := by simp only [beq_eq_false_iff_ne, ne_eq]; omega
  have n2 : (kind == 2) = false := by simp only [beq_eq_false_iff_ne, ne_eq]; omega
  have n3 : (kind == 3) = false := by simp only [beq_eq_false_iff_ne, ne_eq]; omega
  have n4 : (kind == 4) = false := by simp only [beq_eq_false_iff_ne, ne_eq]; omega
  have n5 : (kind == 5) = false := by simp only [beq_eq_false_iff_ne, ne_eq]; omega
  have n6 : (kind == 6) = false := by simp only [beq_eq_false_iff_ne, ne_eq]; omega
  have n7 : (kind == 7) = false := by simp only [beq_eq_false_iff_ne, ne_eq]; omega
  have n8 : (kind == 8) = false := by simp only [beq_eq_false_iff_ne, ne_eq]; omega
  have hr2 : Hidden (false = r) := by
    rw [← (show _ = r from hr)]
    simp only [beq_eq_false_iff_ne, ne_eq] at n1 n2 n3 n4 n5 n6 n7 n8
    simp [Hidden, fitsE, n1, n2, n3, n4, n5, n6, n7, n8]
  clear hr hk
  go_enter Try.func49, Try.ntmps49
  go_wp2_with fail
  go_ret
  exact ⟨ret_bl hr2, Fr.alloc _ _ _⟩
theorem fits_any (h : EH) (k : Nat) (hok : OkE h) (ao : Option Addr) (cap : Nat) (hcap : k ≤ cap) (hmax : cap ≤ 9223372036854775807) (r : Bool) (hr : fitsE F.Fl.canonS h k = r) (w : World) :
    Calls Try.prog 49 #[exV h (.slice ao k cap)] w fun e w' => e = .returned (.bool r) ∧ Fr (fun _ => False) w w' := by
  obtain ⟨kind, op, mod, name, vt, vb⟩ := h
  by_cases hk : 1 ≤ kind ∧ kind ≤ 8
  · obtain rfl | rfl | rfl | rfl | rfl | rfl | rfl | rfl : kind = 1 ∨ kind = 2 ∨ kind = 3 ∨ kind = 4 ∨ kind = 5 ∨ kind = 6 ∨ kind = 7 ∨ kind = 8 := by omega
    · exact fits_1 op vt vb mod name k hok.vb0 hok.vb1 ao cap hcap hmax r hr w
    · exact fits_2 op vt vb mod name k ao cap hcap hmax r hr w
    · exact fits_3 op vt vb mod name k ao cap hcap hmax r hr w
    · exact fits_4 op vt vb mod name k ao cap hcap hmax r hr w
    · exact fits_5 op vt vb mod name k ao cap hcap hmax r hr w
    · exact fits_6 op vt vb mod name k ao cap hcap hmax r hr w
    · exact fits_7 op vt vb mod name k ao cap hcap hmax r hr w
    · exact fits_8 op vt vb mod name k ao cap hcap hmax r hr w
  · exact fits_no kind op vt vb mod name k hk ao cap hcap hmax r hr w
end Go.Proofs.Ytbmaaaeipcopcaa

namespace Go.Proofs.Ytbmaaaeipcopcaa
open Go.RowKit Te
set_option linter.unusedSimpArgs false
set_option linter.unusedVariables false

/-- A frame that has given up. -/
def gvn (c : Int) (done : Bool) : FrameMode := .panicking [{ v := .iface 82 (.agg #[.int .i64 c]), recovered := done }]
theorem assert_fault (v : Value) (w : World) : (Instr.typeAssert (.iface 82 v) 20 82 true).run Try.prog w = .ok (.tuple #[v, .bool true]) w := by kernel_rfl

set_option maxHeartbeats 1000000 in
theorem catch_fault (b : Nat) (c : Int) (w : World) (hb : w.heap[b]? = some (.cells #[ci 0] 36 (0, 0))) :
    CallsD Try.prog 46 #[.pointer (some ⟨b, 0, none⟩)] (gvn c false) w fun e u' w' =>
      e = .returned (.tuple #[]) ∧ u' = gvn c true ∧ w'.heap[b]? = some (.cells #[ci c] 36 (0, 0)) ∧ Fr (fun k => k = b) w w' := by
  have hta := assert_fault
  refine callsD_of_wpS Try.func46 rfl fun c₀ cs hu => ?_
  have e0 : (#[Value.pointer (some ⟨b, 0, none⟩)] ++ Array.replicate (Try.f46.ntmps - (#[Value.pointer (some ⟨b, 0, none⟩)] : Array Value).size) undef) = #[Value.pointer (some ⟨b, 0, none⟩), undef, undef, undef, undef, undef, undef, undef, undef, undef, undef, undef] := rfl
  rw [e0]
  clear e0
  apply wpS_seq
  apply wpS_region
  simp [wpOpsS, go_sem, recoverD, hu, Try.ntmps46, Exit.thenS, gvn]
  refine wpS_of_wp ?_
  have hb0 : w.cell? ⟨b, 0, none⟩ = some (ci 0) := cell_of_row _ _ 0 _ _ _ hb
  have hlt := lt_of_heap hb
  have hz : w.frozen? ⟨b, 0, none⟩ = false := by simp [World.frozen?, hb]
  have hz2 : ∀ o : Obj, (w.alloc o).frozen? ⟨b, 0, none⟩ = false := fun o => by
    have : (w.alloc o).heap[b]? = some (.cells #[ci 0] 36 (0, 0)) := (alloc_old w o b hlt).trans hb
    simp [World.frozen?, this]
  have hc2 : ∀ o : Obj, (w.alloc o).cell? ⟨b, 0, none⟩ = some (ci 0) := fun o => (Fr.alloc (fun _ => False) w o).cellN hb0
  go_wp2
  refine ⟨rfl, _, rfl, _, results_none rfl _ _ _, rfl, rfl, ?_, ?_⟩
  · rw [alloc_old _ _ _ (by simpa using hlt)]
    exact heap_setCell_same w b 0 #[ci 0] 36 (ci c) hb
  · exact (Fr.setCell w ⟨b, 0, none⟩ _).same (Fr.alloc _ _ _)
set_option maxHeartbeats 1000000 in
theorem idle_fault (b : Nat) (w : World) :
    CallsD Try.prog 46 #[.pointer (some ⟨b, 0, none⟩)] .returning w fun e u' w' => e = .returned (.tuple #[]) ∧ u' = .returning ∧ w' = w := by
  refine callsD_of_wpS Try.func46 rfl fun c₀ cs hu => ?_
  have e0 : (#[Value.pointer (some ⟨b, 0, none⟩)] ++ Array.replicate (Try.f46.ntmps - (#[Value.pointer (some ⟨b, 0, none⟩)] : Array Value).size) undef) = #[Value.pointer (some ⟨b, 0, none⟩), undef, undef, undef, undef, undef, undef, undef, undef, undef, undef, undef] := rfl
  rw [e0]
  clear e0
  apply wpS_seq
  apply wpS_region
  simp [wpOpsS, go_sem, recoverD, hu, Try.ntmps46, Exit.thenS]
  refine wpS_of_wp ?_
  go_wp2
  refine ⟨rfl, .returning, ?_, _, results_none rfl _ _ _, rfl, rfl, rfl⟩
  rw [← hu]

set_option maxHeartbeats 1000000 in
theorem fault_x (p : Addr) (c : Int) (w : World)
    (kt : ∀ w0, Fr (fun _ => False) w w0 → Calls Try.prog 21 #[.pointer (some p)] w0 fun e w' => e = lk c ∧ Fr (fun _ => False) w0 w') :
    Calls Try.prog 20 #[.func (.func 21) #[] #[.pointer (some p)]] w fun e w' => e = .returned (ci c) ∧ Fr (fun _ => False) w w' := by
  have hmf : ∀ (fn : Fn) (first cap : Array Value) (w : World), (Instr.makeFunc fn first cap).run Try.prog w = .ok (.func fn first cap) w := fun _ _ _ _ => rfl
  have f0 := Fr.alloc (fun _ => False) w (.cells #[ci 0] 36)
  have hb0 : Hidden ((w.alloc (.cells #[ci 0] 36)).heap[w.heap.size]? = some (.cells #[ci 0] 36 (0, 0))) := alloc_new _ _
  have k1 := kt _ f0
  clear kt
  by_cases hc : c = 0
  · subst hc
    rw [lk_0] at k1
    go_enter_defers Try.func20, Try.ntmps20
    go_wp2_with fail
    go_at_call 21
    refine k1.mono ?_
    rintro e w1 ⟨rfl, f1⟩
    have hb1 := f1.heap hb0 (fun f => f)
    have hc1 : w1.cell? ⟨w.heap.size, 0, none⟩ = some (ci 0) := cell_of_row _ _ 0 _ _ _ hb1
    have hz1 : w1.frozen? ⟨w.heap.size, 0, none⟩ = false := by simp [World.frozen?, hb1]
    go_wp2_with fail
    refine leaves_cons (f := 46) (args := #[.pointer (some ⟨w.heap.size, 0, none⟩)]) (by simp) (by simp [go_sem]) ?_
    refine (idle_fault w.heap.size _).mono ?_
    rintro e u' w'' ⟨rfl, rfl, rfl⟩
    have hc3 : (w1.setCell ⟨w.heap.size, 0, none⟩ (.int .i64 0)).cell? ⟨w.heap.size, 0, none⟩ = some (ci 0) := cell_of_row _ _ 0 _ _ _ (heap_setCell_same w1 w.heap.size 0 #[ci 0] 36 (ci 0) hb1)
    simp [Leaves, settle, results, Try.results20, go_sem, hc3]
    exact fr_set (f0.same f1) (Nat.le_refl _) _ _
  · rw [lk_ne hc] at k1
    unfold gUp at k1
    go_enter_defers Try.func20, Try.ntmps20
    go_wp2_with fail
    go_at_call 21
    refine k1.mono ?_
    rintro e w1 ⟨rfl, f1⟩
    have hb1 := f1.heap hb0 (fun f => f)
    go_wp2_with fail
    refine leaves_cons (f := 46) (args := #[.pointer (some ⟨w.heap.size, 0, none⟩)]) (by simp) (by simp [go_sem]) ?_
    refine (catch_fault w.heap.size c w1 hb1).mono ?_
    rintro e u' w'' ⟨rfl, rfl, h3, h4⟩
    have hc3 : w''.cell? ⟨w.heap.size, 0, none⟩ = some (ci c) := cell_of_row _ _ 0 _ _ _ h3
    simp [Leaves, settle, results, Try.results20, go_sem, hc3, gvn]
    exact (f0.same f1).over h4 (fun k hk => by have : k = w.heap.size := hk; omega)
end Go.Proofs.Ytbmaaaeipcopcaa

namespace Go.Proofs.Ytbmaaaeipcopcaa
open Go.RowKit Te
set_option linter.unusedSimpArgs false
set_option linter.unusedVariables false

abbrev rnS : Bs → Int := N.rightS
abbrev cnS : Int → Int := F.Fl.canonS
theorem must_yes (b : Bool) (hb : b = true) (c : Int) (w : World) : Calls Try.prog 22 #[.bool b, ci c] w fun e w' => e = .returned (.tuple #[]) ∧ w' = w := by subst hb; exact must_ok c w
theorem must_not (b : Bool) (hb : b = false) (c : Int) (w : World) : Calls Try.prog 22 #[.bool b, ci c] w fun e w' => e = gUp c ∧ w' = w := by subst hb; exact must_no c w
def LookL (k : Exs) : Prop := ∀ (ao : Option Addr) (cap : Nat) (w : World), OkX k → ExL w ao cap k →
  Calls Try.prog 51 #[.slice ao k.len cap] w fun e w' => e = lk (errL rnS cnS k) ∧ Fr (fun _ => False) w w'
def LookX (h : EH) (k : Exs) : Prop := ∀ (ao : Option Addr) (cap : Nat) (w : World), OkE h → OkX k → ExL w ao cap k →
  Calls Try.prog 24 #[exV h (.slice ao k.len cap)] w fun e w' => e = lk (orE (errH rnS cnS h k.len) (errL rnS cnS k)) ∧ Fr (fun _ => False) w w'
theorem lk_is {c d : Int} (h : d = c ∧ c ≠ 0) : lk d = .panicked [{ v := .iface 82 (.agg #[.int .i64 c]), recovered := false }] := by
  rw [h.1, lk_ne h.2]
  rfl
set_option maxRecDepth 20000 in
set_option maxHeartbeats 4000000 in
theorem lookX_2 (op vt vb : Int) (mod name : Bs) (k : Exs) (hL : LookL k) (ao : Option Addr) (cap : Nat) (w : World) (ho : OkE ⟨2, op, mod, name, vt, vb⟩) (hx : OkX k) (hk : ExL w ao cap k) :
    Calls Try.prog 24 #[exV ⟨2, op, mod, name, vt, vb⟩ (.slice ao k.len cap)] w fun e w' => e = lk (orE (errH rnS cnS ⟨2, op, mod, name, vt, vb⟩ k.len) (errL rnS cnS k)) ∧ Fr (fun _ => False) w w' := by
  have hmax : cap ≤ 9223372036854775807 := by have := hk.2.1; unfold maxLen at this; omega
  have kf := fun w r hr => fits_any ⟨2, op, mod, name, vt, vb⟩ k.len ho ao cap hk.1 hmax r hr w
  have hbx : Hidden ((w.alloc (.cells #[ci 2, ci op, ct mod, ct name, ci vt, .int .u64 vb, .slice ao k.len cap] 27)).heap[w.heap.size]? = some (.cells #[ci 2, ci op, ct mod, ct name, ci vt, .int .u64 vb, .slice ao k.len cap] 27 (0, 0))) := alloc_new _ _
  have f0 : Fr (fun _ => False) w (w.alloc (.cells #[ci 2, ci op, ct mod, ct name, ci vt, .int .u64 vb, .slice ao k.len cap] 27)) := Fr.alloc _ _ _
  unfold LookL at hL
  unfold gUp at *
  by_cases hf : fitsE cnS ⟨2, op, mod, name, vt, vb⟩ k.len = true
  · by_cases hn : rnS name = 0
    · by_cases h8 : k.len ≤ 8
      · by_cases h0 : errL rnS cnS k = 0
        · go_enter Try.func24, Try.ntmps24
          go_wp2_with fail
          go_at_call 49
          refine (kf _ _ hf).mono ?_
          rintro e w1 ⟨rfl, f1⟩
          obtain ⟨c0, c1, c2, c3, c4, c5, c6⟩ := ex_box (f1.heap hbx (fun f => f))
          have g1 := f0.same f1
          go_wp2_with fail
          go_at_call 22
          refine (must_yes _ (by first | rfl | (simp; omega) | simpa using hf) 1 _).mono ?_
          rintro e w2 ⟨rfl, rfl⟩
          go_wp2_with fail
          go_at_call 50
          refine (mustName_ok name hn ho.name _).mono ?_
          rintro e w2 ⟨rfl, rfl⟩
          go_wp2_with fail
          go_at_call 22
          refine (must_yes _ (by first | rfl | (simp; omega) | simpa using h8) 3 _).mono ?_
          rintro e w2 ⟨rfl, rfl⟩
          go_wp2_with fail
          go_at_call 51
          refine (hL ao cap _ hx (hk.keep g1)).mono ?_
          rw [h0, lk_0]
          rintro e w3 ⟨rfl, f3⟩
          go_wp2_with fail
          go_end0
          refine ⟨?_, g1.same f3⟩
          rw [show orE (errH rnS cnS _ k.len) (errL rnS cnS k) = 0 by simp only [errH, hf, if_true, nameE]; simp [orE, *]]
          rfl
        · go_enter Try.func24, Try.ntmps24
          go_wp2_with fail
          go_at_call 49
          refine (kf _ _ hf).mono ?_
          rintro e w1 ⟨rfl, f1⟩
          obtain ⟨c0, c1, c2, c3, c4, c5, c6⟩ := ex_box (f1.heap hbx (fun f => f))
          have g1 := f0.same f1
          go_wp2_with fail
          go_at_call 22
          refine (must_yes _ (by first | rfl | (simp; omega) | simpa using hf) 1 _).mono ?_
          rintro e w2 ⟨rfl, rfl⟩
          go_wp2_with fail
          go_at_call 50
          refine (mustName_ok name hn ho.name _).mono ?_
          rintro e w2 ⟨rfl, rfl⟩
          go_wp2_with fail
          go_at_call 22
          refine (must_yes _ (by first | rfl | (simp; omega) | simpa using h8) 3 _).mono ?_
          rintro e w2 ⟨rfl, rfl⟩
          go_wp2_with fail
          go_at_call 51
          refine (hL ao cap _ hx (hk.keep g1)).mono ?_
          rw [lk_ne h0]
          unfold gUp
          rintro e w3 ⟨rfl, f3⟩
          go_wp2_with fail
          exact ⟨rfl, (lk_is ⟨by simp only [errH, hf, if_true, nameE]; simp [orE, *], h0⟩).symm, g1.same f3⟩
      · go_enter Try.func24, Try.ntmps24
        go_wp2_with fail
        go_at_call 49
        refine (kf _ _ hf).mono ?_
        rintro e w1 ⟨rfl, f1⟩
        obtain ⟨c0, c1, c2, c3, c4, c5, c6⟩ := ex_box (f1.heap hbx (fun f => f))
        have g1 := f0.same f1
        go_wp2_with fail
        go_at_call 22
        refine (must_yes _ (by first | rfl | (simp; omega) | simpa using hf) 1 _).mono ?_
        rintro e w2 ⟨rfl, rfl⟩
        go_wp2_with fail
        go_at_call 50
        refine (mustName_ok name hn ho.name _).mono ?_
        rintro e w2 ⟨rfl, rfl⟩
        go_wp2_with fail
        go_at_call 22
        refine (must_not _ (by first | rfl | (simp; omega) | simpa using h8) 3 _).mono ?_
        unfold gUp
        rintro e w2 ⟨rfl, rfl⟩
        go_wp2_with fail
        exact ⟨rfl, (lk_is ⟨by simp only [errH, hf, if_true, nameE]; simp [orE, *], by decide⟩).symm, g1⟩
    · go_enter Try.func24, Try.ntmps24
      go_wp2_with fail
      go_at_call 49
      refine (kf _ _ hf).mono ?_
      rintro e w1 ⟨rfl, f1⟩
      obtain ⟨c0, c1, c2, c3, c4, c5, c6⟩ := ex_box (f1.heap hbx (fun f => f))
      have g1 := f0.same f1
      go_wp2_with fail
      go_at_call 22
      refine (must_yes _ (by first | rfl | (simp; omega) | simpa using hf) 1 _).mono ?_
      rintro e w2 ⟨rfl, rfl⟩
      go_wp2_with fail
      go_at_call 50
      refine (mustName_no name _ rfl hn ho.name _).mono ?_
      unfold gUp
      rintro e w2 ⟨rfl, rfl⟩
      go_wp2_with fail
      exact ⟨rfl, (lk_is ⟨by simp only [errH, hf, if_true, nameE]; simp [orE, *], hn⟩).symm, g1⟩
  · replace hf : fitsE cnS ⟨2, op, mod, name, vt, vb⟩ k.len = false := by simpa using hf
    go_enter Try.func24, Try.ntmps24
    go_wp2_with fail
    go_at_call 49
    refine (kf _ _ hf).mono ?_
    rintro e w1 ⟨rfl, f1⟩
    obtain ⟨c0, c1, c2, c3, c4, c5, c6⟩ := ex_box (f1.heap hbx (fun f => f))
    have g1 := f0.same f1
    go_wp2_with fail
    go_at_call 22
    refine (must_not _ (by first | rfl | (simp; omega) | simpa using hf) 1 _).mono ?_
    unfold gUp
    rintro e w2 ⟨rfl, rfl⟩
    go_wp2_with fail
    exact ⟨rfl, (lk_is ⟨by simp [errH, orE, hf], by decide⟩).symm, g1⟩
set_option maxRecDepth 20000 in
set_option maxHeartbeats 4000000 in
theorem lookX_4 (op vt vb : Int) (mod name : Bs) (k : Exs) (hL : LookL k) (ao : Option Addr) (cap : Nat) (w : World) (ho : OkE ⟨4, op, mod, name, vt, vb⟩) (hx : OkX k) (hk : ExL w ao cap k) :
    Calls Try.prog 24 #[exV ⟨4, op, mod, name, vt, vb⟩ (.slice ao k.len cap)] w fun e w' => e = lk (orE (errH rnS cnS ⟨4, op, mod, name, vt, vb⟩ k.len) (errL rnS cnS k)) ∧ Fr (fun _ => False) w w' := by
  have hmax : cap ≤ 9223372036854775807 := by have := hk.2.1; unfold maxLen at this; omega
  have kf := fun w r hr => fits_any ⟨4, op, mod, name, vt, vb⟩ k.len ho ao cap hk.1 hmax r hr w
  have hbx : Hidden ((w.alloc (.cells #[ci 4, ci op, ct mod, ct name, ci vt, .int .u64 vb, .slice ao k.len cap] 27)).heap[w.heap.size]? = some (.cells #[ci 4, ci op, ct mod, ct name, ci vt, .int .u64 vb, .slice ao k.len cap] 27 (0, 0))) := alloc_new _ _
  have f0 : Fr (fun _ => False) w (w.alloc (.cells #[ci 4, ci op, ct mod, ct name, ci vt, .int .u64 vb, .slice ao k.len cap] 27)) := Fr.alloc _ _ _
  unfold LookL at hL
  unfold gUp at *
  by_cases hf : fitsE cnS ⟨4, op, mod, name, vt, vb⟩ k.len = true
  · by_cases hn : rnS name = 0
    · by_cases h8 : k.len ≤ 8
      · by_cases h0 : errL rnS cnS k = 0
        · go_enter Try.func24, Try.ntmps24
          go_wp2_with fail
          go_at_call 49
          refine (kf _ _ hf).mono ?_
          rintro e w1 ⟨rfl, f1⟩
          obtain ⟨c0, c1, c2, c3, c4, c5, c6⟩ := ex_box (f1.heap hbx (fun f => f))
          have g1 := f0.same f1
          go_wp2_with fail
          go_at_call 22
          refine (must_yes _ (by first | rfl | (simp; omega) | simpa using hf) 1 _).mono ?_
          rintro e w2 ⟨rfl, rfl⟩
          go_wp2_with fail
          go_at_call 50
          refine (mustName_ok name hn ho.name _).mono ?_
          rintro e w2 ⟨rfl, rfl⟩
          go_wp2_with fail
          go_at_call 22
          refine (must_yes _ (by first | rfl | (simp; omega) | simpa using h8) 3 _).mono ?_
          rintro e w2 ⟨rfl, rfl⟩
          go_wp2_with fail
          go_at_call 51
          refine (hL ao cap _ hx (hk.keep g1)).mono ?_
          rw [h0, lk_0]
          rintro e w3 ⟨rfl, f3⟩
          go_wp2_with fail
          go_end0
          refine ⟨?_, g1.same f3⟩
          rw [show orE (errH rnS cnS _ k.len) (errL rnS cnS k) = 0 by simp only [errH, hf, if_true, nameE]; simp [orE, *]]
          rfl
        · go_enter Try.func24, Try.ntmps24
          go_wp2_with fail
          go_at_call 49
          refine (kf _ _ hf).mono ?_
          rintro e w1 ⟨rfl, f1⟩
          obtain ⟨c0, c1, c2, c3, c4, c5, c6⟩ := ex_box (f1.heap hbx (fun f => f))
          have g1 := f0.same f1
          go_wp2_with fail
          go_at_call 22
          refine (must_yes _ (by first | rfl | (simp; omega) | simpa using hf) 1 _).mono ?_
          rintro e w2 ⟨rfl, rfl⟩
          go_wp2_with fail
          go_at_call 50
          refine (mustName_ok name hn ho.name _).mono ?_
          rintro e w2 ⟨rfl, rfl⟩
          go_wp2_with fail
          go_at_call 22
          refine (must_yes _ (by first | rfl | (simp; omega) | simpa using h8) 3 _).mono ?_
          rintro e w2 ⟨rfl, rfl⟩
          go_wp2_with fail
          go_at_call 51
          refine (hL ao cap _ hx (hk.keep g1)).mono ?_
          rw [lk_ne h0]
          unfold gUp
          rintro e w3 ⟨rfl, f3⟩
          go_wp2_with fail
          exact ⟨rfl, (lk_is ⟨by simp only [errH, hf, if_true, nameE]; simp [orE, *], h0⟩).symm, g1.same f3⟩
      · go_enter Try.func24, Try.ntmps24
        go_wp2_with fail
        go_at_call 49
        refine (kf _ _ hf).mono ?_
        rintro e w1 ⟨rfl, f1⟩
        obtain ⟨c0, c1, c2, c3, c4, c5, c6⟩ := ex_box (f1.heap hbx (fun f => f))
        have g1 := f0.same f1
        go_wp2_with fail
        go_at_call 22
        refine (must_yes _ (by first | rfl | (simp; omega) | simpa using hf) 1 _).mono ?_
        rintro e w2 ⟨rfl, rfl⟩
        go_wp2_with fail
        go_at_call 50
        refine (mustName_ok name hn ho.name _).mono ?_
        rintro e w2 ⟨rfl, rfl⟩
        go_wp2_with fail
        go_at_call 22
        refine (must_not _ (by first | rfl | (simp; omega) | simpa using h8) 3 _).mono ?_
        unfold gUp
        rintro e w2 ⟨rfl, rfl⟩
        go_wp2_with fail
        exact ⟨rfl, (lk_is ⟨by simp only [errH, hf, if_true, nameE]; simp [orE, *], by decide⟩).symm, g1⟩
    · go_enter Try.func24, Try.ntmps24
      go_wp2_with fail
      go_at_call 49
      refine (kf _ _ hf).mono ?_
      rintro e w1 ⟨rfl, f1⟩
      obtain ⟨c0, c1, c2, c3, c4, c5, c6⟩ := ex_box (f1.heap hbx (fun f => f))
      have g1 := f0.same f1
      go_wp2_with fail
      go_at_call 22
      refine (must_yes _ (by first | rfl | (simp; omega) | simpa using hf) 1 _).mono ?_
      rintro e w2 ⟨rfl, rfl⟩
      go_wp2_with fail
      go_at_call 50
      refine (mustName_no name _ rfl hn ho.name _).mono ?_
      unfold gUp
      rintro e w2 ⟨rfl, rfl⟩
      go_wp2_with fail
      exact ⟨rfl, (lk_is ⟨by simp only [errH, hf, if_true, nameE]; simp [orE, *], hn⟩).symm, g1⟩
  · replace hf : fitsE cnS ⟨4, op, mod, name, vt, vb⟩ k.len = false := by simpa using hf
    go_enter Try.func24, Try.ntmps24
    go_wp2_with fail
    go_at_call 49
    refine (kf _ _ hf).mono ?_
    rintro e w1 ⟨rfl, f1⟩
    obtain ⟨c0, c1, c2, c3, c4, c5, c6⟩ := ex_box (f1.heap hbx (fun f => f))
    have g1 := f0.same f1
    go_wp2_with fail
    go_at_call 22
    refine (must_not _ (by first | rfl | (simp; omega) | simpa using hf) 1 _).mono ?_
    unfold gUp
    rintro e w2 ⟨rfl, rfl⟩
    go_wp2_with fail
    exact ⟨rfl, (lk_is ⟨by simp [errH, orE, hf], by decide⟩).symm, g1⟩
set_option maxRecDepth 20000 in
set_option maxHeartbeats 4000000 in
theorem lookX_3 (op vt vb : Int) (mod name : Bs) (k : Exs) (hL : LookL k) (ao : Option Addr) (cap : Nat) (w : World) (ho : OkE ⟨3, op, mod, name, vt, vb⟩) (hx : OkX k) (hk : ExL w ao cap k) :
    Calls Try.prog 24 #[exV ⟨3, op, mod, name, vt, vb⟩ (.slice ao k.len cap)] w fun e w' => e = lk (orE (errH rnS cnS ⟨3, op, mod, name, vt, vb⟩ k.len) (errL rnS cnS k)) ∧ Fr (fun _ => False) w w' := by
  have hmax : cap ≤ 9223372036854775807 := by have := hk.2.1; unfold maxLen at this; omega
  have kf := fun w r hr => fits_any ⟨3, op, mod, name, vt, vb⟩ k.len ho ao cap hk.1 hmax r hr w
  have hbx : Hidden ((w.alloc (.cells #[ci 3, ci op, ct mod, ct name, ci vt, .int .u64 vb, .slice ao k.len cap] 27)).heap[w.heap.size]? = some (.cells #[ci 3, ci op, ct mod, ct name, ci vt, .int .u64 vb, .slice ao k.len cap] 27 (0, 0))) := alloc_new _ _
  have f0 : Fr (fun _ => False) w (w.alloc (.cells #[ci 3, ci op, ct mod, ct name, ci vt, .int .u64 vb, .slice ao k.len cap] 27)) := Fr.alloc _ _ _
  unfold LookL at hL
  unfold gUp at *
  by_cases hf : fitsE cnS ⟨3, op, mod, name, vt, vb⟩ k.len = true
  · by_cases hm : rnS mod = 0
    · by_cases hn : rnS name = 0
      · by_cases h8 : k.len ≤ 8
        · by_cases h0 : errL rnS cnS k = 0
          · go_enter Try.func24, Try.ntmps24
            go_wp2_with fail
            go_at_call 49
            refine (kf _ _ hf).mono ?_
            rintro e w1 ⟨rfl, f1⟩
            obtain ⟨c0, c1, c2, c3, c4, c5, c6⟩ := ex_box (f1.heap hbx (fun f => f))
            have g1 := f0.same f1
            go_wp2_with fail
            go_at_call 22
            refine (must_yes _ (by first | rfl | (simp; omega) | simpa using hf) 1 _).mono ?_
            rintro e w2 ⟨rfl, rfl⟩
            go_wp2_with fail
            go_at_call 50
            refine (mustName_ok mod hm ho.mod _).mono ?_
            rintro e w2 ⟨rfl, rfl⟩
            go_wp2_with fail
            go_at_call 50
            refine (mustName_ok name hn ho.name _).mono ?_
            rintro e w2 ⟨rfl, rfl⟩
            go_wp2_with fail
            go_at_call 22
            refine (must_yes _ (by first | rfl | (simp; omega) | simpa using h8) 3 _).mono ?_
            rintro e w2 ⟨rfl, rfl⟩
            go_wp2_with fail
            go_at_call 51
            refine (hL ao cap _ hx (hk.keep g1)).mono ?_
            rw [h0, lk_0]
            rintro e w3 ⟨rfl, f3⟩
            go_wp2_with fail
            go_end0
            refine ⟨?_, g1.same f3⟩
            rw [show orE (errH rnS cnS _ k.len) (errL rnS cnS k) = 0 by simp only [errH, hf, if_true, nameE]; simp [orE, *]]
            rfl
          · go_enter Try.func24, Try.ntmps24
            go_wp2_with fail
            go_at_call 49
            refine (kf _ _ hf).mono ?_
            rintro e w1 ⟨rfl, f1⟩
            obtain ⟨c0, c1, c2, c3, c4, c5, c6⟩ := ex_box (f1.heap hbx (fun f => f))
            have g1 := f0.same f1
            go_wp2_with fail
            go_at_call 22
            refine (must_yes _ (by first | rfl | (simp; omega) | simpa using hf) 1 _).mono ?_
            rintro e w2 ⟨rfl, rfl⟩
            go_wp2_with fail
            go_at_call 50
            refine (mustName_ok mod hm ho.mod _).mono ?_
            rintro e w2 ⟨rfl, rfl⟩
            go_wp2_with fail
            go_at_call 50
            refine (mustName_ok name hn ho.name _).mono ?_
            rintro e w2 ⟨rfl, rfl⟩
            go_wp2_with fail
            go_at_call 22
            refine (must_yes _ (by first | rfl | (simp; omega) | simpa using h8) 3 _).mono ?_
            rintro e w2 ⟨rfl, rfl⟩
            go_wp2_with fail
            go_at_call 51
            refine (hL ao cap _ hx (hk.keep g1)).mono ?_
            rw [lk_ne h0]
            unfold gUp
            rintro e w3 ⟨rfl, f3⟩
            go_wp2_with fail
            exact ⟨rfl, (lk_is ⟨by simp only [errH, hf, if_true, nameE]; simp [orE, *], h0⟩).symm, g1.same f3⟩
        · go_enter Try.func24, Try.ntmps24
          go_wp2_with fail
          go_at_call 49
          refine (kf _ _ hf).mono ?_
          rintro e w1 ⟨rfl, f1⟩
          obtain ⟨c0, c1, c2, c3, c4, c5, c6⟩ := ex_box (f1.heap hbx (fun f => f))
          have g1 := f0.same f1
          go_wp2_with fail
          go_at_call 22
          refine (must_yes _ (by first | rfl | (simp; omega) | simpa using hf) 1 _).mono ?_
          rintro e w2 ⟨rfl, rfl⟩
          go_wp2_with fail
          go_at_call 50
          refine (mustName_ok mod hm ho.mod _).mono ?_
          rintro e w2 ⟨rfl, rfl⟩
          go_wp2_with fail
          go_at_call 50
          refine (mustName_ok name hn ho.name _).mono ?_
          rintro e w2 ⟨rfl, rfl⟩
          go_wp2_with fail
          go_at_call 22
          refine (must_not _ (by first | rfl | (simp; omega) | simpa using h8) 3 _).mono ?_
          unfold gUp
          rintro e w2 ⟨rfl, rfl⟩
          go_wp2_with fail
          exact ⟨rfl, (lk_is ⟨by simp only [errH, hf, if_true, nameE]; simp [orE, *], by decide⟩).symm, g1⟩
      · go_enter Try.func24, Try.ntmps24
        go_wp2_with fail
        go_at_call 49
        refine (kf _ _ hf).mono ?_
        rintro e w1 ⟨rfl, f1⟩
        obtain ⟨c0, c1, c2, c3, c4, c5, c6⟩ := ex_box (f1.heap hbx (fun f => f))
        have g1 := f0.same f1
        go_wp2_with fail
        go_at_call 22
        refine (must_yes _ (by first | rfl | (simp; omega) | simpa using hf) 1 _).mono ?_
        rintro e w2 ⟨rfl, rfl⟩
        go_wp2_with fail
        go_at_call 50
        refine (mustName_ok mod hm ho.mod _).mono ?_
        rintro e w2 ⟨rfl, rfl⟩
        go_wp2_with fail
        go_at_call 50
        refine (mustName_no name _ rfl hn ho.name _).mono ?_
        unfold gUp
        rintro e w2 ⟨rfl, rfl⟩
        go_wp2_with fail
        exact ⟨rfl, (lk_is ⟨by simp only [errH, hf, if_true, nameE]; simp [orE, *], hn⟩).symm, g1⟩
    · go_enter Try.func24, Try.ntmps24
      go_wp2_with fail
      go_at_call 49
      refine (kf _ _ hf).mono ?_
      rintro e w1 ⟨rfl, f1⟩
      obtain ⟨c0, c1, c2, c3, c4, c5, c6⟩ := ex_box (f1.heap hbx (fun f => f))
      have g1 := f0.same f1
      go_wp2_with fail
      go_at_call 22
      refine (must_yes _ (by first | rfl | (simp; omega) | simpa using hf) 1 _).mono ?_
      rintro e w2 ⟨rfl, rfl⟩
      go_wp2_with fail
      go_at_call 50
      refine (mustName_no mod _ rfl hm ho.mod _).mono ?_
      unfold gUp
      rintro e w2 ⟨rfl, rfl⟩
      go_wp2_with fail
      exact ⟨rfl, (lk_is ⟨by simp only [errH, hf, if_true, nameE]; simp [orE, *], hm⟩).symm, g1⟩
  · replace hf : fitsE cnS ⟨3, op, mod, name, vt, vb⟩ k.len = false := by simpa using hf
    go_enter Try.func24, Try.ntmps24
    go_wp2_with fail
    go_at_call 49
    refine (kf _ _ hf).mono ?_
    rintro e w1 ⟨rfl, f1⟩
    obtain ⟨c0, c1, c2, c3, c4, c5, c6⟩ := ex_box (f1.heap hbx (fun f => f))
    have g1 := f0.same f1
    go_wp2_with fail
    go_at_call 22
    refine (must_not _ (by first | rfl | (simp; omega) | simpa using hf) 1 _).mono ?_
    unfold gUp
    rintro e w2 ⟨rfl, rfl⟩
    go_wp2_with fail
    exact ⟨rfl, (lk_is ⟨by simp [errH, orE, hf], by decide⟩).symm, g1⟩
set_option maxRecDepth 20000 in
set_option maxHeartbeats 4000000 in
theorem lookX_5 (op vt vb : Int) (mod name : Bs) (k : Exs) (hL : LookL k) (ao : Option Addr) (cap : Nat) (w : World) (ho : OkE ⟨5, op, mod, name, vt, vb⟩) (hx : OkX k) (hk : ExL w ao cap k) :
    Calls Try.prog 24 #[exV ⟨5, op, mod, name, vt, vb⟩ (.slice ao k.len cap)] w fun e w' => e = lk (orE (errH rnS cnS ⟨5, op, mod, name, vt, vb⟩ k.len) (errL rnS cnS k)) ∧ Fr (fun _ => False) w w' := by
  have hmax : cap ≤ 9223372036854775807 := by have := hk.2.1; unfold maxLen at this; omega
  have kf := fun w r hr => fits_any ⟨5, op, mod, name, vt, vb⟩ k.len ho ao cap hk.1 hmax r hr w
  have hbx : Hidden ((w.alloc (.cells #[ci 5, ci op, ct mod, ct name, ci vt, .int .u64 vb, .slice ao k.len cap] 27)).heap[w.heap.size]? = some (.cells #[ci 5, ci op, ct mod, ct name, ci vt, .int .u64 vb, .slice ao k.len cap] 27 (0, 0))) := alloc_new _ _
  have f0 : Fr (fun _ => False) w (w.alloc (.cells #[ci 5, ci op, ct mod, ct name, ci vt, .int .u64 vb, .slice ao k.len cap] 27)) := Fr.alloc _ _ _
  unfold LookL at hL
  unfold gUp at *
  by_cases hf : fitsE cnS ⟨5, op, mod, name, vt, vb⟩ k.len = true
  · by_cases hm : rnS mod = 0
    · by_cases hn : rnS name = 0
      · by_cases h8 : k.len ≤ 8
        · by_cases h0 : errL rnS cnS k = 0
          · go_enter Try.func24, Try.ntmps24
            go_wp2_with fail
            go_at_call 49
            refine (kf _ _ hf).mono ?_
            rintro e w1 ⟨rfl, f1⟩
            obtain ⟨c0, c1, c2, c3, c4, c5, c6⟩ := ex_box (f1.heap hbx (fun f => f))
            have g1 := f0.same f1
            go_wp2_with fail
            go_at_call 22
            refine (must_yes _ (by first | rfl | (simp; omega) | simpa using hf) 1 _).mono ?_
            rintro e w2 ⟨rfl, rfl⟩
            go_wp2_with fail
            go_at_call 50
            refine (mustName_ok mod hm ho.mod _).mono ?_
            rintro e w2 ⟨rfl, rfl⟩
            go_wp2_with fail
            go_at_call 50
            refine (mustName_ok name hn ho.name _).mono ?_
            rintro e w2 ⟨rfl, rfl⟩
            go_wp2_with fail
            go_at_call 22
            refine (must_yes _ (by first | rfl | (simp; omega) | simpa using h8) 3 _).mono ?_
            rintro e w2 ⟨rfl, rfl⟩
            go_wp2_with fail
            go_at_call 51
            refine (hL ao cap _ hx (hk.keep g1)).mono ?_
            rw [h0, lk_0]
            rintro e w3 ⟨rfl, f3⟩
            go_wp2_with fail
            go_end0
            refine ⟨?_, g1.same f3⟩
            rw [show orE (errH rnS cnS _ k.len) (errL rnS cnS k) = 0 by simp only [errH, hf, if_true, nameE]; simp [orE, *]]
            rfl
          · go_enter Try.func24, Try.ntmps24
            go_wp2_with fail
            go_at_call 49
            refine (kf _ _ hf).mono ?_
            rintro e w1 ⟨rfl, f1⟩
            obtain ⟨c0, c1, c2, c3, c4, c5, c6⟩ := ex_box (f1.heap hbx (fun f => f))
            have g1 := f0.same f1
            go_wp2_with fail
            go_at_call 22
            refine (must_yes _ (by first | rfl | (simp; omega) | simpa using hf) 1 _).mono ?_
            rintro e w2 ⟨rfl, rfl⟩
            go_wp2_with fail
            go_at_call 50
            refine (mustName_ok mod hm ho.mod _).mono ?_
            rintro e w2 ⟨rfl, rfl⟩
            go_wp2_with fail
            go_at_call 50
            refine (mustName_ok name hn ho.name _).mono ?_
            rintro e w2 ⟨rfl, rfl⟩
            go_wp2_with fail
            go_at_call 22
            refine (must_yes _ (by first | rfl | (simp; omega) | simpa using h8) 3 _).mono ?_
            rintro e w2 ⟨rfl, rfl⟩
            go_wp2_with fail
            go_at_call 51
            refine (hL ao cap _ hx (hk.keep g1)).mono ?_
            rw [lk_ne h0]
            unfold gUp
            rintro e w3 ⟨rfl, f3⟩
            go_wp2_with fail
            exact ⟨rfl, (lk_is ⟨by simp only [errH, hf, if_true, nameE]; simp [orE, *], h0⟩).symm, g1.same f3⟩
        · go_enter Try.func24, Try.ntmps24
          go_wp2_with fail
          go_at_call 49
          refine (kf _ _ hf).mono ?_
          rintro e w1 ⟨rfl, f1⟩
          obtain ⟨c0, c1, c2, c3, c4, c5, c6⟩ := ex_box (f1.heap hbx (fun f => f))
          have g1 := f0.same f1
          go_wp2_with fail
          go_at_call 22
          refine (must_yes _ (by first | rfl | (simp; omega) | simpa using hf) 1 _).mono ?_
          rintro e w2 ⟨rfl, rfl⟩
          go_wp2_with fail
          go_at_call 50
          refine (mustName_ok mod hm ho.mod _).mono ?_
          rintro e w2 ⟨rfl, rfl⟩
          go_wp2_with fail
          go_at_call 50
          refine (mustName_ok name hn ho.name _).mono ?_
          rintro e w2 ⟨rfl, rfl⟩
          go_wp2_with fail
          go_at_call 22
          refine (must_not _ (by first | rfl | (simp; omega) | simpa using h8) 3 _).mono ?_
          unfold gUp
          rintro e w2 ⟨rfl, rfl⟩
          go_wp2_with fail
          exact ⟨rfl, (lk_is ⟨by simp only [errH, hf, if_true, nameE]; simp [orE, *], by decide⟩).symm, g1⟩
      · go_enter Try.func24, Try.ntmps24
        go_wp2_with fail
        go_at_call 49
        refine (kf _ _ hf).mono ?_
        rintro e w1 ⟨rfl, f1⟩
        obtain ⟨c0, c1, c2, c3, c4, c5, c6⟩ := ex_box (f1.heap hbx (fun f => f))
        have g1 := f0.same f1
        go_wp2_with fail
        go_at_call 22
        refine (must_yes _ (by first | rfl | (simp; omega) | simpa using hf) 1 _).mono ?_
        rintro e w2 ⟨rfl, rfl⟩
        go_wp2_with fail
        go_at_call 50
        refine (mustName_ok mod hm ho.mod _).mono ?_
        rintro e w2 ⟨rfl, rfl⟩
        go_wp2_with fail
        go_at_call 50
        refine (mustName_no name _ rfl hn ho.name _).mono ?_
        unfold gUp
        rintro e w2 ⟨rfl, rfl⟩
        go_wp2_with fail
        exact ⟨rfl, (lk_is ⟨by simp only [errH, hf, if_true, nameE]; simp [orE, *], hn⟩).symm, g1⟩
    · go_enter Try.func24, Try.ntmps24
      go_wp2_with fail
      go_at_call 49
      refine (kf _ _ hf).mono ?_
      rintro e w1 ⟨rfl, f1⟩
      obtain ⟨c0, c1, c2, c3, c4, c5, c6⟩ := ex_box (f1.heap hbx (fun f => f))
      have g1 := f0.same f1
      go_wp2_with fail
      go_at_call 22
      refine (must_yes _ (by first | rfl | (simp; omega) | simpa using hf) 1 _).mono ?_
      rintro e w2 ⟨rfl, rfl⟩
      go_wp2_with fail
      go_at_call 50
      refine (mustName_no mod _ rfl hm ho.mod _).mono ?_
      unfold gUp
      rintro e w2 ⟨rfl, rfl⟩
      go_wp2_with fail
      exact ⟨rfl, (lk_is ⟨by simp only [errH, hf, if_true, nameE]; simp [orE, *], hm⟩).symm, g1⟩
  · replace hf : fitsE cnS ⟨5, op, mod, name, vt, vb⟩ k.len = false := by simpa using hf
    go_enter Try.func24, Try.ntmps24
    go_wp2_with fail
    go_at_call 49
    refine (kf _ _ hf).mono ?_
    rintro e w1 ⟨rfl, f1⟩
    obtain ⟨c0, c1, c2, c3, c4, c5, c6⟩ := ex_box (f1.heap hbx (fun f => f))
    have g1 := f0.same f1
    go_wp2_with fail
    go_at_call 22
    refine (must_not _ (by first | rfl | (simp; omega) | simpa using hf) 1 _).mono ?_
    unfold gUp
    rintro e w2 ⟨rfl, rfl⟩
    go_wp2_with fail
    exact ⟨rfl, (lk_is ⟨by simp [errH, orE, hf], by decide⟩).symm, g1⟩
set_option maxRecDepth 20000 in
set_option maxHeartbeats 4000000 in
theorem lookX_no (kind op vt vb : Int) (mod name : Bs) (k : Exs) (hL : LookL k) (ao : Option Addr) (cap : Nat) (w : World) (ho : OkE ⟨kind, op, mod, name, vt, vb⟩) (hx : OkX k) (hk : ExL w ao cap k) (n2 : kind ≠ 2) (n3 : kind ≠ 3) (n4 : kind ≠ 4) (n5 : kind ≠ 5) :
    Calls Try.prog 24 #[exV ⟨kind, op, mod, name, vt, vb⟩ (.slice ao k.len cap)] w fun e w' => e = lk (orE (errH rnS cnS ⟨kind, op, mod, name, vt, vb⟩ k.len) (errL rnS cnS k)) ∧ Fr (fun _ => False) w w' := by
  have hmax : cap ≤ 9223372036854775807 := by have := hk.2.1; unfold maxLen at this; omega
  have kf := fun w r hr => fits_any ⟨kind, op, mod, name, vt, vb⟩ k.len ho ao cap hk.1 hmax r hr w
  have hbx : Hidden ((w.alloc (.cells #[ci kind, ci op, ct mod, ct name, ci vt, .int .u64 vb, .slice ao k.len cap] 27)).heap[w.heap.size]? = some (.cells #[ci kind, ci op, ct mod, ct name, ci vt, .int .u64 vb, .slice ao k.len cap] 27 (0, 0))) := alloc_new _ _
  have f0 : Fr (fun _ => False) w (w.alloc (.cells #[ci kind, ci op, ct mod, ct name, ci vt, .int .u64 vb, .slice ao k.len cap] 27)) := Fr.alloc _ _ _
  unfold LookL at hL
  unfold gUp at *
  have m2 : (kind == 2) = false := by simp [n2]
  have m3 : (kind == 3) = false := by simp [n3]
  have m4 : (kind == 4) = false := by simp [n4]
  have m5 : (kind == 5) = false := by simp [n5]
  by_cases hf : fitsE cnS ⟨kind, op, mod, name, vt, vb⟩ k.len = true
  · by_cases h8 : k.len ≤ 8
    · by_cases h0 : errL rnS cnS k = 0
      · go_enter Try.func24, Try.ntmps24
        go_wp2_with fail
        go_at_call 49
        refine (kf _ _ hf).mono ?_
        rintro e w1 ⟨rfl, f1⟩
        obtain ⟨c0, c1, c2, c3, c4, c5, c6⟩ := ex_box (f1.heap hbx (fun f => f))
        have g1 := f0.same f1
        go_wp2_with fail
        go_at_call 22
        refine (must_yes _ (by first | rfl | (simp; omega) | simpa using hf) 1 _).mono ?_
        rintro e w2 ⟨rfl, rfl⟩
        go_wp2_with fail
        go_at_call 22
        refine (must_yes _ (by first | rfl | (simp; omega) | simpa using h8) 3 _).mono ?_
        rintro e w2 ⟨rfl, rfl⟩
        go_wp2_with fail
        go_at_call 51
        refine (hL ao cap _ hx (hk.keep g1)).mono ?_
        rw [h0, lk_0]
        rintro e w3 ⟨rfl, f3⟩
        go_wp2_with fail
        go_end0
        refine ⟨?_, g1.same f3⟩
        rw [show orE (errH rnS cnS _ k.len) (errL rnS cnS k) = 0 by simp only [errH, hf, if_true, nameE]; simp [orE, *]]
        rfl
      · go_enter Try.func24, Try.ntmps24
        go_wp2_with fail
        go_at_call 49
        refine (kf _ _ hf).mono ?_
        rintro e w1 ⟨rfl, f1⟩
        obtain ⟨c0, c1, c2, c3, c4, c5, c6⟩ := ex_box (f1.heap hbx (fun f => f))
        have g1 := f0.same f1
        go_wp2_with fail
        go_at_call 22
        refine (must_yes _ (by first | rfl | (simp; omega) | simpa using hf) 1 _).mono ?_
        rintro e w2 ⟨rfl, rfl⟩
        go_wp2_with fail
        go_at_call 22
        refine (must_yes _ (by first | rfl | (simp; omega) | simpa using h8) 3 _).mono ?_
        rintro e w2 ⟨rfl, rfl⟩
        go_wp2_with fail
        go_at_call 51
        refine (hL ao cap _ hx (hk.keep g1)).mono ?_
        rw [lk_ne h0]
        unfold gUp
        rintro e w3 ⟨rfl, f3⟩
        go_wp2_with fail
        exact ⟨rfl, (lk_is ⟨by simp only [errH, hf, if_true, nameE]; simp [orE, *], h0⟩).symm, g1.same f3⟩
    · go_enter Try.func24, Try.ntmps24
      go_wp2_with fail
      go_at_call 49
      refine (kf _ _ hf).mono ?_
      rintro e w1 ⟨rfl, f1⟩
      obtain ⟨c0, c1, c2, c3, c4, c5, c6⟩ := ex_box (f1.heap hbx (fun f => f))
      have g1 := f0.same f1
      go_wp2_with fail
      go_at_call 22
      refine (must_yes _ (by first | rfl | (simp; omega) | simpa using hf) 1 _).mono ?_
      rintro e w2 ⟨rfl, rfl⟩
      go_wp2_with fail
      go_at_call 22
      refine (must_not _ (by first | rfl | (simp; omega) | simpa using h8) 3 _).mono ?_
      unfold gUp
      rintro e w2 ⟨rfl, rfl⟩
      go_wp2_with fail
      exact ⟨rfl, (lk_is ⟨by simp only [errH, hf, if_true, nameE]; simp [orE, *], by decide⟩).symm, g1⟩
  · replace hf : fitsE cnS ⟨kind, op, mod, name, vt, vb⟩ k.len = false := by simpa using hf
    go_enter Try.func24, Try.ntmps24
    go_wp2_with fail
    go_at_call 49
    refine (kf _ _ hf).mono ?_
    rintro e w1 ⟨rfl, f1⟩
    obtain ⟨c0, c1, c2, c3, c4, c5, c6⟩ := ex_box (f1.heap hbx (fun f => f))
    have g1 := f0.same f1
    go_wp2_with fail
    go_at_call 22
    refine (must_not _ (by first | rfl | (simp; omega) | simpa using hf) 1 _).mono ?_
    unfold gUp
    rintro e w2 ⟨rfl, rfl⟩
    go_wp2_with fail
    exact ⟨rfl, (lk_is ⟨by simp [errH, orE, hf], by decide⟩).symm, g1⟩
theorem lookX_step (h : EH) (k : Exs) (hL : LookL k) : LookX h k := by
  intro ao cap w ho hx hk
  obtain ⟨kind, op, mod, name, vt, vb⟩ := h
  by_cases n2 : kind = 2
  · subst n2; exact lookX_2 op vt vb mod name k hL ao cap w ho hx hk
  by_cases n3 : kind = 3
  · subst n3; exact lookX_3 op vt vb mod name k hL ao cap w ho hx hk
  by_cases n4 : kind = 4
  · subst n4; exact lookX_4 op vt vb mod name k hL ao cap w ho hx hk
  by_cases n5 : kind = 5
  · subst n5; exact lookX_5 op vt vb mod name k hL ao cap w ho hx hk
  exact lookX_no kind op vt vb mod name k hL ao cap w ho hx hk n2 n3 n4 n5
set_option maxRecDepth 20000 in
set_option maxHeartbeats 4000000 in
theorem lookL_step (k : Exs) (ih : ∀ h' k', k'.size < k.size → LookX h' k') : LookL k := by
  intro ao cap w hx hk
  have hrest := hk.rest
  obtain ⟨hcap, hmax, _⟩ := hk
  have hlen : k.len ≤ 9223372036854775807 := by unfold maxLen at hmax; omega
  go_enter Try.func51, Try.ntmps51
  go_wp2_with fail
  go_loopg [6] k.len (fun g iv wr => ∃ (i : Nat) (r : Exs), iv = ci (i : Int) ∧ i + r.len = k.len ∧ r.size ≤ k.size ∧ OkX r ∧ ExR w ao i r ∧ errL rnS cnS k = errL rnS cnS r ∧ g = r.len ∧ Fr (fun _ => False) w wr)
  case atStart => exact ⟨0, k, rfl, by omega, Nat.le_refl _, hx, hrest, rfl, rfl, Fr.refl _ _⟩
  case round =>
    obtain ⟨i, r, rfl, hlen2, hsize, hok, hrow, hdk, hgk, hfr⟩ := hrel
    have hgkH : Hidden (gk = r.len) := hgk
    have hdkH : Hidden (errL rnS cnS k = errL rnS cnS r) := hdk
    have hlenH : Hidden (i + r.len = k.len) := hlen2
    clear hgk hdk hlen2 hrest
    cases r with
    | nil =>
      have hi : i = k.len := hlenH
      subst hi
      go_wp2_with fail
      go_end0
      refine ⟨?_, hfr⟩
      rw [show errL rnS cnS k = 0 from hdkH]
      rfl
    | cons h' k' r' =>
      have hil : i < k.len := by have : i + (r'.len + 1) = k.len := hlenH; omega
      obtain ⟨b, off, ao', cap', rfl, hL, hrow2, d0, d1, d2, d3, d4, d5, d6⟩ := hrow.next
      have d0 := hfr.cellN d0
      have d1 := hfr.cellN d1
      have d2 := hfr.cellN d2
      have d3 := hfr.cellN d3
      have d4 := hfr.cellN d4
      have d5 := hfr.cellN d5
      have d6 := hfr.cellN d6
      simp only [Exs.size] at hsize
      have ke := ih h' k' (by omega)
      unfold LookX at ke
      have f2 := hfr.same (Fr.alloc (fun _ => False) wr (.cells #[ci h'.kind, ci h'.op, ct h'.mod, ct h'.name, ci h'.vt, .int .u64 h'.vb, .slice ao' k'.len cap'] 27))
      have kc := ke ao' cap' _ hok.1 hok.2.1 (hL.keep f2)
      clear ke
      have hdk2 : Hidden (errL rnS cnS k = orE (orE (errH rnS cnS h' k'.len) (errL rnS cnS k')) (errL rnS cnS r')) := hdkH
      by_cases h0 : orE (errH rnS cnS h' k'.len) (errL rnS cnS k') = 0
      · rw [h0, lk_0] at kc
        rw [h0] at hdk2
        clear h0
        go_wp2_with fail
        go_at_call 24
        refine kc.mono ?_
        rintro e W3 ⟨rfl, f3⟩
        go_wp2_with fail
        go_roundg r'.len
        case measure =>
          have : gk = r'.len + 1 := hgkH
          omega
        case rel =>
          refine ⟨i + 1, r', by go_num, ?_, by omega, hok.2.2, hrow2, hdk2, rfl, f2.same f3⟩
          have : i + (r'.len + 1) = k.len := hlenH
          omega
      · rw [lk_ne h0] at kc
        have hdk3 : errL rnS cnS k = orE (errH rnS cnS h' k'.len) (errL rnS cnS k') := by rw [show errL rnS cnS k = _ from hdk2, orE_ne _ h0]
        unfold gUp at kc
        go_wp2_with fail
        go_at_call 24
        refine kc.mono ?_
        rintro e W3 ⟨rfl, f3⟩
        go_wp2_with fail
        exact ⟨rfl, (lk_is ⟨hdk3, h0⟩).symm, f2.same f3⟩
theorem look_any : ∀ (k : Exs), LookL k := by
  have : ∀ (n : Nat) (k : Exs), k.size < n → LookL k := by
    intro n
    induction n with
    | zero => intro k hk; omega
    | succ n ih => intro k hk; exact lookL_step k (fun h' k' hk' => lookX_step h' k' (ih k' (by omega)))
  exact fun k => this (k.size + 1) k (by omega)
theorem lookX_any (h : EH) (k : Exs) : LookX h k := lookX_step h k (look_any k)
end Go.Proofs.Ytbmaaaeipcopcaa

namespace Go.Proofs.Ytbmaaaeipcopcaa
open Go.RowKit Te
set_option linter.unusedSimpArgs false
set_option linter.unusedVariables false

abbrev exO (h : EH) (kv : Value) : Obj := .cells #[ci h.kind, ci h.op, ct h.mod, ct h.name, ci h.vt, .int .u64 h.vb, kv] 27 (0, 0)
set_option maxRecDepth 20000 in
set_option maxHeartbeats 4000000 in
theorem rx1_any (h : EH) (k : Exs) (ao : Option Addr) (cap : Nat) (q : Nat) (w : World) (ho : OkE h) (hx : OkX k) (hk : ExL w ao cap k) (hq : w.heap[q]? = some (exO h (.slice ao k.len cap))) :
    Calls Try.prog 21 #[.pointer (some ⟨q, 0, none⟩)] w fun e w' => e = lk (errX rnS cnS h k) ∧ Fr (fun _ => False) w w' := by
  obtain ⟨c0, c1, c2, c3, c4, c5, c6⟩ := ex_box hq
  have hqH : Hidden (w.heap[q]? = some (exO h (.slice ao k.len cap))) := hq
  have kd := depth_any h k 1 0 _ ao cap w rfl hk
  have kx := lookX_any h k
  unfold LookX at kx
  generalize hD : dX h k 1 0 = DD at kd
  clear hq
  unfold gUp at *
  by_cases hd : DD ≤ 32
  · have e1 : errX rnS cnS h k = orE (errH rnS cnS h k.len) (errL rnS cnS k) := by
      unfold errX
      rw [hD, if_neg (by omega)]
      rfl
    rw [e1]
    clear e1 hD
    generalize hE : orE (errH rnS cnS h k.len) (errL rnS cnS k) = E at kx
    clear hE
    by_cases h0 : E = 0
    · subst h0
      simp only [lk_0] at kx
      go_enter Try.func21, Try.ntmps21
      go_wp2_with fail
      go_at_call 23
      refine kd.mono ?_
      rintro e w1 ⟨rfl, f1⟩
      obtain ⟨d0, d1, d2, d3, d4, d5, d6⟩ := ex_box (f1.heap hqH (fun f => f))
      go_wp2_with fail
      go_at_call 22
      refine (must_yes _ (by first | rfl | (simp; omega)) 13 _).mono ?_
      rintro e w2 ⟨rfl, rfl⟩
      go_wp2_with fail
      go_at_call 24
      refine (kx ao cap _ ho hx (hk.keep f1)).mono ?_
      rintro e w3 ⟨rfl, f3⟩
      go_wp2_with fail
      go_end0
      exact ⟨rfl, f1.same f3⟩
    · simp only [lk_ne h0] at kx
      unfold gUp at kx
      go_enter Try.func21, Try.ntmps21
      go_wp2_with fail
      go_at_call 23
      refine kd.mono ?_
      rintro e w1 ⟨rfl, f1⟩
      obtain ⟨d0, d1, d2, d3, d4, d5, d6⟩ := ex_box (f1.heap hqH (fun f => f))
      go_wp2_with fail
      go_at_call 22
      refine (must_yes _ (by first | rfl | (simp; omega)) 13 _).mono ?_
      rintro e w2 ⟨rfl, rfl⟩
      go_wp2_with fail
      go_at_call 24
      refine (kx ao cap _ ho hx (hk.keep f1)).mono ?_
      rintro e w3 ⟨rfl, f3⟩
      go_wp2_with fail
      exact ⟨rfl, (lk_is ⟨rfl, h0⟩).symm, f1.same f3⟩
  · have e1 : errX rnS cnS h k = 13 := by
      unfold errX
      rw [hD, if_pos (by omega)]
      rfl
    rw [e1]
    clear e1 hD
    go_enter Try.func21, Try.ntmps21
    go_wp2_with fail
    go_at_call 23
    refine kd.mono ?_
    rintro e w1 ⟨rfl, f1⟩
    obtain ⟨d0, d1, d2, d3, d4, d5, d6⟩ := ex_box (f1.heap hqH (fun f => f))
    go_wp2_with fail
    go_at_call 22
    refine (must_not _ (by first | rfl | (simp; omega)) 13 _).mono ?_
    unfold gUp
    rintro e w2 ⟨rfl, rfl⟩
    go_wp2_with fail
    exact ⟨rfl, (lk_is ⟨rfl, by decide⟩).symm, f1⟩
set_option maxRecDepth 20000 in
theorem rightX_any (h : EH) (k : Exs) (v : Value) (w : World) (ho : OkE h) (hx : OkX k) (hv : ExI w h k v) :
    Calls Try.prog 12 #[v] w fun e w' => e = .returned (ci (errX rnS cnS h k)) ∧ Fr (fun _ => False) w w' := by
  obtain ⟨ao, cap, rfl, hk⟩ := hv
  have hmf : ∀ (fn : Fn) (first cap : Array Value) (w : World), (Instr.makeFunc fn first cap).run Try.prog w = .ok (.func fn first cap) w := fun _ _ _ _ => rfl
  have f0 := Fr.alloc (fun _ => False) w (exO h (.slice ao k.len cap))
  have hq : Hidden ((w.alloc (exO h (.slice ao k.len cap))).heap[w.heap.size]? = some (exO h (.slice ao k.len cap))) := alloc_new _ _
  have kf := fault_x ⟨w.heap.size, 0, none⟩ (errX rnS cnS h k) (w.alloc (exO h (.slice ao k.len cap))) (fun w0 f => rx1_any h k ao cap w.heap.size w0 ho hx (hk.keep (f0.same f)) (f.heap hq (fun f => f)))
  go_enter Try.func12, Try.ntmps12
  go_wp2_with fail
  go_at_call 20
  refine kf.mono ?_
  rintro e w1 ⟨rfl, f1⟩
  go_wp2_with fail
  go_ret
  exact ⟨rfl, f0.same f1⟩
end Go.Proofs.Ytbmaaaeipcopcaa
