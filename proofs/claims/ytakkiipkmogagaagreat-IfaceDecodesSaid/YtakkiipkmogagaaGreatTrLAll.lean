/- Texts of ours, in one. -/
import Derived.Test.YtakkiipkmogagaaGreatTrD2
import Derived.Test.YtakkiipkmogagaaGreatNyA
import Derived.Test.YtakkiipkmogagaaGreatFxA
import Derived.Deep.QuietTactic
import Derived.BigQuiet
import Derived.Test.YtakkiipkmogagaaGreatTrF
namespace Go.Proofs.YtakkiipkmogagaaGreat
open Go.RowKit Te
set_option linter.unusedSimpArgs false
set_option linter.unusedVariables false

/-- It gave up by an error. -/
def gUp (c : Int) : Ending := .panicked [{ v := .iface 156 (.agg #[.int .i64 c]), recovered := false }]
/-- What a look comes to. -/
def lk (c : Int) : Ending := if c = 0 then .returned (.tuple #[]) else gUp c
theorem lk_0 : lk 0 = .returned (.tuple #[]) := rfl
theorem lk_ne {c : Int} (h : c ≠ 0) : lk c = gUp c := by simp [lk, h]

theorem must_ok (c : Int) (w : World) : Calls Tryz.prog 111 #[.bool true, ci c] w fun e w' => e = .returned (.tuple #[]) ∧ w' = w := by
  go_enter Tryz.func111, Tryz.ntmps111
  go_wp2
  go_end0
  exact ⟨rfl, rfl⟩
theorem must_no (c : Int) (w : World) : Calls Tryz.prog 111 #[.bool false, ci c] w fun e w' => e = gUp c ∧ w' = w := by
  go_enter Tryz.func111, Tryz.ntmps111
  go_wp2
  exact ⟨rfl, rfl, rfl⟩
theorem mustName_ok (s : Bs) (hr : N.rightS s = 0) (hl : OkN s) (w : World) : Calls Tryz.prog 110 #[ct s] w fun e w' => e = .returned (.tuple #[]) ∧ w' = w := by
  have kr := fun w => N.right_any s _ hr hl w
  have km := fun w => must_ok 0 w
  clear hr
  go_enter Tryz.func110, Tryz.ntmps110
  go_wp2_with (first
    | (go_at_call 32; refine (kr _).mono ?_; rintro e w' ⟨rfl, rfl⟩)
    | (go_at_call 111; refine (km _).mono ?_; rintro e w' ⟨rfl, rfl⟩))
  go_end0
  exact ⟨rfl, rfl⟩
theorem mustName_no (s : Bs) (c : Int) (hr : N.rightS s = c) (hc : c ≠ 0) (hl : OkN s) (w : World) : Calls Tryz.prog 110 #[ct s] w fun e w' => e = gUp c ∧ w' = w := by
  have kr := fun w => N.right_any s _ hr hl w
  have km := fun w => must_no c w
  have hb : (c == 0) = false := by simp [hc]
  clear hr hc
  unfold gUp at *
  go_enter Tryz.func110, Tryz.ntmps110
  go_wp2_with (first
    | (go_at_call 32; refine (kr _).mono ?_; rintro e w' ⟨rfl, rfl⟩)
    | (go_at_call 111; refine (km _).mono ?_; rintro e w' ⟨rfl, rfl⟩))
  exact ⟨rfl, rfl, rfl⟩

theorem drewN_fr {S : Nat → Prop} {w w' : World} (h : Fr S w w') (n : Nat) : Fr S w (w'.drewN n) := ⟨h.os, h.output, h.size, h.block⟩
theorem ret_bl {x y : Bool} (h : x = y) : Ending.returned (.bool x) = .returned (.bool y) := by rw [h]
set_option maxRecDepth 20000 in
theorem isLit_any (vt vb : Int) (hb0 : 0 ≤ vb) (hb1 : vb < 18446744073709551616) (r : Bool) (hr : Hidden (litOk F.Fl.canonS vt vb = r)) (w : World) :
    Calls Tryz.prog 176 #[.agg #[ci vt, .int .u64 vb]] w fun e w' => e = .returned (.bool r) ∧ Fr (fun _ => False) w w' := by
  have kc := fun w => (F.canon_any vb ⟨hb0, hb1⟩ w).mono (fun e w' h => (⟨h.1, h.2.symm⟩ : _ ∧ w' = w))
  by_cases h2 : (vt == 2) = true
  · have h1 : (vt == 1) = false := by simp only [beq_iff_eq] at *; simp [h2]
    have e2 : vt = 2 := by simpa using h2
    by_cases hlt : vb < 9223372036854775808
    · have t1 : decide (vb < 9223372036854775808) = true := by simpa using hlt
      have hr1 : Hidden (decide (F.Fl.canonS vb = vb) = r) := by rw [← (show _ = r from hr)]; simp [Hidden, litOk, e2, hlt]
      clear e2 hr
      go_enter Tryz.func176, Tryz.ntmps176
      go_wp2_with fail
      go_quiet ((go_at_call 121; exact Calls.quiet_of_same (kc _)))
      go_wp2_with fail
      go_ret
      refine ⟨ret_bl ?_, drewN_fr (Fr.alloc _ _ _) _⟩
      rw [← (show _ = r from hr1)]
      rfl
    · have t1 : decide (vb < 9223372036854775808) = false := by simpa using hlt
      have hr1 : Hidden (false = r) := by rw [← (show _ = r from hr)]; simp [Hidden, litOk, e2, hlt]
      clear e2 hr
      go_enter Tryz.func176, Tryz.ntmps176
      go_wp2_with fail
      go_quiet ((go_at_call 121; exact Calls.quiet_of_same (kc _)))
      go_wp2_with fail
      go_ret
      exact ⟨ret_bl hr1, drewN_fr (Fr.alloc _ _ _) _⟩
  · have h2' : (vt == 2) = false := by simpa using h2
    clear h2
    go_enter Tryz.func176, Tryz.ntmps176
    go_wp2_with fail
    all_goals (go_ret; refine ⟨ret_bl ?_, Fr.alloc _ _ _⟩; rw [← (show _ = r from hr)]; clear hr)
    all_goals (simp only [beq_iff_eq, beq_eq_false_iff_ne, ne_eq] at *; simp [litOk, *])
theorem isType_any (t : Int) (r : Bool) (hr : Hidden (isTy t = r)) (w : World) : Calls Tryz.prog 125 #[ci t] w fun e w' => e = .returned (.bool r) ∧ w' = w := by
  go_enter Tryz.func125, Tryz.ntmps125
  go_wp2
  all_goals (go_ret; refine ⟨ret_bl ?_, rfl⟩; rw [← (show _ = r from hr)]; clear hr)
  all_goals (simp [isTy, *])

theorem fr_set {w w' : World} {b : Nat} (h : Fr (fun _ => False) w w') (hb : w.heap.size ≤ b) (off : Nat) (v : Value) : Fr (fun _ => False) w (w'.setCell ⟨b, off, none⟩ v) :=
  h.over (Fr.setCell w' ⟨b, off, none⟩ v) (fun k hk => by have : k = b := hk; omega)
set_option maxRecDepth 20000 in
set_option maxHeartbeats 4000000 in
theorem fits_1 (op vt vb : Int) (mod name : Bs) (k : Nat) (hb0 : 0 ≤ vb) (hb1 : vb < 18446744073709551616) (ao : Option Addr) (cap : Nat) (hcap : k ≤ cap) (hmax : cap ≤ 9223372036854775807) (r : Bool) (hr : Hidden (fitsE F.Fl.canonS ⟨1, op, mod, name, vt, vb⟩ k = r)) (w : World) :
    Calls Tryz.prog 161 #[exV ⟨1, op, mod, name, vt, vb⟩ (.slice ao k cap)] w fun e w' => e = .returned (.bool r) ∧ Fr (fun _ => False) w w' := by
  have kl := fun w => isLit_any vt vb hb0 hb1 _ rfl w
  have hbx : Hidden ((w.alloc (.cells #[ci 1, ci op, ct mod, ct name, ci vt, .int .u64 vb, .slice ao k cap] 55)).heap[w.heap.size]? = some (.cells #[ci 1, ci op, ct mod, ct name, ci vt, .int .u64 vb, .slice ao k cap] 55 (0, 0))) := alloc_new _ _
  have hr2 : Hidden ((litOk F.Fl.canonS vt vb && decide (op = 0 ∧ mod = [] ∧ name = [] ∧ k = 0)) = r) := hr
  generalize litOk F.Fl.canonS vt vb = lo at kl hr2
  clear hr
  cases lo
  all_goals
    go_enter Tryz.func161, Tryz.ntmps161
    go_wp2_with fail
    go_at_call 176
    refine (kl _).mono ?_
    rintro e w1 ⟨rfl, f1⟩
    have hb1 := f1.heap hbx (fun f => f)
    obtain ⟨c0, c1, c2, c3, c4, c5, c6⟩ := ex_box hb1
    have z4 : w1.frozen? ⟨w.heap.size, 4, none⟩ = false := frozen_of_row hb1 4
    have z5 : w1.frozen? ⟨w.heap.size, 5, none⟩ = false := frozen_of_row hb1 5
    go_wp2_with fail
    all_goals
      go_ret
      refine ⟨ret_bl ?_, ?_⟩
      · rw [← (show _ = r from hr2)]
        clear hr2
        subst_vars
        first | (simp [*]; done) | (simp [*]; omega) | (rw [Bool.eq_iff_iff]; simp [*]; done) | (rw [Bool.eq_iff_iff]; simp [*]; omega)
      · repeat (refine fr_set ?_ (Nat.le_refl _) _ _)
        exact (Fr.alloc _ _ _).same f1
set_option maxRecDepth 20000 in
set_option maxHeartbeats 4000000 in
theorem fits_2 (op vt vb : Int) (mod name : Bs) (k : Nat) (ao : Option Addr) (cap : Nat) (hcap : k ≤ cap) (hmax : cap ≤ 9223372036854775807) (r : Bool) (hr : Hidden (fitsE F.Fl.canonS ⟨2, op, mod, name, vt, vb⟩ k = r)) (w : World) :
    Calls Tryz.prog 161 #[exV ⟨2, op, mod, name, vt, vb⟩ (.slice ao k cap)] w fun e w' => e = .returned (.bool r) ∧ Fr (fun _ => False) w w' := by
  go_enter Tryz.func161, Tryz.ntmps161
  go_wp2_with fail
  all_goals
    go_ret
    refine ⟨ret_bl ?_, ?_⟩
    · rw [← (show _ = r from hr)]
      clear hr
      subst_vars
      first | (simp [fitsE, *]; done) | (simp [fitsE, *]; omega) | (rw [Bool.eq_iff_iff]; simp [fitsE, *]; done) | (rw [Bool.eq_iff_iff]; simp [fitsE, *]; omega)
    · repeat (refine fr_set ?_ (Nat.le_refl _) _ _)
      first | exact Fr.alloc _ _ _ | exact (Fr.alloc _ _ _).same f1
set_option maxRecDepth 20000 in
set_option maxHeartbeats 4000000 in
theorem fits_3 (op vt vb : Int) (mod name : Bs) (k : Nat) (ao : Option Addr) (cap : Nat) (hcap : k ≤ cap) (hmax : cap ≤ 9223372036854775807) (r : Bool) (hr : Hidden (fitsE F.Fl.canonS ⟨3, op, mod, name, vt, vb⟩ k = r)) (w : World) :
    Calls Tryz.prog 161 #[exV ⟨3, op, mod, name, vt, vb⟩ (.slice ao k cap)] w fun e w' => e = .returned (.bool r) ∧ Fr (fun _ => False) w w' := by
  go_enter Tryz.func161, Tryz.ntmps161
  go_wp2_with fail
  all_goals
    go_ret
    refine ⟨ret_bl ?_, ?_⟩
    · rw [← (show _ = r from hr)]
      clear hr
      subst_vars
      first | (simp [fitsE, *]; done) | (simp [fitsE, *]; omega) | (rw [Bool.eq_iff_iff]; simp [fitsE, *]; done) | (rw [Bool.eq_iff_iff]; simp [fitsE, *]; omega)
    · repeat (refine fr_set ?_ (Nat.le_refl _) _ _)
      first | exact Fr.alloc _ _ _ | exact (Fr.alloc _ _ _).same f1
set_option maxRecDepth 20000 in
set_option maxHeartbeats 4000000 in
theorem fits_4 (op vt vb : Int) (mod name : Bs) (k : Nat) (ao : Option Addr) (cap : Nat) (hcap : k ≤ cap) (hmax : cap ≤ 9223372036854775807) (r : Bool) (hr : Hidden (fitsE F.Fl.canonS ⟨4, op, mod, name, vt, vb⟩ k = r)) (w : World) :
    Calls Tryz.prog 161 #[exV ⟨4, op, mod, name, vt, vb⟩ (.slice ao k cap)] w fun e w' => e = .returned (.bool r) ∧ Fr (fun _ => False) w w' := by
  go_enter Tryz.func161, Tryz.ntmps161
  go_wp2_with fail
  all_goals
    go_ret
    refine ⟨ret_bl ?_, ?_⟩
    · rw [← (show _ = r from hr)]
      clear hr
      subst_vars
      first | (simp [fitsE, *]; done) | (simp [fitsE, *]; omega) | (rw [Bool.eq_iff_iff]; simp [fitsE, *]; done) | (rw [Bool.eq_iff_iff]; simp [fitsE, *]; omega)
    · repeat (refine fr_set ?_ (Nat.le_refl _) _ _)
      first | exact Fr.alloc _ _ _ | exact (Fr.alloc _ _ _).same f1
set_option maxRecDepth 20000 in
set_option maxHeartbeats 4000000 in
theorem fits_5 (op vt vb : Int) (mod name : Bs) (k : Nat) (ao : Option Addr) (cap : Nat) (hcap : k ≤ cap) (hmax : cap ≤ 9223372036854775807) (r : Bool) (hr : Hidden (fitsE F.Fl.canonS ⟨5, op, mod, name, vt, vb⟩ k = r)) (w : World) :
    Calls Tryz.prog 161 #[exV ⟨5, op, mod, name, vt, vb⟩ (.slice ao k cap)] w fun e w' => e = .returned (.bool r) ∧ Fr (fun _ => False) w w' := by
  go_enter Tryz.func161, Tryz.ntmps161
  go_wp2_with fail
  all_goals
    go_ret
    refine ⟨ret_bl ?_, ?_⟩
    · rw [← (show _ = r from hr)]
      clear hr
      subst_vars
      first | (simp [fitsE, *]; done) | (simp [fitsE, *]; omega) | (rw [Bool.eq_iff_iff]; simp [fitsE, *]; done) | (rw [Bool.eq_iff_iff]; simp [fitsE, *]; omega)
    · repeat (refine fr_set ?_ (Nat.le_refl _) _ _)
      first | exact Fr.alloc _ _ _ | exact (Fr.alloc _ _ _).same f1
set_option maxRecDepth 20000 in
set_option maxHeartbeats 4000000 in
theorem fits_6 (op vt vb : Int) (mod name : Bs) (k : Nat) (ao : Option Addr) (cap : Nat) (hcap : k ≤ cap) (hmax : cap ≤ 9223372036854775807) (r : Bool) (hr : Hidden (fitsE F.Fl.canonS ⟨6, op, mod, name, vt, vb⟩ k = r)) (w : World) :
    Calls Tryz.prog 161 #[exV ⟨6, op, mod, name, vt, vb⟩ (.slice ao k cap)] w fun e w' => e = .returned (.bool r) ∧ Fr (fun _ => False) w w' := by
  go_enter Tryz.func161, Tryz.ntmps161
  go_wp2_with fail
  all_goals
    go_ret
    refine ⟨ret_bl ?_, ?_⟩
    · rw [← (show _ = r from hr)]
      clear hr
      subst_vars
      first | (simp [fitsE, *]; done) | (simp [fitsE, *]; omega) | (rw [Bool.eq_iff_iff]; simp [fitsE, *]; done) | (rw [Bool.eq_iff_iff]; simp [fitsE, *]; omega)
    · repeat (refine fr_set ?_ (Nat.le_refl _) _ _)
      first | exact Fr.alloc _ _ _ | exact (Fr.alloc _ _ _).same f1
set_option maxRecDepth 20000 in
set_option maxHeartbeats 4000000 in
theorem fits_7 (op vt vb : Int) (mod name : Bs) (k : Nat) (ao : Option Addr) (cap : Nat) (hcap : k ≤ cap) (hmax : cap ≤ 9223372036854775807) (r : Bool) (hr : Hidden (fitsE F.Fl.canonS ⟨7, op, mod, name, vt, vb⟩ k = r)) (w : World) :
    Calls Tryz.prog 161 #[exV ⟨7, op, mod, name, vt, vb⟩ (.slice ao k cap)] w fun e w' => e = .returned (.bool r) ∧ Fr (fun _ => False) w w' := by
  go_enter Tryz.func161, Tryz.ntmps161
  go_wp2_with fail
  all_goals
    go_ret
    refine ⟨ret_bl ?_, ?_⟩
    · rw [← (show _ = r from hr)]
      clear hr
      subst_vars
      first | (simp [fitsE, *]; done) | (simp [fitsE, *]; omega) | (rw [Bool.eq_iff_iff]; simp [fitsE, *]; done) | (rw [Bool.eq_iff_iff]; simp [fitsE, *]; omega)
    · repeat (refine fr_set ?_ (Nat.le_refl _) _ _)
      first | exact Fr.alloc _ _ _ | exact (Fr.alloc _ _ _).same f1
set_option maxRecDepth 20000 in
set_option maxHeartbeats 4000000 in
theorem fits_8 (op vt vb : Int) (mod name : Bs) (k : Nat) (ao : Option Addr) (cap : Nat) (hcap : k ≤ cap) (hmax : cap ≤ 9223372036854775807) (r : Bool) (hr : Hidden (fitsE F.Fl.canonS ⟨8, op, mod, name, vt, vb⟩ k = r)) (w : World) :
    Calls Tryz.prog 161 #[exV ⟨8, op, mod, name, vt, vb⟩ (.slice ao k cap)] w fun e w' => e = .returned (.bool r) ∧ Fr (fun _ => False) w w' := by
  go_enter Tryz.func161, Tryz.ntmps161
  go_wp2_with fail
  all_goals
    go_ret
    refine ⟨ret_bl ?_, ?_⟩
    · rw [← (show _ = r from hr)]
      clear hr
      subst_vars
      first | (simp [fitsE, *]; done) | (simp [fitsE, *]; omega) | (rw [Bool.eq_iff_iff]; simp [fitsE, *]; done) | (rw [Bool.eq_iff_iff]; simp [fitsE, *]; omega)
    · repeat (refine fr_set ?_ (Nat.le_refl _) _ _)
      first | exact Fr.alloc _ _ _ | exact (Fr.alloc _ _ _).same f1
set_option maxRecDepth 20000 in
set_option maxHeartbeats 4000000 in
theorem fits_no (kind op vt vb : Int) (mod name : Bs) (k : Nat) (hk : ¬ (1 ≤ kind ∧ kind ≤ 8)) (ao : Option Addr) (cap : Nat) (hcap : k ≤ cap) (hmax : cap ≤ 9223372036854775807) (r : Bool) (hr : Hidden (fitsE F.Fl.canonS ⟨kind, op, mod, name, vt, vb⟩ k = r)) (w : World) :
    Calls Tryz.prog 161 #[exV ⟨kind, op, mod, name, vt, vb⟩ (.slice ao k cap)] w fun e w' => e = .returned (.bool r) ∧ Fr (fun _ => False) w w' := by
  have n1 : (kind == 1) = false := by simp only [beq_eq_false_iff_ne, ne_eq]; omega
  have n2 : (kind == 2) = false := by simp only [beq_eq_false_iff_ne, ne_eq]; omega
  have n3 : (kind == 3) = false := by simp only [beq_eq_false_iff_ne, ne_eq]; omega
  have n4 : (kind == 4) = false := by simp only [beq_eq_false_iff_ne, ne_eq]; omega
  have n5 : (kind == 5) = false := by simp only [beq_eq_false_iff_ne, ne_eq]; omega
  have n6 : (kind == 6) = false := by simp only [beq_eq_false_iff_ne, ne_eq]; omega
  have n7 : (kind == 7) = false := by simp only [beq_eq_false_iff_ne, ne_eq]; omega
  have n8 : (kind == 8) = false := by simp only [beq_eq_false_iff_ne, ne_eq]; omega
  have hr2 : Hidden (false = r) := by
    rw [← (show _ = r from hr)]
    simp only [beq_eq_false_iff_ne, ne_eq] at n1 n2 n3 n4 n5 n6 n7 n8
    simp [Hidden, fitsE, n1, n2, n3, n4, n5, n6, n7, n8]
  clear hr hk
  go_enter Tryz.func161, Tryz.ntmps161
  go_wp2_with fail
  go_ret
  exact ⟨ret_bl hr2, Fr.alloc _ _ _⟩
theorem fits_any (h : EH) (k : Nat) (hok : OkE h) (ao : Option Addr) (cap : Nat) (hcap : k ≤ cap) (hmax : cap ≤ 9223372036854775807) (r : Bool) (hr : fitsE F.Fl.canonS h k = r) (w : World) :
    Calls Tryz.prog 161 #[exV h (.slice ao k cap)] w fun e w' => e = .returned (.bool r) ∧ Fr (fun _ => False) w w' := by
  obtain ⟨kind, op, mod, name, vt, vb⟩ := h
  by_cases hk : 1 ≤ kind ∧ kind ≤ 8
  · obtain rfl | rfl | rfl | rfl | rfl | rfl | rfl | rfl : kind = 1 ∨ kind = 2 ∨ kind = 3 ∨ kind = 4 ∨ kind = 5 ∨ kind = 6 ∨ kind = 7 ∨ kind = 8 := by omega
    · exact fits_1 op vt vb mod name k hok.vb0 hok.vb1 ao cap hcap hmax r hr w
    · exact fits_2 op vt vb mod name k ao cap hcap hmax r hr w
    · exact fits_3 op vt vb mod name k ao cap hcap hmax r hr w
    · exact fits_4 op vt vb mod name k ao cap hcap hmax r hr w
    · exact fits_5 op vt vb mod name k ao cap hcap hmax r hr w
    · exact fits_6 op vt vb mod name k ao cap hcap hmax r hr w
    · exact fits_7 op vt vb mod name k ao cap hcap hmax r hr w
    · exact fits_8 op vt vb mod name k ao cap hcap hmax r hr w
  · exact fits_no kind op vt vb mod name k hk ao cap hcap hmax r hr w
end Go.Proofs.YtakkiipkmogagaaGreat

namespace Go.Proofs.YtakkiipkmogagaaGreat
open Go.RowKit Te
set_option linter.unusedSimpArgs false
set_option linter.unusedVariables false

/-- A frame that has given up. -/
def gvn (c : Int) (done : Bool) : FrameMode := .panicking [{ v := .iface 156 (.agg #[.int .i64 c]), recovered := done }]
theorem assert_fault (v : Value) (w : World) : (Instr.typeAssert (.iface 156 v) 20 156 true).run Tryz.prog w = .ok (.tuple #[v, .bool true]) w := by kernel_rfl

set_option maxHeartbeats 1000000 in
theorem catch_fault (b : Nat) (c : Int) (w : World) (hb : w.heap[b]? = some (.cells #[ci 0] 26 (0, 0))) :
    CallsD Tryz.prog 109 #[.pointer (some ⟨b, 0, none⟩)] (gvn c false) w fun e u' w' =>
      e = .returned (.tuple #[]) ∧ u' = gvn c true ∧ w'.heap[b]? = some (.cells #[ci c] 26 (0, 0)) ∧ Fr (fun k => k = b) w w' := by
  have hta := assert_fault
  refine callsD_of_wpS Tryz.func109 rfl fun c₀ cs hu => ?_
  have e0 : (#[Value.pointer (some ⟨b, 0, none⟩)] ++ Array.replicate (Tryz.f109.ntmps - (#[Value.pointer (some ⟨b, 0, none⟩)] : Array Value).size) undef) = #[Value.pointer (some ⟨b, 0, none⟩), undef, undef, undef, undef, undef, undef, undef, undef, undef, undef, undef] := rfl
  rw [e0]
  clear e0
  apply wpS_seq
  apply wpS_region
  simp [wpOpsS, go_sem, recoverD, hu, Tryz.ntmps109, Exit.thenS, gvn]
  refine wpS_of_wp ?_
  have hb0 : w.cell? ⟨b, 0, none⟩ = some (ci 0) := cell_of_row _ _ 0 _ _ _ hb
  have hlt := lt_of_heap hb
  have hz : w.frozen? ⟨b, 0, none⟩ = false := by simp [World.frozen?, hb]
  have hz2 : ∀ o : Obj, (w.alloc o).frozen? ⟨b, 0, none⟩ = false := fun o => by
    have : (w.alloc o).heap[b]? = some (.cells #[ci 0] 26 (0, 0)) := (alloc_old w o b hlt).trans hb
    simp [World.frozen?, this]
  have hc2 : ∀ o : Obj, (w.alloc o).cell? ⟨b, 0, none⟩ = some (ci 0) := fun o => (Fr.alloc (fun _ => False) w o).cellN hb0
  go_wp2
  refine ⟨rfl, _, rfl, _, results_none rfl _ _ _, rfl, rfl, ?_, ?_⟩
  · rw [alloc_old _ _ _ (by simpa using hlt)]
    exact heap_setCell_same w b 0 #[ci 0] 26 (ci c) hb
  · exact (Fr.setCell w ⟨b, 0, none⟩ _).same (Fr.alloc _ _ _)
set_option maxHeartbeats 1000000 in
theorem idle_fault (b : Nat) (w : World) :
    CallsD Tryz.prog 109 #[.pointer (some ⟨b, 0, none⟩)] .returning w fun e u' w' => e = .returned (.tuple #[]) ∧ u' = .returning ∧ w' = w := by
  refine callsD_of_wpS Tryz.func109 rfl fun c₀ cs hu => ?_
  have e0 : (#[Value.pointer (some ⟨b, 0, none⟩)] ++ Array.replicate (Tryz.f109.ntmps - (#[Value.pointer (some ⟨b, 0, none⟩)] : Array Value).size) undef) = #[Value.pointer (some ⟨b, 0, none⟩), undef, undef, undef, undef, undef, undef, undef, undef, undef, undef, undef] := rfl
  rw [e0]
  clear e0
  apply wpS_seq
  apply wpS_region
  simp [wpOpsS, go_sem, recoverD, hu, Tryz.ntmps109, Exit.thenS]
  refine wpS_of_wp ?_
  go_wp2
  refine ⟨rfl, .returning, ?_, _, results_none rfl _ _ _, rfl, rfl, rfl⟩
  rw [← hu]

set_option maxHeartbeats 1000000 in
theorem fault_m (p : Addr) (c : Int) (w : World)
    (kt : ∀ w0, Fr (fun _ => False) w w0 → Calls Tryz.prog 75 #[.pointer (some p)] w0 fun e w' => e = lk c ∧ Fr (fun _ => False) w0 w') :
    Calls Tryz.prog 74 #[.func (.func 75) #[] #[.pointer (some p)]] w fun e w' => e = .returned (ci c) ∧ Fr (fun _ => False) w w' := by
  have hmf : ∀ (fn : Fn) (first cap : Array Value) (w : World), (Instr.makeFunc fn first cap).run Tryz.prog w = .ok (.func fn first cap) w := fun _ _ _ _ => rfl
  have f0 := Fr.alloc (fun _ => False) w (.cells #[ci 0] 26)
  have hb0 : Hidden ((w.alloc (.cells #[ci 0] 26)).heap[w.heap.size]? = some (.cells #[ci 0] 26 (0, 0))) := alloc_new _ _
  have k1 := kt _ f0
  clear kt
  by_cases hc : c = 0
  · subst hc
    rw [lk_0] at k1
    go_enter_defers Tryz.func74, Tryz.ntmps74
    go_wp2_with fail
    go_at_call 75
    refine k1.mono ?_
    rintro e w1 ⟨rfl, f1⟩
    have hb1 := f1.heap hb0 (fun f => f)
    have hc1 : w1.cell? ⟨w.heap.size, 0, none⟩ = some (ci 0) := cell_of_row _ _ 0 _ _ _ hb1
    have hz1 : w1.frozen? ⟨w.heap.size, 0, none⟩ = false := by simp [World.frozen?, hb1]
    go_wp2_with fail
    refine leaves_cons (f := 109) (args := #[.pointer (some ⟨w.heap.size, 0, none⟩)]) (by simp) (by simp [go_sem]) ?_
    refine (idle_fault w.heap.size _).mono ?_
    rintro e u' w'' ⟨rfl, rfl, rfl⟩
    have hc3 : (w1.setCell ⟨w.heap.size, 0, none⟩ (.int .i64 0)).cell? ⟨w.heap.size, 0, none⟩ = some (ci 0) := cell_of_row _ _ 0 _ _ _ (heap_setCell_same w1 w.heap.size 0 #[ci 0] 26 (ci 0) hb1)
    simp [Leaves, settle, results, Tryz.results74, go_sem, hc3]
    exact fr_set (f0.same f1) (Nat.le_refl _) _ _
  · rw [lk_ne hc] at k1
    unfold gUp at k1
    go_enter_defers Tryz.func74, Tryz.ntmps74
    go_wp2_with fail
    go_at_call 75
    refine k1.mono ?_
    rintro e w1 ⟨rfl, f1⟩
    have hb1 := f1.heap hb0 (fun f => f)
    go_wp2_with fail
    refine leaves_cons (f := 109) (args := #[.pointer (some ⟨w.heap.size, 0, none⟩)]) (by simp) (by simp [go_sem]) ?_
    refine (catch_fault w.heap.size c w1 hb1).mono ?_
    rintro e u' w'' ⟨rfl, rfl, h3, h4⟩
    have hc3 : w''.cell? ⟨w.heap.size, 0, none⟩ = some (ci c) := cell_of_row _ _ 0 _ _ _ h3
    simp [Leaves, settle, results, Tryz.results74, go_sem, hc3, gvn]
    exact (f0.same f1).over h4 (fun k hk => by have : k = w.heap.size := hk; omega)

set_option maxHeartbeats 1000000 in
theorem fault_x (p : Addr) (c : Int) (w : World)
    (kt : ∀ w0, Fr (fun _ => False) w w0 → Calls Tryz.prog 148 #[.pointer (some p)] w0 fun e w' => e = lk c ∧ Fr (fun _ => False) w0 w') :
    Calls Tryz.prog 74 #[.func (.func 148) #[] #[.pointer (some p)]] w fun e w' => e = .returned (ci c) ∧ Fr (fun _ => False) w w' := by
  have hmf : ∀ (fn : Fn) (first cap : Array Value) (w : World), (Instr.makeFunc fn first cap).run Tryz.prog w = .ok (.func fn first cap) w := fun _ _ _ _ => rfl
  have f0 := Fr.alloc (fun _ => False) w (.cells #[ci 0] 26)
  have hb0 : Hidden ((w.alloc (.cells #[ci 0] 26)).heap[w.heap.size]? = some (.cells #[ci 0] 26 (0, 0))) := alloc_new _ _
  have k1 := kt _ f0
  clear kt
  by_cases hc : c = 0
  · subst hc
    rw [lk_0] at k1
    go_enter_defers Tryz.func74, Tryz.ntmps74
    go_wp2_with fail
    go_at_call 148
    refine k1.mono ?_
    rintro e w1 ⟨rfl, f1⟩
    have hb1 := f1.heap hb0 (fun f => f)
    have hc1 : w1.cell? ⟨w.heap.size, 0, none⟩ = some (ci 0) := cell_of_row _ _ 0 _ _ _ hb1
    have hz1 : w1.frozen? ⟨w.heap.size, 0, none⟩ = false := by simp [World.frozen?, hb1]
    go_wp2_with fail
    refine leaves_cons (f := 109) (args := #[.pointer (some ⟨w.heap.size, 0, none⟩)]) (by simp) (by simp [go_sem]) ?_
    refine (idle_fault w.heap.size _).mono ?_
    rintro e u' w'' ⟨rfl, rfl, rfl⟩
    have hc3 : (w1.setCell ⟨w.heap.size, 0, none⟩ (.int .i64 0)).cell? ⟨w.heap.size, 0, none⟩ = some (ci 0) := cell_of_row _ _ 0 _ _ _ (heap_setCell_same w1 w.heap.size 0 #[ci 0] 26 (ci 0) hb1)
    simp [Leaves, settle, results, Tryz.results74, go_sem, hc3]
    exact fr_set (f0.same f1) (Nat.le_refl _) _ _
  · rw [lk_ne hc] at k1
    unfold gUp at k1
    go_enter_defers Tryz.func74, Tryz.ntmps74
    go_wp2_with fail
    go_at_call 148
    refine k1.mono ?_
    rintro e w1 ⟨rfl, f1⟩
    have hb1 := f1.heap hb0 (fun f => f)
    go_wp2_with fail
    refine leaves_cons (f := 109) (args := #[.pointer (some ⟨w.heap.size, 0, none⟩)]) (by simp) (by simp [go_sem]) ?_
    refine (catch_fault w.heap.size c w1 hb1).mono ?_
    rintro e u' w'' ⟨rfl, rfl, h3, h4⟩
    have hc3 : w''.cell? ⟨w.heap.size, 0, none⟩ = some (ci c) := cell_of_row _ _ 0 _ _ _ h3
    simp [Leaves, settle, results, Tryz.results74, go_sem, hc3, gvn]
    exact (f0.same f1).over h4 (fun k hk => by have : k = w.heap.size := hk; omega)
end Go.Proofs.YtakkiipkmogagaaGreat

namespace Go.Proofs.YtakkiipkmogagaaGreat
open Go.RowKit Te
set_option linter.unusedSimpArgs false
set_option linter.unusedVariables false

abbrev rnS : Bs → Int := N.rightS
abbrev cnS : Int → Int := F.Fl.canonS
theorem must_yes (b : Bool) (hb : b = true) (c : Int) (w : World) : Calls Tryz.prog 111 #[.bool b, ci c] w fun e w' => e = .returned (.tuple #[]) ∧ w' = w := by subst hb; exact must_ok c w
theorem must_not (b : Bool) (hb : b = false) (c : Int) (w : World) : Calls Tryz.prog 111 #[.bool b, ci c] w fun e w' => e = gUp c ∧ w' = w := by subst hb; exact must_no c w
def LookL (k : Exs) : Prop := ∀ (ao : Option Addr) (cap : Nat) (w : World), OkX k → ExL w ao cap k →
  Calls Tryz.prog 126 #[.slice ao k.len cap] w fun e w' => e = lk (errL rnS cnS k) ∧ Fr (fun _ => False) w w'
def LookX (h : EH) (k : Exs) : Prop := ∀ (ao : Option Addr) (cap : Nat) (w : World), OkE h → OkX k → ExL w ao cap k →
  Calls Tryz.prog 146 #[exV h (.slice ao k.len cap)] w fun e w' => e = lk (orE (errH rnS cnS h k.len) (errL rnS cnS k)) ∧ Fr (fun _ => False) w w'
theorem lk_is {c d : Int} (h : d = c ∧ c ≠ 0) : lk d = .panicked [{ v := .iface 156 (.agg #[.int .i64 c]), recovered := false }] := by
  rw [h.1, lk_ne h.2]
  rfl
set_option maxRecDepth 20000 in
set_option maxHeartbeats 4000000 in
theorem lookX_2 (op vt vb : Int) (mod name : Bs) (k : Exs) (hL : LookL k) (ao : Option Addr) (cap : Nat) (w : World) (ho : OkE ⟨2, op, mod, name, vt, vb⟩) (hx : OkX k) (hk : ExL w ao cap k) :
    Calls Tryz.prog 146 #[exV ⟨2, op, mod, name, vt, vb⟩ (.slice ao k.len cap)] w fun e w' => e = lk (orE (errH rnS cnS ⟨2, op, mod, name, vt, vb⟩ k.len) (errL rnS cnS k)) ∧ Fr (fun _ => False) w w' := by
  have hmax : cap ≤ 9223372036854775807 := by have := hk.2.1; unfold maxLen at this; omega
  have kf := fun w r hr => fits_any ⟨2, op, mod, name, vt, vb⟩ k.len ho ao cap hk.1 hmax r hr w
  have hbx : Hidden ((w.alloc (.cells #[ci 2, ci op, ct mod, ct name, ci vt, .int .u64 vb, .slice ao k.len cap] 55)).heap[w.heap.size]? = some (.cells #[ci 2, ci op, ct mod, ct name, ci vt, .int .u64 vb, .slice ao k.len cap] 55 (0, 0))) := alloc_new _ _
  have f0 : Fr (fun _ => False) w (w.alloc (.cells #[ci 2, ci op, ct mod, ct name, ci vt, .int .u64 vb, .slice ao k.len cap] 55)) := Fr.alloc _ _ _
  unfold LookL at hL
  unfold gUp at *
  by_cases hf : fitsE cnS ⟨2, op, mod, name, vt, vb⟩ k.len = true
  · by_cases hn : rnS name = 0
    · by_cases h8 : k.len ≤ 8
      · by_cases h0 : errL rnS cnS k = 0
        · go_enter Tryz.func146, Tryz.ntmps146
          go_wp2_with fail
          go_at_call 161
          refine (kf _ _ hf).mono ?_
          rintro e w1 ⟨rfl, f1⟩
          obtain ⟨c0, c1, c2, c3, c4, c5, c6⟩ := ex_box (f1.heap hbx (fun f => f))
          have g1 := f0.same f1
          go_wp2_with fail
          go_at_call 111
          refine (must_yes _ (by first | rfl | (simp; omega) | simpa using hf) 1 _).mono ?_
          rintro e w2 ⟨rfl, rfl⟩
          go_wp2_with fail
          go_at_call 110
          refine (mustName_ok name hn ho.name _).mono ?_
          rintro e w2 ⟨rfl, rfl⟩
          go_wp2_with fail
          go_at_call 111
          refine (must_yes _ (by first | rfl | (simp; omega) | simpa using h8) 3 _).mono ?_
          rintro e w2 ⟨rfl, rfl⟩
          go_wp2_with fail
          go_at_call 126
          refine (hL ao cap _ hx (hk.keep g1)).mono ?_
          rw [h0, lk_0]
          rintro e w3 ⟨rfl, f3⟩
          go_wp2_with fail
          go_end0
          refine ⟨?_, g1.same f3⟩
          rw [show orE (errH rnS cnS _ k.len) (errL rnS cnS k) = 0 by simp only [errH, hf, if_true, nameE]; simp [orE, *]]
          rfl
        · go_enter Tryz.func146, Tryz.ntmps146
          go_wp2_with fail
          go_at_call 161
          refine (kf _ _ hf).mono ?_
          rintro e w1 ⟨rfl, f1⟩
          obtain ⟨c0, c1, c2, c3, c4, c5, c6⟩ := ex_box (f1.heap hbx (fun f => f))
          have g1 := f0.same f1
          go_wp2_with fail
          go_at_call 111
          refine (must_yes _ (by first | rfl | (simp; omega) | simpa using hf) 1 _).mono ?_
          rintro e w2 ⟨rfl, rfl⟩
          go_wp2_with fail
          go_at_call 110
          refine (mustName_ok name hn ho.name _).mono ?_
          rintro e w2 ⟨rfl, rfl⟩
          go_wp2_with fail
          go_at_call 111
          refine (must_yes _ (by first | rfl | (simp; omega) | simpa using h8) 3 _).mono ?_
          rintro e w2 ⟨rfl, rfl⟩
          go_wp2_with fail
          go_at_call 126
          refine (hL ao cap _ hx (hk.keep g1)).mono ?_
          rw [lk_ne h0]
          unfold gUp
          rintro e w3 ⟨rfl, f3⟩
          go_wp2_with fail
          exact ⟨rfl, (lk_is ⟨by simp only [errH, hf, if_true, nameE]; simp [orE, *], h0⟩).symm, g1.same f3⟩
      · go_enter Tryz.func146, Tryz.ntmps146
        go_wp2_with fail
        go_at_call 161
        refine (kf _ _ hf).mono ?_
        rintro e w1 ⟨rfl, f1⟩
        obtain ⟨c0, c1, c2, c3, c4, c5, c6⟩ := ex_box (f1.heap hbx (fun f => f))
        have g1 := f0.same f1
        go_wp2_with fail
        go_at_call 111
        refine (must_yes _ (by first | rfl | (simp; omega) | simpa using hf) 1 _).mono ?_
        rintro e w2 ⟨rfl, rfl⟩
        go_wp2_with fail
        go_at_call 110
        refine (mustName_ok name hn ho.name _).mono ?_
        rintro e w2 ⟨rfl, rfl⟩
        go_wp2_with fail
        go_at_call 111
        refine (must_not _ (by first | rfl | (simp; omega) | simpa using h8) 3 _).mono ?_
        unfold gUp
        rintro e w2 ⟨rfl, rfl⟩
        go_wp2_with fail
        exact ⟨rfl, (lk_is ⟨by simp only [errH, hf, if_true, nameE]; simp [orE, *], by decide⟩).symm, g1⟩
    · go_enter Tryz.func146, Tryz.ntmps146
      go_wp2_with fail
      go_at_call 161
      refine (kf _ _ hf).mono ?_
      rintro e w1 ⟨rfl, f1⟩
      obtain ⟨c0, c1, c2, c3, c4, c5, c6⟩ := ex_box (f1.heap hbx (fun f => f))
      have g1 := f0.same f1
      go_wp2_with fail
      go_at_call 111
      refine (must_yes _ (by first | rfl | (simp; omega) | simpa using hf) 1 _).mono ?_
      rintro e w2 ⟨rfl, rfl⟩
      go_wp2_with fail
      go_at_call 110
      refine (mustName_no name _ rfl hn ho.name _).mono ?_
      unfold gUp
      rintro e w2 ⟨rfl, rfl⟩
      go_wp2_with fail
      exact ⟨rfl, (lk_is ⟨by simp only [errH, hf, if_true, nameE]; simp [orE, *], hn⟩).symm, g1⟩
  · replace hf : fitsE cnS ⟨2, op, mod, name, vt, vb⟩ k.len = false := by simpa using hf
    go_enter Tryz.func146, Tryz.ntmps146
    go_wp2_with fail
    go_at_call 161
    refine (kf _ _ hf).mono ?_
    rintro e w1 ⟨rfl, f1⟩
    obtain ⟨c0, c1, c2, c3, c4, c5, c6⟩ := ex_box (f1.heap hbx (fun f => f))
    have g1 := f0.same f1
    go_wp2_with fail
    go_at_call 111
    refine (must_not _ (by first | rfl | (simp; omega) | simpa using hf) 1 _).mono ?_
    unfold gUp
    rintro e w2 ⟨rfl, rfl⟩
    go_wp2_with fail
    exact ⟨rfl, (lk_is ⟨by simp [errH, orE, hf], by decide⟩).symm, g1⟩
set_option maxRecDepth 20000 in
set_option maxHeartbeats 4000000 in
theorem lookX_4 (op vt vb : Int) (mod name : Bs) (k : Exs) (hL : LookL k) (ao : Option Addr) (cap : Nat) (w : World) (ho : OkE ⟨4, op, mod, name, vt, vb⟩) (hx : OkX k) (hk : ExL w ao cap k) :
    Calls Tryz.prog 146 #[exV ⟨4, op, mod, name, vt, vb⟩ (.slice ao k.len cap)] w fun e w' => e = lk (orE (errH rnS cnS ⟨4, op, mod, name, vt, vb⟩ k.len) (errL rnS cnS k)) ∧ Fr (fun _ => False) w w' := by
  have hmax : cap ≤ 9223372036854775807 := by have := hk.2.1; unfold maxLen at this; omega
  have kf := fun w r hr => fits_any ⟨4, op, mod, name, vt, vb⟩ k.len ho ao cap hk.1 hmax r hr w
  have hbx : Hidden ((w.alloc (.cells #[ci 4, ci op, ct mod, ct name, ci vt, .int .u64 vb, .slice ao k.len cap] 55)).heap[w.heap.size]? = some (.cells #[ci 4, ci op, ct mod, ct name, ci vt, .int .u64 vb, .slice ao k.len cap] 55 (0, 0))) := alloc_new _ _
  have f0 : Fr (fun _ => False) w (w.alloc (.cells #[ci 4, ci op, ct mod, ct name, ci vt, .int .u64 vb, .slice ao k.len cap] 55)) := Fr.alloc _ _ _
  unfold LookL at hL
  unfold gUp at *
  by_cases hf : fitsE cnS ⟨4, op, mod, name, vt, vb⟩ k.len = true
  · by_cases hn : rnS name = 0
    · by_cases h8 : k.len ≤ 8
      · by_cases h0 : errL rnS cnS k = 0
        · go_enter Tryz.func146, Tryz.ntmps146
          go_wp2_with fail
          go_at_call 161
          refine (kf _ _ hf).mono ?_
          rintro e w1 ⟨rfl, f1⟩
          obtain ⟨c0, c1, c2, c3, c4, c5, c6⟩ := ex_box (f1.heap hbx (fun f => f))
          have g1 := f0.same f1
          go_wp2_with fail
          go_at_call 111
          refine (must_yes _ (by first | rfl | (simp; omega) | simpa using hf) 1 _).mono ?_
          rintro e w2 ⟨rfl, rfl⟩
          go_wp2_with fail
          go_at_call 110
          refine (mustName_ok name hn ho.name _).mono ?_
          rintro e w2 ⟨rfl, rfl⟩
          go_wp2_with fail
          go_at_call 111
          refine (must_yes _ (by first | rfl | (simp; omega) | simpa using h8) 3 _).mono ?_
          rintro e w2 ⟨rfl, rfl⟩
          go_wp2_with fail
          go_at_call 126
          refine (hL ao cap _ hx (hk.keep g1)).mono ?_
          rw [h0, lk_0]
          rintro e w3 ⟨rfl, f3⟩
          go_wp2_with fail
          go_end0
          refine ⟨?_, g1.same f3⟩
          rw [show orE (errH rnS cnS _ k.len) (errL rnS cnS k) = 0 by simp only [errH, hf, if_true, nameE]; simp [orE, *]]
          rfl
        · go_enter Tryz.func146, Tryz.ntmps146
          go_wp2_with fail
          go_at_call 161
          refine (kf _ _ hf).mono ?_
          rintro e w1 ⟨rfl, f1⟩
          obtain ⟨c0, c1, c2, c3, c4, c5, c6⟩ := ex_box (f1.heap hbx (fun f => f))
          have g1 := f0.same f1
          go_wp2_with fail
          go_at_call 111
          refine (must_yes _ (by first | rfl | (simp; omega) | simpa using hf) 1 _).mono ?_
          rintro e w2 ⟨rfl, rfl⟩
          go_wp2_with fail
          go_at_call 110
          refine (mustName_ok name hn ho.name _).mono ?_
          rintro e w2 ⟨rfl, rfl⟩
          go_wp2_with fail
          go_at_call 111
          refine (must_yes _ (by first | rfl | (simp; omega) | simpa using h8) 3 _).mono ?_
          rintro e w2 ⟨rfl, rfl⟩
          go_wp2_with fail
          go_at_call 126
          refine (hL ao cap _ hx (hk.keep g1)).mono ?_
          rw [lk_ne h0]
          unfold gUp
          rintro e w3 ⟨rfl, f3⟩
          go_wp2_with fail
          exact ⟨rfl, (lk_is ⟨by simp only [errH, hf, if_true, nameE]; simp [orE, *], h0⟩).symm, g1.same f3⟩
      · go_enter Tryz.func146, Tryz.ntmps146
        go_wp2_with fail
        go_at_call 161
        refine (kf _ _ hf).mono ?_
        rintro e w1 ⟨rfl, f1⟩
        obtain ⟨c0, c1, c2, c3, c4, c5, c6⟩ := ex_box (f1.heap hbx (fun f => f))
        have g1 := f0.same f1
        go_wp2_with fail
        go_at_call 111
        refine (must_yes _ (by first | rfl | (simp; omega) | simpa using hf) 1 _).mono ?_
        rintro e w2 ⟨rfl, rfl⟩
        go_wp2_with fail
        go_at_call 110
        refine (mustName_ok name hn ho.name _).mono ?_
        rintro e w2 ⟨rfl, rfl⟩
        go_wp2_with fail
        go_at_call 111
        refine (must_not _ (by first | rfl | (simp; omega) | simpa using h8) 3 _).mono ?_
        unfold gUp
        rintro e w2 ⟨rfl, rfl⟩
        go_wp2_with fail
        exact ⟨rfl, (lk_is ⟨by simp only [errH, hf, if_true, nameE]; simp [orE, *], by decide⟩).symm, g1⟩
    · go_enter Tryz.func146, Tryz.ntmps146
      go_wp2_with fail
      go_at_call 161
      refine (kf _ _ hf).mono ?_
      rintro e w1 ⟨rfl, f1⟩
      obtain ⟨c0, c1, c2, c3, c4, c5, c6⟩ := ex_box (f1.heap hbx (fun f => f))
      have g1 := f0.same f1
      go_wp2_with fail
      go_at_call 111
      refine (must_yes _ (by first | rfl | (simp; omega) | simpa using hf) 1 _).mono ?_
      rintro e w2 ⟨rfl, rfl⟩
      go_wp2_with fail
      go_at_call 110
      refine (mustName_no name _ rfl hn ho.name _).mono ?_
      unfold gUp
      rintro e w2 ⟨rfl, rfl⟩
      go_wp2_with fail
      exact ⟨rfl, (lk_is ⟨by simp only [errH, hf, if_true, nameE]; simp [orE, *], hn⟩).symm, g1⟩
  · replace hf : fitsE cnS ⟨4, op, mod, name, vt, vb⟩ k.len = false := by simpa using hf
    go_enter Tryz.func146, Tryz.ntmps146
    go_wp2_with fail
    go_at_call 161
    refine (kf _ _ hf).mono ?_
    rintro e w1 ⟨rfl, f1⟩
    obtain ⟨c0, c1, c2, c3, c4, c5, c6⟩ := ex_box (f1.heap hbx (fun f => f))
    have g1 := f0.same f1
    go_wp2_with fail
    go_at_call 111
    refine (must_not _ (by first | rfl | (simp; omega) | simpa using hf) 1 _).mono ?_
    unfold gUp
    rintro e w2 ⟨rfl, rfl⟩
    go_wp2_with fail
    exact ⟨rfl, (lk_is ⟨by simp [errH, orE, hf], by decide⟩).symm, g1⟩
set_option maxRecDepth 20000 in
set_option maxHeartbeats 4000000 in
theorem lookX_3 (op vt vb : Int) (mod name : Bs) (k : Exs) (hL : LookL k) (ao : Option Addr) (cap : Nat) (w : World) (ho : OkE ⟨3, op, mod, name, vt, vb⟩) (hx : OkX k) (hk : ExL w ao cap k) :
    Calls Tryz.prog 146 #[exV ⟨3, op, mod, name, vt, vb⟩ (.slice ao k.len cap)] w fun e w' => e = lk (orE (errH rnS cnS ⟨3, op, mod, name, vt, vb⟩ k.len) (errL rnS cnS k)) ∧ Fr (fun _ => False) w w' := by
  have hmax : cap ≤ 9223372036854775807 := by have := hk.2.1; unfold maxLen at this; omega
  have kf := fun w r hr => fits_any ⟨3, op, mod, name, vt, vb⟩ k.len ho ao cap hk.1 hmax r hr w
  have hbx : Hidden ((w.alloc (.cells #[ci 3, ci op, ct mod, ct name, ci vt, .int .u64 vb, .slice ao k.len cap] 55)).heap[w.heap.size]? = some (.cells #[ci 3, ci op, ct mod, ct name, ci vt, .int .u64 vb, .slice ao k.len cap] 55 (0, 0))) := alloc_new _ _
  have f0 : Fr (fun _ => False) w (w.alloc (.cells #[ci 3, ci op, ct mod, ct name, ci vt, .int .u64 vb, .slice ao k.len cap] 55)) := Fr.alloc _ _ _
  unfold LookL at hL
  unfold gUp at *
  by_cases hf : fitsE cnS ⟨3, op, mod, name, vt, vb⟩ k.len = true
  · by_cases hm : rnS mod = 0
    · by_cases hn : rnS name = 0
      · by_cases h8 : k.len ≤ 8
        · by_cases h0 : errL rnS cnS k = 0
          · go_enter Tryz.func146, Tryz.ntmps146
            go_wp2_with fail
            go_at_call 161
            refine (kf _ _ hf).mono ?_
            rintro e w1 ⟨rfl, f1⟩
            obtain ⟨c0, c1, c2, c3, c4, c5, c6⟩ := ex_box (f1.heap hbx (fun f => f))
            have g1 := f0.same f1
            go_wp2_with fail
            go_at_call 111
            refine (must_yes _ (by first | rfl | (simp; omega) | simpa using hf) 1 _).mono ?_
            rintro e w2 ⟨rfl, rfl⟩
            go_wp2_with fail
            go_at_call 110
            refine (mustName_ok mod hm ho.mod _).mono ?_
            rintro e w2 ⟨rfl, rfl⟩
            go_wp2_with fail
            go_at_call 110
            refine (mustName_ok name hn ho.name _).mono ?_
            rintro e w2 ⟨rfl, rfl⟩
            go_wp2_with fail
            go_at_call 111
            refine (must_yes _ (by first | rfl | (simp; omega) | simpa using h8) 3 _).mono ?_
            rintro e w2 ⟨rfl, rfl⟩
            go_wp2_with fail
            go_at_call 126
            refine (hL ao cap _ hx (hk.keep g1)).mono ?_
            rw [h0, lk_0]
            rintro e w3 ⟨rfl, f3⟩
            go_wp2_with fail
            go_end0
            refine ⟨?_, g1.same f3⟩
            rw [show orE (errH rnS cnS _ k.len) (errL rnS cnS k) = 0 by simp only [errH, hf, if_true, nameE]; simp [orE, *]]
            rfl
          · go_enter Tryz.func146, Tryz.ntmps146
            go_wp2_with fail
            go_at_call 161
            refine (kf _ _ hf).mono ?_
            rintro e w1 ⟨rfl, f1⟩
            obtain ⟨c0, c1, c2, c3, c4, c5, c6⟩ := ex_box (f1.heap hbx (fun f => f))
            have g1 := f0.same f1
            go_wp2_with fail
            go_at_call 111
            refine (must_yes _ (by first | rfl | (simp; omega) | simpa using hf) 1 _).mono ?_
            rintro e w2 ⟨rfl, rfl⟩
            go_wp2_with fail
            go_at_call 110
            refine (mustName_ok mod hm ho.mod _).mono ?_
            rintro e w2 ⟨rfl, rfl⟩
            go_wp2_with fail
            go_at_call 110
            refine (mustName_ok name hn ho.name _).mono ?_
            rintro e w2 ⟨rfl, rfl⟩
            go_wp2_with fail
            go_at_call 111
            refine (must_yes _ (by first | rfl | (simp; omega) | simpa using h8) 3 _).mono ?_
            rintro e w2 ⟨rfl, rfl⟩
            go_wp2_with fail
            go_at_call 126
            refine (hL ao cap _ hx (hk.keep g1)).mono ?_
            rw [lk_ne h0]
            unfold gUp
            rintro e w3 ⟨rfl, f3⟩
            go_wp2_with fail
            exact ⟨rfl, (lk_is ⟨by simp only [errH, hf, if_true, nameE]; simp [orE, *], h0⟩).symm, g1.same f3⟩
        · go_enter Tryz.func146, Tryz.ntmps146
          go_wp2_with fail
          go_at_call 161
          refine (kf _ _ hf).mono ?_
          rintro e w1 ⟨rfl, f1⟩
          obtain ⟨c0, c1, c2, c3, c4, c5, c6⟩ := ex_box (f1.heap hbx (fun f => f))
          have g1 := f0.same f1
          go_wp2_with fail
          go_at_call 111
          refine (must_yes _ (by first | rfl | (simp; omega) | simpa using hf) 1 _).mono ?_
          rintro e w2 ⟨rfl, rfl⟩
          go_wp2_with fail
          go_at_call 110
          refine (mustName_ok mod hm ho.mod _).mono ?_
          rintro e w2 ⟨rfl, rfl⟩
          go_wp2_with fail
          go_at_call 110
          refine (mustName_ok name hn ho.name _).mono ?_
          rintro e w2 ⟨rfl, rfl⟩
          go_wp2_with fail
          go_at_call 111
          refine (must_not _ (by first | rfl | (simp; omega) | simpa using h8) 3 _).mono ?_
          unfold gUp
          rintro e w2 ⟨rfl, rfl⟩
          go_wp2_with fail
          exact ⟨rfl, (lk_is ⟨by simp only [errH, hf, if_true, nameE]; simp [orE, *], by decide⟩).symm, g1⟩
      · go_enter Tryz.func146, Tryz.ntmps146
        go_wp2_with fail
        go_at_call 161
        refine (kf _ _ hf).mono ?_
        rintro e w1 ⟨rfl, f1⟩
        obtain ⟨c0, c1, c2, c3, c4, c5, c6⟩ := ex_box (f1.heap hbx (fun f => f))
        have g1 := f0.same f1
        go_wp2_with fail
        go_at_call 111
        refine (must_yes _ (by first | rfl | (simp; omega) | simpa using hf) 1 _).mono ?_
        rintro e w2 ⟨rfl, rfl⟩
        go_wp2_with fail
        go_at_call 110
        refine (mustName_ok mod hm ho.mod _).mono ?_
        rintro e w2 ⟨rfl, rfl⟩
        go_wp2_with fail
        go_at_call 110
        refine (mustName_no name _ rfl hn ho.name _).mono ?_
        unfold gUp
        rintro e w2 ⟨rfl, rfl⟩
        go_wp2_with fail
        exact ⟨rfl, (lk_is ⟨by simp only [errH, hf, if_true, nameE]; simp [orE, *], hn⟩).symm, g1⟩
    · go_enter Tryz.func146, Tryz.ntmps146
      go_wp2_with fail
      go_at_call 161
      refine (kf _ _ hf).mono ?_
      rintro e w1 ⟨rfl, f1⟩
      obtain ⟨c0, c1, c2, c3, c4, c5, c6⟩ := ex_box (f1.heap hbx (fun f => f))
      have g1 := f0.same f1
      go_wp2_with fail
      go_at_call 111
      refine (must_yes _ (by first | rfl | (simp; omega) | simpa using hf) 1 _).mono ?_
      rintro e w2 ⟨rfl, rfl⟩
      go_wp2_with fail
      go_at_call 110
      refine (mustName_no mod _ rfl hm ho.mod _).mono ?_
      unfold gUp
      rintro e w2 ⟨rfl, rfl⟩
      go_wp2_with fail
      exact ⟨rfl, (lk_is ⟨by simp only [errH, hf, if_true, nameE]; simp [orE, *], hm⟩).symm, g1⟩
  · replace hf : fitsE cnS ⟨3, op, mod, name, vt, vb⟩ k.len = false := by simpa using hf
    go_enter Tryz.func146, Tryz.ntmps146
    go_wp2_with fail
    go_at_call 161
    refine (kf _ _ hf).mono ?_
    rintro e w1 ⟨rfl, f1⟩
    obtain ⟨c0, c1, c2, c3, c4, c5, c6⟩ := ex_box (f1.heap hbx (fun f => f))
    have g1 := f0.same f1
    go_wp2_with fail
    go_at_call 111
    refine (must_not _ (by first | rfl | (simp; omega) | simpa using hf) 1 _).mono ?_
    unfold gUp
    rintro e w2 ⟨rfl, rfl⟩
    go_wp2_with fail
    exact ⟨rfl, (lk_is ⟨by simp [errH, orE, hf], by decide⟩).symm, g1⟩
set_option maxRecDepth 20000 in
set_option maxHeartbeats 4000000 in
theorem lookX_5 (op vt vb : Int) (mod name : Bs) (k : Exs) (hL : LookL k) (ao : Option Addr) (cap : Nat) (w : World) (ho : OkE ⟨5, op, mod, name, vt, vb⟩) (hx : OkX k) (hk : ExL w ao cap k) :
    Calls Tryz.prog 146 #[exV ⟨5, op, mod, name, vt, vb⟩ (.slice ao k.len cap)] w fun e w' => e = lk (orE (errH rnS cnS ⟨5, op, mod, name, vt, vb⟩ k.len) (errL rnS cnS k)) ∧ Fr (fun _ => False) w w' := by
  have hmax : cap ≤ 9223372036854775807 := by have := hk.2.1; unfold maxLen at this; omega
  have kf := fun w r hr => fits_any ⟨5, op, mod, name, vt, vb⟩ k.len ho ao cap hk.1 hmax r hr w
  have hbx : Hidden ((w.alloc (.cells #[ci 5, ci op, ct mod, ct name, ci vt, .int .u64 vb, .slice ao k.len cap] 55)).heap[w.heap.size]? = some (.cells #[ci 5, ci op, ct mod, ct name, ci vt, .int .u64 vb, .slice ao k.len cap] 55 (0, 0))) := alloc_new _ _
  have f0 : Fr (fun _ => False) w (w.alloc (.cells #[ci 5, ci op, ct mod, ct name, ci vt, .int .u64 vb, .slice ao k.len cap] 55)) := Fr.alloc _ _ _
  unfold LookL at hL
  unfold gUp at *
  by_cases hf : fitsE cnS ⟨5, op, mod, name, vt, vb⟩ k.len = true
  · by_cases hm : rnS mod = 0
    · by_cases hn : rnS name = 0
      · by_cases h8 : k.len ≤ 8
        · by_cases h0 : errL rnS cnS k = 0
          · go_enter Tryz.func146, Tryz.ntmps146
            go_wp2_with fail
            go_at_call 161
            refine (kf _ _ hf).mono ?_
            rintro e w1 ⟨rfl, f1⟩
            obtain ⟨c0, c1, c2, c3, c4, c5, c6⟩ := ex_box (f1.heap hbx (fun f => f))
            have g1 := f0.same f1
            go_wp2_with fail
            go_at_call 111
            refine (must_yes _ (by first | rfl | (simp; omega) | simpa using hf) 1 _).mono ?_
            rintro e w2 ⟨rfl, rfl⟩
            go_wp2_with fail
            go_at_call 110
            refine (mustName_ok mod hm ho.mod _).mono ?_
            rintro e w2 ⟨rfl, rfl⟩
            go_wp2_with fail
            go_at_call 110
            refine (mustName_ok name hn ho.name _).mono ?_
            rintro e w2 ⟨rfl, rfl⟩
            go_wp2_with fail
            go_at_call 111
            refine (must_yes _ (by first | rfl | (simp; omega) | simpa using h8) 3 _).mono ?_
            rintro e w2 ⟨rfl, rfl⟩
            go_wp2_with fail
            go_at_call 126
            refine (hL ao cap _ hx (hk.keep g1)).mono ?_
            rw [h0, lk_0]
            rintro e w3 ⟨rfl, f3⟩
            go_wp2_with fail
            go_end0
            refine ⟨?_, g1.same f3⟩
            rw [show orE (errH rnS cnS _ k.len) (errL rnS cnS k) = 0 by simp only [errH, hf, if_true, nameE]; simp [orE, *]]
            rfl
          · go_enter Tryz.func146, Tryz.ntmps146
            go_wp2_with fail
            go_at_call 161
            refine (kf _ _ hf).mono ?_
            rintro e w1 ⟨rfl, f1⟩
            obtain ⟨c0, c1, c2, c3, c4, c5, c6⟩ := ex_box (f1.heap hbx (fun f => f))
            have g1 := f0.same f1
            go_wp2_with fail
            go_at_call 111
            refine (must_yes _ (by first | rfl | (simp; omega) | simpa using hf) 1 _).mono ?_
            rintro e w2 ⟨rfl, rfl⟩
            go_wp2_with fail
            go_at_call 110
            refine (mustName_ok mod hm ho.mod _).mono ?_
            rintro e w2 ⟨rfl, rfl⟩
            go_wp2_with fail
            go_at_call 110
            refine (mustName_ok name hn ho.name _).mono ?_
            rintro e w2 ⟨rfl, rfl⟩
            go_wp2_with fail
            go_at_call 111
            refine (must_yes _ (by first | rfl | (simp; omega) | simpa using h8) 3 _).mono ?_
            rintro e w2 ⟨rfl, rfl⟩
            go_wp2_with fail
            go_at_call 126
            refine (hL ao cap _ hx (hk.keep g1)).mono ?_
            rw [lk_ne h0]
            unfold gUp
            rintro e w3 ⟨rfl, f3⟩
            go_wp2_with fail
            exact ⟨rfl, (lk_is ⟨by simp only [errH, hf, if_true, nameE]; simp [orE, *], h0⟩).symm, g1.same f3⟩
        · go_enter Tryz.func146, Tryz.ntmps146
          go_wp2_with fail
          go_at_call 161
          refine (kf _ _ hf).mono ?_
          rintro e w1 ⟨rfl, f1⟩
          obtain ⟨c0, c1, c2, c3, c4, c5, c6⟩ := ex_box (f1.heap hbx (fun f => f))
          have g1 := f0.same f1
          go_wp2_with fail
          go_at_call 111
          refine (must_yes _ (by first | rfl | (simp; omega) | simpa using hf) 1 _).mono ?_
          rintro e w2 ⟨rfl, rfl⟩
          go_wp2_with fail
          go_at_call 110
          refine (mustName_ok mod hm ho.mod _).mono ?_
          rintro e w2 ⟨rfl, rfl⟩
          go_wp2_with fail
          go_at_call 110
          refine (mustName_ok name hn ho.name _).mono ?_
          rintro e w2 ⟨rfl, rfl⟩
          go_wp2_with fail
          go_at_call 111
          refine (must_not _ (by first | rfl | (simp; omega) | simpa using h8) 3 _).mono ?_
          unfold gUp
          rintro e w2 ⟨rfl, rfl⟩
          go_wp2_with fail
          exact ⟨rfl, (lk_is ⟨by simp only [errH, hf, if_true, nameE]; simp [orE, *], by decide⟩).symm, g1⟩
      · go_enter Tryz.func146, Tryz.ntmps146
        go_wp2_with fail
        go_at_call 161
        refine (kf _ _ hf).mono ?_
        rintro e w1 ⟨rfl, f1⟩
        obtain ⟨c0, c1, c2, c3, c4, c5, c6⟩ := ex_box (f1.heap hbx (fun f => f))
        have g1 := f0.same f1
        go_wp2_with fail
        go_at_call 111
        refine (must_yes _ (by first | rfl | (simp; omega) | simpa using hf) 1 _).mono ?_
        rintro e w2 ⟨rfl, rfl⟩
        go_wp2_with fail
        go_at_call 110
        refine (mustName_ok mod hm ho.mod _).mono ?_
        rintro e w2 ⟨rfl, rfl⟩
        go_wp2_with fail
        go_at_call 110
        refine (mustName_no name _ rfl hn ho.name _).mono ?_
        unfold gUp
        rintro e w2 ⟨rfl, rfl⟩
        go_wp2_with fail
        exact ⟨rfl, (lk_is ⟨by simp only [errH, hf, if_true, nameE]; simp [orE, *], hn⟩).symm, g1⟩
    · go_enter Tryz.func146, Tryz.ntmps146
      go_wp2_with fail
      go_at_call 161
      refine (kf _ _ hf).mono ?_
      rintro e w1 ⟨rfl, f1⟩
      obtain ⟨c0, c1, c2, c3, c4, c5, c6⟩ := ex_box (f1.heap hbx (fun f => f))
      have g1 := f0.same f1
      go_wp2_with fail
      go_at_call 111
      refine (must_yes _ (by first | rfl | (simp; omega) | simpa using hf) 1 _).mono ?_
      rintro e w2 ⟨rfl, rfl⟩
      go_wp2_with fail
      go_at_call 110
      refine (mustName_no mod _ rfl hm ho.mod _).mono ?_
      unfold gUp
      rintro e w2 ⟨rfl, rfl⟩
      go_wp2_with fail
      exact ⟨rfl, (lk_is ⟨by simp only [errH, hf, if_true, nameE]; simp [orE, *], hm⟩).symm, g1⟩
  · replace hf : fitsE cnS ⟨5, op, mod, name, vt, vb⟩ k.len = false := by simpa using hf
    go_enter Tryz.func146, Tryz.ntmps146
    go_wp2_with fail
    go_at_call 161
    refine (kf _ _ hf).mono ?_
    rintro e w1 ⟨rfl, f1⟩
    obtain ⟨c0, c1, c2, c3, c4, c5, c6⟩ := ex_box (f1.heap hbx (fun f => f))
    have g1 := f0.same f1
    go_wp2_with fail
    go_at_call 111
    refine (must_not _ (by first | rfl | (simp; omega) | simpa using hf) 1 _).mono ?_
    unfold gUp
    rintro e w2 ⟨rfl, rfl⟩
    go_wp2_with fail
    exact ⟨rfl, (lk_is ⟨by simp [errH, orE, hf], by decide⟩).symm, g1⟩
set_option maxRecDepth 20000 in
set_option maxHeartbeats 4000000 in
theorem lookX_no (kind op vt vb : Int) (mod name : Bs) (k : Exs) (hL : LookL k) (ao : Option Addr) (cap : Nat) (w : World) (ho : OkE ⟨kind, op, mod, name, vt, vb⟩) (hx : OkX k) (hk : ExL w ao cap k) (n2 : kind ≠ 2) (n3 : kind ≠ 3) (n4 : kind ≠ 4) (n5 : kind ≠ 5) :
    Calls Tryz.prog 146 #[exV ⟨kind, op, mod, name, vt, vb⟩ (.slice ao k.len cap)] w fun e w' => e = lk (orE (errH rnS cnS ⟨kind, op, mod, name, vt, vb⟩ k.len) (errL rnS cnS k)) ∧ Fr (fun _ => False) w w' := by
  have hmax : cap ≤ 9223372036854775807 := by have := hk.2.1; unfold maxLen at this; omega
  have kf := fun w r hr => fits_any ⟨kind, op, mod, name, vt, vb⟩ k.len ho ao cap hk.1 hmax r hr w
  have hbx : Hidden ((w.alloc (.cells #[ci kind, ci op, ct mod, ct name, ci vt, .int .u64 vb, .slice ao k.len cap] 55)).heap[w.heap.size]? = some (.cells #[ci kind, ci op, ct mod, ct name, ci vt, .int .u64 vb, .slice ao k.len cap] 55 (0, 0))) := alloc_new _ _
  have f0 : Fr (fun _ => False) w (w.alloc (.cells #[ci kind, ci op, ct mod, ct name, ci vt, .int .u64 vb, .slice ao k.len cap] 55)) := Fr.alloc _ _ _
  unfold LookL at hL
  unfold gUp at *
  have m2 : (kind == 2) = false := by simp [n2]
  have m3 : (kind == 3) = false := by simp [n3]
  have m4 : (kind == 4) = false := by simp [n4]
  have m5 : (kind == 5) = false := by simp [n5]
  by_cases hf : fitsE cnS ⟨kind, op, mod, name, vt, vb⟩ k.len = true
  · by_cases h8 : k.len ≤ 8
    · by_cases h0 : errL rnS cnS k = 0
      · go_enter Tryz.func146, Tryz.ntmps146
        go_wp2_with fail
        go_at_call 161
        refine (kf _ _ hf).mono ?_
        rintro e w1 ⟨rfl, f1⟩
        obtain ⟨c0, c1, c2, c3, c4, c5, c6⟩ := ex_box (f1.heap hbx (fun f => f))
        have g1 := f0.same f1
        go_wp2_with fail
        go_at_call 111
        refine (must_yes _ (by first | rfl | (simp; omega) | simpa using hf) 1 _).mono ?_
        rintro e w2 ⟨rfl, rfl⟩
        go_wp2_with fail
        go_at_call 111
        refine (must_yes _ (by first | rfl | (simp; omega) | simpa using h8) 3 _).mono ?_
        rintro e w2 ⟨rfl, rfl⟩
        go_wp2_with fail
        go_at_call 126
        refine (hL ao cap _ hx (hk.keep g1)).mono ?_
        rw [h0, lk_0]
        rintro e w3 ⟨rfl, f3⟩
        go_wp2_with fail
        go_end0
        refine ⟨?_, g1.same f3⟩
        rw [show orE (errH rnS cnS _ k.len) (errL rnS cnS k) = 0 by simp only [errH, hf, if_true, nameE]; simp [orE, *]]
        rfl
      · go_enter Tryz.func146, Tryz.ntmps146
        go_wp2_with fail
        go_at_call 161
        refine (kf _ _ hf).mono ?_
        rintro e w1 ⟨rfl, f1⟩
        obtain ⟨c0, c1, c2, c3, c4, c5, c6⟩ := ex_box (f1.heap hbx (fun f => f))
        have g1 := f0.same f1
        go_wp2_with fail
        go_at_call 111
        refine (must_yes _ (by first | rfl | (simp; omega) | simpa using hf) 1 _).mono ?_
        rintro e w2 ⟨rfl, rfl⟩
        go_wp2_with fail
        go_at_call 111
        refine (must_yes _ (by first | rfl | (simp; omega) | simpa using h8) 3 _).mono ?_
        rintro e w2 ⟨rfl, rfl⟩
        go_wp2_with fail
        go_at_call 126
        refine (hL ao cap _ hx (hk.keep g1)).mono ?_
        rw [lk_ne h0]
        unfold gUp
        rintro e w3 ⟨rfl, f3⟩
        go_wp2_with fail
        exact ⟨rfl, (lk_is ⟨by simp only [errH, hf, if_true, nameE]; simp [orE, *], h0⟩).symm, g1.same f3⟩
    · go_enter Tryz.func146, Tryz.ntmps146
      go_wp2_with fail
      go_at_call 161
      refine (kf _ _ hf).mono ?_
      rintro e w1 ⟨rfl, f1⟩
      obtain ⟨c0, c1, c2, c3, c4, c5, c6⟩ := ex_box (f1.heap hbx (fun f => f))
      have g1 := f0.same f1
      go_wp2_with fail
      go_at_call 111
      refine (must_yes _ (by first | rfl | (simp; omega) | simpa using hf) 1 _).mono ?_
      rintro e w2 ⟨rfl, rfl⟩
      go_wp2_with fail
      go_at_call 111
      refine (must_not _ (by first | rfl | (simp; omega) | simpa using h8) 3 _).mono ?_
      unfold gUp
      rintro e w2 ⟨rfl, rfl⟩
      go_wp2_with fail
      exact ⟨rfl, (lk_is ⟨by simp only [errH, hf, if_true, nameE]; simp [orE, *], by decide⟩).symm, g1⟩
  · replace hf : fitsE cnS ⟨kind, op, mod, name, vt, vb⟩ k.len = false := by simpa using hf
    go_enter Tryz.func146, Tryz.ntmps146
    go_wp2_with fail
    go_at_call 161
    refine (kf _ _ hf).mono ?_
    rintro e w1 ⟨rfl, f1⟩
    obtain ⟨c0, c1, c2, c3, c4, c5, c6⟩ := ex_box (f1.heap hbx (fun f => f))
    have g1 := f0.same f1
    go_wp2_with fail
    go_at_call 111
    refine (must_not _ (by first | rfl | (simp; omega) | simpa using hf) 1 _).mono ?_
    unfold gUp
    rintro e w2 ⟨rfl, rfl⟩
    go_wp2_with fail
    exact ⟨rfl, (lk_is ⟨by simp [errH, orE, hf], by decide⟩).symm, g1⟩
theorem lookX_step (h : EH) (k : Exs) (hL : LookL k) : LookX h k := by
  intro ao cap w ho hx hk
  obtain ⟨kind, op, mod, name, vt, vb⟩ := h
  by_cases n2 : kind = 2
  · subst n2; exact lookX_2 op vt vb mod name k hL ao cap w ho hx hk
  by_cases n3 : kind = 3
  · subst n3; exact lookX_3 op vt vb mod name k hL ao cap w ho hx hk
  by_cases n4 : kind = 4
  · subst n4; exact lookX_4 op vt vb mod name k hL ao cap w ho hx hk
  by_cases n5 : kind = 5
  · subst n5; exact lookX_5 op vt vb mod name k hL ao cap w ho hx hk
  exact lookX_no kind op vt vb mod name k hL ao cap w ho hx hk n2 n3 n4 n5
set_option maxRecDepth 20000 in
set_option maxHeartbeats 4000000 in
theorem lookL_step (k : Exs) (ih : ∀ h' k', k'.size < k.size → LookX h' k') : LookL k := by
  intro ao cap w hx hk
  have hrest := hk.rest
  obtain ⟨hcap, hmax, _⟩ := hk
  have hlen : k.len ≤ 9223372036854775807 := by unfold maxLen at hmax; omega
  go_enter Tryz.func126, Tryz.ntmps126
  go_wp2_with fail
  go_loopg [6] k.len (fun g iv wr => ∃ (i : Nat) (r : Exs), iv = ci (i : Int) ∧ i + r.len = k.len ∧ r.size ≤ k.size ∧ OkX r ∧ ExR w ao i r ∧ errL rnS cnS k = errL rnS cnS r ∧ g = r.len ∧ Fr (fun _ => False) w wr)
  case atStart => exact ⟨0, k, rfl, by omega, Nat.le_refl _, hx, hrest, rfl, rfl, Fr.refl _ _⟩
  case round =>
    obtain ⟨i, r, rfl, hlen2, hsize, hok, hrow, hdk, hgk, hfr⟩ := hrel
    have hgkH : Hidden (gk = r.len) := hgk
    have hdkH : Hidden (errL rnS cnS k = errL rnS cnS r) := hdk
    have hlenH : Hidden (i + r.len = k.len) := hlen2
    clear hgk hdk hlen2 hrest
    cases r with
    | nil =>
      have hi : i = k.len := hlenH
      subst hi
      go_wp2_with fail
      go_end0
      refine ⟨?_, hfr⟩
      rw [show errL rnS cnS k = 0 from hdkH]
      rfl
    | cons h' k' r' =>
      have hil : i < k.len := by have : i + (r'.len + 1) = k.len := hlenH; omega
      obtain ⟨b, off, ao', cap', rfl, hL, hrow2, d0, d1, d2, d3, d4, d5, d6⟩ := hrow.next
      have d0 := hfr.cellN d0
      have d1 := hfr.cellN d1
      have d2 := hfr.cellN d2
      have d3 := hfr.cellN d3
      have d4 := hfr.cellN d4
      have d5 := hfr.cellN d5
      have d6 := hfr.cellN d6
      simp only [Exs.size] at hsize
      have ke := ih h' k' (by omega)
      unfold LookX at ke
      have f2 := hfr.same (Fr.alloc (fun _ => False) wr (.cells #[ci h'.kind, ci h'.op, ct h'.mod, ct h'.name, ci h'.vt, .int .u64 h'.vb, .slice ao' k'.len cap'] 55))
      have kc := ke ao' cap' _ hok.1 hok.2.1 (hL.keep f2)
      clear ke
      have hdk2 : Hidden (errL rnS cnS k = orE (orE (errH rnS cnS h' k'.len) (errL rnS cnS k')) (errL rnS cnS r')) := hdkH
      by_cases h0 : orE (errH rnS cnS h' k'.len) (errL rnS cnS k') = 0
      · rw [h0, lk_0] at kc
        rw [h0] at hdk2
        clear h0
        go_wp2_with fail
        go_at_call 146
        refine kc.mono ?_
        rintro e W3 ⟨rfl, f3⟩
        go_wp2_with fail
        go_roundg r'.len
        case measure =>
          have : gk = r'.len + 1 := hgkH
          omega
        case rel =>
          refine ⟨i + 1, r', by go_num, ?_, by omega, hok.2.2, hrow2, hdk2, rfl, f2.same f3⟩
          have : i + (r'.len + 1) = k.len := hlenH
          omega
      · rw [lk_ne h0] at kc
        have hdk3 : errL rnS cnS k = orE (errH rnS cnS h' k'.len) (errL rnS cnS k') := by rw [show errL rnS cnS k = _ from hdk2, orE_ne _ h0]
        unfold gUp at kc
        go_wp2_with fail
        go_at_call 146
        refine kc.mono ?_
        rintro e W3 ⟨rfl, f3⟩
        go_wp2_with fail
        exact ⟨rfl, (lk_is ⟨hdk3, h0⟩).symm, f2.same f3⟩
theorem look_any : ∀ (k : Exs), LookL k := by
  have : ∀ (n : Nat) (k : Exs), k.size < n → LookL k := by
    intro n
    induction n with
    | zero => intro k hk; omega
    | succ n ih => intro k hk; exact lookL_step k (fun h' k' hk' => lookX_step h' k' (ih k' (by omega)))
  exact fun k => this (k.size + 1) k (by omega)
theorem lookX_any (h : EH) (k : Exs) : LookX h k := lookX_step h k (look_any k)
end Go.Proofs.YtakkiipkmogagaaGreat

namespace Go.Proofs.YtakkiipkmogagaaGreat
open Go.RowKit Te
set_option linter.unusedSimpArgs false
set_option linter.unusedVariables false

abbrev exO (h : EH) (kv : Value) : Obj := .cells #[ci h.kind, ci h.op, ct h.mod, ct h.name, ci h.vt, .int .u64 h.vb, kv] 55 (0, 0)
set_option maxRecDepth 20000 in
set_option maxHeartbeats 4000000 in
theorem rx1_any (h : EH) (k : Exs) (ao : Option Addr) (cap : Nat) (q : Nat) (w : World) (ho : OkE h) (hx : OkX k) (hk : ExL w ao cap k) (hq : w.heap[q]? = some (exO h (.slice ao k.len cap))) :
    Calls Tryz.prog 148 #[.pointer (some ⟨q, 0, none⟩)] w fun e w' => e = lk (errX rnS cnS h k) ∧ Fr (fun _ => False) w w' := by
  obtain ⟨c0, c1, c2, c3, c4, c5, c6⟩ := ex_box hq
  have hqH : Hidden (w.heap[q]? = some (exO h (.slice ao k.len cap))) := hq
  have kd := depth_any h k 1 0 _ ao cap w rfl hk
  have kx := lookX_any h k
  unfold LookX at kx
  generalize hD : dX h k 1 0 = DD at kd
  clear hq
  unfold gUp at *
  by_cases hd : DD ≤ 32
  · have e1 : errX rnS cnS h k = orE (errH rnS cnS h k.len) (errL rnS cnS k) := by
      unfold errX
      rw [hD, if_neg (by omega)]
      rfl
    rw [e1]
    clear e1 hD
    generalize hE : orE (errH rnS cnS h k.len) (errL rnS cnS k) = E at kx
    clear hE
    by_cases h0 : E = 0
    · subst h0
      simp only [lk_0] at kx
      go_enter Tryz.func148, Tryz.ntmps148
      go_wp2_with fail
      go_at_call 149
      refine kd.mono ?_
      rintro e w1 ⟨rfl, f1⟩
      obtain ⟨d0, d1, d2, d3, d4, d5, d6⟩ := ex_box (f1.heap hqH (fun f => f))
      go_wp2_with fail
      go_at_call 111
      refine (must_yes _ (by first | rfl | (simp; omega)) 13 _).mono ?_
      rintro e w2 ⟨rfl, rfl⟩
      go_wp2_with fail
      go_at_call 146
      refine (kx ao cap _ ho hx (hk.keep f1)).mono ?_
      rintro e w3 ⟨rfl, f3⟩
      go_wp2_with fail
      go_end0
      exact ⟨rfl, f1.same f3⟩
    · simp only [lk_ne h0] at kx
      unfold gUp at kx
      go_enter Tryz.func148, Tryz.ntmps148
      go_wp2_with fail
      go_at_call 149
      refine kd.mono ?_
      rintro e w1 ⟨rfl, f1⟩
      obtain ⟨d0, d1, d2, d3, d4, d5, d6⟩ := ex_box (f1.heap hqH (fun f => f))
      go_wp2_with fail
      go_at_call 111
      refine (must_yes _ (by first | rfl | (simp; omega)) 13 _).mono ?_
      rintro e w2 ⟨rfl, rfl⟩
      go_wp2_with fail
      go_at_call 146
      refine (kx ao cap _ ho hx (hk.keep f1)).mono ?_
      rintro e w3 ⟨rfl, f3⟩
      go_wp2_with fail
      exact ⟨rfl, (lk_is ⟨rfl, h0⟩).symm, f1.same f3⟩
  · have e1 : errX rnS cnS h k = 13 := by
      unfold errX
      rw [hD, if_pos (by omega)]
      rfl
    rw [e1]
    clear e1 hD
    go_enter Tryz.func148, Tryz.ntmps148
    go_wp2_with fail
    go_at_call 149
    refine kd.mono ?_
    rintro e w1 ⟨rfl, f1⟩
    obtain ⟨d0, d1, d2, d3, d4, d5, d6⟩ := ex_box (f1.heap hqH (fun f => f))
    go_wp2_with fail
    go_at_call 111
    refine (must_not _ (by first | rfl | (simp; omega)) 13 _).mono ?_
    unfold gUp
    rintro e w2 ⟨rfl, rfl⟩
    go_wp2_with fail
    exact ⟨rfl, (lk_is ⟨rfl, by decide⟩).symm, f1⟩
set_option maxRecDepth 20000 in
theorem rightX_any (h : EH) (k : Exs) (v : Value) (w : World) (ho : OkE h) (hx : OkX k) (hv : ExI w h k v) :
    Calls Tryz.prog 128 #[v] w fun e w' => e = .returned (ci (errX rnS cnS h k)) ∧ Fr (fun _ => False) w w' := by
  obtain ⟨ao, cap, rfl, hk⟩ := hv
  have hmf : ∀ (fn : Fn) (first cap : Array Value) (w : World), (Instr.makeFunc fn first cap).run Tryz.prog w = .ok (.func fn first cap) w := fun _ _ _ _ => rfl
  have f0 := Fr.alloc (fun _ => False) w (exO h (.slice ao k.len cap))
  have hq : Hidden ((w.alloc (exO h (.slice ao k.len cap))).heap[w.heap.size]? = some (exO h (.slice ao k.len cap))) := alloc_new _ _
  have kf := fault_x ⟨w.heap.size, 0, none⟩ (errX rnS cnS h k) (w.alloc (exO h (.slice ao k.len cap))) (fun w0 f => rx1_any h k ao cap w.heap.size w0 ho hx (hk.keep (f0.same f)) (f.heap hq (fun f => f)))
  go_enter Tryz.func128, Tryz.ntmps128
  go_wp2_with fail
  go_at_call 74
  refine kf.mono ?_
  rintro e w1 ⟨rfl, f1⟩
  go_wp2_with fail
  go_ret
  exact ⟨rfl, f0.same f1⟩
end Go.Proofs.YtakkiipkmogagaaGreat

namespace Go.Proofs.YtakkiipkmogagaaGreat
open Go.RowKit Te
set_option linter.unusedSimpArgs false
set_option linter.unusedVariables false

theorem isCall_any (h : EH) (kv : Value) (hkv : ∃ ao n cap, kv = .slice ao n cap) (r : Bool) (hr : Hidden (decide (h.kind = 4 ∨ h.kind = 5) = r)) (w : World) :
    Calls Tryz.prog 177 #[exV h kv] w fun e w' => e = .returned (.bool r) ∧ Fr (fun _ => False) w w' := by
  obtain ⟨ao, n, cap, rfl⟩ := hkv
  obtain ⟨kind, op, mod, name, vt, vb⟩ := h
  go_enter Tryz.func177, Tryz.ntmps177
  go_wp2
  all_goals (go_ret; refine ⟨ret_bl ?_, Fr.alloc _ _ _⟩; rw [← (show _ = r from hr)]; clear hr)
  all_goals (simp only [beq_iff_eq, beq_eq_false_iff_ne, ne_eq] at *; simp [*])
set_option maxRecDepth 20000 in
set_option maxHeartbeats 4000000 in
theorem sfits_1 (name : Bs) (e : Exs) (nb nl : Nat) (ao1 ao2 ao3 : Option Addr) (cap1 cap2 cap3 : Nat) (w : World) (he : ExL w ao1 cap1 e) (b1 : nb ≤ cap2) (b2 : cap2 ≤ 9223372036854775807) (b3 : nl ≤ cap3) (b4 : cap3 ≤ 9223372036854775807) (r : Bool) (hr : Hidden (fitsS ⟨1, name⟩ e nb nl = r)) :
    Calls Tryz.prog 162 #[stV ⟨1, name⟩ (.slice ao1 e.len cap1) (.slice ao2 nb cap2) (.slice ao3 nl cap3)] w fun e w' => e = .returned (.bool r) ∧ Fr (fun _ => False) w w' := by
  have a1 := he.1
  have a2 : cap1 ≤ 9223372036854775807 := by have := he.2.1; unfold maxLen at this; omega
  have hr2 : Hidden (decide (e.len = 1 ∧ nb = 0 ∧ nl = 0) = r) := by rw [← (show _ = r from hr)]; simp [Hidden, fitsS]
  generalize e.len = n at *
  clear hr he
  go_enter Tryz.func162, Tryz.ntmps162
  go_wp2_with fail
  all_goals
    go_ret
    refine ⟨ret_bl ?_, ?_⟩
    · rw [← (show _ = r from hr2)]
      clear hr2
      subst_vars
      try simp only [beq_iff_eq, beq_eq_false_iff_ne, ne_eq] at *
      first | (simp [*]; done) | (simp [*]; omega) | (rw [Bool.eq_iff_iff]; simp [*]; done) | (rw [Bool.eq_iff_iff]; simp [*]; omega)
    · repeat (refine fr_set ?_ (Nat.le_refl _) _ _)
      exact Fr.alloc _ _ _
set_option maxRecDepth 20000 in
set_option maxHeartbeats 4000000 in
theorem sfits_2 (name : Bs) (e : Exs) (nb nl : Nat) (ao1 ao2 ao3 : Option Addr) (cap1 cap2 cap3 : Nat) (w : World) (he : ExL w ao1 cap1 e) (b1 : nb ≤ cap2) (b2 : cap2 ≤ 9223372036854775807) (b3 : nl ≤ cap3) (b4 : cap3 ≤ 9223372036854775807) (r : Bool) (hr : Hidden (fitsS ⟨2, name⟩ e nb nl = r)) :
    Calls Tryz.prog 162 #[stV ⟨2, name⟩ (.slice ao1 e.len cap1) (.slice ao2 nb cap2) (.slice ao3 nl cap3)] w fun e w' => e = .returned (.bool r) ∧ Fr (fun _ => False) w w' := by
  have a1 := he.1
  have a2 : cap1 ≤ 9223372036854775807 := by have := he.2.1; unfold maxLen at this; omega
  have hr2 : Hidden (decide (e.len = 1 ∧ nb = 0 ∧ nl = 0) = r) := by rw [← (show _ = r from hr)]; simp [Hidden, fitsS]
  generalize e.len = n at *
  clear hr he
  go_enter Tryz.func162, Tryz.ntmps162
  go_wp2_with fail
  all_goals
    go_ret
    refine ⟨ret_bl ?_, ?_⟩
    · rw [← (show _ = r from hr2)]
      clear hr2
      subst_vars
      try simp only [beq_iff_eq, beq_eq_false_iff_ne, ne_eq] at *
      first | (simp [*]; done) | (simp [*]; omega) | (rw [Bool.eq_iff_iff]; simp [*]; done) | (rw [Bool.eq_iff_iff]; simp [*]; omega)
    · repeat (refine fr_set ?_ (Nat.le_refl _) _ _)
      exact Fr.alloc _ _ _
set_option maxRecDepth 20000 in
set_option maxHeartbeats 4000000 in
theorem sfits_3 (name : Bs) (e : Exs) (nb nl : Nat) (ao1 ao2 ao3 : Option Addr) (cap1 cap2 cap3 : Nat) (w : World) (he : ExL w ao1 cap1 e) (b1 : nb ≤ cap2) (b2 : cap2 ≤ 9223372036854775807) (b3 : nl ≤ cap3) (b4 : cap3 ≤ 9223372036854775807) (r : Bool) (hr : Hidden (fitsS ⟨3, name⟩ e nb nl = r)) :
    Calls Tryz.prog 162 #[stV ⟨3, name⟩ (.slice ao1 e.len cap1) (.slice ao2 nb cap2) (.slice ao3 nl cap3)] w fun e w' => e = .returned (.bool r) ∧ Fr (fun _ => False) w w' := by
  have a1 := he.1
  have a2 : cap1 ≤ 9223372036854775807 := by have := he.2.1; unfold maxLen at this; omega
  have hr2 : Hidden (decide (e.len = 1 ∧ name = []) = r) := by rw [← (show _ = r from hr)]; simp [Hidden, fitsS]
  generalize e.len = n at *
  clear hr he
  go_enter Tryz.func162, Tryz.ntmps162
  go_wp2_with fail
  all_goals
    go_ret
    refine ⟨ret_bl ?_, ?_⟩
    · rw [← (show _ = r from hr2)]
      clear hr2
      subst_vars
      try simp only [beq_iff_eq, beq_eq_false_iff_ne, ne_eq] at *
      first | (simp [*]; done) | (simp [*]; omega) | (rw [Bool.eq_iff_iff]; simp [*]; done) | (rw [Bool.eq_iff_iff]; simp [*]; omega)
    · repeat (refine fr_set ?_ (Nat.le_refl _) _ _)
      exact Fr.alloc _ _ _
set_option maxRecDepth 20000 in
set_option maxHeartbeats 4000000 in
theorem sfits_4 (name : Bs) (e : Exs) (nb nl : Nat) (ao1 ao2 ao3 : Option Addr) (cap1 cap2 cap3 : Nat) (w : World) (he : ExL w ao1 cap1 e) (b1 : nb ≤ cap2) (b2 : cap2 ≤ 9223372036854775807) (b3 : nl ≤ cap3) (b4 : cap3 ≤ 9223372036854775807) (r : Bool) (hr : Hidden (fitsS ⟨4, name⟩ e nb nl = r)) :
    Calls Tryz.prog 162 #[stV ⟨4, name⟩ (.slice ao1 e.len cap1) (.slice ao2 nb cap2) (.slice ao3 nl cap3)] w fun e w' => e = .returned (.bool r) ∧ Fr (fun _ => False) w w' := by
  have a1 := he.1
  have a2 : cap1 ≤ 9223372036854775807 := by have := he.2.1; unfold maxLen at this; omega
  have hr2 : Hidden (decide (e.len = 1 ∧ name = [] ∧ nl = 0) = r) := by rw [← (show _ = r from hr)]; simp [Hidden, fitsS]
  generalize e.len = n at *
  clear hr he
  go_enter Tryz.func162, Tryz.ntmps162
  go_wp2_with fail
  all_goals
    go_ret
    refine ⟨ret_bl ?_, ?_⟩
    · rw [← (show _ = r from hr2)]
      clear hr2
      subst_vars
      try simp only [beq_iff_eq, beq_eq_false_iff_ne, ne_eq] at *
      first | (simp [*]; done) | (simp [*]; omega) | (rw [Bool.eq_iff_iff]; simp [*]; done) | (rw [Bool.eq_iff_iff]; simp [*]; omega)
    · repeat (refine fr_set ?_ (Nat.le_refl _) _ _)
      exact Fr.alloc _ _ _
set_option maxRecDepth 20000 in
set_option maxHeartbeats 4000000 in
theorem sfits_5 (name : Bs) (e : Exs) (nb nl : Nat) (ao1 ao2 ao3 : Option Addr) (cap1 cap2 cap3 : Nat) (w : World) (he : ExL w ao1 cap1 e) (b1 : nb ≤ cap2) (b2 : cap2 ≤ 9223372036854775807) (b3 : nl ≤ cap3) (b4 : cap3 ≤ 9223372036854775807) (r : Bool) (hr : Hidden (fitsS ⟨5, name⟩ e nb nl = r)) :
    Calls Tryz.prog 162 #[stV ⟨5, name⟩ (.slice ao1 e.len cap1) (.slice ao2 nb cap2) (.slice ao3 nl cap3)] w fun e w' => e = .returned (.bool r) ∧ Fr (fun _ => False) w w' := by
  have a1 := he.1
  have a2 : cap1 ≤ 9223372036854775807 := by have := he.2.1; unfold maxLen at this; omega
  have hr2 : Hidden (decide (e.len ≤ 1 ∧ name = [] ∧ nb = 0 ∧ nl = 0) = r) := by rw [← (show _ = r from hr)]; simp [Hidden, fitsS]
  generalize e.len = n at *
  clear hr he
  go_enter Tryz.func162, Tryz.ntmps162
  go_wp2_with fail
  all_goals
    go_ret
    refine ⟨ret_bl ?_, ?_⟩
    · rw [← (show _ = r from hr2)]
      clear hr2
      subst_vars
      try simp only [beq_iff_eq, beq_eq_false_iff_ne, ne_eq] at *
      first | (simp [*]; done) | (simp [*]; omega) | (rw [Bool.eq_iff_iff]; simp [*]; done) | (rw [Bool.eq_iff_iff]; simp [*]; omega)
    · repeat (refine fr_set ?_ (Nat.le_refl _) _ _)
      exact Fr.alloc _ _ _
set_option maxRecDepth 20000 in
set_option maxHeartbeats 4000000 in
theorem sfits_6 (name : Bs) (e : Exs) (nb nl : Nat) (ao1 ao2 ao3 : Option Addr) (cap1 cap2 cap3 : Nat) (w : World) (he : ExL w ao1 cap1 e) (b1 : nb ≤ cap2) (b2 : cap2 ≤ 9223372036854775807) (b3 : nl ≤ cap3) (b4 : cap3 ≤ 9223372036854775807) (r : Bool) (hr : Hidden (fitsS ⟨6, name⟩ e nb nl = r)) :
    Calls Tryz.prog 162 #[stV ⟨6, name⟩ (.slice ao1 e.len cap1) (.slice ao2 nb cap2) (.slice ao3 nl cap3)] w fun e w' => e = .returned (.bool r) ∧ Fr (fun _ => False) w w' := by
  have a1 := he.1
  have a2 : cap1 ≤ 9223372036854775807 := by have := he.2.1; unfold maxLen at this; omega
  have hr2 : Hidden (decide (e.len = 1 ∧ name = [] ∧ nb = 0 ∧ nl = 0) = r) := by rw [← (show _ = r from hr)]; simp [Hidden, fitsS]
  generalize e.len = n at *
  clear hr he
  go_enter Tryz.func162, Tryz.ntmps162
  go_wp2_with fail
  all_goals
    go_ret
    refine ⟨ret_bl ?_, ?_⟩
    · rw [← (show _ = r from hr2)]
      clear hr2
      subst_vars
      try simp only [beq_iff_eq, beq_eq_false_iff_ne, ne_eq] at *
      first | (simp [*]; done) | (simp [*]; omega) | (rw [Bool.eq_iff_iff]; simp [*]; done) | (rw [Bool.eq_iff_iff]; simp [*]; omega)
    · repeat (refine fr_set ?_ (Nat.le_refl _) _ _)
      exact Fr.alloc _ _ _
set_option maxRecDepth 20000 in
set_option maxHeartbeats 4000000 in
theorem sfits_7 (name : Bs) (e : Exs) (nb nl : Nat) (ao1 ao2 ao3 : Option Addr) (cap1 cap2 cap3 : Nat) (w : World) (he : ExL w ao1 cap1 e) (b1 : nb ≤ cap2) (b2 : cap2 ≤ 9223372036854775807) (b3 : nl ≤ cap3) (b4 : cap3 ≤ 9223372036854775807) (r : Bool) (hr : Hidden (fitsS ⟨7, name⟩ e nb nl = r)) :
    Calls Tryz.prog 162 #[stV ⟨7, name⟩ (.slice ao1 e.len cap1) (.slice ao2 nb cap2) (.slice ao3 nl cap3)] w fun e w' => e = .returned (.bool r) ∧ Fr (fun _ => False) w w' := by
  have a1 := he.1
  have a2 : cap1 ≤ 9223372036854775807 := by have := he.2.1; unfold maxLen at this; omega
  have hr2 : Hidden (decide (e.len = 1 ∧ name = [] ∧ nb = 0 ∧ nl = 0) = r) := by rw [← (show _ = r from hr)]; simp [Hidden, fitsS]
  generalize e.len = n at *
  clear hr he
  go_enter Tryz.func162, Tryz.ntmps162
  go_wp2_with fail
  all_goals
    go_ret
    refine ⟨ret_bl ?_, ?_⟩
    · rw [← (show _ = r from hr2)]
      clear hr2
      subst_vars
      try simp only [beq_iff_eq, beq_eq_false_iff_ne, ne_eq] at *
      first | (simp [*]; done) | (simp [*]; omega) | (rw [Bool.eq_iff_iff]; simp [*]; done) | (rw [Bool.eq_iff_iff]; simp [*]; omega)
    · repeat (refine fr_set ?_ (Nat.le_refl _) _ _)
      exact Fr.alloc _ _ _
set_option maxRecDepth 20000 in
set_option maxHeartbeats 4000000 in
theorem sfits_8 (name : Bs) (e : Exs) (nb nl : Nat) (ao1 ao2 ao3 : Option Addr) (cap1 cap2 cap3 : Nat) (w : World) (he : ExL w ao1 cap1 e) (b1 : nb ≤ cap2) (b2 : cap2 ≤ 9223372036854775807) (b3 : nl ≤ cap3) (b4 : cap3 ≤ 9223372036854775807) (r : Bool) (hr : Hidden (fitsS ⟨8, name⟩ e nb nl = r)) :
    Calls Tryz.prog 162 #[stV ⟨8, name⟩ (.slice ao1 e.len cap1) (.slice ao2 nb cap2) (.slice ao3 nl cap3)] w fun e w' => e = .returned (.bool r) ∧ Fr (fun _ => False) w w' := by
  have a1 := he.1
  have a2 : cap1 ≤ 9223372036854775807 := by have := he.2.1; unfold maxLen at this; omega
  have hr2 : Hidden (decide (e.len = 0) = r) := by rw [← (show _ = r from hr)]; simp [Hidden, fitsS]
  generalize e.len = n at *
  clear hr he
  go_enter Tryz.func162, Tryz.ntmps162
  go_wp2_with fail
  all_goals
    go_ret
    refine ⟨ret_bl ?_, ?_⟩
    · rw [← (show _ = r from hr2)]
      clear hr2
      subst_vars
      try simp only [beq_iff_eq, beq_eq_false_iff_ne, ne_eq] at *
      first | (simp [*]; done) | (simp [*]; omega) | (rw [Bool.eq_iff_iff]; simp [*]; done) | (rw [Bool.eq_iff_iff]; simp [*]; omega)
    · repeat (refine fr_set ?_ (Nat.le_refl _) _ _)
      exact Fr.alloc _ _ _
set_option maxRecDepth 20000 in
set_option maxHeartbeats 4000000 in
theorem sfits_9 (name : Bs) (e : Exs) (nb nl : Nat) (ao1 ao2 ao3 : Option Addr) (cap1 cap2 cap3 : Nat) (w : World) (he : ExL w ao1 cap1 e) (b1 : nb ≤ cap2) (b2 : cap2 ≤ 9223372036854775807) (b3 : nl ≤ cap3) (b4 : cap3 ≤ 9223372036854775807) (r : Bool) (hr : Hidden (fitsS ⟨9, name⟩ e nb nl = r)) :
    Calls Tryz.prog 162 #[stV ⟨9, name⟩ (.slice ao1 e.len cap1) (.slice ao2 nb cap2) (.slice ao3 nl cap3)] w fun e w' => e = .returned (.bool r) ∧ Fr (fun _ => False) w w' := by
  have a1 := he.1
  have a2 : cap1 ≤ 9223372036854775807 := by have := he.2.1; unfold maxLen at this; omega
  have hbx : Hidden ((w.alloc (.cells #[ci 9, ct name, .slice ao1 e.len cap1, .slice ao2 nb cap2, .slice ao3 nl cap3] 195)).heap[w.heap.size]? = some (.cells #[ci 9, ct name, .slice ao1 e.len cap1, .slice ao2 nb cap2, .slice ao3 nl cap3] 195 (0, 0))) := alloc_new _ _
  have f0 := Fr.alloc (fun _ => False) w (.cells #[ci 9, ct name, .slice ao1 e.len cap1, .slice ao2 nb cap2, .slice ao3 nl cap3] 195)
  by_cases h1 : e.len = 1
  · cases e with
    | nil => simp [Exs.len] at h1
    | cons h' k' r' =>
      obtain ⟨b, off, ao', cap', rfl, _, _, d0, d1, d2, d3, d4, d5, d6⟩ := he.rest.next
      simp only [Nat.zero_mul, Nat.add_zero] at d0 d1 d2 d3 d4 d5 d6
      have d0 := f0.cellN d0
      have d1 := f0.cellN d1
      have d2 := f0.cellN d2
      have d3 := f0.cellN d3
      have d4 := f0.cellN d4
      have d5 := f0.cellN d5
      have d6 := f0.cellN d6
      have kc := fun w => isCall_any h' (.slice ao' k'.len cap') ⟨_, _, _, rfl⟩ _ rfl w
      have hr2 : Hidden ((decide (h'.kind = 4 ∨ h'.kind = 5) && decide (name = [] ∧ nb = 0 ∧ nl = 0)) = r) := by
        show (decide (h'.kind = 4 ∨ h'.kind = 5) && decide (name = [] ∧ nb = 0 ∧ nl = 0)) = r
        rw [← (show _ = r from hr), Bool.eq_iff_iff]
        simp [fitsS, h1, Exs.kind0]
      generalize decide (h'.kind = 4 ∨ h'.kind = 5) = cb at kc hr2
      rw [h1] at hbx f0 d0 d1 d2 d3 d4 d5 d6 a1 ⊢
      clear hr he h1
      cases cb
      all_goals
        go_enter Tryz.func162, Tryz.ntmps162
        go_wp2_with fail
        go_at_call 177
        refine (kc _).mono ?_
        rintro ee w1 ⟨rfl, f1⟩
        obtain ⟨e0, e1, e2, e3, e4⟩ := st_box (f1.heap hbx (fun f => f))
        go_wp2_with fail
        all_goals
          go_ret
          refine ⟨ret_bl ?_, f0.same f1⟩
          rw [← (show _ = r from hr2)]
          clear hr2
          subst_vars
          try simp only [beq_iff_eq, beq_eq_false_iff_ne, ne_eq] at *
          first | (simp [*]; done) | (simp [*]; omega) | (rw [Bool.eq_iff_iff]; simp [*]; done) | (rw [Bool.eq_iff_iff]; simp [*]; omega)
  · have hr2 : Hidden (false = r) := by rw [← (show _ = r from hr)]; simp [Hidden, fitsS, h1]
    have h1' : ((e.len : Int) == 1) = false := by simp only [beq_eq_false_iff_ne, ne_eq]; omega
    clear hr h1
    go_enter Tryz.func162, Tryz.ntmps162
    go_wp2_with fail
    go_ret
    exact ⟨ret_bl hr2, Fr.alloc _ _ _⟩
set_option maxRecDepth 20000 in
set_option maxHeartbeats 4000000 in
theorem sfits_no (name : Bs) (e : Exs) (nb nl : Nat) (kind : Int) (hk : ¬ (1 ≤ kind ∧ kind ≤ 9)) (ao1 ao2 ao3 : Option Addr) (cap1 cap2 cap3 : Nat) (w : World) (he : ExL w ao1 cap1 e) (b1 : nb ≤ cap2) (b2 : cap2 ≤ 9223372036854775807) (b3 : nl ≤ cap3) (b4 : cap3 ≤ 9223372036854775807) (r : Bool) (hr : Hidden (fitsS ⟨kind, name⟩ e nb nl = r)) :
    Calls Tryz.prog 162 #[stV ⟨kind, name⟩ (.slice ao1 e.len cap1) (.slice ao2 nb cap2) (.slice ao3 nl cap3)] w fun e w' => e = .returned (.bool r) ∧ Fr (fun _ => False) w w' := by
  have a1 := he.1
  have a2 : cap1 ≤ 9223372036854775807 := by have := he.2.1; unfold maxLen at this; omega
  have n1 : (kind == 1) = false := by simp only [beq_eq_false_iff_ne, ne_eq]; omega
  have n2 : (kind == 2) = false := by simp only [beq_eq_false_iff_ne, ne_eq]; omega
  have n3 : (kind == 3) = false := by simp only [beq_eq_false_iff_ne, ne_eq]; omega
  have n4 : (kind == 4) = false := by simp only [beq_eq_false_iff_ne, ne_eq]; omega
  have n5 : (kind == 5) = false := by simp only [beq_eq_false_iff_ne, ne_eq]; omega
  have n6 : (kind == 6) = false := by simp only [beq_eq_false_iff_ne, ne_eq]; omega
  have n7 : (kind == 7) = false := by simp only [beq_eq_false_iff_ne, ne_eq]; omega
  have n8 : (kind == 8) = false := by simp only [beq_eq_false_iff_ne, ne_eq]; omega
  have n9 : (kind == 9) = false := by simp only [beq_eq_false_iff_ne, ne_eq]; omega
  have hr2 : Hidden (false = r) := by
    rw [← (show _ = r from hr)]
    simp only [beq_eq_false_iff_ne, ne_eq] at n1 n2 n3 n4 n5 n6 n7 n8 n9
    simp [Hidden, fitsS, n1, n2, n3, n4, n5, n6, n7, n8, n9]
  clear hr hk
  go_enter Tryz.func162, Tryz.ntmps162
  go_wp2_with fail
  go_ret
  exact ⟨ret_bl hr2, Fr.alloc _ _ _⟩
theorem sfits_any (h : SH) (e : Exs) (nb nl : Nat) (ao1 ao2 ao3 : Option Addr) (cap1 cap2 cap3 : Nat) (w : World) (he : ExL w ao1 cap1 e) (b1 : nb ≤ cap2) (b2 : cap2 ≤ 9223372036854775807) (b3 : nl ≤ cap3) (b4 : cap3 ≤ 9223372036854775807) (r : Bool) (hr : fitsS h e nb nl = r) :
    Calls Tryz.prog 162 #[stV h (.slice ao1 e.len cap1) (.slice ao2 nb cap2) (.slice ao3 nl cap3)] w fun e w' => e = .returned (.bool r) ∧ Fr (fun _ => False) w w' := by
  obtain ⟨kind, name⟩ := h
  by_cases hk : 1 ≤ kind ∧ kind ≤ 9
  · obtain rfl | rfl | rfl | rfl | rfl | rfl | rfl | rfl | rfl : kind = 1 ∨ kind = 2 ∨ kind = 3 ∨ kind = 4 ∨ kind = 5 ∨ kind = 6 ∨ kind = 7 ∨ kind = 8 ∨ kind = 9 := by omega
    · exact sfits_1 name e nb nl ao1 ao2 ao3 cap1 cap2 cap3 w he b1 b2 b3 b4 r hr
    · exact sfits_2 name e nb nl ao1 ao2 ao3 cap1 cap2 cap3 w he b1 b2 b3 b4 r hr
    · exact sfits_3 name e nb nl ao1 ao2 ao3 cap1 cap2 cap3 w he b1 b2 b3 b4 r hr
    · exact sfits_4 name e nb nl ao1 ao2 ao3 cap1 cap2 cap3 w he b1 b2 b3 b4 r hr
    · exact sfits_5 name e nb nl ao1 ao2 ao3 cap1 cap2 cap3 w he b1 b2 b3 b4 r hr
    · exact sfits_6 name e nb nl ao1 ao2 ao3 cap1 cap2 cap3 w he b1 b2 b3 b4 r hr
    · exact sfits_7 name e nb nl ao1 ao2 ao3 cap1 cap2 cap3 w he b1 b2 b3 b4 r hr
    · exact sfits_8 name e nb nl ao1 ao2 ao3 cap1 cap2 cap3 w he b1 b2 b3 b4 r hr
    · exact sfits_9 name e nb nl ao1 ao2 ao3 cap1 cap2 cap3 w he b1 b2 b3 b4 r hr
  · exact sfits_no name e nb nl kind hk ao1 ao2 ao3 cap1 cap2 cap3 w he b1 b2 b3 b4 r hr
end Go.Proofs.YtakkiipkmogagaaGreat

namespace Go.Proofs.YtakkiipkmogagaaGreat
open Go.RowKit Te
set_option linter.unusedSimpArgs false
set_option linter.unusedVariables false

def LookB (k : Sts) : Prop := ∀ (ao : Option Addr) (cap : Nat) (w : World), OkS k → StL w ao cap k →
  Calls Tryz.prog 127 #[.slice ao k.len cap] w fun e w' => e = lk (errS rnS cnS k) ∧ Fr (fun _ => False) w w'
/-- What is wrong in a statement. -/
def errSt (h : SH) (e : Exs) (b l : Sts) : Int := orE (errSH rnS h e b.len l.len) (orE (errL rnS cnS e) (orE (errS rnS cnS b) (errS rnS cnS l)))
theorem errS_cons (h : SH) (e : Exs) (b l r : Sts) : errS rnS cnS (.cons h e b l r) = orE (errSt h e b l) (errS rnS cnS r) := rfl
set_option maxRecDepth 20000 in
set_option maxHeartbeats 4000000 in
theorem lookS_1 (name : Bs) (e : Exs) (b l : Sts) (kb : LookB b) (kl : LookB l) (ao1 ao2 ao3 : Option Addr) (cap1 cap2 cap3 : Nat) (w : World) (on : OkN name) (oe : OkX e) (ob : OkS b) (ol : OkS l) (he : ExL w ao1 cap1 e) (hb : StL w ao2 cap2 b) (hl : StL w ao3 cap3 l) :
    Calls Tryz.prog 147 #[stV ⟨1, name⟩ (.slice ao1 e.len cap1) (.slice ao2 b.len cap2) (.slice ao3 l.len cap3)] w fun ee w' => ee = lk (errSt ⟨1, name⟩ e b l) ∧ Fr (fun _ => False) w w' := by
  have m2 : cap2 ≤ 9223372036854775807 := by have := hb.2.1; unfold maxLen at this; omega
  have m3 : cap3 ≤ 9223372036854775807 := by have := hl.2.1; unfold maxLen at this; omega
  have hbx : Hidden ((w.alloc (.cells #[ci 1, ct name, .slice ao1 e.len cap1, .slice ao2 b.len cap2, .slice ao3 l.len cap3] 195)).heap[w.heap.size]? = some (.cells #[ci 1, ct name, .slice ao1 e.len cap1, .slice ao2 b.len cap2, .slice ao3 l.len cap3] 195 (0, 0))) := alloc_new _ _
  have f0 : Fr (fun _ => False) w (w.alloc (.cells #[ci 1, ct name, .slice ao1 e.len cap1, .slice ao2 b.len cap2, .slice ao3 l.len cap3] 195)) := Fr.alloc _ _ _
  have kf := fun r hr => sfits_any ⟨1, name⟩ e b.len l.len ao1 ao2 ao3 cap1 cap2 cap3 _ (he.keep f0) hb.1 m2 hl.1 m3 r hr
  have kx := look_any e
  unfold LookL at kx
  unfold LookB at kb kl
  unfold errSt
  by_cases hf : fitsS ⟨1, name⟩ e b.len l.len = true
  · by_cases hn : rnS name = 0
    · by_cases h3 : errL rnS cnS e = 0
      · by_cases h4 : errS rnS cnS b = 0
        · by_cases h5 : errS rnS cnS l = 0
          · go_enter Tryz.func147, Tryz.ntmps147
            go_wp2_with fail
            go_at_call 162
            refine (kf _ hf).mono ?_
            rintro ee w1 ⟨rfl, f1⟩
            have h1 := f1.heap hbx (fun f => f)
            obtain ⟨c0, c1, c2, c3, c4⟩ := st_box h1
            have g1 := f0.same f1
            go_wp2_with fail
            go_at_call 111
            refine (must_yes _ (by first | rfl | simpa using hf) 1 _).mono ?_
            rintro ee w2 ⟨rfl, rfl⟩
            go_wp2_with fail
            go_at_call 110
            refine (mustName_ok name hn on _).mono ?_
            rintro ee w2 ⟨rfl, rfl⟩
            go_wp2_with fail
            go_at_call 126
            refine (kx ao1 cap1 _ oe (he.keep g1)).mono ?_
            rw [h3, lk_0]
            rintro ee w3 ⟨rfl, f3⟩
            have h2 := f3.heap h1 (fun f => f)
            obtain ⟨c0, c1, c2, c3, c4⟩ := st_box h2
            have g3 := g1.same f3
            go_wp2_with fail
            go_at_call 127
            refine (kb ao2 cap2 _ ob (hb.keep g3)).mono ?_
            rw [h4, lk_0]
            rintro ee w4 ⟨rfl, f4⟩
            obtain ⟨c0, c1, c2, c3, c4⟩ := st_box (f4.heap h2 (fun f => f))
            have g4 := g3.same f4
            go_wp2_with fail
            go_at_call 127
            refine (kl ao3 cap3 _ ol (hl.keep g4)).mono ?_
            rw [h5, lk_0]
            rintro ee w5 ⟨rfl, f5⟩
            go_wp2_with fail
            go_end0
            refine ⟨?_, g4.same f5⟩
            rw [show orE _ _ = 0 from (by simp only [errSH, hf, if_true, nameS]; simp [orE, *])]
            rfl
          · go_enter Tryz.func147, Tryz.ntmps147
            go_wp2_with fail
            go_at_call 162
            refine (kf _ hf).mono ?_
            rintro ee w1 ⟨rfl, f1⟩
            have h1 := f1.heap hbx (fun f => f)
            obtain ⟨c0, c1, c2, c3, c4⟩ := st_box h1
            have g1 := f0.same f1
            go_wp2_with fail
            go_at_call 111
            refine (must_yes _ (by first | rfl | simpa using hf) 1 _).mono ?_
            rintro ee w2 ⟨rfl, rfl⟩
            go_wp2_with fail
            go_at_call 110
            refine (mustName_ok name hn on _).mono ?_
            rintro ee w2 ⟨rfl, rfl⟩
            go_wp2_with fail
            go_at_call 126
            refine (kx ao1 cap1 _ oe (he.keep g1)).mono ?_
            rw [h3, lk_0]
            rintro ee w3 ⟨rfl, f3⟩
            have h2 := f3.heap h1 (fun f => f)
            obtain ⟨c0, c1, c2, c3, c4⟩ := st_box h2
            have g3 := g1.same f3
            go_wp2_with fail
            go_at_call 127
            refine (kb ao2 cap2 _ ob (hb.keep g3)).mono ?_
            rw [h4, lk_0]
            rintro ee w4 ⟨rfl, f4⟩
            obtain ⟨c0, c1, c2, c3, c4⟩ := st_box (f4.heap h2 (fun f => f))
            have g4 := g3.same f4
            go_wp2_with fail
            go_at_call 127
            refine (kl ao3 cap3 _ ol (hl.keep g4)).mono ?_
            rw [lk_ne h5]
            unfold gUp
            rintro ee w5 ⟨rfl, f5⟩
            go_wp2_with fail
            exact ⟨rfl, (lk_is ⟨by simp only [errSH, hf, if_true, nameS]; simp [orE, *], h5⟩).symm, g4.same f5⟩
        · go_enter Tryz.func147, Tryz.ntmps147
          go_wp2_with fail
          go_at_call 162
          refine (kf _ hf).mono ?_
          rintro ee w1 ⟨rfl, f1⟩
          have h1 := f1.heap hbx (fun f => f)
          obtain ⟨c0, c1, c2, c3, c4⟩ := st_box h1
          have g1 := f0.same f1
          go_wp2_with fail
          go_at_call 111
          refine (must_yes _ (by first | rfl | simpa using hf) 1 _).mono ?_
          rintro ee w2 ⟨rfl, rfl⟩
          go_wp2_with fail
          go_at_call 110
          refine (mustName_ok name hn on _).mono ?_
          rintro ee w2 ⟨rfl, rfl⟩
          go_wp2_with fail
          go_at_call 126
          refine (kx ao1 cap1 _ oe (he.keep g1)).mono ?_
          rw [h3, lk_0]
          rintro ee w3 ⟨rfl, f3⟩
          have h2 := f3.heap h1 (fun f => f)
          obtain ⟨c0, c1, c2, c3, c4⟩ := st_box h2
          have g3 := g1.same f3
          go_wp2_with fail
          go_at_call 127
          refine (kb ao2 cap2 _ ob (hb.keep g3)).mono ?_
          rw [lk_ne h4]
          unfold gUp
          rintro ee w4 ⟨rfl, f4⟩
          go_wp2_with fail
          exact ⟨rfl, (lk_is ⟨by simp only [errSH, hf, if_true, nameS]; simp [orE, *], h4⟩).symm, g3.same f4⟩
      · go_enter Tryz.func147, Tryz.ntmps147
        go_wp2_with fail
        go_at_call 162
        refine (kf _ hf).mono ?_
        rintro ee w1 ⟨rfl, f1⟩
        have h1 := f1.heap hbx (fun f => f)
        obtain ⟨c0, c1, c2, c3, c4⟩ := st_box h1
        have g1 := f0.same f1
        go_wp2_with fail
        go_at_call 111
        refine (must_yes _ (by first | rfl | simpa using hf) 1 _).mono ?_
        rintro ee w2 ⟨rfl, rfl⟩
        go_wp2_with fail
        go_at_call 110
        refine (mustName_ok name hn on _).mono ?_
        rintro ee w2 ⟨rfl, rfl⟩
        go_wp2_with fail
        go_at_call 126
        refine (kx ao1 cap1 _ oe (he.keep g1)).mono ?_
        rw [lk_ne h3]
        unfold gUp
        rintro ee w3 ⟨rfl, f3⟩
        go_wp2_with fail
        exact ⟨rfl, (lk_is ⟨by simp only [errSH, hf, if_true, nameS]; simp [orE, *], h3⟩).symm, g1.same f3⟩
    · go_enter Tryz.func147, Tryz.ntmps147
      go_wp2_with fail
      go_at_call 162
      refine (kf _ hf).mono ?_
      rintro ee w1 ⟨rfl, f1⟩
      have h1 := f1.heap hbx (fun f => f)
      obtain ⟨c0, c1, c2, c3, c4⟩ := st_box h1
      have g1 := f0.same f1
      go_wp2_with fail
      go_at_call 111
      refine (must_yes _ (by first | rfl | simpa using hf) 1 _).mono ?_
      rintro ee w2 ⟨rfl, rfl⟩
      go_wp2_with fail
      go_at_call 110
      refine (mustName_no name _ rfl hn on _).mono ?_
      unfold gUp
      rintro ee w2 ⟨rfl, rfl⟩
      go_wp2_with fail
      exact ⟨rfl, (lk_is ⟨by simp only [errSH, hf, if_true, nameS]; simp [orE, *], hn⟩).symm, g1⟩
  · replace hf : fitsS ⟨1, name⟩ e b.len l.len = false := by simpa using hf
    go_enter Tryz.func147, Tryz.ntmps147
    go_wp2_with fail
    go_at_call 162
    refine (kf _ hf).mono ?_
    rintro ee w1 ⟨rfl, f1⟩
    have h1 := f1.heap hbx (fun f => f)
    obtain ⟨c0, c1, c2, c3, c4⟩ := st_box h1
    have g1 := f0.same f1
    go_wp2_with fail
    go_at_call 111
    refine (must_not _ (by first | rfl | simpa using hf) 1 _).mono ?_
    unfold gUp
    rintro ee w2 ⟨rfl, rfl⟩
    go_wp2_with fail
    exact ⟨rfl, (lk_is ⟨by simp [errSH, orE, hf], by decide⟩).symm, g1⟩
set_option maxRecDepth 20000 in
set_option maxHeartbeats 4000000 in
theorem lookS_2 (name : Bs) (e : Exs) (b l : Sts) (kb : LookB b) (kl : LookB l) (ao1 ao2 ao3 : Option Addr) (cap1 cap2 cap3 : Nat) (w : World) (on : OkN name) (oe : OkX e) (ob : OkS b) (ol : OkS l) (he : ExL w ao1 cap1 e) (hb : StL w ao2 cap2 b) (hl : StL w ao3 cap3 l) :
    Calls Tryz.prog 147 #[stV ⟨2, name⟩ (.slice ao1 e.len cap1) (.slice ao2 b.len cap2) (.slice ao3 l.len cap3)] w fun ee w' => ee = lk (errSt ⟨2, name⟩ e b l) ∧ Fr (fun _ => False) w w' := by
  have m2 : cap2 ≤ 9223372036854775807 := by have := hb.2.1; unfold maxLen at this; omega
  have m3 : cap3 ≤ 9223372036854775807 := by have := hl.2.1; unfold maxLen at this; omega
  have hbx : Hidden ((w.alloc (.cells #[ci 2, ct name, .slice ao1 e.len cap1, .slice ao2 b.len cap2, .slice ao3 l.len cap3] 195)).heap[w.heap.size]? = some (.cells #[ci 2, ct name, .slice ao1 e.len cap1, .slice ao2 b.len cap2, .slice ao3 l.len cap3] 195 (0, 0))) := alloc_new _ _
  have f0 : Fr (fun _ => False) w (w.alloc (.cells #[ci 2, ct name, .slice ao1 e.len cap1, .slice ao2 b.len cap2, .slice ao3 l.len cap3] 195)) := Fr.alloc _ _ _
  have kf := fun r hr => sfits_any ⟨2, name⟩ e b.len l.len ao1 ao2 ao3 cap1 cap2 cap3 _ (he.keep f0) hb.1 m2 hl.1 m3 r hr
  have kx := look_any e
  unfold LookL at kx
  unfold LookB at kb kl
  unfold errSt
  by_cases hf : fitsS ⟨2, name⟩ e b.len l.len = true
  · by_cases hn : rnS name = 0
    · by_cases h3 : errL rnS cnS e = 0
      · by_cases h4 : errS rnS cnS b = 0
        · by_cases h5 : errS rnS cnS l = 0
          · go_enter Tryz.func147, Tryz.ntmps147
            go_wp2_with fail
            go_at_call 162
            refine (kf _ hf).mono ?_
            rintro ee w1 ⟨rfl, f1⟩
            have h1 := f1.heap hbx (fun f => f)
            obtain ⟨c0, c1, c2, c3, c4⟩ := st_box h1
            have g1 := f0.same f1
            go_wp2_with fail
            go_at_call 111
            refine (must_yes _ (by first | rfl | simpa using hf) 1 _).mono ?_
            rintro ee w2 ⟨rfl, rfl⟩
            go_wp2_with fail
            go_at_call 110
            refine (mustName_ok name hn on _).mono ?_
            rintro ee w2 ⟨rfl, rfl⟩
            go_wp2_with fail
            go_at_call 126
            refine (kx ao1 cap1 _ oe (he.keep g1)).mono ?_
            rw [h3, lk_0]
            rintro ee w3 ⟨rfl, f3⟩
            have h2 := f3.heap h1 (fun f => f)
            obtain ⟨c0, c1, c2, c3, c4⟩ := st_box h2
            have g3 := g1.same f3
            go_wp2_with fail
            go_at_call 127
            refine (kb ao2 cap2 _ ob (hb.keep g3)).mono ?_
            rw [h4, lk_0]
            rintro ee w4 ⟨rfl, f4⟩
            obtain ⟨c0, c1, c2, c3, c4⟩ := st_box (f4.heap h2 (fun f => f))
            have g4 := g3.same f4
            go_wp2_with fail
            go_at_call 127
            refine (kl ao3 cap3 _ ol (hl.keep g4)).mono ?_
            rw [h5, lk_0]
            rintro ee w5 ⟨rfl, f5⟩
            go_wp2_with fail
            go_end0
            refine ⟨?_, g4.same f5⟩
            rw [show orE _ _ = 0 from (by simp only [errSH, hf, if_true, nameS]; simp [orE, *])]
            rfl
          · go_enter Tryz.func147, Tryz.ntmps147
            go_wp2_with fail
            go_at_call 162
            refine (kf _ hf).mono ?_
            rintro ee w1 ⟨rfl, f1⟩
            have h1 := f1.heap hbx (fun f => f)
            obtain ⟨c0, c1, c2, c3, c4⟩ := st_box h1
            have g1 := f0.same f1
            go_wp2_with fail
            go_at_call 111
            refine (must_yes _ (by first | rfl | simpa using hf) 1 _).mono ?_
            rintro ee w2 ⟨rfl, rfl⟩
            go_wp2_with fail
            go_at_call 110
            refine (mustName_ok name hn on _).mono ?_
            rintro ee w2 ⟨rfl, rfl⟩
            go_wp2_with fail
            go_at_call 126
            refine (kx ao1 cap1 _ oe (he.keep g1)).mono ?_
            rw [h3, lk_0]
            rintro ee w3 ⟨rfl, f3⟩
            have h2 := f3.heap h1 (fun f => f)
            obtain ⟨c0, c1, c2, c3, c4⟩ := st_box h2
            have g3 := g1.same f3
            go_wp2_with fail
            go_at_call 127
            refine (kb ao2 cap2 _ ob (hb.keep g3)).mono ?_
            rw [h4, lk_0]
            rintro ee w4 ⟨rfl, f4⟩
            obtain ⟨c0, c1, c2, c3, c4⟩ := st_box (f4.heap h2 (fun f => f))
            have g4 := g3.same f4
            go_wp2_with fail
            go_at_call 127
            refine (kl ao3 cap3 _ ol (hl.keep g4)).mono ?_
            rw [lk_ne h5]
            unfold gUp
            rintro ee w5 ⟨rfl, f5⟩
            go_wp2_with fail
            exact ⟨rfl, (lk_is ⟨by simp only [errSH, hf, if_true, nameS]; simp [orE, *], h5⟩).symm, g4.same f5⟩
        · go_enter Tryz.func147, Tryz.ntmps147
          go_wp2_with fail
          go_at_call 162
          refine (kf _ hf).mono ?_
          rintro ee w1 ⟨rfl, f1⟩
          have h1 := f1.heap hbx (fun f => f)
          obtain ⟨c0, c1, c2, c3, c4⟩ := st_box h1
          have g1 := f0.same f1
          go_wp2_with fail
          go_at_call 111
          refine (must_yes _ (by first | rfl | simpa using hf) 1 _).mono ?_
          rintro ee w2 ⟨rfl, rfl⟩
          go_wp2_with fail
          go_at_call 110
          refine (mustName_ok name hn on _).mono ?_
          rintro ee w2 ⟨rfl, rfl⟩
          go_wp2_with fail
          go_at_call 126
          refine (kx ao1 cap1 _ oe (he.keep g1)).mono ?_
          rw [h3, lk_0]
          rintro ee w3 ⟨rfl, f3⟩
          have h2 := f3.heap h1 (fun f => f)
          obtain ⟨c0, c1, c2, c3, c4⟩ := st_box h2
          have g3 := g1.same f3
          go_wp2_with fail
          go_at_call 127
          refine (kb ao2 cap2 _ ob (hb.keep g3)).mono ?_
          rw [lk_ne h4]
          unfold gUp
          rintro ee w4 ⟨rfl, f4⟩
          go_wp2_with fail
          exact ⟨rfl, (lk_is ⟨by simp only [errSH, hf, if_true, nameS]; simp [orE, *], h4⟩).symm, g3.same f4⟩
      · go_enter Tryz.func147, Tryz.ntmps147
        go_wp2_with fail
        go_at_call 162
        refine (kf _ hf).mono ?_
        rintro ee w1 ⟨rfl, f1⟩
        have h1 := f1.heap hbx (fun f => f)
        obtain ⟨c0, c1, c2, c3, c4⟩ := st_box h1
        have g1 := f0.same f1
        go_wp2_with fail
        go_at_call 111
        refine (must_yes _ (by first | rfl | simpa using hf) 1 _).mono ?_
        rintro ee w2 ⟨rfl, rfl⟩
        go_wp2_with fail
        go_at_call 110
        refine (mustName_ok name hn on _).mono ?_
        rintro ee w2 ⟨rfl, rfl⟩
        go_wp2_with fail
        go_at_call 126
        refine (kx ao1 cap1 _ oe (he.keep g1)).mono ?_
        rw [lk_ne h3]
        unfold gUp
        rintro ee w3 ⟨rfl, f3⟩
        go_wp2_with fail
        exact ⟨rfl, (lk_is ⟨by simp only [errSH, hf, if_true, nameS]; simp [orE, *], h3⟩).symm, g1.same f3⟩
    · go_enter Tryz.func147, Tryz.ntmps147
      go_wp2_with fail
      go_at_call 162
      refine (kf _ hf).mono ?_
      rintro ee w1 ⟨rfl, f1⟩
      have h1 := f1.heap hbx (fun f => f)
      obtain ⟨c0, c1, c2, c3, c4⟩ := st_box h1
      have g1 := f0.same f1
      go_wp2_with fail
      go_at_call 111
      refine (must_yes _ (by first | rfl | simpa using hf) 1 _).mono ?_
      rintro ee w2 ⟨rfl, rfl⟩
      go_wp2_with fail
      go_at_call 110
      refine (mustName_no name _ rfl hn on _).mono ?_
      unfold gUp
      rintro ee w2 ⟨rfl, rfl⟩
      go_wp2_with fail
      exact ⟨rfl, (lk_is ⟨by simp only [errSH, hf, if_true, nameS]; simp [orE, *], hn⟩).symm, g1⟩
  · replace hf : fitsS ⟨2, name⟩ e b.len l.len = false := by simpa using hf
    go_enter Tryz.func147, Tryz.ntmps147
    go_wp2_with fail
    go_at_call 162
    refine (kf _ hf).mono ?_
    rintro ee w1 ⟨rfl, f1⟩
    have h1 := f1.heap hbx (fun f => f)
    obtain ⟨c0, c1, c2, c3, c4⟩ := st_box h1
    have g1 := f0.same f1
    go_wp2_with fail
    go_at_call 111
    refine (must_not _ (by first | rfl | simpa using hf) 1 _).mono ?_
    unfold gUp
    rintro ee w2 ⟨rfl, rfl⟩
    go_wp2_with fail
    exact ⟨rfl, (lk_is ⟨by simp [errSH, orE, hf], by decide⟩).symm, g1⟩
set_option maxRecDepth 20000 in
set_option maxHeartbeats 4000000 in
theorem lookS_8 (name : Bs) (e : Exs) (b l : Sts) (kb : LookB b) (kl : LookB l) (ao1 ao2 ao3 : Option Addr) (cap1 cap2 cap3 : Nat) (w : World) (on : OkN name) (oe : OkX e) (ob : OkS b) (ol : OkS l) (he : ExL w ao1 cap1 e) (hb : StL w ao2 cap2 b) (hl : StL w ao3 cap3 l) :
    Calls Tryz.prog 147 #[stV ⟨8, name⟩ (.slice ao1 e.len cap1) (.slice ao2 b.len cap2) (.slice ao3 l.len cap3)] w fun ee w' => ee = lk (errSt ⟨8, name⟩ e b l) ∧ Fr (fun _ => False) w w' := by
  have m2 : cap2 ≤ 9223372036854775807 := by have := hb.2.1; unfold maxLen at this; omega
  have m3 : cap3 ≤ 9223372036854775807 := by have := hl.2.1; unfold maxLen at this; omega
  have hbx : Hidden ((w.alloc (.cells #[ci 8, ct name, .slice ao1 e.len cap1, .slice ao2 b.len cap2, .slice ao3 l.len cap3] 195)).heap[w.heap.size]? = some (.cells #[ci 8, ct name, .slice ao1 e.len cap1, .slice ao2 b.len cap2, .slice ao3 l.len cap3] 195 (0, 0))) := alloc_new _ _
  have f0 : Fr (fun _ => False) w (w.alloc (.cells #[ci 8, ct name, .slice ao1 e.len cap1, .slice ao2 b.len cap2, .slice ao3 l.len cap3] 195)) := Fr.alloc _ _ _
  have kf := fun r hr => sfits_any ⟨8, name⟩ e b.len l.len ao1 ao2 ao3 cap1 cap2 cap3 _ (he.keep f0) hb.1 m2 hl.1 m3 r hr
  have kx := look_any e
  unfold LookL at kx
  unfold LookB at kb kl
  unfold errSt
  by_cases hf : fitsS ⟨8, name⟩ e b.len l.len = true
  · by_cases hn : rnS name = 0
    · by_cases h3 : errL rnS cnS e = 0
      · by_cases h4 : errS rnS cnS b = 0
        · by_cases h5 : errS rnS cnS l = 0
          · go_enter Tryz.func147, Tryz.ntmps147
            go_wp2_with fail
            go_at_call 162
            refine (kf _ hf).mono ?_
            rintro ee w1 ⟨rfl, f1⟩
            have h1 := f1.heap hbx (fun f => f)
            obtain ⟨c0, c1, c2, c3, c4⟩ := st_box h1
            have g1 := f0.same f1
            go_wp2_with fail
            go_at_call 111
            refine (must_yes _ (by first | rfl | simpa using hf) 1 _).mono ?_
            rintro ee w2 ⟨rfl, rfl⟩
            go_wp2_with fail
            go_at_call 110
            refine (mustName_ok name hn on _).mono ?_
            rintro ee w2 ⟨rfl, rfl⟩
            go_wp2_with fail
            go_at_call 126
            refine (kx ao1 cap1 _ oe (he.keep g1)).mono ?_
            rw [h3, lk_0]
            rintro ee w3 ⟨rfl, f3⟩
            have h2 := f3.heap h1 (fun f => f)
            obtain ⟨c0, c1, c2, c3, c4⟩ := st_box h2
            have g3 := g1.same f3
            go_wp2_with fail
            go_at_call 127
            refine (kb ao2 cap2 _ ob (hb.keep g3)).mono ?_
            rw [h4, lk_0]
            rintro ee w4 ⟨rfl, f4⟩
            obtain ⟨c0, c1, c2, c3, c4⟩ := st_box (f4.heap h2 (fun f => f))
            have g4 := g3.same f4
            go_wp2_with fail
            go_at_call 127
            refine (kl ao3 cap3 _ ol (hl.keep g4)).mono ?_
            rw [h5, lk_0]
            rintro ee w5 ⟨rfl, f5⟩
            go_wp2_with fail
            go_end0
            refine ⟨?_, g4.same f5⟩
            rw [show orE _ _ = 0 from (by simp only [errSH, hf, if_true, nameS]; simp [orE, *])]
            rfl
          · go_enter Tryz.func147, Tryz.ntmps147
            go_wp2_with fail
            go_at_call 162
            refine (kf _ hf).mono ?_
            rintro ee w1 ⟨rfl, f1⟩
            have h1 := f1.heap hbx (fun f => f)
            obtain ⟨c0, c1, c2, c3, c4⟩ := st_box h1
            have g1 := f0.same f1
            go_wp2_with fail
            go_at_call 111
            refine (must_yes _ (by first | rfl | simpa using hf) 1 _).mono ?_
            rintro ee w2 ⟨rfl, rfl⟩
            go_wp2_with fail
            go_at_call 110
            refine (mustName_ok name hn on _).mono ?_
            rintro ee w2 ⟨rfl, rfl⟩
            go_wp2_with fail
            go_at_call 126
            refine (kx ao1 cap1 _ oe (he.keep g1)).mono ?_
            rw [h3, lk_0]
            rintro ee w3 ⟨rfl, f3⟩
            have h2 := f3.heap h1 (fun f => f)
            obtain ⟨c0, c1, c2, c3, c4⟩ := st_box h2
            have g3 := g1.same f3
            go_wp2_with fail
            go_at_call 127
            refine (kb ao2 cap2 _ ob (hb.keep g3)).mono ?_
            rw [h4, lk_0]
            rintro ee w4 ⟨rfl, f4⟩
            obtain ⟨c0, c1, c2, c3, c4⟩ := st_box (f4.heap h2 (fun f => f))
            have g4 := g3.same f4
            go_wp2_with fail
            go_at_call 127
            refine (kl ao3 cap3 _ ol (hl.keep g4)).mono ?_
            rw [lk_ne h5]
            unfold gUp
            rintro ee w5 ⟨rfl, f5⟩
            go_wp2_with fail
            exact ⟨rfl, (lk_is ⟨by simp only [errSH, hf, if_true, nameS]; simp [orE, *], h5⟩).symm, g4.same f5⟩
        · go_enter Tryz.func147, Tryz.ntmps147
          go_wp2_with fail
          go_at_call 162
          refine (kf _ hf).mono ?_
          rintro ee w1 ⟨rfl, f1⟩
          have h1 := f1.heap hbx (fun f => f)
          obtain ⟨c0, c1, c2, c3, c4⟩ := st_box h1
          have g1 := f0.same f1
          go_wp2_with fail
          go_at_call 111
          refine (must_yes _ (by first | rfl | simpa using hf) 1 _).mono ?_
          rintro ee w2 ⟨rfl, rfl⟩
          go_wp2_with fail
          go_at_call 110
          refine (mustName_ok name hn on _).mono ?_
          rintro ee w2 ⟨rfl, rfl⟩
          go_wp2_with fail
          go_at_call 126
          refine (kx ao1 cap1 _ oe (he.keep g1)).mono ?_
          rw [h3, lk_0]
          rintro ee w3 ⟨rfl, f3⟩
          have h2 := f3.heap h1 (fun f => f)
          obtain ⟨c0, c1, c2, c3, c4⟩ := st_box h2
          have g3 := g1.same f3
          go_wp2_with fail
          go_at_call 127
          refine (kb ao2 cap2 _ ob (hb.keep g3)).mono ?_
          rw [lk_ne h4]
          unfold gUp
          rintro ee w4 ⟨rfl, f4⟩
          go_wp2_with fail
          exact ⟨rfl, (lk_is ⟨by simp only [errSH, hf, if_true, nameS]; simp [orE, *], h4⟩).symm, g3.same f4⟩
      · go_enter Tryz.func147, Tryz.ntmps147
        go_wp2_with fail
        go_at_call 162
        refine (kf _ hf).mono ?_
        rintro ee w1 ⟨rfl, f1⟩
        have h1 := f1.heap hbx (fun f => f)
        obtain ⟨c0, c1, c2, c3, c4⟩ := st_box h1
        have g1 := f0.same f1
        go_wp2_with fail
        go_at_call 111
        refine (must_yes _ (by first | rfl | simpa using hf) 1 _).mono ?_
        rintro ee w2 ⟨rfl, rfl⟩
        go_wp2_with fail
        go_at_call 110
        refine (mustName_ok name hn on _).mono ?_
        rintro ee w2 ⟨rfl, rfl⟩
        go_wp2_with fail
        go_at_call 126
        refine (kx ao1 cap1 _ oe (he.keep g1)).mono ?_
        rw [lk_ne h3]
        unfold gUp
        rintro ee w3 ⟨rfl, f3⟩
        go_wp2_with fail
        exact ⟨rfl, (lk_is ⟨by simp only [errSH, hf, if_true, nameS]; simp [orE, *], h3⟩).symm, g1.same f3⟩
    · go_enter Tryz.func147, Tryz.ntmps147
      go_wp2_with fail
      go_at_call 162
      refine (kf _ hf).mono ?_
      rintro ee w1 ⟨rfl, f1⟩
      have h1 := f1.heap hbx (fun f => f)
      obtain ⟨c0, c1, c2, c3, c4⟩ := st_box h1
      have g1 := f0.same f1
      go_wp2_with fail
      go_at_call 111
      refine (must_yes _ (by first | rfl | simpa using hf) 1 _).mono ?_
      rintro ee w2 ⟨rfl, rfl⟩
      go_wp2_with fail
      go_at_call 110
      refine (mustName_no name _ rfl hn on _).mono ?_
      unfold gUp
      rintro ee w2 ⟨rfl, rfl⟩
      go_wp2_with fail
      exact ⟨rfl, (lk_is ⟨by simp only [errSH, hf, if_true, nameS]; simp [orE, *], hn⟩).symm, g1⟩
  · replace hf : fitsS ⟨8, name⟩ e b.len l.len = false := by simpa using hf
    go_enter Tryz.func147, Tryz.ntmps147
    go_wp2_with fail
    go_at_call 162
    refine (kf _ hf).mono ?_
    rintro ee w1 ⟨rfl, f1⟩
    have h1 := f1.heap hbx (fun f => f)
    obtain ⟨c0, c1, c2, c3, c4⟩ := st_box h1
    have g1 := f0.same f1
    go_wp2_with fail
    go_at_call 111
    refine (must_not _ (by first | rfl | simpa using hf) 1 _).mono ?_
    unfold gUp
    rintro ee w2 ⟨rfl, rfl⟩
    go_wp2_with fail
    exact ⟨rfl, (lk_is ⟨by simp [errSH, orE, hf], by decide⟩).symm, g1⟩
set_option maxRecDepth 20000 in
set_option maxHeartbeats 4000000 in
theorem lookS_no (name : Bs) (e : Exs) (b l : Sts) (kind : Int) (kb : LookB b) (kl : LookB l) (ao1 ao2 ao3 : Option Addr) (cap1 cap2 cap3 : Nat) (w : World) (on : OkN name) (oe : OkX e) (ob : OkS b) (ol : OkS l) (he : ExL w ao1 cap1 e) (hb : StL w ao2 cap2 b) (hl : StL w ao3 cap3 l) (n1 : kind ≠ 1) (n2 : kind ≠ 2) (n8 : kind ≠ 8) :
    Calls Tryz.prog 147 #[stV ⟨kind, name⟩ (.slice ao1 e.len cap1) (.slice ao2 b.len cap2) (.slice ao3 l.len cap3)] w fun ee w' => ee = lk (errSt ⟨kind, name⟩ e b l) ∧ Fr (fun _ => False) w w' := by
  have m2 : cap2 ≤ 9223372036854775807 := by have := hb.2.1; unfold maxLen at this; omega
  have m3 : cap3 ≤ 9223372036854775807 := by have := hl.2.1; unfold maxLen at this; omega
  have hbx : Hidden ((w.alloc (.cells #[ci kind, ct name, .slice ao1 e.len cap1, .slice ao2 b.len cap2, .slice ao3 l.len cap3] 195)).heap[w.heap.size]? = some (.cells #[ci kind, ct name, .slice ao1 e.len cap1, .slice ao2 b.len cap2, .slice ao3 l.len cap3] 195 (0, 0))) := alloc_new _ _
  have f0 : Fr (fun _ => False) w (w.alloc (.cells #[ci kind, ct name, .slice ao1 e.len cap1, .slice ao2 b.len cap2, .slice ao3 l.len cap3] 195)) := Fr.alloc _ _ _
  have kf := fun r hr => sfits_any ⟨kind, name⟩ e b.len l.len ao1 ao2 ao3 cap1 cap2 cap3 _ (he.keep f0) hb.1 m2 hl.1 m3 r hr
  have kx := look_any e
  unfold LookL at kx
  unfold LookB at kb kl
  unfold errSt
  have m1x : (kind == 1) = false := by simp [n1]
  have m2x : (kind == 2) = false := by simp [n2]
  have m8x : (kind == 8) = false := by simp [n8]
  by_cases hf : fitsS ⟨kind, name⟩ e b.len l.len = true
  · by_cases h3 : errL rnS cnS e = 0
    · by_cases h4 : errS rnS cnS b = 0
      · by_cases h5 : errS rnS cnS l = 0
        · go_enter Tryz.func147, Tryz.ntmps147
          go_wp2_with fail
          go_at_call 162
          refine (kf _ hf).mono ?_
          rintro ee w1 ⟨rfl, f1⟩
          have h1 := f1.heap hbx (fun f => f)
          obtain ⟨c0, c1, c2, c3, c4⟩ := st_box h1
          have g1 := f0.same f1
          go_wp2_with fail
          go_at_call 111
          refine (must_yes _ (by first | rfl | simpa using hf) 1 _).mono ?_
          rintro ee w2 ⟨rfl, rfl⟩
          go_wp2_with fail
          go_at_call 126
          refine (kx ao1 cap1 _ oe (he.keep g1)).mono ?_
          rw [h3, lk_0]
          rintro ee w3 ⟨rfl, f3⟩
          have h2 := f3.heap h1 (fun f => f)
          obtain ⟨c0, c1, c2, c3, c4⟩ := st_box h2
          have g3 := g1.same f3
          go_wp2_with fail
          go_at_call 127
          refine (kb ao2 cap2 _ ob (hb.keep g3)).mono ?_
          rw [h4, lk_0]
          rintro ee w4 ⟨rfl, f4⟩
          obtain ⟨c0, c1, c2, c3, c4⟩ := st_box (f4.heap h2 (fun f => f))
          have g4 := g3.same f4
          go_wp2_with fail
          go_at_call 127
          refine (kl ao3 cap3 _ ol (hl.keep g4)).mono ?_
          rw [h5, lk_0]
          rintro ee w5 ⟨rfl, f5⟩
          go_wp2_with fail
          go_end0
          refine ⟨?_, g4.same f5⟩
          rw [show orE _ _ = 0 from (by simp only [errSH, hf, if_true, nameS]; simp [orE, *])]
          rfl
        · go_enter Tryz.func147, Tryz.ntmps147
          go_wp2_with fail
          go_at_call 162
          refine (kf _ hf).mono ?_
          rintro ee w1 ⟨rfl, f1⟩
          have h1 := f1.heap hbx (fun f => f)
          obtain ⟨c0, c1, c2, c3, c4⟩ := st_box h1
          have g1 := f0.same f1
          go_wp2_with fail
          go_at_call 111
          refine (must_yes _ (by first | rfl | simpa using hf) 1 _).mono ?_
          rintro ee w2 ⟨rfl, rfl⟩
          go_wp2_with fail
          go_at_call 126
          refine (kx ao1 cap1 _ oe (he.keep g1)).mono ?_
          rw [h3, lk_0]
          rintro ee w3 ⟨rfl, f3⟩
          have h2 := f3.heap h1 (fun f => f)
          obtain ⟨c0, c1, c2, c3, c4⟩ := st_box h2
          have g3 := g1.same f3
          go_wp2_with fail
          go_at_call 127
          refine (kb ao2 cap2 _ ob (hb.keep g3)).mono ?_
          rw [h4, lk_0]
          rintro ee w4 ⟨rfl, f4⟩
          obtain ⟨c0, c1, c2, c3, c4⟩ := st_box (f4.heap h2 (fun f => f))
          have g4 := g3.same f4
          go_wp2_with fail
          go_at_call 127
          refine (kl ao3 cap3 _ ol (hl.keep g4)).mono ?_
          rw [lk_ne h5]
          unfold gUp
          rintro ee w5 ⟨rfl, f5⟩
          go_wp2_with fail
          exact ⟨rfl, (lk_is ⟨by simp only [errSH, hf, if_true, nameS]; simp [orE, *], h5⟩).symm, g4.same f5⟩
      · go_enter Tryz.func147, Tryz.ntmps147
        go_wp2_with fail
        go_at_call 162
        refine (kf _ hf).mono ?_
        rintro ee w1 ⟨rfl, f1⟩
        have h1 := f1.heap hbx (fun f => f)
        obtain ⟨c0, c1, c2, c3, c4⟩ := st_box h1
        have g1 := f0.same f1
        go_wp2_with fail
        go_at_call 111
        refine (must_yes _ (by first | rfl | simpa using hf) 1 _).mono ?_
        rintro ee w2 ⟨rfl, rfl⟩
        go_wp2_with fail
        go_at_call 126
        refine (kx ao1 cap1 _ oe (he.keep g1)).mono ?_
        rw [h3, lk_0]
        rintro ee w3 ⟨rfl, f3⟩
        have h2 := f3.heap h1 (fun f => f)
        obtain ⟨c0, c1, c2, c3, c4⟩ := st_box h2
        have g3 := g1.same f3
        go_wp2_with fail
        go_at_call 127
        refine (kb ao2 cap2 _ ob (hb.keep g3)).mono ?_
        rw [lk_ne h4]
        unfold gUp
        rintro ee w4 ⟨rfl, f4⟩
        go_wp2_with fail
        exact ⟨rfl, (lk_is ⟨by simp only [errSH, hf, if_true, nameS]; simp [orE, *], h4⟩).symm, g3.same f4⟩
    · go_enter Tryz.func147, Tryz.ntmps147
      go_wp2_with fail
      go_at_call 162
      refine (kf _ hf).mono ?_
      rintro ee w1 ⟨rfl, f1⟩
      have h1 := f1.heap hbx (fun f => f)
      obtain ⟨c0, c1, c2, c3, c4⟩ := st_box h1
      have g1 := f0.same f1
      go_wp2_with fail
      go_at_call 111
      refine (must_yes _ (by first | rfl | simpa using hf) 1 _).mono ?_
      rintro ee w2 ⟨rfl, rfl⟩
      go_wp2_with fail
      go_at_call 126
      refine (kx ao1 cap1 _ oe (he.keep g1)).mono ?_
      rw [lk_ne h3]
      unfold gUp
      rintro ee w3 ⟨rfl, f3⟩
      go_wp2_with fail
      exact ⟨rfl, (lk_is ⟨by simp only [errSH, hf, if_true, nameS]; simp [orE, *], h3⟩).symm, g1.same f3⟩
  · replace hf : fitsS ⟨kind, name⟩ e b.len l.len = false := by simpa using hf
    go_enter Tryz.func147, Tryz.ntmps147
    go_wp2_with fail
    go_at_call 162
    refine (kf _ hf).mono ?_
    rintro ee w1 ⟨rfl, f1⟩
    have h1 := f1.heap hbx (fun f => f)
    obtain ⟨c0, c1, c2, c3, c4⟩ := st_box h1
    have g1 := f0.same f1
    go_wp2_with fail
    go_at_call 111
    refine (must_not _ (by first | rfl | simpa using hf) 1 _).mono ?_
    unfold gUp
    rintro ee w2 ⟨rfl, rfl⟩
    go_wp2_with fail
    exact ⟨rfl, (lk_is ⟨by simp [errSH, orE, hf], by decide⟩).symm, g1⟩
theorem lookS_step (h : SH) (e : Exs) (b l : Sts) (kb : LookB b) (kl : LookB l) (ao1 ao2 ao3 : Option Addr) (cap1 cap2 cap3 : Nat) (w : World) (on : OkN h.name) (oe : OkX e) (ob : OkS b) (ol : OkS l) (he : ExL w ao1 cap1 e) (hb : StL w ao2 cap2 b) (hl : StL w ao3 cap3 l) :
    Calls Tryz.prog 147 #[stV h (.slice ao1 e.len cap1) (.slice ao2 b.len cap2) (.slice ao3 l.len cap3)] w fun ee w' => ee = lk (errSt h e b l) ∧ Fr (fun _ => False) w w' := by
  obtain ⟨kind, name⟩ := h
  by_cases n1 : kind = 1
  · subst n1; exact lookS_1 name e b l kb kl ao1 ao2 ao3 cap1 cap2 cap3 w on oe ob ol he hb hl
  by_cases n2 : kind = 2
  · subst n2; exact lookS_2 name e b l kb kl ao1 ao2 ao3 cap1 cap2 cap3 w on oe ob ol he hb hl
  by_cases n8 : kind = 8
  · subst n8; exact lookS_8 name e b l kb kl ao1 ao2 ao3 cap1 cap2 cap3 w on oe ob ol he hb hl
  exact lookS_no name e b l kind kb kl ao1 ao2 ao3 cap1 cap2 cap3 w on oe ob ol he hb hl n1 n2 n8
set_option maxRecDepth 20000 in
set_option maxHeartbeats 4000000 in
theorem lookB_step (k : Sts) (ih : ∀ k' : Sts, k'.size < k.size → LookB k') : LookB k := by
  intro ao cap w hx hk
  have hrest := hk.rest
  obtain ⟨hcap, hmax, _⟩ := hk
  have hlen : k.len ≤ 9223372036854775807 := by unfold maxLen at hmax; omega
  go_enter Tryz.func127, Tryz.ntmps127
  go_wp2_with fail
  go_loopg [6] k.len (fun g iv wr => ∃ (i : Nat) (r : Sts), iv = ci (i : Int) ∧ i + r.len = k.len ∧ r.size ≤ k.size ∧ OkS r ∧ StR w ao i r ∧ errS rnS cnS k = errS rnS cnS r ∧ g = r.len ∧ Fr (fun _ => False) w wr)
  case atStart => exact ⟨0, k, rfl, by omega, Nat.le_refl _, hx, hrest, rfl, rfl, Fr.refl _ _⟩
  case round =>
    obtain ⟨i, r, rfl, hlen2, hsize, hok, hrow, hdk, hgk, hfr⟩ := hrel
    have hgkH : Hidden (gk = r.len) := hgk
    have hdkH : Hidden (errS rnS cnS k = errS rnS cnS r) := hdk
    have hlenH : Hidden (i + r.len = k.len) := hlen2
    clear hgk hdk hlen2 hrest
    cases r with
    | nil =>
      have hi : i = k.len := hlenH
      subst hi
      go_wp2_with fail
      go_end0
      refine ⟨?_, hfr⟩
      rw [show errS rnS cnS k = 0 from hdkH]
      rfl
    | cons h' e' b' l' r' =>
      have hil : i < k.len := by have : i + (r'.len + 1) = k.len := hlenH; omega
      obtain ⟨b, off, ao1, cap1, ao2, cap2, ao3, cap3, rfl, hL1, hL2, hL3, hrow2, d0, d1, d2, d3, d4⟩ := hrow.next
      have d0 := hfr.cellN d0
      have d1 := hfr.cellN d1
      have d2 := hfr.cellN d2
      have d3 := hfr.cellN d3
      have d4 := hfr.cellN d4
      have f2 := hfr.same (Fr.alloc (fun _ => False) wr (.cells #[ci h'.kind, ct h'.name, .slice ao1 e'.len cap1, .slice ao2 b'.len cap2, .slice ao3 l'.len cap3] 195))
      simp only [Sts.size] at hsize
      obtain ⟨ok1, ok2, ok3, ok4, ok5, ok6⟩ := hok
      have kc := lookS_step h' e' b' l' (ih b' (by omega)) (ih l' (by omega)) ao1 ao2 ao3 cap1 cap2 cap3 _ ok2 ok3 ok4 ok5 (hL1.keep f2) (hL2.keep f2) (hL3.keep f2)
      have hdk2 : Hidden (errS rnS cnS k = orE (errSt h' e' b' l') (errS rnS cnS r')) := hdkH
      by_cases h0 : errSt h' e' b' l' = 0
      · rw [h0, lk_0] at kc
        rw [h0] at hdk2
        clear h0
        go_wp2_with fail
        go_at_call 147
        refine kc.mono ?_
        rintro e W3 ⟨rfl, f3⟩
        go_wp2_with fail
        go_roundg r'.len
        case measure =>
          have : gk = r'.len + 1 := hgkH
          omega
        case rel =>
          refine ⟨i + 1, r', by go_num, ?_, by omega, ok6, hrow2, hdk2, rfl, f2.same f3⟩
          have : i + (r'.len + 1) = k.len := hlenH
          omega
      · rw [lk_ne h0] at kc
        have hdk3 : errS rnS cnS k = errSt h' e' b' l' := by rw [show errS rnS cnS k = _ from hdk2, orE_ne _ h0]
        unfold gUp at kc
        go_wp2_with fail
        go_at_call 147
        refine kc.mono ?_
        rintro e W3 ⟨rfl, f3⟩
        go_wp2_with fail
        exact ⟨rfl, (lk_is ⟨hdk3, h0⟩).symm, f2.same f3⟩
theorem lookB_any (k : Sts) : LookB k := by
  have : ∀ (n : Nat) (k : Sts), k.size < n → LookB k := by
    intro n
    induction n with
    | zero => intro k hk; omega
    | succ n ih => intro k hk; exact lookB_step k (fun k' hk' => ih k' (by omega))
  exact this (k.size + 1) k (by omega)
end Go.Proofs.YtakkiipkmogagaaGreat

namespace Go.Proofs.YtakkiipkmogagaaGreat
open Go.RowKit Te
set_option linter.unusedSimpArgs false
set_option linter.unusedVariables false

set_option maxRecDepth 20000 in
set_option maxHeartbeats 4000000 in
theorem dfits_1 (ex : Bool) (name : Bs) (type : Int) (params : List Pa) (e : Exs) (body : Sts) (ao1 ao2 ao3 : Option Addr) (cap1 cap2 cap3 : Nat) (w : World) (m1 : cap1 ≤ 9223372036854775807) (m2 : cap2 ≤ 9223372036854775807) (m3 : cap3 ≤ 9223372036854775807) (l1 : params.length ≤ cap1) (l2 : e.len ≤ cap2) (l3 : body.len ≤ cap3) (r : Bool) (hr : Hidden (fitsD ⟨1, ex, name, type, params, e, body⟩ = r)) :
    Calls Tryz.prog 124 #[deV ⟨1, ex, name, type, params, e, body⟩ (.slice ao1 params.length cap1) (.slice ao2 e.len cap2) (.slice ao3 body.len cap3)] w fun ee w' => ee = .returned (.bool r) ∧ Fr (fun _ => False) w w' := by
  have kt := fun w => isType_any type _ rfl w
  have hr2 : Hidden ((isTy type && decide (e.len = 1 ∧ params.length = 0 ∧ body.len = 0)) = r) := by rw [← (show _ = r from hr)]; simp [Hidden, fitsD]
  generalize isTy type = ty at kt hr2
  generalize e.len = ne at *
  generalize body.len = nb at *
  generalize params.length = np at *
  clear hr
  cases ty <;> cases ex
  all_goals
    go_enter Tryz.func124, Tryz.ntmps124
    go_wp2_with (go_at_call 125; refine (kt _).mono ?_; rintro ee w1 ⟨rfl, rfl⟩)
    all_goals
      go_ret
      refine ⟨ret_bl ?_, Fr.alloc _ _ _⟩
      rw [← (show _ = r from hr2)]
      clear hr2 kt
      subst_vars
      try simp only [beq_iff_eq, beq_eq_false_iff_ne, ne_eq] at *
      first | (simp [*]; done) | (simp [*]; omega) | (rw [Bool.eq_iff_iff]; simp [*]; done) | (rw [Bool.eq_iff_iff]; simp [*]; omega)
set_option maxRecDepth 20000 in
set_option maxHeartbeats 4000000 in
theorem dfits_2 (ex : Bool) (name : Bs) (type : Int) (params : List Pa) (e : Exs) (body : Sts) (ao1 ao2 ao3 : Option Addr) (cap1 cap2 cap3 : Nat) (w : World) (m1 : cap1 ≤ 9223372036854775807) (m2 : cap2 ≤ 9223372036854775807) (m3 : cap3 ≤ 9223372036854775807) (l1 : params.length ≤ cap1) (l2 : e.len ≤ cap2) (l3 : body.len ≤ cap3) (r : Bool) (hr : Hidden (fitsD ⟨2, ex, name, type, params, e, body⟩ = r)) :
    Calls Tryz.prog 124 #[deV ⟨2, ex, name, type, params, e, body⟩ (.slice ao1 params.length cap1) (.slice ao2 e.len cap2) (.slice ao3 body.len cap3)] w fun ee w' => ee = .returned (.bool r) ∧ Fr (fun _ => False) w w' := by
  have kt := fun w => isType_any type _ rfl w
  have hr2 : Hidden ((!ex && isTy type && decide (e.len = 1 ∧ params.length = 0 ∧ body.len = 0)) = r) := by rw [← (show _ = r from hr)]; simp [Hidden, fitsD]
  generalize isTy type = ty at kt hr2
  generalize e.len = ne at *
  generalize body.len = nb at *
  generalize params.length = np at *
  clear hr
  cases ty <;> cases ex
  all_goals
    go_enter Tryz.func124, Tryz.ntmps124
    go_wp2_with (go_at_call 125; refine (kt _).mono ?_; rintro ee w1 ⟨rfl, rfl⟩)
    all_goals
      go_ret
      refine ⟨ret_bl ?_, Fr.alloc _ _ _⟩
      rw [← (show _ = r from hr2)]
      clear hr2 kt
      subst_vars
      try simp only [beq_iff_eq, beq_eq_false_iff_ne, ne_eq] at *
      first | (simp [*]; done) | (simp [*]; omega) | (rw [Bool.eq_iff_iff]; simp [*]; done) | (rw [Bool.eq_iff_iff]; simp [*]; omega)
set_option maxRecDepth 20000 in
set_option maxHeartbeats 4000000 in
theorem dfits_3 (ex : Bool) (name : Bs) (type : Int) (params : List Pa) (e : Exs) (body : Sts) (ao1 ao2 ao3 : Option Addr) (cap1 cap2 cap3 : Nat) (w : World) (m1 : cap1 ≤ 9223372036854775807) (m2 : cap2 ≤ 9223372036854775807) (m3 : cap3 ≤ 9223372036854775807) (l1 : params.length ≤ cap1) (l2 : e.len ≤ cap2) (l3 : body.len ≤ cap3) (r : Bool) (hr : Hidden (fitsD ⟨3, ex, name, type, params, e, body⟩ = r)) :
    Calls Tryz.prog 124 #[deV ⟨3, ex, name, type, params, e, body⟩ (.slice ao1 params.length cap1) (.slice ao2 e.len cap2) (.slice ao3 body.len cap3)] w fun ee w' => ee = .returned (.bool r) ∧ Fr (fun _ => False) w w' := by
  have kt := fun w => isType_any type _ rfl w
  have hr2 : Hidden (((type == 0 || isTy type) && decide (e.len = 0)) = r) := by rw [← (show _ = r from hr)]; simp [Hidden, fitsD]
  generalize isTy type = ty at kt hr2
  generalize e.len = ne at *
  generalize body.len = nb at *
  generalize params.length = np at *
  clear hr
  cases ty <;> cases ex
  all_goals
    go_enter Tryz.func124, Tryz.ntmps124
    go_wp2_with (go_at_call 125; refine (kt _).mono ?_; rintro ee w1 ⟨rfl, rfl⟩)
    all_goals
      go_ret
      refine ⟨ret_bl ?_, Fr.alloc _ _ _⟩
      rw [← (show _ = r from hr2)]
      clear hr2 kt
      subst_vars
      try simp only [beq_iff_eq, beq_eq_false_iff_ne, ne_eq] at *
      first | (simp [*]; done) | (simp [*]; omega) | (rw [Bool.eq_iff_iff]; simp [*]; done) | (rw [Bool.eq_iff_iff]; simp [*]; omega)
set_option maxRecDepth 20000 in
set_option maxHeartbeats 4000000 in
theorem dfits_no (kind : Int) (ex : Bool) (name : Bs) (type : Int) (params : List Pa) (e : Exs) (body : Sts) (n1 : kind ≠ 1) (n2 : kind ≠ 2) (n3 : kind ≠ 3) (ao1 ao2 ao3 : Option Addr) (cap1 cap2 cap3 : Nat) (w : World) (m1 : cap1 ≤ 9223372036854775807) (m2 : cap2 ≤ 9223372036854775807) (m3 : cap3 ≤ 9223372036854775807) (l1 : params.length ≤ cap1) (l2 : e.len ≤ cap2) (l3 : body.len ≤ cap3) (r : Bool) (hr : Hidden (fitsD ⟨kind, ex, name, type, params, e, body⟩ = r)) :
    Calls Tryz.prog 124 #[deV ⟨kind, ex, name, type, params, e, body⟩ (.slice ao1 params.length cap1) (.slice ao2 e.len cap2) (.slice ao3 body.len cap3)] w fun ee w' => ee = .returned (.bool r) ∧ Fr (fun _ => False) w w' := by
  have kt := fun w => isType_any type _ rfl w
  have x1 : (kind == 1) = false := by simp [n1]
  have x2 : (kind == 2) = false := by simp [n2]
  have x3 : (kind == 3) = false := by simp [n3]
  have hr2 : Hidden (false = r) := by rw [← (show _ = r from hr)]; simp [Hidden, fitsD, n1, n2, n3]
  clear hr n1 n2 n3
  go_enter Tryz.func124, Tryz.ntmps124
  go_wp2_with fail
  go_ret
  exact ⟨ret_bl hr2, Fr.alloc _ _ _⟩
theorem dfits_any (d : De) (ao1 ao2 ao3 : Option Addr) (cap1 cap2 cap3 : Nat) (w : World) (m1 : cap1 ≤ 9223372036854775807) (m2 : cap2 ≤ 9223372036854775807) (m3 : cap3 ≤ 9223372036854775807) (l1 : d.params.length ≤ cap1) (l2 : d.e.len ≤ cap2) (l3 : d.body.len ≤ cap3) (r : Bool) (hr : fitsD d = r) :
    Calls Tryz.prog 124 #[deV d (.slice ao1 d.params.length cap1) (.slice ao2 d.e.len cap2) (.slice ao3 d.body.len cap3)] w fun ee w' => ee = .returned (.bool r) ∧ Fr (fun _ => False) w w' := by
  obtain ⟨kind, ex, name, type, params, e, body⟩ := d
  by_cases n1 : kind = 1
  · subst n1; exact dfits_1 ex name type params e body ao1 ao2 ao3 cap1 cap2 cap3 w m1 m2 m3 l1 l2 l3 r hr
  by_cases n2 : kind = 2
  · subst n2; exact dfits_2 ex name type params e body ao1 ao2 ao3 cap1 cap2 cap3 w m1 m2 m3 l1 l2 l3 r hr
  by_cases n3 : kind = 3
  · subst n3; exact dfits_3 ex name type params e body ao1 ao2 ao3 cap1 cap2 cap3 w m1 m2 m3 l1 l2 l3 r hr
  exact dfits_no kind ex name type params e body n1 n2 n3 ao1 ao2 ao3 cap1 cap2 cap3 w m1 m2 m3 l1 l2 l3 r hr
theorem pa_box {w : World} {b : Nat} {x0 x1 : Value} {t : TypeId} (hb : w.heap[b]? = some (.cells #[x0, x1] t (0, 0))) : w.cell? ⟨b, 0, none⟩ = some x0 ∧ w.cell? ⟨b, 1, none⟩ = some x1 :=
  ⟨cell_of_row _ _ 0 _ _ _ hb, cell_of_row _ _ 1 _ _ _ hb⟩
set_option maxRecDepth 20000 in
set_option maxHeartbeats 4000000 in
theorem lookD_any (d : De) (pv ev bv : Value) (w : World) (hok : OkD d) (hd : DeI w d pv ev bv) :
    Calls Tryz.prog 112 #[deV d pv ev bv] w fun ee w' => ee = lk (errD rnS cnS d) ∧ Fr (fun _ => False) w w' := by
  have f0 : Fr (fun _ => False) w (w.alloc (.cells #[ci d.kind, .bool d.ex, ct d.name, ci d.type, pv, ev, bv] 59)) := Fr.alloc _ _ _
  have kd := decl_any d pv ev bv _ rfl _ (hd.keep f0)
  obtain ⟨ao1, cap1, ao2, cap2, ao3, cap3, rfl, rfl, rfl, hp, he, hb⟩ := hd
  have m1 : cap1 ≤ 9223372036854775807 := by have := hp.2.1; unfold maxLen at this; omega
  have m2 : cap2 ≤ 9223372036854775807 := by have := he.2.1; unfold maxLen at this; omega
  have m3 : cap3 ≤ 9223372036854775807 := by have := hb.2.1; unfold maxLen at this; omega
  have hbx : Hidden ((w.alloc (.cells #[ci d.kind, .bool d.ex, ct d.name, ci d.type, .slice ao1 d.params.length cap1, .slice ao2 d.e.len cap2, .slice ao3 d.body.len cap3] 59)).heap[w.heap.size]? = some (.cells #[ci d.kind, .bool d.ex, ct d.name, ci d.type, .slice ao1 d.params.length cap1, .slice ao2 d.e.len cap2, .slice ao3 d.body.len cap3] 59 (0, 0))) := alloc_new _ _
  have kf := fun (w' : World) (g : Fr (fun _ => False) w w') r hr => dfits_any d ao1 ao2 ao3 cap1 cap2 cap3 w' m1 m2 m3 hp.1 he.1 hb.1 r hr
  have kx := look_any d.e
  unfold LookL at kx
  have kb := lookB_any d.body
  unfold LookB at kb
  have hE : errD rnS cnS d = orE (if 32 < dD d then 13 else 0) (orE (if fitsD d then 0 else 1) (orE (rnS d.name) (orE (if 8 < d.params.length then 3 else 0) (orE (errP rnS d.params) (orE (errL rnS cnS d.e) (errS rnS cnS d.body)))))) := rfl
  obtain ⟨fb, hf0⟩ : ∃ fb, fitsD d = fb := ⟨_, rfl⟩
  rw [hf0] at hE
  generalize hD : dD d = DD at kd hE
  clear hD
  by_cases h13 : DD ≤ 32
  · by_cases hf : fb = true
    · by_cases hn : rnS d.name = 0
      · by_cases h8 : d.params.length ≤ 8
        · go_enter Tryz.func112, Tryz.ntmps112
          go_wp2_with fail
          go_at_call 123
          refine (kd).mono ?_
          rintro ee w1 ⟨rfl, f1⟩
          have h1 := f1.heap hbx (fun f => f)
          obtain ⟨c0, c1, c2, c3, c4, c5, c6⟩ := ex_box h1
          have g1 := f0.same f1
          go_wp2_with fail
          go_at_call 111
          refine (must_yes _ (by first | rfl | (simp; omega)) 13 _).mono ?_
          rintro ee wz ⟨rfl, rfl⟩
          go_wp2_with fail
          go_at_call 124
          refine (kf _ g1 _ hf0).mono ?_
          rintro ee w2 ⟨rfl, f2⟩
          have h2 := f2.heap h1 (fun f => f)
          obtain ⟨c0, c1, c2, c3, c4, c5, c6⟩ := ex_box h2
          have g2 := g1.same f2
          go_wp2_with fail
          go_at_call 111
          refine (must_yes _ (by first | rfl | exact hf) 1 _).mono ?_
          rintro ee wz ⟨rfl, rfl⟩
          go_wp2_with fail
          go_at_call 110
          refine (mustName_ok d.name hn hok.name _).mono ?_
          rintro ee wz ⟨rfl, rfl⟩
          go_wp2_with fail
          go_at_call 111
          refine (must_yes _ (by first | rfl | (simp; omega)) 3 _).mono ?_
          rintro ee wz ⟨rfl, rfl⟩
          have hE2 : Hidden (errD rnS cnS d = orE (errP rnS d.params) (orE (errL rnS cnS d.e) (errS rnS cnS d.body))) := by
            show errD rnS cnS d = _
            rw [hE, if_neg (by omega), if_neg (show ¬ 8 < d.params.length by omega)]
            simp [orE, *]
          clear hE h13 hf hf0 hn
          go_wp2_with fail
          go_loopg [22] d.params.length (fun g iv wr => ∃ (i : Nat), iv = ci (i : Int) ∧ i ≤ d.params.length ∧ errP rnS d.params = errP rnS (d.params.drop i) ∧ g = d.params.length - i ∧ Fr (fun _ => False) wz wr)
          case atStart => exact ⟨0, rfl, by omega, by simp, rfl, Fr.refl _ _⟩
          case round =>
            obtain ⟨i, rfl, hi, hdk, hgk, hfr⟩ := hrel
            have hgkH : Hidden (gk = d.params.length - i) := hgk
            have hdkH : Hidden (errP rnS d.params = errP rnS (d.params.drop i)) := hdk
            clear hgk hdk
            have g3 := g2.same hfr
            have h3 := hfr.heap h2 (fun f => f)
            by_cases hil : i < d.params.length
            · obtain ⟨p, hpi⟩ : ∃ p, d.params[i]? = some p := ⟨d.params[i], List.getElem?_eq_getElem hil⟩
              rcases hp.2.2 with h0 | ⟨b, off, rfl, hcp⟩
              · rw [h0] at hil; simp at hil
              have d0 := g3.cellN (hcp i p hpi 0 _ rfl)
              have d1 := g3.cellN (hcp i p hpi 1 _ rfl)
              simp only [Nat.add_zero] at d0
              have hpok := hok.params p (List.mem_of_getElem? hpi)
              have hdk2 : Hidden (errP rnS d.params = orE (orE (rnS p.name) (if isTy p.type then 0 else 1)) (errP rnS (d.params.drop (i + 1)))) := by
                show errP rnS d.params = _
                rw [show errP rnS d.params = _ from hdkH, drop_at hpi]
                rfl
              have kt := fun w => isType_any p.type _ rfl w
              have hpb : Hidden ((wr.alloc (.cells #[ct p.name, ci p.type] 162)).heap[wr.heap.size]? = some (.cells #[ct p.name, ci p.type] 162 (0, 0))) := alloc_new _ _
              obtain ⟨p0, p1⟩ := pa_box (show _ = _ from hpb)
              by_cases hpn : rnS p.name = 0
              · rw [hpn] at hdk2
                generalize isTy p.type = ty at kt hdk2
                cases ty
                · go_wp2_with fail
                  go_at_call 110
                  refine (mustName_ok p.name hpn hpok.1 _).mono ?_
                  rintro ee wz ⟨rfl, rfl⟩
                  go_wp2_with fail
                  go_at_call 125
                  refine (kt _).mono ?_
                  rintro ee wz ⟨rfl, rfl⟩
                  go_wp2_with fail
                  go_at_call 111
                  refine (must_not _ rfl 1 _).mono ?_
                  unfold gUp
                  rintro ee wz ⟨rfl, rfl⟩
                  go_wp2_with fail
                  refine ⟨rfl, (lk_is ⟨?_, by decide⟩).symm, g3.same (Fr.alloc _ _ _)⟩
                  rw [show errD rnS cnS d = _ from hE2, show errP rnS d.params = _ from hdk2]
                  rfl
                · go_wp2_with fail
                  go_at_call 110
                  refine (mustName_ok p.name hpn hpok.1 _).mono ?_
                  rintro ee wz ⟨rfl, rfl⟩
                  go_wp2_with fail
                  go_at_call 125
                  refine (kt _).mono ?_
                  rintro ee wz ⟨rfl, rfl⟩
                  go_wp2_with fail
                  go_at_call 111
                  refine (must_yes _ rfl 1 _).mono ?_
                  rintro ee wz ⟨rfl, rfl⟩
                  go_wp2_with fail
                  go_roundg (d.params.length - (i + 1))
                  case measure =>
                    have : gk = d.params.length - i := hgkH
                    omega
                  case rel => exact ⟨i + 1, by go_num, by omega, hdk2, rfl, hfr.same (Fr.alloc _ _ _)⟩
              · go_wp2_with fail
                go_at_call 110
                refine (mustName_no p.name _ rfl hpn hpok.1 _).mono ?_
                unfold gUp
                rintro ee wz ⟨rfl, rfl⟩
                go_wp2_with fail
                refine ⟨rfl, (lk_is ⟨?_, hpn⟩).symm, g3.same (Fr.alloc _ _ _)⟩
                rw [show errD rnS cnS d = _ from hE2, show errP rnS d.params = _ from hdk2, orE_ne _ hpn, orE_ne _ hpn, orE_ne _ hpn]
            · obtain rfl : i = d.params.length := by omega
              have hP : errP rnS d.params = 0 := by rw [show errP rnS d.params = _ from hdkH, List.drop_length]; rfl
              obtain ⟨c0, c1, c2, c3, c4, c5, c6⟩ := ex_box h3
              have hE3 : Hidden (errD rnS cnS d = orE (errL rnS cnS d.e) (errS rnS cnS d.body)) := by
                show errD rnS cnS d = _
                rw [show errD rnS cnS d = _ from hE2, hP]
                rfl
              clear hE2 hP hdkH hgkH
              by_cases hx : errL rnS cnS d.e = 0
              · by_cases hy : errS rnS cnS d.body = 0
                · go_wp2_with fail
                  go_at_call 126
                  refine (kx ao2 cap2 _ hok.e (he.keep g3)).mono ?_
                  rw [hx, lk_0]
                  rintro ee w4 ⟨rfl, f4⟩
                  obtain ⟨c0, c1, c2, c3, c4, c5, c6⟩ := ex_box (f4.heap h3 (fun f => f))
                  go_wp2_with fail
                  go_at_call 127
                  refine (kb ao3 cap3 _ hok.body (hb.keep (g3.same f4))).mono ?_
                  rw [hy, lk_0]
                  rintro ee w5 ⟨rfl, f5⟩
                  go_wp2_with fail
                  go_end0
                  refine ⟨?_, (g3.same f4).same f5⟩
                  rw [show errD rnS cnS d = _ from hE3, hx, hy]
                  rfl
                · go_wp2_with fail
                  go_at_call 126
                  refine (kx ao2 cap2 _ hok.e (he.keep g3)).mono ?_
                  rw [hx, lk_0]
                  rintro ee w4 ⟨rfl, f4⟩
                  obtain ⟨c0, c1, c2, c3, c4, c5, c6⟩ := ex_box (f4.heap h3 (fun f => f))
                  go_wp2_with fail
                  go_at_call 127
                  refine (kb ao3 cap3 _ hok.body (hb.keep (g3.same f4))).mono ?_
                  rw [lk_ne hy]
                  unfold gUp
                  rintro ee w5 ⟨rfl, f5⟩
                  go_wp2_with fail
                  refine ⟨rfl, (lk_is ⟨?_, hy⟩).symm, (g3.same f4).same f5⟩
                  rw [show errD rnS cnS d = _ from hE3, hx]
                  rfl
              · go_wp2_with fail
                go_at_call 126
                refine (kx ao2 cap2 _ hok.e (he.keep g3)).mono ?_
                rw [lk_ne hx]
                unfold gUp
                rintro ee w4 ⟨rfl, f4⟩
                go_wp2_with fail
                refine ⟨rfl, (lk_is ⟨?_, hx⟩).symm, g3.same f4⟩
                rw [show errD rnS cnS d = _ from hE3, orE_ne _ hx]
        · go_enter Tryz.func112, Tryz.ntmps112
          go_wp2_with fail
          go_at_call 123
          refine (kd).mono ?_
          rintro ee w1 ⟨rfl, f1⟩
          have h1 := f1.heap hbx (fun f => f)
          obtain ⟨c0, c1, c2, c3, c4, c5, c6⟩ := ex_box h1
          have g1 := f0.same f1
          go_wp2_with fail
          go_at_call 111
          refine (must_yes _ (by first | rfl | (simp; omega)) 13 _).mono ?_
          rintro ee wz ⟨rfl, rfl⟩
          go_wp2_with fail
          go_at_call 124
          refine (kf _ g1 _ hf0).mono ?_
          rintro ee w2 ⟨rfl, f2⟩
          have h2 := f2.heap h1 (fun f => f)
          obtain ⟨c0, c1, c2, c3, c4, c5, c6⟩ := ex_box h2
          have g2 := g1.same f2
          go_wp2_with fail
          go_at_call 111
          refine (must_yes _ (by first | rfl | exact hf) 1 _).mono ?_
          rintro ee wz ⟨rfl, rfl⟩
          go_wp2_with fail
          go_at_call 110
          refine (mustName_ok d.name hn hok.name _).mono ?_
          rintro ee wz ⟨rfl, rfl⟩
          go_wp2_with fail
          go_at_call 111
          refine (must_not _ (by first | rfl | (simp; omega)) 3 _).mono ?_
          unfold gUp
          rintro ee wz ⟨rfl, rfl⟩
          go_wp2_with fail
          exact ⟨rfl, (lk_is ⟨by rw [hE, if_neg (by omega), if_pos (show 8 < d.params.length by omega)]; simp [orE, *], by decide⟩).symm, g2⟩
      · go_enter Tryz.func112, Tryz.ntmps112
        go_wp2_with fail
        go_at_call 123
        refine (kd).mono ?_
        rintro ee w1 ⟨rfl, f1⟩
        have h1 := f1.heap hbx (fun f => f)
        obtain ⟨c0, c1, c2, c3, c4, c5, c6⟩ := ex_box h1
        have g1 := f0.same f1
        go_wp2_with fail
        go_at_call 111
        refine (must_yes _ (by first | rfl | (simp; omega)) 13 _).mono ?_
        rintro ee wz ⟨rfl, rfl⟩
        go_wp2_with fail
        go_at_call 124
        refine (kf _ g1 _ hf0).mono ?_
        rintro ee w2 ⟨rfl, f2⟩
        have h2 := f2.heap h1 (fun f => f)
        obtain ⟨c0, c1, c2, c3, c4, c5, c6⟩ := ex_box h2
        have g2 := g1.same f2
        go_wp2_with fail
        go_at_call 111
        refine (must_yes _ (by first | rfl | exact hf) 1 _).mono ?_
        rintro ee wz ⟨rfl, rfl⟩
        go_wp2_with fail
        go_at_call 110
        refine (mustName_no d.name _ rfl hn hok.name _).mono ?_
        unfold gUp
        rintro ee wz ⟨rfl, rfl⟩
        go_wp2_with fail
        exact ⟨rfl, (lk_is ⟨by rw [hE, if_neg (by omega)]; simp [orE, *], hn⟩).symm, g2⟩
    · go_enter Tryz.func112, Tryz.ntmps112
      go_wp2_with fail
      go_at_call 123
      refine (kd).mono ?_
      rintro ee w1 ⟨rfl, f1⟩
      have h1 := f1.heap hbx (fun f => f)
      obtain ⟨c0, c1, c2, c3, c4, c5, c6⟩ := ex_box h1
      have g1 := f0.same f1
      go_wp2_with fail
      go_at_call 111
      refine (must_yes _ (by first | rfl | (simp; omega)) 13 _).mono ?_
      rintro ee wz ⟨rfl, rfl⟩
      go_wp2_with fail
      go_at_call 124
      refine (kf _ g1 _ hf0).mono ?_
      rintro ee w2 ⟨rfl, f2⟩
      have h2 := f2.heap h1 (fun f => f)
      obtain ⟨c0, c1, c2, c3, c4, c5, c6⟩ := ex_box h2
      have g2 := g1.same f2
      go_wp2_with fail
      go_at_call 111
      replace hf : fb = false := by simpa using hf
      refine (must_not _ (by first | rfl | exact hf) 1 _).mono ?_
      unfold gUp
      rintro ee wz ⟨rfl, rfl⟩
      go_wp2_with fail
      exact ⟨rfl, (lk_is ⟨by rw [hE, if_neg (by omega)]; simp [orE, *], by decide⟩).symm, g2⟩
  · go_enter Tryz.func112, Tryz.ntmps112
    go_wp2_with fail
    go_at_call 123
    refine (kd).mono ?_
    rintro ee w1 ⟨rfl, f1⟩
    have h1 := f1.heap hbx (fun f => f)
    obtain ⟨c0, c1, c2, c3, c4, c5, c6⟩ := ex_box h1
    have g1 := f0.same f1
    go_wp2_with fail
    go_at_call 111
    refine (must_not _ (by first | rfl | (simp; omega)) 13 _).mono ?_
    unfold gUp
    rintro ee wz ⟨rfl, rfl⟩
    go_wp2_with fail
    exact ⟨rfl, (lk_is ⟨by rw [hE, if_pos (by omega)]; rfl, by decide⟩).symm, g1⟩
end Go.Proofs.YtakkiipkmogagaaGreat

namespace Go.Proofs.YtakkiipkmogagaaGreat
open Go.RowKit Te
set_option linter.unusedSimpArgs false
set_option linter.unusedVariables false

set_option maxRecDepth 20000 in
set_option maxHeartbeats 4000000 in
theorem lookM_any (m : Mo) (v : Value) (w : World) (hok : OkM m) (hv : MoI w m v) :
    Calls Tryz.prog 76 #[v] w fun ee w' => ee = lk (errM rnS cnS m) ∧ Fr (fun _ => False) w w' := by
  obtain ⟨ao, cap, ao2, cap2, rfl, hs, hd⟩ := hv
  have f0 : Fr (fun _ => False) w (w.alloc (.cells #[ct m.name, .slice ao m.imports.length cap, .slice ao2 m.decls.length cap2] 63)) := Fr.alloc _ _ _
  have m1 : cap ≤ 9223372036854775807 := by have := hs.2.1; unfold maxLen at this; omega
  have m2 : cap2 ≤ 9223372036854775807 := by have := hd.2.1; unfold maxLen at this; omega
  have l1 := hs.1
  have l2 := hd.1
  have hE : errM rnS cnS m = orE (rnS m.name) (orE (if 16 < m.imports.length then 3 else 0) (orE (errI rnS m.imports) (orE (if 64 < m.decls.length then 3 else 0) (errDs rnS cnS m.decls)))) := rfl
  by_cases hn : rnS m.name = 0
  · by_cases h16 : m.imports.length ≤ 16
    · go_enter Tryz.func76, Tryz.ntmps76
      go_wp2_with fail
      go_at_call 110
      refine (mustName_ok m.name hn hok.name _).mono ?_
      rintro ee wz ⟨rfl, rfl⟩
      go_wp2_with fail
      go_at_call 111
      refine (must_yes _ (by first | rfl | (simp; omega)) 3 _).mono ?_
      rintro ee wz ⟨rfl, rfl⟩
      have hE2 : Hidden (errM rnS cnS m = orE (errI rnS m.imports) (orE (if 64 < m.decls.length then 3 else 0) (errDs rnS cnS m.decls))) := by
        show errM rnS cnS m = _
        rw [hE, hn, if_neg (show ¬ 16 < m.imports.length by omega)]
        rfl
      clear hE hn
      go_wp2_with fail
      go_loopg [17] m.imports.length (fun g iv wr => ∃ (i : Nat), iv = ci (i : Int) ∧ i ≤ m.imports.length ∧ errI rnS m.imports = errI rnS (m.imports.drop i) ∧ g = m.imports.length - i ∧ wr = w.alloc (.cells #[ct m.name, .slice ao m.imports.length cap, .slice ao2 m.decls.length cap2] 63))
      case atStart => exact ⟨0, rfl, by omega, by simp, rfl, rfl⟩
      case round =>
        obtain ⟨i, rfl, hi, hdk, hgk, hwr⟩ := hrel
        have hgkH : Hidden (gk = m.imports.length - i) := hgk
        have hdkH : Hidden (errI rnS m.imports = errI rnS (m.imports.drop i)) := hdk
        clear hgk hdk
        subst hwr
        by_cases hil : i < m.imports.length
        · obtain ⟨p, hpi⟩ : ∃ p, m.imports[i]? = some p := ⟨m.imports[i], List.getElem?_eq_getElem hil⟩
          rcases hs.2.2 with h0 | ⟨b, off, rfl, hcp⟩
          · rw [h0] at hil; simp at hil
          have d0 := f0.cellN (hcp i p hpi)
          have hpok := hok.imports p (List.mem_of_getElem? hpi)
          have hdk2 : Hidden (errI rnS m.imports = orE (rnS p) (errI rnS (m.imports.drop (i + 1)))) := by
            show errI rnS m.imports = _
            rw [show errI rnS m.imports = _ from hdkH, drop_at hpi]
            rfl
          by_cases hpn : rnS p = 0
          · rw [hpn] at hdk2
            go_wp2_with fail
            go_at_call 110
            refine (mustName_ok p hpn hpok _).mono ?_
            rintro ee wz ⟨rfl, rfl⟩
            go_wp2_with fail
            go_roundg (m.imports.length - (i + 1))
            case measure =>
              have : gk = m.imports.length - i := hgkH
              omega
            case rel => exact ⟨i + 1, by go_num, by omega, hdk2, rfl, rfl⟩
          · go_wp2_with fail
            go_at_call 110
            refine (mustName_no p _ rfl hpn hpok _).mono ?_
            unfold gUp
            rintro ee wz ⟨rfl, rfl⟩
            go_wp2_with fail
            refine ⟨rfl, (lk_is ⟨?_, hpn⟩).symm, f0⟩
            rw [show errM rnS cnS m = _ from hE2, show errI rnS m.imports = _ from hdk2, orE_ne _ hpn, orE_ne _ hpn]
        · obtain rfl : i = m.imports.length := by omega
          have hP : errI rnS m.imports = 0 := by rw [show errI rnS m.imports = _ from hdkH, List.drop_length]; rfl
          have hE3 : Hidden (errM rnS cnS m = orE (if 64 < m.decls.length then 3 else 0) (errDs rnS cnS m.decls)) := by
            show errM rnS cnS m = _
            rw [show errM rnS cnS m = _ from hE2, hP]
            rfl
          clear hE2 hP hdkH hgkH
          by_cases h64 : m.decls.length ≤ 64
          · have hE4 : Hidden (errM rnS cnS m = errDs rnS cnS m.decls) := by
              show errM rnS cnS m = _
              rw [show errM rnS cnS m = _ from hE3, if_neg (by omega)]
              rfl
            clear hE3
            go_wp2_with fail
            go_at_call 111
            refine (must_yes _ (by first | rfl | (simp; omega)) 3 _).mono ?_
            rintro ee wz ⟨rfl, rfl⟩
            go_wp2_with fail
            go_loopg [32] m.decls.length (fun g iv wr => ∃ (i : Nat), iv = ci (i : Int) ∧ i ≤ m.decls.length ∧ errDs rnS cnS m.decls = errDs rnS cnS (m.decls.drop i) ∧ g = m.decls.length - i ∧ Fr (fun _ => False) w wr)
            case atStart => exact ⟨0, rfl, by omega, by simp, rfl, f0⟩
            case round =>
              obtain ⟨i, rfl, hi, hdk, hgk, hfr⟩ := hrel
              have hgkH : Hidden (gk = m.decls.length - i) := hgk
              have hdkH : Hidden (errDs rnS cnS m.decls = errDs rnS cnS (m.decls.drop i)) := hdk
              clear hgk hdk
              by_cases hil : i < m.decls.length
              · obtain ⟨p, hpi⟩ : ∃ p, m.decls[i]? = some p := ⟨m.decls[i], List.getElem?_eq_getElem hil⟩
                rcases hd.2.2 with h0 | ⟨b, off, rfl, hcp⟩
                · rw [h0] at hil; simp at hil
                obtain ⟨pv, ev, bv, hI, hcc⟩ := hcp i p hpi
                have d0 := hfr.cellN (hcc 0 _ rfl)
                have d1 := hfr.cellN (hcc 1 _ rfl)
                have d2 := hfr.cellN (hcc 2 _ rfl)
                have d3 := hfr.cellN (hcc 3 _ rfl)
                have d4 := hfr.cellN (hcc 4 _ rfl)
                have d5 := hfr.cellN (hcc 5 _ rfl)
                have d6 := hfr.cellN (hcc 6 _ rfl)
                simp only [Nat.add_zero] at d0
                have hpok := hok.decls p (List.mem_of_getElem? hpi)
                have hdk2 : Hidden (errDs rnS cnS m.decls = orE (errD rnS cnS p) (errDs rnS cnS (m.decls.drop (i + 1)))) := by
                  show errDs rnS cnS m.decls = _
                  rw [show errDs rnS cnS m.decls = _ from hdkH, drop_at hpi]
                  rfl
                have f2 := hfr.same (Fr.alloc (fun _ => False) wr (.cells #[ci p.kind, .bool p.ex, ct p.name, ci p.type, pv, ev, bv] 59))
                have kc := lookD_any p pv ev bv _ hpok (hI.keep f2)
                obtain ⟨_, _, _, _, _, _, rfl, rfl, rfl, _⟩ := hI
                by_cases hpn : errD rnS cnS p = 0
                · rw [hpn] at hdk2
                  rw [hpn, lk_0] at kc
                  go_wp2_with fail
                  go_at_call 112
                  refine kc.mono ?_
                  rintro ee wz ⟨rfl, f3⟩
                  go_wp2_with fail
                  go_roundg (m.decls.length - (i + 1))
                  case measure =>
                    have : gk = m.decls.length - i := hgkH
                    omega
                  case rel => exact ⟨i + 1, by go_num, by omega, hdk2, rfl, f2.same f3⟩
                · rw [lk_ne hpn] at kc
                  unfold gUp at kc
                  go_wp2_with fail
                  go_at_call 112
                  refine kc.mono ?_
                  rintro ee wz ⟨rfl, f3⟩
                  go_wp2_with fail
                  refine ⟨rfl, (lk_is ⟨?_, hpn⟩).symm, f2.same f3⟩
                  rw [show errM rnS cnS m = _ from hE4, show errDs rnS cnS m.decls = _ from hdk2, orE_ne _ hpn]
              · obtain rfl : i = m.decls.length := by omega
                go_wp2_with fail
                go_end0
                refine ⟨?_, hfr⟩
                rw [show errM rnS cnS m = _ from hE4, show errDs rnS cnS m.decls = _ from hdkH, List.drop_length]
                rfl
          · go_wp2_with fail
            go_at_call 111
            refine (must_not _ (by first | rfl | (simp; omega)) 3 _).mono ?_
            unfold gUp
            rintro ee wz ⟨rfl, rfl⟩
            go_wp2_with fail
            refine ⟨rfl, (lk_is ⟨?_, by decide⟩).symm, f0⟩
            rw [show errM rnS cnS m = _ from hE3, if_pos (by omega)]
            rfl
    · go_enter Tryz.func76, Tryz.ntmps76
      go_wp2_with fail
      go_at_call 110
      refine (mustName_ok m.name hn hok.name _).mono ?_
      rintro ee wz ⟨rfl, rfl⟩
      go_wp2_with fail
      go_at_call 111
      refine (must_not _ (by first | rfl | (simp; omega)) 3 _).mono ?_
      unfold gUp
      rintro ee wz ⟨rfl, rfl⟩
      go_wp2_with fail
      exact ⟨rfl, (lk_is ⟨by rw [hE, hn, if_pos (show 16 < m.imports.length by omega)]; rfl, by decide⟩).symm, f0⟩
  · go_enter Tryz.func76, Tryz.ntmps76
    go_wp2_with fail
    go_at_call 110
    refine (mustName_no m.name _ rfl hn hok.name _).mono ?_
    unfold gUp
    rintro ee wz ⟨rfl, rfl⟩
    go_wp2_with fail
    exact ⟨rfl, (lk_is ⟨by rw [hE, orE_ne _ hn], hn⟩).symm, f0⟩
abbrev moO (m : Mo) (v1 v2 : Value) : Obj := .cells #[ct m.name, v1, v2] 63 (0, 0)
theorem mo_box {w : World} {b : Nat} {x0 x1 x2 : Value} {t : TypeId} (hb : w.heap[b]? = some (.cells #[x0, x1, x2] t (0, 0))) : w.cell? ⟨b, 0, none⟩ = some x0 ∧ w.cell? ⟨b, 1, none⟩ = some x1 ∧ w.cell? ⟨b, 2, none⟩ = some x2 :=
  ⟨cell_of_row _ _ 0 _ _ _ hb, cell_of_row _ _ 1 _ _ _ hb, cell_of_row _ _ 2 _ _ _ hb⟩
set_option maxRecDepth 20000 in
theorem rm1_any (m : Mo) (ao : Option Addr) (cap : Nat) (ao2 : Option Addr) (cap2 : Nat) (q : Nat) (w : World) (hok : OkM m) (hv : MoI w m (moV m ao cap ao2 cap2)) (hq : w.heap[q]? = some (moO m (.slice ao m.imports.length cap) (.slice ao2 m.decls.length cap2))) :
    Calls Tryz.prog 75 #[.pointer (some ⟨q, 0, none⟩)] w fun e w' => e = lk (errM rnS cnS m) ∧ Fr (fun _ => False) w w' := by
  obtain ⟨c0, c1, c2⟩ := mo_box hq
  have kx := lookM_any m _ w hok hv
  clear hv hq
  generalize errM rnS cnS m = E at kx
  by_cases h0 : E = 0
  · subst h0
    rw [lk_0] at kx
    go_enter Tryz.func75, Tryz.ntmps75
    go_wp2_with fail
    go_at_call 76
    refine kx.mono ?_
    rintro e w3 ⟨rfl, f3⟩
    go_wp2_with fail
    go_end0
    exact ⟨rfl, f3⟩
  · rw [lk_ne h0] at kx
    unfold gUp at kx
    go_enter Tryz.func75, Tryz.ntmps75
    go_wp2_with fail
    go_at_call 76
    refine kx.mono ?_
    rintro e w3 ⟨rfl, f3⟩
    go_wp2_with fail
    exact ⟨rfl, (lk_is ⟨rfl, h0⟩).symm, f3⟩
set_option maxRecDepth 20000 in
theorem right_any (m : Mo) (v : Value) (w : World) (hok : OkM m) (hv : MoI w m v) :
    Calls Tryz.prog 47 #[v] w fun e w' => e = .returned (ci (errM rnS cnS m)) ∧ Fr (fun _ => False) w w' := by
  have hv0 := hv
  obtain ⟨ao, cap, ao2, cap2, rfl, hs, hd⟩ := hv
  have hmf : ∀ (fn : Fn) (first cap : Array Value) (w : World), (Instr.makeFunc fn first cap).run Tryz.prog w = .ok (.func fn first cap) w := fun _ _ _ _ => rfl
  have f0 := Fr.alloc (fun _ => False) w (moO m (.slice ao m.imports.length cap) (.slice ao2 m.decls.length cap2))
  have hq : Hidden ((w.alloc (moO m (.slice ao m.imports.length cap) (.slice ao2 m.decls.length cap2))).heap[w.heap.size]? = some (moO m (.slice ao m.imports.length cap) (.slice ao2 m.decls.length cap2))) := alloc_new _ _
  have kf := fault_m ⟨w.heap.size, 0, none⟩ (errM rnS cnS m) (w.alloc (moO m (.slice ao m.imports.length cap) (.slice ao2 m.decls.length cap2))) (fun w0 f => rm1_any m ao cap ao2 cap2 w.heap.size w0 hok (hv0.keep (f0.same f)) (f.heap hq (fun f => f)))
  go_enter Tryz.func47, Tryz.ntmps47
  go_wp2_with fail
  go_at_call 74
  refine kf.mono ?_
  rintro e w1 ⟨rfl, f1⟩
  go_wp2_with fail
  go_ret
  exact ⟨rfl, f0.same f1⟩
end Go.Proofs.YtakkiipkmogagaaGreat
