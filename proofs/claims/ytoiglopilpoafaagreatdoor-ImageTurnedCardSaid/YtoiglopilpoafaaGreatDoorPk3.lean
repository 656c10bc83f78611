/- Texts of ours, in one. -/
import Derived.Test.YtoiglopilpoafaaGreatDoorPk2
import Derived.Test.YtoiglopilpoafaaGreatDoorPk1
import Derived.Deep.AppendSrc
import Derived.Deep.Upon
import Derived.Deep.MidRow
import Derived.OwnWalk
namespace Go.Proofs.YtoiglopilpoafaaGreatDoor.Wi
open Go.RowKit
set_option linter.unusedSimpArgs false
set_option linter.unusedVariables false
set_option maxRecDepth 20000

set_option maxHeartbeats 400000 in
theorem catch_byte (b q : Nat) (rest : List UInt8) (c : Int) (w : World) (hb : w.cell? ⟨b, 0, none⟩ = some (rp q)) (hr : Rd w q rest 0) (hc : (c == 0) = false) :
    CallsD Tryz.prog 75 #[.pointer (some ⟨b, 0, none⟩)] (giving c false) w fun e u' w' =>
      e = .returned (.tuple #[]) ∧ u' = giving c true ∧ Rd w' q [] c ∧ Fr (fun k => k = q) w w' := by
  have kf := fun o : Obj => fail_first q rest c (w.alloc o) (hr.keep (Fr.alloc (fun _ => False) w o) (fun f => f) (fun _ _ _ _ f => f)) hc
  have hba : ∀ o : Obj, (w.alloc o).cell? ⟨b, 0, none⟩ = some (rp q) := fun o => (Fr.alloc (fun _ => False) w o).cell hb (fun f => f)
  have hta := assert_gave
  clear hr
  refine callsD_of_wpS Tryz.func75 rfl fun c₀ cs hu => ?_
  have e0 : (#[Value.pointer (some ⟨b, 0, none⟩)] ++ Array.replicate (Tryz.f75.ntmps - (#[Value.pointer (some ⟨b, 0, none⟩)] : Array Value).size) undef) = #[Value.pointer (some ⟨b, 0, none⟩), undef, undef, undef, undef, undef, undef, undef, undef, undef, undef, undef, undef, undef] := rfl
  rw [e0]
  clear e0
  apply wpS_seq
  apply wpS_region
  simp [wpOpsS, go_sem, recoverD, hu, Tryz.ntmps75, Exit.thenS, giving]
  refine wpS_of_wp ?_
  go_wp2_with (go_at_call 76; refine (kf _).mono ?_; rintro e w' ⟨rfl, h1, h2⟩)
  refine ⟨rfl, _, rfl, _, results_none rfl _ _ _, rfl, rfl, h1, (Fr.alloc _ w _).same h2⟩

set_option maxHeartbeats 400000 in
theorem idle_byte (b : Nat) (w : World) :
    CallsD Tryz.prog 75 #[.pointer (some ⟨b, 0, none⟩)] .returning w fun e u' w' => e = .returned (.tuple #[]) ∧ u' = .returning ∧ w' = w := by
  refine callsD_of_wpS Tryz.func75 rfl fun c₀ cs hu => ?_
  have e0 : (#[Value.pointer (some ⟨b, 0, none⟩)] ++ Array.replicate (Tryz.f75.ntmps - (#[Value.pointer (some ⟨b, 0, none⟩)] : Array Value).size) undef) = #[Value.pointer (some ⟨b, 0, none⟩), undef, undef, undef, undef, undef, undef, undef, undef, undef, undef, undef, undef, undef] := rfl
  rw [e0]
  clear e0
  apply wpS_seq
  apply wpS_region
  simp [wpOpsS, go_sem, recoverD, hu, Tryz.ntmps75, Exit.thenS]
  refine wpS_of_wp ?_
  go_wp2
  refine ⟨rfl, .returning, ?_, _, results_none rfl _ _ _, rfl, rfl, rfl⟩
  rw [← hu]

set_option maxHeartbeats 400000 in
theorem face_byte_ok (q : Nat) (rest rest' : List UInt8) (A : Value → World → Prop) (w : World) (hr : Rd w q rest 0)
    (kt : Calls Tryz.prog 57 #[rp q] (w.alloc (.cells #[rp q] 95)) fun e w' => (∃ v, e = .returned v ∧ A v w') ∧ Rd w' q rest' 0 ∧ Fr (fun k => k = q) (w.alloc (.cells #[rp q] 95)) w') :
    Calls Tryz.prog 56 #[rp q, .func (.func 57) #[rp q] #[]] w fun e w' => (∃ v, e = .returned v ∧ A v w') ∧ Rd w' q rest' 0 ∧ Fr (fun k => k = q) w w' := by
  have hmf : ∀ (fn : Fn) (first cap : Array Value) (w : World), (Instr.makeFunc fn first cap).run Tryz.prog w = .ok (.func fn first cap) w := fun _ _ _ _ => rfl
  have ke := fun o : Obj => err_some q rest 0 (w.alloc o) (hr.keep (Fr.alloc (fun _ => False) w o) (fun f => f) (fun _ _ _ _ f => f))
  clear hr
  go_enter_defers Tryz.func56, Tryz.ntmps56
  go_wp2_with (first
    | (go_at_call 58; refine (ke _).mono ?_; rintro e w' ⟨rfl, rfl⟩)
    | (go_at_call 57; refine kt.mono ?_; rintro e w1 ⟨⟨v, rfl, hv⟩, h1, h2⟩))
  refine leaves_cons (f := 75) (args := #[.pointer (some ⟨w.heap.size, 0, none⟩)]) (by simp) (by simp [go_sem]) ?_
  refine (idle_byte w.heap.size _).mono ?_
  rintro e u' w'' ⟨rfl, rfl, rfl⟩
  exact ⟨_, results_tmp rfl _ _ _, ⟨v, rfl, hv⟩, h1, (Fr.alloc _ w _).same h2⟩

set_option maxHeartbeats 400000 in
theorem face_byte_err (q : Nat) (rest : List UInt8) (c : Int) (w : World) (hr : Rd w q rest 0) (hc : (c == 0) = false)
    (kt : Calls Tryz.prog 57 #[rp q] (w.alloc (.cells #[rp q] 95)) fun e w' => e = giveUp c ∧ (∃ rest', Rd w' q rest' 0) ∧ Fr (fun k => k = q) (w.alloc (.cells #[rp q] 95)) w') :
    Calls Tryz.prog 56 #[rp q, .func (.func 57) #[rp q] #[]] w fun e w' => e = .returned (.int .u8 0) ∧ Rd w' q [] c ∧ Fr (fun k => k = q) w w' := by
  have hmf : ∀ (fn : Fn) (first cap : Array Value) (w : World), (Instr.makeFunc fn first cap).run Tryz.prog w = .ok (.func fn first cap) w := fun _ _ _ _ => rfl
  have ke := fun o : Obj => err_some q rest 0 (w.alloc o) (hr.keep (Fr.alloc (fun _ => False) w o) (fun f => f) (fun _ _ _ _ f => f))
  have hq : q < w.heap.size := by obtain ⟨v, h, _⟩ := hr; exact lt_of_heap h
  clear hr
  unfold giveUp at kt
  go_enter_defers Tryz.func56, Tryz.ntmps56
  go_wp2_with (first
    | (go_at_call 58; refine (ke _).mono ?_; rintro e w' ⟨rfl, rfl⟩)
    | (go_at_call 57; refine kt.mono ?_; rintro e w1 ⟨rfl, ⟨rest', h1⟩, h2⟩))
  refine leaves_cons (f := 75) (args := #[.pointer (some ⟨w.heap.size, 0, none⟩)]) (by simp) (by simp [go_sem]) ?_
  have hb : w1.cell? ⟨w.heap.size, 0, none⟩ = some (rp q) := h2.cell (by simp) (by show ¬ w.heap.size = q; omega)
  refine (catch_byte w.heap.size q rest' c w1 hb h1 hc).mono ?_
  rintro e u' w'' ⟨rfl, rfl, h3, h4⟩
  simp [Leaves, settle, results, Tryz.results56, go_sem, giving]
  exact ⟨h3, (Fr.alloc _ w _).same (h2.same h4)⟩

set_option maxHeartbeats 400000 in
theorem catch_int (b q : Nat) (rest : List UInt8) (c : Int) (w : World) (hb : w.cell? ⟨b, 0, none⟩ = some (rp q)) (hr : Rd w q rest 0) (hc : (c == 0) = false) :
    CallsD Tryz.prog 78 #[.pointer (some ⟨b, 0, none⟩)] (giving c false) w fun e u' w' =>
      e = .returned (.tuple #[]) ∧ u' = giving c true ∧ Rd w' q [] c ∧ Fr (fun k => k = q) w w' := by
  have kf := fun o : Obj => fail_first q rest c (w.alloc o) (hr.keep (Fr.alloc (fun _ => False) w o) (fun f => f) (fun _ _ _ _ f => f)) hc
  have hba : ∀ o : Obj, (w.alloc o).cell? ⟨b, 0, none⟩ = some (rp q) := fun o => (Fr.alloc (fun _ => False) w o).cell hb (fun f => f)
  have hta := assert_gave
  clear hr
  refine callsD_of_wpS Tryz.func78 rfl fun c₀ cs hu => ?_
  have e0 : (#[Value.pointer (some ⟨b, 0, none⟩)] ++ Array.replicate (Tryz.f78.ntmps - (#[Value.pointer (some ⟨b, 0, none⟩)] : Array Value).size) undef) = #[Value.pointer (some ⟨b, 0, none⟩), undef, undef, undef, undef, undef, undef, undef, undef, undef, undef, undef, undef, undef] := rfl
  rw [e0]
  clear e0
  apply wpS_seq
  apply wpS_region
  simp [wpOpsS, go_sem, recoverD, hu, Tryz.ntmps78, Exit.thenS, giving]
  refine wpS_of_wp ?_
  go_wp2_with (go_at_call 76; refine (kf _).mono ?_; rintro e w' ⟨rfl, h1, h2⟩)
  refine ⟨rfl, _, rfl, _, results_none rfl _ _ _, rfl, rfl, h1, (Fr.alloc _ w _).same h2⟩

set_option maxHeartbeats 400000 in
theorem idle_int (b : Nat) (w : World) :
    CallsD Tryz.prog 78 #[.pointer (some ⟨b, 0, none⟩)] .returning w fun e u' w' => e = .returned (.tuple #[]) ∧ u' = .returning ∧ w' = w := by
  refine callsD_of_wpS Tryz.func78 rfl fun c₀ cs hu => ?_
  have e0 : (#[Value.pointer (some ⟨b, 0, none⟩)] ++ Array.replicate (Tryz.f78.ntmps - (#[Value.pointer (some ⟨b, 0, none⟩)] : Array Value).size) undef) = #[Value.pointer (some ⟨b, 0, none⟩), undef, undef, undef, undef, undef, undef, undef, undef, undef, undef, undef, undef, undef] := rfl
  rw [e0]
  clear e0
  apply wpS_seq
  apply wpS_region
  simp [wpOpsS, go_sem, recoverD, hu, Tryz.ntmps78, Exit.thenS]
  refine wpS_of_wp ?_
  go_wp2
  refine ⟨rfl, .returning, ?_, _, results_none rfl _ _ _, rfl, rfl, rfl⟩
  rw [← hu]

set_option maxHeartbeats 400000 in
theorem face_int_ok (q : Nat) (rest rest' : List UInt8) (A : Value → World → Prop) (w : World) (hr : Rd w q rest 0)
    (kt : Calls Tryz.prog 60 #[rp q] (w.alloc (.cells #[rp q] 95)) fun e w' => (∃ v, e = .returned v ∧ A v w') ∧ Rd w' q rest' 0 ∧ Fr (fun k => k = q) (w.alloc (.cells #[rp q] 95)) w') :
    Calls Tryz.prog 59 #[rp q, .func (.func 60) #[rp q] #[]] w fun e w' => (∃ v, e = .returned v ∧ A v w') ∧ Rd w' q rest' 0 ∧ Fr (fun k => k = q) w w' := by
  have hmf : ∀ (fn : Fn) (first cap : Array Value) (w : World), (Instr.makeFunc fn first cap).run Tryz.prog w = .ok (.func fn first cap) w := fun _ _ _ _ => rfl
  have ke := fun o : Obj => err_some q rest 0 (w.alloc o) (hr.keep (Fr.alloc (fun _ => False) w o) (fun f => f) (fun _ _ _ _ f => f))
  clear hr
  go_enter_defers Tryz.func59, Tryz.ntmps59
  go_wp2_with (first
    | (go_at_call 58; refine (ke _).mono ?_; rintro e w' ⟨rfl, rfl⟩)
    | (go_at_call 60; refine kt.mono ?_; rintro e w1 ⟨⟨v, rfl, hv⟩, h1, h2⟩))
  refine leaves_cons (f := 78) (args := #[.pointer (some ⟨w.heap.size, 0, none⟩)]) (by simp) (by simp [go_sem]) ?_
  refine (idle_int w.heap.size _).mono ?_
  rintro e u' w'' ⟨rfl, rfl, rfl⟩
  exact ⟨_, results_tmp rfl _ _ _, ⟨v, rfl, hv⟩, h1, (Fr.alloc _ w _).same h2⟩

set_option maxHeartbeats 400000 in
theorem face_int_err (q : Nat) (rest : List UInt8) (c : Int) (w : World) (hr : Rd w q rest 0) (hc : (c == 0) = false)
    (kt : Calls Tryz.prog 60 #[rp q] (w.alloc (.cells #[rp q] 95)) fun e w' => e = giveUp c ∧ (∃ rest', Rd w' q rest' 0) ∧ Fr (fun k => k = q) (w.alloc (.cells #[rp q] 95)) w') :
    Calls Tryz.prog 59 #[rp q, .func (.func 60) #[rp q] #[]] w fun e w' => e = .returned (.int .i64 0) ∧ Rd w' q [] c ∧ Fr (fun k => k = q) w w' := by
  have hmf : ∀ (fn : Fn) (first cap : Array Value) (w : World), (Instr.makeFunc fn first cap).run Tryz.prog w = .ok (.func fn first cap) w := fun _ _ _ _ => rfl
  have ke := fun o : Obj => err_some q rest 0 (w.alloc o) (hr.keep (Fr.alloc (fun _ => False) w o) (fun f => f) (fun _ _ _ _ f => f))
  have hq : q < w.heap.size := by obtain ⟨v, h, _⟩ := hr; exact lt_of_heap h
  clear hr
  unfold giveUp at kt
  go_enter_defers Tryz.func59, Tryz.ntmps59
  go_wp2_with (first
    | (go_at_call 58; refine (ke _).mono ?_; rintro e w' ⟨rfl, rfl⟩)
    | (go_at_call 60; refine kt.mono ?_; rintro e w1 ⟨rfl, ⟨rest', h1⟩, h2⟩))
  refine leaves_cons (f := 78) (args := #[.pointer (some ⟨w.heap.size, 0, none⟩)]) (by simp) (by simp [go_sem]) ?_
  have hb : w1.cell? ⟨w.heap.size, 0, none⟩ = some (rp q) := h2.cell (by simp) (by show ¬ w.heap.size = q; omega)
  refine (catch_int w.heap.size q rest' c w1 hb h1 hc).mono ?_
  rintro e u' w'' ⟨rfl, rfl, h3, h4⟩
  simp [Leaves, settle, results, Tryz.results59, go_sem, giving]
  exact ⟨h3, (Fr.alloc _ w _).same (h2.same h4)⟩

set_option maxHeartbeats 400000 in
theorem catch_long (b q : Nat) (rest : List UInt8) (c : Int) (w : World) (hb : w.cell? ⟨b, 0, none⟩ = some (rp q)) (hr : Rd w q rest 0) (hc : (c == 0) = false) :
    CallsD Tryz.prog 100 #[.pointer (some ⟨b, 0, none⟩)] (giving c false) w fun e u' w' =>
      e = .returned (.tuple #[]) ∧ u' = giving c true ∧ Rd w' q [] c ∧ Fr (fun k => k = q) w w' := by
  have kf := fun o : Obj => fail_first q rest c (w.alloc o) (hr.keep (Fr.alloc (fun _ => False) w o) (fun f => f) (fun _ _ _ _ f => f)) hc
  have hba : ∀ o : Obj, (w.alloc o).cell? ⟨b, 0, none⟩ = some (rp q) := fun o => (Fr.alloc (fun _ => False) w o).cell hb (fun f => f)
  have hta := assert_gave
  clear hr
  refine callsD_of_wpS Tryz.func100 rfl fun c₀ cs hu => ?_
  have e0 : (#[Value.pointer (some ⟨b, 0, none⟩)] ++ Array.replicate (Tryz.f100.ntmps - (#[Value.pointer (some ⟨b, 0, none⟩)] : Array Value).size) undef) = #[Value.pointer (some ⟨b, 0, none⟩), undef, undef, undef, undef, undef, undef, undef, undef, undef, undef, undef, undef, undef] := rfl
  rw [e0]
  clear e0
  apply wpS_seq
  apply wpS_region
  simp [wpOpsS, go_sem, recoverD, hu, Tryz.ntmps100, Exit.thenS, giving]
  refine wpS_of_wp ?_
  go_wp2_with (go_at_call 76; refine (kf _).mono ?_; rintro e w' ⟨rfl, h1, h2⟩)
  refine ⟨rfl, _, rfl, _, results_none rfl _ _ _, rfl, rfl, h1, (Fr.alloc _ w _).same h2⟩

set_option maxHeartbeats 400000 in
theorem idle_long (b : Nat) (w : World) :
    CallsD Tryz.prog 100 #[.pointer (some ⟨b, 0, none⟩)] .returning w fun e u' w' => e = .returned (.tuple #[]) ∧ u' = .returning ∧ w' = w := by
  refine callsD_of_wpS Tryz.func100 rfl fun c₀ cs hu => ?_
  have e0 : (#[Value.pointer (some ⟨b, 0, none⟩)] ++ Array.replicate (Tryz.f100.ntmps - (#[Value.pointer (some ⟨b, 0, none⟩)] : Array Value).size) undef) = #[Value.pointer (some ⟨b, 0, none⟩), undef, undef, undef, undef, undef, undef, undef, undef, undef, undef, undef, undef, undef] := rfl
  rw [e0]
  clear e0
  apply wpS_seq
  apply wpS_region
  simp [wpOpsS, go_sem, recoverD, hu, Tryz.ntmps100, Exit.thenS]
  refine wpS_of_wp ?_
  go_wp2
  refine ⟨rfl, .returning, ?_, _, results_none rfl _ _ _, rfl, rfl, rfl⟩
  rw [← hu]

set_option maxHeartbeats 400000 in
theorem face_long_ok (q : Nat) (rest rest' : List UInt8) (A : Value → World → Prop) (w : World) (hr : Rd w q rest 0)
    (kt : Calls Tryz.prog 80 #[rp q] (w.alloc (.cells #[rp q] 95)) fun e w' => (∃ v, e = .returned v ∧ A v w') ∧ Rd w' q rest' 0 ∧ Fr (fun k => k = q) (w.alloc (.cells #[rp q] 95)) w') :
    Calls Tryz.prog 79 #[rp q, .func (.func 80) #[rp q] #[]] w fun e w' => (∃ v, e = .returned v ∧ A v w') ∧ Rd w' q rest' 0 ∧ Fr (fun k => k = q) w w' := by
  have hmf : ∀ (fn : Fn) (first cap : Array Value) (w : World), (Instr.makeFunc fn first cap).run Tryz.prog w = .ok (.func fn first cap) w := fun _ _ _ _ => rfl
  have ke := fun o : Obj => err_some q rest 0 (w.alloc o) (hr.keep (Fr.alloc (fun _ => False) w o) (fun f => f) (fun _ _ _ _ f => f))
  clear hr
  go_enter_defers Tryz.func79, Tryz.ntmps79
  go_wp2_with (first
    | (go_at_call 58; refine (ke _).mono ?_; rintro e w' ⟨rfl, rfl⟩)
    | (go_at_call 80; refine kt.mono ?_; rintro e w1 ⟨⟨v, rfl, hv⟩, h1, h2⟩))
  refine leaves_cons (f := 100) (args := #[.pointer (some ⟨w.heap.size, 0, none⟩)]) (by simp) (by simp [go_sem]) ?_
  refine (idle_long w.heap.size _).mono ?_
  rintro e u' w'' ⟨rfl, rfl, rfl⟩
  exact ⟨_, results_tmp rfl _ _ _, ⟨v, rfl, hv⟩, h1, (Fr.alloc _ w _).same h2⟩

set_option maxHeartbeats 400000 in
theorem face_long_err (q : Nat) (rest : List UInt8) (c : Int) (w : World) (hr : Rd w q rest 0) (hc : (c == 0) = false)
    (kt : Calls Tryz.prog 80 #[rp q] (w.alloc (.cells #[rp q] 95)) fun e w' => e = giveUp c ∧ (∃ rest', Rd w' q rest' 0) ∧ Fr (fun k => k = q) (w.alloc (.cells #[rp q] 95)) w') :
    Calls Tryz.prog 79 #[rp q, .func (.func 80) #[rp q] #[]] w fun e w' => e = .returned (.int .u64 0) ∧ Rd w' q [] c ∧ Fr (fun k => k = q) w w' := by
  have hmf : ∀ (fn : Fn) (first cap : Array Value) (w : World), (Instr.makeFunc fn first cap).run Tryz.prog w = .ok (.func fn first cap) w := fun _ _ _ _ => rfl
  have ke := fun o : Obj => err_some q rest 0 (w.alloc o) (hr.keep (Fr.alloc (fun _ => False) w o) (fun f => f) (fun _ _ _ _ f => f))
  have hq : q < w.heap.size := by obtain ⟨v, h, _⟩ := hr; exact lt_of_heap h
  clear hr
  unfold giveUp at kt
  go_enter_defers Tryz.func79, Tryz.ntmps79
  go_wp2_with (first
    | (go_at_call 58; refine (ke _).mono ?_; rintro e w' ⟨rfl, rfl⟩)
    | (go_at_call 80; refine kt.mono ?_; rintro e w1 ⟨rfl, ⟨rest', h1⟩, h2⟩))
  refine leaves_cons (f := 100) (args := #[.pointer (some ⟨w.heap.size, 0, none⟩)]) (by simp) (by simp [go_sem]) ?_
  have hb : w1.cell? ⟨w.heap.size, 0, none⟩ = some (rp q) := h2.cell (by simp) (by show ¬ w.heap.size = q; omega)
  refine (catch_long w.heap.size q rest' c w1 hb h1 hc).mono ?_
  rintro e u' w'' ⟨rfl, rfl, h3, h4⟩
  simp [Leaves, settle, results, Tryz.results79, go_sem, giving]
  exact ⟨h3, (Fr.alloc _ w _).same (h2.same h4)⟩
end Go.Proofs.YtoiglopilpoafaaGreatDoor.Wi

namespace Go.Proofs.YtoiglopilpoafaaGreatDoor.Wi
open Go.RowKit
set_option linter.unusedSimpArgs false
set_option linter.unusedVariables false
set_option maxRecDepth 20000

/-- A slice in memory of the call's own: all places up to the capacity are there and may be written. -/
def Ow (w : World) (B : Nat) (v : Value) (xs : List Value) : Prop :=
  Sl w v xs ∧ ∃ ao len cap, v = .slice ao len cap ∧ (ao = none ∨ ∃ g off, ao = some ⟨g, off, none⟩ ∧ B ≤ g ∧ g < w.heap.size ∧ ∀ j, j < cap → (w.cell? ⟨g, off + j, none⟩).isSome = true ∧ w.frozen? ⟨g, off + j, none⟩ = false)

theorem Ow.nil (w : World) (B : Nat) : Ow w B (.slice none 0 0) [] := ⟨Sl.nil w, none, 0, 0, rfl, Or.inl rfl⟩
theorem Ow.keep {S : Nat → Prop} {w w' : World} {B : Nat} {v : Value} {xs : List Value} (h : Ow w B v xs) (hf : Fr S w w') (hn : ∀ k, v.ownBlock = some k → ¬ S k) : Ow w' B v xs := by
  obtain ⟨h1, ao, len, cap, rfl, h2⟩ := h
  refine ⟨h1.keep hf hn, ao, len, cap, rfl, ?_⟩
  rcases h2 with rfl | ⟨g, off, rfl, hB, hlt, hc⟩
  · exact Or.inl rfl
  · refine Or.inr ⟨g, off, rfl, hB, Nat.lt_of_lt_of_le hlt hf.size, fun j hj => ?_⟩
    have e := hf.block g hlt (hn g rfl)
    rw [World.cell?_of_block (a := ⟨g, off + j, none⟩) e, World.frozen?_of_block (a := ⟨g, off + j, none⟩) e]
    exact hc j hj
theorem Ow.own {w : World} {B : Nat} {v : Value} {xs : List Value} (h : Ow w B v xs) : ∀ k, v.ownBlock = some k → B ≤ k ∧ k < w.heap.size := by
  obtain ⟨h1, ao, len, cap, rfl, h2⟩ := h
  intro k hk
  rcases h2 with rfl | ⟨g, off, rfl, hB, hlt, hc⟩
  · cases hk
  · have : g = k := by simpa [Value.ownBlock] using hk
    subst this
    exact ⟨hB, hlt⟩
theorem Ow.of_own {w : World} {base : Nat} {v : Value} {n : Nat} {xs : List Value} (h : w.ownsRow base 5 1 v n xs) : Ow w base v xs := by
  refine ⟨(Sl.of_own h).1, ?_⟩
  rcases h.2 with ⟨rfl, _⟩ | ⟨g, cap, cur, rfl, hb, hg, hnc, hcm, hcs, ht⟩
  · exact ⟨none, 0, 0, rfl, Or.inl rfl⟩
  · refine ⟨_, n, cap, rfl, Or.inr ⟨g, 0, rfl, hb, lt_of_heap hg, fun j hj => ⟨?_, by simp [World.frozen?, hg]⟩⟩⟩
    rw [Nat.zero_add, cell_of_row w g j cur 5 (0, 0) hg]
    simp
    omega
theorem Ow.drop {w : World} {B : Nat} {ao : Option Addr} {len cap : Nat} {xs : List Value} (h : Ow w B (.slice ao len cap) xs) (hs : ∀ n, n ≤ len → Sl w (.slice (if cap = n then ao else ao.map fun a => a.add n) (len - n) (cap - n)) (xs.drop n)) (n : Nat) (hn : n ≤ len) : Ow w B (.slice (if cap = n then ao else ao.map fun a => a.add n) (len - n) (cap - n)) (xs.drop n) := by
  obtain ⟨h1, ao', len', cap', e, h2⟩ := h
  cases e
  refine ⟨hs n hn, _, _, _, rfl, ?_⟩
  rcases h2 with rfl | ⟨g, off, rfl, hB, hlt, hc⟩
  · left; split <;> rfl
  · right
    by_cases hcn : cap = n
    · rw [if_pos hcn]
      exact ⟨g, off, rfl, hB, hlt, fun j hj => by omega⟩
    · rw [if_neg hcn]
      refine ⟨g, off + n, by simp [Addr.add_lit], hB, hlt, fun j hj => ?_⟩
      rw [Nat.add_assoc]
      exact hc _ (by omega)
end Go.Proofs.YtoiglopilpoafaaGreatDoor.Wi

namespace Go.Proofs.YtoiglopilpoafaaGreatDoor.Wi
open Go.RowKit
set_option linter.unusedSimpArgs false
set_option linter.unusedVariables false
set_option maxRecDepth 20000

/-- New bytes. -/
def Made (w w' : World) (v : Value) (l : List UInt8) : Prop := Ow w' w.heap.size v (bc l) ∧ Fr (fun _ => False) w w'

theorem Fr.over {T : Nat → Prop} {a b c : World} (h : Fr (fun _ => False) a b) (g : Fr T b c) (hT : ∀ k, T k → a.heap.size ≤ k) : Fr (fun _ => False) a c :=
  h.trans g (fun k hk t => by have := hT k t; omega)
theorem Ow.shape {w : World} {B : Nat} {v : Value} {l : List UInt8} (h : Ow w B v (bc l)) : ∃ ao cap, v = .slice ao l.length cap ∧ l.length ≤ cap ∧ cap ≤ 9223372036854775807 := by
  obtain ⟨⟨ao, cap, e, h1, h2, _⟩, _⟩ := h
  rw [bc_length] at *
  exact ⟨ao, cap, e, h1, by unfold maxLen at h2; omega⟩

theorem Made.one (w : World) (c : UInt8) : Made w (w.alloc (.cells #[.int .u8 (c.toNat : Int)] 5)) (.slice (some ⟨w.heap.size, 0, none⟩) 1 1) [c] := by
  refine ⟨Ow.of_own (n := 1) ⟨by simp, Or.inr ⟨w.heap.size, 1, _, rfl, Nat.le_refl _, alloc_new w _, by omega, by simp [maxLen], by simp, by simp [bc]⟩⟩, Fr.alloc _ _ _⟩
end Go.Proofs.YtoiglopilpoafaaGreatDoor.Wi

namespace Go.Proofs.YtoiglopilpoafaaGreatDoor.Wi
open Go.RowKit
set_option linter.unusedSimpArgs false
set_option linter.unusedVariables false
set_option maxRecDepth 20000

/-- A writer of the call's own. -/
def WOwn (W : World) (pv : Value) (w : World) (bs : List UInt8) (n : Nat) : Prop :=
  ∃ g, WrO pv w bs g n ∧ Fr (fun _ => False) W w ∧ ∀ k, pblk pv = some k ∨ g = some k → W.heap.size ≤ k
theorem WOwn.step {W w w' : World} {pv : Value} {g : Option Nat} {bs : List UInt8} {n : Nat} (h2 : Fr (fun _ => False) W w) (h3 : ∀ k, pblk pv = some k ∨ g = some k → W.heap.size ≤ k) (h : WTo pv w g w' bs n) : WOwn W pv w' bs n := by
  obtain ⟨g', a, b, c⟩ := h
  refine ⟨g', a, h2.over b h3, fun k hk => ?_⟩
  rcases hk with hk | hk
  · exact h3 k (Or.inl hk)
  · rcases c with rfl | ⟨k', e, hk'⟩
    · exact h3 k (Or.inr hk)
    · rw [e] at hk
      have : k' = k := by simpa using hk
      have := h2.size
      omega
theorem WOwn.new (w : World) (n : Nat) (hn : n ≤ 140737488355328) : WOwn w (.pointer (some ⟨w.heap.size, 0, none⟩)) (w.alloc (.cells #[.slice none 0 0] 83)) [] n := by
  refine ⟨none, Or.inr ⟨w.heap.size, rfl, ⟨.slice none 0 0, alloc_new w _, World.ownsRow_nil _ _ _ _, rfl, by simp⟩, by simpa using hn⟩, Fr.alloc _ _ _, fun k hk => ?_⟩
  rcases hk with hk | hk
  · have : w.heap.size = k := by simpa [pblk] using hk
    omega
  · cases hk
theorem WOwn.keep {S : Nat → Prop} {W w w' : World} {pv : Value} {bs : List UInt8} {n : Nat} (h : WOwn W pv w bs n) (hf : Fr S w w') (hS : ∀ k, S k → w.heap.size ≤ k) : WOwn W pv w' bs n := by
  obtain ⟨g, a, b, c⟩ := h
  refine ⟨g, a.keep hf (fun k hk s => ?_) (fun k hk s => ?_), b.over hf (fun k hk => Nat.le_trans b.size (hS k hk)), c⟩
  · have := a.lt k (Or.inl hk)
    have := hS k s
    omega
  · have := a.lt k (Or.inr hk)
    have := hS k s
    omega
theorem WOwn.past {S : Nat → Prop} {W V w w' : World} {pv : Value} {bs : List UInt8} {n : Nat} (h : WOwn W pv V bs n) (hV : Fr (fun _ => False) V w) (hf : Fr S w w') (hS : ∀ k, S k → V.heap.size ≤ k) : WOwn W pv w' bs n :=
  h.keep (hV.over hf hS) (fun _ f => f.elim)
theorem WOwn.less {W w : World} {pv : Value} {bs : List UInt8} {n m : Nat} (h : WOwn W pv w bs n) (hm : m ≤ n) : WOwn W pv w bs m := by
  obtain ⟨g, a, b, c⟩ := h
  exact ⟨g, a.less hm, b, c⟩
theorem byte_own (W : World) (pv : Value) (c : UInt8) (bs : List UInt8) (n : Nat) (w : World) (h : WOwn W pv w bs (1 + n)) :
    Calls Tryz.prog 26 #[pv, .int .u8 (c.toNat : Int)] w fun e w' => e = .returned (.tuple #[]) ∧ WOwn W pv w' (bs ++ [c]) n := by
  obtain ⟨g, a, b, d⟩ := h
  refine (byte_any pv c bs g n w a).mono ?_
  rintro e w' ⟨rfl, hto⟩
  exact ⟨rfl, WOwn.step b d hto⟩
theorem WOwn.wr {W w : World} {p : Nat} {bs : List UInt8} {n : Nat} (h : WOwn W (.pointer (some ⟨p, 0, none⟩)) w bs n) : ∃ g, Wr w p bs g ∧ bs.length + n ≤ 140737488355328 := by
  obtain ⟨g, a, b, d⟩ := h
  rcases a with ⟨e, _⟩ | ⟨p', e, hw, hb⟩
  · cases e
  · simp only [Value.pointer.injEq, Option.some.injEq, Addr.mk.injEq, and_true] at e
    subst e
    exact ⟨g, hw, hb⟩
theorem WOwn.fr {W w : World} {pv : Value} {bs : List UInt8} {n : Nat} (h : WOwn W pv w bs n) : Fr (fun _ => False) W w := by
  obtain ⟨g, a, b, d⟩ := h
  exact b
/-- What Bytes hands back, told by its shape. -/
theorem bytes_own (W : World) (p : Nat) (bs : List UInt8) (n : Nat) (w : World) (h : WOwn W (.pointer (some ⟨p, 0, none⟩)) w bs n) :
    Calls Tryz.prog 30 #[.pointer (some ⟨p, 0, none⟩)] w fun e w' => ∃ ao cap, e = .returned (.slice ao bs.length cap) ∧ Ow w' w.heap.size (.slice ao bs.length cap) (bc bs) ∧ Fr (fun _ => False) w w' := by
  obtain ⟨g, hw, hb⟩ := h.wr
  refine (bytes_some p bs g w hw (by omega)).mono ?_
  rintro e w' ⟨v', rfl, hc⟩
  have ho := Ow.of_own hc.1
  obtain ⟨ao, cap, rfl, _⟩ := ho.shape
  exact ⟨_, _, rfl, ho, hc.2⟩

/-- A new Reader. -/
theorem read_any (v : Value) (l : List UInt8) (w : World) (hb : l.length ≤ 140737488355328) (hs : Sl w v (bc l)) :
    Calls Tryz.prog 35 #[v] w fun e w' => ∃ q, e = .returned (rp q) ∧ Rd w' q l 0 ∧ w.heap.size ≤ q ∧ Fr (fun _ => False) w w' := by
  have kc : Calls Tryz.prog 49 #[v] w fun e w' => ∃ ao cap, e = .returned (.slice ao l.length cap) ∧ Ow w' w.heap.size (.slice ao l.length cap) (bc l) ∧ Fr (fun _ => False) w w' := by
    refine (clone_any v l w hb hs).mono ?_
    rintro e w' ⟨v', rfl, hc⟩
    have ho := Ow.of_own hc.1
    obtain ⟨ao, cap, rfl, _⟩ := ho.shape
    exact ⟨_, _, rfl, ho, hc.2⟩
  obtain ⟨ao0, cap0, rfl, a1, a2, a3, a4⟩ := id hs
  clear a1 a2 a3 a4
  rw [bc_length] at kc ⊢
  clear hs
  go_enter Tryz.func35, Tryz.ntmps35
  go_wp2_with (go_at_call 49; refine kc.mono ?_; rintro e w1 ⟨ao, cap, rfl, ho, hf⟩)
  go_ret
  refine ⟨w1.heap.size, rfl, ⟨.slice ao l.length cap, alloc_new w1 _, ho.1.keep (Fr.alloc (fun _ => False) w1 _) (fun _ _ f => f), fun k hk => (ho.own k hk).2⟩, hf.size, hf.same (Fr.alloc _ _ _)⟩
end Go.Proofs.YtoiglopilpoafaaGreatDoor.Wi

namespace Go.Proofs.YtoiglopilpoafaaGreatDoor.Wi
open Go.RowKit
set_option linter.unusedSimpArgs false
set_option linter.unusedVariables false
set_option maxRecDepth 20000

theorem take_shaped (q : Nat) (rest : List UInt8) (n : Nat) (w : World) (hr : Rd w q rest 0) (hn : n ≤ rest.length) :
    Calls Tryz.prog 99 #[rp q, .int .i64 (n : Int)] w fun e w' => ∃ ao cap, e = .returned (.slice ao n cap) ∧ Sl w' (.slice ao n cap) (bc (rest.take n)) ∧ Rd w' q (rest.drop n) 0 ∧ Fr (fun k => k = q) w w' := by
  refine (take_in q rest n w hr hn).mono ?_
  rintro e w' ⟨v, rfl, h1, h2⟩
  obtain ⟨ao, cap, e1, _⟩ := id h1
  rw [bc_length, List.length_take, Nat.min_eq_left hn] at e1
  subst e1
  exact ⟨_, _, rfl, h1, h2⟩
theorem take_gave (q : Nat) (rest : List UInt8) (n : Int) (w : World) (hr : Rd w q rest 0) (hn : (rest.length : Int) < n) :
    Calls Tryz.prog 99 #[rp q, .int .i64 n] w (Gave q w 40) := by
  refine (take_out q rest n w hr hn).mono ?_
  rintro e w' ⟨rfl, rfl⟩
  exact ⟨rfl, ⟨_, hr⟩, Fr.refl _ _⟩
theorem Gave.past {q : Nat} {w w1 w' : World} {c : Int} {e : Ending} (hf : Fr (fun k => k = q) w w1) (h : Gave q w1 c e w') : Gave q w c e w' := ⟨h.1, h.2.1, hf.same h.2.2⟩

/-- New bytes that were read. -/
def NewB (l : List UInt8) (B : Nat) : Value → World → Prop := fun v w => ∃ ao cap, v = .slice ao l.length cap ∧ Ow w B v (bc l)

theorem takeRaw_in (q : Nat) (rest : List UInt8) (N : Nat) (most : Int) (w : World) (hl : 4 ≤ rest.length) (hN : Hidden (numS (rest.take 4) = N)) (hlt : N < 2147483648) (hm : (N : Int) ≤ most) (hr : Rd w q rest 0) (hb : N ≤ (rest.drop 4).length) :
    Calls Tryz.prog 86 #[rp q, .int .i64 most] w (Took q w (NewB ((rest.drop 4).take N) w.heap.size) ((rest.drop 4).drop N)) := by
  have kc := takeCount_in q rest N most w hl hN hlt hm hr
  have hq : q < w.heap.size := by obtain ⟨v, h, _⟩ := hr; exact lt_of_heap h
  obtain ⟨D, hD⟩ : ∃ D, rest.drop 4 = D := ⟨_, rfl⟩
  rw [hD] at kc hb ⊢
  have kt := fun w1 (h : Rd w1 q D 0) => take_shaped q D N w1 h hb
  have hlen : (D.take N).length ≤ 140737488355328 := by rw [List.length_take]; omega
  have kcl : ∀ (v : Value) (w2 : World), Sl w2 v (bc (D.take N)) → Calls Tryz.prog 49 #[v] w2 fun e w' => ∃ ao cap, e = .returned (.slice ao (D.take N).length cap) ∧ Ow w' w2.heap.size (.slice ao (D.take N).length cap) (bc (D.take N)) ∧ Fr (fun _ => False) w2 w' := fun v w2 hs => by
    refine (clone_any v (D.take N) w2 hlen hs).mono ?_
    rintro e w' ⟨v', rfl, hc⟩
    have ho := Ow.of_own hc.1
    obtain ⟨ao, cap, rfl, _⟩ := ho.shape
    exact ⟨_, _, rfl, ho, hc.2⟩
  obtain ⟨X, hX⟩ : ∃ X, D.take N = X := ⟨_, rfl⟩
  rw [hX] at kt kcl ⊢
  unfold Took at *
  unfold Is at kc
  clear hr hN hD hb hX hlen
  go_enter Tryz.func86, Tryz.ntmps86
  go_wp2_with (first
    | (go_at_call 103; refine kc.mono ?_; rintro e w1 ⟨⟨v, rfl, rfl⟩, h1, h2⟩)
    | (go_at_call 99; refine (kt _ h1).mono ?_; rintro e w2 ⟨ao, cap, rfl, h3, h4, h5⟩)
    | (go_at_call 49; refine (kcl _ _ h3).mono ?_; rintro e w3 ⟨ao3, cap3, rfl, h6, h7⟩))
  go_ret
  have hsz := h2.size
  have hsz2 := h5.size
  refine ⟨⟨_, rfl, ao3, cap3, rfl, ?_⟩, h4.keep h7 (fun f => f) (fun _ _ _ _ f => f), (h2.same h5).same (h7.mono (fun _ _ f => f.elim))⟩
  obtain ⟨a, b, c, d, e, f⟩ := h6
  refine ⟨a, b, c, d, e, ?_⟩
  rcases f with f | ⟨g, off, e2, hB, rest'⟩
  · exact Or.inl f
  · exact Or.inr ⟨g, off, e2, by omega, rest'⟩
theorem takeRaw_out (q : Nat) (rest : List UInt8) (N : Nat) (most : Int) (w : World) (hl : 4 ≤ rest.length) (hN : Hidden (numS (rest.take 4) = N)) (hlt : N < 2147483648) (hm : (N : Int) ≤ most) (hr : Rd w q rest 0) (hb : (rest.drop 4).length < N) :
    Calls Tryz.prog 86 #[rp q, .int .i64 most] w (Gave q w 40) := by
  have kc := takeCount_in q rest N most w hl hN hlt hm hr
  obtain ⟨D, hD⟩ : ∃ D, rest.drop 4 = D := ⟨_, rfl⟩
  rw [hD] at kc hb
  have kt := fun w1 (h : Rd w1 q D 0) => take_gave q D N w1 h (by omega)
  unfold Took Is Gave giveUp at *
  clear hr hN hD hb
  go_enter Tryz.func86, Tryz.ntmps86
  go_wp2_with (first
    | (go_at_call 103; refine kc.mono ?_; rintro e w1 ⟨⟨v, rfl, rfl⟩, h1, h2⟩)
    | (go_at_call 99; refine (kt _ h1).mono ?_; rintro e w2 ⟨rfl, h4, h5⟩))
  exact ⟨rfl, rfl, h4, h2.same h5⟩
theorem takeRaw_gave (q : Nat) (c most : Int) (w : World) (kn : Calls Tryz.prog 103 #[rp q, .int .i64 most] w (Gave q w c)) :
    Calls Tryz.prog 86 #[rp q, .int .i64 most] w (Gave q w c) := by
  unfold Gave giveUp at *
  go_enter Tryz.func86, Tryz.ntmps86
  go_wp2_with (go_at_call 103; refine kn.mono ?_; rintro e w1 ⟨rfl, h1, h2⟩)
  exact ⟨rfl, rfl, h1, h2⟩
end Go.Proofs.YtoiglopilpoafaaGreatDoor.Wi

namespace Go.Proofs.YtoiglopilpoafaaGreatDoor.Wi
open Go.RowKit
set_option linter.unusedSimpArgs false
set_option linter.unusedVariables false
set_option maxRecDepth 20000

theorem fold_be (n : Nat) : ∀ k a : Nat, (beS n k).foldl (fun n c => n * 256 + c.toNat) a = a * 256 ^ k + n % 256 ^ k := by
  intro k
  induction k with
  | zero => intro a; simp [beS, Nat.mod_one]
  | succ k ih =>
    intro a
    rw [beS, List.foldl_cons, ih]
    have e : (UInt8.ofNat (n / 2 ^ (8 * k))).toNat = n / 256 ^ k % 256 := by
      rw [UInt8.toNat_ofNat', Nat.pow_mul]
    have h2 : n % 256 ^ (k + 1) = n % 256 ^ k + 256 ^ k * (n / 256 ^ k % 256) := by
      rw [Nat.pow_succ]
      exact Nat.mod_mul
    rw [e, h2, Nat.pow_succ, Nat.add_mul, Nat.mul_assoc, Nat.mul_comm 256 (256 ^ k), Nat.mul_comm (n / 256 ^ k % 256)]
    omega
theorem num_be (n k : Nat) : numS (beS n k) = n % 256 ^ k := by
  have := fold_be n k 0
  simpa [numS] using this
theorem num_i31 (x : Int) : numS (i31 x) = u64 x % 2147483648 := by
  rw [i31, num_be]
  have : u64 x % 2147483648 < 2147483648 := Nat.mod_lt _ (by omega)
  exact Nat.mod_eq_of_lt (by omega)
theorem num_len (n : Nat) (h : n < 2147483648) : numS (i31 (n : Int)) = n := by
  rw [num_i31]
  unfold u64
  omega

theorem Rd.lt {w : World} {q : Nat} {rest : List UInt8} {e : Int} (h : Rd w q rest e) : q < w.heap.size := by
  obtain ⟨v, h, _⟩ := h
  exact lt_of_heap h
end Go.Proofs.YtoiglopilpoafaaGreatDoor.Wi
