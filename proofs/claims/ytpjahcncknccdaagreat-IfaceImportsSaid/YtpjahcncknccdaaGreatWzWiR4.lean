/- The face of each reading call: what is taken, or a failure that is kept. -/
import Derived.Test.YtpjahcncknccdaaGreatWzWiR3
namespace Go.Proofs.YtpjahcncknccdaaGreat.Wi
open Go.RowKit
set_option linter.unusedSimpArgs false
set_option linter.unusedVariables false
set_option maxRecDepth 20000

set_option maxHeartbeats 400000 in
theorem catch_byte (b q : Nat) (rest : List UInt8) (c : Int) (w : World) (hb : w.cell? ⟨b, 0, none⟩ = some (rp q)) (hr : Rd w q rest 0) (hc : (c == 0) = false) :
    CallsD Tryz.prog 127 #[.pointer (some ⟨b, 0, none⟩)] (giving c false) w fun e u' w' =>
      e = .returned (.tuple #[]) ∧ u' = giving c true ∧ Rd w' q [] c ∧ Fr (fun k => k = q) w w' := by
  have kf := fun o : Obj => fail_first q rest c (w.alloc o) (hr.keep (Fr.alloc (fun _ => False) w o) (fun f => f) (fun _ _ _ _ f => f)) hc
  have hba : ∀ o : Obj, (w.alloc o).cell? ⟨b, 0, none⟩ = some (rp q) := fun o => (Fr.alloc (fun _ => False) w o).cell hb (fun f => f)
  have hta := assert_gave
  clear hr
  refine callsD_of_wpS Tryz.func127 rfl fun c₀ cs hu => ?_
  have e0 : (#[Value.pointer (some ⟨b, 0, none⟩)] ++ Array.replicate (Tryz.f127.ntmps - (#[Value.pointer (some ⟨b, 0, none⟩)] : Array Value).size) undef) = #[Value.pointer (some ⟨b, 0, none⟩), undef, undef, undef, undef, undef, undef, undef, undef, undef, undef, undef, undef, undef] := rfl
  rw [e0]
  clear e0
  apply wpS_seq
  apply wpS_region
  simp [wpOpsS, go_sem, recoverD, hu, Tryz.ntmps127, Exit.thenS, giving]
  refine wpS_of_wp ?_
  go_wp2_with (go_at_call 26; refine (kf _).mono ?_; rintro e w' ⟨rfl, h1, h2⟩)
  refine ⟨rfl, _, rfl, _, results_none rfl _ _ _, rfl, rfl, h1, (Fr.alloc _ w _).same h2⟩

set_option maxHeartbeats 400000 in
theorem idle_byte (b : Nat) (w : World) :
    CallsD Tryz.prog 127 #[.pointer (some ⟨b, 0, none⟩)] .returning w fun e u' w' => e = .returned (.tuple #[]) ∧ u' = .returning ∧ w' = w := by
  refine callsD_of_wpS Tryz.func127 rfl fun c₀ cs hu => ?_
  have e0 : (#[Value.pointer (some ⟨b, 0, none⟩)] ++ Array.replicate (Tryz.f127.ntmps - (#[Value.pointer (some ⟨b, 0, none⟩)] : Array Value).size) undef) = #[Value.pointer (some ⟨b, 0, none⟩), undef, undef, undef, undef, undef, undef, undef, undef, undef, undef, undef, undef, undef] := rfl
  rw [e0]
  clear e0
  apply wpS_seq
  apply wpS_region
  simp [wpOpsS, go_sem, recoverD, hu, Tryz.ntmps127, Exit.thenS]
  refine wpS_of_wp ?_
  go_wp2
  refine ⟨rfl, .returning, ?_, _, results_none rfl _ _ _, rfl, rfl, rfl⟩
  rw [← hu]

set_option maxHeartbeats 400000 in
theorem face_byte_ok (q : Nat) (rest rest' : List UInt8) (A : Value → World → Prop) (w : World) (hr : Rd w q rest 0)
    (kt : Calls Tryz.prog 100 #[rp q] (w.alloc (.cells #[rp q] 70)) fun e w' => (∃ v, e = .returned v ∧ A v w') ∧ Rd w' q rest' 0 ∧ Fr (fun k => k = q) (w.alloc (.cells #[rp q] 70)) w') :
    Calls Tryz.prog 99 #[rp q, .func (.func 100) #[rp q] #[]] w fun e w' => (∃ v, e = .returned v ∧ A v w') ∧ Rd w' q rest' 0 ∧ Fr (fun k => k = q) w w' := by
  have hmf : ∀ (fn : Fn) (first cap : Array Value) (w : World), (Instr.makeFunc fn first cap).run Tryz.prog w = .ok (.func fn first cap) w := fun _ _ _ _ => rfl
  have ke := fun o : Obj => err_some q rest 0 (w.alloc o) (hr.keep (Fr.alloc (fun _ => False) w o) (fun f => f) (fun _ _ _ _ f => f))
  clear hr
  go_enter_defers Tryz.func99, Tryz.ntmps99
  go_wp2_with (first
    | (go_at_call 55; refine (ke _).mono ?_; rintro e w' ⟨rfl, rfl⟩)
    | (go_at_call 100; refine kt.mono ?_; rintro e w1 ⟨⟨v, rfl, hv⟩, h1, h2⟩))
  refine leaves_cons (f := 127) (args := #[.pointer (some ⟨w.heap.size, 0, none⟩)]) (by simp) (by simp [go_sem]) ?_
  refine (idle_byte w.heap.size _).mono ?_
  rintro e u' w'' ⟨rfl, rfl, rfl⟩
  exact ⟨_, results_tmp rfl _ _ _, ⟨v, rfl, hv⟩, h1, (Fr.alloc _ w _).same h2⟩

set_option maxHeartbeats 400000 in
theorem face_byte_err (q : Nat) (rest : List UInt8) (c : Int) (w : World) (hr : Rd w q rest 0) (hc : (c == 0) = false)
    (kt : Calls Tryz.prog 100 #[rp q] (w.alloc (.cells #[rp q] 70)) fun e w' => e = giveUp c ∧ (∃ rest', Rd w' q rest' 0) ∧ Fr (fun k => k = q) (w.alloc (.cells #[rp q] 70)) w') :
    Calls Tryz.prog 99 #[rp q, .func (.func 100) #[rp q] #[]] w fun e w' => e = .returned (.int .u8 0) ∧ Rd w' q [] c ∧ Fr (fun k => k = q) w w' := by
  have hmf : ∀ (fn : Fn) (first cap : Array Value) (w : World), (Instr.makeFunc fn first cap).run Tryz.prog w = .ok (.func fn first cap) w := fun _ _ _ _ => rfl
  have ke := fun o : Obj => err_some q rest 0 (w.alloc o) (hr.keep (Fr.alloc (fun _ => False) w o) (fun f => f) (fun _ _ _ _ f => f))
  have hq : q < w.heap.size := by obtain ⟨v, h, _⟩ := hr; exact lt_of_heap h
  clear hr
  unfold giveUp at kt
  go_enter_defers Tryz.func99, Tryz.ntmps99
  go_wp2_with (first
    | (go_at_call 55; refine (ke _).mono ?_; rintro e w' ⟨rfl, rfl⟩)
    | (go_at_call 100; refine kt.mono ?_; rintro e w1 ⟨rfl, ⟨rest', h1⟩, h2⟩))
  refine leaves_cons (f := 127) (args := #[.pointer (some ⟨w.heap.size, 0, none⟩)]) (by simp) (by simp [go_sem]) ?_
  have hb : w1.cell? ⟨w.heap.size, 0, none⟩ = some (rp q) := h2.cell (by simp) (by show ¬ w.heap.size = q; omega)
  refine (catch_byte w.heap.size q rest' c w1 hb h1 hc).mono ?_
  rintro e u' w'' ⟨rfl, rfl, h3, h4⟩
  simp [Leaves, settle, results, Tryz.results99, go_sem, giving]
  exact ⟨h3, (Fr.alloc _ w _).same (h2.same h4)⟩

set_option maxHeartbeats 400000 in
theorem catch_int (b q : Nat) (rest : List UInt8) (c : Int) (w : World) (hb : w.cell? ⟨b, 0, none⟩ = some (rp q)) (hr : Rd w q rest 0) (hc : (c == 0) = false) :
    CallsD Tryz.prog 97 #[.pointer (some ⟨b, 0, none⟩)] (giving c false) w fun e u' w' =>
      e = .returned (.tuple #[]) ∧ u' = giving c true ∧ Rd w' q [] c ∧ Fr (fun k => k = q) w w' := by
  have kf := fun o : Obj => fail_first q rest c (w.alloc o) (hr.keep (Fr.alloc (fun _ => False) w o) (fun f => f) (fun _ _ _ _ f => f)) hc
  have hba : ∀ o : Obj, (w.alloc o).cell? ⟨b, 0, none⟩ = some (rp q) := fun o => (Fr.alloc (fun _ => False) w o).cell hb (fun f => f)
  have hta := assert_gave
  clear hr
  refine callsD_of_wpS Tryz.func97 rfl fun c₀ cs hu => ?_
  have e0 : (#[Value.pointer (some ⟨b, 0, none⟩)] ++ Array.replicate (Tryz.f97.ntmps - (#[Value.pointer (some ⟨b, 0, none⟩)] : Array Value).size) undef) = #[Value.pointer (some ⟨b, 0, none⟩), undef, undef, undef, undef, undef, undef, undef, undef, undef, undef, undef, undef, undef] := rfl
  rw [e0]
  clear e0
  apply wpS_seq
  apply wpS_region
  simp [wpOpsS, go_sem, recoverD, hu, Tryz.ntmps97, Exit.thenS, giving]
  refine wpS_of_wp ?_
  go_wp2_with (go_at_call 26; refine (kf _).mono ?_; rintro e w' ⟨rfl, h1, h2⟩)
  refine ⟨rfl, _, rfl, _, results_none rfl _ _ _, rfl, rfl, h1, (Fr.alloc _ w _).same h2⟩

set_option maxHeartbeats 400000 in
theorem idle_int (b : Nat) (w : World) :
    CallsD Tryz.prog 97 #[.pointer (some ⟨b, 0, none⟩)] .returning w fun e u' w' => e = .returned (.tuple #[]) ∧ u' = .returning ∧ w' = w := by
  refine callsD_of_wpS Tryz.func97 rfl fun c₀ cs hu => ?_
  have e0 : (#[Value.pointer (some ⟨b, 0, none⟩)] ++ Array.replicate (Tryz.f97.ntmps - (#[Value.pointer (some ⟨b, 0, none⟩)] : Array Value).size) undef) = #[Value.pointer (some ⟨b, 0, none⟩), undef, undef, undef, undef, undef, undef, undef, undef, undef, undef, undef, undef, undef] := rfl
  rw [e0]
  clear e0
  apply wpS_seq
  apply wpS_region
  simp [wpOpsS, go_sem, recoverD, hu, Tryz.ntmps97, Exit.thenS]
  refine wpS_of_wp ?_
  go_wp2
  refine ⟨rfl, .returning, ?_, _, results_none rfl _ _ _, rfl, rfl, rfl⟩
  rw [← hu]

set_option maxHeartbeats 400000 in
theorem face_int_ok (q : Nat) (rest rest' : List UInt8) (A : Value → World → Prop) (w : World) (hr : Rd w q rest 0)
    (kt : Calls Tryz.prog 83 #[rp q] (w.alloc (.cells #[rp q] 70)) fun e w' => (∃ v, e = .returned v ∧ A v w') ∧ Rd w' q rest' 0 ∧ Fr (fun k => k = q) (w.alloc (.cells #[rp q] 70)) w') :
    Calls Tryz.prog 82 #[rp q, .func (.func 83) #[rp q] #[]] w fun e w' => (∃ v, e = .returned v ∧ A v w') ∧ Rd w' q rest' 0 ∧ Fr (fun k => k = q) w w' := by
  have hmf : ∀ (fn : Fn) (first cap : Array Value) (w : World), (Instr.makeFunc fn first cap).run Tryz.prog w = .ok (.func fn first cap) w := fun _ _ _ _ => rfl
  have ke := fun o : Obj => err_some q rest 0 (w.alloc o) (hr.keep (Fr.alloc (fun _ => False) w o) (fun f => f) (fun _ _ _ _ f => f))
  clear hr
  go_enter_defers Tryz.func82, Tryz.ntmps82
  go_wp2_with (first
    | (go_at_call 55; refine (ke _).mono ?_; rintro e w' ⟨rfl, rfl⟩)
    | (go_at_call 83; refine kt.mono ?_; rintro e w1 ⟨⟨v, rfl, hv⟩, h1, h2⟩))
  refine leaves_cons (f := 97) (args := #[.pointer (some ⟨w.heap.size, 0, none⟩)]) (by simp) (by simp [go_sem]) ?_
  refine (idle_int w.heap.size _).mono ?_
  rintro e u' w'' ⟨rfl, rfl, rfl⟩
  exact ⟨_, results_tmp rfl _ _ _, ⟨v, rfl, hv⟩, h1, (Fr.alloc _ w _).same h2⟩

set_option maxHeartbeats 400000 in
theorem face_int_err (q : Nat) (rest : List UInt8) (c : Int) (w : World) (hr : Rd w q rest 0) (hc : (c == 0) = false)
    (kt : Calls Tryz.prog 83 #[rp q] (w.alloc (.cells #[rp q] 70)) fun e w' => e = giveUp c ∧ (∃ rest', Rd w' q rest' 0) ∧ Fr (fun k => k = q) (w.alloc (.cells #[rp q] 70)) w') :
    Calls Tryz.prog 82 #[rp q, .func (.func 83) #[rp q] #[]] w fun e w' => e = .returned (.int .i64 0) ∧ Rd w' q [] c ∧ Fr (fun k => k = q) w w' := by
  have hmf : ∀ (fn : Fn) (first cap : Array Value) (w : World), (Instr.makeFunc fn first cap).run Tryz.prog w = .ok (.func fn first cap) w := fun _ _ _ _ => rfl
  have ke := fun o : Obj => err_some q rest 0 (w.alloc o) (hr.keep (Fr.alloc (fun _ => False) w o) (fun f => f) (fun _ _ _ _ f => f))
  have hq : q < w.heap.size := by obtain ⟨v, h, _⟩ := hr; exact lt_of_heap h
  clear hr
  unfold giveUp at kt
  go_enter_defers Tryz.func82, Tryz.ntmps82
  go_wp2_with (first
    | (go_at_call 55; refine (ke _).mono ?_; rintro e w' ⟨rfl, rfl⟩)
    | (go_at_call 83; refine kt.mono ?_; rintro e w1 ⟨rfl, ⟨rest', h1⟩, h2⟩))
  refine leaves_cons (f := 97) (args := #[.pointer (some ⟨w.heap.size, 0, none⟩)]) (by simp) (by simp [go_sem]) ?_
  have hb : w1.cell? ⟨w.heap.size, 0, none⟩ = some (rp q) := h2.cell (by simp) (by show ¬ w.heap.size = q; omega)
  refine (catch_int w.heap.size q rest' c w1 hb h1 hc).mono ?_
  rintro e u' w'' ⟨rfl, rfl, h3, h4⟩
  simp [Leaves, settle, results, Tryz.results82, go_sem, giving]
  exact ⟨h3, (Fr.alloc _ w _).same (h2.same h4)⟩

set_option maxHeartbeats 400000 in
theorem catch_long (b q : Nat) (rest : List UInt8) (c : Int) (w : World) (hb : w.cell? ⟨b, 0, none⟩ = some (rp q)) (hr : Rd w q rest 0) (hc : (c == 0) = false) :
    CallsD Tryz.prog 128 #[.pointer (some ⟨b, 0, none⟩)] (giving c false) w fun e u' w' =>
      e = .returned (.tuple #[]) ∧ u' = giving c true ∧ Rd w' q [] c ∧ Fr (fun k => k = q) w w' := by
  have kf := fun o : Obj => fail_first q rest c (w.alloc o) (hr.keep (Fr.alloc (fun _ => False) w o) (fun f => f) (fun _ _ _ _ f => f)) hc
  have hba : ∀ o : Obj, (w.alloc o).cell? ⟨b, 0, none⟩ = some (rp q) := fun o => (Fr.alloc (fun _ => False) w o).cell hb (fun f => f)
  have hta := assert_gave
  clear hr
  refine callsD_of_wpS Tryz.func128 rfl fun c₀ cs hu => ?_
  have e0 : (#[Value.pointer (some ⟨b, 0, none⟩)] ++ Array.replicate (Tryz.f128.ntmps - (#[Value.pointer (some ⟨b, 0, none⟩)] : Array Value).size) undef) = #[Value.pointer (some ⟨b, 0, none⟩), undef, undef, undef, undef, undef, undef, undef, undef, undef, undef, undef, undef, undef] := rfl
  rw [e0]
  clear e0
  apply wpS_seq
  apply wpS_region
  simp [wpOpsS, go_sem, recoverD, hu, Tryz.ntmps128, Exit.thenS, giving]
  refine wpS_of_wp ?_
  go_wp2_with (go_at_call 26; refine (kf _).mono ?_; rintro e w' ⟨rfl, h1, h2⟩)
  refine ⟨rfl, _, rfl, _, results_none rfl _ _ _, rfl, rfl, h1, (Fr.alloc _ w _).same h2⟩

set_option maxHeartbeats 400000 in
theorem idle_long (b : Nat) (w : World) :
    CallsD Tryz.prog 128 #[.pointer (some ⟨b, 0, none⟩)] .returning w fun e u' w' => e = .returned (.tuple #[]) ∧ u' = .returning ∧ w' = w := by
  refine callsD_of_wpS Tryz.func128 rfl fun c₀ cs hu => ?_
  have e0 : (#[Value.pointer (some ⟨b, 0, none⟩)] ++ Array.replicate (Tryz.f128.ntmps - (#[Value.pointer (some ⟨b, 0, none⟩)] : Array Value).size) undef) = #[Value.pointer (some ⟨b, 0, none⟩), undef, undef, undef, undef, undef, undef, undef, undef, undef, undef, undef, undef, undef] := rfl
  rw [e0]
  clear e0
  apply wpS_seq
  apply wpS_region
  simp [wpOpsS, go_sem, recoverD, hu, Tryz.ntmps128, Exit.thenS]
  refine wpS_of_wp ?_
  go_wp2
  refine ⟨rfl, .returning, ?_, _, results_none rfl _ _ _, rfl, rfl, rfl⟩
  rw [← hu]

set_option maxHeartbeats 400000 in
theorem face_long_ok (q : Nat) (rest rest' : List UInt8) (A : Value → World → Prop) (w : World) (hr : Rd w q rest 0)
    (kt : Calls Tryz.prog 102 #[rp q] (w.alloc (.cells #[rp q] 70)) fun e w' => (∃ v, e = .returned v ∧ A v w') ∧ Rd w' q rest' 0 ∧ Fr (fun k => k = q) (w.alloc (.cells #[rp q] 70)) w') :
    Calls Tryz.prog 101 #[rp q, .func (.func 102) #[rp q] #[]] w fun e w' => (∃ v, e = .returned v ∧ A v w') ∧ Rd w' q rest' 0 ∧ Fr (fun k => k = q) w w' := by
  have hmf : ∀ (fn : Fn) (first cap : Array Value) (w : World), (Instr.makeFunc fn first cap).run Tryz.prog w = .ok (.func fn first cap) w := fun _ _ _ _ => rfl
  have ke := fun o : Obj => err_some q rest 0 (w.alloc o) (hr.keep (Fr.alloc (fun _ => False) w o) (fun f => f) (fun _ _ _ _ f => f))
  clear hr
  go_enter_defers Tryz.func101, Tryz.ntmps101
  go_wp2_with (first
    | (go_at_call 55; refine (ke _).mono ?_; rintro e w' ⟨rfl, rfl⟩)
    | (go_at_call 102; refine kt.mono ?_; rintro e w1 ⟨⟨v, rfl, hv⟩, h1, h2⟩))
  refine leaves_cons (f := 128) (args := #[.pointer (some ⟨w.heap.size, 0, none⟩)]) (by simp) (by simp [go_sem]) ?_
  refine (idle_long w.heap.size _).mono ?_
  rintro e u' w'' ⟨rfl, rfl, rfl⟩
  exact ⟨_, results_tmp rfl _ _ _, ⟨v, rfl, hv⟩, h1, (Fr.alloc _ w _).same h2⟩

set_option maxHeartbeats 400000 in
theorem face_long_err (q : Nat) (rest : List UInt8) (c : Int) (w : World) (hr : Rd w q rest 0) (hc : (c == 0) = false)
    (kt : Calls Tryz.prog 102 #[rp q] (w.alloc (.cells #[rp q] 70)) fun e w' => e = giveUp c ∧ (∃ rest', Rd w' q rest' 0) ∧ Fr (fun k => k = q) (w.alloc (.cells #[rp q] 70)) w') :
    Calls Tryz.prog 101 #[rp q, .func (.func 102) #[rp q] #[]] w fun e w' => e = .returned (.int .u64 0) ∧ Rd w' q [] c ∧ Fr (fun k => k = q) w w' := by
  have hmf : ∀ (fn : Fn) (first cap : Array Value) (w : World), (Instr.makeFunc fn first cap).run Tryz.prog w = .ok (.func fn first cap) w := fun _ _ _ _ => rfl
  have ke := fun o : Obj => err_some q rest 0 (w.alloc o) (hr.keep (Fr.alloc (fun _ => False) w o) (fun f => f) (fun _ _ _ _ f => f))
  have hq : q < w.heap.size := by obtain ⟨v, h, _⟩ := hr; exact lt_of_heap h
  clear hr
  unfold giveUp at kt
  go_enter_defers Tryz.func101, Tryz.ntmps101
  go_wp2_with (first
    | (go_at_call 55; refine (ke _).mono ?_; rintro e w' ⟨rfl, rfl⟩)
    | (go_at_call 102; refine kt.mono ?_; rintro e w1 ⟨rfl, ⟨rest', h1⟩, h2⟩))
  refine leaves_cons (f := 128) (args := #[.pointer (some ⟨w.heap.size, 0, none⟩)]) (by simp) (by simp [go_sem]) ?_
  have hb : w1.cell? ⟨w.heap.size, 0, none⟩ = some (rp q) := h2.cell (by simp) (by show ¬ w.heap.size = q; omega)
  refine (catch_long w.heap.size q rest' c w1 hb h1 hc).mono ?_
  rintro e u' w'' ⟨rfl, rfl, h3, h4⟩
  simp [Leaves, settle, results, Tryz.results101, go_sem, giving]
  exact ⟨h3, (Fr.alloc _ w _).same (h2.same h4)⟩
end Go.Proofs.YtpjahcncknccdaaGreat.Wi
