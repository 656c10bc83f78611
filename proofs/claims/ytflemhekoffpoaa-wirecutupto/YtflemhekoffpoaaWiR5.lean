/- The face of each reading call: what is taken, or a failure that is kept. -/
import Derived.Test.YtflemhekoffpoaaWiR4
namespace Go.Proofs.Ytflemhekoffpoaa
open Go.RowKit
set_option linter.unusedSimpArgs false
set_option linter.unusedVariables false

set_option maxHeartbeats 400000 in
theorem catch_text (b q : Nat) (rest : List UInt8) (c : Int) (w : World) (hb : w.cell? ⟨b, 0, none⟩ = some (rp q)) (hr : Rd w q rest 0) (hc : (c == 0) = false) :
    CallsD Try.prog 93 #[.pointer (some ⟨b, 0, none⟩)] (giving c false) w fun e u' w' =>
      e = .returned (.tuple #[]) ∧ u' = giving c true ∧ Rd w' q [] c ∧ Fr (fun k => k = q) w w' := by
  have kf := fun o : Obj => fail_first q rest c (w.alloc o) (hr.keep (Fr.alloc (fun _ => False) w o) (fun f => f) (fun _ _ _ _ f => f)) hc
  have hba : ∀ o : Obj, (w.alloc o).cell? ⟨b, 0, none⟩ = some (rp q) := fun o => (Fr.alloc (fun _ => False) w o).cell hb (fun f => f)
  have hta := assert_gave
  clear hr
  refine callsD_of_wpS Try.func93 rfl fun c₀ cs hu => ?_
  have e0 : (#[Value.pointer (some ⟨b, 0, none⟩)] ++ Array.replicate (Try.f93.ntmps - (#[Value.pointer (some ⟨b, 0, none⟩)] : Array Value).size) undef) = #[Value.pointer (some ⟨b, 0, none⟩), undef, undef, undef, undef, undef, undef, undef, undef, undef, undef, undef, undef, undef] := rfl
  rw [e0]
  clear e0
  apply wpS_seq
  apply wpS_region
  simp [wpOpsS, go_sem, recoverD, hu, Try.ntmps93, Exit.thenS, giving]
  refine wpS_of_wp ?_
  go_wp2_with (go_at_call 60; refine (kf _).mono ?_; rintro e w' ⟨rfl, h1, h2⟩)
  refine ⟨rfl, _, rfl, _, results_none rfl _ _ _, rfl, rfl, h1, (Fr.alloc _ w _).same h2⟩

set_option maxHeartbeats 400000 in
theorem idle_text (b : Nat) (w : World) :
    CallsD Try.prog 93 #[.pointer (some ⟨b, 0, none⟩)] .returning w fun e u' w' => e = .returned (.tuple #[]) ∧ u' = .returning ∧ w' = w := by
  refine callsD_of_wpS Try.func93 rfl fun c₀ cs hu => ?_
  have e0 : (#[Value.pointer (some ⟨b, 0, none⟩)] ++ Array.replicate (Try.f93.ntmps - (#[Value.pointer (some ⟨b, 0, none⟩)] : Array Value).size) undef) = #[Value.pointer (some ⟨b, 0, none⟩), undef, undef, undef, undef, undef, undef, undef, undef, undef, undef, undef, undef, undef] := rfl
  rw [e0]
  clear e0
  apply wpS_seq
  apply wpS_region
  simp [wpOpsS, go_sem, recoverD, hu, Try.ntmps93, Exit.thenS]
  refine wpS_of_wp ?_
  go_wp2
  refine ⟨rfl, .returning, ?_, _, results_none rfl _ _ _, rfl, rfl, rfl⟩
  rw [← hu]

set_option maxHeartbeats 400000 in
theorem face_text_dead (pv fv : Value) (c : Int) (w : World) (hc : (c == 0) = false) (hp : ∃ a, pv = .pointer a) (hfv : ∃ x y z, fv = .func x y z)
    (ke : ∀ o : Obj, Calls Try.prog 18 #[pv] (w.alloc o) fun e w' => e = .returned (.int .i64 c) ∧ w.alloc o = w') :
    Calls Try.prog 74 #[pv, fv] w fun e w' => e = .returned (.string ⟨#[]⟩) ∧ w' = w.alloc (.cells #[pv] 38) := by
  obtain ⟨a, rfl⟩ := hp
  obtain ⟨x, y, z, rfl⟩ := hfv
  go_enter_defers Try.func74, Try.ntmps74
  go_wp2_with (go_at_call 18; refine (ke _).mono ?_; rintro e w' ⟨rfl, rfl⟩)
  exact ⟨_, results_tmp rfl _ _ _, rfl, rfl⟩

set_option maxHeartbeats 400000 in
theorem face_text_ok (p0 p1 : Value) (q : Nat) (rest rest' : List UInt8) (A : Value → World → Prop) (w : World) (hr : Rd w q rest 0)
    (kt : Calls Try.prog 75 #[p0, p1] (w.alloc (.cells #[rp q] 38)) fun e w' => (∃ v, e = .returned v ∧ A v w') ∧ Rd w' q rest' 0 ∧ Fr (fun k => k = q) (w.alloc (.cells #[rp q] 38)) w') :
    Calls Try.prog 74 #[rp q, .func (.func 75) #[] #[p0, p1]] w fun e w' => (∃ v, e = .returned v ∧ A v w') ∧ Rd w' q rest' 0 ∧ Fr (fun k => k = q) w w' := by
  have hmf : ∀ (fn : Fn) (first cap : Array Value) (w : World), (Instr.makeFunc fn first cap).run Try.prog w = .ok (.func fn first cap) w := fun _ _ _ _ => rfl
  have ke := fun o : Obj => err_some q rest 0 (w.alloc o) (hr.keep (Fr.alloc (fun _ => False) w o) (fun f => f) (fun _ _ _ _ f => f))
  clear hr
  go_enter_defers Try.func74, Try.ntmps74
  go_wp2_with (first
    | (go_at_call 18; refine (ke _).mono ?_; rintro e w' ⟨rfl, rfl⟩)
    | (go_at_call 75; refine kt.mono ?_; rintro e w1 ⟨⟨v, rfl, hv⟩, h1, h2⟩))
  refine leaves_cons (f := 93) (args := #[.pointer (some ⟨w.heap.size, 0, none⟩)]) (by simp) (by simp [go_sem]) ?_
  refine (idle_text w.heap.size _).mono ?_
  rintro e u' w'' ⟨rfl, rfl, rfl⟩
  exact ⟨_, results_tmp rfl _ _ _, ⟨v, rfl, hv⟩, h1, (Fr.alloc _ w _).same h2⟩

set_option maxHeartbeats 400000 in
theorem face_text_err (p0 p1 : Value) (q : Nat) (rest : List UInt8) (c : Int) (w : World) (hr : Rd w q rest 0) (hc : (c == 0) = false)
    (kt : Calls Try.prog 75 #[p0, p1] (w.alloc (.cells #[rp q] 38)) fun e w' => e = giveUp c ∧ (∃ rest', Rd w' q rest' 0) ∧ Fr (fun k => k = q) (w.alloc (.cells #[rp q] 38)) w') :
    Calls Try.prog 74 #[rp q, .func (.func 75) #[] #[p0, p1]] w fun e w' => e = .returned (.string ⟨#[]⟩) ∧ Rd w' q [] c ∧ Fr (fun k => k = q) w w' := by
  have hmf : ∀ (fn : Fn) (first cap : Array Value) (w : World), (Instr.makeFunc fn first cap).run Try.prog w = .ok (.func fn first cap) w := fun _ _ _ _ => rfl
  have ke := fun o : Obj => err_some q rest 0 (w.alloc o) (hr.keep (Fr.alloc (fun _ => False) w o) (fun f => f) (fun _ _ _ _ f => f))
  have hq : q < w.heap.size := by obtain ⟨v, h, _⟩ := hr; exact lt_of_heap h
  clear hr
  unfold giveUp at kt
  go_enter_defers Try.func74, Try.ntmps74
  go_wp2_with (first
    | (go_at_call 18; refine (ke _).mono ?_; rintro e w' ⟨rfl, rfl⟩)
    | (go_at_call 75; refine kt.mono ?_; rintro e w1 ⟨rfl, ⟨rest', h1⟩, h2⟩))
  refine leaves_cons (f := 93) (args := #[.pointer (some ⟨w.heap.size, 0, none⟩)]) (by simp) (by simp [go_sem]) ?_
  have hb : w1.cell? ⟨w.heap.size, 0, none⟩ = some (rp q) := h2.cell (by simp) (by show ¬ w.heap.size = q; omega)
  refine (catch_text w.heap.size q rest' c w1 hb h1 hc).mono ?_
  rintro e u' w'' ⟨rfl, rfl, h3, h4⟩
  simp [Leaves, settle, results, Try.results74, go_sem, giving]
  exact ⟨h3, (Fr.alloc _ w _).same (h2.same h4)⟩

set_option maxHeartbeats 400000 in
theorem catch_raw (b q : Nat) (rest : List UInt8) (c : Int) (w : World) (hb : w.cell? ⟨b, 0, none⟩ = some (rp q)) (hr : Rd w q rest 0) (hc : (c == 0) = false) :
    CallsD Try.prog 96 #[.pointer (some ⟨b, 0, none⟩)] (giving c false) w fun e u' w' =>
      e = .returned (.tuple #[]) ∧ u' = giving c true ∧ Rd w' q [] c ∧ Fr (fun k => k = q) w w' := by
  have kf := fun o : Obj => fail_first q rest c (w.alloc o) (hr.keep (Fr.alloc (fun _ => False) w o) (fun f => f) (fun _ _ _ _ f => f)) hc
  have hba : ∀ o : Obj, (w.alloc o).cell? ⟨b, 0, none⟩ = some (rp q) := fun o => (Fr.alloc (fun _ => False) w o).cell hb (fun f => f)
  have hta := assert_gave
  clear hr
  refine callsD_of_wpS Try.func96 rfl fun c₀ cs hu => ?_
  have e0 : (#[Value.pointer (some ⟨b, 0, none⟩)] ++ Array.replicate (Try.f96.ntmps - (#[Value.pointer (some ⟨b, 0, none⟩)] : Array Value).size) undef) = #[Value.pointer (some ⟨b, 0, none⟩), undef, undef, undef, undef, undef, undef, undef, undef, undef, undef, undef, undef, undef] := rfl
  rw [e0]
  clear e0
  apply wpS_seq
  apply wpS_region
  simp [wpOpsS, go_sem, recoverD, hu, Try.ntmps96, Exit.thenS, giving]
  refine wpS_of_wp ?_
  go_wp2_with (go_at_call 60; refine (kf _).mono ?_; rintro e w' ⟨rfl, h1, h2⟩)
  refine ⟨rfl, _, rfl, _, results_none rfl _ _ _, rfl, rfl, h1, (Fr.alloc _ w _).same h2⟩

set_option maxHeartbeats 400000 in
theorem idle_raw (b : Nat) (w : World) :
    CallsD Try.prog 96 #[.pointer (some ⟨b, 0, none⟩)] .returning w fun e u' w' => e = .returned (.tuple #[]) ∧ u' = .returning ∧ w' = w := by
  refine callsD_of_wpS Try.func96 rfl fun c₀ cs hu => ?_
  have e0 : (#[Value.pointer (some ⟨b, 0, none⟩)] ++ Array.replicate (Try.f96.ntmps - (#[Value.pointer (some ⟨b, 0, none⟩)] : Array Value).size) undef) = #[Value.pointer (some ⟨b, 0, none⟩), undef, undef, undef, undef, undef, undef, undef, undef, undef, undef, undef, undef, undef] := rfl
  rw [e0]
  clear e0
  apply wpS_seq
  apply wpS_region
  simp [wpOpsS, go_sem, recoverD, hu, Try.ntmps96, Exit.thenS]
  refine wpS_of_wp ?_
  go_wp2
  refine ⟨rfl, .returning, ?_, _, results_none rfl _ _ _, rfl, rfl, rfl⟩
  rw [← hu]

set_option maxHeartbeats 400000 in
theorem face_raw_dead (pv fv : Value) (c : Int) (w : World) (hc : (c == 0) = false) (hp : ∃ a, pv = .pointer a) (hfv : ∃ x y z, fv = .func x y z)
    (ke : ∀ o : Obj, Calls Try.prog 18 #[pv] (w.alloc o) fun e w' => e = .returned (.int .i64 c) ∧ w.alloc o = w') :
    Calls Try.prog 77 #[pv, fv] w fun e w' => e = .returned (.slice none 0 0) ∧ w' = w.alloc (.cells #[pv] 38) := by
  obtain ⟨a, rfl⟩ := hp
  obtain ⟨x, y, z, rfl⟩ := hfv
  go_enter_defers Try.func77, Try.ntmps77
  go_wp2_with (go_at_call 18; refine (ke _).mono ?_; rintro e w' ⟨rfl, rfl⟩)
  exact ⟨_, results_tmp rfl _ _ _, rfl, rfl⟩

set_option maxHeartbeats 400000 in
theorem face_raw_ok (p0 p1 : Value) (q : Nat) (rest rest' : List UInt8) (A : Value → World → Prop) (w : World) (hr : Rd w q rest 0)
    (kt : Calls Try.prog 78 #[p0, p1] (w.alloc (.cells #[rp q] 38)) fun e w' => (∃ v, e = .returned v ∧ A v w') ∧ Rd w' q rest' 0 ∧ Fr (fun k => k = q) (w.alloc (.cells #[rp q] 38)) w') :
    Calls Try.prog 77 #[rp q, .func (.func 78) #[] #[p0, p1]] w fun e w' => (∃ v, e = .returned v ∧ A v w') ∧ Rd w' q rest' 0 ∧ Fr (fun k => k = q) w w' := by
  have hmf : ∀ (fn : Fn) (first cap : Array Value) (w : World), (Instr.makeFunc fn first cap).run Try.prog w = .ok (.func fn first cap) w := fun _ _ _ _ => rfl
  have ke := fun o : Obj => err_some q rest 0 (w.alloc o) (hr.keep (Fr.alloc (fun _ => False) w o) (fun f => f) (fun _ _ _ _ f => f))
  clear hr
  go_enter_defers Try.func77, Try.ntmps77
  go_wp2_with (first
    | (go_at_call 18; refine (ke _).mono ?_; rintro e w' ⟨rfl, rfl⟩)
    | (go_at_call 78; refine kt.mono ?_; rintro e w1 ⟨⟨v, rfl, hv⟩, h1, h2⟩))
  refine leaves_cons (f := 96) (args := #[.pointer (some ⟨w.heap.size, 0, none⟩)]) (by simp) (by simp [go_sem]) ?_
  refine (idle_raw w.heap.size _).mono ?_
  rintro e u' w'' ⟨rfl, rfl, rfl⟩
  exact ⟨_, results_tmp rfl _ _ _, ⟨v, rfl, hv⟩, h1, (Fr.alloc _ w _).same h2⟩

set_option maxHeartbeats 400000 in
theorem face_raw_err (p0 p1 : Value) (q : Nat) (rest : List UInt8) (c : Int) (w : World) (hr : Rd w q rest 0) (hc : (c == 0) = false)
    (kt : Calls Try.prog 78 #[p0, p1] (w.alloc (.cells #[rp q] 38)) fun e w' => e = giveUp c ∧ (∃ rest', Rd w' q rest' 0) ∧ Fr (fun k => k = q) (w.alloc (.cells #[rp q] 38)) w') :
    Calls Try.prog 77 #[rp q, .func (.func 78) #[] #[p0, p1]] w fun e w' => e = .returned (.slice none 0 0) ∧ Rd w' q [] c ∧ Fr (fun k => k = q) w w' := by
  have hmf : ∀ (fn : Fn) (first cap : Array Value) (w : World), (Instr.makeFunc fn first cap).run Try.prog w = .ok (.func fn first cap) w := fun _ _ _ _ => rfl
  have ke := fun o : Obj => err_some q rest 0 (w.alloc o) (hr.keep (Fr.alloc (fun _ => False) w o) (fun f => f) (fun _ _ _ _ f => f))
  have hq : q < w.heap.size := by obtain ⟨v, h, _⟩ := hr; exact lt_of_heap h
  clear hr
  unfold giveUp at kt
  go_enter_defers Try.func77, Try.ntmps77
  go_wp2_with (first
    | (go_at_call 18; refine (ke _).mono ?_; rintro e w' ⟨rfl, rfl⟩)
    | (go_at_call 78; refine kt.mono ?_; rintro e w1 ⟨rfl, ⟨rest', h1⟩, h2⟩))
  refine leaves_cons (f := 96) (args := #[.pointer (some ⟨w.heap.size, 0, none⟩)]) (by simp) (by simp [go_sem]) ?_
  have hb : w1.cell? ⟨w.heap.size, 0, none⟩ = some (rp q) := h2.cell (by simp) (by show ¬ w.heap.size = q; omega)
  refine (catch_raw w.heap.size q rest' c w1 hb h1 hc).mono ?_
  rintro e u' w'' ⟨rfl, rfl, h3, h4⟩
  simp [Leaves, settle, results, Try.results77, go_sem, giving]
  exact ⟨h3, (Fr.alloc _ w _).same (h2.same h4)⟩

set_option maxHeartbeats 400000 in
theorem catch_ints (b q : Nat) (rest : List UInt8) (c : Int) (w : World) (hb : w.cell? ⟨b, 0, none⟩ = some (rp q)) (hr : Rd w q rest 0) (hc : (c == 0) = false) :
    CallsD Try.prog 97 #[.pointer (some ⟨b, 0, none⟩)] (giving c false) w fun e u' w' =>
      e = .returned (.tuple #[]) ∧ u' = giving c true ∧ Rd w' q [] c ∧ Fr (fun k => k = q) w w' := by
  have kf := fun o : Obj => fail_first q rest c (w.alloc o) (hr.keep (Fr.alloc (fun _ => False) w o) (fun f => f) (fun _ _ _ _ f => f)) hc
  have hba : ∀ o : Obj, (w.alloc o).cell? ⟨b, 0, none⟩ = some (rp q) := fun o => (Fr.alloc (fun _ => False) w o).cell hb (fun f => f)
  have hta := assert_gave
  clear hr
  refine callsD_of_wpS Try.func97 rfl fun c₀ cs hu => ?_
  have e0 : (#[Value.pointer (some ⟨b, 0, none⟩)] ++ Array.replicate (Try.f97.ntmps - (#[Value.pointer (some ⟨b, 0, none⟩)] : Array Value).size) undef) = #[Value.pointer (some ⟨b, 0, none⟩), undef, undef, undef, undef, undef, undef, undef, undef, undef, undef, undef, undef, undef] := rfl
  rw [e0]
  clear e0
  apply wpS_seq
  apply wpS_region
  simp [wpOpsS, go_sem, recoverD, hu, Try.ntmps97, Exit.thenS, giving]
  refine wpS_of_wp ?_
  go_wp2_with (go_at_call 60; refine (kf _).mono ?_; rintro e w' ⟨rfl, h1, h2⟩)
  refine ⟨rfl, _, rfl, _, results_none rfl _ _ _, rfl, rfl, h1, (Fr.alloc _ w _).same h2⟩

set_option maxHeartbeats 400000 in
theorem idle_ints (b : Nat) (w : World) :
    CallsD Try.prog 97 #[.pointer (some ⟨b, 0, none⟩)] .returning w fun e u' w' => e = .returned (.tuple #[]) ∧ u' = .returning ∧ w' = w := by
  refine callsD_of_wpS Try.func97 rfl fun c₀ cs hu => ?_
  have e0 : (#[Value.pointer (some ⟨b, 0, none⟩)] ++ Array.replicate (Try.f97.ntmps - (#[Value.pointer (some ⟨b, 0, none⟩)] : Array Value).size) undef) = #[Value.pointer (some ⟨b, 0, none⟩), undef, undef, undef, undef, undef, undef, undef, undef, undef, undef, undef, undef, undef] := rfl
  rw [e0]
  clear e0
  apply wpS_seq
  apply wpS_region
  simp [wpOpsS, go_sem, recoverD, hu, Try.ntmps97, Exit.thenS]
  refine wpS_of_wp ?_
  go_wp2
  refine ⟨rfl, .returning, ?_, _, results_none rfl _ _ _, rfl, rfl, rfl⟩
  rw [← hu]

set_option maxHeartbeats 400000 in
theorem face_ints_dead (pv fv : Value) (c : Int) (w : World) (hc : (c == 0) = false) (hp : ∃ a, pv = .pointer a) (hfv : ∃ x y z, fv = .func x y z)
    (ke : ∀ o : Obj, Calls Try.prog 18 #[pv] (w.alloc o) fun e w' => e = .returned (.int .i64 c) ∧ w.alloc o = w') :
    Calls Try.prog 81 #[pv, fv] w fun e w' => e = .returned (.slice none 0 0) ∧ w' = w.alloc (.cells #[pv] 38) := by
  obtain ⟨a, rfl⟩ := hp
  obtain ⟨x, y, z, rfl⟩ := hfv
  go_enter_defers Try.func81, Try.ntmps81
  go_wp2_with (go_at_call 18; refine (ke _).mono ?_; rintro e w' ⟨rfl, rfl⟩)
  exact ⟨_, results_tmp rfl _ _ _, rfl, rfl⟩

set_option maxHeartbeats 400000 in
theorem face_ints_ok (p0 p1 : Value) (q : Nat) (rest rest' : List UInt8) (A : Value → World → Prop) (w : World) (hr : Rd w q rest 0)
    (kt : Calls Try.prog 82 #[p0, p1] (w.alloc (.cells #[rp q] 38)) fun e w' => (∃ v, e = .returned v ∧ A v w') ∧ Rd w' q rest' 0 ∧ Fr (fun k => k = q) (w.alloc (.cells #[rp q] 38)) w') :
    Calls Try.prog 81 #[rp q, .func (.func 82) #[] #[p0, p1]] w fun e w' => (∃ v, e = .returned v ∧ A v w') ∧ Rd w' q rest' 0 ∧ Fr (fun k => k = q) w w' := by
  have hmf : ∀ (fn : Fn) (first cap : Array Value) (w : World), (Instr.makeFunc fn first cap).run Try.prog w = .ok (.func fn first cap) w := fun _ _ _ _ => rfl
  have ke := fun o : Obj => err_some q rest 0 (w.alloc o) (hr.keep (Fr.alloc (fun _ => False) w o) (fun f => f) (fun _ _ _ _ f => f))
  clear hr
  go_enter_defers Try.func81, Try.ntmps81
  go_wp2_with (first
    | (go_at_call 18; refine (ke _).mono ?_; rintro e w' ⟨rfl, rfl⟩)
    | (go_at_call 82; refine kt.mono ?_; rintro e w1 ⟨⟨v, rfl, hv⟩, h1, h2⟩))
  refine leaves_cons (f := 97) (args := #[.pointer (some ⟨w.heap.size, 0, none⟩)]) (by simp) (by simp [go_sem]) ?_
  refine (idle_ints w.heap.size _).mono ?_
  rintro e u' w'' ⟨rfl, rfl, rfl⟩
  exact ⟨_, results_tmp rfl _ _ _, ⟨v, rfl, hv⟩, h1, (Fr.alloc _ w _).same h2⟩

set_option maxHeartbeats 400000 in
theorem face_ints_err (p0 p1 : Value) (q : Nat) (rest : List UInt8) (c : Int) (w : World) (hr : Rd w q rest 0) (hc : (c == 0) = false)
    (kt : Calls Try.prog 82 #[p0, p1] (w.alloc (.cells #[rp q] 38)) fun e w' => e = giveUp c ∧ (∃ rest', Rd w' q rest' 0) ∧ Fr (fun k => k = q) (w.alloc (.cells #[rp q] 38)) w') :
    Calls Try.prog 81 #[rp q, .func (.func 82) #[] #[p0, p1]] w fun e w' => e = .returned (.slice none 0 0) ∧ Rd w' q [] c ∧ Fr (fun k => k = q) w w' := by
  have hmf : ∀ (fn : Fn) (first cap : Array Value) (w : World), (Instr.makeFunc fn first cap).run Try.prog w = .ok (.func fn first cap) w := fun _ _ _ _ => rfl
  have ke := fun o : Obj => err_some q rest 0 (w.alloc o) (hr.keep (Fr.alloc (fun _ => False) w o) (fun f => f) (fun _ _ _ _ f => f))
  have hq : q < w.heap.size := by obtain ⟨v, h, _⟩ := hr; exact lt_of_heap h
  clear hr
  unfold giveUp at kt
  go_enter_defers Try.func81, Try.ntmps81
  go_wp2_with (first
    | (go_at_call 18; refine (ke _).mono ?_; rintro e w' ⟨rfl, rfl⟩)
    | (go_at_call 82; refine kt.mono ?_; rintro e w1 ⟨rfl, ⟨rest', h1⟩, h2⟩))
  refine leaves_cons (f := 97) (args := #[.pointer (some ⟨w.heap.size, 0, none⟩)]) (by simp) (by simp [go_sem]) ?_
  have hb : w1.cell? ⟨w.heap.size, 0, none⟩ = some (rp q) := h2.cell (by simp) (by show ¬ w.heap.size = q; omega)
  refine (catch_ints w.heap.size q rest' c w1 hb h1 hc).mono ?_
  rintro e u' w'' ⟨rfl, rfl, h3, h4⟩
  simp [Leaves, settle, results, Try.results81, go_sem, giving]
  exact ⟨h3, (Fr.alloc _ w _).same (h2.same h4)⟩

set_option maxHeartbeats 400000 in
theorem catch_texts (b q : Nat) (rest : List UInt8) (c : Int) (w : World) (hb : w.cell? ⟨b, 0, none⟩ = some (rp q)) (hr : Rd w q rest 0) (hc : (c == 0) = false) :
    CallsD Try.prog 98 #[.pointer (some ⟨b, 0, none⟩)] (giving c false) w fun e u' w' =>
      e = .returned (.tuple #[]) ∧ u' = giving c true ∧ Rd w' q [] c ∧ Fr (fun k => k = q) w w' := by
  have kf := fun o : Obj => fail_first q rest c (w.alloc o) (hr.keep (Fr.alloc (fun _ => False) w o) (fun f => f) (fun _ _ _ _ f => f)) hc
  have hba : ∀ o : Obj, (w.alloc o).cell? ⟨b, 0, none⟩ = some (rp q) := fun o => (Fr.alloc (fun _ => False) w o).cell hb (fun f => f)
  have hta := assert_gave
  clear hr
  refine callsD_of_wpS Try.func98 rfl fun c₀ cs hu => ?_
  have e0 : (#[Value.pointer (some ⟨b, 0, none⟩)] ++ Array.replicate (Try.f98.ntmps - (#[Value.pointer (some ⟨b, 0, none⟩)] : Array Value).size) undef) = #[Value.pointer (some ⟨b, 0, none⟩), undef, undef, undef, undef, undef, undef, undef, undef, undef, undef, undef, undef, undef] := rfl
  rw [e0]
  clear e0
  apply wpS_seq
  apply wpS_region
  simp [wpOpsS, go_sem, recoverD, hu, Try.ntmps98, Exit.thenS, giving]
  refine wpS_of_wp ?_
  go_wp2_with (go_at_call 60; refine (kf _).mono ?_; rintro e w' ⟨rfl, h1, h2⟩)
  refine ⟨rfl, _, rfl, _, results_none rfl _ _ _, rfl, rfl, h1, (Fr.alloc _ w _).same h2⟩

set_option maxHeartbeats 400000 in
theorem idle_texts (b : Nat) (w : World) :
    CallsD Try.prog 98 #[.pointer (some ⟨b, 0, none⟩)] .returning w fun e u' w' => e = .returned (.tuple #[]) ∧ u' = .returning ∧ w' = w := by
  refine callsD_of_wpS Try.func98 rfl fun c₀ cs hu => ?_
  have e0 : (#[Value.pointer (some ⟨b, 0, none⟩)] ++ Array.replicate (Try.f98.ntmps - (#[Value.pointer (some ⟨b, 0, none⟩)] : Array Value).size) undef) = #[Value.pointer (some ⟨b, 0, none⟩), undef, undef, undef, undef, undef, undef, undef, undef, undef, undef, undef, undef, undef] := rfl
  rw [e0]
  clear e0
  apply wpS_seq
  apply wpS_region
  simp [wpOpsS, go_sem, recoverD, hu, Try.ntmps98, Exit.thenS]
  refine wpS_of_wp ?_
  go_wp2
  refine ⟨rfl, .returning, ?_, _, results_none rfl _ _ _, rfl, rfl, rfl⟩
  rw [← hu]

set_option maxHeartbeats 400000 in
theorem face_texts_dead (pv fv : Value) (c : Int) (w : World) (hc : (c == 0) = false) (hp : ∃ a, pv = .pointer a) (hfv : ∃ x y z, fv = .func x y z)
    (ke : ∀ o : Obj, Calls Try.prog 18 #[pv] (w.alloc o) fun e w' => e = .returned (.int .i64 c) ∧ w.alloc o = w') :
    Calls Try.prog 85 #[pv, fv] w fun e w' => e = .returned (.slice none 0 0) ∧ w' = w.alloc (.cells #[pv] 38) := by
  obtain ⟨a, rfl⟩ := hp
  obtain ⟨x, y, z, rfl⟩ := hfv
  go_enter_defers Try.func85, Try.ntmps85
  go_wp2_with (go_at_call 18; refine (ke _).mono ?_; rintro e w' ⟨rfl, rfl⟩)
  exact ⟨_, results_tmp rfl _ _ _, rfl, rfl⟩

set_option maxHeartbeats 400000 in
theorem face_texts_ok (p0 p1 p2 : Value) (q : Nat) (rest rest' : List UInt8) (A : Value → World → Prop) (w : World) (hr : Rd w q rest 0)
    (kt : Calls Try.prog 86 #[p0, p1, p2] (w.alloc (.cells #[rp q] 38)) fun e w' => (∃ v, e = .returned v ∧ A v w') ∧ Rd w' q rest' 0 ∧ Fr (fun k => k = q) (w.alloc (.cells #[rp q] 38)) w') :
    Calls Try.prog 85 #[rp q, .func (.func 86) #[] #[p0, p1, p2]] w fun e w' => (∃ v, e = .returned v ∧ A v w') ∧ Rd w' q rest' 0 ∧ Fr (fun k => k = q) w w' := by
  have hmf : ∀ (fn : Fn) (first cap : Array Value) (w : World), (Instr.makeFunc fn first cap).run Try.prog w = .ok (.func fn first cap) w := fun _ _ _ _ => rfl
  have ke := fun o : Obj => err_some q rest 0 (w.alloc o) (hr.keep (Fr.alloc (fun _ => False) w o) (fun f => f) (fun _ _ _ _ f => f))
  clear hr
  go_enter_defers Try.func85, Try.ntmps85
  go_wp2_with (first
    | (go_at_call 18; refine (ke _).mono ?_; rintro e w' ⟨rfl, rfl⟩)
    | (go_at_call 86; refine kt.mono ?_; rintro e w1 ⟨⟨v, rfl, hv⟩, h1, h2⟩))
  refine leaves_cons (f := 98) (args := #[.pointer (some ⟨w.heap.size, 0, none⟩)]) (by simp) (by simp [go_sem]) ?_
  refine (idle_texts w.heap.size _).mono ?_
  rintro e u' w'' ⟨rfl, rfl, rfl⟩
  exact ⟨_, results_tmp rfl _ _ _, ⟨v, rfl, hv⟩, h1, (Fr.alloc _ w _).same h2⟩

set_option maxHeartbeats 400000 in
theorem face_texts_err (p0 p1 p2 : Value) (q : Nat) (rest : List UInt8) (c : Int) (w : World) (hr : Rd w q rest 0) (hc : (c == 0) = false)
    (kt : Calls Try.prog 86 #[p0, p1, p2] (w.alloc (.cells #[rp q] 38)) fun e w' => e = giveUp c ∧ (∃ rest', Rd w' q rest' 0) ∧ Fr (fun k => k = q) (w.alloc (.cells #[rp q] 38)) w') :
    Calls Try.prog 85 #[rp q, .func (.func 86) #[] #[p0, p1, p2]] w fun e w' => e = .returned (.slice none 0 0) ∧ Rd w' q [] c ∧ Fr (fun k => k = q) w w' := by
  have hmf : ∀ (fn : Fn) (first cap : Array Value) (w : World), (Instr.makeFunc fn first cap).run Try.prog w = .ok (.func fn first cap) w := fun _ _ _ _ => rfl
  have ke := fun o : Obj => err_some q rest 0 (w.alloc o) (hr.keep (Fr.alloc (fun _ => False) w o) (fun f => f) (fun _ _ _ _ f => f))
  have hq : q < w.heap.size := by obtain ⟨v, h, _⟩ := hr; exact lt_of_heap h
  clear hr
  unfold giveUp at kt
  go_enter_defers Try.func85, Try.ntmps85
  go_wp2_with (first
    | (go_at_call 18; refine (ke _).mono ?_; rintro e w' ⟨rfl, rfl⟩)
    | (go_at_call 86; refine kt.mono ?_; rintro e w1 ⟨rfl, ⟨rest', h1⟩, h2⟩))
  refine leaves_cons (f := 98) (args := #[.pointer (some ⟨w.heap.size, 0, none⟩)]) (by simp) (by simp [go_sem]) ?_
  have hb : w1.cell? ⟨w.heap.size, 0, none⟩ = some (rp q) := h2.cell (by simp) (by show ¬ w.heap.size = q; omega)
  refine (catch_texts w.heap.size q rest' c w1 hb h1 hc).mono ?_
  rintro e u' w'' ⟨rfl, rfl, h3, h4⟩
  simp [Leaves, settle, results, Try.results85, go_sem, giving]
  exact ⟨h3, (Fr.alloc _ w _).same (h2.same h4)⟩
end Go.Proofs.Ytflemhekoffpoaa
