/- The face of a look: what it gave up by. -/
import Derived.Test.YtfkccanjdlajlabGreatDoorTrL
namespace Go.Proofs.YtfkccanjdlajlabGreatDoor
open Go.RowKit Te
set_option linter.unusedSimpArgs false
set_option linter.unusedVariables false

/-- A frame that has given up. -/
def gvn (c : Int) (done : Bool) : FrameMode := .panicking [{ v := .iface 101 (.agg #[.int .i64 c]), recovered := done }]
theorem assert_fault (v : Value) (w : World) : (Instr.typeAssert (.iface 101 v) 20 101 true).run Tryz.prog w = .ok (.tuple #[v, .bool true]) w := by kernel_rfl

set_option maxHeartbeats 1000000 in
theorem catch_fault (b : Nat) (c : Int) (w : World) (hb : w.heap[b]? = some (.cells #[ci 0] 45 (0, 0))) :
    CallsD Tryz.prog 62 #[.pointer (some ⟨b, 0, none⟩)] (gvn c false) w fun e u' w' =>
      e = .returned (.tuple #[]) ∧ u' = gvn c true ∧ w'.heap[b]? = some (.cells #[ci c] 45 (0, 0)) ∧ Fr (fun k => k = b) w w' := by
  have hta := assert_fault
  refine callsD_of_wpS Tryz.func62 rfl fun c₀ cs hu => ?_
  have e0 : (#[Value.pointer (some ⟨b, 0, none⟩)] ++ Array.replicate (Tryz.f62.ntmps - (#[Value.pointer (some ⟨b, 0, none⟩)] : Array Value).size) undef) = #[Value.pointer (some ⟨b, 0, none⟩), undef, undef, undef, undef, undef, undef, undef, undef, undef, undef, undef] := rfl
  rw [e0]
  clear e0
  apply wpS_seq
  apply wpS_region
  simp [wpOpsS, go_sem, recoverD, hu, Tryz.ntmps62, Exit.thenS, gvn]
  refine wpS_of_wp ?_
  have hb0 : w.cell? ⟨b, 0, none⟩ = some (ci 0) := cell_of_row _ _ 0 _ _ _ hb
  have hlt := lt_of_heap hb
  have hz : w.frozen? ⟨b, 0, none⟩ = false := by simp [World.frozen?, hb]
  have hz2 : ∀ o : Obj, (w.alloc o).frozen? ⟨b, 0, none⟩ = false := fun o => by
    have : (w.alloc o).heap[b]? = some (.cells #[ci 0] 45 (0, 0)) := (alloc_old w o b hlt).trans hb
    simp [World.frozen?, this]
  have hc2 : ∀ o : Obj, (w.alloc o).cell? ⟨b, 0, none⟩ = some (ci 0) := fun o => (Fr.alloc (fun _ => False) w o).cellN hb0
  go_wp2
  refine ⟨rfl, _, rfl, _, results_none rfl _ _ _, rfl, rfl, ?_, ?_⟩
  · rw [alloc_old _ _ _ (by simpa using hlt)]
    exact heap_setCell_same w b 0 #[ci 0] 45 (ci c) hb
  · exact (Fr.setCell w ⟨b, 0, none⟩ _).same (Fr.alloc _ _ _)
set_option maxHeartbeats 1000000 in
theorem idle_fault (b : Nat) (w : World) :
    CallsD Tryz.prog 62 #[.pointer (some ⟨b, 0, none⟩)] .returning w fun e u' w' => e = .returned (.tuple #[]) ∧ u' = .returning ∧ w' = w := by
  refine callsD_of_wpS Tryz.func62 rfl fun c₀ cs hu => ?_
  have e0 : (#[Value.pointer (some ⟨b, 0, none⟩)] ++ Array.replicate (Tryz.f62.ntmps - (#[Value.pointer (some ⟨b, 0, none⟩)] : Array Value).size) undef) = #[Value.pointer (some ⟨b, 0, none⟩), undef, undef, undef, undef, undef, undef, undef, undef, undef, undef, undef] := rfl
  rw [e0]
  clear e0
  apply wpS_seq
  apply wpS_region
  simp [wpOpsS, go_sem, recoverD, hu, Tryz.ntmps62, Exit.thenS]
  refine wpS_of_wp ?_
  go_wp2
  refine ⟨rfl, .returning, ?_, _, results_none rfl _ _ _, rfl, rfl, rfl⟩
  rw [← hu]

set_option maxHeartbeats 1000000 in
theorem fault_m (p : Addr) (c : Int) (w : World)
    (kt : ∀ w0, Fr (fun _ => False) w w0 → Calls Tryz.prog 36 #[.pointer (some p)] w0 fun e w' => e = lk c ∧ Fr (fun _ => False) w0 w') :
    Calls Tryz.prog 35 #[.func (.func 36) #[] #[.pointer (some p)]] w fun e w' => e = .returned (ci c) ∧ Fr (fun _ => False) w w' := by
  have hmf : ∀ (fn : Fn) (first cap : Array Value) (w : World), (Instr.makeFunc fn first cap).run Tryz.prog w = .ok (.func fn first cap) w := fun _ _ _ _ => rfl
  have f0 := Fr.alloc (fun _ => False) w (.cells #[ci 0] 45)
  have hb0 : Hidden ((w.alloc (.cells #[ci 0] 45)).heap[w.heap.size]? = some (.cells #[ci 0] 45 (0, 0))) := alloc_new _ _
  have k1 := kt _ f0
  clear kt
  by_cases hc : c = 0
  · subst hc
    rw [lk_0] at k1
    go_enter_defers Tryz.func35, Tryz.ntmps35
    go_wp2_with fail
    go_at_call 36
    refine k1.mono ?_
    rintro e w1 ⟨rfl, f1⟩
    have hb1 := f1.heap hb0 (fun f => f)
    have hc1 : w1.cell? ⟨w.heap.size, 0, none⟩ = some (ci 0) := cell_of_row _ _ 0 _ _ _ hb1
    have hz1 : w1.frozen? ⟨w.heap.size, 0, none⟩ = false := by simp [World.frozen?, hb1]
    go_wp2_with fail
    refine leaves_cons (f := 62) (args := #[.pointer (some ⟨w.heap.size, 0, none⟩)]) (by simp) (by simp [go_sem]) ?_
    refine (idle_fault w.heap.size _).mono ?_
    rintro e u' w'' ⟨rfl, rfl, rfl⟩
    have hc3 : (w1.setCell ⟨w.heap.size, 0, none⟩ (.int .i64 0)).cell? ⟨w.heap.size, 0, none⟩ = some (ci 0) := cell_of_row _ _ 0 _ _ _ (heap_setCell_same w1 w.heap.size 0 #[ci 0] 45 (ci 0) hb1)
    simp [Leaves, settle, results, Tryz.results35, go_sem, hc3]
    exact fr_set (f0.same f1) (Nat.le_refl _) _ _
  · rw [lk_ne hc] at k1
    unfold gUp at k1
    go_enter_defers Tryz.func35, Tryz.ntmps35
    go_wp2_with fail
    go_at_call 36
    refine k1.mono ?_
    rintro e w1 ⟨rfl, f1⟩
    have hb1 := f1.heap hb0 (fun f => f)
    go_wp2_with fail
    refine leaves_cons (f := 62) (args := #[.pointer (some ⟨w.heap.size, 0, none⟩)]) (by simp) (by simp [go_sem]) ?_
    refine (catch_fault w.heap.size c w1 hb1).mono ?_
    rintro e u' w'' ⟨rfl, rfl, h3, h4⟩
    have hc3 : w''.cell? ⟨w.heap.size, 0, none⟩ = some (ci c) := cell_of_row _ _ 0 _ _ _ h3
    simp [Leaves, settle, results, Tryz.results35, go_sem, hc3, gvn]
    exact (f0.same f1).over h4 (fun k hk => by have : k = w.heap.size := hk; omega)

set_option maxHeartbeats 1000000 in
theorem fault_x (p : Addr) (c : Int) (w : World)
    (kt : ∀ w0, Fr (fun _ => False) w w0 → Calls Tryz.prog 56 #[.pointer (some p)] w0 fun e w' => e = lk c ∧ Fr (fun _ => False) w0 w') :
    Calls Tryz.prog 35 #[.func (.func 56) #[] #[.pointer (some p)]] w fun e w' => e = .returned (ci c) ∧ Fr (fun _ => False) w w' := by
  have hmf : ∀ (fn : Fn) (first cap : Array Value) (w : World), (Instr.makeFunc fn first cap).run Tryz.prog w = .ok (.func fn first cap) w := fun _ _ _ _ => rfl
  have f0 := Fr.alloc (fun _ => False) w (.cells #[ci 0] 45)
  have hb0 : Hidden ((w.alloc (.cells #[ci 0] 45)).heap[w.heap.size]? = some (.cells #[ci 0] 45 (0, 0))) := alloc_new _ _
  have k1 := kt _ f0
  clear kt
  by_cases hc : c = 0
  · subst hc
    rw [lk_0] at k1
    go_enter_defers Tryz.func35, Tryz.ntmps35
    go_wp2_with fail
    go_at_call 56
    refine k1.mono ?_
    rintro e w1 ⟨rfl, f1⟩
    have hb1 := f1.heap hb0 (fun f => f)
    have hc1 : w1.cell? ⟨w.heap.size, 0, none⟩ = some (ci 0) := cell_of_row _ _ 0 _ _ _ hb1
    have hz1 : w1.frozen? ⟨w.heap.size, 0, none⟩ = false := by simp [World.frozen?, hb1]
    go_wp2_with fail
    refine leaves_cons (f := 62) (args := #[.pointer (some ⟨w.heap.size, 0, none⟩)]) (by simp) (by simp [go_sem]) ?_
    refine (idle_fault w.heap.size _).mono ?_
    rintro e u' w'' ⟨rfl, rfl, rfl⟩
    have hc3 : (w1.setCell ⟨w.heap.size, 0, none⟩ (.int .i64 0)).cell? ⟨w.heap.size, 0, none⟩ = some (ci 0) := cell_of_row _ _ 0 _ _ _ (heap_setCell_same w1 w.heap.size 0 #[ci 0] 45 (ci 0) hb1)
    simp [Leaves, settle, results, Tryz.results35, go_sem, hc3]
    exact fr_set (f0.same f1) (Nat.le_refl _) _ _
  · rw [lk_ne hc] at k1
    unfold gUp at k1
    go_enter_defers Tryz.func35, Tryz.ntmps35
    go_wp2_with fail
    go_at_call 56
    refine k1.mono ?_
    rintro e w1 ⟨rfl, f1⟩
    have hb1 := f1.heap hb0 (fun f => f)
    go_wp2_with fail
    refine leaves_cons (f := 62) (args := #[.pointer (some ⟨w.heap.size, 0, none⟩)]) (by simp) (by simp [go_sem]) ?_
    refine (catch_fault w.heap.size c w1 hb1).mono ?_
    rintro e u' w'' ⟨rfl, rfl, h3, h4⟩
    have hc3 : w''.cell? ⟨w.heap.size, 0, none⟩ = some (ci c) := cell_of_row _ _ 0 _ _ _ h3
    simp [Leaves, settle, results, Tryz.results35, go_sem, hc3, gvn]
    exact (f0.same f1).over h4 (fun k hk => by have : k = w.heap.size := hk; omega)
end Go.Proofs.YtfkccanjdlajlabGreatDoor
