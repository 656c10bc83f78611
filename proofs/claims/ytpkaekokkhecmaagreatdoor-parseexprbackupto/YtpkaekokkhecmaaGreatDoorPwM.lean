/- The program's parser: its face. -/
import Derived.Test.YtpkaekokkhecmaaGreatDoorPwL
import Derived.Test.YtpkaekokkhecmaaGreatDoorLxAll
import Derived.Recover
namespace Go.Proofs.YtpkaekokkhecmaaGreatDoor
open Go.RowKit Lx Te
set_option linter.unusedSimpArgs false
set_option linter.unusedVariables false
set_option linter.unusedSectionVars false

set_option maxRecDepth 20000 in
set_option maxHeartbeats 1000000 in
theorem np_c (B0 B : Nat) (w : World) (v : Value) (ts : List Tok) (n : Nat) (hn : ts.length ≤ 1024) (hB0 : B0 ≤ B) (hB : B ≤ w.heap.size) (hT : Tq B0 w) (hr : Tr w B 57 v ts) :
    Calls Tryz.prog 27 #[v, ci (n : Int)] w fun e w' => ∃ q, e = .returned (pp q) ∧ Ps w' q (ts ++ [Pz.endT n]) 0 false ∧ w.heap.size ≤ q ∧ Fr (fun k => v.ownBlock = some k) w w' := by
  obtain ⟨ao, cap, rfl⟩ := hr.len
  have hrH : Hidden (Tr w B 57 (.slice ao ts.length cap) ts) := hr
  clear hr
  go_enter Tryz.func27, Tryz.ntmps27
  go_wp2_with (at_builtin
               go_must (refine wpList_tok rfl _ _ 34 57 Tryz.underlying34 info_tok3 rfl B (.slice ao ts.length cap) ts (Pz.endT n) w.heap.size 1 rfl ?c0 rfl ?c1 ?c2 ?c3 ?_)
               case c0 => go_must (exact Tr.keepN hrH (Fr.alloc _ _ _))
               case c1 => go_must (exact fun i u hu => (cell_of_row _ _ i _ _ _ (alloc_new _ _)).trans (tok_arr (Pz.endT n) i u hu))
               case c2 => go_must (omega)
               case c3 => go_must (simp; omega)
               go_must (intro v2 W2 hrow2 f2)
               go_must (obtain ⟨g2, cap2, rfl, hc1, hc2, hg1, hg2, hcells⟩ := hrow2.out (by simp))
               have hcellsH : Hidden (∀ (i : Nat) (t : Tok), (ts ++ [Pz.endT n])[i]? = some t → ∀ (j : Nat) (x : Value), (tokC t)[j]? = some x → W2.cell? ⟨g2, i * 5 + j, none⟩ = some x) := hcells
               clear hcells)
  go_ret
  have fa := Fr.alloc (fun _ => False) w (.cells #[.int .i64 0, .string ⟨#[]⟩, .int .i64 0, .int .u64 0, .int .i64 (n : Int)] 57)
  have hl := Tr.low hrH
  have s2 := f2.size
  simp only [World.size_alloc] at s2
  have hfull : Fr (fun k => Value.ownBlock (.slice ao ts.length cap) = some k) w W2 := (fa.mono (fun _ _ f => f.elim)).same f2
  have fb := Fr.alloc (fun _ => False) W2 (psO (.slice (some ⟨g2, 0, none⟩) (ts.length + 1) cap2) 0 false)
  have hTq : Tq W2.heap.size (W2.alloc (psO (.slice (some ⟨g2, 0, none⟩) (ts.length + 1) cap2) 0 false)) := fun w' hf' => ((hT.step hfull (fun k hk => by have := hl k hk; omega)).step fb (fun _ f => f.elim)) w' (hf'.mono (fun k _ hk => by omega))
  refine ⟨W2.heap.size, rfl, ⟨hTq, g2, 0, cap2, ?_, hg2, hc1, hc2, ?_⟩, by omega, hfull.same (Fr.alloc _ _ _)⟩
  · have := alloc_new W2 (psO (.slice (some ⟨g2, 0, none⟩) (ts.length + 1) cap2) 0 false)
    rw [List.length_append]
    exact this
  · intro i t ht j x hx
    have h1 : W2.cell? ⟨g2, i * 5 + j, none⟩ = some x := hcellsH i t ht j x hx
    rw [Nat.zero_add]
    exact fb.cellN h1
/-- A frame that has given up. -/
def gvP (p : Nat) (c : Int) (done : Bool) : FrameMode := .panicking [{ v := .iface 75 (.agg #[.int .i64 (p : Int), .int .i64 c]), recovered := done }]
theorem assert_faultP (v : Value) (w : World) : (Instr.typeAssert (.iface 75 v) 20 75 true).run Tryz.prog w = .ok (.tuple #[v, .bool true]) w := by kernel_rfl

set_option maxHeartbeats 1000000 in
theorem catchM (b1 b2 : Nat) (hne : b1 ≠ b2) (p : Nat) (c : Int) (w : World) (hb1 : w.heap[b1]? = some (.cells #[ci 0] 3 (0, 0))) (hb2 : w.heap[b2]? = some (.cells #[ci 0] 28 (0, 0))) :
    CallsD Tryz.prog 43 #[.pointer (some ⟨b1, 0, none⟩), .pointer (some ⟨b2, 0, none⟩)] (gvP p c false) w fun e u' w' =>
      e = .returned (.tuple #[]) ∧ u' = gvP p c true ∧ w'.heap[b1]? = some (.cells #[ci (p : Int)] 3 (0, 0)) ∧ w'.heap[b2]? = some (.cells #[ci c] 28 (0, 0)) ∧ Fr (fun k => k = b1 ∨ k = b2) w w' := by
  have hta := assert_faultP
  refine callsD_of_wpS Tryz.func43 rfl fun c₀ cs hu => ?_
  have e0 : (#[Value.pointer (some ⟨b1, 0, none⟩), Value.pointer (some ⟨b2, 0, none⟩)] ++ Array.replicate (Tryz.f43.ntmps - (#[Value.pointer (some ⟨b1, 0, none⟩), Value.pointer (some ⟨b2, 0, none⟩)] : Array Value).size) undef) = #[Value.pointer (some ⟨b1, 0, none⟩), Value.pointer (some ⟨b2, 0, none⟩), undef, undef, undef, undef, undef, undef, undef, undef, undef, undef, undef, undef, undef] := rfl
  rw [e0]
  clear e0
  apply wpS_seq
  apply wpS_region
  simp [wpOpsS, go_sem, recoverD, hu, Tryz.ntmps43, Exit.thenS, gvP]
  refine wpS_of_wp ?_
  have hl1 := lt_of_heap hb1
  have hl2 := lt_of_heap hb2
  have c1 : w.cell? ⟨b1, 0, none⟩ = some (ci 0) := cell_of_row _ _ 0 _ _ _ hb1
  have z1 := frozen_row hb1 0
  have c2 : w.cell? ⟨b2, 0, none⟩ = some (ci 0) := cell_of_row _ _ 0 _ _ _ hb2
  have z2 := frozen_row hb2 0
  have fp := Fr.put w b1 0 (.int .i64 (p : Int))
  have fq := Fr.put (w.setCell ⟨b1, 0, none⟩ (.int .i64 (p : Int))) b2 0 (.int .i64 c)
  have hB1 : (w.setCell ⟨b1, 0, none⟩ (.int .i64 (p : Int))).heap[b1]? = some (.cells #[ci (p : Int)] 3 (0, 0)) := heap_setCell_same _ _ 0 _ _ _ hb1
  have hB2 := fp.heap hb2 (fun e => hne e.symm)
  have fa := (Fr.alloc (fun _ => False) ((w.setCell ⟨b1, 0, none⟩ (.int .i64 (p : Int))).setCell ⟨b2, 0, none⟩ (.int .i64 c)) (.cells #[.int .i64 (p : Int), .int .i64 c] 75)).same (Fr.drew (fun _ => False) _)
  have hC1H : Hidden _ := fa.heap (fq.heap hB1 hne) (fun f => f)
  have hC2 : ((w.setCell ⟨b1, 0, none⟩ (.int .i64 (p : Int))).setCell ⟨b2, 0, none⟩ (.int .i64 c)).heap[b2]? = some (.cells #[ci c] 28 (0, 0)) := heap_setCell_same _ _ 0 _ _ _ hB2
  have hC2H : Hidden _ := fa.heap hC2 (fun f => f)
  have hfr : Fr (fun k => k = b1 ∨ k = b2) w _ := ((fp.mono (fun _ _ hk => Or.inl hk)).same (fq.mono (fun _ _ hk => Or.inr hk))).same (fa.mono (fun _ _ f => f.elim))
  clear hb1 hb2 hB1 hB2 hC2
  go_wp2_with fail
  go_region
  all_goals go_wp2_with fail
  all_goals exact ⟨rfl, _, rfl, _, results_none rfl _ _ _, rfl, rfl, hC1H, hC2H, hfr⟩
set_option maxHeartbeats 1000000 in
theorem catchX (b1 b2 : Nat) (hne : b1 ≠ b2) (p : Nat) (c : Int) (w : World) (hb1 : w.heap[b1]? = some (.cells #[ci 0] 3 (0, 0))) (hb2 : w.heap[b2]? = some (.cells #[ci 0] 28 (0, 0))) :
    CallsD Tryz.prog 26 #[.pointer (some ⟨b1, 0, none⟩), .pointer (some ⟨b2, 0, none⟩)] (gvP p c false) w fun e u' w' =>
      e = .returned (.tuple #[]) ∧ u' = gvP p c true ∧ w'.heap[b1]? = some (.cells #[ci (p : Int)] 3 (0, 0)) ∧ w'.heap[b2]? = some (.cells #[ci c] 28 (0, 0)) ∧ Fr (fun k => k = b1 ∨ k = b2) w w' := by
  have hta := assert_faultP
  refine callsD_of_wpS Tryz.func26 rfl fun c₀ cs hu => ?_
  have e0 : (#[Value.pointer (some ⟨b1, 0, none⟩), Value.pointer (some ⟨b2, 0, none⟩)] ++ Array.replicate (Tryz.f26.ntmps - (#[Value.pointer (some ⟨b1, 0, none⟩), Value.pointer (some ⟨b2, 0, none⟩)] : Array Value).size) undef) = #[Value.pointer (some ⟨b1, 0, none⟩), Value.pointer (some ⟨b2, 0, none⟩), undef, undef, undef, undef, undef, undef, undef, undef, undef, undef, undef, undef, undef] := rfl
  rw [e0]
  clear e0
  apply wpS_seq
  apply wpS_region
  simp [wpOpsS, go_sem, recoverD, hu, Tryz.ntmps26, Exit.thenS, gvP]
  refine wpS_of_wp ?_
  have hl1 := lt_of_heap hb1
  have hl2 := lt_of_heap hb2
  have c1 : w.cell? ⟨b1, 0, none⟩ = some (ci 0) := cell_of_row _ _ 0 _ _ _ hb1
  have z1 := frozen_row hb1 0
  have c2 : w.cell? ⟨b2, 0, none⟩ = some (ci 0) := cell_of_row _ _ 0 _ _ _ hb2
  have z2 := frozen_row hb2 0
  have fp := Fr.put w b1 0 (.int .i64 (p : Int))
  have fq := Fr.put (w.setCell ⟨b1, 0, none⟩ (.int .i64 (p : Int))) b2 0 (.int .i64 c)
  have hB1 : (w.setCell ⟨b1, 0, none⟩ (.int .i64 (p : Int))).heap[b1]? = some (.cells #[ci (p : Int)] 3 (0, 0)) := heap_setCell_same _ _ 0 _ _ _ hb1
  have hB2 := fp.heap hb2 (fun e => hne e.symm)
  have fa := (Fr.alloc (fun _ => False) ((w.setCell ⟨b1, 0, none⟩ (.int .i64 (p : Int))).setCell ⟨b2, 0, none⟩ (.int .i64 c)) (.cells #[.int .i64 (p : Int), .int .i64 c] 75)).same (Fr.drew (fun _ => False) _)
  have hC1H : Hidden _ := fa.heap (fq.heap hB1 hne) (fun f => f)
  have hC2 : ((w.setCell ⟨b1, 0, none⟩ (.int .i64 (p : Int))).setCell ⟨b2, 0, none⟩ (.int .i64 c)).heap[b2]? = some (.cells #[ci c] 28 (0, 0)) := heap_setCell_same _ _ 0 _ _ _ hB2
  have hC2H : Hidden _ := fa.heap hC2 (fun f => f)
  have hfr : Fr (fun k => k = b1 ∨ k = b2) w _ := ((fp.mono (fun _ _ hk => Or.inl hk)).same (fq.mono (fun _ _ hk => Or.inr hk))).same (fa.mono (fun _ _ f => f.elim))
  clear hb1 hb2 hB1 hB2 hC2
  go_wp2_with fail
  go_region
  all_goals go_wp2_with fail
  all_goals exact ⟨rfl, _, rfl, _, results_none rfl _ _ _, rfl, rfl, hC1H, hC2H, hfr⟩
set_option maxHeartbeats 1000000 in
theorem idleM (b1 b2 : Nat) (w : World) :
    CallsD Tryz.prog 43 #[.pointer (some ⟨b1, 0, none⟩), .pointer (some ⟨b2, 0, none⟩)] .returning w fun e u' w' => e = .returned (.tuple #[]) ∧ u' = .returning ∧ w' = w := by
  refine callsD_of_wpS Tryz.func43 rfl fun c₀ cs hu => ?_
  have e0 : (#[Value.pointer (some ⟨b1, 0, none⟩), Value.pointer (some ⟨b2, 0, none⟩)] ++ Array.replicate (Tryz.f43.ntmps - (#[Value.pointer (some ⟨b1, 0, none⟩), Value.pointer (some ⟨b2, 0, none⟩)] : Array Value).size) undef) = #[Value.pointer (some ⟨b1, 0, none⟩), Value.pointer (some ⟨b2, 0, none⟩), undef, undef, undef, undef, undef, undef, undef, undef, undef, undef, undef, undef, undef] := rfl
  rw [e0]
  clear e0
  apply wpS_seq
  apply wpS_region
  simp [wpOpsS, go_sem, recoverD, hu, Tryz.ntmps43, Exit.thenS]
  refine wpS_of_wp ?_
  go_wp2
  refine ⟨rfl, .returning, ?_, _, results_none rfl _ _ _, rfl, rfl, rfl⟩
  rw [← hu]
set_option maxHeartbeats 1000000 in
theorem idleX (b1 b2 : Nat) (w : World) :
    CallsD Tryz.prog 26 #[.pointer (some ⟨b1, 0, none⟩), .pointer (some ⟨b2, 0, none⟩)] .returning w fun e u' w' => e = .returned (.tuple #[]) ∧ u' = .returning ∧ w' = w := by
  refine callsD_of_wpS Tryz.func26 rfl fun c₀ cs hu => ?_
  have e0 : (#[Value.pointer (some ⟨b1, 0, none⟩), Value.pointer (some ⟨b2, 0, none⟩)] ++ Array.replicate (Tryz.f26.ntmps - (#[Value.pointer (some ⟨b1, 0, none⟩), Value.pointer (some ⟨b2, 0, none⟩)] : Array Value).size) undef) = #[Value.pointer (some ⟨b1, 0, none⟩), Value.pointer (some ⟨b2, 0, none⟩), undef, undef, undef, undef, undef, undef, undef, undef, undef, undef, undef, undef, undef] := rfl
  rw [e0]
  clear e0
  apply wpS_seq
  apply wpS_region
  simp [wpOpsS, go_sem, recoverD, hu, Tryz.ntmps26, Exit.thenS]
  refine wpS_of_wp ?_
  go_wp2
  refine ⟨rfl, .returning, ?_, _, results_none rfl _ _ _, rfl, rfl, rfl⟩
  rw [← hu]

theorem results_three {fn : Func} {p0 p1 p2 : Tmp} {t0 t1 t2 : TypeId} (h : fn.results = #[.cell p0 t0, .cell p1 t1, .cell p2 t2]) (tmps : Array Value) (w : World) (a0 a1 a2 : Addr) (v0 v1 v2 : Value)
    (h0 : tmps.getD p0 undef = .pointer (some a0)) (h1 : tmps.getD p1 undef = .pointer (some a1)) (h2 : tmps.getD p2 undef = .pointer (some a2))
    (l0 : (loadVar t0 a0).run Tryz.prog w = .ok v0 w) (l1 : (loadVar t1 a1).run Tryz.prog w = .ok v1 w) (l2 : (loadVar t2 a2).run Tryz.prog w = .ok v2 w) : (results fn tmps).run Tryz.prog w = .ok (.tuple #[v0, v1, v2]) w := by
  have h0' : tmps[p0]?.getD undef = .pointer (some a0) := by simpa using h0
  have h1' : tmps[p1]?.getD undef = .pointer (some a1) := by simpa using h1
  have h2' : tmps[p2]?.getD undef = .pointer (some a2) := by simpa using h2
  simp [results, h, h0', h1', h2', asAddr, l0, l1, l2, Sem.run_bind, Result.andThen]
theorem load_int (w : World) (b : Nat) (z : Int) (h : w.heap[b]? = some (.cells #[ci z] 3 (0, 0))) : (loadVar 3 ⟨b, 0, none⟩).run Tryz.prog w = .ok (ci z) w := by
  have hc : w.cell? ⟨b, 0, none⟩ = some (ci z) := cell_of_row _ _ 0 _ _ _ h
  simp [go_sem, hc]
theorem load_errno (w : World) (b : Nat) (z : Int) (h : w.heap[b]? = some (.cells #[ci z] 28 (0, 0))) : (loadVar 28 ⟨b, 0, none⟩).run Tryz.prog w = .ok (ci z) w := by
  have hc : w.cell? ⟨b, 0, none⟩ = some (ci z) := cell_of_row _ _ 0 _ _ _ h
  simp [go_sem, hc]
end Go.Proofs.YtpkaekokkhecmaaGreatDoor
