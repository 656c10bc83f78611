/- What an instruction makes of the stack: stackBehind. -/
import Derived.Test.YtphpmaimgndjmaaDoorCdL
namespace Go.Proofs.YtphpmaimgndjmaaDoor.Cd
open Go.RowKit Ty
set_option linter.unusedSimpArgs false
set_option linter.unusedVariables false

set_option maxRecDepth 20000 in
set_option maxHeartbeats 1000000 in
theorem behind_no (q : Nat) (op N t b by' lo' hi' nu ta pu tr : Int) (nm : Bs) (en : Bool) (s X : Bs) (w : World) (kt : ∀ W, Fr (fun _ => False) w W → Calls Tryd.prog 66 #[.pointer (some ⟨q, 0, none⟩), .agg #[ci op, ci N, ci t, .int .u64 b], .agg #[ct nm, ci by', ci lo', ci hi', ci nu, ci ta, ci pu, ci tr, .bool en], ct s] W fun e w' => e = .returned (.tuple #[ct X, .bool false]) ∧ Fr (fun _ => False) W w') :
    Calls Tryd.prog 53 #[.pointer (some ⟨q, 0, none⟩), .agg #[ci op, ci N, ci t, .int .u64 b], .agg #[ct nm, ci by', ci lo', ci hi', ci nu, ci ta, ci pu, ci tr, .bool en], ct s] w fun e w' => e = .returned (.tuple #[ct [], .bool false]) ∧ Fr (fun _ => False) w w' := by
  go_enter Tryd.func53, Tryd.ntmps53
  go_wp2_with (first
    | (go_at_call 66; refine (kt _ ((Fr.alloc _ _ _).same (Fr.alloc _ _ _))).mono ?_; rintro e w1 ⟨rfl, f1⟩))
  go_ret2
  exact ⟨rfl, ((Fr.alloc _ _ _).same (Fr.alloc _ _ _)).same f1⟩
theorem row9 {w : World} {b : Nat} {x0 x1 x2 x3 x4 x5 x6 x7 x8 : Value} {t : TypeId} (hb : w.heap[b]? = some (.cells #[x0, x1, x2, x3, x4, x5, x6, x7, x8] t (0, 0))) :
    w.cell? ⟨b, 0, none⟩ = some x0 ∧ w.cell? ⟨b, 1, none⟩ = some x1 ∧ w.cell? ⟨b, 2, none⟩ = some x2 ∧ w.cell? ⟨b, 3, none⟩ = some x3 ∧ w.cell? ⟨b, 4, none⟩ = some x4 ∧ w.cell? ⟨b, 5, none⟩ = some x5 ∧ w.cell? ⟨b, 6, none⟩ = some x6 ∧ w.cell? ⟨b, 7, none⟩ = some x7 ∧ w.cell? ⟨b, 8, none⟩ = some x8 :=
  ⟨cell_of_row _ _ 0 _ _ _ hb, cell_of_row _ _ 1 _ _ _ hb, cell_of_row _ _ 2 _ _ _ hb, cell_of_row _ _ 3 _ _ _ hb, cell_of_row _ _ 4 _ _ _ hb, cell_of_row _ _ 5 _ _ _ hb, cell_of_row _ _ 6 _ _ _ hb, cell_of_row _ _ 7 _ _ _ hb, cell_of_row _ _ 8 _ _ _ hb⟩
theorem slice_head (l : Bs) (i : Nat) (h : i ≤ l.length) (hl : l.length ≤ 9223372036854775807) (w : World) :
    (Instr.slice 9 (.string ⟨l.toArray⟩) none (some (.int .i64 (i : Int))) none).run Tryd.prog w = .ok (.string ⟨(l.take i).toArray⟩) w := by
  have hs : (⟨l.toArray⟩ : ByteArray).size = l.length := by simp [ByteArray.size]
  rw [run_slice_string_to_if _ _ _ _ _ Tryd.underlying9]
  rw [if_pos (by rw [hs]; omega), Int.toNat_natCast, ex_take]
set_option maxRecDepth 20000 in
set_option maxHeartbeats 1000000 in
theorem behind_ok (q : Nat) (op N t b by' lo' hi' nu ta pu tr : Int) (nm : Bs) (en : Bool) (s X T : Bs) (fit : Bool) (hs : s.length ≤ 100000) (hX : X.length ≤ s.length) (hT : T.length ≤ 100000) (w : World) (kt : ∀ W, Fr (fun _ => False) w W → Calls Tryd.prog 66 #[.pointer (some ⟨q, 0, none⟩), .agg #[ci op, ci N, ci t, .int .u64 b], .agg #[ct nm, ci by', ci lo', ci hi', ci nu, ci ta, ci pu, ci tr, .bool en], ct s] W fun e w' => e = .returned (.tuple #[ct X, .bool true]) ∧ Fr (fun _ => False) W w')
    (kp : ∀ W, Fr (fun _ => False) w W → Calls Tryd.prog 67 #[.pointer (some ⟨q, 0, none⟩), .agg #[ci op, ci N, ci t, .int .u64 b], .agg #[ct nm, ci by', ci lo', ci hi', ci nu, ci ta, ci pu, ci tr, .bool en], ct X] W fun e w' => e = .returned (.tuple #[ct T, .bool fit]) ∧ Fr (fun _ => False) W w') :
    Calls Tryd.prog 53 #[.pointer (some ⟨q, 0, none⟩), .agg #[ci op, ci N, ci t, .int .u64 b], .agg #[ct nm, ci by', ci lo', ci hi', ci nu, ci ta, ci pu, ci tr, .bool en], ct s] w fun e w' => e = .returned (.tuple #[ct (s.take (s.length - X.length) ++ T), .bool fit]) ∧ Fr (fun _ => False) w w' := by
  obtain ⟨m, hm⟩ : ∃ m, m = s.length - X.length := ⟨_, rfl⟩
  have hls := str_len s
  have hlX := str_len X
  have hsl := fun W : World => slice_head s m (by omega) (by omega) W
  have hsub : IntKind.i64.wrap ((s.length : Int) - (X.length : Int)) = (m : Int) := by rw [IntKind.wrap_i64]; omega
  have hcat := fun W : World => run_string_add_lists (P := Tryd.prog) W (s.take m) T (by rw [List.length_take]; omega) (by omega)
  rw [← hm]
  generalize s.take m = H at hsl hcat ⊢
  clear hm
  obtain ⟨V, hV⟩ : ∃ V, V = (w.alloc (.cells #[ci op, ci N, ci t, .int .u64 b] 50 (0, 0))).alloc (.cells #[ct nm, ci by', ci lo', ci hi', ci nu, ci ta, ci pu, ci tr, .bool en] 79 (0, 0)) := ⟨_, rfl⟩
  have fV : Hidden (Fr (fun _ => False) w V) := by rw [hV]; exact (Fr.alloc _ _ _).same (Fr.alloc _ _ _)
  have b5 := box4 (show V.heap[w.heap.size]? = some (.cells #[ci op, ci N, ci t, .int .u64 b] 50 (0, 0)) by rw [hV]; exact heap_alloc2_old _ _ _)
  have b6 := row9 (show V.heap[w.heap.size + 1]? = some (.cells #[ct nm, ci by', ci lo', ci hi', ci nu, ci ta, ci pu, ci tr, .bool en] 79 (0, 0)) by rw [hV]; exact heap_alloc2_new _ _ _)
  have b5H : Hidden _ := b5
  have b6H : Hidden _ := b6
  have hVH : Hidden (V = _) := hV
  clear hV b5 b6
  go_enter Tryd.func53, Tryd.ntmps53
  go_upto_region 1 with fail
  rw [← (show V = _ from hVH)]
  clear hVH
  obtain ⟨c0, c1, c2, c3⟩ := b5H
  obtain ⟨e0, e1, e2, e3, e4, e5, e6, e7, e8⟩ := b6H
  go_wp2_with (first
    | (go_at_call 66; refine (kt _ fV).mono ?_; rintro e w1 ⟨rfl, f1⟩
       replace c0 := f1.cellN c0
       replace c1 := f1.cellN c1
       replace c2 := f1.cellN c2
       replace c3 := f1.cellN c3
       replace e0 := f1.cellN e0
       replace e1 := f1.cellN e1
       replace e2 := f1.cellN e2
       replace e3 := f1.cellN e3
       replace e4 := f1.cellN e4
       replace e5 := f1.cellN e5
       replace e6 := f1.cellN e6
       replace e7 := f1.cellN e7
       replace e8 := f1.cellN e8)
    | (go_at_call 67; refine (kp _ ((show Fr (fun _ => False) w V from fV).same f1)).mono ?_; rintro e w2 ⟨rfl, f2⟩))
  go_ret2
  exact ⟨rfl, ((show Fr (fun _ => False) w V from fV).same f1).same f2⟩
end Go.Proofs.YtphpmaimgndjmaaDoor.Cd
