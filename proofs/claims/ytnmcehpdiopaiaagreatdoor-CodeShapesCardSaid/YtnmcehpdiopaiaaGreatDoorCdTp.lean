/- What a site tells of places and functions: place, told. -/
import Derived.Test.YtnmcehpdiopaiaaGreatDoorCdTo
import Derived.Test.YtnmcehpdiopaiaaGreatDoorTrG
import Derived.Deep.QuietTactic
import Derived.BigQuiet
namespace Go.Proofs.YtnmcehpdiopaiaaGreatDoor.Cd
open Go.RowKit Ty
set_option linter.unusedSimpArgs false
set_option linter.unusedVariables false

set_option maxRecDepth 20000 in
set_option maxHeartbeats 2000000 in
theorem place_loc (q op k : Nat) (t b x : Int) (bl off nl cl : Nat) (hk : k < nl) (h1 : nl ≤ cl) (h2 : cl ≤ 9223372036854775807) (w : World) (hc : w.cell? ⟨q, 2, none⟩ = some (.slice (some ⟨bl, off, none⟩) nl cl)) (hx : w.cell? ⟨bl, off + k, none⟩ = some (ci x)) :
    Calls Tryz.prog 101 #[.pointer (some ⟨q, 0, none⟩), .agg #[ci (op : Int), ci (k : Int), ci t, .int .u64 b], ci 1] w fun e w' => e = .returned (ci x) ∧ Fr (fun _ => False) w w' := by
  obtain ⟨V, hV⟩ : ∃ V, V = w.alloc (.cells #[ci (op : Int), ci (k : Int), ci t, .int .u64 b] 64 (0, 0)) := ⟨_, rfl⟩
  have fV : Fr (fun _ => False) w V := by rw [hV]; exact Fr.alloc _ _ _
  obtain ⟨c0, c1, c2, c3⟩ := box4 (show V.heap[w.heap.size]? = some (.cells #[ci (op : Int), ci (k : Int), ci t, .int .u64 b] 64 (0, 0)) by rw [hV]; exact alloc_new _ _)
  have d2 := fV.cellN hc
  have dx := fV.cellN hx
  have hVH : Hidden (V = _) := hV
  have fVH : Hidden (Fr (fun _ => False) w V) := fV
  clear hV fV hc hx
  go_enter Tryz.func101, Tryz.ntmps101
  go_upto_region 2 with fail
  rw [← (show V = _ from hVH)]
  generalize w.heap.size = G at c0 c1 c2 c3 ⊢
  go_quiet (fail)
  go_wp2_with fail
  go_ret
  exact ⟨rfl, drewN_fr (show Fr (fun _ => False) w V from fVH) _⟩
set_option maxRecDepth 20000 in
set_option maxHeartbeats 2000000 in
theorem place_var (q op k : Nat) (t b x : Int) (bl off nl cl : Nat) (hk : k < nl) (h1 : nl ≤ cl) (h2 : cl ≤ 9223372036854775807) (w : World) (hc : w.cell? ⟨q, 5, none⟩ = some (.slice (some ⟨bl, off, none⟩) nl cl)) (hx : w.cell? ⟨bl, off + k, none⟩ = some (ci x)) :
    Calls Tryz.prog 101 #[.pointer (some ⟨q, 0, none⟩), .agg #[ci (op : Int), ci (k : Int), ci t, .int .u64 b], ci 2] w fun e w' => e = .returned (ci x) ∧ Fr (fun _ => False) w w' := by
  obtain ⟨V, hV⟩ : ∃ V, V = w.alloc (.cells #[ci (op : Int), ci (k : Int), ci t, .int .u64 b] 64 (0, 0)) := ⟨_, rfl⟩
  have fV : Fr (fun _ => False) w V := by rw [hV]; exact Fr.alloc _ _ _
  obtain ⟨c0, c1, c2, c3⟩ := box4 (show V.heap[w.heap.size]? = some (.cells #[ci (op : Int), ci (k : Int), ci t, .int .u64 b] 64 (0, 0)) by rw [hV]; exact alloc_new _ _)
  have d2 := fV.cellN hc
  have dx := fV.cellN hx
  have hVH : Hidden (V = _) := hV
  have fVH : Hidden (Fr (fun _ => False) w V) := fV
  clear hV fV hc hx
  go_enter Tryz.func101, Tryz.ntmps101
  go_upto_region 3 with fail
  rw [← (show V = _ from hVH)]
  generalize w.heap.size = G at c0 c1 c2 c3 ⊢
  go_quiet (fail)
  go_wp2_with fail
  go_ret
  exact ⟨rfl, drewN_fr (show Fr (fun _ => False) w V from fVH) _⟩
set_option maxRecDepth 20000 in
set_option maxHeartbeats 1000000 in
theorem told_place (q : Nat) (op N t b by' lo' hi' nu ta pu tr : Int) (nm : Bs) (en : Bool) (x : Int) (hx : x = 0 ∨ valued x = true) (w : World) (kp : ∀ W, Fr (fun _ => False) w W → Calls Tryz.prog 101 #[.pointer (some ⟨q, 0, none⟩), .agg #[ci op, ci N, ci t, .int .u64 b], ci nu] W fun e w' => e = .returned (ci x) ∧ Fr (fun _ => False) W w') :
    Calls Tryz.prog 87 #[.pointer (some ⟨q, 0, none⟩), .agg #[ci op, ci N, ci t, .int .u64 b], .agg #[ct nm, ci by', ci lo', ci hi', ci nu, ci ta, ci pu, ci tr, .bool en], ci 6] w fun e w' => e = .returned (ct (encSt (oneS x))) ∧ Fr (fun _ => False) w w' := by
  have ks := fun W => single_any x hx W
  generalize encSt (oneS x) = T at ks ⊢
  go_enter Tryz.func87, Tryz.ntmps87
  go_wp2_with (first
    | (go_at_call 101; refine (kp _ ((Fr.alloc _ _ _).same (Fr.alloc _ _ _))).mono ?_; rintro e w1 ⟨rfl, f1⟩)
    | (go_at_call 63; refine (ks _).mono ?_; rintro e w2 ⟨rfl, f2⟩))
  go_ret
  exact ⟨rfl, (((Fr.alloc _ _ _).same (Fr.alloc _ _ _)).same f1).same f2⟩
set_option maxRecDepth 20000 in
set_option maxHeartbeats 4000000 in
theorem told_fnps (q k : Nat) (op t b by' lo' hi' nu ta pu tr : Int) (nm : Bs) (en : Bool) (bl off nl cl : Nat) (ap : Option Addr) (np cp : Nat) (ps : List Int) (hnp : ps.length = np) (hv : ∀ t ∈ ps, valued t = true) (hpb : np ≤ 17592186044416) (hk : k < nl) (h1 : nl ≤ cl) (h2 : cl ≤ 9223372036854775807) (w : World)
    (hc : w.cell? ⟨q, 4, none⟩ = some (.slice (some ⟨bl, off, none⟩) nl cl)) (hx : w.cell? ⟨bl, off + k * 2, none⟩ = some (.slice ap np cp)) (hp : InL w ap cp ps) :
    Calls Tryz.prog 87 #[.pointer (some ⟨q, 0, none⟩), .agg #[ci op, ci (k : Int), ci t, .int .u64 b], .agg #[ct nm, ci by', ci lo', ci hi', ci nu, ci ta, ci pu, ci tr, .bool en], ci 7] w fun e w' => e = .returned (ct (encSt ps)) ∧ Fr (fun _ => False) w w' := by
  have ks := fun W (f : Fr (fun _ => False) w W) => stackOf_any ap np cp ps hnp hv hpb W (hp.keep f)
  generalize encSt ps = T at ks ⊢
  obtain ⟨V, hV⟩ : ∃ V, V = (w.alloc (.cells #[ci op, ci (k : Int), ci t, .int .u64 b] 64 (0, 0))).alloc (.cells #[ct nm, ci by', ci lo', ci hi', ci nu, ci ta, ci pu, ci tr, .bool en] 92 (0, 0)) := ⟨_, rfl⟩
  have fV : Fr (fun _ => False) w V := by rw [hV]; exact (Fr.alloc _ _ _).same (Fr.alloc _ _ _)
  obtain ⟨c0, c1, c2, c3⟩ := box4 (show V.heap[w.heap.size]? = some (.cells #[ci op, ci (k : Int), ci t, .int .u64 b] 64 (0, 0)) by rw [hV]; exact heap_alloc2_old _ _ _)
  have d4 := fV.cellN hc
  have dx := fV.cellN hx
  have hVH : Hidden (V = _) := hV
  have fVH : Hidden (Fr (fun _ => False) w V) := fV
  have ksV : ∀ W, Fr (fun _ => False) V W → _ := fun W f => ks W (fV.same f)
  clear hV fV hc hx hp hv ks
  go_enter Tryz.func87, Tryz.ntmps87
  go_upto_region 11 with fail
  rw [← (show V = _ from hVH)]
  generalize w.heap.size = G at c0 c1 c2 c3 ⊢
  refine wp_region_grow (by kernel_rfl) (by kernel_rfl) ?_
  (repeat (first | (refine grow_op (v := ?_) ?_ ?_ ?_; rotate_left; (focus (first | exact wanted_none rfl | (go_simp; done))); (focus (intro w' hw'; have c0 := hw'.cellN c0; have c1 := hw'.cellN c1; have c2 := hw'.cellN c2; have c3 := hw'.cellN c3; have d4 := hw'.cellN d4; have dx := hw'.cellN dx; (go_simp; first | with_reducible rfl | (go_at_call 102; refine calls_grow hw' ?_; first | (have q := ksV w' hw'; with_reducible exact q))))); (intro a' ha; simp only [Act.put, List.setIfInBounds_toArray, List.set_cons_zero, List.set_cons_succ] at ha; subst ha)) | (refine grow_no ?_ ?_; (focus (first | (go_simp; done) | rfl)); (intro a' ha; simp only [Act.put, List.setIfInBounds_toArray, List.set_cons_zero, List.set_cons_succ] at ha; subst ha)))); refine grow_nil ?_; intro w7 q7
  go_wp2_with fail
  go_ret
  exact ⟨rfl, (show Fr (fun _ => False) w V from fVH).same q7⟩
set_option maxRecDepth 20000 in
set_option maxHeartbeats 4000000 in
theorem told_fnres (q k : Nat) (op t b by' lo' hi' nu ta pu tr : Int) (nm : Bs) (en : Bool) (bl off nl cl : Nat) (x : Int) (hxv : x = 0 ∨ valued x = true) (hk : k < nl) (h1 : nl ≤ cl) (h2 : cl ≤ 9223372036854775807) (w : World)
    (hc : w.cell? ⟨q, 4, none⟩ = some (.slice (some ⟨bl, off, none⟩) nl cl)) (hx : w.cell? ⟨bl, off + k * 2 + 1, none⟩ = some (ci x)) :
    Calls Tryz.prog 87 #[.pointer (some ⟨q, 0, none⟩), .agg #[ci op, ci (k : Int), ci t, .int .u64 b], .agg #[ct nm, ci by', ci lo', ci hi', ci nu, ci ta, ci pu, ci tr, .bool en], ci 8] w fun e w' => e = .returned (ct (encSt (oneS x))) ∧ Fr (fun _ => False) w w' := by
  have ks := fun W => single_any x hxv W
  generalize encSt (oneS x) = T at ks ⊢
  obtain ⟨V, hV⟩ : ∃ V, V = (w.alloc (.cells #[ci op, ci (k : Int), ci t, .int .u64 b] 64 (0, 0))).alloc (.cells #[ct nm, ci by', ci lo', ci hi', ci nu, ci ta, ci pu, ci tr, .bool en] 92 (0, 0)) := ⟨_, rfl⟩
  have fV : Fr (fun _ => False) w V := by rw [hV]; exact (Fr.alloc _ _ _).same (Fr.alloc _ _ _)
  obtain ⟨c0, c1, c2, c3⟩ := box4 (show V.heap[w.heap.size]? = some (.cells #[ci op, ci (k : Int), ci t, .int .u64 b] 64 (0, 0)) by rw [hV]; exact heap_alloc2_old _ _ _)
  have d4 := fV.cellN hc
  have dx := fV.cellN hx
  have hVH : Hidden (V = _) := hV
  have fVH : Hidden (Fr (fun _ => False) w V) := fV
  clear hV fV hc hx
  go_enter Tryz.func87, Tryz.ntmps87
  go_upto_region 13 with fail
  rw [← (show V = _ from hVH)]
  generalize w.heap.size = G at c0 c1 c2 c3 ⊢
  refine wp_region_grow (by kernel_rfl) (by kernel_rfl) ?_
  (repeat (first | (refine grow_op (v := ?_) ?_ ?_ ?_; rotate_left; (focus (first | exact wanted_none rfl | (go_simp; done))); (focus (intro w' hw'; have c0 := hw'.cellN c0; have c1 := hw'.cellN c1; have c2 := hw'.cellN c2; have c3 := hw'.cellN c3; have d4 := hw'.cellN d4; have dx := hw'.cellN dx; (go_simp; first | with_reducible rfl | (go_at_call 63; refine calls_grow hw' ?_; first | (have q := ks w'; with_reducible exact q))))); (intro a' ha; simp only [Act.put, List.setIfInBounds_toArray, List.set_cons_zero, List.set_cons_succ] at ha; subst ha)) | (refine grow_no ?_ ?_; (focus (first | (go_simp; done) | rfl)); (intro a' ha; simp only [Act.put, List.setIfInBounds_toArray, List.set_cons_zero, List.set_cons_succ] at ha; subst ha)))); refine grow_nil ?_; intro w7 q7
  go_wp2_with fail
  go_ret
  exact ⟨rfl, (show Fr (fun _ => False) w V from fVH).same q7⟩
end Go.Proofs.YtnmcehpdiopaiaaGreatDoor.Cd
