/- Texts of ours, in one. -/
import Derived.Test.YtnmcehpdiopaiaaGreatDoorCdFgAll
import Derived.Test.YtnmcehpdiopaiaaGreatDoorCdW
import Derived.Test.YtnmcehpdiopaiaaGreatDoorTrG
import Derived.Deep.DeepCutAuto
namespace Go.Proofs.YtnmcehpdiopaiaaGreatDoor.Cd
open Go.RowKit Ty
set_option linter.unusedSimpArgs false
set_option linter.unusedVariables false

/-- The six cells of a site. -/
structure Si (w : World) (q : Nat) (v0 : Value) (r : Int) (a2 a3 a4 a5 : Option Addr) (n2 n3 n4 n5 c2 c3 c4 c5 : Nat) : Prop where
  c0 : w.cell? ⟨q, 0, none⟩ = some v0
  c1 : w.cell? ⟨q, 1, none⟩ = some (ci r)
  c2 : w.cell? ⟨q, 2, none⟩ = some (.slice a2 n2 c2)
  c3 : w.cell? ⟨q, 3, none⟩ = some (.slice a3 n3 c3)
  c4 : w.cell? ⟨q, 4, none⟩ = some (.slice a4 n4 c4)
  c5 : w.cell? ⟨q, 5, none⟩ = some (.slice a5 n5 c5)
theorem Si.keep {w w' : World} {q : Nat} {v0 : Value} {r : Int} {a2 a3 a4 a5 : Option Addr} {n2 n3 n4 n5 c2 c3 c4 c5 : Nat} (h : Si w q v0 r a2 a3 a4 a5 n2 n3 n4 n5 c2 c3 c4 c5) (f : Fr (fun _ => False) w w') : Si w' q v0 r a2 a3 a4 a5 n2 n3 n4 n5 c2 c3 c4 c5 :=
  ⟨f.cellN h.c0, f.cellN h.c1, f.cellN h.c2, f.cellN h.c3, f.cellN h.c4, f.cellN h.c5⟩
def hasS (nu N : Int) (n2 n3 n4 n5 : Nat) : Bool :=
  if nu = 0 then true else if nu = 1 then decide (N < n2) else if nu = 2 then decide (N < n5) else if nu = 3 then decide (N < n4) else decide (N < n3)
set_option maxRecDepth 20000 in
set_option maxHeartbeats 2000000 in
theorem has_any (q : Nat) (v0 : Value) (r : Int) (a2 a3 a4 a5 : Option Addr) (n2 n3 n4 n5 c2 c3 c4 c5 : Nat) (op N t b nu : Int) (hnu : nu = 0 ∨ nu = 1 ∨ nu = 2 ∨ nu = 3 ∨ nu = 4) (w : World) (h : Si w q v0 r a2 a3 a4 a5 n2 n3 n4 n5 c2 c3 c4 c5) :
    Calls Tryz.prog 59 #[.pointer (some ⟨q, 0, none⟩), .agg #[ci op, ci N, ci t, .int .u64 b], ci nu] w fun e w' => e = .returned (.bool (hasS nu N n2 n3 n4 n5)) ∧ Fr (fun _ => False) w w' := by
  obtain ⟨V, hV⟩ : ∃ V, V = w.alloc (.cells #[ci op, ci N, ci t, .int .u64 b] 64 (0, 0)) := ⟨_, rfl⟩
  have fV : Fr (fun _ => False) w V := by rw [hV]; exact Fr.alloc _ _ _
  have k1 : V.cell? ⟨w.heap.size, 1, none⟩ = some (ci N) := (box4 (show V.heap[w.heap.size]? = some (.cells #[ci op, ci N, ci t, .int .u64 b] 64 (0, 0)) by rw [hV]; exact alloc_new _ _)).2.1
  have d2 := fV.cellN h.c2
  have d3 := fV.cellN h.c3
  have d4 := fV.cellN h.c4
  have d5 := fV.cellN h.c5
  have x2 := World.new_ne V _ d2
  have x1 := World.new_ne V _ k1
  have fVH : Hidden (Fr (fun _ => False) w V) := fV
  clear h fV
  obtain ⟨R, hR⟩ : ∃ R, R = hasS nu N n2 n3 n4 n5 := ⟨_, rfl⟩
  rw [← hR]
  have hRH : Hidden (R = hasS nu N n2 n3 n4 n5) := hR
  clear hR
  go_enter Tryz.func59, Tryz.ntmps59
  go_upto_region 1 with fail
  rw [← hV]
  clear hV
  go_cut [7] (fun pv wx => ∃ g, pv = .pointer (some ⟨g, 0, none⟩) ∧ wx.heap[g]? = some (.cells #[ci 0, ci (n2 : Int), ci (n5 : Int), ci (n4 : Int), ci (n3 : Int)] 142 (0, 0)) ∧ Fr (fun _ => False) V wx)
  case first =>
    go_region_held3 (fun w' => w'.cell? ⟨q, 2, none⟩ = some (.slice a2 n2 c2) ∧ w'.cell? ⟨q, 3, none⟩ = some (.slice a3 n3 c3) ∧ w'.cell? ⟨q, 4, none⟩ = some (.slice a4 n4 c4) ∧ w'.cell? ⟨q, 5, none⟩ = some (.slice a5 n5 c5)) (first | (refine ⟨?_, ?_, ?_, ?_⟩ <;> (repeat (first | (with_reducible assumption) | (refine (Fr.drew (fun _ => False) _).cellN ?_) | (refine (Fr.alloc (fun _ => False) _ _).cellN ?_)))) | go_keep) (fail)
    go_wp2_with fail
    go_meet
    exact ⟨_, rfl, (Fr.drew (fun _ => False) _).heap (alloc_new _ _) (fun f => f), (Fr.alloc _ _ _).same (Fr.drew _ _)⟩
  case rest =>
    obtain ⟨g, rfl, hg, fc⟩ := hcut
    have y0 := cell_of_row _ _ 0 _ _ _ hg
    have y1 : wc.cell? ⟨g, 1, none⟩ = some (ci (n2 : Int)) := cell_of_row _ _ 1 _ _ _ hg
    have y2 : wc.cell? ⟨g, 2, none⟩ = some (ci (n5 : Int)) := cell_of_row _ _ 2 _ _ _ hg
    have y3 : wc.cell? ⟨g, 3, none⟩ = some (ci (n4 : Int)) := cell_of_row _ _ 3 _ _ _ hg
    have y4 : wc.cell? ⟨g, 4, none⟩ = some (ci (n3 : Int)) := cell_of_row _ _ 4 _ _ _ hg
    replace k1 := fc.cellN k1
    have fwc : Hidden (Fr (fun _ => False) w wc) := (show Fr (fun _ => False) w V from fVH).same fc
    clear hg fc d2 d3 d4 d5 x1 x2 y0
    go_upto_region 2 with fail
    refine wp_region_grow (by kernel_rfl) (by kernel_rfl) ?_
    rcases hnu with rfl | rfl | rfl | rfl | rfl
    all_goals
      (repeat (first | (refine grow_op (v := ?_) ?_ ?_ ?_; rotate_left; (focus (first | exact wanted_none rfl | (go_simp; done))); (focus (intro w' hw'; have k1 := hw'.cellN k1; have y1 := hw'.cellN y1; have y2 := hw'.cellN y2; have y3 := hw'.cellN y3; have y4 := hw'.cellN y4; (go_simp; with_reducible rfl))); (intro a' ha; simp only [Act.put, List.setIfInBounds_toArray, List.set_cons_zero, List.set_cons_succ] at ha; subst ha)) | (refine grow_no ?_ ?_; (focus (first | (go_simp; done) | rfl)); (intro a' ha; simp only [Act.put, List.setIfInBounds_toArray, List.set_cons_zero, List.set_cons_succ] at ha; subst ha)))); refine grow_nil ?_; intro w2 q2
      go_wp2_with fail
      go_ret
      refine ⟨?_, (show Fr (fun _ => False) w wc from fwc).same q2⟩
      rw [show R = _ from hRH]
      rfl
end Go.Proofs.YtnmcehpdiopaiaaGreatDoor.Cd

namespace Go.Proofs.YtnmcehpdiopaiaaGreatDoor.Cd
open Go.RowKit Ty
set_option linter.unusedSimpArgs false
set_option linter.unusedVariables false

set_option maxRecDepth 20000 in
set_option maxHeartbeats 1000000 in
theorem told_int (q : Nat) (op N t b by' lo' hi' nu ta pu tr : Int) (nm : Bs) (en : Bool)  (w : World) : Calls Tryz.prog 87 #[.pointer (some ⟨q, 0, none⟩), .agg #[ci op, ci N, ci t, .int .u64 b], .agg #[ct nm, ci by', ci lo', ci hi', ci nu, ci ta, ci pu, ci tr, .bool en], ci 3] w fun e w' => e = .returned (ct (encSt (oneS 1))) ∧ Fr (fun _ => False) w w' := by
  have ks := fun W => single_any 1 (Or.inr (by decide)) W
  generalize encSt (oneS 1) = T at ks ⊢
  go_enter Tryz.func87, Tryz.ntmps87
  go_wp2_with (go_at_call 63; refine (ks _).mono ?_; rintro e w1 ⟨rfl, f1⟩)
  go_ret
  exact ⟨rfl, ((Fr.alloc _ _ _).same (Fr.alloc _ _ _)).same f1⟩
set_option maxRecDepth 20000 in
set_option maxHeartbeats 1000000 in
theorem told_bool (q : Nat) (op N t b by' lo' hi' nu ta pu tr : Int) (nm : Bs) (en : Bool)  (w : World) : Calls Tryz.prog 87 #[.pointer (some ⟨q, 0, none⟩), .agg #[ci op, ci N, ci t, .int .u64 b], .agg #[ct nm, ci by', ci lo', ci hi', ci nu, ci ta, ci pu, ci tr, .bool en], ci 4] w fun e w' => e = .returned (ct (encSt (oneS 3))) ∧ Fr (fun _ => False) w w' := by
  have ks := fun W => single_any 3 (Or.inr (by decide)) W
  generalize encSt (oneS 3) = T at ks ⊢
  go_enter Tryz.func87, Tryz.ntmps87
  go_wp2_with (go_at_call 63; refine (ks _).mono ?_; rintro e w1 ⟨rfl, f1⟩)
  go_ret
  exact ⟨rfl, ((Fr.alloc _ _ _).same (Fr.alloc _ _ _)).same f1⟩
set_option maxRecDepth 20000 in
set_option maxHeartbeats 1000000 in
theorem told_val (q : Nat) (op N t b by' lo' hi' nu ta pu tr : Int) (nm : Bs) (en : Bool) (ht : t = 0 ∨ valued t = true) (w : World) : Calls Tryz.prog 87 #[.pointer (some ⟨q, 0, none⟩), .agg #[ci op, ci N, ci t, .int .u64 b], .agg #[ct nm, ci by', ci lo', ci hi', ci nu, ci ta, ci pu, ci tr, .bool en], ci 5] w fun e w' => e = .returned (ct (encSt (oneS t))) ∧ Fr (fun _ => False) w w' := by
  have ks := fun W => single_any t ht W
  generalize encSt (oneS t) = T at ks ⊢
  go_enter Tryz.func87, Tryz.ntmps87
  go_wp2_with (go_at_call 63; refine (ks _).mono ?_; rintro e w1 ⟨rfl, f1⟩)
  go_ret
  exact ⟨rfl, ((Fr.alloc _ _ _).same (Fr.alloc _ _ _)).same f1⟩
set_option maxRecDepth 20000 in
set_option maxHeartbeats 1000000 in
theorem told_own (q : Nat) (op N t b by' lo' hi' nu ta pu tr : Int) (nm : Bs) (en : Bool) (r : Int) (hr : r = 0 ∨ valued r = true) (w : World) (hc : ∀ W, Fr (fun _ => False) w W → W.cell? ⟨q, 1, none⟩ = some (ci r)) : Calls Tryz.prog 87 #[.pointer (some ⟨q, 0, none⟩), .agg #[ci op, ci N, ci t, .int .u64 b], .agg #[ct nm, ci by', ci lo', ci hi', ci nu, ci ta, ci pu, ci tr, .bool en], ci 9] w fun e w' => e = .returned (ct (encSt (oneS r))) ∧ Fr (fun _ => False) w w' := by
  have ks := fun W => single_any r hr W
  generalize encSt (oneS r) = T at ks ⊢
  have c1 := hc ((w.alloc (.cells #[ci op, ci N, ci t, .int .u64 b] 64 (0, 0))).alloc (.cells #[ct nm, ci by', ci lo', ci hi', ci nu, ci ta, ci pu, ci tr, .bool en] 92 (0, 0))) ((Fr.alloc _ _ _).same (Fr.alloc _ _ _))
  clear hc hr
  go_enter Tryz.func87, Tryz.ntmps87
  go_wp2_with (go_at_call 63; refine (ks _).mono ?_; rintro e w1 ⟨rfl, f1⟩)
  go_ret
  exact ⟨rfl, ((Fr.alloc _ _ _).same (Fr.alloc _ _ _)).same f1⟩
set_option maxRecDepth 20000 in
set_option maxHeartbeats 1000000 in
theorem told_none (q : Nat) (op N t b by' lo' hi' nu ta pu tr : Int) (nm : Bs) (en : Bool) (k : Int) (hk : (k == 3) = false ∧ (k == 4) = false ∧ (k == 5) = false ∧ (k == 6) = false ∧ (k == 7) = false ∧ (k == 8) = false ∧ (k == 9) = false) (w : World) : Calls Tryz.prog 87 #[.pointer (some ⟨q, 0, none⟩), .agg #[ci op, ci N, ci t, .int .u64 b], .agg #[ct nm, ci by', ci lo', ci hi', ci nu, ci ta, ci pu, ci tr, .bool en], ci k] w fun e w' => e = .returned (ct ([])) ∧ Fr (fun _ => False) w w' := by
  obtain ⟨h3, h4, h5, h6, h7, h8, h9⟩ := hk
  go_enter Tryz.func87, Tryz.ntmps87
  go_wp2
  go_ret
  exact ⟨rfl, (Fr.alloc _ _ _).same (Fr.alloc _ _ _)⟩
/-- What is taken: from the top, or as it is told. -/
def takenT (ta : Int) (s T : Bs) : Bs × Bool := if ta = 1 then (if s.length < 1 then [] else s.drop (s.length - 1), decide (1 ≤ s.length)) else if ta = 2 then (if s.length < 2 then [] else s.drop (s.length - 2), decide (2 ≤ s.length)) else (T, Lib.hasSuffix s T)
set_option maxRecDepth 20000 in
set_option maxHeartbeats 1000000 in
theorem taken_any (q : Nat) (op N t b by' lo' hi' nu ta pu tr : Int) (nm : Bs) (en : Bool) (s T : Bs) (hs : s.length ≤ 100000) (w : World) (kt : ta ≠ 1 → ta ≠ 2 → ∀ W, Fr (fun _ => False) w W → Calls Tryz.prog 87 #[.pointer (some ⟨q, 0, none⟩), .agg #[ci op, ci N, ci t, .int .u64 b], .agg #[ct nm, ci by', ci lo', ci hi', ci nu, ci ta, ci pu, ci tr, .bool en], ci ta] W fun e w' => e = .returned (ct T) ∧ Fr (fun _ => False) W w') :
    Calls Tryz.prog 75 #[.pointer (some ⟨q, 0, none⟩), .agg #[ci op, ci N, ci t, .int .u64 b], .agg #[ct nm, ci by', ci lo', ci hi', ci nu, ci ta, ci pu, ci tr, .bool en], ct s] w fun e w' => e = .returned (.tuple #[ct (takenT ta s T).1, .bool (takenT ta s T).2]) ∧ Fr (fun _ => False) w w' := by
  by_cases h1 : ta = 1
  · subst h1
    have kp := fun W => top_any s 1 hs (by decide) W
    have e : takenT 1 s T = (if s.length < 1 then [] else s.drop (s.length - 1), decide (1 ≤ s.length)) := rfl
    rw [← e] at *
    have ke : ∀ W, Calls Tryz.prog 86 #[ct s, ci 1] W fun e w' => e = .returned (.tuple #[ct (takenT 1 s T).1, .bool (takenT 1 s T).2]) ∧ w' = W := kp
    generalize takenT 1 s T = R at ke ⊢
    clear kp e kt
    go_enter Tryz.func75, Tryz.ntmps75
    go_wp2_with (go_at_call 86; refine (ke _).mono ?_; rintro e w1 ⟨rfl, rfl⟩)
    go_ret2
    exact ⟨rfl, (Fr.alloc _ _ _).same (Fr.alloc _ _ _)⟩
  by_cases h2 : ta = 2
  · subst h2
    have kp := fun W => top_any s 2 hs (by decide) W
    have ke : ∀ W, Calls Tryz.prog 86 #[ct s, ci 2] W fun e w' => e = .returned (.tuple #[ct (takenT 2 s T).1, .bool (takenT 2 s T).2]) ∧ w' = W := kp
    generalize takenT 2 s T = R at ke ⊢
    clear kp kt h1
    go_enter Tryz.func75, Tryz.ntmps75
    go_wp2_with (go_at_call 86; refine (ke _).mono ?_; rintro e w1 ⟨rfl, rfl⟩)
    go_ret2
    exact ⟨rfl, (Fr.alloc _ _ _).same (Fr.alloc _ _ _)⟩
  · have e : takenT ta s T = (T, Lib.hasSuffix s T) := by unfold takenT; rw [if_neg h1, if_neg h2]
    have kh := fun W => Tryz.strings_HasSuffix ⟨s.toArray⟩ ⟨T.toArray⟩ W (by simp [ByteArray.size]; omega)
    have b1 : (ta == 1) = false := by simp [h1]
    have b2 : (ta == 2) = false := by simp [h2]
    rw [e]
    simp only [] at kh
    generalize Lib.hasSuffix s T = R at kh ⊢
    have ktV := kt h1 h2
    clear kt h1 h2 e
    go_enter Tryz.func75, Tryz.ntmps75
    go_wp2_with (first
      | (go_at_call 87; refine (ktV _ ((Fr.alloc _ _ _).same (Fr.alloc _ _ _))).mono ?_; rintro e w1 ⟨rfl, f1⟩)
      | (go_at_call 88; refine (kh _).mono ?_; rintro e w2 ⟨rfl, rfl⟩))
    go_ret2
    exact ⟨rfl, ((Fr.alloc _ _ _).same (Fr.alloc _ _ _)).same f1⟩
set_option maxRecDepth 20000 in
set_option maxHeartbeats 1000000 in
theorem put_told (q : Nat) (op N t b by' lo' hi' nu ta pu tr : Int) (nm : Bs) (en : Bool) (s T : Bs) (hpu : (pu == 10) = false) (w : World) (kt : ∀ W, Fr (fun _ => False) w W → Calls Tryz.prog 87 #[.pointer (some ⟨q, 0, none⟩), .agg #[ci op, ci N, ci t, .int .u64 b], .agg #[ct nm, ci by', ci lo', ci hi', ci nu, ci ta, ci pu, ci tr, .bool en], ci pu] W fun e w' => e = .returned (ct T) ∧ Fr (fun _ => False) W w') :
    Calls Tryz.prog 76 #[.pointer (some ⟨q, 0, none⟩), .agg #[ci op, ci N, ci t, .int .u64 b], .agg #[ct nm, ci by', ci lo', ci hi', ci nu, ci ta, ci pu, ci tr, .bool en], ct s] w fun e w' => e = .returned (.tuple #[ct T, .bool true]) ∧ Fr (fun _ => False) w w' := by
  have hpu2 : (pu != 10) = true := by simp [bne, hpu]
  go_enter Tryz.func76, Tryz.ntmps76
  go_wp2_with (first
    | (go_at_call 87; refine (kt _ ((Fr.alloc _ _ _).same (Fr.alloc _ _ _))).mono ?_; rintro e w1 ⟨rfl, f1⟩))
  go_ret2
  exact ⟨rfl, ((Fr.alloc _ _ _).same (Fr.alloc _ _ _)).same f1⟩
end Go.Proofs.YtnmcehpdiopaiaaGreatDoor.Cd

namespace Go.Proofs.YtnmcehpdiopaiaaGreatDoor.Cd
open Go.RowKit Ty
set_option linter.unusedSimpArgs false
set_option linter.unusedVariables false

set_option maxRecDepth 20000 in
set_option maxHeartbeats 1000000 in
theorem behind_no (q : Nat) (op N t b by' lo' hi' nu ta pu tr : Int) (nm : Bs) (en : Bool) (s X : Bs) (w : World) (kt : ∀ W, Fr (fun _ => False) w W → Calls Tryz.prog 75 #[.pointer (some ⟨q, 0, none⟩), .agg #[ci op, ci N, ci t, .int .u64 b], .agg #[ct nm, ci by', ci lo', ci hi', ci nu, ci ta, ci pu, ci tr, .bool en], ct s] W fun e w' => e = .returned (.tuple #[ct X, .bool false]) ∧ Fr (fun _ => False) W w') :
    Calls Tryz.prog 60 #[.pointer (some ⟨q, 0, none⟩), .agg #[ci op, ci N, ci t, .int .u64 b], .agg #[ct nm, ci by', ci lo', ci hi', ci nu, ci ta, ci pu, ci tr, .bool en], ct s] w fun e w' => e = .returned (.tuple #[ct [], .bool false]) ∧ Fr (fun _ => False) w w' := by
  go_enter Tryz.func60, Tryz.ntmps60
  go_wp2_with (first
    | (go_at_call 75; refine (kt _ ((Fr.alloc _ _ _).same (Fr.alloc _ _ _))).mono ?_; rintro e w1 ⟨rfl, f1⟩))
  go_ret2
  exact ⟨rfl, ((Fr.alloc _ _ _).same (Fr.alloc _ _ _)).same f1⟩
theorem row9 {w : World} {b : Nat} {x0 x1 x2 x3 x4 x5 x6 x7 x8 : Value} {t : TypeId} (hb : w.heap[b]? = some (.cells #[x0, x1, x2, x3, x4, x5, x6, x7, x8] t (0, 0))) :
    w.cell? ⟨b, 0, none⟩ = some x0 ∧ w.cell? ⟨b, 1, none⟩ = some x1 ∧ w.cell? ⟨b, 2, none⟩ = some x2 ∧ w.cell? ⟨b, 3, none⟩ = some x3 ∧ w.cell? ⟨b, 4, none⟩ = some x4 ∧ w.cell? ⟨b, 5, none⟩ = some x5 ∧ w.cell? ⟨b, 6, none⟩ = some x6 ∧ w.cell? ⟨b, 7, none⟩ = some x7 ∧ w.cell? ⟨b, 8, none⟩ = some x8 :=
  ⟨cell_of_row _ _ 0 _ _ _ hb, cell_of_row _ _ 1 _ _ _ hb, cell_of_row _ _ 2 _ _ _ hb, cell_of_row _ _ 3 _ _ _ hb, cell_of_row _ _ 4 _ _ _ hb, cell_of_row _ _ 5 _ _ _ hb, cell_of_row _ _ 6 _ _ _ hb, cell_of_row _ _ 7 _ _ _ hb, cell_of_row _ _ 8 _ _ _ hb⟩
theorem slice_head (l : Bs) (i : Nat) (h : i ≤ l.length) (hl : l.length ≤ 9223372036854775807) (w : World) :
    (Instr.slice 9 (.string ⟨l.toArray⟩) none (some (.int .i64 (i : Int))) none).run Tryz.prog w = .ok (.string ⟨(l.take i).toArray⟩) w := by
  have hs : (⟨l.toArray⟩ : ByteArray).size = l.length := by simp [ByteArray.size]
  rw [run_slice_string_to_if _ _ _ _ _ Tryz.underlying9]
  rw [if_pos (by rw [hs]; omega), Int.toNat_natCast, ex_take]
set_option maxRecDepth 20000 in
set_option maxHeartbeats 1000000 in
theorem behind_ok (q : Nat) (op N t b by' lo' hi' nu ta pu tr : Int) (nm : Bs) (en : Bool) (s X T : Bs) (fit : Bool) (hs : s.length ≤ 100000) (hX : X.length ≤ s.length) (hT : T.length ≤ 100000) (w : World) (kt : ∀ W, Fr (fun _ => False) w W → Calls Tryz.prog 75 #[.pointer (some ⟨q, 0, none⟩), .agg #[ci op, ci N, ci t, .int .u64 b], .agg #[ct nm, ci by', ci lo', ci hi', ci nu, ci ta, ci pu, ci tr, .bool en], ct s] W fun e w' => e = .returned (.tuple #[ct X, .bool true]) ∧ Fr (fun _ => False) W w')
    (kp : ∀ W, Fr (fun _ => False) w W → Calls Tryz.prog 76 #[.pointer (some ⟨q, 0, none⟩), .agg #[ci op, ci N, ci t, .int .u64 b], .agg #[ct nm, ci by', ci lo', ci hi', ci nu, ci ta, ci pu, ci tr, .bool en], ct X] W fun e w' => e = .returned (.tuple #[ct T, .bool fit]) ∧ Fr (fun _ => False) W w') :
    Calls Tryz.prog 60 #[.pointer (some ⟨q, 0, none⟩), .agg #[ci op, ci N, ci t, .int .u64 b], .agg #[ct nm, ci by', ci lo', ci hi', ci nu, ci ta, ci pu, ci tr, .bool en], ct s] w fun e w' => e = .returned (.tuple #[ct (s.take (s.length - X.length) ++ T), .bool fit]) ∧ Fr (fun _ => False) w w' := by
  obtain ⟨m, hm⟩ : ∃ m, m = s.length - X.length := ⟨_, rfl⟩
  have hls := str_len s
  have hlX := str_len X
  have hsl := fun W : World => slice_head s m (by omega) (by omega) W
  have hsub : IntKind.i64.wrap ((s.length : Int) - (X.length : Int)) = (m : Int) := by rw [IntKind.wrap_i64]; omega
  have hcat := fun W : World => run_string_add_lists (P := Tryz.prog) W (s.take m) T (by rw [List.length_take]; omega) (by omega)
  rw [← hm]
  generalize s.take m = H at hsl hcat ⊢
  clear hm
  obtain ⟨V, hV⟩ : ∃ V, V = (w.alloc (.cells #[ci op, ci N, ci t, .int .u64 b] 64 (0, 0))).alloc (.cells #[ct nm, ci by', ci lo', ci hi', ci nu, ci ta, ci pu, ci tr, .bool en] 92 (0, 0)) := ⟨_, rfl⟩
  have fV : Hidden (Fr (fun _ => False) w V) := by rw [hV]; exact (Fr.alloc _ _ _).same (Fr.alloc _ _ _)
  have b5 := box4 (show V.heap[w.heap.size]? = some (.cells #[ci op, ci N, ci t, .int .u64 b] 64 (0, 0)) by rw [hV]; exact heap_alloc2_old _ _ _)
  have b6 := row9 (show V.heap[w.heap.size + 1]? = some (.cells #[ct nm, ci by', ci lo', ci hi', ci nu, ci ta, ci pu, ci tr, .bool en] 92 (0, 0)) by rw [hV]; exact heap_alloc2_new _ _ _)
  have b5H : Hidden _ := b5
  have b6H : Hidden _ := b6
  have hVH : Hidden (V = _) := hV
  clear hV b5 b6
  go_enter Tryz.func60, Tryz.ntmps60
  go_upto_region 1 with fail
  rw [← (show V = _ from hVH)]
  clear hVH
  obtain ⟨c0, c1, c2, c3⟩ := b5H
  obtain ⟨e0, e1, e2, e3, e4, e5, e6, e7, e8⟩ := b6H
  go_wp2_with (first
    | (go_at_call 75; refine (kt _ fV).mono ?_; rintro e w1 ⟨rfl, f1⟩
       replace c0 := f1.cellN c0
       replace c1 := f1.cellN c1
       replace c2 := f1.cellN c2
       replace c3 := f1.cellN c3
       replace e0 := f1.cellN e0
       replace e1 := f1.cellN e1
       replace e2 := f1.cellN e2
       replace e3 := f1.cellN e3
       replace e4 := f1.cellN e4
       replace e5 := f1.cellN e5
       replace e6 := f1.cellN e6
       replace e7 := f1.cellN e7
       replace e8 := f1.cellN e8)
    | (go_at_call 76; refine (kp _ ((show Fr (fun _ => False) w V from fV).same f1)).mono ?_; rintro e w2 ⟨rfl, f2⟩))
  go_ret2
  exact ⟨rfl, ((show Fr (fun _ => False) w V from fV).same f1).same f2⟩
end Go.Proofs.YtnmcehpdiopaiaaGreatDoor.Cd
