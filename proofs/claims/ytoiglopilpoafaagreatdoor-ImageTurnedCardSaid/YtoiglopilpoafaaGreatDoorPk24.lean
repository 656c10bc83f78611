/- Texts of ours, in one. -/
import Derived.Test.YtoiglopilpoafaaGreatDoorPk22
import Derived.Test.YtoiglopilpoafaaGreatDoorPk13
import Derived.Test.YtoiglopilpoafaaGreatDoorPk10
namespace Go.Proofs.YtoiglopilpoafaaGreatDoor.Cd
open Go.RowKit Ty
set_option linter.unusedSimpArgs false
set_option linter.unusedVariables false

/-- What ways answers of an untry. -/
def wyU (k n : Nat) (s : Sp) : Int × List (Int × Sp) :=
  if k + 1 = n ∨ s.tr.length = 0 then (51, []) else (0, [((k : Int) + 1, ⟨s.st, s.tr.dropLast⟩)])
set_option maxRecDepth 20000 in
set_option maxHeartbeats 8000000 in
theorem ways_u (q gs ga n k b3 o3 c3 : Nat) (v0 v1 v2 v4 v5 : Value) (L : Cs) (s : Sp) (g : Bool) (N t b by' lo' hi' ta pu : Int) (nm : Bs) (w : World)
    (h : Wk w q gs ga n v0 v1 v2 (.slice (some ⟨b3, o3, none⟩) n c3) v4 v5 L) (hk : L[k]? = some (some (g, s))) (hn : n ≤ 1000000) (hc3 : n ≤ c3) (hc3m : c3 ≤ 9223372036854775807)
    (i0 : w.cell? ⟨b3, o3 + k * 4, none⟩ = some (ci 16)) (i1 : w.cell? ⟨b3, o3 + k * 4 + 1, none⟩ = some (ci N)) (i2 : w.cell? ⟨b3, o3 + k * 4 + 2, none⟩ = some (ci t)) (i3 : w.cell? ⟨b3, o3 + k * 4 + 3, none⟩ = some (.int .u64 b))
    (hm : s.tr.length ≤ 32) (hsl : s.st.length ≤ 512) (htl : (encTr s.tr).length ≤ 1000000) (hos : OkS s)
    (kr : ∀ W, Calls Tryz.prog 71 #[ci 16] W fun e w' => e = .returned (.tuple #[.agg #[ct nm, ci by', ci lo', ci hi', ci 0, ci ta, ci pu, ci (-1), .bool false], .bool true]) ∧ Fr (fun _ => False) W w')
    (kh : ∀ W, Fr (fun _ => False) w W → Calls Tryz.prog 93 #[.pointer (some ⟨q, 0, none⟩), .agg #[ci 16, ci N, ci t, .int .u64 b], ci 0] W fun e w' => e = .returned (.bool true) ∧ Fr (fun _ => False) W w')
    (ks : ∀ W, Fr (fun _ => False) w W → Calls Tryz.prog 94 #[.pointer (some ⟨q, 0, none⟩), .agg #[ci 16, ci N, ci t, .int .u64 b], .agg #[ct nm, ci by', ci lo', ci hi', ci 0, ci ta, ci pu, ci (-1), .bool false], ct (encSt s.st)] W fun e w' => e = .returned (.tuple #[ct (encSt s.st), .bool true]) ∧ Fr (fun _ => False) W w') :
    Calls Tryz.prog 73 #[.pointer (some ⟨q, 0, none⟩), ci (k : Int)] w fun e w' => ∃ v, e = .returned (.tuple #[v, ci (wyU k n s).1]) ∧ Fr (fun _ => False) w w' ∧ Wy w' w.heap.size v (wyU k n s).2 := by
  have hkn : k < n := by rw [← h.len]; exact (List.getElem?_eq_some_iff.1 hk).1
  obtain ⟨_, _, _, d3, _, _, d6, d7⟩ := box8 h.box
  obtain ⟨a0, a1, a2⟩ := ah_at h.ah hk
  simp only [shO] at a0 a1 a2
  obtain ⟨x, hx⟩ : ∃ x, x = encSt s.st := ⟨_, rfl⟩
  obtain ⟨y, hy⟩ : ∃ y, y = encTr s.tr := ⟨_, rfl⟩
  obtain ⟨m, hmm⟩ : ∃ m, m = s.tr.length := ⟨_, rfl⟩
  rw [← hx] at a0 ks
  rw [← hy] at a1
  rw [← hmm] at a2 hm
  have hxH : Hidden (x = encSt s.st) := hx
  have hyH : Hidden (y = encTr s.tr) := hy
  have hmH : Hidden (m = s.tr.length) := hmm
  have hkz : (k : Int) < (n : Int) := by omega
  have q3 := World.new_ne w _ d3
  have q7 := World.new_ne w _ d7
  have p0 := World.new_ne w _ i0
  have p1 := World.new_ne w _ a0
  clear h hk hx hy hmm d6
  go_enter Tryz.func73, Tryz.ntmps73
  go_upto_region 1 with fail
  go_cut [6, 7] (fun p6 p7 wx => ∃ g6 g7, p6 = .pointer (some ⟨g6, 0, none⟩) ∧ p7 = .pointer (some ⟨g7, 0, none⟩) ∧ wx.heap[g6]? = some (.cells #[ci 16, ci N, ci t, .int .u64 b] 69 (0, 0)) ∧ wx.heap[g7]? = some (.cells #[ct x, ct y, ci (m : Int)] 148 (0, 0)) ∧ Fr (fun _ => False) w wx)
  case first =>
    go_region_held3 (fun w' => w'.cell? ⟨q, 3, none⟩ = some (.slice (some ⟨b3, o3, none⟩) n c3) ∧ w'.cell? ⟨q, 7, none⟩ = some (.slice (some ⟨ga, 0, none⟩) n n) ∧ w'.cell? ⟨b3, o3 + k * 4, none⟩ = some (ci 16) ∧ w'.cell? ⟨b3, o3 + k * 4 + 1, none⟩ = some (ci N) ∧ w'.cell? ⟨b3, o3 + k * 4 + 2, none⟩ = some (ci t) ∧ w'.cell? ⟨b3, o3 + k * 4 + 3, none⟩ = some (.int .u64 b) ∧ w'.cell? ⟨ga, k * 3, none⟩ = some (ct x) ∧ w'.cell? ⟨ga, k * 3 + 1, none⟩ = some (ct y) ∧ w'.cell? ⟨ga, k * 3 + 2, none⟩ = some (ci (m : Int))) (first | (refine ⟨by with_reducible assumption, by with_reducible assumption, by with_reducible assumption, by with_reducible assumption, by with_reducible assumption, by with_reducible assumption, by with_reducible assumption, by with_reducible assumption, by with_reducible assumption⟩) | go_keep) (fail)
    · go_wp2_with fail
      go_meet
      exact ⟨_, _, rfl, rfl, (Fr.drew (fun _ => False) _).heap (heap_alloc2_old _ _ _) (fun f => f), (Fr.drew (fun _ => False) _).heap (heap_alloc2_new _ _ _) (fun f => f), ((Fr.alloc _ _ _).same (Fr.alloc _ _ _)).same (Fr.drew _ _)⟩
    · go_wp2_with fail
      go_meet
      exact ⟨_, _, rfl, rfl, (Fr.drew (fun _ => False) _).heap (heap_alloc2_new _ _ _) (fun f => f), (Fr.drew (fun _ => False) _).heap (heap_alloc2_old _ _ _) (fun f => f), ((Fr.alloc _ _ _).same (Fr.alloc _ _ _)).same (Fr.drew _ _)⟩
  case rest =>
    obtain ⟨g6, g7, rfl, rfl, h6, h7, fc⟩ := hcut
    obtain ⟨r0, r1, r2, r3⟩ := box4 h6
    obtain ⟨t0, t1, t2⟩ := box3 h7
    have h6H : Hidden (wc.heap[g6]? = some (.cells #[ci 16, ci N, ci t, .int .u64 b] 69 (0, 0))) := h6
    have h7H : Hidden (wc.heap[g7]? = some (.cells #[ct x, ct y, ci (m : Int)] 148 (0, 0))) := h7
    have fcH : Hidden (Fr (fun _ => False) w wc) := fc
    have e3 := fc.cellN d3
    clear h6 h7 q3 q7 p0 p1 a0 a1 a2 i0 i1 i2 i3 d3 d7
    go_upto_region 3 with (first
      | (go_at_call 71; refine (kr _).mono ?_; rintro e w1 ⟨rfl, f1⟩))
    obtain ⟨V, hV⟩ : ∃ V, V = w1.alloc (.cells #[ct nm, ci by', ci lo', ci hi', ci 0, ci ta, ci pu, ci (-1), .bool false] 136 (0, 0)) := ⟨_, rfl⟩
    have fV : Fr (fun _ => False) wc V := by rw [hV]; exact f1.same (Fr.alloc _ _ _)
    have hrow : V.heap[w1.heap.size]? = some (.cells #[ct nm, ci by', ci lo', ci hi', ci 0, ci ta, ci pu, ci (-1), .bool false] 136 (0, 0)) := by rw [hV]; exact alloc_new _ _
    obtain ⟨s0, s1, s2, s3, s4, s5, s6, s7, s8⟩ := box9 hrow
    have hrowH : Hidden (V.heap[w1.heap.size]? = some (.cells #[ct nm, ci by', ci lo', ci hi', ci 0, ci ta, ci pu, ci (-1), .bool false] 136 (0, 0))) := hrow
    replace r0 := fV.cellN r0
    replace r1 := fV.cellN r1
    replace r2 := fV.cellN r2
    replace r3 := fV.cellN r3
    replace t0 := fV.cellN t0
    replace t1 := fV.cellN t1
    replace t2 := fV.cellN t2
    replace e3 := fV.cellN e3
    have h6V : Hidden (V.heap[g6]? = some (.cells #[ci 16, ci N, ci t, .int .u64 b] 69 (0, 0))) := fV.heap h6H (fun f => f)
    have h7V : Hidden (V.heap[g7]? = some (.cells #[ct x, ct y, ci (m : Int)] 148 (0, 0))) := fV.heap h7H (fun f => f)
    have fwV : Hidden (Fr (fun _ => False) w V) := (show Fr (fun _ => False) w wc from fcH).same fV
    generalize w1.heap.size = g8 at *
    rw [← hV]
    clear hV fV hrow h6H h7H fcH f1 kr
    have khV : ∀ W, Fr (fun _ => False) V W → Calls Tryz.prog 93 #[.pointer (some ⟨q, 0, none⟩), .agg #[ci 16, ci N, ci t, .int .u64 b], ci 0] W fun e w' => e = .returned (.bool true) ∧ Fr (fun _ => False) W w' := fun W hW => kh W ((show Fr (fun _ => False) w V from fwV).same hW)
    clear kh
    have hw2 : IntKind.i64.wrap ((m : Int) + -1) = (m : Int) + -1 := by rw [IntKind.wrap_i64]; omega
    have hw3 : IntKind.i64.wrap ((m : Int) - 1) = (m : Int) - 1 := by rw [IntKind.wrap_i64]; omega
    go_cut [70] (fun c wx => c = .bool (decide (k + 1 = n) || decide (m = 0)) ∧ Fr (fun _ => False) V wx)
    case first =>
      refine wp_region_grow (by kernel_rfl) (by kernel_rfl) ?_
      have hw1 : IntKind.i64.wrap ((k : Int) + 1) = (k : Int) + 1 := by rw [IntKind.wrap_i64]; omega
      by_cases hl : k + 1 = n
      · have hkn2 : ((k : Int) + 1 == (n : Int)) = true := by simp; omega
        have hlH : Hidden (k + 1 = n) := hl
        clear hl
        (repeat (first | (refine grow_op (v := ?_) ?_ ?_ ?_; rotate_left; (focus (first | exact wanted_none rfl | (go_simp; done))); (focus (intro w' hw'; have r0 := hw'.cellN r0; have r1 := hw'.cellN r1; have r2 := hw'.cellN r2; have r3 := hw'.cellN r3; have t2 := hw'.cellN t2; have s4 := hw'.cellN s4; have s7 := hw'.cellN s7; have s8 := hw'.cellN s8; have e3 := hw'.cellN e3; (go_simp; first | with_reducible rfl | (go_at_call 93; refine calls_grow hw' ?_; first | (have q := khV w' hw'; with_reducible exact q))))); (intro a' ha; simp only [Act.put, List.setIfInBounds_toArray, List.set_cons_zero, List.set_cons_succ] at ha; subst ha)) | (refine grow_no ?_ ?_; (focus (first | (go_simp; done) | rfl)); (intro a' ha; simp only [Act.put, List.setIfInBounds_toArray, List.set_cons_zero, List.set_cons_succ] at ha; subst ha)))); refine grow_nil ?_; intro w2 k2
        go_wp2_with fail
        go_meet
        exact ⟨congrArg Value.bool (by rw [decide_eq_true (show k + 1 = n from hlH)]; rfl), k2⟩
      · have hkn2 : ((k : Int) + 1 == (n : Int)) = false := by rw [beq_eq_false_iff_ne]; omega
        have hlH : Hidden (¬ k + 1 = n) := hl
        clear hl
        by_cases hm0 : m = 0
        · subst hm0
          (repeat (first | (refine grow_op (v := ?_) ?_ ?_ ?_; rotate_left; (focus (first | exact wanted_none rfl | (go_simp; done))); (focus (intro w' hw'; have r0 := hw'.cellN r0; have r1 := hw'.cellN r1; have r2 := hw'.cellN r2; have r3 := hw'.cellN r3; have t2 := hw'.cellN t2; have s4 := hw'.cellN s4; have s7 := hw'.cellN s7; have s8 := hw'.cellN s8; have e3 := hw'.cellN e3; (go_simp; first | with_reducible rfl | (go_at_call 93; refine calls_grow hw' ?_; first | (have q := khV w' hw'; with_reducible exact q))))); (intro a' ha; simp only [Act.put, List.setIfInBounds_toArray, List.set_cons_zero, List.set_cons_succ] at ha; subst ha)) | (refine grow_no ?_ ?_; (focus (first | (go_simp; done) | rfl)); (intro a' ha; simp only [Act.put, List.setIfInBounds_toArray, List.set_cons_zero, List.set_cons_succ] at ha; subst ha)))); refine grow_nil ?_; intro w2 k2
          go_wp2_with fail
          go_meet
          exact ⟨congrArg Value.bool (by rw [decide_eq_false (show ¬ k + 1 = n from hlH)]; rfl), k2⟩
        · have hm2 : decide ((m : Int) + -1 < 0) = false := by simp; omega
          have hm3 : decide ((m : Int) - 1 < 0) = false := by simp; omega
          have hm4 : decide ((m : Int) < 1) = false := by simp; omega
          have hm0H : Hidden (¬ m = 0) := hm0
          clear hm0
          (repeat (first | (refine grow_op (v := ?_) ?_ ?_ ?_; rotate_left; (focus (first | exact wanted_none rfl | (go_simp; done))); (focus (intro w' hw'; have r0 := hw'.cellN r0; have r1 := hw'.cellN r1; have r2 := hw'.cellN r2; have r3 := hw'.cellN r3; have t2 := hw'.cellN t2; have s4 := hw'.cellN s4; have s7 := hw'.cellN s7; have s8 := hw'.cellN s8; have e3 := hw'.cellN e3; (go_simp; first | with_reducible rfl | (go_at_call 93; refine calls_grow hw' ?_; first | (have q := khV w' hw'; with_reducible exact q))))); (intro a' ha; simp only [Act.put, List.setIfInBounds_toArray, List.set_cons_zero, List.set_cons_succ] at ha; subst ha)) | (refine grow_no ?_ ?_; (focus (first | (go_simp; done) | rfl)); (intro a' ha; simp only [Act.put, List.setIfInBounds_toArray, List.set_cons_zero, List.set_cons_succ] at ha; subst ha)))); refine grow_nil ?_; intro w2 k2
          go_wp2_with fail
          go_meet
          exact ⟨congrArg Value.bool (by rw [decide_eq_false (show ¬ k + 1 = n from hlH), decide_eq_false (show ¬ m = 0 from hm0H)]; rfl), k2⟩
    case rest =>
      obtain ⟨rfl, fc⟩ := hcut
      have hmE : Hidden (s.tr.length = m) := (show m = s.tr.length from hmH).symm
      by_cases hbad : k + 1 = n ∨ m = 0
      · have eb : (decide (k + 1 = n) || decide (m = 0)) = true := by
          rcases hbad with e | e2
          · rw [decide_eq_true e]; rfl
          · rw [decide_eq_true e2]; simp
        have er : wyU k n s = (51, []) := by
          unfold wyU
          rw [show s.tr.length = m from hmE, if_pos hbad]
        rw [eb]
        have erH : Hidden (wyU k n s = (51, [])) := er
        clear er eb hbad
        go_wp2_with fail
        go_ret2
        exact ⟨_, (by rw [show wyU k n s = _ from erH]; rfl), (show Fr (fun _ => False) w V from fwV).same fc, by rw [show wyU k n s = _ from erH]; exact Wy.nil _ _⟩
      · have eb : (decide (k + 1 = n) || decide (m = 0)) = false := by
          rw [decide_eq_false (fun e => hbad (Or.inl e)), decide_eq_false (fun e => hbad (Or.inr e))]
          rfl
        have hm1 : 1 ≤ m := by omega
        have er : Hidden (wyU k n s = (0, [((k : Int) + 1, ⟨s.st, s.tr.dropLast⟩)])) := by
          show _ = _
          unfold wyU
          rw [show s.tr.length = m from hmE, if_neg hbad]
        rw [eb]
        have ksV : ∀ W, Fr (fun _ => False) V W → Calls Tryz.prog 94 #[.pointer (some ⟨q, 0, none⟩), .agg #[ci 16, ci N, ci t, .int .u64 b], .agg #[ct nm, ci by', ci lo', ci hi', ci 0, ci ta, ci pu, ci (-1), .bool false], ct x] W fun e w' => e = .returned (.tuple #[ct x, .bool true]) ∧ Fr (fun _ => False) W w' := fun W hW => ks W ((show Fr (fun _ => False) w V from fwV).same hW)
        obtain ⟨R, hR⟩ : ∃ R, R = wyU k n s := ⟨_, rfl⟩
        rw [← hR] at er
        have hRH : Hidden (R = wyU k n s) := hR
        clear ks khV eb hbad hR
        replace r0 := fc.cellN r0
        replace r1 := fc.cellN r1
        replace r2 := fc.cellN r2
        replace r3 := fc.cellN r3
        replace t0 := fc.cellN t0
        replace t1 := fc.cellN t1
        replace t2 := fc.cellN t2
        replace s0 := fc.cellN s0
        replace s1 := fc.cellN s1
        replace s2 := fc.cellN s2
        replace s3 := fc.cellN s3
        replace s4 := fc.cellN s4
        replace s5 := fc.cellN s5
        replace s6 := fc.cellN s6
        replace s7 := fc.cellN s7
        replace s8 := fc.cellN s8
        have fcH : Hidden (Fr (fun _ => False) V wc) := fc
        have ksC : ∀ W, Fr (fun _ => False) wc W → Calls Tryz.prog 94 #[.pointer (some ⟨q, 0, none⟩), .agg #[ci 16, ci N, ci t, .int .u64 b], .agg #[ct nm, ci by', ci lo', ci hi', ci 0, ci ta, ci pu, ci (-1), .bool false], ct x] W fun e w' => e = .returned (.tuple #[ct x, .bool true]) ∧ Fr (fun _ => False) W w' := fun W hW => ksV W (fc.same hW)
        clear ksV fc e3
        go_upto_region 5 with fail
        refine wp_region_grow (by kernel_rfl) (by kernel_rfl) ?_
        (repeat (first | (refine grow_op (v := ?_) ?_ ?_ ?_; rotate_left; (focus (first | exact wanted_none rfl | (go_simp; done))); (focus (intro w' hw'; have r0 := hw'.cellN r0; have r1 := hw'.cellN r1; have r2 := hw'.cellN r2; have r3 := hw'.cellN r3; have t0 := hw'.cellN t0; have s0 := hw'.cellN s0; have s1 := hw'.cellN s1; have s2 := hw'.cellN s2; have s3 := hw'.cellN s3; have s4 := hw'.cellN s4; have s5 := hw'.cellN s5; have s6 := hw'.cellN s6; have s7 := hw'.cellN s7; have s8 := hw'.cellN s8; (go_simp; first | with_reducible rfl | (go_at_call 94; refine calls_grow hw' ?_; first | (have q := ksC w' hw'; with_reducible exact q))))); (intro a' ha; simp only [Act.put, List.setIfInBounds_toArray, List.set_cons_zero, List.set_cons_succ] at ha; subst ha)) | (refine grow_no ?_ ?_; (focus (first | (go_simp; done) | rfl)); (intro a' ha; simp only [Act.put, List.setIfInBounds_toArray, List.set_cons_zero, List.set_cons_succ] at ha; subst ha)))); refine grow_nil ?_; intro w3 k3
        have hstl := str_len x
        have hxlH : Hidden (x.length = s.st.length) := by show _ = _; rw [show x = encSt s.st from hxH]; simp [encSt]
        have fw3 : Hidden (Fr (fun _ => False) w w3) := ((show Fr (fun _ => False) w V from fwV).same fcH).same k3
        replace t2 := k3.cellN t2
        replace t0 := k3.cellN t0
        replace t1 := k3.cellN t1
        replace s7 := k3.cellN s7
        replace s8 := k3.cellN s8
        replace s4 := k3.cellN s4
        replace r0 := k3.cellN r0
        replace r1 := k3.cellN r1
        have hxl5 : x.length ≤ 512 := by rw [show x.length = s.st.length from hxlH]; exact hsl
        have hb5 : decide (512 < (x.length : Int)) = false := by simp; omega
        have hm32 : decide (32 < (m : Int) + -1) = false := by simp; omega
        have hm33 : decide (32 < (m : Int) - 1) = false := by simp; omega
        have kw := fun W => with_any x y x (m : Int) W
        go_upto_region 11 with (first
          | (go_at_call 95; refine (kw _).mono ?_; rintro e w4 ⟨rfl, f4⟩))
        obtain ⟨V4, hV4⟩ : ∃ V, V = w4.alloc (.cells #[ct x, ct y, ci (m : Int)] 148 (0, 0)) := ⟨_, rfl⟩
        have f5 : Fr (fun _ => False) w3 V4 := by rw [hV4]; exact f4.same (Fr.alloc _ _ _)
        have h12 : V4.heap[w4.heap.size]? = some (.cells #[ct x, ct y, ci (m : Int)] 148 (0, 0)) := by rw [hV4]; exact alloc_new _ _
        obtain ⟨j0, j1, j2⟩ := box3 h12
        have hlt12 := lt_of_heap h12
        generalize w4.heap.size = g12 at *
        rw [← hV4]
        replace r0 := f5.cellN r0
        replace r1 := f5.cellN r1
        replace s4 := f5.cellN s4
        replace s8 := f5.cellN s8
        have fw5 : Hidden (Fr (fun _ => False) w V4) := (show Fr (fun _ => False) w w3 from fw3).same f5
        have x0 := World.new_ne V4 _ j0
        clear hV4 f5 h12 f4 kw fw3 t0 t1 t2 s7
        go_cut [13, 14] (fun p13 p14 wx => ∃ g13 g14, p13 = .pointer (some ⟨g13, 0, none⟩) ∧ p14 = .pointer (some ⟨g14, 0, none⟩) ∧ wx.heap[g13]? = some (.cells #[ct x, ct y, ci (m : Int)] 148 (0, 0)) ∧ wx.heap[g14]? = some (.cells #[ct x, ct y, ci (m : Int)] 148 (0, 0)) ∧ Fr (fun _ => False) V4 wx ∧ g13 ≠ g14 ∧ V4.heap.size ≤ g13 ∧ V4.heap.size ≤ g14)
        case first =>
          go_region_held3 (fun w' => w'.cell? ⟨g12, 0, none⟩ = some (ct x) ∧ w'.cell? ⟨g12, 1, none⟩ = some (ct y) ∧ w'.cell? ⟨g12, 2, none⟩ = some (ci (m : Int))) (first | (refine ⟨by with_reducible assumption, by with_reducible assumption, by with_reducible assumption⟩) | go_keep) (fail)
          · go_wp2_with fail
            go_meet
            exact ⟨_, _, rfl, rfl, (Fr.drew (fun _ => False) _).heap (heap_alloc2_old _ _ _) (fun f => f), (Fr.drew (fun _ => False) _).heap (heap_alloc2_new _ _ _) (fun f => f), ((Fr.alloc _ _ _).same (Fr.alloc _ _ _)).same (Fr.drew _ _), by omega, by omega, by omega⟩
          · go_wp2_with fail
            go_meet
            exact ⟨_, _, rfl, rfl, (Fr.drew (fun _ => False) _).heap (heap_alloc2_new _ _ _) (fun f => f), (Fr.drew (fun _ => False) _).heap (heap_alloc2_old _ _ _) (fun f => f), ((Fr.alloc _ _ _).same (Fr.alloc _ _ _)).same (Fr.drew _ _), by omega, by omega, by omega⟩
        case rest =>
          obtain ⟨g13, g14, rfl, rfl, h13, h14, fd, hne, hg13, hg14⟩ := hcut
          have fwd : Hidden (Fr (fun _ => False) w wc) := (show Fr (fun _ => False) w V4 from fw5).same fd
          have hszH : Hidden (w.heap.size ≤ V4.heap.size) := (show Fr (fun _ => False) w V4 from fw5).size
          have n13 : g12 ≠ g13 := by omega
          have n6a : g6 ≠ g13 := by have h1 := World.block_lt_of_cell? V4 _ r1; simp only [] at h1; omega
          have n6b : g6 ≠ g14 := by have h1 := World.block_lt_of_cell? V4 _ r1; simp only [] at h1; omega
          have n8a : g8 ≠ g13 := by have h1 := World.block_lt_of_cell? V4 _ s4; simp only [] at h1; omega
          have n8b : g8 ≠ g14 := by have h1 := World.block_lt_of_cell? V4 _ s4; simp only [] at h1; omega
          have n34 : g14 ≠ g13 := fun e => hne e.symm
          have n14 : g12 ≠ g14 := by omega
          have h6c : Hidden (g6 ≠ g13 ∧ g6 ≠ g14) := by
            have h1 := World.block_lt_of_cell? V4 _ r1
            simp only [] at h1
            exact ⟨by omega, by omega⟩
          have h8c : Hidden (g8 ≠ g13 ∧ g8 ≠ g14) := by
            have h1 := World.block_lt_of_cell? V4 _ s4
            simp only [] at h1
            exact ⟨by omega, by omega⟩
          replace r0 := fd.cellN r0
          replace r1 := fd.cellN r1
          replace s4 := fd.cellN s4
          replace s8 := fd.cellN s8
          replace j0 := fd.cellN j0
          replace j1 := fd.cellN j1
          replace j2 := fd.cellN j2
          have hlen13 : Hidden (V4.heap.size ≤ g13 ∧ V4.heap.size ≤ g14) := ⟨hg13, hg14⟩
          have hneT : s.tr ≠ [] := by intro e; have : s.tr.length = m := hmE; rw [e] at this; simp at this; omega
          have hye : y = encTr s.tr.dropLast ++ encLn (s.tr.getLast hneT) ++ [10] := by rw [show y = encTr s.tr from hyH]; exact encTr_last hneT
          have kcl := fun W => closing_any x y (encTr s.tr.dropLast) (encLn (s.tr.getLast hneT)) m hye (encTr_end _) (encLn_no10 (hos.tr _ (List.getLast_mem hneT))) (by omega) (by rw [show y = encTr s.tr from hyH]; exact htl) (by omega) W
          obtain ⟨Y, hY⟩ : ∃ Y, Y = encTr s.tr.dropLast := ⟨_, rfl⟩
          rw [← hY] at kcl
          have hYH : Hidden (Y = encTr s.tr.dropLast) := hY
          have h13H : Hidden (wc.heap[g13]? = some (.cells #[ct x, ct y, ci (m : Int)] 148 (0, 0))) := h13
          have h14H : Hidden (wc.heap[g14]? = some (.cells #[ct x, ct y, ci (m : Int)] 148 (0, 0))) := h14
          have y0 := frozen_of_row h13 0
          have y1 := frozen_of_row h13 1
          have y2 := frozen_of_row h13 2
          have z0 := frozen_of_row h14 0
          have z1 := frozen_of_row h14 1
          have z2 := frozen_of_row h14 2
          have hneH : Hidden (g13 ≠ g14) := hne
          clear h14 hY hye fd hg13 hg14 hlt12 x0
          have m1' := (box3 h13).1
          obtain ⟨a0, a1, a2⟩ := box3 h13
          clear h13 m1'
          go_upto_region 17 with (first
            | (go_at_call 98; refine (kcl _).mono ?_; rintro e wd ⟨rfl, fd⟩
               have hd13 := fd.heap (show wc.heap[g13]? = _ from h13H) (fun f => f)
               have ya0 := frozen_of_row hd13 0
               have ya1 := frozen_of_row hd13 1
               have ya2 := frozen_of_row hd13 2
               obtain ⟨b0, b1, b2⟩ := box3 hd13
               clear hd13))
          obtain ⟨U, hU⟩ : ∃ U, U = (((wd.setCell ⟨g13, 0, none⟩ (ct x)).setCell ⟨g13, 1, none⟩ (ct Y)).setCell ⟨g13, 2, none⟩ (ci ((m : Int) - 1))) := ⟨_, rfl⟩
          have hU13 : U.heap[g13]? = some (.cells #[ct x, ct Y, ci ((m : Int) - 1)] 148 (0, 0)) := by rw [hU]; exact three_put (fd.heap (show wc.heap[g13]? = _ from h13H) (fun f => f)) _ _ _
          have hUf : Fr (fun k => k = g13) wc U := by rw [hU]; exact (fd.mono (fun _ _ f => f.elim)).same (three_fr _ g13 _ _ _)
          rw [← hU]
          clear hU
          have r0 := hUf.cell r0 n6a
          have r1 := hUf.cell r1 n6a
          have s4 := hUf.cell s4 n8a
          have s8 := hUf.cell s8 n8a
          obtain ⟨m0, m1, m2⟩ := box3 hU13
          have hgs : V4.heap.size ≤ g13 ∧ V4.heap.size ≤ g14 := hlen13
          have hws : w.heap.size ≤ V4.heap.size := hszH
          have fwU : Hidden (Fr (fun _ => False) w U) := Fr.over (show Fr (fun _ => False) w wc from fwd) hUf (fun k e => by omega)
          have hszU : Hidden (w.heap.size ≤ U.heap.size) := (show Fr (fun _ => False) w U from fwU).size
          have hw1 : IntKind.i64.wrap ((k : Int) + 1) = (k : Int) + 1 := by rw [IntKind.wrap_i64]; omega
          have hcA : Hidden (wyC ((k : Int) + 1, ⟨s.st, s.tr.dropLast⟩) = [ci ((k : Int) + 1), ct x, ct Y, ci ((m : Int) - 1)]) := by
            show [ci ((k : Int) + 1), ct (encSt s.st), ct (encTr s.tr.dropLast), ci ((s.tr.dropLast.length : Nat) : Int)] = _
            rw [← (show x = _ from hxH), ← (show Y = _ from hYH), List.length_dropLast, show s.tr.length = m from hmE, show ((m - 1 : Nat) : Int) = (m : Int) - 1 by omega]
          clear hUf hU13 hgs hws fd j0 j1 j2 h6c h8c y0 y1 y2 z0 z1 z2 n13 n14 n6a n6b n8a n8b n34 hne a0 a1 a2 b0 b1 b2 ya0 ya1 ya2
          go_wp2_with (first
            | (at_builtin
               refine wpl_way rfl _ _ rfl w.heap.size (.slice none 0 0) [] ((k : Int) + 1, ⟨s.st, s.tr.dropLast⟩) U.heap.size rfl ?e0 rfl ?e1 ?e2 ?e3 ?_
               case e0 => exact Wy.nil _ _
               case e1 => intro j u hu; rw [(show wyC ((k : Int) + 1, _) = _ from hcA)] at hu; exact (cell_of_row _ _ j _ _ _ (alloc_new _ _)).trans (by simpa using hu)
               case e2 => decide
               case e3 => have : w.heap.size ≤ U.heap.size := hszU; simp; omega
               intro v5 w5 hr5 a5
               have f55 : Fr (fun _ => False) U w5 := (Fr.alloc _ _ _).same a5.none
               have z4 := f55.cellN s4
               have z1 := f55.cellN r1))
          go_ret2
          rw [← (show R = _ from hRH), show R = _ from er]
          exact ⟨_, rfl, (show Fr (fun _ => False) w U from fwU).same f55, hr5⟩
end Go.Proofs.YtoiglopilpoafaaGreatDoor.Cd

namespace Go.Proofs.YtoiglopilpoafaaGreatDoor.Cd
open Go.RowKit Ty
set_option linter.unusedSimpArgs false
set_option linter.unusedVariables false

/-- Of each open try: its place has two bytes, its stack is not more than there may be. -/
def Tz (s : Sp) : Prop := ∀ x ∈ s.tr, 0 ≤ x.1 ∧ x.1 ≤ 65535 ∧ x.2.length ≤ 512
def TzO (a : Option Sp) : Prop := ∀ x, a = some x → Tz x
theorem on_tz {s : Sp} {st : List Int} {a b : Option Sp} (h : Tz s) (e : on s st = some (a, b)) : TzO a ∧ TzO b := by
  have e : some (some (⟨st, s.tr⟩ : Sp), (none : Option Sp)) = some (a, b) := e
  cases e
  exact ⟨fun x hx => by cases hx; exact h, fun x hx => by cases hx⟩
theorem tz_of {s : Sp} {st : List Int} (h : Tz s) : TzO (some ⟨st, s.tr⟩) := fun x hx => by cases hx; exact h
theorem tz_no : TzO none := fun x hx => by cases hx
theorem step_tz {f : Fu} {p : Fm} {i : In} {s : Sp} {a b : Option Sp} (hi : 0 ≤ i.n ∧ i.n ≤ 65535) (hs : s.st.length ≤ 512) (ht : Tz s) (h : stepS f p i s = some (a, b)) : TzO a ∧ TzO b := by
  rw [stepS.eq_1] at h
  by_cases c1 : i.op = 1
  · rw [if_pos c1] at h
    exact on_tz ht h
  rw [if_neg c1] at h
  by_cases c2 : i.op = 2
  · rw [if_pos c2] at h
    obtain ⟨_, _, h⟩ := Option.bind_eq_some_iff.1 h
    exact on_tz ht h
  rw [if_neg c2] at h
  by_cases c3 : i.op = 3
  · rw [if_pos c3] at h
    obtain ⟨_, _, h⟩ := Option.bind_eq_some_iff.1 h
    obtain ⟨_, _, h⟩ := Option.bind_eq_some_iff.1 h
    exact on_tz ht h
  rw [if_neg c3] at h
  by_cases c4 : i.op = 4
  · rw [if_pos c4] at h
    obtain ⟨_, _, h⟩ := Option.bind_eq_some_iff.1 h
    exact on_tz ht h
  rw [if_neg c4] at h
  by_cases c5 : i.op = 5
  · rw [if_pos c5] at h
    obtain ⟨_, _, h⟩ := Option.bind_eq_some_iff.1 h
    obtain ⟨_, _, h⟩ := Option.bind_eq_some_iff.1 h
    exact on_tz ht h
  rw [if_neg c5] at h
  by_cases c6 : i.op = 6
  · rw [if_pos c6] at h
    obtain ⟨_, _, h⟩ := Option.bind_eq_some_iff.1 h
    split at h
    · exact on_tz ht h
    · cases h
  rw [if_neg c6] at h
  by_cases c7 : i.op = 7
  · rw [if_pos c7] at h
    obtain ⟨_, _, h⟩ := Option.bind_eq_some_iff.1 h
    obtain ⟨_, _, h⟩ := Option.bind_eq_some_iff.1 h
    split at h
    · exact on_tz ht h
    · cases h
  rw [if_neg c7] at h
  by_cases c8 : i.op = 8
  · rw [if_pos c8] at h
    cases h
    exact ⟨tz_no, fun x hx => by cases hx; exact ht⟩
  rw [if_neg c8] at h
  by_cases c9 : i.op = 9
  · rw [if_pos c9] at h
    obtain ⟨_, _, h⟩ := Option.bind_eq_some_iff.1 h
    cases h
    exact ⟨tz_of ht, tz_of ht⟩
  rw [if_neg c9] at h
  by_cases c10 : i.op = 10
  · rw [if_pos c10] at h
    obtain ⟨_, _, h⟩ := Option.bind_eq_some_iff.1 h
    obtain ⟨_, _, h⟩ := Option.bind_eq_some_iff.1 h
    exact on_tz ht h
  rw [if_neg c10] at h
  by_cases c11 : i.op = 11
  · rw [if_pos c11] at h
    split at h
    · cases h; exact ⟨tz_no, tz_no⟩
    · obtain ⟨_, _, h⟩ := Option.bind_eq_some_iff.1 h
      cases h; exact ⟨tz_no, tz_no⟩
  rw [if_neg c11] at h
  by_cases c12 : i.op = 12
  · rw [if_pos c12] at h
    obtain ⟨_, _, h⟩ := Option.bind_eq_some_iff.1 h
    exact on_tz ht h
  rw [if_neg c12] at h
  by_cases c13 : i.op = 13
  · rw [if_pos c13] at h
    obtain ⟨_, _, h⟩ := Option.bind_eq_some_iff.1 h
    cases h; exact ⟨tz_no, tz_no⟩
  rw [if_neg c13] at h
  by_cases c14 : i.op = 14
  · rw [if_pos c14] at h
    exact on_tz ht h
  rw [if_neg c14] at h
  by_cases c15 : i.op = 15
  · rw [if_pos c15] at h
    cases h
    refine ⟨fun x hx => ?_, tz_of ht⟩
    cases hx
    intro y hy
    rcases List.mem_append.1 hy with hy | hy
    · exact ht y hy
    · simp at hy
      subst hy
      exact ⟨hi.1, hi.2, hs⟩
  rw [if_neg c15] at h
  by_cases c16 : i.op = 16
  · rw [if_pos c16] at h
    split at h
    · cases h
    · cases h
      exact ⟨fun x hx => by cases hx; exact fun y hy => ht y (List.dropLast_subset _ hy), tz_no⟩
  rw [if_neg c16] at h
  obtain ⟨_, _, h⟩ := Option.bind_eq_some_iff.1 h
  exact on_tz ht h
theorem right_n {i : In} (h : rightS i = true) : 0 ≤ i.n ∧ i.n ≤ 65535 := by
  obtain ⟨h1, h2, h3, h4⟩ := right_parts h
  have hl := lo_pos i.op
  refine ⟨Int.le_trans hl h3, Int.le_trans h4 ?_⟩
  unfold hi
  repeat' split
  all_goals decide
theorem round_tz {f : Fu} {p : Fm} {L L' : Cs} {k : Nat} {s : Sp} (hi : rightS (f.cd.getD k default) = true) (hov : over s = false) (hL : ∀ (j : Nat) g x, L[j]? = some (some (g, x)) → Tz x) (hk : L[k]? = some (some (false, s))) (h : roundS f p L k s = .ok L') : ∀ (j : Nat) g x, L'[j]? = some (some (g, x)) → Tz x := by
  have hsl : s.st.length ≤ 512 := by unfold over at hov; simp at hov; exact hov.1
  unfold roundS at h
  split at h
  · cases h
  rename_i a b hs
  have ho := step_tz (right_n hi) hsl (hL _ _ _ hk) hs
  split at h
  · cases h
  split at h
  · cases h
  split at h
  · cases h
  rename_i L1 h1
  split at h
  · cases h
  rename_i L2 h2
  cases h
  have note_all : ∀ {A B : Cs} {j' : Nat} {z : Option Sp}, noteO A j' z = some B → TzO z → (∀ (j : Nat) g x, A[j]? = some (some (g, x)) → Tz x) → ∀ (j : Nat) g x, B[j]? = some (some (g, x)) → Tz x := by
    intro A B j' z hz ok hA j g x hx
    cases z with
    | none => cases hz; exact hA j g x hx
    | some z =>
      have hz : noteS A j' z = some B := hz
      unfold noteS at hz
      split at hz
      · cases hz
      · cases hz
        rw [List.getElem?_set] at hx
        split at hx
        · split at hx
          · cases hx; exact ok _ rfl
          · cases hx
        · exact hA j g x hx
      · split at hz
        · cases hz; exact hA j g x hx
        · cases hz
  refine note_all h2 ho.2 (note_all h1 ho.1 ?_)
  intro j g x hx
  rw [List.getElem?_set] at hx
  split at hx
  · split at hx
    · cases hx; exact hL _ _ _ hk
    · cases hx
  · exact hL j g x hx
end Go.Proofs.YtoiglopilpoafaaGreatDoor.Cd
