/- Where try and untry lead. -/
import Derived.Test.YtoiglopilpoafaaGreatDoorPk22
namespace Go.Proofs.YtoiglopilpoafaaGreatDoor.Cd
open Go.RowKit Ty
set_option linter.unusedSimpArgs false
set_option linter.unusedVariables false

/-- What ways answers of a try. -/
def wyT (k n : Nat) (hs : Bool) (N : Int) (s : Sp) : Int × List (Int × Sp) :=
  if hs = false ∨ k + 1 = n then (51, [])
  else if s.tr.length = 32 ∨ s.st.length = 512 then (3, [])
  else (0, [((k : Int) + 1, ⟨s.st, s.tr ++ [(N, s.st)]⟩), (N, ⟨s.st ++ [1], s.tr⟩)])
set_option maxRecDepth 20000 in
set_option maxHeartbeats 8000000 in
theorem ways_t (q gs ga n k b3 o3 c3 : Nat) (v0 v1 v2 v4 v5 : Value) (L : Cs) (s : Sp) (g : Bool) (N t b by' lo' hi' ta pu : Int) (nm : Bs) (hs : Bool) (w : World)
    (h : Wk w q gs ga n v0 v1 v2 (.slice (some ⟨b3, o3, none⟩) n c3) v4 v5 L) (hk : L[k]? = some (some (g, s))) (hn : n ≤ 1000000) (hc3 : n ≤ c3) (hc3m : c3 ≤ 9223372036854775807)
    (i0 : w.cell? ⟨b3, o3 + k * 4, none⟩ = some (ci 15)) (i1 : w.cell? ⟨b3, o3 + k * 4 + 1, none⟩ = some (ci N)) (i2 : w.cell? ⟨b3, o3 + k * 4 + 2, none⟩ = some (ci t)) (i3 : w.cell? ⟨b3, o3 + k * 4 + 3, none⟩ = some (.int .u64 b))
    (hm : s.tr.length ≤ 32) (hsl : s.st.length ≤ 512) (hN : D.I64 N) (htl : (encTr s.tr).length ≤ 1000000) (ht : F.Tab w)
    (kr : ∀ W, Calls Tryz.prog 71 #[ci 15] W fun e w' => e = .returned (.tuple #[.agg #[ct nm, ci by', ci lo', ci hi', ci 4, ci ta, ci pu, ci 1, .bool false], .bool true]) ∧ Fr (fun _ => False) W w')
    (kh : ∀ W, Fr (fun _ => False) w W → Calls Tryz.prog 93 #[.pointer (some ⟨q, 0, none⟩), .agg #[ci 15, ci N, ci t, .int .u64 b], ci 4] W fun e w' => e = .returned (.bool hs) ∧ Fr (fun _ => False) W w')
    (ks : hs = true → ∀ W, Fr (fun _ => False) w W → Calls Tryz.prog 94 #[.pointer (some ⟨q, 0, none⟩), .agg #[ci 15, ci N, ci t, .int .u64 b], .agg #[ct nm, ci by', ci lo', ci hi', ci 4, ci ta, ci pu, ci 1, .bool false], ct (encSt s.st)] W fun e w' => e = .returned (.tuple #[ct (encSt s.st), .bool true]) ∧ Fr (fun _ => False) W w') :
    Calls Tryz.prog 73 #[.pointer (some ⟨q, 0, none⟩), ci (k : Int)] w fun e w' => ∃ v, e = .returned (.tuple #[v, ci (wyT k n hs N s).1]) ∧ Fr (fun _ => False) w w' ∧ Wy w' w.heap.size v (wyT k n hs N s).2 := by
  have hkn : k < n := by rw [← h.len]; exact (List.getElem?_eq_some_iff.1 hk).1
  obtain ⟨_, _, _, d3, _, _, d6, d7⟩ := box8 h.box
  obtain ⟨a0, a1, a2⟩ := ah_at h.ah hk
  simp only [shO] at a0 a1 a2
  obtain ⟨x, hx⟩ : ∃ x, x = encSt s.st := ⟨_, rfl⟩
  obtain ⟨y, hy⟩ : ∃ y, y = encTr s.tr := ⟨_, rfl⟩
  obtain ⟨m, hmm⟩ : ∃ m, m = s.tr.length := ⟨_, rfl⟩
  rw [← hx] at a0 ks
  rw [← hy] at a1
  rw [← hmm] at a2 hm
  have hxH : Hidden (x = encSt s.st) := hx
  have hyH : Hidden (y = encTr s.tr) := hy
  have hmH : Hidden (m = s.tr.length) := hmm
  have hkz : (k : Int) < (n : Int) := by omega
  have q3 := World.new_ne w _ d3
  have q7 := World.new_ne w _ d7
  have p0 := World.new_ne w _ i0
  have p1 := World.new_ne w _ a0
  clear h hk hx hy hmm d6
  go_enter Tryz.func73, Tryz.ntmps73
  go_upto_region 1 with fail
  go_cut [6, 7] (fun p6 p7 wx => ∃ g6 g7, p6 = .pointer (some ⟨g6, 0, none⟩) ∧ p7 = .pointer (some ⟨g7, 0, none⟩) ∧ wx.heap[g6]? = some (.cells #[ci 15, ci N, ci t, .int .u64 b] 69 (0, 0)) ∧ wx.heap[g7]? = some (.cells #[ct x, ct y, ci (m : Int)] 148 (0, 0)) ∧ Fr (fun _ => False) w wx)
  case first =>
    go_region_held3 (fun w' => w'.cell? ⟨q, 3, none⟩ = some (.slice (some ⟨b3, o3, none⟩) n c3) ∧ w'.cell? ⟨q, 7, none⟩ = some (.slice (some ⟨ga, 0, none⟩) n n) ∧ w'.cell? ⟨b3, o3 + k * 4, none⟩ = some (ci 15) ∧ w'.cell? ⟨b3, o3 + k * 4 + 1, none⟩ = some (ci N) ∧ w'.cell? ⟨b3, o3 + k * 4 + 2, none⟩ = some (ci t) ∧ w'.cell? ⟨b3, o3 + k * 4 + 3, none⟩ = some (.int .u64 b) ∧ w'.cell? ⟨ga, k * 3, none⟩ = some (ct x) ∧ w'.cell? ⟨ga, k * 3 + 1, none⟩ = some (ct y) ∧ w'.cell? ⟨ga, k * 3 + 2, none⟩ = some (ci (m : Int))) (first | (refine ⟨by with_reducible assumption, by with_reducible assumption, by with_reducible assumption, by with_reducible assumption, by with_reducible assumption, by with_reducible assumption, by with_reducible assumption, by with_reducible assumption, by with_reducible assumption⟩) | go_keep) (fail)
    · go_wp2_with fail
      go_meet
      exact ⟨_, _, rfl, rfl, (Fr.drew (fun _ => False) _).heap (heap_alloc2_old _ _ _) (fun f => f), (Fr.drew (fun _ => False) _).heap (heap_alloc2_new _ _ _) (fun f => f), ((Fr.alloc _ _ _).same (Fr.alloc _ _ _)).same (Fr.drew _ _)⟩
    · go_wp2_with fail
      go_meet
      exact ⟨_, _, rfl, rfl, (Fr.drew (fun _ => False) _).heap (heap_alloc2_new _ _ _) (fun f => f), (Fr.drew (fun _ => False) _).heap (heap_alloc2_old _ _ _) (fun f => f), ((Fr.alloc _ _ _).same (Fr.alloc _ _ _)).same (Fr.drew _ _)⟩
  case rest =>
    obtain ⟨g6, g7, rfl, rfl, h6, h7, fc⟩ := hcut
    obtain ⟨r0, r1, r2, r3⟩ := box4 h6
    obtain ⟨t0, t1, t2⟩ := box3 h7
    have h6H : Hidden (wc.heap[g6]? = some (.cells #[ci 15, ci N, ci t, .int .u64 b] 69 (0, 0))) := h6
    have h7H : Hidden (wc.heap[g7]? = some (.cells #[ct x, ct y, ci (m : Int)] 148 (0, 0))) := h7
    have fcH : Hidden (Fr (fun _ => False) w wc) := fc
    have e3 := fc.cellN d3
    clear h6 h7 q3 q7 p0 p1 a0 a1 a2 i0 i1 i2 i3 d3 d7
    go_upto_region 3 with (first
      | (go_at_call 71; refine (kr _).mono ?_; rintro e w1 ⟨rfl, f1⟩))
    obtain ⟨V, hV⟩ : ∃ V, V = w1.alloc (.cells #[ct nm, ci by', ci lo', ci hi', ci 4, ci ta, ci pu, ci 1, .bool false] 136 (0, 0)) := ⟨_, rfl⟩
    have fV : Fr (fun _ => False) wc V := by rw [hV]; exact f1.same (Fr.alloc _ _ _)
    have hrow : V.heap[w1.heap.size]? = some (.cells #[ct nm, ci by', ci lo', ci hi', ci 4, ci ta, ci pu, ci 1, .bool false] 136 (0, 0)) := by rw [hV]; exact alloc_new _ _
    obtain ⟨s0, s1, s2, s3, s4, s5, s6, s7, s8⟩ := box9 hrow
    have hrowH : Hidden (V.heap[w1.heap.size]? = some (.cells #[ct nm, ci by', ci lo', ci hi', ci 4, ci ta, ci pu, ci 1, .bool false] 136 (0, 0))) := hrow
    replace r0 := fV.cellN r0
    replace r1 := fV.cellN r1
    replace r2 := fV.cellN r2
    replace r3 := fV.cellN r3
    replace t0 := fV.cellN t0
    replace t1 := fV.cellN t1
    replace t2 := fV.cellN t2
    replace e3 := fV.cellN e3
    have h6V : Hidden (V.heap[g6]? = some (.cells #[ci 15, ci N, ci t, .int .u64 b] 69 (0, 0))) := fV.heap h6H (fun f => f)
    have h7V : Hidden (V.heap[g7]? = some (.cells #[ct x, ct y, ci (m : Int)] 148 (0, 0))) := fV.heap h7H (fun f => f)
    have fwV : Hidden (Fr (fun _ => False) w V) := (show Fr (fun _ => False) w wc from fcH).same fV
    generalize w1.heap.size = g8 at *
    rw [← hV]
    clear hV fV hrow h6H h7H fcH f1 kr
    have khV : ∀ W, Fr (fun _ => False) V W → Calls Tryz.prog 93 #[.pointer (some ⟨q, 0, none⟩), .agg #[ci 15, ci N, ci t, .int .u64 b], ci 4] W fun e w' => e = .returned (.bool hs) ∧ Fr (fun _ => False) W w' := fun W hW => kh W ((show Fr (fun _ => False) w V from fwV).same hW)
    clear kh
    have hw2 : IntKind.i64.wrap ((m : Int) + 1) = (m : Int) + 1 := by rw [IntKind.wrap_i64]; omega
    have hm2 : decide ((m : Int) + 1 < 0) = false := by simp; omega
    go_cut [70] (fun c wx => c = .bool (!hs || decide (k + 1 = n)) ∧ Fr (fun _ => False) V wx)
    case first =>
      refine wp_region_grow (by kernel_rfl) (by kernel_rfl) ?_
      have hw1 : IntKind.i64.wrap ((k : Int) + 1) = (k : Int) + 1 := by rw [IntKind.wrap_i64]; omega
      by_cases hl : k + 1 = n
      · have hkn2 : ((k : Int) + 1 == (n : Int)) = true := by simp; omega
        have hlH : Hidden (k + 1 = n) := hl
        clear hl
        cases hs
        all_goals
          (repeat (first | (refine grow_op (v := ?_) ?_ ?_ ?_; rotate_left; (focus (first | exact wanted_none rfl | (go_simp; done))); (focus (intro w' hw'; have r0 := hw'.cellN r0; have r1 := hw'.cellN r1; have r2 := hw'.cellN r2; have r3 := hw'.cellN r3; have t2 := hw'.cellN t2; have s4 := hw'.cellN s4; have s7 := hw'.cellN s7; have s8 := hw'.cellN s8; have e3 := hw'.cellN e3; (go_simp; first | with_reducible rfl | (go_at_call 93; refine calls_grow hw' ?_; first | (have q := khV w' hw'; with_reducible exact q))))); (intro a' ha; simp only [Act.put, List.setIfInBounds_toArray, List.set_cons_zero, List.set_cons_succ] at ha; subst ha)) | (refine grow_no ?_ ?_; (focus (first | (go_simp; done) | rfl)); (intro a' ha; simp only [Act.put, List.setIfInBounds_toArray, List.set_cons_zero, List.set_cons_succ] at ha; subst ha)))); refine grow_nil ?_; intro w2 k2
          go_wp2_with fail
          go_meet
          exact ⟨congrArg Value.bool (by rw [decide_eq_true (show k + 1 = n from hlH)]; rfl), k2⟩
      · have hkn2 : ((k : Int) + 1 == (n : Int)) = false := by rw [beq_eq_false_iff_ne]; omega
        have hlH : Hidden (¬ k + 1 = n) := hl
        clear hl
        cases hs
        all_goals
          (repeat (first | (refine grow_op (v := ?_) ?_ ?_ ?_; rotate_left; (focus (first | exact wanted_none rfl | (go_simp; done))); (focus (intro w' hw'; have r0 := hw'.cellN r0; have r1 := hw'.cellN r1; have r2 := hw'.cellN r2; have r3 := hw'.cellN r3; have t2 := hw'.cellN t2; have s4 := hw'.cellN s4; have s7 := hw'.cellN s7; have s8 := hw'.cellN s8; have e3 := hw'.cellN e3; (go_simp; first | with_reducible rfl | (go_at_call 93; refine calls_grow hw' ?_; first | (have q := khV w' hw'; with_reducible exact q))))); (intro a' ha; simp only [Act.put, List.setIfInBounds_toArray, List.set_cons_zero, List.set_cons_succ] at ha; subst ha)) | (refine grow_no ?_ ?_; (focus (first | (go_simp; done) | rfl)); (intro a' ha; simp only [Act.put, List.setIfInBounds_toArray, List.set_cons_zero, List.set_cons_succ] at ha; subst ha)))); refine grow_nil ?_; intro w2 k2
          go_wp2_with fail
          go_meet
          exact ⟨congrArg Value.bool (by rw [decide_eq_false (show ¬ k + 1 = n from hlH)]; rfl), k2⟩
    case rest =>
      obtain ⟨rfl, fc⟩ := hcut
      by_cases hbad : hs = false ∨ k + 1 = n
      · have eb : (!hs || decide (k + 1 = n)) = true := by
          rcases hbad with e | e2
          · rw [e]; rfl
          · rw [decide_eq_true e2]; simp
        have er : wyT k n hs N s = (51, []) := by
          unfold wyT
          rw [if_pos hbad]
        rw [eb]
        have erH : Hidden (wyT k n hs N s = (51, [])) := er
        clear er eb hbad
        go_wp2_with fail
        go_ret2
        exact ⟨_, (by rw [show wyT k n hs N s = _ from erH]; rfl), (show Fr (fun _ => False) w V from fwV).same fc, by rw [show wyT k n hs N s = _ from erH]; exact Wy.nil _ _⟩
      · have hs1 : hs = true := by cases hs; exact absurd (Or.inl rfl) hbad; rfl
        subst hs1
        have eb : (!true || decide (k + 1 = n)) = false := by
          simp; intro e; exact hbad (Or.inr e)
        have ew : Hidden (wyT k n true N s = if s.tr.length = 32 ∨ s.st.length = 512 then (3, []) else (0, [((k : Int) + 1, ⟨s.st, s.tr ++ [(N, s.st)]⟩), (N, ⟨s.st ++ [1], s.tr⟩)])) := by
          show _ = _
          unfold wyT
          rw [if_neg hbad]
        rw [eb]
        have ksV : ∀ W, Fr (fun _ => False) V W → Calls Tryz.prog 94 #[.pointer (some ⟨q, 0, none⟩), .agg #[ci 15, ci N, ci t, .int .u64 b], .agg #[ct nm, ci by', ci lo', ci hi', ci 4, ci ta, ci pu, ci 1, .bool false], ct x] W fun e w' => e = .returned (.tuple #[ct x, .bool true]) ∧ Fr (fun _ => False) W w' := fun W hW => ks rfl W ((show Fr (fun _ => False) w V from fwV).same hW)
        have gwr : ∃ R, R = wyT k n true N s := ⟨_, rfl⟩
        obtain ⟨R, hR⟩ := gwr
        rw [← hR] at ew
        have hRH : Hidden (R = wyT k n true N s) := hR
        clear ks khV eb hbad hR
        replace r0 := fc.cellN r0
        replace r1 := fc.cellN r1
        replace r2 := fc.cellN r2
        replace r3 := fc.cellN r3
        replace t0 := fc.cellN t0
        replace t1 := fc.cellN t1
        replace t2 := fc.cellN t2
        replace s0 := fc.cellN s0
        replace s1 := fc.cellN s1
        replace s2 := fc.cellN s2
        replace s3 := fc.cellN s3
        replace s4 := fc.cellN s4
        replace s5 := fc.cellN s5
        replace s6 := fc.cellN s6
        replace s7 := fc.cellN s7
        replace s8 := fc.cellN s8
        have fcH : Hidden (Fr (fun _ => False) V wc) := fc
        have ksC : ∀ W, Fr (fun _ => False) wc W → Calls Tryz.prog 94 #[.pointer (some ⟨q, 0, none⟩), .agg #[ci 15, ci N, ci t, .int .u64 b], .agg #[ct nm, ci by', ci lo', ci hi', ci 4, ci ta, ci pu, ci 1, .bool false], ct x] W fun e w' => e = .returned (.tuple #[ct x, .bool true]) ∧ Fr (fun _ => False) W w' := fun W hW => ksV W (fc.same hW)
        clear ksV fc e3
        go_upto_region 5 with fail
        refine wp_region_grow (by kernel_rfl) (by kernel_rfl) ?_
        (repeat (first | (refine grow_op (v := ?_) ?_ ?_ ?_; rotate_left; (focus (first | exact wanted_none rfl | (go_simp; done))); (focus (intro w' hw'; have r0 := hw'.cellN r0; have r1 := hw'.cellN r1; have r2 := hw'.cellN r2; have r3 := hw'.cellN r3; have t0 := hw'.cellN t0; have s0 := hw'.cellN s0; have s1 := hw'.cellN s1; have s2 := hw'.cellN s2; have s3 := hw'.cellN s3; have s4 := hw'.cellN s4; have s5 := hw'.cellN s5; have s6 := hw'.cellN s6; have s7 := hw'.cellN s7; have s8 := hw'.cellN s8; (go_simp; first | with_reducible rfl | (go_at_call 94; refine calls_grow hw' ?_; first | (have q := ksC w' hw'; with_reducible exact q))))); (intro a' ha; simp only [Act.put, List.setIfInBounds_toArray, List.set_cons_zero, List.set_cons_succ] at ha; subst ha)) | (refine grow_no ?_ ?_; (focus (first | (go_simp; done) | rfl)); (intro a' ha; simp only [Act.put, List.setIfInBounds_toArray, List.set_cons_zero, List.set_cons_succ] at ha; subst ha)))); refine grow_nil ?_; intro w3 k3
        have hstl := str_len x
        have hxlH : Hidden (x.length = s.st.length) := by show _ = _; rw [show x = encSt s.st from hxH]; simp [encSt]
        have fw3 : Hidden (Fr (fun _ => False) w w3) := ((show Fr (fun _ => False) w V from fwV).same fcH).same k3
        replace t2 := k3.cellN t2
        replace t0 := k3.cellN t0
        replace t1 := k3.cellN t1
        replace s7 := k3.cellN s7
        replace s8 := k3.cellN s8
        replace s4 := k3.cellN s4
        replace r0 := k3.cellN r0
        replace r1 := k3.cellN r1
        have hxl5 : x.length ≤ 512 := by rw [show x.length = s.st.length from hxlH]; exact hsl
        have hb5 : decide (512 < (x.length : Int)) = false := by simp; omega
        have ewT : R = if m = 32 ∨ x.length = 512 then (3, []) else (0, [((k : Int) + 1, ⟨s.st, s.tr ++ [(N, s.st)]⟩), (N, ⟨s.st ++ [1], s.tr⟩)]) := by have := (show R = _ from ew); rw [show x.length = s.st.length from hxlH, show m = s.tr.length from hmH]; exact this
        by_cases hbig : m = 32 ∨ x.length = 512
        · have er : Hidden (R = (3, [])) := by rw [if_pos hbig] at ewT; exact ewT
          clear ewT
          by_cases hm3 : m = 32
          · subst hm3
            go_wp2_with fail
            go_ret2
            rw [← (show R = _ from hRH), show R = (3, []) from er]
            exact ⟨_, rfl, fw3, Wy.nil _ _⟩
          · have hm32 : decide (32 < (m : Int) + 1) = false := by simp; omega
            have hx5 : ((x.length : Int) == 512) = true := by have := hbig.resolve_left hm3; simp; omega
            have hx6 : (x.length == 512) = true := by have := hbig.resolve_left hm3; simp; omega
            have hx7 : decide (x.length = 512) = true := by have := hbig.resolve_left hm3; simp; omega
            have hx8 : ((x.length : Int) = 512) = True := by have := hbig.resolve_left hm3; simp; omega
            clear hbig hm3
            go_wp2_with fail
            go_ret2
            rw [← (show R = _ from hRH), show R = (3, []) from er]
            exact ⟨_, rfl, fw3, Wy.nil _ _⟩
        · have hm32 : decide (32 < (m : Int) + 1) = false := by simp; omega
          have hx5 : ((x.length : Int) == 512) = false := by simp; omega
          have hx6 : (x.length == 512) = false := by simp; omega
          have hx7 : decide (x.length = 512) = false := by simp; omega
          have hx8 : ((x.length : Int) = 512) = False := by simp; omega
          have er : Hidden (R = (0, [((k : Int) + 1, ⟨s.st, s.tr ++ [(N, s.st)]⟩), (N, ⟨s.st ++ [1], s.tr⟩)])) := by rw [if_neg hbig] at ewT; exact ewT
          have kw := fun W => with_any x y x (m : Int) W
          have htw : Hidden (F.Tab w) := ht
          clear ewT hbig ht
          go_upto_region 11 with (first
            | (go_at_call 95; refine (kw _).mono ?_; rintro e w4 ⟨rfl, f4⟩))
          obtain ⟨V4, hV4⟩ : ∃ V, V = w4.alloc (.cells #[ct x, ct y, ci (m : Int)] 148 (0, 0)) := ⟨_, rfl⟩
          have f5 : Fr (fun _ => False) w3 V4 := by rw [hV4]; exact f4.same (Fr.alloc _ _ _)
          have h12 : V4.heap[w4.heap.size]? = some (.cells #[ct x, ct y, ci (m : Int)] 148 (0, 0)) := by rw [hV4]; exact alloc_new _ _
          obtain ⟨j0, j1, j2⟩ := box3 h12
          have hlt12 := lt_of_heap h12
          generalize w4.heap.size = g12 at *
          rw [← hV4]
          replace r0 := f5.cellN r0
          replace r1 := f5.cellN r1
          replace s4 := f5.cellN s4
          replace s8 := f5.cellN s8
          have fw5 : Hidden (Fr (fun _ => False) w V4) := (show Fr (fun _ => False) w w3 from fw3).same f5
          have x0 := World.new_ne V4 _ j0
          clear hV4 f5 h12 f4 kw fw3 t0 t1 t2 s7
          go_cut [13, 14] (fun p13 p14 wx => ∃ g13 g14, p13 = .pointer (some ⟨g13, 0, none⟩) ∧ p14 = .pointer (some ⟨g14, 0, none⟩) ∧ wx.heap[g13]? = some (.cells #[ct x, ct y, ci (m : Int)] 148 (0, 0)) ∧ wx.heap[g14]? = some (.cells #[ct x, ct y, ci (m : Int)] 148 (0, 0)) ∧ Fr (fun _ => False) V4 wx ∧ g13 ≠ g14 ∧ V4.heap.size ≤ g13 ∧ V4.heap.size ≤ g14)
          case first =>
            go_region_held3 (fun w' => w'.cell? ⟨g12, 0, none⟩ = some (ct x) ∧ w'.cell? ⟨g12, 1, none⟩ = some (ct y) ∧ w'.cell? ⟨g12, 2, none⟩ = some (ci (m : Int))) (first | (refine ⟨by with_reducible assumption, by with_reducible assumption, by with_reducible assumption⟩) | go_keep) (fail)
            · go_wp2_with fail
              go_meet
              exact ⟨_, _, rfl, rfl, (Fr.drew (fun _ => False) _).heap (heap_alloc2_old _ _ _) (fun f => f), (Fr.drew (fun _ => False) _).heap (heap_alloc2_new _ _ _) (fun f => f), ((Fr.alloc _ _ _).same (Fr.alloc _ _ _)).same (Fr.drew _ _), by omega, by omega, by omega⟩
            · go_wp2_with fail
              go_meet
              exact ⟨_, _, rfl, rfl, (Fr.drew (fun _ => False) _).heap (heap_alloc2_new _ _ _) (fun f => f), (Fr.drew (fun _ => False) _).heap (heap_alloc2_old _ _ _) (fun f => f), ((Fr.alloc _ _ _).same (Fr.alloc _ _ _)).same (Fr.drew _ _), by omega, by omega, by omega⟩
          case rest =>
            obtain ⟨g13, g14, rfl, rfl, h13, h14, fd, hne, hg13, hg14⟩ := hcut
            have fwd : Hidden (Fr (fun _ => False) w wc) := (show Fr (fun _ => False) w V4 from fw5).same fd
            have hszH : Hidden (w.heap.size ≤ V4.heap.size) := (show Fr (fun _ => False) w V4 from fw5).size
            have n13 : g12 ≠ g13 := by omega
            have n6a : g6 ≠ g13 := by have h1 := World.block_lt_of_cell? V4 _ r1; simp only [] at h1; omega
            have n6b : g6 ≠ g14 := by have h1 := World.block_lt_of_cell? V4 _ r1; simp only [] at h1; omega
            have n8a : g8 ≠ g13 := by have h1 := World.block_lt_of_cell? V4 _ s4; simp only [] at h1; omega
            have n8b : g8 ≠ g14 := by have h1 := World.block_lt_of_cell? V4 _ s4; simp only [] at h1; omega
            have n34 : g14 ≠ g13 := fun e => hne e.symm
            have n14 : g12 ≠ g14 := by omega
            have h6c : Hidden (g6 ≠ g13 ∧ g6 ≠ g14) := by
              have h1 := World.block_lt_of_cell? V4 _ r1
              simp only [] at h1
              exact ⟨by omega, by omega⟩
            have h8c : Hidden (g8 ≠ g13 ∧ g8 ≠ g14) := by
              have h1 := World.block_lt_of_cell? V4 _ s4
              simp only [] at h1
              exact ⟨by omega, by omega⟩
            replace r0 := fd.cellN r0
            replace r1 := fd.cellN r1
            replace s4 := fd.cellN s4
            replace s8 := fd.cellN s8
            replace j0 := fd.cellN j0
            replace j1 := fd.cellN j1
            replace j2 := fd.cellN j2
            have hlen13 : Hidden (V4.heap.size ≤ g13 ∧ V4.heap.size ≤ g14) := ⟨hg13, hg14⟩
            have kop : ∀ W, Fr (fun _ => False) wc W → _ := fun W f => opening_any x y m N hN (by omega) (by rw [show y = encTr s.tr from hyH]; exact htl) (by omega) W (tab_fr htw ((show Fr (fun _ => False) w wc from fwd).same f))
            have ksi := fun W => single_any 1 (Or.inr (by decide)) W
            have e1 : encSt (oneS 1) = [1] := by decide
            rw [e1] at ksi
            obtain ⟨Y, hY⟩ : ∃ Y, Y = y ++ (Lib.itoa N ++ x ++ [10]) := ⟨_, rfl⟩
            rw [← hY] at kop
            have hYH : Hidden (Y = y ++ (Lib.itoa N ++ x ++ [10])) := hY
            have hcc := fun W : World => run_string_add_lists (P := Tryz.prog) W x [1] (by omega) (by simp)
            obtain ⟨X, hX⟩ : ∃ X, X = x ++ [1] := ⟨_, rfl⟩
            rw [← hX] at hcc
            have hXH : Hidden (X = x ++ [1]) := hX
            have kwi : ∀ W, _ := fun W => with_any x y X (m : Int) W
            have h13H : Hidden (wc.heap[g13]? = some (.cells #[ct x, ct y, ci (m : Int)] 148 (0, 0))) := h13
            have h14H : Hidden (wc.heap[g14]? = some (.cells #[ct x, ct y, ci (m : Int)] 148 (0, 0))) := h14
            have y0 := frozen_of_row h13 0
            have y1 := frozen_of_row h13 1
            have y2 := frozen_of_row h13 2
            have z0 := frozen_of_row h14 0
            have z1 := frozen_of_row h14 1
            have z2 := frozen_of_row h14 2
            have hneH : Hidden (g13 ≠ g14) := hne
            clear h13 h14 hY hX e1 fd hg13 hg14 hlt12 x0
            go_upto_region 14 with fail
            go_region_held3 (fun w' => w'.cell? ⟨g12, 0, none⟩ = some (ct x) ∧ w'.cell? ⟨g12, 1, none⟩ = some (ct y) ∧ w'.cell? ⟨g12, 2, none⟩ = some (ci (m : Int)) ∧ w'.cell? ⟨g6, 1, none⟩ = some (ci N)) (first | (refine ⟨by with_reducible assumption, by with_reducible assumption, by with_reducible assumption, by with_reducible assumption⟩) | (refine ⟨?_, ?_, ?_, ?_⟩ <;> (repeat (first | (with_reducible assumption) | (refine cell_other ?_ (by assumption)) | (refine (Fr.drew (fun _ => False) _).cellN ?_)))) | go_keep) (first
              | (go_at_call 96; (go_split_ands); refine (kop _ (by first | exact Fr.refl _ _ | exact Fr.drew _ _)).mono ?_; rintro e wa ⟨rfl, fa⟩; have ga : Fr (fun _ => False) wc wa := (by first | exact fa | exact (Fr.drew _ _).same fa); have p0 := ga.cellN j0; have p1 := ga.cellN j1; have p2 := ga.cellN j2; have p3 := ga.cellN r1)
              | (go_at_call 97; (go_split_ands); refine (ksi _).mono ?_; rintro e wb ⟨rfl, fb⟩; have gb : Fr (fun _ => False) wc wb := ga.same fb; have q0 := gb.cellN j0; have q1 := gb.cellN j1; have q2 := gb.cellN j2; have q3 := gb.cellN r1)
              | (go_at_call 95; (go_split_ands); refine (kwi _).mono ?_; rintro e wd ⟨rfl, fd⟩; have gd : Fr (fun _ => False) wc wd := gb.same fd; have l0 := gd.cellN j0; have l1 := gd.cellN j1; have l2 := gd.cellN j2; have l3 := gd.cellN r1; have hd13 := gd.heap (show wc.heap[g13]? = _ from h13H) (fun f => f); have hd14 := gd.heap (show wc.heap[g14]? = _ from h14H) (fun f => f); obtain ⟨a0, a1, a2⟩ := box3 hd13; obtain ⟨b0, b1, b2⟩ := box3 hd14; have ya0 := frozen_of_row hd13 0; have ya1 := frozen_of_row hd13 1; have ya2 := frozen_of_row hd13 2; have yb0 := frozen_of_row hd14 0; have yb1 := frozen_of_row hd14 1; have yb2 := frozen_of_row hd14 2))
            all_goals trace_state
            all_goals
              obtain ⟨U, hU⟩ : ∃ U, U = ((((((wd.setCell ⟨g13, 0, none⟩ (ct x)).setCell ⟨g13, 1, none⟩ (ct Y)).setCell ⟨g13, 2, none⟩ (ci ((m : Int) + 1))).setCell ⟨g14, 0, none⟩ (ct X)).setCell ⟨g14, 1, none⟩ (ct y)).setCell ⟨g14, 2, none⟩ (ci (m : Int))) := ⟨_, rfl⟩
              have hU13 : U.heap[g13]? = some (.cells #[ct x, ct Y, ci ((m : Int) + 1)] 148 (0, 0)) := by rw [hU]; exact (three_fr _ g14 _ _ _).heap (three_put (gd.heap (show wc.heap[g13]? = _ from h13H) (fun f => f)) _ _ _) (show ¬ g13 = g14 from hneH)
              have hU14 : U.heap[g14]? = some (.cells #[ct X, ct y, ci (m : Int)] 148 (0, 0)) := by rw [hU]; exact three_put ((three_fr _ g13 _ _ _).heap (gd.heap (show wc.heap[g14]? = _ from h14H) (fun f => f)) (fun e => hneH e.symm)) _ _ _
              have hUf : Fr (fun k => k = g13 ∨ k = g14) wc U := by rw [hU]; exact ((gd.mono (fun _ _ f => f.elim)).same ((three_fr _ g13 _ _ _).mono (fun _ _ e => Or.inl e))).same ((three_fr _ g14 _ _ _).mono (fun _ _ e => Or.inr e))
              rw [← hU]
              clear hU
              have r0 := hUf.cell r0 (show ¬ (g6 = g13 ∨ g6 = g14) by omega)
              have r1 := hUf.cell r1 (show ¬ (g6 = g13 ∨ g6 = g14) by omega)
              have s4 := hUf.cell s4 (show ¬ (g8 = g13 ∨ g8 = g14) by omega)
              have s8 := hUf.cell s8 (show ¬ (g8 = g13 ∨ g8 = g14) by omega)
              obtain ⟨m0, m1, m2⟩ := box3 hU13
              obtain ⟨n0, n1, n2⟩ := box3 hU14
              have hgs : V4.heap.size ≤ g13 ∧ V4.heap.size ≤ g14 := hlen13
              have hws : w.heap.size ≤ V4.heap.size := hszH
              have fwU : Hidden (Fr (fun _ => False) w U) := Fr.over (show Fr (fun _ => False) w wc from fwd) hUf (fun k e => by omega)
              have hszU : Hidden (w.heap.size ≤ U.heap.size) := (show Fr (fun _ => False) w U from fwU).size
              have hw1 : IntKind.i64.wrap ((k : Int) + 1) = (k : Int) + 1 := by rw [IntKind.wrap_i64]; omega
              have hcA : Hidden (wyC ((k : Int) + 1, ⟨s.st, s.tr ++ [(N, s.st)]⟩) = [ci ((k : Int) + 1), ct x, ct Y, ci ((m : Int) + 1)]) := by
                show [ci ((k : Int) + 1), ct (encSt s.st), ct (encTr (s.tr ++ [(N, s.st)])), ci (((s.tr ++ [(N, s.st)]).length : Nat) : Int)] = _
                rw [encTr_snoc, ← (show x = _ from hxH), ← (show y = _ from hyH), ← (show Y = _ from hYH), List.length_append, show s.tr.length = m from (show m = _ from hmH).symm]
                rfl
              have hcB : Hidden (wyC (N, ⟨s.st ++ [1], s.tr⟩) = [ci N, ct X, ct y, ci (m : Int)]) := by
                show [ci N, ct (encSt (s.st ++ [1])), ct (encTr s.tr), ci (s.tr.length : Int)] = _
                rw [encSt_app, ← (show x = _ from hxH), ← (show y = _ from hyH), show encSt [1] = [1] by decide, ← (show X = _ from hXH), show s.tr.length = m from (show m = _ from hmH).symm]
              clear hUf hU13 hU14 hgs hws gd j0 j1 j2 h6c h8c y0 y1 y2 z0 z1 z2 n13 n14 n6a n6b n8a n8b n34 hne
              go_wp2_with (first
                | (at_builtin
                   have q := a5
                   refine wpl_way rfl _ _ rfl w.heap.size v5 [((k : Int) + 1, ⟨s.st, s.tr ++ [(N, s.st)]⟩)] (N, ⟨s.st ++ [1], s.tr⟩) w5.heap.size rfl ?f0 rfl ?f1 ?f2 ?f3 ?_
                   case f0 => exact Wy.keepN hr5 (Fr.alloc _ _ _)
                   case f1 => intro j u hu; rw [(show wyC (N, _) = _ from hcB)] at hu; exact (cell_of_row _ _ j _ _ _ (alloc_new _ _)).trans (by simpa using hu)
                   case f2 => simp
                   case f3 => have : w.heap.size ≤ U.heap.size := hszU; have := f55.size; simp; omega
                   intro v6 w6 hr6 a6)
                | (at_builtin
                   refine wpl_way rfl _ _ rfl w.heap.size (.slice none 0 0) [] ((k : Int) + 1, ⟨s.st, s.tr ++ [(N, s.st)]⟩) U.heap.size rfl ?e0 rfl ?e1 ?e2 ?e3 ?_
                   case e0 => exact Wy.nil _ _
                   case e1 => intro j u hu; rw [(show wyC ((k : Int) + 1, _) = _ from hcA)] at hu; exact (cell_of_row _ _ j _ _ _ (alloc_new _ _)).trans (by simpa using hu)
                   case e2 => decide
                   case e3 => have : w.heap.size ≤ U.heap.size := hszU; simp; omega
                   intro v5 w5 hr5 a5
                   have f55 : Fr (fun _ => False) U w5 := (Fr.alloc _ _ _).same a5.none
                   have z4 := f55.cellN s4
                   have z1 := f55.cellN r1
                   have z5 := f55.cellN n0
                   have z6 := f55.cellN n1
                   have z7 := f55.cellN n2))
              go_ret2
              rw [← (show R = _ from hRH), show R = _ from er]
              exact ⟨_, rfl, (show Fr (fun _ => False) w U from fwU).same (((Ap.after (Fr.alloc _ _ _) a5).trans (Ap.after (Fr.alloc _ _ _) a6)).none), hr6⟩
end Go.Proofs.YtoiglopilpoafaaGreatDoor.Cd
