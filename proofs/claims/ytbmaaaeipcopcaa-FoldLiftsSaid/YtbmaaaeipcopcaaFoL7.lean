/- The law's lifted: a step (for FoldLifts). -/
import Derived.Test.YtbmaaaeipcopcaaFoLa
namespace Go.Proofs.Ytbmaaaeipcopcaa.Fo
open Go.RowKit Te
set_option linter.unusedSimpArgs false
set_option linter.unusedVariables false

theorem info_ex3 : (Try.prog.info? 27).map (fun i => (i.zero, i.size, i.bytes)) = some (some (.agg #[.int .i64 0, .int .i64 0, .string ⟨#[]⟩, .string ⟨#[]⟩, .int .i64 0, .int .u64 0, .slice none 0 0]), 7, 88) := by kernel_rfl
theorem post_xxd {fn : Func} {T : Nat} {w0 : World} {x p0 : EH × Exs} {a : Act} {w : World} {p u : Tmp} {g g2 : Nat} {h h2 : EH} {v v2 : Value} (hg : w.heap[g]? = some (exO h v)) (hg2 : w.heap[g2]? = some (exO h2 v2)) (hr : fn.results = #[.cell p 27, .cell u 27]) (hd : a.defers = [])
    (hp : a.tmps.getD p undef = .pointer (some ⟨g, 0, none⟩)) (hu : a.tmps.getD u undef = .pointer (some ⟨g2, 0, none⟩)) (hR : LfE T w0 x p0 (.returned (.tuple #[exV h v, exV h2 v2])) w) : bodyPost Try.prog fn (LfE T w0 x p0) .ret a w.drew := by
  obtain ⟨a1, c1, a2, c2, e, h1, h2', h3⟩ := hR
  exact post_xx (w := w.drew) hg hg2 hr hd hp hu ⟨a1, c1, a2, c2, e, fun w'' f => h1 w'' ((Fr.drew _ _).same f), fun w'' f => h2' w'' ((Fr.drew _ _).same f), h3.same (Fr.drew _ _)⟩
theorem block_lt {w : World} {g : Nat} {o : Obj} (h : w.heap[g]? = some o) : g < w.heap.size := (Array.getElem?_eq_some_iff.1 h).1
set_option maxRecDepth 20000 in
set_option maxHeartbeats 16000000 in
theorem lift_step_false_more (ws : List Bool) (ih : LfX ws) (h : EH) (k : Exs) (y : EH × Exs) (hy : getX k 0 = some y) (kb ko cap : Nat) (wb wo wc : Nat) (hone : ¬ wc = 1) (T : Nat) (w : World) (hT : T ≤ w.heap.size) (hkp : KpX w (fun b => T ≤ b) (some ⟨kb, ko, none⟩) cap k) (hs : k.len * 88 ≤ 140737488351232) (hbd : BdX k) (hw : BoR w (some ⟨wb, wo, none⟩) wc (false :: ws)) :
    Calls Try.prog 8 #[exV h (.slice (some ⟨kb, ko, none⟩) k.len cap), .slice (some ⟨wb, wo, none⟩) (ws.length + 1) wc, ct zz] w (LfE T w (h, setX k 0 (liftS ws y.1 y.2).1) (liftS ws y.1 y.2).2) := by
  have hk := hkp.now
  have hc1 := hk.1
  have hc2 : cap ≤ 9223372036854775807 := by have := hk.2.1; unfold maxLen at this; omega
  have hd1 : ws.length + 1 ≤ wc := hw.1
  have hd2 : wc ≤ 9223372036854775807 := by have := hw.2.1; unfold maxLen at this; omega
  have hlt := getX_lt k _ y hy
  have hyb := BdX_get k _ y hbd hy
  have f0 : Fr FN w (((w.alloc (exO h (.slice (some ⟨kb, ko, none⟩) k.len cap))).alloc zE).alloc zE) := ((Fr.alloc _ _ _).same (Fr.alloc _ _ _)).same (Fr.alloc _ _ _)
  have hA : Hidden ((((w.alloc (exO h (.slice (some ⟨kb, ko, none⟩) k.len cap))).alloc zE).alloc zE).heap[w.heap.size]? = some (exO h (.slice (some ⟨kb, ko, none⟩) k.len cap))) := (alloc_old _ _ _ (by simp; omega)).trans ((alloc_old _ _ _ (by simp)).trans (alloc_new _ _))
  have hB : Hidden ((((w.alloc (exO h (.slice (some ⟨kb, ko, none⟩) k.len cap))).alloc zE).alloc zE).heap[w.heap.size + 1]? = some zE) := (alloc_old _ _ _ (by simp)).trans (alloc_at _ _ _ (by simp))
  have hC : Hidden ((((w.alloc (exO h (.slice (some ⟨kb, ko, none⟩) k.len cap))).alloc zE).alloc zE).heap[w.heap.size + 2]? = some zE) := alloc_at _ _ _ (by simp)
  obtain ⟨W0, hW0⟩ : ∃ W, W = (((w.alloc (exO h (.slice (some ⟨kb, ko, none⟩) k.len cap))).alloc zE).alloc zE) := ⟨_, rfl⟩
  have hsz0 : Hidden (W0.heap.size = w.heap.size + 3) := by rw [hW0]; simp [Hidden]
  rw [← hW0] at f0 hA hB hC
  have hW0H : Hidden (W0 = _) := hW0
  have f0H : Hidden (Fr FN w W0) := f0
  obtain ⟨ya, yc, hyK, d0, d1, d2, d3, d4, d5, d6⟩ := hkp.kid hy
  have hkb : kb < w.heap.size := cell_lt d0
  simp only [Nat.zero_mul, Nat.add_zero] at d0 d1 d2 d3 d4 d5 d6
  have e1 : W0.cell? ⟨kb, ko, none⟩ = some (ci y.1.kind) := f0.cellN d0
  have e2 : W0.cell? ⟨kb, ko + 1, none⟩ = some (ci y.1.op) := f0.cellN d1
  have e3 : W0.cell? ⟨kb, ko + 2, none⟩ = some (ct y.1.mod) := f0.cellN d2
  have e4 : W0.cell? ⟨kb, ko + 3, none⟩ = some (ct y.1.name) := f0.cellN d3
  have e5 : W0.cell? ⟨kb, ko + 4, none⟩ = some (ci y.1.vt) := f0.cellN d4
  have e6 : W0.cell? ⟨kb, ko + 5, none⟩ = some (.int .u64 y.1.vb) := f0.cellN d5
  have e7 : W0.cell? ⟨kb, ko + 6, none⟩ = some (.slice ya y.2.len yc) := f0.cellN d6
  have hwt : BoR w (some ⟨wb, wo + 1, none⟩) (wc - 1) ws := hw.tail
  have wcell : W0.cell? ⟨wb, wo, none⟩ = some (.bool false) := by
    rcases hw.2.2 with h0 | ⟨b, off, e, hc⟩
    · cases h0
    · cases e
      exact f0.cellN (hc 0 _ rfl)
  have kL := fun (w1 : World) (f : Fr FN W0 w1) => ih y.1 y.2 ya yc (some ⟨wb, wo + 1, none⟩) (wc - 1) T w1 (Nat.le_trans hT (f0.same f).size) (hyK.keep (f0.same f) (fun _ _ hb => hb)) hyb.1 hyb.2 (hwt.keep (f0.same f))
  generalize (liftS ws y.1 y.2).1 = X at *
  generalize (liftS ws y.1 y.2).2 = P at *
  have kLH : Hidden (∀ (w1 : World) (f : Fr FN W0 w1), Calls Try.prog 8 #[exV y.1 (.slice ya y.2.len yc), .slice (some ⟨wb, wo + 1, none⟩) ws.length (wc - 1), ct zz] w1 (LfE T w1 X P)) := kL
  unfold LfE at kL
  obtain ⟨e0, _, _, _, _, _, _⟩ : W0.cell? ⟨w.heap.size, 6, none⟩ = some (.slice (some ⟨kb, ko, none⟩) k.len cap) ∧ True ∧ True ∧ True ∧ True ∧ True ∧ True := by
    obtain ⟨_, _, _, _, _, _, a6⟩ := ex_box hA
    exact ⟨a6, trivial, trivial, trivial, trivial, trivial, trivial⟩
  have t1 : ((k.len : Int) == 0) = false := by simp; omega
  have t2 : ((ws.length : Int) + 1 == 0) = false := by simp; omega
  have t3 : (((ws.length + 1 : Nat) : Int) == 0) = false := by simp; omega
  have s1 : (1 : Int) ≤ ((ws.length + 1 : Nat) : Int) := by omega
  have s2 : (1 : Int) ≤ (ws.length : Int) + 1 := by omega
  have s3 : ((ws.length : Int) + 1) ≤ (wc : Int) := by omega
  have s4 : (((ws.length + 1 : Nat) : Int)) ≤ (wc : Int) := by omega
  have s5 : (1 : Int) ≤ (wc : Int) := by omega
  have s6 : 1 ≤ wc := by omega
  have s7 : ¬ ((ws.length : Int) + 1 < 1) := by omega
  have hkpH : Hidden (KpX w (fun b => T ≤ b) (some ⟨kb, ko, none⟩) cap k) := hkp
  clear hy hyK hwt hyb d0 d1 d2 d3 d4 d5 d6 f0 hW0 hw hkp hk
  go_enter Try.func8, Try.ntmps8
  go_upto_region 4 with fail
  rw [← (show W0 = _ from hW0H)]
  go_upto_region 6 with fail
  go_cut [9, 10] (fun p9 p10 wx => EndR T W0 X P p9 p10 wx)
  case first =>
    have hT0 : T ≤ W0.heap.size := by have : W0.heap.size = w.heap.size + 3 := hsz0; omega
    have m0 : W0.heap.size ≠ w.heap.size := World.new_ne W0 _ e0
    have m1 : W0.heap.size ≠ kb := World.new_ne W0 _ e1
    have m2 : W0.heap.size + 1 ≠ w.heap.size := by have : W0.heap.size = w.heap.size + 3 := hsz0; omega
    have m3 : W0.heap.size + 1 ≠ kb := by have : W0.heap.size = w.heap.size + 3 := hsz0; omega
    go_region_held3 (fun w' => w'.cell? ⟨w.heap.size, 6, none⟩ = some (.slice (some ⟨kb, ko, none⟩) k.len cap) ∧ w'.cell? ⟨kb, ko, none⟩ = some (ci y.1.kind) ∧ w'.cell? ⟨kb, ko + 1, none⟩ = some (ci y.1.op) ∧ w'.cell? ⟨kb, ko + 2, none⟩ = some (ct y.1.mod) ∧ w'.cell? ⟨kb, ko + 3, none⟩ = some (ct y.1.name) ∧ w'.cell? ⟨kb, ko + 4, none⟩ = some (ci y.1.vt) ∧ w'.cell? ⟨kb, ko + 5, none⟩ = some (.int .u64 y.1.vb) ∧ w'.cell? ⟨kb, ko + 6, none⟩ = some (.slice ya y.2.len yc)) (first | (refine ⟨by with_reducible assumption, by with_reducible assumption, by with_reducible assumption, by with_reducible assumption, by with_reducible assumption, by with_reducible assumption, by with_reducible assumption, by with_reducible assumption⟩) | go_keep) (first
      | (go_at_call 8; refine Calls.mono (kL (W0.drew) (Fr.drew FN W0)) ?_; rintro e w6 ⟨a1, c1, a2, c2, rfl, hx1, hp1, f6⟩; have g6 := (Fr.drew FN W0).same f6; have q0 := g6.cellN e0; have q1 := g6.cellN e1; have q2 := g6.cellN e2; have q3 := g6.cellN e3; have q4 := g6.cellN e4; have q5 := g6.cellN e5; have q6 := g6.cellN e6; have q7 := g6.cellN e7; have n0 : w6.heap.size ≠ w.heap.size := World.new_ne w6 _ q0; have n1 : w6.heap.size ≠ kb := World.new_ne w6 _ q1; have n2 : w6.heap.size + 1 ≠ w.heap.size := Nat.ne_of_gt (Nat.lt_succ_of_lt (cell_lt q0)); have n3 : w6.heap.size + 1 ≠ kb := Nat.ne_of_gt (Nat.lt_succ_of_lt (cell_lt q1)))
      | (go_at_call 8; refine Calls.mono (kL ((W0.alloc (exO ⟨0, 0, [], [], 0, 0⟩ (.slice none 0 0))).drew) ((Fr.alloc FN W0 (exO ⟨0, 0, [], [], 0, 0⟩ (.slice none 0 0))).same (Fr.drew FN _))) ?_; rintro e w6 ⟨a1, c1, a2, c2, rfl, hx1, hp1, f6⟩; have g6 := ((Fr.alloc FN W0 (exO ⟨0, 0, [], [], 0, 0⟩ (.slice none 0 0))).same (Fr.drew FN _)).same f6; have q0 := g6.cellN e0; have q1 := g6.cellN e1; have q2 := g6.cellN e2; have q3 := g6.cellN e3; have q4 := g6.cellN e4; have q5 := g6.cellN e5; have q6 := g6.cellN e6; have q7 := g6.cellN e7; have hz : w6.heap[W0.heap.size]? = some (exO ⟨0, 0, [], [], 0, 0⟩ (.slice none 0 0)) := f6.heap (alloc_new W0 _) (fun f => f); obtain ⟨z0, z1, z2, z3, z4, z5, z6⟩ := ex_box hz; have y0 := frozen_row hz 0; have y1 := frozen_row hz 1; have y2 := frozen_row hz 2; have y3 := frozen_row hz 3; have y4 := frozen_row hz 4; have y5 := frozen_row hz 5; have y6 := frozen_row hz 6; have n0 : w6.heap.size ≠ w.heap.size := World.new_ne w6 _ q0; have n1 : w6.heap.size ≠ kb := World.new_ne w6 _ q1; have n2 : w6.heap.size ≠ W0.heap.size := World.new_ne w6 _ z0; have hzo : ∀ o : Obj, (w6.alloc o).heap[W0.heap.size]? = some (exO ⟨0, 0, [], [], 0, 0⟩ (.slice none 0 0)) := fun o => (Fr.alloc FN w6 o).heap hz (fun f => f); have C0 := fun o : Obj => cell_of_row (w6.alloc o) _ 0 _ _ _ (hzo o); have Q0 := fun o : Obj => frozen_row (hzo o) 0; have C1 := fun o : Obj => cell_of_row (w6.alloc o) _ 1 _ _ _ (hzo o); have Q1 := fun o : Obj => frozen_row (hzo o) 1; have C2 := fun o : Obj => cell_of_row (w6.alloc o) _ 2 _ _ _ (hzo o); have Q2 := fun o : Obj => frozen_row (hzo o) 2; have C3 := fun o : Obj => cell_of_row (w6.alloc o) _ 3 _ _ _ (hzo o); have Q3 := fun o : Obj => frozen_row (hzo o) 3; have C4 := fun o : Obj => cell_of_row (w6.alloc o) _ 4 _ _ _ (hzo o); have Q4 := fun o : Obj => frozen_row (hzo o) 4; have C5 := fun o : Obj => cell_of_row (w6.alloc o) _ 5 _ _ _ (hzo o); have Q5 := fun o : Obj => frozen_row (hzo o) 5; have C6 := fun o : Obj => cell_of_row (w6.alloc o) _ 6 _ _ _ (hzo o); have Q6 := fun o : Obj => frozen_row (hzo o) 6; clear hzo)
      | (go_at_call 8; refine Calls.mono (kL (((W0.alloc (exO ⟨0, 0, [], [], 0, 0⟩ (.slice none 0 0))).alloc (exO ⟨0, 0, [], [], 0, 0⟩ (.slice none 0 0))).drew) (((Fr.alloc FN W0 (exO ⟨0, 0, [], [], 0, 0⟩ (.slice none 0 0))).same (Fr.alloc FN _ (exO ⟨0, 0, [], [], 0, 0⟩ (.slice none 0 0)))).same (Fr.drew FN _))) ?_; rintro e w6 ⟨a1, c1, a2, c2, rfl, hx1, hp1, f6⟩; have g6 := (((Fr.alloc FN W0 (exO ⟨0, 0, [], [], 0, 0⟩ (.slice none 0 0))).same (Fr.alloc FN _ (exO ⟨0, 0, [], [], 0, 0⟩ (.slice none 0 0)))).same (Fr.drew FN _)).same f6; have q0 := g6.cellN e0; have q1 := g6.cellN e1; have q2 := g6.cellN e2; have q3 := g6.cellN e3; have q4 := g6.cellN e4; have q5 := g6.cellN e5; have q6 := g6.cellN e6; have q7 := g6.cellN e7; have hz : w6.heap[W0.heap.size]? = some (exO ⟨0, 0, [], [], 0, 0⟩ (.slice none 0 0)) := f6.heap ((alloc_old _ _ _ (by simp)).trans (alloc_new W0 _)) (fun f => f); obtain ⟨z0, z1, z2, z3, z4, z5, z6⟩ := ex_box hz; have y0 := frozen_row hz 0; have y1 := frozen_row hz 1; have y2 := frozen_row hz 2; have y3 := frozen_row hz 3; have y4 := frozen_row hz 4; have y5 := frozen_row hz 5; have y6 := frozen_row hz 6; have hZ : w6.heap[W0.heap.size + 1]? = some (exO ⟨0, 0, [], [], 0, 0⟩ (.slice none 0 0)) := f6.heap (alloc_at (W0.alloc (exO ⟨0, 0, [], [], 0, 0⟩ (.slice none 0 0))) _ _ (by simp)) (fun f => f); obtain ⟨Z0, Z1, Z2, Z3, Z4, Z5, Z6⟩ := ex_box hZ; have Y0 := frozen_row hZ 0; have Y1 := frozen_row hZ 1; have Y2 := frozen_row hZ 2; have Y3 := frozen_row hZ 3; have Y4 := frozen_row hZ 4; have Y5 := frozen_row hZ 5; have Y6 := frozen_row hZ 6)
      )
    all_goals go_wp2_with fail
    all_goals go_meet
    · exact end_1 g6 (by simp) hx1 hp1
    · exact end_2 g6 (by simp) hx1 hp1
    · exact end_s (wx := sev (sev (w6.alloc zE) W0.heap.size X.1 (.slice a1 X.2.len c1)) w6.heap.size P.1 (.slice a2 P.2.len c2)) (S := fun b => b = W0.heap.size ∨ b = w6.heap.size)
        ((((Fr.alloc (fun b => b = W0.heap.size ∨ b = w6.heap.size) w6 zE).same ((sev_fr _ W0.heap.size _ _).mono (fun b _ e => Or.inl e)))).same ((sev_fr _ w6.heap.size _ _).mono (fun b _ e => Or.inr e))) (fun b hb => by have := g6.size; simp at *; omega)
        ((sev_fr _ w6.heap.size _ _).heap (sev_same ((Fr.alloc FN w6 zE).heap hz (fun f => f)) _ _) (fun e => n2 e.symm)) (sev_same ((sev_fr _ W0.heap.size _ _).heap (alloc_new w6 zE) (fun e => n2 e)) _ _) (Nat.le_refl _) g6.size (fun e => n2 e.symm) g6 (by simp) hx1 hp1 hT0
    · exact end_s (wx := sev (sev w6 W0.heap.size X.1 (.slice a1 X.2.len c1)) (W0.heap.size + 1) P.1 (.slice a2 P.2.len c2)) (S := fun b => b = W0.heap.size ∨ b = W0.heap.size + 1)
        (((sev_fr w6 W0.heap.size _ _).mono (fun b _ e => Or.inl e)).same ((sev_fr _ (W0.heap.size + 1) _ _).mono (fun b _ e => Or.inr e))) (fun b hb => by simp at *; omega)
        ((sev_fr _ (W0.heap.size + 1) _ _).heap (sev_same hz _ _) (fun e => by omega)) (sev_same ((sev_fr _ W0.heap.size _ _).heap hZ (fun e => by omega)) _ _) (Nat.le_refl _) (Nat.le_succ _) (by omega) g6 (by simp; omega) hx1 hp1 hT0
    · exact end_s (wx := sev (w6.alloc (exO X.1 (.slice a1 X.2.len c1))) W0.heap.size P.1 (.slice a2 P.2.len c2)) (S := fun b => b = W0.heap.size)
        ((Fr.alloc (fun b => b = W0.heap.size) w6 _).same (sev_fr _ W0.heap.size _ _)) (fun b hb => by simp at *; omega)
        ((sev_fr _ W0.heap.size _ _).heap (alloc_new w6 _) (fun e => n2 e)) (sev_same ((Fr.alloc FN w6 _).heap hz (fun f => f)) _ _) g6.size (Nat.le_refl _) n2 g6 (by simp) hx1 hp1 hT0
    · exact end_s (wx := sev (sev w6 (W0.heap.size + 1) X.1 (.slice a1 X.2.len c1)) W0.heap.size P.1 (.slice a2 P.2.len c2)) (S := fun b => b = W0.heap.size ∨ b = W0.heap.size + 1)
        (((sev_fr w6 (W0.heap.size + 1) _ _).mono (fun b _ e => Or.inr e)).same ((sev_fr _ W0.heap.size _ _).mono (fun b _ e => Or.inl e))) (fun b hb => by simp at *; omega)
        ((sev_fr _ W0.heap.size _ _).heap (sev_same hZ _ _) (fun e => by omega)) (sev_same ((sev_fr _ (W0.heap.size + 1) _ _).heap hz (fun e => by omega)) _ _) (Nat.le_succ _) (Nat.le_refl _) (by omega) g6 (by simp; omega) hx1 hp1 hT0
  case rest =>
  obtain ⟨g9, g10, a1, c1, a2, c2, rfl, rfl, h9, h10, kx, kp, b9, b10, hne, f6⟩ := hcut
  have hsz : W0.heap.size = w.heap.size + 3 := hsz0
  have f0 : Fr FN w W0 := f0H
  have hkp : KpX w (fun b => T ≤ b) (some ⟨kb, ko, none⟩) cap k := hkpH
  have q3 : wc.heap[w.heap.size]? = some (exO h (.slice (some ⟨kb, ko, none⟩) k.len cap)) := f6.heap hA (fun f => f)
  obtain ⟨r0, r1, r2, r3, r4, r5, r6⟩ := ex_box q3
  obtain ⟨cs, hch, hcc, hco⟩ := chunks_rp (fun ao c y => KpX w (fun b => T ≤ b) ao c y) w kb (toL k) ko (fun j y hy => by
    rw [toL_get] at hy
    obtain ⟨ya, yc, hyK, d0, d1, d2, d3, d4, d5, d6⟩ := hkp.kid hy
    exact ⟨ya, yc, hyK, sev_of d0 d1 d2 d3 d4 d5 d6⟩)
  have hszc : Hidden (W0.heap.size ≤ wc.heap.size) := f6.size
  obtain ⟨W7, hW7⟩ : ∃ W, W = (wc.alloc (exO h (.slice (some ⟨kb, ko, none⟩) k.len cap))).alloc (.cells #[] 27) := ⟨_, rfl⟩
  have f7 : Fr FN wc W7 := by rw [hW7]; exact (Fr.alloc _ _ _).same (Fr.alloc _ _ _)
  have hN : W7.heap[wc.heap.size + 1]? = some (.cells #[] 27 (0, 0)) := by rw [hW7]; exact alloc_at _ _ _ (by simp)
  have hM : Hidden (W7.heap[wc.heap.size]? = some (exO h (.slice (some ⟨kb, ko, none⟩) k.len cap))) := by rw [hW7]; exact (alloc_old _ _ _ (by simp)).trans (alloc_new _ _)
  have hs7 : Hidden (W7.heap.size = wc.heap.size + 2) := by rw [hW7]; simp [Hidden]
  have hrN : Hidden (Rw.Row (RP (fun ao c y => KpX w (fun b => T ≤ b) ao c y)) 27 7 W7 (wc.heap.size + 1) (.slice (some ⟨wc.heap.size + 1, 0, none⟩) 0 0) []) := Rw.Row.new _ _ 7 W7 _ _ (Nat.le_refl _) hN
  have fw7 : Hidden (Fr FN w W7) := (f0.same f6).same f7
  have hcc7 : Hidden (∀ (j : Nat) (u : Value), cs[j]? = some u → W7.cell? (Addr.add ⟨kb, ko, none⟩ j) = some u) := fun j u hu => by
    rw [Addr.add_lit]
    exact ((f0.same f6).same f7).cellN (hcc j u hu)
  have hW7H : Hidden (W7 = _) := hW7
  have r6b := ((Fr.alloc FN wc (exO h (.slice (some ⟨kb, ko, none⟩) k.len cap))).same (Fr.alloc FN _ (.cells #[] 27))).cellN r6
  have h9H : Hidden (wc.heap[g9]? = _) := h9
  have h10H : Hidden (wc.heap[g10]? = _) := h10
  have hlen : (toL k).length = k.len := toL_len k
  have hcl : Hidden (cs.length = k.len * 7) := by have := hch.len; rw [hlen] at this; exact this
  have hchH : Hidden (Rw.Chunks (RP (fun ao c y => KpX w (fun b => T ≤ b) ao c y)) 7 (toL k) cs) := hch
  have hsH : Hidden (k.len * 88 ≤ 140737488351232) := hs
  have kxH : Hidden (KpX wc (fun b => T ≤ b ∧ b < W0.heap.size) a1 c1 X.2) := kx
  have kpH : Hidden (KpX wc (fun b => T ≤ b ∧ b < W0.heap.size) a2 c2 P.2) := kp
  have f6H : Hidden (Fr FN W0 wc) := f6
  have f7H : Hidden (Fr FN wc W7) := f7
  have b9H : Hidden (W0.heap.size ≤ g9) := b9
  have b10H : Hidden (W0.heap.size ≤ g10) := b10
  have l9 : Hidden (g9 < wc.heap.size) := block_lt h9
  have l10 : Hidden (g10 < wc.heap.size) := block_lt h10
  have hneH : Hidden (g9 ≠ g10) := hne
  have hTH : Hidden (T ≤ w.heap.size) := hT
  clear hN hW7 hch hcc f6 f7 h9 h10 hkp hkpH kL kLH e0 e1 e2 e3 e4 e5 e6 e7 wcell kx kp b9 b10 hne hsz f0 q3 hlen hs hbd hT hkb
  go_upto_region 9 with (at_builtin; rw [← (show W7 = _ from hW7H)]; obtain ⟨cells, hr1, hr2⟩ := (show Rw.Row _ _ _ _ _ _ _ from hrN); refine wpl_append rfl _ _ 25 27 _ 7 88 Try.underlying25 info_ex3 rfl (by decide) rfl (wc.heap.size + 1) _ 0 [] ⟨kb, ko, none⟩ k.len cap cs rfl (by obtain rfl : cells = [] := hr2; exact hr1) rfl hcl hcc7 hco ?_ ?_ ?_ ?_; (focus (have : k.len * 88 ≤ 140737488351232 := hsH; unfold maxLen; omega)); (focus (have : k.len * 88 ≤ 140737488351232 := hsH; omega)); (focus (have : W7.heap.size = wc.heap.size + 2 := hs7; omega)); intro v8 w8 hr8 f8 hown8; rw [Nat.zero_add, List.nil_append] at hr8; (rcases hr8.2 with hz8 | ⟨gR, cap8, cur, hv8, hbR, hgR, hnc, hcm, hcs, htk⟩; (exact absurd hz8.2 (by omega))); subst hv8; have hgRH : Hidden (w8.heap[gR]? = some (.cells cur 27 (0, 0))) := hgR; have htkH : Hidden (cur.toList.take (k.len * 7) = cs) := htk; have f8H : Hidden (Fr (fun b => (Value.slice (some ⟨wc.heap.size + 1, 0, none⟩) 0 0).ownBlock = some b) W7 w8) := f8; have hbRH : Hidden (wc.heap.size + 1 ≤ gR) := hbR; have hM8 : Hidden (w8.heap[wc.heap.size]? = some (exO h (.slice (some ⟨kb, ko, none⟩) k.len cap))) := f8.heap hM (fun e => by have e : some (wc.heap.size + 1) = some wc.heap.size := e; simp at e); have m6 := cell_of_row w8 _ 6 _ _ _ hM8; have m6f := frozen_row hM8 6; have hnc2 : Hidden (k.len ≤ cap8) := hnc; have hcm2 : Hidden (cap8 ≤ maxLen) := hcm; clear hr8 hgR htk f8 hown8 hbR hcs hM hrN hcc7 hco r0 r1 r2 r3 r4 r5 r6 hW7H hnc hcm)
  have hszc2 : W0.heap.size ≤ wc.heap.size := hszc
  have hsz : W0.heap.size = w.heap.size + 3 := hsz0
  have hne2 : g9 ≠ g10 := hneH
  have hl9 : g9 < wc.heap.size := l9
  have hl10 : g10 < wc.heap.size := l10
  have hb9 : W0.heap.size ≤ g9 := b9H
  have hb10 : W0.heap.size ≤ g10 := b10H
  have hbR2 : wc.heap.size + 1 ≤ gR := hbRH
  have hT2 : T ≤ w.heap.size := hTH
  have hfR : Fr FN w W7 := fw7
  have hf8 : Fr (fun b => b = wc.heap.size + 1) W7 w8 := (show Fr (fun b => (Value.slice (some ⟨wc.heap.size + 1, 0, none⟩) 0 0).ownBlock = some b) W7 w8 from f8H).mono (fun b _ e => by have e : some (wc.heap.size + 1) = some b := e; injection e with e; exact e.symm)
  obtain ⟨w9, hw9⟩ : ∃ w9, w9 = w8.setCell ⟨wc.heap.size, 6, none⟩ (.slice (some ⟨gR, 0, none⟩) k.len cap8) := ⟨_, rfl⟩
  have f9 : Fr (fun b => b = wc.heap.size) w8 w9 := by rw [hw9]; exact Fr.setCell w8 ⟨wc.heap.size, 6, none⟩ _
  have hM9 : Hidden (w9.heap[wc.heap.size]? = some (exO h (.slice (some ⟨gR, 0, none⟩) k.len cap8))) := by rw [hw9]; exact heap_setCell_same _ _ 6 _ _ _ hM8
  rw [← hw9]
  have up9 : ∀ {g : Nat} {o : Obj}, g < wc.heap.size → wc.heap[g]? = some o → w9.heap[g]? = some o := fun hg hh => f9.heap (hf8.heap ((show Fr FN wc W7 from f7H).heap hh (fun f => f)) (by omega)) (by omega)
  have hX9 := up9 hl9 h9H
  have hP9 : Hidden (w9.heap[g10]? = _) := up9 hl10 h10H
  have hB9 : Hidden (w9.heap[w.heap.size + 1]? = some zE) := up9 (by omega) ((show Fr FN W0 wc from f6H).heap hB (fun f => f))
  have hC9 : Hidden (w9.heap[w.heap.size + 2]? = some zE) := up9 (by omega) ((show Fr FN W0 wc from f6H).heap hC (fun f => f))
  have hR9 : w9.heap[gR]? = some (.cells cur 27 (0, 0)) := f9.heap hgRH (by omega)
  have fw9 : Hidden (Fr FN w w9) := (hfR.over hf8 (fun b e => by omega)).over f9 (fun b e => by omega)
  have fc9 : Hidden (Fr (fun b => T ≤ b ∧ b < w.heap.size + 3) wc w9) := ((show Fr FN wc W7 from f7H).over hf8 (fun b e => by omega)).over f9 (fun b e => by omega) |>.mono (fun _ _ f => f.elim)
  obtain ⟨x0, x1, x2, x3, x4, x5, x6⟩ := ex_box hX9
  have hrow : Hidden (∀ (j : Nat) (y : EH × Exs), getX k j = some y → ∃ ao c, KpX w (fun b => T ≤ b) ao c y.2 ∧ Sev w9 gR (j * 7) y.1 (.slice ao y.2.len c)) := fun j y hy => by
    obtain ⟨c, ⟨ao, cp, hK, rfl⟩, h7, hcell⟩ := (show Rw.Chunks _ 7 (toL k) cs from hchH).get (i := j) (x := y) (by rw [toL_get]; exact hy)
    refine ⟨ao, cp, hK, fun m u hm => ?_⟩
    have h6 := hcell m u hm
    rw [cell_of_row w9 gR _ cur _ (0, 0) hR9]
    rw [← (show cur.toList.take (k.len * 7) = cs from htkH), List.getElem?_take] at h6
    split at h6
    · simpa using h6
    · cases h6
  obtain ⟨y0, hy0⟩ := getX_some k 0 hlt
  obtain ⟨ao0, cp0, _, hs0⟩ := (show ∀ (j : Nat) (y : EH × Exs), getX k j = some y → _ from hrow) 0 y0 hy0
  obtain ⟨z0, z1, z2, z3, z4, z5, z6⟩ := hs0.all
  simp only [Nat.zero_mul, Nat.zero_add] at z0 z1 z2 z3 z4 z5 z6
  have n0 := frozen_row hR9 (0)
  have n1 := frozen_row hR9 (1)
  have n2 := frozen_row hR9 (2)
  have n3 := frozen_row hR9 (3)
  have n4 := frozen_row hR9 (4)
  have n5 := frozen_row hR9 (5)
  have n6 := frozen_row hR9 (6)
  have b6 := cell_of_row w9 _ 6 _ _ _ hM9
  have hR9H : Hidden (w9.heap[gR]? = some (.cells cur 27 (0, 0))) := hR9
  have hlt2 : ((0 : Nat) : Int) < (k.len : Int) := by omega
  have hw9H : Hidden (w9 = _) := hw9
  have hcap8 : cap8 ≤ 9223372036854775807 := by have : cap8 ≤ maxLen := hcm2; unfold maxLen at this; omega
  have hcl8 : k.len ≤ cap8 := hnc2
  clear hw9 hf8 f9 up9 hX9 hR9 hs0 hy0 hfR m6 m6f hne2 hl9 hl10 hb9 hb10 hT2 hM8
  go_upto_region 10 with fail
  change Code.wp _ _ _ _ (setRow w9 gR (0 * 7) (exC X.1 (.slice a1 X.2.len c1)))
  have hneP : g10 ≠ gR := by have : g10 < wc.heap.size := l10; omega
  have f10 : Fr (fun b => b = gR) w9 (setRow w9 gR (0 * 7) (exC X.1 (.slice a1 X.2.len c1))) := setRow_fr gR _ w9 _
  have hrs : Hidden (∀ p, (setRow w9 gR (0 * 7) (exC X.1 (.slice a1 X.2.len c1))).cell? ⟨gR, p, none⟩ = (setRow w9 gR (0 * 7) (exC X.1 (.slice a1 X.2.len c1))).cell? ⟨gR, p, none⟩) := fun _ => rfl
  obtain ⟨w10, hw10⟩ : ∃ w10, w10 = setRow w9 gR (0 * 7) (exC X.1 (.slice a1 X.2.len c1)) := ⟨_, rfl⟩
  rw [← hw10] at f10 ⊢
  have hw10H : Hidden (w10 = _) := hw10
  have k11 : w10.heap[wc.heap.size]? = some (exO h (.slice (some ⟨gR, 0, none⟩) k.len cap8)) := f10.heap hM9 (by omega)
  have k10 : w10.heap[g10]? = some (exO P.1 (.slice a2 P.2.len c2)) := f10.heap hP9 hneP
  have k1 : w10.heap[w.heap.size + 1]? = some zE := f10.heap hB9 (by omega)
  have k2 : w10.heap[w.heap.size + 1 + 1]? = some zE := f10.heap hC9 (by omega)
  have k2s : (sev w10 (w.heap.size + 1) h (.slice (some ⟨gR, 0, none⟩) k.len cap8)).heap[w.heap.size + 1 + 1]? = some zE := (sev_fr w10 _ h _).heap k2 (by omega)
  obtain ⟨p0, p1, p2, p3, p4, p5, p6⟩ := ex_box k11
  obtain ⟨q0, q1, q2, q3, q4, q5, q6⟩ := ex_box k10
  obtain ⟨r0, r1, r2, r3, r4, r5, r6⟩ := ex_box k1
  obtain ⟨t0, t1', t2', t3', t4', t5', t6'⟩ := ex_box k2s
  have i0 := frozen_row k1 0
  have i1 := frozen_row k1 1
  have i2 := frozen_row k1 2
  have i3 := frozen_row k1 3
  have i4 := frozen_row k1 4
  have i5 := frozen_row k1 5
  have i6 := frozen_row k1 6
  have j0 := frozen_row k2s 0
  have j1 := frozen_row k2s 1
  have j2 := frozen_row k2s 2
  have j3 := frozen_row k2s 3
  have j4 := frozen_row k2s 4
  have j5 := frozen_row k2s 5
  have j6 := frozen_row k2s 6
  unfold sev at t0 t1' t2' t3' t4' t5' t6' j0 j1 j2 j3 j4 j5 j6
  have e1 : w.heap.size + 1 ≠ wc.heap.size := by omega
  have e2 : w.heap.size + 1 ≠ g10 := by have : W0.heap.size ≤ g10 := b10H; omega
  have e3 : w.heap.size + 1 + 1 ≠ wc.heap.size := by omega
  have e4 : w.heap.size + 1 + 1 ≠ g10 := by have : W0.heap.size ≤ g10 := b10H; omega
  obtain ⟨wE, hwE⟩ : ∃ wE, wE = sev (sev w10 (w.heap.size + 1) h (.slice (some ⟨gR, 0, none⟩) k.len cap8)) (w.heap.size + 1 + 1) P.1 (.slice a2 P.2.len c2) := ⟨_, rfl⟩
  have fF : Fr (fun b => b = w.heap.size + 1 ∨ b = w.heap.size + 1 + 1) w10 wE := by rw [hwE]; exact ((sev_fr w10 _ h _).mono (fun b _ e => Or.inl e)).same ((sev_fr _ _ P.1 _).mono (fun b _ e => Or.inr e))
  have hF1 : Hidden (wE.heap[w.heap.size + 1]? = some (exO h (.slice (some ⟨gR, 0, none⟩) k.len cap8))) := by rw [hwE]; exact (sev_fr _ _ P.1 _).heap (sev_same k1 _ _) (by omega)
  have hF2 : Hidden (wE.heap[w.heap.size + 1 + 1]? = some (exO P.1 (.slice a2 P.2.len c2))) := by rw [hwE]; exact sev_same k2s _ _
  have hL : Hidden (LfE T w (h, setX k 0 X) P (.returned (.tuple #[exV h (.slice (some ⟨gR, 0, none⟩) k.len cap8), exV P.1 (.slice a2 P.2.len c2)])) wE) := by
    have hT2 : T ≤ w.heap.size := hTH
    have fw : Fr FN w w10 := (show Fr FN w w9 from fw9).over f10 (fun b e => by omega)
    have fc : Fr (fun b => T ≤ b ∧ b < w.heap.size + 3) wc w10 := (show Fr (fun b => T ≤ b ∧ b < w.heap.size + 3) wc w9 from fc9).over f10 (fun b e => by omega)
    have fwF := fw.over fF (fun b e => by omega)
    have fcF := fc.same (fF.mono (fun b _ e => ⟨by omega, by omega⟩))
    have kx : KpX wc (fun b => T ≤ b ∧ b < w.heap.size + 3) a1 c1 X.2 := by have := (show KpX wc (fun b => T ≤ b ∧ b < W0.heap.size) a1 c1 X.2 from kxH); rw [hsz] at this; exact this
    have kp : KpX wc (fun b => T ≤ b ∧ b < w.heap.size + 3) a2 c2 P.2 := by have := (show KpX wc (fun b => T ≤ b ∧ b < W0.heap.size) a2 c2 P.2 from kpH); rw [hsz] at this; exact this
    refine ⟨some ⟨gR, 0, none⟩, cap8, a2, c2, by rw [setX_len], ?_, fun w'' g => kp w'' (fcF.trans g (fun b _ hb => ⟨hb.1, by omega⟩)), fwF⟩
    refine kids_set (w := w) (wc := wc) (w8 := w9) (i := 0) (a1 := a1) (c1 := c1) hnc2 hcm2 (by omega) hlt hrow kx fwF fcF (fun p => ?_)
    rw [← (show w10 = _ from hw10H)]
    have hfr := fF
    exact World.cell?_of_block (a := ⟨gR, p, none⟩) (hfr.block gR (Nat.lt_of_lt_of_le (block_lt (show w9.heap[gR]? = _ from hR9H)) f10.size) (by omega))
  have hwEH : Hidden (wE = _) := hwE
  clear hwE hw10 f10 k11 k10 k1 k2 k2s fF hrs x0 x1 x2 x3 x4 x5 x6 z0 z1 z2 z3 z4 z5 z6 n0 n1 n2 n3 n4 n5 n6 b6 r6b
  go_region_held3 (fun w' => w'.cell? ⟨wc.heap.size, 0, none⟩ = some (ci h.kind) ∧ w'.cell? ⟨wc.heap.size, 1, none⟩ = some (ci h.op) ∧ w'.cell? ⟨wc.heap.size, 2, none⟩ = some (ct h.mod) ∧ w'.cell? ⟨wc.heap.size, 3, none⟩ = some (ct h.name) ∧ w'.cell? ⟨wc.heap.size, 4, none⟩ = some (ci h.vt) ∧ w'.cell? ⟨wc.heap.size, 5, none⟩ = some (.int .u64 h.vb) ∧ w'.cell? ⟨wc.heap.size, 6, none⟩ = some (.slice (some ⟨gR, 0, none⟩) k.len cap8) ∧
    w'.cell? ⟨g10, 0, none⟩ = some (ci P.1.kind) ∧ w'.cell? ⟨g10, 1, none⟩ = some (ci P.1.op) ∧ w'.cell? ⟨g10, 2, none⟩ = some (ct P.1.mod) ∧ w'.cell? ⟨g10, 3, none⟩ = some (ct P.1.name) ∧ w'.cell? ⟨g10, 4, none⟩ = some (ci P.1.vt) ∧ w'.cell? ⟨g10, 5, none⟩ = some (.int .u64 P.1.vb) ∧ w'.cell? ⟨g10, 6, none⟩ = some (.slice a2 P.2.len c2)) (go_keep) (fail)
  all_goals go_wp2_with fail
  all_goals rw [show wE = _ from hwEH] at hF1 hF2 hL
  all_goals exact post_xxd (h := h) (v := .slice (some ⟨gR, 0, none⟩) k.len cap8) (h2 := P.1) (v2 := .slice a2 P.2.len c2) hF1 hF2 rfl rfl rfl rfl hL
set_option maxRecDepth 20000 in
set_option maxHeartbeats 16000000 in
theorem lift_step_false_one (ih : LfX []) (h : EH) (k : Exs) (y : EH × Exs) (hy : getX k 0 = some y) (kb ko cap : Nat) (wb wo : Nat) (T : Nat) (w : World) (hT : T ≤ w.heap.size) (hkp : KpX w (fun b => T ≤ b) (some ⟨kb, ko, none⟩) cap k) (hs : k.len * 88 ≤ 140737488351232) (hbd : BdX k) (hw : BoR w (some ⟨wb, wo, none⟩) 1 (false :: [])) :
    Calls Try.prog 8 #[exV h (.slice (some ⟨kb, ko, none⟩) k.len cap), .slice (some ⟨wb, wo, none⟩) 1 1, ct zz] w (LfE T w (h, setX k 0 (liftS [] y.1 y.2).1) (liftS [] y.1 y.2).2) := by
  have hk := hkp.now
  have hc1 := hk.1
  have hc2 : cap ≤ 9223372036854775807 := by have := hk.2.1; unfold maxLen at this; omega
  have hlt := getX_lt k _ y hy
  have hyb := BdX_get k _ y hbd hy
  have f0 : Fr FN w (((w.alloc (exO h (.slice (some ⟨kb, ko, none⟩) k.len cap))).alloc zE).alloc zE) := ((Fr.alloc _ _ _).same (Fr.alloc _ _ _)).same (Fr.alloc _ _ _)
  have hA : Hidden ((((w.alloc (exO h (.slice (some ⟨kb, ko, none⟩) k.len cap))).alloc zE).alloc zE).heap[w.heap.size]? = some (exO h (.slice (some ⟨kb, ko, none⟩) k.len cap))) := (alloc_old _ _ _ (by simp; omega)).trans ((alloc_old _ _ _ (by simp)).trans (alloc_new _ _))
  have hB : Hidden ((((w.alloc (exO h (.slice (some ⟨kb, ko, none⟩) k.len cap))).alloc zE).alloc zE).heap[w.heap.size + 1]? = some zE) := (alloc_old _ _ _ (by simp)).trans (alloc_at _ _ _ (by simp))
  have hC : Hidden ((((w.alloc (exO h (.slice (some ⟨kb, ko, none⟩) k.len cap))).alloc zE).alloc zE).heap[w.heap.size + 2]? = some zE) := alloc_at _ _ _ (by simp)
  obtain ⟨W0, hW0⟩ : ∃ W, W = (((w.alloc (exO h (.slice (some ⟨kb, ko, none⟩) k.len cap))).alloc zE).alloc zE) := ⟨_, rfl⟩
  have hsz0 : Hidden (W0.heap.size = w.heap.size + 3) := by rw [hW0]; simp [Hidden]
  rw [← hW0] at f0 hA hB hC
  have hW0H : Hidden (W0 = _) := hW0
  have f0H : Hidden (Fr FN w W0) := f0
  obtain ⟨ya, yc, hyK, d0, d1, d2, d3, d4, d5, d6⟩ := hkp.kid hy
  have hkb : kb < w.heap.size := cell_lt d0
  simp only [Nat.zero_mul, Nat.add_zero] at d0 d1 d2 d3 d4 d5 d6
  have e1 : W0.cell? ⟨kb, ko, none⟩ = some (ci y.1.kind) := f0.cellN d0
  have e2 : W0.cell? ⟨kb, ko + 1, none⟩ = some (ci y.1.op) := f0.cellN d1
  have e3 : W0.cell? ⟨kb, ko + 2, none⟩ = some (ct y.1.mod) := f0.cellN d2
  have e4 : W0.cell? ⟨kb, ko + 3, none⟩ = some (ct y.1.name) := f0.cellN d3
  have e5 : W0.cell? ⟨kb, ko + 4, none⟩ = some (ci y.1.vt) := f0.cellN d4
  have e6 : W0.cell? ⟨kb, ko + 5, none⟩ = some (.int .u64 y.1.vb) := f0.cellN d5
  have e7 : W0.cell? ⟨kb, ko + 6, none⟩ = some (.slice ya y.2.len yc) := f0.cellN d6
  have hwt : BoR w (some ⟨wb, wo, none⟩) 0 [] := ⟨by simp, by unfold maxLen; omega, Or.inl rfl⟩
  have wcell : W0.cell? ⟨wb, wo, none⟩ = some (.bool false) := by
    rcases hw.2.2 with h0 | ⟨b, off, e, hc⟩
    · cases h0
    · cases e
      exact f0.cellN (hc 0 _ rfl)
  have kL := fun (w1 : World) (f : Fr FN W0 w1) => ih y.1 y.2 ya yc (some ⟨wb, wo, none⟩) 0 T w1 (Nat.le_trans hT (f0.same f).size) (hyK.keep (f0.same f) (fun _ _ hb => hb)) hyb.1 hyb.2 (hwt.keep (f0.same f))
  generalize (liftS [] y.1 y.2).1 = X at *
  generalize (liftS [] y.1 y.2).2 = P at *
  have kLH : Hidden (∀ (w1 : World) (f : Fr FN W0 w1), Calls Try.prog 8 #[exV y.1 (.slice ya y.2.len yc), .slice (some ⟨wb, wo, none⟩) 0 0, ct zz] w1 (LfE T w1 X P)) := kL
  unfold LfE at kL
  obtain ⟨e0, _, _, _, _, _, _⟩ : W0.cell? ⟨w.heap.size, 6, none⟩ = some (.slice (some ⟨kb, ko, none⟩) k.len cap) ∧ True ∧ True ∧ True ∧ True ∧ True ∧ True := by
    obtain ⟨_, _, _, _, _, _, a6⟩ := ex_box hA
    exact ⟨a6, trivial, trivial, trivial, trivial, trivial, trivial⟩
  have t1 : ((k.len : Int) == 0) = false := by simp; omega
  have hkpH : Hidden (KpX w (fun b => T ≤ b) (some ⟨kb, ko, none⟩) cap k) := hkp
  clear hy hyK hwt hyb d0 d1 d2 d3 d4 d5 d6 f0 hW0 hw hkp hk
  go_enter Try.func8, Try.ntmps8
  go_upto_region 4 with fail
  rw [← (show W0 = _ from hW0H)]
  go_upto_region 6 with fail
  go_cut [9, 10] (fun p9 p10 wx => EndR T W0 X P p9 p10 wx)
  case first =>
    have hT0 : T ≤ W0.heap.size := by have : W0.heap.size = w.heap.size + 3 := hsz0; omega
    have m0 : W0.heap.size ≠ w.heap.size := World.new_ne W0 _ e0
    have m1 : W0.heap.size ≠ kb := World.new_ne W0 _ e1
    have m2 : W0.heap.size + 1 ≠ w.heap.size := by have : W0.heap.size = w.heap.size + 3 := hsz0; omega
    have m3 : W0.heap.size + 1 ≠ kb := by have : W0.heap.size = w.heap.size + 3 := hsz0; omega
    go_region_held3 (fun w' => w'.cell? ⟨w.heap.size, 6, none⟩ = some (.slice (some ⟨kb, ko, none⟩) k.len cap) ∧ w'.cell? ⟨kb, ko, none⟩ = some (ci y.1.kind) ∧ w'.cell? ⟨kb, ko + 1, none⟩ = some (ci y.1.op) ∧ w'.cell? ⟨kb, ko + 2, none⟩ = some (ct y.1.mod) ∧ w'.cell? ⟨kb, ko + 3, none⟩ = some (ct y.1.name) ∧ w'.cell? ⟨kb, ko + 4, none⟩ = some (ci y.1.vt) ∧ w'.cell? ⟨kb, ko + 5, none⟩ = some (.int .u64 y.1.vb) ∧ w'.cell? ⟨kb, ko + 6, none⟩ = some (.slice ya y.2.len yc)) (first | (refine ⟨by with_reducible assumption, by with_reducible assumption, by with_reducible assumption, by with_reducible assumption, by with_reducible assumption, by with_reducible assumption, by with_reducible assumption, by with_reducible assumption⟩) | go_keep) (first
      | (go_at_call 8; refine Calls.mono (kL (W0.drew) (Fr.drew FN W0)) ?_; rintro e w6 ⟨a1, c1, a2, c2, rfl, hx1, hp1, f6⟩; have g6 := (Fr.drew FN W0).same f6; have q0 := g6.cellN e0; have q1 := g6.cellN e1; have q2 := g6.cellN e2; have q3 := g6.cellN e3; have q4 := g6.cellN e4; have q5 := g6.cellN e5; have q6 := g6.cellN e6; have q7 := g6.cellN e7; have n0 : w6.heap.size ≠ w.heap.size := World.new_ne w6 _ q0; have n1 : w6.heap.size ≠ kb := World.new_ne w6 _ q1; have n2 : w6.heap.size + 1 ≠ w.heap.size := Nat.ne_of_gt (Nat.lt_succ_of_lt (cell_lt q0)); have n3 : w6.heap.size + 1 ≠ kb := Nat.ne_of_gt (Nat.lt_succ_of_lt (cell_lt q1)))
      | (go_at_call 8; refine Calls.mono (kL ((W0.alloc (exO ⟨0, 0, [], [], 0, 0⟩ (.slice none 0 0))).drew) ((Fr.alloc FN W0 (exO ⟨0, 0, [], [], 0, 0⟩ (.slice none 0 0))).same (Fr.drew FN _))) ?_; rintro e w6 ⟨a1, c1, a2, c2, rfl, hx1, hp1, f6⟩; have g6 := ((Fr.alloc FN W0 (exO ⟨0, 0, [], [], 0, 0⟩ (.slice none 0 0))).same (Fr.drew FN _)).same f6; have q0 := g6.cellN e0; have q1 := g6.cellN e1; have q2 := g6.cellN e2; have q3 := g6.cellN e3; have q4 := g6.cellN e4; have q5 := g6.cellN e5; have q6 := g6.cellN e6; have q7 := g6.cellN e7; have hz : w6.heap[W0.heap.size]? = some (exO ⟨0, 0, [], [], 0, 0⟩ (.slice none 0 0)) := f6.heap (alloc_new W0 _) (fun f => f); obtain ⟨z0, z1, z2, z3, z4, z5, z6⟩ := ex_box hz; have y0 := frozen_row hz 0; have y1 := frozen_row hz 1; have y2 := frozen_row hz 2; have y3 := frozen_row hz 3; have y4 := frozen_row hz 4; have y5 := frozen_row hz 5; have y6 := frozen_row hz 6; have n0 : w6.heap.size ≠ w.heap.size := World.new_ne w6 _ q0; have n1 : w6.heap.size ≠ kb := World.new_ne w6 _ q1; have n2 : w6.heap.size ≠ W0.heap.size := World.new_ne w6 _ z0; have hzo : ∀ o : Obj, (w6.alloc o).heap[W0.heap.size]? = some (exO ⟨0, 0, [], [], 0, 0⟩ (.slice none 0 0)) := fun o => (Fr.alloc FN w6 o).heap hz (fun f => f); have C0 := fun o : Obj => cell_of_row (w6.alloc o) _ 0 _ _ _ (hzo o); have Q0 := fun o : Obj => frozen_row (hzo o) 0; have C1 := fun o : Obj => cell_of_row (w6.alloc o) _ 1 _ _ _ (hzo o); have Q1 := fun o : Obj => frozen_row (hzo o) 1; have C2 := fun o : Obj => cell_of_row (w6.alloc o) _ 2 _ _ _ (hzo o); have Q2 := fun o : Obj => frozen_row (hzo o) 2; have C3 := fun o : Obj => cell_of_row (w6.alloc o) _ 3 _ _ _ (hzo o); have Q3 := fun o : Obj => frozen_row (hzo o) 3; have C4 := fun o : Obj => cell_of_row (w6.alloc o) _ 4 _ _ _ (hzo o); have Q4 := fun o : Obj => frozen_row (hzo o) 4; have C5 := fun o : Obj => cell_of_row (w6.alloc o) _ 5 _ _ _ (hzo o); have Q5 := fun o : Obj => frozen_row (hzo o) 5; have C6 := fun o : Obj => cell_of_row (w6.alloc o) _ 6 _ _ _ (hzo o); have Q6 := fun o : Obj => frozen_row (hzo o) 6; clear hzo)
      | (go_at_call 8; refine Calls.mono (kL (((W0.alloc (exO ⟨0, 0, [], [], 0, 0⟩ (.slice none 0 0))).alloc (exO ⟨0, 0, [], [], 0, 0⟩ (.slice none 0 0))).drew) (((Fr.alloc FN W0 (exO ⟨0, 0, [], [], 0, 0⟩ (.slice none 0 0))).same (Fr.alloc FN _ (exO ⟨0, 0, [], [], 0, 0⟩ (.slice none 0 0)))).same (Fr.drew FN _))) ?_; rintro e w6 ⟨a1, c1, a2, c2, rfl, hx1, hp1, f6⟩; have g6 := (((Fr.alloc FN W0 (exO ⟨0, 0, [], [], 0, 0⟩ (.slice none 0 0))).same (Fr.alloc FN _ (exO ⟨0, 0, [], [], 0, 0⟩ (.slice none 0 0)))).same (Fr.drew FN _)).same f6; have q0 := g6.cellN e0; have q1 := g6.cellN e1; have q2 := g6.cellN e2; have q3 := g6.cellN e3; have q4 := g6.cellN e4; have q5 := g6.cellN e5; have q6 := g6.cellN e6; have q7 := g6.cellN e7; have hz : w6.heap[W0.heap.size]? = some (exO ⟨0, 0, [], [], 0, 0⟩ (.slice none 0 0)) := f6.heap ((alloc_old _ _ _ (by simp)).trans (alloc_new W0 _)) (fun f => f); obtain ⟨z0, z1, z2, z3, z4, z5, z6⟩ := ex_box hz; have y0 := frozen_row hz 0; have y1 := frozen_row hz 1; have y2 := frozen_row hz 2; have y3 := frozen_row hz 3; have y4 := frozen_row hz 4; have y5 := frozen_row hz 5; have y6 := frozen_row hz 6; have hZ : w6.heap[W0.heap.size + 1]? = some (exO ⟨0, 0, [], [], 0, 0⟩ (.slice none 0 0)) := f6.heap (alloc_at (W0.alloc (exO ⟨0, 0, [], [], 0, 0⟩ (.slice none 0 0))) _ _ (by simp)) (fun f => f); obtain ⟨Z0, Z1, Z2, Z3, Z4, Z5, Z6⟩ := ex_box hZ; have Y0 := frozen_row hZ 0; have Y1 := frozen_row hZ 1; have Y2 := frozen_row hZ 2; have Y3 := frozen_row hZ 3; have Y4 := frozen_row hZ 4; have Y5 := frozen_row hZ 5; have Y6 := frozen_row hZ 6)
      )
    all_goals go_wp2_with fail
    all_goals go_meet
    · exact end_1 g6 (by simp) hx1 hp1
    · exact end_2 g6 (by simp) hx1 hp1
    · exact end_s (wx := sev (sev (w6.alloc zE) W0.heap.size X.1 (.slice a1 X.2.len c1)) w6.heap.size P.1 (.slice a2 P.2.len c2)) (S := fun b => b = W0.heap.size ∨ b = w6.heap.size)
        ((((Fr.alloc (fun b => b = W0.heap.size ∨ b = w6.heap.size) w6 zE).same ((sev_fr _ W0.heap.size _ _).mono (fun b _ e => Or.inl e)))).same ((sev_fr _ w6.heap.size _ _).mono (fun b _ e => Or.inr e))) (fun b hb => by have := g6.size; simp at *; omega)
        ((sev_fr _ w6.heap.size _ _).heap (sev_same ((Fr.alloc FN w6 zE).heap hz (fun f => f)) _ _) (fun e => n2 e.symm)) (sev_same ((sev_fr _ W0.heap.size _ _).heap (alloc_new w6 zE) (fun e => n2 e)) _ _) (Nat.le_refl _) g6.size (fun e => n2 e.symm) g6 (by simp) hx1 hp1 hT0
    · exact end_s (wx := sev (sev w6 W0.heap.size X.1 (.slice a1 X.2.len c1)) (W0.heap.size + 1) P.1 (.slice a2 P.2.len c2)) (S := fun b => b = W0.heap.size ∨ b = W0.heap.size + 1)
        (((sev_fr w6 W0.heap.size _ _).mono (fun b _ e => Or.inl e)).same ((sev_fr _ (W0.heap.size + 1) _ _).mono (fun b _ e => Or.inr e))) (fun b hb => by simp at *; omega)
        ((sev_fr _ (W0.heap.size + 1) _ _).heap (sev_same hz _ _) (fun e => by omega)) (sev_same ((sev_fr _ W0.heap.size _ _).heap hZ (fun e => by omega)) _ _) (Nat.le_refl _) (Nat.le_succ _) (by omega) g6 (by simp; omega) hx1 hp1 hT0
    · exact end_s (wx := sev (w6.alloc (exO X.1 (.slice a1 X.2.len c1))) W0.heap.size P.1 (.slice a2 P.2.len c2)) (S := fun b => b = W0.heap.size)
        ((Fr.alloc (fun b => b = W0.heap.size) w6 _).same (sev_fr _ W0.heap.size _ _)) (fun b hb => by simp at *; omega)
        ((sev_fr _ W0.heap.size _ _).heap (alloc_new w6 _) (fun e => n2 e)) (sev_same ((Fr.alloc FN w6 _).heap hz (fun f => f)) _ _) g6.size (Nat.le_refl _) n2 g6 (by simp) hx1 hp1 hT0
    · exact end_s (wx := sev (sev w6 (W0.heap.size + 1) X.1 (.slice a1 X.2.len c1)) W0.heap.size P.1 (.slice a2 P.2.len c2)) (S := fun b => b = W0.heap.size ∨ b = W0.heap.size + 1)
        (((sev_fr w6 (W0.heap.size + 1) _ _).mono (fun b _ e => Or.inr e)).same ((sev_fr _ W0.heap.size _ _).mono (fun b _ e => Or.inl e))) (fun b hb => by simp at *; omega)
        ((sev_fr _ W0.heap.size _ _).heap (sev_same hZ _ _) (fun e => by omega)) (sev_same ((sev_fr _ (W0.heap.size + 1) _ _).heap hz (fun e => by omega)) _ _) (Nat.le_succ _) (Nat.le_refl _) (by omega) g6 (by simp; omega) hx1 hp1 hT0
  case rest =>
  obtain ⟨g9, g10, a1, c1, a2, c2, rfl, rfl, h9, h10, kx, kp, b9, b10, hne, f6⟩ := hcut
  have hsz : W0.heap.size = w.heap.size + 3 := hsz0
  have f0 : Fr FN w W0 := f0H
  have hkp : KpX w (fun b => T ≤ b) (some ⟨kb, ko, none⟩) cap k := hkpH
  have q3 : wc.heap[w.heap.size]? = some (exO h (.slice (some ⟨kb, ko, none⟩) k.len cap)) := f6.heap hA (fun f => f)
  obtain ⟨r0, r1, r2, r3, r4, r5, r6⟩ := ex_box q3
  obtain ⟨cs, hch, hcc, hco⟩ := chunks_rp (fun ao c y => KpX w (fun b => T ≤ b) ao c y) w kb (toL k) ko (fun j y hy => by
    rw [toL_get] at hy
    obtain ⟨ya, yc, hyK, d0, d1, d2, d3, d4, d5, d6⟩ := hkp.kid hy
    exact ⟨ya, yc, hyK, sev_of d0 d1 d2 d3 d4 d5 d6⟩)
  have hszc : Hidden (W0.heap.size ≤ wc.heap.size) := f6.size
  obtain ⟨W7, hW7⟩ : ∃ W, W = (wc.alloc (exO h (.slice (some ⟨kb, ko, none⟩) k.len cap))).alloc (.cells #[] 27) := ⟨_, rfl⟩
  have f7 : Fr FN wc W7 := by rw [hW7]; exact (Fr.alloc _ _ _).same (Fr.alloc _ _ _)
  have hN : W7.heap[wc.heap.size + 1]? = some (.cells #[] 27 (0, 0)) := by rw [hW7]; exact alloc_at _ _ _ (by simp)
  have hM : Hidden (W7.heap[wc.heap.size]? = some (exO h (.slice (some ⟨kb, ko, none⟩) k.len cap))) := by rw [hW7]; exact (alloc_old _ _ _ (by simp)).trans (alloc_new _ _)
  have hs7 : Hidden (W7.heap.size = wc.heap.size + 2) := by rw [hW7]; simp [Hidden]
  have hrN : Hidden (Rw.Row (RP (fun ao c y => KpX w (fun b => T ≤ b) ao c y)) 27 7 W7 (wc.heap.size + 1) (.slice (some ⟨wc.heap.size + 1, 0, none⟩) 0 0) []) := Rw.Row.new _ _ 7 W7 _ _ (Nat.le_refl _) hN
  have fw7 : Hidden (Fr FN w W7) := (f0.same f6).same f7
  have hcc7 : Hidden (∀ (j : Nat) (u : Value), cs[j]? = some u → W7.cell? (Addr.add ⟨kb, ko, none⟩ j) = some u) := fun j u hu => by
    rw [Addr.add_lit]
    exact ((f0.same f6).same f7).cellN (hcc j u hu)
  have hW7H : Hidden (W7 = _) := hW7
  have r6b := ((Fr.alloc FN wc (exO h (.slice (some ⟨kb, ko, none⟩) k.len cap))).same (Fr.alloc FN _ (.cells #[] 27))).cellN r6
  have h9H : Hidden (wc.heap[g9]? = _) := h9
  have h10H : Hidden (wc.heap[g10]? = _) := h10
  have hlen : (toL k).length = k.len := toL_len k
  have hcl : Hidden (cs.length = k.len * 7) := by have := hch.len; rw [hlen] at this; exact this
  have hchH : Hidden (Rw.Chunks (RP (fun ao c y => KpX w (fun b => T ≤ b) ao c y)) 7 (toL k) cs) := hch
  have hsH : Hidden (k.len * 88 ≤ 140737488351232) := hs
  have kxH : Hidden (KpX wc (fun b => T ≤ b ∧ b < W0.heap.size) a1 c1 X.2) := kx
  have kpH : Hidden (KpX wc (fun b => T ≤ b ∧ b < W0.heap.size) a2 c2 P.2) := kp
  have f6H : Hidden (Fr FN W0 wc) := f6
  have f7H : Hidden (Fr FN wc W7) := f7
  have b9H : Hidden (W0.heap.size ≤ g9) := b9
  have b10H : Hidden (W0.heap.size ≤ g10) := b10
  have l9 : Hidden (g9 < wc.heap.size) := block_lt h9
  have l10 : Hidden (g10 < wc.heap.size) := block_lt h10
  have hneH : Hidden (g9 ≠ g10) := hne
  have hTH : Hidden (T ≤ w.heap.size) := hT
  clear hN hW7 hch hcc f6 f7 h9 h10 hkp hkpH kL kLH e0 e1 e2 e3 e4 e5 e6 e7 wcell kx kp b9 b10 hne hsz f0 q3 hlen hs hbd hT hkb
  go_upto_region 9 with (at_builtin; rw [← (show W7 = _ from hW7H)]; obtain ⟨cells, hr1, hr2⟩ := (show Rw.Row _ _ _ _ _ _ _ from hrN); refine wpl_append rfl _ _ 25 27 _ 7 88 Try.underlying25 info_ex3 rfl (by decide) rfl (wc.heap.size + 1) _ 0 [] ⟨kb, ko, none⟩ k.len cap cs rfl (by obtain rfl : cells = [] := hr2; exact hr1) rfl hcl hcc7 hco ?_ ?_ ?_ ?_; (focus (have : k.len * 88 ≤ 140737488351232 := hsH; unfold maxLen; omega)); (focus (have : k.len * 88 ≤ 140737488351232 := hsH; omega)); (focus (have : W7.heap.size = wc.heap.size + 2 := hs7; omega)); intro v8 w8 hr8 f8 hown8; rw [Nat.zero_add, List.nil_append] at hr8; (rcases hr8.2 with hz8 | ⟨gR, cap8, cur, hv8, hbR, hgR, hnc, hcm, hcs, htk⟩; (exact absurd hz8.2 (by omega))); subst hv8; have hgRH : Hidden (w8.heap[gR]? = some (.cells cur 27 (0, 0))) := hgR; have htkH : Hidden (cur.toList.take (k.len * 7) = cs) := htk; have f8H : Hidden (Fr (fun b => (Value.slice (some ⟨wc.heap.size + 1, 0, none⟩) 0 0).ownBlock = some b) W7 w8) := f8; have hbRH : Hidden (wc.heap.size + 1 ≤ gR) := hbR; have hM8 : Hidden (w8.heap[wc.heap.size]? = some (exO h (.slice (some ⟨kb, ko, none⟩) k.len cap))) := f8.heap hM (fun e => by have e : some (wc.heap.size + 1) = some wc.heap.size := e; simp at e); have m6 := cell_of_row w8 _ 6 _ _ _ hM8; have m6f := frozen_row hM8 6; have hnc2 : Hidden (k.len ≤ cap8) := hnc; have hcm2 : Hidden (cap8 ≤ maxLen) := hcm; clear hr8 hgR htk f8 hown8 hbR hcs hM hrN hcc7 hco r0 r1 r2 r3 r4 r5 r6 hW7H hnc hcm)
  have hszc2 : W0.heap.size ≤ wc.heap.size := hszc
  have hsz : W0.heap.size = w.heap.size + 3 := hsz0
  have hne2 : g9 ≠ g10 := hneH
  have hl9 : g9 < wc.heap.size := l9
  have hl10 : g10 < wc.heap.size := l10
  have hb9 : W0.heap.size ≤ g9 := b9H
  have hb10 : W0.heap.size ≤ g10 := b10H
  have hbR2 : wc.heap.size + 1 ≤ gR := hbRH
  have hT2 : T ≤ w.heap.size := hTH
  have hfR : Fr FN w W7 := fw7
  have hf8 : Fr (fun b => b = wc.heap.size + 1) W7 w8 := (show Fr (fun b => (Value.slice (some ⟨wc.heap.size + 1, 0, none⟩) 0 0).ownBlock = some b) W7 w8 from f8H).mono (fun b _ e => by have e : some (wc.heap.size + 1) = some b := e; injection e with e; exact e.symm)
  obtain ⟨w9, hw9⟩ : ∃ w9, w9 = w8.setCell ⟨wc.heap.size, 6, none⟩ (.slice (some ⟨gR, 0, none⟩) k.len cap8) := ⟨_, rfl⟩
  have f9 : Fr (fun b => b = wc.heap.size) w8 w9 := by rw [hw9]; exact Fr.setCell w8 ⟨wc.heap.size, 6, none⟩ _
  have hM9 : Hidden (w9.heap[wc.heap.size]? = some (exO h (.slice (some ⟨gR, 0, none⟩) k.len cap8))) := by rw [hw9]; exact heap_setCell_same _ _ 6 _ _ _ hM8
  rw [← hw9]
  have up9 : ∀ {g : Nat} {o : Obj}, g < wc.heap.size → wc.heap[g]? = some o → w9.heap[g]? = some o := fun hg hh => f9.heap (hf8.heap ((show Fr FN wc W7 from f7H).heap hh (fun f => f)) (by omega)) (by omega)
  have hX9 := up9 hl9 h9H
  have hP9 : Hidden (w9.heap[g10]? = _) := up9 hl10 h10H
  have hB9 : Hidden (w9.heap[w.heap.size + 1]? = some zE) := up9 (by omega) ((show Fr FN W0 wc from f6H).heap hB (fun f => f))
  have hC9 : Hidden (w9.heap[w.heap.size + 2]? = some zE) := up9 (by omega) ((show Fr FN W0 wc from f6H).heap hC (fun f => f))
  have hR9 : w9.heap[gR]? = some (.cells cur 27 (0, 0)) := f9.heap hgRH (by omega)
  have fw9 : Hidden (Fr FN w w9) := (hfR.over hf8 (fun b e => by omega)).over f9 (fun b e => by omega)
  have fc9 : Hidden (Fr (fun b => T ≤ b ∧ b < w.heap.size + 3) wc w9) := ((show Fr FN wc W7 from f7H).over hf8 (fun b e => by omega)).over f9 (fun b e => by omega) |>.mono (fun _ _ f => f.elim)
  obtain ⟨x0, x1, x2, x3, x4, x5, x6⟩ := ex_box hX9
  have hrow : Hidden (∀ (j : Nat) (y : EH × Exs), getX k j = some y → ∃ ao c, KpX w (fun b => T ≤ b) ao c y.2 ∧ Sev w9 gR (j * 7) y.1 (.slice ao y.2.len c)) := fun j y hy => by
    obtain ⟨c, ⟨ao, cp, hK, rfl⟩, h7, hcell⟩ := (show Rw.Chunks _ 7 (toL k) cs from hchH).get (i := j) (x := y) (by rw [toL_get]; exact hy)
    refine ⟨ao, cp, hK, fun m u hm => ?_⟩
    have h6 := hcell m u hm
    rw [cell_of_row w9 gR _ cur _ (0, 0) hR9]
    rw [← (show cur.toList.take (k.len * 7) = cs from htkH), List.getElem?_take] at h6
    split at h6
    · simpa using h6
    · cases h6
  obtain ⟨y0, hy0⟩ := getX_some k 0 hlt
  obtain ⟨ao0, cp0, _, hs0⟩ := (show ∀ (j : Nat) (y : EH × Exs), getX k j = some y → _ from hrow) 0 y0 hy0
  obtain ⟨z0, z1, z2, z3, z4, z5, z6⟩ := hs0.all
  simp only [Nat.zero_mul, Nat.zero_add] at z0 z1 z2 z3 z4 z5 z6
  have n0 := frozen_row hR9 (0)
  have n1 := frozen_row hR9 (1)
  have n2 := frozen_row hR9 (2)
  have n3 := frozen_row hR9 (3)
  have n4 := frozen_row hR9 (4)
  have n5 := frozen_row hR9 (5)
  have n6 := frozen_row hR9 (6)
  have b6 := cell_of_row w9 _ 6 _ _ _ hM9
  have hR9H : Hidden (w9.heap[gR]? = some (.cells cur 27 (0, 0))) := hR9
  have hlt2 : ((0 : Nat) : Int) < (k.len : Int) := by omega
  have hw9H : Hidden (w9 = _) := hw9
  have hcap8 : cap8 ≤ 9223372036854775807 := by have : cap8 ≤ maxLen := hcm2; unfold maxLen at this; omega
  have hcl8 : k.len ≤ cap8 := hnc2
  clear hw9 hf8 f9 up9 hX9 hR9 hs0 hy0 hfR m6 m6f hne2 hl9 hl10 hb9 hb10 hT2 hM8
  go_upto_region 10 with fail
  change Code.wp _ _ _ _ (setRow w9 gR (0 * 7) (exC X.1 (.slice a1 X.2.len c1)))
  have hneP : g10 ≠ gR := by have : g10 < wc.heap.size := l10; omega
  have f10 : Fr (fun b => b = gR) w9 (setRow w9 gR (0 * 7) (exC X.1 (.slice a1 X.2.len c1))) := setRow_fr gR _ w9 _
  have hrs : Hidden (∀ p, (setRow w9 gR (0 * 7) (exC X.1 (.slice a1 X.2.len c1))).cell? ⟨gR, p, none⟩ = (setRow w9 gR (0 * 7) (exC X.1 (.slice a1 X.2.len c1))).cell? ⟨gR, p, none⟩) := fun _ => rfl
  obtain ⟨w10, hw10⟩ : ∃ w10, w10 = setRow w9 gR (0 * 7) (exC X.1 (.slice a1 X.2.len c1)) := ⟨_, rfl⟩
  rw [← hw10] at f10 ⊢
  have hw10H : Hidden (w10 = _) := hw10
  have k11 : w10.heap[wc.heap.size]? = some (exO h (.slice (some ⟨gR, 0, none⟩) k.len cap8)) := f10.heap hM9 (by omega)
  have k10 : w10.heap[g10]? = some (exO P.1 (.slice a2 P.2.len c2)) := f10.heap hP9 hneP
  have k1 : w10.heap[w.heap.size + 1]? = some zE := f10.heap hB9 (by omega)
  have k2 : w10.heap[w.heap.size + 1 + 1]? = some zE := f10.heap hC9 (by omega)
  have k2s : (sev w10 (w.heap.size + 1) h (.slice (some ⟨gR, 0, none⟩) k.len cap8)).heap[w.heap.size + 1 + 1]? = some zE := (sev_fr w10 _ h _).heap k2 (by omega)
  obtain ⟨p0, p1, p2, p3, p4, p5, p6⟩ := ex_box k11
  obtain ⟨q0, q1, q2, q3, q4, q5, q6⟩ := ex_box k10
  obtain ⟨r0, r1, r2, r3, r4, r5, r6⟩ := ex_box k1
  obtain ⟨t0, t1', t2', t3', t4', t5', t6'⟩ := ex_box k2s
  have i0 := frozen_row k1 0
  have i1 := frozen_row k1 1
  have i2 := frozen_row k1 2
  have i3 := frozen_row k1 3
  have i4 := frozen_row k1 4
  have i5 := frozen_row k1 5
  have i6 := frozen_row k1 6
  have j0 := frozen_row k2s 0
  have j1 := frozen_row k2s 1
  have j2 := frozen_row k2s 2
  have j3 := frozen_row k2s 3
  have j4 := frozen_row k2s 4
  have j5 := frozen_row k2s 5
  have j6 := frozen_row k2s 6
  unfold sev at t0 t1' t2' t3' t4' t5' t6' j0 j1 j2 j3 j4 j5 j6
  have e1 : w.heap.size + 1 ≠ wc.heap.size := by omega
  have e2 : w.heap.size + 1 ≠ g10 := by have : W0.heap.size ≤ g10 := b10H; omega
  have e3 : w.heap.size + 1 + 1 ≠ wc.heap.size := by omega
  have e4 : w.heap.size + 1 + 1 ≠ g10 := by have : W0.heap.size ≤ g10 := b10H; omega
  obtain ⟨wE, hwE⟩ : ∃ wE, wE = sev (sev w10 (w.heap.size + 1) h (.slice (some ⟨gR, 0, none⟩) k.len cap8)) (w.heap.size + 1 + 1) P.1 (.slice a2 P.2.len c2) := ⟨_, rfl⟩
  have fF : Fr (fun b => b = w.heap.size + 1 ∨ b = w.heap.size + 1 + 1) w10 wE := by rw [hwE]; exact ((sev_fr w10 _ h _).mono (fun b _ e => Or.inl e)).same ((sev_fr _ _ P.1 _).mono (fun b _ e => Or.inr e))
  have hF1 : Hidden (wE.heap[w.heap.size + 1]? = some (exO h (.slice (some ⟨gR, 0, none⟩) k.len cap8))) := by rw [hwE]; exact (sev_fr _ _ P.1 _).heap (sev_same k1 _ _) (by omega)
  have hF2 : Hidden (wE.heap[w.heap.size + 1 + 1]? = some (exO P.1 (.slice a2 P.2.len c2))) := by rw [hwE]; exact sev_same k2s _ _
  have hL : Hidden (LfE T w (h, setX k 0 X) P (.returned (.tuple #[exV h (.slice (some ⟨gR, 0, none⟩) k.len cap8), exV P.1 (.slice a2 P.2.len c2)])) wE) := by
    have hT2 : T ≤ w.heap.size := hTH
    have fw : Fr FN w w10 := (show Fr FN w w9 from fw9).over f10 (fun b e => by omega)
    have fc : Fr (fun b => T ≤ b ∧ b < w.heap.size + 3) wc w10 := (show Fr (fun b => T ≤ b ∧ b < w.heap.size + 3) wc w9 from fc9).over f10 (fun b e => by omega)
    have fwF := fw.over fF (fun b e => by omega)
    have fcF := fc.same (fF.mono (fun b _ e => ⟨by omega, by omega⟩))
    have kx : KpX wc (fun b => T ≤ b ∧ b < w.heap.size + 3) a1 c1 X.2 := by have := (show KpX wc (fun b => T ≤ b ∧ b < W0.heap.size) a1 c1 X.2 from kxH); rw [hsz] at this; exact this
    have kp : KpX wc (fun b => T ≤ b ∧ b < w.heap.size + 3) a2 c2 P.2 := by have := (show KpX wc (fun b => T ≤ b ∧ b < W0.heap.size) a2 c2 P.2 from kpH); rw [hsz] at this; exact this
    refine ⟨some ⟨gR, 0, none⟩, cap8, a2, c2, by rw [setX_len], ?_, fun w'' g => kp w'' (fcF.trans g (fun b _ hb => ⟨hb.1, by omega⟩)), fwF⟩
    refine kids_set (w := w) (wc := wc) (w8 := w9) (i := 0) (a1 := a1) (c1 := c1) hnc2 hcm2 (by omega) hlt hrow kx fwF fcF (fun p => ?_)
    rw [← (show w10 = _ from hw10H)]
    have hfr := fF
    exact World.cell?_of_block (a := ⟨gR, p, none⟩) (hfr.block gR (Nat.lt_of_lt_of_le (block_lt (show w9.heap[gR]? = _ from hR9H)) f10.size) (by omega))
  have hwEH : Hidden (wE = _) := hwE
  clear hwE hw10 f10 k11 k10 k1 k2 k2s fF hrs x0 x1 x2 x3 x4 x5 x6 z0 z1 z2 z3 z4 z5 z6 n0 n1 n2 n3 n4 n5 n6 b6 r6b
  go_region_held3 (fun w' => w'.cell? ⟨wc.heap.size, 0, none⟩ = some (ci h.kind) ∧ w'.cell? ⟨wc.heap.size, 1, none⟩ = some (ci h.op) ∧ w'.cell? ⟨wc.heap.size, 2, none⟩ = some (ct h.mod) ∧ w'.cell? ⟨wc.heap.size, 3, none⟩ = some (ct h.name) ∧ w'.cell? ⟨wc.heap.size, 4, none⟩ = some (ci h.vt) ∧ w'.cell? ⟨wc.heap.size, 5, none⟩ = some (.int .u64 h.vb) ∧ w'.cell? ⟨wc.heap.size, 6, none⟩ = some (.slice (some ⟨gR, 0, none⟩) k.len cap8) ∧
    w'.cell? ⟨g10, 0, none⟩ = some (ci P.1.kind) ∧ w'.cell? ⟨g10, 1, none⟩ = some (ci P.1.op) ∧ w'.cell? ⟨g10, 2, none⟩ = some (ct P.1.mod) ∧ w'.cell? ⟨g10, 3, none⟩ = some (ct P.1.name) ∧ w'.cell? ⟨g10, 4, none⟩ = some (ci P.1.vt) ∧ w'.cell? ⟨g10, 5, none⟩ = some (.int .u64 P.1.vb) ∧ w'.cell? ⟨g10, 6, none⟩ = some (.slice a2 P.2.len c2)) (go_keep) (fail)
  all_goals go_wp2_with fail
  all_goals rw [show wE = _ from hwEH] at hF1 hF2 hL
  all_goals exact post_xxd (h := h) (v := .slice (some ⟨gR, 0, none⟩) k.len cap8) (h2 := P.1) (v2 := .slice a2 P.2.len c2) hF1 hF2 rfl rfl rfl rfl hL
set_option maxRecDepth 20000 in
set_option maxHeartbeats 16000000 in
theorem lift_step_true_more (ws : List Bool) (ih : LfX ws) (h : EH) (k : Exs) (y : EH × Exs) (hy : getX k (k.len - 1) = some y) (kb ko cap : Nat) (wb wo wc : Nat) (hone : ¬ wc = 1) (T : Nat) (w : World) (hT : T ≤ w.heap.size) (hkp : KpX w (fun b => T ≤ b) (some ⟨kb, ko, none⟩) cap k) (hs : k.len * 88 ≤ 140737488351232) (hbd : BdX k) (hw : BoR w (some ⟨wb, wo, none⟩) wc (true :: ws)) :
    Calls Try.prog 8 #[exV h (.slice (some ⟨kb, ko, none⟩) k.len cap), .slice (some ⟨wb, wo, none⟩) (ws.length + 1) wc, ct zz] w (LfE T w (h, setX k (k.len - 1) (liftS ws y.1 y.2).1) (liftS ws y.1 y.2).2) := by
  have hk := hkp.now
  have hc1 := hk.1
  have hc2 : cap ≤ 9223372036854775807 := by have := hk.2.1; unfold maxLen at this; omega
  have hd1 : ws.length + 1 ≤ wc := hw.1
  have hd2 : wc ≤ 9223372036854775807 := by have := hw.2.1; unfold maxLen at this; omega
  have hlt := getX_lt k _ y hy
  have hyb := BdX_get k _ y hbd hy
  have f0 : Fr FN w (((w.alloc (exO h (.slice (some ⟨kb, ko, none⟩) k.len cap))).alloc zE).alloc zE) := ((Fr.alloc _ _ _).same (Fr.alloc _ _ _)).same (Fr.alloc _ _ _)
  have hA : Hidden ((((w.alloc (exO h (.slice (some ⟨kb, ko, none⟩) k.len cap))).alloc zE).alloc zE).heap[w.heap.size]? = some (exO h (.slice (some ⟨kb, ko, none⟩) k.len cap))) := (alloc_old _ _ _ (by simp; omega)).trans ((alloc_old _ _ _ (by simp)).trans (alloc_new _ _))
  have hB : Hidden ((((w.alloc (exO h (.slice (some ⟨kb, ko, none⟩) k.len cap))).alloc zE).alloc zE).heap[w.heap.size + 1]? = some zE) := (alloc_old _ _ _ (by simp)).trans (alloc_at _ _ _ (by simp))
  have hC : Hidden ((((w.alloc (exO h (.slice (some ⟨kb, ko, none⟩) k.len cap))).alloc zE).alloc zE).heap[w.heap.size + 2]? = some zE) := alloc_at _ _ _ (by simp)
  obtain ⟨W0, hW0⟩ : ∃ W, W = (((w.alloc (exO h (.slice (some ⟨kb, ko, none⟩) k.len cap))).alloc zE).alloc zE) := ⟨_, rfl⟩
  have hsz0 : Hidden (W0.heap.size = w.heap.size + 3) := by rw [hW0]; simp [Hidden]
  rw [← hW0] at f0 hA hB hC
  have hW0H : Hidden (W0 = _) := hW0
  have f0H : Hidden (Fr FN w W0) := f0
  obtain ⟨ya, yc, hyK, d0, d1, d2, d3, d4, d5, d6⟩ := hkp.kid hy
  have hkb : kb < w.heap.size := cell_lt d0
  have e1 : W0.cell? ⟨kb, ko + (k.len - 1) * 7, none⟩ = some (ci y.1.kind) := f0.cellN d0
  have e2 : W0.cell? ⟨kb, ko + (k.len - 1) * 7 + 1, none⟩ = some (ci y.1.op) := f0.cellN d1
  have e3 : W0.cell? ⟨kb, ko + (k.len - 1) * 7 + 2, none⟩ = some (ct y.1.mod) := f0.cellN d2
  have e4 : W0.cell? ⟨kb, ko + (k.len - 1) * 7 + 3, none⟩ = some (ct y.1.name) := f0.cellN d3
  have e5 : W0.cell? ⟨kb, ko + (k.len - 1) * 7 + 4, none⟩ = some (ci y.1.vt) := f0.cellN d4
  have e6 : W0.cell? ⟨kb, ko + (k.len - 1) * 7 + 5, none⟩ = some (.int .u64 y.1.vb) := f0.cellN d5
  have e7 : W0.cell? ⟨kb, ko + (k.len - 1) * 7 + 6, none⟩ = some (.slice ya y.2.len yc) := f0.cellN d6
  have hwt : BoR w (some ⟨wb, wo + 1, none⟩) (wc - 1) ws := hw.tail
  have wcell : W0.cell? ⟨wb, wo, none⟩ = some (.bool true) := by
    rcases hw.2.2 with h0 | ⟨b, off, e, hc⟩
    · cases h0
    · cases e
      exact f0.cellN (hc 0 _ rfl)
  have kL := fun (w1 : World) (f : Fr FN W0 w1) => ih y.1 y.2 ya yc (some ⟨wb, wo + 1, none⟩) (wc - 1) T w1 (Nat.le_trans hT (f0.same f).size) (hyK.keep (f0.same f) (fun _ _ hb => hb)) hyb.1 hyb.2 (hwt.keep (f0.same f))
  generalize (liftS ws y.1 y.2).1 = X at *
  generalize (liftS ws y.1 y.2).2 = P at *
  have kLH : Hidden (∀ (w1 : World) (f : Fr FN W0 w1), Calls Try.prog 8 #[exV y.1 (.slice ya y.2.len yc), .slice (some ⟨wb, wo + 1, none⟩) ws.length (wc - 1), ct zz] w1 (LfE T w1 X P)) := kL
  unfold LfE at kL
  obtain ⟨e0, _, _, _, _, _, _⟩ : W0.cell? ⟨w.heap.size, 6, none⟩ = some (.slice (some ⟨kb, ko, none⟩) k.len cap) ∧ True ∧ True ∧ True ∧ True ∧ True ∧ True := by
    obtain ⟨_, _, _, _, _, _, a6⟩ := ex_box hA
    exact ⟨a6, trivial, trivial, trivial, trivial, trivial, trivial⟩
  have t1 : ((k.len : Int) == 0) = false := by simp; omega
  have t2 : ((ws.length : Int) + 1 == 0) = false := by simp; omega
  have t3 : (((ws.length + 1 : Nat) : Int) == 0) = false := by simp; omega
  have s1 : (1 : Int) ≤ ((ws.length + 1 : Nat) : Int) := by omega
  have s2 : (1 : Int) ≤ (ws.length : Int) + 1 := by omega
  have s3 : ((ws.length : Int) + 1) ≤ (wc : Int) := by omega
  have s4 : (((ws.length + 1 : Nat) : Int)) ≤ (wc : Int) := by omega
  have s5 : (1 : Int) ≤ (wc : Int) := by omega
  have s6 : 1 ≤ wc := by omega
  have s7 : ¬ ((ws.length : Int) + 1 < 1) := by omega
  have t4 : IntKind.i64.wrap ((k.len : Int) - 1) = ((k.len - 1 : Nat) : Int) := by rw [IntKind.wrap_i64]; omega
  have t5 : wrap64 ((k.len : Int) - 1) = ((k.len - 1 : Nat) : Int) := by unfold wrap64; omega
  have hkpH : Hidden (KpX w (fun b => T ≤ b) (some ⟨kb, ko, none⟩) cap k) := hkp
  clear hy hyK hwt hyb d0 d1 d2 d3 d4 d5 d6 f0 hW0 hw hkp hk
  go_enter Try.func8, Try.ntmps8
  go_upto_region 4 with fail
  rw [← (show W0 = _ from hW0H)]
  go_upto_region 6 with fail
  go_cut [9, 10] (fun p9 p10 wx => EndR T W0 X P p9 p10 wx)
  case first =>
    have hT0 : T ≤ W0.heap.size := by have : W0.heap.size = w.heap.size + 3 := hsz0; omega
    have m0 : W0.heap.size ≠ w.heap.size := World.new_ne W0 _ e0
    have m1 : W0.heap.size ≠ kb := World.new_ne W0 _ e1
    have m2 : W0.heap.size + 1 ≠ w.heap.size := by have : W0.heap.size = w.heap.size + 3 := hsz0; omega
    have m3 : W0.heap.size + 1 ≠ kb := by have : W0.heap.size = w.heap.size + 3 := hsz0; omega
    go_region_held3 (fun w' => w'.cell? ⟨w.heap.size, 6, none⟩ = some (.slice (some ⟨kb, ko, none⟩) k.len cap) ∧ w'.cell? ⟨kb, ko + (k.len - 1) * 7, none⟩ = some (ci y.1.kind) ∧ w'.cell? ⟨kb, ko + (k.len - 1) * 7 + 1, none⟩ = some (ci y.1.op) ∧ w'.cell? ⟨kb, ko + (k.len - 1) * 7 + 2, none⟩ = some (ct y.1.mod) ∧ w'.cell? ⟨kb, ko + (k.len - 1) * 7 + 3, none⟩ = some (ct y.1.name) ∧ w'.cell? ⟨kb, ko + (k.len - 1) * 7 + 4, none⟩ = some (ci y.1.vt) ∧ w'.cell? ⟨kb, ko + (k.len - 1) * 7 + 5, none⟩ = some (.int .u64 y.1.vb) ∧ w'.cell? ⟨kb, ko + (k.len - 1) * 7 + 6, none⟩ = some (.slice ya y.2.len yc)) (first | (refine ⟨by with_reducible assumption, by with_reducible assumption, by with_reducible assumption, by with_reducible assumption, by with_reducible assumption, by with_reducible assumption, by with_reducible assumption, by with_reducible assumption⟩) | go_keep) (first
      | (go_at_call 8; refine Calls.mono (kL (W0.drew) (Fr.drew FN W0)) ?_; rintro e w6 ⟨a1, c1, a2, c2, rfl, hx1, hp1, f6⟩; have g6 := (Fr.drew FN W0).same f6; have q0 := g6.cellN e0; have q1 := g6.cellN e1; have q2 := g6.cellN e2; have q3 := g6.cellN e3; have q4 := g6.cellN e4; have q5 := g6.cellN e5; have q6 := g6.cellN e6; have q7 := g6.cellN e7; have n0 : w6.heap.size ≠ w.heap.size := World.new_ne w6 _ q0; have n1 : w6.heap.size ≠ kb := World.new_ne w6 _ q1; have n2 : w6.heap.size + 1 ≠ w.heap.size := Nat.ne_of_gt (Nat.lt_succ_of_lt (cell_lt q0)); have n3 : w6.heap.size + 1 ≠ kb := Nat.ne_of_gt (Nat.lt_succ_of_lt (cell_lt q1)))
      | (go_at_call 8; refine Calls.mono (kL ((W0.alloc (exO ⟨0, 0, [], [], 0, 0⟩ (.slice none 0 0))).drew) ((Fr.alloc FN W0 (exO ⟨0, 0, [], [], 0, 0⟩ (.slice none 0 0))).same (Fr.drew FN _))) ?_; rintro e w6 ⟨a1, c1, a2, c2, rfl, hx1, hp1, f6⟩; have g6 := ((Fr.alloc FN W0 (exO ⟨0, 0, [], [], 0, 0⟩ (.slice none 0 0))).same (Fr.drew FN _)).same f6; have q0 := g6.cellN e0; have q1 := g6.cellN e1; have q2 := g6.cellN e2; have q3 := g6.cellN e3; have q4 := g6.cellN e4; have q5 := g6.cellN e5; have q6 := g6.cellN e6; have q7 := g6.cellN e7; have hz : w6.heap[W0.heap.size]? = some (exO ⟨0, 0, [], [], 0, 0⟩ (.slice none 0 0)) := f6.heap (alloc_new W0 _) (fun f => f); obtain ⟨z0, z1, z2, z3, z4, z5, z6⟩ := ex_box hz; have y0 := frozen_row hz 0; have y1 := frozen_row hz 1; have y2 := frozen_row hz 2; have y3 := frozen_row hz 3; have y4 := frozen_row hz 4; have y5 := frozen_row hz 5; have y6 := frozen_row hz 6; have n0 : w6.heap.size ≠ w.heap.size := World.new_ne w6 _ q0; have n1 : w6.heap.size ≠ kb := World.new_ne w6 _ q1; have n2 : w6.heap.size ≠ W0.heap.size := World.new_ne w6 _ z0; have hzo : ∀ o : Obj, (w6.alloc o).heap[W0.heap.size]? = some (exO ⟨0, 0, [], [], 0, 0⟩ (.slice none 0 0)) := fun o => (Fr.alloc FN w6 o).heap hz (fun f => f); have C0 := fun o : Obj => cell_of_row (w6.alloc o) _ 0 _ _ _ (hzo o); have Q0 := fun o : Obj => frozen_row (hzo o) 0; have C1 := fun o : Obj => cell_of_row (w6.alloc o) _ 1 _ _ _ (hzo o); have Q1 := fun o : Obj => frozen_row (hzo o) 1; have C2 := fun o : Obj => cell_of_row (w6.alloc o) _ 2 _ _ _ (hzo o); have Q2 := fun o : Obj => frozen_row (hzo o) 2; have C3 := fun o : Obj => cell_of_row (w6.alloc o) _ 3 _ _ _ (hzo o); have Q3 := fun o : Obj => frozen_row (hzo o) 3; have C4 := fun o : Obj => cell_of_row (w6.alloc o) _ 4 _ _ _ (hzo o); have Q4 := fun o : Obj => frozen_row (hzo o) 4; have C5 := fun o : Obj => cell_of_row (w6.alloc o) _ 5 _ _ _ (hzo o); have Q5 := fun o : Obj => frozen_row (hzo o) 5; have C6 := fun o : Obj => cell_of_row (w6.alloc o) _ 6 _ _ _ (hzo o); have Q6 := fun o : Obj => frozen_row (hzo o) 6; clear hzo)
      | (go_at_call 8; refine Calls.mono (kL (((W0.alloc (exO ⟨0, 0, [], [], 0, 0⟩ (.slice none 0 0))).alloc (exO ⟨0, 0, [], [], 0, 0⟩ (.slice none 0 0))).drew) (((Fr.alloc FN W0 (exO ⟨0, 0, [], [], 0, 0⟩ (.slice none 0 0))).same (Fr.alloc FN _ (exO ⟨0, 0, [], [], 0, 0⟩ (.slice none 0 0)))).same (Fr.drew FN _))) ?_; rintro e w6 ⟨a1, c1, a2, c2, rfl, hx1, hp1, f6⟩; have g6 := (((Fr.alloc FN W0 (exO ⟨0, 0, [], [], 0, 0⟩ (.slice none 0 0))).same (Fr.alloc FN _ (exO ⟨0, 0, [], [], 0, 0⟩ (.slice none 0 0)))).same (Fr.drew FN _)).same f6; have q0 := g6.cellN e0; have q1 := g6.cellN e1; have q2 := g6.cellN e2; have q3 := g6.cellN e3; have q4 := g6.cellN e4; have q5 := g6.cellN e5; have q6 := g6.cellN e6; have q7 := g6.cellN e7; have hz : w6.heap[W0.heap.size]? = some (exO ⟨0, 0, [], [], 0, 0⟩ (.slice none 0 0)) := f6.heap ((alloc_old _ _ _ (by simp)).trans (alloc_new W0 _)) (fun f => f); obtain ⟨z0, z1, z2, z3, z4, z5, z6⟩ := ex_box hz; have y0 := frozen_row hz 0; have y1 := frozen_row hz 1; have y2 := frozen_row hz 2; have y3 := frozen_row hz 3; have y4 := frozen_row hz 4; have y5 := frozen_row hz 5; have y6 := frozen_row hz 6; have hZ : w6.heap[W0.heap.size + 1]? = some (exO ⟨0, 0, [], [], 0, 0⟩ (.slice none 0 0)) := f6.heap (alloc_at (W0.alloc (exO ⟨0, 0, [], [], 0, 0⟩ (.slice none 0 0))) _ _ (by simp)) (fun f => f); obtain ⟨Z0, Z1, Z2, Z3, Z4, Z5, Z6⟩ := ex_box hZ; have Y0 := frozen_row hZ 0; have Y1 := frozen_row hZ 1; have Y2 := frozen_row hZ 2; have Y3 := frozen_row hZ 3; have Y4 := frozen_row hZ 4; have Y5 := frozen_row hZ 5; have Y6 := frozen_row hZ 6)
      )
    all_goals go_wp2_with fail
    all_goals go_meet
    · exact end_1 g6 (by simp) hx1 hp1
    · exact end_2 g6 (by simp) hx1 hp1
    · exact end_s (wx := sev (sev (w6.alloc zE) W0.heap.size X.1 (.slice a1 X.2.len c1)) w6.heap.size P.1 (.slice a2 P.2.len c2)) (S := fun b => b = W0.heap.size ∨ b = w6.heap.size)
        ((((Fr.alloc (fun b => b = W0.heap.size ∨ b = w6.heap.size) w6 zE).same ((sev_fr _ W0.heap.size _ _).mono (fun b _ e => Or.inl e)))).same ((sev_fr _ w6.heap.size _ _).mono (fun b _ e => Or.inr e))) (fun b hb => by have := g6.size; simp at *; omega)
        ((sev_fr _ w6.heap.size _ _).heap (sev_same ((Fr.alloc FN w6 zE).heap hz (fun f => f)) _ _) (fun e => n2 e.symm)) (sev_same ((sev_fr _ W0.heap.size _ _).heap (alloc_new w6 zE) (fun e => n2 e)) _ _) (Nat.le_refl _) g6.size (fun e => n2 e.symm) g6 (by simp) hx1 hp1 hT0
    · exact end_s (wx := sev (sev w6 W0.heap.size X.1 (.slice a1 X.2.len c1)) (W0.heap.size + 1) P.1 (.slice a2 P.2.len c2)) (S := fun b => b = W0.heap.size ∨ b = W0.heap.size + 1)
        (((sev_fr w6 W0.heap.size _ _).mono (fun b _ e => Or.inl e)).same ((sev_fr _ (W0.heap.size + 1) _ _).mono (fun b _ e => Or.inr e))) (fun b hb => by simp at *; omega)
        ((sev_fr _ (W0.heap.size + 1) _ _).heap (sev_same hz _ _) (fun e => by omega)) (sev_same ((sev_fr _ W0.heap.size _ _).heap hZ (fun e => by omega)) _ _) (Nat.le_refl _) (Nat.le_succ _) (by omega) g6 (by simp; omega) hx1 hp1 hT0
    · exact end_s (wx := sev (w6.alloc (exO X.1 (.slice a1 X.2.len c1))) W0.heap.size P.1 (.slice a2 P.2.len c2)) (S := fun b => b = W0.heap.size)
        ((Fr.alloc (fun b => b = W0.heap.size) w6 _).same (sev_fr _ W0.heap.size _ _)) (fun b hb => by simp at *; omega)
        ((sev_fr _ W0.heap.size _ _).heap (alloc_new w6 _) (fun e => n2 e)) (sev_same ((Fr.alloc FN w6 _).heap hz (fun f => f)) _ _) g6.size (Nat.le_refl _) n2 g6 (by simp) hx1 hp1 hT0
    · exact end_s (wx := sev (sev w6 (W0.heap.size + 1) X.1 (.slice a1 X.2.len c1)) W0.heap.size P.1 (.slice a2 P.2.len c2)) (S := fun b => b = W0.heap.size ∨ b = W0.heap.size + 1)
        (((sev_fr w6 (W0.heap.size + 1) _ _).mono (fun b _ e => Or.inr e)).same ((sev_fr _ W0.heap.size _ _).mono (fun b _ e => Or.inl e))) (fun b hb => by simp at *; omega)
        ((sev_fr _ W0.heap.size _ _).heap (sev_same hZ _ _) (fun e => by omega)) (sev_same ((sev_fr _ (W0.heap.size + 1) _ _).heap hz (fun e => by omega)) _ _) (Nat.le_succ _) (Nat.le_refl _) (by omega) g6 (by simp; omega) hx1 hp1 hT0
  case rest =>
  obtain ⟨g9, g10, a1, c1, a2, c2, rfl, rfl, h9, h10, kx, kp, b9, b10, hne, f6⟩ := hcut
  have hsz : W0.heap.size = w.heap.size + 3 := hsz0
  have f0 : Fr FN w W0 := f0H
  have hkp : KpX w (fun b => T ≤ b) (some ⟨kb, ko, none⟩) cap k := hkpH
  have q3 : wc.heap[w.heap.size]? = some (exO h (.slice (some ⟨kb, ko, none⟩) k.len cap)) := f6.heap hA (fun f => f)
  obtain ⟨r0, r1, r2, r3, r4, r5, r6⟩ := ex_box q3
  obtain ⟨cs, hch, hcc, hco⟩ := chunks_rp (fun ao c y => KpX w (fun b => T ≤ b) ao c y) w kb (toL k) ko (fun j y hy => by
    rw [toL_get] at hy
    obtain ⟨ya, yc, hyK, d0, d1, d2, d3, d4, d5, d6⟩ := hkp.kid hy
    exact ⟨ya, yc, hyK, sev_of d0 d1 d2 d3 d4 d5 d6⟩)
  have hszc : Hidden (W0.heap.size ≤ wc.heap.size) := f6.size
  obtain ⟨W7, hW7⟩ : ∃ W, W = (wc.alloc (exO h (.slice (some ⟨kb, ko, none⟩) k.len cap))).alloc (.cells #[] 27) := ⟨_, rfl⟩
  have f7 : Fr FN wc W7 := by rw [hW7]; exact (Fr.alloc _ _ _).same (Fr.alloc _ _ _)
  have hN : W7.heap[wc.heap.size + 1]? = some (.cells #[] 27 (0, 0)) := by rw [hW7]; exact alloc_at _ _ _ (by simp)
  have hM : Hidden (W7.heap[wc.heap.size]? = some (exO h (.slice (some ⟨kb, ko, none⟩) k.len cap))) := by rw [hW7]; exact (alloc_old _ _ _ (by simp)).trans (alloc_new _ _)
  have hs7 : Hidden (W7.heap.size = wc.heap.size + 2) := by rw [hW7]; simp [Hidden]
  have hrN : Hidden (Rw.Row (RP (fun ao c y => KpX w (fun b => T ≤ b) ao c y)) 27 7 W7 (wc.heap.size + 1) (.slice (some ⟨wc.heap.size + 1, 0, none⟩) 0 0) []) := Rw.Row.new _ _ 7 W7 _ _ (Nat.le_refl _) hN
  have fw7 : Hidden (Fr FN w W7) := (f0.same f6).same f7
  have hcc7 : Hidden (∀ (j : Nat) (u : Value), cs[j]? = some u → W7.cell? (Addr.add ⟨kb, ko, none⟩ j) = some u) := fun j u hu => by
    rw [Addr.add_lit]
    exact ((f0.same f6).same f7).cellN (hcc j u hu)
  have hW7H : Hidden (W7 = _) := hW7
  have r6b := ((Fr.alloc FN wc (exO h (.slice (some ⟨kb, ko, none⟩) k.len cap))).same (Fr.alloc FN _ (.cells #[] 27))).cellN r6
  have h9H : Hidden (wc.heap[g9]? = _) := h9
  have h10H : Hidden (wc.heap[g10]? = _) := h10
  have hlen : (toL k).length = k.len := toL_len k
  have hcl : Hidden (cs.length = k.len * 7) := by have := hch.len; rw [hlen] at this; exact this
  have hchH : Hidden (Rw.Chunks (RP (fun ao c y => KpX w (fun b => T ≤ b) ao c y)) 7 (toL k) cs) := hch
  have hsH : Hidden (k.len * 88 ≤ 140737488351232) := hs
  have kxH : Hidden (KpX wc (fun b => T ≤ b ∧ b < W0.heap.size) a1 c1 X.2) := kx
  have kpH : Hidden (KpX wc (fun b => T ≤ b ∧ b < W0.heap.size) a2 c2 P.2) := kp
  have f6H : Hidden (Fr FN W0 wc) := f6
  have f7H : Hidden (Fr FN wc W7) := f7
  have b9H : Hidden (W0.heap.size ≤ g9) := b9
  have b10H : Hidden (W0.heap.size ≤ g10) := b10
  have l9 : Hidden (g9 < wc.heap.size) := block_lt h9
  have l10 : Hidden (g10 < wc.heap.size) := block_lt h10
  have hneH : Hidden (g9 ≠ g10) := hne
  have hTH : Hidden (T ≤ w.heap.size) := hT
  clear hN hW7 hch hcc f6 f7 h9 h10 hkp hkpH kL kLH e0 e1 e2 e3 e4 e5 e6 e7 wcell kx kp b9 b10 hne hsz f0 q3 hlen hs hbd hT hkb
  go_upto_region 9 with (at_builtin; rw [← (show W7 = _ from hW7H)]; obtain ⟨cells, hr1, hr2⟩ := (show Rw.Row _ _ _ _ _ _ _ from hrN); refine wpl_append rfl _ _ 25 27 _ 7 88 Try.underlying25 info_ex3 rfl (by decide) rfl (wc.heap.size + 1) _ 0 [] ⟨kb, ko, none⟩ k.len cap cs rfl (by obtain rfl : cells = [] := hr2; exact hr1) rfl hcl hcc7 hco ?_ ?_ ?_ ?_; (focus (have : k.len * 88 ≤ 140737488351232 := hsH; unfold maxLen; omega)); (focus (have : k.len * 88 ≤ 140737488351232 := hsH; omega)); (focus (have : W7.heap.size = wc.heap.size + 2 := hs7; omega)); intro v8 w8 hr8 f8 hown8; rw [Nat.zero_add, List.nil_append] at hr8; (rcases hr8.2 with hz8 | ⟨gR, cap8, cur, hv8, hbR, hgR, hnc, hcm, hcs, htk⟩; (exact absurd hz8.2 (by omega))); subst hv8; have hgRH : Hidden (w8.heap[gR]? = some (.cells cur 27 (0, 0))) := hgR; have htkH : Hidden (cur.toList.take (k.len * 7) = cs) := htk; have f8H : Hidden (Fr (fun b => (Value.slice (some ⟨wc.heap.size + 1, 0, none⟩) 0 0).ownBlock = some b) W7 w8) := f8; have hbRH : Hidden (wc.heap.size + 1 ≤ gR) := hbR; have hM8 : Hidden (w8.heap[wc.heap.size]? = some (exO h (.slice (some ⟨kb, ko, none⟩) k.len cap))) := f8.heap hM (fun e => by have e : some (wc.heap.size + 1) = some wc.heap.size := e; simp at e); have m6 := cell_of_row w8 _ 6 _ _ _ hM8; have m6f := frozen_row hM8 6; have hnc2 : Hidden (k.len ≤ cap8) := hnc; have hcm2 : Hidden (cap8 ≤ maxLen) := hcm; clear hr8 hgR htk f8 hown8 hbR hcs hM hrN hcc7 hco r0 r1 r2 r3 r4 r5 r6 hW7H hnc hcm)
  have hszc2 : W0.heap.size ≤ wc.heap.size := hszc
  have hsz : W0.heap.size = w.heap.size + 3 := hsz0
  have hne2 : g9 ≠ g10 := hneH
  have hl9 : g9 < wc.heap.size := l9
  have hl10 : g10 < wc.heap.size := l10
  have hb9 : W0.heap.size ≤ g9 := b9H
  have hb10 : W0.heap.size ≤ g10 := b10H
  have hbR2 : wc.heap.size + 1 ≤ gR := hbRH
  have hT2 : T ≤ w.heap.size := hTH
  have hfR : Fr FN w W7 := fw7
  have hf8 : Fr (fun b => b = wc.heap.size + 1) W7 w8 := (show Fr (fun b => (Value.slice (some ⟨wc.heap.size + 1, 0, none⟩) 0 0).ownBlock = some b) W7 w8 from f8H).mono (fun b _ e => by have e : some (wc.heap.size + 1) = some b := e; injection e with e; exact e.symm)
  obtain ⟨w9, hw9⟩ : ∃ w9, w9 = w8.setCell ⟨wc.heap.size, 6, none⟩ (.slice (some ⟨gR, 0, none⟩) k.len cap8) := ⟨_, rfl⟩
  have f9 : Fr (fun b => b = wc.heap.size) w8 w9 := by rw [hw9]; exact Fr.setCell w8 ⟨wc.heap.size, 6, none⟩ _
  have hM9 : Hidden (w9.heap[wc.heap.size]? = some (exO h (.slice (some ⟨gR, 0, none⟩) k.len cap8))) := by rw [hw9]; exact heap_setCell_same _ _ 6 _ _ _ hM8
  rw [← hw9]
  have up9 : ∀ {g : Nat} {o : Obj}, g < wc.heap.size → wc.heap[g]? = some o → w9.heap[g]? = some o := fun hg hh => f9.heap (hf8.heap ((show Fr FN wc W7 from f7H).heap hh (fun f => f)) (by omega)) (by omega)
  have hX9 := up9 hl9 h9H
  have hP9 : Hidden (w9.heap[g10]? = _) := up9 hl10 h10H
  have hB9 : Hidden (w9.heap[w.heap.size + 1]? = some zE) := up9 (by omega) ((show Fr FN W0 wc from f6H).heap hB (fun f => f))
  have hC9 : Hidden (w9.heap[w.heap.size + 2]? = some zE) := up9 (by omega) ((show Fr FN W0 wc from f6H).heap hC (fun f => f))
  have hR9 : w9.heap[gR]? = some (.cells cur 27 (0, 0)) := f9.heap hgRH (by omega)
  have fw9 : Hidden (Fr FN w w9) := (hfR.over hf8 (fun b e => by omega)).over f9 (fun b e => by omega)
  have fc9 : Hidden (Fr (fun b => T ≤ b ∧ b < w.heap.size + 3) wc w9) := ((show Fr FN wc W7 from f7H).over hf8 (fun b e => by omega)).over f9 (fun b e => by omega) |>.mono (fun _ _ f => f.elim)
  obtain ⟨x0, x1, x2, x3, x4, x5, x6⟩ := ex_box hX9
  have hrow : Hidden (∀ (j : Nat) (y : EH × Exs), getX k j = some y → ∃ ao c, KpX w (fun b => T ≤ b) ao c y.2 ∧ Sev w9 gR (j * 7) y.1 (.slice ao y.2.len c)) := fun j y hy => by
    obtain ⟨c, ⟨ao, cp, hK, rfl⟩, h7, hcell⟩ := (show Rw.Chunks _ 7 (toL k) cs from hchH).get (i := j) (x := y) (by rw [toL_get]; exact hy)
    refine ⟨ao, cp, hK, fun m u hm => ?_⟩
    have h6 := hcell m u hm
    rw [cell_of_row w9 gR _ cur _ (0, 0) hR9]
    rw [← (show cur.toList.take (k.len * 7) = cs from htkH), List.getElem?_take] at h6
    split at h6
    · simpa using h6
    · cases h6
  obtain ⟨y0, hy0⟩ := getX_some k (k.len - 1) hlt
  obtain ⟨ao0, cp0, _, hs0⟩ := (show ∀ (j : Nat) (y : EH × Exs), getX k j = some y → _ from hrow) (k.len - 1) y0 hy0
  obtain ⟨z0, z1, z2, z3, z4, z5, z6⟩ := hs0.all
  skip
  have n0 := frozen_row hR9 ((k.len - 1) * 7)
  have n1 := frozen_row hR9 ((k.len - 1) * 7 + 1)
  have n2 := frozen_row hR9 ((k.len - 1) * 7 + 2)
  have n3 := frozen_row hR9 ((k.len - 1) * 7 + 3)
  have n4 := frozen_row hR9 ((k.len - 1) * 7 + 4)
  have n5 := frozen_row hR9 ((k.len - 1) * 7 + 5)
  have n6 := frozen_row hR9 ((k.len - 1) * 7 + 6)
  have b6 := cell_of_row w9 _ 6 _ _ _ hM9
  have hR9H : Hidden (w9.heap[gR]? = some (.cells cur 27 (0, 0))) := hR9
  have hlt2 : (((k.len - 1) : Nat) : Int) < (k.len : Int) := by omega
  have hw9H : Hidden (w9 = _) := hw9
  have hcap8 : cap8 ≤ 9223372036854775807 := by have : cap8 ≤ maxLen := hcm2; unfold maxLen at this; omega
  have hcl8 : k.len ≤ cap8 := hnc2
  clear hw9 hf8 f9 up9 hX9 hR9 hs0 hy0 hfR m6 m6f hne2 hl9 hl10 hb9 hb10 hT2 hM8
  go_upto_region 10 with fail
  change Code.wp _ _ _ _ (setRow w9 gR ((k.len - 1) * 7) (exC X.1 (.slice a1 X.2.len c1)))
  have hneP : g10 ≠ gR := by have : g10 < wc.heap.size := l10; omega
  have f10 : Fr (fun b => b = gR) w9 (setRow w9 gR ((k.len - 1) * 7) (exC X.1 (.slice a1 X.2.len c1))) := setRow_fr gR _ w9 _
  have hrs : Hidden (∀ p, (setRow w9 gR ((k.len - 1) * 7) (exC X.1 (.slice a1 X.2.len c1))).cell? ⟨gR, p, none⟩ = (setRow w9 gR ((k.len - 1) * 7) (exC X.1 (.slice a1 X.2.len c1))).cell? ⟨gR, p, none⟩) := fun _ => rfl
  obtain ⟨w10, hw10⟩ : ∃ w10, w10 = setRow w9 gR ((k.len - 1) * 7) (exC X.1 (.slice a1 X.2.len c1)) := ⟨_, rfl⟩
  rw [← hw10] at f10 ⊢
  have hw10H : Hidden (w10 = _) := hw10
  have k11 : w10.heap[wc.heap.size]? = some (exO h (.slice (some ⟨gR, 0, none⟩) k.len cap8)) := f10.heap hM9 (by omega)
  have k10 : w10.heap[g10]? = some (exO P.1 (.slice a2 P.2.len c2)) := f10.heap hP9 hneP
  have k1 : w10.heap[w.heap.size + 1]? = some zE := f10.heap hB9 (by omega)
  have k2 : w10.heap[w.heap.size + 1 + 1]? = some zE := f10.heap hC9 (by omega)
  have k2s : (sev w10 (w.heap.size + 1) h (.slice (some ⟨gR, 0, none⟩) k.len cap8)).heap[w.heap.size + 1 + 1]? = some zE := (sev_fr w10 _ h _).heap k2 (by omega)
  obtain ⟨p0, p1, p2, p3, p4, p5, p6⟩ := ex_box k11
  obtain ⟨q0, q1, q2, q3, q4, q5, q6⟩ := ex_box k10
  obtain ⟨r0, r1, r2, r3, r4, r5, r6⟩ := ex_box k1
  obtain ⟨t0, t1', t2', t3', t4', t5', t6'⟩ := ex_box k2s
  have i0 := frozen_row k1 0
  have i1 := frozen_row k1 1
  have i2 := frozen_row k1 2
  have i3 := frozen_row k1 3
  have i4 := frozen_row k1 4
  have i5 := frozen_row k1 5
  have i6 := frozen_row k1 6
  have j0 := frozen_row k2s 0
  have j1 := frozen_row k2s 1
  have j2 := frozen_row k2s 2
  have j3 := frozen_row k2s 3
  have j4 := frozen_row k2s 4
  have j5 := frozen_row k2s 5
  have j6 := frozen_row k2s 6
  unfold sev at t0 t1' t2' t3' t4' t5' t6' j0 j1 j2 j3 j4 j5 j6
  have e1 : w.heap.size + 1 ≠ wc.heap.size := by omega
  have e2 : w.heap.size + 1 ≠ g10 := by have : W0.heap.size ≤ g10 := b10H; omega
  have e3 : w.heap.size + 1 + 1 ≠ wc.heap.size := by omega
  have e4 : w.heap.size + 1 + 1 ≠ g10 := by have : W0.heap.size ≤ g10 := b10H; omega
  obtain ⟨wE, hwE⟩ : ∃ wE, wE = sev (sev w10 (w.heap.size + 1) h (.slice (some ⟨gR, 0, none⟩) k.len cap8)) (w.heap.size + 1 + 1) P.1 (.slice a2 P.2.len c2) := ⟨_, rfl⟩
  have fF : Fr (fun b => b = w.heap.size + 1 ∨ b = w.heap.size + 1 + 1) w10 wE := by rw [hwE]; exact ((sev_fr w10 _ h _).mono (fun b _ e => Or.inl e)).same ((sev_fr _ _ P.1 _).mono (fun b _ e => Or.inr e))
  have hF1 : Hidden (wE.heap[w.heap.size + 1]? = some (exO h (.slice (some ⟨gR, 0, none⟩) k.len cap8))) := by rw [hwE]; exact (sev_fr _ _ P.1 _).heap (sev_same k1 _ _) (by omega)
  have hF2 : Hidden (wE.heap[w.heap.size + 1 + 1]? = some (exO P.1 (.slice a2 P.2.len c2))) := by rw [hwE]; exact sev_same k2s _ _
  have hL : Hidden (LfE T w (h, setX k (k.len - 1) X) P (.returned (.tuple #[exV h (.slice (some ⟨gR, 0, none⟩) k.len cap8), exV P.1 (.slice a2 P.2.len c2)])) wE) := by
    have hT2 : T ≤ w.heap.size := hTH
    have fw : Fr FN w w10 := (show Fr FN w w9 from fw9).over f10 (fun b e => by omega)
    have fc : Fr (fun b => T ≤ b ∧ b < w.heap.size + 3) wc w10 := (show Fr (fun b => T ≤ b ∧ b < w.heap.size + 3) wc w9 from fc9).over f10 (fun b e => by omega)
    have fwF := fw.over fF (fun b e => by omega)
    have fcF := fc.same (fF.mono (fun b _ e => ⟨by omega, by omega⟩))
    have kx : KpX wc (fun b => T ≤ b ∧ b < w.heap.size + 3) a1 c1 X.2 := by have := (show KpX wc (fun b => T ≤ b ∧ b < W0.heap.size) a1 c1 X.2 from kxH); rw [hsz] at this; exact this
    have kp : KpX wc (fun b => T ≤ b ∧ b < w.heap.size + 3) a2 c2 P.2 := by have := (show KpX wc (fun b => T ≤ b ∧ b < W0.heap.size) a2 c2 P.2 from kpH); rw [hsz] at this; exact this
    refine ⟨some ⟨gR, 0, none⟩, cap8, a2, c2, by rw [setX_len], ?_, fun w'' g => kp w'' (fcF.trans g (fun b _ hb => ⟨hb.1, by omega⟩)), fwF⟩
    refine kids_set (w := w) (wc := wc) (w8 := w9) (i := (k.len - 1)) (a1 := a1) (c1 := c1) hnc2 hcm2 (by omega) hlt hrow kx fwF fcF (fun p => ?_)
    rw [← (show w10 = _ from hw10H)]
    have hfr := fF
    exact World.cell?_of_block (a := ⟨gR, p, none⟩) (hfr.block gR (Nat.lt_of_lt_of_le (block_lt (show w9.heap[gR]? = _ from hR9H)) f10.size) (by omega))
  have hwEH : Hidden (wE = _) := hwE
  clear hwE hw10 f10 k11 k10 k1 k2 k2s fF hrs x0 x1 x2 x3 x4 x5 x6 z0 z1 z2 z3 z4 z5 z6 n0 n1 n2 n3 n4 n5 n6 b6 r6b
  go_region_held3 (fun w' => w'.cell? ⟨wc.heap.size, 0, none⟩ = some (ci h.kind) ∧ w'.cell? ⟨wc.heap.size, 1, none⟩ = some (ci h.op) ∧ w'.cell? ⟨wc.heap.size, 2, none⟩ = some (ct h.mod) ∧ w'.cell? ⟨wc.heap.size, 3, none⟩ = some (ct h.name) ∧ w'.cell? ⟨wc.heap.size, 4, none⟩ = some (ci h.vt) ∧ w'.cell? ⟨wc.heap.size, 5, none⟩ = some (.int .u64 h.vb) ∧ w'.cell? ⟨wc.heap.size, 6, none⟩ = some (.slice (some ⟨gR, 0, none⟩) k.len cap8) ∧
    w'.cell? ⟨g10, 0, none⟩ = some (ci P.1.kind) ∧ w'.cell? ⟨g10, 1, none⟩ = some (ci P.1.op) ∧ w'.cell? ⟨g10, 2, none⟩ = some (ct P.1.mod) ∧ w'.cell? ⟨g10, 3, none⟩ = some (ct P.1.name) ∧ w'.cell? ⟨g10, 4, none⟩ = some (ci P.1.vt) ∧ w'.cell? ⟨g10, 5, none⟩ = some (.int .u64 P.1.vb) ∧ w'.cell? ⟨g10, 6, none⟩ = some (.slice a2 P.2.len c2)) (go_keep) (fail)
  all_goals go_wp2_with fail
  all_goals rw [show wE = _ from hwEH] at hF1 hF2 hL
  all_goals exact post_xxd (h := h) (v := .slice (some ⟨gR, 0, none⟩) k.len cap8) (h2 := P.1) (v2 := .slice a2 P.2.len c2) hF1 hF2 rfl rfl rfl rfl hL
set_option maxRecDepth 20000 in
set_option maxHeartbeats 16000000 in
theorem lift_step_true_one (ih : LfX []) (h : EH) (k : Exs) (y : EH × Exs) (hy : getX k (k.len - 1) = some y) (kb ko cap : Nat) (wb wo : Nat) (T : Nat) (w : World) (hT : T ≤ w.heap.size) (hkp : KpX w (fun b => T ≤ b) (some ⟨kb, ko, none⟩) cap k) (hs : k.len * 88 ≤ 140737488351232) (hbd : BdX k) (hw : BoR w (some ⟨wb, wo, none⟩) 1 (true :: [])) :
    Calls Try.prog 8 #[exV h (.slice (some ⟨kb, ko, none⟩) k.len cap), .slice (some ⟨wb, wo, none⟩) 1 1, ct zz] w (LfE T w (h, setX k (k.len - 1) (liftS [] y.1 y.2).1) (liftS [] y.1 y.2).2) := by
  have hk := hkp.now
  have hc1 := hk.1
  have hc2 : cap ≤ 9223372036854775807 := by have := hk.2.1; unfold maxLen at this; omega
  have hlt := getX_lt k _ y hy
  have hyb := BdX_get k _ y hbd hy
  have f0 : Fr FN w (((w.alloc (exO h (.slice (some ⟨kb, ko, none⟩) k.len cap))).alloc zE).alloc zE) := ((Fr.alloc _ _ _).same (Fr.alloc _ _ _)).same (Fr.alloc _ _ _)
  have hA : Hidden ((((w.alloc (exO h (.slice (some ⟨kb, ko, none⟩) k.len cap))).alloc zE).alloc zE).heap[w.heap.size]? = some (exO h (.slice (some ⟨kb, ko, none⟩) k.len cap))) := (alloc_old _ _ _ (by simp; omega)).trans ((alloc_old _ _ _ (by simp)).trans (alloc_new _ _))
  have hB : Hidden ((((w.alloc (exO h (.slice (some ⟨kb, ko, none⟩) k.len cap))).alloc zE).alloc zE).heap[w.heap.size + 1]? = some zE) := (alloc_old _ _ _ (by simp)).trans (alloc_at _ _ _ (by simp))
  have hC : Hidden ((((w.alloc (exO h (.slice (some ⟨kb, ko, none⟩) k.len cap))).alloc zE).alloc zE).heap[w.heap.size + 2]? = some zE) := alloc_at _ _ _ (by simp)
  obtain ⟨W0, hW0⟩ : ∃ W, W = (((w.alloc (exO h (.slice (some ⟨kb, ko, none⟩) k.len cap))).alloc zE).alloc zE) := ⟨_, rfl⟩
  have hsz0 : Hidden (W0.heap.size = w.heap.size + 3) := by rw [hW0]; simp [Hidden]
  rw [← hW0] at f0 hA hB hC
  have hW0H : Hidden (W0 = _) := hW0
  have f0H : Hidden (Fr FN w W0) := f0
  obtain ⟨ya, yc, hyK, d0, d1, d2, d3, d4, d5, d6⟩ := hkp.kid hy
  have hkb : kb < w.heap.size := cell_lt d0
  have e1 : W0.cell? ⟨kb, ko + (k.len - 1) * 7, none⟩ = some (ci y.1.kind) := f0.cellN d0
  have e2 : W0.cell? ⟨kb, ko + (k.len - 1) * 7 + 1, none⟩ = some (ci y.1.op) := f0.cellN d1
  have e3 : W0.cell? ⟨kb, ko + (k.len - 1) * 7 + 2, none⟩ = some (ct y.1.mod) := f0.cellN d2
  have e4 : W0.cell? ⟨kb, ko + (k.len - 1) * 7 + 3, none⟩ = some (ct y.1.name) := f0.cellN d3
  have e5 : W0.cell? ⟨kb, ko + (k.len - 1) * 7 + 4, none⟩ = some (ci y.1.vt) := f0.cellN d4
  have e6 : W0.cell? ⟨kb, ko + (k.len - 1) * 7 + 5, none⟩ = some (.int .u64 y.1.vb) := f0.cellN d5
  have e7 : W0.cell? ⟨kb, ko + (k.len - 1) * 7 + 6, none⟩ = some (.slice ya y.2.len yc) := f0.cellN d6
  have hwt : BoR w (some ⟨wb, wo, none⟩) 0 [] := ⟨by simp, by unfold maxLen; omega, Or.inl rfl⟩
  have wcell : W0.cell? ⟨wb, wo, none⟩ = some (.bool true) := by
    rcases hw.2.2 with h0 | ⟨b, off, e, hc⟩
    · cases h0
    · cases e
      exact f0.cellN (hc 0 _ rfl)
  have kL := fun (w1 : World) (f : Fr FN W0 w1) => ih y.1 y.2 ya yc (some ⟨wb, wo, none⟩) 0 T w1 (Nat.le_trans hT (f0.same f).size) (hyK.keep (f0.same f) (fun _ _ hb => hb)) hyb.1 hyb.2 (hwt.keep (f0.same f))
  generalize (liftS [] y.1 y.2).1 = X at *
  generalize (liftS [] y.1 y.2).2 = P at *
  have kLH : Hidden (∀ (w1 : World) (f : Fr FN W0 w1), Calls Try.prog 8 #[exV y.1 (.slice ya y.2.len yc), .slice (some ⟨wb, wo, none⟩) 0 0, ct zz] w1 (LfE T w1 X P)) := kL
  unfold LfE at kL
  obtain ⟨e0, _, _, _, _, _, _⟩ : W0.cell? ⟨w.heap.size, 6, none⟩ = some (.slice (some ⟨kb, ko, none⟩) k.len cap) ∧ True ∧ True ∧ True ∧ True ∧ True ∧ True := by
    obtain ⟨_, _, _, _, _, _, a6⟩ := ex_box hA
    exact ⟨a6, trivial, trivial, trivial, trivial, trivial, trivial⟩
  have t1 : ((k.len : Int) == 0) = false := by simp; omega
  have t4 : IntKind.i64.wrap ((k.len : Int) - 1) = ((k.len - 1 : Nat) : Int) := by rw [IntKind.wrap_i64]; omega
  have t5 : wrap64 ((k.len : Int) - 1) = ((k.len - 1 : Nat) : Int) := by unfold wrap64; omega
  have hkpH : Hidden (KpX w (fun b => T ≤ b) (some ⟨kb, ko, none⟩) cap k) := hkp
  clear hy hyK hwt hyb d0 d1 d2 d3 d4 d5 d6 f0 hW0 hw hkp hk
  go_enter Try.func8, Try.ntmps8
  go_upto_region 4 with fail
  rw [← (show W0 = _ from hW0H)]
  go_upto_region 6 with fail
  go_cut [9, 10] (fun p9 p10 wx => EndR T W0 X P p9 p10 wx)
  case first =>
    have hT0 : T ≤ W0.heap.size := by have : W0.heap.size = w.heap.size + 3 := hsz0; omega
    have m0 : W0.heap.size ≠ w.heap.size := World.new_ne W0 _ e0
    have m1 : W0.heap.size ≠ kb := World.new_ne W0 _ e1
    have m2 : W0.heap.size + 1 ≠ w.heap.size := by have : W0.heap.size = w.heap.size + 3 := hsz0; omega
    have m3 : W0.heap.size + 1 ≠ kb := by have : W0.heap.size = w.heap.size + 3 := hsz0; omega
    go_region_held3 (fun w' => w'.cell? ⟨w.heap.size, 6, none⟩ = some (.slice (some ⟨kb, ko, none⟩) k.len cap) ∧ w'.cell? ⟨kb, ko + (k.len - 1) * 7, none⟩ = some (ci y.1.kind) ∧ w'.cell? ⟨kb, ko + (k.len - 1) * 7 + 1, none⟩ = some (ci y.1.op) ∧ w'.cell? ⟨kb, ko + (k.len - 1) * 7 + 2, none⟩ = some (ct y.1.mod) ∧ w'.cell? ⟨kb, ko + (k.len - 1) * 7 + 3, none⟩ = some (ct y.1.name) ∧ w'.cell? ⟨kb, ko + (k.len - 1) * 7 + 4, none⟩ = some (ci y.1.vt) ∧ w'.cell? ⟨kb, ko + (k.len - 1) * 7 + 5, none⟩ = some (.int .u64 y.1.vb) ∧ w'.cell? ⟨kb, ko + (k.len - 1) * 7 + 6, none⟩ = some (.slice ya y.2.len yc)) (first | (refine ⟨by with_reducible assumption, by with_reducible assumption, by with_reducible assumption, by with_reducible assumption, by with_reducible assumption, by with_reducible assumption, by with_reducible assumption, by with_reducible assumption⟩) | go_keep) (first
      | (go_at_call 8; refine Calls.mono (kL (W0.drew) (Fr.drew FN W0)) ?_; rintro e w6 ⟨a1, c1, a2, c2, rfl, hx1, hp1, f6⟩; have g6 := (Fr.drew FN W0).same f6; have q0 := g6.cellN e0; have q1 := g6.cellN e1; have q2 := g6.cellN e2; have q3 := g6.cellN e3; have q4 := g6.cellN e4; have q5 := g6.cellN e5; have q6 := g6.cellN e6; have q7 := g6.cellN e7; have n0 : w6.heap.size ≠ w.heap.size := World.new_ne w6 _ q0; have n1 : w6.heap.size ≠ kb := World.new_ne w6 _ q1; have n2 : w6.heap.size + 1 ≠ w.heap.size := Nat.ne_of_gt (Nat.lt_succ_of_lt (cell_lt q0)); have n3 : w6.heap.size + 1 ≠ kb := Nat.ne_of_gt (Nat.lt_succ_of_lt (cell_lt q1)))
      | (go_at_call 8; refine Calls.mono (kL ((W0.alloc (exO ⟨0, 0, [], [], 0, 0⟩ (.slice none 0 0))).drew) ((Fr.alloc FN W0 (exO ⟨0, 0, [], [], 0, 0⟩ (.slice none 0 0))).same (Fr.drew FN _))) ?_; rintro e w6 ⟨a1, c1, a2, c2, rfl, hx1, hp1, f6⟩; have g6 := ((Fr.alloc FN W0 (exO ⟨0, 0, [], [], 0, 0⟩ (.slice none 0 0))).same (Fr.drew FN _)).same f6; have q0 := g6.cellN e0; have q1 := g6.cellN e1; have q2 := g6.cellN e2; have q3 := g6.cellN e3; have q4 := g6.cellN e4; have q5 := g6.cellN e5; have q6 := g6.cellN e6; have q7 := g6.cellN e7; have hz : w6.heap[W0.heap.size]? = some (exO ⟨0, 0, [], [], 0, 0⟩ (.slice none 0 0)) := f6.heap (alloc_new W0 _) (fun f => f); obtain ⟨z0, z1, z2, z3, z4, z5, z6⟩ := ex_box hz; have y0 := frozen_row hz 0; have y1 := frozen_row hz 1; have y2 := frozen_row hz 2; have y3 := frozen_row hz 3; have y4 := frozen_row hz 4; have y5 := frozen_row hz 5; have y6 := frozen_row hz 6; have n0 : w6.heap.size ≠ w.heap.size := World.new_ne w6 _ q0; have n1 : w6.heap.size ≠ kb := World.new_ne w6 _ q1; have n2 : w6.heap.size ≠ W0.heap.size := World.new_ne w6 _ z0; have hzo : ∀ o : Obj, (w6.alloc o).heap[W0.heap.size]? = some (exO ⟨0, 0, [], [], 0, 0⟩ (.slice none 0 0)) := fun o => (Fr.alloc FN w6 o).heap hz (fun f => f); have C0 := fun o : Obj => cell_of_row (w6.alloc o) _ 0 _ _ _ (hzo o); have Q0 := fun o : Obj => frozen_row (hzo o) 0; have C1 := fun o : Obj => cell_of_row (w6.alloc o) _ 1 _ _ _ (hzo o); have Q1 := fun o : Obj => frozen_row (hzo o) 1; have C2 := fun o : Obj => cell_of_row (w6.alloc o) _ 2 _ _ _ (hzo o); have Q2 := fun o : Obj => frozen_row (hzo o) 2; have C3 := fun o : Obj => cell_of_row (w6.alloc o) _ 3 _ _ _ (hzo o); have Q3 := fun o : Obj => frozen_row (hzo o) 3; have C4 := fun o : Obj => cell_of_row (w6.alloc o) _ 4 _ _ _ (hzo o); have Q4 := fun o : Obj => frozen_row (hzo o) 4; have C5 := fun o : Obj => cell_of_row (w6.alloc o) _ 5 _ _ _ (hzo o); have Q5 := fun o : Obj => frozen_row (hzo o) 5; have C6 := fun o : Obj => cell_of_row (w6.alloc o) _ 6 _ _ _ (hzo o); have Q6 := fun o : Obj => frozen_row (hzo o) 6; clear hzo)
      | (go_at_call 8; refine Calls.mono (kL (((W0.alloc (exO ⟨0, 0, [], [], 0, 0⟩ (.slice none 0 0))).alloc (exO ⟨0, 0, [], [], 0, 0⟩ (.slice none 0 0))).drew) (((Fr.alloc FN W0 (exO ⟨0, 0, [], [], 0, 0⟩ (.slice none 0 0))).same (Fr.alloc FN _ (exO ⟨0, 0, [], [], 0, 0⟩ (.slice none 0 0)))).same (Fr.drew FN _))) ?_; rintro e w6 ⟨a1, c1, a2, c2, rfl, hx1, hp1, f6⟩; have g6 := (((Fr.alloc FN W0 (exO ⟨0, 0, [], [], 0, 0⟩ (.slice none 0 0))).same (Fr.alloc FN _ (exO ⟨0, 0, [], [], 0, 0⟩ (.slice none 0 0)))).same (Fr.drew FN _)).same f6; have q0 := g6.cellN e0; have q1 := g6.cellN e1; have q2 := g6.cellN e2; have q3 := g6.cellN e3; have q4 := g6.cellN e4; have q5 := g6.cellN e5; have q6 := g6.cellN e6; have q7 := g6.cellN e7; have hz : w6.heap[W0.heap.size]? = some (exO ⟨0, 0, [], [], 0, 0⟩ (.slice none 0 0)) := f6.heap ((alloc_old _ _ _ (by simp)).trans (alloc_new W0 _)) (fun f => f); obtain ⟨z0, z1, z2, z3, z4, z5, z6⟩ := ex_box hz; have y0 := frozen_row hz 0; have y1 := frozen_row hz 1; have y2 := frozen_row hz 2; have y3 := frozen_row hz 3; have y4 := frozen_row hz 4; have y5 := frozen_row hz 5; have y6 := frozen_row hz 6; have hZ : w6.heap[W0.heap.size + 1]? = some (exO ⟨0, 0, [], [], 0, 0⟩ (.slice none 0 0)) := f6.heap (alloc_at (W0.alloc (exO ⟨0, 0, [], [], 0, 0⟩ (.slice none 0 0))) _ _ (by simp)) (fun f => f); obtain ⟨Z0, Z1, Z2, Z3, Z4, Z5, Z6⟩ := ex_box hZ; have Y0 := frozen_row hZ 0; have Y1 := frozen_row hZ 1; have Y2 := frozen_row hZ 2; have Y3 := frozen_row hZ 3; have Y4 := frozen_row hZ 4; have Y5 := frozen_row hZ 5; have Y6 := frozen_row hZ 6)
      )
    all_goals go_wp2_with fail
    all_goals go_meet
    · exact end_1 g6 (by simp) hx1 hp1
    · exact end_2 g6 (by simp) hx1 hp1
    · exact end_s (wx := sev (sev (w6.alloc zE) W0.heap.size X.1 (.slice a1 X.2.len c1)) w6.heap.size P.1 (.slice a2 P.2.len c2)) (S := fun b => b = W0.heap.size ∨ b = w6.heap.size)
        ((((Fr.alloc (fun b => b = W0.heap.size ∨ b = w6.heap.size) w6 zE).same ((sev_fr _ W0.heap.size _ _).mono (fun b _ e => Or.inl e)))).same ((sev_fr _ w6.heap.size _ _).mono (fun b _ e => Or.inr e))) (fun b hb => by have := g6.size; simp at *; omega)
        ((sev_fr _ w6.heap.size _ _).heap (sev_same ((Fr.alloc FN w6 zE).heap hz (fun f => f)) _ _) (fun e => n2 e.symm)) (sev_same ((sev_fr _ W0.heap.size _ _).heap (alloc_new w6 zE) (fun e => n2 e)) _ _) (Nat.le_refl _) g6.size (fun e => n2 e.symm) g6 (by simp) hx1 hp1 hT0
    · exact end_s (wx := sev (sev w6 W0.heap.size X.1 (.slice a1 X.2.len c1)) (W0.heap.size + 1) P.1 (.slice a2 P.2.len c2)) (S := fun b => b = W0.heap.size ∨ b = W0.heap.size + 1)
        (((sev_fr w6 W0.heap.size _ _).mono (fun b _ e => Or.inl e)).same ((sev_fr _ (W0.heap.size + 1) _ _).mono (fun b _ e => Or.inr e))) (fun b hb => by simp at *; omega)
        ((sev_fr _ (W0.heap.size + 1) _ _).heap (sev_same hz _ _) (fun e => by omega)) (sev_same ((sev_fr _ W0.heap.size _ _).heap hZ (fun e => by omega)) _ _) (Nat.le_refl _) (Nat.le_succ _) (by omega) g6 (by simp; omega) hx1 hp1 hT0
    · exact end_s (wx := sev (w6.alloc (exO X.1 (.slice a1 X.2.len c1))) W0.heap.size P.1 (.slice a2 P.2.len c2)) (S := fun b => b = W0.heap.size)
        ((Fr.alloc (fun b => b = W0.heap.size) w6 _).same (sev_fr _ W0.heap.size _ _)) (fun b hb => by simp at *; omega)
        ((sev_fr _ W0.heap.size _ _).heap (alloc_new w6 _) (fun e => n2 e)) (sev_same ((Fr.alloc FN w6 _).heap hz (fun f => f)) _ _) g6.size (Nat.le_refl _) n2 g6 (by simp) hx1 hp1 hT0
    · exact end_s (wx := sev (sev w6 (W0.heap.size + 1) X.1 (.slice a1 X.2.len c1)) W0.heap.size P.1 (.slice a2 P.2.len c2)) (S := fun b => b = W0.heap.size ∨ b = W0.heap.size + 1)
        (((sev_fr w6 (W0.heap.size + 1) _ _).mono (fun b _ e => Or.inr e)).same ((sev_fr _ W0.heap.size _ _).mono (fun b _ e => Or.inl e))) (fun b hb => by simp at *; omega)
        ((sev_fr _ W0.heap.size _ _).heap (sev_same hZ _ _) (fun e => by omega)) (sev_same ((sev_fr _ (W0.heap.size + 1) _ _).heap hz (fun e => by omega)) _ _) (Nat.le_succ _) (Nat.le_refl _) (by omega) g6 (by simp; omega) hx1 hp1 hT0
  case rest =>
  obtain ⟨g9, g10, a1, c1, a2, c2, rfl, rfl, h9, h10, kx, kp, b9, b10, hne, f6⟩ := hcut
  have hsz : W0.heap.size = w.heap.size + 3 := hsz0
  have f0 : Fr FN w W0 := f0H
  have hkp : KpX w (fun b => T ≤ b) (some ⟨kb, ko, none⟩) cap k := hkpH
  have q3 : wc.heap[w.heap.size]? = some (exO h (.slice (some ⟨kb, ko, none⟩) k.len cap)) := f6.heap hA (fun f => f)
  obtain ⟨r0, r1, r2, r3, r4, r5, r6⟩ := ex_box q3
  obtain ⟨cs, hch, hcc, hco⟩ := chunks_rp (fun ao c y => KpX w (fun b => T ≤ b) ao c y) w kb (toL k) ko (fun j y hy => by
    rw [toL_get] at hy
    obtain ⟨ya, yc, hyK, d0, d1, d2, d3, d4, d5, d6⟩ := hkp.kid hy
    exact ⟨ya, yc, hyK, sev_of d0 d1 d2 d3 d4 d5 d6⟩)
  have hszc : Hidden (W0.heap.size ≤ wc.heap.size) := f6.size
  obtain ⟨W7, hW7⟩ : ∃ W, W = (wc.alloc (exO h (.slice (some ⟨kb, ko, none⟩) k.len cap))).alloc (.cells #[] 27) := ⟨_, rfl⟩
  have f7 : Fr FN wc W7 := by rw [hW7]; exact (Fr.alloc _ _ _).same (Fr.alloc _ _ _)
  have hN : W7.heap[wc.heap.size + 1]? = some (.cells #[] 27 (0, 0)) := by rw [hW7]; exact alloc_at _ _ _ (by simp)
  have hM : Hidden (W7.heap[wc.heap.size]? = some (exO h (.slice (some ⟨kb, ko, none⟩) k.len cap))) := by rw [hW7]; exact (alloc_old _ _ _ (by simp)).trans (alloc_new _ _)
  have hs7 : Hidden (W7.heap.size = wc.heap.size + 2) := by rw [hW7]; simp [Hidden]
  have hrN : Hidden (Rw.Row (RP (fun ao c y => KpX w (fun b => T ≤ b) ao c y)) 27 7 W7 (wc.heap.size + 1) (.slice (some ⟨wc.heap.size + 1, 0, none⟩) 0 0) []) := Rw.Row.new _ _ 7 W7 _ _ (Nat.le_refl _) hN
  have fw7 : Hidden (Fr FN w W7) := (f0.same f6).same f7
  have hcc7 : Hidden (∀ (j : Nat) (u : Value), cs[j]? = some u → W7.cell? (Addr.add ⟨kb, ko, none⟩ j) = some u) := fun j u hu => by
    rw [Addr.add_lit]
    exact ((f0.same f6).same f7).cellN (hcc j u hu)
  have hW7H : Hidden (W7 = _) := hW7
  have r6b := ((Fr.alloc FN wc (exO h (.slice (some ⟨kb, ko, none⟩) k.len cap))).same (Fr.alloc FN _ (.cells #[] 27))).cellN r6
  have h9H : Hidden (wc.heap[g9]? = _) := h9
  have h10H : Hidden (wc.heap[g10]? = _) := h10
  have hlen : (toL k).length = k.len := toL_len k
  have hcl : Hidden (cs.length = k.len * 7) := by have := hch.len; rw [hlen] at this; exact this
  have hchH : Hidden (Rw.Chunks (RP (fun ao c y => KpX w (fun b => T ≤ b) ao c y)) 7 (toL k) cs) := hch
  have hsH : Hidden (k.len * 88 ≤ 140737488351232) := hs
  have kxH : Hidden (KpX wc (fun b => T ≤ b ∧ b < W0.heap.size) a1 c1 X.2) := kx
  have kpH : Hidden (KpX wc (fun b => T ≤ b ∧ b < W0.heap.size) a2 c2 P.2) := kp
  have f6H : Hidden (Fr FN W0 wc) := f6
  have f7H : Hidden (Fr FN wc W7) := f7
  have b9H : Hidden (W0.heap.size ≤ g9) := b9
  have b10H : Hidden (W0.heap.size ≤ g10) := b10
  have l9 : Hidden (g9 < wc.heap.size) := block_lt h9
  have l10 : Hidden (g10 < wc.heap.size) := block_lt h10
  have hneH : Hidden (g9 ≠ g10) := hne
  have hTH : Hidden (T ≤ w.heap.size) := hT
  clear hN hW7 hch hcc f6 f7 h9 h10 hkp hkpH kL kLH e0 e1 e2 e3 e4 e5 e6 e7 wcell kx kp b9 b10 hne hsz f0 q3 hlen hs hbd hT hkb
  go_upto_region 9 with (at_builtin; rw [← (show W7 = _ from hW7H)]; obtain ⟨cells, hr1, hr2⟩ := (show Rw.Row _ _ _ _ _ _ _ from hrN); refine wpl_append rfl _ _ 25 27 _ 7 88 Try.underlying25 info_ex3 rfl (by decide) rfl (wc.heap.size + 1) _ 0 [] ⟨kb, ko, none⟩ k.len cap cs rfl (by obtain rfl : cells = [] := hr2; exact hr1) rfl hcl hcc7 hco ?_ ?_ ?_ ?_; (focus (have : k.len * 88 ≤ 140737488351232 := hsH; unfold maxLen; omega)); (focus (have : k.len * 88 ≤ 140737488351232 := hsH; omega)); (focus (have : W7.heap.size = wc.heap.size + 2 := hs7; omega)); intro v8 w8 hr8 f8 hown8; rw [Nat.zero_add, List.nil_append] at hr8; (rcases hr8.2 with hz8 | ⟨gR, cap8, cur, hv8, hbR, hgR, hnc, hcm, hcs, htk⟩; (exact absurd hz8.2 (by omega))); subst hv8; have hgRH : Hidden (w8.heap[gR]? = some (.cells cur 27 (0, 0))) := hgR; have htkH : Hidden (cur.toList.take (k.len * 7) = cs) := htk; have f8H : Hidden (Fr (fun b => (Value.slice (some ⟨wc.heap.size + 1, 0, none⟩) 0 0).ownBlock = some b) W7 w8) := f8; have hbRH : Hidden (wc.heap.size + 1 ≤ gR) := hbR; have hM8 : Hidden (w8.heap[wc.heap.size]? = some (exO h (.slice (some ⟨kb, ko, none⟩) k.len cap))) := f8.heap hM (fun e => by have e : some (wc.heap.size + 1) = some wc.heap.size := e; simp at e); have m6 := cell_of_row w8 _ 6 _ _ _ hM8; have m6f := frozen_row hM8 6; have hnc2 : Hidden (k.len ≤ cap8) := hnc; have hcm2 : Hidden (cap8 ≤ maxLen) := hcm; clear hr8 hgR htk f8 hown8 hbR hcs hM hrN hcc7 hco r0 r1 r2 r3 r4 r5 r6 hW7H hnc hcm)
  have hszc2 : W0.heap.size ≤ wc.heap.size := hszc
  have hsz : W0.heap.size = w.heap.size + 3 := hsz0
  have hne2 : g9 ≠ g10 := hneH
  have hl9 : g9 < wc.heap.size := l9
  have hl10 : g10 < wc.heap.size := l10
  have hb9 : W0.heap.size ≤ g9 := b9H
  have hb10 : W0.heap.size ≤ g10 := b10H
  have hbR2 : wc.heap.size + 1 ≤ gR := hbRH
  have hT2 : T ≤ w.heap.size := hTH
  have hfR : Fr FN w W7 := fw7
  have hf8 : Fr (fun b => b = wc.heap.size + 1) W7 w8 := (show Fr (fun b => (Value.slice (some ⟨wc.heap.size + 1, 0, none⟩) 0 0).ownBlock = some b) W7 w8 from f8H).mono (fun b _ e => by have e : some (wc.heap.size + 1) = some b := e; injection e with e; exact e.symm)
  obtain ⟨w9, hw9⟩ : ∃ w9, w9 = w8.setCell ⟨wc.heap.size, 6, none⟩ (.slice (some ⟨gR, 0, none⟩) k.len cap8) := ⟨_, rfl⟩
  have f9 : Fr (fun b => b = wc.heap.size) w8 w9 := by rw [hw9]; exact Fr.setCell w8 ⟨wc.heap.size, 6, none⟩ _
  have hM9 : Hidden (w9.heap[wc.heap.size]? = some (exO h (.slice (some ⟨gR, 0, none⟩) k.len cap8))) := by rw [hw9]; exact heap_setCell_same _ _ 6 _ _ _ hM8
  rw [← hw9]
  have up9 : ∀ {g : Nat} {o : Obj}, g < wc.heap.size → wc.heap[g]? = some o → w9.heap[g]? = some o := fun hg hh => f9.heap (hf8.heap ((show Fr FN wc W7 from f7H).heap hh (fun f => f)) (by omega)) (by omega)
  have hX9 := up9 hl9 h9H
  have hP9 : Hidden (w9.heap[g10]? = _) := up9 hl10 h10H
  have hB9 : Hidden (w9.heap[w.heap.size + 1]? = some zE) := up9 (by omega) ((show Fr FN W0 wc from f6H).heap hB (fun f => f))
  have hC9 : Hidden (w9.heap[w.heap.size + 2]? = some zE) := up9 (by omega) ((show Fr FN W0 wc from f6H).heap hC (fun f => f))
  have hR9 : w9.heap[gR]? = some (.cells cur 27 (0, 0)) := f9.heap hgRH (by omega)
  have fw9 : Hidden (Fr FN w w9) := (hfR.over hf8 (fun b e => by omega)).over f9 (fun b e => by omega)
  have fc9 : Hidden (Fr (fun b => T ≤ b ∧ b < w.heap.size + 3) wc w9) := ((show Fr FN wc W7 from f7H).over hf8 (fun b e => by omega)).over f9 (fun b e => by omega) |>.mono (fun _ _ f => f.elim)
  obtain ⟨x0, x1, x2, x3, x4, x5, x6⟩ := ex_box hX9
  have hrow : Hidden (∀ (j : Nat) (y : EH × Exs), getX k j = some y → ∃ ao c, KpX w (fun b => T ≤ b) ao c y.2 ∧ Sev w9 gR (j * 7) y.1 (.slice ao y.2.len c)) := fun j y hy => by
    obtain ⟨c, ⟨ao, cp, hK, rfl⟩, h7, hcell⟩ := (show Rw.Chunks _ 7 (toL k) cs from hchH).get (i := j) (x := y) (by rw [toL_get]; exact hy)
    refine ⟨ao, cp, hK, fun m u hm => ?_⟩
    have h6 := hcell m u hm
    rw [cell_of_row w9 gR _ cur _ (0, 0) hR9]
    rw [← (show cur.toList.take (k.len * 7) = cs from htkH), List.getElem?_take] at h6
    split at h6
    · simpa using h6
    · cases h6
  obtain ⟨y0, hy0⟩ := getX_some k (k.len - 1) hlt
  obtain ⟨ao0, cp0, _, hs0⟩ := (show ∀ (j : Nat) (y : EH × Exs), getX k j = some y → _ from hrow) (k.len - 1) y0 hy0
  obtain ⟨z0, z1, z2, z3, z4, z5, z6⟩ := hs0.all
  skip
  have n0 := frozen_row hR9 ((k.len - 1) * 7)
  have n1 := frozen_row hR9 ((k.len - 1) * 7 + 1)
  have n2 := frozen_row hR9 ((k.len - 1) * 7 + 2)
  have n3 := frozen_row hR9 ((k.len - 1) * 7 + 3)
  have n4 := frozen_row hR9 ((k.len - 1) * 7 + 4)
  have n5 := frozen_row hR9 ((k.len - 1) * 7 + 5)
  have n6 := frozen_row hR9 ((k.len - 1) * 7 + 6)
  have b6 := cell_of_row w9 _ 6 _ _ _ hM9
  have hR9H : Hidden (w9.heap[gR]? = some (.cells cur 27 (0, 0))) := hR9
  have hlt2 : (((k.len - 1) : Nat) : Int) < (k.len : Int) := by omega
  have hw9H : Hidden (w9 = _) := hw9
  have hcap8 : cap8 ≤ 9223372036854775807 := by have : cap8 ≤ maxLen := hcm2; unfold maxLen at this; omega
  have hcl8 : k.len ≤ cap8 := hnc2
  clear hw9 hf8 f9 up9 hX9 hR9 hs0 hy0 hfR m6 m6f hne2 hl9 hl10 hb9 hb10 hT2 hM8
  go_upto_region 10 with fail
  change Code.wp _ _ _ _ (setRow w9 gR ((k.len - 1) * 7) (exC X.1 (.slice a1 X.2.len c1)))
  have hneP : g10 ≠ gR := by have : g10 < wc.heap.size := l10; omega
  have f10 : Fr (fun b => b = gR) w9 (setRow w9 gR ((k.len - 1) * 7) (exC X.1 (.slice a1 X.2.len c1))) := setRow_fr gR _ w9 _
  have hrs : Hidden (∀ p, (setRow w9 gR ((k.len - 1) * 7) (exC X.1 (.slice a1 X.2.len c1))).cell? ⟨gR, p, none⟩ = (setRow w9 gR ((k.len - 1) * 7) (exC X.1 (.slice a1 X.2.len c1))).cell? ⟨gR, p, none⟩) := fun _ => rfl
  obtain ⟨w10, hw10⟩ : ∃ w10, w10 = setRow w9 gR ((k.len - 1) * 7) (exC X.1 (.slice a1 X.2.len c1)) := ⟨_, rfl⟩
  rw [← hw10] at f10 ⊢
  have hw10H : Hidden (w10 = _) := hw10
  have k11 : w10.heap[wc.heap.size]? = some (exO h (.slice (some ⟨gR, 0, none⟩) k.len cap8)) := f10.heap hM9 (by omega)
  have k10 : w10.heap[g10]? = some (exO P.1 (.slice a2 P.2.len c2)) := f10.heap hP9 hneP
  have k1 : w10.heap[w.heap.size + 1]? = some zE := f10.heap hB9 (by omega)
  have k2 : w10.heap[w.heap.size + 1 + 1]? = some zE := f10.heap hC9 (by omega)
  have k2s : (sev w10 (w.heap.size + 1) h (.slice (some ⟨gR, 0, none⟩) k.len cap8)).heap[w.heap.size + 1 + 1]? = some zE := (sev_fr w10 _ h _).heap k2 (by omega)
  obtain ⟨p0, p1, p2, p3, p4, p5, p6⟩ := ex_box k11
  obtain ⟨q0, q1, q2, q3, q4, q5, q6⟩ := ex_box k10
  obtain ⟨r0, r1, r2, r3, r4, r5, r6⟩ := ex_box k1
  obtain ⟨t0, t1', t2', t3', t4', t5', t6'⟩ := ex_box k2s
  have i0 := frozen_row k1 0
  have i1 := frozen_row k1 1
  have i2 := frozen_row k1 2
  have i3 := frozen_row k1 3
  have i4 := frozen_row k1 4
  have i5 := frozen_row k1 5
  have i6 := frozen_row k1 6
  have j0 := frozen_row k2s 0
  have j1 := frozen_row k2s 1
  have j2 := frozen_row k2s 2
  have j3 := frozen_row k2s 3
  have j4 := frozen_row k2s 4
  have j5 := frozen_row k2s 5
  have j6 := frozen_row k2s 6
  unfold sev at t0 t1' t2' t3' t4' t5' t6' j0 j1 j2 j3 j4 j5 j6
  have e1 : w.heap.size + 1 ≠ wc.heap.size := by omega
  have e2 : w.heap.size + 1 ≠ g10 := by have : W0.heap.size ≤ g10 := b10H; omega
  have e3 : w.heap.size + 1 + 1 ≠ wc.heap.size := by omega
  have e4 : w.heap.size + 1 + 1 ≠ g10 := by have : W0.heap.size ≤ g10 := b10H; omega
  obtain ⟨wE, hwE⟩ : ∃ wE, wE = sev (sev w10 (w.heap.size + 1) h (.slice (some ⟨gR, 0, none⟩) k.len cap8)) (w.heap.size + 1 + 1) P.1 (.slice a2 P.2.len c2) := ⟨_, rfl⟩
  have fF : Fr (fun b => b = w.heap.size + 1 ∨ b = w.heap.size + 1 + 1) w10 wE := by rw [hwE]; exact ((sev_fr w10 _ h _).mono (fun b _ e => Or.inl e)).same ((sev_fr _ _ P.1 _).mono (fun b _ e => Or.inr e))
  have hF1 : Hidden (wE.heap[w.heap.size + 1]? = some (exO h (.slice (some ⟨gR, 0, none⟩) k.len cap8))) := by rw [hwE]; exact (sev_fr _ _ P.1 _).heap (sev_same k1 _ _) (by omega)
  have hF2 : Hidden (wE.heap[w.heap.size + 1 + 1]? = some (exO P.1 (.slice a2 P.2.len c2))) := by rw [hwE]; exact sev_same k2s _ _
  have hL : Hidden (LfE T w (h, setX k (k.len - 1) X) P (.returned (.tuple #[exV h (.slice (some ⟨gR, 0, none⟩) k.len cap8), exV P.1 (.slice a2 P.2.len c2)])) wE) := by
    have hT2 : T ≤ w.heap.size := hTH
    have fw : Fr FN w w10 := (show Fr FN w w9 from fw9).over f10 (fun b e => by omega)
    have fc : Fr (fun b => T ≤ b ∧ b < w.heap.size + 3) wc w10 := (show Fr (fun b => T ≤ b ∧ b < w.heap.size + 3) wc w9 from fc9).over f10 (fun b e => by omega)
    have fwF := fw.over fF (fun b e => by omega)
    have fcF := fc.same (fF.mono (fun b _ e => ⟨by omega, by omega⟩))
    have kx : KpX wc (fun b => T ≤ b ∧ b < w.heap.size + 3) a1 c1 X.2 := by have := (show KpX wc (fun b => T ≤ b ∧ b < W0.heap.size) a1 c1 X.2 from kxH); rw [hsz] at this; exact this
    have kp : KpX wc (fun b => T ≤ b ∧ b < w.heap.size + 3) a2 c2 P.2 := by have := (show KpX wc (fun b => T ≤ b ∧ b < W0.heap.size) a2 c2 P.2 from kpH); rw [hsz] at this; exact this
    refine ⟨some ⟨gR, 0, none⟩, cap8, a2, c2, by rw [setX_len], ?_, fun w'' g => kp w'' (fcF.trans g (fun b _ hb => ⟨hb.1, by omega⟩)), fwF⟩
    refine kids_set (w := w) (wc := wc) (w8 := w9) (i := (k.len - 1)) (a1 := a1) (c1 := c1) hnc2 hcm2 (by omega) hlt hrow kx fwF fcF (fun p => ?_)
    rw [← (show w10 = _ from hw10H)]
    have hfr := fF
    exact World.cell?_of_block (a := ⟨gR, p, none⟩) (hfr.block gR (Nat.lt_of_lt_of_le (block_lt (show w9.heap[gR]? = _ from hR9H)) f10.size) (by omega))
  have hwEH : Hidden (wE = _) := hwE
  clear hwE hw10 f10 k11 k10 k1 k2 k2s fF hrs x0 x1 x2 x3 x4 x5 x6 z0 z1 z2 z3 z4 z5 z6 n0 n1 n2 n3 n4 n5 n6 b6 r6b
  go_region_held3 (fun w' => w'.cell? ⟨wc.heap.size, 0, none⟩ = some (ci h.kind) ∧ w'.cell? ⟨wc.heap.size, 1, none⟩ = some (ci h.op) ∧ w'.cell? ⟨wc.heap.size, 2, none⟩ = some (ct h.mod) ∧ w'.cell? ⟨wc.heap.size, 3, none⟩ = some (ct h.name) ∧ w'.cell? ⟨wc.heap.size, 4, none⟩ = some (ci h.vt) ∧ w'.cell? ⟨wc.heap.size, 5, none⟩ = some (.int .u64 h.vb) ∧ w'.cell? ⟨wc.heap.size, 6, none⟩ = some (.slice (some ⟨gR, 0, none⟩) k.len cap8) ∧
    w'.cell? ⟨g10, 0, none⟩ = some (ci P.1.kind) ∧ w'.cell? ⟨g10, 1, none⟩ = some (ci P.1.op) ∧ w'.cell? ⟨g10, 2, none⟩ = some (ct P.1.mod) ∧ w'.cell? ⟨g10, 3, none⟩ = some (ct P.1.name) ∧ w'.cell? ⟨g10, 4, none⟩ = some (ci P.1.vt) ∧ w'.cell? ⟨g10, 5, none⟩ = some (.int .u64 P.1.vb) ∧ w'.cell? ⟨g10, 6, none⟩ = some (.slice a2 P.2.len c2)) (go_keep) (fail)
  all_goals go_wp2_with fail
  all_goals rw [show wE = _ from hwEH] at hF1 hF2 hL
  all_goals exact post_xxd (h := h) (v := .slice (some ⟨gR, 0, none⟩) k.len cap8) (h2 := P.1) (v2 := .slice a2 P.2.len c2) hF1 hF2 rfl rfl rfl rfl hL
end Go.Proofs.Ytbmaaaeipcopcaa.Fo
