/- What an expression comes to: the program. -/
import Derived.Test.YtpjahcncknccdaaGreatFoD
import Derived.Deep.RegionHeld3
namespace Go.Proofs.YtpjahcncknccdaaGreat.Fo
open Go.RowKit Te
set_option linter.unusedSimpArgs false
set_option linter.unusedVariables false

abbrev FN : Nat → Prop := fun _ => False
theorem dead {P : Program} {f : FuncId} {args : Array Value} {w : World} {Q : Ending → World → Prop} (h : Calls P f args w Q) (v : Value) : Calls P f args w fun e w' => Q e w' ∨ (Hidden False ∧ e = .returned v) := h.mono fun _ _ q => Or.inl q
theorem dead2 {P : Program} {f : FuncId} {args : Array Value} {w : World} (h : Hidden False) (v : Value) : Calls P f args w fun e w' => e = .returned v := (show False from h).elim
theorem fin_ok (v : Vl) : (Ev.ok v).fin = .returned (vv v) := rfl
theorem fin_flt (c : Int) : (Ev.flt c).fin = .panicked [{ v := .iface 180 (.agg #[.int .i64 c]), recovered := false }] := rfl
theorem fin_trp (t : Int) : (Ev.trp t).fin = .panicked [{ v := .iface 177 (.agg #[.int .i64 t]), recovered := false }] := rfl
theorem trapEv_0 (v : Vl) : trapEv (v, 0) = .ok v := rfl
theorem trapEv_ne (v : Vl) {t : Int} (h : t ≠ 0) : trapEv (v, t) = .trp t := by simp [trapEv, h]
set_option maxRecDepth 20000 in
set_option maxHeartbeats 4000000 in
theorem ofTwo_any (op : Int) (hl hr : EH) (vl vr lv : Value) (L R : Ev) (w : World)
    (kl : ∀ w', Fr FN w w' → Calls Tryz.prog 114 #[exV hl vl, lv] w' fun e w'' => e = L.fin ∧ Fr FN w' w'')
    (kr : ∀ w', Fr FN w w' → Calls Tryz.prog 114 #[exV hr vr, lv] w' fun e w'' => e = R.fin ∧ Fr FN w' w'')
    (hL : ∀ v, L = .ok v → U64 v.2) (hR : ∀ v, R = .ok v → U64 v.2) :
    Calls Tryz.prog 139 #[ci op, exV hl vl, exV hr vr, lv] w fun e w' => e = (twoF op L R).fin ∧ Fr FN w w' := by
  have f0 : Fr FN w (((w.alloc (exO hl vl)).alloc (exO hr vr)).alloc zo) := ((Fr.alloc _ _ _).same (Fr.alloc _ _ _)).same (Fr.alloc _ _ _)
  have hB : Hidden ((((w.alloc (exO hl vl)).alloc (exO hr vr)).alloc zo).heap[w.heap.size + 1]? = some (exO hr vr)) := (alloc_old _ _ _ (by simp)).trans (alloc_at _ _ _ (by simp))
  have hC : Hidden ((((w.alloc (exO hl vl)).alloc (exO hr vr)).alloc zo).heap[w.heap.size + 2]? = some zo) := alloc_at _ _ _ (by simp)
  have k1 := kl _ f0
  clear kl
  rcases L with v | c | c
  rotate_left
  · rw [show twoF op (.flt c) R = .flt c from rfl, fin_flt]
    rw [fin_flt] at k1
    clear kr hL hR
    go_enter Tryz.func139, Tryz.ntmps139
    go_wp2_with fail
    go_at_call 114
    refine k1.mono ?_
    rintro e w1 ⟨rfl, f1⟩
    go_wp2_with fail
    exact ⟨rfl, rfl, f0.same f1⟩
  · rw [show twoF op (.trp c) R = .trp c from rfl, fin_trp]
    rw [fin_trp] at k1
    clear kr hL hR
    go_enter Tryz.func139, Tryz.ntmps139
    go_wp2_with fail
    go_at_call 114
    refine k1.mono ?_
    rintro e w1 ⟨rfl, f1⟩
    go_wp2_with fail
    exact ⟨rfl, rfl, f0.same f1⟩
  obtain ⟨t, b⟩ := v
  have hb := hL _ rfl
  dsimp only at hb
  rw [fin_ok] at k1
  dsimp only [vv] at k1
  have hdec : twoF op (.ok (t, b)) R = match decF op (t, b) with
    | none => .flt 22
    | some true => .ok (t, b)
    | some false => R.bd fun u => trapEv (binF op (t, b) u) := rfl
  clear hL
  rcases hd : decF op (t, b) with _ | d
  · rw [hd] at hdec
    dsimp only at hdec
    rw [hdec, fin_flt]
    have kd := decides_no op t b hd
    rw [fin_flt] at kd
    dsimp only [vv] at kd
    clear kr hR hb hdec hd
    go_enter Tryz.func139, Tryz.ntmps139
    go_wp2_with fail
    go_at_call 114
    refine k1.mono ?_
    rintro e w1 ⟨rfl, f1⟩
    go_wp2_with fail
    go_at_call 158
    refine (kd _).mono ?_
    rintro e w2 ⟨rfl, f2⟩
    go_wp2_with fail
    exact ⟨rfl, rfl, (f0.same f1).same ((Fr.alloc _ _ _).same f2)⟩
  have kd := decides_yes op t b d hd
  dsimp only [vv] at kd
  rw [hd] at hdec
  cases d
  rotate_left
  · dsimp only at hdec
    rw [hdec, fin_ok]
    dsimp only [vv]
    clear kr hR hb hdec hd
    go_enter Tryz.func139, Tryz.ntmps139
    go_wp2_with fail
    go_at_call 114
    refine k1.mono ?_
    rintro e w1 ⟨rfl, f1⟩
    have hD : Hidden ((w1.alloc (zb (ci t) (.int .u64 b))).heap[w1.heap.size]? = some (zb (ci t) (.int .u64 b))) := alloc_new _ _
    have fa := Fr.alloc FN w1 (zb (ci t) (.int .u64 b))
    go_wp2_with fail
    go_at_call 158
    refine (kd _).mono ?_
    rintro e w2 ⟨rfl, f2⟩
    obtain ⟨d0, d1, _, _⟩ := box2 (f2.heap hD (fun f => f))
    have qc := (f1.same (fa.same f2)).heap hC (fun f => f)
    obtain ⟨c0, c1, z0, z1⟩ := box2 qc
    go_wp2_with fail
    exact post_v1 (set_two qc _ _) rfl rfl rfl ⟨rfl, fr_two (f0.same (f1.same (fa.same f2))) (by omega) _ _⟩
  dsimp only at hdec
  rw [hdec]
  clear hdec hd
  rcases R with u | c | c
  rotate_left
  · rw [show (Ev.flt c).bd (fun u => trapEv (binF op (t, b) u)) = .flt c from rfl, fin_flt]
    rw [fin_flt] at kr
    clear hR hb
    go_enter Tryz.func139, Tryz.ntmps139
    go_wp2_with fail
    go_at_call 114
    refine k1.mono ?_
    rintro e w1 ⟨rfl, f1⟩
    have hD : Hidden ((w1.alloc (zb (ci t) (.int .u64 b))).heap[w1.heap.size]? = some (zb (ci t) (.int .u64 b))) := alloc_new _ _
    have fa := Fr.alloc FN w1 (zb (ci t) (.int .u64 b))
    go_wp2_with fail
    go_at_call 158
    refine (kd _).mono ?_
    rintro e w2 ⟨rfl, f2⟩
    have qd : Hidden (w2.heap[w1.heap.size]? = some (zb (ci t) (.int .u64 b))) := f2.heap hD (fun f => f)
    have g2 : Fr FN (((w.alloc (exO hl vl)).alloc (exO hr vr)).alloc zo) w2 := f1.same (fa.same f2)
    have qb : Hidden (w2.heap[w.heap.size + 1]? = some (exO hr vr)) := g2.heap hB (fun f => f)
    have qc : Hidden (w2.heap[w.heap.size + 2]? = some zo) := g2.heap hC (fun f => f)
    have fw : Hidden (Fr FN w w2) := f0.same g2
    have hsz : w.heap.size + 2 < w1.heap.size := lt_of_heap (f1.heap hC (fun f => f))
    have ne1 : ¬ (w1.heap.size = w.heap.size + 1 + 1) := by omega
    have ne2 : ¬ (w.heap.size + 1 + 1 = w1.heap.size) := by omega
    obtain ⟨d0, d1, _, _⟩ := box2 qd
    obtain ⟨d2, d3, d4, d5, d6, d7, d8⟩ := ex_box qb
    have k2 := kr w2.drew ((show Fr FN w w2 from fw).same (Fr.drew _ _))
    clear kr k1 kd hD hB hC f1 f2 fa g2 hsz
    go_wp2_with fail
    go_region_held (fun w' => w'.cell? ⟨w1.heap.size, 0, none⟩ = some (ci t) ∧ w'.cell? ⟨w1.heap.size, 1, none⟩ = some (.int .u64 b) ∧ w'.cell? ⟨w.heap.size + 1, 0, none⟩ = some (ci hr.kind) ∧ w'.cell? ⟨w.heap.size + 1, 1, none⟩ = some (ci hr.op) ∧ w'.cell? ⟨w.heap.size + 1, 2, none⟩ = some (ct hr.mod) ∧ w'.cell? ⟨w.heap.size + 1, 3, none⟩ = some (ct hr.name) ∧ w'.cell? ⟨w.heap.size + 1, 4, none⟩ = some (ci hr.vt) ∧ w'.cell? ⟨w.heap.size + 1, 5, none⟩ = some (.int .u64 hr.vb) ∧ w'.cell? ⟨w.heap.size + 1, 6, none⟩ = some (vr)) (first | (revert hF; intro hF; exact (show False from hF).elim) | (refine ⟨by with_reducible assumption, by with_reducible assumption, by with_reducible assumption, by with_reducible assumption, by with_reducible assumption, by with_reducible assumption, by with_reducible assumption, by with_reducible assumption, by with_reducible assumption⟩) | go_keep) (first
      | (go_at_call 114; refine (dead k2 (.agg #[.int .i64 0, .int .u64 0])).mono ?_; rintro e w3 (⟨rfl, f3⟩ | ⟨hF, rfl⟩); (focus (exact ⟨rfl, rfl, (show Fr FN w w2 from fw).same ((Fr.drew FN _).same f3)⟩)))
      | (go_at_call 159; refine (dead2 hF (.tuple #[.agg #[.int .i64 0, .int .u64 0], .int .i64 0])).mono ?_; rintro e w4 rfl)
      | (go_at_call 137; refine (dead2 hF (.agg #[.int .i64 0, .int .u64 0])).mono ?_; rintro e w5 rfl; have c0 : w5.cell? ⟨w.heap.size + 2, 0, none⟩ = some (ci 0) := (show False from hF).elim; have c1 : w5.cell? ⟨w.heap.size + 2, 1, none⟩ = some (.int .u64 0) := (show False from hF).elim; have z0 : w5.frozen? ⟨w.heap.size + 2, 0, none⟩ = false := (show False from hF).elim; have z1 : w5.frozen? ⟨w.heap.size + 2, 1, none⟩ = false := (show False from hF).elim)
      )
    all_goals exact (show False from hF).elim
  · rw [show (Ev.trp c).bd (fun u => trapEv (binF op (t, b) u)) = .trp c from rfl, fin_trp]
    rw [fin_trp] at kr
    clear hR hb
    go_enter Tryz.func139, Tryz.ntmps139
    go_wp2_with fail
    go_at_call 114
    refine k1.mono ?_
    rintro e w1 ⟨rfl, f1⟩
    have hD : Hidden ((w1.alloc (zb (ci t) (.int .u64 b))).heap[w1.heap.size]? = some (zb (ci t) (.int .u64 b))) := alloc_new _ _
    have fa := Fr.alloc FN w1 (zb (ci t) (.int .u64 b))
    go_wp2_with fail
    go_at_call 158
    refine (kd _).mono ?_
    rintro e w2 ⟨rfl, f2⟩
    have qd : Hidden (w2.heap[w1.heap.size]? = some (zb (ci t) (.int .u64 b))) := f2.heap hD (fun f => f)
    have g2 : Fr FN (((w.alloc (exO hl vl)).alloc (exO hr vr)).alloc zo) w2 := f1.same (fa.same f2)
    have qb : Hidden (w2.heap[w.heap.size + 1]? = some (exO hr vr)) := g2.heap hB (fun f => f)
    have qc : Hidden (w2.heap[w.heap.size + 2]? = some zo) := g2.heap hC (fun f => f)
    have fw : Hidden (Fr FN w w2) := f0.same g2
    have hsz : w.heap.size + 2 < w1.heap.size := lt_of_heap (f1.heap hC (fun f => f))
    have ne1 : ¬ (w1.heap.size = w.heap.size + 1 + 1) := by omega
    have ne2 : ¬ (w.heap.size + 1 + 1 = w1.heap.size) := by omega
    obtain ⟨d0, d1, _, _⟩ := box2 qd
    obtain ⟨d2, d3, d4, d5, d6, d7, d8⟩ := ex_box qb
    have k2 := kr w2.drew ((show Fr FN w w2 from fw).same (Fr.drew _ _))
    clear kr k1 kd hD hB hC f1 f2 fa g2 hsz
    go_wp2_with fail
    go_region_held (fun w' => w'.cell? ⟨w1.heap.size, 0, none⟩ = some (ci t) ∧ w'.cell? ⟨w1.heap.size, 1, none⟩ = some (.int .u64 b) ∧ w'.cell? ⟨w.heap.size + 1, 0, none⟩ = some (ci hr.kind) ∧ w'.cell? ⟨w.heap.size + 1, 1, none⟩ = some (ci hr.op) ∧ w'.cell? ⟨w.heap.size + 1, 2, none⟩ = some (ct hr.mod) ∧ w'.cell? ⟨w.heap.size + 1, 3, none⟩ = some (ct hr.name) ∧ w'.cell? ⟨w.heap.size + 1, 4, none⟩ = some (ci hr.vt) ∧ w'.cell? ⟨w.heap.size + 1, 5, none⟩ = some (.int .u64 hr.vb) ∧ w'.cell? ⟨w.heap.size + 1, 6, none⟩ = some (vr)) (first | (revert hF; intro hF; exact (show False from hF).elim) | (refine ⟨by with_reducible assumption, by with_reducible assumption, by with_reducible assumption, by with_reducible assumption, by with_reducible assumption, by with_reducible assumption, by with_reducible assumption, by with_reducible assumption, by with_reducible assumption⟩) | go_keep) (first
      | (go_at_call 114; refine (dead k2 (.agg #[.int .i64 0, .int .u64 0])).mono ?_; rintro e w3 (⟨rfl, f3⟩ | ⟨hF, rfl⟩); (focus (exact ⟨rfl, rfl, (show Fr FN w w2 from fw).same ((Fr.drew FN _).same f3)⟩)))
      | (go_at_call 159; refine (dead2 hF (.tuple #[.agg #[.int .i64 0, .int .u64 0], .int .i64 0])).mono ?_; rintro e w4 rfl)
      | (go_at_call 137; refine (dead2 hF (.agg #[.int .i64 0, .int .u64 0])).mono ?_; rintro e w5 rfl; have c0 : w5.cell? ⟨w.heap.size + 2, 0, none⟩ = some (ci 0) := (show False from hF).elim; have c1 : w5.cell? ⟨w.heap.size + 2, 1, none⟩ = some (.int .u64 0) := (show False from hF).elim; have z0 : w5.frozen? ⟨w.heap.size + 2, 0, none⟩ = false := (show False from hF).elim; have z1 : w5.frozen? ⟨w.heap.size + 2, 1, none⟩ = false := (show False from hF).elim)
      )
    all_goals exact (show False from hF).elim
  obtain ⟨tu, bu⟩ := u
  have hbu := hR _ rfl
  dsimp only at hbu
  rw [show (Ev.ok (tu, bu)).bd (fun u => trapEv (binF op (t, b) u)) = trapEv (binF op (t, b) (tu, bu)) from rfl]
  have kb := bin_any op (t, b) (tu, bu) hb hbu
  rw [fin_ok] at kr
  generalize binF op (t, b) (tu, bu) = Z at kb ⊢
  obtain ⟨⟨rt, rb⟩, q⟩ := Z
  dsimp only [vv] at kb kr
  have ku := untrapped_any (rt, rb) q
  clear hR hb hbu
  by_cases hq : q = 0
  · subst hq
    rw [trapEv_0, fin_ok] at ku ⊢
    dsimp only [vv] at ku ⊢
    go_enter Tryz.func139, Tryz.ntmps139
    go_wp2_with fail
    go_at_call 114
    refine k1.mono ?_
    rintro e w1 ⟨rfl, f1⟩
    have hD : Hidden ((w1.alloc (zb (ci t) (.int .u64 b))).heap[w1.heap.size]? = some (zb (ci t) (.int .u64 b))) := alloc_new _ _
    have fa := Fr.alloc FN w1 (zb (ci t) (.int .u64 b))
    go_wp2_with fail
    go_at_call 158
    refine (kd _).mono ?_
    rintro e w2 ⟨rfl, f2⟩
    have qd : Hidden (w2.heap[w1.heap.size]? = some (zb (ci t) (.int .u64 b))) := f2.heap hD (fun f => f)
    have g2 : Fr FN (((w.alloc (exO hl vl)).alloc (exO hr vr)).alloc zo) w2 := f1.same (fa.same f2)
    have qb : Hidden (w2.heap[w.heap.size + 1]? = some (exO hr vr)) := g2.heap hB (fun f => f)
    have qc : Hidden (w2.heap[w.heap.size + 2]? = some zo) := g2.heap hC (fun f => f)
    have fw : Hidden (Fr FN w w2) := f0.same g2
    have hsz : w.heap.size + 2 < w1.heap.size := lt_of_heap (f1.heap hC (fun f => f))
    have ne1 : ¬ (w1.heap.size = w.heap.size + 1 + 1) := by omega
    have ne2 : ¬ (w.heap.size + 1 + 1 = w1.heap.size) := by omega
    obtain ⟨d0, d1, _, _⟩ := box2 qd
    obtain ⟨d2, d3, d4, d5, d6, d7, d8⟩ := ex_box qb
    have k2 := kr w2.drew ((show Fr FN w w2 from fw).same (Fr.drew _ _))
    clear kr k1 kd hD hB hC f1 f2 fa g2 hsz
    go_wp2_with fail
    go_region_held3 (fun w' => w'.cell? ⟨w1.heap.size, 0, none⟩ = some (ci t) ∧ w'.cell? ⟨w1.heap.size, 1, none⟩ = some (.int .u64 b) ∧ w'.cell? ⟨w.heap.size + 1, 0, none⟩ = some (ci hr.kind) ∧ w'.cell? ⟨w.heap.size + 1, 1, none⟩ = some (ci hr.op) ∧ w'.cell? ⟨w.heap.size + 1, 2, none⟩ = some (ct hr.mod) ∧ w'.cell? ⟨w.heap.size + 1, 3, none⟩ = some (ct hr.name) ∧ w'.cell? ⟨w.heap.size + 1, 4, none⟩ = some (ci hr.vt) ∧ w'.cell? ⟨w.heap.size + 1, 5, none⟩ = some (.int .u64 hr.vb) ∧ w'.cell? ⟨w.heap.size + 1, 6, none⟩ = some (vr)) (first | (revert hF; intro hF; exact (show False from hF).elim) | (refine ⟨by with_reducible assumption, by with_reducible assumption, by with_reducible assumption, by with_reducible assumption, by with_reducible assumption, by with_reducible assumption, by with_reducible assumption, by with_reducible assumption, by with_reducible assumption⟩) | go_keep) (first
      | (go_at_call 114; refine k2.mono ?_; rintro e w3 ⟨rfl, f3⟩; have g3 := (Fr.drew FN w2).same f3; have e0 := g3.cellN d0; have e1 := g3.cellN d1; have e2 := g3.cellN d2; have e3 := g3.cellN d3; have e4 := g3.cellN d4; have e5 := g3.cellN d5; have e6 := g3.cellN d6; have e7 := g3.cellN d7; have e8 := g3.cellN d8; clear f3)
      | (go_at_call 159; refine (kb _).mono ?_; rintro e w4 ⟨rfl, f4⟩; have g4 := g3.same f4; have h0 := g4.cellN d0; have h1 := g4.cellN d1; have h2 := g4.cellN d2; have h3 := g4.cellN d3; have h4 := g4.cellN d4; have h5 := g4.cellN d5; have h6 := g4.cellN d6; have h7 := g4.cellN d7; have h8 := g4.cellN d8; clear f4)
      | (go_at_call 137; refine (ku _).mono ?_; rintro e w5 ⟨rfl, f5⟩; have g5 := g4.same f5; have m0 := g5.cellN d0; have m1 := g5.cellN d1; have m2 := g5.cellN d2; have m3 := g5.cellN d3; have m4 := g5.cellN d4; have m5 := g5.cellN d5; have m6 := g5.cellN d6; have m7 := g5.cellN d7; have m8 := g5.cellN d8; clear f5; have q5 := g5.heap qc (fun f => f); obtain ⟨c0, c1, z0, z1⟩ := box2 q5)
      )
    all_goals (go_wp2_with fail)
    all_goals exact post_v1 (set_two q5 _ _) rfl rfl rfl ⟨rfl, fr_two ((show Fr FN w w2 from fw).same g5) (by omega) _ _⟩
  · rw [trapEv_ne _ hq, fin_trp] at ku ⊢
    dsimp only [vv] at ku ⊢
    clear hq
    go_enter Tryz.func139, Tryz.ntmps139
    go_wp2_with fail
    go_at_call 114
    refine k1.mono ?_
    rintro e w1 ⟨rfl, f1⟩
    have hD : Hidden ((w1.alloc (zb (ci t) (.int .u64 b))).heap[w1.heap.size]? = some (zb (ci t) (.int .u64 b))) := alloc_new _ _
    have fa := Fr.alloc FN w1 (zb (ci t) (.int .u64 b))
    go_wp2_with fail
    go_at_call 158
    refine (kd _).mono ?_
    rintro e w2 ⟨rfl, f2⟩
    have qd : Hidden (w2.heap[w1.heap.size]? = some (zb (ci t) (.int .u64 b))) := f2.heap hD (fun f => f)
    have g2 : Fr FN (((w.alloc (exO hl vl)).alloc (exO hr vr)).alloc zo) w2 := f1.same (fa.same f2)
    have qb : Hidden (w2.heap[w.heap.size + 1]? = some (exO hr vr)) := g2.heap hB (fun f => f)
    have qc : Hidden (w2.heap[w.heap.size + 2]? = some zo) := g2.heap hC (fun f => f)
    have fw : Hidden (Fr FN w w2) := f0.same g2
    have hsz : w.heap.size + 2 < w1.heap.size := lt_of_heap (f1.heap hC (fun f => f))
    have ne1 : ¬ (w1.heap.size = w.heap.size + 1 + 1) := by omega
    have ne2 : ¬ (w.heap.size + 1 + 1 = w1.heap.size) := by omega
    obtain ⟨d0, d1, _, _⟩ := box2 qd
    obtain ⟨d2, d3, d4, d5, d6, d7, d8⟩ := ex_box qb
    have k2 := kr w2.drew ((show Fr FN w w2 from fw).same (Fr.drew _ _))
    clear kr k1 kd hD hB hC f1 f2 fa g2 hsz
    go_wp2_with fail
    go_region_held (fun w' => w'.cell? ⟨w1.heap.size, 0, none⟩ = some (ci t) ∧ w'.cell? ⟨w1.heap.size, 1, none⟩ = some (.int .u64 b) ∧ w'.cell? ⟨w.heap.size + 1, 0, none⟩ = some (ci hr.kind) ∧ w'.cell? ⟨w.heap.size + 1, 1, none⟩ = some (ci hr.op) ∧ w'.cell? ⟨w.heap.size + 1, 2, none⟩ = some (ct hr.mod) ∧ w'.cell? ⟨w.heap.size + 1, 3, none⟩ = some (ct hr.name) ∧ w'.cell? ⟨w.heap.size + 1, 4, none⟩ = some (ci hr.vt) ∧ w'.cell? ⟨w.heap.size + 1, 5, none⟩ = some (.int .u64 hr.vb) ∧ w'.cell? ⟨w.heap.size + 1, 6, none⟩ = some (vr)) (first | (revert hF; intro hF; exact (show False from hF).elim) | (refine ⟨by with_reducible assumption, by with_reducible assumption, by with_reducible assumption, by with_reducible assumption, by with_reducible assumption, by with_reducible assumption, by with_reducible assumption, by with_reducible assumption, by with_reducible assumption⟩) | go_keep) (first
      | (go_at_call 114; refine k2.mono ?_; rintro e w3 ⟨rfl, f3⟩; have g3 := (Fr.drew FN w2).same f3; have e0 := g3.cellN d0; have e1 := g3.cellN d1; have e2 := g3.cellN d2; have e3 := g3.cellN d3; have e4 := g3.cellN d4; have e5 := g3.cellN d5; have e6 := g3.cellN d6; have e7 := g3.cellN d7; have e8 := g3.cellN d8; clear f3)
      | (go_at_call 159; refine (kb _).mono ?_; rintro e w4 ⟨rfl, f4⟩; have g4 := g3.same f4; have h0 := g4.cellN d0; have h1 := g4.cellN d1; have h2 := g4.cellN d2; have h3 := g4.cellN d3; have h4 := g4.cellN d4; have h5 := g4.cellN d5; have h6 := g4.cellN d6; have h7 := g4.cellN d7; have h8 := g4.cellN d8; clear f4)
      | (go_at_call 137; refine (dead (ku _) (.agg #[.int .i64 0, .int .u64 0])).mono ?_; rintro e w5 (⟨rfl, f5⟩ | ⟨hF, rfl⟩); (focus (exact ⟨rfl, rfl, (show Fr FN w w2 from fw).same (g4.same f5)⟩)); have c0 : w5.cell? ⟨w.heap.size + 2, 0, none⟩ = some (ci 0) := (show False from hF).elim; have c1 : w5.cell? ⟨w.heap.size + 2, 1, none⟩ = some (.int .u64 0) := (show False from hF).elim; have z0 : w5.frozen? ⟨w.heap.size + 2, 0, none⟩ = false := (show False from hF).elim; have z1 : w5.frozen? ⟨w.heap.size + 2, 1, none⟩ = false := (show False from hF).elim)
      )
    all_goals exact (show False from hF).elim
end Go.Proofs.YtpjahcncknccdaaGreat.Fo
