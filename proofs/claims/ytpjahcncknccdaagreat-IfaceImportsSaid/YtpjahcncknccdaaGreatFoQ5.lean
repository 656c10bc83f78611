/- fold.Decls: the walk (under way). -/
import Derived.Test.YtpjahcncknccdaaGreatFoQ4
import Derived.Test.YtpjahcncknccdaaGreatFoP
import Derived.Test.YtpjahcncknccdaaGreatTyH
namespace Go.Proofs.YtpjahcncknccdaaGreat.Fo
open Go.RowKit Te
set_option linter.unusedSimpArgs false
set_option linter.unusedVariables false

abbrev mkO (c : Nat) : Obj := .cells (madeCells (Value.agg #[.string ⟨#[]⟩, .string ⟨#[]⟩, .int .i64 0, .int .u64 0]).cells (c * 4)) 123 (0, 0)
/-- A set with room for so many. -/
theorem run_set (n : Int) (w : World) : (Instr.makeMap 117 (some (.int .i64 n))).run Tryz.prog w = .ok (.map (some w.heap.size)) (w.alloc (.map #[] 0)) := by
  simp [Instr.makeMap, run_underlying set_under, asInt, Result.andThen]
  try rfl
theorem results_tmp4 {fn : Func} {t u v x : Tmp} (h : fn.results = #[.tmp t, .tmp u, .tmp v, .tmp x]) (tmps : Array Value) (P : Program) (w : World) :
    (results fn tmps).run P w = .ok (.tuple #[tmps.getD t undef, tmps.getD u undef, tmps.getD v undef, tmps.getD x undef]) w := by
  simp [results, h]
theorem cow_base {w : World} {B B' : Nat} {v : Value} {l : List Con} (h : CoW w B v l) (hb : B' ≤ B) : CoW w B' v l := by
  obtain ⟨cells, ⟨h0, h1⟩, h2⟩ := h
  refine ⟨cells, ⟨h0, ?_⟩, h2⟩
  rcases h1 with h1 | ⟨g, cap, cur, a, b, c⟩
  · exact Or.inl h1
  · exact Or.inr ⟨g, cap, cur, a, by omega, c⟩
theorem two_put {w : World} {g : Nat} {a b : Value} {t : TypeId} (h : w.heap[g]? = some (.cells #[a, b] t (0, 0))) (x y : Value) : ((w.setCell ⟨g, 0, none⟩ x).setCell ⟨g, 1, none⟩ y).heap[g]? = some (.cells #[x, y] t (0, 0)) := by
  have h1 := heap_setCell_same w g 0 #[a, b] t x h
  have h2 := heap_setCell_same _ g 1 _ t y h1
  exact h2
theorem two_at (w : World) (g : Nat) (x y : Value) : Fr (fun k => k = g) w ((w.setCell ⟨g, 0, none⟩ x).setCell ⟨g, 1, none⟩ y) := (Fr.setCell w ⟨g, 0, none⟩ _).same (Fr.setCell _ ⟨g, 1, none⟩ _)
theorem con_box {w : World} {b : Nat} {x0 x1 x2 x3 : Value} {t : TypeId} (hb : w.heap[b]? = some (.cells #[x0, x1, x2, x3] t (0, 0))) :
    w.cell? ⟨b, 0, none⟩ = some x0 ∧ w.cell? ⟨b, 1, none⟩ = some x1 ∧ w.cell? ⟨b, 2, none⟩ = some x2 ∧ w.cell? ⟨b, 3, none⟩ = some x3 :=
  ⟨cell_of_row _ _ 0 _ _ _ hb, cell_of_row _ _ 1 _ _ _ hb, cell_of_row _ _ 2 _ _ _ hb, cell_of_row _ _ 3 _ _ _ hb⟩
theorem zero_at {w : World} {B kg L kc F : Nat} {l : List Con} (h : CoW w B (.slice (some ⟨kg, 0, none⟩) L kc) (List.replicate (F + 1) zC ++ l)) :
    w.cell? ⟨kg, F * 4, none⟩ = some (ct []) ∧ w.cell? ⟨kg, F * 4 + 1, none⟩ = some (ct []) ∧ w.cell? ⟨kg, F * 4 + 2, none⟩ = some (ci 0) ∧ w.cell? ⟨kg, F * 4 + 3, none⟩ = some (.int .u64 0) ∧
    w.frozen? ⟨kg, F * 4, none⟩ = false ∧ w.frozen? ⟨kg, F * 4 + 1, none⟩ = false ∧ w.frozen? ⟨kg, F * 4 + 2, none⟩ = false ∧ w.frozen? ⟨kg, F * 4 + 3, none⟩ = false := by
  obtain ⟨ao, cap, e, hc⟩ := h.col
  cases e
  have hx : (List.replicate (F + 1) zC ++ l)[F]? = some zC := by rw [List.getElem?_append_left (by simp)]; simp
  rcases cow_cur h with ⟨h0, _⟩ | ⟨g, cur, e, _, hg, _⟩
  · rw [h0] at hx; simp at hx
  cases e
  rcases hc.2.2 with h0 | ⟨b, off, e, hc⟩
  · rw [h0] at hx; simp at hx
  cases e
  have c := hc F zC hx
  have c0 := c 0 _ rfl
  have c1 := c 1 _ rfl
  have c2 := c 2 _ rfl
  have c3 := c 3 _ rfl
  simp only [Nat.zero_add, Nat.add_zero] at c0 c1 c2 c3
  exact ⟨c0, c1, c2, c3, Ty.frozen_row hg _, Ty.frozen_row hg _, Ty.frozen_row hg _, Ty.frozen_row hg _⟩
theorem known_set (F : Nat) (cs far : List Con) (c : Con) : (List.replicate (F + 1) zC ++ (cs.reverse ++ far)).set F c = List.replicate F zC ++ ((cs ++ [c]).reverse ++ far) := by
  rw [List.replicate_succ', List.append_assoc, List.set_append_right _ _ (by simp)]
  simp
set_option maxRecDepth 20000 in
set_option maxHeartbeats 4000000 in
theorem decls_any (far : List Con) (hok : ∀ c ∈ far, U64 c.b) (m : Mo) (v fv : Value) (B2 : Nat) (w : World) (om : OkM m) (hm : MoI w m v) (hf : CoW w B2 fv far) (hb : m.decls.length + far.length ≤ 1048576) :
    Calls Tryz.prog 33 #[v, fv] w fun e w' => ∃ v1 v2, e = .returned (.tuple #[v1, v2, ci (decS far m.decls).2.2.1, ci (decS far m.decls).2.2.2]) ∧ CoW w' w.heap.size v1 (decS far m.decls).1 ∧ CoW w' w.heap.size v2 (decS far m.decls).2.1 ∧ Fr FN w w' := by
  obtain ⟨ao, cap, ad, capd, rfl, hi, hd⟩ := hm
  obtain ⟨fo, fc, rfl, hfl⟩ := hf.col
  have m1 : capd ≤ 9223372036854775807 := by have := hd.2.1; unfold maxLen at this; omega
  have n1 := hd.1
  have n2 := hfl.1
  have m2 : fc ≤ 9223372036854775807 := by have := hfl.2.1; unfold maxLen at this; omega
  have hmm := run_set
  have hmk : ∀ u : World, (Instr.makeSlice 82 (.int .i64 (m.decls.length : Int)) (.int .i64 ((m.decls.length : Int) + (far.length : Int)))).run Tryz.prog u = .ok (.slice (some ⟨u.heap.size, 0, none⟩) m.decls.length (m.decls.length + far.length)) (u.alloc (mkO (m.decls.length + far.length))) := fun u => by
    have := make_any u m.decls.length (m.decls.length + far.length) (by omega) hb
    rw [Int.natCast_add] at this
    exact this
  obtain ⟨V4, hV4⟩ : ∃ V, V = (((w.alloc (.cells #[ct m.name, .slice ao m.imports.length cap, .slice ad m.decls.length capd] 39)).alloc (.map #[] 0)).alloc (mkO (m.decls.length + far.length))) := ⟨_, rfl⟩
  have hV4H : Hidden (V4 = _) := hV4
  have f4 : Hidden (Fr FN w V4) := by rw [hV4]; exact ((Fr.alloc _ _ _).same (Fr.alloc _ _ _)).same (Fr.alloc _ _ _)
  have s4_ : Hidden (V4.heap.size = w.heap.size + 3) := by rw [hV4]; simp [Hidden]
  have hrow : Hidden (CoW V4 (w.heap.size + 2) (.slice (some ⟨w.heap.size + 2, 0, none⟩) m.decls.length (m.decls.length + far.length)) (List.replicate m.decls.length zC)) := by
    have := made_row ((w.alloc (.cells #[ct m.name, .slice ao m.imports.length cap, .slice ad m.decls.length capd] 39)).alloc (.map #[] 0)) m.decls.length (m.decls.length + far.length) (by omega) (by unfold maxLen; omega)
    rw [hV4]
    simpa [Hidden] using this
  have hset : Hidden (SM V4 (w.heap.size + 1) 0 []) := by
    have := SM.later (SM.new (w.alloc (.cells #[ct m.name, .slice ao m.imports.length cap, .slice ad m.decls.length capd] 39))) (Fr.alloc (fun _ => False) _ (mkO (m.decls.length + far.length)))
    rw [hV4]
    simpa [Hidden] using this
  have hbox : Hidden (V4.heap[w.heap.size]? = some (.cells #[ct m.name, .slice ao m.imports.length cap, .slice ad m.decls.length capd] 39 (0, 0))) := by rw [hV4]; exact (alloc_old _ _ _ (by simp; omega)).trans ((alloc_old _ _ _ (by simp)).trans (alloc_new _ _))
  clear hV4
  have hdH : Hidden (DeL w ad capd m.decls) := hd
  have hfH : Hidden (CoW w B2 (.slice fo far.length fc) far) := hf
  have hbH : Hidden (m.decls.length + far.length ≤ 1048576) := hb
  clear hd hf hi hfl
  go_enter Tryz.func33, Tryz.ntmps33
  go_wp2_with (at_builtin; rw [← (show V4 = _ from hV4H)]; refine wpl_rows rfl _ _ rfl (w.heap.size + 2) (.slice (some ⟨w.heap.size + 2, 0, none⟩) m.decls.length (m.decls.length + far.length)) (List.replicate m.decls.length zC) far (.slice fo far.length fc) B2 rfl hrow rfl ((show CoW w B2 _ far from hfH).keepN f4) (by rw [List.length_replicate]; unfold maxLen; have : m.decls.length + far.length ≤ 1048576 := hbH; omega) (by rw [List.length_replicate]; have : m.decls.length + far.length ≤ 1048576 := hbH; omega) (by have : V4.heap.size = w.heap.size + 3 := s4_; omega) ?_; intro v5 w5 hrow5 f5 _; have g5 : Hidden (Fr FN w w5) := (show Fr FN w V4 from f4).over f5 (fun k hk => by have : w.heap.size + 2 = k := (by simpa [Value.ownBlock] using hk); omega); have set5 : Hidden (SM w5 (w.heap.size + 1) 0 []) := (show SM V4 _ 0 [] from hset).keep f5 (fun hk => by simp [Value.ownBlock] at hk); have box5 := f5.heap hbox (fun hk => by simp [Value.ownBlock] at hk); have c5 : w5.cell? ⟨w.heap.size, 2, none⟩ = some (.slice ad m.decls.length capd) := cell_of_row _ _ 2 _ _ _ box5; have row5 : Hidden (CoW w5 (w.heap.size + 2) v5 (List.replicate m.decls.length zC ++ far)) := hrow5; have sz5 : Hidden (w.heap.size + 3 ≤ w5.heap.size) := (by have := f5.size; have : V4.heap.size = w.heap.size + 3 := s4_; show _ ≤ _; omega); clear hrow5 f5 box5)
  obtain ⟨ka, kc, hv5, hkc1, hkc2, _⟩ := (show CoW w5 _ v5 _ from row5).slice
  rw [show (List.replicate m.decls.length zC ++ far).length = m.decls.length + far.length by simp] at hv5 hkc1
  obtain ⟨L, hLe⟩ : ∃ L, m.decls.length + far.length = L := ⟨_, rfl⟩
  rw [hLe] at hv5 hkc1
  have hLH : Hidden (m.decls.length + far.length = L) := hLe
  clear hLe
  have hkb : Hidden (∀ k, v5.ownBlock = some k → k < w5.heap.size) := fun k hk => ((show CoW w5 _ v5 _ from row5).low k hk).2
  subst hv5
  go_loopg [8, 9, 11, 38] m.decls.length (fun g cv vv fv iv wr => ∃ (i F : Nat) (cs vs : List Con) (seen : List Bs), iv = ci (i : Int) ∧ i ≤ m.decls.length ∧ g = m.decls.length - i ∧ fv = ci (F : Int) ∧ F + cs.length = m.decls.length ∧ cs.length ≤ i ∧ vs.length ≤ i ∧ decGo far (m.decls.drop i) i seen cs vs = decS far m.decls ∧ (∀ c ∈ cs, U64 c.b) ∧ CoW wr (w.heap.size + 2) (.slice ka L kc) (List.replicate F zC ++ (cs.reverse ++ far)) ∧ CoW wr w5.heap.size cv cs ∧ CoW wr w5.heap.size vv vs ∧ (∀ k, cv.ownBlock = some k → vv.ownBlock ≠ some k) ∧ SM wr (w.heap.size + 1) i seen ∧ Fr FN w wr ∧ w5.heap.size ≤ wr.heap.size)
  case atStart => exact ⟨0, m.decls.length, [], [], [], rfl, by omega, rfl, rfl, by simp, by simp, by simp, rfl, by simp, row5, CoW.none _ _, CoW.none _ _, by simp [Value.ownBlock], set5, g5, Nat.le_refl _⟩
  case round =>
    obtain ⟨i, F, cs, vs, seen, rfl, hi, hgk, rfl, hF, hc1, hc2, hgo, hcu, hkn, hcr, hvr, hap, hse, hfr, hsz⟩ := hrel
    have hFH : Hidden (F + cs.length = m.decls.length) := hF
    clear hF
    have hfrH : Hidden (Fr FN w wr) := hfr
    obtain ⟨ca, cc, hv1, _⟩ := hcr.slice
    obtain ⟨va, vc, hv2, _⟩ := hvr.slice
    subst hv1
    subst hv2
    by_cases hil : i < m.decls.length
    · obtain ⟨d, hd⟩ : ∃ d, m.decls[i]? = some d := ⟨m.decls[i], List.getElem?_eq_getElem hil⟩
      obtain ⟨db, doff, pv, ev, bv, rfl, hdi, hdc⟩ : ∃ b off pv ev bv, ad = some ⟨b, off, none⟩ ∧ DeI w d pv ev bv ∧ ∀ (j : Nat) (x : Value), (deC d pv ev bv)[j]? = some x → w.cell? ⟨b, off + i * 7 + j, none⟩ = some x := by
        rcases (show DeL w ad capd m.decls from hdH).2.2 with h0 | ⟨b, off, e, h0⟩
        · rw [h0] at hil; simp at hil
        · obtain ⟨pv, ev, bv, h1, h2⟩ := h0 i d hd
          exact ⟨b, off, pv, ev, bv, e, h1, h2⟩
      have od := om.decls d (List.mem_of_getElem? hd)
      obtain ⟨p1, q1, p2, q2, p3, q3, rfl, rfl, rfl, hdi⟩ := hdi
      have d0 := hfr.cellN (hdc 0 _ rfl)
      have d1 := hfr.cellN (hdc 1 _ rfl)
      have d2 := hfr.cellN (hdc 2 _ rfl)
      have d3 := hfr.cellN (hdc 3 _ rfl)
      have d4 := hfr.cellN (hdc 4 _ rfl)
      have d5 := hfr.cellN (hdc 5 _ rfl)
      have d6 := hfr.cellN (hdc 6 _ rfl)
      simp only [Nat.add_zero] at d0
      have fa := Fr.alloc FN wr (.cells #[ci d.kind, .bool d.ex, ct d.name, ci d.type, .slice p1 d.params.length q1, .slice p2 d.e.len q2, .slice p3 d.body.len q3] 49)
      have hl := (SM.later hse fa).look d.name od.name
      have hdd : m.decls.drop i = d :: m.decls.drop (i + 1) := by
        rw [List.drop_eq_getElem_cons hil]
        rw [List.getElem?_eq_getElem hil] at hd
        rw [Option.some.inj hd]
      rw [hdd] at hgo
      unfold decGo at hgo
      have hseH : Hidden (SM wr (w.heap.size + 1) i seen) := hse
      have hknH : Hidden (CoW wr (w.heap.size + 2) (.slice ka L kc) (List.replicate F zC ++ (cs.reverse ++ far))) := hkn
      have hcrH : Hidden (CoW wr w5.heap.size (.slice ca cs.length cc) cs) := hcr
      have hvrH : Hidden (CoW wr w5.heap.size (.slice va vs.length vc) vs) := hvr
      have hdiH : Hidden (DeI w d (.slice p1 d.params.length q1) (.slice p2 d.e.len q2) (.slice p3 d.body.len q3)) := ⟨p1, q1, p2, q2, p3, q3, rfl, rfl, rfl, hdi⟩
      clear hse hkn hcr hvr hfr hdc hdi hd hdd
      by_cases htw : d.name ∈ seen
      · rw [if_pos htw] at hgo
        rw [decide_eq_true htw] at hl
        go_wp2_with fail
        refine bodyPost_ret (results_tmp4 rfl _ _ _) rfl ?_
        rw [← hgo]
        exact ⟨_, _, rfl, CoW.none _ _, CoW.none _ _, ((show Fr FN w wr from hfrH).same (Fr.alloc _ _ _)).same (Fr.alloc _ _ _)⟩
      · rw [if_neg htw] at hgo
        rw [decide_eq_false htw] at hl
        have fa2 : Fr FN wr ((wr.alloc (.cells #[ci d.kind, .bool d.ex, ct d.name, ci d.type, .slice p1 d.params.length q1, .slice p2 d.e.len q2, .slice p3 d.body.len q3] 49)).alloc (.cells #[] 118)) := (Fr.alloc _ _ _).same (Fr.alloc _ _ _)
        obtain ⟨w6, hput, hse6, f6⟩ := (SM.later hseH fa2).put d.name od.name (by have : m.decls.length + far.length ≤ 1048576 := hbH; omega)
        have hse6H : Hidden (SM w6 (w.heap.size + 1) (i + 1) (d.name :: seen)) := hse6
        have hlt : w.heap.size + 3 ≤ wr.heap.size := by have : w.heap.size + 3 ≤ w5.heap.size := sz5; omega
        have hbx6 := f6.heap ((alloc_old _ (.cells #[] 118 (0, 0)) _ (by simp)).trans (alloc_new wr (.cells #[ci d.kind, .bool d.ex, ct d.name, ci d.type, .slice p1 d.params.length q1, .slice p2 d.e.len q2, .slice p3 d.body.len q3] 49 (0, 0)))) (by omega)
        have hbx6H : Hidden (w6.heap[wr.heap.size]? = some (.cells #[ci d.kind, .bool d.ex, ct d.name, ci d.type, .slice p1 d.params.length q1, .slice p2 d.e.len q2, .slice p3 d.body.len q3] 49 (0, 0))) := hbx6
        obtain ⟨e0, e1, e2, e3, e4, e5, e6⟩ := ex_box hbx6
        have g6 : Fr (fun k => k = w.heap.size + 1) wr w6 := (fa2.mono fun _ _ f => f.elim).same f6
        have g6H : Hidden (Fr (fun k => k = w.heap.size + 1) wr w6) := g6
        have sz6 : wr.heap.size + 2 ≤ w6.heap.size := by have := f6.size; simp at this; omega
        clear hse6 f6 fa2 hbx6 g6
        by_cases hk : d.kind ≠ 1 ∧ d.kind ≠ 2
        · rw [if_pos hk] at hgo
          have hk1 : (d.kind != 1) = true := by simpa using hk.1
          have hk2 : (d.kind != 2) = true := by simpa using hk.2
          go_wp2_with fail
          go_roundg (m.decls.length - (i + 1))
          case measure => omega
          case rel =>
            have g6 : Fr (fun k => k = w.heap.size + 1) wr w6 := g6H
            refine ⟨i + 1, F, cs, vs, d.name :: seen, by go_num, by omega, rfl, rfl, hFH, by omega, by omega, hgo, hcu, (show CoW wr _ _ _ from hknH).keep g6 (fun k hk e => by have := ((show CoW wr _ _ _ from hknH).low k hk).1; omega), (show CoW wr _ _ _ from hcrH).keep g6 (fun k hk e => by have := ((show CoW wr _ _ _ from hcrH).low k hk).1; have : w.heap.size + 3 ≤ w5.heap.size := sz5; omega), (show CoW wr _ _ _ from hvrH).keep g6 (fun k hk e => by have := ((show CoW wr _ _ _ from hvrH).low k hk).1; have : w.heap.size + 3 ≤ w5.heap.size := sz5; omega), hap, hse6H, (show Fr FN w wr from hfrH).over g6 (fun k hk => by omega), by omega⟩
        · rw [if_neg hk] at hgo
          have hk12 : d.kind = 1 ∨ d.kind = 2 := by omega
          have hF : F + cs.length = m.decls.length := hFH
          have hLe : m.decls.length + far.length = L := hLH
          have hL : (List.replicate F zC ++ (cs.reverse ++ far)).length = L := by simp; omega
          have hkn : CoW wr (w.heap.size + 2) (.slice ka L kc) (List.replicate F zC ++ (cs.reverse ++ far)) := hknH
          obtain ⟨kg, rfl⟩ : ∃ kg, ka = some ⟨kg, 0, none⟩ := by
            rcases cow_cur hkn with ⟨h0, _, _⟩ | ⟨g, _, h0, _⟩
            · rw [h0] at hL; simp at hL; omega
            · exact ⟨g, h0⟩
          have hlow := hkn.low kg rfl
          obtain ⟨sa, hsa, hsl⟩ := slice_from_row kg L kc F (by omega)
          obtain ⟨n2, hn2⟩ : ∃ n, (cs.reverse ++ far).length = n := ⟨_, rfl⟩
          have hll : L - F = n2 := by rw [← hn2]; simp; omega
          rw [hll] at hsl
          have kn6 : CoW w6 (w.heap.size + 2) (.slice (some ⟨kg, 0, none⟩) L kc) (List.replicate F zC ++ (cs.reverse ++ far)) := hkn.keep g6H (fun k hk e => by have := (hkn.low k hk).1; omega)
          have hcol := cow_drop kn6 F (by rw [hL]; omega) sa (fun g hg hlt => by cases hg; exact hsa hlt)
          have hdr : (List.replicate F zC ++ (cs.reverse ++ far)).drop F = cs.reverse ++ far := List.drop_left' (by simp)
          rw [hdr] at hcol
          obtain ⟨kc2, hkc2⟩ : ∃ n, kc - F = n := ⟨_, rfl⟩
          rw [hkc2] at hsl hcol
          have hok2 : ∀ c ∈ cs.reverse ++ far, U64 c.b := fun c hc => by
            rcases List.mem_append.1 hc with hc | hc
            · exact hcu c (List.mem_reverse.1 hc)
            · exact hok c hc
          have fw6 : Fr FN w w6 := (show Fr FN w wr from hfrH).over g6H (fun k hk => by omega)
          have kV : ∀ u, Fr FN w6 u → Calls Tryz.prog 65 #[deV d (.slice p1 d.params.length q1) (.slice p2 d.e.len q2) (.slice p3 d.body.len q3), .slice sa n2 kc2] u fun e w' => e = .returned (.tuple #[vv (valAt d (cs.reverse ++ far)).1, ci (valAt d (cs.reverse ++ far)).2]) ∧ Fr FN u w' := fun u hu => by rw [← hn2]; exact vaf_any d _ _ _ (cs.reverse ++ far) hok2 sa _ u od (DeI.keep hdiH (fw6.same hu)) (hcol.keep hu)
          have hvb := valAt_b od (cs.reverse ++ far) hok2
          generalize hR : valAt d (cs.reverse ++ far) = R at kV hgo hvb
          obtain ⟨⟨rt, rb⟩, re⟩ := R
          rcases hk12 with hk1 | hk1
          · rw [hk1] at e0 d0 hl hput hbx6H
            have kV' : ∀ u, Fr FN w6 u → Calls Tryz.prog 65 #[.agg #[ci 1, .bool d.ex, ct d.name, ci d.type, .slice p1 d.params.length q1, .slice p2 d.e.len q2, .slice p3 d.body.len q3], .slice sa n2 kc2] u fun e w' => e = .returned (.tuple #[vv (rt, rb), ci re]) ∧ Fr FN u w' := fun u hu => by have := kV u hu; dsimp only [deV] at this; rw [hk1] at this; exact this
            have fw6H : Hidden (Fr FN w w6) := fw6
            have hgoH : Hidden (_ = decS far m.decls) := hgo
            have hvbH : Hidden (U64 rb) := hvb
            have hkn6H : Hidden (CoW w6 (w.heap.size + 2) (.slice (some ⟨kg, 0, none⟩) L kc) (List.replicate F zC ++ (cs.reverse ++ far))) := kn6
            clear kV hcol kn6 hdr hok2 hkn hL hll hLe hF hn2 hkc2 hsa hlow fw6 hgo hvb
            go_wp2_with fail
            clear hmm hmk d0 d1 d2 d3 d4 d5 d6 hl hput hfrH hset hbox hrow f4 g5 set5
            go_cut [17, 18] (fun pv ev wx => ev = ci re ∧ ∃ g, pv = .pointer (some ⟨g, 0, none⟩) ∧ wx.heap[g]? = some (.cells #[ci rt, .int .u64 rb] 54 (0, 0)) ∧ w6.heap.size ≤ g ∧ Fr FN w6 wx)
            case first =>
              have nn6 := World.new_ne w6 _ e0
              go_region_held3 (fun w' => w'.cell? ⟨wr.heap.size, 0, none⟩ = some (ci 1) ∧ w'.cell? ⟨wr.heap.size, 1, none⟩ = some (.bool d.ex) ∧ w'.cell? ⟨wr.heap.size, 2, none⟩ = some (ct d.name) ∧ w'.cell? ⟨wr.heap.size, 3, none⟩ = some (ci d.type) ∧ w'.cell? ⟨wr.heap.size, 4, none⟩ = some (.slice p1 d.params.length q1) ∧ w'.cell? ⟨wr.heap.size, 5, none⟩ = some (.slice p2 d.e.len q2) ∧ w'.cell? ⟨wr.heap.size, 6, none⟩ = some (.slice p3 d.body.len q3)) (first | (refine ⟨by with_reducible assumption, by with_reducible assumption, by with_reducible assumption, by with_reducible assumption, by with_reducible assumption, by with_reducible assumption, by with_reducible assumption⟩) | go_keep) (first
                | (go_at_call 65; (with_reducible refine Calls.mono (kV' w6.drew (Fr.drew _ _)) ?_); rintro e w7 ⟨rfl, f7⟩; have f67 : Fr FN w6 w7 := (Fr.drew _ _).same f7; have r0 := f67.cellN e0; have r1 := f67.cellN e1; have r2 := f67.cellN e2; have r3 := f67.cellN e3; have r4 := f67.cellN e4; have r5 := f67.cellN e5; have r6 := f67.cellN e6; have nn7 := World.new_ne w7 _ r0)
                | (go_at_call 65; (with_reducible refine Calls.mono (kV' ((w6.alloc (.cells #[ci 0, .int .u64 0] 54 (0, 0))).drew) ((Fr.alloc _ _ _).same (Fr.drew _ _))) ?_); rintro e w7 ⟨rfl, f7⟩; have f67 : Fr FN w6 w7 := ((Fr.alloc _ _ _).same (Fr.drew _ _)).same f7; have hbz : w7.heap[w6.heap.size]? = some (.cells #[ci 0, .int .u64 0] 54 (0, 0)) := ((Fr.drew FN _).same f7).heap (alloc_new w6 _) (fun f => f); obtain ⟨bz0, bz1, bz2, bz3⟩ := box2 hbz; have r0 := f67.cellN e0; have r1 := f67.cellN e1; have r2 := f67.cellN e2; have r3 := f67.cellN e3; have r4 := f67.cellN e4; have r5 := f67.cellN e5; have r6 := f67.cellN e6))
              all_goals go_wp2_with fail
              all_goals go_meet
              all_goals refine ⟨rfl, ?_⟩
              all_goals first
                | exact ⟨_, rfl, alloc_new _ _, f67.size, f67.same (Fr.alloc _ _ _)⟩
                | exact ⟨_, rfl, two_put hbz _ _, Nat.le_refl _, f67.over (two_at w7 _ _ _) (fun b e => by subst e; exact Nat.le_refl _)⟩
            case rest =>
              obtain ⟨rfl, g, rfl, hg, hgb, fx⟩ := hcut
              obtain ⟨x0, x1, x2, x3, x4, x5, x6⟩ := ex_box (fx.heap (show w6.heap[wr.heap.size]? = _ from hbx6H) (fun f => f))
              obtain ⟨y0, y1, _, _⟩ := box2 hg
              have fwc : Hidden (Fr FN w wc) := (show Fr FN w w6 from fw6H).same fx
              have g6 : Fr (fun k => k = w.heap.size + 1) wr w6 := g6H
              have gxc : Fr (fun k => k = w.heap.size + 1) wr wc := g6.same (fx.mono fun _ _ f => f.elim)
              have hs5 : w.heap.size + 3 ≤ w5.heap.size := sz5
              have sec : SM wc (w.heap.size + 1) (i + 1) (d.name :: seen) := (show SM w6 _ _ _ from hse6H).later fx
              have crc : CoW wc w5.heap.size (.slice ca cs.length cc) cs := (show CoW wr _ _ _ from hcrH).keep gxc (fun k hk e => by have := ((show CoW wr _ _ _ from hcrH).low k hk).1; omega)
              have vrc : CoW wc w5.heap.size (.slice va vs.length vc) vs := (show CoW wr _ _ _ from hvrH).keep gxc (fun k hk e => by have := ((show CoW wr _ _ _ from hvrH).low k hk).1; omega)
              have knc : CoW wc (w.heap.size + 2) (.slice (some ⟨kg, 0, none⟩) L kc) (List.replicate F zC ++ (cs.reverse ++ far)) := (show CoW w6 _ _ _ from hkn6H).keepN fx
              have szc : w6.heap.size ≤ wc.heap.size := fx.size
              have secH : Hidden (SM wc (w.heap.size + 1) (i + 1) (d.name :: seen)) := sec
              have crcH : Hidden (CoW wc w5.heap.size (.slice ca cs.length cc) cs) := crc
              have vrcH : Hidden (CoW wc w5.heap.size (.slice va vs.length vc) vs) := vrc
              have kncH : Hidden (CoW wc (w.heap.size + 2) (.slice (some ⟨kg, 0, none⟩) L kc) (List.replicate F zC ++ (cs.reverse ++ far))) := knc
              have capR : ∀ k, (Value.slice ca cs.length cc).ownBlock = some k → w5.heap.size ≤ k ∧ k < wc.heap.size := fun k hk => crc.low k hk
              have vapR : ∀ k, (Value.slice va vs.length vc).ownBlock = some k → w5.heap.size ≤ k ∧ k < wc.heap.size := fun k hk => vrc.low k hk
              have capH : Hidden (∀ k, (Value.slice ca cs.length cc).ownBlock = some k → w5.heap.size ≤ k ∧ k < wc.heap.size) := capR
              have vapH : Hidden (∀ k, (Value.slice va vs.length vc).ownBlock = some k → w5.heap.size ≤ k ∧ k < wc.heap.size) := vapR
              have hapH : Hidden (∀ k, (Value.slice ca cs.length cc).ownBlock = some k → (Value.slice va vs.length vc).ownBlock ≠ some k) := hap
              have hkgb : Hidden (kg < w5.heap.size) := (show ∀ k, _ → k < w5.heap.size from hkb) kg rfl
              have hszH : Hidden (w5.heap.size ≤ wc.heap.size) := (by omega : w5.heap.size ≤ wc.heap.size)
              have hcuH : Hidden (∀ c ∈ cs, U64 c.b) := hcu
              have hbn : m.decls.length + far.length ≤ 1048576 := hbH
              clear hap sec crc vrc knc capR vapR fx hg gxc g6 hgb hcu
              by_cases hre : re = 0
              · subst hre
                have hgo2 : (if 1 = (2 : Int) then decGo far (m.decls.drop (i + 1)) (i + 1) (d.name :: seen) cs (vs ++ [⟨[], d.name, rt, rb⟩]) else decGo far (m.decls.drop (i + 1)) (i + 1) (d.name :: seen) (cs ++ [⟨[], d.name, rt, rb⟩]) vs) = decS far m.decls := by
                  have := (show _ = decS far m.decls from hgoH)
                  rw [if_neg (by simp), hk1] at this
                  exact this
                rw [if_neg (by decide)] at hgo2
                have hgo2H : Hidden (_ = decS far m.decls) := hgo2
                clear hgo2 hgoH
                obtain ⟨W9, hW9⟩ : ∃ W, W = (wc.alloc (coO ⟨[], d.name, rt, rb⟩)).alloc (coO ⟨[], d.name, rt, rb⟩) := ⟨_, rfl⟩
                have f9 : Fr FN wc W9 := by rw [hW9]; exact (Fr.alloc _ _ _).same (Fr.alloc _ _ _)
                have hnew : Hidden (W9.heap[wc.heap.size + 1]? = some (coO ⟨[], d.name, rt, rb⟩)) := by rw [hW9]; exact alloc_at _ _ _ (by simp)
                have hold : Hidden (W9.heap[wc.heap.size]? = some (coO ⟨[], d.name, rt, rb⟩)) := by rw [hW9]; exact (alloc_old _ _ _ (by simp)).trans (alloc_new _ _)
                have hsz9 : Hidden (W9.heap.size = wc.heap.size + 2) := by rw [hW9]; simp [Hidden]
                have f9H : Hidden (Fr FN wc W9) := f9
                have hW9H : Hidden (W9 = _) := hW9
                clear hW9 f9
                have x0' := (Fr.alloc FN wc (coO ⟨[], d.name, rt, rb⟩)).cellN x0
                have hrow9 : Hidden (CoW W9 w5.heap.size (.slice ca cs.length cc) cs) := (show CoW wc _ _ cs from crcH).keepN f9H
                obtain ⟨F1, rfl⟩ : ∃ F1, F = F1 + 1 := ⟨F - 1, by have : F + cs.length = m.decls.length := hFH; omega⟩
                have hF1 : F1 + 1 + cs.length = m.decls.length := hFH
                have hLL : F1 < L := by have : m.decls.length + far.length = L := hLH; omega
                have hF2 : F1 ≤ 1048576 := by omega
                clear hF1
                go_wp2_with (at_builtin; rw [← (show W9 = _ from hW9H)]; refine wpl_row1 rfl _ _ rfl w5.heap.size (.slice ca cs.length cc) cs ⟨[], d.name, rt, rb⟩ (wc.heap.size + 1) rfl hrow9 rfl hnew ?_ ?_ ?_ ?_; (focus (simp only [maxLen]; omega)); (focus (omega)); (focus (have : W9.heap.size = wc.heap.size + 2 := hsz9; have : w5.heap.size ≤ wc.heap.size := hszH; omega)); intro v4 w4 hr4 f4 hown4; have cap' : ∀ k, (Value.slice ca cs.length cc).ownBlock = some k → w5.heap.size ≤ k ∧ k < wc.heap.size := capH; have kgb : kg < w5.heap.size := hkgb; have kn4 : CoW w4 (w.heap.size + 2) (.slice (some ⟨kg, 0, none⟩) L kc) (List.replicate (F1 + 1) zC ++ (cs.reverse ++ far)) := ((show CoW wc _ _ _ from kncH).keepN f9H).keep f4 (fun k hk e => (by have hh : kg = k := (by simpa [Value.ownBlock] using hk); have := (cap' _ e).1; omega)); have bx4 : w4.heap[wc.heap.size]? = some (coO ⟨[], d.name, rt, rb⟩) := f4.heap hold (fun e => (by have := (cap' _ e).2; omega)); obtain ⟨o0, o1, o2, o3⟩ := con_box bx4; obtain ⟨z0, z1, z2, z3, q0, q1, q2, q3⟩ := zero_at kn4; have kn4H : Hidden (CoW w4 (w.heap.size + 2) (.slice (some ⟨kg, 0, none⟩) L kc) (List.replicate (F1 + 1) zC ++ (cs.reverse ++ far))) := kn4; have f4H : Hidden (Fr (fun b => (Value.slice ca cs.length cc).ownBlock = some b) W9 w4) := f4; have hr4H : Hidden (CoW w4 w5.heap.size v4 (cs ++ [⟨[], d.name, rt, rb⟩])) := hr4; have hown4H : Hidden (v4.ownBlock = (Value.slice ca cs.length cc).ownBlock ∨ v4.ownBlock = some W9.heap.size) := hown4; clear bx4 kn4 f4 hr4 hown4 cap' kgb)
                have h9 : W9.heap.size = wc.heap.size + 2 := hsz9
                have h5 : w5.heap.size ≤ wc.heap.size := hszH
                have vap : ∀ k, (Value.slice va vs.length vc).ownBlock = some k → w5.heap.size ≤ k ∧ k < wc.heap.size := vapH
                have cap' : ∀ k, (Value.slice ca cs.length cc).ownBlock = some k → w5.heap.size ≤ k ∧ k < wc.heap.size := capH
                have kgb : kg < w5.heap.size := hkgb
                have f4 : Fr (fun b => (Value.slice ca cs.length cc).ownBlock = some b) W9 w4 := f4H
                have hr4 : CoW w4 w5.heap.size v4 (cs ++ [⟨[], d.name, rt, rb⟩]) := hr4H
                have fs := s4_fr w4 kg (F1 * 4) ⟨[], d.name, rt, rb⟩
                have kn5 := cow_set (show CoW w4 (w.heap.size + 2) _ (List.replicate (F1 + 1) zC ++ (cs.reverse ++ far)) from kn4H) (i := F1) (by simp; omega) ⟨[], d.name, rt, rb⟩
                rw [known_set] at kn5
                have hFF : F1 + 1 + cs.length = m.decls.length := hFH
                have v4b : ∀ k, v4.ownBlock = some k → w5.heap.size ≤ k := fun k hk => (hr4.low k hk).1
                go_roundg (m.decls.length - (i + 1))
                case measure => omega
                case rel =>
                  refine ⟨i + 1, F1, cs ++ [(⟨[], d.name, rt, rb⟩ : Con)], vs, d.name :: seen, by go_num, by omega, rfl, rfl, by simp; omega, by simp; omega, by omega, (show _ = decS far m.decls from hgo2H), ?_, kn5, hr4.keep fs (fun k hk e => by have := v4b k hk; omega), (((show CoW wc _ _ vs from vrcH).keepN f9H).keep f4 (fun k hk e => (show ∀ k, _ → _ ≠ some k from hapH) k e hk)).keep fs (fun k hk e => by have := (vap k hk).1; omega), fun k hk e => ?_, (((show SM wc _ _ _ from secH).later f9H).keep f4 (fun e => by have := (cap' _ e).1; omega)).keep fs (fun e => by have e : w.heap.size + 1 = kg := e; have := (show CoW w4 (w.heap.size + 2) _ _ from kn4H).low kg rfl; omega), (((show Fr FN w wc from fwc).same f9H).over f4 (fun k e => by have := (cap' _ e).1; omega)).over fs (fun k e => by have e : k = kg := e; have := (show CoW w4 (w.heap.size + 2) _ _ from kn4H).low kg rfl; omega), Nat.le_trans (by have := f4.size; omega : w5.heap.size ≤ w4.heap.size) fs.size⟩
                  · intro c hc
                    rcases List.mem_append.1 hc with hc | hc
                    · exact (show ∀ c ∈ cs, U64 c.b from hcuH) c hc
                    · rw [List.mem_singleton.1 hc]; exact hvbH
                  · rcases (show v4.ownBlock = _ ∨ v4.ownBlock = some W9.heap.size from hown4H) with q | q
                    · rw [q] at hk; exact (show ∀ k, _ → _ ≠ some k from hapH) k hk e
                    · rw [q] at hk
                      have := (vap k e).2
                      have : W9.heap.size = k := by simpa using hk
                      omega

              · have hgo2 : ([], [], (i : Int), re) = decS far m.decls := by
                  have := (show _ = decS far m.decls from hgoH)
                  rw [if_pos (by simpa using hre)] at this
                  exact this
                have b1 : (re != 0) = true := by simpa using hre
                clear hgoH hre
                go_wp2_with fail
                refine bodyPost_ret (results_tmp4 rfl _ _ _) rfl ?_
                rw [← hgo2]
                exact ⟨_, _, rfl, CoW.none _ _, CoW.none _ _, fwc⟩
          · rw [hk1] at e0 d0 hl hput hbx6H
            have kV' : ∀ u, Fr FN w6 u → Calls Tryz.prog 65 #[.agg #[ci 2, .bool d.ex, ct d.name, ci d.type, .slice p1 d.params.length q1, .slice p2 d.e.len q2, .slice p3 d.body.len q3], .slice sa n2 kc2] u fun e w' => e = .returned (.tuple #[vv (rt, rb), ci re]) ∧ Fr FN u w' := fun u hu => by have := kV u hu; dsimp only [deV] at this; rw [hk1] at this; exact this
            have fw6H : Hidden (Fr FN w w6) := fw6
            have hgoH : Hidden (_ = decS far m.decls) := hgo
            have hvbH : Hidden (U64 rb) := hvb
            have hkn6H : Hidden (CoW w6 (w.heap.size + 2) (.slice (some ⟨kg, 0, none⟩) L kc) (List.replicate F zC ++ (cs.reverse ++ far))) := kn6
            clear kV hcol kn6 hdr hok2 hkn hL hll hLe hF hn2 hkc2 hsa hlow fw6 hgo hvb
            go_wp2_with fail
            clear hmm hmk d0 d1 d2 d3 d4 d5 d6 hl hput hfrH hset hbox hrow f4 g5 set5
            go_cut [17, 18] (fun pv ev wx => ev = ci re ∧ ∃ g, pv = .pointer (some ⟨g, 0, none⟩) ∧ wx.heap[g]? = some (.cells #[ci rt, .int .u64 rb] 54 (0, 0)) ∧ w6.heap.size ≤ g ∧ Fr FN w6 wx)
            case first =>
              have nn6 := World.new_ne w6 _ e0
              go_region_held3 (fun w' => w'.cell? ⟨wr.heap.size, 0, none⟩ = some (ci 2) ∧ w'.cell? ⟨wr.heap.size, 1, none⟩ = some (.bool d.ex) ∧ w'.cell? ⟨wr.heap.size, 2, none⟩ = some (ct d.name) ∧ w'.cell? ⟨wr.heap.size, 3, none⟩ = some (ci d.type) ∧ w'.cell? ⟨wr.heap.size, 4, none⟩ = some (.slice p1 d.params.length q1) ∧ w'.cell? ⟨wr.heap.size, 5, none⟩ = some (.slice p2 d.e.len q2) ∧ w'.cell? ⟨wr.heap.size, 6, none⟩ = some (.slice p3 d.body.len q3)) (first | (refine ⟨by with_reducible assumption, by with_reducible assumption, by with_reducible assumption, by with_reducible assumption, by with_reducible assumption, by with_reducible assumption, by with_reducible assumption⟩) | go_keep) (first
                | (go_at_call 65; (with_reducible refine Calls.mono (kV' w6.drew (Fr.drew _ _)) ?_); rintro e w7 ⟨rfl, f7⟩; have f67 : Fr FN w6 w7 := (Fr.drew _ _).same f7; have r0 := f67.cellN e0; have r1 := f67.cellN e1; have r2 := f67.cellN e2; have r3 := f67.cellN e3; have r4 := f67.cellN e4; have r5 := f67.cellN e5; have r6 := f67.cellN e6; have nn7 := World.new_ne w7 _ r0)
                | (go_at_call 65; (with_reducible refine Calls.mono (kV' ((w6.alloc (.cells #[ci 0, .int .u64 0] 54 (0, 0))).drew) ((Fr.alloc _ _ _).same (Fr.drew _ _))) ?_); rintro e w7 ⟨rfl, f7⟩; have f67 : Fr FN w6 w7 := ((Fr.alloc _ _ _).same (Fr.drew _ _)).same f7; have hbz : w7.heap[w6.heap.size]? = some (.cells #[ci 0, .int .u64 0] 54 (0, 0)) := ((Fr.drew FN _).same f7).heap (alloc_new w6 _) (fun f => f); obtain ⟨bz0, bz1, bz2, bz3⟩ := box2 hbz; have r0 := f67.cellN e0; have r1 := f67.cellN e1; have r2 := f67.cellN e2; have r3 := f67.cellN e3; have r4 := f67.cellN e4; have r5 := f67.cellN e5; have r6 := f67.cellN e6))
              all_goals go_wp2_with fail
              all_goals go_meet
              all_goals refine ⟨rfl, ?_⟩
              all_goals first
                | exact ⟨_, rfl, alloc_new _ _, f67.size, f67.same (Fr.alloc _ _ _)⟩
                | exact ⟨_, rfl, two_put hbz _ _, Nat.le_refl _, f67.over (two_at w7 _ _ _) (fun b e => by subst e; exact Nat.le_refl _)⟩
            case rest =>
              obtain ⟨rfl, g, rfl, hg, hgb, fx⟩ := hcut
              obtain ⟨x0, x1, x2, x3, x4, x5, x6⟩ := ex_box (fx.heap (show w6.heap[wr.heap.size]? = _ from hbx6H) (fun f => f))
              obtain ⟨y0, y1, _, _⟩ := box2 hg
              have fwc : Hidden (Fr FN w wc) := (show Fr FN w w6 from fw6H).same fx
              have g6 : Fr (fun k => k = w.heap.size + 1) wr w6 := g6H
              have gxc : Fr (fun k => k = w.heap.size + 1) wr wc := g6.same (fx.mono fun _ _ f => f.elim)
              have hs5 : w.heap.size + 3 ≤ w5.heap.size := sz5
              have sec : SM wc (w.heap.size + 1) (i + 1) (d.name :: seen) := (show SM w6 _ _ _ from hse6H).later fx
              have crc : CoW wc w5.heap.size (.slice ca cs.length cc) cs := (show CoW wr _ _ _ from hcrH).keep gxc (fun k hk e => by have := ((show CoW wr _ _ _ from hcrH).low k hk).1; omega)
              have vrc : CoW wc w5.heap.size (.slice va vs.length vc) vs := (show CoW wr _ _ _ from hvrH).keep gxc (fun k hk e => by have := ((show CoW wr _ _ _ from hvrH).low k hk).1; omega)
              have knc : CoW wc (w.heap.size + 2) (.slice (some ⟨kg, 0, none⟩) L kc) (List.replicate F zC ++ (cs.reverse ++ far)) := (show CoW w6 _ _ _ from hkn6H).keepN fx
              have szc : w6.heap.size ≤ wc.heap.size := fx.size
              have secH : Hidden (SM wc (w.heap.size + 1) (i + 1) (d.name :: seen)) := sec
              have crcH : Hidden (CoW wc w5.heap.size (.slice ca cs.length cc) cs) := crc
              have vrcH : Hidden (CoW wc w5.heap.size (.slice va vs.length vc) vs) := vrc
              have kncH : Hidden (CoW wc (w.heap.size + 2) (.slice (some ⟨kg, 0, none⟩) L kc) (List.replicate F zC ++ (cs.reverse ++ far))) := knc
              have capR : ∀ k, (Value.slice ca cs.length cc).ownBlock = some k → w5.heap.size ≤ k ∧ k < wc.heap.size := fun k hk => crc.low k hk
              have vapR : ∀ k, (Value.slice va vs.length vc).ownBlock = some k → w5.heap.size ≤ k ∧ k < wc.heap.size := fun k hk => vrc.low k hk
              have capH : Hidden (∀ k, (Value.slice ca cs.length cc).ownBlock = some k → w5.heap.size ≤ k ∧ k < wc.heap.size) := capR
              have vapH : Hidden (∀ k, (Value.slice va vs.length vc).ownBlock = some k → w5.heap.size ≤ k ∧ k < wc.heap.size) := vapR
              have hapH : Hidden (∀ k, (Value.slice ca cs.length cc).ownBlock = some k → (Value.slice va vs.length vc).ownBlock ≠ some k) := hap
              have hkgb : Hidden (kg < w5.heap.size) := (show ∀ k, _ → k < w5.heap.size from hkb) kg rfl
              have hszH : Hidden (w5.heap.size ≤ wc.heap.size) := (by omega : w5.heap.size ≤ wc.heap.size)
              have hcuH : Hidden (∀ c ∈ cs, U64 c.b) := hcu
              have hbn : m.decls.length + far.length ≤ 1048576 := hbH
              clear hap sec crc vrc knc capR vapR fx hg gxc g6 hgb hcu
              by_cases hre : re = 0
              · subst hre
                have hgo2 : (if 2 = (2 : Int) then decGo far (m.decls.drop (i + 1)) (i + 1) (d.name :: seen) cs (vs ++ [⟨[], d.name, rt, rb⟩]) else decGo far (m.decls.drop (i + 1)) (i + 1) (d.name :: seen) (cs ++ [⟨[], d.name, rt, rb⟩]) vs) = decS far m.decls := by
                  have := (show _ = decS far m.decls from hgoH)
                  rw [if_neg (by simp), hk1] at this
                  exact this
                rw [if_pos rfl] at hgo2
                have hgo2H : Hidden (_ = decS far m.decls) := hgo2
                clear hgo2 hgoH
                obtain ⟨W9, hW9⟩ : ∃ W, W = (wc.alloc (coO ⟨[], d.name, rt, rb⟩)).alloc (coO ⟨[], d.name, rt, rb⟩) := ⟨_, rfl⟩
                have f9 : Fr FN wc W9 := by rw [hW9]; exact (Fr.alloc _ _ _).same (Fr.alloc _ _ _)
                have hnew : Hidden (W9.heap[wc.heap.size + 1]? = some (coO ⟨[], d.name, rt, rb⟩)) := by rw [hW9]; exact alloc_at _ _ _ (by simp)
                have hold : Hidden (W9.heap[wc.heap.size]? = some (coO ⟨[], d.name, rt, rb⟩)) := by rw [hW9]; exact (alloc_old _ _ _ (by simp)).trans (alloc_new _ _)
                have hsz9 : Hidden (W9.heap.size = wc.heap.size + 2) := by rw [hW9]; simp [Hidden]
                have f9H : Hidden (Fr FN wc W9) := f9
                have hW9H : Hidden (W9 = _) := hW9
                clear hW9 f9
                have x0' := (Fr.alloc FN wc (coO ⟨[], d.name, rt, rb⟩)).cellN x0
                have hrow9 : Hidden (CoW W9 w5.heap.size (.slice va vs.length vc) vs) := (show CoW wc _ _ vs from vrcH).keepN f9H
                go_wp2_with (at_builtin; rw [← (show W9 = _ from hW9H)]; refine wpl_row1 rfl _ _ rfl w5.heap.size (.slice va vs.length vc) vs ⟨[], d.name, rt, rb⟩ (wc.heap.size + 1) rfl hrow9 rfl hnew ?_ ?_ ?_ ?_; (focus (simp only [maxLen]; omega)); (focus (omega)); (focus (have : W9.heap.size = wc.heap.size + 2 := hsz9; have : w5.heap.size ≤ wc.heap.size := hszH; omega)); intro v4 w4 hr4 f4 hown4)
                have h9 : W9.heap.size = wc.heap.size + 2 := hsz9
                have h5 : w5.heap.size ≤ wc.heap.size := hszH
                have vap : ∀ k, (Value.slice va vs.length vc).ownBlock = some k → w5.heap.size ≤ k ∧ k < wc.heap.size := vapH
                have cap' : ∀ k, (Value.slice ca cs.length cc).ownBlock = some k → w5.heap.size ≤ k ∧ k < wc.heap.size := capH
                have kgb : kg < w5.heap.size := hkgb
                go_roundg (m.decls.length - (i + 1))
                case measure => omega
                case rel =>
                  refine ⟨i + 1, F, cs, vs ++ [(⟨[], d.name, rt, rb⟩ : Con)], d.name :: seen, by go_num, by omega, rfl, rfl, hFH, by omega, by simp; omega, (show _ = decS far m.decls from hgo2H), hcuH, ((show CoW wc _ _ _ from kncH).keepN f9H).keep f4 (fun k hk e => ?_), ((show CoW wc _ _ cs from crcH).keepN f9H).keep f4 (fun k hk e => (show ∀ k, _ → _ ≠ some k from hapH) k hk e), hr4, fun k hk e => ?_, ((show SM wc _ _ _ from secH).later f9H).keep f4 (fun e => by have := (vap _ e).1; omega), ((show Fr FN w wc from fwc).same f9H).over f4 (fun k e => by have := (vap _ e).1; omega), by have := f4.size; omega⟩
                  · have : kg = k := by simpa [Value.ownBlock] using hk
                    have := (vap _ e).1
                    omega
                  · rcases hown4 with q | q
                    · rw [q] at e; exact (show ∀ k, _ → _ ≠ some k from hapH) k hk e
                    · rw [q] at e
                      have := (cap' k hk).2
                      have : W9.heap.size = k := by simpa using e
                      omega

              · have hgo2 : ([], [], (i : Int), re) = decS far m.decls := by
                  have := (show _ = decS far m.decls from hgoH)
                  rw [if_pos (by simpa using hre)] at this
                  exact this
                have b1 : (re != 0) = true := by simpa using hre
                clear hgoH hre
                go_wp2_with fail
                refine bodyPost_ret (results_tmp4 rfl _ _ _) rfl ?_
                rw [← hgo2]
                exact ⟨_, _, rfl, CoW.none _ _, CoW.none _ _, fwc⟩
    · have hie : i = m.decls.length := by omega
      subst hie
      rw [List.drop_length] at hgo
      unfold decGo at hgo
      go_wp2_with fail
      refine bodyPost_ret (results_tmp4 rfl _ _ _) rfl ?_
      rw [← hgo]
      exact ⟨_, _, rfl, cow_base hcr (by have : w.heap.size + 3 ≤ w5.heap.size := sz5; omega), cow_base hvr (by have : w.heap.size + 3 ≤ w5.heap.size := sz5; omega), hfrH⟩
end Go.Proofs.YtpjahcncknccdaaGreat.Fo
