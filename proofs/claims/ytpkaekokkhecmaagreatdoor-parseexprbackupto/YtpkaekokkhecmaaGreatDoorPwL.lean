/- The program's parser: a module. -/
import Derived.Test.YtpkaekokkhecmaaGreatDoorPwK
namespace Go.Proofs.YtpkaekokkhecmaaGreatDoor
open Go.RowKit Lx Te
set_option linter.unusedSimpArgs false
set_option linter.unusedVariables false
set_option linter.unusedSectionVars false

/-- A module that was made since. -/
def TM (m : Mo) (v : Value) (w w' : World) : Prop := ∃ ao cap ao' cap', v = .agg #[ct m.name, .slice ao m.imports.length cap, .slice ao' m.decls.length cap'] ∧ Nw w.heap.size w' (fun w => SvL w ao cap m.imports ∧ DeL w ao' cap' m.decls)
theorem info_mo : (Tryz.prog.info? 44).map (·.size) = some 3 := by kernel_rfl
abbrev mo0 : Obj := .cells #[.string ⟨#[]⟩, .slice none 0 0, .slice none 0 0] 44 (0, 0)
theorem set_three {w : World} {g : Nat} {a b c : Value} {t : TypeId} (hg : w.heap[g]? = some (.cells #[a, b, c] t (0, 0))) (v0 v1 v2 : Value) :
    (((w.setCell ⟨g, 0, none⟩ v0).setCell ⟨g, 1, none⟩ v1).setCell ⟨g, 2, none⟩ v2).heap[g]? = some (.cells #[v0, v1, v2] t (0, 0)) := by
  have h1 := heap_setCell_same w g 0 _ t v0 hg
  have h2 := heap_setCell_same _ g 1 _ t v1 h1
  exact heap_setCell_same _ g 2 _ t v2 h2
theorem beqN (n k : Nat) : ((n : Int) == (k : Int)) = (n == k) := by
  by_cases h : n = k
  · subst h; simp
  · have h1 : (n == k) = false := by simpa using h
    rw [h1, beq_eq_false_iff_ne]
    omega
set_option maxRecDepth 20000 in
set_option maxHeartbeats 4000000 in
/-- module. -/
theorem mdl_c (g : Nat) (hg : g ≤ 3000) (q : Nat) (ts : List Tok) (rs : Pz.Rs Mo) (hs : Hidden (Pz.mdl g ts = some rs)) (w : World) (h : Ps w q ts 0 false) :
    Calls Tryz.prog 25 #[pp q] w (Out TM q 0 w rs) := by
  have hE : CE0 (Pz.E0 g) := fun d ts rs q w hd hs h => expr_c g hg false d ts rs q w hd hs h
  have hC : CC0 (Pz.C0 g) := fun d x ao n cap ts rs q w hd hs h => call_c (expr_c g hg) g hg q x ao n cap ts d hd rs hs w h
  have hB : CB0 (Pz.B0 g) := blk_c hE hC g hg g
  have kD := fun (acc : List De) ts rs w => dcl_c hE hB g hg q ts (acc.length == 64) rs (w := w)
  clear hE hC hB

  have hq := h.lt
  have f0 := Fr.alloc (fun _ => False) w mo0
  have g0 : Fr (fun k => k = q) w (w.alloc mo0) := frq f0
  have hP0 : Hidden (Ps (w.alloc mo0) q ts 0 false) := h.keepN f0
  have hb0 : Hidden ((w.alloc mo0).heap[w.heap.size]? = some mo0) := alloc_new _ _
  clear h
  go_enter Tryz.func25, Tryz.ntmps25
  go_wp2_with fail
  go_at_call 44
  obtain ⟨r1, e1, hs⟩ := Pz.bd_some hs
  refine (must_c q [109, 111, 100, 117, 108, 101] ts 0 false r1 e1 _ hP0).mono ?_
  clear e1
  rcases r1 with ⟨u, ts1⟩ | ⟨p, c⟩
  rotate_left
  · obtain rfl : rs = .er p c := hs
    rintro e W1 ⟨rfl, f1⟩
    unfold gP
    go_wp2_with fail
    exact ⟨rfl, rfl, g0.same f1⟩
  rintro e W1 ⟨v1, rfl, rfl, hQ1, f1⟩
  have g1 := g0.same f1
  have s1 := f1.size
  have t1 := g1.size
  have hP1 : Hidden (Ps W1 q ts1 0 false) := hQ1
  clear hQ1
  simp only [World.size_alloc] at s1
  have hb0_1 : Hidden (W1.heap[w.heap.size]? = some (mo0)) := f1.heap hb0 (by omega)
  go_wp2_with fail
  go_at_call 45
  obtain ⟨r2, e2, hs⟩ := Pz.bd_some hs
  refine (name_c q ts1 0 false r2 e2 _ hP1).mono ?_
  clear e2
  rcases r2 with ⟨n, ts2⟩ | ⟨p, c⟩
  rotate_left
  · obtain rfl : rs = .er p c := hs
    rintro e W2 ⟨rfl, f2⟩
    unfold gP
    go_wp2_with fail
    exact ⟨rfl, rfl, g1.same f2⟩
  rintro e W2 ⟨v2, rfl, rfl, hQ2, f2⟩
  have g2 := g1.same f2
  have s2 := f2.size
  have t2 := g2.size
  have hP2 : Hidden (Ps W2 q ts2 0 false) := hQ2
  clear hQ2
  have hb0_2 : Hidden (W2.heap[w.heap.size]? = some (mo0)) := f2.heap hb0_1 (by omega)
  have fab1 := Fr.alloc (fun _ => False) W2 (.cells #[ct n, .slice none 0 0, .slice none 0 0] 44)
  have gb1 : Fr (fun k => k = q) w (W2.alloc (.cells #[ct n, .slice none 0 0, .slice none 0 0] 44)) := g2.same (frq fab1)
  have hPb1 : Hidden (Ps (W2.alloc (.cells #[ct n, .slice none 0 0, .slice none 0 0] 44)) q ts2 0 false) := Ps.keepN hP2 fab1
  have hnb1 : Hidden ((W2.alloc (.cells #[ct n, .slice none 0 0, .slice none 0 0] 44)).heap[W2.heap.size]? = some (.cells #[ct n, .slice none 0 0, .slice none 0 0] 44)) := alloc_new _ _
  have hb0_b1 : Hidden ((W2.alloc (.cells #[ct n, .slice none 0 0, .slice none 0 0] 44)).heap[w.heap.size]? = some (mo0)) := fab1.heap hb0_2 (fun f => f)
  go_wp2_with fail
  go_at_call 44
  obtain ⟨r3, e3, hs⟩ := Pz.bd_some hs
  refine (must_c q [59] ts2 0 false r3 e3 _ hPb1).mono ?_
  clear e3
  rcases r3 with ⟨u3, ts3⟩ | ⟨p, c⟩
  rotate_left
  · obtain rfl : rs = .er p c := hs
    rintro e W3 ⟨rfl, f3⟩
    unfold gP
    go_wp2_with fail
    exact ⟨rfl, rfl, gb1.same f3⟩
  rintro e W3 ⟨v3, rfl, rfl, hQ3, f3⟩
  have g3 := gb1.same f3
  have s3 := f3.size
  have t3 := g3.size
  have hP3 : Hidden (Ps W3 q ts3 0 false) := hQ3
  clear hQ3
  simp only [World.size_alloc] at s3
  have hb0_3 : Hidden (W3.heap[w.heap.size]? = some (mo0)) := f3.heap hb0_b1 (by omega)
  have hb1_3 : Hidden (W3.heap[W2.heap.size]? = some (.cells #[ct n, .slice none 0 0, .slice none 0 0] 44)) := f3.heap hnb1 (by omega)
  obtain ⟨r4, e4, hs⟩ := Pz.bd_some hs
  have hs4 : Hidden (Pz.imps g [] ts3 = some r4) := e4
  clear e4
  go_wp2_with fail
  have hsB : W2.heap.size + 1 ≤ W3.heap.size := s3
  go_loopg [12] g (fun k _ wr => ∃ (lv : Value) (acc : List Bs) (us : List Tok), Pz.imps k acc us = some r4 ∧ wr.heap[W2.heap.size]? = some (.cells #[ct n, lv, .slice none 0 0] 44 (0, 0)) ∧ wr.heap[w.heap.size]? = some mo0 ∧ Row RT 9 1 wr W3.heap.size lv acc ∧ acc.length + k ≤ g ∧ Ps wr q us 0 false ∧ Fr (fun k => k = q) w wr ∧ W3.heap.size ≤ wr.heap.size)
  case atStart => exact ⟨.slice none 0 0, [], ts3, hs4, hb1_3, hb0_3, Row.nil _ _ _ _ _, by simp, hP3, g3, Nat.le_refl _⟩
  case round =>
    obtain ⟨lv, acc, us, hspec, hb1w, hb0w, hrow, hlen, hps, hfr, hsz⟩ := hrel
    have hspecH : Hidden (Pz.imps gk acc us = some r4) := hspec
    have hb1H : Hidden (wr.heap[W2.heap.size]? = some (.cells #[ct n, lv, .slice none 0 0] 44 (0, 0))) := hb1w
    have hb0H : Hidden (wr.heap[w.heap.size]? = some mo0) := hb0w
    have hrowH : Hidden (Row RT 9 1 wr W3.heap.size lv acc) := hrow
    have hpsH : Hidden (Ps wr q us 0 false) := hps
    have hlenH : Hidden (acc.length + gk ≤ g) := hlen
    clear hspec hb1w hb0w hps hlen hs4 hrow
    cases gk with
    | zero => exact absurd hspecH (by simp [Hidden, Pz.imps])
    | succ gk =>
      cases us with
      | nil => exact absurd hspecH (by simp [Hidden, Pz.imps])
      | cons t r =>
        have hs3 : Pz.imps (gk + 1) acc (t :: r) = some r4 := hspecH
        rw [Pz.imps] at hs3
        by_cases hx : t.x = [105, 109, 112, 111, 114, 116]
        · rw [if_pos hx] at hs3
          have hs5 : Hidden (Pz.bd _ _ = some r4) := hs3
          have ki := is_any q [105, 109, 112, 111, 114, 116] t r 0 false true (by simp [Hidden, hx]) wr hpsH
          clear hspecH hs3 hx
          obtain ⟨aor, capr, rfl, hlenr, hcapr⟩ := Row.shape hrowH
          go_wp2_with fail
          go_at_call 46
          refine ki.mono ?_
          rintro e V1 ⟨rfl, f1'⟩
          have hp1 : Hidden (Ps V1 q (t :: r) 0 false) := Ps.keepN hpsH f1'
          have b1v := f1'.heap hb1H (fun f => f)
          obtain ⟨bc0, bc1, bc2, bz0, bz1, bz2⟩ := box3 b1v
          have b1vH : Hidden (V1.heap[W2.heap.size]? = some (.cells #[ct n, .slice aor acc.length capr, .slice none 0 0] 44 (0, 0))) := b1v
          have hrow1 : Hidden (Row RT 9 1 V1 W3.heap.size (.slice aor acc.length capr) acc) := Row.keep hrowH f1' (fun _ f => f.elim)
          have sv1 := f1'.size
          have hqW : q < W3.heap.size := by omega
          clear b1v
          go_wp2_with fail
          go_at_call 47
          obtain ⟨r5, e5, hs6⟩ := Pz.bd_some hs5
          refine (moreS_c q W3.heap.size (.slice aor acc.length capr) acc 16 (t :: r) 0 false (acc.length == 16) r5 V1 (beqN _ 16) (by have h9 : acc.length + (gk + 1) ≤ g := hlenH; omega) hrow1 hqW (by omega) (fun w1 hp => imp1_c q (t :: r) 0 _ r5 e5 w1 hp) hp1).mono ?_
          clear e5
          rcases r5 with ⟨x, ts5⟩ | ⟨p, c⟩
          rotate_left
          · obtain rfl : r4 = .er p c := hs6
            obtain rfl : rs = .er p c := hs
            rintro e V2 ⟨rfl, f2'⟩
            unfold gP
            go_wp2_with fail
            exact ⟨rfl, rfl, (hfr.same (frq f1')).same f2'⟩
          rintro e V2 ⟨v5, rfl, hr5, hQ5, f2'⟩
          have hown := Row.own hrow1
          have b12 : Hidden (V2.heap[W2.heap.size]? = some (.cells #[ct n, .slice aor acc.length capr, .slice none 0 0] 44 (0, 0))) := f2'.heap b1vH (fun hk => by rcases hk with hk | hk; (omega); (have := (hown _ hk).1; omega))
          have b02 : Hidden (V2.heap[w.heap.size]? = some mo0) := f2'.heap (f1'.heap hb0H (fun f => f)) (fun hk => by rcases hk with hk | hk; (omega); (have := (hown _ hk).1; omega))
          obtain ⟨ec0, ec1, ec2, ez0, ez1, ez2⟩ := box3 b12
          have sv2 := f2'.size
          have hQ5H : Hidden (Ps V2 q ts5 0 false) := hQ5
          have g5 : Fr (fun k => k = q) w V2 := (hfr.same (frq f1')).trans f2' (fun k hk hs => by rcases hs with hs | hs; (exact hs); (have := (hown _ hs).1; omega))
          clear hQ5 bc0 bc1 bc2 bz0 bz1 bz2
          obtain ⟨ao5, cap5, hv5, hl5, hc5⟩ := hr5.shape
          obtain rfl : v5 = .slice ao5 (acc.length + 1) cap5 := by rw [hv5]; simp
          clear hv5 hl5
          go_wp2_with fail
          have fp := Fr.put V2 W2.heap.size 1 (.slice ao5 (acc.length + 1) cap5)
          go_roundg gk
          case measure => omega
          case rel => exact ⟨_, acc ++ [x], ts5, hs6, heap_setCell_same _ _ 1 _ _ _ b12, fp.heap b02 (by omega), hr5.keep fp (fun k hk => by subst hk; omega), by have h9 : acc.length + (gk + 1) ≤ g := hlenH; simp only [List.length_append, List.length_cons, List.length_nil]; omega, Ps.high hQ5H fp (fun k hk => by subst hk; omega), g5.over fp (fun k hk => by subst hk; omega), by simp; omega⟩
        · rw [if_neg hx] at hs3
          obtain rfl : r4 = .ok acc (t :: r) := (Option.some.inj hs3).symm
          have ki := is_any q [105, 109, 112, 111, 114, 116] t r 0 false false (by simpa [Hidden] using hx) wr hpsH
          clear hspecH hs3 hx
          obtain ⟨aoi, capi, rfl, hNi⟩ := Row.held hrowH
          have hNi2 : Nw W3.heap.size wr (fun w => SvL w aoi capi acc) := fun w1 hf => svL_of (hNi w1 hf)
          clear hNi
          go_wp2_with fail
          go_at_call 46
          refine ki.mono ?_
          rintro e V1 ⟨rfl, f1'⟩
          have hp1 : Hidden (Ps V1 q (t :: r) 0 false) := Ps.keepN hpsH f1'
          have b11 : Hidden (V1.heap[W2.heap.size]? = some (.cells #[ct n, .slice aoi acc.length capi, .slice none 0 0] 44 (0, 0))) := f1'.heap hb1H (fun f => f)
          have b01 : Hidden (V1.heap[w.heap.size]? = some mo0) := f1'.heap hb0H (fun f => f)
          have hNi3 := hNi2.step f1' (fun _ f => f.elim)
          have gv1 := hfr.same (frq f1')
          have sv1 := f1'.size
          obtain ⟨r6, e6, hs7⟩ := Pz.bd_some hs
          have hs8 : Hidden (Pz.dcls (Pz.E0 g) (Pz.B0 g) g g [] (t :: r) = some r6) := e6
          have hlg : Hidden (acc.length + (gk + 1) ≤ g) := hlenH
          clear e6 hrowH hpsH hb1H hb0H hlenH
          obtain ⟨Bq, hBq⟩ : ∃ Bq, Bq = V1.heap.size := ⟨_, rfl⟩
          have hB1 : W2.heap.size + 1 ≤ Bq := by omega
          have hB2 : q < Bq := by omega
          go_wp2_with fail
          go_loopg [20] g (fun k _ wq => ∃ (lv : Value) (da : List De) (us : List Tok), Pz.dcls (Pz.E0 g) (Pz.B0 g) g k da us = some r6 ∧ wq.heap[W2.heap.size]? = some (.cells #[ct n, .slice aoi acc.length capi, lv] 44 (0, 0)) ∧ wq.heap[w.heap.size]? = some mo0 ∧ Row RD 50 7 wq V1.heap.size lv da ∧ da.length + k ≤ g ∧ Ps wq q us 0 false ∧ Fr (fun k => k = q) w wq ∧ V1.heap.size ≤ wq.heap.size ∧ Nz W3.heap.size W2.heap.size wq (fun w => SvL w aoi capi acc) ∧ Fr (fun k => k < W3.heap.size) V1 wq)
          case atStart => exact ⟨.slice none 0 0, [], t :: r, hs8, b11, b01, Row.nil _ _ _ _ _, by simp, hp1, gv1, Nat.le_refl _, hNi3.old (by omega) (Nat.le_refl _), Fr.refl _ _⟩
          case round =>
            obtain ⟨lv, da, us, hspec, hb1w, hb0w, hrow, hlen, hps, hfrq, hszq, hNzi, hFi⟩ := hrel
            have hspecH : Hidden (Pz.dcls (Pz.E0 g) (Pz.B0 g) g gk da us = some r6) := hspec
            have hb1H : Hidden (wr.heap[W2.heap.size]? = some (.cells #[ct n, .slice aoi acc.length capi, lv] 44 (0, 0))) := hb1w
            have hb0H : Hidden (wr.heap[w.heap.size]? = some mo0) := hb0w
            have hrowH : Hidden (Row RD 50 7 wr V1.heap.size lv da) := hrow
            have hpsH : Hidden (Ps wr q us 0 false) := hps
            have hlenH : Hidden (da.length + gk ≤ g) := hlen
            clear hspec hb1w hb0w hps hlen hs8 hrow
            cases gk with
            | zero => exact absurd hspecH (by simp [Hidden, Pz.dcls])
            | succ gk =>
              cases us with
              | nil => exact absurd hspecH (by simp [Hidden, Pz.dcls])
              | cons t' r' =>
                cases r' with
                | nil =>
                  have hs3 : Pz.dcls (Pz.E0 g) (Pz.B0 g) g (gk + 1) da [t'] = some r6 := hspecH
                  rw [Pz.dcls] at hs3
                  obtain rfl : r6 = .ok da [t'] := (Option.some.inj hs3).symm
                  obtain rfl : rs = .ok ⟨n, acc, da⟩ [t'] := (Option.some.inj (show some _ = some rs from hs7)).symm
                  have ki := atEnd_any q [t'] 0 false true rfl wr hpsH
                  clear hspecH hs3
                  obtain ⟨aod, capd, rfl, hNd⟩ := Row.held hrowH
                  have hNd2 : Nw V1.heap.size wr (fun w => DeL w aod capd da) := fun w1 hf => deL_of (hNd w1 hf)
                  obtain ⟨bc0, bc1, bc2, bz0, bz1, bz2⟩ := box3 hb1H
                  obtain ⟨ac0, ac1, ac2, az0, az1, az2⟩ := box3 hb0H
                  clear hNd hrowH
                  go_wp2_with fail
                  go_at_call 49
                  refine ki.mono ?_
                  rintro e V2 ⟨rfl, rfl⟩
                  go_wp2_with fail
                  have fs := set3_fr V2 w.heap.size (ct n) (.slice aoi acc.length capi) (.slice aod da.length capd)
                  exact post_one (results_cell_row rfl _ _ _ _ _ _ _ rfl (set_three hb0H _ _ _) Tryz.underlying44 rfl info_mo) rfl ⟨_, rfl, ⟨aoi, capi, aod, capd, rfl, fun w2 hf => ⟨((hNzi.nw.step fs (fun k hk => by subst hk; omega)).weak (by omega)) w2 hf, ((hNd2.step fs (fun k hk => by subst hk; omega)).weak (by omega)) w2 hf⟩⟩, Ps.high hpsH fs (fun k hk => by subst hk; exact hq), hfrq.over fs (fun k hk => by subst hk; exact Nat.le_refl _)⟩
                | cons u' r'' =>
                  have hs3 : Pz.dcls (Pz.E0 g) (Pz.B0 g) g (gk + 1) da (t' :: u' :: r'') = some r6 := hspecH
                  rw [Pz.dcls] at hs3
                  have hs9 : Hidden (Pz.bd _ _ = some r6) := hs3
                  have ki := atEnd_any q (t' :: u' :: r'') 0 false false (by simp only [Hidden, beq_eq_false_iff_ne, List.length_cons]; omega) wr hpsH
                  clear hspecH hs3
                  obtain ⟨aor, capr, rfl, hlenr, hcapr⟩ := Row.shape hrowH
                  obtain ⟨bc0, bc1, bc2, bz0, bz1, bz2⟩ := box3 hb1H
                  have hrowO := Row.own hrowH
                  go_wp2_with fail
                  go_at_call 49
                  refine ki.mono ?_
                  rintro e V2 ⟨rfl, rfl⟩
                  go_wp2_with fail
                  go_at_call 50
                  obtain ⟨r5, e5, hs6⟩ := Pz.bd_some hs9
                  refine (moreD_c q V1.heap.size (.slice aor da.length capr) da 64 (t' :: u' :: r'') 0 false (da.length == 64) r5 V2 (beqN _ 64) (by have h9 : da.length + (gk + 1) ≤ g := hlenH; omega) hrowH (by omega) (by omega) (fun w1 hp => kD da _ r5 w1 e5 hp) hpsH).mono ?_
                  clear e5
                  rcases r5 with ⟨x, ts5⟩ | ⟨p, c⟩
                  rotate_left
                  · obtain rfl : r6 = .er p c := hs6
                    obtain rfl : rs = .er p c := hs7
                    rintro e V3 ⟨rfl, f3'⟩
                    unfold gP
                    go_wp2_with fail
                    exact ⟨rfl, rfl, hfrq.same f3'⟩
                  rintro e V3 ⟨v5, rfl, hr5, hQ5, f3'⟩
                  have b12 : Hidden (V3.heap[W2.heap.size]? = some (.cells #[ct n, .slice aoi acc.length capi, .slice aor da.length capr] 44 (0, 0))) := f3'.heap hb1H (fun hk => by rcases hk with hk | hk; (omega); (have := (hrowO _ hk).1; omega))
                  have b02 : Hidden (V3.heap[w.heap.size]? = some mo0) := f3'.heap hb0H (fun hk => by rcases hk with hk | hk; (omega); (have := (hrowO _ hk).1; omega))
                  obtain ⟨ec0, ec1, ec2, ez0, ez1, ez2⟩ := box3 b12
                  have sv3 := f3'.size
                  have hQ5H : Hidden (Ps V3 q ts5 0 false) := hQ5
                  have g5 : Fr (fun k => k = q) w V3 := hfrq.trans f3' (fun k hk hs => by rcases hs with hs | hs; (exact hs); (have := (hrowO _ hs).1; omega))
                  clear hQ5 bc0 bc1 bc2 bz0 bz1 bz2
                  obtain ⟨ao5, cap5, hv5, hl5, hc5⟩ := hr5.shape
                  obtain rfl : v5 = .slice ao5 (da.length + 1) cap5 := by rw [hv5]; simp
                  clear hv5 hl5
                  go_wp2_with fail
                  have fp := Fr.put V3 W2.heap.size 2 (.slice ao5 (da.length + 1) cap5)
                  have fi3 : Fr (fun k => k < W3.heap.size) V1 V3 := hFi.trans f3' (fun k hk hs => by rcases hs with hs | hs; (omega); (have := (hrowO _ hs).1; omega))
                  have fi4 := fi3.same (fp.mono (fun k _ hk => by subst hk; omega))
                  go_roundg gk
                  case measure => omega
                  case rel => exact ⟨_, da ++ [x], ts5, hs6, heap_setCell_same _ _ 2 _ _ _ b12, fp.heap b02 (by omega), hr5.keep fp (fun k hk => by subst hk; omega), by have h9 : da.length + (gk + 1) ≤ g := hlenH; simp only [List.length_append, List.length_cons, List.length_nil]; omega, Ps.high hQ5H fp (fun k hk => by subst hk; omega), g5.over fp (fun k hk => by subst hk; omega), by simp; omega, (hNi3.step fi4 (fun k hk => hk)).old (by omega) (Nat.le_refl _), fi4⟩

end Go.Proofs.YtpkaekokkhecmaaGreatDoor
