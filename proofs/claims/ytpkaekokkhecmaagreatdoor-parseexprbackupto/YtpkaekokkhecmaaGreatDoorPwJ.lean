/- The program's parser: types, parameters, what stands behind a declaration's word. -/
import Derived.Test.YtpkaekokkhecmaaGreatDoorPwI
namespace Go.Proofs.YtpkaekokkhecmaaGreatDoor
open Go.RowKit Lx Te
set_option linter.unusedSimpArgs false
set_option linter.unusedVariables false
set_option linter.unusedSectionVars false

set_option maxRecDepth 20000 in
set_option maxHeartbeats 1000000 in
theorem typ_c (q : Nat) (ts : List Tok) (d : Nat) (rs : Pz.Rs Int) (hs : Pz.typ ts = some rs) (w : World) (h : Ps w q ts d false) :
    Calls Tryz.prog 98 #[pp q] w (Out (fun n v _ _ => v = ci n) q d w rs) := by
  cases ts with
  | nil => simp [Pz.typ] at hs
  | cons t r =>
    simp only [Pz.typ] at hs
    by_cases h_int : t.x = [105, 110, 116]
    · rw [if_pos h_int] at hs
      obtain rfl : rs = .ok 1 r := (Option.some.inj hs).symm
      clear hs
      have hq := h.lt
      have g0 := Fr.refl (fun k => k = q) w
      have hP0 : Hidden (Ps w q (t :: r) d false) := h
      clear h
      go_enter Tryz.func98, Tryz.ntmps98
      go_wp2_with fail
      go_at_call 80
      refine (has_yes q [105, 110, 116] t r d h_int _ hP0).mono ?_
      rintro e W1 ⟨rfl, hQ1, f1⟩
      have g1 := g0.same f1
      have s1 := f1.size
      have t1 := g1.size
      have hP1 : Hidden (Ps W1 q r d false) := hQ1
      clear hQ1
      clear h_int
      go_wp2_with fail
      go_ret
      exact ⟨_, rfl, rfl, hP1, g1⟩
    by_cases h_float : t.x = [102, 108, 111, 97, 116]
    · rw [if_neg h_int, if_pos h_float] at hs
      obtain rfl : rs = .ok 2 r := (Option.some.inj hs).symm
      clear hs
      have hq := h.lt
      have g0 := Fr.refl (fun k => k = q) w
      have hP0 : Hidden (Ps w q (t :: r) d false) := h
      clear h
      go_enter Tryz.func98, Tryz.ntmps98
      go_wp2_with fail
      go_at_call 80
      refine (has_no q [105, 110, 116] t r d false h_int _ hP0).mono ?_
      rintro e W1 ⟨rfl, F1⟩
      have f1 : Fr (fun k => k = q) _ W1 := frq F1
      have hQ1 := Ps.keepN hP0 F1
      have g1 := g0.same f1
      have s1 := f1.size
      have t1 := g1.size
      have hP1 : Hidden (Ps W1 q (t :: r) d false) := hQ1
      clear hQ1
      go_wp2_with fail
      go_at_call 80
      refine (has_yes q [102, 108, 111, 97, 116] t r d h_float _ hP1).mono ?_
      rintro e W2 ⟨rfl, hQ2, f2⟩
      have g2 := g1.same f2
      have s2 := f2.size
      have t2 := g2.size
      have hP2 : Hidden (Ps W2 q r d false) := hQ2
      clear hQ2
      clear h_float
      go_wp2_with fail
      go_ret
      exact ⟨_, rfl, rfl, hP2, g2⟩
    by_cases h_bool : t.x = [98, 111, 111, 108]
    · rw [if_neg h_int, if_neg h_float, if_pos h_bool] at hs
      obtain rfl : rs = .ok 3 r := (Option.some.inj hs).symm
      clear hs
      have hq := h.lt
      have g0 := Fr.refl (fun k => k = q) w
      have hP0 : Hidden (Ps w q (t :: r) d false) := h
      clear h
      go_enter Tryz.func98, Tryz.ntmps98
      go_wp2_with fail
      go_at_call 80
      refine (has_no q [105, 110, 116] t r d false h_int _ hP0).mono ?_
      rintro e W1 ⟨rfl, F1⟩
      have f1 : Fr (fun k => k = q) _ W1 := frq F1
      have hQ1 := Ps.keepN hP0 F1
      have g1 := g0.same f1
      have s1 := f1.size
      have t1 := g1.size
      have hP1 : Hidden (Ps W1 q (t :: r) d false) := hQ1
      clear hQ1
      go_wp2_with fail
      go_at_call 80
      refine (has_no q [102, 108, 111, 97, 116] t r d false h_float _ hP1).mono ?_
      rintro e W2 ⟨rfl, F2⟩
      have f2 : Fr (fun k => k = q) _ W2 := frq F2
      have hQ2 := Ps.keepN hP1 F2
      have g2 := g1.same f2
      have s2 := f2.size
      have t2 := g2.size
      have hP2 : Hidden (Ps W2 q (t :: r) d false) := hQ2
      clear hQ2
      go_wp2_with fail
      go_at_call 80
      refine (has_yes q [98, 111, 111, 108] t r d h_bool _ hP2).mono ?_
      rintro e W3 ⟨rfl, hQ3, f3⟩
      have g3 := g2.same f3
      have s3 := f3.size
      have t3 := g3.size
      have hP3 : Hidden (Ps W3 q r d false) := hQ3
      clear hQ3
      clear h_bool
      go_wp2_with fail
      go_ret
      exact ⟨_, rfl, rfl, hP3, g3⟩
    rw [if_neg h_int, if_neg h_float, if_neg h_bool] at hs
    obtain rfl : rs = .er t.p 11 := (Option.some.inj hs).symm
    clear hs
    have hq := h.lt
    have g0 := Fr.refl (fun k => k = q) w
    have hP0 : Hidden (Ps w q (t :: r) d false) := h
    clear h
    go_enter Tryz.func98, Tryz.ntmps98
    go_wp2_with fail
    go_at_call 80
    refine (has_no q [105, 110, 116] t r d false h_int _ hP0).mono ?_
    rintro e W1 ⟨rfl, F1⟩
    have f1 : Fr (fun k => k = q) _ W1 := frq F1
    have hQ1 := Ps.keepN hP0 F1
    have g1 := g0.same f1
    have s1 := f1.size
    have t1 := g1.size
    have hP1 : Hidden (Ps W1 q (t :: r) d false) := hQ1
    clear hQ1
    go_wp2_with fail
    go_at_call 80
    refine (has_no q [102, 108, 111, 97, 116] t r d false h_float _ hP1).mono ?_
    rintro e W2 ⟨rfl, F2⟩
    have f2 : Fr (fun k => k = q) _ W2 := frq F2
    have hQ2 := Ps.keepN hP1 F2
    have g2 := g1.same f2
    have s2 := f2.size
    have t2 := g2.size
    have hP2 : Hidden (Ps W2 q (t :: r) d false) := hQ2
    clear hQ2
    go_wp2_with fail
    go_at_call 80
    refine (has_no q [98, 111, 111, 108] t r d false h_bool _ hP2).mono ?_
    rintro e W3 ⟨rfl, F3⟩
    have f3 : Fr (fun k => k = q) _ W3 := frq F3
    have hQ3 := Ps.keepN hP2 F3
    have g3 := g2.same f3
    have s3 := f3.size
    have t3 := g3.size
    have hP3 : Hidden (Ps W3 q (t :: r) d false) := hQ3
    clear hQ3
    go_wp2_with fail
    go_at_call 52
    refine (fault_any q 11 t r d false _ hP3).mono ?_
    rintro e W4 ⟨rfl, F4⟩
    have f4 : Fr (fun k => k = q) _ W4 := frq F4
    have hQ4 := Ps.keepN hP3 F4
    have g4 := g3.same f4
    have s4 := f4.size
    have t4 := g4.size
    have hP4 : Hidden (Ps W4 q (t :: r) d false) := hQ4
    clear hQ4
    (try unfold Out gP)
    go_wp2_with fail
    exact ⟨rfl, rfl, g4⟩

abbrev pa0 : Obj := .cells #[.string ⟨#[]⟩, ci 0] 147 (0, 0)
theorem info_pa : (Tryz.prog.info? 147).map (·.size) = some 2 := by kernel_rfl

set_option maxRecDepth 20000 in
set_option maxHeartbeats 1000000 in
theorem par1_c (q : Nat) (ts : List Tok) (d : Nat) (fl : Bool) (rs : Pz.Rs Pa) (hs : Hidden (Pz.par1 fl ts = some rs)) (w : World) (h : Ps w q ts d fl) :
    Calls Tryz.prog 101 #[pp q] w (Out (fun p v _ _ => v = .agg #[ct p.name, ci p.type]) q d w rs) := by
  have hq := h.lt
  have f0 := Fr.alloc (fun _ => False) w pa0
  have g0 : Fr (fun k => k = q) w (w.alloc pa0) := frq f0
  have hP0 : Hidden (Ps (w.alloc pa0) q ts d fl) := h.keepN f0
  have hb0 : Hidden ((w.alloc pa0).heap[w.heap.size]? = some pa0) := alloc_new _ _
  clear h
  go_enter Tryz.func101, Tryz.ntmps101
  go_wp2_with fail
  go_at_call 45
  obtain ⟨r1, e1, hs⟩ := Pz.bd_some hs
  refine (name_c q ts d fl r1 e1 _ hP0).mono ?_
  clear e1
  rcases r1 with ⟨n, ts1⟩ | ⟨p, c⟩
  rotate_left
  · obtain rfl : rs = .er p c := hs
    rintro e W1 ⟨rfl, f1⟩
    unfold gP
    go_wp2_with fail
    exact ⟨rfl, rfl, g0.same f1⟩
  rintro e W1 ⟨v1, rfl, rfl, hQ1, f1⟩
  have g1 := g0.same f1
  have s1 := f1.size
  have t1 := g1.size
  have hP1 : Hidden (Ps W1 q ts1 d false) := hQ1
  clear hQ1
  simp only [World.size_alloc] at s1
  have hb0_1 : Hidden (W1.heap[w.heap.size]? = some (pa0)) := f1.heap hb0 (by omega)
  go_wp2_with fail
  go_at_call 44
  obtain ⟨r2, e2, hs⟩ := Pz.bd_some hs
  refine (must_c q [58] ts1 d false r2 e2 _ hP1).mono ?_
  clear e2
  rcases r2 with ⟨u, ts2⟩ | ⟨p, c⟩
  rotate_left
  · obtain rfl : rs = .er p c := hs
    rintro e W2 ⟨rfl, f2⟩
    unfold gP
    go_wp2_with fail
    exact ⟨rfl, rfl, g1.same f2⟩
  rintro e W2 ⟨v2, rfl, rfl, hQ2, f2⟩
  have g2 := g1.same f2
  have s2 := f2.size
  have t2 := g2.size
  have hP2 : Hidden (Ps W2 q ts2 d false) := hQ2
  clear hQ2
  have hb0_2 : Hidden (W2.heap[w.heap.size]? = some (pa0)) := f2.heap hb0_1 (by omega)
  go_wp2_with fail
  go_at_call 98
  obtain ⟨r3, e3, hs⟩ := Pz.bd_some hs
  refine (typ_c q ts2 d r3 e3 _ hP2).mono ?_
  clear e3
  rcases r3 with ⟨t, ts3⟩ | ⟨p, c⟩
  rotate_left
  · obtain rfl : rs = .er p c := hs
    rintro e W3 ⟨rfl, f3⟩
    unfold gP
    go_wp2_with fail
    exact ⟨rfl, rfl, g2.same f3⟩
  rintro e W3 ⟨v3, rfl, rfl, hQ3, f3⟩
  have g3 := g2.same f3
  have s3 := f3.size
  have t3 := g3.size
  have hP3 : Hidden (Ps W3 q ts3 d false) := hQ3
  clear hQ3
  have hb0_3 : Hidden (W3.heap[w.heap.size]? = some (pa0)) := f3.heap hb0_2 (by omega)
  obtain rfl : rs = .ok ⟨n, t⟩ ts3 := (Option.some.inj (show some _ = some rs from hs)).symm
  obtain ⟨b0c0, b0c1, b0z0, b0z1⟩ := box2 hb0_3
  go_wp2_with fail
  have fs := set2_fr W3 w.heap.size (ct n) (ci t)
  exact post_one (results_cell_row rfl _ _ _ _ _ _ _ rfl (set_two hb0_3 _ _) Tryz.underlying147 rfl info_pa) rfl ⟨_, rfl, rfl, Ps.high hP3 fs (fun k hk => by subst hk; exact hq), g3.over fs (fun k hk => by subst hk; exact Nat.le_refl _)⟩

theorem info_moreP : (Tryz.prog.info? 147).map (fun i => (i.zero, i.size, i.bytes)) = some (some (.agg #[.string ⟨#[]⟩, .int .i64 0]), 2, 24) := by kernel_rfl
set_option maxRecDepth 20000 in
set_option maxHeartbeats 1000000 in
theorem moreP_c (q B : Nat) (v : Value) (l : List Pa) (most : Int) (ts : List Tok) (d : Nat) (fl fl' : Bool) (rs : Pz.Rs Pa) (w : World) (hfl : ((l.length : Int) == most) = fl') (hl : l.length ≤ 4000) (hr0 : Row RP 147 2 w B v l) (hqB : q < B) (hB : B ≤ w.heap.size)
    (k1 : ∀ w1, Ps w1 q ts d fl' → Calls Tryz.prog 101 #[pp q] w1 (Out (fun p v _ _ => v = .agg #[ct p.name, ci p.type]) q d w1 rs)) (h : Ps w q ts d fl) :
    Calls Tryz.prog 125 #[pp q, v, ci most, .func (.func 101) #[] #[]] w (OutR RP 147 2 q d B v l w rs) := by
  have hq := h.lt
  obtain ⟨aor, capr, rfl, hlen, hcap⟩ := hr0.shape
  have hcap2 : capr ≤ 9223372036854775807 := by unfold maxLen at hcap; omega
  obtain ⟨c2, z2⟩ := h.fullC
  have hP1 : Hidden (Ps (w.setCell ⟨q, 2, none⟩ (.bool fl')) q ts d fl') := h.setFull fl'
  have fq := Fr.put w q 2 (.bool fl')
  have hr1 : Hidden (Row RP 147 2 (w.setCell ⟨q, 2, none⟩ (.bool fl')) B (.slice aor l.length capr) l) := hr0.keep fq (fun k hk => by subst hk; exact hqB)
  have k2 := k1 _ hP1
  have hsz : (w.setCell ⟨q, 2, none⟩ (.bool fl')).heap.size = w.heap.size := by simp
  have hszH : Hidden ((w.setCell ⟨q, 2, none⟩ (.bool fl')).heap.size = w.heap.size) := hsz
  clear h k1 hsz
  go_enter Tryz.func125, Tryz.ntmps125
  go_wp2_with fail
  go_at_call 101
  refine k2.mono ?_
  rcases rs with ⟨x, ts1⟩ | ⟨p, c⟩
  rotate_left
  · rintro e W1 ⟨rfl, f1⟩
    unfold gP
    go_wp2_with fail
    exact ⟨rfl, rfl, fq.same f1⟩
  rintro e W1 ⟨v1, rfl, rfl, hQ1, f1⟩
  have s1 : w.heap.size ≤ W1.heap.size := by have := f1.size; rw [show _ = w.heap.size from hszH] at this; exact this
  have hr2 : Hidden (Row RP 147 2 W1 B (.slice aor l.length capr) l) := Row.keep hr1 f1 (fun k hk => by subst hk; exact hqB)
  have hQH : Hidden (Ps W1 q ts1 d false) := hQ1
  have fa := Fr.alloc (fun _ => False) W1 (.cells #[ct x.name, ci x.type] 147)
  clear hQ1
  go_wp2_with (at_builtin
               go_must (refine wpList_row (R := RP) rfl _ _ 47 147 _ 2 24 Tryz.underlying47 info_moreP rfl (by decide) rfl B (.slice aor l.length capr) l x (paC x) ⟨W1.heap.size, 0, none⟩ 1 rfl ?c0 rfl rfl ?c1 ?c2 ?c3 hl (by decide) ?c4 ?_)
               case c0 => go_must (exact Row.keep hr2 fa (fun _ f => f.elim))
               case c1 => go_must (exact fun j u hu => by rw [add0, cell_of_row _ _ j _ _ _ (alloc_new _ _)]; simpa [exC, paC, deC] using hu)
               case c2 => go_must (exact fun u hu => by simp only [exC, paC, deC, List.mem_cons, List.not_mem_nil, or_false] at hu; rcases hu with rfl | rfl <;> rfl)
               case c3 => go_must (exact fun w' hf => rfl)
               case c4 => go_must (simp; omega)
               intro v2 W2 hr3 f3)
  go_ret
  have fall : Fr (fun k => k = q ∨ Value.ownBlock (.slice aor l.length capr) = some k) w W2 := (((fq.same f1).same (frq fa)).mono (fun k _ hk => Or.inl hk)).same (f3.mono (fun k _ hk => Or.inr hk))
  exact ⟨_, rfl, hr3, (Ps.keepN hQH fa).high f3 (fun k hk => by have := (hr0.own k hk).1; omega), fall⟩

set_option maxRecDepth 20000 in
set_option maxHeartbeats 1000000 in
theorem rowP_c (g : Nat) (hg : g ≤ 3000) (q : Nat) (ts : List Tok) (d : Nat) (hd : d ≤ 32) (fl : Bool) (rs : Pz.Rs (List Pa)) (hs : Hidden (Pz.bd (Pz.par1 false ts) (fun p ts => Pz.rwP g [p] ts) = some rs)) (w : World) (h : Ps w q ts d fl) :
    Calls Tryz.prog 100 #[pp q, ci 8, .func (.func 101) #[] #[]] w (Out TP q d w rs) := by
  have hq := h.lt
  have hP0 : Hidden (Ps w q ts d fl) := h
  clear h
  go_enter Tryz.func100, Tryz.ntmps100
  go_wp2_with fail
  go_at_call 125
  obtain ⟨r1, e1, hs⟩ := Pz.bd_some hs
  refine (moreP_c q w.heap.size (.slice none 0 0) [] 8 ts d fl false r1 w rfl (by simp) (Row.nil _ _ _ _ _) hq (Nat.le_refl _) (fun w1 hp => par1_c q ts d false r1 e1 w1 hp) hP0).mono ?_
  clear e1
  rcases r1 with ⟨x, ts1⟩ | ⟨p, c⟩
  rotate_left
  · obtain rfl : rs = .er p c := hs
    rintro e W1 ⟨rfl, f1⟩
    unfold gP
    go_wp2_with fail
    exact ⟨rfl, rfl, f1⟩
  rintro e W1 ⟨v1, rfl, hr1, hQ1, f1⟩
  have g1 : Fr (fun k => k = q) w W1 := f1.mono (fun k _ hk => by rcases hk with hk | hk; (exact hk); (simp [Value.ownBlock] at hk))
  have hQH : Hidden (Ps W1 q ts1 d false) := hQ1
  have hrH : Hidden (Row RP 147 2 W1 w.heap.size v1 ([] ++ [x])) := hr1
  have hs2 : Hidden (Pz.rwP g [x] ts1 = some rs) := hs
  clear hQ1 hr1 hs
  go_wp2_with fail
  go_loopg [7] g (fun k lx wr => ∃ (lv : Value) (acc : List Pa) (us : List Tok), lv = lx ∧ Pz.rwP k acc us = some rs ∧ Row RP 147 2 wr w.heap.size lv acc ∧ acc.length + k ≤ g + 1 ∧ Ps wr q us d false ∧ Fr (fun k => k = q) w wr)
  case atStart => exact ⟨_, [x], ts1, rfl, hs2, hrH, by simp [Exs.len]; omega, hQH, g1⟩
  case round =>
    obtain ⟨lv, acc, us, rfl, hspec, hrow, hlen, hps, hfr⟩ := hrel
    have hspecH : Hidden (Pz.rwP gk acc us = some rs) := hspec
    have hrowH : Hidden (Row RP 147 2 wr w.heap.size lv acc) := hrow
    have hpsH : Hidden (Ps wr q us d false) := hps
    have hlenH : Hidden (acc.length + gk ≤ g + 1) := hlen
    clear hspec hps hlen hs2 hrow
    cases gk with
    | zero => exact absurd hspecH (by simp [Hidden, Pz.rwP])
    | succ gk =>
      cases us with
      | nil => exact absurd hspecH (by simp [Hidden, Pz.rwP])
      | cons t r =>
        by_cases hx : t.x = [44]
        · have hs3 := hspecH
          simp only [Hidden, Pz.rwP, if_pos hx] at hs3
          have hs4 : Hidden (Pz.bd _ _ = some rs) := hs3
          have kh := has_yes q [44] t r d hx wr hpsH
          clear hspecH hx hs3 hpsH
          go_wp2_with fail
          go_at_call 80
          refine kh.mono ?_
          rintro e W2 ⟨rfl, hp2, f2⟩
          have hp2H : Hidden (Ps W2 q r d false) := hp2
          have hrow2 := Row.keep hrowH f2 (fun k hk => by subst hk; exact hq)
          have hrow2H : Hidden (Row RP 147 2 W2 w.heap.size lv acc) := hrow2
          have g2 := hfr.same f2
          have s2 := g2.size
          clear hp2 hrow2 kh
          go_wp2_with fail
          go_at_call 125
          obtain ⟨r1, e1, hs⟩ := Pz.bd_some hs4
          refine (moreP_c q w.heap.size lv acc 8 r d false (acc.length == 8) r1 W2 (by exact beq8 acc.length) (by have h9 : acc.length + (gk + 1) ≤ g + 1 := hlenH; omega) hrow2H hq s2 (fun w1 hp => par1_c q r d _ r1 e1 w1 hp) hp2H).mono ?_
          clear e1
          rcases r1 with ⟨x, ts2⟩ | ⟨p, c⟩
          rotate_left
          · obtain rfl : rs = .er p c := hs
            rintro e W3 ⟨rfl, f3⟩
            unfold gP
            go_wp2_with fail
            exact ⟨rfl, rfl, g2.same f3⟩
          rintro e W3 ⟨v3, rfl, hr2, hQ3, f3⟩
          have g3 : Fr (fun k => k = q) w W3 := g2.trans f3 (fun k hk hs => by rcases hs with hs | hs; (exact hs); (have := (Row.own hrow2H k hs).1; omega))
          go_wp2_with fail
          go_roundg gk
          case measure => omega
          case rel => exact ⟨_, (acc ++ [x]), ts2, rfl, hs, by exact hr2, by have h9 : acc.length + (gk + 1) ≤ g + 1 := hlenH; simp only [List.length_append, List.length_cons, List.length_nil]; omega, hQ3, g3⟩
        · have hs3 := hspecH
          simp only [Hidden, Pz.rwP, if_neg hx] at hs3
          obtain rfl : rs = .ok acc (t :: r) := (Option.some.inj hs3).symm
          have kh := has_no q [44] t r d false hx wr hpsH
          clear hspecH hx hs3
          obtain ⟨ao, cap, rfl, hN⟩ := Row.held hrowH
          have hN2 := (show Nw w.heap.size wr (fun w => PaL w ao cap acc) from fun w1 hf => paL_of (hN w1 hf))
          clear hrowH
          go_wp2_with fail
          go_at_call 80
          refine kh.mono ?_
          rintro e W2 ⟨rfl, f2⟩
          go_wp2_with fail
          go_ret
          exact ⟨_, rfl, ⟨ao, cap, rfl, hN2.step f2 (fun _ f => f.elim)⟩, Ps.keepN hpsH f2, hfr.same (frq f2)⟩

set_option maxRecDepth 20000 in
set_option maxHeartbeats 1000000 in
theorem imp1_c (q : Nat) (ts : List Tok) (d : Nat) (fl : Bool) (rs : Pz.Rs Bs) (hs : Hidden (Pz.imp1 fl ts = some rs)) (w : World) (h : Ps w q ts d fl) :
    Calls Tryz.prog 48 #[pp q] w (Out (fun n v _ _ => v = ct n) q d w rs) := by
  have hq := h.lt
  have g0 := Fr.refl (fun k => k = q) w
  have hP0 : Hidden (Ps w q ts d fl) := h
  clear h
  go_enter Tryz.func48, Tryz.ntmps48
  go_wp2_with fail
  go_at_call 44
  obtain ⟨r1, e1, hs⟩ := Pz.bd_some hs
  refine (must_c q [105, 109, 112, 111, 114, 116] ts d fl r1 e1 _ hP0).mono ?_
  clear e1
  rcases r1 with ⟨u, ts1⟩ | ⟨p, c⟩
  rotate_left
  · obtain rfl : rs = .er p c := hs
    rintro e W1 ⟨rfl, f1⟩
    unfold gP
    go_wp2_with fail
    exact ⟨rfl, rfl, g0.same f1⟩
  rintro e W1 ⟨v1, rfl, rfl, hQ1, f1⟩
  have g1 := g0.same f1
  have s1 := f1.size
  have t1 := g1.size
  have hP1 : Hidden (Ps W1 q ts1 d false) := hQ1
  clear hQ1
  go_wp2_with fail
  go_at_call 45
  obtain ⟨r2, e2, hs⟩ := Pz.bd_some hs
  refine (name_c q ts1 d false r2 e2 _ hP1).mono ?_
  clear e2
  rcases r2 with ⟨n, ts2⟩ | ⟨p, c⟩
  rotate_left
  · obtain rfl : rs = .er p c := hs
    rintro e W2 ⟨rfl, f2⟩
    unfold gP
    go_wp2_with fail
    exact ⟨rfl, rfl, g1.same f2⟩
  rintro e W2 ⟨v2, rfl, rfl, hQ2, f2⟩
  have g2 := g1.same f2
  have s2 := f2.size
  have t2 := g2.size
  have hP2 : Hidden (Ps W2 q ts2 d false) := hQ2
  clear hQ2
  go_wp2_with fail
  go_at_call 44
  obtain ⟨r3, e3, hs⟩ := Pz.bd_some hs
  refine (must_c q [59] ts2 d false r3 e3 _ hP2).mono ?_
  clear e3
  rcases r3 with ⟨u3, ts3⟩ | ⟨p, c⟩
  rotate_left
  · obtain rfl : rs = .er p c := hs
    rintro e W3 ⟨rfl, f3⟩
    unfold gP
    go_wp2_with fail
    exact ⟨rfl, rfl, g2.same f3⟩
  rintro e W3 ⟨v3, rfl, rfl, hQ3, f3⟩
  have g3 := g2.same f3
  have s3 := f3.size
  have t3 := g3.size
  have hP3 : Hidden (Ps W3 q ts3 d false) := hQ3
  clear hQ3
  obtain rfl : rs = .ok n ts3 := (Option.some.inj (show some _ = some rs from hs)).symm
  go_wp2_with fail
  go_ret
  exact ⟨_, rfl, rfl, hP3, g3⟩

theorem info_moreS : (Tryz.prog.info? 9).map (fun i => (i.zero, i.size, i.bytes)) = some (some (.string ⟨#[]⟩), 1, 16) := by kernel_rfl
set_option maxRecDepth 20000 in
set_option maxHeartbeats 1000000 in
theorem moreS_c (q B : Nat) (v : Value) (l : List Bs) (most : Int) (ts : List Tok) (d : Nat) (fl fl' : Bool) (rs : Pz.Rs Bs) (w : World) (hfl : ((l.length : Int) == most) = fl') (hl : l.length ≤ 4000) (hr0 : Row RT 9 1 w B v l) (hqB : q < B) (hB : B ≤ w.heap.size)
    (k1 : ∀ w1, Ps w1 q ts d fl' → Calls Tryz.prog 48 #[pp q] w1 (Out (fun n v _ _ => v = ct n) q d w1 rs)) (h : Ps w q ts d fl) :
    Calls Tryz.prog 47 #[pp q, v, ci most, .func (.func 48) #[] #[]] w (OutR RT 9 1 q d B v l w rs) := by
  have hq := h.lt
  obtain ⟨aor, capr, rfl, hlen, hcap⟩ := hr0.shape
  have hcap2 : capr ≤ 9223372036854775807 := by unfold maxLen at hcap; omega
  obtain ⟨c2, z2⟩ := h.fullC
  have hP1 : Hidden (Ps (w.setCell ⟨q, 2, none⟩ (.bool fl')) q ts d fl') := h.setFull fl'
  have fq := Fr.put w q 2 (.bool fl')
  have hr1 : Hidden (Row RT 9 1 (w.setCell ⟨q, 2, none⟩ (.bool fl')) B (.slice aor l.length capr) l) := hr0.keep fq (fun k hk => by subst hk; exact hqB)
  have k2 := k1 _ hP1
  have hsz : (w.setCell ⟨q, 2, none⟩ (.bool fl')).heap.size = w.heap.size := by simp
  have hszH : Hidden ((w.setCell ⟨q, 2, none⟩ (.bool fl')).heap.size = w.heap.size) := hsz
  clear h k1 hsz
  go_enter Tryz.func47, Tryz.ntmps47
  go_wp2_with fail
  go_at_call 48
  refine k2.mono ?_
  rcases rs with ⟨x, ts1⟩ | ⟨p, c⟩
  rotate_left
  · rintro e W1 ⟨rfl, f1⟩
    unfold gP
    go_wp2_with fail
    exact ⟨rfl, rfl, fq.same f1⟩
  rintro e W1 ⟨v1, rfl, rfl, hQ1, f1⟩
  have s1 : w.heap.size ≤ W1.heap.size := by have := f1.size; rw [show _ = w.heap.size from hszH] at this; exact this
  have hr2 : Hidden (Row RT 9 1 W1 B (.slice aor l.length capr) l) := Row.keep hr1 f1 (fun k hk => by subst hk; exact hqB)
  have hQH : Hidden (Ps W1 q ts1 d false) := hQ1
  have fa := Fr.alloc (fun _ => False) W1 (.cells #[ct x] 9)
  clear hQ1
  go_wp2_with (at_builtin
               go_must (refine wpList_row (R := RT) rfl _ _ 41 9 _ 1 16 Tryz.underlying41 info_moreS rfl (by decide) rfl B (.slice aor l.length capr) l x ([ct x]) ⟨W1.heap.size, 0, none⟩ 1 rfl ?c0 rfl rfl ?c1 ?c2 ?c3 hl (by decide) ?c4 ?_)
               case c0 => go_must (exact Row.keep hr2 fa (fun _ f => f.elim))
               case c1 => go_must (exact fun j u hu => by rw [add0, cell_of_row _ _ j _ _ _ (alloc_new _ _)]; simpa [exC, paC, deC] using hu)
               case c2 => go_must (exact fun u hu => by simp only [exC, paC, deC, List.mem_cons, List.not_mem_nil, or_false] at hu; subst hu; rfl)
               case c3 => go_must (exact fun w' hf => rfl)
               case c4 => go_must (simp; omega)
               intro v2 W2 hr3 f3)
  go_ret
  have fall : Fr (fun k => k = q ∨ Value.ownBlock (.slice aor l.length capr) = some k) w W2 := (((fq.same f1).same (frq fa)).mono (fun k _ hk => Or.inl hk)).same (f3.mono (fun k _ hk => Or.inr hk))
  exact ⟨_, rfl, hr3, (Ps.keepN hQH fa).high f3 (fun k hk => by have := (hr0.own k hk).1; omega), fall⟩

theorem fqz {q z : Nat} {w w' : World} (h : Fr (fun k => k = q) w w') : Fr (fun k => k = q ∨ k = z) w w' := h.mono (fun _ _ hk => Or.inl hk)
theorem fzz {q z : Nat} {w w' : World} (h : Fr (fun k => k = z) w w') : Fr (fun k => k = q ∨ k = z) w w' := h.mono (fun _ _ hk => Or.inr hk)
/-- A declaration that lies at z is filled, or it gave up. -/
def OutZ (q d z : Nat) (w : World) (r : Pz.Rs De) (e : Ending) (w' : World) : Prop :=
  match r with
  | .ok x ts => ∃ pv ev bv, e = .returned (.tuple #[]) ∧ w'.heap[z]? = some (.cells #[ci x.kind, .bool x.ex, ct x.name, ci x.type, pv, ev, bv] 50 (0, 0)) ∧ Nw w.heap.size w' (fun w => DeI w x pv ev bv) ∧ Ps w' q ts d false ∧ Fr (fun k => k = q ∨ k = z) w w'
  | .er p c => e = gP p c ∧ Fr (fun k => k = q ∨ k = z) w w'
theorem panil (w : World) : PaL w none 0 [] := ⟨Nat.le_refl _, by decide, Or.inl rfl⟩
section
variable {E : Nat → List Tok → Pz.Ou Pz.Ex} (hE : CE0 E) {B : Nat → List Tok → Pz.Ou Sts} (hB : CB0 B)
include hE
set_option maxRecDepth 20000 in
set_option maxHeartbeats 1000000 in
theorem holder_c (q z : Nat) (hqz : q < z) (kind : Int) (ex : Bool) (ts : List Tok) (d : Nat) (hd0 : d = 0) (rs : Pz.Rs De) (hs : Hidden (Pz.holder E kind ex ts = some rs)) (w : World) (h : Ps w q ts d false) (hz : w.heap[z]? = some (.cells #[ci kind, .bool ex, .string ⟨#[]⟩, ci 0, .slice none 0 0, .slice none 0 0, .slice none 0 0] 50 (0, 0))) :
    Calls Tryz.prog 81 #[pp q, .pointer (some ⟨z, 0, none⟩)] w (OutZ q d z w rs) := by
  subst hd0
  have hd : (0 : Nat) ≤ 32 := by omega
  have hq := h.lt
  have hzs := lt_of_heap hz
  have g0 := Fr.refl (fun k => k = q ∨ k = z) w
  have hP0 : Hidden (Ps w q ts 0 false) := h
  have hz0 : Hidden (w.heap[z]? = some (.cells #[ci kind, .bool ex, .string ⟨#[]⟩, ci 0, .slice none 0 0, .slice none 0 0, .slice none 0 0] 50 (0, 0))) := hz
  clear h hz
  go_enter Tryz.func81, Tryz.ntmps81
  go_wp2_with fail
  go_at_call 45
  obtain ⟨r1, e1, hs⟩ := Pz.bd_some hs
  refine (name_c q ts 0 false r1 e1 _ hP0).mono ?_
  clear e1
  rcases r1 with ⟨n, ts1⟩ | ⟨p, c⟩
  rotate_left
  · obtain rfl : rs = .er p c := hs
    rintro e W1 ⟨rfl, f1⟩
    unfold gP
    go_wp2_with fail
    exact ⟨rfl, rfl, g0.same (fqz f1)⟩
  rintro e W1 ⟨v1, rfl, rfl, hQ1, f1⟩
  have g1 := g0.same (fqz f1)
  have s1 := f1.size
  have t1 := g1.size
  have hP1 : Hidden (Ps W1 q ts1 0 false) := hQ1
  clear hQ1
  have hz_1 : Hidden (W1.heap[z]? = some (.cells #[ci kind, .bool ex, .string ⟨#[]⟩, ci 0, .slice none 0 0, .slice none 0 0, .slice none 0 0] 50)) := f1.heap hz0 (by omega)
  obtain ⟨zc0, zc1, zc2, zc3, zc4, zc5, zc6, zz0, zz1, zz2, zz3, zz4, zz5, zz6⟩ := box7 hz_1
  go_upto_region 1 with fail
  have f2 := Fr.put W1 (z) 2 (ct n)
  have hbz_2 : (W1.setCell ⟨z, 2, none⟩ (ct n)).heap[z]? = some (.cells #[ci kind, .bool ex, ct n, ci 0, .slice none 0 0, .slice none 0 0, .slice none 0 0] 50) := heap_setCell_same _ _ 2 _ _ _ hz_1
  have hP2 : Hidden (Ps (W1.setCell ⟨z, 2, none⟩ (ct n)) q ts1 0 false) := Ps.high hP1 f2 (fun k hk => by subst hk; omega)
  have g2 : Fr (fun k => k = q ∨ k = z) w (W1.setCell ⟨z, 2, none⟩ (ct n)) := g1.same (fzz f2)
  have t2 := g2.size
  have s2 := f2.size
  generalize (W1.setCell ⟨z, 2, none⟩ (ct n)) = W2 at f2 hbz_2  hP2 g2 t2 s2  ⊢
  clear zc0 zc1 zc2 zc3 zc4 zc5 zc6 zz0 zz1 zz2 zz3 zz4 zz5 zz6
  have hhz_2 : Hidden (W2.heap[z]? = some (.cells #[ci kind, .bool ex, ct n, ci 0, .slice none 0 0, .slice none 0 0, .slice none 0 0] 50)) := hbz_2
  clear hbz_2
  go_wp2_with fail
  go_at_call 44
  obtain ⟨r3, e3, hs⟩ := Pz.bd_some hs
  refine (must_c q [58] ts1 0 false r3 e3 _ hP2).mono ?_
  clear e3
  rcases r3 with ⟨u, ts3⟩ | ⟨p, c⟩
  rotate_left
  · obtain rfl : rs = .er p c := hs
    rintro e W3 ⟨rfl, f3⟩
    unfold gP
    go_wp2_with fail
    exact ⟨rfl, rfl, g2.same (fqz f3)⟩
  rintro e W3 ⟨v3, rfl, rfl, hQ3, f3⟩
  have g3 := g2.same (fqz f3)
  have s3 := f3.size
  have t3 := g3.size
  have hP3 : Hidden (Ps W3 q ts3 0 false) := hQ3
  clear hQ3
  have hz_3 : Hidden (W3.heap[z]? = some (.cells #[ci kind, .bool ex, ct n, ci 0, .slice none 0 0, .slice none 0 0, .slice none 0 0] 50)) := f3.heap hhz_2 (by omega)
  go_wp2_with fail
  go_at_call 98
  obtain ⟨r4, e4, hs⟩ := Pz.bd_some hs
  refine (typ_c q ts3 0 r4 e4 _ hP3).mono ?_
  clear e4
  rcases r4 with ⟨t, ts4⟩ | ⟨p, c⟩
  rotate_left
  · obtain rfl : rs = .er p c := hs
    rintro e W4 ⟨rfl, f4⟩
    unfold gP
    go_wp2_with fail
    exact ⟨rfl, rfl, g3.same (fqz f4)⟩
  rintro e W4 ⟨v4, rfl, rfl, hQ4, f4⟩
  have g4 := g3.same (fqz f4)
  have s4 := f4.size
  have t4 := g4.size
  have hP4 : Hidden (Ps W4 q ts4 0 false) := hQ4
  clear hQ4
  have hz_4 : Hidden (W4.heap[z]? = some (.cells #[ci kind, .bool ex, ct n, ci 0, .slice none 0 0, .slice none 0 0, .slice none 0 0] 50)) := f4.heap hz_3 (by omega)
  obtain ⟨zc0, zc1, zc2, zc3, zc4, zc5, zc6, zz0, zz1, zz2, zz3, zz4, zz5, zz6⟩ := box7 hz_4
  go_upto_region 3 with fail
  have f5 := Fr.put W4 (z) 3 (ci t)
  have hbz_5 : (W4.setCell ⟨z, 3, none⟩ (ci t)).heap[z]? = some (.cells #[ci kind, .bool ex, ct n, ci t, .slice none 0 0, .slice none 0 0, .slice none 0 0] 50) := heap_setCell_same _ _ 3 _ _ _ hz_4
  have hP5 : Hidden (Ps (W4.setCell ⟨z, 3, none⟩ (ci t)) q ts4 0 false) := Ps.high hP4 f5 (fun k hk => by subst hk; omega)
  have g5 : Fr (fun k => k = q ∨ k = z) w (W4.setCell ⟨z, 3, none⟩ (ci t)) := g4.same (fzz f5)
  have t5 := g5.size
  have s5 := f5.size
  generalize (W4.setCell ⟨z, 3, none⟩ (ci t)) = W5 at f5 hbz_5  hP5 g5 t5 s5  ⊢
  clear zc0 zc1 zc2 zc3 zc4 zc5 zc6 zz0 zz1 zz2 zz3 zz4 zz5 zz6
  have hhz_5 : Hidden (W5.heap[z]? = some (.cells #[ci kind, .bool ex, ct n, ci t, .slice none 0 0, .slice none 0 0, .slice none 0 0] 50)) := hbz_5
  clear hbz_5
  go_wp2_with fail
  go_at_call 44
  obtain ⟨r6, e6, hs⟩ := Pz.bd_some hs
  refine (must_c q [61] ts4 0 false r6 e6 _ hP5).mono ?_
  clear e6
  rcases r6 with ⟨u2, ts6⟩ | ⟨p, c⟩
  rotate_left
  · obtain rfl : rs = .er p c := hs
    rintro e W6 ⟨rfl, f6⟩
    unfold gP
    go_wp2_with fail
    exact ⟨rfl, rfl, g5.same (fqz f6)⟩
  rintro e W6 ⟨v6, rfl, rfl, hQ6, f6⟩
  have g6 := g5.same (fqz f6)
  have s6 := f6.size
  have t6 := g6.size
  have hP6 : Hidden (Ps W6 q ts6 0 false) := hQ6
  clear hQ6
  have hz_6 : Hidden (W6.heap[z]? = some (.cells #[ci kind, .bool ex, ct n, ci t, .slice none 0 0, .slice none 0 0, .slice none 0 0] 50)) := f6.heap hhz_5 (by omega)
  go_wp2_with fail
  go_at_call 99
  obtain ⟨r7, e7, hs⟩ := Pz.bd_some hs
  refine (lone_c hE q ts6 0 hd r7 e7 _ hP6).mono ?_
  clear e7
  rcases r7 with ⟨l, ts7⟩ | ⟨p, c⟩
  rotate_left
  · obtain rfl : rs = .er p c := hs
    rintro e W7 ⟨rfl, f7⟩
    unfold gP
    go_wp2_with fail
    exact ⟨rfl, rfl, g6.same (fqz f7)⟩
  rintro e W7 ⟨v7, rfl, ⟨ao, cap, rfl, hN⟩, hQ7, f7⟩
  have g7 := g6.same (fqz f7)
  have s7 := f7.size
  have t7 := g7.size
  have hP7 : Hidden (Ps W7 q ts7 0 false) := hQ7
  clear hQ7
  have hz_7 : Hidden (W7.heap[z]? = some (.cells #[ci kind, .bool ex, ct n, ci t, .slice none 0 0, .slice none 0 0, .slice none 0 0] 50)) := f7.heap hz_6 (by omega)
  obtain ⟨zc0, zc1, zc2, zc3, zc4, zc5, zc6, zz0, zz1, zz2, zz3, zz4, zz5, zz6⟩ := box7 hz_7
  go_upto_region 5 with fail
  have f8 := Fr.put W7 (z) 5 (.slice ao l.len cap)
  have hbz_8 : (W7.setCell ⟨z, 5, none⟩ (.slice ao l.len cap)).heap[z]? = some (.cells #[ci kind, .bool ex, ct n, ci t, .slice none 0 0, .slice ao l.len cap, .slice none 0 0] 50) := heap_setCell_same _ _ 5 _ _ _ hz_7
  have hP8 : Hidden (Ps (W7.setCell ⟨z, 5, none⟩ (.slice ao l.len cap)) q ts7 0 false) := Ps.high hP7 f8 (fun k hk => by subst hk; omega)
  have g8 : Fr (fun k => k = q ∨ k = z) w (W7.setCell ⟨z, 5, none⟩ (.slice ao l.len cap)) := g7.same (fzz f8)
  have t8 := g8.size
  have s8 := f8.size
  generalize (W7.setCell ⟨z, 5, none⟩ (.slice ao l.len cap)) = W8 at f8 hbz_8  hP8 g8 t8 s8  ⊢
  clear zc0 zc1 zc2 zc3 zc4 zc5 zc6 zz0 zz1 zz2 zz3 zz4 zz5 zz6
  have hhz_8 : Hidden (W8.heap[z]? = some (.cells #[ci kind, .bool ex, ct n, ci t, .slice none 0 0, .slice ao l.len cap, .slice none 0 0] 50)) := hbz_8
  clear hbz_8
  go_wp2_with fail
  go_at_call 44
  obtain ⟨r9, e9, hs⟩ := Pz.bd_some hs
  refine (must_c q [59] ts7 0 false r9 e9 _ hP8).mono ?_
  clear e9
  rcases r9 with ⟨u3, ts9⟩ | ⟨p, c⟩
  rotate_left
  · obtain rfl : rs = .er p c := hs
    rintro e W9 ⟨rfl, f9⟩
    unfold gP
    go_wp2_with fail
    exact ⟨rfl, rfl, g8.same (fqz f9)⟩
  rintro e W9 ⟨v9, rfl, rfl, hQ9, f9⟩
  have g9 := g8.same (fqz f9)
  have s9 := f9.size
  have t9 := g9.size
  have hP9 : Hidden (Ps W9 q ts9 0 false) := hQ9
  clear hQ9
  have hz_9 : Hidden (W9.heap[z]? = some (.cells #[ci kind, .bool ex, ct n, ci t, .slice none 0 0, .slice ao l.len cap, .slice none 0 0] 50)) := f9.heap hhz_8 (by omega)
  obtain rfl : rs = .ok ⟨kind, ex, n, t, [], l, .nil⟩ ts9 := (Option.some.inj (show some _ = some rs from hs)).symm
  have hN2 := ((hN.step f8 (fun k hk => by subst hk; omega)).step f9 (fun k hk => by subst hk; omega)).weak (B' := w.heap.size) (by omega)
  go_wp2_with fail
  go_end0
  exact ⟨_, _, _, rfl, hz_9, fun w2 hf => ⟨none, 0, ao, cap, none, 0, rfl, rfl, rfl, panil _, hN2 w2 hf, stnil _⟩, hP9, g9⟩

omit hE
include hB
set_option maxRecDepth 20000 in
set_option maxHeartbeats 1000000 in
theorem fnc_c (g : Nat) (hg : g ≤ 3000) (q z : Nat) (hqz : q < z) (ex : Bool) (ts : List Tok) (d : Nat) (hd0 : d = 0) (rs : Pz.Rs De) (hs : Hidden (Pz.fnc B g ex ts = some rs)) (w : World) (h : Ps w q ts d false) (hz : w.heap[z]? = some (.cells #[ci 3, .bool ex, .string ⟨#[]⟩, ci 0, .slice none 0 0, .slice none 0 0, .slice none 0 0] 50 (0, 0))) :
    Calls Tryz.prog 82 #[pp q, .pointer (some ⟨z, 0, none⟩)] w (OutZ q d z w rs) := by
  subst hd0
  have hd : (0 : Nat) ≤ 32 := by omega
  have hq := h.lt
  have hzs := lt_of_heap hz
  have g0 := Fr.refl (fun k => k = q ∨ k = z) w
  have hP0 : Hidden (Ps w q ts 0 false) := h
  have hz0 : Hidden (w.heap[z]? = some (.cells #[ci 3, .bool ex, .string ⟨#[]⟩, ci 0, .slice none 0 0, .slice none 0 0, .slice none 0 0] 50 (0, 0))) := hz
  clear h hz
  go_enter Tryz.func82, Tryz.ntmps82
  go_wp2_with fail
  go_at_call 45
  obtain ⟨r1, e1, hs⟩ := Pz.bd_some hs
  refine (name_c q ts 0 false r1 e1 _ hP0).mono ?_
  clear e1
  rcases r1 with ⟨n, ts1⟩ | ⟨p, c⟩
  rotate_left
  · obtain rfl : rs = .er p c := hs
    rintro e W1 ⟨rfl, f1⟩
    unfold gP
    go_wp2_with fail
    exact ⟨rfl, rfl, g0.same (fqz f1)⟩
  rintro e W1 ⟨v1, rfl, rfl, hQ1, f1⟩
  have g1 := g0.same (fqz f1)
  have s1 := f1.size
  have t1 := g1.size
  have hP1 : Hidden (Ps W1 q ts1 0 false) := hQ1
  clear hQ1
  have hz_1 : Hidden (W1.heap[z]? = some (.cells #[ci 3, .bool ex, .string ⟨#[]⟩, ci 0, .slice none 0 0, .slice none 0 0, .slice none 0 0] 50)) := f1.heap hz0 (by omega)
  obtain ⟨zc0, zc1, zc2, zc3, zc4, zc5, zc6, zz0, zz1, zz2, zz3, zz4, zz5, zz6⟩ := box7 hz_1
  go_upto_region 1 with fail
  have f2 := Fr.put W1 (z) 2 (ct n)
  have hbz_2 : (W1.setCell ⟨z, 2, none⟩ (ct n)).heap[z]? = some (.cells #[ci 3, .bool ex, ct n, ci 0, .slice none 0 0, .slice none 0 0, .slice none 0 0] 50) := heap_setCell_same _ _ 2 _ _ _ hz_1
  have hP2 : Hidden (Ps (W1.setCell ⟨z, 2, none⟩ (ct n)) q ts1 0 false) := Ps.high hP1 f2 (fun k hk => by subst hk; omega)
  have g2 : Fr (fun k => k = q ∨ k = z) w (W1.setCell ⟨z, 2, none⟩ (ct n)) := g1.same (fzz f2)
  have t2 := g2.size
  have s2 := f2.size
  generalize (W1.setCell ⟨z, 2, none⟩ (ct n)) = W2 at f2 hbz_2  hP2 g2 t2 s2  ⊢
  clear zc0 zc1 zc2 zc3 zc4 zc5 zc6 zz0 zz1 zz2 zz3 zz4 zz5 zz6
  have hhz_2 : Hidden (W2.heap[z]? = some (.cells #[ci 3, .bool ex, ct n, ci 0, .slice none 0 0, .slice none 0 0, .slice none 0 0] 50)) := hbz_2
  clear hbz_2
  go_wp2_with fail
  go_at_call 44
  obtain ⟨r3, e3, hs⟩ := Pz.bd_some hs
  refine (must_c q [40] ts1 0 false r3 e3 _ hP2).mono ?_
  clear e3
  rcases r3 with ⟨u, ts3⟩ | ⟨p, c⟩
  rotate_left
  · obtain rfl : rs = .er p c := hs
    rintro e W3 ⟨rfl, f3⟩
    unfold gP
    go_wp2_with fail
    exact ⟨rfl, rfl, g2.same (fqz f3)⟩
  rintro e W3 ⟨v3, rfl, rfl, hQ3, f3⟩
  have g3 := g2.same (fqz f3)
  have s3 := f3.size
  have t3 := g3.size
  have hP3 : Hidden (Ps W3 q ts3 0 false) := hQ3
  clear hQ3
  have hz_3 : Hidden (W3.heap[z]? = some (.cells #[ci 3, .bool ex, ct n, ci 0, .slice none 0 0, .slice none 0 0, .slice none 0 0] 50)) := f3.heap hhz_2 (by omega)
  obtain ⟨rP, eP, hs⟩ := Pz.bd_some hs
  obtain ⟨t, r, rfl⟩ : ∃ t r, ts3 = t :: r := by
    cases ts3 with
    | nil => simp [Pz.params] at eP
    | cons t r => exact ⟨t, r, rfl⟩
  rw [Pz.params] at eP
  have ePH : Hidden ((if t.x = [41] then some (.ok [] (t :: r)) else Pz.bd (Pz.par1 false (t :: r)) fun p ts => Pz.rwP g [p] ts) = some rP) := eP
  clear eP
  by_cases hx : t.x = [41]
  · skip
    obtain rfl : rP = .ok [] (t :: r) := by
      have h1 : (if t.x = [41] then some (.ok [] (t :: r)) else Pz.bd (Pz.par1 false (t :: r)) fun p ts => Pz.rwP g [p] ts) = some rP := ePH
      rw [if_pos hx] at h1
      exact (Option.some.inj h1).symm
    clear ePH
    go_wp2_with fail
    go_at_call 46
    refine (is_any q [41] t r 0 false true (by simp [Hidden, hx]) _ hP3).mono ?_
    rintro e W4 ⟨rfl, F4⟩
    have f4 : Fr (fun k => k = q) _ W4 := frq F4
    have hQ4 := Ps.keepN hP3 F4
    have g4 := g3.same (fqz f4)
    have s4 := f4.size
    have t4 := g4.size
    have hP4 : Hidden (Ps W4 q (t :: r) 0 false) := hQ4
    clear hQ4
    have hz_4 : Hidden (W4.heap[z]? = some (.cells #[ci 3, .bool ex, ct n, ci 0, .slice none 0 0, .slice none 0 0, .slice none 0 0] 50)) := f4.heap hz_3 (by omega)
    clear hx
    go_wp2_with fail
    go_at_call 44
    obtain ⟨r5, e5, hs⟩ := Pz.bd_some hs
    refine (must_c q [41] (t :: r) 0 false r5 e5 _ hP4).mono ?_
    clear e5
    rcases r5 with ⟨u4, ts5⟩ | ⟨p, c⟩
    rotate_left
    · obtain rfl : rs = .er p c := hs
      rintro e W5 ⟨rfl, f5⟩
      unfold gP
      go_wp2_with fail
      exact ⟨rfl, rfl, g4.same (fqz f5)⟩
    rintro e W5 ⟨v5, rfl, rfl, hQ5, f5⟩
    have g5 := g4.same (fqz f5)
    have s5 := f5.size
    have t5 := g5.size
    have hP5 : Hidden (Ps W5 q ts5 0 false) := hQ5
    clear hQ5
    have hz_5 : Hidden (W5.heap[z]? = some (.cells #[ci 3, .bool ex, ct n, ci 0, .slice none 0 0, .slice none 0 0, .slice none 0 0] 50)) := f5.heap hz_4 (by omega)
    replace hs : Hidden (Pz.bd (Pz.bd (Pz.has [58] false ts5) (fun y ts => if y then Pz.typ ts else some (.ok 0 ts))) (fun t ts => Pz.bd (B 0 ts) fun b ts => some (.ok ⟨3, ex, n, t, [], .nil, b⟩ ts)) = some rs) := hs
    replace hs : Hidden (Pz.bd (Pz.has [58] false ts5) (fun y ts => Pz.bd (if y then Pz.typ ts else some (.ok 0 ts)) (fun t ts => Pz.bd (B 0 ts) fun b ts => some (.ok ⟨3, ex, n, t, [], .nil, b⟩ ts))) = some rs) := (Pz.bd_assoc _ _ _).trans hs
    go_wp2_with fail
    go_at_call 80
    obtain ⟨r6, e6, hs⟩ := Pz.bd_some hs
    refine (has_c q [58] ts5 0 r6 e6 _ hP5).mono ?_
    clear e6
    rcases r6 with ⟨y, ts6⟩ | ⟨p, c⟩
    rotate_left
    · obtain rfl : rs = .er p c := hs
      rintro e W6 ⟨rfl, f6⟩
      unfold gP
      go_wp2_with fail
      exact ⟨rfl, rfl, g5.same (fqz f6)⟩
    rintro e W6 ⟨v6, rfl, rfl, hQ6, f6⟩
    have g6 := g5.same (fqz f6)
    have s6 := f6.size
    have t6 := g6.size
    have hP6 : Hidden (Ps W6 q ts6 0 false) := hQ6
    clear hQ6
    have hz_6 : Hidden (W6.heap[z]? = some (.cells #[ci 3, .bool ex, ct n, ci 0, .slice none 0 0, .slice none 0 0, .slice none 0 0] 50)) := f6.heap hz_5 (by omega)
    cases y
    · skip
      replace hs : Hidden (Pz.bd (B 0 ts6) (fun b ts => some (.ok ⟨3, ex, n, 0, [], .nil, b⟩ ts)) = some rs) := hs
      go_wp2_with fail
      go_at_call 102
      obtain ⟨r7, e7, hs⟩ := Pz.bd_some hs
      refine (hB 0 ts6 r7 q _ (by omega) e7 hP6).mono ?_
      clear e7
      rcases r7 with ⟨b, ts7⟩ | ⟨p, c⟩
      rotate_left
      · obtain rfl : rs = .er p c := hs
        rintro e W7 ⟨rfl, f7⟩
        unfold gP
        go_wp2_with fail
        exact ⟨rfl, rfl, g6.same (fqz f7)⟩
      rintro e W7 ⟨v7, rfl, ⟨aob, capb, rfl, hNb⟩, hQ7, f7⟩
      have g7 := g6.same (fqz f7)
      have s7 := f7.size
      have t7 := g7.size
      have hP7 : Hidden (Ps W7 q ts7 0 false) := hQ7
      clear hQ7
      have hz_7 : Hidden (W7.heap[z]? = some (.cells #[ci 3, .bool ex, ct n, ci 0, .slice none 0 0, .slice none 0 0, .slice none 0 0] 50)) := f7.heap hz_6 (by omega)
      obtain rfl : rs = .ok ⟨3, ex, n, 0, [], .nil, b⟩ ts7 := (Option.some.inj (show some _ = some rs from hs)).symm
      obtain ⟨zc0, zc1, zc2, zc3, zc4, zc5, zc6, zz0, zz1, zz2, zz3, zz4, zz5, zz6⟩ := box7 hz_7
      have fp := Fr.put W7 z 6 (.slice aob b.len capb)
      have hbz : (W7.setCell ⟨z, 6, none⟩ (.slice aob b.len capb)).heap[z]? = some (.cells #[ci 3, .bool ex, ct n, ci 0, .slice none 0 0, .slice none 0 0, .slice aob b.len capb] 50) := heap_setCell_same _ _ 6 _ _ _ hz_7
      have hNb2 := (hNb.step fp (fun k hk => by subst hk; omega)).weak (B' := w.heap.size) (by omega)
      go_wp2_with fail
      go_end0
      exact ⟨_, _, _, rfl, hbz, fun w2 hf => ⟨none, 0, none, 0, aob, capb, rfl, rfl, rfl, panil _, exnil _, hNb2 w2 hf⟩, Ps.high hP7 fp (fun k hk => by subst hk; exact hqz), g7.same (fzz fp)⟩
    · skip
      replace hs : Hidden (Pz.bd (Pz.typ ts6) (fun t ts => Pz.bd (B 0 ts) fun b ts => some (.ok ⟨3, ex, n, t, [], .nil, b⟩ ts)) = some rs) := hs
      go_wp2_with fail
      go_at_call 98
      obtain ⟨r7, e7, hs⟩ := Pz.bd_some hs
      refine (typ_c q ts6 0 r7 e7 _ hP6).mono ?_
      clear e7
      rcases r7 with ⟨ty, ts7⟩ | ⟨p, c⟩
      rotate_left
      · obtain rfl : rs = .er p c := hs
        rintro e W7 ⟨rfl, f7⟩
        unfold gP
        go_wp2_with fail
        exact ⟨rfl, rfl, g6.same (fqz f7)⟩
      rintro e W7 ⟨v7, rfl, rfl, hQ7, f7⟩
      have g7 := g6.same (fqz f7)
      have s7 := f7.size
      have t7 := g7.size
      have hP7 : Hidden (Ps W7 q ts7 0 false) := hQ7
      clear hQ7
      have hz_7 : Hidden (W7.heap[z]? = some (.cells #[ci 3, .bool ex, ct n, ci 0, .slice none 0 0, .slice none 0 0, .slice none 0 0] 50)) := f7.heap hz_6 (by omega)
      obtain ⟨zc0, zc1, zc2, zc3, zc4, zc5, zc6, zz0, zz1, zz2, zz3, zz4, zz5, zz6⟩ := box7 hz_7
      go_upto_region 7 with fail
      have f8 := Fr.put W7 (z) 3 (ci ty)
      have hbz_8 : (W7.setCell ⟨z, 3, none⟩ (ci ty)).heap[z]? = some (.cells #[ci 3, .bool ex, ct n, ci ty, .slice none 0 0, .slice none 0 0, .slice none 0 0] 50) := heap_setCell_same _ _ 3 _ _ _ hz_7
      have hP8 : Hidden (Ps (W7.setCell ⟨z, 3, none⟩ (ci ty)) q ts7 0 false) := Ps.high hP7 f8 (fun k hk => by subst hk; omega)
      have g8 : Fr (fun k => k = q ∨ k = z) w (W7.setCell ⟨z, 3, none⟩ (ci ty)) := g7.same (fzz f8)
      have t8 := g8.size
      have s8 := f8.size
      generalize (W7.setCell ⟨z, 3, none⟩ (ci ty)) = W8 at f8 hbz_8  hP8 g8 t8 s8  ⊢
      clear zc0 zc1 zc2 zc3 zc4 zc5 zc6 zz0 zz1 zz2 zz3 zz4 zz5 zz6
      have hhz_8 : Hidden (W8.heap[z]? = some (.cells #[ci 3, .bool ex, ct n, ci ty, .slice none 0 0, .slice none 0 0, .slice none 0 0] 50)) := hbz_8
      clear hbz_8
      go_wp2_with fail
      go_at_call 102
      obtain ⟨r9, e9, hs⟩ := Pz.bd_some hs
      refine (hB 0 ts7 r9 q _ (by omega) e9 hP8).mono ?_
      clear e9
      rcases r9 with ⟨b, ts9⟩ | ⟨p, c⟩
      rotate_left
      · obtain rfl : rs = .er p c := hs
        rintro e W9 ⟨rfl, f9⟩
        unfold gP
        go_wp2_with fail
        exact ⟨rfl, rfl, g8.same (fqz f9)⟩
      rintro e W9 ⟨v9, rfl, ⟨aob, capb, rfl, hNb⟩, hQ9, f9⟩
      have g9 := g8.same (fqz f9)
      have s9 := f9.size
      have t9 := g9.size
      have hP9 : Hidden (Ps W9 q ts9 0 false) := hQ9
      clear hQ9
      have hz_9 : Hidden (W9.heap[z]? = some (.cells #[ci 3, .bool ex, ct n, ci ty, .slice none 0 0, .slice none 0 0, .slice none 0 0] 50)) := f9.heap hhz_8 (by omega)
      obtain rfl : rs = .ok ⟨3, ex, n, ty, [], .nil, b⟩ ts9 := (Option.some.inj (show some _ = some rs from hs)).symm
      obtain ⟨zc0, zc1, zc2, zc3, zc4, zc5, zc6, zz0, zz1, zz2, zz3, zz4, zz5, zz6⟩ := box7 hz_9
      have fp := Fr.put W9 z 6 (.slice aob b.len capb)
      have hbz : (W9.setCell ⟨z, 6, none⟩ (.slice aob b.len capb)).heap[z]? = some (.cells #[ci 3, .bool ex, ct n, ci ty, .slice none 0 0, .slice none 0 0, .slice aob b.len capb] 50) := heap_setCell_same _ _ 6 _ _ _ hz_9
      have hNb2 := (hNb.step fp (fun k hk => by subst hk; omega)).weak (B' := w.heap.size) (by omega)
      go_wp2_with fail
      go_end0
      exact ⟨_, _, _, rfl, hbz, fun w2 hf => ⟨none, 0, none, 0, aob, capb, rfl, rfl, rfl, panil _, exnil _, hNb2 w2 hf⟩, Ps.high hP9 fp (fun k hk => by subst hk; exact hqz), g9.same (fzz fp)⟩
  · skip
    replace ePH : Hidden (Pz.bd (Pz.par1 false (t :: r)) (fun p ts => Pz.rwP g [p] ts) = some rP) := by
      have h1 : (if t.x = [41] then some (.ok [] (t :: r)) else Pz.bd (Pz.par1 false (t :: r)) fun p ts => Pz.rwP g [p] ts) = some rP := ePH
      rw [if_neg hx] at h1
      exact h1
    go_wp2_with fail
    go_at_call 46
    refine (is_any q [41] t r 0 false false (by simpa [Hidden] using hx) _ hP3).mono ?_
    rintro e W4 ⟨rfl, F4⟩
    have f4 : Fr (fun k => k = q) _ W4 := frq F4
    have hQ4 := Ps.keepN hP3 F4
    have g4 := g3.same (fqz f4)
    have s4 := f4.size
    have t4 := g4.size
    have hP4 : Hidden (Ps W4 q (t :: r) 0 false) := hQ4
    clear hQ4
    have hz_4 : Hidden (W4.heap[z]? = some (.cells #[ci 3, .bool ex, ct n, ci 0, .slice none 0 0, .slice none 0 0, .slice none 0 0] 50)) := f4.heap hz_3 (by omega)
    clear hx
    go_wp2_with fail
    go_at_call 100
    refine (rowP_c g hg q (t :: r) 0 (by omega) false rP ePH _ hP4).mono ?_
    clear ePH
    rcases rP with ⟨ps, ts5⟩ | ⟨p, c⟩
    rotate_left
    · obtain rfl : rs = .er p c := hs
      rintro e W5 ⟨rfl, f5⟩
      unfold gP
      go_wp2_with fail
      exact ⟨rfl, rfl, g4.same (fqz f5)⟩
    rintro e W5 ⟨v5, rfl, ⟨aop, capp, rfl, hNp⟩, hQ5, f5⟩
    have g5 := g4.same (fqz f5)
    have s5 := f5.size
    have t5 := g5.size
    have hP5 : Hidden (Ps W5 q ts5 0 false) := hQ5
    clear hQ5
    have hz_5 : Hidden (W5.heap[z]? = some (.cells #[ci 3, .bool ex, ct n, ci 0, .slice none 0 0, .slice none 0 0, .slice none 0 0] 50)) := f5.heap hz_4 (by omega)
    obtain ⟨zc0, zc1, zc2, zc3, zc4, zc5, zc6, zz0, zz1, zz2, zz3, zz4, zz5, zz6⟩ := box7 hz_5
    go_upto_region 4 with fail
    have f6 := Fr.put W5 (z) 4 (.slice aop ps.length capp)
    have hbz_6 : (W5.setCell ⟨z, 4, none⟩ (.slice aop ps.length capp)).heap[z]? = some (.cells #[ci 3, .bool ex, ct n, ci 0, .slice aop ps.length capp, .slice none 0 0, .slice none 0 0] 50) := heap_setCell_same _ _ 4 _ _ _ hz_5
    have hP6 : Hidden (Ps (W5.setCell ⟨z, 4, none⟩ (.slice aop ps.length capp)) q ts5 0 false) := Ps.high hP5 f6 (fun k hk => by subst hk; omega)
    have g6 : Fr (fun k => k = q ∨ k = z) w (W5.setCell ⟨z, 4, none⟩ (.slice aop ps.length capp)) := g5.same (fzz f6)
    have t6 := g6.size
    have s6 := f6.size
    generalize (W5.setCell ⟨z, 4, none⟩ (.slice aop ps.length capp)) = W6 at f6 hbz_6  hP6 g6 t6 s6  ⊢
    clear zc0 zc1 zc2 zc3 zc4 zc5 zc6 zz0 zz1 zz2 zz3 zz4 zz5 zz6
    have hhz_6 : Hidden (W6.heap[z]? = some (.cells #[ci 3, .bool ex, ct n, ci 0, .slice aop ps.length capp, .slice none 0 0, .slice none 0 0] 50)) := hbz_6
    clear hbz_6
    go_wp2_with fail
    go_at_call 44
    obtain ⟨r7, e7, hs⟩ := Pz.bd_some hs
    refine (must_c q [41] ts5 0 false r7 e7 _ hP6).mono ?_
    clear e7
    rcases r7 with ⟨u4, ts7⟩ | ⟨p, c⟩
    rotate_left
    · obtain rfl : rs = .er p c := hs
      rintro e W7 ⟨rfl, f7⟩
      unfold gP
      go_wp2_with fail
      exact ⟨rfl, rfl, g6.same (fqz f7)⟩
    rintro e W7 ⟨v7, rfl, rfl, hQ7, f7⟩
    have g7 := g6.same (fqz f7)
    have s7 := f7.size
    have t7 := g7.size
    have hP7 : Hidden (Ps W7 q ts7 0 false) := hQ7
    clear hQ7
    have hz_7 : Hidden (W7.heap[z]? = some (.cells #[ci 3, .bool ex, ct n, ci 0, .slice aop ps.length capp, .slice none 0 0, .slice none 0 0] 50)) := f7.heap hhz_6 (by omega)
    replace hs : Hidden (Pz.bd (Pz.bd (Pz.has [58] false ts7) (fun y ts => if y then Pz.typ ts else some (.ok 0 ts))) (fun t ts => Pz.bd (B 0 ts) fun b ts => some (.ok ⟨3, ex, n, t, ps, .nil, b⟩ ts)) = some rs) := hs
    replace hs : Hidden (Pz.bd (Pz.has [58] false ts7) (fun y ts => Pz.bd (if y then Pz.typ ts else some (.ok 0 ts)) (fun t ts => Pz.bd (B 0 ts) fun b ts => some (.ok ⟨3, ex, n, t, ps, .nil, b⟩ ts))) = some rs) := (Pz.bd_assoc _ _ _).trans hs
    go_wp2_with fail
    go_at_call 80
    obtain ⟨r8, e8, hs⟩ := Pz.bd_some hs
    refine (has_c q [58] ts7 0 r8 e8 _ hP7).mono ?_
    clear e8
    rcases r8 with ⟨y, ts8⟩ | ⟨p, c⟩
    rotate_left
    · obtain rfl : rs = .er p c := hs
      rintro e W8 ⟨rfl, f8⟩
      unfold gP
      go_wp2_with fail
      exact ⟨rfl, rfl, g7.same (fqz f8)⟩
    rintro e W8 ⟨v8, rfl, rfl, hQ8, f8⟩
    have g8 := g7.same (fqz f8)
    have s8 := f8.size
    have t8 := g8.size
    have hP8 : Hidden (Ps W8 q ts8 0 false) := hQ8
    clear hQ8
    have hz_8 : Hidden (W8.heap[z]? = some (.cells #[ci 3, .bool ex, ct n, ci 0, .slice aop ps.length capp, .slice none 0 0, .slice none 0 0] 50)) := f8.heap hz_7 (by omega)
    cases y
    · skip
      replace hs : Hidden (Pz.bd (B 0 ts8) (fun b ts => some (.ok ⟨3, ex, n, 0, ps, .nil, b⟩ ts)) = some rs) := hs
      go_wp2_with fail
      go_at_call 102
      obtain ⟨r9, e9, hs⟩ := Pz.bd_some hs
      refine (hB 0 ts8 r9 q _ (by omega) e9 hP8).mono ?_
      clear e9
      rcases r9 with ⟨b, ts9⟩ | ⟨p, c⟩
      rotate_left
      · obtain rfl : rs = .er p c := hs
        rintro e W9 ⟨rfl, f9⟩
        unfold gP
        go_wp2_with fail
        exact ⟨rfl, rfl, g8.same (fqz f9)⟩
      rintro e W9 ⟨v9, rfl, ⟨aob, capb, rfl, hNb⟩, hQ9, f9⟩
      have g9 := g8.same (fqz f9)
      have s9 := f9.size
      have t9 := g9.size
      have hP9 : Hidden (Ps W9 q ts9 0 false) := hQ9
      clear hQ9
      have hz_9 : Hidden (W9.heap[z]? = some (.cells #[ci 3, .bool ex, ct n, ci 0, .slice aop ps.length capp, .slice none 0 0, .slice none 0 0] 50)) := f9.heap hz_8 (by omega)
      obtain rfl : rs = .ok ⟨3, ex, n, 0, ps, .nil, b⟩ ts9 := (Option.some.inj (show some _ = some rs from hs)).symm
      obtain ⟨zc0, zc1, zc2, zc3, zc4, zc5, zc6, zz0, zz1, zz2, zz3, zz4, zz5, zz6⟩ := box7 hz_9
      have fp := Fr.put W9 z 6 (.slice aob b.len capb)
      have hbz : (W9.setCell ⟨z, 6, none⟩ (.slice aob b.len capb)).heap[z]? = some (.cells #[ci 3, .bool ex, ct n, ci 0, .slice aop ps.length capp, .slice none 0 0, .slice aob b.len capb] 50) := heap_setCell_same _ _ 6 _ _ _ hz_9
      have hNb2 := (hNb.step fp (fun k hk => by subst hk; omega)).weak (B' := w.heap.size) (by omega)
      have hNp2 := hNp.step f6 (fun k hk => by subst hk; omega)
      replace hNp2 := hNp2.step f7 (fun k hk => by subst hk; omega)
      replace hNp2 := hNp2.step f8 (fun k hk => by subst hk; omega)
      replace hNp2 := hNp2.step f9 (fun k hk => by subst hk; omega)
      replace hNp2 := (hNp2.step fp (fun k hk => by subst hk; omega)).weak (B' := w.heap.size) (by omega)
      go_wp2_with fail
      go_end0
      exact ⟨_, _, _, rfl, hbz, fun w2 hf => ⟨aop, capp, none, 0, aob, capb, rfl, rfl, rfl, hNp2 w2 hf, exnil _, hNb2 w2 hf⟩, Ps.high hP9 fp (fun k hk => by subst hk; exact hqz), g9.same (fzz fp)⟩
    · skip
      replace hs : Hidden (Pz.bd (Pz.typ ts8) (fun t ts => Pz.bd (B 0 ts) fun b ts => some (.ok ⟨3, ex, n, t, ps, .nil, b⟩ ts)) = some rs) := hs
      go_wp2_with fail
      go_at_call 98
      obtain ⟨r9, e9, hs⟩ := Pz.bd_some hs
      refine (typ_c q ts8 0 r9 e9 _ hP8).mono ?_
      clear e9
      rcases r9 with ⟨ty, ts9⟩ | ⟨p, c⟩
      rotate_left
      · obtain rfl : rs = .er p c := hs
        rintro e W9 ⟨rfl, f9⟩
        unfold gP
        go_wp2_with fail
        exact ⟨rfl, rfl, g8.same (fqz f9)⟩
      rintro e W9 ⟨v9, rfl, rfl, hQ9, f9⟩
      have g9 := g8.same (fqz f9)
      have s9 := f9.size
      have t9 := g9.size
      have hP9 : Hidden (Ps W9 q ts9 0 false) := hQ9
      clear hQ9
      have hz_9 : Hidden (W9.heap[z]? = some (.cells #[ci 3, .bool ex, ct n, ci 0, .slice aop ps.length capp, .slice none 0 0, .slice none 0 0] 50)) := f9.heap hz_8 (by omega)
      obtain ⟨zc0, zc1, zc2, zc3, zc4, zc5, zc6, zz0, zz1, zz2, zz3, zz4, zz5, zz6⟩ := box7 hz_9
      go_upto_region 7 with fail
      have f10 := Fr.put W9 (z) 3 (ci ty)
      have hbz_10 : (W9.setCell ⟨z, 3, none⟩ (ci ty)).heap[z]? = some (.cells #[ci 3, .bool ex, ct n, ci ty, .slice aop ps.length capp, .slice none 0 0, .slice none 0 0] 50) := heap_setCell_same _ _ 3 _ _ _ hz_9
      have hP10 : Hidden (Ps (W9.setCell ⟨z, 3, none⟩ (ci ty)) q ts9 0 false) := Ps.high hP9 f10 (fun k hk => by subst hk; omega)
      have g10 : Fr (fun k => k = q ∨ k = z) w (W9.setCell ⟨z, 3, none⟩ (ci ty)) := g9.same (fzz f10)
      have t10 := g10.size
      have s10 := f10.size
      generalize (W9.setCell ⟨z, 3, none⟩ (ci ty)) = W10 at f10 hbz_10  hP10 g10 t10 s10  ⊢
      clear zc0 zc1 zc2 zc3 zc4 zc5 zc6 zz0 zz1 zz2 zz3 zz4 zz5 zz6
      have hhz_10 : Hidden (W10.heap[z]? = some (.cells #[ci 3, .bool ex, ct n, ci ty, .slice aop ps.length capp, .slice none 0 0, .slice none 0 0] 50)) := hbz_10
      clear hbz_10
      go_wp2_with fail
      go_at_call 102
      obtain ⟨r11, e11, hs⟩ := Pz.bd_some hs
      refine (hB 0 ts9 r11 q _ (by omega) e11 hP10).mono ?_
      clear e11
      rcases r11 with ⟨b, ts11⟩ | ⟨p, c⟩
      rotate_left
      · obtain rfl : rs = .er p c := hs
        rintro e W11 ⟨rfl, f11⟩
        unfold gP
        go_wp2_with fail
        exact ⟨rfl, rfl, g10.same (fqz f11)⟩
      rintro e W11 ⟨v11, rfl, ⟨aob, capb, rfl, hNb⟩, hQ11, f11⟩
      have g11 := g10.same (fqz f11)
      have s11 := f11.size
      have t11 := g11.size
      have hP11 : Hidden (Ps W11 q ts11 0 false) := hQ11
      clear hQ11
      have hz_11 : Hidden (W11.heap[z]? = some (.cells #[ci 3, .bool ex, ct n, ci ty, .slice aop ps.length capp, .slice none 0 0, .slice none 0 0] 50)) := f11.heap hhz_10 (by omega)
      obtain rfl : rs = .ok ⟨3, ex, n, ty, ps, .nil, b⟩ ts11 := (Option.some.inj (show some _ = some rs from hs)).symm
      obtain ⟨zc0, zc1, zc2, zc3, zc4, zc5, zc6, zz0, zz1, zz2, zz3, zz4, zz5, zz6⟩ := box7 hz_11
      have fp := Fr.put W11 z 6 (.slice aob b.len capb)
      have hbz : (W11.setCell ⟨z, 6, none⟩ (.slice aob b.len capb)).heap[z]? = some (.cells #[ci 3, .bool ex, ct n, ci ty, .slice aop ps.length capp, .slice none 0 0, .slice aob b.len capb] 50) := heap_setCell_same _ _ 6 _ _ _ hz_11
      have hNb2 := (hNb.step fp (fun k hk => by subst hk; omega)).weak (B' := w.heap.size) (by omega)
      have hNp2 := hNp.step f6 (fun k hk => by subst hk; omega)
      replace hNp2 := hNp2.step f7 (fun k hk => by subst hk; omega)
      replace hNp2 := hNp2.step f8 (fun k hk => by subst hk; omega)
      replace hNp2 := hNp2.step f9 (fun k hk => by subst hk; omega)
      replace hNp2 := hNp2.step f10 (fun k hk => by subst hk; omega)
      replace hNp2 := hNp2.step f11 (fun k hk => by subst hk; omega)
      replace hNp2 := (hNp2.step fp (fun k hk => by subst hk; omega)).weak (B' := w.heap.size) (by omega)
      go_wp2_with fail
      go_end0
      exact ⟨_, _, _, rfl, hbz, fun w2 hf => ⟨aop, capp, none, 0, aob, capb, rfl, rfl, rfl, hNp2 w2 hf, exnil _, hNb2 w2 hf⟩, Ps.high hP11 fp (fun k hk => by subst hk; exact hqz), g11.same (fzz fp)⟩

end
end Go.Proofs.YtpkaekokkhecmaaGreatDoor
