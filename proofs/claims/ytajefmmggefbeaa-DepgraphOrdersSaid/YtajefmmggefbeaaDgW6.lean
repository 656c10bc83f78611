/- The document's Levels. -/
import Derived.Test.YtajefmmggefbeaaDgW5
namespace Go.Proofs.Ytajefmmggefbeaa.Dg
open Go.RowKit Go.Sort
set_option linter.unusedSimpArgs false
set_option linter.unusedVariables false

/-- A row of lists of the call's own, apart from some blocks. -/
def LA (w : World) (B : Nat) (v : Value) (ls : List (List Str)) (S : Nat → Prop) : Prop :=
  ∃ xs : List Value, xs.length = ls.length ∧ w.ownsRow B 23 1 v xs.length xs ∧
    (∀ (i : Nat) (x : Value) (l : List Str), xs[i]? = some x → ls[i]? = some l → Tl w x l ∧ ∀ k, x.ownBlock = some k → B ≤ k ∧ k < w.heap.size ∧ v.ownBlock ≠ some k ∧ ¬ S k) ∧ ∀ k, v.ownBlock = some k → ¬ S k
theorem LA.nil (w : World) (B : Nat) (S : Nat → Prop) : LA w B (.slice none 0 0) [] S := ⟨[], rfl, ⟨by simp, Or.inl ⟨rfl, rfl⟩⟩, fun i x l h => by simp at h, fun k hk => by cases hk⟩
theorem LA.ll {w : World} {B : Nat} {v : Value} {ls : List (List Str)} {S : Nat → Prop} (h : LA w B v ls S) : LL w B v ls := by
  obtain ⟨xs, h1, h2, h3, _⟩ := h
  exact ⟨xs, h1, h2, fun i x l hx hl => ⟨(h3 i x l hx hl).1, fun k hk => ⟨((h3 i x l hx hl).2 k hk).1, ((h3 i x l hx hl).2 k hk).2.1, ((h3 i x l hx hl).2 k hk).2.2.1⟩⟩⟩
theorem LA.move {S S' : Nat → Prop} {w w' : World} {B : Nat} {v : Value} {ls : List (List Str)} (h : LA w B v ls S) (hf : Fr S w w') (hS : ∀ k, k < w.heap.size → S' k → S k) : LA w' B v ls S' := by
  obtain ⟨xs, h1, h2, h3, h4⟩ := h
  refine ⟨xs, h1, row_keep h2 hf h4, fun i x l hx hl => ?_, fun k hk hk' => h4 k hk (hS k (own_row h2 k hk).2 hk')⟩
  obtain ⟨k1, k2⟩ := h3 i x l hx hl
  exact ⟨k1.keep hf (fun k hk => (k2 k hk).2.2.2), fun k hk => ⟨(k2 k hk).1, Nat.lt_of_lt_of_le (k2 k hk).2.1 hf.size, (k2 k hk).2.2.1, fun hk' => (k2 k hk).2.2.2 (hS k (k2 k hk).2.1 hk')⟩⟩
theorem LA.later {S : Nat → Prop} {w w' : World} {B : Nat} {v : Value} {ls : List (List Str)} (h : LA w B v ls S) (hf : Fr (fun _ => False) w w') : LA w' B v ls S := h.move (hf.mono fun _ _ f => f.elim) (fun _ _ k => k)
theorem run_appla (w : World) (B : Nat) (v y : Value) (ls : List (List Str)) (l : List Str) (ty : TypeId) (x : Value) (S : Nat → Prop) (hv : LA w B v ls S) (hc : ∃ b off cap, x = .slice (some ⟨b, off, none⟩) 1 cap ∧ w.cell? ⟨b, off, none⟩ = some y) (hy : Tl w y l) (hyb : ∀ k, y.ownBlock = some k → B ≤ k ∧ k < w.heap.size ∧ v.ownBlock ≠ some k ∧ ¬ S k) (hS : ∀ k, S k → k < w.heap.size) (hB : B ≤ w.heap.size) (hb : (ls.length + 1) * 24 ≤ 140737488355328) :
    ∃ v' w', (Builtin.append_ #[39, 39] ty #[v, x]).run Try.prog w = .ok v' w' ∧ LA w' B v' (ls ++ [l]) S ∧ Fr (fun k => v.ownBlock = some k) w w' := by
  obtain ⟨i0, hi, hz0, hz1, hz2⟩ := info_parts Try.info_sl
  obtain ⟨xs, h1, h2, h3, h4⟩ := hv
  obtain ⟨b, off, cap, rfl, hcy⟩ := hc
  have hnews : ∀ (j : Nat) (u : Value), [y][j]? = some u → w.cell? ((⟨b, off, none⟩ : Addr).add j) = some u := by
    intro j u hu
    cases j with
    | zero => simp at hu; subst hu; rw [Addr.add_lit]; exact hcy
    | succ j => simp at hu
  have hone : ∀ u ∈ [y], u.oneCell' = true := by
    intro u hu
    simp at hu
    subst hu
    obtain ⟨ao, c, rfl, _⟩ := hy
    rfl
  obtain ⟨v', w', hr, k2, k3, _, k5⟩ := run_append_own_at (P := Try.prog) w B 39 ty 23 i0 (.slice none 0 0) 1 24 Try.underlying39 hi hz0 hz1 hz2 rfl (by decide) v xs.length xs h2 ⟨b, off, none⟩ 1 cap [y] (by simp) hnews hone (by unfold maxLen; omega) (by omega) hB
  have hf : Fr (fun k => v.ownBlock = some k) w w' := (Fr.grown k3).mono fun k _ e => e.symm
  have hnb : ∀ k, k < w.heap.size → v.ownBlock ≠ some k → v'.ownBlock ≠ some k := by
    intro k hk hne e
    rcases k5 with k5 | k5
    · exact hne (by rw [← k5]; exact e)
    · rw [k5] at e; have := Option.some.inj e; omega
  refine ⟨v', w', hr, ⟨xs ++ [y], by simp [h1], by rw [List.length_append]; exact k2, fun i x l' hx hl => ?_, fun k hk hs => ?_⟩, hf⟩
  · by_cases hil : i < xs.length
    · rw [List.getElem?_append_left hil] at hx
      rw [List.getElem?_append_left (by omega)] at hl
      obtain ⟨q1, q2⟩ := h3 i x l' hx hl
      exact ⟨q1.keep hf (fun k hk => (q2 k hk).2.2.1), fun k hk => ⟨(q2 k hk).1, Nat.lt_of_lt_of_le (q2 k hk).2.1 hf.size, hnb k (q2 k hk).2.1 (q2 k hk).2.2.1, (q2 k hk).2.2.2⟩⟩
    · have e : i = xs.length := by
        have := (List.getElem?_eq_some_iff.1 hx).1
        simp at this; omega
      subst e
      rw [List.getElem?_append_right (Nat.le_refl _), Nat.sub_self] at hx
      rw [h1, List.getElem?_append_right (Nat.le_refl _), Nat.sub_self] at hl
      simp at hx hl
      subst hx hl
      exact ⟨hy.keep hf (fun k hk => (hyb k hk).2.2.1), fun k hk => ⟨(hyb k hk).1, Nat.lt_of_lt_of_le (hyb k hk).2.1 hf.size, hnb k (hyb k hk).2.1 (hyb k hk).2.2.1, (hyb k hk).2.2.2⟩⟩
  · rcases k5 with k5 | k5
    · rw [k5] at hk; exact h4 k hk hs
    · rw [k5] at hk; have := Option.some.inj hk; have := hS k hs; omega
theorem wpList_appla {w : World} {ops : Array Oper} {rest : List Oper} {o : Oper} {a : Act} {Q : Exit → Act → World → Prop} (hgd : o.guard = none) (s x : Operand)
    (ho : o.op = .call { callee := .builtin .append, args := #[s, x], argTypes := #[39, 39] }) (B : Nat) (v xv y : Value) (ls : List (List Str)) (l : List Str) (S : Nat → Prop)
    (hs : a.eval s = v) (hv : LA w B v ls S) (hx : a.eval x = xv) (hc : ∃ b off cap, xv = .slice (some ⟨b, off, none⟩) 1 cap ∧ w.cell? ⟨b, off, none⟩ = some y) (hy : Tl w y l) (hyb : ∀ k, y.ownBlock = some k → B ≤ k ∧ k < w.heap.size ∧ v.ownBlock ≠ some k ∧ ¬ S k) (hS : ∀ k, S k → k < w.heap.size) (hB : B ≤ w.heap.size) (hb : (ls.length + 1) * 24 ≤ 140737488355328)
    (h : ∀ v' w', LA w' B v' (ls ++ [l]) S → Fr (fun k => v.ownBlock = some k) w w' → wpList Try.prog ops Q rest (a.put o.dst v') w') : wpList Try.prog ops Q (o :: rest) a w := by
  refine wpList_plain hgd fun K hK => ?_
  obtain ⟨v', w', hr, h2, h3⟩ := run_appla w B v y ls l o.type xv S hv hc hy hyb hS hB hb
  unfold Oper.wp
  simp only [execOp, ho, resolve, invoke, builtin, Sem.run_bind, Sem.run_pure, Result.andThen_ok, List.map_toArray, List.map_cons, List.map_nil, hs, hx, hr]
  exact hK _ _ (h v' w' h2 h3)
set_option maxRecDepth 20000 in
theorem rlevels_err (p : Value) (g : Gr) (w : World) (h : Rg w p g) (he : ordE g ≠ 0) :
    Calls Try.prog 23 #[p] w fun e w' => e = .returned (.tuple #[.slice none 0 0, .int .i64 (ordE g)]) ∧ Fr (fun _ => False) w w' := by
  have ko := rorder_err p g w h he
  obtain ⟨B, _, _, hp, _⟩ := h.cell
  subst hp
  generalize ordE g = c at ko he ⊢
  have hne : (c == 0) = false := by simpa using he
  have hne2 : (c != 0) = true := by simpa using he
  clear h he
  go_enter Try.func23, Try.ntmps23
  go_wp2_with (go_at_call 21; refine ko.mono ?_; rintro e w1 ⟨rfl, f1⟩; have f1H : Hidden (Fr (fun _ => False) w w1) := f1; clear f1)
  go_ret2
  exact ⟨rfl, f1H⟩
/-- The document's levels, while they are made. -/
structure LAt (g : Gr) (R ls : List (List Str)) (done : List Str) : Prop where
  at_ : LevAt g ls done R
  nodup : done.Nodup
  sub : ∀ x ∈ done, x ∈ g.ks
  len : ls.length ≤ done.length
theorem LAt.left {g : Gr} (hg : g.WF) {R ls : List (List Str)} {done : List Str} (h : LAt g R ls done) : (leftS g done).length + done.length = g.ks.length := left_lt h.nodup h.sub hg
theorem next_pos {g : Gr} (hc : Calm g) {done : List Str} (hne : leftS g done ≠ []) : 0 < (nextS g done).length := by
  obtain ⟨k, x, q1, q2, q3⟩ := hc.there_next hne
  exact List.length_pos_of_mem (List.mem_filter.2 ⟨List.mem_of_getElem? q1, by simp [q2, q3]⟩)
theorem LAt.step {g : Gr} (hg : g.WF) (hc : Calm g) {R ls : List (List Str)} {done : List Str} (h : LAt g R ls done) (hne : leftS g done ≠ []) : LAt g R (ls ++ [nextS g done]) (done ++ nextS g done) := by
  refine ⟨h.at_.step hne hc, ?_, fun x hx => ?_, ?_⟩
  · rw [List.nodup_append]
    refine ⟨h.nodup, (nodup_of_ss hg.ks).filter _, fun a ha b hb e => ?_⟩
    subst e
    have := (List.mem_filter.1 hb).2
    simp [ha] at this
  · rcases List.mem_append.1 hx with hx | hx
    · exact h.sub x hx
    · exact (List.mem_filter.1 hx).1
  · have := next_pos hc hne
    have := h.len
    simp only [List.length_append, List.length_singleton]
    omega
theorem nextGo_len (g : Gr) (done : List Str) (j : Nat) : ((g.ks.take j).filter fun x => decide (x ∉ done) && okIn g done x).length ≤ j := Nat.le_trans (List.length_filter_le _ _) (by simp; omega)
set_option maxRecDepth 20000 in
set_option maxHeartbeats 8000000 in
theorem rlevels_ok (p : Value) (g : Gr) (w : World) (h : Rg w p g) (he : ordE g = 0) (R : List (List Str)) (hR : levelsS g = some R) :
    Calls Try.prog 23 #[p] w fun e w' => (∃ ao cap, e = .returned (.tuple #[.slice ao R.length cap, .int .i64 0]) ∧ LL w' w.heap.size (.slice ao R.length cap) R) ∧ Fr (fun _ => False) w w' := by
  have hH : Hidden (Rg w p g) := h
  have hcm : Hidden (Calm g) := calm_of h.wf he
  obtain ⟨O, hO, _, _⟩ := (calm_of h.wf he).order
  have ko := rorder_ok p g w h he O hO
  obtain ⟨B, ao, cap, rfl, cB, hrow⟩ := h.cell
  have hsm := h.small
  have hrowH : Hidden (RL w ao cap g) := hrow
  have hc1 := hrow.1
  have hc2 := hrow.2.1
  have hst : Hidden (LAt g R [] []) := ⟨LevAt.start hR, by simp, by simp, by simp⟩
  clear h he hR hrow hO
  go_enter Try.func23, Try.ntmps23
  go_wp2_with fail
  refine ko.mono ?_
  rintro e w1 ⟨⟨ao1, cap1, rfl, _⟩, f1⟩
  have f1H : Hidden (Fr (fun _ => False) w w1) := f1
  clear ko f1
  go_wp2_with fail
  go_loopg [6, 7] g.ks.length (fun q ov dv wr => ∃ (ls : List (List Str)) (done : List Str), q = g.ks.length - done.length ∧ LAt g R ls done ∧ To wr w.heap.size dv done ∧ LA wr w.heap.size ov ls (fun k => dv.ownBlock = some k) ∧ Fr (fun _ => False) w wr)
  case atStart => exact ⟨[], [], by simp, hst, To.nil _ _, LA.nil _ _ _, f1H⟩
  case round =>
    obtain ⟨ls, done, hq, ho, hto, hla, hf⟩ := hrel
    have hqH : Hidden (gk = g.ks.length - done.length) := hq
    have hoH : Hidden (LAt g R ls done) := ho
    have htoH : Hidden (To wr w.heap.size u7 done) := hto
    have hlaH : Hidden (LA wr w.heap.size u6 ls (fun k => u7.ownBlock = some k)) := hla
    have hfH : Hidden (Fr (fun _ => False) w wr) := hf
    have hol := ho.left (show Rg w _ g from hH).wf
    have hll := ho.len
    have cBr := hf.cellN cB
    obtain ⟨aod, capd, hu, o1, o2⟩ := hto.shape
    subst hu
    clear hq hst f1H
    by_cases hlt : done.length < g.ks.length
    · have hne : Hidden (leftS g done ≠ []) := fun e => by rw [e] at hol; simp at hol; omega
      clear ho hto hla hf hol
      go_wp2_with fail
      obtain ⟨V, hV⟩ : ∃ V, V = wr := ⟨wr, rfl⟩
      subst hV
      obtain ⟨gko, hgko⟩ : ∃ gko, gko = gk := ⟨gk, rfl⟩
      subst hgko
      obtain ⟨vo, hvo⟩ : ∃ vo, vo = u6 := ⟨u6, rfl⟩
      subst hvo
      clear cBr
      go_loopg [8, 9] g.ks.length (fun q nv iv wr' => ∃ j : Nat, iv = .int .i64 (j : Int) ∧ j ≤ g.ks.length ∧ q = g.ks.length - j ∧ To wr' V.heap.size nv ((g.ks.take j).filter fun x => decide (x ∉ done) && okIn g done x) ∧ Fr (fun _ => False) V wr')
      case atStart => exact ⟨0, rfl, by omega, rfl, To.nil _ _, Fr.refl _ _⟩
      case round =>
        obtain ⟨j, rfl, hj, hq5, htn, hf5⟩ := hrel
        have hqH5 : Hidden (gk = g.ks.length - j) := hq5
        have htnH : Hidden (To wr V.heap.size u8 ((g.ks.take j).filter fun x => decide (x ∉ done) && okIn g done x)) := htn
        have hfH5 : Hidden (Fr (fun _ => False) V wr) := hf5
        have fw : Hidden (Fr (fun _ => False) w wr) := Fr.same hfH hf5
        have cBw := (show Fr (fun _ => False) w wr from fw).cellN cB
        clear hq5
        by_cases hjl : j < g.ks.length
        · obtain ⟨x, hx⟩ : ∃ x, g.ks[j]? = some x := ⟨g.ks[j], List.getElem?_eq_getElem hjl⟩
          obtain ⟨b, off, aoi, capi, e1, c1, c2, ct3⟩ := RL.at ((show RL w ao cap g from hrowH).later fw) hx
          subst e1
          have tor : To wr w.heap.size (.slice aod done.length capd) done := To.later htoH hf5
          have himx := (show Rg w _ g from hH).ims x
          have hsn : Hidden ((g.ks.take (j + 1)).filter (fun x => decide (x ∉ done) && okIn g done x) = (g.ks.take j).filter (fun x => decide (x ∉ done) && okIn g done x) ++ if (decide (x ∉ done) && okIn g done x) = true then [x] else []) := filter_snoc hx _
          have hlen : Hidden (((g.ks.take j).filter fun x => decide (x ∉ done) && okIn g done x).length ≤ j) := nextGo_len g done j
          by_cases hin : x ∈ done
          · have kh := rhas_any _ done x true (by simp [hin]) wr tor.tn.tl
            have hbH : Hidden ((decide (x ∉ done) && okIn g done x) = false) := by show _ = _; simp [hin]
            clear hf5 hx ct3 tor hin htn
            go_wp2_with (go_at_call 36; refine kh.mono ?_; rintro e w4 ⟨rfl, hw4⟩; replace hw4 := hw4.symm; subst hw4)
            go_roundg (g.ks.length - (j + 1))
            case measure => have := (show gk = g.ks.length - j from hqH5); omega
            case rel =>
              refine ⟨j + 1, by go_num, by omega, rfl, ?_, hfH5⟩
              have e1 : (g.ks.take (j + 1)).filter _ = _ := hsn
              rw [e1, (show _ = false from hbH)]
              simpa using (show To wr V.heap.size _ _ from htnH)
          · have kh := rhas_any _ done x false (by simp [hin]) wr tor.tn.tl
            have kw := fun r hr => rwithin_any _ _ (g.im x) done wr ct3 tor.tn.tl (by omega) (fun y hy => (show Rg w _ g from hH).okI hy) r hr
            cases hok : okIn g done x
            · have kw := kw false hok
              have hbH : Hidden ((decide (x ∉ done) && okIn g done x) = false) := by show _ = _; simp [hok]
              clear hf5 hx ct3 tor hin hok htn
              go_wp2_with (first
                | (go_at_call 36; refine kh.mono ?_; rintro e w4 ⟨rfl, hw4⟩; replace hw4 := hw4.symm; subst hw4)
                | (go_at_call 49; refine kw.mono ?_; rintro e w5 ⟨rfl, f5⟩))
              go_roundg (g.ks.length - (j + 1))
              case measure => have := (show gk = g.ks.length - j from hqH5); omega
              case rel =>
                refine ⟨j + 1, by go_num, by omega, rfl, ?_, Fr.same hfH5 f5⟩
                have e1 : (g.ks.take (j + 1)).filter _ = _ := hsn
                rw [e1, (show _ = false from hbH)]
                simpa using (show To wr V.heap.size _ _ from htnH).later f5
            · have kw := kw true hok
              have hbH : Hidden ((decide (x ∉ done) && okIn g done x) = true) := by show _ = _; simp [hok, hin]
              clear hf5 hx ct3 tor hin hok htn
              go_wp2_with (first
                | (go_at_call 36; refine kh.mono ?_; rintro e w4 ⟨rfl, hw4⟩; replace hw4 := hw4.symm; subst hw4)
                | (go_at_call 49; refine kw.mono ?_; rintro e w5 ⟨rfl, f5⟩; have d1 := f5.cellN c1; have dB := f5.cellN cBw; have f5H : Hidden (Fr (fun _ => False) V w5) := Fr.same hfH5 f5; have t5 : Hidden (To w5 V.heap.size u8 ((g.ks.take j).filter fun x => decide (x ∉ done) && okIn g done x)) := To.later htnH f5; clear f5 c1 cBw c2)
                | (at_builtin; refine wpList_app rfl _ _ rfl V.heap.size _ _ _ [x] rfl (To.keep t5 (Fr.alloc (fun _ => False) _ _) (fun _ _ f => f)) rfl (Tl.one _ x) (Nat.le_trans (show Fr (fun _ => False) V w5 from f5H).size (by simp)) (by have : _ ≤ j := hlen; simp only [List.length_cons, List.length_nil]; omega) ?_; intro v8 w8 t8 f8 _))
              go_roundg (g.ks.length - (j + 1))
              case measure => have := (show gk = g.ks.length - j from hqH5); omega
              case rel =>
                refine ⟨j + 1, by go_num, by omega, rfl, ?_, ?_⟩
                · have e1 : (g.ks.take (j + 1)).filter _ = _ := hsn
                  rw [e1, (show _ = true from hbH)]
                  simpa using t8
                · refine ((show Fr (fun _ => False) V w5 from f5H).same (Fr.alloc _ _ _)).over f8 fun k hk => ?_
                  exact ((show To w5 V.heap.size _ _ from t5).own k hk).1
        · obtain rfl : j = g.ks.length := by omega
          have tnx : To wr V.heap.size u8 (nextS g done) := by
            have := (show To wr V.heap.size u8 ((g.ks.take g.ks.length).filter fun x => decide (x ∉ done) && okIn g done x) from htnH)
            rw [List.take_length] at this
            exact this
          have tnxH : Hidden (To wr V.heap.size u8 (nextS g done)) := tnx
          have hnl : (nextS g done).length ≤ g.ks.length := List.length_filter_le _ _
          have hnlH : Hidden ((nextS g done).length ≤ 32) := by show _ ≤ _; omega
          have hstep : Hidden (LAt g R (ls ++ [nextS g done]) (done ++ nextS g done)) := (show LAt g R ls done from hoH).step (show Rg w _ g from hH).wf hcm hne
          have hpos : Hidden (0 < (nextS g done).length) := next_pos (show Calm g from hcm) hne
          obtain ⟨aon, capn, hun, n1, n2⟩ := tnx.shape
          have hunH : Hidden (u8 = .slice aon (nextS g done).length capn) := hun
          generalize hN : nextS g done = N at *
          subst hun
          have laW : LA wr w.heap.size vo ls (fun k => (Value.slice aod done.length capd).ownBlock = some k) := LA.later hlaH hf5
          have laWH : Hidden (LA wr w.heap.size vo ls (fun k => (Value.slice aod done.length capd).ownBlock = some k)) := laW
          have hvs : Hidden (V.heap.size ≤ wr.heap.size) := hf5.size
          have hws : Hidden (w.heap.size ≤ V.heap.size) := (show Fr (fun _ => False) w V from hfH).size
          obtain ⟨aov, capv, hvo, v1, v2⟩ := laW.ll.shape
          have vown : Hidden (∀ k, vo.ownBlock = some k → w.heap.size ≤ k ∧ k < V.heap.size) := (show LA V w.heap.size vo ls _ from hlaH).ll.own
          subst hvo
          have dlow : Hidden (∀ k, (Value.slice aod done.length capd).ownBlock = some k → w.heap.size ≤ k ∧ k < V.heap.size) := (show To V w.heap.size _ done from htoH).own
          have nlow : Hidden (∀ k, (Value.slice aon N.length capn).ownBlock = some k → V.heap.size ≤ k ∧ k < wr.heap.size) := tnx.own
          clear hf5 htn tnx laW hN
          have la0 : Hidden (LA (wr.alloc (.cells #[.slice aon N.length capn] 23)) w.heap.size (.slice aov ls.length capv) ls (fun k => (Value.slice aod done.length capd).ownBlock = some k)) := LA.later laWH (Fr.alloc _ _ _)
          have cy : ∃ b off cap, (Value.slice (some ⟨wr.heap.size, 0, none⟩) 1 1) = .slice (some ⟨b, off, none⟩) 1 cap ∧ (wr.alloc (.cells #[.slice aon N.length capn] 23)).cell? ⟨b, off, none⟩ = some (.slice aon N.length capn) := ⟨wr.heap.size, 0, 1, rfl, by rw [cell_of_row _ _ _ _ _ _ (alloc_new wr _)]; rfl⟩
          have cyH : Hidden (∃ b off cap, (Value.slice (some ⟨wr.heap.size, 0, none⟩) 1 1) = .slice (some ⟨b, off, none⟩) 1 cap ∧ (wr.alloc (.cells #[.slice aon N.length capn] 23)).cell? ⟨b, off, none⟩ = some (.slice aon N.length capn)) := cy
          have hyb : Hidden (∀ k, (Value.slice aon N.length capn).ownBlock = some k → w.heap.size ≤ k ∧ k < (wr.alloc (.cells #[.slice aon N.length capn] 23)).heap.size ∧ (Value.slice aov ls.length capv).ownBlock ≠ some k ∧ ¬ (Value.slice aod done.length capd).ownBlock = some k) := by
            intro k hk
            have h1 := (show ∀ k, _ → V.heap.size ≤ k ∧ k < wr.heap.size from nlow) k hk
            have h2 : w.heap.size ≤ V.heap.size := hws
            refine ⟨by omega, by simp; omega, fun e => ?_, fun e => ?_⟩
            · have := ((show ∀ k, _ → w.heap.size ≤ k ∧ k < V.heap.size from vown) k e).2; omega
            · have := ((show ∀ k, _ → w.heap.size ≤ k ∧ k < V.heap.size from dlow) k e).2; omega
          have hSl : Hidden (∀ k, (Value.slice aod done.length capd).ownBlock = some k → k < (wr.alloc (.cells #[.slice aon N.length capn] 23)).heap.size) := by
            intro k hk
            have h1 := ((show ∀ k, _ → w.heap.size ≤ k ∧ k < V.heap.size from dlow) k hk).2
            have h2 : V.heap.size ≤ wr.heap.size := hvs
            simp; omega
          have hBl : Hidden (w.heap.size ≤ (wr.alloc (.cells #[.slice aon N.length capn] 23)).heap.size) := by
            have h1 : V.heap.size ≤ wr.heap.size := hvs
            have h2 : w.heap.size ≤ V.heap.size := hws
            show _ ≤ _
            simp; omega
          clear cy
          go_wp2_with (first
            | (at_builtin
               have q := la6H
               refine wpList_app rfl _ _ rfl w.heap.size (.slice aod done.length capd) (.slice aon N.length capn) done N rfl td6 rfl tn6 hB6 (by have : N.length ≤ 32 := hnlH; omega) ?_
               intro v7 w7 t7 f7 o7)
            | (at_builtin
               refine wpList_appla rfl _ _ rfl w.heap.size (.slice aov ls.length capv) _ (.slice aon N.length capn) ls N _ rfl la0 rfl cyH (Tl.later (show To wr V.heap.size _ N from tnxH).tn.tl (Fr.alloc _ _ _)) hyb hSl hBl (by omega) ?_
               intro v6 w6 la6 f6
               have la6H : Hidden (LA w6 w.heap.size v6 (ls ++ [N]) (fun k => (Value.slice aod done.length capd).ownBlock = some k)) := la6
               have f6H : Hidden (Fr (fun k => (Value.slice aov ls.length capv).ownBlock = some k) (wr.alloc (.cells #[.slice aon N.length capn] 23)) w6) := f6
               have td6 : Hidden (To w6 w.heap.size (.slice aod done.length capd) done) := To.keep (To.later (To.later htoH hfH5) (Fr.alloc _ _ _)) f6 (fun k hk e => by
                 obtain ⟨_, _, _, _, hh⟩ := (show LA _ _ _ _ _ from la0)
                 exact hh k e hk)
               have tn6 : Hidden (Tl w6 (.slice aon N.length capn) N) := (To.keep (To.later tnxH (Fr.alloc _ _ _)) f6 (fun k hk => ((show ∀ k, _ → _ from hyb) k hk).2.2.1)).tn.tl
               have hB6 : Hidden (w.heap.size ≤ w6.heap.size) := Nat.le_trans hBl f6.size
               clear la6 f6))
          go_roundg (g.ks.length - (done ++ N).length)
          case measure => have h1 := (show gko = g.ks.length - done.length from hqH); have h2 : 0 < N.length := hpos; rw [List.length_append]; omega
          case rel =>
            refine ⟨ls ++ [N], done ++ N, rfl, hstep, t7, LA.move la6H f7 (fun k hk e => ?_), ?_⟩
            · rcases o7 with o | o
              · rw [← o]; exact e
              · rw [o] at e; have := Option.some.inj e; omega
            · have a1 : Fr (fun _ => False) w (wr.alloc (.cells #[.slice aon N.length capn] 23)) := Fr.same fw (Fr.alloc _ _ _)
              have a2 : Fr (fun _ => False) w w6 := a1.over f6H (fun k hk => ((show ∀ k, _ → w.heap.size ≤ k ∧ k < V.heap.size from vown) k hk).1)
              exact a2.over f7 (fun k hk => ((show ∀ k, _ → w.heap.size ≤ k ∧ k < V.heap.size from dlow) k hk).1)
    · have e0 : leftS g done = [] := List.eq_nil_of_length_eq_zero (by omega)
      have e1 : Hidden (ls = R) := ho.at_.end e0
      obtain ⟨aov, capv, hvo, v1, v2⟩ := hla.ll.shape
      subst hvo
      clear ho hto hla hf hol e0
      go_wp2
      go_ret2
      rw [← (show ls = R from e1)]
      exact ⟨⟨aov, capv, rfl, (show LA wr w.heap.size _ ls _ from hlaH).ll⟩, hfH⟩
end Go.Proofs.Ytajefmmggefbeaa.Dg
