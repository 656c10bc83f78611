/- iface.shown: the walk. -/
import Derived.Test.YtpjahcncknccdaaGreatIcE
namespace Go.Proofs.YtpjahcncknccdaaGreat.Fo.Ic
open Go.RowKit Te
set_option linter.unusedSimpArgs false
set_option linter.unusedVariables false

/-- What a round leaves: a box with the declaration's item, whose parameters lie in a row of its own. -/
def Bx (V : World) (kind : Int) (name : Bs) (typ bits : Int) (ps : List Int) (g : Nat) (po : Option Addr) (pc : Nat) (wx : World) : Prop :=
  wx.heap[g]? = some (.cells #[ci kind, ct name, ci typ, .int .u64 bits, .slice po ps.length pc] 59 (0, 0)) ∧ V.heap.size ≤ g ∧ Ty.InL wx po pc ps ∧ (∀ k, (Value.slice po ps.length pc).ownBlock = some k → V.heap.size ≤ k ∧ k < wx.heap.size ∧ k ≠ g) ∧ Fr FN V wx
theorem Bx.set {V : World} {kind : Int} {name : Bs} {typ bits : Int} {ps : List Int} {g : Nat} {po : Option Addr} {pc : Nat} {wx : World} (h : Bx V kind name typ bits ps g po pc wx) (b : Int) : Bx V kind name typ b ps g po pc (wx.setCell ⟨g, 3, none⟩ (.int .u64 b)) := by
  obtain ⟨h1, h2, h3, h4, h5⟩ := h
  have hf := Fr.setCell wx ⟨g, 3, none⟩ (.int .u64 b)
  refine ⟨heap_setCell_same wx g 3 _ _ _ h1, h2, InL_keepS h3 hf (fun k hk => (h4 k hk).2.2), fun k hk => ⟨(h4 k hk).1, Nat.lt_of_lt_of_le (h4 k hk).2.1 hf.size, (h4 k hk).2.2⟩, h5.over hf (fun k e => by have e : k = g := e; omega)⟩
theorem bx_in {w7 : World} {B : Nat} {ps : List Pa} {po : Option Addr} {pc : Nat} (o7 : w7.ownsRow B 3 1 (.slice po ps.length pc) ps.length (ps.map fun p => ci p.type)) :
    Ty.InL w7 po pc (ps.map (·.type)) ∧ ∀ k, (Value.slice po ps.length pc).ownBlock = some k → B ≤ k ∧ k < w7.heap.size := by
  have o8 : w7.ownsRow B 3 1 (.slice po ps.length pc) (ps.map (·.type)).length ((ps.map (·.type)).map ci) := by
    rw [List.length_map, List.map_map]; exact o7
  obtain ⟨ao, cap, e, h1, h2⟩ := Ty.own_ints o8
  simp only [Value.slice.injEq] at e
  obtain ⟨rfl, _, rfl⟩ := e
  exact ⟨h1, fun k hk => own_block o7 k hk⟩
theorem bx_new {V w7 : World} {B : Nat} {ps : List Pa} {po : Option Addr} {pc : Nat} {kind typ : Int} {name : Bs} (o7 : w7.ownsRow B 3 1 (.slice po ps.length pc) ps.length (ps.map fun p => ci p.type)) (hB : V.heap.size ≤ B) (f : Fr FN V w7) :
    Bx V kind name typ 0 (ps.map (·.type)) w7.heap.size po pc (w7.alloc (.cells #[ci kind, ct name, ci typ, .int .u64 0, .slice po ps.length pc] 59)) := by
  obtain ⟨h1, h2⟩ := bx_in o7
  have fa := Fr.alloc FN w7 (.cells #[ci kind, ct name, ci typ, .int .u64 0, .slice po ps.length pc] 59)
  refine ⟨by rw [List.length_map]; exact alloc_new _ _, f.size, h1.keep fa, fun k hk => ?_, f.same fa⟩
  rw [List.length_map] at hk
  have := h2 k hk
  exact ⟨by omega, by have := fa.size; omega, by omega⟩
theorem bx_old {V w7 : World} {B : Nat} {ps : List Pa} {po : Option Addr} {pc : Nat} {kind typ : Int} {name : Bs} (o7 : w7.ownsRow B 3 1 (.slice po ps.length pc) ps.length (ps.map fun p => ci p.type)) (hB : V.heap.size < B) (f : Fr FN V w7) (hz : w7.heap[V.heap.size]? = some zIt) :
    Bx V kind name typ 0 (ps.map (·.type)) V.heap.size po pc (((((w7.setCell ⟨V.heap.size, 0, none⟩ (ci kind)).setCell ⟨V.heap.size, 1, none⟩ (ct name)).setCell ⟨V.heap.size, 2, none⟩ (ci typ)).setCell ⟨V.heap.size, 3, none⟩ (.int .u64 0)).setCell ⟨V.heap.size, 4, none⟩ (.slice po ps.length pc)) := by
  obtain ⟨h1, h2⟩ := bx_in o7
  have fa := five_at w7 V.heap.size (ci kind) (ct name) (ci typ) (.int .u64 0) (.slice po ps.length pc)
  refine ⟨by rw [List.length_map]; exact five_put hz _ _ _ _ _, Nat.le_refl _, InL_keepS h1 fa (fun k hk e => ?_), fun k hk => ?_, f.over fa (fun k e => by have e : k = V.heap.size := e; omega)⟩
  · have e : k = V.heap.size := e
    rw [List.length_map] at hk
    have := h2 k hk
    omega
  · rw [List.length_map] at hk
    have := h2 k hk
    exact ⟨by omega, by have := fa.size; omega, by omega⟩
theorem bx_pm {w wr V W : World} {kind typ bits : Int} {name : Bs} {ps : List Int} {g : Nat} {po : Option Addr} {pc : Nat} {lv : Value} (hw : w.heap.size ≤ wr.heap.size) (hV : wr.heap.size ≤ V.heap.size) (hl : ∀ k, lv.ownBlock = some k → k < wr.heap.size) (h : Bx V kind name typ bits ps g po pc W) :
    PmO W w.heap.size lv (⟨kind, name, typ, bits, ps⟩, po, pc) := by
  obtain ⟨h1, h2, h3, h4, h5⟩ := h
  refine ⟨h3, fun k hk => ⟨by have := (h4 k hk).1; omega, (h4 k hk).2.1, fun e => ?_⟩⟩
  have := hl k e
  have := (h4 k hk).1
  omega
theorem it_one (x : IV) : ∀ u ∈ encI x, u.oneCell' = true := by
  intro u hu
  simp only [encI, List.mem_cons, List.not_mem_nil, or_false] at hu
  rcases hu with rfl | rfl | rfl | rfl | rfl <;> rfl
set_option maxRecDepth 20000 in
set_option maxHeartbeats 1500000 in
theorem shown_any (decls : List De) (ao : Option Addr) (cap : Nat) (cs : List Con) (bo : Option Addr) (bc : Nat) (w : World) (hd : DeL w ao cap decls) (hc : CoL w bo bc cs) (hn : cntC decls ≤ cs.length) (hlen : decls.length ≤ 64) (hp : ∀ d ∈ decls, d.params.length ≤ 8) :
    Calls Tryz.prog 35 #[.slice ao decls.length cap, .slice bo cs.length bc] w fun e w' => ∃ v its, e = .returned v ∧ its.Perm (itemsS decls cs) ∧ its.Pairwise (fun x y => ¬ y.name < x.name) ∧ (∃ ao cap, v = .slice ao its.length cap ∧ ∀ w'', Fr (fun k => k < w.heap.size) w' w'' → Ty.ItL w'' ao cap its) ∧ Fr FN w w' := by
  have m1 : cap ≤ 9223372036854775807 := by have := hd.2.1; unfold maxLen at this; omega
  have m2 : bc ≤ 9223372036854775807 := by have := hc.2.1; unfold maxLen at this; omega
  have n1 := hd.1
  have n2 := hc.1
  have hdH : Hidden (DeL w ao cap decls) := hd
  have hcH : Hidden (CoL w bo bc cs) := hc
  have hlenH : Hidden (decls.length ≤ 64) := hlen
  have hpH : Hidden (∀ d ∈ decls, d.params.length ≤ 8) := hp
  clear hd hc hlen hp
  go_enter Tryz.func35, Tryz.ntmps35
  go_wp2_with fail
  go_loopg [5, 6, 12] decls.length (fun g lv nv iv wr => ∃ (i nx : Nat) (acc : List IV), iv = ci (i : Int) ∧ nv = ci (nx : Int) ∧ i ≤ decls.length ∧ nx + cntC (decls.drop i) ≤ cs.length ∧ nx ≤ i ∧ g = decls.length - i ∧ acc.length ≤ i ∧ acc.map (·.1) ++ itemsS (decls.drop i) (cs.drop nx) = itemsS decls cs ∧ Rw.Row RP 59 5 wr w.heap.size lv acc ∧ (∀ x ∈ acc, PmO wr w.heap.size lv x) ∧ Fr FN w wr)
  case atStart => exact ⟨0, 0, [], rfl, rfl, by omega, by simpa using hn, by omega, rfl, by simp, rfl, ⟨[], ⟨by simp, Or.inl ⟨rfl, rfl⟩⟩, rfl⟩, by simp, Fr.refl _ _⟩
  case round =>
    obtain ⟨i, nx, acc, rfl, rfl, hi, hnx, hnxi, hgk, hac, heq, hrow, hpm, hfr⟩ := hrel
    obtain ⟨ao2, cap2, hv, _⟩ := hrow.slice
    subst hv
    have hgkH : Hidden (gk = decls.length - i) := hgk
    have hrowH : Hidden (Rw.Row RP 59 5 wr w.heap.size (.slice ao2 acc.length cap2) acc) := hrow
    have hpmH : Hidden (∀ x ∈ acc, PmO wr w.heap.size (.slice ao2 acc.length cap2) x) := hpm
    have hfrH : Hidden (Fr FN w wr) := hfr
    have heqH : Hidden (acc.map (·.1) ++ itemsS (decls.drop i) (cs.drop nx) = itemsS decls cs) := heq
    clear hgk hrow hpm heq
    by_cases hil : i < decls.length
    · obtain ⟨d, hx⟩ : ∃ d, decls[i]? = some d := ⟨decls[i], List.getElem?_eq_getElem hil⟩
      obtain ⟨db, doff, pv, ev, bv, rfl, hdi, hdc⟩ : ∃ b off pv ev bv, ao = some ⟨b, off, none⟩ ∧ DeI w d pv ev bv ∧ ∀ (j : Nat) (x : Value), (deC d pv ev bv)[j]? = some x → w.cell? ⟨b, off + i * 7 + j, none⟩ = some x := by
        rcases (show DeL w ao cap decls from hdH).2.2 with h0 | ⟨b, off, e, h0⟩
        · rw [h0] at hil; simp at hil
        · obtain ⟨pv, ev, bv, h1, h2⟩ := h0 i d hx
          exact ⟨b, off, pv, ev, bv, e, h1, h2⟩
      obtain ⟨p1, q1, p2, q2, p3, q3, rfl, rfl, rfl, hpl, _, _⟩ := hdi
      have d0 := hfr.cellN (hdc 0 _ rfl)
      have d1 := hfr.cellN (hdc 1 _ rfl)
      have d2 := hfr.cellN (hdc 2 _ rfl)
      have d3 := hfr.cellN (hdc 3 _ rfl)
      have d4 := hfr.cellN (hdc 4 _ rfl)
      have d5 := hfr.cellN (hdc 5 _ rfl)
      have d6 := hfr.cellN (hdc 6 _ rfl)
      simp only [Nat.add_zero] at d0
      have hp8 : d.params.length ≤ 8 := (show ∀ d ∈ decls, d.params.length ≤ 8 from hpH) d (List.mem_of_getElem? hx)
      obtain ⟨V, hV⟩ : ∃ V, V = wr.alloc (.cells #[ci d.kind, .bool d.ex, ct d.name, ci d.type, .slice p1 d.params.length q1, .slice p2 d.e.len q2, .slice p3 d.body.len q3] 49) := ⟨_, rfl⟩
      have fwV : Fr FN wr V := by rw [hV]; exact Fr.alloc _ _ _
      have hbx : V.heap[wr.heap.size]? = some (.cells #[ci d.kind, .bool d.ex, ct d.name, ci d.type, .slice p1 d.params.length q1, .slice p2 d.e.len q2, .slice p3 d.body.len q3] 49 (0, 0)) := by rw [hV]; exact alloc_new _ _
      have hbxH : Hidden (V.heap[wr.heap.size]? = some (.cells #[ci d.kind, .bool d.ex, ct d.name, ci d.type, .slice p1 d.params.length q1, .slice p2 d.e.len q2, .slice p3 d.body.len q3] 49 (0, 0))) := hbx
      obtain ⟨b0, b1, b2, b3, b4, b5, b6⟩ := ex_box hbx
      have fV : Hidden (Fr FN w V) := hfr.same fwV
      have fwVH : Hidden (Fr FN wr V) := fwV
      have hVH : Hidden (V = _) := hV
      have kP : ∀ u, Fr FN V u → Calls Tryz.prog 66 #[.slice p1 d.params.length q1] u fun e w' => ∃ v, e = .returned v ∧ w'.ownsRow u.heap.size 3 1 v d.params.length (d.params.map fun p => ci p.type) ∧ Fr FN u w' := fun u hu => ptypes_any d.params p1 q1 u (hpl.keep ((show Fr FN w V from fV).same hu)) (by omega)
      have hpt : Hidden ((d.params.map (·.type)).length = d.params.length) := by show _ = _; simp
      have hcnt := cntC_drop hx
      have hsplit : Hidden (itemsS (decls.drop i) (cs.drop nx) = (if d.ex then [itOf d (cs.drop nx)] else []) ++ itemsS (decls.drop (i + 1)) (if d.kind = 1 then (cs.drop nx).tail else cs.drop nx)) := by show _ = _; rw [dropAt hx]; rfl
      have hszV : Hidden (V.heap.size = wr.heap.size + 1) := by rw [hV]; simp [Hidden]
      clear hx hdc hpl hbx hV fwV hfr
      go_wp2_with fail
      rw [← (show V = _ from hVH)]
      clear d0 d1 d2 d3 d4 d5 d6
      go_cut [9] (fun pv wx => ∃ g po pc, pv = .pointer (some ⟨g, 0, none⟩) ∧ Bx V d.kind d.name d.type 0 (d.params.map (·.type)) g po pc wx)
      case first =>
        have nn6 := World.new_ne V _ b0
        go_region_held3 (fun w' => w'.cell? ⟨wr.heap.size, 0, none⟩ = some (ci d.kind) ∧ w'.cell? ⟨wr.heap.size, 2, none⟩ = some (ct d.name) ∧ w'.cell? ⟨wr.heap.size, 3, none⟩ = some (ci d.type) ∧ w'.cell? ⟨wr.heap.size, 4, none⟩ = some (.slice p1 d.params.length q1)) (first | (refine ⟨by with_reducible assumption, by with_reducible assumption, by with_reducible assumption, by with_reducible assumption⟩) | go_keep) (first
          | (go_at_call 66; (with_reducible refine Calls.mono (kP V.drew (Fr.drew _ _)) ?_); rintro e w7 ⟨v7, rfl, o7, f7⟩; obtain ⟨po, pc, rfl, pn, pm, pz, _, _⟩ := own_slice o7 (by decide); have f67 : Fr FN V w7 := (Fr.drew _ _).same f7; have r0 := f67.cellN b0; have r2 := f67.cellN b2; have r3 := f67.cellN b3; have r4 := f67.cellN b4; have nn7 := World.new_ne w7 _ r0)
          | (go_at_call 66; (with_reducible refine Calls.mono (kP ((V.alloc zIt).drew) ((Fr.alloc _ _ _).same (Fr.drew _ _))) ?_); rintro e w7 ⟨v7, rfl, o7, f7⟩; obtain ⟨po, pc, rfl, pn, pm, pz, _, _⟩ := own_slice o7 (by decide); have f67 : Fr FN V w7 := ((Fr.alloc _ _ _).same (Fr.drew _ _)).same f7; have hbz : w7.heap[V.heap.size]? = some zIt := ((Fr.drew FN _).same f7).heap (alloc_new V _) (fun f => f); obtain ⟨bz0, bz1, bz2, bz3, bz4⟩ := Ty.box5 hbz; have fz0 := Ty.frozen_row hbz 0; have fz1 := Ty.frozen_row hbz 1; have fz2 := Ty.frozen_row hbz 2; have fz3 := Ty.frozen_row hbz 3; have fz4 := Ty.frozen_row hbz 4; have r0 := f67.cellN b0; have r2 := f67.cellN b2; have r3 := f67.cellN b3; have r4 := f67.cellN b4))
        all_goals go_wp2_with fail
        all_goals go_meet
        · refine ⟨_, po, pc, rfl, ?_⟩
          exact bx_new o7 (Nat.le_refl _) f67
        · refine ⟨_, po, pc, rfl, ?_⟩
          exact bx_old o7 (by simp) f67 hbz
      case rest =>
        obtain ⟨g, po, pc, rfl, hBx⟩ := hcut
        obtain ⟨ps, hps⟩ : ∃ ps, d.params.map (·.type) = ps := ⟨_, rfl⟩
        rw [hps] at hBx
        have hBxH : Hidden (Bx V d.kind d.name d.type 0 ps g po pc wc) := hBx
        have hBf : Fr FN V wc := hBx.2.2.2.2
        obtain ⟨c0, c1, c2, c3, c4, c5, c6⟩ := ex_box (hBf.heap (show V.heap[wr.heap.size]? = _ from hbxH) (fun f => f))
        obtain ⟨y0, y1, y2, y3, y4⟩ := Ty.box5 hBx.1
        have z3 := Ty.frozen_row hBx.1 3
        have hgV : V.heap.size ≤ g := hBx.2.1
        have hgw : g ≠ wr.heap.size := by have : V.heap.size = wr.heap.size + 1 := hszV; omega
        have fww : Fr FN wr wc := (show Fr FN wr V from fwVH).same hBf
        have hit0 : ∀ b, itOf d (cs.drop nx) = ⟨d.kind, d.name, d.type, b, ps⟩ ↔ (if d.kind = 1 then ((cs.drop nx).headD zC).b else 0) = b := fun b => by unfold itOf; rw [hps]; simp
        have hsp0 : acc.map (·.1) ++ ((if d.ex then [itOf d (cs.drop nx)] else []) ++ itemsS (decls.drop (i + 1)) (if d.kind = 1 then (cs.drop nx).tail else cs.drop nx)) = itemsS decls cs := by
          rw [← (show _ = itemsS decls cs from heqH), (show itemsS (decls.drop i) (cs.drop nx) = _ from hsplit)]
        clear hBx heqH hsplit b0 b1 b2 b3 b4 b5 b6 kP hBf hgV
        by_cases hk : d.kind = 1
        · have hcl : nx < cs.length := by rw [hcnt, if_pos hk] at hnx; omega
          have hnx2 : nx + 1 + cntC (decls.drop (i + 1)) ≤ cs.length := by rw [hcnt, if_pos hk] at hnx; omega
          obtain ⟨c, hcx⟩ : ∃ c, cs[nx]? = some c := ⟨cs[nx], List.getElem?_eq_getElem hcl⟩
          have hdn := dropAt hcx
          obtain ⟨cb, coff, rfl, hcc⟩ : ∃ b off, bo = some ⟨b, off, none⟩ ∧ w.cell? ⟨b, off + nx * 4 + 3, none⟩ = some (.int .u64 c.b) := by
            rcases (show CoL w bo bc cs from hcH).2.2 with h0 | ⟨b, off, e, h0⟩
            · rw [h0] at hcl; simp at hcl
            · exact ⟨b, off, e, h0 nx c hcx 3 _ rfl⟩
          have hi9 := (hit0 c.b).2 (by rw [if_pos hk, hdn]; rfl)
          rw [hi9, if_pos hk, hdn, List.tail_cons] at hsp0
          have k3 := ((show Fr FN w wr from hfrH).same fww).cellN hcc
          have hi0 : (0 : Int) ≤ (nx : Int) := by omega
          have hi1 : (nx : Int) < (cs.length : Int) := by omega
          rw [hk] at c0 y0
          rw [hk] at hsp0
          have hbW : Hidden (Bx V 1 d.name d.type c.b ps g po pc (wc.setCell ⟨g, 3, none⟩ (.int .u64 c.b))) := by
            have := (show Bx V d.kind d.name d.type 0 ps g po pc wc from hBxH).set c.b
            rw [hk] at this
            exact this
          have W1 : (wc.setCell ⟨g, 3, none⟩ (.int .u64 c.b)).cell? ⟨wr.heap.size, 1, none⟩ = some (.bool d.ex) := (Fr.setCell wc ⟨g, 3, none⟩ _).cell c1 (fun e => hgw e.symm)
          have fwW : Fr FN wr (wc.setCell ⟨g, 3, none⟩ (.int .u64 c.b)) := (show Fr FN wr V from fwVH).same (show Bx V 1 d.name d.type c.b ps g po pc _ from hbW).2.2.2.2
          obtain ⟨u0, u1, u2, u3, u4⟩ := Ty.box5 (show Bx V 1 d.name d.type c.b ps g po pc _ from hbW).1
          have hsp := hsp0
          clear hsp0 hcnt hnx hit0 hi9 hk fww hps hdn hcx hBxH
          by_cases hex : d.ex = true
          · skip
            have hex1 : d.ex = true := by simpa using hex
            rw [hex1] at c1 W1
            rw [hex1, if_pos rfl] at hsp
            obtain ⟨W9, hW9⟩ : ∃ W9, W9 = (wc.setCell ⟨g, 3, none⟩ (.int .u64 c.b)).alloc (.cells #[ci 1, ct d.name, ci d.type, .int .u64 c.b, .slice po ps.length pc] 59) := ⟨_, rfl⟩
            have f9 : Fr FN (wc.setCell ⟨g, 3, none⟩ (.int .u64 c.b)) W9 := by rw [hW9]; exact Fr.alloc _ _ _
            have hnew : Hidden (W9.heap[wc.heap.size]? = some (.cells (encI (⟨1, d.name, d.type, c.b, ps⟩, po, pc)).toArray 59 (0, 0))) := by rw [hW9]; exact alloc_at _ _ _ (by simp)
            have hrow9 : Hidden (Rw.Row RP 59 5 W9 w.heap.size (.slice ao2 acc.length cap2) acc) := ((show Rw.Row RP _ 5 wr _ _ _ from hrowH).keep (fwW.same f9) (fun _ _ f => f))
            have hpm9 : Hidden (∀ x ∈ acc ++ [(⟨1, d.name, d.type, c.b, ps⟩, po, pc)], PmO W9 w.heap.size (.slice ao2 acc.length cap2) x) := fun x hx => by
              rcases List.mem_append.1 hx with hx | hx
              · exact ((show ∀ x ∈ acc, PmO wr _ _ x from hpmH) x hx).keep (fwW.same f9) (fun _ _ _ _ f => f)
              · rw [List.mem_singleton.1 hx]; exact (bx_pm (show Fr FN w wr from hfrH).size (by have : V.heap.size = wr.heap.size + 1 := hszV; omega) (fun k hk => ((show Rw.Row RP _ 5 wr _ _ _ from hrowH).low k hk).2) hbW).keep f9 (fun _ _ _ _ f => f)
            have g9 : Hidden (Fr FN w W9) := ((show Fr FN w wr from hfrH).same fwW).same f9
            have hW9H : Hidden (W9 = _) := hW9
            have hspH : Hidden (_ = itemsS decls cs) := hsp
            clear hsp hW9 f9 hbW fwW
            go_wp2_with (at_builtin; rw [← (show W9 = _ from hW9H)]; refine wpl_one (R := RP) rfl _ _ 22 59 _ 5 64 Tryz.underlying22 info_it rfl (by decide) rfl w.heap.size (.slice ao2 acc.length cap2) acc (⟨1, d.name, d.type, c.b, ps⟩, po, pc) (encI (⟨1, d.name, d.type, c.b, ps⟩, po, pc)) wc.heap.size 59 rfl hrow9 rfl rfl rfl hnew (it_one _) ?_ ?_ ?_ ?_; (focus (simp only [maxLen]; have : decls.length ≤ 64 := hlenH; omega)); (focus (have : decls.length ≤ 64 := hlenH; omega)); (focus (exact (show Fr FN w W9 from g9).size)); intro v5 w5 hr5 f5 ho5)
            have g5 : Fr FN w w5 := (show Fr FN w W9 from g9).over f5 (fun k hk => ((show Rw.Row RP _ 5 W9 _ _ _ from hrow9).low k hk).1)
            go_roundg (decls.length - (i + 1))
            case measure => have : gk = decls.length - i := hgkH; omega
            case rel => exact ⟨i + 1, nx + 1, acc ++ [(⟨1, d.name, d.type, c.b, ps⟩, po, pc)], by go_num, by go_num, by omega, by omega, by omega, rfl, by simp; omega, by rw [List.map_append, List.append_assoc]; exact hspH, hr5, fun x hx => ((show ∀ x ∈ _, PmO W9 _ _ x from hpm9) x hx).grow f5 ho5, g5⟩
          · skip
            have hex1 : d.ex = false := by simpa using hex
            rw [hex1] at c1 W1
            rw [hex1, if_neg (by simp)] at hsp
            have hspH : Hidden (_ = itemsS decls cs) := hsp
            have gW : Hidden (Fr FN w (wc.setCell ⟨g, 3, none⟩ (.int .u64 c.b))) := (show Fr FN w wr from hfrH).same fwW
            have fwWH : Hidden (Fr FN wr (wc.setCell ⟨g, 3, none⟩ (.int .u64 c.b))) := fwW
            clear hsp fwW
            go_wp2_with fail
            go_roundg (decls.length - (i + 1))
            case measure => have : gk = decls.length - i := hgkH; omega
            case rel => exact ⟨i + 1, nx + 1, acc, by go_num, by go_num, by omega, by omega, by omega, rfl, by omega, hspH, (show Rw.Row RP _ 5 wr _ _ _ from hrowH).keep fwWH (fun _ _ f => f), fun x hx => ((show ∀ x ∈ acc, PmO wr _ _ x from hpmH) x hx).keep fwWH (fun _ _ _ _ f => f), gW⟩
        · have hnx2 : nx + cntC (decls.drop (i + 1)) ≤ cs.length := by rw [hcnt, if_neg hk] at hnx; omega
          have hi9 := (hit0 0).2 (by rw [if_neg hk])
          rw [hi9, if_neg hk] at hsp0
          have b1 : (d.kind == 1) = false := by simpa using hk
          obtain ⟨W, rfl⟩ : ∃ W, W = wc := ⟨_, rfl⟩
          have W1 : W.cell? ⟨wr.heap.size, 1, none⟩ = some (.bool d.ex) := c1
          have fwW : Fr FN wr W := fww
          have hbW : Hidden (Bx V d.kind d.name d.type 0 ps g po pc W) := hBxH
          have hsp := hsp0
          clear hsp0 hcnt hnx hit0 hi9 hk fww hps
          by_cases hex : d.ex = true
          · skip
            have hex1 : d.ex = true := by simpa using hex
            rw [hex1] at c1 W1
            rw [hex1, if_pos rfl] at hsp
            obtain ⟨W9, hW9⟩ : ∃ W9, W9 = W.alloc (.cells #[ci d.kind, ct d.name, ci d.type, .int .u64 0, .slice po ps.length pc] 59) := ⟨_, rfl⟩
            have f9 : Fr FN W W9 := by rw [hW9]; exact Fr.alloc _ _ _
            have hnew : Hidden (W9.heap[W.heap.size]? = some (.cells (encI (⟨d.kind, d.name, d.type, 0, ps⟩, po, pc)).toArray 59 (0, 0))) := by rw [hW9]; exact alloc_new _ _
            have hrow9 : Hidden (Rw.Row RP 59 5 W9 w.heap.size (.slice ao2 acc.length cap2) acc) := ((show Rw.Row RP _ 5 wr _ _ _ from hrowH).keep (fwW.same f9) (fun _ _ f => f))
            have hpm9 : Hidden (∀ x ∈ acc ++ [(⟨d.kind, d.name, d.type, 0, ps⟩, po, pc)], PmO W9 w.heap.size (.slice ao2 acc.length cap2) x) := fun x hx => by
              rcases List.mem_append.1 hx with hx | hx
              · exact ((show ∀ x ∈ acc, PmO wr _ _ x from hpmH) x hx).keep (fwW.same f9) (fun _ _ _ _ f => f)
              · rw [List.mem_singleton.1 hx]; exact (bx_pm (show Fr FN w wr from hfrH).size (by have : V.heap.size = wr.heap.size + 1 := hszV; omega) (fun k hk => ((show Rw.Row RP _ 5 wr _ _ _ from hrowH).low k hk).2) hbW).keep f9 (fun _ _ _ _ f => f)
            have g9 : Hidden (Fr FN w W9) := ((show Fr FN w wr from hfrH).same fwW).same f9
            have hW9H : Hidden (W9 = _) := hW9
            have hspH : Hidden (_ = itemsS decls cs) := hsp
            clear hsp hW9 f9 hbW fwW
            go_wp2_with (at_builtin; rw [← (show W9 = _ from hW9H)]; refine wpl_one (R := RP) rfl _ _ 22 59 _ 5 64 Tryz.underlying22 info_it rfl (by decide) rfl w.heap.size (.slice ao2 acc.length cap2) acc (⟨d.kind, d.name, d.type, 0, ps⟩, po, pc) (encI (⟨d.kind, d.name, d.type, 0, ps⟩, po, pc)) W.heap.size 59 rfl hrow9 rfl rfl rfl hnew (it_one _) ?_ ?_ ?_ ?_; (focus (simp only [maxLen]; have : decls.length ≤ 64 := hlenH; omega)); (focus (have : decls.length ≤ 64 := hlenH; omega)); (focus (exact (show Fr FN w W9 from g9).size)); intro v5 w5 hr5 f5 ho5)
            have g5 : Fr FN w w5 := (show Fr FN w W9 from g9).over f5 (fun k hk => ((show Rw.Row RP _ 5 W9 _ _ _ from hrow9).low k hk).1)
            go_roundg (decls.length - (i + 1))
            case measure => have : gk = decls.length - i := hgkH; omega
            case rel => exact ⟨i + 1, nx, acc ++ [(⟨d.kind, d.name, d.type, 0, ps⟩, po, pc)], by go_num, rfl, by omega, by omega, by omega, rfl, by simp; omega, by rw [List.map_append, List.append_assoc]; exact hspH, hr5, fun x hx => ((show ∀ x ∈ _, PmO W9 _ _ x from hpm9) x hx).grow f5 ho5, g5⟩
          · skip
            have hex1 : d.ex = false := by simpa using hex
            rw [hex1] at c1 W1
            rw [hex1, if_neg (by simp)] at hsp
            have hspH : Hidden (_ = itemsS decls cs) := hsp
            have gW : Hidden (Fr FN w W) := (show Fr FN w wr from hfrH).same fwW
            have fwWH : Hidden (Fr FN wr W) := fwW
            clear hsp fwW
            go_wp2_with fail
            go_roundg (decls.length - (i + 1))
            case measure => have : gk = decls.length - i := hgkH; omega
            case rel => exact ⟨i + 1, nx, acc, by go_num, rfl, by omega, by omega, by omega, rfl, by omega, hspH, (show Rw.Row RP _ 5 wr _ _ _ from hrowH).keep fwWH (fun _ _ f => f), fun x hx => ((show ∀ x ∈ acc, PmO wr _ _ x from hpmH) x hx).keep fwWH (fun _ _ _ _ f => f), gW⟩
    · obtain rfl : i = decls.length := by omega
      have heq := (show acc.map (·.1) ++ itemsS (decls.drop decls.length) (cs.drop nx) = itemsS decls cs from heqH)
      rw [List.drop_length, show itemsS [] (cs.drop nx) = [] from rfl, List.append_nil] at heq
      have heqH2 : Hidden (acc.map (·.1) = itemsS decls cs) := heq
      have kS := sort_any acc (.slice ao2 acc.length cap2) w.heap.size wr hrowH (by have : decls.length ≤ 64 := hlenH; omega)
      clear heq
      go_wp2_with (go_at_call 67; refine kS.mono ?_; rintro e w5 ⟨rfl, l', hp5, hs5, hr5, f5⟩)
      go_ret
      have hpm5 : ∀ x ∈ l', PmO w5 w.heap.size (.slice ao2 acc.length cap2) x := fun x hx => ((show ∀ x ∈ acc, PmO wr _ _ x from hpmH) x (hp5.mem_iff.1 hx)).keep f5 (fun k _ _ e q => e q)
      refine ⟨.slice ao2 acc.length cap2, l'.map (·.1), rfl, ?_, ?_, ?_, (show Fr FN w wr from hfrH).over f5 (fun k hk => ((show Rw.Row RP _ 5 wr _ _ _ from hrowH).low k hk).1)⟩
      · rw [← (show acc.map (·.1) = itemsS decls cs from heqH2)]
        exact hp5.map _
      · exact List.pairwise_map.2 hs5
      · have hll : (l'.map (·.1)).length = acc.length := by rw [List.length_map]; exact hp5.length_eq
        refine ⟨ao2, cap2, by rw [hll], fun w6 f6 => ?_⟩
        obtain ⟨a6, c6, e6, h6⟩ := row_itl (hr5.keep f6 (fun k hk e => by have := (hr5.low k hk).1; omega)) (fun x hx => (hpm5 x hx).keep f6 (fun k hb _ _ e => by omega))
        simp only [Value.slice.injEq] at e6
        obtain ⟨rfl, _, rfl⟩ := e6
        exact h6
end Go.Proofs.YtpjahcncknccdaaGreat.Fo.Ic
