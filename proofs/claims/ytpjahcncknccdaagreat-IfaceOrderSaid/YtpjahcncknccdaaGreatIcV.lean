/- foundrylaw10.bare. -/
import Derived.Test.YtpjahcncknccdaaGreatIcU
import Derived.Test.YtpjahcncknccdaaGreatIcBll
namespace Go.Proofs.YtpjahcncknccdaaGreat.Fo.Ic
open Go.RowKit Te
set_option linter.unusedSimpArgs false
set_option linter.unusedVariables false
set_option maxRecDepth 20000

theorem ev_b (far : List Con) (hf : ∀ c ∈ far, U64 c.b) : ∀ (l : List De) (cs vs : List Con), (∀ d ∈ l, OkD d) → (∀ c ∈ cs, U64 c.b) → ∀ c ∈ (evGo far l cs vs).1, U64 c.b
  | [], cs, vs, _, h, c, hc => h c hc
  | d :: r, cs, vs, hd, h, c, hc => by
    have hd' : ∀ x ∈ r, OkD x := fun x hx => hd x (by simp [hx])
    unfold evGo at hc
    split at hc
    · simp at hc
    · split at hc
      · exact ev_b far hf r cs _ hd' h c hc
      · refine ev_b far hf r _ vs hd' (fun c hc => ?_) c hc
        rcases List.mem_append.1 hc with hc | hc
        · exact h c hc
        · rw [List.mem_singleton.1 hc]
          exact valAt_b (hd d (by simp)) _ (fun c hc => by
            rcases List.mem_append.1 hc with hc | hc
            · exact h c (by simpa using hc)
            · exact hf c hc)
theorem itemsS_ok : ∀ (l : List De) (cs : List Con), (∀ d ∈ l, OkD d ∧ d.params.length ≤ 8) → (∀ c ∈ cs, U64 c.b) → ∀ i ∈ itemsS l cs, Ty.OkI i
  | [], cs, _, _, i, hi => by simp [itemsS] at hi
  | d :: l, cs, h, hc, i, hi => by
    unfold itemsS at hi
    rcases List.mem_append.1 hi with hi | hi
    · split at hi
      · rw [List.mem_singleton.1 hi]
        obtain ⟨od, hp⟩ := h d (by simp)
        refine ⟨od.kind, od.name, od.type, ?_, ?_, ?_⟩
        · show U64 (if d.kind = 1 then (cs.headD zC).b else 0)
          split
          · cases cs with
            | nil => exact ⟨by decide, by decide⟩
            | cons c r => exact hc c (by simp)
          · exact ⟨by decide, by decide⟩
        · intro p hp
          obtain ⟨q, hq, rfl⟩ := List.mem_map.1 hp
          exact (od.params q hq).2
        · show (d.params.map (·.type)).length ≤ _
          rw [List.length_map]; omega
      · simp at hi
    · refine itemsS_ok l _ (fun x hx => h x (by simp [hx])) (fun c hc' => ?_) i hi
      split at hc'
      · exact hc c (List.mem_of_mem_tail hc')
      · exact hc c hc'
theorem isF_ok {m : Mo} {l : List Ty.Fc} {f : Ty.Fc} (om : OkM m) (okl : ∀ f ∈ l, Ty.OkN f.name ∧ ∀ i ∈ f.items, Ty.OkI i) (h : IsF m l f) : Ty.OkN f.name ∧ ∀ i ∈ f.items, Ty.OkI i := by
  rcases h with ⟨_, h2⟩ | ⟨h1, h2, h3, g, h4, h5, h6, h7⟩
  · subst h2
    exact ⟨by simp [Ty.OkN], by simp⟩
  · refine ⟨by rw [h2]; exact om.name, fun i hi => ?_⟩
    obtain ⟨d1, d2, d3⟩ := dec_ev (farS g) m.decls 0 [] [] [] h5
    obtain ⟨_, hg2⟩ := impS_spec h4
    have hfb := farS_b g (fun f hf i hi => (okl f (hg2 f hf).1).2 i hi)
    refine itemsS_ok m.decls _ (fun d hd => ⟨om.decls d hd, errD_params ((errM_small h3).2.2 d hd)⟩) (fun c hc => ?_) i (h6.subset hi)
    have := ev_b (farS g) hfb (m.decls.filter isCV) [] [] (fun d hd => om.decls d (List.mem_filter.1 hd).1) (by simp)
    rw [d3] at this
    exact this c (by simpa [decS] using hc)
theorem bareD_snoc (l : List De) (d : De) : bareD (l ++ [d]) = bareD l ++ bareO d := by unfold bareD; simp
theorem bareD_take_len (l : List De) (j : Nat) (h : l.length ≤ 64) : (bareD (l.take j)).length ≤ 64 := Nat.le_trans (bare_len _) (by rw [List.length_take]; omega)
theorem k31 (w : World) (a b c : Obj) : (((w.alloc a).alloc b).alloc c).heap[w.heap.size]? = some a := (alloc_old _ _ _ (by simp <;> omega)).trans ((alloc_old _ _ _ (by simp)).trans (alloc_new _ _))
theorem k32 (w : World) (a b c : Obj) : (((w.alloc a).alloc b).alloc c).heap[w.heap.size + 1]? = some b := (alloc_old _ _ _ (by simp)).trans (alloc_at _ _ _ (by simp))
theorem k33 (w : World) (a b c : Obj) : (((w.alloc a).alloc b).alloc c).heap[w.heap.size + 1 + 1]? = some c := alloc_at _ _ _ (by simp)
theorem size_mod3 : (Tryz.prog.info? 39).map (·.size) = some 3 := by kernel_rfl
abbrev zMo : Obj := .cells #[.string ⟨#[]⟩, .slice none 0 0, .slice none 0 0] 39 (0, 0)
theorem j21 (w : World) (a b : Obj) : ((w.alloc a).alloc b).heap[w.heap.size]? = some a := (alloc_old _ _ _ (by simp)).trans (alloc_new w a)
theorem j22 (w : World) (a b : Obj) : ((w.alloc a).alloc b).heap[w.heap.size + 1]? = some b := alloc_at _ _ _ (by simp)
theorem box7 {w : World} {b : Nat} {x0 x1 x2 x3 x4 x5 x6 : Value} {t : TypeId} (hb : w.heap[b]? = some (.cells #[x0, x1, x2, x3, x4, x5, x6] t (0, 0))) : w.cell? ⟨b, 0, none⟩ = some x0 := cell_of_row _ _ 0 _ _ _ hb
theorem box3 {w : World} {b : Nat} {x0 x1 x2 : Value} {t : TypeId} (hb : w.heap[b]? = some (.cells #[x0, x1, x2] t (0, 0))) : w.cell? ⟨b, 0, none⟩ = some x0 ∧ w.cell? ⟨b, 1, none⟩ = some x1 ∧ w.cell? ⟨b, 2, none⟩ = some x2 := ⟨cell_of_row _ _ 0 _ _ _ hb, cell_of_row _ _ 1 _ _ _ hb, cell_of_row _ _ 2 _ _ _ hb⟩
theorem set3 {w : World} {g : Nat} {a b c : Value} {t : TypeId} (hg : w.heap[g]? = some (.cells #[a, b, c] t (0, 0))) (v0 v1 v2 : Value) : (((w.setCell ⟨g, 0, none⟩ v0).setCell ⟨g, 1, none⟩ v1).setCell ⟨g, 2, none⟩ v2).heap[g]? = some (.cells #[v0, v1, v2] t (0, 0)) :=
  heap_setCell_same _ g 2 _ t v2 (heap_setCell_same _ g 1 _ t v1 (heap_setCell_same _ g 0 _ t v0 hg))
theorem fr3 (w : World) (g : Nat) (v0 v1 v2 : Value) : Fr (fun k => k = g) w (((w.setCell ⟨g, 0, none⟩ v0).setCell ⟨g, 1, none⟩ v1).setCell ⟨g, 2, none⟩ v2) := ((Fr.setCell w ⟨g, 0, none⟩ v0).same (Fr.setCell _ ⟨g, 1, none⟩ v1)).same (Fr.setCell _ ⟨g, 2, none⟩ v2)
/-- A row of declarations that a box holds, with one more. -/
theorem bare_step {R : De → List Value → Prop} {V wr Wa w5 : World} {P B : Nat} {x y z lv v5 : Value} {t e : TypeId} {acc acc' : List De} (hfr : Fr (fun k => k = P) V wr) (hrow : Rw.Row R e 7 wr B lv acc) (hB : V.heap.size ≤ B) (hP : P < B) (fa : Fr FN wr Wa) (f5 : Fr (fun b => lv.ownBlock = some b) Wa w5) (hr5 : Rw.Row R e 7 w5 B v5 acc') (hbx : w5.heap[P]? = some (.cells #[x, y, z] t (0, 0))) :
    (w5.setCell ⟨P, 2, none⟩ v5).heap[P]? = some (.cells #[x, y, v5] t (0, 0)) ∧ Rw.Row R e 7 (w5.setCell ⟨P, 2, none⟩ v5) B v5 acc' ∧ Fr (fun k => k = P) V (w5.setCell ⟨P, 2, none⟩ v5) := by
  have hf := Fr.setCell w5 ⟨P, 2, none⟩ v5
  refine ⟨heap_setCell_same w5 P 2 _ t v5 hbx, hr5.keep hf (fun k hk e => by have e : k = P := e; have := (hr5.low k hk).1; omega), Fr.same (Fr.trans (hfr.same (fa.mono fun _ _ f => f.elim)) f5 (fun k hk e => ?_)) hf⟩
  have := (hrow.low k e).1
  omega
set_option maxHeartbeats 4000000 in
theorem bare_any (m : Mo) (ao : Option Addr) (cap : Nat) (ad : Option Addr) (capd : Nat) (w : World) (hm : MoI w m (moV m ao cap ad capd)) (hlen : m.decls.length ≤ 64) :
    Calls Tryz.prog 14 #[moV m ao cap ad capd] w fun e w' => ∃ yo yc, e = .returned (.agg #[ct m.name, .slice ao m.imports.length cap, .slice yo (bareD m.decls).length yc]) ∧ DeL w' yo yc (bareD m.decls) ∧ Fr FN w w' := by
  obtain ⟨_, _, _, _, e, hi, hd⟩ := hm
  cases e
  have m1 : cap ≤ 9223372036854775807 := by have := hi.2.1; unfold maxLen at this; omega
  have m2 : capd ≤ 9223372036854775807 := by have := hd.2.1; unfold maxLen at this; omega
  have n1 := hi.1
  have n2 := hd.1
  obtain ⟨V, hV⟩ : ∃ V, V = ((w.alloc (.cells #[ct m.name, .slice ao m.imports.length cap, .slice ad m.decls.length capd] 39)).alloc zMo).alloc (.cells #[ct m.name, .slice ao m.imports.length cap, .slice none 0 0] 39) := ⟨_, rfl⟩
  have fV : Fr FN w V := by rw [hV]; exact ((Fr.alloc _ _ _).same (Fr.alloc _ _ _)).same (Fr.alloc _ _ _)
  have hA : V.heap[w.heap.size]? = some (.cells #[ct m.name, .slice ao m.imports.length cap, .slice ad m.decls.length capd] 39 (0, 0)) := by rw [hV]; exact k31 _ _ _ _
  have hZ : V.heap[w.heap.size + 1]? = some zMo := by rw [hV]; exact k32 _ _ _ _
  have hO : V.heap[w.heap.size + 1 + 1]? = some (.cells #[ct m.name, .slice ao m.imports.length cap, .slice none 0 0] 39 (0, 0)) := by rw [hV]; exact k33 _ _ _ _
  have hsV : V.heap.size = w.heap.size + 3 := by rw [hV]; simp
  have hVH : Hidden (V = _) := hV
  have fVH : Hidden (Fr FN w V) := fV
  have hAH : Hidden (V.heap[w.heap.size]? = some (.cells #[ct m.name, .slice ao m.imports.length cap, .slice ad m.decls.length capd] 39 (0, 0))) := hA
  have hZH : Hidden (V.heap[w.heap.size + 1]? = some zMo) := hZ
  have hOH : Hidden (V.heap[w.heap.size + 1 + 1]? = some (.cells #[ct m.name, .slice ao m.imports.length cap, .slice none 0 0] 39 (0, 0))) := hO
  have hsVH : Hidden (V.heap.size = w.heap.size + 3) := hsV
  have hdH : Hidden (DeL w ad capd m.decls) := hd
  have hlenH : Hidden (m.decls.length ≤ 64) := hlen
  clear hV fV hA hZ hO hsV hi hd hlen
  go_enter Tryz.func14, Tryz.ntmps14
  go_wp2_with fail
  rw [← (show V = _ from hVH)]
  go_loopg [4] m.decls.length (fun g iv wr => ∃ (j : Nat) (lv : Value), iv = ci (j : Int) ∧ j ≤ m.decls.length ∧ g = m.decls.length - j ∧ wr.heap[w.heap.size + 1 + 1]? = some (.cells #[ct m.name, .slice ao m.imports.length cap, lv] 39 (0, 0)) ∧ Rw.Row (Rw.RD w) 49 7 wr (w.heap.size + 3) lv (bareD (m.decls.take j)) ∧ Fr (fun k => k = w.heap.size + 1 + 1) V wr)
  case atStart => exact ⟨0, .slice none 0 0, rfl, by omega, rfl, hOH, ⟨[], ⟨by simp [bareD], Or.inl ⟨rfl, rfl⟩⟩, rfl⟩, Fr.refl _ _⟩
  case round =>
    obtain ⟨j, lv, rfl, hj, hgk, hbx, hrow, hfr⟩ := hrel
    obtain ⟨ao2, cap2, hv, _⟩ := hrow.slice
    subst hv
    have hgkH : Hidden (gk = m.decls.length - j) := hgk
    have hbl := bareD_take_len m.decls j hlenH
    obtain ⟨acc, hacc⟩ : ∃ acc, bareD (m.decls.take j) = acc := ⟨_, rfl⟩
    rw [hacc] at hrow hbx hbl
    have haccH : Hidden (bareD (m.decls.take j) = acc) := hacc
    have hrowH : Hidden (Rw.Row (Rw.RD w) 49 7 wr (w.heap.size + 3) (.slice ao2 acc.length cap2) acc) := hrow
    have hbxH : Hidden (wr.heap[w.heap.size + 1 + 1]? = some (.cells #[ct m.name, .slice ao m.imports.length cap, .slice ao2 acc.length cap2] 39 (0, 0))) := hbx
    have hfrH : Hidden (Fr (fun k => k = w.heap.size + 1 + 1) V wr) := hfr
    have hblH : Hidden (acc.length ≤ 64) := hbl
    have fww : Fr FN w wr := (show Fr FN w V from fVH).over hfr (fun k e => by have e : k = w.heap.size + 1 + 1 := e; omega)
    have fwwH : Hidden (Fr FN w wr) := fww
    have hM := hfr.heap (show V.heap[w.heap.size]? = _ from hAH) (fun e => by have e : w.heap.size = w.heap.size + 1 + 1 := e; omega)
    obtain ⟨a0, a1, a2⟩ : wr.cell? ⟨w.heap.size, 0, none⟩ = some (ct m.name) ∧ wr.cell? ⟨w.heap.size, 1, none⟩ = some (.slice ao m.imports.length cap) ∧ wr.cell? ⟨w.heap.size, 2, none⟩ = some (.slice ad m.decls.length capd) := ⟨cell_of_row _ _ 0 _ _ _ hM, cell_of_row _ _ 1 _ _ _ hM, cell_of_row _ _ 2 _ _ _ hM⟩
    obtain ⟨o0, o1, o2⟩ : wr.cell? ⟨w.heap.size + 1 + 1, 0, none⟩ = some (ct m.name) ∧ wr.cell? ⟨w.heap.size + 1 + 1, 1, none⟩ = some (.slice ao m.imports.length cap) ∧ wr.cell? ⟨w.heap.size + 1 + 1, 2, none⟩ = some (.slice ao2 acc.length cap2) := ⟨cell_of_row _ _ 0 _ _ _ hbx, cell_of_row _ _ 1 _ _ _ hbx, cell_of_row _ _ 2 _ _ _ hbx⟩
    have p2 := Ty.frozen_row hbx 2
    clear hgk hacc hrow hbx hfr hbl hM
    by_cases hjl : j < m.decls.length
    · obtain ⟨d, hx⟩ : ∃ d, m.decls[j]? = some d := ⟨m.decls[j], List.getElem?_eq_getElem hjl⟩
      obtain ⟨db, doff, pv, ev, bv, hdb, hdi, hdc⟩ : ∃ b off pv ev bv, ad = some ⟨b, off, none⟩ ∧ DeI w d pv ev bv ∧ ∀ (i : Nat) (x : Value), (deC d pv ev bv)[i]? = some x → w.cell? ⟨b, off + j * 7 + i, none⟩ = some x := by
        rcases (show DeL w ad capd m.decls from hdH).2.2 with h0 | ⟨b, off, e, h0⟩
        · rw [h0] at hjl; simp at hjl
        · obtain ⟨pv, ev, bv, h1, h2⟩ := h0 j d hx
          exact ⟨b, off, pv, ev, bv, e, h1, h2⟩
      subst hdb
      obtain ⟨p1, q1, p2', q2, p3, q3, rfl, rfl, rfl, hpl, hel, hbo⟩ := hdi
      have d0 := fww.cellN (hdc 0 _ rfl)
      have d1 := fww.cellN (hdc 1 _ rfl)
      have d2 := fww.cellN (hdc 2 _ rfl)
      have d3 := fww.cellN (hdc 3 _ rfl)
      have d4 := fww.cellN (hdc 4 _ rfl)
      have d5 := fww.cellN (hdc 5 _ rfl)
      have d6 := fww.cellN (hdc 6 _ rfl)
      simp only [Nat.add_zero] at d0
      have hnext : Hidden (bareD (m.decls.take (j + 1)) = acc ++ bareO d) := by show _ = _; rw [take_snoc hx, bareD_snoc, (show bareD (m.decls.take j) = acc from haccH)]
      have hmH : Hidden (PaL w p1 q1 d.params ∧ ExL w p2' q2 d.e ∧ StL w p3 q3 d.body) := ⟨hpl, hel, hbo⟩
      have nn0 := World.new_ne wr _ a0
      have nn2 := World.new_ne wr _ o0
      have nnd := World.new_ne wr _ d0
      clear hx hdc hpl hel hbo fww
      obtain ⟨kind, ex, name, type, params, e, body⟩ := d
      simp only at d0 d1 d2 d3 d4 d5 d6 hmH
      by_cases hk1 : kind = 1
      · subst hk1
        have o2a := (Fr.alloc FN wr (.cells #[ci 1, .bool ex, ct name, ci type, .slice p1 params.length q1, .slice p2' e.len q2, .slice p3 body.len q3] 49 (0, 0))).cellN o2
        have hwa : Hidden (Fr FN wr ((wr.alloc (.cells #[ci 1, .bool ex, ct name, ci type, .slice p1 params.length q1, .slice p2' e.len q2, .slice p3 body.len q3] 49 (0, 0))).alloc (.cells #[ci 1, .bool ex, ct name, ci type, .slice p1 params.length q1, .slice p2' e.len q2, .slice p3 body.len q3] 49 (0, 0)))) := (Fr.alloc _ _ _).same (Fr.alloc _ _ _)
        have hrow4 : Hidden (Rw.Row (Rw.RD w) 49 7 ((wr.alloc (.cells #[ci 1, .bool ex, ct name, ci type, .slice p1 params.length q1, .slice p2' e.len q2, .slice p3 body.len q3] 49 (0, 0))).alloc (.cells #[ci 1, .bool ex, ct name, ci type, .slice p1 params.length q1, .slice p2' e.len q2, .slice p3 body.len q3] 49 (0, 0))) (w.heap.size + 3) (.slice ao2 acc.length cap2) acc) := (show Rw.Row (Rw.RD w) _ 7 wr _ _ _ from hrowH).keep (show Fr FN wr _ from hwa) (fun _ _ f => f)
        have hbo : Hidden (bareO ⟨1, ex, name, type, params, e, body⟩ = [⟨1, ex, name, type, params, e, body⟩]) := by simp [bareO, Hidden]
        obtain ⟨L5, hL5⟩ : ∃ L, (acc ++ [(⟨1, ex, name, type, params, e, body⟩ : De)]).length = L := ⟨_, rfl⟩
        have hL5H : Hidden ((acc ++ [(⟨1, ex, name, type, params, e, body⟩ : De)]).length = L5) := hL5
        have hcl : Hidden (w.heap.size + 1 + 1 < wr.heap.size) := lt_of_heap (show wr.heap[w.heap.size + 1 + 1]? = _ from hbxH)
        clear hL5
        go_wp2_with (at_builtin; have hrow4' := hrow4; refine wpl_one (R := Rw.RD w) rfl _ _ 37 49 _ 7 112 Tryz.underlying37 Rw.info_de rfl (by decide) rfl (w.heap.size + 3) (.slice ao2 acc.length cap2) acc ⟨1, ex, name, type, params, e, body⟩ [ci 1, .bool ex, ct name, ci type, .slice p1 params.length q1, .slice p2' e.len q2, .slice p3 body.len q3] (wr.heap.size + 1) 49 rfl hrow4' rfl rfl ⟨_, _, _, ⟨p1, q1, p2', q2, p3, q3, rfl, rfl, rfl, (show PaL w p1 q1 params ∧ _ from hmH).1, (show PaL w p1 q1 params ∧ _ from hmH).2.1, (show PaL w p1 q1 params ∧ _ from hmH).2.2⟩, rfl⟩ (j22 _ _ _) ?_ ?_ ?_ ?_ ?_; (focus (intro u hu; simp only [List.mem_cons, List.not_mem_nil, or_false] at hu; rcases hu with rfl | rfl | rfl | rfl | rfl | rfl | rfl <;> rfl)); (focus (simp only [maxLen]; have : acc.length ≤ 64 := hblH; omega)); (focus (have : acc.length ≤ 64 := hblH; omega)); (focus (have : w.heap.size + 1 + 1 < wr.heap.size := hcl; simp; omega)); intro v5 w5 hr5 f5 ho5; obtain ⟨a5, c5, e5, _⟩ := hr5.slice; rw [(show (acc ++ [(⟨1, ex, name, type, params, e, body⟩ : De)]).length = L5 from hL5H)] at e5; subst e5; have low := (show Rw.Row (Rw.RD w) _ 7 wr _ _ _ from hrowH).low; have hb5 := f5.heap ((show Fr FN wr _ from hwa).heap (show wr.heap[w.heap.size + 1 + 1]? = _ from hbxH) (fun f => f)) (fun e => by have := (low _ e).1; omega); have hD5 := f5.heap (j21 wr (.cells #[ci 1, .bool ex, ct name, ci type, .slice p1 params.length q1, .slice p2' e.len q2, .slice p3 body.len q3] 49 (0, 0)) (.cells #[ci 1, .bool ex, ct name, ci type, .slice p1 params.length q1, .slice p2' e.len q2, .slice p3 body.len q3] 49 (0, 0))) (fun e => by have := (low _ e).2; omega); obtain ⟨y0, y1, y2⟩ := box3 hb5; have z2 := Ty.frozen_row hb5 2; have hnx := bare_step (show Fr (fun k => k = w.heap.size + 1 + 1) V wr from hfrH) (show Rw.Row (Rw.RD w) _ 7 wr _ _ _ from hrowH) (by have : V.heap.size = w.heap.size + 3 := hsVH; omega) (by omega) (show Fr FN wr _ from hwa) f5 hr5 hb5; have hk5 := (Fr.setCell w5 ⟨w.heap.size + 1 + 1, 2, none⟩ (.slice a5 L5 c5)).cell (box7 hD5) (by show ¬ wr.heap.size = w.heap.size + 1 + 1; have : w.heap.size + 1 + 1 < wr.heap.size := hcl; omega); have hnxH : Hidden _ := hnx; clear hnx hr5 f5 ho5 hb5 hD5 low)
        go_roundg (m.decls.length - (j + 1))
        case measure => have : gk = m.decls.length - j := hgkH; omega
        case rel => exact ⟨j + 1, .slice a5 L5 c5, by go_num, by omega, rfl, hnxH.1, by rw [(show bareD _ = _ from hnext), (show bareO _ = _ from hbo)]; exact hnxH.2.1, hnxH.2.2⟩
      · by_cases hk3 : kind = 3
        · subst hk3
          cases ex with
          | true =>
            have o2a := (Fr.alloc FN wr (.cells #[ci 3, .bool true, ct name, ci type, .slice p1 params.length q1, .slice p2' e.len q2, .slice none 0 0] 49 (0, 0))).cellN o2
            have hwa : Hidden (Fr FN wr ((wr.alloc (.cells #[ci 3, .bool true, ct name, ci type, .slice p1 params.length q1, .slice p2' e.len q2, .slice none 0 0] 49 (0, 0))).alloc (.cells #[ci 3, .bool true, ct name, ci type, .slice p1 params.length q1, .slice p2' e.len q2, .slice none 0 0] 49 (0, 0)))) := (Fr.alloc _ _ _).same (Fr.alloc _ _ _)
            have hrow4 : Hidden (Rw.Row (Rw.RD w) 49 7 ((wr.alloc (.cells #[ci 3, .bool true, ct name, ci type, .slice p1 params.length q1, .slice p2' e.len q2, .slice none 0 0] 49 (0, 0))).alloc (.cells #[ci 3, .bool true, ct name, ci type, .slice p1 params.length q1, .slice p2' e.len q2, .slice none 0 0] 49 (0, 0))) (w.heap.size + 3) (.slice ao2 acc.length cap2) acc) := (show Rw.Row (Rw.RD w) _ 7 wr _ _ _ from hrowH).keep (show Fr FN wr _ from hwa) (fun _ _ f => f)
            have hbo : Hidden (bareO ⟨3, true, name, type, params, e, body⟩ = [⟨3, true, name, type, params, e, .nil⟩]) := by simp [bareO, Hidden]
            obtain ⟨L5, hL5⟩ : ∃ L, (acc ++ [(⟨3, true, name, type, params, e, .nil⟩ : De)]).length = L := ⟨_, rfl⟩
            have hL5H : Hidden ((acc ++ [(⟨3, true, name, type, params, e, .nil⟩ : De)]).length = L5) := hL5
            have hcl : Hidden (w.heap.size + 1 + 1 < wr.heap.size) := lt_of_heap (show wr.heap[w.heap.size + 1 + 1]? = _ from hbxH)
            clear hL5
            go_wp2_with (at_builtin; have hrow4' := hrow4; refine wpl_one (R := Rw.RD w) rfl _ _ 37 49 _ 7 112 Tryz.underlying37 Rw.info_de rfl (by decide) rfl (w.heap.size + 3) (.slice ao2 acc.length cap2) acc ⟨3, true, name, type, params, e, .nil⟩ [ci 3, .bool true, ct name, ci type, .slice p1 params.length q1, .slice p2' e.len q2, .slice none 0 0] (wr.heap.size + 1) 49 rfl hrow4' rfl rfl ⟨_, _, _, ⟨p1, q1, p2', q2, none, 0, rfl, rfl, rfl, (show PaL w p1 q1 params ∧ _ from hmH).1, (show PaL w p1 q1 params ∧ _ from hmH).2.1, ⟨by simp [Sts.len], by simp [maxLen], Or.inl rfl⟩⟩, rfl⟩ (j22 _ _ _) ?_ ?_ ?_ ?_ ?_; (focus (intro u hu; simp only [List.mem_cons, List.not_mem_nil, or_false] at hu; rcases hu with rfl | rfl | rfl | rfl | rfl | rfl | rfl <;> rfl)); (focus (simp only [maxLen]; have : acc.length ≤ 64 := hblH; omega)); (focus (have : acc.length ≤ 64 := hblH; omega)); (focus (have : w.heap.size + 1 + 1 < wr.heap.size := hcl; simp; omega)); intro v5 w5 hr5 f5 ho5; obtain ⟨a5, c5, e5, _⟩ := hr5.slice; rw [(show (acc ++ [(⟨3, true, name, type, params, e, .nil⟩ : De)]).length = L5 from hL5H)] at e5; subst e5; have low := (show Rw.Row (Rw.RD w) _ 7 wr _ _ _ from hrowH).low; have hb5 := f5.heap ((show Fr FN wr _ from hwa).heap (show wr.heap[w.heap.size + 1 + 1]? = _ from hbxH) (fun f => f)) (fun e => by have := (low _ e).1; omega); have hD5 := f5.heap (j21 wr (.cells #[ci 3, .bool true, ct name, ci type, .slice p1 params.length q1, .slice p2' e.len q2, .slice none 0 0] 49 (0, 0)) (.cells #[ci 3, .bool true, ct name, ci type, .slice p1 params.length q1, .slice p2' e.len q2, .slice none 0 0] 49 (0, 0))) (fun e => by have := (low _ e).2; omega); obtain ⟨y0, y1, y2⟩ := box3 hb5; have z2 := Ty.frozen_row hb5 2; have hnx := bare_step (show Fr (fun k => k = w.heap.size + 1 + 1) V wr from hfrH) (show Rw.Row (Rw.RD w) _ 7 wr _ _ _ from hrowH) (by have : V.heap.size = w.heap.size + 3 := hsVH; omega) (by omega) (show Fr FN wr _ from hwa) f5 hr5 hb5; have hk5 := (Fr.setCell w5 ⟨w.heap.size + 1 + 1, 2, none⟩ (.slice a5 L5 c5)).cell (box7 hD5) (by show ¬ wr.heap.size = w.heap.size + 1 + 1; have : w.heap.size + 1 + 1 < wr.heap.size := hcl; omega); have hnxH : Hidden _ := hnx; clear hnx hr5 f5 ho5 hb5 hD5 low)
            go_roundg (m.decls.length - (j + 1))
            case measure => have : gk = m.decls.length - j := hgkH; omega
            case rel => exact ⟨j + 1, .slice a5 L5 c5, by go_num, by omega, rfl, hnxH.1, by rw [(show bareD _ = _ from hnext), (show bareO _ = _ from hbo)]; exact hnxH.2.1, hnxH.2.2⟩
          | false =>
          have hbo : Hidden (bareO ⟨3, false, name, type, params, e, body⟩ = []) := by simp [bareO, Hidden]
          have fa : Hidden (Fr FN wr (wr.alloc (.cells #[ci 3, .bool false, ct name, ci type, .slice p1 params.length q1, .slice p2' e.len q2, .slice p3 body.len q3] 49 (0, 0)))) := Fr.alloc _ _ _
          go_wp2_with fail
          go_roundg (m.decls.length - (j + 1))
          case measure => have : gk = m.decls.length - j := hgkH; omega
          case rel => exact ⟨j + 1, .slice ao2 acc.length cap2, by go_num, by omega, rfl, (show Fr FN wr _ from fa).heap hbxH (fun f => f), by rw [(show bareD _ = _ from hnext), (show bareO _ = _ from hbo), List.append_nil]; exact (show Rw.Row (Rw.RD w) _ 7 wr _ _ _ from hrowH).keep (show Fr FN wr _ from fa) (fun _ _ f => f), (show Fr (fun k => k = w.heap.size + 1 + 1) V wr from hfrH).same ((show Fr FN wr _ from fa).mono fun _ _ f => f.elim)⟩
        · have hbo : Hidden (bareO ⟨kind, ex, name, type, params, e, body⟩ = []) := by simp [bareO, Hidden, hk1, hk3]
          have t1 : (kind == 3) = false := by simpa using hk3
          have t2 : (kind == 1) = false := by simpa using hk1
          have fa : Hidden (Fr FN wr (wr.alloc (.cells #[ci kind, .bool ex, ct name, ci type, .slice p1 params.length q1, .slice p2' e.len q2, .slice p3 body.len q3] 49 (0, 0)))) := Fr.alloc _ _ _
          go_wp2_with fail
          go_roundg (m.decls.length - (j + 1))
          case measure => have : gk = m.decls.length - j := hgkH; omega
          case rel => exact ⟨j + 1, .slice ao2 acc.length cap2, by go_num, by omega, rfl, (show Fr FN wr _ from fa).heap hbxH (fun f => f), by rw [(show bareD _ = _ from hnext), (show bareO _ = _ from hbo), List.append_nil]; exact (show Rw.Row (Rw.RD w) _ 7 wr _ _ _ from hrowH).keep (show Fr FN wr _ from fa) (fun _ _ f => f), (show Fr (fun k => k = w.heap.size + 1 + 1) V wr from hfrH).same ((show Fr FN wr _ from fa).mono fun _ _ f => f.elim)⟩
    · obtain rfl : j = m.decls.length := by omega
      have hz := (show Fr (fun k => k = w.heap.size + 1 + 1) V wr from hfrH).heap (show V.heap[w.heap.size + 1]? = some zMo from hZH) (fun e => by have e : w.heap.size + 1 = w.heap.size + 1 + 1 := e; omega)
      have z0 := Ty.frozen_row hz 0
      have z1 := Ty.frozen_row hz 1
      have z2 := Ty.frozen_row hz 2
      obtain ⟨b0, b1, b2⟩ := box3 hz
      have hzH : Hidden (wr.heap[w.heap.size + 1]? = some zMo) := hz
      clear hz
      go_wp2_with fail
      have hr := (show Rw.Row (Rw.RD w) _ 7 wr _ _ _ from hrowH)
      have hacc := (show bareD (m.decls.take m.decls.length) = acc from haccH)
      rw [List.take_length] at hacc
      subst hacc
      have g1 := fr3 wr (w.heap.size + 1) (ct m.name) (.slice ao m.imports.length cap) (.slice ao2 (bareD m.decls).length cap2)
      have gw : Fr FN w (((wr.setCell ⟨w.heap.size + 1, 0, none⟩ (ct m.name)).setCell ⟨w.heap.size + 1, 1, none⟩ (.slice ao m.imports.length cap)).setCell ⟨w.heap.size + 1, 2, none⟩ (.slice ao2 (bareD m.decls).length cap2)) := (show Fr FN w wr from fwwH).over g1 (fun k e => by have e : k = w.heap.size + 1 := e; omega)
      obtain ⟨a', c', e, hdl⟩ := (hr.keep g1 (fun k hk e => by have := (hr.low k hk).1; have e : k = w.heap.size + 1 := e; omega)).deL gw
      simp only [Value.slice.injEq, true_and] at e
      obtain ⟨rfl, rfl⟩ := e
      exact post_cell1 rfl rfl _ _ rfl (run_loadVar_row _ _ _ _ _ _ _ (set3 hzH _ _ _) Tryz.underlying39 rfl size_mod3) ⟨ao2, cap2, rfl, hdl, gw⟩
end Go.Proofs.YtpjahcncknccdaaGreat.Fo.Ic
