/- Signatures, functions, programs of the law's own: sig, fn, frame. -/
import Derived.Test.YtnmcehpdiopaiaaGreatDoorCdMn
import Derived.Test.YtnmcehpdiopaiaaGreatDoorCdTo
import Derived.Test.YtnmcehpdiopaiaaGreatDoorCdFz
namespace Go.Proofs.YtnmcehpdiopaiaaGreatDoor.Cd
open Go.RowKit Ty
set_option linter.unusedSimpArgs false
set_option linter.unusedVariables false

/-- A row of ints of the call's own. -/
abbrev OwI (w : World) (B : Nat) (v : Value) (l : List Int) : Prop := w.ownsRow B 3 1 v l.length (l.map ci)
theorem OwI.keepN {w w' : World} {B : Nat} {v : Value} {l : List Int} (h : OwI w B v l) (f : Fr (fun _ => False) w w') : OwI w' B v l := own_keep h f (fun _ _ f => f)
theorem OwI.inl {w : World} {B : Nat} {v : Value} {l : List Int} (h : OwI w B v l) : ∃ ao cap, v = .slice ao l.length cap ∧ InL w ao cap l := by
  obtain ⟨ao, cap, rfl, h1, h2, h3, _, h4⟩ := own_slice h (by decide)
  refine ⟨ao, cap, rfl, h1, h2, h3, ?_⟩
  rcases h4 with h4 | ⟨g, rfl, _, _, h4⟩
  · exact Or.inl (List.length_eq_zero_iff.1 h4)
  · refine Or.inr ⟨g, 0, rfl, fun i x hx => ?_⟩
    rw [Nat.zero_add]
    exact h4 i (ci x) (by rw [List.getElem?_map, hx]; rfl)
theorem info_i : (Tryz.prog.info? 3).map (fun i => (i.zero, i.size, i.bytes)) = some (some (.int .i64 0), 1, 8) := by kernel_rfl
theorem own_lower {w : World} {B B' : Nat} {e : TypeId} {size : Nat} {v : Value} {n : Nat} {cells : List Value} (h : w.ownsRow B e size v n cells) (hb : B' ≤ B) : w.ownsRow B' e size v n cells := by
  refine ⟨h.1, ?_⟩
  rcases h.2 with h0 | ⟨g, cap, cur, rfl, hb2, hg, rest⟩
  · exact Or.inl h0
  · exact Or.inr ⟨g, cap, cur, rfl, Nat.le_trans hb hb2, hg, rest⟩
/-- append of a row of ints to an empty one, made just now. -/
theorem app_ints {w : World} (B : Nat) (ty : TypeId) (g : Nat) (ao : Option Addr) (n cap : Nat) (l : List Int) (hg : w.heap[g]? = some (.cells #[] 3 (0, 0))) (hB : B ≤ g) (hB2 : B ≤ w.heap.size) (hl : l.length = n) (hI : InL w ao cap l) (hn : n ≤ 17592186044416) :
    ∃ v' w', (Builtin.append_ #[22, 22] ty #[.slice (some ⟨g, 0, none⟩) 0 0, .slice ao n cap]).run Tryz.prog w = .ok v' w' ∧ OwI w' B v' l ∧ Fr (fun _ => False) w w' := by
  obtain ⟨i, hi, hz⟩ := Option.map_eq_some_iff.1 info_i
  simp only [Prod.mk.injEq] at hz
  have hown : w.ownsRow B 3 1 (.slice (some ⟨g, 0, none⟩) 0 0) 0 [] := ⟨by simp, Or.inr ⟨g, 0, #[], rfl, hB, hg, Nat.le_refl _, by decide, by simp, by simp⟩⟩
  by_cases h0 : l = []
  · subst h0
    have hn0 : n = 0 := by simpa using hl.symm
    subst hn0
    cases ao with
    | none =>
      have hc := hI.2.2.1 rfl
      subst hc
      have hrun := run_append_owned_none (P := Tryz.prog) (w := w) B 22 ty 3 i 1 Tryz.underlying22 hi _ 0 [] hown
      exact ⟨_, w, hrun, hown, Fr.refl _ _⟩
    | some ad =>
      have hr := run_append_room (P := Tryz.prog) w 22 ty 3 i Tryz.underlying22 hi g 0 0 #[] hg ad 0 cap [] (by simp) (by simp) (by simp) (by omega) (by simp)
      simp only [Nat.zero_mul, List.take_nil, List.append_nil, Array.toList_empty, List.drop_nil, List.length_nil, Nat.add_zero] at hr
      have hg2 : (w.setRow g [].toArray).heap[g]? = some (.cells #[] 3 (0, 0)) := setRow_heap w g #[] _ _ _ hg
      refine ⟨_, _, hr, ⟨by simp, Or.inr ⟨g, 0, #[], rfl, hB, hg2, Nat.le_refl _, by decide, by simp, by simp⟩⟩, ⟨rfl, rfl, by simp, fun k _ _ => ?_⟩⟩
      by_cases hk : k = g
      · subst hk; rw [hg2, hg]
      · exact setRow_other w g k _ hk
  · obtain ⟨b, off, rfl, hc⟩ := hI.2.2.2.resolve_left h0
    have hpos : 0 < n := by rw [← hl]; exact List.length_pos_iff.2 h0
    have hr := run_append_grow (P := Tryz.prog) w 22 ty 3 i (.int .i64 0) Tryz.underlying22 hi hz.1 ⟨g, 0, none⟩ 0 0 [] (by simp) (by simp) ⟨b, off, none⟩ n cap (l.map ci) (by rw [hz.2.1, List.length_map]; omega) (fun j u hu => by
      rw [List.getElem?_map] at hu
      cases hx : l[j]? with
      | none => rw [hx] at hu; cases hu
      | some x =>
        rw [hx] at hu
        obtain rfl := Option.some.inj hu
        rw [Addr.add_lit]
        exact hc j x hx) (by omega) (by omega) (by rw [hz.2.2]; exact growslice_fits (by omega) (by omega))
    have hge := grownCap_ge w (0 + n) 0 3
    have hcm2 : grownCap w (0 + n) 0 3 ≤ maxLen := grownCap_le_maxLen w (0 + n) 0 3 (by unfold maxLen; omega)
    refine ⟨_, _, hr, ⟨by simp, Or.inr ⟨w.heap.size, _, _, by rw [Nat.zero_add, hl], hB2, alloc_new w.drew _, by omega, hcm2, ?_, ?_⟩⟩, (Fr.drew _ _).same (Fr.alloc _ _ _)⟩
    · have hz1 : (Value.int IntKind.i64 0).cells.size = 1 := rfl
      simp only [Array.size_append, List.size_toArray, size_zeroCells, hz1, List.length_map, List.length_nil]
      omega
    · simp only [Array.toList_append, List.append_assoc, List.nil_append]
      rw [List.take_append_of_le_length (by simp)]
      exact List.take_of_length_le (by simp)
theorem step_ints {w : World} {ops : Array Oper} {o : Oper} {a : Act} {K : Act → World → Prop} {Q : Exit → Act → World → Prop} {E : Prop} (hgd : o.guard = none) (s x : Operand)
    (ho : o.op = .call { callee := .builtin .append, args := #[s, x], argTypes := #[22, 22] }) (B g : Nat) (ao : Option Addr) (n cap : Nat) (l : List Int)
    (hs : a.eval s = .slice (some ⟨g, 0, none⟩) 0 0) (hx : a.eval x = .slice ao n cap) (hg : w.heap[g]? = some (.cells #[] 3 (0, 0))) (hB : B ≤ g) (hB2 : B ≤ w.heap.size) (hl : l.length = n) (hI : InL w ao cap l) (hn : n ≤ 17592186044416)
    (h : ∀ v' w', OwI w' B v' l → Fr (fun _ => False) w w' → K (a.put o.dst v') w') : if Region.wanted o (yielded ops a.tmps) = true then Oper.wp Tryz.prog o a w K Q else E := by
  have hw : Region.wanted o (yielded ops a.tmps) = true := by simp [Region.wanted, hgd]
  rw [if_pos hw]
  obtain ⟨v', w', hrun, h2, h3⟩ := app_ints (w := w) B o.type g ao n cap l hg hB hB2 hl hI hn
  unfold Oper.wp
  simp only [execOp, ho, resolve, invoke, builtin, Sem.run_bind, Sem.run_pure, Result.andThen_ok, List.map_toArray, List.map_cons, List.map_nil, hs, hx, hrun]
  exact h v' w' h2 h3
theorem box2 {w : World} {b : Nat} {x0 x1 : Value} {t : TypeId} (hb : w.heap[b]? = some (.cells #[x0, x1] t (0, 0))) : w.cell? ⟨b, 0, none⟩ = some x0 ∧ w.cell? ⟨b, 1, none⟩ = some x1 := ⟨cell_of_row _ _ 0 _ _ _ hb, cell_of_row _ _ 1 _ _ _ hb⟩
theorem two_put {w : World} {g : Nat} {x0 x1 : Value} {t : TypeId} (h : w.heap[g]? = some (.cells #[x0, x1] t (0, 0))) (v0 v1 : Value) :
    ((w.setCell ⟨g, 0, none⟩ v0).setCell ⟨g, 1, none⟩ v1).heap[g]? = some (.cells #[v0, v1] t (0, 0)) := by
  have h0 : (w.setCell ⟨g, 0, none⟩ v0).heap[g]? = some (.cells #[v0, x1] t (0, 0)) := heap_setCell_same _ g 0 _ t v0 h
  exact heap_setCell_same _ g 1 _ t v1 h0
set_option maxRecDepth 20000 in
set_option maxHeartbeats 4000000 in
theorem sig_any (a0 : Option Addr) (np c0 : Nat) (ps : List Int) (r : Int) (hn : ps.length = np) (w : World) (h : InL w a0 c0 ps) (hb : np ≤ 17592186044416) :
    Calls Tryz.prog 14 #[.agg #[.slice a0 np c0, ci r]] w fun e w' => ∃ v, e = .returned (.agg #[v, ci r]) ∧ OwI w' w.heap.size v ps ∧ Fr (fun _ => False) w w' := by
  obtain ⟨V, hV⟩ : ∃ V, V = (w.alloc (.cells #[.slice a0 np c0, ci r] 24 (0, 0))).alloc (.cells #[.slice none 0 0, ci 0] 34 (0, 0)) := ⟨_, rfl⟩
  have fV : Fr (fun _ => False) w V := by rw [hV]; exact (Fr.alloc _ _ _).same (Fr.alloc _ _ _)
  have hb0 : V.heap[w.heap.size]? = some (.cells #[.slice a0 np c0, ci r] 24 (0, 0)) := by rw [hV]; exact heap_alloc2_old _ _ _
  have hb1 : V.heap[w.heap.size + 1]? = some (.cells #[.slice none 0 0, ci 0] 34 (0, 0)) := by rw [hV]; exact heap_alloc2_new _ _ _
  have hsz : w.heap.size + 2 ≤ V.heap.size := by rw [hV]; simp
  have hIH : Hidden (InL V a0 c0 ps) := h.keep fV
  have hnH : Hidden (ps.length = np) := hn
  have hb1H : Hidden (V.heap[w.heap.size + 1]? = some (.cells #[.slice none 0 0, ci 0] 34 (0, 0))) := hb1
  have fVH : Hidden (Fr (fun _ => False) w V) := fV
  have hVH : Hidden (V = _) := hV
  have hszH : Hidden (w.heap.size + 2 ≤ V.heap.size) := hsz
  clear fV h hn hV hsz
  go_enter Tryz.func14, Tryz.ntmps14
  go_upto_region 1 with fail
  rw [← (show V = _ from hVH)]
  clear hVH
  obtain ⟨c0', c1'⟩ := box2 hb0
  generalize hG : w.heap.size = G at *
  have hGH : Hidden (w.heap.size = G) := hG
  clear hG hb0 hb1
  go_region_held3 (fun w' => w'.cell? ⟨G, 0, none⟩ = some (.slice a0 np c0) ∧ w'.cell? ⟨G, 1, none⟩ = some (ci r)) (first | (refine ⟨by with_reducible assumption, by with_reducible assumption⟩) | go_keep) (
    (refine step_ints rfl _ _ rfl V.heap.size V.heap.size a0 np c0 ps rfl rfl ?_ ?_ ?_ hnH ?_ hb ?_
     · first | exact alloc_new V _ | exact (Fr.drew (fun _ => False) _).heap (alloc_new V _) (fun f => f)
     · exact Nat.le_refl _
     · simp
     · exact InL.keep (show InL V a0 c0 ps from hIH) (by first | exact Fr.alloc (fun _ => False) V _ | exact (Fr.alloc (fun _ => False) V _).same (Fr.drew _ _))
     intro v6 w6 r6 f6
     obtain ⟨ao6, cap6, hv6, hI6⟩ := r6.inl
     rw [show ps.length = np from hnH] at hv6
     subst hv6
     clear hI6
     have g6 : Fr (fun _ => False) V w6 := by first | exact (Fr.alloc (fun _ => False) V _).same f6 | exact ((Fr.alloc (fun _ => False) V _).same (Fr.drew _ _)).same f6
     have e0 := g6.cellN c0'
     have e1 := g6.cellN c1'
     have hr1 := g6.heap (show V.heap[G + 1]? = _ from hb1H) (fun f => f)
     obtain ⟨k0, k1⟩ := box2 hr1
     have z0 := fz_row hr1 0
     have z1 := fz_row hr1 1
     have r6H : Hidden (OwI w6 V.heap.size (.slice ao6 np cap6) ps) := r6
     have hr1H : Hidden (w6.heap[G + 1]? = some (.cells #[.slice none 0 0, ci 0] 34 (0, 0))) := hr1
     have g6H : Hidden (Fr (fun _ => False) V w6) := g6
     clear hr1 g6 f6))
  all_goals
    go_wp2_with fail
    refine post_one rfl rfl _ #[.slice ao6 np cap6, ci r] 34 _ rfl ?_ Tryz.underlying34 rfl (by kernel_rfl) ⟨.slice ao6 np cap6, rfl, ?_, ?_⟩
    · exact two_put hr1H _ _
    · have h2 : G + 2 ≤ V.heap.size := hszH
      have hb6 := own_block (show w6.ownsRow V.heap.size _ 1 (.slice ao6 np cap6) ps.length _ from r6H)
      exact own_lower (own_keep (S := fun k => k = G + 1) (show w6.ownsRow V.heap.size _ 1 (.slice ao6 np cap6) ps.length _ from r6H) ((Fr.setCell _ ⟨G + 1, 0, none⟩ _).same (Fr.setCell _ ⟨G + 1, 1, none⟩ _)) (fun k e e2 => by have := hb6 k e; have e2 : k = G + 1 := e2; omega)) (by have hw : w.heap.size = G := hGH; omega)
    · have hw : w.heap.size = G := hGH
      exact ((show Fr (fun _ => False) w V from fVH).same g6H).over ((Fr.setCell _ ⟨G + 1, 0, none⟩ _).same (Fr.setCell _ ⟨G + 1, 1, none⟩ _)) (fun k e => by have e : k = G + 1 := e; omega)
theorem four_put {w : World} {g : Nat} {x0 x1 x2 x3 : Value} {t : TypeId} (h : w.heap[g]? = some (.cells #[x0, x1, x2, x3] t (0, 0))) (v0 v1 v2 v3 : Value) :
    ((((w.setCell ⟨g, 0, none⟩ v0).setCell ⟨g, 1, none⟩ v1).setCell ⟨g, 2, none⟩ v2).setCell ⟨g, 3, none⟩ v3).heap[g]? = some (.cells #[v0, v1, v2, v3] t (0, 0)) := by
  have h0 : (w.setCell ⟨g, 0, none⟩ v0).heap[g]? = some (.cells #[v0, x1, x2, x3] t (0, 0)) := heap_setCell_same _ g 0 _ t v0 h
  have h1 : ((w.setCell ⟨g, 0, none⟩ v0).setCell ⟨g, 1, none⟩ v1).heap[g]? = some (.cells #[v0, v1, x2, x3] t (0, 0)) := heap_setCell_same _ g 1 _ t v1 h0
  have h2 : (((w.setCell ⟨g, 0, none⟩ v0).setCell ⟨g, 1, none⟩ v1).setCell ⟨g, 2, none⟩ v2).heap[g]? = some (.cells #[v0, v1, v2, x3] t (0, 0)) := heap_setCell_same _ g 2 _ t v2 h1
  exact heap_setCell_same _ g 3 _ t v3 h2
theorem four_fr (w : World) (g : Nat) (v0 v1 v2 v3 : Value) : Fr (fun k => k = g) w ((((w.setCell ⟨g, 0, none⟩ v0).setCell ⟨g, 1, none⟩ v1).setCell ⟨g, 2, none⟩ v2).setCell ⟨g, 3, none⟩ v3) :=
  (((Fr.setCell w ⟨g, 0, none⟩ v0).same (Fr.setCell _ ⟨g, 1, none⟩ v1)).same (Fr.setCell _ ⟨g, 2, none⟩ v2)).same (Fr.setCell _ ⟨g, 3, none⟩ v3)
/-- A function of the law's own. -/
def FnO (w : World) (B : Nat) (v : Value) (f : Fu) : Prop := ∃ vp vl vc, v = .agg #[vp, ci f.sg.res, vl, vc] ∧ OwI w B vp f.sg.ps ∧ OwI w B vl f.loc ∧ IW w B 64 vc f.cd
theorem own_other {w : World} {B k : Nat} {e : TypeId} {size : Nat} {v : Value} {n : Nat} {cells : List Value} (h : w.ownsRow B e size v n cells) (hB : ∀ j, k = j → j < B) : v.ownBlock ≠ some k := fun e2 => by
  have := (own_block h k e2).1
  have := hB k rfl
  omega
theorem fn_end {f : Fu} {G : Nat} {w V X : World} {vp vl vc : Value} {rs : Int} (hG : w.heap.size = G) (hsz : G + 2 ≤ V.heap.size) (fV : Fr (fun _ => False) w V) (gX : Fr (fun _ => False) V X)
    (hb1 : V.heap[G + 1]? = some (.cells #[.slice none 0 0, ci 0, .slice none 0 0, .slice none 0 0] 37 (0, 0))) (hp : OwI X V.heap.size vp f.sg.ps) (hl : OwI X V.heap.size vl f.loc) (hm : IW X V.heap.size 64 vc f.cd) (hrs : rs = f.sg.res) :
    ((((X.setCell ⟨G + 1, 0, none⟩ vp).setCell ⟨G + 1, 1, none⟩ (ci rs)).setCell ⟨G + 1, 2, none⟩ vl).setCell ⟨G + 1, 3, none⟩ vc).heap[G + 1]? = some (.cells #[vp, ci rs, vl, vc] 37 (0, 0)) ∧
      FnO ((((X.setCell ⟨G + 1, 0, none⟩ vp).setCell ⟨G + 1, 1, none⟩ (ci rs)).setCell ⟨G + 1, 2, none⟩ vl).setCell ⟨G + 1, 3, none⟩ vc) w.heap.size (.agg #[vp, ci rs, vl, vc]) f ∧
      Fr (fun _ => False) w ((((X.setCell ⟨G + 1, 0, none⟩ vp).setCell ⟨G + 1, 1, none⟩ (ci rs)).setCell ⟨G + 1, 2, none⟩ vl).setCell ⟨G + 1, 3, none⟩ vc) := by
  have f4 := four_fr X (G + 1) vp (ci rs) vl vc
  have kp : ∀ {e : TypeId} {size : Nat} {v : Value} {n : Nat} {cells : List Value}, X.ownsRow V.heap.size e size v n cells → ((((X.setCell ⟨G + 1, 0, none⟩ vp).setCell ⟨G + 1, 1, none⟩ (ci rs)).setCell ⟨G + 1, 2, none⟩ vl).setCell ⟨G + 1, 3, none⟩ vc).ownsRow w.heap.size e size v n cells := by
    intro e size v n cells h
    exact own_lower (own_keep h f4 (fun k e2 e3 => by have := (own_block h k e2).1; omega)) (by omega)
  refine ⟨four_put (gX.heap hb1 (fun f => f)) _ _ _ _, ⟨vp, vl, vc, by rw [hrs], kp hp, kp hl, kp hm⟩, (fV.same gX).over f4 (fun k e => by omega)⟩
set_option maxRecDepth 20000 in
set_option maxHeartbeats 8000000 in
theorem fn_any (f : Fu) (a0 a2 a3 : Option Addr) (c0 c2 c3 np nl n : Nat) (hnp : f.sg.ps.length = np) (hnl : f.loc.length = nl) (hn : f.cd.length = n) (w : World) (h0 : InL w a0 c0 f.sg.ps) (h2 : InL w a2 c2 f.loc) (h3 : IL w a3 c3 f.cd) (hb0 : np ≤ 17592186044416) (hb2 : nl ≤ 17592186044416) (hb3 : n ≤ 4398046510976) :
    Calls Tryz.prog 6 #[.agg #[.slice a0 np c0, ci f.sg.res, .slice a2 nl c2, .slice a3 n c3]] w fun e w' => ∃ v, e = .returned v ∧ FnO w' w.heap.size v f ∧ Fr (fun _ => False) w w' := by
  obtain ⟨V, hV⟩ : ∃ V, V = (w.alloc (.cells #[.slice a0 np c0, ci f.sg.res, .slice a2 nl c2, .slice a3 n c3] 27 (0, 0))).alloc (.cells #[.slice none 0 0, ci 0, .slice none 0 0, .slice none 0 0] 37 (0, 0)) := ⟨_, rfl⟩
  have fV : Fr (fun _ => False) w V := by rw [hV]; exact (Fr.alloc _ _ _).same (Fr.alloc _ _ _)
  have hbx0 : V.heap[w.heap.size]? = some (.cells #[.slice a0 np c0, ci f.sg.res, .slice a2 nl c2, .slice a3 n c3] 27 (0, 0)) := by rw [hV]; exact heap_alloc2_old _ _ _
  have hbx1 : V.heap[w.heap.size + 1]? = some (.cells #[.slice none 0 0, ci 0, .slice none 0 0, .slice none 0 0] 37 (0, 0)) := by rw [hV]; exact heap_alloc2_new _ _ _
  have hsz : w.heap.size + 2 ≤ V.heap.size := by rw [hV]; simp
  have ks : ∀ W, Fr (fun _ => False) V W → Calls Tryz.prog 14 #[.agg #[.slice a0 np c0, ci f.sg.res]] W fun e w' => ∃ ap cp, e = .returned (.agg #[.slice ap np cp, ci f.sg.res]) ∧ OwI w' V.heap.size (.slice ap np cp) f.sg.ps ∧ Fr (fun _ => False) W w' := fun W hW => (sig_any a0 np c0 f.sg.ps f.sg.res hnp W (h0.keep (fV.same hW)) hb0).mono (fun e w' g => by
    obtain ⟨v, g1, g2, g3⟩ := g
    obtain ⟨ap, cp, hv, _⟩ := g2.inl
    rw [hnp] at hv
    subst hv
    exact ⟨ap, cp, g1, own_lower g2 hW.size, g3⟩)
  have km : ∀ W, Fr (fun _ => False) V W → Calls Tryz.prog 15 #[.slice a3 n c3] W fun e w' => ∃ ac cc, e = .returned (.slice ac n cc) ∧ IW w' V.heap.size 64 (.slice ac n cc) f.cd ∧ Fr (fun _ => False) W w' := fun W hW => (mine_any a3 n c3 f.cd hn W (h3.keep (fV.same hW)) hb3).mono (fun e w' g => by
    obtain ⟨v, g1, g2, g3⟩ := g
    obtain ⟨ac, cc, hv, _⟩ := g2.il
    rw [hn] at hv
    subst hv
    exact ⟨ac, cc, g1, own_lower g2 hW.size, g3⟩)
  have hIH : Hidden (InL V a2 c2 f.loc) := h2.keep fV
  have hnH : Hidden (f.loc.length = nl) := hnl
  have hb1H : Hidden (V.heap[w.heap.size + 1]? = some (.cells #[.slice none 0 0, ci 0, .slice none 0 0, .slice none 0 0] 37 (0, 0))) := hbx1
  have fVH : Hidden (Fr (fun _ => False) w V) := fV
  have hVH : Hidden (V = _) := hV
  have hszH : Hidden (w.heap.size + 2 ≤ V.heap.size) := hsz
  have hrs : ∃ rs, rs = f.sg.res := ⟨_, rfl⟩
  obtain ⟨rs, hrs⟩ := hrs
  rw [← hrs] at ks hVH hbx0
  have hrsH : Hidden (rs = f.sg.res) := hrs
  rw [← hrs]
  clear fV h0 h2 h3 hnp hnl hn hV hsz hb0 hb3 hrs hbx1
  go_enter Tryz.func6, Tryz.ntmps6
  go_upto_region 1 with fail
  rw [← (show V = _ from hVH)]
  clear hVH
  obtain ⟨c0', c1', c2', c3'⟩ := box4 hbx0
  generalize hG : w.heap.size = G at *
  have hGH : Hidden (w.heap.size = G) := hG
  clear hG hbx0
  have xV := World.new_ne V _ c0'
  obtain ⟨kV0, kV1, kV2, kV3⟩ := box4 (show V.heap[G + 1]? = _ from hb1H)
  have yV := World.new_ne V _ kV0
  have c0'x := (Fr.alloc (fun _ => False) V (.cells #[] 3 (0, 0))).cellN c0'
  have c1'x := (Fr.alloc (fun _ => False) V (.cells #[] 3 (0, 0))).cellN c1'
  have c2'x := (Fr.alloc (fun _ => False) V (.cells #[] 3 (0, 0))).cellN c2'
  have c3'x := (Fr.alloc (fun _ => False) V (.cells #[] 3 (0, 0))).cellN c3'
  have kV0x := (Fr.alloc (fun _ => False) V (.cells #[] 3 (0, 0))).cellN kV0
  have kV1x := (Fr.alloc (fun _ => False) V (.cells #[] 3 (0, 0))).cellN kV1
  have kV2x := (Fr.alloc (fun _ => False) V (.cells #[] 3 (0, 0))).cellN kV2
  have kV3x := (Fr.alloc (fun _ => False) V (.cells #[] 3 (0, 0))).cellN kV3
  go_region_law (first
    | (refine step_ints rfl _ _ rfl V.heap.size _ a2 nl c2 f.loc rfl rfl ?_ ?_ ?_ hnH ?_ hb2 ?_
       · first | exact alloc_new _ _ | exact (Fr.drew (fun _ => False) _).heap (alloc_new _ _) (fun f => f) | exact Fr.heap (S := fun _ => False) fa (alloc_new _ _) (fun f => f) | exact Fr.heap (S := fun _ => False) fm (alloc_new _ _) (fun f => f) | exact Fr.heap (S := fun _ => False) fm (Fr.heap (S := fun _ => False) fa (alloc_new _ _) (fun f => f)) (fun f => f) | exact Fr.heap (S := fun _ => False) fm (Fr.heap (S := fun _ => False) fa ((Fr.drew (fun _ => False) _).heap (alloc_new _ _) (fun f => f)) (fun f => f)) (fun f => f) | exact Fr.heap (S := fun _ => False) fa ((Fr.drew (fun _ => False) _).heap (alloc_new _ _) (fun f => f)) (fun f => f) | exact Fr.heap (S := fun _ => False) fm ((Fr.drew (fun _ => False) _).heap (alloc_new _ _) (fun f => f)) (fun f => f)
       · first | exact Nat.le_refl _ | exact (Fr.size (by first | exact Fr.refl _ _ | (with_reducible assumption) | (refine Fr.same ?_ (Fr.drew _ _); first | exact Fr.refl _ _ | (with_reducible assumption) | (refine Fr.same ?_ (Fr.alloc _ _ _); first | exact Fr.refl _ _ | (with_reducible assumption))) | (refine Fr.same ?_ (Fr.alloc _ _ _); first | exact Fr.refl _ _ | (with_reducible assumption) | (refine Fr.same ?_ (Fr.drew _ _); first | exact Fr.refl _ _ | (with_reducible assumption))) : Fr (fun _ => False) V _)) | (simp; done)
       · skip; exact Fr.size (by first | exact Fr.refl _ _ | (with_reducible assumption) | (refine Fr.same ?_ (Fr.drew _ _); first | exact Fr.refl _ _ | (with_reducible assumption) | (refine Fr.same ?_ (Fr.alloc _ _ _); first | exact Fr.refl _ _ | (with_reducible assumption))) | (refine Fr.same ?_ (Fr.alloc _ _ _); first | exact Fr.refl _ _ | (with_reducible assumption) | (refine Fr.same ?_ (Fr.drew _ _); first | exact Fr.refl _ _ | (with_reducible assumption))) : Fr (fun _ => False) V _)
       · skip; exact InL.keep (show InL V a2 c2 f.loc from hIH) (by first | exact Fr.refl _ _ | (with_reducible assumption) | (refine Fr.same ?_ (Fr.drew _ _); first | exact Fr.refl _ _ | (with_reducible assumption) | (refine Fr.same ?_ (Fr.alloc _ _ _); first | exact Fr.refl _ _ | (with_reducible assumption))) | (refine Fr.same ?_ (Fr.alloc _ _ _); first | exact Fr.refl _ _ | (with_reducible assumption) | (refine Fr.same ?_ (Fr.drew _ _); first | exact Fr.refl _ _ | (with_reducible assumption))))
       intro v6 w6 r6 fl
       obtain ⟨al, cl, hv6, hI6⟩ := r6.inl
       rw [show f.loc.length = nl from hnH] at hv6
       subst hv6
       clear hI6
       skip
       have gl := Fr.same (by first | exact Fr.refl _ _ | (with_reducible assumption) | (refine Fr.same ?_ (Fr.drew _ _); first | exact Fr.refl _ _ | (with_reducible assumption) | (refine Fr.same ?_ (Fr.alloc _ _ _); first | exact Fr.refl _ _ | (with_reducible assumption))) | (refine Fr.same ?_ (Fr.alloc _ _ _); first | exact Fr.refl _ _ | (with_reducible assumption) | (refine Fr.same ?_ (Fr.drew _ _); first | exact Fr.refl _ _ | (with_reducible assumption))) : Fr (fun _ => False) V _) fl
       have e0 := gl.cellN c0'
       have e1 := gl.cellN c1'
       have e2 := gl.cellN c2'
       have e3 := gl.cellN c3'
       have hlH : Hidden (OwI w6 V.heap.size (.slice al nl cl) f.loc) := r6
       clear r6
       have hrl := gl.heap (show V.heap[G + 1]? = _ from hb1H) (fun f => f)
       obtain ⟨kl0, kl1, kl2, kl3⟩ := box4 hrl
       have zl0 := fz_row hrl 0
       have zl1 := fz_row hrl 1
       have zl2 := fz_row hrl 2
       have zl3 := fz_row hrl 3
       clear hrl
       have xl := World.new_ne w6 _ e0
       have yl := World.new_ne w6 _ kl0)
    | (go_simp; go_at_call 14; refine (ks _ (by first | exact Fr.refl _ _ | (with_reducible assumption) | (refine Fr.same ?_ (Fr.drew _ _); first | exact Fr.refl _ _ | (with_reducible assumption) | (refine Fr.same ?_ (Fr.alloc _ _ _); first | exact Fr.refl _ _ | (with_reducible assumption))) | (refine Fr.same ?_ (Fr.alloc _ _ _); first | exact Fr.refl _ _ | (with_reducible assumption) | (refine Fr.same ?_ (Fr.drew _ _); first | exact Fr.refl _ _ | (with_reducible assumption))))).mono ?_; rintro e wa ⟨ap, cp, rfl, hp, fa⟩; have ga := Fr.same (by first | exact Fr.refl _ _ | (with_reducible assumption) | (refine Fr.same ?_ (Fr.drew _ _); first | exact Fr.refl _ _ | (with_reducible assumption) | (refine Fr.same ?_ (Fr.alloc _ _ _); first | exact Fr.refl _ _ | (with_reducible assumption))) | (refine Fr.same ?_ (Fr.alloc _ _ _); first | exact Fr.refl _ _ | (with_reducible assumption) | (refine Fr.same ?_ (Fr.drew _ _); first | exact Fr.refl _ _ | (with_reducible assumption))) : Fr (fun _ => False) V _) fa; have p0 := ga.cellN c0'; have p1 := ga.cellN c1'; have p2 := ga.cellN c2'; have p3 := ga.cellN c3'; have hpH : Hidden (OwI wa V.heap.size (.slice ap np cp) f.sg.ps) := hp; clear hp; have hra := ga.heap (show V.heap[G + 1]? = _ from hb1H) (fun f => f); obtain ⟨ka0, ka1, ka2, ka3⟩ := box4 hra; have za0 := fz_row hra 0; have za1 := fz_row hra 1; have za2 := fz_row hra 2; have za3 := fz_row hra 3; clear hra; have xa := World.new_ne wa _ p0; have p2x := (Fr.alloc (fun _ => False) wa (.cells #[] 3 (0, 0))).cellN p2; have p3x := (Fr.alloc (fun _ => False) wa (.cells #[] 3 (0, 0))).cellN p3; have ka0x := (Fr.alloc (fun _ => False) wa (.cells #[] 3 (0, 0))).cellN ka0; have ka1x := (Fr.alloc (fun _ => False) wa (.cells #[] 3 (0, 0))).cellN ka1; have ka2x := (Fr.alloc (fun _ => False) wa (.cells #[] 3 (0, 0))).cellN ka2; have ka3x := (Fr.alloc (fun _ => False) wa (.cells #[] 3 (0, 0))).cellN ka3; dsimp only)
    | (go_simp; go_at_call 15; refine (km _ (by first | exact Fr.refl _ _ | (with_reducible assumption) | (refine Fr.same ?_ (Fr.drew _ _); first | exact Fr.refl _ _ | (with_reducible assumption) | (refine Fr.same ?_ (Fr.alloc _ _ _); first | exact Fr.refl _ _ | (with_reducible assumption))) | (refine Fr.same ?_ (Fr.alloc _ _ _); first | exact Fr.refl _ _ | (with_reducible assumption) | (refine Fr.same ?_ (Fr.drew _ _); first | exact Fr.refl _ _ | (with_reducible assumption))))).mono ?_; rintro e wm ⟨ac, cc, rfl, hm, fm⟩; have gm := Fr.same (by first | exact Fr.refl _ _ | (with_reducible assumption) | (refine Fr.same ?_ (Fr.drew _ _); first | exact Fr.refl _ _ | (with_reducible assumption) | (refine Fr.same ?_ (Fr.alloc _ _ _); first | exact Fr.refl _ _ | (with_reducible assumption))) | (refine Fr.same ?_ (Fr.alloc _ _ _); first | exact Fr.refl _ _ | (with_reducible assumption) | (refine Fr.same ?_ (Fr.drew _ _); first | exact Fr.refl _ _ | (with_reducible assumption))) : Fr (fun _ => False) V _) fm; have q0 := gm.cellN c0'; have q1 := gm.cellN c1'; have q2 := gm.cellN c2'; have q3 := gm.cellN c3'; have hmH : Hidden (IW wm V.heap.size 64 (.slice ac n cc) f.cd) := hm; clear hm; have hrm := gm.heap (show V.heap[G + 1]? = _ from hb1H) (fun f => f); obtain ⟨km0, km1, km2, km3⟩ := box4 hrm; have zm0 := fz_row hrm 0; have zm1 := fz_row hrm 1; have zm2 := fz_row hrm 2; have zm3 := fz_row hrm 3; clear hrm; have xm := World.new_ne wm _ q0; have q2x := (Fr.alloc (fun _ => False) wm (.cells #[] 3 (0, 0))).cellN q2; have q3x := (Fr.alloc (fun _ => False) wm (.cells #[] 3 (0, 0))).cellN q3; have km0x := (Fr.alloc (fun _ => False) wm (.cells #[] 3 (0, 0))).cellN km0; have km1x := (Fr.alloc (fun _ => False) wm (.cells #[] 3 (0, 0))).cellN km1; have km2x := (Fr.alloc (fun _ => False) wm (.cells #[] 3 (0, 0))).cellN km2; have km3x := (Fr.alloc (fun _ => False) wm (.cells #[] 3 (0, 0))).cellN km3; dsimp only))
  all_goals
    go_wp2_with fail
    first
      | (obtain ⟨h1, h2, h3⟩ := fn_end (X := wm) (vp := .slice ap np cp) (vl := .slice al nl cl) (vc := .slice ac n cc) hGH hszH fVH gm hb1H (OwI.keepN (show OwI wa V.heap.size (.slice ap np cp) f.sg.ps from hpH) (by (repeat (first | exact Fr.refl _ _ | (refine Fr.same ?_ fm) | (refine Fr.same ?_ fl) | (refine Fr.same ?_ fa) | (refine Fr.same ?_ (Fr.alloc _ _ _)) | (refine Fr.same ?_ (Fr.drew _ _)))))) (OwI.keepN (show OwI w6 V.heap.size (.slice al nl cl) f.loc from hlH) (by (repeat (first | exact Fr.refl _ _ | (refine Fr.same ?_ fm) | (refine Fr.same ?_ fl) | (refine Fr.same ?_ fa) | (refine Fr.same ?_ (Fr.alloc _ _ _)) | (refine Fr.same ?_ (Fr.drew _ _)))))) hmH hrsH
         exact post_one rfl rfl _ #[.slice ap np cp, ci rs, .slice al nl cl, .slice ac n cc] 37 _ rfl h1 Tryz.underlying37 rfl (by kernel_rfl) ⟨_, rfl, h2, h3⟩)
      | (obtain ⟨h1, h2, h3⟩ := fn_end (X := w6) (vp := .slice ap np cp) (vl := .slice al nl cl) (vc := .slice ac n cc) hGH hszH fVH gl hb1H (OwI.keepN (show OwI wa V.heap.size (.slice ap np cp) f.sg.ps from hpH) (by (repeat (first | exact Fr.refl _ _ | (refine Fr.same ?_ fm) | (refine Fr.same ?_ fl) | (refine Fr.same ?_ fa) | (refine Fr.same ?_ (Fr.alloc _ _ _)) | (refine Fr.same ?_ (Fr.drew _ _)))))) hlH (IW.keepN (show IW wm V.heap.size 64 (.slice ac n cc) f.cd from hmH) (by (repeat (first | exact Fr.refl _ _ | (refine Fr.same ?_ fm) | (refine Fr.same ?_ fl) | (refine Fr.same ?_ fa) | (refine Fr.same ?_ (Fr.alloc _ _ _)) | (refine Fr.same ?_ (Fr.drew _ _)))))) hrsH
         exact post_one rfl rfl _ #[.slice ap np cp, ci rs, .slice al nl cl, .slice ac n cc] 37 _ rfl h1 Tryz.underlying37 rfl (by kernel_rfl) ⟨_, rfl, h2, h3⟩)
end Go.Proofs.YtnmcehpdiopaiaaGreatDoor.Cd
