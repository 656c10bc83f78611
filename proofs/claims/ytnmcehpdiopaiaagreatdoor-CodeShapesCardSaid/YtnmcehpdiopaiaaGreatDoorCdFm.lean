/- Programs of the law's own: frame; alike. -/
import Derived.Test.YtnmcehpdiopaiaaGreatDoorCdSg
import Derived.Deep.DeepCutAuto
namespace Go.Proofs.YtnmcehpdiopaiaaGreatDoor.Cd
open Go.RowKit Ty
set_option linter.unusedSimpArgs false
set_option linter.unusedVariables false

theorem own_types {w : World} {B B' k : Nat} {e e' : TypeId} {size size' : Nat} {v v' : Value} {n n' : Nat} {cells cells' : List Value} (h : w.ownsRow B e size v n cells) (h' : w.ownsRow B' e' size' v' n' cells') (ht : e ≠ e') (h1 : v.ownBlock = some k) : ¬ v'.ownBlock = some k := by
  intro h2
  rcases h.2 with ⟨rfl, _⟩ | ⟨g, cap, cur, rfl, hb, hg, _⟩
  · cases h1
  rcases h'.2 with ⟨rfl, _⟩ | ⟨g', cap', cur', rfl, hb', hg', _⟩
  · cases h2
  have e1 : g = k := by simpa [Value.ownBlock] using h1
  have e2 : g' = k := by simpa [Value.ownBlock] using h2
  subst e1
  subst e2
  rw [hg] at hg'
  simp only [Option.some.injEq, Obj.cells.injEq] at hg'
  exact ht hg'.2.1
theorem own_notrow {w : World} {B b : Nat} {e t : TypeId} {size : Nat} {v : Value} {n : Nat} {cells : List Value} {cs : Array Value} (h : w.ownsRow B e size v n cells) (hb : w.heap[b]? = some (.cells cs t (0, 0))) (ht : e ≠ t) : ¬ v.ownBlock = some b := by
  intro h1
  rcases h.2 with ⟨rfl, _⟩ | ⟨g, cap, cur, rfl, _, hg, _⟩
  · cases h1
  have e1 : g = b := by simpa [Value.ownBlock] using h1
  subst e1
  rw [hg] at hb
  simp only [Option.some.injEq, Obj.cells.injEq] at hb
  exact ht hb.2.1
theorem int_fr : (3 : TypeId) ≠ 41 := by decide
theorem sig_ne : (3 : TypeId) ≠ 34 := by decide
theorem int_ins : (3 : TypeId) ≠ 64 := by decide
def sgC (z : Sg × (Option Addr × Nat)) : List Value := [.slice z.2.1 z.1.ps.length z.2.2, ci z.1.res]
/-- A row of signatures of the call's own. -/
def FsR (w : World) (B : Nat) (v : Value) (l : List Sg) : Prop := ∃ xs : List (Option Addr × Nat), xs.length = l.length ∧ w.ownsRow B 34 2 v l.length ((l.zip xs).flatMap sgC) ∧ ∀ (i : Nat) (s : Sg) (x : Option Addr × Nat), l[i]? = some s → xs[i]? = some x → OwI w B (.slice x.1 s.ps.length x.2) s.ps
theorem FsR.keepN {w w' : World} {B : Nat} {v : Value} {l : List Sg} (h : FsR w B v l) (f : Fr (fun _ => False) w w') : FsR w' B v l := by
  obtain ⟨xs, h1, h2, h3⟩ := h
  exact ⟨xs, h1, own_keep h2 f (fun _ _ f => f), fun i s x hs hx => (h3 i s x hs hx).keepN f⟩
theorem FsR.lower {w : World} {B B' : Nat} {v : Value} {l : List Sg} (h : FsR w B v l) (hb : B' ≤ B) : FsR w B' v l := by
  obtain ⟨xs, h1, h2, h3⟩ := h
  exact ⟨xs, h1, own_lower h2 hb, fun i s x hs hx => own_lower (h3 i s x hs hx) hb⟩
theorem sg_get : ∀ (l : List Sg) (xs : List (Option Addr × Nat)) (i : Nat) (s : Sg) (x : Option Addr × Nat), l[i]? = some s → xs[i]? = some x → ((l.zip xs).flatMap sgC)[i * 2]? = some (.slice x.1 s.ps.length x.2) ∧ ((l.zip xs).flatMap sgC)[i * 2 + 1]? = some (ci s.res)
  | [], xs, i, s, x, h, _ => by simp at h
  | a :: l, [], i, s, x, _, h => by simp at h
  | a :: l, b :: xs, 0, s, x, h1, h2 => by
    simp at h1 h2
    subst h1
    subst h2
    exact ⟨rfl, rfl⟩
  | a :: l, b :: xs, i + 1, s, x, h1, h2 => by
    have ih := sg_get l xs i s x (by simpa using h1) (by simpa using h2)
    rw [List.zip_cons_cons, List.flatMap_cons]
    have hl : (sgC (a, b)).length = 2 := rfl
    rw [List.getElem?_append_right (by omega), List.getElem?_append_right (by omega), hl, show (i + 1) * 2 - 2 = i * 2 by omega, show (i + 1) * 2 + 1 - 2 = i * 2 + 1 by omega]
    exact ih
theorem FsR.sgl {w : World} {B : Nat} {v : Value} {l : List Sg} (h : FsR w B v l) : ∃ ao cap, v = .slice ao l.length cap ∧ SgL w ao cap l := by
  obtain ⟨xs, h1, h2, h3⟩ := h
  obtain ⟨ao, cap, rfl, a1, a2, a3, _, a4⟩ := own_slice h2 (by decide)
  refine ⟨ao, cap, rfl, a1, a2, a3, ?_⟩
  rcases a4 with a4 | ⟨g, rfl, _, _, a4⟩
  · exact Or.inl (List.length_eq_zero_iff.1 a4)
  · refine Or.inr ⟨g, 0, rfl, fun i s hs => ?_⟩
    have hi : i < l.length := (List.getElem?_eq_some_iff.1 hs).1
    obtain ⟨x, hx⟩ : ∃ x, xs[i]? = some x := ⟨_, List.getElem?_eq_getElem (by omega)⟩
    obtain ⟨ap, cp, hv, hI⟩ := (h3 i s x hs hx).inl
    obtain ⟨g0, g1⟩ := sg_get l xs i s x hs hx
    simp only [Value.slice.injEq] at hv
    obtain ⟨e1, _, e2⟩ := hv
    rw [Nat.zero_add]
    refine ⟨x.1, x.2, by rw [e1, e2]; exact hI, a4 _ _ g0, a4 _ _ g1⟩
theorem info_sg : (Tryz.prog.info? 34).map (fun i => (i.zero, i.size, i.bytes)) = some (some (.agg #[.slice none 0 0, .int .i64 0]), 2, 32) := by kernel_rfl
theorem FsR.snoc {w w' : World} {B : Nat} {v v' : Value} {l : List Sg} {s : Sg} {x : Option Addr × Nat} {xs : List (Option Addr × Nat)} (h1 : xs.length = l.length) (h2 : w.ownsRow B 34 2 v l.length ((l.zip xs).flatMap sgC))
    (h3 : ∀ (i : Nat) (s : Sg) (x : Option Addr × Nat), l[i]? = some s → xs[i]? = some x → OwI w B (.slice x.1 s.ps.length x.2) s.ps) (hp : OwI w B (.slice x.1 s.ps.length x.2) s.ps) (f : Fr (fun k => v.ownBlock = some k) w w')
    (hr : w'.ownsRow B 34 2 v' (l.length + 1) ((l.zip xs).flatMap sgC ++ sgC (s, x))) : FsR w' B v' (l ++ [s]) := by
  refine ⟨xs ++ [x], by simp [h1], ?_, fun i s' x' hs hx => ?_⟩
  · rw [List.length_append, List.zip_append h1.symm, List.flatMap_append]
    simpa using hr
  · have keep : ∀ {u : Value} {q : List Int}, OwI w B u q → OwI w' B u q := fun hu => own_keep hu f (fun k e e2 => own_types hu h2 sig_ne e e2)
    by_cases hi : i < l.length
    · rw [List.getElem?_append_left hi] at hs
      rw [List.getElem?_append_left (by omega)] at hx
      exact keep (h3 i s' x' hs hx)
    · rw [List.getElem?_append_right (by omega)] at hs
      rw [List.getElem?_append_right (by omega)] at hx
      have e0 : i - l.length = 0 := by
        have := (List.getElem?_eq_some_iff.1 hs).1
        simp at this
        omega
      rw [e0] at hs
      rw [h1, e0] at hx
      simp at hs hx
      subst hs
      subst hx
      exact keep hp
theorem own_keepB {w w' : World} {B b : Nat} {e : TypeId} {size : Nat} {v : Value} {n : Nat} {cells : List Value} (h : w.ownsRow B e size v n cells) (f : Fr (fun k => k = b) w w') (hb : b < B) : w'.ownsRow B e size v n cells :=
  own_keep h f (fun k e2 e3 => by have := (own_block h k e2).1; omega)
theorem FsR.keepB {w w' : World} {B b : Nat} {v : Value} {l : List Sg} (h : FsR w B v l) (f : Fr (fun k => k = b) w w') (hb : b < B) : FsR w' B v l := by
  obtain ⟨xs, h1, h2, h3⟩ := h
  exact ⟨xs, h1, own_keepB h2 f hb, fun i s x hs hx => own_keepB (h3 i s x hs hx) f hb⟩
theorem wpl_ints {w : World} {ops : Array Oper} {rest : List Oper} {o : Oper} {a : Act} {Q : Exit → Act → World → Prop} (hgd : o.guard = none) (s x : Operand)
    (ho : o.op = .call { callee := .builtin .append, args := #[s, x], argTypes := #[22, 22] }) (B g : Nat) (ao : Option Addr) (n cap : Nat) (l : List Int)
    (hs : a.eval s = .slice (some ⟨g, 0, none⟩) 0 0) (hx : a.eval x = .slice ao n cap) (hg : w.heap[g]? = some (.cells #[] 3 (0, 0))) (hB : B ≤ g) (hB2 : B ≤ w.heap.size) (hl : l.length = n) (hI : InL w ao cap l) (hn : n ≤ 17592186044416)
    (h : ∀ v' w', OwI w' B v' l → Fr (fun _ => False) w w' → wpList Tryz.prog ops Q rest (a.put o.dst v') w') : wpList Tryz.prog ops Q (o :: rest) a w := by
  refine wpList_plain hgd fun K hK => ?_
  obtain ⟨v', w', hrun, h2, h3⟩ := app_ints (w := w) B o.type g ao n cap l hg hB hB2 hl hI hn
  unfold Oper.wp
  simp only [execOp, ho, resolve, invoke, builtin, Sem.run_bind, Sem.run_pure, Result.andThen_ok, List.map_toArray, List.map_cons, List.map_nil, hs, hx, hrun]
  exact hK _ _ (h v' w' h2 h3)
/-- A program of the law's own. -/
def FmO (w : World) (B : Nat) (v : Value) (p : Fm) : Prop := ∃ v4 v5, v = .agg #[v4, v5] ∧ FsR w B v4 p.fns ∧ OwI w B v5 p.vars
set_option maxRecDepth 20000 in
set_option maxHeartbeats 8000000 in
theorem frame_any (p : Fm) (a4 a5 : Option Addr) (c4 c5 nf nv : Nat) (hnf : p.fns.length = nf) (hnv : p.vars.length = nv) (w : World) (h4 : SgL w a4 c4 p.fns) (h5 : InL w a5 c5 p.vars) (hb4 : nf ≤ 4398046510976) (hb5 : nv ≤ 17592186044416) (hps : ∀ g ∈ p.fns, g.ps.length ≤ 17592186044416) :
    Calls Tryz.prog 7 #[.agg #[.slice a4 nf c4, .slice a5 nv c5]] w fun e w' => ∃ v, e = .returned v ∧ FmO w' w.heap.size v p ∧ Fr (fun _ => False) w w' := by
  obtain ⟨V, hV⟩ : ∃ V, V = (w.alloc (.cells #[.slice a4 nf c4, .slice a5 nv c5] 30 (0, 0))).alloc (.cells #[.slice none 0 0, .slice none 0 0] 41 (0, 0)) := ⟨_, rfl⟩
  have fV : Fr (fun _ => False) w V := by rw [hV]; exact (Fr.alloc _ _ _).same (Fr.alloc _ _ _)
  have hbx0 : V.heap[w.heap.size]? = some (.cells #[.slice a4 nf c4, .slice a5 nv c5] 30 (0, 0)) := by rw [hV]; exact heap_alloc2_old _ _ _
  have hbx1 : V.heap[w.heap.size + 1]? = some (.cells #[.slice none 0 0, .slice none 0 0] 41 (0, 0)) := by rw [hV]; exact heap_alloc2_new _ _ _
  have hsz : w.heap.size + 2 ≤ V.heap.size := by rw [hV]; simp
  have hIH : Hidden (InL V a5 c5 p.vars) := h5.keep fV
  have h4H : Hidden (SgL w a4 c4 p.fns) := h4
  have hnfH : Hidden (p.fns.length = nf) := hnf
  have hnvH : Hidden (p.vars.length = nv) := hnv
  have hpsH : Hidden (∀ g ∈ p.fns, g.ps.length ≤ 17592186044416) := hps
  have hb0H : Hidden (V.heap[w.heap.size]? = some (.cells #[.slice a4 nf c4, .slice a5 nv c5] 30 (0, 0))) := hbx0
  have hb1H : Hidden (V.heap[w.heap.size + 1]? = some (.cells #[.slice none 0 0, .slice none 0 0] 41 (0, 0))) := hbx1
  have fVH : Hidden (Fr (fun _ => False) w V) := fV
  have hVH : Hidden (V = _) := hV
  have hszH : Hidden (w.heap.size + 2 ≤ V.heap.size) := hsz
  have hcf : nf ≤ c4 := by rw [← hnf]; exact h4.1
  have hcfm : c4 ≤ 9223372036854775807 := by have := h4.2.1; simpa [maxLen] using this
  have hb4H : Hidden (nf ≤ 4398046510976) := hb4
  clear fV h4 h5 hnf hnv hV hsz hps hbx1 hb4
  go_enter Tryz.func7, Tryz.ntmps7
  go_upto_region 1 with fail
  rw [← (show V = _ from hVH)]
  clear hVH
  obtain ⟨c0', c1'⟩ := box2 hbx0
  generalize hG : w.heap.size = G at *
  have hGH : Hidden (w.heap.size = G) := hG
  have c1a := (Fr.alloc (fun _ => False) V (.cells #[] 3 (0, 0))).cellN c1'
  clear hG hbx0
  go_upto_region 2 with (first
    | (at_builtin
       refine wpl_ints rfl _ _ rfl V.heap.size V.heap.size a5 nv c5 p.vars rfl rfl (alloc_new V _) (Nat.le_refl _) ?g1 hnvH ?g2 hb5 ?_
       case g1 => simp
       case g2 => exact InL.keep (show InL V a5 c5 p.vars from hIH) (Fr.alloc (fun _ => False) V _)
       intro v6 w6 r6 f6
       obtain ⟨av, cv, hv6, _⟩ := r6.inl
       rw [show p.vars.length = nv from hnvH] at hv6
       subst hv6
       have g6 : Hidden (Fr (fun _ => False) V w6) := (Fr.alloc (fun _ => False) V _).same f6
       have r6H : Hidden (OwI w6 V.heap.size (.slice av nv cv) p.vars) := r6
       clear r6 f6))
  obtain ⟨W1, hW1⟩ : ∃ W, W = w6.alloc (.cells #[.slice none 0 0, .slice av nv cv] 41 (0, 0)) := ⟨_, rfl⟩
  have f61 : Fr (fun _ => False) w6 W1 := by rw [hW1]; exact Fr.alloc _ _ _
  have hB1 : W1.heap[w6.heap.size]? = some (.cells #[.slice none 0 0, .slice av nv cv] 41 (0, 0)) := by rw [hW1]; exact alloc_new _ _
  have hlt1 : w6.heap.size < W1.heap.size := lt_of_heap hB1
  have hV1 : Fr (fun _ => False) V W1 := (show Fr (fun _ => False) V w6 from g6).same f61
  have hx1 := hV1.heap (show V.heap[G + 1]? = _ from hb1H) (fun f => f)
  have hx0 := hV1.heap (show V.heap[G]? = _ from hb0H) (fun f => f)
  have hv1 : OwI W1 V.heap.size (.slice av nv cv) p.vars := OwI.keepN r6H f61
  have hGB : G + 2 ≤ w6.heap.size := Nat.le_trans hszH hV1.size |> fun _ => Nat.le_trans hszH (show Fr (fun _ => False) V w6 from g6).size
  generalize w6.heap.size = Bx at *
  rw [← hW1]
  have hx1H : Hidden (W1.heap[G + 1]? = some (.cells #[.slice none 0 0, .slice none 0 0] 41 (0, 0))) := hx1
  have hx0H : Hidden (W1.heap[G]? = some (.cells #[.slice a4 nf c4, .slice a5 nv c5] 30 (0, 0))) := hx0
  have hB1H : Hidden (W1.heap[Bx]? = some (.cells #[.slice none 0 0, .slice av nv cv] 41 (0, 0))) := hB1
  have hv1H : Hidden (OwI W1 V.heap.size (.slice av nv cv) p.vars) := hv1
  have hV1H : Hidden (Fr (fun _ => False) V W1) := hV1
  have hltH : Hidden (Bx < W1.heap.size) := hlt1
  have hGBH : Hidden (G + 2 ≤ Bx) := hGB
  have fw1 : Hidden (Fr (fun _ => False) w W1) := (show Fr (fun _ => False) w V from fVH).same hV1
  obtain ⟨fns, hfns⟩ : ∃ l, l = p.fns := ⟨_, rfl⟩
  rw [← hfns] at h4H hnfH hpsH
  have hfnsH : Hidden (fns = p.fns) := hfns
  clear hW1 f61 hB1 hlt1 hV1 hx1 hx0 hv1 hGB c0' c1' c1a hb0H hb1H r6H g6 hIH hfns
  go_wp2_with fail
  go_loopg [4] nf (fun k iv wr => ∃ (j : Nat) (v4 : Value), iv = .int .i64 (j : Int) ∧ j ≤ nf ∧ k = nf - j ∧ wr.heap[Bx]? = some (.cells #[v4, .slice av nv cv] 41 (0, 0)) ∧ FsR wr W1.heap.size v4 (fns.take j) ∧ Fr (fun k => k = Bx) W1 wr)
  case atStart => exact ⟨0, .slice none 0 0, rfl, by omega, rfl, hB1H, ⟨[], rfl, own_nil _ _ _ _, fun i s x h => by simp at h⟩, Fr.refl _ _⟩
  case round =>
    obtain ⟨j, v4, rfl, hj, hk, hbx, hfs, hfr⟩ := hrel
    have hkH : Hidden (gk = nf - j) := hk
    have hfrH : Hidden (Fr (fun k => k = Bx) W1 wr) := hfr
    have hfsH : Hidden (FsR wr W1.heap.size v4 (fns.take j)) := hfs
    have hx0 := hfr.heap (show W1.heap[G]? = _ from hx0H) (by have : G + 2 ≤ Bx := hGBH; omega)
    obtain ⟨t0, t1⟩ := box2 hx0
    obtain ⟨k0, k1⟩ := box2 hbx
    have hbxH : Hidden (wr.heap[Bx]? = some (.cells #[v4, .slice av nv cv] 41 (0, 0))) := hbx
    clear hk hfs hx0 hbx
    by_cases hjl : j < nf
    · obtain ⟨x, hx⟩ : ∃ x, fns[j]? = some x := ⟨_, List.getElem?_eq_getElem (by have : fns.length = nf := hnfH; omega)⟩
      obtain ⟨b, off, rfl, hcs⟩ := (show SgL w a4 c4 fns from h4H).2.2.2.resolve_left (by rintro rfl; simp at hx)
      obtain ⟨ap, cp, hI, q0, q1⟩ := hcs j x hx
      have hxm := List.mem_of_getElem? hx
      have hw : Fr (fun k => k = Bx) w wr := (show Fr (fun _ => False) w W1 from fw1).mono (fun _ _ f => f.elim) |>.same hfr
      have hwlt : w.heap.size = G := hGH
      have hGB : G + 2 ≤ Bx := hGBH
      have hw0 : Fr (fun _ => False) w wr := (show Fr (fun _ => False) w W1 from fw1).over hfr (fun k e => by omega)
      replace q0 := hw0.cellN q0
      replace q1 := hw0.cellN q1
      have kr := fun W (f : Fr (fun _ => False) wr W) => sig_any ap x.ps.length cp x.ps x.res rfl W ((hI.keep hw0).keep f) ((show ∀ g ∈ fns, _ from hpsH) x hxm)
      have hsl := FsR.sgl hfsH
      have hjlen : (fns.take j).length = j := by rw [List.length_take]; have : fns.length = nf := hnfH; omega
      obtain ⟨a7, c7, hv7, hS7⟩ := hsl
      rw [hjlen] at hv7
      subst hv7
      have hc7 : j ≤ c7 := by rw [← hjlen]; exact hS7.1
      have htk : Hidden (fns.take (j + 1) = fns.take j ++ [x]) := by show _ = _; rw [List.take_add_one, hx]; rfl
      have hjlenH : Hidden ((fns.take j).length = j) := hjlen
      have hszr : Hidden (W1.heap.size ≤ wr.heap.size) := hfr.size
      obtain ⟨m, hm⟩ : ∃ m, m = x.ps.length := ⟨_, rfl⟩
      obtain ⟨xr, hxr⟩ : ∃ z, z = x.res := ⟨_, rfl⟩
      rw [← hm] at q0 kr
      rw [← hxr] at q1 kr
      have hmH : Hidden (m = x.ps.length) := hm
      have hxrH : Hidden (xr = x.res) := hxr
      clear hx hcs hI hxm hw hwlt hw0 hS7 hjlen hm hxr hfr hGB
      obtain ⟨xs, hx1, hx2, hx3⟩ := (show FsR wr W1.heap.size (.slice a7 j c7) (fns.take j) from hfsH)
      obtain ⟨F, hF⟩ : ∃ F, F = (((fns.take j).zip xs).flatMap sgC) := ⟨_, rfl⟩
      rw [show (fns.take j).length = j from hjlenH, ← hF] at hx2
      have hFH : Hidden (F = _) := hF
      have hx1H : Hidden (xs.length = (fns.take j).length) := hx1
      have hx2H : Hidden (wr.ownsRow W1.heap.size 34 2 (.slice a7 j c7) j F) := hx2
      have hx3H : Hidden (∀ (i : Nat) (s : Sg) (x : Option Addr × Nat), (fns.take j)[i]? = some s → xs[i]? = some x → OwI wr W1.heap.size (.slice x.1 s.ps.length x.2) s.ps) := hx3
      have hjn2 : (j : Int) < (nf : Int) := by omega
      have y0 := frozen_of_row (show wr.heap[Bx]? = _ from hbxH) 0
      clear hF hx1 hx2 hx3
      go_wp2_with fail
      go_region_law (first
        | (have tk := hpaH
           refine step_raw rfl _ _ 39 34 (.agg #[.slice none 0 0, .int .i64 0]) 2 32 Tryz.underlying39 info_sg rfl (by decide) rfl W1.heap.size (.slice a7 j c7) j F ⟨wa.heap.size, 0, none⟩ 1 1 [.slice pa m pc, ci xr] rfl ?_ rfl rfl ?_ ?_ ?_ ?_ ?_ ?_
           · exact own_keep (show wr.ownsRow W1.heap.size _ 2 _ j F from hx2H) ((show Fr (fun _ => False) wr wa from gaH).same (Fr.alloc (fun _ => False) wa _)) (fun _ _ f => f)
           · intro i u hu
             rw [Addr.add_lit, Nat.zero_add]
             refine (cell_of_row _ _ _ _ _ _ (alloc_new wa _)).trans ?_
             rcases i with _ | _ | i
             · simp at hu; subst hu; rfl
             · simp at hu; subst hu; rfl
             · simp at hu
           · intro u hu
             simp at hu
             rcases hu with rfl | rfl <;> rfl
           · have h2 : nf ≤ 4398046510976 := hb4H
             simp [maxLen]; omega
           · have h2 : nf ≤ 4398046510976 := hb4H
             omega
           · have h1 : W1.heap.size ≤ wr.heap.size := hszr
             have h2 := (show Fr (fun _ => False) wr wa from gaH).size
             simp; omega
           intro v7 w7 r7 f7 o7
           obtain ⟨a8, c8, hv8, _⟩ := own_slice r7 (by decide)
           subst hv8
           have nb : ¬ (Value.slice a7 j c7).ownBlock = some Bx := fun e => by have h1 := (own_block (show wr.ownsRow W1.heap.size _ 2 _ j F from hx2H) Bx e).1; have h2 : Bx < W1.heap.size := hltH; omega
           have hbx7 := f7.heap (((show Fr (fun _ => False) wr wa from gaH).same (Fr.alloc (fun _ => False) wa _)).heap (show wr.heap[Bx]? = _ from hbxH) (fun f => f)) nb
           obtain ⟨l0, l1⟩ := box2 hbx7
           have z0 := frozen_of_row hbx7 0
           have hbx7H : Hidden (w7.heap[Bx]? = some (.cells #[.slice a7 j c7, .slice av nv cv] 41 (0, 0))) := hbx7
           have r7H : Hidden (w7.ownsRow W1.heap.size 34 2 (.slice a8 (j + 1) c8) (j + 1) (F ++ [.slice pa m pc, ci xr])) := r7
           have f7H : Hidden (Fr (fun k => (Value.slice a7 j c7).ownBlock = some k) (wa.alloc (.cells #[.slice pa m pc, ci xr] 34 (0, 0))) w7) := f7
           clear r7 f7 o7 hbx7 nb)
        | (go_simp
           go_at_call 14
           refine (kr _ (by first | exact Fr.refl _ _ | exact Fr.drew _ _)).mono ?_
           rintro e wa ⟨vp, rfl, hp, fa⟩
           obtain ⟨pa, pc, hvp, _⟩ := hp.inl
           rw [show x.ps.length = m from (show m = _ from hmH).symm] at hvp
           subst hvp
           have ga : Fr (fun _ => False) wr wa := (by first | exact fa | exact (Fr.drew _ _).same fa)
           have hpaH : Hidden (OwI wa W1.heap.size (.slice pa m pc) x.ps) := own_lower hp (Nat.le_trans (show W1.heap.size ≤ wr.heap.size from hszr) (by first | exact Nat.le_refl _ | exact Fr.size (Fr.drew (fun _ => False) wr)))
           have gaH : Hidden (Fr (fun _ => False) wr wa) := ga
           have ka0 := ga.cellN k0
           have ka1 := (Fr.alloc (fun _ => False) wa (.cells #[.slice pa m pc, ci xr] 34 (0, 0))).cellN ka0
           have ta0 := ga.cellN t0
           have ta1 := (Fr.alloc (fun _ => False) wa (.cells #[.slice pa m pc, ci xr] 34 (0, 0))).cellN ta0
           clear hp fa ga
           dsimp only))
      all_goals
        go_wp2_with fail
        go_roundg (nf - (j + 1))
        case measure => have : gk = nf - j := hkH; omega
        case rel =>
          have gX : Fr (fun _ => False) wr (wa.alloc (.cells #[.slice pa m pc, ci xr] 34 (0, 0))) := (show Fr (fun _ => False) wr wa from gaH).same (Fr.alloc _ _ _)
          have hpX : OwI (wa.alloc (.cells #[.slice pa m pc, ci xr] 34 (0, 0))) W1.heap.size (.slice pa x.ps.length pc) x.ps := by
            have hm2 : m = x.ps.length := hmH
            rw [← hm2]
            exact OwI.keepN (show OwI wa W1.heap.size (.slice pa m pc) x.ps from hpaH) (Fr.alloc (fun _ => False) wa (.cells #[.slice pa m pc, ci xr] 34 (0, 0)))
          have hs7 : FsR w7 W1.heap.size (.slice a8 (j + 1) c8) (fns.take j ++ [x]) := by
            refine FsR.snoc (w := wa.alloc (.cells #[.slice pa m pc, ci xr] 34 (0, 0))) (v := .slice a7 j c7) (x := (pa, pc)) (xs := xs) hx1H ?_ (fun i s y hs hy => ((show ∀ (i : Nat) (s : Sg) (x : Option Addr × Nat), _ → _ → _ from hx3H) i s y hs hy).keepN gX) hpX f7H ?_
            · rw [show (fns.take j).length = j from hjlenH, ← (show F = _ from hFH)]
              exact own_keep (show wr.ownsRow W1.heap.size _ 2 _ j F from hx2H) gX (fun _ _ f => f)
            · rw [show (fns.take j).length = j from hjlenH, ← (show F = _ from hFH)]
              have := (show w7.ownsRow W1.heap.size _ 2 _ (j + 1) _ from r7H)
              rw [show m = x.ps.length from hmH, show xr = x.res from hxrH] at this
              exact this
          have hltB : Bx < W1.heap.size := hltH
          refine ⟨j + 1, .slice a8 (j + 1) c8, by go_num, by omega, rfl, ?_, ?_, ?_⟩
          · exact heap_setCell_same w7 Bx 0 _ _ _ hbx7H
          · rw [show fns.take (j + 1) = _ from htk]
            exact hs7.keepB (Fr.setCell w7 ⟨Bx, 0, none⟩ _) hltB
          · have hszr' : W1.heap.size ≤ wr.heap.size := hszr
            exact (((show Fr (fun k => k = Bx) W1 wr from hfrH).same (gX.mono (fun _ _ f => f.elim))).trans (show Fr (fun k => (Value.slice a7 j c7).ownBlock = some k) _ w7 from f7H) (fun k hk e => by have h1 := (own_block (show wr.ownsRow W1.heap.size _ 2 _ j F from hx2H) k e).1; omega)).same (Fr.setCell w7 ⟨Bx, 0, none⟩ _)
    · obtain rfl : j = nf := by omega
      have hjn2 : decide ((j : Int) < (j : Int)) = false := by simp
      have hx1 := hfrH.heap (show W1.heap[G + 1]? = _ from hx1H) (by have : G + 2 ≤ Bx := hGBH; omega)
      obtain ⟨m0, m1⟩ := box2 hx1
      have z0 := frozen_of_row hx1 0
      have z1 := frozen_of_row hx1 1
      have hx1r : Hidden (wr.heap[G + 1]? = some (.cells #[.slice none 0 0, .slice none 0 0] 41 (0, 0))) := hx1
      obtain ⟨a7, c7, hv7, _⟩ := FsR.sgl hfsH
      have htj : fns.take j = fns := List.take_of_length_le (by have : fns.length = j := hnfH; omega)
      rw [htj, show fns.length = j from hnfH] at hv7
      subst hv7
      have hfsE : Hidden (FsR wr W1.heap.size (.slice a7 j c7) p.fns) := by have := (show FsR wr W1.heap.size (.slice a7 j c7) (fns.take j) from hfsH); rw [htj, show fns = p.fns from hfnsH] at this; exact this
      clear hx1 hjl htj
      go_wp2_with fail
      have hw : w.heap.size = G := hGH
      have hGB : G + 2 ≤ Bx := hGBH
      have hsz : G + 2 ≤ V.heap.size := hszH
      have hszV := (show Fr (fun _ => False) V W1 from hV1H).size
      have hsz1 := (show Fr (fun k => k = Bx) W1 wr from hfrH).size
      have hltB : Bx < W1.heap.size := hltH
      have ff : Fr (fun k => k = G + 1) wr ((wr.setCell ⟨G + 1, 0, none⟩ (.slice a7 j c7)).setCell ⟨G + 1, 1, none⟩ (.slice av nv cv)) := (Fr.setCell _ ⟨G + 1, 0, none⟩ _).same (Fr.setCell _ ⟨G + 1, 1, none⟩ _)
      have hvr : OwI wr V.heap.size (.slice av nv cv) p.vars := own_keep (show OwI W1 V.heap.size _ p.vars from hv1H) (show Fr (fun k => k = Bx) W1 wr from hfrH) (fun k e e2 => by subst e2; exact own_notrow (show OwI W1 V.heap.size _ p.vars from hv1H) (show W1.heap[k]? = _ from hB1H) int_fr e)
      refine post_one rfl rfl _ #[.slice a7 j c7, .slice av nv cv] 41 _ rfl (two_put (show wr.heap[G + 1]? = _ from hx1r) _ _) Tryz.underlying41 rfl (by kernel_rfl) ⟨_, rfl, ⟨_, _, rfl, ?_, ?_⟩, ?_⟩
      · exact ((show FsR wr W1.heap.size (.slice a7 j c7) p.fns from hfsE).keepB ff (by omega)).lower (by omega)
      · exact own_lower (own_keepB hvr ff (by omega)) (by omega)
      · exact ((show Fr (fun _ => False) w W1 from fw1).over (show Fr (fun k => k = Bx) W1 wr from hfrH) (fun k e => by omega)).over ff (fun k e => by omega)
end Go.Proofs.YtnmcehpdiopaiaaGreatDoor.Cd
