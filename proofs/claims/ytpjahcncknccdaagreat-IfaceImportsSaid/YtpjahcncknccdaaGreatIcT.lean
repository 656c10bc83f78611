/- IfaceImports. -/
import Derived.Test.YtpjahcncknccdaaGreatIcBll
import Derived.Test.YtpjahcncknccdaaGreatIcIn
import Derived.Test.YtpjahcncknccdaaGreatTrIn
import Derived.Deep.DeepCutAuto
import Derived.Deep.RegionHeld3
import Derived.BigQuiet
namespace Go.Proofs.YtpjahcncknccdaaGreat.Fo.Ic
open Go.RowKit Te
set_option linter.unusedSimpArgs false
set_option linter.unusedVariables false
set_option maxRecDepth 20000

theorem alloc_at' (w : World) (o : Obj) (k : Nat) (h : k = w.heap.size) : (w.alloc o).heap[k]? = some o := by rw [h]; exact alloc_new _ _
theorem g21 (w : World) (a b : Obj) : ((w.alloc a).alloc b).heap[w.heap.size]? = some a := (alloc_old _ _ _ (by simp)).trans (alloc_new w a)
theorem g22 (w : World) (a b : Obj) : ((w.alloc a).alloc b).heap[w.heap.size + 1]? = some b := alloc_at' _ _ _ (by simp)
theorem h11 (w : World) (a : Obj) : (w.alloc a).drew.heap[w.heap.size]? = some a := alloc_new w a
theorem h21 (w : World) (a b : Obj) : ((w.alloc a).alloc b).drew.heap[w.heap.size]? = some a := g21 w a b
theorem h22 (w : World) (a b : Obj) : ((w.alloc a).alloc b).drew.heap[w.heap.size + 1]? = some b := g22 w a b
theorem keepX {cur w' : World} {A v : Value} {g : Nat} {o : Obj} (f : Fr (fun k => A.ownBlock = some k) cur w') (ho : v.ownBlock = A.ownBlock ∨ v.ownBlock = some cur.heap.size) (hx : cur.heap[g]? = some o) (hne : ¬ A.ownBlock = some g) : w'.heap[g]? = some o ∧ ¬ v.ownBlock = some g := by
  refine ⟨f.heap hx hne, fun e => ?_⟩
  rcases ho with h | h
  · rw [h] at e; exact hne e
  · rw [h] at e
    injection e with e
    have := lt_of_heap hx
    omega
theorem own_is (g off n c : Nat) : (Value.slice (some ⟨g, off, none⟩) n c).ownBlock = some g := rfl
theorem two_row {w : World} {g : Nat} {a b : Value} {t : TypeId} (hg : w.heap[g]? = some (.cells #[a, b] t (0, 0))) : ∀ (j : Nat) (u : Value), [a, b][j]? = some u → w.cell? ((⟨g, 0, none⟩ : Addr).add j) = some u := by
  intro j u hj
  rw [Addr.add_lit, Nat.zero_add, cell_of_row w g j _ t (0, 0) hg]
  simpa using hj
/-- append of the elements of a row that may lie nowhere. -/
theorem step_any {α : Type} {R : α → List Value → Prop} {w : World} {ops : Array Oper} {o : Oper} {a : Act} {K : Act → World → Prop} {Q : Exit → Act → World → Prop} {E : Prop} (hgd : o.guard = none) (s x : Operand) (ty e : TypeId) (z : Value) (size bytes : Nat)
    (hty : Tryz.prog.underlying ty = some (.slice e)) (hinfo : (Tryz.prog.info? e).map (fun i => (i.zero, i.size, i.bytes)) = some (some z, size, bytes)) (hzs : z.cells.size = size) (hsz : 0 < size)
    (ho : o.op = .call { callee := .builtin .append, args := #[s, x], argTypes := #[ty, ty] }) (B : Nat) (v : Value) (l ys : List α) (news : List Value) (lo : Option Addr) (m c : Nat)
    (hs : a.eval s = v) (hr : Rw.Row R e size w B v l) (hx : a.eval x = .slice lo m c) (hm : m = ys.length) (hch : Rw.Chunks R size ys news) (hnil : lo = none → m = 0 ∧ c = 0) (hc : ∀ ad, lo = some ad → ∀ (j : Nat) (u : Value), news[j]? = some u → w.cell? (ad.add j) = some u) (h1 : ∀ u ∈ news, u.oneCell' = true)
    (hn : l.length + ys.length ≤ maxLen) (hb : (l.length + ys.length) * bytes ≤ 140737488355328) (hB : B ≤ w.heap.size)
    (h : ∀ v' w', Rw.Row R e size w' B v' (l ++ ys) → Fr (fun k => v.ownBlock = some k) w w' → (v'.ownBlock = v.ownBlock ∨ v'.ownBlock = some w.heap.size) → K (a.put o.dst v') w') : if Region.wanted o (yielded ops a.tmps) = true then Oper.wp Tryz.prog o a w K Q else E := by
  cases lo with
  | some ad => exact Rw.step_rows hgd s x ty e z size bytes hty hinfo hzs hsz ho B v l ys news ad m c hs hr hx hm hch (hc ad rfl) h1 hn hb hB h
  | none =>
    obtain ⟨rfl, rfl⟩ := hnil rfl
    have : ys = [] := List.eq_nil_of_length_eq_zero hm.symm
    subst this
    refine Rw.step_none hgd s x ty e size hty (by cases hi : Tryz.prog.info? e with
      | none => rw [hi] at hinfo; cases hinfo
      | some i => rfl) ho B v l hs hr hx (h v w (by rw [List.append_nil]; exact hr) (Fr.refl _ _) (Or.inl rfl))
theorem chunks_fc (W : World) (b : Nat) : ∀ (l : List Ty.Fc) (off : Nat), (∀ (i : Nat) (x : Ty.Fc), l[i]? = some x → LayF W b (off + i * 2) x) →
    ∃ cs, Rw.Chunks (RF W) 2 l cs ∧ (∀ (j : Nat) (u : Value), cs[j]? = some u → W.cell? ⟨b, off + j, none⟩ = some u) ∧ ∀ u ∈ cs, u.oneCell' = true
  | [], off, _ => ⟨[], rfl, fun j u h => by simp at h, fun u h => by simp at h⟩
  | x :: l, off, h => by
    obtain ⟨ai, ic, h1, h2, h3⟩ := h 0 x rfl
    obtain ⟨cs, q1, q2, q3⟩ := chunks_fc W b l (off + 2) (fun i y hy => by
      have := h (i + 1) y (by simpa using hy)
      rw [show off + 2 + i * 2 = off + (i + 1) * 2 by omega]
      exact this)
    refine ⟨[ct x.name, .slice ai x.items.length ic] ++ cs, ⟨_, cs, rfl, rfl, ⟨ai, ic, h1, rfl⟩, q1⟩, fun j u hj => ?_, fun u hu => ?_⟩
    · match j, hj with
      | 0, hj => simp at hj; subst hj; simpa using h2
      | 1, hj => simp at hj; subst hj; simpa using h3
      | j + 2, hj =>
        have := q2 j u (by simpa using hj)
        rw [show off + (j + 2) = off + 2 + j by omega]
        exact this
    · rcases List.mem_append.1 hu with hu | hu
      · simp only [List.mem_cons, List.not_mem_nil, or_false] at hu
        rcases hu with rfl | rfl <;> rfl
      · exact q3 u hu
set_option maxHeartbeats 4000000 in
theorem imports_some (m : Mo) (ao : Option Addr) (cap : Nat) (aod : Option Addr) (capd : Nat) (l : List Ty.Fc) (lo : Option Addr) (lc : Nat) (x : Ty.Fc) (xo : Option Addr) (xc : Nat) (w : World) (hm : MoI w m (moV m ao cap aod capd)) (om : OkM m)
    (h1 : l.length ≤ lc) (h2 : lc ≤ maxLen) (h3 : l = [] ∨ ∃ b off, lo = some ⟨b, off, none⟩ ∧ ∀ (i : Nat) (x : Ty.Fc), l[i]? = some x → LayF w b (off + i * 2) x) (okl : ∀ f ∈ l, Ty.OkN f.name ∧ ∀ i ∈ f.items, Ty.OkI i) (hx : Ty.ItL w xo xc x.items) (okx : Ty.OkN x.name ∧ ∀ i ∈ x.items, Ty.OkI i) (hs : (l.length + 1) * 40 ≤ 140737488355328)
    (news : List Value) (hch : Rw.Chunks (RF w) 2 l news) (hone : ∀ u ∈ news, u.oneCell' = true) (hnil : lo = none → l.length = 0 ∧ lc = 0) (hnw0 : ∀ ad, lo = some ad → ∀ (j : Nat) (u : Value), news[j]? = some u → w.cell? (ad.add j) = some u) :
    Calls Tryz.prog 6 #[moV m ao cap aod capd, .slice lo l.length lc, .agg #[ct x.name, .slice xo x.items.length xc]] w fun e w' => e = .returned (.bool true) ∧ Fr FN w w' := by
  obtain ⟨W0, hW0⟩ : ∃ W, W = (w.alloc (.cells #[ct m.name, .slice ao m.imports.length cap, .slice aod m.decls.length capd] 39)).alloc (.cells #[ct x.name, .slice xo x.items.length xc] 24) := ⟨_, rfl⟩
  have f0 : Fr FN w W0 := by rw [hW0]; exact (Fr.alloc _ _ _).same (Fr.alloc _ _ _)
  have hA : W0.heap[w.heap.size]? = some (.cells #[ct m.name, .slice ao m.imports.length cap, .slice aod m.decls.length capd] 39 (0, 0)) := by rw [hW0]; exact g21 _ _ _
  have hB : W0.heap[w.heap.size + 1]? = some (.cells #[ct x.name, .slice xo x.items.length xc] 24 (0, 0)) := by rw [hW0]; exact g22 _ _ _
  have boxM : ∀ u, Fr FN W0 u → u.cell? ⟨w.heap.size, 0, none⟩ = some (ct m.name) ∧ u.cell? ⟨w.heap.size, 1, none⟩ = some (.slice ao m.imports.length cap) ∧ u.cell? ⟨w.heap.size, 2, none⟩ = some (.slice aod m.decls.length capd) := fun u hu => by
    have h := hu.heap hA (fun f => f)
    exact ⟨cell_of_row _ _ 0 _ _ _ h, cell_of_row _ _ 1 _ _ _ h, cell_of_row _ _ 2 _ _ _ h⟩
  have boxX : ∀ u, Fr FN W0 u → u.cell? ⟨w.heap.size + 1, 0, none⟩ = some (ct x.name) ∧ u.cell? ⟨w.heap.size + 1, 1, none⟩ = some (.slice xo x.items.length xc) := fun u hu => Ty.box2 (hu.heap hB (fun f => f))
  obtain ⟨_, _, _, _, e, hi, hd⟩ := id hm
  cases e
  have m1 : cap ≤ 9223372036854775807 := by have := hi.2.1; unfold maxLen at this; omega
  have m2 : capd ≤ 9223372036854775807 := by have := hd.2.1; unfold maxLen at this; omega
  have m3 : lc ≤ 9223372036854775807 := by unfold maxLen at h2; omega
  have n1 := hi.1
  have n2 := hd.1
  have kL := live_any W0
  have kX : ∀ u, Fr FN w u → Calls Tryz.prog 13 #[.agg #[ct m.name, .slice ao m.imports.length cap, .slice aod m.decls.length capd], .slice lo l.length lc] u fun e w' => ∃ fo fc f, e = .returned (.tuple #[.agg #[ct f.name, .slice fo f.items.length fc], ci (exP m l).1, ci (exP m l).2]) ∧ Ty.ItL w' fo fc f.items ∧ IsF m l f ∧ Fr FN u w' := fun u hu => (extract_any m _ l lo lc u om (hm.keep hu) h1 h2 (h3.imp id fun ⟨b, off, e, h⟩ => ⟨b, off, e, fun i y hy => by
    obtain ⟨ap, cp, q1, q2, q3⟩ := h i y hy
    exact ⟨ap, cp, q1.keep hu, hu.cellN q2, hu.cellN q3⟩⟩) okl).mono fun e w' ⟨fv, f, q1, ⟨fo, fc, q2, q3⟩, q4, q5⟩ => ⟨fo, fc, f, by rw [q1, q2], q3, q4, q5⟩
  have kY : ∀ u (yo : Option Addr) (yc : Nat), Fr FN w u → (l ++ [x]).length ≤ yc → yc ≤ maxLen → (l ++ [x] = [] ∨ ∃ b off, yo = some ⟨b, off, none⟩ ∧ ∀ (i : Nat) (y : Ty.Fc), (l ++ [x])[i]? = some y → LayF u b (off + i * 2) y) → Calls Tryz.prog 13 #[.agg #[ct m.name, .slice ao m.imports.length cap, .slice aod m.decls.length capd], .slice yo (l ++ [x]).length yc] u fun e w' => ∃ fo fc f, e = .returned (.tuple #[.agg #[ct f.name, .slice fo f.items.length fc], ci (exP m (l ++ [x])).1, ci (exP m (l ++ [x])).2]) ∧ Ty.ItL w' fo fc f.items ∧ IsF m (l ++ [x]) f ∧ Fr FN u w' := fun u yo yc hu q1 q2 q3 => (extract_any m _ (l ++ [x]) yo yc u om (hm.keep hu) q1 q2 q3 (fun f hf => by
    rcases List.mem_append.1 hf with hf | hf
    · exact okl f hf
    · rw [List.mem_singleton.1 hf]; exact okx)).mono fun e w' ⟨fv, f, q1, ⟨fo, fc, q2, q3⟩, q4, q5⟩ => ⟨fo, fc, f, by rw [q1, q2], q3, q4, q5⟩
  have kS : ∀ (u : World) (f g : Ty.Fc) (fo go : Option Addr) (fc gc : Nat), Ty.ItL u fo fc f.items → Ty.ItL u go gc g.items → f = g → Calls Tryz.prog 11 #[.agg #[ct f.name, .slice fo f.items.length fc], .agg #[ct g.name, .slice go g.items.length gc]] u fun e w' => e = .returned (.bool true) ∧ Fr FN u w' := fun u f g fo go fc gc q1 q2 q3 => by
    have := Ty.sameIface_any f g _ _ u ⟨fo, fc, rfl, q1⟩ ⟨go, gc, rfl, q2⟩
    rw [decide_eq_true q3] at this
    exact this
  have hch1 : Rw.Chunks (RF w) 2 [x] [ct x.name, .slice xo x.items.length xc] := ⟨[ct x.name, .slice xo x.items.length xc], [], by simp, rfl, ⟨xo, xc, hx, rfl⟩, rfl⟩
  have hone1 : ∀ u ∈ [ct x.name, .slice xo x.items.length xc], u.oneCell' = true := by
    intro u hu
    simp only [List.mem_cons, List.not_mem_nil, or_false] at hu
    rcases hu with rfl | rfl <;> rfl
  have hsH : Hidden ((l.length + 1) * 40 ≤ 140737488355328) := hs
  have h3H : Hidden (l = [] ∨ ∃ b off, lo = some ⟨b, off, none⟩ ∧ ∀ (i : Nat) (x : Ty.Fc), l[i]? = some x → LayF w b (off + i * 2) x) := h3
  have hiH : Hidden (SvL w ao cap m.imports) := hi
  have boxMH : Hidden (∀ u, Fr FN W0 u → u.cell? ⟨w.heap.size, 0, none⟩ = some (ct m.name) ∧ u.cell? ⟨w.heap.size, 1, none⟩ = some (.slice ao m.imports.length cap) ∧ u.cell? ⟨w.heap.size, 2, none⟩ = some (.slice aod m.decls.length capd)) := boxM
  have boxXH : Hidden (∀ u, Fr FN W0 u → u.cell? ⟨w.heap.size + 1, 0, none⟩ = some (ct x.name) ∧ u.cell? ⟨w.heap.size + 1, 1, none⟩ = some (.slice xo x.items.length xc)) := boxX
  have f0H : Hidden (Fr FN w W0) := f0
  have hW0H : Hidden (W0 = _) := hW0
  have hnwH : Hidden (∀ ad, lo = some ad → ∀ (j : Nat) (u : Value), news[j]? = some u → w.cell? (ad.add j) = some u) := hnw0
  clear hm om h3 okl hx okx hs hi hd hA hB boxM boxX f0 hW0 h2
  go_enter Tryz.func6, Tryz.ntmps6
  go_wp2_with fail
  rw [← (show W0 = _ from hW0H)]
  go_at_call 7
  refine Calls.mono kL ?_
  rintro e w1 ⟨rfl, f1⟩
  obtain ⟨a0, a1, a2⟩ := (show ∀ u, Fr FN W0 u → _ from boxMH) w1 f1
  have kX1 := kX w1 ((show Fr FN w W0 from f0H).same f1)
  clear kL kX
  go_wp2_with fail
  go_at_call 13
  refine Calls.mono kX1 ?_
  rintro e w2 ⟨fo, fc, f, rfl, hf2, isf, f2⟩
  have f02 : Fr FN W0 w2 := f1.same f2
  have fcm : fc ≤ 9223372036854775807 := by have := hf2.2.1; unfold maxLen at this; omega
  have fcn := hf2.1
  obtain ⟨U, hU⟩ : ∃ U, U = w2.alloc (.cells #[ct f.name, .slice fo f.items.length fc] 24) := ⟨_, rfl⟩
  have fU : Fr FN W0 U := by rw [hU]; exact f02.same (Fr.alloc _ _ _)
  have hUb : U.heap[w2.heap.size]? = some (.cells #[ct f.name, .slice fo f.items.length fc] 24 (0, 0)) := by rw [hU]; exact alloc_new _ _
  have hfU : Ty.ItL U fo fc f.items := by rw [hU]; exact hf2.keep (Fr.alloc _ _ _)
  have hUH : Hidden (U = _) := hU
  have fUH : Hidden (Fr FN W0 U) := fU
  have hUbH : Hidden (U.heap[w2.heap.size]? = some (.cells #[ct f.name, .slice fo f.items.length fc] 24 (0, 0))) := hUb
  have hfUH : Hidden (Ty.ItL U fo fc f.items) := hfU
  have isfH : Hidden (IsF m l f) := isf
  obtain ⟨c0, c1⟩ := (show ∀ u, Fr FN W0 u → _ from boxXH) U fU
  have hnw : Hidden (∀ ad, lo = some ad → ∀ (j : Nat) (u : Value), news[j]? = some u → U.cell? (ad.add j) = some u) := (fun ad had j u hu => ((show Fr FN w W0 from f0H).same fU).cellN ((show ∀ ad, lo = some ad → ∀ (j : Nat) (u : Value), news[j]? = some u → w.cell? (ad.add j) = some u from hnwH) ad had j u hu))
  clear hU kX1 hf2 isf f1 f2 f02 a0 a1 a2 hfU hUb
  go_upto_region 4 with fail
  rw [← (show U = _ from hUH)]
  go_cut [10] (fun v wx => Rw.Row (RF w) 24 2 wx U.heap.size v (l ++ [x]) ∧ Fr FN U wx)
  case first =>
    clear kY kS
    have hVlt : w.heap.size + 1 < U.heap.size := World.block_lt_of_cell? U _ c0
    have mm0 : U.heap.size ≠ w.heap.size + 1 := World.new_ne U _ c0
    have mm1 : U.heap.size + 1 ≠ w.heap.size + 1 := by omega
    clear fU
    go_region_held3 (fun w' => w'.cell? ⟨w.heap.size + 1, 0, none⟩ = some (ct x.name) ∧ w'.cell? ⟨w.heap.size + 1, 1, none⟩ = some (.slice xo x.items.length xc)) (first | (refine ⟨by with_reducible assumption, by with_reducible assumption⟩) | (refine ⟨?_, ?_⟩; (focus (refine Fr.cellN (w := U) ?_ c0; (repeat (first | (with_reducible assumption) | (with_reducible exact Fr.refl _ _) | (with_reducible refine Fr.same ?_ (Fr.alloc _ _ _)) | (with_reducible refine Fr.same ?_ (Fr.drew _ _)))); done)); (focus (refine Fr.cellN (w := U) ?_ c1; (repeat (first | (with_reducible assumption) | (with_reducible exact Fr.refl _ _) | (with_reducible refine Fr.same ?_ (Fr.alloc _ _ _)) | (with_reducible refine Fr.same ?_ (Fr.drew _ _)))); done))) | go_keep) (first
      | (have hq := hr4H; refine Rw.step_rows (R := RF w) rfl _ _ 40 24 (.agg #[.string ⟨#[]⟩, .slice none 0 0]) 2 40 Tryz.underlying40 info_if rfl (by decide) rfl U.heap.size v4 l [x] [ct x.name, .slice xo x.items.length xc] ⟨_, 0, none⟩ 1 1 rfl ?_ rfl rfl hch1 ?_ hone1 ?_ ?_ ?_ ?_; (focus (refine (show Rw.Row (RF w) 24 2 w4 U.heap.size v4 l from hr4H).keep (S := fun _ => False) ?_ (fun _ _ f => f); (repeat (first | (with_reducible assumption) | (with_reducible exact Fr.refl _ _) | (with_reducible refine Fr.same ?_ (Fr.alloc _ _ _)) | (with_reducible refine Fr.same ?_ (Fr.drew _ _)))))); (focus (refine two_row (t := 24) ?_; (first | (first | (with_reducible exact alloc_new _ _) | (with_reducible exact h11 _ _)) | (refine Fr.heap (S := fun _ => False) (w := w4) ?_ hX0.1 (fun f => f); (repeat (first | (with_reducible assumption) | (with_reducible exact Fr.refl _ _) | (with_reducible refine Fr.same ?_ (Fr.alloc _ _ _)) | (with_reducible refine Fr.same ?_ (Fr.drew _ _)))); done) | (refine Fr.heap (S := fun _ => False) (w := w4) ?_ hX1.1 (fun f => f); (repeat (first | (with_reducible assumption) | (with_reducible exact Fr.refl _ _) | (with_reducible refine Fr.same ?_ (Fr.alloc _ _ _)) | (with_reducible refine Fr.same ?_ (Fr.drew _ _)))); done)))); (focus (have : (l.length + 1) * 40 ≤ 140737488355328 := hsH; simp [maxLen]; omega)); (focus (have : (l.length + 1) * 40 ≤ 140737488355328 := hsH; simp only [List.length_singleton]; omega)); (focus (refine Fr.size (S := fun _ => False) ?_; (repeat (first | (with_reducible assumption) | (with_reducible exact Fr.refl _ _) | (with_reducible refine Fr.same ?_ (Fr.alloc _ _ _)) | (with_reducible refine Fr.same ?_ (Fr.drew _ _)))))); intro v5 w5 hr5 f5 ho5; have g5 : Fr FN U w5 := (by refine Fr.over ?_ f5 ?_; (focus (repeat (first | (with_reducible assumption) | (with_reducible exact Fr.refl _ _) | (with_reducible refine Fr.same ?_ (Fr.alloc _ _ _)) | (with_reducible refine Fr.same ?_ (Fr.drew _ _))))); (focus (intro k e; exact ((show Rw.Row (RF w) 24 2 w4 U.heap.size v4 l from hr4H).low k e).1))); have s0 := g5.cellN c0; have s1 := g5.cellN c1; obtain ⟨a5, c5, e5, hc5, hm5, _⟩ := hr5.slice; subst e5; have hr5H : Hidden (Rw.Row (RF w) 24 2 w5 U.heap.size (.slice a5 (l ++ [x]).length c5) (l ++ [x])) := hr5; clear hr5 hc5 hm5)
      | (refine step_any (R := RF w) rfl _ _ 40 24 (.agg #[.string ⟨#[]⟩, .slice none 0 0]) 2 40 Tryz.underlying40 info_if rfl (by decide) rfl U.heap.size (.slice (some ⟨_, 0, none⟩) 0 0) [] l news lo l.length lc rfl ?_ rfl rfl hch hnil ?_ hone ?_ ?_ ?_ ?_; (focus (refine Rw.Row.new _ _ 2 _ _ _ ?_ ?_; (focus (first | (exact Nat.le_refl _) | omega)); (focus (first | (with_reducible exact h11 _ _) | (with_reducible exact h21 _ _ _) | (with_reducible exact h22 _ _ _))))); (focus (intro ad had j u hj; refine Fr.cellN (w := U) ?_ ((show ∀ ad, lo = some ad → ∀ (j : Nat) (u : Value), news[j]? = some u → U.cell? (ad.add j) = some u from hnw) ad had j u hj); (repeat (first | (with_reducible assumption) | (with_reducible exact Fr.refl _ _) | (with_reducible refine Fr.same ?_ (Fr.alloc _ _ _)) | (with_reducible refine Fr.same ?_ (Fr.drew _ _)))))); (focus (have : (l.length + 1) * 40 ≤ 140737488355328 := hsH; simp [maxLen]; omega)); (focus (have : (l.length + 1) * 40 ≤ 140737488355328 := hsH; simp; omega)); (focus (refine Fr.size (S := fun _ => False) ?_; (repeat (first | (with_reducible assumption) | (with_reducible exact Fr.refl _ _) | (with_reducible refine Fr.same ?_ (Fr.alloc _ _ _)) | (with_reducible refine Fr.same ?_ (Fr.drew _ _)))))); intro v4 w4 hr4 f4 ho4; rw [List.nil_append] at hr4; have g4 : Fr FN U w4 := (by refine Fr.over ?_ f4 ?_; (focus (repeat (first | (with_reducible assumption) | (with_reducible exact Fr.refl _ _) | (with_reducible refine Fr.same ?_ (Fr.alloc _ _ _)) | (with_reducible refine Fr.same ?_ (Fr.drew _ _))))); (focus (intro k e; rw [own_is] at e; injection e with e; omega))); have q0 := g4.cellN c0; have q1 := g4.cellN c1; (try (have hX0 := keepX (g := U.heap.size) (o := (.cells #[ct x.name, .slice xo x.items.length xc] 24 (0, 0))) f4 ho4 (by (first | (with_reducible exact h11 _ _) | (with_reducible exact h21 _ _ _) | (with_reducible exact h22 _ _ _)); done) (fun e => by rw [own_is] at e; injection e with e; omega))); (try (have hX1 := keepX (g := U.heap.size + 1) (o := (.cells #[ct x.name, .slice xo x.items.length xc] 24 (0, 0))) f4 ho4 (by (first | (with_reducible exact h11 _ _) | (with_reducible exact h21 _ _ _) | (with_reducible exact h22 _ _ _)); done) (fun e => by rw [own_is] at e; injection e with e; omega))); have n40 : w4.heap.size ≠ w.heap.size + 1 := World.new_ne w4 _ q0; have hr4H : Hidden (Rw.Row (RF w) 24 2 w4 U.heap.size v4 l) := hr4; clear hr4)
      )
    all_goals go_wp2_with fail
    all_goals go_meet
    all_goals exact ⟨by simpa using (show Rw.Row (RF w) _ 2 _ _ _ _ from hr5H), g5⟩
  case rest =>
  obtain ⟨hrow, fUc⟩ := hcut
  have fwc : Fr FN w wc := ((show Fr FN w W0 from f0H).same fU).same fUc
  have f0c : Fr FN W0 wc := fU.same fUc
  obtain ⟨yo, yc, hyv, hy1, hy2, hy3⟩ := row_fcl hrow fwc
  subst hyv
  have kY2 : ∀ u, Fr FN wc u → Calls Tryz.prog 13 #[.agg #[ct m.name, .slice ao m.imports.length cap, .slice aod m.decls.length capd], .slice yo (l ++ [x]).length yc] u fun e w' => ∃ fo fc f, e = .returned (.tuple #[.agg #[ct f.name, .slice fo f.items.length fc], ci (exP m (l ++ [x])).1, ci (exP m (l ++ [x])).2]) ∧ Ty.ItL w' fo fc f.items ∧ IsF m (l ++ [x]) f ∧ Fr FN u w' := fun u hu => kY u yo yc (fwc.same hu) hy1 hy2 (hy3.imp id fun ⟨b, off, e, h⟩ => ⟨b, off, e, fun i y hy => by
    obtain ⟨ap, cp, q1, q2, q3⟩ := h i y hy
    exact ⟨ap, cp, q1.keep hu, hu.cellN q2, hu.cellN q3⟩⟩)
  have kY2H : Hidden (∀ u, Fr FN wc u → Calls Tryz.prog 13 #[.agg #[ct m.name, .slice ao m.imports.length cap, .slice aod m.decls.length capd], .slice yo (l ++ [x]).length yc] u fun e w' => ∃ fo fc f, e = .returned (.tuple #[.agg #[ct f.name, .slice fo f.items.length fc], ci (exP m (l ++ [x])).1, ci (exP m (l ++ [x])).2]) ∧ Ty.ItL w' fo fc f.items ∧ IsF m (l ++ [x]) f ∧ Fr FN u w') := kY2
  have hL2 : (l ++ [x]).length ≤ 9223372036854775807 := by have : (l.length + 1) * 40 ≤ 140737488355328 := hsH; simp; omega
  have hyc : yc ≤ 9223372036854775807 := by unfold maxLen at hy2; omega
  have hL0 : l.length ≤ 9223372036854775807 := by omega
  obtain ⟨L, hL⟩ : ∃ L, (l ++ [x]).length = L := ⟨_, rfl⟩
  rw [hL] at kY2H hL2 hy1
  have hLH : Hidden ((l ++ [x]).length = L) := hL
  have fwcH : Hidden (Fr FN w wc) := fwc
  have f0cH : Hidden (Fr FN W0 wc) := f0c
  have fUcH : Hidden (Fr FN U wc) := fUc
  rw [show (l ++ [x]).length = L from hL]
  clear kY kY2 hrow hy3 hy2 fU fUc fwc f0c hL c0 c1 hch hone hch1 hone1 hnw hnwH
  go_wp2_with fail
  go_loopg [11, 12] l.length (fun g bv iv wr => ∃ j : Nat, iv = ci (j : Int) ∧ j ≤ l.length ∧ g = l.length - j ∧ bv = .bool ((l.take j).any (fun f => f.name == x.name)) ∧ Fr FN wc wr)
  case atStart => exact ⟨0, rfl, by omega, rfl, rfl, Fr.refl _ _⟩
  case round =>
    obtain ⟨j, rfl, hj, hgk, rfl, hfr⟩ := hrel
    have hgkH : Hidden (gk = l.length - j) := hgk
    have hfrH : Hidden (Fr FN wc wr) := hfr
    obtain ⟨x0, x1⟩ := (show ∀ u, Fr FN W0 u → _ from boxXH) wr ((show Fr FN W0 wc from f0cH).same hfr)
    obtain ⟨y0, y1, y2⟩ := (show ∀ u, Fr FN W0 u → _ from boxMH) wr ((show Fr FN W0 wc from f0cH).same hfr)
    clear hgk
    by_cases hjl : j < l.length
    · obtain ⟨y, hy⟩ : ∃ y, l[j]? = some y := ⟨l[j], List.getElem?_eq_getElem hjl⟩
      obtain ⟨b, off, hb, d0⟩ : ∃ b off, lo = some ⟨b, off, none⟩ ∧ wr.cell? ⟨b, off + j * 2, none⟩ = some (ct y.name) := by
        rcases (show l = [] ∨ _ from h3H) with h0 | ⟨b, off, e, h⟩
        · rw [h0] at hjl; simp at hjl
        · obtain ⟨_, _, _, q2, _⟩ := h j y hy
          exact ⟨b, off, e, ((show Fr FN w wc from fwcH).same hfr).cellN q2⟩
      have htk : Hidden ((l.take (j + 1)).any (fun f => f.name == x.name) = ((l.take j).any (fun f => f.name == x.name) || (y.name == x.name))) := by
        show _ = _
        rw [take_snoc hy]; simp
      clear hy hfr
      subst hb
      cases hB : (l.take j).any (fun f => f.name == x.name)
      · by_cases hyx : y.name = x.name
        · rw [hyx] at d0
          go_wp2_with fail
          go_quiet (fail)
          go_wp2_with fail
          go_roundg (l.length - (j + 1))
          case measure => have : gk = l.length - j := hgkH; omega
          case rel => exact ⟨j + 1, by go_num, by omega, rfl, by rw [(show (l.take (j + 1)).any _ = _ from htk), hB, hyx]; simp, Ty.drewN_fr (show Fr FN wc wr from hfrH) _⟩
        · have hne : (y.name == x.name) = false := by simpa using hyx
          go_wp2_with fail
          go_quiet (fail)
          go_wp2_with fail
          go_roundg (l.length - (j + 1))
          case measure => have : gk = l.length - j := hgkH; omega
          case rel => exact ⟨j + 1, by go_num, by omega, rfl, by rw [(show (l.take (j + 1)).any _ = _ from htk), hB, hne]; simp, Ty.drewN_fr (show Fr FN wc wr from hfrH) _⟩
      · go_wp2_with fail
        go_quiet (fail)
        go_wp2_with fail
        go_roundg (l.length - (j + 1))
        case measure => have : gk = l.length - j := hgkH; omega
        case rel => exact ⟨j + 1, by go_num, by omega, rfl, by rw [(show (l.take (j + 1)).any _ = _ from htk), hB]; simp, Ty.drewN_fr (show Fr FN wc wr from hfrH) _⟩
    · obtain rfl : j = l.length := by omega
      rw [List.take_length]
      obtain ⟨TH, hTH⟩ : ∃ b, l.any (fun f => f.name == x.name) = b := ⟨_, rfl⟩
      rw [hTH]
      have hTHH : Hidden (l.any (fun f => f.name == x.name) = TH) := hTH
      obtain ⟨wa, hwa⟩ : ∃ wa, wa = wr := ⟨wr, rfl⟩
      rw [← hwa] at hfrH x0 x1 y0 y1 y2 ⊢
      clear hTH hfr hwa hgkH
      go_wp2_with fail
      go_loopg [13, 14] m.imports.length (fun g bv iv wr => ∃ j : Nat, iv = ci (j : Int) ∧ j ≤ m.imports.length ∧ g = m.imports.length - j ∧ bv = .bool ((m.imports.take j).any (fun s => s == x.name)) ∧ Fr FN wc wr)
      case atStart => exact ⟨0, rfl, by omega, rfl, rfl, hfrH⟩
      case round =>
        obtain ⟨j, rfl, hj, hgk, rfl, hfr⟩ := hrel
        have hgkH : Hidden (gk = m.imports.length - j) := hgk
        have hfrH2 : Hidden (Fr FN wc wr) := hfr
        clear x0 x1 y0 y1 y2 hgk
        obtain ⟨x0, x1⟩ := (show ∀ u, Fr FN W0 u → _ from boxXH) wr ((show Fr FN W0 wc from f0cH).same hfr)
        obtain ⟨y0, y1, y2⟩ := (show ∀ u, Fr FN W0 u → _ from boxMH) wr ((show Fr FN W0 wc from f0cH).same hfr)
        by_cases hjl : j < m.imports.length
        · obtain ⟨y, hy⟩ : ∃ y, m.imports[j]? = some y := ⟨m.imports[j], List.getElem?_eq_getElem hjl⟩
          obtain ⟨b, off, hb, d0⟩ : ∃ b off, ao = some ⟨b, off, none⟩ ∧ wr.cell? ⟨b, off + j, none⟩ = some (ct y) := by
            rcases (show SvL w ao cap m.imports from hiH).2.2 with h0 | ⟨b, off, e, h⟩
            · rw [h0] at hjl; simp at hjl
            · exact ⟨b, off, e, ((show Fr FN w wc from fwcH).same hfr).cellN (h j y hy)⟩
          have htk : Hidden ((m.imports.take (j + 1)).any (fun s => s == x.name) = ((m.imports.take j).any (fun s => s == x.name) || (y == x.name))) := by
            show _ = _
            rw [take_snoc hy]; simp
          subst hb
          clear hy hfr
          cases hB : (m.imports.take j).any (fun s => s == x.name)
          · by_cases hyx : y = x.name
            · rw [hyx] at d0
              go_wp2_with fail
              go_quiet (fail)
              go_wp2_with fail
              go_roundg (m.imports.length - (j + 1))
              case measure => have : gk = m.imports.length - j := hgkH; omega
              case rel => exact ⟨j + 1, by go_num, by omega, rfl, by rw [(show (m.imports.take (j + 1)).any _ = _ from htk), hB, hyx]; simp, Ty.drewN_fr (show Fr FN wc wr from hfrH2) _⟩
            · have hne : (y == x.name) = false := by simpa using hyx
              go_wp2_with fail
              go_quiet (fail)
              go_wp2_with fail
              go_roundg (m.imports.length - (j + 1))
              case measure => have : gk = m.imports.length - j := hgkH; omega
              case rel => exact ⟨j + 1, by go_num, by omega, rfl, by rw [(show (m.imports.take (j + 1)).any _ = _ from htk), hB, hne]; simp, Ty.drewN_fr (show Fr FN wc wr from hfrH2) _⟩
          · go_wp2_with fail
            go_quiet (fail)
            go_wp2_with fail
            go_roundg (m.imports.length - (j + 1))
            case measure => have : gk = m.imports.length - j := hgkH; omega
            case rel => exact ⟨j + 1, by go_num, by omega, rfl, by rw [(show (m.imports.take (j + 1)).any _ = _ from htk), hB]; simp, Ty.drewN_fr (show Fr FN wc wr from hfrH2) _⟩
        · obtain rfl : j = m.imports.length := by omega
          rw [List.take_length]
          obtain ⟨IM, hIM⟩ : ∃ b, m.imports.any (fun s => s == x.name) = b := ⟨_, rfl⟩
          rw [hIM]
          by_cases hgo : IM = true ∧ TH = false
          · obtain ⟨rfl, rfl⟩ := hgo
            clear hIM hfr hgkH
            go_wp2_with fail
            go_ret
            exact ⟨rfl, (show Fr FN w wc from fwcH).same hfrH2⟩
          · have hmore : x.name ∈ m.imports → ∃ f ∈ l, f.name = x.name := fun h => by
              have h1 : IM = true := by rw [← hIM, List.any_eq_true]; exact ⟨_, h, by simp⟩
              have h2 : TH = true := by
                cases TH with
                | true => rfl
                | false => exact absurd ⟨h1, rfl⟩ hgo
              have h3 := (show l.any (fun f => f.name == x.name) = TH from hTHH)
              rw [h2, List.any_eq_true] at h3
              obtain ⟨f, hf, e⟩ := h3
              exact ⟨f, hf, by simpa using e⟩
            have kZ := (show ∀ u, Fr FN wc u → _ from kY2H) wr hfr
            rw [exP_more hmore] at kZ
            have hmoreH : Hidden (x.name ∈ m.imports → ∃ f ∈ l, f.name = x.name) := hmore
            have hbit : IM = false ∨ (IM = true ∧ TH = true) := by
              cases IM with
              | false => exact Or.inl rfl
              | true => cases TH with
                | true => exact Or.inr ⟨rfl, rfl⟩
                | false => exact absurd ⟨rfl, rfl⟩ hgo
            obtain ⟨P, hP⟩ : ∃ P, (exP m l).1 = P := ⟨_, rfl⟩
            obtain ⟨E, hE⟩ : ∃ E, (exP m l).2 = E := ⟨_, rfl⟩
            rw [hP, hE] at kZ ⊢
            clear hIM hgkH hmore hgo hP hE
            rcases hbit with rfl | ⟨rfl, rfl⟩
            all_goals go_wp2_with fail
            all_goals go_at_call 13
            all_goals refine Calls.mono kZ ?_
            all_goals rintro e w7 ⟨go, gc, g, rfl, hg7, isg, f7⟩
            all_goals have gcm : gc ≤ 9223372036854775807 := by have := hg7.2.1; unfold maxLen at this; omega
            all_goals have gcn := hg7.1
            all_goals have f7c : Fr FN wc w7 := (show Fr FN wc wr from hfrH2).same f7
            all_goals have fb := Fr.alloc FN w7 (.cells #[ct g.name, .slice go g.items.length gc] 24)
            all_goals have fUb := ((show Fr FN U wc from fUcH).same f7c).same fb
            all_goals have kS2 := kS _ f g fo go fc gc ((show Ty.ItL U fo fc f.items from hfUH).keep fUb) (hg7.keep fb) (isF_more hmoreH isfH isg)
            all_goals obtain ⟨z0, z1⟩ := Ty.box2 (fUb.heap (show U.heap[w2.heap.size]? = _ from hUbH) (fun f => f))
            all_goals have gF : Hidden (Fr FN w (w7.alloc (.cells #[ct g.name, .slice go g.items.length gc] 24))) := ((show Fr FN w wc from fwcH).same f7c).same fb
            all_goals clear kS kZ hg7 isg f7 f7c fb fUb hfr x0 x1 y0 y1 y2
            all_goals go_wp2_with fail
            all_goals go_at_call 11
            all_goals refine Calls.mono kS2 ?_
            all_goals rintro e w8 ⟨rfl, f8⟩
            all_goals go_wp2_with fail
            all_goals go_ret
            all_goals exact ⟨rfl, (show Fr FN w _ from gF).same f8⟩
end Go.Proofs.YtpjahcncknccdaaGreat.Fo.Ic
namespace Go.Proofs.YtpjahcncknccdaaGreat.ifaceImports
open Go.RowKit Te
theorem walkB (v : Value) (m : Mo) (lv : Value) (l : List Ty.Fc) (xv : Value) (x : Ty.Fc) (W : World) (hm : MoI W m v) (om : OkM m) (hl : Fo.FcL W lv l) (okl : ∀ f ∈ l, Fo.OkF f) (hs : l.length * 40 ≤ 140737488351232 ∧ ∀ cap, lv = .slice none l.length cap → cap = 0) (hx : Ty.FcI W x xv) (okx : Ty.OkN x.name ∧ ∀ p ∈ x.items, Ty.OkI p) (_hsx : x.items.length ≤ 2199023255552 ∧ ∀ i ∈ x.items, i.params.length ≤ 17592186044416) :
    Calls Tryz.prog 6 #[v, lv, xv] W fun e w' => e = .returned (.bool true) ∧ Fr (fun _ => False) W w' := by
  obtain ⟨ao, cap, aod, capd, rfl, hi, hd⟩ := hm
  obtain ⟨lo, lc, rfl, a1, a2, a3⟩ := hl
  obtain ⟨xo, xc, rfl, hxi⟩ := hx
  obtain ⟨news, h1, h2, h3⟩ : ∃ news, Rw.Chunks (Fo.Ic.RF W) 2 l news ∧ (∀ u ∈ news, u.oneCell' = true) ∧ ∀ ad, lo = some ad → ∀ (j : Nat) (u : Value), news[j]? = some u → W.cell? (ad.add j) = some u := by
    rcases a3 with h0 | ⟨b, off, e, h⟩
    · subst h0
      exact ⟨[], rfl, by simp, fun _ _ j u hu => by simp at hu⟩
    · obtain ⟨news, h1, h2, h3⟩ := Fo.Ic.chunks_fc W b l off h
      refine ⟨news, h1, h3, fun ad e2 j u hu => ?_⟩
      rw [e] at e2
      cases e2
      rw [Addr.add_lit]
      exact h2 j u hu
  refine Fo.Ic.imports_some m ao cap aod capd l lo lc x xo xc W ⟨ao, cap, aod, capd, rfl, hi, hd⟩ om a1 a2 a3 (fun f hf => ⟨(okl f hf).name, (okl f hf).items⟩) hxi okx (by have := hs.1; omega) news h1 h2 (fun e => ?_) h3
  subst e
  refine ⟨?_, hs.2 lc rfl⟩
  rcases a3 with h0 | ⟨b, off, e, _⟩
  · rw [h0]; rfl
  · cases e
end Go.Proofs.YtpjahcncknccdaaGreat.ifaceImports
