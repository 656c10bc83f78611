/- IfaceOrder. -/
import Derived.Test.YtpjahcncknccdaaGreatIcX
import Derived.Test.YtpjahcncknccdaaGreatIcV
import Derived.Test.YtpjahcncknccdaaGreatIcIn
import Derived.Test.YtpjahcncknccdaaGreatTrIn
import Derived.Deep.DeepCutAuto
import Derived.Deep.RegionHeld3
namespace Go.Proofs.YtpjahcncknccdaaGreat.Fo.Ic
open Go.RowKit Te
set_option linter.unusedSimpArgs false
set_option linter.unusedVariables false
set_option maxRecDepth 20000

theorem u11 (w : World) (a : Obj) : (w.alloc a).drew.heap[w.heap.size]? = some a := alloc_new w a
theorem u21 (w : World) (a b : Obj) : ((w.alloc a).alloc b).drew.heap[w.heap.size]? = some a := j21 w a b
theorem u22 (w : World) (a b : Obj) : ((w.alloc a).alloc b).drew.heap[w.heap.size + 1]? = some b := j22 w a b
theorem keepY {cur w' : World} {A v : Value} {g : Nat} {o : Obj} (f : Fr (fun k => A.ownBlock = some k) cur w') (ho : v.ownBlock = A.ownBlock ∨ v.ownBlock = some cur.heap.size) (hx : cur.heap[g]? = some o) (hne : ¬ A.ownBlock = some g) : w'.heap[g]? = some o ∧ ¬ v.ownBlock = some g := by
  refine ⟨f.heap hx hne, fun e => ?_⟩
  rcases ho with h | h
  · rw [h] at e; exact hne e
  · rw [h] at e
    injection e with e
    have := lt_of_heap hx
    omega
theorem own_at (g off n c : Nat) : (Value.slice (some ⟨g, off, none⟩) n c).ownBlock = some g := rfl
theorem one_de {W : World} : ∀ (ys : List De) (cs : List Value), Rw.Chunks (Rw.RD W) 7 ys cs → ∀ u ∈ cs, u.oneCell' = true
  | [], cs, h, u, hu => by
    obtain rfl : cs = [] := h
    simp at hu
  | d :: l, cs, ⟨c, rest, e, h1, ⟨pv, ev, bv, h2, h3⟩, h4⟩, u, hu => by
    subst e h3
    rcases List.mem_append.1 hu with hu | hu
    · obtain ⟨ao1, cap1, ao2, cap2, ao3, cap3, rfl, rfl, rfl, _⟩ := h2
      simp only [deC, List.mem_cons, List.not_mem_nil, or_false] at hu
      rcases hu with rfl | rfl | rfl | rfl | rfl | rfl | rfl <;> rfl
    · exact one_de l rest h4 u hu
/-- A row that is appended: it lies nowhere, or its cells are there. -/
theorem src_row {α : Type} {R : α → List Value → Prop} {e : TypeId} {size : Nat} {w : World} {B : Nat} {v : Value} {ys : List α} (h : Rw.Row R e size w B v ys) : (v = .slice none 0 0 ∧ ys = []) ∨ ∃ g cap cy, v = .slice (some ⟨g, 0, none⟩) ys.length cap ∧ Rw.Chunks R size ys cy ∧ ∀ (j : Nat) (u : Value), cy[j]? = some u → w.cell? ((⟨g, 0, none⟩ : Addr).add j) = some u := by
  obtain ⟨cy, h1, h2⟩ := h
  rcases h1.2 with ⟨hv, h0⟩ | ⟨g, cap, cur, hv, _, hg, hnc, hcm, hcs, ht⟩
  · exact Or.inl ⟨hv, List.eq_nil_of_length_eq_zero h0⟩
  · refine Or.inr ⟨g, cap, cy, hv, h2, fun j u hu => ?_⟩
    rw [Addr.add_lit, Nat.zero_add, cell_of_row w g j cur _ (0, 0) hg]
    rw [← ht, List.getElem?_take] at hu
    split at hu
    · simpa using hu
    · cases hu
theorem wpl_rowD {W w : World} {ops : Array Oper} {rest : List Oper} {o : Oper} {a : Act} {Q : Exit → Act → World → Prop} (hgd : o.guard = none) (s x : Operand)
    (ho : o.op = .call { callee := .builtin .append, args := #[s, x], argTypes := #[37, 37] }) (B : Nat) (v : Value) (l ys : List De) (vy : Value) (B2 : Nat)
    (hs : a.eval s = v) (hr : Rw.Row (Rw.RD W) 49 7 w B v l) (hx : a.eval x = vy) (hy : Rw.Row (Rw.RD W) 49 7 w B2 vy ys)
    (hm : l.length + ys.length ≤ 256) (hB : B ≤ w.heap.size)
    (h : ∀ v' w', Rw.Row (Rw.RD W) 49 7 w' B v' (l ++ ys) → Fr (fun b => v.ownBlock = some b) w w' → (v'.ownBlock = v.ownBlock ∨ v'.ownBlock = some w.heap.size) → wpList Tryz.prog ops Q rest (a.put o.dst v') w') : wpList Tryz.prog ops Q (o :: rest) a w := by
  rcases src_row hy with ⟨rfl, rfl⟩ | ⟨g, cap, cy, rfl, hc, hcell⟩
  · obtain ⟨cells, hr1, hr2⟩ := hr
    refine wpList_plain hgd fun K hK => ?_
    obtain ⟨i, hi⟩ := Option.isSome_iff_exists.1 (show (Tryz.prog.info? 49).isSome = true by kernel_rfl)
    have hrun := run_append_owned_none (P := Tryz.prog) (w := w) B 37 o.type 49 i 7 Tryz.underlying37 hi v l.length cells hr1
    unfold Oper.wp
    simp [execOp, ho, resolve, invoke, builtin, hs, hx, hrun, Result.andThen]
    exact hK _ _ (h v w ⟨cells, by rw [List.append_nil]; exact hr1, by rw [List.append_nil]; exact hr2⟩ (Fr.refl _ _) (Or.inl rfl))
  · obtain ⟨cells, hr1, hr2⟩ := hr
    refine wpl_append hgd s x 37 49 _ 7 112 Tryz.underlying37 Rw.info_de rfl (by decide) ho B v l.length cells ⟨g, 0, none⟩ ys.length cap cy hs hr1 hx hc.len hcell (one_de ys cy hc) (by unfold maxLen; omega) (by omega) hB ?_
    intro v' w' h1 h2 h3
    exact h v' w' ⟨cells ++ cy, by rw [List.length_append]; exact h1, hr2.app hc⟩ h2 h3
theorem step_rowD {W w : World} {ops : Array Oper} {o : Oper} {a : Act} {K : Act → World → Prop} {Q : Exit → Act → World → Prop} {E : Prop} (hgd : o.guard = none) (s x : Operand)
    (ho : o.op = .call { callee := .builtin .append, args := #[s, x], argTypes := #[37, 37] }) (B : Nat) (v : Value) (l ys : List De) (vy : Value) (B2 : Nat)
    (hs : a.eval s = v) (hr : Rw.Row (Rw.RD W) 49 7 w B v l) (hx : a.eval x = vy) (hy : Rw.Row (Rw.RD W) 49 7 w B2 vy ys)
    (hm : l.length + ys.length ≤ 256) (hB : B ≤ w.heap.size)
    (h : ∀ v' w', Rw.Row (Rw.RD W) 49 7 w' B v' (l ++ ys) → Fr (fun b => v.ownBlock = some b) w w' → (v'.ownBlock = v.ownBlock ∨ v'.ownBlock = some w.heap.size) → K (a.put o.dst v') w') : if Region.wanted o (yielded ops a.tmps) = true then Oper.wp Tryz.prog o a w K Q else E := by
  rcases src_row hy with ⟨rfl, rfl⟩ | ⟨g, cap, cy, rfl, hc, hcell⟩
  · exact Rw.step_none hgd s x 37 49 7 Tryz.underlying37 (by kernel_rfl) ho B v l hs hr hx (h v w (by rw [List.append_nil]; exact hr) (Fr.refl _ _) (Or.inl rfl))
  · exact Rw.step_rows hgd s x 37 49 _ 7 112 Tryz.underlying37 Rw.info_de rfl (by decide) ho B v l ys cy ⟨g, 0, none⟩ ys.length cap hs hr hx rfl hc hcell (one_de ys cy hc) (by unfold maxLen; omega) (by omega) hB h
theorem row_lit {W w : World} {B g : Nat} {d : De} {pv ev bv : Value} (hB : B ≤ g) (hd : DeI W d pv ev bv) (hg : w.heap[g]? = some (.cells #[ci d.kind, .bool d.ex, ct d.name, ci d.type, pv, ev, bv] 49 (0, 0))) : Rw.Row (Rw.RD W) 49 7 w B (.slice (some ⟨g, 0, none⟩) 1 1) [d] :=
  ⟨deC d pv ev bv, ⟨by simp [deC], Or.inr ⟨g, 1, _, rfl, hB, hg, by simp, by simp [maxLen], by simp, by simp [deC]⟩⟩, ⟨deC d pv ev bv, [], by simp, rfl, ⟨pv, ev, bv, hd, rfl⟩, rfl⟩⟩
/-- A module in a box of its own. -/
def BxM (V : World) (name : Bs) (iv : Value) (l : List De) (p : Value) (wx : World) : Prop := ∃ g a c, p = .pointer (some ⟨g, 0, none⟩) ∧ wx.heap[g]? = some (.cells #[ct name, iv, .slice a l.length c] 39 (0, 0)) ∧ DeL wx a c l ∧ Fr FN V wx ∧ V.heap.size ≤ g
theorem bxm_new {W V w5 : World} {B : Nat} {name : Bs} {iv : Value} {l : List De} {a : Option Addr} {c n : Nat} (hW : Fr FN W V) (hr : Rw.Row (Rw.RD W) 49 7 w5 B (.slice a n c) l) (hn : n = l.length) (g5 : Fr FN V w5) :
    BxM V name iv l (.pointer (some ⟨w5.heap.size, 0, none⟩)) (w5.alloc (.cells #[ct name, iv, .slice a n c] 39 (0, 0))) := by
  subst hn
  obtain ⟨a', c', e, hd⟩ := hr.deL (hW.same g5)
  simp only [Value.slice.injEq, true_and] at e
  obtain ⟨rfl, rfl⟩ := e
  exact ⟨_, a, c, rfl, alloc_new _ _, hd.keep (Fr.alloc _ _ _), g5.same (Fr.alloc _ _ _), g5.size⟩
theorem bxm_old {W V w5 : World} {B g : Nat} {name : Bs} {iv x y z : Value} {l : List De} {a : Option Addr} {c n : Nat} (hW : Fr FN W V) (hr : Rw.Row (Rw.RD W) 49 7 w5 B (.slice a n c) l) (hn : n = l.length) (g5 : Fr FN V w5) (hY : w5.heap[g]? = some (.cells #[x, y, z] 39 (0, 0)) ∧ ¬ (Value.slice a n c).ownBlock = some g) (hg : V.heap.size ≤ g) :
    BxM V name iv l (.pointer (some ⟨g, 0, none⟩)) (((w5.setCell ⟨g, 0, none⟩ (ct name)).setCell ⟨g, 1, none⟩ iv).setCell ⟨g, 2, none⟩ (.slice a n c)) := by
  subst hn
  have gF := g5.over (fr3 w5 g (ct name) iv (.slice a l.length c)) (fun k e => by have e : k = g := e; omega)
  obtain ⟨a', c', e, hd⟩ := (hr.keep (fr3 w5 g (ct name) iv (.slice a l.length c)) (fun k hk e => hY.2 (by rw [hk, e]))).deL (hW.same gF)
  simp only [Value.slice.injEq, true_and] at e
  obtain ⟨rfl, rfl⟩ := e
  exact ⟨g, a, c, rfl, set3 hY.1 _ _ _, hd, gF, hg⟩
set_option maxHeartbeats 8000000 in
theorem order_any (m : Mo) (ao : Option Addr) (cap : Nat) (ad : Option Addr) (capd : Nat) (l : List Ty.Fc) (lo : Option Addr) (lc : Nat) (seed : Int) (w : World) (hm : MoI w m (moV m ao cap ad capd)) (om : OkM m)
    (h1 : l.length ≤ lc) (h2 : lc ≤ maxLen) (h3 : l = [] ∨ ∃ b off, lo = some ⟨b, off, none⟩ ∧ ∀ (i : Nat) (x : Ty.Fc), l[i]? = some x → LayF w b (off + i * 2) x) (okl : ∀ f ∈ l, Ty.OkN f.name ∧ ∀ i ∈ f.items, Ty.OkI i) :
    Calls Tryz.prog 5 #[moV m ao cap ad capd, .slice lo l.length lc, ci seed] w fun e w' => e = .returned (.bool true) ∧ Fr FN w w' := by
  obtain ⟨_, _, _, _, e, hi, hd⟩ := id hm
  cases e
  have m1 : cap ≤ 9223372036854775807 := by have := hi.2.1; unfold maxLen at this; omega
  have m2 : capd ≤ 9223372036854775807 := by have := hd.2.1; unfold maxLen at this; omega
  have n1 := hi.1
  have n2 := hd.1
  have h3k : ∀ u, Fr FN w u → l = [] ∨ ∃ b off, lo = some ⟨b, off, none⟩ ∧ ∀ (i : Nat) (x : Ty.Fc), l[i]? = some x → LayF u b (off + i * 2) x := fun u hu => h3.imp id fun ⟨b, off, e, h⟩ => ⟨b, off, e, fun i y hy => by
    obtain ⟨ap, cp, q1, q2, q3⟩ := h i y hy
    exact ⟨ap, cp, q1.keep hu, hu.cellN q2, hu.cellN q3⟩⟩
  have kX : ∀ u, Fr FN w u → Calls Tryz.prog 13 #[.agg #[ct m.name, .slice ao m.imports.length cap, .slice ad m.decls.length capd], .slice lo l.length lc] u fun e w' => ∃ fo fc f, e = .returned (.tuple #[.agg #[ct f.name, .slice fo f.items.length fc], ci (exP m l).1, ci (exP m l).2]) ∧ Ty.ItL w' fo fc f.items ∧ IsF m l f ∧ Fr FN u w' := fun u hu => (extract_any m _ l lo lc u om (hm.keep hu) h1 h2 (h3k u hu) okl).mono fun e w' ⟨fv, f, q1, ⟨fo, fc, q2, q3⟩, q4, q5⟩ => ⟨fo, fc, f, by rw [q1, q2], q3, q4, q5⟩
  have kS : ∀ (u : World) (f g : Ty.Fc) (fo go : Option Addr) (fc gc : Nat), Ty.ItL u fo fc f.items → Ty.ItL u go gc g.items → f = g → Calls Tryz.prog 11 #[.agg #[ct f.name, .slice fo f.items.length fc], .agg #[ct g.name, .slice go g.items.length gc]] u fun e w' => e = .returned (.bool true) ∧ Fr FN u w' := fun u f g fo go fc gc q1 q2 q3 => by
    have := Ty.sameIface_any f g _ _ u ⟨fo, fc, rfl, q1⟩ ⟨go, gc, rfl, q2⟩
    rw [decide_eq_true q3] at this
    exact this
  obtain ⟨W0, hW0⟩ : ∃ W, W = w.alloc (.cells #[ct m.name, .slice ao m.imports.length cap, .slice ad m.decls.length capd] 39) := ⟨_, rfl⟩
  have f0 : Fr FN w W0 := by rw [hW0]; exact Fr.alloc _ _ _
  have hA : W0.heap[w.heap.size]? = some (.cells #[ct m.name, .slice ao m.imports.length cap, .slice ad m.decls.length capd] 39 (0, 0)) := by rw [hW0]; exact alloc_new _ _
  have boxMH : Hidden (∀ u, Fr FN W0 u → u.cell? ⟨w.heap.size, 0, none⟩ = some (ct m.name) ∧ u.cell? ⟨w.heap.size, 1, none⟩ = some (.slice ao m.imports.length cap) ∧ u.cell? ⟨w.heap.size, 2, none⟩ = some (.slice ad m.decls.length capd)) := fun u hu => box3 (hu.heap hA (fun f => f))
  have kL := live_any W0
  have f0H : Hidden (Fr FN w W0) := f0
  have hW0H : Hidden (W0 = _) := hW0
  by_cases hE : (exP m l).2 = 0
  · have hP := exP_zero hE
    obtain ⟨s1, s2, s3⟩ := errM_small (exP_ok hE).1
    have kY : ∀ (b : Bool) u (yo : Option Addr) (yc : Nat), Fr FN w u → DeL u yo yc (ordD b m.decls) → Calls Tryz.prog 13 #[.agg #[ct m.name, .slice ao m.imports.length cap, .slice yo (ordD b m.decls).length yc], .slice lo l.length lc] u fun e w' => ∃ fo fc f, e = .returned (.tuple #[.agg #[ct f.name, .slice fo f.items.length fc], ci 0, ci 0]) ∧ Ty.ItL w' fo fc f.items ∧ IsF (ordM b m) l f ∧ Fr FN u w' := fun b u yo yc hu hdl => (extract_any (ordM b m) _ l lo lc u (ok_ord b om) ⟨ao, cap, yo, yc, rfl, hi.keep hu, hdl⟩ h1 h2 (h3k u hu) okl).mono fun e w' ⟨fv, f, q1, ⟨fo, fc, q2, q3⟩, q4, q5⟩ => ⟨fo, fc, f, by rw [q1, q2, ord_exP b hE], q3, q4, q5⟩
    have hone : Hidden (∀ b f g, IsF m l f → IsF (ordM b m) l g → f = g) := fun b f g q1 q2 => ord_isF b hE q1 q2
    have hdH : Hidden (DeL w ad capd m.decls) := hd
    have s2H : Hidden (m.decls.length ≤ 64) := s2
    rw [hP, hE] at kX
    clear hm om h3 okl hi hd hA f0 hW0 h2 hE hP s1 s2 s3 h3k
    go_enter Tryz.func5, Tryz.ntmps5
    go_wp2_with fail
    rw [← (show W0 = _ from hW0H)]
    go_at_call 7
    refine Calls.mono kL ?_
    rintro e w1 ⟨rfl, f1⟩
    obtain ⟨a0, a1, a2⟩ := (show ∀ u, Fr FN W0 u → _ from boxMH) w1 f1
    have kX1 := kX w1 ((show Fr FN w W0 from f0H).same f1)
    clear kL kX
    go_wp2_with fail
    go_at_call 13
    refine Calls.mono kX1 ?_
    rintro e w2 ⟨fo, fcf, f, rfl, hf2, isf, f2⟩
    have f02 : Fr FN W0 w2 := f1.same f2
    have fcm : fcf ≤ 9223372036854775807 := by have := hf2.2.1; unfold maxLen at this; omega
    have fcn := hf2.1
    obtain ⟨U, hU⟩ : ∃ U, U = w2.alloc (.cells #[ct f.name, .slice fo f.items.length fcf] 24) := ⟨_, rfl⟩
    have fU : Fr FN W0 U := by rw [hU]; exact f02.same (Fr.alloc _ _ _)
    have hUb : U.heap[w2.heap.size]? = some (.cells #[ct f.name, .slice fo f.items.length fcf] 24 (0, 0)) := by rw [hU]; exact alloc_new _ _
    have hfU : Ty.ItL U fo fcf f.items := by rw [hU]; exact hf2.keep (Fr.alloc _ _ _)
    have hUH : Hidden (U = _) := hU
    have fUH : Hidden (Fr FN W0 U) := fU
    have fwUH : Hidden (Fr FN w U) := (show Fr FN w W0 from f0H).same fU
    have hUbH : Hidden (U.heap[w2.heap.size]? = some (.cells #[ct f.name, .slice fo f.items.length fcf] 24 (0, 0))) := hUb
    have hfUH : Hidden (Ty.ItL U fo fcf f.items) := hfU
    have isfH : Hidden (IsF m l f) := isf
    clear hU kX1 hf2 isf f1 f2 f02 a0 a1 a2 hfU hUb fU
    go_wp2_with fail
    rw [← (show U = _ from hUH)]
    go_loopg [10, 11, 12] m.decls.length (fun g fv rv iv wr => ∃ (j : Nat), iv = ci (j : Int) ∧ j ≤ m.decls.length ∧ g = m.decls.length - j ∧ Rw.Row (Rw.RD w) 49 7 wr U.heap.size fv (fnsD (m.decls.take j)) ∧ Rw.Row (Rw.RD w) 49 7 wr U.heap.size rv (restD (m.decls.take j)) ∧ (∀ k, fv.ownBlock = some k → rv.ownBlock ≠ some k) ∧ Fr FN U wr)
    case atStart => exact ⟨0, rfl, by omega, rfl, ⟨[], ⟨by simp [fnsD], Or.inl ⟨rfl, rfl⟩⟩, rfl⟩, ⟨[], ⟨by simp [restD], Or.inl ⟨rfl, rfl⟩⟩, rfl⟩, (fun k hk => by cases hk), Fr.refl _ _⟩
    case round =>
      obtain ⟨j, rfl, hj, hgk, hrF, hrR, hdj, hfr⟩ := hrel
      have hl1 : (fnsD (m.decls.take j)).length ≤ 64 := by
        unfold fnsD
        rw [List.length_reverse]
        exact Nat.le_trans (List.length_filter_le _ _) (by rw [List.length_take]; have : m.decls.length ≤ 64 := s2H; omega)
      have hl2 : (restD (m.decls.take j)).length ≤ 64 := by
        unfold restD
        exact Nat.le_trans (List.length_filter_le _ _) (by rw [List.length_take]; have : m.decls.length ≤ 64 := s2H; omega)
      obtain ⟨FF, hFF⟩ : ∃ F, fnsD (m.decls.take j) = F := ⟨_, rfl⟩
      obtain ⟨RR, hRR⟩ : ∃ F, restD (m.decls.take j) = F := ⟨_, rfl⟩
      rw [hFF] at hrF hl1
      rw [hRR] at hrR hl2
      obtain ⟨fa, fc, hv, hfc, hfm, _⟩ := hrF.slice
      subst hv
      obtain ⟨ra, rc, hv, hrc, hrm, _⟩ := hrR.slice
      subst hv
      have hgkH : Hidden (gk = m.decls.length - j) := hgk
      have hFH : Hidden (FF.length ≤ 64) := hl1
      have hRH : Hidden (RR.length ≤ 64) := hl2
      replace hrF : Hidden (Rw.Row (Rw.RD w) 49 7 wr U.heap.size (.slice fa FF.length fc) FF) := hrF
      replace hrR : Hidden (Rw.Row (Rw.RD w) 49 7 wr U.heap.size (.slice ra RR.length rc) RR) := hrR
      replace hdj : Hidden (∀ k, (Value.slice fa FF.length fc).ownBlock = some k → (Value.slice ra RR.length rc).ownBlock ≠ some k) := hdj
      have hfrH : Hidden (Fr FN U wr) := hfr
      have hFFH : Hidden (fnsD (m.decls.take j) = FF) := hFF
      have hRRH : Hidden (restD (m.decls.take j) = RR) := hRR
      have fww : Fr FN w wr := (show Fr FN w U from fwUH).same hfr
      obtain ⟨a0, a1, a2⟩ := (show ∀ u, Fr FN W0 u → _ from boxMH) wr ((show Fr FN W0 U from fUH).same hfr)
      have mfc : fc ≤ 9223372036854775807 := by unfold maxLen at hfm; omega
      have mrc : rc ≤ 9223372036854775807 := by unfold maxLen at hrm; omega
      clear hgk hl1 hl2 hfr hFF hRR hfm hrm
      by_cases hjl : j < m.decls.length
      · obtain ⟨d, hx⟩ : ∃ d, m.decls[j]? = some d := ⟨m.decls[j], List.getElem?_eq_getElem hjl⟩
        obtain ⟨db, doff, pv, ev, bv, hdb, hdi, hdc⟩ : ∃ b off pv ev bv, ad = some ⟨b, off, none⟩ ∧ DeI w d pv ev bv ∧ ∀ (i : Nat) (x : Value), (deC d pv ev bv)[i]? = some x → w.cell? ⟨b, off + j * 7 + i, none⟩ = some x := by
          rcases (show DeL w ad capd m.decls from hdH).2.2 with h0 | ⟨b, off, e, h0⟩
          · rw [h0] at hjl; simp at hjl
          · obtain ⟨pv, ev, bv, h1, h2⟩ := h0 j d hx
            exact ⟨b, off, pv, ev, bv, e, h1, h2⟩
        subst hdb
        obtain ⟨p1, q1, p2, q2, p3, q3, rfl, rfl, rfl, hpl, hel, hbo⟩ := hdi
        have d0 := fww.cellN (hdc 0 _ rfl)
        have d1 := fww.cellN (hdc 1 _ rfl)
        have d2 := fww.cellN (hdc 2 _ rfl)
        have d3 := fww.cellN (hdc 3 _ rfl)
        have d4 := fww.cellN (hdc 4 _ rfl)
        have d5 := fww.cellN (hdc 5 _ rfl)
        have d6 := fww.cellN (hdc 6 _ rfl)
        simp only [Nat.add_zero] at d0
        have hnF : Hidden (fnsD (m.decls.take (j + 1)) = if d.kind = 3 then d :: FF else FF) := by show _ = _; rw [take_snoc hx, fnsD_snoc, (show fnsD (m.decls.take j) = FF from hFFH)]
        have hnR : Hidden (restD (m.decls.take (j + 1)) = if d.kind = 3 then RR else RR ++ [d]) := by show _ = _; rw [take_snoc hx, restD_snoc, (show restD (m.decls.take j) = RR from hRRH)]
        have hmH : Hidden (PaL w p1 q1 d.params ∧ ExL w p2 q2 d.e ∧ StL w p3 q3 d.body) := ⟨hpl, hel, hbo⟩
        clear hx hdc hpl hel hbo fww
        obtain ⟨kind, ex, name, type, params, e, body⟩ := d
        simp only at d0 d1 d2 d3 d4 d5 d6 hmH hnF hnR
        by_cases hk3 : kind = 3
        · subst hk3
          have hwa : Hidden (Fr FN wr (wr.alloc (.cells #[ci 3, .bool ex, ct name, ci type, .slice p1 params.length q1, .slice p2 e.len q2, .slice p3 body.len q3] 49 (0, 0)))) := Fr.alloc _ _ _
          have hdi : Hidden (DeI w (⟨3, ex, name, type, params, e, body⟩ : De) (.slice p1 params.length q1) (.slice p2 e.len q2) (.slice p3 body.len q3)) := ⟨p1, q1, p2, q2, p3, q3, rfl, rfl, rfl, (show PaL w p1 q1 params ∧ _ from hmH).1, (show PaL w p1 q1 params ∧ _ from hmH).2.1, (show PaL w p1 q1 params ∧ _ from hmH).2.2⟩
          have hszH : Hidden (U.heap.size ≤ wr.heap.size) := (show Fr FN U wr from hfrH).size
          have hlit : Hidden (Rw.Row (Rw.RD w) 49 7 (wr.alloc (.cells #[ci 3, .bool ex, ct name, ci type, .slice p1 params.length q1, .slice p2 e.len q2, .slice p3 body.len q3] 49 (0, 0))) U.heap.size (.slice (some ⟨wr.heap.size, 0, none⟩) 1 1) [(⟨3, ex, name, type, params, e, body⟩ : De)]) := row_lit hszH hdi (alloc_new _ _)
          have hF4 : Hidden (Rw.Row (Rw.RD w) 49 7 (wr.alloc (.cells #[ci 3, .bool ex, ct name, ci type, .slice p1 params.length q1, .slice p2 e.len q2, .slice p3 body.len q3] 49 (0, 0))) U.heap.size (.slice fa FF.length fc) FF) := (show Rw.Row (Rw.RD w) _ 7 wr _ _ _ from hrF).keep (show Fr FN wr _ from hwa) (fun _ _ f => f)
          go_wp2_with (at_builtin; refine wpl_rowD (W := w) rfl _ _ rfl U.heap.size (.slice (some ⟨wr.heap.size, 0, none⟩) 1 1) [(⟨3, ex, name, type, params, e, body⟩ : De)] FF (.slice fa FF.length fc) U.heap.size rfl hlit rfl hF4 (by have : FF.length ≤ 64 := hFH; simp; omega) (by have : U.heap.size ≤ wr.heap.size := hszH; simp; omega) ?_; intro v5 w5 hr5 f5 ho5)
          have lowR := (show Rw.Row (Rw.RD w) _ 7 wr _ _ _ from hrR).low
          have f5' : Fr FN U w5 := ((show Fr FN U wr from hfrH).same (show Fr FN wr _ from hwa)).over f5 (fun k e => by rw [own_at] at e; injection e with e; have : U.heap.size ≤ wr.heap.size := hszH; omega)
          go_roundg (m.decls.length - (j + 1))
          case measure => have : gk = m.decls.length - j := hgkH; omega
          case rel =>
            have hnF2 : fnsD (m.decls.take (j + 1)) = [(⟨3, ex, name, type, params, e, body⟩ : De)] ++ FF := by have h := (show fnsD _ = _ from hnF); simpa using h
            have hnR2 : restD (m.decls.take (j + 1)) = RR := by have h := (show restD _ = _ from hnR); simpa using h
            refine ⟨j + 1, by go_num, by omega, rfl, by rw [hnF2]; exact hr5, by rw [hnR2]; exact (((show Rw.Row (Rw.RD w) _ 7 wr _ _ _ from hrR).keep (show Fr FN wr _ from hwa) (fun _ _ f => f)).keep f5 (fun k hk e => by rw [own_at] at e; injection e with e; have := (lowR k hk).2; omega)), fun k hk e => ?_, f5'⟩
            have h9 := (lowR k e).2
            rcases ho5 with q | q
            · rw [q, own_at] at hk; injection hk with hk; omega
            · rw [q] at hk; injection hk with hk; simp at hk; omega
        · skip
          have hwa : Hidden (Fr FN wr (wr.alloc (.cells #[ci kind, .bool ex, ct name, ci type, .slice p1 params.length q1, .slice p2 e.len q2, .slice p3 body.len q3] 49 (0, 0)))) := Fr.alloc _ _ _
          have hdi : Hidden (DeI w (⟨kind, ex, name, type, params, e, body⟩ : De) (.slice p1 params.length q1) (.slice p2 e.len q2) (.slice p3 body.len q3)) := ⟨p1, q1, p2, q2, p3, q3, rfl, rfl, rfl, (show PaL w p1 q1 params ∧ _ from hmH).1, (show PaL w p1 q1 params ∧ _ from hmH).2.1, (show PaL w p1 q1 params ∧ _ from hmH).2.2⟩
          have hszH : Hidden (U.heap.size ≤ wr.heap.size) := (show Fr FN U wr from hfrH).size
          have hR4 : Hidden (Rw.Row (Rw.RD w) 49 7 (wr.alloc (.cells #[ci kind, .bool ex, ct name, ci type, .slice p1 params.length q1, .slice p2 e.len q2, .slice p3 body.len q3] 49 (0, 0))) U.heap.size (.slice ra RR.length rc) RR) := (show Rw.Row (Rw.RD w) _ 7 wr _ _ _ from hrR).keep (show Fr FN wr _ from hwa) (fun _ _ f => f)
          have t1 : (kind == 3) = false := by simpa using hk3
          go_wp2_with (at_builtin; have hR4' := hR4; refine wpl_one (R := Rw.RD w) rfl _ _ 37 49 _ 7 112 Tryz.underlying37 Rw.info_de rfl (by decide) rfl U.heap.size (.slice ra RR.length rc) RR ⟨kind, ex, name, type, params, e, body⟩ (deC ⟨kind, ex, name, type, params, e, body⟩ (.slice p1 params.length q1) (.slice p2 e.len q2) (.slice p3 body.len q3)) wr.heap.size 49 rfl hR4' rfl rfl ⟨_, _, _, hdi, rfl⟩ (alloc_new _ _) (fun u hu => by simp only [deC, List.mem_cons, List.not_mem_nil, or_false] at hu; rcases hu with rfl | rfl | rfl | rfl | rfl | rfl | rfl <;> rfl) (by simp only [maxLen]; have : RR.length ≤ 64 := hRH; omega) (by have : RR.length ≤ 64 := hRH; omega) (by have : U.heap.size ≤ wr.heap.size := hszH; simp; omega) ?_; intro v5 w5 hr5 f5 ho5)
          have lowR := (show Rw.Row (Rw.RD w) _ 7 wr _ _ _ from hrR).low
          have lowF := (show Rw.Row (Rw.RD w) _ 7 wr _ _ _ from hrF).low
          have f5' : Fr FN U w5 := ((show Fr FN U wr from hfrH).same (show Fr FN wr _ from hwa)).over f5 (fun k e => (lowR k e).1)
          go_roundg (m.decls.length - (j + 1))
          case measure => have : gk = m.decls.length - j := hgkH; omega
          case rel =>
            refine ⟨j + 1, by go_num, by omega, rfl, by rw [(show fnsD _ = _ from hnF), if_neg hk3]; exact (((show Rw.Row (Rw.RD w) _ 7 wr _ _ _ from hrF).keep (show Fr FN wr _ from hwa) (fun _ _ f => f)).keep f5 (fun k hk e => (show ∀ k, _ from hdj) k hk e)), by rw [(show restD _ = _ from hnR), if_neg hk3]; exact hr5, fun k hk e => ?_, f5'⟩
            rcases ho5 with q | q
            · rw [q] at e; exact (show ∀ k, _ from hdj) k hk e
            · rw [q] at e; injection e with e; have := (lowF k hk).2; simp at e; omega
      · obtain rfl : j = m.decls.length := by omega
        have e1 := (show fnsD (m.decls.take m.decls.length) = FF from hFFH)
        have e2 := (show restD (m.decls.take m.decls.length) = RR from hRRH)
        rw [List.take_length] at e1 e2
        have hoF : Hidden (ordD false m.decls = FF ++ RR) := by show _ = _; unfold ordD; rw [if_neg (by simp), e1, e2]
        have hoT : Hidden (ordD true m.decls = RR ++ FF) := by show _ = _; unfold ordD; rw [if_pos rfl, e1, e2]
        obtain ⟨LL, hLL⟩ : ∃ L, (FF ++ RR).length = L := ⟨_, rfl⟩
        have hLH : Hidden ((FF ++ RR).length = LL) := hLL
        have hLT : Hidden ((RR ++ FF).length = LL) := by show _ = _; rw [← hLL]; simp; omega
        obtain ⟨T, hT⟩ : ∃ T, T = wr := ⟨wr, rfl⟩
        rw [← hT] at hrF hrR hfrH a0 a1 a2 fww ⊢
        have c0 := a0
        have c1 := a1
        have hwT : Hidden (Fr FN w T) := fww
        clear hT hLL e1 e2 hFFH hRRH hgkH a0 a1 fww hdH
        go_upto_region 13 with fail
        go_cut [13] (fun p wx => BxM T m.name (.slice ao m.imports.length cap) (FF ++ RR) p wx)
        case first =>
          clear kY kS
          have hVlt : w.heap.size < T.heap.size := World.block_lt_of_cell? T _ c0
          have mm0 : T.heap.size ≠ w.heap.size := World.new_ne T _ c0
          have mm1 : T.heap.size + 1 ≠ w.heap.size := by omega
          go_region_held3 (fun w' => w'.cell? ⟨w.heap.size, 0, none⟩ = some (ct m.name) ∧ w'.cell? ⟨w.heap.size, 1, none⟩ = some (.slice ao m.imports.length cap)) (first | (refine ⟨by with_reducible assumption, by with_reducible assumption⟩) | (refine ⟨?_, ?_⟩; (focus (refine Fr.cellN (w := T) ?_ c0; (repeat (first | (with_reducible assumption) | (with_reducible exact Fr.refl _ _) | (with_reducible refine Fr.same ?_ (Fr.alloc _ _ _)) | (with_reducible refine Fr.same ?_ (Fr.drew _ _)))); done)); (focus (refine Fr.cellN (w := T) ?_ c1; (repeat (first | (with_reducible assumption) | (with_reducible exact Fr.refl _ _) | (with_reducible refine Fr.same ?_ (Fr.alloc _ _ _)) | (with_reducible refine Fr.same ?_ (Fr.drew _ _)))); done))) | go_keep) (first
            | (have hq := hr4H; refine step_rowD (W := w) rfl _ _ rfl T.heap.size v4 FF RR (.slice ra RR.length rc) U.heap.size rfl ?_ rfl ?_ ?_ ?_ ?_; (focus (refine (show Rw.Row (Rw.RD w) 49 7 w4 T.heap.size v4 FF from hr4H).keep (S := fun _ => False) ?_ (fun _ _ f => f); (repeat (first | (with_reducible assumption) | (with_reducible exact Fr.refl _ _) | (with_reducible refine Fr.same ?_ (Fr.alloc _ _ _)) | (with_reducible refine Fr.same ?_ (Fr.drew _ _)))))); (focus (refine Rw.Row.keep (w := T) hrR (S := fun _ => False) ?_ (fun _ _ f => f); (repeat (first | (with_reducible assumption) | (with_reducible exact Fr.refl _ _) | (with_reducible refine Fr.same ?_ (Fr.alloc _ _ _)) | (with_reducible refine Fr.same ?_ (Fr.drew _ _)))))); (focus (have h1 : FF.length ≤ 64 := hFH; have h2 : RR.length ≤ 64 := hRH; omega)); (focus (refine Fr.size (S := fun _ => False) ?_; (repeat (first | (with_reducible assumption) | (with_reducible exact Fr.refl _ _) | (with_reducible refine Fr.same ?_ (Fr.alloc _ _ _)) | (with_reducible refine Fr.same ?_ (Fr.drew _ _)))))); intro v5 w5 hr5 f5 ho5; have g5 : Fr FN T w5 := (by refine Fr.over ?_ f5 ?_; (focus (repeat (first | (with_reducible assumption) | (with_reducible exact Fr.refl _ _) | (with_reducible refine Fr.same ?_ (Fr.alloc _ _ _)) | (with_reducible refine Fr.same ?_ (Fr.drew _ _))))); (focus (intro k e; exact ((show Rw.Row (Rw.RD w) 49 7 w4 T.heap.size v4 FF from hr4H).low k e).1))); have s0 := g5.cellN c0; have s1 := g5.cellN c1; obtain ⟨a5, c5, e5, hc5, hm5, _⟩ := hr5.slice; rw [(show (FF ++ RR).length = LL from hLH)] at e5; subst e5; (try (have hY := keepY (g := T.heap.size) (o := (.cells #[.string ⟨#[]⟩, .slice none 0 0, .slice none 0 0] 39 (0, 0))) f5 ho5 (by refine Fr.heap (S := fun _ => False) (w := w4) ?_ hX0.1 (fun f => f); (repeat (first | (with_reducible assumption) | (with_reducible exact Fr.refl _ _) | (with_reducible refine Fr.same ?_ (Fr.alloc _ _ _)) | (with_reducible refine Fr.same ?_ (Fr.drew _ _)))); done) hX0.2; obtain ⟨y0, y1, y2⟩ := box3 hY.1; have z0 := Ty.frozen_row hY.1 0; have z1 := Ty.frozen_row hY.1 1; have z2 := Ty.frozen_row hY.1 2)); (try (have hY := keepY (g := T.heap.size + 1) (o := (.cells #[.string ⟨#[]⟩, .slice none 0 0, .slice none 0 0] 39 (0, 0))) f5 ho5 (by refine Fr.heap (S := fun _ => False) (w := w4) ?_ hX1.1 (fun f => f); (repeat (first | (with_reducible assumption) | (with_reducible exact Fr.refl _ _) | (with_reducible refine Fr.same ?_ (Fr.alloc _ _ _)) | (with_reducible refine Fr.same ?_ (Fr.drew _ _)))); done) hX1.2; obtain ⟨y0, y1, y2⟩ := box3 hY.1; have z0 := Ty.frozen_row hY.1 0; have z1 := Ty.frozen_row hY.1 1; have z2 := Ty.frozen_row hY.1 2)); (try (have hY := keepY (g := w4.heap.size) (o := (.cells #[.string ⟨#[]⟩, .slice none 0 0, .slice none 0 0] 39 (0, 0))) f5 ho5 (by (first | (with_reducible exact alloc_new _ _) | (with_reducible exact u11 _ _)); done) (fun e => by have := ((show Rw.Row (Rw.RD w) 49 7 w4 T.heap.size v4 FF from hr4H).low _ e).2; omega); obtain ⟨y0, y1, y2⟩ := box3 hY.1; have z0 := Ty.frozen_row hY.1 0; have z1 := Ty.frozen_row hY.1 1; have z2 := Ty.frozen_row hY.1 2)); have hr5H : Hidden (Rw.Row (Rw.RD w) 49 7 w5 T.heap.size (.slice a5 LL c5) (FF ++ RR)) := hr5; clear hr5 hc5 hm5)
            | (refine step_rowD (W := w) rfl _ _ rfl T.heap.size (.slice (some ⟨_, 0, none⟩) 0 0) [] FF (.slice fa FF.length fc) U.heap.size rfl ?_ rfl ?_ ?_ ?_ ?_; (focus (refine Rw.Row.new _ _ 7 _ _ _ ?_ ?_; (focus (first | (exact Nat.le_refl _) | omega)); (focus (first | (with_reducible exact u11 _ _) | (with_reducible exact u21 _ _ _) | (with_reducible exact u22 _ _ _))))); (focus (refine Rw.Row.keep (w := T) hrF (S := fun _ => False) ?_ (fun _ _ f => f); (repeat (first | (with_reducible assumption) | (with_reducible exact Fr.refl _ _) | (with_reducible refine Fr.same ?_ (Fr.alloc _ _ _)) | (with_reducible refine Fr.same ?_ (Fr.drew _ _)))))); (focus (have : FF.length ≤ 64 := hFH; simp; omega)); (focus (refine Fr.size (S := fun _ => False) ?_; (repeat (first | (with_reducible assumption) | (with_reducible exact Fr.refl _ _) | (with_reducible refine Fr.same ?_ (Fr.alloc _ _ _)) | (with_reducible refine Fr.same ?_ (Fr.drew _ _)))))); intro v4 w4 hr4 f4 ho4; rw [List.nil_append] at hr4; have g4 : Fr FN T w4 := (by refine Fr.over ?_ f4 ?_; (focus (repeat (first | (with_reducible assumption) | (with_reducible exact Fr.refl _ _) | (with_reducible refine Fr.same ?_ (Fr.alloc _ _ _)) | (with_reducible refine Fr.same ?_ (Fr.drew _ _))))); (focus (intro k e; rw [own_at] at e; injection e with e; omega))); have q0 := g4.cellN c0; have q1 := g4.cellN c1; (try (have hX0 := keepY (g := T.heap.size) (o := (.cells #[.string ⟨#[]⟩, .slice none 0 0, .slice none 0 0] 39 (0, 0))) f4 ho4 (by (first | (with_reducible exact u11 _ _) | (with_reducible exact u21 _ _ _) | (with_reducible exact u22 _ _ _)); done) (fun e => by rw [own_at] at e; injection e with e; omega))); (try (have hX1 := keepY (g := T.heap.size + 1) (o := (.cells #[.string ⟨#[]⟩, .slice none 0 0, .slice none 0 0] 39 (0, 0))) f4 ho4 (by (first | (with_reducible exact u11 _ _) | (with_reducible exact u21 _ _ _) | (with_reducible exact u22 _ _ _)); done) (fun e => by rw [own_at] at e; injection e with e; omega))); have n40 : w4.heap.size ≠ w.heap.size := World.new_ne w4 _ q0; have hr4H : Hidden (Rw.Row (Rw.RD w) 49 7 w4 T.heap.size v4 FF) := hr4; clear hr4)
            )
          all_goals go_wp2_with fail
          all_goals go_meet
          all_goals first
            | exact bxm_new hwT hr5H (show (FF ++ RR).length = LL from hLH).symm g5
            | exact bxm_old hwT hr5H (show (FF ++ RR).length = LL from hLH).symm g5 hY (by have := g4.size; omega)
        case rest =>
        obtain ⟨g, ya, yc, hp, hbx, hdl, fx, hg⟩ := hcut
        subst hp
        rw [(show (FF ++ RR).length = LL from hLH)] at hbx
        have hwx : Fr FN w wc := (show Fr FN w T from hwT).same fx
        have hUx : Fr FN U wc := (show Fr FN U T from hfrH).same fx
        clear c0 c1 a2
        by_cases hev : (seed.tmod 2 == 0) = true
        · obtain ⟨b0, b1, b2⟩ := box3 hbx
          have p2 := Ty.frozen_row hbx 2
          have hF4 : Rw.Row (Rw.RD w) 49 7 wc U.heap.size (.slice fa FF.length fc) FF := (show Rw.Row (Rw.RD w) _ 7 T _ _ _ from hrF).keep fx (fun _ _ f => f)
          have hR4 : Rw.Row (Rw.RD w) 49 7 wc U.heap.size (.slice ra RR.length rc) RR := (show Rw.Row (Rw.RD w) _ 7 T _ _ _ from hrR).keep fx (fun _ _ f => f)
          have hF5 : Hidden (Rw.Row (Rw.RD w) 49 7 wc U.heap.size (.slice fa FF.length fc) FF) := hF4
          have hR5 : Hidden (Rw.Row (Rw.RD w) 49 7 (wc.alloc (.cells #[] 49 (0, 0))) U.heap.size (.slice ra RR.length rc) RR) := hR4.keep (Fr.alloc FN _ _) (fun _ _ f => f)
          have hN5 : Hidden (Rw.Row (Rw.RD w) 49 7 (wc.alloc (.cells #[] 49 (0, 0))) wc.heap.size (.slice (some ⟨wc.heap.size, 0, none⟩) 0 0) []) := Rw.Row.new _ _ 7 _ _ _ (Nat.le_refl _) (alloc_new _ _)
          have hbxH : Hidden (wc.heap[g]? = some (.cells #[ct m.name, .slice ao m.imports.length cap, .slice ya LL yc] 39 (0, 0))) := hbx
          have hwxH : Hidden (Fr FN w wc) := hwx
          have hUxH : Hidden (Fr FN U wc) := hUx
          have hglt : Hidden (g < wc.heap.size) := lt_of_heap hbx
          have hgU : Hidden (U.heap.size ≤ g) := by have h1 := (show Fr FN U T from hfrH).size; show _ ≤ _; omega
          have kY' := kY true
          have hgw : Hidden (w.heap.size ≤ g) := by have h1 := (show Fr FN w T from hwT).size; show _ ≤ _; omega
          clear hrF hrR hF4 hR4 hbx hdl hwx hUx fx kY hg
          go_wp2_with (first
            | (at_builtin; have hq := hr4H; have hq2 := hF6; refine wpl_rowD (W := w) rfl _ _ rfl wc.heap.size v4 RR FF (.slice fa FF.length fc) U.heap.size rfl hq rfl hq2 (by have h1 : FF.length ≤ 64 := hFH; have h2 : RR.length ≤ 64 := hRH; omega) (by have h1 : wc.heap.size ≤ w4.heap.size := hs4; exact h1) ?_; intro v5 w5 hr5 f5 ho5; obtain ⟨a5, c5, e5, _⟩ := hr5.slice; rw [(show (RR ++ FF).length = LL from hLT)] at e5; subst e5; have lowq := (show Rw.Row (Rw.RD w) _ 7 w4 _ _ _ from hr4H).low; have hb5 := f5.heap (show w4.heap[g]? = _ from hb4) (fun e => by have := (lowq _ e).1; have h2 : g < wc.heap.size := hglt; omega); obtain ⟨y0, y1, y2⟩ := box3 hb5; have z2 := Ty.frozen_row hb5 2; have g5 : Hidden (Fr FN wc w5) := (show Fr FN wc w4 from g4H).over f5 (fun k e => (lowq k e).1); have hr5H : Hidden (Rw.Row (Rw.RD w) 49 7 w5 wc.heap.size (.slice a5 LL c5) (RR ++ FF)) := hr5; have hb5H : Hidden (w5.heap[g]? = _) := hb5; have k0 := (Fr.setCell w5 ⟨g, 2, none⟩ (.slice a5 LL c5)).cell y0; clear k0 hr5 f5 ho5 lowq hb5)
            | (at_builtin; have hq := hN5; have hq2 := hR5; refine wpl_rowD (W := w) rfl _ _ rfl wc.heap.size (.slice (some ⟨wc.heap.size, 0, none⟩) 0 0) [] RR (.slice ra RR.length rc) U.heap.size rfl hq rfl hq2 (by have h2 : RR.length ≤ 64 := hRH; simp; omega) (by simp) ?_; intro v4 w4 hr4 f4 ho4; rw [List.nil_append] at hr4; have g4H : Hidden (Fr FN wc w4) := (Fr.alloc FN wc _).over f4 (fun k e => by rw [own_at] at e; injection e with e; omega); have hs4 : Hidden (wc.heap.size ≤ w4.heap.size) := (show Fr FN wc w4 from g4H).size; have hb4 : Hidden (w4.heap[g]? = some (.cells #[ct m.name, .slice ao m.imports.length cap, .slice ya LL yc] 39 (0, 0))) := (show Fr FN wc w4 from g4H).heap hbxH (fun f => f); have hF6 : Hidden (Rw.Row (Rw.RD w) 49 7 w4 U.heap.size (.slice fa FF.length fc) FF) := (show Rw.Row (Rw.RD w) _ 7 wc _ _ _ from hF5).keep (show Fr FN wc w4 from g4H) (fun _ _ f => f); have hr4H : Hidden (Rw.Row (Rw.RD w) 49 7 w4 wc.heap.size v4 RR) := hr4; clear hr4 f4 ho4))
          have gz : Fr FN w (w5.setCell ⟨g, 2, none⟩ (.slice a5 LL c5)) := ((show Fr FN w wc from hwxH).same (show Fr FN wc w5 from g5)).over (Fr.setCell w5 ⟨g, 2, none⟩ _) (fun k e => by have e : k = g := e; have h1 : w.heap.size ≤ g := hgw; omega)
          have hUz : Hidden (Fr FN U (w5.setCell ⟨g, 2, none⟩ (.slice a5 LL c5))) := ((show Fr FN U wc from hUxH).same (show Fr FN wc w5 from g5)).over (Fr.setCell w5 ⟨g, 2, none⟩ _) (fun k e => by have e : k = g := e; have h1 : U.heap.size ≤ g := hgU; omega)
          have hr5 := (show Rw.Row (Rw.RD w) _ 7 w5 _ _ _ from hr5H)
          obtain ⟨a', c', e, hdl⟩ := (hr5.keep (Fr.setCell w5 ⟨g, 2, none⟩ (.slice a5 LL c5)) (fun k hk e => by have e : k = g := e; have h1 := (hr5.low k hk).1; have h2 : g < wc.heap.size := hglt; omega)).deL gz
          rw [(show (RR ++ FF).length = LL from hLT)] at e
          simp only [Value.slice.injEq, true_and] at e
          obtain ⟨rfl, rfl⟩ := e
          have kZ := kY' _ a5 c5 gz (by rw [(show ordD true m.decls = _ from hoT)]; exact hdl)
          rw [(show ordD true m.decls = _ from hoT), (show (RR ++ FF).length = LL from hLT)] at kZ
          clear kY' gz hr5 hdl
          go_at_call 13
          refine Calls.mono kZ ?_
          rintro e w7 ⟨go, gc, gg, rfl, hg7, isg, f7⟩
          have gcm : gc ≤ 9223372036854775807 := by have := hg7.2.1; unfold maxLen at this; omega
          have gcn := hg7.1
          have fb := Fr.alloc FN w7 (.cells #[ct gg.name, .slice go gg.items.length gc] 24)
          have fUb := ((show Fr FN U _ from hUz).same f7).same fb
          have kS2 := kS _ f gg fo go fcf gc ((show Ty.ItL U fo fcf f.items from hfUH).keep fUb) (hg7.keep fb) ((show ∀ b f g, IsF m l f → IsF (ordM b m) l g → f = g from hone) true f gg isfH isg)
          obtain ⟨z0, z1⟩ := Ty.box2 (fUb.heap (show U.heap[w2.heap.size]? = _ from hUbH) (fun f => f))
          have gF : Hidden (Fr FN w (w7.alloc (.cells #[ct gg.name, .slice go gg.items.length gc] 24))) := (show Fr FN w U from fwUH).same fUb
          clear kS kZ hg7 isg f7 fb fUb
          go_wp2_with fail
          go_at_call 11
          refine Calls.mono kS2 ?_
          rintro e w8 ⟨rfl, f8⟩
          go_wp2_with fail
          go_ret
          exact ⟨rfl, (show Fr FN w _ from gF).same f8⟩
        · have t9 : (seed.tmod 2 == 0) = false := by simpa using hev
          have kZ := kY false wc ya yc hwx (by rw [(show ordD false m.decls = _ from hoF)]; exact hdl)
          rw [(show ordD false m.decls = _ from hoF), (show (FF ++ RR).length = LL from hLH)] at kZ
          obtain ⟨b0, b1, b2⟩ := box3 hbx
          have hUz : Hidden (Fr FN U wc) := hUx
          clear kY hev hdl hwx hUx fx hbx hrF hrR
          go_wp2_with fail
          go_at_call 13
          refine Calls.mono kZ ?_
          rintro e w7 ⟨go, gc, gg, rfl, hg7, isg, f7⟩
          have gcm : gc ≤ 9223372036854775807 := by have := hg7.2.1; unfold maxLen at this; omega
          have gcn := hg7.1
          have fb := Fr.alloc FN w7 (.cells #[ct gg.name, .slice go gg.items.length gc] 24)
          have fUb := ((show Fr FN U _ from hUz).same f7).same fb
          have kS2 := kS _ f gg fo go fcf gc ((show Ty.ItL U fo fcf f.items from hfUH).keep fUb) (hg7.keep fb) ((show ∀ b f g, IsF m l f → IsF (ordM b m) l g → f = g from hone) false f gg isfH isg)
          obtain ⟨z0, z1⟩ := Ty.box2 (fUb.heap (show U.heap[w2.heap.size]? = _ from hUbH) (fun f => f))
          have gF : Hidden (Fr FN w (w7.alloc (.cells #[ct gg.name, .slice go gg.items.length gc] 24))) := (show Fr FN w U from fwUH).same fUb
          clear kS kZ hg7 isg f7 fb fUb
          go_wp2_with fail
          go_at_call 11
          refine Calls.mono kS2 ?_
          rintro e w8 ⟨rfl, f8⟩
          go_wp2_with fail
          go_ret
          exact ⟨rfl, (show Fr FN w _ from gF).same f8⟩
  · obtain ⟨P, hP⟩ : ∃ P, (exP m l).1 = P := ⟨_, rfl⟩
    obtain ⟨E, hEE⟩ : ∃ E, (exP m l).2 = E := ⟨_, rfl⟩
    rw [hEE] at hE
    rw [hP, hEE] at kX
    have t1 : (E != 0) = true := by simpa using hE
    clear hm om h3 okl hi hd hA f0 hW0 h2 hE hP hEE h3k
    go_enter Tryz.func5, Tryz.ntmps5
    go_wp2_with fail
    rw [← (show W0 = _ from hW0H)]
    go_at_call 7
    refine Calls.mono kL ?_
    rintro e w1 ⟨rfl, f1⟩
    obtain ⟨a0, a1, a2⟩ := (show ∀ u, Fr FN W0 u → _ from boxMH) w1 f1
    have kX1 := kX w1 ((show Fr FN w W0 from f0H).same f1)
    clear kL kX
    go_wp2_with fail
    go_at_call 13
    refine Calls.mono kX1 ?_
    rintro e w2 ⟨fo, fc, f, rfl, hf2, isf, f2⟩
    have gF : Hidden (Fr FN w (w2.alloc (.cells #[ct f.name, .slice fo f.items.length fc] 24))) := (((show Fr FN w W0 from f0H).same f1).same f2).same (Fr.alloc _ _ _)
    clear f1 f2 hf2 isf kX1 a0 a1 a2
    go_wp2_with fail
    go_ret
    exact ⟨rfl, gF⟩
end Go.Proofs.YtpjahcncknccdaaGreat.Fo.Ic
namespace Go.Proofs.YtpjahcncknccdaaGreat.ifaceOrder
open Go.RowKit Te
theorem walk (v : Value) (m : Mo) (lv : Value) (l : List Ty.Fc) (seed : Int) (W : World) (hm : MoI W m v) (om : OkM m) (hl : Fo.FcL W lv l) (okl : ∀ f ∈ l, Fo.OkF f) (_h : (Lit.int .i64 seed).wf = true) :
    Calls Tryz.prog 5 #[v, lv, .int .i64 seed] W fun e w' => e = .returned (.bool true) ∧ Fr (fun _ => False) W w' := by
  obtain ⟨ao, cap, ad, capd, rfl, hi, hd⟩ := hm
  obtain ⟨lo, lc, rfl, a1, a2, a3⟩ := hl
  exact Fo.Ic.order_any m ao cap ad capd l lo lc seed W ⟨ao, cap, ad, capd, rfl, hi, hd⟩ om a1 a2 a3 (fun f hf => ⟨(okl f hf).name, (okl f hf).items⟩)
end Go.Proofs.YtpjahcncknccdaaGreat.ifaceOrder
