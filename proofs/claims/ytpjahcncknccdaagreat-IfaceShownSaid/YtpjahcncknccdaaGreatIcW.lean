/- IfaceShown. -/
import Derived.Test.YtpjahcncknccdaaGreatIcV
import Derived.Test.YtpjahcncknccdaaGreatIcIn
import Derived.Test.YtpjahcncknccdaaGreatTrIn
namespace Go.Proofs.YtpjahcncknccdaaGreat.ifaceShown
open Go.RowKit Te Fo Fo.Ic
set_option linter.unusedSimpArgs false
set_option linter.unusedVariables false
set_option maxRecDepth 20000

theorem ok_bare {m : Mo} (om : OkM m) : OkM (bareM m) := ⟨om.name, om.imports, fun d hd => by
  obtain ⟨e, he, hd⟩ := List.mem_flatMap.1 hd
  unfold bareO at hd
  split at hd
  · have hd : d = ⟨e.kind, e.ex, e.name, e.type, e.params, e.e, .nil⟩ := by simpa using hd
    subst hd
    have := om.decls e he
    exact ⟨this.kind, this.type, this.name, this.params, this.e, trivial⟩
  · split at hd
    · have hd : d = e := by simpa using hd
      rw [hd]; exact om.decls e he
    · simp at hd⟩
set_option maxHeartbeats 4000000 in
theorem walk (v : Value) (m : Mo) (lv : Value) (l : List Ty.Fc) (w : World) (hm : MoI w m v) (om : OkM m) (hl : Fo.FcL w lv l) (okl0 : ∀ f ∈ l, Fo.OkF f) :
    Calls Tryz.prog 4 #[v, lv] w fun e w' => e = .returned (.bool true) ∧ Fr (fun _ => False) w w' := by
  have okl : ∀ f ∈ l, Ty.OkN f.name ∧ ∀ i ∈ f.items, Ty.OkI i := fun f hf => ⟨(okl0 f hf).name, (okl0 f hf).items⟩
  obtain ⟨ao, cap, ad, capd, rfl, hi, hd⟩ := id hm
  obtain ⟨lo, lc, rfl, h1, h2, h3⟩ := hl
  have m1 : cap ≤ 9223372036854775807 := by have := hi.2.1; unfold maxLen at this; omega
  have m2 : capd ≤ 9223372036854775807 := by have := hd.2.1; unfold maxLen at this; omega
  have n1 := hi.1
  have n2 := hd.1
  have h3k : ∀ u, Fr FN w u → l = [] ∨ ∃ b off, lo = some ⟨b, off, none⟩ ∧ ∀ (i : Nat) (x : Ty.Fc), l[i]? = some x → LayF u b (off + i * 2) x := fun u hu => h3.imp id fun ⟨b, off, e, h⟩ => ⟨b, off, e, fun i y hy => by
    obtain ⟨ap, cp, q1, q2, q3⟩ := h i y hy
    exact ⟨ap, cp, q1.keep hu, hu.cellN q2, hu.cellN q3⟩⟩
  have kX : ∀ u, Fr FN w u → Calls Tryz.prog 13 #[.agg #[ct m.name, .slice ao m.imports.length cap, .slice ad m.decls.length capd], .slice lo l.length lc] u fun e w' => ∃ fo fc f, e = .returned (.tuple #[.agg #[ct f.name, .slice fo f.items.length fc], ci (exP m l).1, ci (exP m l).2]) ∧ Ty.ItL w' fo fc f.items ∧ IsF m l f ∧ Fr FN u w' := fun u hu => (extract_any m _ l lo lc u om (hm.keep hu) h1 h2 (h3k u hu) okl).mono fun e w' ⟨fv, f, q1, ⟨fo, fc, q2, q3⟩, q4, q5⟩ => ⟨fo, fc, f, by rw [q1, q2], q3, q4, q5⟩
  have kS : ∀ (u : World) (f g : Ty.Fc) (fo go : Option Addr) (fc gc : Nat), Ty.ItL u fo fc f.items → Ty.ItL u go gc g.items → f = g → Calls Tryz.prog 11 #[.agg #[ct f.name, .slice fo f.items.length fc], .agg #[ct g.name, .slice go g.items.length gc]] u fun e w' => e = .returned (.bool true) ∧ Fr FN u w' := fun u f g fo go fc gc q1 q2 q3 => by
    have := Ty.sameIface_any f g _ _ u ⟨fo, fc, rfl, q1⟩ ⟨go, gc, rfl, q2⟩
    rw [decide_eq_true q3] at this
    exact this
  obtain ⟨W0, hW0⟩ : ∃ W, W = w.alloc (.cells #[ct m.name, .slice ao m.imports.length cap, .slice ad m.decls.length capd] 39) := ⟨_, rfl⟩
  have f0 : Fr FN w W0 := by rw [hW0]; exact Fr.alloc _ _ _
  have hA : W0.heap[w.heap.size]? = some (.cells #[ct m.name, .slice ao m.imports.length cap, .slice ad m.decls.length capd] 39 (0, 0)) := by rw [hW0]; exact alloc_new _ _
  have boxM : ∀ u, Fr FN W0 u → u.cell? ⟨w.heap.size, 0, none⟩ = some (ct m.name) ∧ u.cell? ⟨w.heap.size, 1, none⟩ = some (.slice ao m.imports.length cap) ∧ u.cell? ⟨w.heap.size, 2, none⟩ = some (.slice ad m.decls.length capd) := fun u hu => box3 (hu.heap hA (fun f => f))
  have boxMH : Hidden (∀ u, Fr FN W0 u → u.cell? ⟨w.heap.size, 0, none⟩ = some (ct m.name) ∧ u.cell? ⟨w.heap.size, 1, none⟩ = some (.slice ao m.imports.length cap) ∧ u.cell? ⟨w.heap.size, 2, none⟩ = some (.slice ad m.decls.length capd)) := boxM
  have kL := live_any W0
  have f0H : Hidden (Fr FN w W0) := f0
  have hW0H : Hidden (W0 = _) := hW0
  have hat := exP_at m l
  by_cases hE : (exP m l).2 = 0
  · have hP := exP_zero hE
    obtain ⟨s1, s2, s3⟩ := errM_small (exP_ok hE).1
    have kB : ∀ u, Fr FN w u → Calls Tryz.prog 14 #[.agg #[ct m.name, .slice ao m.imports.length cap, .slice ad m.decls.length capd]] u fun e w' => ∃ yo yc, e = .returned (.agg #[ct m.name, .slice ao m.imports.length cap, .slice yo (bareD m.decls).length yc]) ∧ DeL w' yo yc (bareD m.decls) ∧ Fr FN u w' := fun u hu => bare_any m ao cap ad capd u (hm.keep hu) s2
    have kY : ∀ u (yo : Option Addr) (yc : Nat), Fr FN w u → DeL u yo yc (bareD m.decls) → Calls Tryz.prog 13 #[.agg #[ct m.name, .slice ao m.imports.length cap, .slice yo (bareD m.decls).length yc], .slice lo l.length lc] u fun e w' => ∃ fo fc f, e = .returned (.tuple #[.agg #[ct f.name, .slice fo f.items.length fc], ci 0, ci 0]) ∧ Ty.ItL w' fo fc f.items ∧ IsF (bareM m) l f ∧ Fr FN u w' := fun u yo yc hu hdl => (extract_any (bareM m) _ l lo lc u (ok_bare om) ⟨ao, cap, yo, yc, rfl, hi.keep hu, hdl⟩ h1 h2 (h3k u hu) okl).mono fun e w' ⟨fv, f, q1, ⟨fo, fc, q2, q3⟩, q4, q5⟩ => ⟨fo, fc, f, by rw [q1, q2, bare_exP hE], q3, q4, q5⟩
    have kR : ∀ (u : World) (f : Ty.Fc) (fo : Option Addr) (fc : Nat), Ty.ItL u fo fc f.items → IsF m l f → Calls Tryz.prog 9 #[.agg #[ct f.name, .slice fo f.items.length fc]] u fun e w' => e = .returned (ci 0) ∧ Fr FN u w' := fun u f fo fc q1 q2 => by
      obtain ⟨o1, o2⟩ := isF_ok om okl q2
      have := Ty.rightIface_any f (.agg #[ct f.name, .slice fo f.items.length fc]) u ⟨fo, fc, rfl, q1⟩ o1 o2
      rw [isF_right hE q2] at this
      exact this
    have hname : ∀ f, IsF m l f → f.name = m.name := fun f hf => by
      rcases hf with ⟨q, _⟩ | ⟨_, q, _⟩
      · exact absurd hE q
      · exact q
    have hone : Hidden (∀ f g, IsF m l f → IsF (bareM m) l g → f = g) := fun f g q1 q2 => bare_isF hE q1 q2
    have hnameH : Hidden (∀ f, IsF m l f → f.name = m.name) := hname
    obtain ⟨BL, hBL⟩ : ∃ n, (bareD m.decls).length = n := ⟨_, rfl⟩
    have hBLm : BL ≤ 64 := by rw [← hBL]; exact Nat.le_trans (bare_len _) s2
    rw [hP, hE] at kX
    rw [hBL] at kB kY
    clear hm om h3 okl okl0 hi hd hA boxM f0 hW0 h2 hat hE hP s1 s2 s3 hname h3k hBL
    go_enter Tryz.func4, Tryz.ntmps4
    go_wp2_with fail
    rw [← (show W0 = _ from hW0H)]
    go_at_call 7
    refine Calls.mono kL ?_
    rintro e w1 ⟨rfl, f1⟩
    obtain ⟨a0, a1, a2⟩ := (show ∀ u, Fr FN W0 u → _ from boxMH) w1 f1
    have kX1 := kX w1 ((show Fr FN w W0 from f0H).same f1)
    clear kL kX
    go_wp2_with fail
    go_at_call 13
    refine Calls.mono kX1 ?_
    rintro e w2 ⟨fo, fc, f, rfl, hf2, isf, f2⟩
    have f02 : Fr FN W0 w2 := f1.same f2
    have fcm : fc ≤ 9223372036854775807 := by have := hf2.2.1; unfold maxLen at this; omega
    have fcn := hf2.1
    obtain ⟨U, hU⟩ : ∃ U, U = w2.alloc (.cells #[ct f.name, .slice fo f.items.length fc] 24) := ⟨_, rfl⟩
    have fU : Fr FN W0 U := by rw [hU]; exact f02.same (Fr.alloc _ _ _)
    have hUb : U.heap[w2.heap.size]? = some (.cells #[ct f.name, .slice fo f.items.length fc] 24 (0, 0)) := by rw [hU]; exact alloc_new _ _
    have hfU : Ty.ItL U fo fc f.items := by rw [hU]; exact hf2.keep (Fr.alloc _ _ _)
    obtain ⟨c0, c1, c2⟩ := (show ∀ u, Fr FN W0 u → _ from boxMH) U fU
    have kB1 := kB U ((show Fr FN w W0 from f0H).same fU)
    have hUH : Hidden (U = _) := hU
    have fUH : Hidden (Fr FN W0 U) := fU
    have hUbH : Hidden (U.heap[w2.heap.size]? = some (.cells #[ct f.name, .slice fo f.items.length fc] 24 (0, 0))) := hUb
    have hfUH : Hidden (Ty.ItL U fo fc f.items) := hfU
    have isfH : Hidden (IsF m l f) := isf
    rw [hU] at c0 c1 c2
    clear hU kX1 hf2 isf f1 f2 f02 a0 a1 a2 hfU hUb fU kB
    go_wp2_with fail
    rw [← (show U = _ from hUH)]
    go_at_call 14
    refine Calls.mono kB1 ?_
    rintro e w3 ⟨yo, yc, rfl, hdl, f3⟩
    have kY3 := kY w3 yo yc (((show Fr FN w W0 from f0H).same (show Fr FN W0 U from fUH)).same f3) hdl
    clear kB1 kY c0 c1 c2 hdl
    go_wp2_with fail
    go_at_call 13
    refine Calls.mono kY3 ?_
    rintro e w4 ⟨go, gc, g, rfl, hg4, isg, f4⟩
    have gcm : gc ≤ 9223372036854775807 := by have := hg4.2.1; unfold maxLen at this; omega
    have gcn := hg4.1
    have fb := Fr.alloc FN w4 (.cells #[ct g.name, .slice go g.items.length gc] 24)
    have fUb := (f3.same f4).same fb
    have kS2 := kS _ f g fo go fc gc ((show Ty.ItL U fo fc f.items from hfUH).keep fUb) (hg4.keep fb) ((show ∀ f g, IsF m l f → IsF (bareM m) l g → f = g from hone) f g isfH isg)
    have kR2 : ∀ u, Fr FN U u → _ := fun u hu => kR u f fo fc ((show Ty.ItL U fo fc f.items from hfUH).keep hu) isfH
    have bxf : ∀ u, Fr FN U u → _ := fun u hu => Ty.box2 (hu.heap (show U.heap[w2.heap.size]? = _ from hUbH) (fun f => f))
    have bxm : ∀ u, Fr FN U u → _ := fun u hu => (show ∀ u, Fr FN W0 u → _ from boxMH) u ((show Fr FN W0 U from fUH).same hu)
    obtain ⟨z0, z1⟩ := bxf _ fUb
    have fwU : Fr FN w U := (show Fr FN w W0 from f0H).same (show Fr FN W0 U from fUH)
    have hnm : f.name = m.name := (show ∀ f, IsF m l f → f.name = m.name from hnameH) f isfH
    have hnmH : Hidden (f.name = m.name) := hnm
    have fUbH : Hidden (Fr FN U (w4.alloc (.cells #[ct g.name, .slice go g.items.length gc] 24))) := fUb
    clear kS kY3 hg4 isg f3 f4 fb fUb hnm kR hone
    go_wp2_with fail
    go_at_call 11
    refine Calls.mono kS2 ?_
    rintro e w5 ⟨rfl, f5⟩
    have fU5 : Fr FN U w5 := (show Fr FN U _ from fUbH).same f5
    have kR5 := kR2 w5 fU5
    clear z0 z1 kS2 kR2 f5
    obtain ⟨z0, z1⟩ := bxf _ fU5
    go_wp2_with fail
    go_at_call 9
    refine Calls.mono kR5 ?_
    rintro e w6 ⟨rfl, f6⟩
    have fU6 := fU5.same f6
    clear z0 z1 kR5
    obtain ⟨z0, z1⟩ := bxf _ fU6
    obtain ⟨y0, y1, y2⟩ := bxm _ fU6
    rw [(show f.name = m.name from hnmH)] at z0
    clear bxf bxm f6 fU5
    have fU6H : Hidden (Fr FN U w6) := fU6
    have fwUH : Hidden (Fr FN w U) := fwU
    clear fU6 fwU
    go_wp2_with fail
    go_ret
    exact ⟨rfl, (show Fr FN w U from fwUH).same fU6H⟩
  · have hz : ∀ f, IsF m l f → f = ⟨[], []⟩ := fun f hf => by
      rcases hf with ⟨_, q⟩ | ⟨q, _⟩
      · exact q
      · exact absurd q hE
    obtain ⟨P, hP⟩ : ∃ P, (exP m l).1 = P := ⟨_, rfl⟩
    obtain ⟨E, hEE⟩ : ∃ E, (exP m l).2 = E := ⟨_, rfl⟩
    rw [hP] at hat
    rw [hEE] at hE
    rw [hP, hEE] at kX
    have t1 : (E != 0) = true := by simpa using hE
    have t2 : (0 ≤ P) := hat.1
    have t3 : P ≤ (m.decls.length : Int) := hat.2
    have hzH : Hidden (∀ f, IsF m l f → f = ⟨[], []⟩) := hz
    clear hm om h3 okl okl0 hi hd hA boxM f0 hW0 h2 hE hP hEE hat hz h3k
    go_enter Tryz.func4, Tryz.ntmps4
    go_wp2_with fail
    rw [← (show W0 = _ from hW0H)]
    go_at_call 7
    refine Calls.mono kL ?_
    rintro e w1 ⟨rfl, f1⟩
    obtain ⟨a0, a1, a2⟩ := (show ∀ u, Fr FN W0 u → _ from boxMH) w1 f1
    have kX1 := kX w1 ((show Fr FN w W0 from f0H).same f1)
    clear kL kX
    go_wp2_with fail
    go_at_call 13
    refine Calls.mono kX1 ?_
    rintro e w2 ⟨fo, fc, f, rfl, hf2, isf, f2⟩
    have hf0 := (show ∀ f, IsF m l f → f = ⟨[], []⟩ from hzH) f isf
    subst hf0
    have f02 : Fr FN W0 w2 := f1.same f2
    have fb := Fr.alloc FN w2 (.cells #[.string ⟨#[]⟩, .slice fo 0 fc] 24)
    have kS2 := kS _ ⟨[], []⟩ ⟨[], []⟩ fo none fc 0 (hf2.keep fb) ⟨by simp, by simp [maxLen], fun _ => rfl, Or.inl rfl⟩ rfl
    have bxm : ∀ u, Fr FN W0 u → _ := fun u hu => (show ∀ u, Fr FN W0 u → _ from boxMH) u hu
    have f02b : Hidden (Fr FN W0 (w2.alloc (.cells #[.string ⟨#[]⟩, .slice fo 0 fc] 24))) := f02.same fb
    have fcm : fc ≤ 9223372036854775807 := by have := hf2.2.1; unfold maxLen at this; omega
    clear kS kX1 hf2 isf f1 f2 f02 a0 a1 a2 fb
    go_wp2_with fail
    go_at_call 11
    refine Calls.mono kS2 ?_
    rintro e w5 ⟨rfl, f5⟩
    have f05 : Fr FN W0 w5 := (show Fr FN W0 _ from f02b).same f5
    obtain ⟨y0, y1, y2⟩ := bxm _ f05
    have gF : Hidden (Fr FN w w5) := (show Fr FN w W0 from f0H).same f05
    clear bxm f05 f5 kS2
    go_wp2_with fail
    go_ret
    exact ⟨rfl, gF⟩
end Go.Proofs.YtpjahcncknccdaaGreat.ifaceShown
