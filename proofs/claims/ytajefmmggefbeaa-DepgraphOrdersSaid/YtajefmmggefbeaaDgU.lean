/- Under. -/
import Derived.Test.YtajefmmggefbeaaDgI
namespace Go.Proofs.Ytajefmmggefbeaa.Dg
open Go.RowKit Go.Sort
set_option linter.unusedSimpArgs false
set_option linter.unusedVariables false

/-- append to a list of the call's own, in a region that draws its order. -/
theorem step_tw {w : World} {ops : Array Oper} {o : Oper} {a : Act} {K : Act → World → Prop} {Q : Exit → Act → World → Prop} {E : Prop} (hgd : o.guard = none) (s x : Operand)
    (ho : o.op = .call { callee := .builtin .append, args := #[s, x], argTypes := #[23, 23] }) (B : Nat) (v xv : Value) (l add : List Str)
    (hs : a.eval s = v) (hv : Tw w B v l) (hx : a.eval x = xv) (hxs : Tl w xv add) (hB : B ≤ w.heap.size) (hb : (l.length + add.length) * 16 ≤ 140737488355328)
    (h : ∀ v' w', Tw w' B v' (l ++ add) → Fr (fun k => v.ownBlock = some k) w w' → (v'.ownBlock = v.ownBlock ∨ v'.ownBlock = some w.heap.size) → Tl w' v l → K (a.put o.dst v') w') : if Region.wanted o (yielded ops a.tmps) = true then Oper.wp Try.prog o a w K Q else E := by
  have hw : Region.wanted o (yielded ops a.tmps) = true := by simp [Region.wanted, hgd]
  rw [if_pos hw]
  obtain ⟨v', w', hr, h2, h3, h4, h5⟩ := run_append_tw w B v xv l add o.type hv hxs hB hb
  unfold Oper.wp execOp
  simp only [ho, resolve, invoke, builtin, Sem.run_bind, Sem.run_pure, Result.andThen_ok, List.map_toArray, List.map_cons, List.map_nil, hs, hx, hr]
  exact h v' w' h2 h3 h4 h5
theorem Tw.shape {w : World} {B : Nat} {v : Value} {l : List Str} (h : Tw w B v l) : ∃ ao cap, v = .slice ao l.length cap ∧ l.length ≤ cap ∧ cap ≤ 9223372036854775807 := by
  obtain ⟨⟨ao, cap, e, h1, h2, _⟩, _⟩ := h
  exact ⟨ao, cap, e, h1, h2⟩
theorem Tw.tail1 {w : World} {B b off ll : Nat} {x : Str} {l : List Str} (h : Tw w B (.slice (some ⟨b, off, none⟩) ll 1) (x :: l)) : Tw w B (.slice (some ⟨b, off, none⟩) (ll - 1) 0) l := by
  obtain ⟨ao, cap, e, h1, h2⟩ := Tw.shape h
  cases e
  have := Tw.drop h 1 (by simp)
  simpa using this
theorem Tw.tail {w : World} {B b off ll cap : Nat} {x : Str} {l : List Str} (h : Tw w B (.slice (some ⟨b, off, none⟩) ll cap) (x :: l)) (hc : ¬ cap = 1) : Tw w B (.slice (some ⟨b, off + 1, none⟩) (ll - 1) (cap - 1)) l := by
  obtain ⟨ao, cap', e, h1, h2⟩ := Tw.shape h
  cases e
  have := Tw.drop h 1 (by simp)
  rw [if_neg hc] at this
  simpa [Addr.add_lit] using this
theorem reach_ok {w : World} {p : Value} {g : Gr} (h : Gp w p g) {n x : Str} (hr : Reach g n x) : OkN x := by
  rcases hr.last with k | ⟨b, _, k⟩
  · exact h.okI k
  · exact h.okI k
theorem pot_le {w : World} {p : Value} {g : Gr} (h : Gp w p g) (u : List Str) : pot g u ≤ 512 := by
  have key : ∀ l : List Str, (l.map fun k => (g.im k).length).sum ≤ 16 * l.length := by
    intro l
    induction l with
    | nil => simp
    | cons a r ih =>
      rw [List.map_cons, List.sum_cons, List.length_cons]
      have := h.ims a
      omega
  have h1 := key (g.ks.filter fun k => decide (k ∉ u))
  have h2 := List.length_filter_le (fun k => decide (k ∉ u)) g.ks
  have h3 := h.small
  unfold pot
  omega
set_option maxRecDepth 20000 in
set_option maxHeartbeats 8000000 in
theorem under_any (p : Value) (g : Gr) (n : Str) (w : World) (h : Gp w p g) (hn : OkN n) :
    Calls Try.prog 15 #[p, ct n] w fun e w' => (∃ l, Ret w.heap.size l e w' ∧ IsUnder g n l) ∧ Fr (fun _ => False) w w' := by
  obtain ⟨mb, hgt, kt⟩ := h.table
  have hgtH : Hidden (Gt w (.map mb) g) := hgt
  have hH : Hidden (Gp w p g) := h
  have fa := Fr.alloc (fun _ => False) w (.map #[] 0)
  have ki := imports_any p g n _ (h.later fa) hn
  have hs0 : Hidden (SM (w.alloc (.map #[] 0)) w.heap.size 0 []) := SM.new w
  have hsz : Hidden ((w.alloc (.map #[] 0)).heap.size = w.heap.size + 1) := by show _ = _; simp
  have faH : Hidden (Fr (fun _ => False) w (w.alloc (.map #[] 0))) := fa
  have him := h.ims n
  have hmm := @run_makeMap Try.prog
  clear hgt h fa
  go_enter Try.func15, Try.ntmps15
  go_wp2_with (go_at_call 11; refine ki.mono ?_; rintro e w2 ⟨⟨ao, cap, rfl, ht⟩, f2⟩; have htH : Hidden (To w2 (w.alloc (.map #[] 0)).heap.size (.slice ao (g.im n).length cap) (g.im n)) := ht; have f2H : Hidden (Fr (fun _ => False) (w.alloc (.map #[] 0)) w2) := f2; clear ht f2)
  have hs2 : Hidden (SM w2 w.heap.size 0 []) := SM.later hs0 f2H
  have ht2 : Hidden (Tw w2 (w.heap.size + 1) (.slice ao (g.im n).length cap) (g.im n)) := by
    have := (show To w2 (w.alloc (.map #[] 0)).heap.size _ (g.im n) from htH)
    rw [(show (w.alloc (.map #[] 0)).heap.size = w.heap.size + 1 from hsz)] at this
    exact Tw.of_to this
  have fw2 : Hidden (Fr (fun _ => False) w w2) := Fr.same faH f2H
  have hs2z : Hidden (w.heap.size + 1 ≤ w2.heap.size) := by
    have := (show Fr (fun _ => False) (w.alloc (.map #[] 0)) w2 from f2H).size
    rw [(show (w.alloc (.map #[] 0)).heap.size = w.heap.size + 1 from hsz)] at this
    exact this
  clear ki hs0 hsz faH f2H htH
  go_loopg [6] (pot g [] + (g.im n).length) (fun k lv wr => ∃ (left u : List Str) (m : Nat), Tw wr (w.heap.size + 1) lv left ∧ SM wr w.heap.size m u ∧ UInv g n left u ∧ m + (pot g u + left.length) ≤ 600 ∧ k = pot g u + left.length ∧ Fr (fun k' => w.heap.size ≤ k') w2 wr)
  case atStart =>
    refine ⟨g.im n, [], 0, ht2, hs2, UInv.start g n, ?_, rfl, Fr.refl _ _⟩
    have := pot_le (show Gp w p g from hH) []
    omega
  case round =>
    obtain ⟨left, u, m, htw, hsm, hui, hm, hk, hf⟩ := hrel
    have htwH : Hidden (Tw wr (w.heap.size + 1) u6 left) := htw
    have hsmH : Hidden (SM wr w.heap.size m u) := hsm
    have huiH : Hidden (UInv g n left u) := hui
    have hmH : Hidden (m + (pot g u + left.length) ≤ 600) := hm
    have hkH : Hidden (gk = pot g u + left.length) := hk
    have hfH : Hidden (Fr (fun k' => w.heap.size ≤ k') w2 wr) := hf
    have fw : Hidden (Fr (fun _ => False) w wr) := Fr.over fw2 hf (fun k hk => hk)
    have hszr : Hidden (w.heap.size + 1 ≤ wr.heap.size) := Nat.le_trans hs2z hf.size
    obtain ⟨aol, capl, hl, l1, l2⟩ := htw.shape
    subst hl
    clear hsm hui hm hk hf
    cases left with
    | nil =>
      obtain ⟨D, hown, hhas⟩ := (show SM wr w.heap.size m u from hsmH)
      have kk := skeys (some w.heap.size) wr
      have ks := ssorted w.heap.size m D unitElem wr hown (by have : m + (pot g u + 0) ≤ 600 := hmH; omega) (setS u) (setS_ss u) (fun x => by rw [hhas x]; simp [mem_setS])
      clear hown hhas
      go_wp2_with (first
        | (go_at_call 38; refine kk.mono ?_; rintro e w3 ⟨rfl, rfl⟩)
        | (go_at_call 32; refine ks.mono ?_; rintro e w4 ⟨v, rfl, t4, f4⟩))
      go_ret
      refine ⟨⟨setS u, Ret.of (To.lower t4 (show Fr (fun _ => False) w wr from fw).size), setS_ss u, fun x => ?_⟩, Fr.same fw f4⟩
      rw [mem_setS]
      exact (show UInv g n [] u from huiH).end x
    | cons x left =>
      have hxr : Reach g n x := (show UInv g n (x :: left) u from huiH).todo x (by simp)
      have hxok : OkN x := reach_ok (show Gp w p g from hH) hxr
      obtain ⟨bl, off, rfl, cx⟩ := Tl.at (show Tw wr (w.heap.size + 1) _ (x :: left) from htwH).1 (j := 0) (x := x) rfl
      rw [Nat.add_zero] at cx
      have hl0 : (0 : Int) < ((x :: left).length : Int) := by simp
      obtain ⟨ll, hll⟩ : ∃ ll, (x :: left).length = ll := ⟨_, rfl⟩
      have hllH : Hidden (ll = left.length + 1) := hll.symm
      rw [hll] at l1 hl0 htwH htw
      have hmH' : Hidden (m + (pot g u + (left.length + 1)) ≤ 600) := hmH
      have hkH' : Hidden (gk = pot g u + (left.length + 1)) := hkH
      have hll0 : 0 < ll := by omega
      rw [hll]
      clear hll hxr hmH hkH
      by_cases hxu : x ∈ u
      · have kp := put_in w.heap.size m u x hxu wr hsmH hxok
        have hui2 : Hidden (UInv g n left u) := (show UInv g n (x :: left) u from huiH).old hxu
        by_cases hc1 : capl = 1
        · subst hc1
          obtain rfl : ll = 1 := by omega
          have ht1 : Hidden (Tw wr (w.heap.size + 1) (.slice (some ⟨bl, off, none⟩) 0 0) left) := Tw.tail1 htwH
          clear htw hxu
          go_wp2_with (go_at_call 37; refine kp.mono ?_; rintro e w4 ⟨rfl, f4⟩; have f4H : Hidden (Fr (fun _ => False) wr w4) := f4; clear f4)
          go_roundg (pot g u + left.length)
          case measure => have : gk = pot g u + (left.length + 1) := hkH'; omega
          case rel =>
            have : m + (pot g u + (left.length + 1)) ≤ 600 := hmH'
            exact ⟨left, u, m, Tw.later ht1 f4H, SM.later hsmH f4H, hui2, by omega, rfl, Fr.same hfH (Fr.mono f4H fun _ _ f => f.elim)⟩
        · have ht1 : Hidden (Tw wr (w.heap.size + 1) (.slice (some ⟨bl, off + 1, none⟩) (ll - 1) (capl - 1)) left) := Tw.tail htwH hc1
          clear htw hxu
          go_wp2_with (go_at_call 37; refine kp.mono ?_; rintro e w4 ⟨rfl, f4⟩; have f4H : Hidden (Fr (fun _ => False) wr w4) := f4; clear f4)
          go_roundg (pot g u + left.length)
          case measure => have : gk = pot g u + (left.length + 1) := hkH'; omega
          case rel =>
            have : m + (pot g u + (left.length + 1)) ≤ 600 := hmH'
            exact ⟨left, u, m, Tw.later ht1 f4H, SM.later hsmH f4H, hui2, by omega, rfl, Fr.same hfH (Fr.mono f4H fun _ _ f => f.elim)⟩
      · have hm9 : m < 9223372036854775807 := by have : m + (pot g u + (left.length + 1)) ≤ 600 := hmH'; omega
        have kp := put_new w.heap.size m u x hxu wr hsmH hxok hm9
        have hui2 : Hidden (UInv g n (left ++ g.im x) (x :: u)) := (show UInv g n (x :: left) u from huiH).new
        have hpp : Hidden (pot g u = pot g (x :: u) + (g.im x).length) := pot_put (show Gp w p g from hH).wf hxu
        obtain ⟨aoi, capi, htl, hlk⟩ := (show Gt w (.map mb) g from hgtH).looks x hxok
        have htlH : Hidden (Tl w (.slice aoi (g.im x).length capi) (g.im x)) := htl
        have hlkH : Hidden (∀ w', Fr (fun _ => False) w w' → (Instr.lookup 52 (.map mb) (ct x) false).run Try.prog w' = .ok (.slice aoi (g.im x).length capi) w') := hlk
        have himx := (show Gp w p g from hH).ims x
        have hblB : Hidden (w.heap.size + 1 ≤ bl) := ((show Tw wr (w.heap.size + 1) (.slice (some ⟨bl, off, none⟩) ll capl) (x :: left) from htwH).own bl rfl).1
        clear htl hlk htw hxu
        go_wp2_with (go_at_call 37; refine kp.mono ?_; rintro e w4 ⟨rfl, s4, f4⟩; have f4H : Hidden (Fr (fun k => k = w.heap.size) wr w4) := f4; have s4H : Hidden (SM w4 w.heap.size (m + 1) (x :: u)) := s4; have cx4 := f4.cell cx (fun e => by have h1 : bl = w.heap.size := e; have h2 : w.heap.size + 1 ≤ bl := hblB; omega); have fw4 : Fr (fun _ => False) w w4 := Fr.over fw f4 (fun k hk => by omega); have fw4H : Hidden (Fr (fun _ => False) w w4) := fw4; have hl4 := (show ∀ w', _ → _ from hlkH) w4 fw4; have hl5 := (show ∀ w', _ → _ from hlkH) w4.drew (fw4.same (Fr.drew _ _)); clear s4 f4 fw4)
        have ht4 : Hidden (Tw w4 (w.heap.size + 1) (.slice (some ⟨bl, off, none⟩) ll capl) (x :: left)) := Tw.keep htwH f4H (fun k hk e => by
          have h1 := ((show Tw wr (w.heap.size + 1) _ (x :: left) from htwH).own k hk).1
          omega)
        have hB4 : w.heap.size + 1 ≤ w4.drew.heap.size := Nat.le_trans hszr (show Fr (fun k => k = w.heap.size) wr w4 from f4H).size
        have hb4 : ((x :: left).length + (g.im x).length) * 16 ≤ 140737488355328 := by have : m + (pot g u + (left.length + 1)) ≤ 600 := hmH'; simp only [List.length_cons]; omega
        have kt4 : ∀ W, Fr (fun _ => False) w4 W → Calls Try.prog 30 #[p] W fun e w'' => e = .returned (.map mb) ∧ w'' = W := fun W hW => kt W (Fr.same fw4H hW)
        go_region_held3 (fun w' => w'.cell? ⟨bl, off, none⟩ = some (ct x)) (first | (with_reducible assumption) | go_keep) (first
          | (go_at_call 30
             first
               | (refine (kt4 w4 (Fr.refl _ _)).mono ?_; rintro e w5 ⟨rfl, hw5⟩; replace hw5 := hw5.symm; subst hw5)
               | (refine (kt4 w4.drew (Fr.drew _ _)).mono ?_; rintro e w5 ⟨rfl, hw5⟩; replace hw5 := hw5.symm; subst hw5))
          | (refine step_tw rfl _ _ rfl (w.heap.size + 1) (.slice (some ⟨bl, off, none⟩) ll capl) _ (x :: left) (g.im x) rfl (Tw.later ht4 (Fr.drew _ _)) rfl (Tl.later htlH (Fr.same fw4H (Fr.drew _ _))) hB4 hb4 ?_
             intro v5 w5 t5 f5 o5 q5
             obtain ⟨bq, oq, hq, cq⟩ := Tl.at q5 (j := 0) (x := x) rfl
             simp only [Option.some.injEq, Addr.mk.injEq, and_true] at hq
             obtain ⟨rfl, rfl⟩ := hq
             rw [Nat.add_zero] at cq
             clear q5
             obtain ⟨ao5, cap5, hv5, l5, l6⟩ := Tw.shape t5
             subst hv5
             obtain ⟨b5, off5, hao5, c5⟩ := Tl.at t5.1 (j := 0) (x := x) rfl
             subst hao5
             have t5H : Hidden (Tw w5 (w.heap.size + 1) (.slice (some ⟨b5, off5, none⟩) (x :: left ++ g.im x).length cap5) (x :: left ++ g.im x)) := t5
             have f5H : Hidden (Fr (fun k => (Value.slice (some ⟨bl, off, none⟩) ll capl).ownBlock = some k) w4.drew w5) := f5
             clear t5 f5 o5 c5))
        have fr5 : Hidden (Fr (fun k' => w.heap.size ≤ k') w2 w5) := by
          have a1 : Fr (fun k' => w.heap.size ≤ k') w2 w4 := Fr.same hfH (Fr.mono f4H fun k _ e => by omega)
          refine (a1.same (Fr.drew _ _)).same (Fr.mono f5H fun k _ e => ?_)
          have := ((show Tw wr (w.heap.size + 1) _ (x :: left) from htwH).own k e).1
          omega
        have s5 : Hidden (SM w5 w.heap.size (m + 1) (x :: u)) := SM.keep (SM.later s4H (Fr.drew _ _)) f5H (fun e => by
          have := ((show Tw wr (w.heap.size + 1) _ (x :: left) from htwH).own _ e).1
          omega)
        have hlen : (x :: left ++ g.im x).length = left.length + (g.im x).length + 1 := by simp
        rw [hlen] at t5H l5
        clear hlen
        by_cases hc1 : cap5 = 1
        · subst hc1
          have h0 : left.length + (g.im x).length = 0 := by omega
          have t6 : Hidden (Tw w5 (w.heap.size + 1) (.slice (some ⟨b5, off5, none⟩) (left.length + (g.im x).length + 1 - 1) 0) (left ++ g.im x)) := Tw.tail1 t5H
          have t7 : Hidden (Tw w5 (w.heap.size + 1) (.slice (some ⟨b5, off5, none⟩) 0 0) (left ++ g.im x)) := by
            have := (show Tw w5 (w.heap.size + 1) (.slice (some ⟨b5, off5, none⟩) (left.length + (g.im x).length + 1 - 1) 0) (left ++ g.im x) from t6)
            rw [Nat.add_sub_cancel, h0] at this
            exact this
          have h0H : Hidden (left.length + (g.im x).length = 0) := h0
          rw [h0]
          clear h0
          go_wp2
          go_roundg (pot g (x :: u) + (left ++ g.im x).length)
          case measure =>
            have q1 : gk = pot g u + (left.length + 1) := hkH'
            have q2 : pot g u = pot g (x :: u) + (g.im x).length := hpp
            rw [List.length_append]; omega
          case rel =>
            have q1 : m + (pot g u + (left.length + 1)) ≤ 600 := hmH'
            have q2 : pot g u = pot g (x :: u) + (g.im x).length := hpp
            exact ⟨left ++ g.im x, x :: u, m + 1, t7, s5, hui2, by rw [List.length_append]; omega, rfl, fr5⟩
        · have t6 : Hidden (Tw w5 (w.heap.size + 1) (.slice (some ⟨b5, off5 + 1, none⟩) (left.length + (g.im x).length) (cap5 - 1)) (left ++ g.im x)) := by
            have := Tw.tail (show Tw w5 (w.heap.size + 1) (.slice (some ⟨b5, off5, none⟩) (left.length + (g.im x).length + 1) cap5) (x :: (left ++ g.im x)) from t5H) hc1
            rw [Nat.add_sub_cancel] at this
            exact this
          go_wp2
          go_roundg (pot g (x :: u) + (left ++ g.im x).length)
          case measure =>
            have q1 : gk = pot g u + (left.length + 1) := hkH'
            have q2 : pot g u = pot g (x :: u) + (g.im x).length := hpp
            rw [List.length_append]; omega
          case rel =>
            have q1 : m + (pot g u + (left.length + 1)) ≤ 600 := hmH'
            have q2 : pot g u = pot g (x :: u) + (g.im x).length := hpp
            exact ⟨left ++ g.im x, x :: u, m + 1, t6, s5, hui2, by rw [List.length_append]; omega, rfl, fr5⟩
end Go.Proofs.Ytajefmmggefbeaa.Dg
