/- FoldExtra. -/
import Derived.Test.YteodkhhdiabkkaaFoK2
import Derived.Test.YteodkhhdiabkkaaFoH
import Derived.Test.YteodkhhdiabkkaaFoIn
import Derived.Test.YteodkhhdiabkkaaTrIn
namespace Go.Proofs.Yteodkhhdiabkkaa.Fo
open Go.RowKit Te
set_option linter.unusedSimpArgs false
set_option linter.unusedVariables false

theorem catv (a b c : Bs) (hc : a ++ b = c) (h : c.length ≤ 9223372036854775807) (w : World) : (Op.stringOp .add ⟨a.toArray⟩ ⟨b.toArray⟩).run Try.prog w = .ok (.string ⟨c.toArray⟩) w := by
  subst hc
  rw [List.length_append] at h
  rw [run_string_add_sum w _ _ (by simp [ByteArray.size]; omega)]
  exact congrArg (fun x => Result.ok (Value.string x) w) (N.append_str a b)
set_option maxRecDepth 20000 in
set_option maxHeartbeats 8000000 in
theorem extra_any (h : EH) (k : Exs) (ea : Option Addr) (ec : Nat) (l more : List Con) (la : Option Addr) (lc : Nat) (ma : Option Addr) (mc : Nat) (w : World) (ho : OkE h) (hx : OkX k) (hk : ExL w ea ec k)
    (hl : CoL w la lc l) (hm : CoL w ma mc more) (hlo : ∀ c ∈ l, U64 c.b) (hmo : ∀ c ∈ more, U64 c.b) (hb : (l.length + more.length) * 48 ≤ 140737488355328) (hml : ∀ c ∈ more, c.mod.length + 1 ≤ 9223372036854775807) :
    Calls Try.prog 4 #[exV h (.slice ea k.len ec), .slice la l.length lc, .slice ma more.length mc] w fun e w' => e = .returned (.bool true) ∧ Fr FN w w' := by
  have m1 := hm.1
  have m2 : mc ≤ 9223372036854775807 := by have := hm.2.1; unfold maxLen at this; omega
  have f0 := Fr.alloc FN w (exO h (.slice ea k.len ec))
  have hA : Hidden ((w.alloc (exO h (.slice ea k.len ec))).heap[w.heap.size]? = some (exO h (.slice ea k.len ec))) := alloc_new _ _
  obtain ⟨W0, hW0⟩ : ∃ W, W = w.alloc (exO h (.slice ea k.len ec)) := ⟨_, rfl⟩
  rw [← hW0] at f0 hA
  have hW0H : Hidden (W0 = _) := hW0
  have f0H : Hidden (Fr FN w W0) := f0
  have kO := own_any l la lc W0 (hl.keep f0) (by omega)
  have hkH : Hidden (ExL W0 ea ec k) := hk.keep f0
  have hmH : Hidden (CoL W0 ma mc more) := hm.keep f0
  have hbH : Hidden ((l.length + more.length) * 48 ≤ 140737488355328) := hb
  have kE : ∀ (ll : List Con) (hll : ∀ c ∈ ll, U64 c.b) (aa : Option Addr) (cc : Nat) (u : World), Fr FN W0 u → CoL u aa cc ll → Calls Try.prog 8 #[exV h (.slice ea k.len ec), .slice aa ll.length cc] u fun e w' => e = .returned (.tuple #[vv (evalS ll h k).1, ci (evalS ll h k).2]) ∧ Fr FN u w' :=
    fun ll hll aa cc u f hc => eval_any ll hll h k _ aa cc u ho hx ⟨ea, ec, rfl, (show ExL W0 ea ec k from hkH).keep f⟩ hc
  have kEH : Hidden (∀ (ll : List Con) (hll : ∀ c ∈ ll, U64 c.b) (aa : Option Addr) (cc : Nat) (u : World), Fr FN W0 u → CoL u aa cc ll → Calls Try.prog 8 #[exV h (.slice ea k.len ec), .slice aa ll.length cc] u fun e w' => e = .returned (.tuple #[vv (evalS ll h k).1, ci (evalS ll h k).2]) ∧ Fr FN u w') := kE
  obtain ⟨R, hR⟩ : ∃ R, R = evalS l h k := ⟨_, rfl⟩
  have hRH : Hidden (R = evalS l h k) := hR
  obtain ⟨⟨t, b⟩, q⟩ := R
  have hloH : Hidden (∀ c ∈ l, U64 c.b) := hlo
  have hmoH : Hidden (∀ c ∈ more, U64 c.b) := hmo
  have hmlH : Hidden (∀ c ∈ more, c.mod.length + 1 ≤ 9223372036854775807) := hml
  clear hl hm hk hlo hmo hml hb ho hx hW0 kE hR f0
  go_enter Try.func4, Try.ntmps4
  go_wp2_with fail
  rw [← (show W0 = _ from hW0H)]
  go_at_call 5
  refine kO.mono ?_
  rintro e w1 ⟨v1, rfl, hr1, f1⟩
  have hr1H : Hidden (CoW w1 W0.heap.size v1 l) := hr1
  have f1H : Hidden (Fr FN W0 w1) := f1
  obtain ⟨a1, c1, hv1, hcl1⟩ := CoW.col hr1
  subst hv1
  have kE1 := (show ∀ (ll : List Con) (hll : ∀ c ∈ ll, U64 c.b) (aa : Option Addr) (cc : Nat) (u : World), Fr FN W0 u → CoL u aa cc ll → Calls Try.prog 8 #[exV h (.slice ea k.len ec), .slice aa ll.length cc] u fun e w' => e = .returned (.tuple #[vv (evalS ll h k).1, ci (evalS ll h k).2]) ∧ Fr FN u w' from kEH) l hloH a1 c1 w1 f1 hcl1
  rw [← (show _ = evalS l h k from hRH)] at kE1
  dsimp only [vv] at kE1
  obtain ⟨x0, x1, x2, x3, x4, x5, x6⟩ := ex_box (f1.heap hA (fun f => f))
  clear hr1 hcl1 kO f1
  go_wp2_with fail
  go_at_call 8
  refine kE1.mono ?_
  rintro e w2 ⟨rfl, f2⟩
  have fB := Fr.alloc FN w2 (zb (ci t) (.int .u64 b))
  have hB2 : Hidden ((w2.alloc (zb (ci t) (.int .u64 b))).heap[w2.heap.size]? = some (zb (ci t) (.int .u64 b))) := alloc_new _ _
  have fN := Fr.alloc FN (w2.alloc (zb (ci t) (.int .u64 b))) (.cells #[] 41)
  obtain ⟨W1, hW1⟩ : ∃ W, W = (w2.alloc (zb (ci t) (.int .u64 b))).alloc (.cells #[] 41) := ⟨_, rfl⟩
  have hN2 : W1.heap[w2.heap.size + 1]? = some (.cells #[] 41 (0, 0)) := by rw [hW1]; exact alloc_at _ _ _ (by simp)
  rw [← hW1] at fN
  have g1 : Hidden (Fr FN W0 W1) := (show Fr FN W0 w1 from f1H).same (f2.same (fB.same fN))
  have hr3 : Hidden (CoW W1 W0.heap.size (.slice a1 l.length c1) l) := (show CoW w1 W0.heap.size _ l from hr1H).keepN (f2.same (fB.same fN))
  have hrN : Hidden (CoW W1 (w2.heap.size + 1) (.slice (some ⟨w2.heap.size + 1, 0, none⟩) 0 0) []) := Rw.Row.new RC _ 4 W1 _ _ (Nat.le_refl _) hN2
  have hsz1 : Hidden (W1.heap.size = w2.heap.size + 2) := by rw [hW1]; simp [Hidden]
  have hB3 : Hidden (W1.heap[w2.heap.size]? = some (zb (ci t) (.int .u64 b))) := fN.heap hB2 (fun f => f)
  have hA3 : Hidden (W1.heap[w.heap.size]? = some (exO h (.slice ea k.len ec))) := (show Fr FN W0 W1 from g1).heap hA (fun f => f)
  have hW1H : Hidden (W1 = _) := hW1
  have hlt0 : Hidden (W0.heap.size ≤ w2.heap.size) := Nat.le_trans (show Fr FN W0 w1 from f1H).size f2.size
  clear hN2 hW1 kE1 f2 fB fN hB2 x0 x1 x2 x3 x4 x5 x6 hA
  go_wp2_with (at_builtin; rw [← (show W1 = _ from hW1H)]; refine wpl_rows rfl _ _ rfl (w2.heap.size + 1) (.slice (some ⟨w2.heap.size + 1, 0, none⟩) 0 0) [] l _ W0.heap.size rfl hrN rfl hr3 ?_ ?_ ?_ ?_; (focus (have : (l.length + more.length) * 48 ≤ 140737488355328 := hbH; simp [maxLen]; omega)); (focus (have : (l.length + more.length) * 48 ≤ 140737488355328 := hbH; simp; omega)); (focus (have : W1.heap.size = w2.heap.size + 2 := hsz1; omega)); intro v4 w4 hr4 f4 hown4; rw [List.nil_append] at hr4)
  have f4' : Fr FN W0 w4 := (show Fr FN W0 W1 from g1).over f4 (fun k hk => by
    have hk' : w2.heap.size + 1 = k := by simpa [Value.ownBlock] using hk
    have : W0.heap.size ≤ w2.heap.size := hlt0
    omega)
  have hB4 : Hidden (w4.heap[w2.heap.size]? = some (zb (ci t) (.int .u64 b))) := f4.heap hB3 (fun hk => by
    simp [Value.ownBlock] at hk)
  have f4H : Hidden (Fr FN W0 w4) := f4'
  have hr4H : Hidden (CoW w4 (w2.heap.size + 1) v4 l) := hr4
  have hsz4 : Hidden (w2.heap.size + 2 ≤ w4.heap.size) := by have : W1.heap.size = w2.heap.size + 2 := hsz1; have := f4.size; show _ ≤ _; omega
  clear hown4 hr4 f4 f4' hB3 hrN hr3 hW1H
  go_loopg [10, 11] more.length (fun g lv iv wr => ∃ (i : Nat), iv = ci (i : Int) ∧ i ≤ more.length ∧ CoW wr (w2.heap.size + 1) lv (l ++ (more.take i).map exC) ∧ g = more.length - i ∧ Fr FN W0 wr ∧ wr.heap[w2.heap.size]? = some (zb (ci t) (.int .u64 b)) ∧ w2.heap.size + 2 ≤ wr.heap.size)
  case atStart => exact ⟨0, rfl, by omega, by simpa using (show CoW w4 (w2.heap.size + 1) v4 l from hr4H), rfl, f4H, hB4, hsz4⟩
  case round =>
    obtain ⟨i, rfl, hi, hrow, hgk, hfr, hbx, hszr⟩ := hrel
    have hgkH : Hidden (gk = more.length - i) := hgk
    have htl : (l ++ (more.take i).map exC).length = l.length + i := by simp; omega
    obtain ⟨ao2, cap2, hv, hc1, hc2, _⟩ := hrow.slice
    rw [htl] at hv hc1
    subst hv
    have hc3 : cap2 ≤ 9223372036854775807 := by unfold maxLen at hc2; omega
    have hrowH : Hidden (CoW wr (w2.heap.size + 1) (.slice ao2 (l.length + i) cap2) (l ++ (more.take i).map exC)) := hrow
    have hfrH : Hidden (Fr FN W0 wr) := hfr
    have hbxH : Hidden (wr.heap[w2.heap.size]? = some (zb (ci t) (.int .u64 b))) := hbx
    have hszrH : Hidden (w2.heap.size + 2 ≤ wr.heap.size) := hszr
    clear hgk hrow hc2 hbx
    by_cases hil : i < more.length
    · obtain ⟨c, ht⟩ : ∃ c, more[i]? = some c := ⟨more[i], List.getElem?_eq_getElem hil⟩
      obtain ⟨g, off, rfl, d0, d1, d2, d3⟩ := CoL.at (show CoL W0 _ mc more from hmH) ht
      have hgw : g < W0.heap.size := cell_lt d0
      replace d0 := hfr.cellN d0
      replace d1 := hfr.cellN d1
      replace d2 := hfr.cellN d2
      replace d3 := hfr.cellN d3
      have hgnH : Hidden (¬ (Value.slice ao2 (l.length + i) cap2).ownBlock = some g) := fun hh => by
        have h1 := ((show CoW wr (w2.heap.size + 1) (.slice ao2 (l.length + i) cap2) _ from hrowH).low g hh).1
        have : W0.heap.size ≤ w2.heap.size := hlt0
        omega
      have hts : Hidden (l ++ (more.take (i + 1)).map exC = (l ++ (more.take i).map exC) ++ [exC c]) := by rw [take_snoc ht]; simp [Hidden]
      have htlH : Hidden ((l ++ (more.take i).map exC).length = l.length + i) := htl
      have tc := catv [57] c.mod (57 :: c.mod) rfl (by have := (show ∀ c ∈ more, c.mod.length + 1 ≤ 9223372036854775807 from hmlH) c (List.mem_of_getElem? ht); simpa using this)
      clear ht htl
      go_wp2_with fail
      go_region_held3 (fun w' => w'.cell? ⟨g, off + i * 4, none⟩ = some (ct c.mod) ∧ w'.cell? ⟨g, off + i * 4 + 1, none⟩ = some (ct c.name) ∧ w'.cell? ⟨g, off + i * 4 + 2, none⟩ = some (ci c.t) ∧ w'.cell? ⟨g, off + i * 4 + 3, none⟩ = some (.int .u64 c.b)) (first | (refine ⟨by with_reducible assumption, by with_reducible assumption, by with_reducible assumption, by with_reducible assumption⟩) | go_keep) (first
        | (refine Rw.step_rows (R := RC) rfl _ _ 30 41 (.agg #[.string ⟨#[]⟩, .string ⟨#[]⟩, .int .i64 0, .int .u64 0]) 4 48 Try.underlying30 info_con rfl (by decide) rfl (w2.heap.size + 1) (.slice ao2 (l.length + i) cap2) (l ++ (more.take i).map exC) [exC c] (coC (exC c)) ⟨wr.heap.size, 0, none⟩ 1 1 rfl ?c0 rfl rfl (chunk1 (exC c)) ?c1 (coC_one (exC c)) ?c2 ?c3 ?c4 ?_
           case c0 => exact ((show CoW wr (w2.heap.size + 1) (.slice ao2 (l.length + i) cap2) _ from hrowH).keepN (Fr.alloc _ _ _)).keepN (Fr.drew _ _)
           case c1 => exact co_row (c := exC c) (w := (wr.alloc _).drew) (alloc_new _ _)
           case c2 => rw [(show (l ++ (more.take i).map exC).length = l.length + i from htlH)]; simp [maxLen]; have : (l.length + more.length) * 48 ≤ 140737488355328 := hbH; omega
           case c3 => rw [(show (l ++ (more.take i).map exC).length = l.length + i from htlH)]; simp only [List.length_singleton]; have : (l.length + more.length) * 48 ≤ 140737488355328 := hbH; omega
           case c4 => have : w2.heap.size + 2 ≤ wr.heap.size := hszrH; simp; omega
           intro v2 W2 hrow2 f2 _
           have kp : ∀ (m : Nat) (u : Value), wr.cell? ⟨g, m, none⟩ = some u → W2.cell? ⟨g, m, none⟩ = some u := fun m u hu => f2.cell (((Fr.alloc FN wr _).same (Fr.drew _ _)).cellN hu) hgnH
           have q0 := kp _ _ d0
           have q1 := kp _ _ d1
           have q2 := kp _ _ d2
           have q3 := kp _ _ d3
           clear kp))
      go_wp2_with fail
      have hlow := fun k hk => ((show CoW wr (w2.heap.size + 1) (.slice ao2 (l.length + i) cap2) (l ++ (more.take i).map exC) from hrowH).low k hk).1
      have fall := ((Fr.alloc FN wr _).same (Fr.drew _ _)).mono (fun _ _ f => f.elim) |>.same f2
      go_roundg (more.length - (i + 1))
      case measure => have : gk = more.length - i := hgkH; omega
      case rel =>
        refine ⟨i + 1, by go_num, by omega, ?_, rfl, ?_, ?_, ?_⟩
        · rw [(show l ++ (more.take (i + 1)).map exC = _ from hts)]
          exact hrow2
        · exact (show Fr FN W0 wr from hfrH).over fall (fun k hk => by have := hlow k hk; have : W0.heap.size ≤ w2.heap.size := hlt0; omega)
        · exact fall.heap hbxH (fun hk => by have := hlow _ hk; omega)
        · have : w2.heap.size + 2 ≤ wr.heap.size := hszrH; have := fall.size; omega
    · obtain rfl : i = more.length := by omega
      have hrow5 : CoW wr (w2.heap.size + 1) (.slice ao2 (l.length + more.length) cap2) (l ++ more.map exC) := by
        have := (show CoW wr (w2.heap.size + 1) (.slice ao2 (l.length + more.length) cap2) (l ++ (more.take more.length).map exC) from hrowH)
        rw [List.take_length] at this
        exact this
      obtain ⟨a5, c5, hv5, hcl5⟩ := CoW.col hrow5
      have hlen5 : (l ++ more.map exC).length = l.length + more.length := by simp
      rw [hlen5] at hv5
      cases hv5
      have kE2 := (show ∀ (ll : List Con) (hll : ∀ c ∈ ll, U64 c.b) (aa : Option Addr) (cc : Nat) (u : World), Fr FN W0 u → CoL u aa cc ll → Calls Try.prog 8 #[exV h (.slice ea k.len ec), .slice aa ll.length cc] u fun e w' => e = .returned (.tuple #[vv (evalS ll h k).1, ci (evalS ll h k).2]) ∧ Fr FN u w' from kEH) (l ++ more.map exC) (fun c hc => by
        rcases List.mem_append.1 hc with hc | hc
        · exact (show ∀ c ∈ l, U64 c.b from hloH) c hc
        · obtain ⟨d, hd, rfl⟩ := List.mem_map.1 hc
          exact (show ∀ c ∈ more, U64 c.b from hmoH) d hd) ao2 cap2 wr hfrH hcl5
      rw [hlen5, evalS_more l (more.map exC) (fun c hc => by obtain ⟨d, _, rfl⟩ := List.mem_map.1 hc; exact ⟨d.mod, rfl⟩) h k, ← (show _ = evalS l h k from hRH)] at kE2
      dsimp only [vv] at kE2
      have hA5 := (show Fr FN W0 wr from hfrH).heap (k := w.heap.size) (o := exO h (.slice ea k.len ec)) (by
        have := hW0H
        rw [show W0 = _ from this]
        exact alloc_new _ _) (fun f => f)
      obtain ⟨x0, x1, x2, x3, x4, x5, x6⟩ := ex_box hA5
      clear hrow5 hcl5 hlen5 hA5
      go_wp2_with fail
      go_at_call 8
      refine kE2.mono ?_
      rintro e w6 ⟨rfl, f6⟩
      have fC := f6.same (Fr.alloc FN w6 (zb (ci t) (.int .u64 b)))
      obtain ⟨y0, y1, _, _⟩ := box2 (fC.heap hbxH (fun f => f))
      go_wp2_with (go_at_call 7; refine (alive_any _).mono ?_; rintro e w7 ⟨rfl, f7⟩)
      go_ret
      exact ⟨rfl, (show Fr FN w W0 from f0H).same ((show Fr FN W0 wr from hfrH).same (fC.same f7))⟩
end Go.Proofs.Yteodkhhdiabkkaa.Fo
namespace Go.Proofs.Yteodkhhdiabkkaa.foldExtra
theorem sum_ge (l : List Fo.Con) : l.length ≤ Fo.bk_cons l := by
  unfold Fo.bk_cons
  induction l with
  | nil => simp
  | cons c r ih => simp only [List.length_cons, List.map_cons, List.sum_cons, Fo.bkC]; omega
theorem one_le (l : List Fo.Con) (c : Fo.Con) (hc : c ∈ l) : Fo.bkC c ≤ Fo.bk_cons l := by
  unfold Fo.bk_cons
  induction l with
  | nil => cases hc
  | cons d r ih =>
    simp only [List.map_cons, List.sum_cons]
    rcases List.mem_cons.1 hc with rfl | hc
    · omega
    · have := ih hc; omega
theorem walk (v : Value) (h : Te.EH) (k : Te.Exs) (lv : Value) (l : List Fo.Con) (mv : Value) (m : List Fo.Con) (W : World) (h0 : ExI W h k v) (h1 : OkE h) (h2 : OkX k) (_h3 : h.mod.length + h.name.length + In.bkX k ≤ 1048576)
    (h4 : Fo.CoI W lv l) (h5 : ∀ c ∈ l, Fo.OkC c) (h6 : Fo.bk_cons l ≤ 1048576) (h7 : Fo.CoI W mv m) (h8 : ∀ c ∈ m, Fo.OkC c) (h9 : Fo.bk_cons m ≤ 1048576) :
    Calls Try.prog 4 #[v, lv, mv] W fun e w' => e = .returned (.bool true) ∧ Fr (fun _ => False) W w' := by
  obtain ⟨ea, ec, rfl, hk⟩ := h0
  obtain ⟨la, lc, rfl, hl⟩ := h4
  obtain ⟨ma, mc, rfl, hm⟩ := h7
  have := sum_ge l
  have := sum_ge m
  exact Fo.extra_any h k ea ec l m la lc ma mc W h1 h2 hk hl hm (fun c hc => (h5 c hc).b) (fun c hc => (h8 c hc).b) (by omega) (fun c hc => by have := one_le m c hc; simp only [Fo.bkC] at this; omega)
end Go.Proofs.Yteodkhhdiabkkaa.foldExtra
