/- FoldLifts. -/
import Derived.Test.YtbmaaaeipcopcaaFoL8
import Derived.Test.YtbmaaaeipcopcaaFoK2
import Derived.Test.YtbmaaaeipcopcaaFoH
import Derived.Test.YtbmaaaeipcopcaaFoIn
import Derived.Test.YtbmaaaeipcopcaaTrIn
namespace Go.Proofs.Ytbmaaaeipcopcaa.Fo
open Go.RowKit Te
set_option linter.unusedSimpArgs false
set_option linter.unusedVariables false

theorem box4 {w : World} {g : Nat} {a b c d : Value} {t : TypeId} (h : w.heap[g]? = some (.cells #[a, b, c, d] t (0, 0))) : w.cell? ⟨g, 0, none⟩ = some a ∧ w.cell? ⟨g, 1, none⟩ = some b ∧ w.cell? ⟨g, 2, none⟩ = some c ∧ w.cell? ⟨g, 3, none⟩ = some d :=
  ⟨cell_of_row _ _ 0 _ _ _ h, cell_of_row _ _ 1 _ _ _ h, cell_of_row _ _ 2 _ _ _ h, cell_of_row _ _ 3 _ _ _ h⟩
theorem hpD (w : World) (o : Obj) : (w.alloc o).drew.heap[w.heap.size]? = some o := alloc_new w o
theorem hpE (w : World) (o o2 : Obj) : ((w.alloc o).alloc o2).drew.heap[w.heap.size]? = some o := (alloc_old _ _ _ (by simp)).trans (alloc_new w o)
theorem hpF (w : World) (o o2 : Obj) : ((w.alloc o).alloc o2).drew.heap[w.heap.size + 1]? = some o2 := alloc_at _ _ _ (by simp)
theorem two_set {w : World} {g : Nat} {x y : Value} (hg : w.heap[g]? = some (zb x y)) (v0 v1 : Value) : ((w.setCell ⟨g, 0, none⟩ v0).setCell ⟨g, 1, none⟩ v1).heap[g]? = some (zb v0 v1) :=
  heap_setCell_same _ g 1 _ _ v1 (heap_setCell_same _ g 0 _ _ v0 hg)
theorem two_fr (w : World) (g : Nat) (v0 v1 : Value) : Fr (fun k => k = g) w ((w.setCell ⟨g, 0, none⟩ v0).setCell ⟨g, 1, none⟩ v1) := (Fr.setCell w ⟨g, 0, none⟩ v0).same (Fr.setCell _ ⟨g, 1, none⟩ v1)
theorem eval_w (h' : EH) (k' : Exs) (o1 : OkE h') (o2 : OkX k') (ll : List Con) (hll : ∀ c ∈ ll, U64 c.b) (aa : Option Addr) (cc : Nat) (xa : Option Addr) (xc : Nat) (u : World) (hL : ExL u xa xc k') (hc : CoL u aa cc ll) (t b q : Int) (he : evalS ll h' k' = ((t, b), q)) :
    Calls Try.prog 7 #[exV h' (.slice xa k'.len xc), .slice aa ll.length cc] u fun e w' => e = .returned (.tuple #[.agg #[.int .i64 t, .int .u64 b], ci q]) ∧ Fr FN u w' := by
  have := eval_any ll hll h' k' _ aa cc u o1 o2 ⟨xa, xc, rfl, hL⟩ hc
  rw [he] at this
  exact this
set_option maxRecDepth 20000 in
set_option maxHeartbeats 16000000 in
theorem lifts_any (h : EH) (k : Exs) (ea : Option Addr) (ec : Nat) (l : List Con) (la : Option Addr) (lc : Nat) (ws : List Bool) (wa : Option Addr) (wc : Nat) (w : World) (ho : OkE h) (hx : OkX k) (hk : ExL w ea ec k)
    (hl : CoL w la lc l) (hlo : ∀ c ∈ l, U64 c.b) (hb : l.length * 48 ≤ 140737488351232) (hks : k.len * 88 ≤ 140737488351232) (hbd : BdX k) (hw : BoR w wa wc ws) :
    Calls Try.prog 3 #[exV h (.slice ea k.len ec), .slice la l.length lc, .slice wa ws.length wc] w fun e w' => e = .returned (.bool true) ∧ Fr FN w w' := by
  have m1 := hl.1
  have m2 : lc ≤ 9223372036854775807 := by have := hl.2.1; unfold maxLen at this; omega
  have f0 := Fr.alloc FN w (exO h (.slice ea k.len ec))
  have hA : Hidden ((w.alloc (exO h (.slice ea k.len ec))).heap[w.heap.size]? = some (exO h (.slice ea k.len ec))) := alloc_new _ _
  obtain ⟨W0, hW0⟩ : ∃ W, W = w.alloc (exO h (.slice ea k.len ec)) := ⟨_, rfl⟩
  have hsz0 : Hidden (W0.heap.size = w.heap.size + 1) := by rw [hW0]; simp [Hidden]
  rw [← hW0] at f0 hA
  have hW0H : Hidden (W0 = _) := hW0
  have f0H : Hidden (Fr FN w W0) := f0
  have kO := own_any l la lc W0 (hl.keep f0) (by omega)
  have hkH : Hidden (ExL W0 ea ec k) := hk.keep f0
  have hlH : Hidden (CoL W0 la lc l) := hl.keep f0
  have hwH : Hidden (BoR W0 wa wc ws) := hw.keep f0
  have hbH : Hidden (l.length * 48 ≤ 140737488351232) := hb
  have kE : ∀ (h' : EH) (k' : Exs), OkE h' → OkX k' → ∀ (ll : List Con) (hll : ∀ c ∈ ll, U64 c.b) (aa : Option Addr) (cc : Nat) (xa : Option Addr) (xc : Nat) (u : World), ExL u xa xc k' → CoL u aa cc ll → ∀ t b q, evalS ll h' k' = ((t, b), q) → Calls Try.prog 7 #[exV h' (.slice xa k'.len xc), .slice aa ll.length cc] u fun e w' => e = .returned (.tuple #[.agg #[.int .i64 t, .int .u64 b], ci q]) ∧ Fr FN u w' :=
    fun h' k' o1 o2 ll hll aa cc xa xc u hL hc t b q he => by
      have := eval_any ll hll h' k' _ aa cc u o1 o2 ⟨xa, xc, rfl, hL⟩ hc
      rw [he] at this
      exact this
  have kEH : Hidden (∀ (h' : EH) (k' : Exs), OkE h' → OkX k' → ∀ (ll : List Con) (hll : ∀ c ∈ ll, U64 c.b) (aa : Option Addr) (cc : Nat) (xa : Option Addr) (xc : Nat) (u : World), ExL u xa xc k' → CoL u aa cc ll → ∀ t b q, evalS ll h' k' = ((t, b), q) → Calls Try.prog 7 #[exV h' (.slice xa k'.len xc), .slice aa ll.length cc] u fun e w' => e = .returned (.tuple #[.agg #[.int .i64 t, .int .u64 b], ci q]) ∧ Fr FN u w') := kE
  have hokH : Hidden (OkE h ∧ OkX k) := ⟨ho, hx⟩
  have hksH : Hidden (k.len * 88 ≤ 140737488351232) := hks
  have hbdH : Hidden (BdX k) := hbd
  have hloH : Hidden (∀ c ∈ l, U64 c.b) := hlo
  clear hl hk hlo hb ho hx hW0 kE f0 hw hks hbd
  go_enter Try.func3, Try.ntmps3
  go_wp2_with fail
  rw [← (show W0 = _ from hW0H)]
  go_at_call 4
  refine kO.mono ?_
  rintro e w1 ⟨v1, rfl, hr1, f1⟩
  have hr1H : Hidden (CoW w1 W0.heap.size v1 l) := hr1
  have f1H : Hidden (Fr FN W0 w1) := f1
  obtain ⟨a1, c1, hv1, hcl1⟩ := CoW.col hr1
  subst hv1
  obtain ⟨x0, x1, x2, x3, x4, x5, x6⟩ := ex_box (f1.heap hA (fun f => f))
  have kn := names_any zz h k ea ec w1 ((show ExL W0 ea ec k from hkH).keep f1)
  clear hr1 hcl1 kO f1
  obtain ⟨nm, hnm⟩ : ∃ nm, nm = namX zz h k := ⟨_, rfl⟩
  rw [← hnm] at kn
  have hnmH : Hidden (nm = namX zz h k) := hnm
  clear hnm
  go_wp2_with fail
  go_at_call 5
  refine kn.mono ?_
  rintro e w2 ⟨rfl, f2⟩
  have g2 : Hidden (Fr FN W0 w2) := (show Fr FN W0 w1 from f1H).same f2
  have hr2 : Hidden (CoW w2 W0.heap.size (.slice a1 l.length c1) l) := (show CoW w1 W0.heap.size _ l from hr1H).keepN f2
  clear kn f2 x0 x1 x2 x3 x4 x5 x6 hr1H f1H
  cases nm with
  | true =>
    go_wp2_with (go_at_call 6; refine (alive_any _).mono ?_; rintro e w7 ⟨rfl, f7⟩)
    go_ret
    exact ⟨rfl, (show Fr FN w W0 from f0H).same ((show Fr FN W0 w2 from g2).same f7)⟩
  | false =>
  go_wp2_with fail
  go_loopg [8] l.length (fun g iv wr => ∃ (i : Nat), iv = ci (i : Int) ∧ i ≤ l.length ∧ (∀ (j : Nat) (c : Con), j < i → l[j]? = some c → c.name ≠ zz) ∧ g = l.length - i ∧ wr = w2)
  case atStart => exact ⟨0, rfl, by omega, fun j c hj => by omega, rfl, rfl⟩
  case round =>
    obtain ⟨i, rfl, hi, hall, hgk, hwr⟩ := hrel
    subst hwr
    have hgkH : Hidden (gk = l.length - i) := hgk
    have hallH : Hidden (∀ (j : Nat) (c : Con), j < i → l[j]? = some c → c.name ≠ zz) := hall
    clear hgk hall
    by_cases hil : i < l.length
    · obtain ⟨c, ht⟩ : ∃ c, l[i]? = some c := ⟨l[i], List.getElem?_eq_getElem hil⟩
      obtain ⟨g, off, rfl, d0, d1, d2, d3⟩ := CoL.at (show CoL W0 _ lc l from hlH) ht
      have d1 := (show Fr FN W0 _ from g2).cellN d1
      have htH : Hidden (l[i]? = some c) := ht
      clear ht d0 d2 d3
      by_cases hz : c.name = zz
      · have hz2 : (c.name == [122, 122, 95, 110, 101, 119]) = true := by rw [hz]; decide
        clear hz
        go_wp2_with (go_at_call 6; refine (alive_any _).mono ?_; rintro e w7 ⟨rfl, f7⟩)
        go_ret
        exact ⟨rfl, (show Fr FN w W0 from f0H).same ((show Fr FN W0 _ from g2).same f7)⟩
      · have hz2 : (c.name == [122, 122, 95, 110, 101, 119]) = false := by
          rw [beq_eq_false_iff_ne]
          exact hz
        have hzH : Hidden (c.name ≠ zz) := hz
        clear hz
        go_wp2_with fail
        go_roundg (l.length - (i + 1))
        case measure => have : gk = l.length - i := hgkH; omega
        case rel =>
          refine ⟨i + 1, by go_num, by omega, fun j c' hj hc' => ?_, rfl, rfl⟩
          rcases Nat.lt_or_eq_of_le (Nat.le_of_lt_succ hj) with h1 | rfl
          · exact (show ∀ (j : Nat) (c : Con), j < i → l[j]? = some c → c.name ≠ zz from hallH) j c' h1 hc'
          · rw [show l[j]? = some c from htH] at hc'
            cases hc'
            exact hzH
    · obtain rfl : i = l.length := by omega
      have hallz : Hidden (∀ c ∈ l, c.name ≠ zz) := fun c hc => by
        obtain ⟨j, hj, e⟩ := List.getElem_of_mem hc
        exact (show ∀ (j : Nat) (c : Con), j < l.length → l[j]? = some c → c.name ≠ zz from hallH) j c hj (by rw [List.getElem?_eq_getElem hj, e])
      clear hallH hgkH hil hi
      obtain ⟨⟨⟨t, b⟩, q⟩, hev⟩ : ∃ R, evalS l h k = R := ⟨_, rfl⟩
      obtain ⟨ho, hx⟩ := (show OkE h ∧ OkX k from hokH)
      obtain ⟨a1', c1', hv1, hcl2⟩ := CoW.col hr2
      simp only [Value.slice.injEq, true_and] at hv1
      obtain ⟨rfl, rfl⟩ := hv1
      have kE1 := (show ∀ (h' : EH) (k' : Exs), OkE h' → OkX k' → _ from kEH) h k ho hx l hloH a1 c1 ea ec _ ((show ExL W0 ea ec k from hkH).keep g2) hcl2 t b q hev
      have hevH : Hidden (evalS l h k = ((t, b), q)) := hev
      obtain ⟨x0, x1, x2, x3, x4, x5, x6⟩ := ex_box ((show Fr FN W0 _ from g2).heap hA (fun f => f))
      clear hev hcl2 ho hx
      go_upto_region 9 with fail
      go_upto_region 10 with (go_at_call 7; refine kE1.mono ?_; rintro e w3 ⟨rfl, f3⟩)
      obtain ⟨W3, hW3⟩ : ∃ W3, W3 = w3.alloc (zb (.int .i64 t) (.int .u64 b)) := ⟨_, rfl⟩
      have f3b : Fr FN w3 W3 := by rw [hW3]; exact Fr.alloc _ _ _
      have hB9 : Hidden (W3.heap[w3.heap.size]? = some (zb (.int .i64 t) (.int .u64 b))) := by rw [hW3]; exact alloc_new _ _
      rw [← hW3]
      have hs3 : Hidden (W3.heap.size = w3.heap.size + 1) := by rw [hW3]; simp [Hidden]
      have g3 : Fr FN W0 W3 := ((show Fr FN W0 wr from g2).same f3).same f3b
      have g3H : Hidden (Fr FN W0 W3) := g3
      have hr3 : Hidden (CoW W3 W0.heap.size (.slice a1 l.length c1) l) := (show CoW wr W0.heap.size _ l from hr2).keepN (f3.same f3b)
      have kl := lift_all ws h k ea ec wa wc W0.heap.size W3 g3.size (fun w'' f => (show ExL W0 ea ec k from hkH).keep (g3.over f (fun b hb => hb))) hksH hbdH ((show BoR W0 wa wc ws from hwH).keep g3)
      obtain ⟨⟨X, P⟩, hXP⟩ : ∃ R, liftS ws h k = R := ⟨_, rfl⟩
      obtain ⟨⟨oX1, oX2⟩, oP1, oP2⟩ := ok_lift ws h k (show OkE h ∧ OkX k from hokH).1 (show OkE h ∧ OkX k from hokH).2
      rw [hXP] at kl oX1 oX2 oP1 oP2
      have hXPH : Hidden (liftS ws h k = (X, P)) := hXP
      have okH : Hidden ((OkE X.1 ∧ OkX X.2) ∧ OkE P.1 ∧ OkX P.2) := ⟨⟨oX1, oX2⟩, oP1, oP2⟩
      obtain ⟨x0, x1, x2, x3, x4, x5, x6⟩ := ex_box (g3.heap hA (fun f => f))
      have hs23 : Hidden (wr.heap.size ≤ w3.heap.size) := f3.size
      clear hW3 f3 f3b g3 hXP kE1 oX1 oX2 oP1 oP2
      simp only at kl
      go_upto_region 11 with (go_at_call 8; refine Calls.mono kl ?_; rintro e w4 ⟨xa, xc, pa, pc, rfl, kx, kp, f4⟩)
      obtain ⟨W5, hW5⟩ : ∃ W5, W5 = (w4.alloc (exO X.1 (.slice xa X.2.len xc))).alloc (exO P.1 (.slice pa P.2.len pc)) := ⟨_, rfl⟩
      have f5 : Fr FN w4 W5 := by rw [hW5]; exact (Fr.alloc _ _ _).same (Fr.alloc _ _ _)
      have hB11 : Hidden (W5.heap[w4.heap.size]? = some (exO X.1 (.slice xa X.2.len xc))) := by rw [hW5]; exact (alloc_old _ _ _ (by simp)).trans (alloc_new _ _)
      have hB12 : W5.heap[w4.heap.size + 1]? = some (exO P.1 (.slice pa P.2.len pc)) := by rw [hW5]; exact alloc_at _ _ _ (by simp)
      rw [← hW5]
      have hs5 : Hidden (W5.heap.size = w4.heap.size + 2) := by rw [hW5]; simp [Hidden]
      have f45 : Fr FN W3 W5 := f4.same f5
      have hB9b : Hidden (W5.heap[w3.heap.size]? = some (zb (.int .i64 t) (.int .u64 b))) := f45.heap hB9 (fun f => f)
      have hr5 := (show CoW W3 W0.heap.size (.slice a1 l.length c1) l from hr3).keepN f45
      have hr5H : Hidden (CoW W5 W0.heap.size (.slice a1 l.length c1) l) := hr5
      have hs34 : Hidden (W3.heap.size ≤ w4.heap.size) := f4.size
      have g5H : Hidden (Fr FN W0 W5) := (show Fr FN W0 W3 from g3H).same f45
      have kxH : Hidden (KpX W5 (fun b => W0.heap.size ≤ b ∧ b < W3.heap.size) xa xc X.2) := fun w'' f => kx w'' (f5.mono (fun _ _ f => f.elim) |>.same f)
      obtain ⟨⟨⟨t2, b2⟩, q2⟩, hep⟩ : ∃ R, evalS l P.1 P.2 = R := ⟨_, rfl⟩
      obtain ⟨a1', c1', hv1, hcl5⟩ := CoW.col hr5
      simp only [Value.slice.injEq, true_and] at hv1
      obtain ⟨rfl, rfl⟩ := hv1
      have kE2 := (show ∀ (h' : EH) (k' : Exs), OkE h' → OkX k' → _ from kEH) P.1 P.2 (show (OkE X.1 ∧ OkX X.2) ∧ OkE P.1 ∧ OkX P.2 from okH).2.1 (show (OkE X.1 ∧ OkX X.2) ∧ OkE P.1 ∧ OkX P.2 from okH).2.2 l hloH a1 c1 pa pc W5 (kp W5 (f5.mono (fun _ _ f => f.elim))) hcl5 t2 b2 q2 hep
      have hepH : Hidden (evalS l P.1 P.2 = ((t2, b2), q2)) := hep
      obtain ⟨x0, x1, x2, x3, x4, x5, x6⟩ := ex_box hB12
      clear hW5 f4 f5 kx kp hB12 f45 hr5 hep hcl5 kl
      go_upto_region 12 with (go_at_call 7; refine kE2.mono ?_; rintro e w6 ⟨rfl, f6⟩)
      obtain ⟨W6, hW6⟩ : ∃ W6, W6 = w6.alloc (zb (.int .i64 t2) (.int .u64 b2)) := ⟨_, rfl⟩
      have f6b : Fr FN W5 W6 := by rw [hW6]; exact f6.same (Fr.alloc _ _ _)
      have hB13 : Hidden (W6.heap[w6.heap.size]? = some (zb (.int .i64 t2) (.int .u64 b2))) := by rw [hW6]; exact alloc_new _ _
      rw [← hW6]
      have hs56 : Hidden (W5.heap.size ≤ w6.heap.size) := f6.size
      have g6 : Fr FN W0 W6 := (show Fr FN W0 W5 from g5H).same f6b
      have g6H : Hidden (Fr FN W0 W6) := g6
      have f6H : Hidden (Fr FN W5 W6) := f6b
      clear hW6 f6 f6b g6 kE2 x0 x1 x2 x3 x4 x5 x6
      have hq0 : (q = 13 ∨ q = 1 ∨ q = 12 ∨ q = 3) ∨ ¬ (q = 13 ∨ q = 1 ∨ q = 12 ∨ q = 3) := Decidable.em _
      rcases hq0 with (rfl | rfl | rfl | rfl) | hq
      · go_wp2_with (go_at_call 6; refine (alive_any _).mono ?_; rintro e w7 ⟨rfl, f7⟩)
        go_ret
        exact ⟨rfl, (show Fr FN w W0 from f0H).same ((show Fr FN W0 W6 from g6H).same f7)⟩
      · go_wp2_with (go_at_call 6; refine (alive_any _).mono ?_; rintro e w7 ⟨rfl, f7⟩)
        go_ret
        exact ⟨rfl, (show Fr FN w W0 from f0H).same ((show Fr FN W0 W6 from g6H).same f7)⟩
      · go_wp2_with (go_at_call 6; refine (alive_any _).mono ?_; rintro e w7 ⟨rfl, f7⟩)
        go_ret
        exact ⟨rfl, (show Fr FN w W0 from f0H).same ((show Fr FN W0 W6 from g6H).same f7)⟩
      · go_wp2_with (go_at_call 6; refine (alive_any _).mono ?_; rintro e w7 ⟨rfl, f7⟩)
        go_ret
        exact ⟨rfl, (show Fr FN w W0 from f0H).same ((show Fr FN W0 W6 from g6H).same f7)⟩
      have p1 : (q == 13) = false := by simp; omega
      have p2 : (q == 1) = false := by simp; omega
      have p3 : (q == 12) = false := by simp; omega
      have p4 : (q == 3) = false := by simp; omega
      have hqH : Hidden (¬ (q = 13 ∨ q = 1 ∨ q = 12 ∨ q = 3)) := hq
      clear hq
      by_cases hq2 : q2 = 0
      case neg =>
        have p5 : (q2 != 0) = true := by simp; omega
        have p6 : (q2 == 0) = false := by simp; omega
        clear hq2
        go_wp2_with (go_at_call 6; refine (alive_any _).mono ?_; rintro e w7 ⟨rfl, f7⟩)
        go_ret
        exact ⟨rfl, (show Fr FN w W0 from f0H).same ((show Fr FN W0 W6 from g6H).same f7)⟩
      case pos =>
      subst hq2
      go_upto_region 14 with (go_at_call 6; refine (alive_any _).mono ?_; rintro e w7 ⟨rfl, f7⟩)
      obtain ⟨V, hV⟩ : ∃ V, V = w7 := ⟨_, rfl⟩
      subst hV
      have gV : Fr FN W0 V := (show Fr FN W0 W6 from g6H).same f7
      have fV5 : Fr FN W5 V := (show Fr FN W5 W6 from f6H).same f7
      have hsV : Hidden (W0.heap.size ≤ V.heap.size) := gV.size
      have hrV : Hidden (CoW V W0.heap.size (.slice a1 l.length c1) l) := (show CoW W5 W0.heap.size (.slice a1 l.length c1) l from hr5H).keepN fV5
      have hownH : Hidden (∀ k, (Value.slice a1 l.length c1).ownBlock = some k → W0.heap.size ≤ k ∧ k < W3.heap.size) := (show CoW W3 W0.heap.size (.slice a1 l.length c1) l from hr3).low
      have hsz3 : W3.heap.size = w3.heap.size + 1 := hs3
      have hsz34 : W3.heap.size ≤ w4.heap.size := hs34
      have hsz5 : W5.heap.size = w4.heap.size + 2 := hs5
      have hsz56 : W5.heap.size ≤ w6.heap.size := hs56
      have hB9V : Hidden (V.heap[w3.heap.size]? = some (zb (.int .i64 t) (.int .u64 b))) := fV5.heap hB9b (fun f => f)
      have hnV0 : ¬ (Value.slice a1 l.length c1).ownBlock = some V.heap.size := fun e => by have := ((show ∀ k, (Value.slice a1 l.length c1).ownBlock = some k → W0.heap.size ≤ k ∧ k < W3.heap.size from hownH) _ e).2; have := fV5.size; omega
      have hnV1 : ¬ (Value.slice a1 l.length c1).ownBlock = some (V.heap.size + 1) := fun e => by have := ((show ∀ k, (Value.slice a1 l.length c1).ownBlock = some k → W0.heap.size ≤ k ∧ k < W3.heap.size from hownH) _ e).2; have := fV5.size; omega
      have hn9 : ¬ (Value.slice a1 l.length c1).ownBlock = some w3.heap.size := fun e => by have := ((show CoW wr W0.heap.size (.slice a1 l.length c1) l from hr2).low _ e).2; have : wr.heap.size ≤ w3.heap.size := hs23; omega
      have hn11 : ¬ (Value.slice a1 l.length c1).ownBlock = some w4.heap.size := fun e => by have := ((show ∀ k, (Value.slice a1 l.length c1).ownBlock = some k → W0.heap.size ≤ k ∧ k < W3.heap.size from hownH) _ e).2; omega
      have hn13 : ¬ (Value.slice a1 l.length c1).ownBlock = some w6.heap.size := fun e => by have := ((show ∀ k, (Value.slice a1 l.length c1).ownBlock = some k → W0.heap.size ≤ k ∧ k < W3.heap.size from hownH) _ e).2; omega
      obtain ⟨y0, y1, y2, y3, y4, y5, y6⟩ := ex_box (fV5.heap hB11 (fun f => f))
      obtain ⟨z0, z1, _, _⟩ := box2 (f7.heap hB13 (fun f => f))
      have hle := lift_eval l ws h k t b q t2 b2 0 (show false = namX zz h k from hnmH).symm hallz hevH hqH (by rw [show liftS ws h k = (X, P) from hXPH]; exact hepH) rfl
      rw [show liftS ws h k = (X, P) from hXPH] at hle
      have oX := (show (OkE X.1 ∧ OkX X.2) ∧ OkE P.1 ∧ OkX P.2 from okH).1
      have hU2 : U64 b2 := evalS_U l hloH P.1 (show (OkE X.1 ∧ OkX X.2) ∧ OkE P.1 ∧ OkX P.2 from okH).2.1 P.2 (show (OkE X.1 ∧ OkX X.2) ∧ OkE P.1 ∧ OkX P.2 from okH).2.2 hepH
      have kE3 : ∀ (w8 : World), Fr (fun b => W0.heap.size ≤ b ∧ b < W3.heap.size) V w8 → ∀ (a8 : Option Addr) (c8 : Nat), CoL w8 a8 c8 (l ++ [⟨[], zz, t2, b2⟩]) → ∀ (u : World), Fr FN w8 u → Calls Try.prog 7 #[exV X.1 (.slice xa X.2.len xc), .slice a8 (l ++ [(⟨[], zz, t2, b2⟩ : Con)]).length c8] u fun e w' => e = .returned (.tuple #[.agg #[.int .i64 t, .int .u64 b], ci q]) ∧ Fr FN u w' :=
        fun w8 g8 a8 c8 hc u fu => by
          have hU : ∀ c ∈ l ++ [(⟨[], zz, t2, b2⟩ : Con)], U64 c.b := fun c hc => by
            rcases List.mem_append.1 hc with hc | hc
            · exact (show ∀ c ∈ l, U64 c.b from hloH) c hc
            · simp only [List.mem_singleton] at hc
              subst hc
              exact hU2
          have f1 : Fr (fun b => W0.heap.size ≤ b ∧ b < W3.heap.size) W5 V := fV5.mono (fun _ _ f => f.elim)
          have f2 : Fr (fun b => W0.heap.size ≤ b ∧ b < W3.heap.size) w8 u := fu.mono (fun _ _ f => f.elim)
          have hL : ExL u xa xc X.2 := (show KpX W5 (fun b => W0.heap.size ≤ b ∧ b < W3.heap.size) xa xc X.2 from kxH) u ((f1.same g8).same f2)
          exact eval_w X.1 X.2 oX.1 oX.2 _ hU a8 c8 xa xc u hL (hc.keep fu) t b q hle
      have hlen1 : (l ++ [(⟨[], zz, t2, b2⟩ : Con)]).length = l.length + 1 := by simp
      clear hle oX p1 p2 p3 p4
      go_cut [15, 16] (fun pv qv wx => qv = ci q ∧ ∃ g, pv = .pointer (some ⟨g, 0, none⟩) ∧ wx.heap[g]? = some (zb (.int .i64 t) (.int .u64 b)) ∧ wx.heap[w3.heap.size]? = some (zb (.int .i64 t) (.int .u64 b)) ∧ Fr FN W0 wx)
      case first =>
        have m0 : V.heap.size ≠ w4.heap.size := World.new_ne V _ y0
        have m1 : V.heap.size ≠ w6.heap.size := World.new_ne V _ z0
        have m2 : V.heap.size + 1 ≠ w4.heap.size := Nat.ne_of_gt (Nat.lt_succ_of_lt (cell_lt y0))
        have m3 : V.heap.size + 1 ≠ w6.heap.size := Nat.ne_of_gt (Nat.lt_succ_of_lt (cell_lt z0))
        go_region_held3 (fun w' => w'.cell? ⟨w4.heap.size, 0, none⟩ = some (ci X.1.kind) ∧ w'.cell? ⟨w4.heap.size, 1, none⟩ = some (ci X.1.op) ∧ w'.cell? ⟨w4.heap.size, 2, none⟩ = some (ct X.1.mod) ∧ w'.cell? ⟨w4.heap.size, 3, none⟩ = some (ct X.1.name) ∧ w'.cell? ⟨w4.heap.size, 4, none⟩ = some (ci X.1.vt) ∧ w'.cell? ⟨w4.heap.size, 5, none⟩ = some (.int .u64 X.1.vb) ∧ w'.cell? ⟨w4.heap.size, 6, none⟩ = some (.slice xa X.2.len xc) ∧ w'.cell? ⟨w6.heap.size, 0, none⟩ = some (.int .i64 t2) ∧ w'.cell? ⟨w6.heap.size, 1, none⟩ = some (.int .u64 b2)) (first | (refine ⟨by with_reducible assumption, by with_reducible assumption, by with_reducible assumption, by with_reducible assumption, by with_reducible assumption, by with_reducible assumption, by with_reducible assumption, by with_reducible assumption, by with_reducible assumption⟩) | go_keep) (first
          | (go_at_call 7; have hq8 := hr8; rw [← hlen1]; refine Calls.mono (kE8 _ (by (repeat (first | (with_reducible assumption) | (with_reducible exact Fr.refl _ _) | (with_reducible refine Fr.same ?_ (Fr.alloc _ _ _)) | (with_reducible refine Fr.same ?_ (Fr.drew _ _)))))) ?_; rintro e w9 ⟨rfl, f9⟩; have n80 : w8.heap.size ≠ w4.heap.size := World.new_ne w8 _ q0; have n81 : w8.heap.size ≠ w6.heap.size := World.new_ne w8 _ q7; have f89 : Fr FN w8 w9 := (by refine Fr.same ?_ f9; (repeat (first | (with_reducible assumption) | (with_reducible exact Fr.refl _ _) | (with_reducible refine Fr.same ?_ (Fr.alloc _ _ _)) | (with_reducible refine Fr.same ?_ (Fr.drew _ _))))); have r0 := f89.cellN q0; have r1 := f89.cellN q1; have r2 := f89.cellN q2; have r3 := f89.cellN q3; have r4 := f89.cellN q4; have r5 := f89.cellN q5; have r6 := f89.cellN q6; have r7 := f89.cellN q7; have r8 := f89.cellN q8; (try (have hY := f89.heap hX0 (fun f => f); obtain ⟨j0, j1, j2, j3⟩ := box2 hY)); (try (have hY := f89.heap hX1 (fun f => f); obtain ⟨j0, j1, j2, j3⟩ := box2 hY)); (try (have hY : w9.heap[w8.heap.size]? = some zo := (by refine f9.heap ?_ (fun f => f); (first | (with_reducible exact hpD _ _) | (with_reducible exact hpE _ _ _) | (with_reducible exact hpF _ _ _) | (with_reducible exact alloc_new _ _)); done); obtain ⟨j0, j1, j2, j3⟩ := box2 hY)))
          | (refine Rw.step_rows (R := RC) rfl _ _ 30 41 (.agg #[.string ⟨#[]⟩, .string ⟨#[]⟩, .int .i64 0, .int .u64 0]) 4 48 Try.underlying30 info_con rfl (by decide) rfl W0.heap.size (.slice a1 l.length c1) l [⟨[], zz, t2, b2⟩] (coC ⟨[], zz, t2, b2⟩) _ 1 1 rfl ?_ rfl rfl (chunk1 _) ?_ (coC_one _) ?_ ?_ ?_ ?_; (focus (refine (show CoW V W0.heap.size (.slice a1 l.length c1) l from hrV).keepN ?_; (repeat (first | (with_reducible assumption) | (with_reducible exact Fr.refl _ _) | (with_reducible refine Fr.same ?_ (Fr.alloc _ _ _)) | (with_reducible refine Fr.same ?_ (Fr.drew _ _)))))); (focus (refine co_row (c := ⟨[], zz, t2, b2⟩) (t := 41) ?_; (first | (exact hpD _ _) | (exact hpF _ _ _) | (exact hpE _ _ _)))); (focus (have : l.length * 48 ≤ 140737488351232 := hbH; simp [maxLen]; omega)); (focus (have : l.length * 48 ≤ 140737488351232 := hbH; simp only [List.length_singleton]; omega)); (focus (refine Nat.le_trans (show W0.heap.size ≤ V.heap.size from hsV) (Fr.size (S := FN) ?_); (repeat (first | (with_reducible assumption) | (with_reducible exact Fr.refl _ _) | (with_reducible refine Fr.same ?_ (Fr.alloc _ _ _)) | (with_reducible refine Fr.same ?_ (Fr.drew _ _)))))); intro v8 w8 hr8 f8 ho8; have kp11 : ∀ (j : Nat) (u : Value), V.cell? ⟨w4.heap.size, j, none⟩ = some u → w8.cell? ⟨w4.heap.size, j, none⟩ = some u := (by intro j u hu; refine f8.cell (Fr.cellN (w := V) ?_ hu) hn11; (repeat (first | (with_reducible assumption) | (with_reducible exact Fr.refl _ _) | (with_reducible refine Fr.same ?_ (Fr.alloc _ _ _)) | (with_reducible refine Fr.same ?_ (Fr.drew _ _))))); have kp13 : ∀ (j : Nat) (u : Value), V.cell? ⟨w6.heap.size, j, none⟩ = some u → w8.cell? ⟨w6.heap.size, j, none⟩ = some u := (by intro j u hu; refine f8.cell (Fr.cellN (w := V) ?_ hu) hn13; (repeat (first | (with_reducible assumption) | (with_reducible exact Fr.refl _ _) | (with_reducible refine Fr.same ?_ (Fr.alloc _ _ _)) | (with_reducible refine Fr.same ?_ (Fr.drew _ _))))); have q0 := kp11 _ _ y0; have q1 := kp11 _ _ y1; have q2 := kp11 _ _ y2; have q3 := kp11 _ _ y3; have q4 := kp11 _ _ y4; have q5 := kp11 _ _ y5; have q6 := kp11 _ _ y6; have q7 := kp13 _ _ z0; have q8 := kp13 _ _ z1; clear kp11 kp13; have g8 : Fr (fun b => W0.heap.size ≤ b ∧ b < W3.heap.size) V w8 := (by refine Fr.trans (b := _) (T := fun k => (Value.slice a1 l.length c1).ownBlock = some k) ?_ f8 (fun k _ e => (show ∀ k, (Value.slice a1 l.length c1).ownBlock = some k → W0.heap.size ≤ k ∧ k < W3.heap.size from hownH) k e); refine Fr.mono (S := FN) ?_ (fun _ _ f => f.elim); (repeat (first | (with_reducible assumption) | (with_reducible exact Fr.refl _ _) | (with_reducible refine Fr.same ?_ (Fr.alloc _ _ _)) | (with_reducible refine Fr.same ?_ (Fr.drew _ _))))); obtain ⟨a8, c8, hv8, hcl8⟩ := CoW.col hr8; subst hv8; have kE8 := kE3 w8 g8 a8 c8 hcl8; have f8b : ∀ {o : Obj}, V.heap[w3.heap.size]? = some o → w8.heap[w3.heap.size]? = some o := (by intro o ho; refine f8.heap (Fr.heap (S := FN) (w := V) ?_ ho (fun f => f)) hn9; (repeat (first | (with_reducible assumption) | (with_reducible exact Fr.refl _ _) | (with_reducible refine Fr.same ?_ (Fr.alloc _ _ _)) | (with_reducible refine Fr.same ?_ (Fr.drew _ _))))); have hnX0 : ¬ (Value.slice a1 l.length c1).ownBlock = some V.heap.size := hnV0; have hnX1 : ¬ (Value.slice a1 l.length c1).ownBlock = some (V.heap.size + 1) := hnV1; (try (have hX0 : w8.heap[V.heap.size]? = some zo := (by refine f8.heap ?_ hnX0; (first | (with_reducible exact hpD _ _) | (with_reducible exact hpE _ _ _) | (with_reducible exact hpF _ _ _) | (with_reducible exact alloc_new _ _)); done))); (try (have hX1 : w8.heap[V.heap.size + 1]? = some zo := (by refine f8.heap ?_ hnX1; (first | (with_reducible exact hpD _ _) | (with_reducible exact hpE _ _ _) | (with_reducible exact hpF _ _ _) | (with_reducible exact alloc_new _ _)); done)))))
        all_goals go_wp2_with fail
        all_goals go_meet
        all_goals refine ⟨rfl, ?_⟩
        all_goals have hsV' : W0.heap.size ≤ V.heap.size := hsV
        all_goals have gF8 : Fr FN W0 w8 := gV.over g8 (fun b hb => hb.1)
        all_goals have gF9 : Fr FN W0 w9 := gF8.same f89
        all_goals have h9b : w9.heap[w3.heap.size]? = some (zb (.int .i64 t) (.int .u64 b)) := f89.heap (f8b hB9V) (fun f => f)
        all_goals first
          | exact ⟨_, rfl, alloc_new _ _, (Fr.alloc FN w9 _).heap h9b (fun f => f), gF9.same (Fr.alloc _ _ _)⟩
          | exact ⟨_, rfl, two_set hY _ _, (two_fr w9 _ _ _).heap h9b (fun e => by have e : w3.heap.size = _ := e; have := f89.size; have := g8.size; have := lt_of_heap (show V.heap[w3.heap.size]? = _ from hB9V); omega), gF9.over (two_fr w9 _ _ _) (fun b e => by have := g8.size; subst e; omega)⟩
      case rest =>
      obtain ⟨rfl, g, rfl, hg1, hg2, hfx⟩ := hcut
      obtain ⟨y0, y1, _, _⟩ := box2 hg1
      obtain ⟨z0, z1, _, _⟩ := box2 hg2
      have hfxH : Hidden (Fr FN W0 _) := hfx
      clear hg1 hg2 hfx
      go_wp2_with fail
      go_ret
      exact ⟨rfl, (show Fr FN w W0 from f0H).same hfxH⟩
end Go.Proofs.Ytbmaaaeipcopcaa.Fo
namespace Go.Proofs.Ytbmaaaeipcopcaa.foldLifts
theorem walk (v : Value) (h : Te.EH) (k : Te.Exs) (lv : Value) (l : List Fo.Con) (bv : Value) (ws : List Bool) (W : World) (h0 : ExI W h k v) (h1 : OkE h) (h2 : OkX k) (h3 : k.len * 88 ≤ 140737488351232 ∧ Fo.BdX k)
    (h4 : Fo.CoI W lv l) (h5 : ∀ c ∈ l, Fo.OkC c) (h6 : l.length * 48 ≤ 140737488351232) (h7 : Fo.BoL W bv ws) (_h8 : ∀ p ∈ ws, Fo.OkB p) :
    Calls Try.prog 3 #[v, lv, bv] W fun e w' => e = .returned (.bool true) ∧ Fr (fun _ => False) W w' := by
  obtain ⟨ea, ec, rfl, hk⟩ := h0
  obtain ⟨la, lc, rfl, hl⟩ := h4
  obtain ⟨wa, wc, rfl, hw1, hw2, hw3⟩ := h7
  refine Fo.lifts_any h k ea ec l la lc ws wa wc W h1 h2 hk hl (fun c hc => (h5 c hc).b) h6 h3.1 h3.2 ⟨hw1, hw2, ?_⟩
  rcases hw3 with h0 | ⟨b, off, rfl, hc⟩
  · exact Or.inl h0
  · exact Or.inr ⟨b, off, rfl, fun i x hx => by have := hc i x hx; rw [Nat.mul_one] at this; exact this⟩
end Go.Proofs.Ytbmaaaeipcopcaa.foldLifts
