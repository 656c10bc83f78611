/- The program's copies of statements: plain; copyStmt (for TreeCopies). -/
import Derived.Test.YtncachlopnpcjaaGreatDoorTrC6
namespace Go.Proofs.YtncachlopnpcjaaGreatDoor.Sl
open Go.RowKit Te
set_option linter.unusedSimpArgs false
set_option linter.unusedVariables false

theorem ShS.wide {w : World} {lo hi lo' hi' : Nat} (h1 : lo' ≤ lo) (h2 : hi ≤ hi') : ∀ (k : Sts) (b i : Nat), ShS w lo hi k b i → ShS w lo' hi' k b i
  | .nil, _, _, _ => trivial
  | .cons _ e bo el r, b, i, ⟨⟨ao1, c1, ao2, c2, ao3, c3, x1, x2, x3, hx, ⟨y1, y2, y3⟩, ⟨z1, z2, z3⟩⟩, h5⟩ => by
    refine ⟨⟨ao1, c1, ao2, c2, ao3, c3, x1, x2, x3, hx.wide h1 h2, ⟨y1, y2, ?_⟩, ⟨z1, z2, ?_⟩⟩, ShS.wide h1 h2 r b (i + 1) h5⟩
    · rcases y3 with y3 | ⟨b', rfl, h6, h7⟩
      · exact Or.inl y3
      · exact Or.inr ⟨b', rfl, h6.wide h1 h2, ShS.wide h1 h2 bo b' 0 h7⟩
    · rcases z3 with z3 | ⟨b', rfl, h6, h7⟩
      · exact Or.inl z3
      · exact Or.inr ⟨b', rfl, h6.wide h1 h2, ShS.wide h1 h2 el b' 0 h7⟩
theorem ShT.wide {w : World} {lo hi lo' hi' : Nat} {ao : Option Addr} {cap : Nat} {k : Sts} (h : ShT w lo hi ao cap k) (h1 : lo' ≤ lo) (h2 : hi ≤ hi') : ShT w lo' hi' ao cap k := by
  obtain ⟨a, b, c⟩ := h
  refine ⟨a, b, ?_⟩
  rcases c with c | ⟨g, rfl, c1, c2⟩
  · exact Or.inl c
  · exact Or.inr ⟨g, rfl, c1.wide h1 h2, ShS.wide h1 h2 k g 0 c2⟩
/-- A statement: its head and its three lists. -/
structure StX where
  h : SH
  e : Exs
  b : Sts
  l : Sts
def toS : Sts → List StX
  | .nil => []
  | .cons h e b l r => ⟨h, e, b, l⟩ :: toS r
theorem toS_len : ∀ k : Sts, (toS k).length = k.len
  | .nil => rfl
  | .cons h e b l r => by simp [toS, Sts.len, toS_len r]
/-- What the lists of a statement hold. -/
def S3 (u : World) (lo hi : Nat) (y : StX) (a1 : Option Addr) (c1 : Nat) (a2 : Option Addr) (c2 : Nat) (a3 : Option Addr) (c3 : Nat) : Prop := (ExL u a1 c1 y.e ∧ ShX u lo hi a1 c1 y.e) ∧ (StL u a2 c2 y.b ∧ ShT u lo hi a2 c2 y.b) ∧ StL u a3 c3 y.l ∧ ShT u lo hi a3 c3 y.l
def KS (a b : Nat) (u : World) (y : StX) (c : List Value) : Prop := ∃ a1 c1 a2 c2 a3 c3, c = stC y.h (.slice a1 y.e.len c1) (.slice a2 y.b.len c2) (.slice a3 y.l.len c3) ∧ S3 u a b y a1 c1 a2 c2 a3 c3
theorem st_all {u : World} {lo hi g : Nat} : ∀ (k : Sts) (n : Nat), (∀ (i : Nat) (y : StX), (toS k)[i]? = some y → ∃ a b c, lo ≤ a ∧ b ≤ hi ∧ KS a b u y c ∧ c.length = 5 ∧ ∀ (j : Nat) (x : Value), c[j]? = some x → u.cell? ⟨g, (n + i) * 5 + j, none⟩ = some x) → StA u k g (n * 5) ∧ ShS u lo hi k g n
  | .nil, n, _ => ⟨trivial, trivial⟩
  | .cons h e bo el r, n, H => by
    obtain ⟨a, b, c, h1, h2, ⟨a1, c1, a2, c2, a3, c3, rfl, ⟨x1, x2⟩, ⟨y1, y2⟩, z1, z2⟩, _, hc⟩ := H 0 ⟨h, e, bo, el⟩ rfl
    obtain ⟨i1, i2⟩ := st_all r (n + 1) (fun i y hy => by
      obtain ⟨a, b, c, q1, q2, q3, q4, q5⟩ := H (i + 1) y (by simpa [toS] using hy)
      exact ⟨a, b, c, q1, q2, q3, q4, fun j x hx => by rw [show n + 1 + i = n + (i + 1) by omega]; exact q5 j x hx⟩)
    simp only [Nat.add_zero] at hc
    refine ⟨⟨⟨a1, c1, a2, c2, a3, c3, hc, x1, y1, z1⟩, ?_⟩, ⟨a1, c1, a2, c2, a3, c3, hc 2 _ rfl, hc 3 _ rfl, hc 4 _ rfl, x2.wide h1 h2, y2.wide h1 h2, z2.wide h1 h2⟩, i2⟩
    rw [show n * 5 + 5 = (n + 1) * 5 by omega]
    exact i1
/-- A row of copied statements. -/
theorem row_st {lo : Nat} {W : World} {v : Value} {k : Sts} (h : Rw.Row (RE KS lo W v) 67 5 W lo v (toS k)) : ∃ ao cap, v = .slice ao k.len cap ∧ Within lo W.heap.size W (fun u => StL u ao cap k ∧ ShT u lo W.heap.size ao cap k) := by
  obtain ⟨ao, cap, h1, h2, h3, h4⟩ := row_open h
  rw [toS_len] at h1 h2
  refine ⟨ao, cap, h1, fun u hu => ?_⟩
  rcases h4 u hu with h0 | ⟨g, rfl, hb, hc⟩
  · have hk : k.len = 0 := by rw [← toS_len, h0]; rfl
    exact ⟨⟨h2, h3, Or.inl hk⟩, ⟨h2, h3, Or.inl hk⟩⟩
  · rw [toS_len] at hb
    obtain ⟨e1, e2⟩ := st_all (u := u) (lo := lo) (hi := W.heap.size) (g := g) k 0 (fun i y hy => by
      obtain ⟨a, b, c, q1, q2, q3, q4, q5⟩ := hc i y hy
      exact ⟨a, b, c, q1, q2, q3, q4, fun j x hx => by rw [Nat.zero_add]; exact q5 j x hx⟩)
    rw [Nat.zero_mul] at e1
    exact ⟨⟨h2, h3, Or.inr ⟨g, 0, rfl, e1⟩⟩, ⟨h2, h3, Or.inr ⟨g, rfl, hb, e2⟩⟩⟩
def BdS : Sts → Prop
  | .nil => True
  | .cons _ e b l r => (e.len * 88 ≤ 140737488351232 ∧ BdE e) ∧ (b.len * 96 ≤ 140737488351232 ∧ BdS b) ∧ (l.len * 96 ≤ 140737488351232 ∧ BdS l) ∧ BdS r
def CsX (y : StX) : Prop := ∀ (a1 : Option Addr) (c1 : Nat) (a2 : Option Addr) (c2 : Nat) (a3 : Option Addr) (c3 : Nat) (w : World), ExL w a1 c1 y.e → StL w a2 c2 y.b → StL w a3 c3 y.l → (y.e.len * 88 ≤ 140737488351232 ∧ BdE y.e) → (y.b.len * 96 ≤ 140737488351232 ∧ BdS y.b) → (y.l.len * 96 ≤ 140737488351232 ∧ BdS y.l) →
  Calls Tryz.prog 27 #[stV y.h (.slice a1 y.e.len c1) (.slice a2 y.b.len c2) (.slice a3 y.l.len c3)] w fun e w' => ∃ a1' c1' a2' c2' a3' c3', e = .returned (stV y.h (.slice a1' y.e.len c1') (.slice a2' y.b.len c2') (.slice a3' y.l.len c3')) ∧ Within w.heap.size w'.heap.size w' (fun u => S3 u w.heap.size w'.heap.size y a1' c1' a2' c2' a3' c3') ∧ Fr (fun _ => False) w w'
def CsL (k : Sts) : Prop := ∀ (ao : Option Addr) (cap : Nat) (w : World), StL w ao cap k → k.len * 96 ≤ 140737488351232 → BdS k →
  Calls Tryz.prog 26 #[.slice ao k.len cap, .func (.func 27) #[] #[]] w fun e w' => ∃ v', e = .returned v' ∧ Rw.Row (RE KS w.heap.size w' v') 67 5 w' w.heap.size v' (toS k) ∧ Fr (fun _ => False) w w'
theorem info_st : (Tryz.prog.info? 67).map (fun i => (i.zero, i.size, i.bytes)) = some (some (.agg #[.int .i64 0, .string ⟨#[]⟩, .slice none 0 0, .slice none 0 0, .slice none 0 0]), 5, 96) := by kernel_rfl
abbrev sO (h : SH) (a b c : Value) : Obj := .cells #[ci h.kind, ct h.name, a, b, c] 67 (0, 0)
theorem row_cells5 {w : World} {g : Nat} {a b c d e : Value} {t : TypeId} (hg : w.heap[g]? = some (.cells #[a, b, c, d, e] t (0, 0))) : ∀ (j : Nat) (u : Value), [a, b, c, d, e][j]? = some u → w.cell? ((⟨g, 0, none⟩ : Addr).add j) = some u := by
  intro j u hj
  rw [Addr.add_lit, Nat.zero_add, cell_of_row w g j _ t (0, 0) hg]
  simpa using hj
theorem post1s {fn : Func} {R : Ending → World → Prop} {a : Act} {w : World} {p : Tmp} (h : fn.results = #[.cell p 67]) (hd : a.defers = []) (g : Nat) (x0 x1 x2 x3 x4 : Value)
    (hp : a.tmps.getD p undef = .pointer (some ⟨g, 0, none⟩)) (hg : w.heap[g]? = some (.cells #[x0, x1, x2, x3, x4] 67 (0, 0)))
    (hR : R (.returned (.agg #[x0, x1, x2, x3, x4])) w) : bodyPost Tryz.prog fn R .ret a w := by
  refine ⟨hd, _, ?_, hR⟩
  exact results_cell_row h a.tmps w g _ _ _ _ hp hg Tryz.underlying67 rfl (by kernel_rfl)
theorem set5' {w : World} {g : Nat} {a b c d e : Value} {t : TypeId} (hg : w.heap[g]? = some (.cells #[a, b, c, d, e] t (0, 0))) (v0 v1 v2 v3 v4 : Value) :
    (((((w.setCell ⟨g, 0, none⟩ v0).setCell ⟨g, 1, none⟩ v1).setCell ⟨g, 2, none⟩ v2).setCell ⟨g, 3, none⟩ v3).setCell ⟨g, 4, none⟩ v4).heap[g]? = some (.cells #[v0, v1, v2, v3, v4] t (0, 0)) := by
  have h1 : (w.setCell ⟨g, 0, none⟩ v0).heap[g]? = some (.cells #[v0, b, c, d, e] t (0, 0)) := heap_setCell_same _ g 0 _ t v0 hg
  have h2 : ((w.setCell ⟨g, 0, none⟩ v0).setCell ⟨g, 1, none⟩ v1).heap[g]? = some (.cells #[v0, v1, c, d, e] t (0, 0)) := heap_setCell_same _ g 1 _ t v1 h1
  have h3 : (((w.setCell ⟨g, 0, none⟩ v0).setCell ⟨g, 1, none⟩ v1).setCell ⟨g, 2, none⟩ v2).heap[g]? = some (.cells #[v0, v1, v2, d, e] t (0, 0)) := heap_setCell_same _ g 2 _ t v2 h2
  have h4 : ((((w.setCell ⟨g, 0, none⟩ v0).setCell ⟨g, 1, none⟩ v1).setCell ⟨g, 2, none⟩ v2).setCell ⟨g, 3, none⟩ v3).heap[g]? = some (.cells #[v0, v1, v2, v3, e] t (0, 0)) := heap_setCell_same _ g 3 _ t v3 h3
  exact heap_setCell_same _ g 4 _ t v4 h4
theorem fr5 (w : World) (g : Nat) (v0 v1 v2 v3 v4 : Value) : Fr (fun k => k = g) w (((((w.setCell ⟨g, 0, none⟩ v0).setCell ⟨g, 1, none⟩ v1).setCell ⟨g, 2, none⟩ v2).setCell ⟨g, 3, none⟩ v3).setCell ⟨g, 4, none⟩ v4) := by
  have a0 := Fr.setCell w ⟨g, 0, none⟩ v0
  have a1 := a0.same (Fr.setCell _ ⟨g, 1, none⟩ v1)
  have a2 := a1.same (Fr.setCell _ ⟨g, 2, none⟩ v2)
  have a3 := a2.same (Fr.setCell _ ⟨g, 3, none⟩ v3)
  exact a3.same (Fr.setCell _ ⟨g, 4, none⟩ v4)
theorem st5 {w : World} {b : Nat} {x0 x1 x2 x3 x4 : Value} {t : TypeId} (hb : w.heap[b]? = some (.cells #[x0, x1, x2, x3, x4] t (0, 0))) :
    w.cell? ⟨b, 0, none⟩ = some x0 ∧ w.cell? ⟨b, 1, none⟩ = some x1 ∧ w.cell? ⟨b, 2, none⟩ = some x2 ∧ w.cell? ⟨b, 3, none⟩ = some x3 ∧ w.cell? ⟨b, 4, none⟩ = some x4 :=
  ⟨cell_of_row _ _ 0 _ _ _ hb, cell_of_row _ _ 1 _ _ _ hb, cell_of_row _ _ 2 _ _ _ hb, cell_of_row _ _ 3 _ _ _ hb, cell_of_row _ _ 4 _ _ _ hb⟩
set_option maxRecDepth 20000 in
set_option maxHeartbeats 4000000 in
theorem copyS_step (y : StX) (kb : CsL y.b) (kl : CsL y.l) : CsX y := by
  obtain ⟨h, e, b, l⟩ := y
  intro a1 c1 a2 c2 a3 c3 w he hb hl be bb bl
  simp only at kb kl he hb hl be bb bl ⊢
  obtain ⟨W0, hW0⟩ : ∃ W, W = (w.alloc (sO h (.slice a1 e.len c1) (.slice a2 b.len c2) (.slice a3 l.len c3))).alloc (sO ⟨0, []⟩ (.slice none 0 0) (.slice none 0 0) (.slice none 0 0)) := ⟨_, rfl⟩
  have f0 : Fr (fun _ => False) w W0 := by rw [hW0]; exact (Fr.alloc _ _ _).same (Fr.alloc _ _ _)
  have hA : W0.heap[w.heap.size]? = some (sO h (.slice a1 e.len c1) (.slice a2 b.len c2) (.slice a3 l.len c3)) := by rw [hW0]; exact (alloc_old _ _ _ (by simp)).trans (alloc_new _ _)
  have hB : Hidden (W0.heap[w.heap.size + 1]? = some (sO ⟨0, []⟩ (.slice none 0 0) (.slice none 0 0) (.slice none 0 0))) := by rw [hW0]; exact aat _ _ _ (by simp)
  have hsz : W0.heap.size = w.heap.size + 2 := by rw [hW0]; simp
  have hszH : Hidden (W0.heap.size = w.heap.size + 2) := hsz
  have hW0H : Hidden (W0 = _) := hW0
  have f0H : Hidden (Fr (fun _ => False) w W0) := f0
  have hAH : Hidden (W0.heap[w.heap.size]? = _) := hA
  have k1 := copyL_any e a1 c1 W0 (he.keep f0) be.1 be.2
  have k2 : ∀ u, Fr (fun _ => False) w u → Calls Tryz.prog 26 #[.slice a2 b.len c2, .func (.func 27) #[] #[]] u fun e w' => ∃ v', e = .returned v' ∧ Rw.Row (RE KS u.heap.size w' v') 67 5 w' u.heap.size v' (toS b) ∧ Fr (fun _ => False) u w' := fun u f => kb a2 c2 u (hb.keep f) bb.1 bb.2
  have k3 : ∀ u, Fr (fun _ => False) w u → Calls Tryz.prog 26 #[.slice a3 l.len c3, .func (.func 27) #[] #[]] u fun e w' => ∃ v', e = .returned v' ∧ Rw.Row (RE KS u.heap.size w' v') 67 5 w' u.heap.size v' (toS l) ∧ Fr (fun _ => False) u w' := fun u f => kl a3 c3 u (hl.keep f) bl.1 bl.2
  have x2 : W0.cell? ⟨w.heap.size, 2, none⟩ = some (.slice a1 e.len c1) := cell_of_row W0 _ 2 _ _ _ hA
  clear hW0 hA f0 he hb hl be bb bl hsz kb kl
  go_enter Tryz.func27, Tryz.ntmps27
  go_upto_region 1 with fail
  rw [← (show W0 = _ from hW0H)]
  go_upto_region 2 with (go_at_call 24; refine k1.mono ?_; rintro e_ w1 ⟨v', rfl, hrow, f1⟩; obtain ⟨a1', c1', hv', hW1⟩ := row_ex hrow; subst hv'; have hA1 : w1.heap[w.heap.size]? = some (sO h (.slice a1 e.len c1) (.slice a2 b.len c2) (.slice a3 l.len c3)) := f1.heap hAH (fun f => f); have y2 : w1.cell? ⟨w.heap.size, 2, none⟩ = some (.slice a1 e.len c1) := cell_of_row w1 _ 2 _ _ _ hA1; have z2 := frozen_r hA1 2; clear hrow)
  have hs : W0.heap.size = w.heap.size + 2 := hszH
  obtain ⟨w2, hw2⟩ : ∃ w2, w2 = w1.setCell ⟨w.heap.size, 2, none⟩ (.slice a1' e.len c1') := ⟨_, rfl⟩
  have f2 : Fr (fun b => b = w.heap.size) w1 w2 := by rw [hw2]; exact Fr.setCell w1 ⟨w.heap.size, 2, none⟩ _
  have hA2 : w2.heap[w.heap.size]? = some (sO h (.slice a1' e.len c1') (.slice a2 b.len c2) (.slice a3 l.len c3)) := by rw [hw2]; exact heap_setCell_same _ _ 2 _ _ _ hA1
  have z12 : w2.heap.size = w1.heap.size := by rw [hw2]; simp
  rw [← hw2]
  have g2 : Fr (fun _ => False) w w2 := ((show Fr (fun _ => False) w W0 from f0H).same f1).over f2 (fun b e => by omega)
  have kk2 := k2 w2 g2
  have x3 : w2.cell? ⟨w.heap.size, 3, none⟩ = some (.slice a2 b.len c2) := cell_of_row w2 _ 3 _ _ _ hA2
  have g2H : Hidden (Fr (fun _ => False) w w2) := g2
  have hA2H : Hidden (w2.heap[w.heap.size]? = _) := hA2
  have f2H : Hidden (Fr (fun b => b = w.heap.size) w1 w2) := f2
  have f1H : Hidden (Fr (fun _ => False) W0 w1) := f1
  have hW1H : Hidden (Within W0.heap.size w1.heap.size w1 (fun u => ExL u a1' c1' e ∧ ShX u W0.heap.size w1.heap.size a1' c1' e)) := hW1
  have z12H : Hidden (w2.heap.size = w1.heap.size) := z12
  clear hw2 hA2 hA1 y2 z2 x2 k1 k2 f2 g2 f1 hW1 hs z12
  go_upto_region 3 with (go_at_call 26; refine kk2.mono ?_; rintro e_ w3 ⟨v', rfl, hrow, f3⟩; obtain ⟨a2', c2', hv', hW3⟩ := row_st hrow; subst hv'; have hA3 : w3.heap[w.heap.size]? = some (sO h (.slice a1' e.len c1') (.slice a2 b.len c2) (.slice a3 l.len c3)) := f3.heap hA2H (fun f => f); have y3 : w3.cell? ⟨w.heap.size, 3, none⟩ = some (.slice a2 b.len c2) := cell_of_row w3 _ 3 _ _ _ hA3; have z3 := frozen_r hA3 3; clear hrow)
  have hs : W0.heap.size = w.heap.size + 2 := hszH
  have s1 := (show Fr (fun _ => False) W0 w1 from f1H).size
  have z12 : w2.heap.size = w1.heap.size := z12H
  obtain ⟨w4, hw4⟩ : ∃ w4, w4 = w3.setCell ⟨w.heap.size, 3, none⟩ (.slice a2' b.len c2') := ⟨_, rfl⟩
  have f4 : Fr (fun b => b = w.heap.size) w3 w4 := by rw [hw4]; exact Fr.setCell w3 ⟨w.heap.size, 3, none⟩ _
  have hA4 : w4.heap[w.heap.size]? = some (sO h (.slice a1' e.len c1') (.slice a2' b.len c2') (.slice a3 l.len c3)) := by rw [hw4]; exact heap_setCell_same _ _ 3 _ _ _ hA3
  have z34 : w4.heap.size = w3.heap.size := by rw [hw4]; simp
  rw [← hw4]
  have g4 : Fr (fun _ => False) w w4 := ((show Fr (fun _ => False) w w2 from g2H).same f3).over f4 (fun b e => by omega)
  have kk3 := k3 w4 g4
  have x4 : w4.cell? ⟨w.heap.size, 4, none⟩ = some (.slice a3 l.len c3) := cell_of_row w4 _ 4 _ _ _ hA4
  have g4H : Hidden (Fr (fun _ => False) w w4) := g4
  have hA4H : Hidden (w4.heap[w.heap.size]? = _) := hA4
  have f4H : Hidden (Fr (fun b => b = w.heap.size) w3 w4) := f4
  have f3H : Hidden (Fr (fun _ => False) w2 w3) := f3
  have hW3H : Hidden (Within w2.heap.size w3.heap.size w3 (fun u => StL u a2' c2' b ∧ ShT u w2.heap.size w3.heap.size a2' c2' b)) := hW3
  have z34H : Hidden (w4.heap.size = w3.heap.size) := z34
  clear hw4 hA4 hA3 y3 z3 x3 kk2 k3 f4 g4 f3 hW3 hs s1 z12 z34
  go_upto_region 4 with (go_at_call 26; refine kk3.mono ?_; rintro e_ w5 ⟨v', rfl, hrow, f5⟩; obtain ⟨a3', c3', hv', hW5⟩ := row_st hrow; subst hv'; have hA5 : w5.heap[w.heap.size]? = some (sO h (.slice a1' e.len c1') (.slice a2' b.len c2') (.slice a3 l.len c3)) := f5.heap hA4H (fun f => f); have y4 : w5.cell? ⟨w.heap.size, 4, none⟩ = some (.slice a3 l.len c3) := cell_of_row w5 _ 4 _ _ _ hA5; have z4 := frozen_r hA5 4; clear hrow)
  have hs : W0.heap.size = w.heap.size + 2 := hszH
  have f1 : Fr (fun _ => False) W0 w1 := f1H
  have f2 : Fr (fun b => b = w.heap.size) w1 w2 := f2H
  have f3 : Fr (fun _ => False) w2 w3 := f3H
  have f4 : Fr (fun b => b = w.heap.size) w3 w4 := f4H
  have s1 := f1.size
  have s3 := f3.size
  have s5 := f5.size
  have z12 : w2.heap.size = w1.heap.size := z12H
  have z34 : w4.heap.size = w3.heap.size := z34H
  obtain ⟨w6, hw6⟩ : ∃ w6, w6 = w5.setCell ⟨w.heap.size, 4, none⟩ (.slice a3' l.len c3') := ⟨_, rfl⟩
  have f6 : Fr (fun b => b = w.heap.size) w5 w6 := by rw [hw6]; exact Fr.setCell w5 ⟨w.heap.size, 4, none⟩ _
  have hA6 : w6.heap[w.heap.size]? = some (sO h (.slice a1' e.len c1') (.slice a2' b.len c2') (.slice a3' l.len c3')) := by rw [hw6]; exact heap_setCell_same _ _ 4 _ _ _ hA5
  have z56 : w6.heap.size = w5.heap.size := by rw [hw6]; simp
  have hB6 : w6.heap[w.heap.size + 1]? = some (sO ⟨0, []⟩ (.slice none 0 0) (.slice none 0 0) (.slice none 0 0)) := f6.heap (f5.heap (f4.heap (f3.heap (f2.heap (f1.heap hB (fun f => f)) (by omega)) (fun f => f)) (by omega)) (fun f => f)) (by omega)
  rw [← hw6]
  obtain ⟨p0, p1, p2, p3, p4⟩ := st5 hA6
  obtain ⟨r0, r1, r2, r3, r4⟩ := st5 hB6
  have i0 := frozen_r hB6 0
  have i1 := frozen_r hB6 1
  have i2 := frozen_r hB6 2
  have i3 := frozen_r hB6 3
  have i4 := frozen_r hB6 4
  obtain ⟨wE, hwE⟩ : ∃ wE, wE = ((((w6.setCell ⟨w.heap.size + 1, 0, none⟩ (ci h.kind)).setCell ⟨w.heap.size + 1, 1, none⟩ (ct h.name)).setCell ⟨w.heap.size + 1, 2, none⟩ (.slice a1' e.len c1')).setCell ⟨w.heap.size + 1, 3, none⟩ (.slice a2' b.len c2')).setCell ⟨w.heap.size + 1, 4, none⟩ (.slice a3' l.len c3') := ⟨_, rfl⟩
  have f7 : Fr (fun b => b = w.heap.size + 1) w6 wE := by rw [hwE]; exact fr5 _ _ _ _ _ _ _
  have hBE : wE.heap[w.heap.size + 1]? = some (sO h (.slice a1' e.len c1') (.slice a2' b.len c2') (.slice a3' l.len c3')) := by rw [hwE]; exact set5' hB6 _ _ _ _ _
  have s7 := f7.size
  have hR2 : Hidden (Within w.heap.size wE.heap.size wE (fun u => S3 u w.heap.size wE.heap.size ⟨h, e, b, l⟩ a1' c1' a2' c2' a3' c3') ∧ Fr (fun _ => False) w wE) := by
    refine ⟨fun u hu => ?_, (((show Fr (fun _ => False) w w4 from g4H).same f5).over f6 (fun b e => by omega)).over f7 (fun b e => by omega)⟩
    have q7 : ∀ g, W0.heap.size ≤ g → g < w5.heap.size → u.heap[g]? = w5.heap[g]? := fun g g1 g2 => (hu g (by omega) (by omega)).trans ((f7.block g (by omega) (by omega)).trans (f6.block g g2 (by omega)))
    have q5 : ∀ g, W0.heap.size ≤ g → g < w3.heap.size → u.heap[g]? = w3.heap[g]? := fun g g1 g2 => (q7 g g1 (by omega)).trans ((f5.block g (by omega) (fun f => f)).trans (f4.block g g2 (by omega)))
    have q3 : ∀ g, W0.heap.size ≤ g → g < w1.heap.size → u.heap[g]? = w1.heap[g]? := fun g g1 g2 => (q5 g g1 (by omega)).trans ((f3.block g (by omega) (fun f => f)).trans (f2.block g g2 (by omega)))
    have e1 := (show Within W0.heap.size w1.heap.size w1 _ from hW1H) u (fun g g1 g2 => q3 g g1 g2)
    have e3 := (show Within w2.heap.size w3.heap.size w3 _ from hW3H) u (fun g g1 g2 => q5 g (by omega) g2)
    have e5 := hW5 u (fun g g1 g2 => q7 g (by omega) g2)
    exact ⟨⟨e1.1, e1.2.wide (by omega) (by omega)⟩, ⟨e3.1, e3.2.wide (by omega) (by omega)⟩, e5.1, e5.2.wide (by omega) (by omega)⟩
  have hwEH : Hidden (wE = _) := hwE
  have hBEH : Hidden (wE.heap[w.heap.size + 1]? = _) := hBE
  clear hw6 f1 f2 f3 f4 f5 f6 f7 hA6 hB6 hA5 hwE hBE hW5 y4 z4 x4 kk3 s1 s3 s5 s7 z12 z34 z56 hs
  go_wp2_with fail
  rw [← (show wE = _ from hwEH)]
  exact post1s rfl rfl _ _ _ _ _ _ rfl hBEH ⟨a1', c1', a2', c2', a3', c3', rfl, (show _ ∧ _ from hR2).1, (show _ ∧ _ from hR2).2⟩
end Go.Proofs.YtncachlopnpcjaaGreatDoor.Sl
