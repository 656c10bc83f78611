/- The program's copyDecl (for TreeCopies). -/
import Derived.Test.YtncachlopnpcjaaGreatDoorTrC9
namespace Go.Proofs.YtncachlopnpcjaaGreatDoor.Sl
open Go.RowKit Te
set_option linter.unusedSimpArgs false
set_option linter.unusedVariables false

theorem ShP.wide {w : World} {lo hi lo' hi' : Nat} {ao : Option Addr} {cap : Nat} {l : List Pa} (h : ShP w lo hi ao cap l) (h1 : lo' ≤ lo) (h2 : hi ≤ hi') : ShP w lo' hi' ao cap l := by
  obtain ⟨a, b, c⟩ := h
  refine ⟨a, b, ?_⟩
  rcases c with c | ⟨g, rfl, c1⟩
  · exact Or.inl c
  · exact Or.inr ⟨g, rfl, c1.wide h1 h2⟩
/-- What the lists of a declaration hold. -/
def D3 (u : World) (lo hi : Nat) (d : De) (a1 : Option Addr) (c1 : Nat) (a2 : Option Addr) (c2 : Nat) (a3 : Option Addr) (c3 : Nat) : Prop := (PaL u a1 c1 d.params ∧ ShP u lo hi a1 c1 d.params) ∧ (ExL u a2 c2 d.e ∧ ShX u lo hi a2 c2 d.e) ∧ StL u a3 c3 d.body ∧ ShT u lo hi a3 c3 d.body
def KD (a b : Nat) (u : World) (d : De) (c : List Value) : Prop := ∃ a1 c1 a2 c2 a3 c3, c = deC d (.slice a1 d.params.length c1) (.slice a2 d.e.len c2) (.slice a3 d.body.len c3) ∧ D3 u a b d a1 c1 a2 c2 a3 c3
structure BdD (d : De) : Prop where
  p : d.params.length * 24 ≤ 140737488351232
  e : d.e.len * 88 ≤ 140737488351232
  be : BdE d.e
  b : d.body.len * 96 ≤ 140737488351232
  bb : BdS d.body
def CdX (d : De) : Prop := ∀ (a1 : Option Addr) (c1 : Nat) (a2 : Option Addr) (c2 : Nat) (a3 : Option Addr) (c3 : Nat) (w : World), PaL w a1 c1 d.params → ExL w a2 c2 d.e → StL w a3 c3 d.body → BdD d →
  Calls Tryz.prog 13 #[deV d (.slice a1 d.params.length c1) (.slice a2 d.e.len c2) (.slice a3 d.body.len c3)] w fun e w' => ∃ a1' c1' a2' c2' a3' c3', e = .returned (deV d (.slice a1' d.params.length c1') (.slice a2' d.e.len c2') (.slice a3' d.body.len c3')) ∧ Within w.heap.size w'.heap.size w' (fun u => D3 u w.heap.size w'.heap.size d a1' c1' a2' c2' a3' c3') ∧ Fr (fun _ => False) w w'
theorem info_pa : (Tryz.prog.info? 53).map (fun i => (i.zero, i.size, i.bytes)) = some (some (.agg #[.string ⟨#[]⟩, .int .i64 0]), 2, 24) := by kernel_rfl
abbrev dO (d : De) (a b c : Value) : Obj := .cells #[ci d.kind, .bool d.ex, ct d.name, ci d.type, a, b, c] 47 (0, 0)
theorem post1d {fn : Func} {R : Ending → World → Prop} {a : Act} {w : World} {p : Tmp} (h : fn.results = #[.cell p 47]) (hd : a.defers = []) (g : Nat) (x0 x1 x2 x3 x4 x5 x6 : Value)
    (hp : a.tmps.getD p undef = .pointer (some ⟨g, 0, none⟩)) (hg : w.heap[g]? = some (.cells #[x0, x1, x2, x3, x4, x5, x6] 47 (0, 0)))
    (hR : R (.returned (.agg #[x0, x1, x2, x3, x4, x5, x6])) w) : bodyPost Tryz.prog fn R .ret a w := by
  refine ⟨hd, _, ?_, hR⟩
  exact results_cell_row h a.tmps w g _ _ _ _ hp hg Tryz.underlying47 rfl (by kernel_rfl)
set_option maxRecDepth 20000 in
set_option maxHeartbeats 4000000 in
theorem copyD_any (d : De) : CdX d := by
  obtain ⟨kind, ex, name, type, params, e, body⟩ := d
  intro a1 c1 a2 c2 a3 c3 w hp he hl bd
  simp only at hp he hl ⊢
  have hpl : params.length ≤ c1 ∧ c1 ≤ 9223372036854775807 := by have := hp.2.1; unfold maxLen at this; exact ⟨hp.1, by omega⟩
  obtain ⟨W0, hW0⟩ : ∃ W, W = (w.alloc (.cells #[ci kind, .bool ex, ct name, ci type, .slice a1 params.length c1, .slice a2 e.len c2, .slice a3 body.len c3] 47 (0, 0))).alloc (.cells #[.int .i64 0, .bool false, .string ⟨#[]⟩, .int .i64 0, .slice none 0 0, .slice none 0 0, .slice none 0 0] 47 (0, 0)) := ⟨_, rfl⟩
  have f0 : Fr (fun _ => False) w W0 := by rw [hW0]; exact (Fr.alloc _ _ _).same (Fr.alloc _ _ _)
  have hA : W0.heap[w.heap.size]? = some (.cells #[ci kind, .bool ex, ct name, ci type, .slice a1 params.length c1, .slice a2 e.len c2, .slice a3 body.len c3] 47 (0, 0)) := by rw [hW0]; exact (alloc_old _ _ _ (by simp)).trans (alloc_new _ _)
  have hB : Hidden (W0.heap[w.heap.size + 1]? = some (.cells #[.int .i64 0, .bool false, .string ⟨#[]⟩, .int .i64 0, .slice none 0 0, .slice none 0 0, .slice none 0 0] 47 (0, 0))) := by rw [hW0]; exact aat _ _ _ (by simp)
  have hsz : W0.heap.size = w.heap.size + 2 := by rw [hW0]; simp
  have hszH : Hidden (W0.heap.size = w.heap.size + 2) := hsz
  have hW0H : Hidden (W0 = _) := hW0
  have f0H : Hidden (Fr (fun _ => False) w W0) := f0
  have hAH : Hidden (W0.heap[w.heap.size]? = _) := hA
  have hsrcH : Hidden (params.length = 0 ∨ ∃ ad, a1 = some ad ∧ ∀ (j : Nat) (u : Value), (paCs params)[j]? = some u → W0.cell? (ad.add j) = some u) := pa_src (hp.keep f0)
  have bpH : Hidden (params.length * 24 ≤ 140737488351232) := bd.p
  have k2 : ∀ u, Fr (fun _ => False) w u → Calls Tryz.prog 24 #[.slice a2 e.len c2, .func (.func 25) #[] #[]] u fun e_ w' => ∃ v', e_ = .returned v' ∧ Rw.Row (RE KE u.heap.size w' v') 39 7 w' u.heap.size v' (toL e) ∧ Fr (fun _ => False) u w' := fun u f => copyL_any e a2 c2 u (he.keep f) bd.e bd.be
  have k3 : ∀ u, Fr (fun _ => False) w u → Calls Tryz.prog 26 #[.slice a3 body.len c3, .func (.func 27) #[] #[]] u fun e_ w' => ∃ v', e_ = .returned v' ∧ Rw.Row (RE KS u.heap.size w' v') 67 5 w' u.heap.size v' (toS body) ∧ Fr (fun _ => False) u w' := fun u f => copyT_any body a3 c3 u (hl.keep f) bd.b bd.bb
  have x4 : W0.cell? ⟨w.heap.size, 4, none⟩ = some (.slice a1 params.length c1) := cell_of_row W0 _ 4 _ _ _ hA
  clear hW0 hA f0 hp he hl bd hsz
  go_enter Tryz.func13, Tryz.ntmps13
  go_upto_region 1 with fail
  rw [← (show W0 = _ from hW0H)]
  go_upto_region 2 with (at_builtin; refine wpl_clone rfl _ _ 44 53 _ 2 24 Tryz.underlying44 info_pa rfl (by decide) rfl rfl a1 params.length c1 (paCs params) rfl (paCs_len params) hsrcH (paCs_one params) ?_ ?_ ?_; (focus (have : params.length * 24 ≤ 140737488351232 := bpH; unfold maxLen; omega)); (focus (have : params.length * 24 ≤ 140737488351232 := bpH; omega)); intro v' w1 hrow f1; obtain ⟨a1', c1', hv', hW1⟩ := pa_row hrow; subst hv'; have hA1 : w1.heap[w.heap.size]? = some (.cells #[ci kind, .bool ex, ct name, ci type, .slice a1 params.length c1, .slice a2 e.len c2, .slice a3 body.len c3] 47 (0, 0)) := f1.heap hAH (fun f => f); have y4 : w1.cell? ⟨w.heap.size, 4, none⟩ = some (.slice a1 params.length c1) := cell_of_row w1 _ 4 _ _ _ hA1; have z4 := frozen_r hA1 4; clear hrow)
  have hs : W0.heap.size = w.heap.size + 2 := hszH
  obtain ⟨w2, hw2⟩ : ∃ w2, w2 = w1.setCell ⟨w.heap.size, 4, none⟩ (.slice a1' params.length c1') := ⟨_, rfl⟩
  have f2 : Fr (fun b => b = w.heap.size) w1 w2 := by rw [hw2]; exact Fr.setCell w1 ⟨w.heap.size, 4, none⟩ _
  have hA2 : w2.heap[w.heap.size]? = some (.cells #[ci kind, .bool ex, ct name, ci type, .slice a1' params.length c1', .slice a2 e.len c2, .slice a3 body.len c3] 47 (0, 0)) := by rw [hw2]; exact heap_setCell_same _ _ 4 _ _ _ hA1
  have z12 : w2.heap.size = w1.heap.size := by rw [hw2]; simp
  rw [← hw2]
  have g2 : Fr (fun _ => False) w w2 := ((show Fr (fun _ => False) w W0 from f0H).same f1).over f2 (fun b e => by omega)
  have kk2 := k2 w2 g2
  have x5 : w2.cell? ⟨w.heap.size, 5, none⟩ = some (.slice a2 e.len c2) := cell_of_row w2 _ 5 _ _ _ hA2
  have g2H : Hidden (Fr (fun _ => False) w w2) := g2
  have hA2H : Hidden (w2.heap[w.heap.size]? = _) := hA2
  have f2H : Hidden (Fr (fun b => b = w.heap.size) w1 w2) := f2
  have f1H : Hidden (Fr (fun _ => False) W0 w1) := f1
  have hW1H : Hidden (Within W0.heap.size w1.heap.size w1 (fun u => PaL u a1' c1' params ∧ ShP u W0.heap.size w1.heap.size a1' c1' params)) := hW1
  have z12H : Hidden (w2.heap.size = w1.heap.size) := z12
  clear hw2 hA2 hA1 y4 z4 x4 k2 f2 g2 f1 hW1 hs z12 hsrcH bpH
  go_upto_region 3 with (go_at_call 24; refine kk2.mono ?_; rintro e_ w3 ⟨v', rfl, hrow, f3⟩; obtain ⟨a2', c2', hv', hW3⟩ := row_ex hrow; subst hv'; have hA3 : w3.heap[w.heap.size]? = some (.cells #[ci kind, .bool ex, ct name, ci type, .slice a1' params.length c1', .slice a2 e.len c2, .slice a3 body.len c3] 47 (0, 0)) := f3.heap hA2H (fun f => f); have y5 : w3.cell? ⟨w.heap.size, 5, none⟩ = some (.slice a2 e.len c2) := cell_of_row w3 _ 5 _ _ _ hA3; have z5 := frozen_r hA3 5; clear hrow)
  have hs : W0.heap.size = w.heap.size + 2 := hszH
  have s1 := (show Fr (fun _ => False) W0 w1 from f1H).size
  have z12 : w2.heap.size = w1.heap.size := z12H
  obtain ⟨w4, hw4⟩ : ∃ w4, w4 = w3.setCell ⟨w.heap.size, 5, none⟩ (.slice a2' e.len c2') := ⟨_, rfl⟩
  have f4 : Fr (fun b => b = w.heap.size) w3 w4 := by rw [hw4]; exact Fr.setCell w3 ⟨w.heap.size, 5, none⟩ _
  have hA4 : w4.heap[w.heap.size]? = some (.cells #[ci kind, .bool ex, ct name, ci type, .slice a1' params.length c1', .slice a2' e.len c2', .slice a3 body.len c3] 47 (0, 0)) := by rw [hw4]; exact heap_setCell_same _ _ 5 _ _ _ hA3
  have z34 : w4.heap.size = w3.heap.size := by rw [hw4]; simp
  rw [← hw4]
  have g4 : Fr (fun _ => False) w w4 := ((show Fr (fun _ => False) w w2 from g2H).same f3).over f4 (fun b e => by omega)
  have kk3 := k3 w4 g4
  have x6 : w4.cell? ⟨w.heap.size, 6, none⟩ = some (.slice a3 body.len c3) := cell_of_row w4 _ 6 _ _ _ hA4
  have g4H : Hidden (Fr (fun _ => False) w w4) := g4
  have hA4H : Hidden (w4.heap[w.heap.size]? = _) := hA4
  have f4H : Hidden (Fr (fun b => b = w.heap.size) w3 w4) := f4
  have f3H : Hidden (Fr (fun _ => False) w2 w3) := f3
  have hW3H : Hidden (Within w2.heap.size w3.heap.size w3 (fun u => ExL u a2' c2' e ∧ ShX u w2.heap.size w3.heap.size a2' c2' e)) := hW3
  have z34H : Hidden (w4.heap.size = w3.heap.size) := z34
  clear hw4 hA4 hA3 y5 z5 x5 kk2 k3 f4 g4 f3 hW3 hs s1 z12 z34
  go_upto_region 4 with (go_at_call 26; refine kk3.mono ?_; rintro e_ w5 ⟨v', rfl, hrow, f5⟩; obtain ⟨a3', c3', hv', hW5⟩ := row_st hrow; subst hv'; have hA5 : w5.heap[w.heap.size]? = some (.cells #[ci kind, .bool ex, ct name, ci type, .slice a1' params.length c1', .slice a2' e.len c2', .slice a3 body.len c3] 47 (0, 0)) := f5.heap hA4H (fun f => f); have y6 : w5.cell? ⟨w.heap.size, 6, none⟩ = some (.slice a3 body.len c3) := cell_of_row w5 _ 6 _ _ _ hA5; have z6 := frozen_r hA5 6; clear hrow)
  have hs : W0.heap.size = w.heap.size + 2 := hszH
  have f1 : Fr (fun _ => False) W0 w1 := f1H
  have f2 : Fr (fun b => b = w.heap.size) w1 w2 := f2H
  have f3 : Fr (fun _ => False) w2 w3 := f3H
  have f4 : Fr (fun b => b = w.heap.size) w3 w4 := f4H
  have s1 := f1.size
  have s3 := f3.size
  have s5 := f5.size
  have z12 : w2.heap.size = w1.heap.size := z12H
  have z34 : w4.heap.size = w3.heap.size := z34H
  obtain ⟨w6, hw6⟩ : ∃ w6, w6 = w5.setCell ⟨w.heap.size, 6, none⟩ (.slice a3' body.len c3') := ⟨_, rfl⟩
  have f6 : Fr (fun b => b = w.heap.size) w5 w6 := by rw [hw6]; exact Fr.setCell w5 ⟨w.heap.size, 6, none⟩ _
  have hA6 : w6.heap[w.heap.size]? = some (.cells #[ci kind, .bool ex, ct name, ci type, .slice a1' params.length c1', .slice a2' e.len c2', .slice a3' body.len c3'] 47 (0, 0)) := by rw [hw6]; exact heap_setCell_same _ _ 6 _ _ _ hA5
  have z56 : w6.heap.size = w5.heap.size := by rw [hw6]; simp
  have hB6 : w6.heap[w.heap.size + 1]? = some (.cells #[.int .i64 0, .bool false, .string ⟨#[]⟩, .int .i64 0, .slice none 0 0, .slice none 0 0, .slice none 0 0] 47 (0, 0)) := f6.heap (f5.heap (f4.heap (f3.heap (f2.heap (f1.heap hB (fun f => f)) (by omega)) (fun f => f)) (by omega)) (fun f => f)) (by omega)
  rw [← hw6]
  obtain ⟨p0, p1, p2, p3, p4, p5, p6⟩ := ex7 hA6
  obtain ⟨r0, r1, r2, r3, r4, r5, r6⟩ := ex7 hB6
  have i0 := frozen_r hB6 0
  have i1 := frozen_r hB6 1
  have i2 := frozen_r hB6 2
  have i3 := frozen_r hB6 3
  have i4 := frozen_r hB6 4
  have i5 := frozen_r hB6 5
  have i6 := frozen_r hB6 6
  obtain ⟨wE, hwE⟩ : ∃ wE, wE = ((((((w6.setCell ⟨w.heap.size + 1, 0, none⟩ (ci kind)).setCell ⟨w.heap.size + 1, 1, none⟩ (.bool ex)).setCell ⟨w.heap.size + 1, 2, none⟩ (ct name)).setCell ⟨w.heap.size + 1, 3, none⟩ (ci type)).setCell ⟨w.heap.size + 1, 4, none⟩ (.slice a1' params.length c1')).setCell ⟨w.heap.size + 1, 5, none⟩ (.slice a2' e.len c2')).setCell ⟨w.heap.size + 1, 6, none⟩ (.slice a3' body.len c3') := ⟨_, rfl⟩
  have f7 : Fr (fun b => b = w.heap.size + 1) w6 wE := by rw [hwE]; exact fr7 _ _ _ _ _ _ _ _ _
  have hBE : wE.heap[w.heap.size + 1]? = some (.cells #[ci kind, .bool ex, ct name, ci type, .slice a1' params.length c1', .slice a2' e.len c2', .slice a3' body.len c3'] 47 (0, 0)) := by rw [hwE]; exact set7' hB6 _ _ _ _ _ _ _
  have s7 := f7.size
  have hR2 : Hidden (Within w.heap.size wE.heap.size wE (fun u => D3 u w.heap.size wE.heap.size ⟨kind, ex, name, type, params, e, body⟩ a1' c1' a2' c2' a3' c3') ∧ Fr (fun _ => False) w wE) := by
    refine ⟨fun u hu => ?_, (((show Fr (fun _ => False) w w4 from g4H).same f5).over f6 (fun b e => by omega)).over f7 (fun b e => by omega)⟩
    have q7 : ∀ g, W0.heap.size ≤ g → g < w5.heap.size → u.heap[g]? = w5.heap[g]? := fun g g1 g2 => (hu g (by omega) (by omega)).trans ((f7.block g (by omega) (by omega)).trans (f6.block g g2 (by omega)))
    have q5 : ∀ g, W0.heap.size ≤ g → g < w3.heap.size → u.heap[g]? = w3.heap[g]? := fun g g1 g2 => (q7 g g1 (by omega)).trans ((f5.block g (by omega) (fun f => f)).trans (f4.block g g2 (by omega)))
    have q3 : ∀ g, W0.heap.size ≤ g → g < w1.heap.size → u.heap[g]? = w1.heap[g]? := fun g g1 g2 => (q5 g g1 (by omega)).trans ((f3.block g (by omega) (fun f => f)).trans (f2.block g g2 (by omega)))
    have e1 := (show Within W0.heap.size w1.heap.size w1 _ from hW1H) u (fun g g1 g2 => q3 g g1 g2)
    have e3 := (show Within w2.heap.size w3.heap.size w3 _ from hW3H) u (fun g g1 g2 => q5 g (by omega) g2)
    have e5 := hW5 u (fun g g1 g2 => q7 g (by omega) g2)
    exact ⟨⟨e1.1, e1.2.wide (by omega) (by omega)⟩, ⟨e3.1, e3.2.wide (by omega) (by omega)⟩, e5.1, e5.2.wide (by omega) (by omega)⟩
  have hwEH : Hidden (wE = _) := hwE
  have hBEH : Hidden (wE.heap[w.heap.size + 1]? = _) := hBE
  clear hw6 f1 f2 f3 f4 f5 f6 f7 hA6 hB6 hA5 hwE hBE hW5 y6 z6 x6 kk3 s1 s3 s5 s7 z12 z34 z56 hs
  go_wp2_with fail
  rw [← (show wE = _ from hwEH)]
  exact post1d rfl rfl _ _ _ _ _ _ _ _ rfl hBEH ⟨a1', c1', a2', c2', a3', c3', rfl, (show _ ∧ _ from hR2).1, (show _ ∧ _ from hR2).2⟩
end Go.Proofs.YtncachlopnpcjaaGreatDoor.Sl
