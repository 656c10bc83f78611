/- Texts of ours, in one. -/
import Derived.Test.YtnmcehpdiopaiaaGreatDoorCdDAll
import Derived.Test.YtnmcehpdiopaiaaGreatDoorTyB3
import Derived.Test.YtnmcehpdiopaiaaGreatDoorCdAq
import Derived.Test.YtnmcehpdiopaiaaGreatDoorCdTz
namespace Go.Proofs.YtnmcehpdiopaiaaGreatDoor.Cd
open Go.RowKit Ty
set_option linter.unusedSimpArgs false
set_option linter.unusedVariables false

/-- What step hands back. -/
def FlR (w : World) (B : Nat) (v : Value) : Option (Option Sp × Option Sp) → Prop
  | none => ∃ x1 x2 o3 n3 k3 o4 n4 k4 o5 n5 k5 o6 n6 k6, v = .agg #[.bool false, .bool x1, .bool x2, .slice o3 n3 k3, .slice o4 n4 k4, .slice o5 n5 k5, .slice o6 n6 k6]
  | some (a, b) => ∃ o3 n3 k3 o4 n4 k4 o5 n5 k5 o6 n6 k6, v = .agg #[.bool true, .bool a.isSome, .bool b.isSome, .slice o3 n3 k3, .slice o4 n4 k4, .slice o5 n5 k5, .slice o6 n6 k6] ∧ (∀ x, a = some x → ShB w B (.agg #[.slice o3 n3 k3, .slice o4 n4 k4]) x) ∧ (∀ x, b = some x → ShB w B (.agg #[.slice o5 n5 k5, .slice o6 n6 k6]) x)
theorem InB.low {w : World} {B B' : Nat} {ao : Option Addr} {cap : Nat} {l : List Int} (h : InB w B ao cap l) (hb : B' ≤ B) : InB w B' ao cap l := ⟨h.1, fun a e => Nat.le_trans hb (h.2 a e)⟩
theorem box7 {w : World} {b : Nat} {x0 x1 x2 x3 x4 x5 x6 : Value} {t : TypeId} (hb : w.heap[b]? = some (.cells #[x0, x1, x2, x3, x4, x5, x6] t (0, 0))) :
    (w.cell? ⟨b, 0, none⟩ = some x0 ∧ w.cell? ⟨b, 1, none⟩ = some x1 ∧ w.cell? ⟨b, 2, none⟩ = some x2 ∧ w.cell? ⟨b, 3, none⟩ = some x3 ∧ w.cell? ⟨b, 4, none⟩ = some x4 ∧ w.cell? ⟨b, 5, none⟩ = some x5 ∧ w.cell? ⟨b, 6, none⟩ = some x6) ∧
    (w.frozen? ⟨b, 0, none⟩ = false ∧ w.frozen? ⟨b, 1, none⟩ = false ∧ w.frozen? ⟨b, 2, none⟩ = false ∧ w.frozen? ⟨b, 3, none⟩ = false ∧ w.frozen? ⟨b, 4, none⟩ = false ∧ w.frozen? ⟨b, 5, none⟩ = false ∧ w.frozen? ⟨b, 6, none⟩ = false) :=
  ⟨⟨cell_of_row _ _ 0 _ _ _ hb, cell_of_row _ _ 1 _ _ _ hb, cell_of_row _ _ 2 _ _ _ hb, cell_of_row _ _ 3 _ _ _ hb, cell_of_row _ _ 4 _ _ _ hb, cell_of_row _ _ 5 _ _ _ hb, cell_of_row _ _ 6 _ _ _ hb⟩, fz_row hb 0, fz_row hb 1, fz_row hb 2, fz_row hb 3, fz_row hb 4, fz_row hb 5, fz_row hb 6⟩
theorem info_flow : (Tryz.prog.info? 86).map (·.size) = some 7 := by kernel_rfl
abbrev w7 (w : World) (g : Nat) (x0 x1 x2 x3 x4 x5 x6 : Value) : World := ((((((w.setCell ⟨g, 0, none⟩ x0).setCell ⟨g, 1, none⟩ x1).setCell ⟨g, 2, none⟩ x2).setCell ⟨g, 3, none⟩ x3).setCell ⟨g, 4, none⟩ x4).setCell ⟨g, 5, none⟩ x5).setCell ⟨g, 6, none⟩ x6
theorem set7 {w : World} {g : Nat} {c0 c1 c2 c3 c4 c5 c6 : Value} {t : TypeId} (hg : w.heap[g]? = some (.cells #[c0, c1, c2, c3, c4, c5, c6] t (0, 0))) (x0 x1 x2 x3 x4 x5 x6 : Value) : (w7 w g x0 x1 x2 x3 x4 x5 x6).heap[g]? = some (.cells #[x0, x1, x2, x3, x4, x5, x6] t (0, 0)) := by
  have h0 : (w.setCell ⟨g, 0, none⟩ x0).heap[g]? = some (.cells #[x0, c1, c2, c3, c4, c5, c6] t (0, 0)) := heap_setCell_same w g 0 _ t x0 hg
  have h1 : ((w.setCell ⟨g, 0, none⟩ x0).setCell ⟨g, 1, none⟩ x1).heap[g]? = some (.cells #[x0, x1, c2, c3, c4, c5, c6] t (0, 0)) := heap_setCell_same (w.setCell ⟨g, 0, none⟩ x0) g 1 _ t x1 h0
  have h2 : (((w.setCell ⟨g, 0, none⟩ x0).setCell ⟨g, 1, none⟩ x1).setCell ⟨g, 2, none⟩ x2).heap[g]? = some (.cells #[x0, x1, x2, c3, c4, c5, c6] t (0, 0)) := heap_setCell_same ((w.setCell ⟨g, 0, none⟩ x0).setCell ⟨g, 1, none⟩ x1) g 2 _ t x2 h1
  have h3 : ((((w.setCell ⟨g, 0, none⟩ x0).setCell ⟨g, 1, none⟩ x1).setCell ⟨g, 2, none⟩ x2).setCell ⟨g, 3, none⟩ x3).heap[g]? = some (.cells #[x0, x1, x2, x3, c4, c5, c6] t (0, 0)) := heap_setCell_same (((w.setCell ⟨g, 0, none⟩ x0).setCell ⟨g, 1, none⟩ x1).setCell ⟨g, 2, none⟩ x2) g 3 _ t x3 h2
  have h4 : (((((w.setCell ⟨g, 0, none⟩ x0).setCell ⟨g, 1, none⟩ x1).setCell ⟨g, 2, none⟩ x2).setCell ⟨g, 3, none⟩ x3).setCell ⟨g, 4, none⟩ x4).heap[g]? = some (.cells #[x0, x1, x2, x3, x4, c5, c6] t (0, 0)) := heap_setCell_same ((((w.setCell ⟨g, 0, none⟩ x0).setCell ⟨g, 1, none⟩ x1).setCell ⟨g, 2, none⟩ x2).setCell ⟨g, 3, none⟩ x3) g 4 _ t x4 h3
  have h5 : ((((((w.setCell ⟨g, 0, none⟩ x0).setCell ⟨g, 1, none⟩ x1).setCell ⟨g, 2, none⟩ x2).setCell ⟨g, 3, none⟩ x3).setCell ⟨g, 4, none⟩ x4).setCell ⟨g, 5, none⟩ x5).heap[g]? = some (.cells #[x0, x1, x2, x3, x4, x5, c6] t (0, 0)) := heap_setCell_same (((((w.setCell ⟨g, 0, none⟩ x0).setCell ⟨g, 1, none⟩ x1).setCell ⟨g, 2, none⟩ x2).setCell ⟨g, 3, none⟩ x3).setCell ⟨g, 4, none⟩ x4) g 5 _ t x5 h4
  exact heap_setCell_same ((((((w.setCell ⟨g, 0, none⟩ x0).setCell ⟨g, 1, none⟩ x1).setCell ⟨g, 2, none⟩ x2).setCell ⟨g, 3, none⟩ x3).setCell ⟨g, 4, none⟩ x4).setCell ⟨g, 5, none⟩ x5) g 6 _ t x6 h5
theorem w7_fr (w : World) (g : Nat) (x0 x1 x2 x3 x4 x5 x6 : Value) : Fr (fun k => k = g) w (w7 w g x0 x1 x2 x3 x4 x5 x6) :=
  ((((((Fr.setCell w ⟨g, 0, none⟩ x0).same (Fr.setCell _ ⟨g, 1, none⟩ x1)).same (Fr.setCell _ ⟨g, 2, none⟩ x2)).same (Fr.setCell _ ⟨g, 3, none⟩ x3)).same (Fr.setCell _ ⟨g, 4, none⟩ x4)).same (Fr.setCell _ ⟨g, 5, none⟩ x5)).same (Fr.setCell _ ⟨g, 6, none⟩ x6)
/-- The result that stands in a box, once the stack of the next one was put into the other. -/
theorem next_post {fn : Func} {a : Act} {w w1 V : World} {u : Tmp} {g4 g6 B : Nat} {c0 c1 c2 c3 c4 c5 c6 : Value} {vo to' : Option Addr} {X vc nt tc : Nat} {st : List Int} {s : Sp} {o : Option (Option Sp × Option Sp)} (h : fn.results = #[.cell u 86]) (hd : a.defers = []) (hp : a.tmps.getD u undef = .pointer (some ⟨g4, 0, none⟩))
    (hg : w1.heap[g4]? = some (.cells #[c0, c1, c2, c3, c4, c5, c6] 86 (0, 0))) (hne : g4 ≠ g6) (h4 : w.heap.size ≤ g4) (h6 : w.heap.size ≤ g6) (v4 : g4 < V.heap.size) (v6 : g6 < V.heap.size) (hB : B ≤ w.heap.size) (f0 : Fr (fun _ => False) w V) (f1 : Fr (fun _ => False) V w1) (hX : X = st.length) (hnt : s.tr.length = nt) (hv : InB w1 V.heap.size vo vc st) (ht : TrB w B to' tc s.tr) (ho : o = some (some ⟨st, s.tr⟩, none)) :
    bodyPost Tryz.prog fn (fun e w' => ∃ v, e = .returned v ∧ FlR w' B v o ∧ Fr (fun _ => False) w w') .ret a (w7 (w1.setCell ⟨g6, 3, none⟩ (.slice vo X vc)) g4 (.bool true) (.bool true) (.bool false) (.slice vo X vc) (.slice to' nt tc) (.slice none 0 0) (.slice none 0 0)) := by
  have q1 := Fr.setCell w1 ⟨g6, 3, none⟩ (.slice vo X vc)
  have hg' : (w1.setCell ⟨g6, 3, none⟩ (.slice vo X vc)).heap[g4]? = _ := q1.heap hg hne
  have q2 := w7_fr (w1.setCell ⟨g6, 3, none⟩ (.slice vo X vc)) g4 (.bool true) (.bool true) (.bool false) (.slice vo X vc) (.slice to' nt tc) (.slice none 0 0) (.slice none 0 0)
  have hend := set7 hg' (.bool true) (.bool true) (.bool false) (.slice vo X vc) (.slice to' nt tc) (.slice none 0 0) (.slice none 0 0)
  have fw : Fr (fun k => k = g4 ∨ k = g6) w1 (w7 (w1.setCell ⟨g6, 3, none⟩ (.slice vo X vc)) g4 (.bool true) (.bool true) (.bool false) (.slice vo X vc) (.slice to' nt tc) (.slice none 0 0) (.slice none 0 0)) :=
    (q1.mono fun _ _ e => Or.inr e).same (q2.mono fun _ _ e => Or.inl e)
  have fall : Fr (fun _ => False) w (w7 (w1.setCell ⟨g6, 3, none⟩ (.slice vo X vc)) g4 (.bool true) (.bool true) (.bool false) (.slice vo X vc) (.slice to' nt tc) (.slice none 0 0) (.slice none 0 0)) :=
    (f0.same f1).over fw (fun k e => by rcases e with rfl | rfl <;> assumption)
  refine ⟨hd, _, results_cell_row h _ _ g4 _ _ (0, 0) _ hp hend Tryz.underlying86 rfl info_flow, ⟨_, rfl, ?_, fall⟩⟩
  subst ho
  refine ⟨_, _, _, _, _, _, _, _, _, _, _, _, rfl, fun y hy => ?_, fun y hy => by cases hy⟩
  cases hy
  refine ⟨vo, vc, to', tc, by rw [hX, hnt], (hv.keep fw (fun k hk e => by rcases e with rfl | rfl <;> omega)).low (by have := f0.size; omega), ht.keep fall (fun _ _ f => f)⟩
theorem size_open1 (u : World) : (sizeOf 134).run Tryz.prog u = .ok 2 u := by
  simp [sizeOf, go_sem]
  rfl
theorem slice_toT (so : Option Addr) (n m sc : Nat) (h : m ≤ sc) (w : World) : (Instr.slice 78 (.slice so n sc) none (some (.int .i64 (m : Int))) none).run Tryz.prog w = .ok (.slice so m sc) w := by
  have he : Tryz.prog.elem 78 = 134 := by kernel_rfl
  rw [run_slice_h w _ _ _ _ (by rw [he]; exact Tryz.underlying78) .i64 (m : Int) (by omega) (by omega), he, size_open1 w]
  simp only [Result.andThen, sliced, Int.toNat_natCast, Nat.sub_zero, Nat.zero_mul]
  cases so with
  | none => simp
  | some a => simp [Addr.add]
/-- The result that stands in a box, whatever it is. -/
theorem fl_post {fn : Func} {a : Act} {w W : World} {u : Tmp} {g4 B : Nat} {c0 c1 c2 c3 c4 c5 c6 x0 x1 x2 x3 x4 x5 x6 : Value} {o : Option (Option Sp × Option Sp)} (h : fn.results = #[.cell u 86]) (hd : a.defers = []) (hp : a.tmps.getD u undef = .pointer (some ⟨g4, 0, none⟩))
    (hg : W.heap[g4]? = some (.cells #[c0, c1, c2, c3, c4, c5, c6] 86 (0, 0))) (h4 : w.heap.size ≤ g4) (f : Fr (fun _ => False) w W) (hR : ∀ W', Fr (fun _ => False) w W' → FlR W' B (.agg #[x0, x1, x2, x3, x4, x5, x6]) o) :
    bodyPost Tryz.prog fn (fun e w' => ∃ v, e = .returned v ∧ FlR w' B v o ∧ Fr (fun _ => False) w w') .ret a (w7 W g4 x0 x1 x2 x3 x4 x5 x6) := by
  have hend := set7 hg x0 x1 x2 x3 x4 x5 x6
  have fall := f.over (w7_fr W g4 x0 x1 x2 x3 x4 x5 x6) (fun k e => by subst e; exact h4)
  exact ⟨hd, _, results_cell_row h _ _ g4 _ _ (0, 0) _ hp hend Tryz.underlying86 rfl info_flow, ⟨_, rfl, hR _ fall, fall⟩⟩
abbrev z7 : Array Value := #[.bool false, .bool false, .bool false, .slice none 0 0, .slice none 0 0, .slice none 0 0, .slice none 0 0]
set_option maxRecDepth 20000 in
set_option maxHeartbeats 4000000 in
theorem dstep_1 (f : Fu) (p : Fm) (a0 a2 a3 a4 a5 : Option Addr) (c0 c2 c3 c4 c5 : Nat) (n t bb : Int) (s : Sp) (so to' : Option Addr) (sc tc ns nt B : Nat) (w : World) (hns : s.st.length = ns) (hnt : s.tr.length = nt) (hF : Fi w f p a0 a2 a3 a4 a5 c0 c2 c3 c4 c5) (hs : InB w B so sc s.st) (ht : TrB w B to' tc s.tr) (hl : ns ≤ 600) (hB : B ≤ w.heap.size) :
    Calls Tryz.prog 27 #[.agg #[.slice a0 f.sg.ps.length c0, ci f.sg.res, .slice a2 f.loc.length c2, .slice a3 f.cd.length c3], .agg #[.slice a4 p.fns.length c4, .slice a5 p.vars.length c5], inV ⟨1, n, t, bb⟩, .agg #[.slice so ns sc, .slice to' nt tc]] w fun e w' => ∃ v, e = .returned v ∧ FlR w' B v (stepS f p ⟨1, n, t, bb⟩ s) ∧ Fr (fun _ => False) w w' := by
  obtain ⟨V, hV⟩ : ∃ V, V = (((((((w.alloc (.cells #[.slice a0 f.sg.ps.length c0, ci f.sg.res, .slice a2 f.loc.length c2, .slice a3 f.cd.length c3] 27 (0, 0))).alloc (.cells #[.slice a4 p.fns.length c4, .slice a5 p.vars.length c5] 30 (0, 0))).alloc (.cells #[ci 1, ci n, ci t, .int .u64 bb] 84 (0, 0))).alloc (.cells #[.slice so ns sc, .slice to' nt tc] 80 (0, 0))).alloc (.cells z7 86 (0, 0))).alloc (.cells z7 86 (0, 0))).alloc (.cells #[.bool true, .bool true, .bool false, .slice so ns sc, .slice to' nt tc, .slice none 0 0, .slice none 0 0] 86 (0, 0))) := ⟨_, rfl⟩
  have fV : Fr (fun _ => False) w V := by rw [hV]; exact ((((((Fr.alloc _ _ _).same (Fr.alloc _ _ _)).same (Fr.alloc _ _ _)).same (Fr.alloc _ _ _)).same (Fr.alloc _ _ _)).same (Fr.alloc _ _ _)).same (Fr.alloc _ _ _)
  have szV : V.heap.size = w.heap.size + 7 := by rw [hV]; simp
  have r0 : V.heap[w.heap.size]? = some (.cells #[.slice a0 f.sg.ps.length c0, ci f.sg.res, .slice a2 f.loc.length c2, .slice a3 f.cd.length c3] 27 (0, 0)) := by
    rw [hV]
    refine (Fr.alloc (fun _ => False) _ _).heap ?_ (fun f => f)
    refine (Fr.alloc (fun _ => False) _ _).heap ?_ (fun f => f)
    refine (Fr.alloc (fun _ => False) _ _).heap ?_ (fun f => f)
    refine (Fr.alloc (fun _ => False) _ _).heap ?_ (fun f => f)
    refine (Fr.alloc (fun _ => False) _ _).heap ?_ (fun f => f)
    refine (Fr.alloc (fun _ => False) _ _).heap ?_ (fun f => f)
    exact alloc_new _ _
  have r1 : V.heap[w.heap.size + 1]? = some (.cells #[.slice a4 p.fns.length c4, .slice a5 p.vars.length c5] 30 (0, 0)) := by
    rw [hV]
    refine (Fr.alloc (fun _ => False) _ _).heap ?_ (fun f => f)
    refine (Fr.alloc (fun _ => False) _ _).heap ?_ (fun f => f)
    refine (Fr.alloc (fun _ => False) _ _).heap ?_ (fun f => f)
    refine (Fr.alloc (fun _ => False) _ _).heap ?_ (fun f => f)
    refine (Fr.alloc (fun _ => False) _ _).heap ?_ (fun f => f)
    exact alloc_at _ _ _ (by simp)
  have r2 : V.heap[w.heap.size + 1 + 1]? = some (.cells #[ci 1, ci n, ci t, .int .u64 bb] 84 (0, 0)) := by
    rw [hV]
    refine (Fr.alloc (fun _ => False) _ _).heap ?_ (fun f => f)
    refine (Fr.alloc (fun _ => False) _ _).heap ?_ (fun f => f)
    refine (Fr.alloc (fun _ => False) _ _).heap ?_ (fun f => f)
    refine (Fr.alloc (fun _ => False) _ _).heap ?_ (fun f => f)
    exact alloc_at _ _ _ (by simp)
  have r3 : V.heap[w.heap.size + 1 + 1 + 1]? = some (.cells #[.slice so ns sc, .slice to' nt tc] 80 (0, 0)) := by
    rw [hV]
    refine (Fr.alloc (fun _ => False) _ _).heap ?_ (fun f => f)
    refine (Fr.alloc (fun _ => False) _ _).heap ?_ (fun f => f)
    refine (Fr.alloc (fun _ => False) _ _).heap ?_ (fun f => f)
    exact alloc_at _ _ _ (by simp)
  have r4 : V.heap[w.heap.size + 1 + 1 + 1 + 1]? = some (.cells z7 86 (0, 0)) := by
    rw [hV]
    refine (Fr.alloc (fun _ => False) _ _).heap ?_ (fun f => f)
    refine (Fr.alloc (fun _ => False) _ _).heap ?_ (fun f => f)
    exact alloc_at _ _ _ (by simp)
  have r5 : V.heap[w.heap.size + 1 + 1 + 1 + 1 + 1]? = some (.cells z7 86 (0, 0)) := by
    rw [hV]
    refine (Fr.alloc (fun _ => False) _ _).heap ?_ (fun f => f)
    exact alloc_at _ _ _ (by simp)
  have r6 : V.heap[w.heap.size + 1 + 1 + 1 + 1 + 1 + 1]? = some (.cells #[.bool true, .bool true, .bool false, .slice so ns sc, .slice to' nt tc, .slice none 0 0, .slice none 0 0] 86 (0, 0)) := by
    rw [hV]
    exact alloc_at _ _ _ (by simp)
  have kp := fun (x : Int) => put_any so ns sc s.st x V hns (InL.keep hs.1 fV) (by omega)
  obtain ⟨i0, i1, i2, i3⟩ := box4 r2
  have s0 : V.cell? ⟨w.heap.size + 1 + 1 + 1, 0, none⟩ = some (.slice so ns sc) := cell_of_row _ _ 0 _ _ _ r3
  have s1 : V.cell? ⟨w.heap.size + 1 + 1 + 1, 1, none⟩ = some (.slice to' nt tc) := cell_of_row _ _ 1 _ _ _ r3
  have r4H : Hidden (V.heap[w.heap.size + 1 + 1 + 1 + 1]? = some (.cells z7 86 (0, 0))) := r4
  have r6H : Hidden (V.heap[w.heap.size + 1 + 1 + 1 + 1 + 1 + 1]? = some (.cells #[.bool true, .bool true, .bool false, .slice so ns sc, .slice to' nt tc, .slice none 0 0, .slice none 0 0] 86 (0, 0))) := r6
  have fVH : Hidden (Fr (fun _ => False) w V) := fV
  have hVH : Hidden (V = _) := hV
  have hsH : Hidden (InB w B so sc s.st) := hs
  have htH : Hidden (TrB w B to' tc s.tr) := ht
  have hntH : Hidden (s.tr.length = nt) := hnt
  have hnsH : Hidden (s.st.length = ns) := hns
  have hFH : Hidden (Fi w f p a0 a2 a3 a4 a5 c0 c2 c3 c4 c5) := hF
  have r0H : Hidden (V.heap[w.heap.size]? = some (.cells #[.slice a0 f.sg.ps.length c0, ci f.sg.res, .slice a2 f.loc.length c2, .slice a3 f.cd.length c3] 27 (0, 0))) := r0
  have r1H : Hidden (V.heap[w.heap.size + 1]? = some (.cells #[.slice a4 p.fns.length c4, .slice a5 p.vars.length c5] 30 (0, 0))) := r1
  have r3H : Hidden (V.heap[w.heap.size + 1 + 1 + 1]? = some (.cells #[.slice so ns sc, .slice to' nt tc] 80 (0, 0))) := r3
  have r5H : Hidden (V.heap[w.heap.size + 1 + 1 + 1 + 1 + 1]? = some (.cells z7 86 (0, 0))) := r5
  have kpH : Hidden (∀ W, Fr (fun _ => False) V W → ∀ x : Int, Calls Tryz.prog 43 #[.slice so ns sc, ci x] W fun e w' => ∃ v, e = .returned v ∧ OwI w' W.heap.size v (s.st ++ [x]) ∧ Fr (fun _ => False) W w') := fun W hW x => put_any so ns sc s.st x W hns (InL.keep (InL.keep hs.1 fV) hW) (by omega)
  have szH : Hidden (V.heap.size = w.heap.size + 7) := szV
  have hBH : Hidden (B ≤ w.heap.size) := hB
  clear hF hs ht hV fV r0 r1 r2 r3 r4 r5 r6 hns hnt szV hB
  go_enter Tryz.func27, Tryz.ntmps27
  go_upto_region 3 with fail
  rw [← (show V = _ from hVH)]
  clear hVH
  go_wp2_with (first
    | (go_at_call 43; refine (kp _).mono ?_; rintro e w1 ⟨v, rfl, hv, f1⟩
       obtain ⟨⟨t0, t1, t2, t3, t4, t5, t6⟩, u0, u1, u2, u3, u4, u5, u6⟩ := box7 (f1.heap r4H (fun f => f))
       obtain ⟨⟨p0, p1, p2, p3, p4, p5, p6⟩, q0, q1, q2, q3, q4, q5, q6⟩ := box7 (f1.heap r6H (fun f => f))
       obtain ⟨vo, vc, rfl, hvB⟩ := OwI.inB hv
       have hvH : Hidden (InB w1 V.heap.size vo vc (s.st ++ [t])) := hvB
       have f1H : Hidden (Fr (fun _ => False) V w1) := f1
       obtain ⟨X, hX⟩ : ∃ X, X = (s.st ++ [t]).length := ⟨_, rfl⟩
       rw [← hX]
       have hXH : Hidden (X = (s.st ++ [t]).length) := hX
       clear hv f1 hvB hX kp i0 i1 i2 i3 s0 s1))
  have sz := (show V.heap.size = w.heap.size + 7 from szH)
  exact next_post (V := V) (u := 8) (B := B) (st := s.st ++ [t]) (s := s) rfl rfl rfl ((show Fr (fun _ => False) V w1 from f1H).heap r4H (fun f => f)) (by omega) (by omega) (by omega) (by omega) (by omega) hBH fVH f1H hXH hntH hvH htH (by simp [stepS, on])
set_option maxRecDepth 20000 in
set_option maxHeartbeats 4000000 in
theorem dstep_14 (f : Fu) (p : Fm) (a0 a2 a3 a4 a5 : Option Addr) (c0 c2 c3 c4 c5 : Nat) (n t bb : Int) (s : Sp) (so to' : Option Addr) (sc tc ns nt B : Nat) (w : World) (hns : s.st.length = ns) (hnt : s.tr.length = nt) (hF : Fi w f p a0 a2 a3 a4 a5 c0 c2 c3 c4 c5) (hs : InB w B so sc s.st) (ht : TrB w B to' tc s.tr) (hl : ns ≤ 600) (hB : B ≤ w.heap.size) :
    Calls Tryz.prog 27 #[.agg #[.slice a0 f.sg.ps.length c0, ci f.sg.res, .slice a2 f.loc.length c2, .slice a3 f.cd.length c3], .agg #[.slice a4 p.fns.length c4, .slice a5 p.vars.length c5], inV ⟨14, n, t, bb⟩, .agg #[.slice so ns sc, .slice to' nt tc]] w fun e w' => ∃ v, e = .returned v ∧ FlR w' B v (stepS f p ⟨14, n, t, bb⟩ s) ∧ Fr (fun _ => False) w w' := by
  obtain ⟨V, hV⟩ : ∃ V, V = (((((((w.alloc (.cells #[.slice a0 f.sg.ps.length c0, ci f.sg.res, .slice a2 f.loc.length c2, .slice a3 f.cd.length c3] 27 (0, 0))).alloc (.cells #[.slice a4 p.fns.length c4, .slice a5 p.vars.length c5] 30 (0, 0))).alloc (.cells #[ci 14, ci n, ci t, .int .u64 bb] 84 (0, 0))).alloc (.cells #[.slice so ns sc, .slice to' nt tc] 80 (0, 0))).alloc (.cells z7 86 (0, 0))).alloc (.cells z7 86 (0, 0))).alloc (.cells #[.bool true, .bool true, .bool false, .slice so ns sc, .slice to' nt tc, .slice none 0 0, .slice none 0 0] 86 (0, 0))) := ⟨_, rfl⟩
  have fV : Fr (fun _ => False) w V := by rw [hV]; exact ((((((Fr.alloc _ _ _).same (Fr.alloc _ _ _)).same (Fr.alloc _ _ _)).same (Fr.alloc _ _ _)).same (Fr.alloc _ _ _)).same (Fr.alloc _ _ _)).same (Fr.alloc _ _ _)
  have szV : V.heap.size = w.heap.size + 7 := by rw [hV]; simp
  have r0 : V.heap[w.heap.size]? = some (.cells #[.slice a0 f.sg.ps.length c0, ci f.sg.res, .slice a2 f.loc.length c2, .slice a3 f.cd.length c3] 27 (0, 0)) := by
    rw [hV]
    refine (Fr.alloc (fun _ => False) _ _).heap ?_ (fun f => f)
    refine (Fr.alloc (fun _ => False) _ _).heap ?_ (fun f => f)
    refine (Fr.alloc (fun _ => False) _ _).heap ?_ (fun f => f)
    refine (Fr.alloc (fun _ => False) _ _).heap ?_ (fun f => f)
    refine (Fr.alloc (fun _ => False) _ _).heap ?_ (fun f => f)
    refine (Fr.alloc (fun _ => False) _ _).heap ?_ (fun f => f)
    exact alloc_new _ _
  have r1 : V.heap[w.heap.size + 1]? = some (.cells #[.slice a4 p.fns.length c4, .slice a5 p.vars.length c5] 30 (0, 0)) := by
    rw [hV]
    refine (Fr.alloc (fun _ => False) _ _).heap ?_ (fun f => f)
    refine (Fr.alloc (fun _ => False) _ _).heap ?_ (fun f => f)
    refine (Fr.alloc (fun _ => False) _ _).heap ?_ (fun f => f)
    refine (Fr.alloc (fun _ => False) _ _).heap ?_ (fun f => f)
    refine (Fr.alloc (fun _ => False) _ _).heap ?_ (fun f => f)
    exact alloc_at _ _ _ (by simp)
  have r2 : V.heap[w.heap.size + 1 + 1]? = some (.cells #[ci 14, ci n, ci t, .int .u64 bb] 84 (0, 0)) := by
    rw [hV]
    refine (Fr.alloc (fun _ => False) _ _).heap ?_ (fun f => f)
    refine (Fr.alloc (fun _ => False) _ _).heap ?_ (fun f => f)
    refine (Fr.alloc (fun _ => False) _ _).heap ?_ (fun f => f)
    refine (Fr.alloc (fun _ => False) _ _).heap ?_ (fun f => f)
    exact alloc_at _ _ _ (by simp)
  have r3 : V.heap[w.heap.size + 1 + 1 + 1]? = some (.cells #[.slice so ns sc, .slice to' nt tc] 80 (0, 0)) := by
    rw [hV]
    refine (Fr.alloc (fun _ => False) _ _).heap ?_ (fun f => f)
    refine (Fr.alloc (fun _ => False) _ _).heap ?_ (fun f => f)
    refine (Fr.alloc (fun _ => False) _ _).heap ?_ (fun f => f)
    exact alloc_at _ _ _ (by simp)
  have r4 : V.heap[w.heap.size + 1 + 1 + 1 + 1]? = some (.cells z7 86 (0, 0)) := by
    rw [hV]
    refine (Fr.alloc (fun _ => False) _ _).heap ?_ (fun f => f)
    refine (Fr.alloc (fun _ => False) _ _).heap ?_ (fun f => f)
    exact alloc_at _ _ _ (by simp)
  have r5 : V.heap[w.heap.size + 1 + 1 + 1 + 1 + 1]? = some (.cells z7 86 (0, 0)) := by
    rw [hV]
    refine (Fr.alloc (fun _ => False) _ _).heap ?_ (fun f => f)
    exact alloc_at _ _ _ (by simp)
  have r6 : V.heap[w.heap.size + 1 + 1 + 1 + 1 + 1 + 1]? = some (.cells #[.bool true, .bool true, .bool false, .slice so ns sc, .slice to' nt tc, .slice none 0 0, .slice none 0 0] 86 (0, 0)) := by
    rw [hV]
    exact alloc_at _ _ _ (by simp)
  have kp := fun (x : Int) => put_any so ns sc s.st x V hns (InL.keep hs.1 fV) (by omega)
  obtain ⟨i0, i1, i2, i3⟩ := box4 r2
  have s0 : V.cell? ⟨w.heap.size + 1 + 1 + 1, 0, none⟩ = some (.slice so ns sc) := cell_of_row _ _ 0 _ _ _ r3
  have s1 : V.cell? ⟨w.heap.size + 1 + 1 + 1, 1, none⟩ = some (.slice to' nt tc) := cell_of_row _ _ 1 _ _ _ r3
  have r4H : Hidden (V.heap[w.heap.size + 1 + 1 + 1 + 1]? = some (.cells z7 86 (0, 0))) := r4
  have r6H : Hidden (V.heap[w.heap.size + 1 + 1 + 1 + 1 + 1 + 1]? = some (.cells #[.bool true, .bool true, .bool false, .slice so ns sc, .slice to' nt tc, .slice none 0 0, .slice none 0 0] 86 (0, 0))) := r6
  have fVH : Hidden (Fr (fun _ => False) w V) := fV
  have hVH : Hidden (V = _) := hV
  have hsH : Hidden (InB w B so sc s.st) := hs
  have htH : Hidden (TrB w B to' tc s.tr) := ht
  have hntH : Hidden (s.tr.length = nt) := hnt
  have hnsH : Hidden (s.st.length = ns) := hns
  have hFH : Hidden (Fi w f p a0 a2 a3 a4 a5 c0 c2 c3 c4 c5) := hF
  have r0H : Hidden (V.heap[w.heap.size]? = some (.cells #[.slice a0 f.sg.ps.length c0, ci f.sg.res, .slice a2 f.loc.length c2, .slice a3 f.cd.length c3] 27 (0, 0))) := r0
  have r1H : Hidden (V.heap[w.heap.size + 1]? = some (.cells #[.slice a4 p.fns.length c4, .slice a5 p.vars.length c5] 30 (0, 0))) := r1
  have r3H : Hidden (V.heap[w.heap.size + 1 + 1 + 1]? = some (.cells #[.slice so ns sc, .slice to' nt tc] 80 (0, 0))) := r3
  have r5H : Hidden (V.heap[w.heap.size + 1 + 1 + 1 + 1 + 1]? = some (.cells z7 86 (0, 0))) := r5
  have kpH : Hidden (∀ W, Fr (fun _ => False) V W → ∀ x : Int, Calls Tryz.prog 43 #[.slice so ns sc, ci x] W fun e w' => ∃ v, e = .returned v ∧ OwI w' W.heap.size v (s.st ++ [x]) ∧ Fr (fun _ => False) W w') := fun W hW x => put_any so ns sc s.st x W hns (InL.keep (InL.keep hs.1 fV) hW) (by omega)
  have szH : Hidden (V.heap.size = w.heap.size + 7) := szV
  have hBH : Hidden (B ≤ w.heap.size) := hB
  clear hF hs ht hV fV r0 r1 r2 r3 r4 r5 r6 hns hnt szV hB
  go_enter Tryz.func27, Tryz.ntmps27
  go_upto_region 3 with fail
  rw [← (show V = _ from hVH)]
  clear hVH
  go_wp2_with (first
    | (go_at_call 43; refine (kp _).mono ?_; rintro e w1 ⟨v, rfl, hv, f1⟩
       obtain ⟨⟨t0, t1, t2, t3, t4, t5, t6⟩, u0, u1, u2, u3, u4, u5, u6⟩ := box7 (f1.heap r4H (fun f => f))
       obtain ⟨⟨p0, p1, p2, p3, p4, p5, p6⟩, q0, q1, q2, q3, q4, q5, q6⟩ := box7 (f1.heap r6H (fun f => f))
       obtain ⟨vo, vc, rfl, hvB⟩ := OwI.inB hv
       have hvH : Hidden (InB w1 V.heap.size vo vc (s.st ++ [1])) := hvB
       have f1H : Hidden (Fr (fun _ => False) V w1) := f1
       obtain ⟨X, hX⟩ : ∃ X, X = (s.st ++ [1]).length := ⟨_, rfl⟩
       rw [← hX]
       have hXH : Hidden (X = (s.st ++ [1]).length) := hX
       clear hv f1 hvB hX kp i0 i1 i2 i3 s0 s1))
  have sz := (show V.heap.size = w.heap.size + 7 from szH)
  exact next_post (V := V) (u := 8) (B := B) (st := s.st ++ [1]) (s := s) rfl rfl rfl ((show Fr (fun _ => False) V w1 from f1H).heap r4H (fun f => f)) (by omega) (by omega) (by omega) (by omega) (by omega) hBH fVH f1H hXH hntH hvH htH (by simp [stepS, on])
set_option maxRecDepth 20000 in
set_option maxHeartbeats 4000000 in
theorem dstep_12 (f : Fu) (p : Fm) (a0 a2 a3 a4 a5 : Option Addr) (c0 c2 c3 c4 c5 : Nat) (n t bb : Int) (s : Sp) (so to' : Option Addr) (sc tc ns nt B : Nat) (w : World) (hns : s.st.length = ns) (hnt : s.tr.length = nt) (hF : Fi w f p a0 a2 a3 a4 a5 c0 c2 c3 c4 c5) (hs : InB w B so sc s.st) (ht : TrB w B to' tc s.tr) (hl : ns ≤ 600) (hB : B ≤ w.heap.size) :
    Calls Tryz.prog 27 #[.agg #[.slice a0 f.sg.ps.length c0, ci f.sg.res, .slice a2 f.loc.length c2, .slice a3 f.cd.length c3], .agg #[.slice a4 p.fns.length c4, .slice a5 p.vars.length c5], inV ⟨12, n, t, bb⟩, .agg #[.slice so ns sc, .slice to' nt tc]] w fun e w' => ∃ v, e = .returned v ∧ FlR w' B v (stepS f p ⟨12, n, t, bb⟩ s) ∧ Fr (fun _ => False) w w' := by
  obtain ⟨V, hV⟩ : ∃ V, V = (((((((w.alloc (.cells #[.slice a0 f.sg.ps.length c0, ci f.sg.res, .slice a2 f.loc.length c2, .slice a3 f.cd.length c3] 27 (0, 0))).alloc (.cells #[.slice a4 p.fns.length c4, .slice a5 p.vars.length c5] 30 (0, 0))).alloc (.cells #[ci 12, ci n, ci t, .int .u64 bb] 84 (0, 0))).alloc (.cells #[.slice so ns sc, .slice to' nt tc] 80 (0, 0))).alloc (.cells z7 86 (0, 0))).alloc (.cells z7 86 (0, 0))).alloc (.cells #[.bool true, .bool true, .bool false, .slice so ns sc, .slice to' nt tc, .slice none 0 0, .slice none 0 0] 86 (0, 0))) := ⟨_, rfl⟩
  have fV : Fr (fun _ => False) w V := by rw [hV]; exact ((((((Fr.alloc _ _ _).same (Fr.alloc _ _ _)).same (Fr.alloc _ _ _)).same (Fr.alloc _ _ _)).same (Fr.alloc _ _ _)).same (Fr.alloc _ _ _)).same (Fr.alloc _ _ _)
  have szV : V.heap.size = w.heap.size + 7 := by rw [hV]; simp
  have r0 : V.heap[w.heap.size]? = some (.cells #[.slice a0 f.sg.ps.length c0, ci f.sg.res, .slice a2 f.loc.length c2, .slice a3 f.cd.length c3] 27 (0, 0)) := by
    rw [hV]
    refine (Fr.alloc (fun _ => False) _ _).heap ?_ (fun f => f)
    refine (Fr.alloc (fun _ => False) _ _).heap ?_ (fun f => f)
    refine (Fr.alloc (fun _ => False) _ _).heap ?_ (fun f => f)
    refine (Fr.alloc (fun _ => False) _ _).heap ?_ (fun f => f)
    refine (Fr.alloc (fun _ => False) _ _).heap ?_ (fun f => f)
    refine (Fr.alloc (fun _ => False) _ _).heap ?_ (fun f => f)
    exact alloc_new _ _
  have r1 : V.heap[w.heap.size + 1]? = some (.cells #[.slice a4 p.fns.length c4, .slice a5 p.vars.length c5] 30 (0, 0)) := by
    rw [hV]
    refine (Fr.alloc (fun _ => False) _ _).heap ?_ (fun f => f)
    refine (Fr.alloc (fun _ => False) _ _).heap ?_ (fun f => f)
    refine (Fr.alloc (fun _ => False) _ _).heap ?_ (fun f => f)
    refine (Fr.alloc (fun _ => False) _ _).heap ?_ (fun f => f)
    refine (Fr.alloc (fun _ => False) _ _).heap ?_ (fun f => f)
    exact alloc_at _ _ _ (by simp)
  have r2 : V.heap[w.heap.size + 1 + 1]? = some (.cells #[ci 12, ci n, ci t, .int .u64 bb] 84 (0, 0)) := by
    rw [hV]
    refine (Fr.alloc (fun _ => False) _ _).heap ?_ (fun f => f)
    refine (Fr.alloc (fun _ => False) _ _).heap ?_ (fun f => f)
    refine (Fr.alloc (fun _ => False) _ _).heap ?_ (fun f => f)
    refine (Fr.alloc (fun _ => False) _ _).heap ?_ (fun f => f)
    exact alloc_at _ _ _ (by simp)
  have r3 : V.heap[w.heap.size + 1 + 1 + 1]? = some (.cells #[.slice so ns sc, .slice to' nt tc] 80 (0, 0)) := by
    rw [hV]
    refine (Fr.alloc (fun _ => False) _ _).heap ?_ (fun f => f)
    refine (Fr.alloc (fun _ => False) _ _).heap ?_ (fun f => f)
    refine (Fr.alloc (fun _ => False) _ _).heap ?_ (fun f => f)
    exact alloc_at _ _ _ (by simp)
  have r4 : V.heap[w.heap.size + 1 + 1 + 1 + 1]? = some (.cells z7 86 (0, 0)) := by
    rw [hV]
    refine (Fr.alloc (fun _ => False) _ _).heap ?_ (fun f => f)
    refine (Fr.alloc (fun _ => False) _ _).heap ?_ (fun f => f)
    exact alloc_at _ _ _ (by simp)
  have r5 : V.heap[w.heap.size + 1 + 1 + 1 + 1 + 1]? = some (.cells z7 86 (0, 0)) := by
    rw [hV]
    refine (Fr.alloc (fun _ => False) _ _).heap ?_ (fun f => f)
    exact alloc_at _ _ _ (by simp)
  have r6 : V.heap[w.heap.size + 1 + 1 + 1 + 1 + 1 + 1]? = some (.cells #[.bool true, .bool true, .bool false, .slice so ns sc, .slice to' nt tc, .slice none 0 0, .slice none 0 0] 86 (0, 0)) := by
    rw [hV]
    exact alloc_at _ _ _ (by simp)
  have kp := fun (x : Int) => put_any so ns sc s.st x V hns (InL.keep hs.1 fV) (by omega)
  obtain ⟨i0, i1, i2, i3⟩ := box4 r2
  have s0 : V.cell? ⟨w.heap.size + 1 + 1 + 1, 0, none⟩ = some (.slice so ns sc) := cell_of_row _ _ 0 _ _ _ r3
  have s1 : V.cell? ⟨w.heap.size + 1 + 1 + 1, 1, none⟩ = some (.slice to' nt tc) := cell_of_row _ _ 1 _ _ _ r3
  have r4H : Hidden (V.heap[w.heap.size + 1 + 1 + 1 + 1]? = some (.cells z7 86 (0, 0))) := r4
  have r6H : Hidden (V.heap[w.heap.size + 1 + 1 + 1 + 1 + 1 + 1]? = some (.cells #[.bool true, .bool true, .bool false, .slice so ns sc, .slice to' nt tc, .slice none 0 0, .slice none 0 0] 86 (0, 0))) := r6
  have fVH : Hidden (Fr (fun _ => False) w V) := fV
  have hVH : Hidden (V = _) := hV
  have hsH : Hidden (InB w B so sc s.st) := hs
  have htH : Hidden (TrB w B to' tc s.tr) := ht
  have hntH : Hidden (s.tr.length = nt) := hnt
  have hnsH : Hidden (s.st.length = ns) := hns
  have hFH : Hidden (Fi w f p a0 a2 a3 a4 a5 c0 c2 c3 c4 c5) := hF
  have r0H : Hidden (V.heap[w.heap.size]? = some (.cells #[.slice a0 f.sg.ps.length c0, ci f.sg.res, .slice a2 f.loc.length c2, .slice a3 f.cd.length c3] 27 (0, 0))) := r0
  have r1H : Hidden (V.heap[w.heap.size + 1]? = some (.cells #[.slice a4 p.fns.length c4, .slice a5 p.vars.length c5] 30 (0, 0))) := r1
  have r3H : Hidden (V.heap[w.heap.size + 1 + 1 + 1]? = some (.cells #[.slice so ns sc, .slice to' nt tc] 80 (0, 0))) := r3
  have r5H : Hidden (V.heap[w.heap.size + 1 + 1 + 1 + 1 + 1]? = some (.cells z7 86 (0, 0))) := r5
  have kpH : Hidden (∀ W, Fr (fun _ => False) V W → ∀ x : Int, Calls Tryz.prog 43 #[.slice so ns sc, ci x] W fun e w' => ∃ v, e = .returned v ∧ OwI w' W.heap.size v (s.st ++ [x]) ∧ Fr (fun _ => False) W w') := fun W hW x => put_any so ns sc s.st x W hns (InL.keep (InL.keep hs.1 fV) hW) (by omega)
  have szH : Hidden (V.heap.size = w.heap.size + 7) := szV
  have hBH : Hidden (B ≤ w.heap.size) := hB
  clear hF hs ht hV fV r0 r1 r2 r3 r4 r5 r6 hns hnt szV hB
  go_enter Tryz.func27, Tryz.ntmps27
  go_upto_region 3 with fail
  rw [← (show V = _ from hVH)]
  clear hVH
  have hbody : True := trivial
  have hns : s.st.length = ns := hnsH
  have ktop := rtop_any so ns sc s.st V hns (InL.keep (show InB w B so sc s.st from hsH).1 fVH)
  rcases List.eq_nil_or_concat s.st with hst | ⟨r, y, hst⟩
  · rw [hst] at ktop
    have etp : tp ([] : List Int) = none := rfl
    rw [etp] at ktop
    simp only [tpV] at ktop
    have hstH : Hidden (s.st = []) := hst
    clear hst hns etp kp
    go_wp2_with (first
      | (go_at_call 45; refine ktop.mono ?_; rintro e w1 ⟨rfl, f1⟩
         obtain ⟨⟨t0, t1, t2, t3, t4, t5, t6⟩, u0, u1, u2, u3, u4, u5, u6⟩ := box7 (f1.heap r4H (fun f => f))
         obtain ⟨⟨p0, p1, p2, p3, p4, p5, p6⟩, q0, q1, q2, q3, q4, q5, q6⟩ := box7 (f1.heap r6H (fun f => f))
         have f1H : Hidden (Fr (fun _ => False) V w1) := f1
         clear f1 ktop i0 i1 i2 i3 s0 s1))
    have sz := (show V.heap.size = w.heap.size + 7 from szH)
    have hne46 : w.heap.size + 1 + 1 + 1 + 1 ≠ w.heap.size + 1 + 1 + 1 + 1 + 1 + 1 := by omega
    have g1 := Fr.setCell w1 ⟨w.heap.size + 1 + 1 + 1 + 1 + 1 + 1, 3, none⟩ (.slice none 0 0)
    have g2 := Fr.setCell (w1.setCell ⟨w.heap.size + 1 + 1 + 1 + 1 + 1 + 1, 3, none⟩ (.slice none 0 0)) ⟨w.heap.size + 1 + 1 + 1 + 1 + 1 + 1, 0, none⟩ (.bool false)
    refine fl_post (u := 8) (W := (w1.setCell ⟨w.heap.size + 1 + 1 + 1 + 1 + 1 + 1, 3, none⟩ (.slice none 0 0)).setCell ⟨w.heap.size + 1 + 1 + 1 + 1 + 1 + 1, 0, none⟩ (.bool false)) rfl rfl rfl (g2.heap (g1.heap ((show Fr (fun _ => False) V w1 from f1H).heap r4H (fun f => f)) hne46) hne46) (by omega) ((((show Fr (fun _ => False) w V from fVH).same f1H)).over (g1.same g2) (fun k e => by have e : k = w.heap.size + 1 + 1 + 1 + 1 + 1 + 1 := e; omega)) ?_
    intro W' fW'
    rw [show stepS f p ⟨12, n, t, bb⟩ s = none by simp [stepS, on, show s.st = [] from hstH, tp]]
    exact ⟨_, _, _, _, _, _, _, _, _, _, _, _, _, _, rfl⟩
  · rw [List.concat_eq_append] at hst
    have etp : tp s.st = some (r, y) := by rw [hst]; unfold tp; simp
    rw [etp] at ktop
    simp only [tpV] at ktop
    have hstH : Hidden (s.st = r ++ [y]) := hst
    have etpH : Hidden (tp s.st = some (r, y)) := etp
    obtain ⟨X, hX⟩ : ∃ X, X = r.length := ⟨_, rfl⟩
    rw [← hX] at ktop
    have hXH : Hidden (X = r.length) := hX
    clear hst hns etp kp hX
    go_wp2_with (first
      | (go_at_call 45; refine ktop.mono ?_; rintro e w1 ⟨rfl, f1⟩
         obtain ⟨⟨t0, t1, t2, t3, t4, t5, t6⟩, u0, u1, u2, u3, u4, u5, u6⟩ := box7 (f1.heap r4H (fun f => f))
         obtain ⟨⟨p0, p1, p2, p3, p4, p5, p6⟩, q0, q1, q2, q3, q4, q5, q6⟩ := box7 (f1.heap r6H (fun f => f))
         have f1H : Hidden (Fr (fun _ => False) V w1) := f1
         clear f1 ktop i0 i1 i2 i3 s0 s1))
    have sz := (show V.heap.size = w.heap.size + 7 from szH)
    have hne46 : w.heap.size + 1 + 1 + 1 + 1 ≠ w.heap.size + 1 + 1 + 1 + 1 + 1 + 1 := by omega
    have g1 := Fr.setCell w1 ⟨w.heap.size + 1 + 1 + 1 + 1 + 1 + 1, 3, none⟩ (.slice so X sc)
    have g2 := Fr.setCell (w1.setCell ⟨w.heap.size + 1 + 1 + 1 + 1 + 1 + 1, 3, none⟩ (.slice so X sc)) ⟨w.heap.size + 1 + 1 + 1 + 1 + 1 + 1, 0, none⟩ (.bool true)
    refine fl_post (u := 8) (W := (w1.setCell ⟨w.heap.size + 1 + 1 + 1 + 1 + 1 + 1, 3, none⟩ (.slice so X sc)).setCell ⟨w.heap.size + 1 + 1 + 1 + 1 + 1 + 1, 0, none⟩ (.bool true)) rfl rfl rfl (g2.heap (g1.heap ((show Fr (fun _ => False) V w1 from f1H).heap r4H (fun f => f)) hne46) hne46) (by omega) ((((show Fr (fun _ => False) w V from fVH).same f1H)).over (g1.same g2) (fun k e => by have e : k = w.heap.size + 1 + 1 + 1 + 1 + 1 + 1 := e; omega)) ?_
    intro W' fW'
    rw [show stepS f p ⟨12, n, t, bb⟩ s = some (some ⟨r, s.tr⟩, none) by simp [stepS, on, show tp s.st = _ from etpH]]
    refine ⟨_, _, _, _, _, _, _, _, _, _, _, _, rfl, fun z hz => ?_, fun z hz => by cases hz⟩
    cases hz
    refine ⟨so, sc, to', tc, by rw [show X = _ from hXH, show s.tr.length = nt from hntH], ?_, (show TrB w B to' tc s.tr from htH).keep fW' (fun _ _ f => f)⟩
    have := ((show InB w B so sc s.st from hsH).keep fW' (fun _ _ f => f)).take r.length
    rw [show s.st = r ++ [y] from hstH] at this
    simpa using this
set_option maxRecDepth 20000 in
set_option maxHeartbeats 4000000 in
theorem dstep_17 (f : Fu) (p : Fm) (a0 a2 a3 a4 a5 : Option Addr) (c0 c2 c3 c4 c5 : Nat) (n t bb : Int) (s : Sp) (so to' : Option Addr) (sc tc ns nt B : Nat) (w : World) (hns : s.st.length = ns) (hnt : s.tr.length = nt) (hF : Fi w f p a0 a2 a3 a4 a5 c0 c2 c3 c4 c5) (hs : InB w B so sc s.st) (ht : TrB w B to' tc s.tr) (hl : ns ≤ 600) (hB : B ≤ w.heap.size) :
    Calls Tryz.prog 27 #[.agg #[.slice a0 f.sg.ps.length c0, ci f.sg.res, .slice a2 f.loc.length c2, .slice a3 f.cd.length c3], .agg #[.slice a4 p.fns.length c4, .slice a5 p.vars.length c5], inV ⟨17, n, t, bb⟩, .agg #[.slice so ns sc, .slice to' nt tc]] w fun e w' => ∃ v, e = .returned v ∧ FlR w' B v (stepS f p ⟨17, n, t, bb⟩ s) ∧ Fr (fun _ => False) w w' := by
  obtain ⟨V, hV⟩ : ∃ V, V = (((((((w.alloc (.cells #[.slice a0 f.sg.ps.length c0, ci f.sg.res, .slice a2 f.loc.length c2, .slice a3 f.cd.length c3] 27 (0, 0))).alloc (.cells #[.slice a4 p.fns.length c4, .slice a5 p.vars.length c5] 30 (0, 0))).alloc (.cells #[ci 17, ci n, ci t, .int .u64 bb] 84 (0, 0))).alloc (.cells #[.slice so ns sc, .slice to' nt tc] 80 (0, 0))).alloc (.cells z7 86 (0, 0))).alloc (.cells z7 86 (0, 0))).alloc (.cells #[.bool true, .bool true, .bool false, .slice so ns sc, .slice to' nt tc, .slice none 0 0, .slice none 0 0] 86 (0, 0))) := ⟨_, rfl⟩
  have fV : Fr (fun _ => False) w V := by rw [hV]; exact ((((((Fr.alloc _ _ _).same (Fr.alloc _ _ _)).same (Fr.alloc _ _ _)).same (Fr.alloc _ _ _)).same (Fr.alloc _ _ _)).same (Fr.alloc _ _ _)).same (Fr.alloc _ _ _)
  have szV : V.heap.size = w.heap.size + 7 := by rw [hV]; simp
  have r0 : V.heap[w.heap.size]? = some (.cells #[.slice a0 f.sg.ps.length c0, ci f.sg.res, .slice a2 f.loc.length c2, .slice a3 f.cd.length c3] 27 (0, 0)) := by
    rw [hV]
    refine (Fr.alloc (fun _ => False) _ _).heap ?_ (fun f => f)
    refine (Fr.alloc (fun _ => False) _ _).heap ?_ (fun f => f)
    refine (Fr.alloc (fun _ => False) _ _).heap ?_ (fun f => f)
    refine (Fr.alloc (fun _ => False) _ _).heap ?_ (fun f => f)
    refine (Fr.alloc (fun _ => False) _ _).heap ?_ (fun f => f)
    refine (Fr.alloc (fun _ => False) _ _).heap ?_ (fun f => f)
    exact alloc_new _ _
  have r1 : V.heap[w.heap.size + 1]? = some (.cells #[.slice a4 p.fns.length c4, .slice a5 p.vars.length c5] 30 (0, 0)) := by
    rw [hV]
    refine (Fr.alloc (fun _ => False) _ _).heap ?_ (fun f => f)
    refine (Fr.alloc (fun _ => False) _ _).heap ?_ (fun f => f)
    refine (Fr.alloc (fun _ => False) _ _).heap ?_ (fun f => f)
    refine (Fr.alloc (fun _ => False) _ _).heap ?_ (fun f => f)
    refine (Fr.alloc (fun _ => False) _ _).heap ?_ (fun f => f)
    exact alloc_at _ _ _ (by simp)
  have r2 : V.heap[w.heap.size + 1 + 1]? = some (.cells #[ci 17, ci n, ci t, .int .u64 bb] 84 (0, 0)) := by
    rw [hV]
    refine (Fr.alloc (fun _ => False) _ _).heap ?_ (fun f => f)
    refine (Fr.alloc (fun _ => False) _ _).heap ?_ (fun f => f)
    refine (Fr.alloc (fun _ => False) _ _).heap ?_ (fun f => f)
    refine (Fr.alloc (fun _ => False) _ _).heap ?_ (fun f => f)
    exact alloc_at _ _ _ (by simp)
  have r3 : V.heap[w.heap.size + 1 + 1 + 1]? = some (.cells #[.slice so ns sc, .slice to' nt tc] 80 (0, 0)) := by
    rw [hV]
    refine (Fr.alloc (fun _ => False) _ _).heap ?_ (fun f => f)
    refine (Fr.alloc (fun _ => False) _ _).heap ?_ (fun f => f)
    refine (Fr.alloc (fun _ => False) _ _).heap ?_ (fun f => f)
    exact alloc_at _ _ _ (by simp)
  have r4 : V.heap[w.heap.size + 1 + 1 + 1 + 1]? = some (.cells z7 86 (0, 0)) := by
    rw [hV]
    refine (Fr.alloc (fun _ => False) _ _).heap ?_ (fun f => f)
    refine (Fr.alloc (fun _ => False) _ _).heap ?_ (fun f => f)
    exact alloc_at _ _ _ (by simp)
  have r5 : V.heap[w.heap.size + 1 + 1 + 1 + 1 + 1]? = some (.cells z7 86 (0, 0)) := by
    rw [hV]
    refine (Fr.alloc (fun _ => False) _ _).heap ?_ (fun f => f)
    exact alloc_at _ _ _ (by simp)
  have r6 : V.heap[w.heap.size + 1 + 1 + 1 + 1 + 1 + 1]? = some (.cells #[.bool true, .bool true, .bool false, .slice so ns sc, .slice to' nt tc, .slice none 0 0, .slice none 0 0] 86 (0, 0)) := by
    rw [hV]
    exact alloc_at _ _ _ (by simp)
  have kp := fun (x : Int) => put_any so ns sc s.st x V hns (InL.keep hs.1 fV) (by omega)
  obtain ⟨i0, i1, i2, i3⟩ := box4 r2
  have s0 : V.cell? ⟨w.heap.size + 1 + 1 + 1, 0, none⟩ = some (.slice so ns sc) := cell_of_row _ _ 0 _ _ _ r3
  have s1 : V.cell? ⟨w.heap.size + 1 + 1 + 1, 1, none⟩ = some (.slice to' nt tc) := cell_of_row _ _ 1 _ _ _ r3
  have r4H : Hidden (V.heap[w.heap.size + 1 + 1 + 1 + 1]? = some (.cells z7 86 (0, 0))) := r4
  have r6H : Hidden (V.heap[w.heap.size + 1 + 1 + 1 + 1 + 1 + 1]? = some (.cells #[.bool true, .bool true, .bool false, .slice so ns sc, .slice to' nt tc, .slice none 0 0, .slice none 0 0] 86 (0, 0))) := r6
  have fVH : Hidden (Fr (fun _ => False) w V) := fV
  have hVH : Hidden (V = _) := hV
  have hsH : Hidden (InB w B so sc s.st) := hs
  have htH : Hidden (TrB w B to' tc s.tr) := ht
  have hntH : Hidden (s.tr.length = nt) := hnt
  have hnsH : Hidden (s.st.length = ns) := hns
  have hFH : Hidden (Fi w f p a0 a2 a3 a4 a5 c0 c2 c3 c4 c5) := hF
  have r0H : Hidden (V.heap[w.heap.size]? = some (.cells #[.slice a0 f.sg.ps.length c0, ci f.sg.res, .slice a2 f.loc.length c2, .slice a3 f.cd.length c3] 27 (0, 0))) := r0
  have r1H : Hidden (V.heap[w.heap.size + 1]? = some (.cells #[.slice a4 p.fns.length c4, .slice a5 p.vars.length c5] 30 (0, 0))) := r1
  have r3H : Hidden (V.heap[w.heap.size + 1 + 1 + 1]? = some (.cells #[.slice so ns sc, .slice to' nt tc] 80 (0, 0))) := r3
  have r5H : Hidden (V.heap[w.heap.size + 1 + 1 + 1 + 1 + 1]? = some (.cells z7 86 (0, 0))) := r5
  have kpH : Hidden (∀ W, Fr (fun _ => False) V W → ∀ x : Int, Calls Tryz.prog 43 #[.slice so ns sc, ci x] W fun e w' => ∃ v, e = .returned v ∧ OwI w' W.heap.size v (s.st ++ [x]) ∧ Fr (fun _ => False) W w') := fun W hW x => put_any so ns sc s.st x W hns (InL.keep (InL.keep hs.1 fV) hW) (by omega)
  have szH : Hidden (V.heap.size = w.heap.size + 7) := szV
  have hBH : Hidden (B ≤ w.heap.size) := hB
  clear hF hs ht hV fV r0 r1 r2 r3 r4 r5 r6 hns hnt szV hB
  go_enter Tryz.func27, Tryz.ntmps27
  go_upto_region 3 with fail
  rw [← (show V = _ from hVH)]
  clear hVH
  have hbody : True := trivial
  have hns : s.st.length = ns := hnsH
  have ktop := rtop_any so ns sc s.st V hns (InL.keep (show InB w B so sc s.st from hsH).1 fVH)
  rcases List.eq_nil_or_concat s.st with hst | ⟨r, y, hst⟩
  · rw [hst] at ktop
    have etp : tp ([] : List Int) = none := rfl
    rw [etp] at ktop
    simp only [tpV] at ktop
    have hstH : Hidden (s.st = []) := hst
    clear hst hns etp kp
    go_wp2_with (first
      | (go_at_call 45; refine ktop.mono ?_; rintro e w1 ⟨rfl, f1⟩
         obtain ⟨⟨t0, t1, t2, t3, t4, t5, t6⟩, u0, u1, u2, u3, u4, u5, u6⟩ := box7 (f1.heap r4H (fun f => f))
         obtain ⟨⟨p0, p1, p2, p3, p4, p5, p6⟩, q0, q1, q2, q3, q4, q5, q6⟩ := box7 (f1.heap r6H (fun f => f))
         have f1H : Hidden (Fr (fun _ => False) V w1) := f1
         clear f1 ktop i0 i1 i2 i3 s0 s1))
    have sz := (show V.heap.size = w.heap.size + 7 from szH)
    have hne46 : w.heap.size + 1 + 1 + 1 + 1 ≠ w.heap.size + 1 + 1 + 1 + 1 + 1 + 1 := by omega
    have g1 := Fr.setCell w1 ⟨w.heap.size + 1 + 1 + 1 + 1 + 1 + 1, 3, none⟩ (.slice none 0 0)
    have g2 := Fr.setCell (w1.setCell ⟨w.heap.size + 1 + 1 + 1 + 1 + 1 + 1, 3, none⟩ (.slice none 0 0)) ⟨w.heap.size + 1 + 1 + 1 + 1 + 1 + 1, 0, none⟩ (.bool false)
    refine fl_post (u := 8) (W := (w1.setCell ⟨w.heap.size + 1 + 1 + 1 + 1 + 1 + 1, 3, none⟩ (.slice none 0 0)).setCell ⟨w.heap.size + 1 + 1 + 1 + 1 + 1 + 1, 0, none⟩ (.bool false)) rfl rfl rfl (g2.heap (g1.heap ((show Fr (fun _ => False) V w1 from f1H).heap r4H (fun f => f)) hne46) hne46) (by omega) ((((show Fr (fun _ => False) w V from fVH).same f1H)).over (g1.same g2) (fun k e => by have e : k = w.heap.size + 1 + 1 + 1 + 1 + 1 + 1 := e; omega)) ?_
    intro W' fW'
    rw [show stepS f p ⟨17, n, t, bb⟩ s = none by simp [stepS, on, show s.st = [] from hstH, tp]]
    exact ⟨_, _, _, _, _, _, _, _, _, _, _, _, _, _, rfl⟩
  · rw [List.concat_eq_append] at hst
    have etp : tp s.st = some (r, y) := by rw [hst]; unfold tp; simp
    rw [etp] at ktop
    simp only [tpV] at ktop
    have hstH : Hidden (s.st = r ++ [y]) := hst
    have etpH : Hidden (tp s.st = some (r, y)) := etp
    obtain ⟨X, hX⟩ : ∃ X, X = r.length := ⟨_, rfl⟩
    rw [← hX] at ktop
    have hXH : Hidden (X = r.length) := hX
    clear hst hns etp kp hX
    go_wp2_with (first
      | (go_at_call 45; refine ktop.mono ?_; rintro e w1 ⟨rfl, f1⟩
         obtain ⟨⟨t0, t1, t2, t3, t4, t5, t6⟩, u0, u1, u2, u3, u4, u5, u6⟩ := box7 (f1.heap r4H (fun f => f))
         obtain ⟨⟨p0, p1, p2, p3, p4, p5, p6⟩, q0, q1, q2, q3, q4, q5, q6⟩ := box7 (f1.heap r6H (fun f => f))
         have f1H : Hidden (Fr (fun _ => False) V w1) := f1
         clear f1 ktop i0 i1 i2 i3 s0 s1))
    have sz := (show V.heap.size = w.heap.size + 7 from szH)
    have hne46 : w.heap.size + 1 + 1 + 1 + 1 ≠ w.heap.size + 1 + 1 + 1 + 1 + 1 + 1 := by omega
    have g1 := Fr.setCell w1 ⟨w.heap.size + 1 + 1 + 1 + 1 + 1 + 1, 3, none⟩ (.slice so X sc)
    have g2 := Fr.setCell (w1.setCell ⟨w.heap.size + 1 + 1 + 1 + 1 + 1 + 1, 3, none⟩ (.slice so X sc)) ⟨w.heap.size + 1 + 1 + 1 + 1 + 1 + 1, 0, none⟩ (.bool true)
    refine fl_post (u := 8) (W := (w1.setCell ⟨w.heap.size + 1 + 1 + 1 + 1 + 1 + 1, 3, none⟩ (.slice so X sc)).setCell ⟨w.heap.size + 1 + 1 + 1 + 1 + 1 + 1, 0, none⟩ (.bool true)) rfl rfl rfl (g2.heap (g1.heap ((show Fr (fun _ => False) V w1 from f1H).heap r4H (fun f => f)) hne46) hne46) (by omega) ((((show Fr (fun _ => False) w V from fVH).same f1H)).over (g1.same g2) (fun k e => by have e : k = w.heap.size + 1 + 1 + 1 + 1 + 1 + 1 := e; omega)) ?_
    intro W' fW'
    rw [show stepS f p ⟨17, n, t, bb⟩ s = some (some ⟨r, s.tr⟩, none) by simp [stepS, on, show tp s.st = _ from etpH]]
    refine ⟨_, _, _, _, _, _, _, _, _, _, _, _, rfl, fun z hz => ?_, fun z hz => by cases hz⟩
    cases hz
    refine ⟨so, sc, to', tc, by rw [show X = _ from hXH, show s.tr.length = nt from hntH], ?_, (show TrB w B to' tc s.tr from htH).keep fW' (fun _ _ f => f)⟩
    have := ((show InB w B so sc s.st from hsH).keep fW' (fun _ _ f => f)).take r.length
    rw [show s.st = r ++ [y] from hstH] at this
    simpa using this
set_option maxRecDepth 20000 in
set_option maxHeartbeats 4000000 in
theorem dstep_2 (f : Fu) (p : Fm) (a0 a2 a3 a4 a5 : Option Addr) (c0 c2 c3 c4 c5 : Nat) (k : Nat) (t bb : Int) (s : Sp) (so to' : Option Addr) (sc tc ns nt B : Nat) (w : World) (hns : s.st.length = ns) (hnt : s.tr.length = nt) (hF : Fi w f p a0 a2 a3 a4 a5 c0 c2 c3 c4 c5) (hs : InB w B so sc s.st) (ht : TrB w B to' tc s.tr) (hl : ns ≤ 600) (hB : B ≤ w.heap.size) :
    Calls Tryz.prog 27 #[.agg #[.slice a0 f.sg.ps.length c0, ci f.sg.res, .slice a2 f.loc.length c2, .slice a3 f.cd.length c3], .agg #[.slice a4 p.fns.length c4, .slice a5 p.vars.length c5], inV ⟨2, (k : Int), t, bb⟩, .agg #[.slice so ns sc, .slice to' nt tc]] w fun e w' => ∃ v, e = .returned v ∧ FlR w' B v (stepS f p ⟨2, (k : Int), t, bb⟩ s) ∧ Fr (fun _ => False) w w' := by
  obtain ⟨V, hV⟩ : ∃ V, V = (((((((w.alloc (.cells #[.slice a0 f.sg.ps.length c0, ci f.sg.res, .slice a2 f.loc.length c2, .slice a3 f.cd.length c3] 27 (0, 0))).alloc (.cells #[.slice a4 p.fns.length c4, .slice a5 p.vars.length c5] 30 (0, 0))).alloc (.cells #[ci 2, ci (k : Int), ci t, .int .u64 bb] 84 (0, 0))).alloc (.cells #[.slice so ns sc, .slice to' nt tc] 80 (0, 0))).alloc (.cells z7 86 (0, 0))).alloc (.cells z7 86 (0, 0))).alloc (.cells #[.bool true, .bool true, .bool false, .slice so ns sc, .slice to' nt tc, .slice none 0 0, .slice none 0 0] 86 (0, 0))) := ⟨_, rfl⟩
  have fV : Fr (fun _ => False) w V := by rw [hV]; exact ((((((Fr.alloc _ _ _).same (Fr.alloc _ _ _)).same (Fr.alloc _ _ _)).same (Fr.alloc _ _ _)).same (Fr.alloc _ _ _)).same (Fr.alloc _ _ _)).same (Fr.alloc _ _ _)
  have szV : V.heap.size = w.heap.size + 7 := by rw [hV]; simp
  have r0 : V.heap[w.heap.size]? = some (.cells #[.slice a0 f.sg.ps.length c0, ci f.sg.res, .slice a2 f.loc.length c2, .slice a3 f.cd.length c3] 27 (0, 0)) := by
    rw [hV]
    refine (Fr.alloc (fun _ => False) _ _).heap ?_ (fun f => f)
    refine (Fr.alloc (fun _ => False) _ _).heap ?_ (fun f => f)
    refine (Fr.alloc (fun _ => False) _ _).heap ?_ (fun f => f)
    refine (Fr.alloc (fun _ => False) _ _).heap ?_ (fun f => f)
    refine (Fr.alloc (fun _ => False) _ _).heap ?_ (fun f => f)
    refine (Fr.alloc (fun _ => False) _ _).heap ?_ (fun f => f)
    exact alloc_new _ _
  have r1 : V.heap[w.heap.size + 1]? = some (.cells #[.slice a4 p.fns.length c4, .slice a5 p.vars.length c5] 30 (0, 0)) := by
    rw [hV]
    refine (Fr.alloc (fun _ => False) _ _).heap ?_ (fun f => f)
    refine (Fr.alloc (fun _ => False) _ _).heap ?_ (fun f => f)
    refine (Fr.alloc (fun _ => False) _ _).heap ?_ (fun f => f)
    refine (Fr.alloc (fun _ => False) _ _).heap ?_ (fun f => f)
    refine (Fr.alloc (fun _ => False) _ _).heap ?_ (fun f => f)
    exact alloc_at _ _ _ (by simp)
  have r2 : V.heap[w.heap.size + 1 + 1]? = some (.cells #[ci 2, ci (k : Int), ci t, .int .u64 bb] 84 (0, 0)) := by
    rw [hV]
    refine (Fr.alloc (fun _ => False) _ _).heap ?_ (fun f => f)
    refine (Fr.alloc (fun _ => False) _ _).heap ?_ (fun f => f)
    refine (Fr.alloc (fun _ => False) _ _).heap ?_ (fun f => f)
    refine (Fr.alloc (fun _ => False) _ _).heap ?_ (fun f => f)
    exact alloc_at _ _ _ (by simp)
  have r3 : V.heap[w.heap.size + 1 + 1 + 1]? = some (.cells #[.slice so ns sc, .slice to' nt tc] 80 (0, 0)) := by
    rw [hV]
    refine (Fr.alloc (fun _ => False) _ _).heap ?_ (fun f => f)
    refine (Fr.alloc (fun _ => False) _ _).heap ?_ (fun f => f)
    refine (Fr.alloc (fun _ => False) _ _).heap ?_ (fun f => f)
    exact alloc_at _ _ _ (by simp)
  have r4 : V.heap[w.heap.size + 1 + 1 + 1 + 1]? = some (.cells z7 86 (0, 0)) := by
    rw [hV]
    refine (Fr.alloc (fun _ => False) _ _).heap ?_ (fun f => f)
    refine (Fr.alloc (fun _ => False) _ _).heap ?_ (fun f => f)
    exact alloc_at _ _ _ (by simp)
  have r5 : V.heap[w.heap.size + 1 + 1 + 1 + 1 + 1]? = some (.cells z7 86 (0, 0)) := by
    rw [hV]
    refine (Fr.alloc (fun _ => False) _ _).heap ?_ (fun f => f)
    exact alloc_at _ _ _ (by simp)
  have r6 : V.heap[w.heap.size + 1 + 1 + 1 + 1 + 1 + 1]? = some (.cells #[.bool true, .bool true, .bool false, .slice so ns sc, .slice to' nt tc, .slice none 0 0, .slice none 0 0] 86 (0, 0)) := by
    rw [hV]
    exact alloc_at _ _ _ (by simp)
  have kp := fun (x : Int) => put_any so ns sc s.st x V hns (InL.keep hs.1 fV) (by omega)
  obtain ⟨i0, i1, i2, i3⟩ := box4 r2
  have s0 : V.cell? ⟨w.heap.size + 1 + 1 + 1, 0, none⟩ = some (.slice so ns sc) := cell_of_row _ _ 0 _ _ _ r3
  have s1 : V.cell? ⟨w.heap.size + 1 + 1 + 1, 1, none⟩ = some (.slice to' nt tc) := cell_of_row _ _ 1 _ _ _ r3
  have r4H : Hidden (V.heap[w.heap.size + 1 + 1 + 1 + 1]? = some (.cells z7 86 (0, 0))) := r4
  have r6H : Hidden (V.heap[w.heap.size + 1 + 1 + 1 + 1 + 1 + 1]? = some (.cells #[.bool true, .bool true, .bool false, .slice so ns sc, .slice to' nt tc, .slice none 0 0, .slice none 0 0] 86 (0, 0))) := r6
  have fVH : Hidden (Fr (fun _ => False) w V) := fV
  have hVH : Hidden (V = _) := hV
  have hsH : Hidden (InB w B so sc s.st) := hs
  have htH : Hidden (TrB w B to' tc s.tr) := ht
  have hntH : Hidden (s.tr.length = nt) := hnt
  have hnsH : Hidden (s.st.length = ns) := hns
  have hFH : Hidden (Fi w f p a0 a2 a3 a4 a5 c0 c2 c3 c4 c5) := hF
  have r0H : Hidden (V.heap[w.heap.size]? = some (.cells #[.slice a0 f.sg.ps.length c0, ci f.sg.res, .slice a2 f.loc.length c2, .slice a3 f.cd.length c3] 27 (0, 0))) := r0
  have r1H : Hidden (V.heap[w.heap.size + 1]? = some (.cells #[.slice a4 p.fns.length c4, .slice a5 p.vars.length c5] 30 (0, 0))) := r1
  have r3H : Hidden (V.heap[w.heap.size + 1 + 1 + 1]? = some (.cells #[.slice so ns sc, .slice to' nt tc] 80 (0, 0))) := r3
  have r5H : Hidden (V.heap[w.heap.size + 1 + 1 + 1 + 1 + 1]? = some (.cells z7 86 (0, 0))) := r5
  have kpH : Hidden (∀ W, Fr (fun _ => False) V W → ∀ x : Int, Calls Tryz.prog 43 #[.slice so ns sc, ci x] W fun e w' => ∃ v, e = .returned v ∧ OwI w' W.heap.size v (s.st ++ [x]) ∧ Fr (fun _ => False) W w') := fun W hW x => put_any so ns sc s.st x W hns (InL.keep (InL.keep hs.1 fV) hW) (by omega)
  have szH : Hidden (V.heap.size = w.heap.size + 7) := szV
  have hBH : Hidden (B ≤ w.heap.size) := hB
  clear hF hs ht hV fV r0 r1 r2 r3 r4 r5 r6 hns hnt szV hB
  go_enter Tryz.func27, Tryz.ntmps27
  go_upto_region 3 with fail
  rw [← (show V = _ from hVH)]
  clear hVH
  obtain ⟨y0, y1, y2, y3⟩ := box4 r0H
  by_cases hk : f.loc.length ≤ k
  · have e1 : decide ((f.loc.length : Int) ≤ (k : Int)) = true := decide_eq_true (by omega)
    have e2 : decide (f.loc.length ≤ k) = true := decide_eq_true hk
    have hnone : Hidden ((f.loc)[k]? = none) := List.getElem?_eq_none hk
    obtain ⟨⟨t0, t1, t2, t3, t4, t5, t6⟩, u0, u1, u2, u3, u4, u5, u6⟩ := box7 r4H
    obtain ⟨⟨p0, p1, p2, p3, p4, p5, p6⟩, q0, q1, q2, q3, q4, q5, q6⟩ := box7 r5H
    clear hk kp
    go_wp2_with fail
    have sz := (show V.heap.size = w.heap.size + 7 from szH)
    refine fl_post (u := 8) (W := V) rfl rfl rfl r4H (by omega) fVH ?_
    intro W' fW'
    rw [show stepS f p ⟨2, (k : Int), t, bb⟩ s = none by simp [stepS, show (f.loc)[k]? = none from hnone]]
    exact ⟨_, _, _, _, _, _, _, _, _, _, _, _, _, _, rfl⟩
  · have e1 : decide ((f.loc.length : Int) ≤ (k : Int)) = false := decide_eq_false (by omega)
    have e2 : decide (f.loc.length ≤ k) = false := decide_eq_false hk
    have hkn : (k : Int) < (f.loc.length : Int) := by omega
    have hk0 : (0 : Int) ≤ (k : Int) := by omega
    obtain ⟨x, hx⟩ : ∃ x, (f.loc)[k]? = some x := ⟨_, List.getElem?_eq_getElem (by omega)⟩
    obtain ⟨b, off, rfl, hc⟩ := ((show Fi w f p a0 a2 a3 a4 a5 c0 c2 c3 c4 c5 from hFH).keep fVH).loc.2.2.2.resolve_left (by intro e; rw [e] at hx; simp at hx)
    have ex := hc k x hx
    have hxH : Hidden ((f.loc)[k]? = some x) := hx
    have hblt : b < w.heap.size := by
      obtain ⟨b', off', e', hc'⟩ := (show Fi w f p a0 _ a3 a4 _ c0 c2 c3 c4 c5 from hFH).loc.2.2.2.resolve_left (by intro e; rw [e] at hx; simp at hx)
      simp only [Option.some.injEq, Addr.mk.injEq, and_true] at e'
      obtain ⟨rfl, rfl⟩ := e'
      exact World.block_lt_of_cell? w _ (hc' k x hx)
    have m0 : ¬ w.heap.size = w.heap.size + 1 + 1 + 1 + 1 + 1 + 1 := by omega
    have m1 : ¬ w.heap.size + 1 = w.heap.size + 1 + 1 + 1 + 1 + 1 + 1 := by omega
    have m2 : ¬ w.heap.size + 1 + 1 = w.heap.size + 1 + 1 + 1 + 1 + 1 + 1 := by omega
    have m3 : ¬ w.heap.size + 1 + 1 + 1 = w.heap.size + 1 + 1 + 1 + 1 + 1 + 1 := by omega
    have mb : ¬ b = w.heap.size + 1 + 1 + 1 + 1 + 1 + 1 := by omega
    obtain ⟨X, hX⟩ : ∃ X, X = (s.st ++ [x]).length := ⟨_, rfl⟩
    have hXH : Hidden (X = (s.st ++ [x]).length) := hX
    clear hk hc hx kp hX
    go_upto_region 14 with fail
    go_region_held3 (fun w' => w'.cell? ⟨w.heap.size, 2, none⟩ = some (.slice (some ⟨b, off, none⟩) f.loc.length c2) ∧ w'.cell? ⟨w.heap.size + 1 + 1, 1, none⟩ = some (ci (k : Int)) ∧ w'.cell? ⟨w.heap.size + 1 + 1 + 1, 0, none⟩ = some (.slice so ns sc) ∧ w'.cell? ⟨b, off + k, none⟩ = some (ci x)) (first | (refine ⟨by with_reducible assumption, by with_reducible assumption, by with_reducible assumption, by with_reducible assumption⟩) | ((refine ⟨?_, ?_, ?_, ?_⟩ <;> (repeat (first | (with_reducible assumption) | (refine (Fr.setCell _ _ _).cell ?_ (by assumption))))); done) | go_keep) (first
      | (go_at_call 43; refine ((show ∀ W, Fr (fun _ => False) V W → ∀ x : Int, _ from kpH) _ (by first | exact Fr.refl _ _ | exact Fr.drew _ _) x).mono ?_; rintro e w1 ⟨v, rfl, hv, f0⟩
         have f1 : Fr (fun _ => False) V w1 := (by first | exact f0 | exact (Fr.drew _ _).same f0)
         have a1 := f1.cellN y2; have a2' := f1.cellN i1; have a3' := f1.cellN s0; have a4' := f1.cellN ex
         obtain ⟨⟨t0, t1, t2, t3, t4, t5, t6⟩, u0, u1, u2, u3, u4, u5, u6⟩ := box7 (f1.heap r4H (fun f => f))
         obtain ⟨⟨p0, p1, p2, p3, p4, p5, p6⟩, q0, q1, q2, q3, q4, q5, q6⟩ := box7 (f1.heap r6H (fun f => f))
         have hv2 : OwI w1 V.heap.size v (s.st ++ [x]) := hv
         obtain ⟨vo, vc, rfl, hvB⟩ := OwI.inB hv2
         have hvH : Hidden (InB w1 V.heap.size vo vc (s.st ++ [x])) := hvB
         have f1H : Hidden (Fr (fun _ => False) V w1) := f1
         rw [← (show X = _ from hXH)]
         clear hv hv2 hvB f0 f1))
    all_goals
      clear m0 m1 m2 m3 mb hblt
      go_wp2_with fail
      have sz := (show V.heap.size = w.heap.size + 7 from szH)
      exact next_post (V := V) (u := 8) (B := B) (st := s.st ++ [x]) (s := s) rfl rfl rfl ((show Fr (fun _ => False) V w1 from f1H).heap r4H (fun f => f)) (by omega) (by omega) (by omega) (by omega) (by omega) hBH fVH f1H hXH hntH hvH htH (by simp [stepS, on, show (f.loc)[k]? = some x from hxH])
set_option maxRecDepth 20000 in
set_option maxHeartbeats 4000000 in
theorem dstep_4 (f : Fu) (p : Fm) (a0 a2 a3 a4 a5 : Option Addr) (c0 c2 c3 c4 c5 : Nat) (k : Nat) (t bb : Int) (s : Sp) (so to' : Option Addr) (sc tc ns nt B : Nat) (w : World) (hns : s.st.length = ns) (hnt : s.tr.length = nt) (hF : Fi w f p a0 a2 a3 a4 a5 c0 c2 c3 c4 c5) (hs : InB w B so sc s.st) (ht : TrB w B to' tc s.tr) (hl : ns ≤ 600) (hB : B ≤ w.heap.size) :
    Calls Tryz.prog 27 #[.agg #[.slice a0 f.sg.ps.length c0, ci f.sg.res, .slice a2 f.loc.length c2, .slice a3 f.cd.length c3], .agg #[.slice a4 p.fns.length c4, .slice a5 p.vars.length c5], inV ⟨4, (k : Int), t, bb⟩, .agg #[.slice so ns sc, .slice to' nt tc]] w fun e w' => ∃ v, e = .returned v ∧ FlR w' B v (stepS f p ⟨4, (k : Int), t, bb⟩ s) ∧ Fr (fun _ => False) w w' := by
  obtain ⟨V, hV⟩ : ∃ V, V = (((((((w.alloc (.cells #[.slice a0 f.sg.ps.length c0, ci f.sg.res, .slice a2 f.loc.length c2, .slice a3 f.cd.length c3] 27 (0, 0))).alloc (.cells #[.slice a4 p.fns.length c4, .slice a5 p.vars.length c5] 30 (0, 0))).alloc (.cells #[ci 4, ci (k : Int), ci t, .int .u64 bb] 84 (0, 0))).alloc (.cells #[.slice so ns sc, .slice to' nt tc] 80 (0, 0))).alloc (.cells z7 86 (0, 0))).alloc (.cells z7 86 (0, 0))).alloc (.cells #[.bool true, .bool true, .bool false, .slice so ns sc, .slice to' nt tc, .slice none 0 0, .slice none 0 0] 86 (0, 0))) := ⟨_, rfl⟩
  have fV : Fr (fun _ => False) w V := by rw [hV]; exact ((((((Fr.alloc _ _ _).same (Fr.alloc _ _ _)).same (Fr.alloc _ _ _)).same (Fr.alloc _ _ _)).same (Fr.alloc _ _ _)).same (Fr.alloc _ _ _)).same (Fr.alloc _ _ _)
  have szV : V.heap.size = w.heap.size + 7 := by rw [hV]; simp
  have r0 : V.heap[w.heap.size]? = some (.cells #[.slice a0 f.sg.ps.length c0, ci f.sg.res, .slice a2 f.loc.length c2, .slice a3 f.cd.length c3] 27 (0, 0)) := by
    rw [hV]
    refine (Fr.alloc (fun _ => False) _ _).heap ?_ (fun f => f)
    refine (Fr.alloc (fun _ => False) _ _).heap ?_ (fun f => f)
    refine (Fr.alloc (fun _ => False) _ _).heap ?_ (fun f => f)
    refine (Fr.alloc (fun _ => False) _ _).heap ?_ (fun f => f)
    refine (Fr.alloc (fun _ => False) _ _).heap ?_ (fun f => f)
    refine (Fr.alloc (fun _ => False) _ _).heap ?_ (fun f => f)
    exact alloc_new _ _
  have r1 : V.heap[w.heap.size + 1]? = some (.cells #[.slice a4 p.fns.length c4, .slice a5 p.vars.length c5] 30 (0, 0)) := by
    rw [hV]
    refine (Fr.alloc (fun _ => False) _ _).heap ?_ (fun f => f)
    refine (Fr.alloc (fun _ => False) _ _).heap ?_ (fun f => f)
    refine (Fr.alloc (fun _ => False) _ _).heap ?_ (fun f => f)
    refine (Fr.alloc (fun _ => False) _ _).heap ?_ (fun f => f)
    refine (Fr.alloc (fun _ => False) _ _).heap ?_ (fun f => f)
    exact alloc_at _ _ _ (by simp)
  have r2 : V.heap[w.heap.size + 1 + 1]? = some (.cells #[ci 4, ci (k : Int), ci t, .int .u64 bb] 84 (0, 0)) := by
    rw [hV]
    refine (Fr.alloc (fun _ => False) _ _).heap ?_ (fun f => f)
    refine (Fr.alloc (fun _ => False) _ _).heap ?_ (fun f => f)
    refine (Fr.alloc (fun _ => False) _ _).heap ?_ (fun f => f)
    refine (Fr.alloc (fun _ => False) _ _).heap ?_ (fun f => f)
    exact alloc_at _ _ _ (by simp)
  have r3 : V.heap[w.heap.size + 1 + 1 + 1]? = some (.cells #[.slice so ns sc, .slice to' nt tc] 80 (0, 0)) := by
    rw [hV]
    refine (Fr.alloc (fun _ => False) _ _).heap ?_ (fun f => f)
    refine (Fr.alloc (fun _ => False) _ _).heap ?_ (fun f => f)
    refine (Fr.alloc (fun _ => False) _ _).heap ?_ (fun f => f)
    exact alloc_at _ _ _ (by simp)
  have r4 : V.heap[w.heap.size + 1 + 1 + 1 + 1]? = some (.cells z7 86 (0, 0)) := by
    rw [hV]
    refine (Fr.alloc (fun _ => False) _ _).heap ?_ (fun f => f)
    refine (Fr.alloc (fun _ => False) _ _).heap ?_ (fun f => f)
    exact alloc_at _ _ _ (by simp)
  have r5 : V.heap[w.heap.size + 1 + 1 + 1 + 1 + 1]? = some (.cells z7 86 (0, 0)) := by
    rw [hV]
    refine (Fr.alloc (fun _ => False) _ _).heap ?_ (fun f => f)
    exact alloc_at _ _ _ (by simp)
  have r6 : V.heap[w.heap.size + 1 + 1 + 1 + 1 + 1 + 1]? = some (.cells #[.bool true, .bool true, .bool false, .slice so ns sc, .slice to' nt tc, .slice none 0 0, .slice none 0 0] 86 (0, 0)) := by
    rw [hV]
    exact alloc_at _ _ _ (by simp)
  have kp := fun (x : Int) => put_any so ns sc s.st x V hns (InL.keep hs.1 fV) (by omega)
  obtain ⟨i0, i1, i2, i3⟩ := box4 r2
  have s0 : V.cell? ⟨w.heap.size + 1 + 1 + 1, 0, none⟩ = some (.slice so ns sc) := cell_of_row _ _ 0 _ _ _ r3
  have s1 : V.cell? ⟨w.heap.size + 1 + 1 + 1, 1, none⟩ = some (.slice to' nt tc) := cell_of_row _ _ 1 _ _ _ r3
  have r4H : Hidden (V.heap[w.heap.size + 1 + 1 + 1 + 1]? = some (.cells z7 86 (0, 0))) := r4
  have r6H : Hidden (V.heap[w.heap.size + 1 + 1 + 1 + 1 + 1 + 1]? = some (.cells #[.bool true, .bool true, .bool false, .slice so ns sc, .slice to' nt tc, .slice none 0 0, .slice none 0 0] 86 (0, 0))) := r6
  have fVH : Hidden (Fr (fun _ => False) w V) := fV
  have hVH : Hidden (V = _) := hV
  have hsH : Hidden (InB w B so sc s.st) := hs
  have htH : Hidden (TrB w B to' tc s.tr) := ht
  have hntH : Hidden (s.tr.length = nt) := hnt
  have hnsH : Hidden (s.st.length = ns) := hns
  have hFH : Hidden (Fi w f p a0 a2 a3 a4 a5 c0 c2 c3 c4 c5) := hF
  have r0H : Hidden (V.heap[w.heap.size]? = some (.cells #[.slice a0 f.sg.ps.length c0, ci f.sg.res, .slice a2 f.loc.length c2, .slice a3 f.cd.length c3] 27 (0, 0))) := r0
  have r1H : Hidden (V.heap[w.heap.size + 1]? = some (.cells #[.slice a4 p.fns.length c4, .slice a5 p.vars.length c5] 30 (0, 0))) := r1
  have r3H : Hidden (V.heap[w.heap.size + 1 + 1 + 1]? = some (.cells #[.slice so ns sc, .slice to' nt tc] 80 (0, 0))) := r3
  have r5H : Hidden (V.heap[w.heap.size + 1 + 1 + 1 + 1 + 1]? = some (.cells z7 86 (0, 0))) := r5
  have kpH : Hidden (∀ W, Fr (fun _ => False) V W → ∀ x : Int, Calls Tryz.prog 43 #[.slice so ns sc, ci x] W fun e w' => ∃ v, e = .returned v ∧ OwI w' W.heap.size v (s.st ++ [x]) ∧ Fr (fun _ => False) W w') := fun W hW x => put_any so ns sc s.st x W hns (InL.keep (InL.keep hs.1 fV) hW) (by omega)
  have szH : Hidden (V.heap.size = w.heap.size + 7) := szV
  have hBH : Hidden (B ≤ w.heap.size) := hB
  clear hF hs ht hV fV r0 r1 r2 r3 r4 r5 r6 hns hnt szV hB
  go_enter Tryz.func27, Tryz.ntmps27
  go_upto_region 3 with fail
  rw [← (show V = _ from hVH)]
  clear hVH
  have y0 : V.cell? ⟨w.heap.size + 1, 0, none⟩ = some (.slice a4 p.fns.length c4) := cell_of_row _ _ 0 _ _ _ r1H
  have y2 : V.cell? ⟨w.heap.size + 1, 1, none⟩ = some (.slice a5 p.vars.length c5) := cell_of_row _ _ 1 _ _ _ r1H
  by_cases hk : p.vars.length ≤ k
  · have e1 : decide ((p.vars.length : Int) ≤ (k : Int)) = true := decide_eq_true (by omega)
    have e2 : decide (p.vars.length ≤ k) = true := decide_eq_true hk
    have hnone : Hidden ((p.vars)[k]? = none) := List.getElem?_eq_none hk
    obtain ⟨⟨t0, t1, t2, t3, t4, t5, t6⟩, u0, u1, u2, u3, u4, u5, u6⟩ := box7 r4H
    obtain ⟨⟨p0, p1, p2, p3, p4, p5, p6⟩, q0, q1, q2, q3, q4, q5, q6⟩ := box7 r5H
    clear hk kp
    go_wp2_with fail
    have sz := (show V.heap.size = w.heap.size + 7 from szH)
    refine fl_post (u := 8) (W := V) rfl rfl rfl r4H (by omega) fVH ?_
    intro W' fW'
    rw [show stepS f p ⟨4, (k : Int), t, bb⟩ s = none by simp [stepS, show (p.vars)[k]? = none from hnone]]
    exact ⟨_, _, _, _, _, _, _, _, _, _, _, _, _, _, rfl⟩
  · have e1 : decide ((p.vars.length : Int) ≤ (k : Int)) = false := decide_eq_false (by omega)
    have e2 : decide (p.vars.length ≤ k) = false := decide_eq_false hk
    have hkn : (k : Int) < (p.vars.length : Int) := by omega
    have hk0 : (0 : Int) ≤ (k : Int) := by omega
    obtain ⟨x, hx⟩ : ∃ x, (p.vars)[k]? = some x := ⟨_, List.getElem?_eq_getElem (by omega)⟩
    obtain ⟨b, off, rfl, hc⟩ := ((show Fi w f p a0 a2 a3 a4 a5 c0 c2 c3 c4 c5 from hFH).keep fVH).vars.2.2.2.resolve_left (by intro e; rw [e] at hx; simp at hx)
    have ex := hc k x hx
    have hxH : Hidden ((p.vars)[k]? = some x) := hx
    have hblt : b < w.heap.size := by
      obtain ⟨b', off', e', hc'⟩ := (show Fi w f p a0 _ a3 a4 _ c0 c2 c3 c4 c5 from hFH).vars.2.2.2.resolve_left (by intro e; rw [e] at hx; simp at hx)
      simp only [Option.some.injEq, Addr.mk.injEq, and_true] at e'
      obtain ⟨rfl, rfl⟩ := e'
      exact World.block_lt_of_cell? w _ (hc' k x hx)
    have m0 : ¬ w.heap.size = w.heap.size + 1 + 1 + 1 + 1 + 1 + 1 := by omega
    have m1 : ¬ w.heap.size + 1 = w.heap.size + 1 + 1 + 1 + 1 + 1 + 1 := by omega
    have m2 : ¬ w.heap.size + 1 + 1 = w.heap.size + 1 + 1 + 1 + 1 + 1 + 1 := by omega
    have m3 : ¬ w.heap.size + 1 + 1 + 1 = w.heap.size + 1 + 1 + 1 + 1 + 1 + 1 := by omega
    have mb : ¬ b = w.heap.size + 1 + 1 + 1 + 1 + 1 + 1 := by omega
    obtain ⟨X, hX⟩ : ∃ X, X = (s.st ++ [x]).length := ⟨_, rfl⟩
    have hXH : Hidden (X = (s.st ++ [x]).length) := hX
    clear hk hc hx kp hX
    go_upto_region 23 with fail
    go_region_held3 (fun w' => w'.cell? ⟨w.heap.size + 1, 1, none⟩ = some (.slice (some ⟨b, off, none⟩) p.vars.length c5) ∧ w'.cell? ⟨w.heap.size + 1 + 1, 1, none⟩ = some (ci (k : Int)) ∧ w'.cell? ⟨w.heap.size + 1 + 1 + 1, 0, none⟩ = some (.slice so ns sc) ∧ w'.cell? ⟨b, off + k, none⟩ = some (ci x)) (first | (refine ⟨by with_reducible assumption, by with_reducible assumption, by with_reducible assumption, by with_reducible assumption⟩) | ((refine ⟨?_, ?_, ?_, ?_⟩ <;> (repeat (first | (with_reducible assumption) | (refine (Fr.setCell _ _ _).cell ?_ (by assumption))))); done) | go_keep) (first
      | (go_at_call 43; refine ((show ∀ W, Fr (fun _ => False) V W → ∀ x : Int, _ from kpH) _ (by first | exact Fr.refl _ _ | exact Fr.drew _ _) x).mono ?_; rintro e w1 ⟨v, rfl, hv, f0⟩
         have f1 : Fr (fun _ => False) V w1 := (by first | exact f0 | exact (Fr.drew _ _).same f0)
         have a1 := f1.cellN y2; have a2' := f1.cellN i1; have a3' := f1.cellN s0; have a4' := f1.cellN ex
         obtain ⟨⟨t0, t1, t2, t3, t4, t5, t6⟩, u0, u1, u2, u3, u4, u5, u6⟩ := box7 (f1.heap r4H (fun f => f))
         obtain ⟨⟨p0, p1, p2, p3, p4, p5, p6⟩, q0, q1, q2, q3, q4, q5, q6⟩ := box7 (f1.heap r6H (fun f => f))
         have hv2 : OwI w1 V.heap.size v (s.st ++ [x]) := hv
         obtain ⟨vo, vc, rfl, hvB⟩ := OwI.inB hv2
         have hvH : Hidden (InB w1 V.heap.size vo vc (s.st ++ [x])) := hvB
         have f1H : Hidden (Fr (fun _ => False) V w1) := f1
         rw [← (show X = _ from hXH)]
         clear hv hv2 hvB f0 f1))
    all_goals
      clear m0 m1 m2 m3 mb hblt
      go_wp2_with fail
      have sz := (show V.heap.size = w.heap.size + 7 from szH)
      exact next_post (V := V) (u := 8) (B := B) (st := s.st ++ [x]) (s := s) rfl rfl rfl ((show Fr (fun _ => False) V w1 from f1H).heap r4H (fun f => f)) (by omega) (by omega) (by omega) (by omega) (by omega) hBH fVH f1H hXH hntH hvH htH (by simp [stepS, on, show (p.vars)[k]? = some x from hxH])
set_option maxRecDepth 20000 in
set_option maxHeartbeats 4000000 in
theorem dstep_16 (f : Fu) (p : Fm) (a0 a2 a3 a4 a5 : Option Addr) (c0 c2 c3 c4 c5 : Nat) (n t bb : Int) (s : Sp) (so to' : Option Addr) (sc tc ns nt B : Nat) (w : World) (hns : s.st.length = ns) (hnt : s.tr.length = nt) (hF : Fi w f p a0 a2 a3 a4 a5 c0 c2 c3 c4 c5) (hs : InB w B so sc s.st) (ht : TrB w B to' tc s.tr) (hl : ns ≤ 600) (hB : B ≤ w.heap.size) :
    Calls Tryz.prog 27 #[.agg #[.slice a0 f.sg.ps.length c0, ci f.sg.res, .slice a2 f.loc.length c2, .slice a3 f.cd.length c3], .agg #[.slice a4 p.fns.length c4, .slice a5 p.vars.length c5], inV ⟨16, n, t, bb⟩, .agg #[.slice so ns sc, .slice to' nt tc]] w fun e w' => ∃ v, e = .returned v ∧ FlR w' B v (stepS f p ⟨16, n, t, bb⟩ s) ∧ Fr (fun _ => False) w w' := by
  obtain ⟨V, hV⟩ : ∃ V, V = (((((((w.alloc (.cells #[.slice a0 f.sg.ps.length c0, ci f.sg.res, .slice a2 f.loc.length c2, .slice a3 f.cd.length c3] 27 (0, 0))).alloc (.cells #[.slice a4 p.fns.length c4, .slice a5 p.vars.length c5] 30 (0, 0))).alloc (.cells #[ci 16, ci n, ci t, .int .u64 bb] 84 (0, 0))).alloc (.cells #[.slice so ns sc, .slice to' nt tc] 80 (0, 0))).alloc (.cells z7 86 (0, 0))).alloc (.cells z7 86 (0, 0))).alloc (.cells #[.bool true, .bool true, .bool false, .slice so ns sc, .slice to' nt tc, .slice none 0 0, .slice none 0 0] 86 (0, 0))) := ⟨_, rfl⟩
  have fV : Fr (fun _ => False) w V := by rw [hV]; exact ((((((Fr.alloc _ _ _).same (Fr.alloc _ _ _)).same (Fr.alloc _ _ _)).same (Fr.alloc _ _ _)).same (Fr.alloc _ _ _)).same (Fr.alloc _ _ _)).same (Fr.alloc _ _ _)
  have szV : V.heap.size = w.heap.size + 7 := by rw [hV]; simp
  have r0 : V.heap[w.heap.size]? = some (.cells #[.slice a0 f.sg.ps.length c0, ci f.sg.res, .slice a2 f.loc.length c2, .slice a3 f.cd.length c3] 27 (0, 0)) := by
    rw [hV]
    refine (Fr.alloc (fun _ => False) _ _).heap ?_ (fun f => f)
    refine (Fr.alloc (fun _ => False) _ _).heap ?_ (fun f => f)
    refine (Fr.alloc (fun _ => False) _ _).heap ?_ (fun f => f)
    refine (Fr.alloc (fun _ => False) _ _).heap ?_ (fun f => f)
    refine (Fr.alloc (fun _ => False) _ _).heap ?_ (fun f => f)
    refine (Fr.alloc (fun _ => False) _ _).heap ?_ (fun f => f)
    exact alloc_new _ _
  have r1 : V.heap[w.heap.size + 1]? = some (.cells #[.slice a4 p.fns.length c4, .slice a5 p.vars.length c5] 30 (0, 0)) := by
    rw [hV]
    refine (Fr.alloc (fun _ => False) _ _).heap ?_ (fun f => f)
    refine (Fr.alloc (fun _ => False) _ _).heap ?_ (fun f => f)
    refine (Fr.alloc (fun _ => False) _ _).heap ?_ (fun f => f)
    refine (Fr.alloc (fun _ => False) _ _).heap ?_ (fun f => f)
    refine (Fr.alloc (fun _ => False) _ _).heap ?_ (fun f => f)
    exact alloc_at _ _ _ (by simp)
  have r2 : V.heap[w.heap.size + 1 + 1]? = some (.cells #[ci 16, ci n, ci t, .int .u64 bb] 84 (0, 0)) := by
    rw [hV]
    refine (Fr.alloc (fun _ => False) _ _).heap ?_ (fun f => f)
    refine (Fr.alloc (fun _ => False) _ _).heap ?_ (fun f => f)
    refine (Fr.alloc (fun _ => False) _ _).heap ?_ (fun f => f)
    refine (Fr.alloc (fun _ => False) _ _).heap ?_ (fun f => f)
    exact alloc_at _ _ _ (by simp)
  have r3 : V.heap[w.heap.size + 1 + 1 + 1]? = some (.cells #[.slice so ns sc, .slice to' nt tc] 80 (0, 0)) := by
    rw [hV]
    refine (Fr.alloc (fun _ => False) _ _).heap ?_ (fun f => f)
    refine (Fr.alloc (fun _ => False) _ _).heap ?_ (fun f => f)
    refine (Fr.alloc (fun _ => False) _ _).heap ?_ (fun f => f)
    exact alloc_at _ _ _ (by simp)
  have r4 : V.heap[w.heap.size + 1 + 1 + 1 + 1]? = some (.cells z7 86 (0, 0)) := by
    rw [hV]
    refine (Fr.alloc (fun _ => False) _ _).heap ?_ (fun f => f)
    refine (Fr.alloc (fun _ => False) _ _).heap ?_ (fun f => f)
    exact alloc_at _ _ _ (by simp)
  have r5 : V.heap[w.heap.size + 1 + 1 + 1 + 1 + 1]? = some (.cells z7 86 (0, 0)) := by
    rw [hV]
    refine (Fr.alloc (fun _ => False) _ _).heap ?_ (fun f => f)
    exact alloc_at _ _ _ (by simp)
  have r6 : V.heap[w.heap.size + 1 + 1 + 1 + 1 + 1 + 1]? = some (.cells #[.bool true, .bool true, .bool false, .slice so ns sc, .slice to' nt tc, .slice none 0 0, .slice none 0 0] 86 (0, 0)) := by
    rw [hV]
    exact alloc_at _ _ _ (by simp)
  have kp := fun (x : Int) => put_any so ns sc s.st x V hns (InL.keep hs.1 fV) (by omega)
  obtain ⟨i0, i1, i2, i3⟩ := box4 r2
  have s0 : V.cell? ⟨w.heap.size + 1 + 1 + 1, 0, none⟩ = some (.slice so ns sc) := cell_of_row _ _ 0 _ _ _ r3
  have s1 : V.cell? ⟨w.heap.size + 1 + 1 + 1, 1, none⟩ = some (.slice to' nt tc) := cell_of_row _ _ 1 _ _ _ r3
  have r4H : Hidden (V.heap[w.heap.size + 1 + 1 + 1 + 1]? = some (.cells z7 86 (0, 0))) := r4
  have r6H : Hidden (V.heap[w.heap.size + 1 + 1 + 1 + 1 + 1 + 1]? = some (.cells #[.bool true, .bool true, .bool false, .slice so ns sc, .slice to' nt tc, .slice none 0 0, .slice none 0 0] 86 (0, 0))) := r6
  have fVH : Hidden (Fr (fun _ => False) w V) := fV
  have hVH : Hidden (V = _) := hV
  have hsH : Hidden (InB w B so sc s.st) := hs
  have htH : Hidden (TrB w B to' tc s.tr) := ht
  have hntH : Hidden (s.tr.length = nt) := hnt
  have hnsH : Hidden (s.st.length = ns) := hns
  have hFH : Hidden (Fi w f p a0 a2 a3 a4 a5 c0 c2 c3 c4 c5) := hF
  have r0H : Hidden (V.heap[w.heap.size]? = some (.cells #[.slice a0 f.sg.ps.length c0, ci f.sg.res, .slice a2 f.loc.length c2, .slice a3 f.cd.length c3] 27 (0, 0))) := r0
  have r1H : Hidden (V.heap[w.heap.size + 1]? = some (.cells #[.slice a4 p.fns.length c4, .slice a5 p.vars.length c5] 30 (0, 0))) := r1
  have r3H : Hidden (V.heap[w.heap.size + 1 + 1 + 1]? = some (.cells #[.slice so ns sc, .slice to' nt tc] 80 (0, 0))) := r3
  have r5H : Hidden (V.heap[w.heap.size + 1 + 1 + 1 + 1 + 1]? = some (.cells z7 86 (0, 0))) := r5
  have kpH : Hidden (∀ W, Fr (fun _ => False) V W → ∀ x : Int, Calls Tryz.prog 43 #[.slice so ns sc, ci x] W fun e w' => ∃ v, e = .returned v ∧ OwI w' W.heap.size v (s.st ++ [x]) ∧ Fr (fun _ => False) W w') := fun W hW x => put_any so ns sc s.st x W hns (InL.keep (InL.keep hs.1 fV) hW) (by omega)
  have szH : Hidden (V.heap.size = w.heap.size + 7) := szV
  have hBH : Hidden (B ≤ w.heap.size) := hB
  clear hF hs ht hV fV r0 r1 r2 r3 r4 r5 r6 hns hnt szV hB
  go_enter Tryz.func27, Tryz.ntmps27
  go_upto_region 3 with fail
  rw [← (show V = _ from hVH)]
  clear hVH
  clear kp
  rcases List.eq_nil_or_concat s.tr with htr | ⟨r, z, htr⟩
  · obtain rfl : nt = 0 := by rw [← (show s.tr.length = nt from hntH), htr]; rfl
    have hw1 : wrap64 (((0 : Nat) : Int) - 1) = -1 := wrap64_eq (by simp) (by simp) (by simp)
    have hw2 : IntKind.i64.wrap (((0 : Nat) : Int) - 1) = -1 := wrapI_eq (by simp) (by simp) (by simp)
    have htrH : Hidden (s.tr = []) := htr
    obtain ⟨⟨t0, t1, t2, t3, t4, t5, t6⟩, u0, u1, u2, u3, u4, u5, u6⟩ := box7 r4H
    obtain ⟨⟨p0, p1, p2, p3, p4, p5, p6⟩, q0, q1, q2, q3, q4, q5, q6⟩ := box7 r5H
    clear htr
    go_wp2_with fail
    have sz := (show V.heap.size = w.heap.size + 7 from szH)
    refine fl_post (u := 8) (W := V) rfl rfl rfl r4H (by omega) fVH ?_
    intro W' fW'
    rw [show stepS f p ⟨16, n, t, bb⟩ s = none by simp [stepS, show s.tr = [] from htrH]]
    exact ⟨_, _, _, _, _, _, _, _, _, _, _, _, _, _, rfl⟩
  · rw [List.concat_eq_append] at htr
    obtain ⟨m, hm⟩ : ∃ m, m = r.length := ⟨_, rfl⟩
    have hn' : nt = m + 1 := by rw [← (show s.tr.length = nt from hntH), htr, hm]; simp
    have hcap : nt ≤ tc := by rw [← (show s.tr.length = nt from hntH)]; exact (show TrB w B to' tc s.tr from htH).1
    have hcap2 : tc ≤ 9223372036854775807 := by have := (show TrB w B to' tc s.tr from htH).2.1; simpa [maxLen] using this
    obtain ⟨hw1, hw2⟩ := wrap_pred hn' (by omega)
    have hsl := fun W => slice_toT to' nt m tc (by omega) W
    have hneg : decide ((m : Int) < 0) = false := by simp
    have htrH : Hidden (s.tr = r ++ [z]) := htr
    have hmH : Hidden (m = r.length) := hm
    obtain ⟨⟨t0, t1, t2, t3, t4, t5, t6⟩, u0, u1, u2, u3, u4, u5, u6⟩ := box7 r4H
    obtain ⟨⟨p0, p1, p2, p3, p4, p5, p6⟩, q0, q1, q2, q3, q4, q5, q6⟩ := box7 r6H
    clear htr hm hn' hcap hcap2
    go_wp2_with fail
    have sz := (show V.heap.size = w.heap.size + 7 from szH)
    have hne46 : w.heap.size + 1 + 1 + 1 + 1 ≠ w.heap.size + 1 + 1 + 1 + 1 + 1 + 1 := by omega
    have g1 := Fr.setCell V ⟨w.heap.size + 1 + 1 + 1 + 1 + 1 + 1, 4, none⟩ (.slice to' m tc)
    refine fl_post (u := 8) (W := V.setCell ⟨w.heap.size + 1 + 1 + 1 + 1 + 1 + 1, 4, none⟩ (.slice to' m tc)) rfl rfl rfl (g1.heap r4H hne46) (by omega) ((show Fr (fun _ => False) w V from fVH).over g1 (fun k e => by have e : k = w.heap.size + 1 + 1 + 1 + 1 + 1 + 1 := e; omega)) ?_
    intro W' fW'
    rw [show stepS f p ⟨16, n, t, bb⟩ s = some (some ⟨s.st, r⟩, none) by simp [stepS, show s.tr = r ++ [z] from htrH]]
    refine ⟨_, _, _, _, _, _, _, _, _, _, _, _, rfl, fun y hy => ?_, fun y hy => by cases hy⟩
    cases hy
    refine ⟨so, sc, to', tc, by rw [show m = _ from hmH, show s.st.length = ns from hnsH], (show InB w B so sc s.st from hsH).keep fW' (fun _ _ f => f), ?_⟩
    have := ((show TrB w B to' tc s.tr from htH).keep fW' (fun _ _ f => f)).take r.length
    rw [show s.tr = r ++ [z] from htrH] at this
    simpa using this
end Go.Proofs.YtnmcehpdiopaiaaGreatDoor.Cd

namespace Go.Proofs.YtnmcehpdiopaiaaGreatDoor.Cd
open Go.RowKit Ty
set_option linter.unusedSimpArgs false
set_option linter.unusedVariables false

theorem inl_none (w : World) : InL w none 0 [] := ⟨Nat.le_refl _, by simp [maxLen], fun _ => rfl, Or.inl rfl⟩
theorem rtop_none (W : World) : Calls Tryz.prog 45 #[.slice none 0 0] W fun e w' => e = .returned (.tuple #[.slice none 0 0, ci 0, .bool false]) ∧ Fr (fun _ => False) W w' := rtop_any none 0 0 [] W rfl (inl_none W)
theorem rtop_empty (so : Option Addr) (sc : Nat) (W : World) (h : InL W so sc []) : Calls Tryz.prog 45 #[.slice so (0 : Nat) sc] W fun e w' => e = .returned (.tuple #[.slice none 0 0, ci 0, .bool false]) ∧ Fr (fun _ => False) W w' := rtop_any so 0 sc [] W rfl h
theorem tp_app (r : List Int) (y : Int) : tp (r ++ [y]) = some (r, y) := by unfold tp; simp
theorem rtop_app (so : Option Addr) (n X sc : Nat) (st r : List Int) (y : Int) (hst : st = r ++ [y]) (hn : st.length = n) (hX : r.length = X) (W : World) (h : InL W so sc st) : Calls Tryz.prog 45 #[.slice so n sc] W fun e w' => e = .returned (.tuple #[.slice so X sc, ci y, .bool true]) ∧ Fr (fun _ => False) W w' := by
  have := rtop_any so n sc st W hn h
  rw [hst, tp_app] at this
  rw [← hX]
  exact this
set_option maxRecDepth 20000 in
set_option maxHeartbeats 4000000 in
theorem dstep_6 (f : Fu) (p : Fm) (a0 a2 a3 a4 a5 : Option Addr) (c0 c2 c3 c4 c5 : Nat) (n t bb : Int) (s : Sp) (so to' : Option Addr) (sc tc ns nt B : Nat) (w : World) (hns : s.st.length = ns) (hnt : s.tr.length = nt) (hF : Fi w f p a0 a2 a3 a4 a5 c0 c2 c3 c4 c5) (hs : InB w B so sc s.st) (ht : TrB w B to' tc s.tr) (hl : ns ≤ 600) (hB : B ≤ w.heap.size) :
    Calls Tryz.prog 27 #[.agg #[.slice a0 f.sg.ps.length c0, ci f.sg.res, .slice a2 f.loc.length c2, .slice a3 f.cd.length c3], .agg #[.slice a4 p.fns.length c4, .slice a5 p.vars.length c5], inV ⟨6, n, t, bb⟩, .agg #[.slice so ns sc, .slice to' nt tc]] w fun e w' => ∃ v, e = .returned v ∧ FlR w' B v (stepS f p ⟨6, n, t, bb⟩ s) ∧ Fr (fun _ => False) w w' := by
  obtain ⟨V, hV⟩ : ∃ V, V = (((((((w.alloc (.cells #[.slice a0 f.sg.ps.length c0, ci f.sg.res, .slice a2 f.loc.length c2, .slice a3 f.cd.length c3] 27 (0, 0))).alloc (.cells #[.slice a4 p.fns.length c4, .slice a5 p.vars.length c5] 30 (0, 0))).alloc (.cells #[ci 6, ci n, ci t, .int .u64 bb] 84 (0, 0))).alloc (.cells #[.slice so ns sc, .slice to' nt tc] 80 (0, 0))).alloc (.cells z7 86 (0, 0))).alloc (.cells z7 86 (0, 0))).alloc (.cells #[.bool true, .bool true, .bool false, .slice so ns sc, .slice to' nt tc, .slice none 0 0, .slice none 0 0] 86 (0, 0))) := ⟨_, rfl⟩
  have fV : Fr (fun _ => False) w V := by rw [hV]; exact ((((((Fr.alloc _ _ _).same (Fr.alloc _ _ _)).same (Fr.alloc _ _ _)).same (Fr.alloc _ _ _)).same (Fr.alloc _ _ _)).same (Fr.alloc _ _ _)).same (Fr.alloc _ _ _)
  have szV : V.heap.size = w.heap.size + 7 := by rw [hV]; simp
  have r0 : V.heap[w.heap.size]? = some (.cells #[.slice a0 f.sg.ps.length c0, ci f.sg.res, .slice a2 f.loc.length c2, .slice a3 f.cd.length c3] 27 (0, 0)) := by
    rw [hV]
    refine (Fr.alloc (fun _ => False) _ _).heap ?_ (fun f => f)
    refine (Fr.alloc (fun _ => False) _ _).heap ?_ (fun f => f)
    refine (Fr.alloc (fun _ => False) _ _).heap ?_ (fun f => f)
    refine (Fr.alloc (fun _ => False) _ _).heap ?_ (fun f => f)
    refine (Fr.alloc (fun _ => False) _ _).heap ?_ (fun f => f)
    refine (Fr.alloc (fun _ => False) _ _).heap ?_ (fun f => f)
    exact alloc_new _ _
  have r1 : V.heap[w.heap.size + 1]? = some (.cells #[.slice a4 p.fns.length c4, .slice a5 p.vars.length c5] 30 (0, 0)) := by
    rw [hV]
    refine (Fr.alloc (fun _ => False) _ _).heap ?_ (fun f => f)
    refine (Fr.alloc (fun _ => False) _ _).heap ?_ (fun f => f)
    refine (Fr.alloc (fun _ => False) _ _).heap ?_ (fun f => f)
    refine (Fr.alloc (fun _ => False) _ _).heap ?_ (fun f => f)
    refine (Fr.alloc (fun _ => False) _ _).heap ?_ (fun f => f)
    exact alloc_at _ _ _ (by simp)
  have r2 : V.heap[w.heap.size + 1 + 1]? = some (.cells #[ci 6, ci n, ci t, .int .u64 bb] 84 (0, 0)) := by
    rw [hV]
    refine (Fr.alloc (fun _ => False) _ _).heap ?_ (fun f => f)
    refine (Fr.alloc (fun _ => False) _ _).heap ?_ (fun f => f)
    refine (Fr.alloc (fun _ => False) _ _).heap ?_ (fun f => f)
    refine (Fr.alloc (fun _ => False) _ _).heap ?_ (fun f => f)
    exact alloc_at _ _ _ (by simp)
  have r3 : V.heap[w.heap.size + 1 + 1 + 1]? = some (.cells #[.slice so ns sc, .slice to' nt tc] 80 (0, 0)) := by
    rw [hV]
    refine (Fr.alloc (fun _ => False) _ _).heap ?_ (fun f => f)
    refine (Fr.alloc (fun _ => False) _ _).heap ?_ (fun f => f)
    refine (Fr.alloc (fun _ => False) _ _).heap ?_ (fun f => f)
    exact alloc_at _ _ _ (by simp)
  have r4 : V.heap[w.heap.size + 1 + 1 + 1 + 1]? = some (.cells z7 86 (0, 0)) := by
    rw [hV]
    refine (Fr.alloc (fun _ => False) _ _).heap ?_ (fun f => f)
    refine (Fr.alloc (fun _ => False) _ _).heap ?_ (fun f => f)
    exact alloc_at _ _ _ (by simp)
  have r5 : V.heap[w.heap.size + 1 + 1 + 1 + 1 + 1]? = some (.cells z7 86 (0, 0)) := by
    rw [hV]
    refine (Fr.alloc (fun _ => False) _ _).heap ?_ (fun f => f)
    exact alloc_at _ _ _ (by simp)
  have r6 : V.heap[w.heap.size + 1 + 1 + 1 + 1 + 1 + 1]? = some (.cells #[.bool true, .bool true, .bool false, .slice so ns sc, .slice to' nt tc, .slice none 0 0, .slice none 0 0] 86 (0, 0)) := by
    rw [hV]
    exact alloc_at _ _ _ (by simp)
  have kp := fun (x : Int) => put_any so ns sc s.st x V hns (InL.keep hs.1 fV) (by omega)
  obtain ⟨i0, i1, i2, i3⟩ := box4 r2
  have s0 : V.cell? ⟨w.heap.size + 1 + 1 + 1, 0, none⟩ = some (.slice so ns sc) := cell_of_row _ _ 0 _ _ _ r3
  have s1 : V.cell? ⟨w.heap.size + 1 + 1 + 1, 1, none⟩ = some (.slice to' nt tc) := cell_of_row _ _ 1 _ _ _ r3
  have r4H : Hidden (V.heap[w.heap.size + 1 + 1 + 1 + 1]? = some (.cells z7 86 (0, 0))) := r4
  have r6H : Hidden (V.heap[w.heap.size + 1 + 1 + 1 + 1 + 1 + 1]? = some (.cells #[.bool true, .bool true, .bool false, .slice so ns sc, .slice to' nt tc, .slice none 0 0, .slice none 0 0] 86 (0, 0))) := r6
  have fVH : Hidden (Fr (fun _ => False) w V) := fV
  have hVH : Hidden (V = _) := hV
  have hsH : Hidden (InB w B so sc s.st) := hs
  have htH : Hidden (TrB w B to' tc s.tr) := ht
  have hntH : Hidden (s.tr.length = nt) := hnt
  have hnsH : Hidden (s.st.length = ns) := hns
  have hFH : Hidden (Fi w f p a0 a2 a3 a4 a5 c0 c2 c3 c4 c5) := hF
  have r0H : Hidden (V.heap[w.heap.size]? = some (.cells #[.slice a0 f.sg.ps.length c0, ci f.sg.res, .slice a2 f.loc.length c2, .slice a3 f.cd.length c3] 27 (0, 0))) := r0
  have r1H : Hidden (V.heap[w.heap.size + 1]? = some (.cells #[.slice a4 p.fns.length c4, .slice a5 p.vars.length c5] 30 (0, 0))) := r1
  have r3H : Hidden (V.heap[w.heap.size + 1 + 1 + 1]? = some (.cells #[.slice so ns sc, .slice to' nt tc] 80 (0, 0))) := r3
  have r5H : Hidden (V.heap[w.heap.size + 1 + 1 + 1 + 1 + 1]? = some (.cells z7 86 (0, 0))) := r5
  have kpH : Hidden (∀ W, Fr (fun _ => False) V W → ∀ x : Int, Calls Tryz.prog 43 #[.slice so ns sc, ci x] W fun e w' => ∃ v, e = .returned v ∧ OwI w' W.heap.size v (s.st ++ [x]) ∧ Fr (fun _ => False) W w') := fun W hW x => put_any so ns sc s.st x W hns (InL.keep (InL.keep hs.1 fV) hW) (by omega)
  have szH : Hidden (V.heap.size = w.heap.size + 7) := szV
  have hBH : Hidden (B ≤ w.heap.size) := hB
  clear hF hs ht hV fV r0 r1 r2 r3 r4 r5 r6 hns hnt szV hB
  go_enter Tryz.func27, Tryz.ntmps27
  go_upto_region 3 with fail
  rw [← (show V = _ from hVH)]
  clear hVH
  have hns : s.st.length = ns := hnsH
  clear kp
  rcases List.eq_nil_or_concat s.st with hst | ⟨r, y, hst⟩
  · have hn0 : ns = 0 := by rw [← hns, hst]; rfl
    subst hn0
    have kt := rtop_empty so sc V (by have := InL.keep (show InB w B so sc s.st from hsH).1 fVH; rw [hst] at this; exact this)
    have hstH : Hidden (s.st = []) := hst
    clear hst hns
    go_wp2_with fail
    go_at_call 45; refine (kt).mono ?_; rintro e w1 ⟨rfl, f1⟩
    have j1 := f1.cellN i1
    have g1 : Fr (fun _ => False) V w1 :=  f1
    clear f1 i1
    clear s0 kt i0 i2 i3 s1
    go_wp2_with fail
    go_at_call 46; refine (runary_any n 0 _).mono ?_; rintro e w2 ⟨rfl, hw⟩
    have hw := hw.symm
    subst hw
    generalize unS n 0 = UU
    obtain ⟨U1, U2⟩ := UU
    obtain ⟨⟨t0, t1, t2, t3, t4, t5, t6⟩, u0, u1, u2, u3, u4, u5, u6⟩ := box7 (g1.heap r4H (fun f => f))
    obtain ⟨⟨p0, p1, p2, p3, p4, p5, p6⟩, q0, q1, q2, q3, q4, q5, q6⟩ := box7 (g1.heap r5H (fun f => f))
    have gH : Hidden (Fr (fun _ => False) V w1) := g1
    clear g1
    go_wp2_with fail
    have sz := (show V.heap.size = w.heap.size + 7 from szH)
    refine fl_post (u := 8) (W := w1) rfl rfl rfl ((show Fr (fun _ => False) V w1 from gH).heap r4H (fun f => f)) (by omega) ((show Fr (fun _ => False) w V from fVH).same gH) ?_
    intro W' fW'
    rw [show stepS f p ⟨6, n, t, bb⟩ s = none by simp [stepS, show s.st = [] from hstH, tp]]
    exact ⟨_, _, _, _, _, _, _, _, _, _, _, _, _, _, rfl⟩
  · rw [List.concat_eq_append] at hst
    have kt := fun X hX => rtop_app so ns X sc s.st r y hst hns hX V (InL.keep (show InB w B so sc s.st from hsH).1 fVH)
    have etpH : Hidden (tp s.st = some (r, y)) := by show _ = _; rw [hst]; exact tp_app r y
    obtain ⟨X, hX⟩ : ∃ X, X = r.length := ⟨_, rfl⟩
    have kt := kt X hX.symm
    have hX6 : Hidden (X ≤ 600) := by show _ ≤ _; have : X + 1 = ns := by rw [hX, ← hns, hst]; simp
                                      omega
    have hIrH : Hidden (InB w B so sc r) := by
      show InB w B so sc r
      have := (show InB w B so sc s.st from hsH).take r.length
      rw [hst] at this
      simpa using this
    have hXH : Hidden (r.length = X) := hX.symm
    clear hst hns hX
    go_wp2_with fail
    go_at_call 45; refine (kt).mono ?_; rintro e w1 ⟨rfl, f1⟩
    have j1 := f1.cellN i1
    have g1 : Fr (fun _ => False) V w1 :=  f1
    clear f1 i1
    clear s0 kt i0 i2 i3 s1
    go_wp2_with fail
    go_at_call 46; refine (runary_any n y _).mono ?_; rintro e w2 ⟨rfl, hw⟩
    have hw := hw.symm
    subst hw
    obtain ⟨UU, hUU⟩ : ∃ U, U = unS n y := ⟨_, rfl⟩
    rw [← hUU]
    have hUH : Hidden (UU = unS n y) := hUU
    clear hUU
    obtain ⟨ua, ub⟩ := UU
    simp only []
    by_cases hz : ub = 0
    case neg =>
      have hb1 : (ub == 0) = false := by simpa using hz
      have hb2 : (ub != 0) = true := by simpa using hz
      have hzH : Hidden (¬ ub = 0) := hz
      clear hz
      obtain ⟨⟨t0, t1, t2, t3, t4, t5, t6⟩, u0, u1, u2, u3, u4, u5, u6⟩ := box7 (g1.heap r4H (fun f => f))
      obtain ⟨⟨p0, p1, p2, p3, p4, p5, p6⟩, q0, q1, q2, q3, q4, q5, q6⟩ := box7 (g1.heap r5H (fun f => f))
      have gH : Hidden (Fr (fun _ => False) V w1) := g1
      clear g1
      go_wp2_with fail
      have sz := (show V.heap.size = w.heap.size + 7 from szH)
      refine fl_post (u := 8) (W := w1) rfl rfl rfl ((show Fr (fun _ => False) V w1 from gH).heap r4H (fun f => f)) (by omega) ((show Fr (fun _ => False) w V from fVH).same gH) ?_
      intro W' fW'
      rw [show stepS f p ⟨6, n, t, bb⟩ s = none by simp [stepS, show tp s.st = _ from etpH, ← (show (ua, ub) = unS n y from hUH), show ¬ ub = 0 from hzH]]
      exact ⟨_, _, _, _, _, _, _, _, _, _, _, _, _, _, rfl⟩
    subst hz
    go_wp2_with fail
    go_at_call 43; refine (put_any so X sc r ua _ hXH (InL.keep (show InB w B so sc r from hIrH).1 (Fr.same fVH g1)) (by have : X ≤ 600 := hX6; omega)).mono ?_; rintro e w3 ⟨v, rfl, hv, f3⟩
    have f13 : Fr (fun _ => False) V w3 := g1.same f3
    obtain ⟨⟨t0, t1, t2, t3, t4, t5, t6⟩, u0, u1, u2, u3, u4, u5, u6⟩ := box7 (f13.heap r4H (fun f => f))
    obtain ⟨⟨p0, p1, p2, p3, p4, p5, p6⟩, q0, q1, q2, q3, q4, q5, q6⟩ := box7 (f13.heap r6H (fun f => f))
    obtain ⟨vo, vc, rfl, hvB⟩ := OwI.inB hv
    have hvH : Hidden (InB w3 V.heap.size vo vc (r ++ [ua])) := hvB.low g1.size
    have f3H : Hidden (Fr (fun _ => False) V w3) := f13
    obtain ⟨Y, hY⟩ : ∃ Y, Y = (r ++ [ua]).length := ⟨_, rfl⟩
    rw [← hY]
    have hYH : Hidden (Y = (r ++ [ua]).length) := hY
    clear hv f3 f13 hvB hY j1 g1
    go_wp2_with fail
    have sz := (show V.heap.size = w.heap.size + 7 from szH)
    exact next_post (V := V) (u := 8) (B := B) (st := r ++ [ua]) (s := s) rfl rfl rfl ((show Fr (fun _ => False) V w3 from f3H).heap r4H (fun f => f)) (by omega) (by omega) (by omega) (by omega) (by omega) hBH fVH f3H hYH hntH hvH htH (by simp [stepS, on, show tp s.st = _ from etpH, ← (show (ua, (0 : Int)) = unS n y from hUH)])
set_option maxRecDepth 20000 in
set_option maxHeartbeats 4000000 in
theorem dstep_7 (f : Fu) (p : Fm) (a0 a2 a3 a4 a5 : Option Addr) (c0 c2 c3 c4 c5 : Nat) (n t bb : Int) (s : Sp) (so to' : Option Addr) (sc tc ns nt B : Nat) (w : World) (hns : s.st.length = ns) (hnt : s.tr.length = nt) (hF : Fi w f p a0 a2 a3 a4 a5 c0 c2 c3 c4 c5) (hs : InB w B so sc s.st) (ht : TrB w B to' tc s.tr) (hl : ns ≤ 600) (hB : B ≤ w.heap.size) :
    Calls Tryz.prog 27 #[.agg #[.slice a0 f.sg.ps.length c0, ci f.sg.res, .slice a2 f.loc.length c2, .slice a3 f.cd.length c3], .agg #[.slice a4 p.fns.length c4, .slice a5 p.vars.length c5], inV ⟨7, n, t, bb⟩, .agg #[.slice so ns sc, .slice to' nt tc]] w fun e w' => ∃ v, e = .returned v ∧ FlR w' B v (stepS f p ⟨7, n, t, bb⟩ s) ∧ Fr (fun _ => False) w w' := by
  obtain ⟨V, hV⟩ : ∃ V, V = (((((((w.alloc (.cells #[.slice a0 f.sg.ps.length c0, ci f.sg.res, .slice a2 f.loc.length c2, .slice a3 f.cd.length c3] 27 (0, 0))).alloc (.cells #[.slice a4 p.fns.length c4, .slice a5 p.vars.length c5] 30 (0, 0))).alloc (.cells #[ci 7, ci n, ci t, .int .u64 bb] 84 (0, 0))).alloc (.cells #[.slice so ns sc, .slice to' nt tc] 80 (0, 0))).alloc (.cells z7 86 (0, 0))).alloc (.cells z7 86 (0, 0))).alloc (.cells #[.bool true, .bool true, .bool false, .slice so ns sc, .slice to' nt tc, .slice none 0 0, .slice none 0 0] 86 (0, 0))) := ⟨_, rfl⟩
  have fV : Fr (fun _ => False) w V := by rw [hV]; exact ((((((Fr.alloc _ _ _).same (Fr.alloc _ _ _)).same (Fr.alloc _ _ _)).same (Fr.alloc _ _ _)).same (Fr.alloc _ _ _)).same (Fr.alloc _ _ _)).same (Fr.alloc _ _ _)
  have szV : V.heap.size = w.heap.size + 7 := by rw [hV]; simp
  have r0 : V.heap[w.heap.size]? = some (.cells #[.slice a0 f.sg.ps.length c0, ci f.sg.res, .slice a2 f.loc.length c2, .slice a3 f.cd.length c3] 27 (0, 0)) := by
    rw [hV]
    refine (Fr.alloc (fun _ => False) _ _).heap ?_ (fun f => f)
    refine (Fr.alloc (fun _ => False) _ _).heap ?_ (fun f => f)
    refine (Fr.alloc (fun _ => False) _ _).heap ?_ (fun f => f)
    refine (Fr.alloc (fun _ => False) _ _).heap ?_ (fun f => f)
    refine (Fr.alloc (fun _ => False) _ _).heap ?_ (fun f => f)
    refine (Fr.alloc (fun _ => False) _ _).heap ?_ (fun f => f)
    exact alloc_new _ _
  have r1 : V.heap[w.heap.size + 1]? = some (.cells #[.slice a4 p.fns.length c4, .slice a5 p.vars.length c5] 30 (0, 0)) := by
    rw [hV]
    refine (Fr.alloc (fun _ => False) _ _).heap ?_ (fun f => f)
    refine (Fr.alloc (fun _ => False) _ _).heap ?_ (fun f => f)
    refine (Fr.alloc (fun _ => False) _ _).heap ?_ (fun f => f)
    refine (Fr.alloc (fun _ => False) _ _).heap ?_ (fun f => f)
    refine (Fr.alloc (fun _ => False) _ _).heap ?_ (fun f => f)
    exact alloc_at _ _ _ (by simp)
  have r2 : V.heap[w.heap.size + 1 + 1]? = some (.cells #[ci 7, ci n, ci t, .int .u64 bb] 84 (0, 0)) := by
    rw [hV]
    refine (Fr.alloc (fun _ => False) _ _).heap ?_ (fun f => f)
    refine (Fr.alloc (fun _ => False) _ _).heap ?_ (fun f => f)
    refine (Fr.alloc (fun _ => False) _ _).heap ?_ (fun f => f)
    refine (Fr.alloc (fun _ => False) _ _).heap ?_ (fun f => f)
    exact alloc_at _ _ _ (by simp)
  have r3 : V.heap[w.heap.size + 1 + 1 + 1]? = some (.cells #[.slice so ns sc, .slice to' nt tc] 80 (0, 0)) := by
    rw [hV]
    refine (Fr.alloc (fun _ => False) _ _).heap ?_ (fun f => f)
    refine (Fr.alloc (fun _ => False) _ _).heap ?_ (fun f => f)
    refine (Fr.alloc (fun _ => False) _ _).heap ?_ (fun f => f)
    exact alloc_at _ _ _ (by simp)
  have r4 : V.heap[w.heap.size + 1 + 1 + 1 + 1]? = some (.cells z7 86 (0, 0)) := by
    rw [hV]
    refine (Fr.alloc (fun _ => False) _ _).heap ?_ (fun f => f)
    refine (Fr.alloc (fun _ => False) _ _).heap ?_ (fun f => f)
    exact alloc_at _ _ _ (by simp)
  have r5 : V.heap[w.heap.size + 1 + 1 + 1 + 1 + 1]? = some (.cells z7 86 (0, 0)) := by
    rw [hV]
    refine (Fr.alloc (fun _ => False) _ _).heap ?_ (fun f => f)
    exact alloc_at _ _ _ (by simp)
  have r6 : V.heap[w.heap.size + 1 + 1 + 1 + 1 + 1 + 1]? = some (.cells #[.bool true, .bool true, .bool false, .slice so ns sc, .slice to' nt tc, .slice none 0 0, .slice none 0 0] 86 (0, 0)) := by
    rw [hV]
    exact alloc_at _ _ _ (by simp)
  have kp := fun (x : Int) => put_any so ns sc s.st x V hns (InL.keep hs.1 fV) (by omega)
  obtain ⟨i0, i1, i2, i3⟩ := box4 r2
  have s0 : V.cell? ⟨w.heap.size + 1 + 1 + 1, 0, none⟩ = some (.slice so ns sc) := cell_of_row _ _ 0 _ _ _ r3
  have s1 : V.cell? ⟨w.heap.size + 1 + 1 + 1, 1, none⟩ = some (.slice to' nt tc) := cell_of_row _ _ 1 _ _ _ r3
  have r4H : Hidden (V.heap[w.heap.size + 1 + 1 + 1 + 1]? = some (.cells z7 86 (0, 0))) := r4
  have r6H : Hidden (V.heap[w.heap.size + 1 + 1 + 1 + 1 + 1 + 1]? = some (.cells #[.bool true, .bool true, .bool false, .slice so ns sc, .slice to' nt tc, .slice none 0 0, .slice none 0 0] 86 (0, 0))) := r6
  have fVH : Hidden (Fr (fun _ => False) w V) := fV
  have hVH : Hidden (V = _) := hV
  have hsH : Hidden (InB w B so sc s.st) := hs
  have htH : Hidden (TrB w B to' tc s.tr) := ht
  have hntH : Hidden (s.tr.length = nt) := hnt
  have hnsH : Hidden (s.st.length = ns) := hns
  have hFH : Hidden (Fi w f p a0 a2 a3 a4 a5 c0 c2 c3 c4 c5) := hF
  have r0H : Hidden (V.heap[w.heap.size]? = some (.cells #[.slice a0 f.sg.ps.length c0, ci f.sg.res, .slice a2 f.loc.length c2, .slice a3 f.cd.length c3] 27 (0, 0))) := r0
  have r1H : Hidden (V.heap[w.heap.size + 1]? = some (.cells #[.slice a4 p.fns.length c4, .slice a5 p.vars.length c5] 30 (0, 0))) := r1
  have r3H : Hidden (V.heap[w.heap.size + 1 + 1 + 1]? = some (.cells #[.slice so ns sc, .slice to' nt tc] 80 (0, 0))) := r3
  have r5H : Hidden (V.heap[w.heap.size + 1 + 1 + 1 + 1 + 1]? = some (.cells z7 86 (0, 0))) := r5
  have kpH : Hidden (∀ W, Fr (fun _ => False) V W → ∀ x : Int, Calls Tryz.prog 43 #[.slice so ns sc, ci x] W fun e w' => ∃ v, e = .returned v ∧ OwI w' W.heap.size v (s.st ++ [x]) ∧ Fr (fun _ => False) W w') := fun W hW x => put_any so ns sc s.st x W hns (InL.keep (InL.keep hs.1 fV) hW) (by omega)
  have szH : Hidden (V.heap.size = w.heap.size + 7) := szV
  have hBH : Hidden (B ≤ w.heap.size) := hB
  clear hF hs ht hV fV r0 r1 r2 r3 r4 r5 r6 hns hnt szV hB
  go_enter Tryz.func27, Tryz.ntmps27
  go_upto_region 3 with fail
  rw [← (show V = _ from hVH)]
  clear hVH
  have hns : s.st.length = ns := hnsH
  clear kp
  rcases List.eq_nil_or_concat s.st with hst | ⟨r, y, hst⟩
  · have hn0 : ns = 0 := by rw [← hns, hst]; rfl
    subst hn0
    have kt := rtop_empty so sc V (by have := InL.keep (show InB w B so sc s.st from hsH).1 fVH; rw [hst] at this; exact this)
    have hstH : Hidden (s.st = []) := hst
    clear hst hns
    go_wp2_with fail
    go_at_call 45; refine (kt).mono ?_; rintro e w1 ⟨rfl, f1⟩
    have j1 := f1.cellN i1
    have g1 : Fr (fun _ => False) V w1 :=  f1
    clear f1 i1
    clear s0 kt i0 i2 i3 s1
    go_wp2_with fail
    go_at_call 45; refine (rtop_none w1).mono ?_; rintro e w2 ⟨rfl, f2⟩
    have j2 := f2.cellN j1
    have g2 : Fr (fun _ => False) V w2 := g1.same  f2
    clear f2 j1
    clear g1
    go_wp2_with fail
    go_at_call 47; refine (rbinary_any n 0 0 _).mono ?_; rintro e w3 ⟨rfl, hw⟩
    have hw := hw.symm
    subst hw
    generalize binS n 0 0 = UU
    obtain ⟨U1, U2⟩ := UU
    obtain ⟨⟨t0, t1, t2, t3, t4, t5, t6⟩, u0, u1, u2, u3, u4, u5, u6⟩ := box7 (g2.heap r4H (fun f => f))
    obtain ⟨⟨p0, p1, p2, p3, p4, p5, p6⟩, q0, q1, q2, q3, q4, q5, q6⟩ := box7 (g2.heap r5H (fun f => f))
    have gH : Hidden (Fr (fun _ => False) V w2) := g2
    clear g2
    go_wp2_with fail
    have sz := (show V.heap.size = w.heap.size + 7 from szH)
    refine fl_post (u := 8) (W := w2) rfl rfl rfl ((show Fr (fun _ => False) V w2 from gH).heap r4H (fun f => f)) (by omega) ((show Fr (fun _ => False) w V from fVH).same gH) ?_
    intro W' fW'
    rw [show stepS f p ⟨7, n, t, bb⟩ s = none by simp [stepS, show s.st = [] from hstH, tp]]
    exact ⟨_, _, _, _, _, _, _, _, _, _, _, _, _, _, rfl⟩
  · rw [List.concat_eq_append] at hst
    have kt := fun X hX => rtop_app so ns X sc s.st r y hst hns hX V (InL.keep (show InB w B so sc s.st from hsH).1 fVH)
    have etpH : Hidden (tp s.st = some (r, y)) := by show _ = _; rw [hst]; exact tp_app r y
    obtain ⟨X, hX⟩ : ∃ X, X = r.length := ⟨_, rfl⟩
    have kt := kt X hX.symm
    have hX6 : Hidden (X ≤ 600) := by show _ ≤ _; have : X + 1 = ns := by rw [hX, ← hns, hst]; simp
                                      omega
    have hIrH : Hidden (InB w B so sc r) := by
      show InB w B so sc r
      have := (show InB w B so sc s.st from hsH).take r.length
      rw [hst] at this
      simpa using this
    have hXH : Hidden (r.length = X) := hX.symm
    clear hst hns hX
    rcases List.eq_nil_or_concat r with hr | ⟨q, z, hr⟩
    · have hn0 : X = 0 := by rw [← (show r.length = X from hXH), hr]; rfl
      subst hn0
      have hrH : Hidden (r = []) := hr
      have hIn : InL V so sc [] := by have := InL.keep (show InB w B so sc r from hIrH).1 fVH; rw [hr] at this; exact this
      clear hr
      go_wp2_with fail
      go_at_call 45; refine (kt).mono ?_; rintro e w1 ⟨rfl, f1⟩
      have j1 := f1.cellN i1
      have g1 : Fr (fun _ => False) V w1 :=  f1
      clear f1 i1
      clear s0 kt i0 i2 i3 s1
      go_wp2_with fail
      go_at_call 45; refine (rtop_empty so sc w1 (InL.keep hIn g1)).mono ?_; rintro e w2 ⟨rfl, f2⟩
      have j2 := f2.cellN j1
      have g2 : Fr (fun _ => False) V w2 := g1.same  f2
      clear f2 j1
      clear g1 hIn
      go_wp2_with fail
      go_at_call 47; refine (rbinary_any n 0 y _).mono ?_; rintro e w3 ⟨rfl, hw⟩
      have hw := hw.symm
      subst hw
      generalize binS n 0 y = UU
      obtain ⟨U1, U2⟩ := UU
      obtain ⟨⟨t0, t1, t2, t3, t4, t5, t6⟩, u0, u1, u2, u3, u4, u5, u6⟩ := box7 (g2.heap r4H (fun f => f))
      obtain ⟨⟨p0, p1, p2, p3, p4, p5, p6⟩, q0, q1, q2, q3, q4, q5, q6⟩ := box7 (g2.heap r5H (fun f => f))
      have gH : Hidden (Fr (fun _ => False) V w2) := g2
      clear g2
      go_wp2_with fail
      have sz := (show V.heap.size = w.heap.size + 7 from szH)
      refine fl_post (u := 8) (W := w2) rfl rfl rfl ((show Fr (fun _ => False) V w2 from gH).heap r4H (fun f => f)) (by omega) ((show Fr (fun _ => False) w V from fVH).same gH) ?_
      intro W' fW'
      rw [show stepS f p ⟨7, n, t, bb⟩ s = none by simp [stepS, show tp s.st = _ from etpH, show r = [] from hrH, show tp [] = none from rfl]]
      exact ⟨_, _, _, _, _, _, _, _, _, _, _, _, _, _, rfl⟩
    rw [List.concat_eq_append] at hr
    have etqH : Hidden (tp r = some (q, z)) := by show _ = _; rw [hr]; exact tp_app q z
    obtain ⟨Z, hZ⟩ : ∃ Z, Z = q.length := ⟨_, rfl⟩
    have kt2 := fun W (hW : Fr (fun _ => False) V W) => rtop_app so X Z sc r q z hr hXH hZ.symm W (InL.keep (InL.keep (show InB w B so sc r from hIrH).1 fVH) hW)
    have hZ6 : Hidden (Z ≤ 600) := by show _ ≤ _; have : Z + 1 = X := by rw [hZ, ← (show r.length = X from hXH), hr]; simp
                                      have : X ≤ 600 := hX6
                                      omega
    have hIqH : Hidden (InB w B so sc q) := by
      show InB w B so sc q
      have := (show InB w B so sc r from hIrH).take q.length
      rw [hr] at this
      simpa using this
    have hZH : Hidden (q.length = Z) := hZ.symm
    clear hr hZ
    go_wp2_with fail
    go_at_call 45; refine (kt).mono ?_; rintro e w1 ⟨rfl, f1⟩
    have j1 := f1.cellN i1
    have g1 : Fr (fun _ => False) V w1 :=  f1
    clear f1 i1
    clear s0 kt i0 i2 i3 s1
    go_wp2_with fail
    go_at_call 45; refine (kt2 w1 g1).mono ?_; rintro e w2 ⟨rfl, f2⟩
    have j2 := f2.cellN j1
    have g2 : Fr (fun _ => False) V w2 := g1.same  f2
    clear f2 j1
    clear g1 kt2
    go_wp2_with fail
    go_at_call 47; refine (rbinary_any n z y _).mono ?_; rintro e w3 ⟨rfl, hw⟩
    have hw := hw.symm
    subst hw
    obtain ⟨UU, hUU⟩ : ∃ U, U = binS n z y := ⟨_, rfl⟩
    rw [← hUU]
    have hUH : Hidden (UU = binS n z y) := hUU
    clear hUU
    obtain ⟨ua, ub⟩ := UU
    simp only []
    by_cases hz : ub = 0
    case neg =>
      have hb1 : (ub == 0) = false := by simpa using hz
      have hb2 : (ub != 0) = true := by simpa using hz
      have hzH : Hidden (¬ ub = 0) := hz
      clear hz
      obtain ⟨⟨t0, t1, t2, t3, t4, t5, t6⟩, u0, u1, u2, u3, u4, u5, u6⟩ := box7 (g2.heap r4H (fun f => f))
      obtain ⟨⟨p0, p1, p2, p3, p4, p5, p6⟩, q0, q1, q2, q3, q4, q5, q6⟩ := box7 (g2.heap r5H (fun f => f))
      have gH : Hidden (Fr (fun _ => False) V w2) := g2
      clear g2
      go_wp2_with fail
      have sz := (show V.heap.size = w.heap.size + 7 from szH)
      refine fl_post (u := 8) (W := w2) rfl rfl rfl ((show Fr (fun _ => False) V w2 from gH).heap r4H (fun f => f)) (by omega) ((show Fr (fun _ => False) w V from fVH).same gH) ?_
      intro W' fW'
      rw [show stepS f p ⟨7, n, t, bb⟩ s = none by simp [stepS, show tp s.st = _ from etpH, show tp r = _ from etqH, ← (show (ua, ub) = binS n z y from hUH), show ¬ ub = 0 from hzH]]
      exact ⟨_, _, _, _, _, _, _, _, _, _, _, _, _, _, rfl⟩
    subst hz
    go_wp2_with fail
    go_at_call 43; refine (put_any so Z sc q ua _ hZH (InL.keep (show InB w B so sc q from hIqH).1 (Fr.same fVH g2)) (by have : Z ≤ 600 := hZ6; omega)).mono ?_; rintro e w3 ⟨v, rfl, hv, f3⟩
    have f13 : Fr (fun _ => False) V w3 := g2.same f3
    obtain ⟨⟨t0, t1, t2, t3, t4, t5, t6⟩, u0, u1, u2, u3, u4, u5, u6⟩ := box7 (f13.heap r4H (fun f => f))
    obtain ⟨⟨p0, p1, p2, p3, p4, p5, p6⟩, q0, q1, q2, q3, q4, q5, q6⟩ := box7 (f13.heap r6H (fun f => f))
    obtain ⟨vo, vc, rfl, hvB⟩ := OwI.inB hv
    have hvH : Hidden (InB w3 V.heap.size vo vc (q ++ [ua])) := hvB.low g2.size
    have f3H : Hidden (Fr (fun _ => False) V w3) := f13
    obtain ⟨Y, hY⟩ : ∃ Y, Y = (q ++ [ua]).length := ⟨_, rfl⟩
    rw [← hY]
    have hYH : Hidden (Y = (q ++ [ua]).length) := hY
    clear hv f3 f13 hvB hY j2 g2
    go_wp2_with fail
    have sz := (show V.heap.size = w.heap.size + 7 from szH)
    exact next_post (V := V) (u := 8) (B := B) (st := q ++ [ua]) (s := s) rfl rfl rfl ((show Fr (fun _ => False) V w3 from f3H).heap r4H (fun f => f)) (by omega) (by omega) (by omega) (by omega) (by omega) hBH fVH f3H hYH hntH hvH htH (by simp [stepS, on, show tp s.st = _ from etpH, show tp r = _ from etqH, ← (show (ua, (0 : Int)) = binS n z y from hUH)])
end Go.Proofs.YtnmcehpdiopaiaaGreatDoor.Cd

namespace Go.Proofs.YtnmcehpdiopaiaaGreatDoor.Cd
open Go.RowKit Ty
set_option linter.unusedSimpArgs false
set_option linter.unusedVariables false

theorem inl_lit (W : World) (x : Int) : InL (W.alloc (.cells #[ci x] 3 (0, 0))) (some ⟨W.heap.size, 0, none⟩) 1 [x] := by
  refine ⟨Nat.le_refl _, by simp [maxLen], fun e => (by cases e), Or.inr ⟨_, 0, rfl, fun i y hy => ?_⟩⟩
  cases i with
  | zero =>
    simp only [List.getElem?_cons_zero, Option.some.injEq] at hy
    subst hy
    exact cell_of_row _ _ 0 _ _ _ (alloc_new _ _)
  | succ i => simp at hy
/-- The stack without one value on top, which stands in a row of its own. -/
theorem taken_lit (so : Option Addr) (ns sc : Nat) (st : List Int) (x : Int) (V : World) (hn : st.length = ns) (h : InL V so sc st) (T : Option (List Int)) (hT : tk st [x] = T) : ∀ W, Fr (fun _ => False) V W →
    Calls Tryz.prog 44 #[.slice so ns sc, .slice (some ⟨W.heap.size, 0, none⟩) 1 1] (W.alloc (.cells #[ci x] 3 (0, 0))) fun e w' => e = .returned (.tuple #[tkV so sc T, .bool T.isSome]) ∧ Fr (fun _ => False) V w' := fun W hW => by
  subst hT
  refine (rtaken_any so (some ⟨W.heap.size, 0, none⟩) ns 1 sc 1 st [x] _ hn rfl (InL.keep h (hW.same (Fr.alloc _ _ _))) (inl_lit W x)).mono ?_
  rintro e w' ⟨he, hf⟩
  exact ⟨he, (hW.same (Fr.alloc _ _ _)).same hf⟩
theorem tk_some {st l r : List Int} (h : tk st l = some r) : r = st.take r.length ∧ r.length ≤ st.length := by
  unfold tk at h
  split at h
  · obtain rfl := Option.some.inj h
    have : (st.take (st.length - l.length)).length = st.length - l.length := by rw [List.length_take]; omega
    exact ⟨by rw [this], by omega⟩
  · cases h
theorem InB.tk {w : World} {B : Nat} {so : Option Addr} {sc : Nat} {st l r : List Int} (h : InB w B so sc st) (e : tk st l = some r) : InB w B so sc r := by
  have := h.take r.length
  rw [← (tk_some e).1] at this
  exact this
set_option maxRecDepth 20000 in
set_option maxHeartbeats 4000000 in
theorem lstep_8 (f : Fu) (p : Fm) (a0 a2 a3 a4 a5 : Option Addr) (c0 c2 c3 c4 c5 : Nat) (n t bb : Int) (s : Sp) (so to' : Option Addr) (sc tc ns nt B : Nat) (w : World) (hns : s.st.length = ns) (hnt : s.tr.length = nt) (hF : Fi w f p a0 a2 a3 a4 a5 c0 c2 c3 c4 c5) (hs : InB w B so sc s.st) (ht : TrB w B to' tc s.tr) (hl : ns ≤ 600) (hl2 : nt ≤ 600) (hB : B ≤ w.heap.size) :
    Calls Tryz.prog 48 #[.agg #[.slice a0 f.sg.ps.length c0, ci f.sg.res, .slice a2 f.loc.length c2, .slice a3 f.cd.length c3], .agg #[.slice a4 p.fns.length c4, .slice a5 p.vars.length c5], inV ⟨8, n, t, bb⟩, .agg #[.slice so ns sc, .slice to' nt tc]] w fun e w' => ∃ v, e = .returned v ∧ FlR w' B v (stepS f p ⟨8, n, t, bb⟩ s) ∧ Fr (fun _ => False) w w' := by
  obtain ⟨V, hV⟩ : ∃ V, V = (((((w.alloc (.cells #[.slice a0 f.sg.ps.length c0, ci f.sg.res, .slice a2 f.loc.length c2, .slice a3 f.cd.length c3] 27 (0, 0))).alloc (.cells #[.slice a4 p.fns.length c4, .slice a5 p.vars.length c5] 30 (0, 0))).alloc (.cells #[ci 8, ci n, ci t, .int .u64 bb] 84 (0, 0))).alloc (.cells #[.slice so ns sc, .slice to' nt tc] 80 (0, 0))).alloc (.cells z7 86 (0, 0))) := ⟨_, rfl⟩
  have fV : Fr (fun _ => False) w V := by rw [hV]; exact ((((Fr.alloc _ _ _).same (Fr.alloc _ _ _)).same (Fr.alloc _ _ _)).same (Fr.alloc _ _ _)).same (Fr.alloc _ _ _)
  have szV : V.heap.size = w.heap.size + 5 := by rw [hV]; simp
  have r0 : V.heap[w.heap.size]? = some (.cells #[.slice a0 f.sg.ps.length c0, ci f.sg.res, .slice a2 f.loc.length c2, .slice a3 f.cd.length c3] 27 (0, 0)) := by
    rw [hV]
    refine (Fr.alloc (fun _ => False) _ _).heap ?_ (fun f => f)
    refine (Fr.alloc (fun _ => False) _ _).heap ?_ (fun f => f)
    refine (Fr.alloc (fun _ => False) _ _).heap ?_ (fun f => f)
    refine (Fr.alloc (fun _ => False) _ _).heap ?_ (fun f => f)
    exact alloc_new _ _
  have r1 : V.heap[w.heap.size + 1]? = some (.cells #[.slice a4 p.fns.length c4, .slice a5 p.vars.length c5] 30 (0, 0)) := by
    rw [hV]
    refine (Fr.alloc (fun _ => False) _ _).heap ?_ (fun f => f)
    refine (Fr.alloc (fun _ => False) _ _).heap ?_ (fun f => f)
    refine (Fr.alloc (fun _ => False) _ _).heap ?_ (fun f => f)
    exact alloc_at _ _ _ (by simp)
  have r2 : V.heap[w.heap.size + 1 + 1]? = some (.cells #[ci 8, ci n, ci t, .int .u64 bb] 84 (0, 0)) := by
    rw [hV]
    refine (Fr.alloc (fun _ => False) _ _).heap ?_ (fun f => f)
    refine (Fr.alloc (fun _ => False) _ _).heap ?_ (fun f => f)
    exact alloc_at _ _ _ (by simp)
  have r3 : V.heap[w.heap.size + 1 + 1 + 1]? = some (.cells #[.slice so ns sc, .slice to' nt tc] 80 (0, 0)) := by
    rw [hV]
    refine (Fr.alloc (fun _ => False) _ _).heap ?_ (fun f => f)
    exact alloc_at _ _ _ (by simp)
  have r4 : V.heap[w.heap.size + 1 + 1 + 1 + 1]? = some (.cells z7 86 (0, 0)) := by
    rw [hV]
    exact alloc_at _ _ _ (by simp)
  obtain ⟨i0, i1, i2, i3⟩ := box4 r2
  have s0 : V.cell? ⟨w.heap.size + 1 + 1 + 1, 0, none⟩ = some (.slice so ns sc) := cell_of_row _ _ 0 _ _ _ r3
  have s1 : V.cell? ⟨w.heap.size + 1 + 1 + 1, 1, none⟩ = some (.slice to' nt tc) := cell_of_row _ _ 1 _ _ _ r3
  have r4H : Hidden (V.heap[w.heap.size + 1 + 1 + 1 + 1]? = some (.cells z7 86 (0, 0))) := r4
  have fVH : Hidden (Fr (fun _ => False) w V) := fV
  have hVH : Hidden (V = _) := hV
  have hsH : Hidden (InB w B so sc s.st) := hs
  have htH : Hidden (TrB w B to' tc s.tr) := ht
  have hntH : Hidden (s.tr.length = nt) := hnt
  have hnsH : Hidden (s.st.length = ns) := hns
  have hFH : Hidden (Fi w f p a0 a2 a3 a4 a5 c0 c2 c3 c4 c5) := hF
  have r0H : Hidden (V.heap[w.heap.size]? = some (.cells #[.slice a0 f.sg.ps.length c0, ci f.sg.res, .slice a2 f.loc.length c2, .slice a3 f.cd.length c3] 27 (0, 0))) := r0
  have r1H : Hidden (V.heap[w.heap.size + 1]? = some (.cells #[.slice a4 p.fns.length c4, .slice a5 p.vars.length c5] 30 (0, 0))) := r1
  have r2H : Hidden (V.heap[w.heap.size + 1 + 1]? = some (.cells #[ci 8, ci n, ci t, .int .u64 bb] 84 (0, 0))) := r2
  have r3H : Hidden (V.heap[w.heap.size + 1 + 1 + 1]? = some (.cells #[.slice so ns sc, .slice to' nt tc] 80 (0, 0))) := r3
  have szH : Hidden (V.heap.size = w.heap.size + 5) := szV
  have hBH : Hidden (B ≤ w.heap.size) := hB
  have hlH : Hidden (ns ≤ 600 ∧ nt ≤ 600) := ⟨hl, hl2⟩
  clear hF hs ht hV fV r0 r1 r2 r3 r4 hns hnt szV hB hl hl2
  go_enter Tryz.func48, Tryz.ntmps48
  go_upto_region 1 with fail
  rw [← (show V = _ from hVH)]
  clear hVH
  obtain ⟨⟨t0, t1, t2, t3, t4, t5, t6⟩, u0, u1, u2, u3, u4, u5, u6⟩ := box7 r4H
  go_wp2_with fail
  have sz := (show V.heap.size = w.heap.size + 5 from szH)
  refine fl_post (u := 8) (W := V) rfl rfl rfl r4H (by omega) fVH ?_
  intro W' fW'
  rw [show stepS f p ⟨8, n, t, bb⟩ s = some (none, some s) by simp [stepS]]
  refine ⟨_, _, _, _, _, _, _, _, _, _, _, _, rfl, fun y hy => (by cases hy), fun y hy => ?_⟩
  cases hy
  exact ⟨so, sc, to', tc, by rw [show s.st.length = ns from hnsH, show s.tr.length = nt from hntH], (show InB w B so sc s.st from hsH).keep fW' (fun _ _ f => f), (show TrB w B to' tc s.tr from htH).keep fW' (fun _ _ f => f)⟩
set_option maxRecDepth 20000 in
set_option maxHeartbeats 4000000 in
theorem lstep_9 (f : Fu) (p : Fm) (a0 a2 a3 a4 a5 : Option Addr) (c0 c2 c3 c4 c5 : Nat) (n t bb : Int) (s : Sp) (so to' : Option Addr) (sc tc ns nt B : Nat) (w : World) (hns : s.st.length = ns) (hnt : s.tr.length = nt) (hF : Fi w f p a0 a2 a3 a4 a5 c0 c2 c3 c4 c5) (hs : InB w B so sc s.st) (ht : TrB w B to' tc s.tr) (hl : ns ≤ 600) (hl2 : nt ≤ 600) (hB : B ≤ w.heap.size) :
    Calls Tryz.prog 48 #[.agg #[.slice a0 f.sg.ps.length c0, ci f.sg.res, .slice a2 f.loc.length c2, .slice a3 f.cd.length c3], .agg #[.slice a4 p.fns.length c4, .slice a5 p.vars.length c5], inV ⟨9, n, t, bb⟩, .agg #[.slice so ns sc, .slice to' nt tc]] w fun e w' => ∃ v, e = .returned v ∧ FlR w' B v (stepS f p ⟨9, n, t, bb⟩ s) ∧ Fr (fun _ => False) w w' := by
  obtain ⟨V, hV⟩ : ∃ V, V = (((((w.alloc (.cells #[.slice a0 f.sg.ps.length c0, ci f.sg.res, .slice a2 f.loc.length c2, .slice a3 f.cd.length c3] 27 (0, 0))).alloc (.cells #[.slice a4 p.fns.length c4, .slice a5 p.vars.length c5] 30 (0, 0))).alloc (.cells #[ci 9, ci n, ci t, .int .u64 bb] 84 (0, 0))).alloc (.cells #[.slice so ns sc, .slice to' nt tc] 80 (0, 0))).alloc (.cells z7 86 (0, 0))) := ⟨_, rfl⟩
  have fV : Fr (fun _ => False) w V := by rw [hV]; exact ((((Fr.alloc _ _ _).same (Fr.alloc _ _ _)).same (Fr.alloc _ _ _)).same (Fr.alloc _ _ _)).same (Fr.alloc _ _ _)
  have szV : V.heap.size = w.heap.size + 5 := by rw [hV]; simp
  have r0 : V.heap[w.heap.size]? = some (.cells #[.slice a0 f.sg.ps.length c0, ci f.sg.res, .slice a2 f.loc.length c2, .slice a3 f.cd.length c3] 27 (0, 0)) := by
    rw [hV]
    refine (Fr.alloc (fun _ => False) _ _).heap ?_ (fun f => f)
    refine (Fr.alloc (fun _ => False) _ _).heap ?_ (fun f => f)
    refine (Fr.alloc (fun _ => False) _ _).heap ?_ (fun f => f)
    refine (Fr.alloc (fun _ => False) _ _).heap ?_ (fun f => f)
    exact alloc_new _ _
  have r1 : V.heap[w.heap.size + 1]? = some (.cells #[.slice a4 p.fns.length c4, .slice a5 p.vars.length c5] 30 (0, 0)) := by
    rw [hV]
    refine (Fr.alloc (fun _ => False) _ _).heap ?_ (fun f => f)
    refine (Fr.alloc (fun _ => False) _ _).heap ?_ (fun f => f)
    refine (Fr.alloc (fun _ => False) _ _).heap ?_ (fun f => f)
    exact alloc_at _ _ _ (by simp)
  have r2 : V.heap[w.heap.size + 1 + 1]? = some (.cells #[ci 9, ci n, ci t, .int .u64 bb] 84 (0, 0)) := by
    rw [hV]
    refine (Fr.alloc (fun _ => False) _ _).heap ?_ (fun f => f)
    refine (Fr.alloc (fun _ => False) _ _).heap ?_ (fun f => f)
    exact alloc_at _ _ _ (by simp)
  have r3 : V.heap[w.heap.size + 1 + 1 + 1]? = some (.cells #[.slice so ns sc, .slice to' nt tc] 80 (0, 0)) := by
    rw [hV]
    refine (Fr.alloc (fun _ => False) _ _).heap ?_ (fun f => f)
    exact alloc_at _ _ _ (by simp)
  have r4 : V.heap[w.heap.size + 1 + 1 + 1 + 1]? = some (.cells z7 86 (0, 0)) := by
    rw [hV]
    exact alloc_at _ _ _ (by simp)
  obtain ⟨i0, i1, i2, i3⟩ := box4 r2
  have s0 : V.cell? ⟨w.heap.size + 1 + 1 + 1, 0, none⟩ = some (.slice so ns sc) := cell_of_row _ _ 0 _ _ _ r3
  have s1 : V.cell? ⟨w.heap.size + 1 + 1 + 1, 1, none⟩ = some (.slice to' nt tc) := cell_of_row _ _ 1 _ _ _ r3
  have r4H : Hidden (V.heap[w.heap.size + 1 + 1 + 1 + 1]? = some (.cells z7 86 (0, 0))) := r4
  have fVH : Hidden (Fr (fun _ => False) w V) := fV
  have hVH : Hidden (V = _) := hV
  have hsH : Hidden (InB w B so sc s.st) := hs
  have htH : Hidden (TrB w B to' tc s.tr) := ht
  have hntH : Hidden (s.tr.length = nt) := hnt
  have hnsH : Hidden (s.st.length = ns) := hns
  have hFH : Hidden (Fi w f p a0 a2 a3 a4 a5 c0 c2 c3 c4 c5) := hF
  have r0H : Hidden (V.heap[w.heap.size]? = some (.cells #[.slice a0 f.sg.ps.length c0, ci f.sg.res, .slice a2 f.loc.length c2, .slice a3 f.cd.length c3] 27 (0, 0))) := r0
  have r1H : Hidden (V.heap[w.heap.size + 1]? = some (.cells #[.slice a4 p.fns.length c4, .slice a5 p.vars.length c5] 30 (0, 0))) := r1
  have r2H : Hidden (V.heap[w.heap.size + 1 + 1]? = some (.cells #[ci 9, ci n, ci t, .int .u64 bb] 84 (0, 0))) := r2
  have r3H : Hidden (V.heap[w.heap.size + 1 + 1 + 1]? = some (.cells #[.slice so ns sc, .slice to' nt tc] 80 (0, 0))) := r3
  have szH : Hidden (V.heap.size = w.heap.size + 5) := szV
  have hBH : Hidden (B ≤ w.heap.size) := hB
  have hlH : Hidden (ns ≤ 600 ∧ nt ≤ 600) := ⟨hl, hl2⟩
  clear hF hs ht hV fV r0 r1 r2 r3 r4 hns hnt szV hB hl hl2
  go_enter Tryz.func48, Tryz.ntmps48
  go_upto_region 1 with fail
  rw [← (show V = _ from hVH)]
  clear hVH
  rcases hT : tk s.st [3] with _ | r
  · have kt := taken_lit so ns sc s.st 3 V hnsH (InL.keep (show InB w B so sc s.st from hsH).1 fVH) _ hT
    have hTH : Hidden (tk s.st [3] = none) := hT
    clear hT
    simp only [tkV, Option.isSome_none] at kt
    go_upto_region 7 with (first
      | (go_at_call 44; refine (kt _ (Fr.refl _ _)).mono ?_; rintro e w1 ⟨rfl, f1⟩
         have j1 := f1.cellN s1
         have f1H : Hidden (Fr (fun _ => False) V w1) := f1
         clear f1 kt i0 i1 i2 i3 s0 s1))
    have ga := Fr.alloc (fun _ => False) w1 (.cells #[(.slice none 0 0), .slice to' nt tc] 80 (0, 0))
    have hN : (w1.alloc (.cells #[(.slice none 0 0), .slice to' nt tc] 80 (0, 0))).heap[w1.heap.size]? = some (.cells #[(.slice none 0 0), .slice to' nt tc] 80 (0, 0)) := alloc_new _ _
    obtain ⟨W9, hW9⟩ : ∃ W, W = w1.alloc (.cells #[(.slice none 0 0), .slice to' nt tc] 80 (0, 0)) := ⟨_, rfl⟩
    rw [← hW9] at ga hN ⊢
    have f9 : Fr (fun _ => False) V W9 := (show Fr (fun _ => False) V w1 from f1H).same ga
    obtain ⟨⟨t0, t1, t2, t3, t4, t5, t6⟩, u0, u1, u2, u3, u4, u5, u6⟩ := box7 (f9.heap r4H (fun f => f))
    have x0 : W9.cell? ⟨w1.heap.size, 0, none⟩ = some (.slice none 0 0) := cell_of_row _ _ 0 _ _ _ hN
    have x1 : W9.cell? ⟨w1.heap.size, 1, none⟩ = some (.slice to' nt tc) := cell_of_row _ _ 1 _ _ _ hN
    have f9H : Hidden (Fr (fun _ => False) V W9) := f9
    clear hW9 ga hN f9 j1
    go_wp2_with fail
    have sz := (show V.heap.size = w.heap.size + 5 from szH)
    refine fl_post (u := 8) (W := W9) rfl rfl rfl ((show Fr (fun _ => False) V W9 from f9H).heap r4H (fun f => f)) (by omega) ((show Fr (fun _ => False) w V from fVH).same f9H) ?_
    intro W' fW'
    rw [show stepS f p ⟨9, n, t, bb⟩ s = none by simp [stepS, show tk s.st [3] = _ from hTH]]
    exact ⟨_, _, _, _, _, _, _, _, _, _, _, _, _, _, rfl⟩
  · have kt := taken_lit so ns sc s.st 3 V hnsH (InL.keep (show InB w B so sc s.st from hsH).1 fVH) _ hT
    have hTH : Hidden (tk s.st [3] = some r) := hT
    clear hT
    obtain ⟨X, hX⟩ : ∃ X, X = r.length := ⟨_, rfl⟩
    have hXH : Hidden (X = r.length) := hX
    simp only [tkV, Option.isSome_some] at kt
    rw [← hX] at kt
    clear hX
    go_upto_region 7 with (first
      | (go_at_call 44; refine (kt _ (Fr.refl _ _)).mono ?_; rintro e w1 ⟨rfl, f1⟩
         have j1 := f1.cellN s1
         have f1H : Hidden (Fr (fun _ => False) V w1) := f1
         clear f1 kt i0 i1 i2 i3 s0 s1))
    have ga := Fr.alloc (fun _ => False) w1 (.cells #[(.slice so X sc), .slice to' nt tc] 80 (0, 0))
    have hN : (w1.alloc (.cells #[(.slice so X sc), .slice to' nt tc] 80 (0, 0))).heap[w1.heap.size]? = some (.cells #[(.slice so X sc), .slice to' nt tc] 80 (0, 0)) := alloc_new _ _
    obtain ⟨W9, hW9⟩ : ∃ W, W = w1.alloc (.cells #[(.slice so X sc), .slice to' nt tc] 80 (0, 0)) := ⟨_, rfl⟩
    rw [← hW9] at ga hN ⊢
    have f9 : Fr (fun _ => False) V W9 := (show Fr (fun _ => False) V w1 from f1H).same ga
    obtain ⟨⟨t0, t1, t2, t3, t4, t5, t6⟩, u0, u1, u2, u3, u4, u5, u6⟩ := box7 (f9.heap r4H (fun f => f))
    have x0 : W9.cell? ⟨w1.heap.size, 0, none⟩ = some (.slice so X sc) := cell_of_row _ _ 0 _ _ _ hN
    have x1 : W9.cell? ⟨w1.heap.size, 1, none⟩ = some (.slice to' nt tc) := cell_of_row _ _ 1 _ _ _ hN
    have f9H : Hidden (Fr (fun _ => False) V W9) := f9
    clear hW9 ga hN f9 j1
    go_wp2_with fail
    have sz := (show V.heap.size = w.heap.size + 5 from szH)
    refine fl_post (u := 8) (W := W9) rfl rfl rfl ((show Fr (fun _ => False) V W9 from f9H).heap r4H (fun f => f)) (by omega) ((show Fr (fun _ => False) w V from fVH).same f9H) ?_
    intro W' fW'
    rw [show stepS f p ⟨9, n, t, bb⟩ s = some (some ⟨r, s.tr⟩, some ⟨r, s.tr⟩) by simp [stepS, show tk s.st [3] = _ from hTH]]
    have hsh : ShB W' B (.agg #[.slice so X sc, .slice to' nt tc]) ⟨r, s.tr⟩ := ⟨so, sc, to', tc, by rw [show X = r.length from hXH, show s.tr.length = nt from hntH], ((show InB w B so sc s.st from hsH).tk hTH).keep fW' (fun _ _ f => f), (show TrB w B to' tc s.tr from htH).keep fW' (fun _ _ f => f)⟩
    exact ⟨_, _, _, _, _, _, _, _, _, _, _, _, rfl, fun y hy => (by cases hy; exact hsh), fun y hy => by cases hy; exact hsh⟩
set_option maxRecDepth 20000 in
set_option maxHeartbeats 4000000 in
theorem lstep_13 (f : Fu) (p : Fm) (a0 a2 a3 a4 a5 : Option Addr) (c0 c2 c3 c4 c5 : Nat) (n t bb : Int) (s : Sp) (so to' : Option Addr) (sc tc ns nt B : Nat) (w : World) (hns : s.st.length = ns) (hnt : s.tr.length = nt) (hF : Fi w f p a0 a2 a3 a4 a5 c0 c2 c3 c4 c5) (hs : InB w B so sc s.st) (ht : TrB w B to' tc s.tr) (hl : ns ≤ 600) (hl2 : nt ≤ 600) (hB : B ≤ w.heap.size) :
    Calls Tryz.prog 48 #[.agg #[.slice a0 f.sg.ps.length c0, ci f.sg.res, .slice a2 f.loc.length c2, .slice a3 f.cd.length c3], .agg #[.slice a4 p.fns.length c4, .slice a5 p.vars.length c5], inV ⟨13, n, t, bb⟩, .agg #[.slice so ns sc, .slice to' nt tc]] w fun e w' => ∃ v, e = .returned v ∧ FlR w' B v (stepS f p ⟨13, n, t, bb⟩ s) ∧ Fr (fun _ => False) w w' := by
  obtain ⟨V, hV⟩ : ∃ V, V = (((((w.alloc (.cells #[.slice a0 f.sg.ps.length c0, ci f.sg.res, .slice a2 f.loc.length c2, .slice a3 f.cd.length c3] 27 (0, 0))).alloc (.cells #[.slice a4 p.fns.length c4, .slice a5 p.vars.length c5] 30 (0, 0))).alloc (.cells #[ci 13, ci n, ci t, .int .u64 bb] 84 (0, 0))).alloc (.cells #[.slice so ns sc, .slice to' nt tc] 80 (0, 0))).alloc (.cells z7 86 (0, 0))) := ⟨_, rfl⟩
  have fV : Fr (fun _ => False) w V := by rw [hV]; exact ((((Fr.alloc _ _ _).same (Fr.alloc _ _ _)).same (Fr.alloc _ _ _)).same (Fr.alloc _ _ _)).same (Fr.alloc _ _ _)
  have szV : V.heap.size = w.heap.size + 5 := by rw [hV]; simp
  have r0 : V.heap[w.heap.size]? = some (.cells #[.slice a0 f.sg.ps.length c0, ci f.sg.res, .slice a2 f.loc.length c2, .slice a3 f.cd.length c3] 27 (0, 0)) := by
    rw [hV]
    refine (Fr.alloc (fun _ => False) _ _).heap ?_ (fun f => f)
    refine (Fr.alloc (fun _ => False) _ _).heap ?_ (fun f => f)
    refine (Fr.alloc (fun _ => False) _ _).heap ?_ (fun f => f)
    refine (Fr.alloc (fun _ => False) _ _).heap ?_ (fun f => f)
    exact alloc_new _ _
  have r1 : V.heap[w.heap.size + 1]? = some (.cells #[.slice a4 p.fns.length c4, .slice a5 p.vars.length c5] 30 (0, 0)) := by
    rw [hV]
    refine (Fr.alloc (fun _ => False) _ _).heap ?_ (fun f => f)
    refine (Fr.alloc (fun _ => False) _ _).heap ?_ (fun f => f)
    refine (Fr.alloc (fun _ => False) _ _).heap ?_ (fun f => f)
    exact alloc_at _ _ _ (by simp)
  have r2 : V.heap[w.heap.size + 1 + 1]? = some (.cells #[ci 13, ci n, ci t, .int .u64 bb] 84 (0, 0)) := by
    rw [hV]
    refine (Fr.alloc (fun _ => False) _ _).heap ?_ (fun f => f)
    refine (Fr.alloc (fun _ => False) _ _).heap ?_ (fun f => f)
    exact alloc_at _ _ _ (by simp)
  have r3 : V.heap[w.heap.size + 1 + 1 + 1]? = some (.cells #[.slice so ns sc, .slice to' nt tc] 80 (0, 0)) := by
    rw [hV]
    refine (Fr.alloc (fun _ => False) _ _).heap ?_ (fun f => f)
    exact alloc_at _ _ _ (by simp)
  have r4 : V.heap[w.heap.size + 1 + 1 + 1 + 1]? = some (.cells z7 86 (0, 0)) := by
    rw [hV]
    exact alloc_at _ _ _ (by simp)
  obtain ⟨i0, i1, i2, i3⟩ := box4 r2
  have s0 : V.cell? ⟨w.heap.size + 1 + 1 + 1, 0, none⟩ = some (.slice so ns sc) := cell_of_row _ _ 0 _ _ _ r3
  have s1 : V.cell? ⟨w.heap.size + 1 + 1 + 1, 1, none⟩ = some (.slice to' nt tc) := cell_of_row _ _ 1 _ _ _ r3
  have r4H : Hidden (V.heap[w.heap.size + 1 + 1 + 1 + 1]? = some (.cells z7 86 (0, 0))) := r4
  have fVH : Hidden (Fr (fun _ => False) w V) := fV
  have hVH : Hidden (V = _) := hV
  have hsH : Hidden (InB w B so sc s.st) := hs
  have htH : Hidden (TrB w B to' tc s.tr) := ht
  have hntH : Hidden (s.tr.length = nt) := hnt
  have hnsH : Hidden (s.st.length = ns) := hns
  have hFH : Hidden (Fi w f p a0 a2 a3 a4 a5 c0 c2 c3 c4 c5) := hF
  have r0H : Hidden (V.heap[w.heap.size]? = some (.cells #[.slice a0 f.sg.ps.length c0, ci f.sg.res, .slice a2 f.loc.length c2, .slice a3 f.cd.length c3] 27 (0, 0))) := r0
  have r1H : Hidden (V.heap[w.heap.size + 1]? = some (.cells #[.slice a4 p.fns.length c4, .slice a5 p.vars.length c5] 30 (0, 0))) := r1
  have r2H : Hidden (V.heap[w.heap.size + 1 + 1]? = some (.cells #[ci 13, ci n, ci t, .int .u64 bb] 84 (0, 0))) := r2
  have r3H : Hidden (V.heap[w.heap.size + 1 + 1 + 1]? = some (.cells #[.slice so ns sc, .slice to' nt tc] 80 (0, 0))) := r3
  have szH : Hidden (V.heap.size = w.heap.size + 5) := szV
  have hBH : Hidden (B ≤ w.heap.size) := hB
  have hlH : Hidden (ns ≤ 600 ∧ nt ≤ 600) := ⟨hl, hl2⟩
  clear hF hs ht hV fV r0 r1 r2 r3 r4 hns hnt szV hB hl hl2
  go_enter Tryz.func48, Tryz.ntmps48
  go_upto_region 1 with fail
  rw [← (show V = _ from hVH)]
  clear hVH
  rcases hT : tk s.st [1] with _ | r
  · have kt := taken_lit so ns sc s.st 1 V hnsH (InL.keep (show InB w B so sc s.st from hsH).1 fVH) _ hT
    have hTH : Hidden (tk s.st [1] = none) := hT
    clear hT
    simp only [tkV, Option.isSome_none] at kt
    go_wp2_with (first
      | (go_at_call 44; refine (kt _ (Fr.refl _ _)).mono ?_; rintro e w1 ⟨rfl, f1⟩
         obtain ⟨⟨t0, t1, t2, t3, t4, t5, t6⟩, u0, u1, u2, u3, u4, u5, u6⟩ := box7 (f1.heap r4H (fun f => f))
         have f1H : Hidden (Fr (fun _ => False) V w1) := f1
         clear f1 kt i0 i1 i2 i3 s0 s1))
    have sz := (show V.heap.size = w.heap.size + 5 from szH)
    refine fl_post (u := 8) (W := w1) rfl rfl rfl ((show Fr (fun _ => False) V w1 from f1H).heap r4H (fun f => f)) (by omega) ((show Fr (fun _ => False) w V from fVH).same f1H) ?_
    intro W' fW'
    rw [show stepS f p ⟨13, n, t, bb⟩ s = none by simp [stepS, show tk s.st [1] = _ from hTH]]
    exact ⟨_, _, _, _, _, _, _, _, _, _, _, _, _, _, rfl⟩
  · have kt := taken_lit so ns sc s.st 1 V hnsH (InL.keep (show InB w B so sc s.st from hsH).1 fVH) _ hT
    have hTH : Hidden (tk s.st [1] = some r) := hT
    clear hT
    simp only [tkV, Option.isSome_some] at kt
    go_wp2_with (first
      | (go_at_call 44; refine (kt _ (Fr.refl _ _)).mono ?_; rintro e w1 ⟨rfl, f1⟩
         obtain ⟨⟨t0, t1, t2, t3, t4, t5, t6⟩, u0, u1, u2, u3, u4, u5, u6⟩ := box7 (f1.heap r4H (fun f => f))
         have f1H : Hidden (Fr (fun _ => False) V w1) := f1
         clear f1 kt i0 i1 i2 i3 s0 s1))
    have sz := (show V.heap.size = w.heap.size + 5 from szH)
    refine fl_post (u := 8) (W := w1) rfl rfl rfl ((show Fr (fun _ => False) V w1 from f1H).heap r4H (fun f => f)) (by omega) ((show Fr (fun _ => False) w V from fVH).same f1H) ?_
    intro W' fW'
    rw [show stepS f p ⟨13, n, t, bb⟩ s = some (none, none) by simp [stepS, show tk s.st [1] = _ from hTH]]
    exact ⟨_, _, _, _, _, _, _, _, _, _, _, _, rfl, fun y hy => (by cases hy), fun y hy => by cases hy⟩
set_option maxRecDepth 20000 in
set_option maxHeartbeats 4000000 in
theorem lstep_11 (f : Fu) (p : Fm) (a0 a2 a3 a4 a5 : Option Addr) (c0 c2 c3 c4 c5 : Nat) (n t bb : Int) (s : Sp) (so to' : Option Addr) (sc tc ns nt B : Nat) (w : World) (hns : s.st.length = ns) (hnt : s.tr.length = nt) (hF : Fi w f p a0 a2 a3 a4 a5 c0 c2 c3 c4 c5) (hs : InB w B so sc s.st) (ht : TrB w B to' tc s.tr) (hl : ns ≤ 600) (hl2 : nt ≤ 600) (hB : B ≤ w.heap.size) :
    Calls Tryz.prog 48 #[.agg #[.slice a0 f.sg.ps.length c0, ci f.sg.res, .slice a2 f.loc.length c2, .slice a3 f.cd.length c3], .agg #[.slice a4 p.fns.length c4, .slice a5 p.vars.length c5], inV ⟨11, n, t, bb⟩, .agg #[.slice so ns sc, .slice to' nt tc]] w fun e w' => ∃ v, e = .returned v ∧ FlR w' B v (stepS f p ⟨11, n, t, bb⟩ s) ∧ Fr (fun _ => False) w w' := by
  obtain ⟨V, hV⟩ : ∃ V, V = (((((w.alloc (.cells #[.slice a0 f.sg.ps.length c0, ci f.sg.res, .slice a2 f.loc.length c2, .slice a3 f.cd.length c3] 27 (0, 0))).alloc (.cells #[.slice a4 p.fns.length c4, .slice a5 p.vars.length c5] 30 (0, 0))).alloc (.cells #[ci 11, ci n, ci t, .int .u64 bb] 84 (0, 0))).alloc (.cells #[.slice so ns sc, .slice to' nt tc] 80 (0, 0))).alloc (.cells z7 86 (0, 0))) := ⟨_, rfl⟩
  have fV : Fr (fun _ => False) w V := by rw [hV]; exact ((((Fr.alloc _ _ _).same (Fr.alloc _ _ _)).same (Fr.alloc _ _ _)).same (Fr.alloc _ _ _)).same (Fr.alloc _ _ _)
  have szV : V.heap.size = w.heap.size + 5 := by rw [hV]; simp
  have r0 : V.heap[w.heap.size]? = some (.cells #[.slice a0 f.sg.ps.length c0, ci f.sg.res, .slice a2 f.loc.length c2, .slice a3 f.cd.length c3] 27 (0, 0)) := by
    rw [hV]
    refine (Fr.alloc (fun _ => False) _ _).heap ?_ (fun f => f)
    refine (Fr.alloc (fun _ => False) _ _).heap ?_ (fun f => f)
    refine (Fr.alloc (fun _ => False) _ _).heap ?_ (fun f => f)
    refine (Fr.alloc (fun _ => False) _ _).heap ?_ (fun f => f)
    exact alloc_new _ _
  have r1 : V.heap[w.heap.size + 1]? = some (.cells #[.slice a4 p.fns.length c4, .slice a5 p.vars.length c5] 30 (0, 0)) := by
    rw [hV]
    refine (Fr.alloc (fun _ => False) _ _).heap ?_ (fun f => f)
    refine (Fr.alloc (fun _ => False) _ _).heap ?_ (fun f => f)
    refine (Fr.alloc (fun _ => False) _ _).heap ?_ (fun f => f)
    exact alloc_at _ _ _ (by simp)
  have r2 : V.heap[w.heap.size + 1 + 1]? = some (.cells #[ci 11, ci n, ci t, .int .u64 bb] 84 (0, 0)) := by
    rw [hV]
    refine (Fr.alloc (fun _ => False) _ _).heap ?_ (fun f => f)
    refine (Fr.alloc (fun _ => False) _ _).heap ?_ (fun f => f)
    exact alloc_at _ _ _ (by simp)
  have r3 : V.heap[w.heap.size + 1 + 1 + 1]? = some (.cells #[.slice so ns sc, .slice to' nt tc] 80 (0, 0)) := by
    rw [hV]
    refine (Fr.alloc (fun _ => False) _ _).heap ?_ (fun f => f)
    exact alloc_at _ _ _ (by simp)
  have r4 : V.heap[w.heap.size + 1 + 1 + 1 + 1]? = some (.cells z7 86 (0, 0)) := by
    rw [hV]
    exact alloc_at _ _ _ (by simp)
  obtain ⟨i0, i1, i2, i3⟩ := box4 r2
  have s0 : V.cell? ⟨w.heap.size + 1 + 1 + 1, 0, none⟩ = some (.slice so ns sc) := cell_of_row _ _ 0 _ _ _ r3
  have s1 : V.cell? ⟨w.heap.size + 1 + 1 + 1, 1, none⟩ = some (.slice to' nt tc) := cell_of_row _ _ 1 _ _ _ r3
  have r4H : Hidden (V.heap[w.heap.size + 1 + 1 + 1 + 1]? = some (.cells z7 86 (0, 0))) := r4
  have fVH : Hidden (Fr (fun _ => False) w V) := fV
  have hVH : Hidden (V = _) := hV
  have hsH : Hidden (InB w B so sc s.st) := hs
  have htH : Hidden (TrB w B to' tc s.tr) := ht
  have hntH : Hidden (s.tr.length = nt) := hnt
  have hnsH : Hidden (s.st.length = ns) := hns
  have hFH : Hidden (Fi w f p a0 a2 a3 a4 a5 c0 c2 c3 c4 c5) := hF
  have r0H : Hidden (V.heap[w.heap.size]? = some (.cells #[.slice a0 f.sg.ps.length c0, ci f.sg.res, .slice a2 f.loc.length c2, .slice a3 f.cd.length c3] 27 (0, 0))) := r0
  have r1H : Hidden (V.heap[w.heap.size + 1]? = some (.cells #[.slice a4 p.fns.length c4, .slice a5 p.vars.length c5] 30 (0, 0))) := r1
  have r2H : Hidden (V.heap[w.heap.size + 1 + 1]? = some (.cells #[ci 11, ci n, ci t, .int .u64 bb] 84 (0, 0))) := r2
  have r3H : Hidden (V.heap[w.heap.size + 1 + 1 + 1]? = some (.cells #[.slice so ns sc, .slice to' nt tc] 80 (0, 0))) := r3
  have szH : Hidden (V.heap.size = w.heap.size + 5) := szV
  have hBH : Hidden (B ≤ w.heap.size) := hB
  have hlH : Hidden (ns ≤ 600 ∧ nt ≤ 600) := ⟨hl, hl2⟩
  clear hF hs ht hV fV r0 r1 r2 r3 r4 hns hnt szV hB hl hl2
  go_enter Tryz.func48, Tryz.ntmps48
  go_upto_region 1 with fail
  rw [← (show V = _ from hVH)]
  clear hVH
  obtain ⟨y0, y1, y2, y3⟩ := box4 r0H
  obtain ⟨rs, hrs⟩ : ∃ rs, rs = f.sg.res := ⟨_, rfl⟩
  have hrsH : Hidden (rs = f.sg.res) := hrs
  rw [← hrs] at y1
  clear hrs
  by_cases hz : rs = 0
  · have hzb : (rs != 0) = false := by simpa using hz
    have hzH : Hidden (f.sg.res = 0) := by show _ = _; rw [← show rs = f.sg.res from hrsH]; exact hz
    clear hz
    obtain ⟨⟨t0, t1, t2, t3, t4, t5, t6⟩, u0, u1, u2, u3, u4, u5, u6⟩ := box7 r4H
    go_wp2_with fail
    have sz := (show V.heap.size = w.heap.size + 5 from szH)
    refine fl_post (u := 8) (W := V) rfl rfl rfl r4H (by omega) fVH ?_
    intro W' fW'
    rw [show stepS f p ⟨11, n, t, bb⟩ s = some (none, none) by simp [stepS, show f.sg.res = 0 from hzH]]
    exact ⟨_, _, _, _, _, _, _, _, _, _, _, _, rfl, fun y hy => (by cases hy), fun y hy => by cases hy⟩
  have hzb : (rs != 0) = true := by simpa using hz
  have hzH : Hidden (¬ rs = 0) := hz
  clear hz
  rcases hT : tk s.st [rs] with _ | r
  · have kt := taken_lit so ns sc s.st rs V hnsH (InL.keep (show InB w B so sc s.st from hsH).1 fVH) _ hT
    have hTH : Hidden (tk s.st [rs] = none) := hT
    clear hT
    simp only [tkV, Option.isSome_none] at kt
    go_wp2_with (first
      | (go_at_call 44; refine (kt _ (Fr.refl _ _)).mono ?_; rintro e w1 ⟨rfl, f1⟩
         obtain ⟨⟨t0, t1, t2, t3, t4, t5, t6⟩, u0, u1, u2, u3, u4, u5, u6⟩ := box7 (f1.heap r4H (fun f => f))
         have f1H : Hidden (Fr (fun _ => False) V w1) := f1
         clear f1 kt i0 i1 i2 i3 s0 s1 y0 y1 y2 y3))
    have sz := (show V.heap.size = w.heap.size + 5 from szH)
    refine fl_post (u := 8) (W := w1) rfl rfl rfl ((show Fr (fun _ => False) V w1 from f1H).heap r4H (fun f => f)) (by omega) ((show Fr (fun _ => False) w V from fVH).same f1H) ?_
    intro W' fW'
    rw [show stepS f p ⟨11, n, t, bb⟩ s = none by simp [stepS, show tk s.st [rs] = _ from hTH, ← show rs = f.sg.res from hrsH, show ¬ rs = 0 from hzH]]
    exact ⟨_, _, _, _, _, _, _, _, _, _, _, _, _, _, rfl⟩
  · have kt := taken_lit so ns sc s.st rs V hnsH (InL.keep (show InB w B so sc s.st from hsH).1 fVH) _ hT
    have hTH : Hidden (tk s.st [rs] = some r) := hT
    clear hT
    simp only [tkV, Option.isSome_some] at kt
    go_wp2_with (first
      | (go_at_call 44; refine (kt _ (Fr.refl _ _)).mono ?_; rintro e w1 ⟨rfl, f1⟩
         obtain ⟨⟨t0, t1, t2, t3, t4, t5, t6⟩, u0, u1, u2, u3, u4, u5, u6⟩ := box7 (f1.heap r4H (fun f => f))
         have f1H : Hidden (Fr (fun _ => False) V w1) := f1
         clear f1 kt i0 i1 i2 i3 s0 s1 y0 y1 y2 y3))
    have sz := (show V.heap.size = w.heap.size + 5 from szH)
    refine fl_post (u := 8) (W := w1) rfl rfl rfl ((show Fr (fun _ => False) V w1 from f1H).heap r4H (fun f => f)) (by omega) ((show Fr (fun _ => False) w V from fVH).same f1H) ?_
    intro W' fW'
    rw [show stepS f p ⟨11, n, t, bb⟩ s = some (none, none) by simp [stepS, show tk s.st [rs] = _ from hTH, ← show rs = f.sg.res from hrsH, show ¬ rs = 0 from hzH]]
    exact ⟨_, _, _, _, _, _, _, _, _, _, _, _, rfl, fun y hy => (by cases hy), fun y hy => by cases hy⟩
end Go.Proofs.YtnmcehpdiopaiaaGreatDoor.Cd

namespace Go.Proofs.YtnmcehpdiopaiaaGreatDoor.Cd
open Go.RowKit Ty
set_option linter.unusedSimpArgs false
set_option linter.unusedVariables false

theorem taken_at (so : Option Addr) (ns sc : Nat) (st : List Int) (x : Int) (V : World) (hn : st.length = ns) (h : InL V so sc st) (T : Option (List Int)) (hT : tk st [x] = T) : ∀ (U : World) (g : Nat), Fr (fun _ => False) V U → U.heap[g]? = some (.cells #[ci x] 3 (0, 0)) →
    Calls Tryz.prog 44 #[.slice so ns sc, .slice (some ⟨g, 0, none⟩) 1 1] U fun e w' => e = .returned (.tuple #[tkV so sc T, .bool T.isSome]) ∧ Fr (fun _ => False) V w' := fun U g hU hg => by
  subst hT
  have hI : InL U (some ⟨g, 0, none⟩) 1 [x] := by
    refine ⟨Nat.le_refl _, by simp [maxLen], fun e => (by cases e), Or.inr ⟨_, 0, rfl, fun i y hy => ?_⟩⟩
    cases i with
    | zero =>
      simp only [List.getElem?_cons_zero, Option.some.injEq] at hy
      subst hy
      exact cell_of_row _ _ 0 _ _ _ hg
    | succ i => simp at hy
  refine (rtaken_any so (some ⟨g, 0, none⟩) ns 1 sc 1 st [x] _ hn rfl (InL.keep h hU) hI).mono ?_
  rintro e w' ⟨he, hf⟩
  exact ⟨he, hU.same hf⟩

set_option maxRecDepth 20000 in
set_option maxHeartbeats 4000000 in
theorem dstep_3 (f : Fu) (p : Fm) (a0 a2 a3 a4 a5 : Option Addr) (c0 c2 c3 c4 c5 : Nat) (k : Nat) (t bb : Int) (s : Sp) (so to' : Option Addr) (sc tc ns nt B : Nat) (w : World) (hns : s.st.length = ns) (hnt : s.tr.length = nt) (hF : Fi w f p a0 a2 a3 a4 a5 c0 c2 c3 c4 c5) (hs : InB w B so sc s.st) (ht : TrB w B to' tc s.tr) (hl : ns ≤ 600) (hB : B ≤ w.heap.size) :
    Calls Tryz.prog 27 #[.agg #[.slice a0 f.sg.ps.length c0, ci f.sg.res, .slice a2 f.loc.length c2, .slice a3 f.cd.length c3], .agg #[.slice a4 p.fns.length c4, .slice a5 p.vars.length c5], inV ⟨3, (k : Int), t, bb⟩, .agg #[.slice so ns sc, .slice to' nt tc]] w fun e w' => ∃ v, e = .returned v ∧ FlR w' B v (stepS f p ⟨3, (k : Int), t, bb⟩ s) ∧ Fr (fun _ => False) w w' := by
  obtain ⟨V, hV⟩ : ∃ V, V = (((((((w.alloc (.cells #[.slice a0 f.sg.ps.length c0, ci f.sg.res, .slice a2 f.loc.length c2, .slice a3 f.cd.length c3] 27 (0, 0))).alloc (.cells #[.slice a4 p.fns.length c4, .slice a5 p.vars.length c5] 30 (0, 0))).alloc (.cells #[ci 3, ci (k : Int), ci t, .int .u64 bb] 84 (0, 0))).alloc (.cells #[.slice so ns sc, .slice to' nt tc] 80 (0, 0))).alloc (.cells z7 86 (0, 0))).alloc (.cells z7 86 (0, 0))).alloc (.cells #[.bool true, .bool true, .bool false, .slice so ns sc, .slice to' nt tc, .slice none 0 0, .slice none 0 0] 86 (0, 0))) := ⟨_, rfl⟩
  have fV : Fr (fun _ => False) w V := by rw [hV]; exact ((((((Fr.alloc _ _ _).same (Fr.alloc _ _ _)).same (Fr.alloc _ _ _)).same (Fr.alloc _ _ _)).same (Fr.alloc _ _ _)).same (Fr.alloc _ _ _)).same (Fr.alloc _ _ _)
  have szV : V.heap.size = w.heap.size + 7 := by rw [hV]; simp
  have r0 : V.heap[w.heap.size]? = some (.cells #[.slice a0 f.sg.ps.length c0, ci f.sg.res, .slice a2 f.loc.length c2, .slice a3 f.cd.length c3] 27 (0, 0)) := by
    rw [hV]
    refine (Fr.alloc (fun _ => False) _ _).heap ?_ (fun f => f)
    refine (Fr.alloc (fun _ => False) _ _).heap ?_ (fun f => f)
    refine (Fr.alloc (fun _ => False) _ _).heap ?_ (fun f => f)
    refine (Fr.alloc (fun _ => False) _ _).heap ?_ (fun f => f)
    refine (Fr.alloc (fun _ => False) _ _).heap ?_ (fun f => f)
    refine (Fr.alloc (fun _ => False) _ _).heap ?_ (fun f => f)
    exact alloc_new _ _
  have r1 : V.heap[w.heap.size + 1]? = some (.cells #[.slice a4 p.fns.length c4, .slice a5 p.vars.length c5] 30 (0, 0)) := by
    rw [hV]
    refine (Fr.alloc (fun _ => False) _ _).heap ?_ (fun f => f)
    refine (Fr.alloc (fun _ => False) _ _).heap ?_ (fun f => f)
    refine (Fr.alloc (fun _ => False) _ _).heap ?_ (fun f => f)
    refine (Fr.alloc (fun _ => False) _ _).heap ?_ (fun f => f)
    refine (Fr.alloc (fun _ => False) _ _).heap ?_ (fun f => f)
    exact alloc_at _ _ _ (by simp)
  have r2 : V.heap[w.heap.size + 1 + 1]? = some (.cells #[ci 3, ci (k : Int), ci t, .int .u64 bb] 84 (0, 0)) := by
    rw [hV]
    refine (Fr.alloc (fun _ => False) _ _).heap ?_ (fun f => f)
    refine (Fr.alloc (fun _ => False) _ _).heap ?_ (fun f => f)
    refine (Fr.alloc (fun _ => False) _ _).heap ?_ (fun f => f)
    refine (Fr.alloc (fun _ => False) _ _).heap ?_ (fun f => f)
    exact alloc_at _ _ _ (by simp)
  have r3 : V.heap[w.heap.size + 1 + 1 + 1]? = some (.cells #[.slice so ns sc, .slice to' nt tc] 80 (0, 0)) := by
    rw [hV]
    refine (Fr.alloc (fun _ => False) _ _).heap ?_ (fun f => f)
    refine (Fr.alloc (fun _ => False) _ _).heap ?_ (fun f => f)
    refine (Fr.alloc (fun _ => False) _ _).heap ?_ (fun f => f)
    exact alloc_at _ _ _ (by simp)
  have r4 : V.heap[w.heap.size + 1 + 1 + 1 + 1]? = some (.cells z7 86 (0, 0)) := by
    rw [hV]
    refine (Fr.alloc (fun _ => False) _ _).heap ?_ (fun f => f)
    refine (Fr.alloc (fun _ => False) _ _).heap ?_ (fun f => f)
    exact alloc_at _ _ _ (by simp)
  have r5 : V.heap[w.heap.size + 1 + 1 + 1 + 1 + 1]? = some (.cells z7 86 (0, 0)) := by
    rw [hV]
    refine (Fr.alloc (fun _ => False) _ _).heap ?_ (fun f => f)
    exact alloc_at _ _ _ (by simp)
  have r6 : V.heap[w.heap.size + 1 + 1 + 1 + 1 + 1 + 1]? = some (.cells #[.bool true, .bool true, .bool false, .slice so ns sc, .slice to' nt tc, .slice none 0 0, .slice none 0 0] 86 (0, 0)) := by
    rw [hV]
    exact alloc_at _ _ _ (by simp)
  have kp := fun (x : Int) => put_any so ns sc s.st x V hns (InL.keep hs.1 fV) (by omega)
  obtain ⟨i0, i1, i2, i3⟩ := box4 r2
  have s0 : V.cell? ⟨w.heap.size + 1 + 1 + 1, 0, none⟩ = some (.slice so ns sc) := cell_of_row _ _ 0 _ _ _ r3
  have s1 : V.cell? ⟨w.heap.size + 1 + 1 + 1, 1, none⟩ = some (.slice to' nt tc) := cell_of_row _ _ 1 _ _ _ r3
  have r4H : Hidden (V.heap[w.heap.size + 1 + 1 + 1 + 1]? = some (.cells z7 86 (0, 0))) := r4
  have r6H : Hidden (V.heap[w.heap.size + 1 + 1 + 1 + 1 + 1 + 1]? = some (.cells #[.bool true, .bool true, .bool false, .slice so ns sc, .slice to' nt tc, .slice none 0 0, .slice none 0 0] 86 (0, 0))) := r6
  have fVH : Hidden (Fr (fun _ => False) w V) := fV
  have hVH : Hidden (V = _) := hV
  have hsH : Hidden (InB w B so sc s.st) := hs
  have htH : Hidden (TrB w B to' tc s.tr) := ht
  have hntH : Hidden (s.tr.length = nt) := hnt
  have hnsH : Hidden (s.st.length = ns) := hns
  have hFH : Hidden (Fi w f p a0 a2 a3 a4 a5 c0 c2 c3 c4 c5) := hF
  have r0H : Hidden (V.heap[w.heap.size]? = some (.cells #[.slice a0 f.sg.ps.length c0, ci f.sg.res, .slice a2 f.loc.length c2, .slice a3 f.cd.length c3] 27 (0, 0))) := r0
  have r1H : Hidden (V.heap[w.heap.size + 1]? = some (.cells #[.slice a4 p.fns.length c4, .slice a5 p.vars.length c5] 30 (0, 0))) := r1
  have r3H : Hidden (V.heap[w.heap.size + 1 + 1 + 1]? = some (.cells #[.slice so ns sc, .slice to' nt tc] 80 (0, 0))) := r3
  have r5H : Hidden (V.heap[w.heap.size + 1 + 1 + 1 + 1 + 1]? = some (.cells z7 86 (0, 0))) := r5
  have kpH : Hidden (∀ W, Fr (fun _ => False) V W → ∀ x : Int, Calls Tryz.prog 43 #[.slice so ns sc, ci x] W fun e w' => ∃ v, e = .returned v ∧ OwI w' W.heap.size v (s.st ++ [x]) ∧ Fr (fun _ => False) W w') := fun W hW x => put_any so ns sc s.st x W hns (InL.keep (InL.keep hs.1 fV) hW) (by omega)
  have szH : Hidden (V.heap.size = w.heap.size + 7) := szV
  have hBH : Hidden (B ≤ w.heap.size) := hB
  clear hF hs ht hV fV r0 r1 r2 r3 r4 r5 r6 hns hnt szV hB
  go_enter Tryz.func27, Tryz.ntmps27
  go_upto_region 3 with fail
  rw [← (show V = _ from hVH)]
  clear hVH
  obtain ⟨y0, y1, y2, y3⟩ := box4 r0H
  clear kp
  by_cases hk : f.loc.length ≤ k
  · have e1 : decide ((f.loc.length : Int) ≤ (k : Int)) = true := decide_eq_true (by omega)
    have e2 : decide (f.loc.length ≤ k) = true := decide_eq_true hk
    have hnone : Hidden ((f.loc)[k]? = none) := List.getElem?_eq_none hk
    obtain ⟨⟨t0, t1, t2, t3, t4, t5, t6⟩, u0, u1, u2, u3, u4, u5, u6⟩ := box7 r4H
    obtain ⟨⟨p0, p1, p2, p3, p4, p5, p6⟩, q0, q1, q2, q3, q4, q5, q6⟩ := box7 r5H
    clear hk
    go_wp2_with fail
    have sz := (show V.heap.size = w.heap.size + 7 from szH)
    refine fl_post (u := 8) (W := V) rfl rfl rfl r4H (by omega) fVH ?_
    intro W' fW'
    rw [show stepS f p ⟨3, (k : Int), t, bb⟩ s = none by simp [stepS, show (f.loc)[k]? = none from hnone]]
    exact ⟨_, _, _, _, _, _, _, _, _, _, _, _, _, _, rfl⟩
  · have e1 : decide ((f.loc.length : Int) ≤ (k : Int)) = false := decide_eq_false (by omega)
    have e2 : decide (f.loc.length ≤ k) = false := decide_eq_false hk
    have hkn : (k : Int) < (f.loc.length : Int) := by omega
    have hk0 : (0 : Int) ≤ (k : Int) := by omega
    obtain ⟨x, hx⟩ : ∃ x, (f.loc)[k]? = some x := ⟨_, List.getElem?_eq_getElem (by omega)⟩
    obtain ⟨b, off, rfl, hc⟩ := ((show Fi w f p a0 a2 a3 a4 a5 c0 c2 c3 c4 c5 from hFH).keep fVH).loc.2.2.2.resolve_left (by intro e; rw [e] at hx; simp at hx)
    have ex := hc k x hx
    have hxH : Hidden ((f.loc)[k]? = some x) := hx
    clear hk hc hx
    rcases hT : tk s.st [x] with _ | r
    · have kt := taken_at so ns sc s.st x V hnsH (InL.keep (show InB w B so sc s.st from hsH).1 fVH) _ hT
      have hTH : Hidden (tk s.st [x] = none) := hT
      clear hT
      simp only [tkV, Option.isSome_none] at kt
      go_upto_region 15 with fail
      go_region_held3 (fun w' => w'.cell? ⟨w.heap.size, 2, none⟩ = some (.slice (some ⟨b, off, none⟩) f.loc.length c2) ∧ w'.cell? ⟨w.heap.size + 1 + 1, 1, none⟩ = some (ci (k : Int)) ∧ w'.cell? ⟨w.heap.size + 1 + 1 + 1, 0, none⟩ = some (.slice so ns sc) ∧ w'.cell? ⟨b, off + k, none⟩ = some (ci x)) (first | (refine ⟨by with_reducible assumption, by with_reducible assumption, by with_reducible assumption, by with_reducible assumption⟩) | go_keep) (first
        | (go_at_call 44; refine (kt _ _ ((Fr.alloc _ _ _).same (Fr.drew _ _)) ((Fr.drew (fun _ => False) _).heap (alloc_new _ _) (fun f => f))).mono ?_; rintro e w1 ⟨rfl, f1⟩
           have a1 := f1.cellN y2; have a2' := f1.cellN i1; have a3' := f1.cellN s0; have a4' := f1.cellN ex
           obtain ⟨⟨t0, t1, t2, t3, t4, t5, t6⟩, u0, u1, u2, u3, u4, u5, u6⟩ := box7 (f1.heap r4H (fun f => f))
           obtain ⟨⟨p0, p1, p2, p3, p4, p5, p6⟩, q0, q1, q2, q3, q4, q5, q6⟩ := box7 (f1.heap r6H (fun f => f))
           have f1H : Hidden (Fr (fun _ => False) V w1) := f1
           clear f1))
      all_goals
        clear kt
        go_wp2_with fail
        have sz := (show V.heap.size = w.heap.size + 7 from szH)
        have hne46 : w.heap.size + 1 + 1 + 1 + 1 ≠ w.heap.size + 1 + 1 + 1 + 1 + 1 + 1 := by omega
        have g1 := Fr.setCell w1 ⟨w.heap.size + 1 + 1 + 1 + 1 + 1 + 1, 3, none⟩ (.slice none 0 0)
        have g2 := Fr.setCell (w1.setCell ⟨w.heap.size + 1 + 1 + 1 + 1 + 1 + 1, 3, none⟩ (.slice none 0 0)) ⟨w.heap.size + 1 + 1 + 1 + 1 + 1 + 1, 0, none⟩ (.bool false)
        refine fl_post (u := 8) (W := (w1.setCell ⟨w.heap.size + 1 + 1 + 1 + 1 + 1 + 1, 3, none⟩ (.slice none 0 0)).setCell ⟨w.heap.size + 1 + 1 + 1 + 1 + 1 + 1, 0, none⟩ (.bool false)) rfl rfl rfl (g2.heap (g1.heap ((show Fr (fun _ => False) V w1 from f1H).heap r4H (fun f => f)) hne46) hne46) (by omega) ((((show Fr (fun _ => False) w V from fVH).same f1H)).over (g1.same g2) (fun k e => by have e : k = w.heap.size + 1 + 1 + 1 + 1 + 1 + 1 := e; omega)) ?_
        intro W' fW'
        rw [show stepS f p ⟨3, (k : Int), t, bb⟩ s = none by simp [stepS, on, show (f.loc)[k]? = some x from hxH, show tk s.st [x] = _ from hTH]]
        exact ⟨_, _, _, _, _, _, _, _, _, _, _, _, _, _, rfl⟩
    · have kt := taken_at so ns sc s.st x V hnsH (InL.keep (show InB w B so sc s.st from hsH).1 fVH) _ hT
      have hTH : Hidden (tk s.st [x] = some r) := hT
      clear hT
      simp only [tkV, Option.isSome_some] at kt
      obtain ⟨X, hX⟩ : ∃ X, X = r.length := ⟨_, rfl⟩
      have hXH : Hidden (X = r.length) := hX
      rw [← hX] at kt
      clear hX
      go_upto_region 15 with fail
      go_region_held3 (fun w' => w'.cell? ⟨w.heap.size, 2, none⟩ = some (.slice (some ⟨b, off, none⟩) f.loc.length c2) ∧ w'.cell? ⟨w.heap.size + 1 + 1, 1, none⟩ = some (ci (k : Int)) ∧ w'.cell? ⟨w.heap.size + 1 + 1 + 1, 0, none⟩ = some (.slice so ns sc) ∧ w'.cell? ⟨b, off + k, none⟩ = some (ci x)) (first | (refine ⟨by with_reducible assumption, by with_reducible assumption, by with_reducible assumption, by with_reducible assumption⟩) | go_keep) (first
        | (go_at_call 44; refine (kt _ _ ((Fr.alloc _ _ _).same (Fr.drew _ _)) ((Fr.drew (fun _ => False) _).heap (alloc_new _ _) (fun f => f))).mono ?_; rintro e w1 ⟨rfl, f1⟩
           have a1 := f1.cellN y2; have a2' := f1.cellN i1; have a3' := f1.cellN s0; have a4' := f1.cellN ex
           obtain ⟨⟨t0, t1, t2, t3, t4, t5, t6⟩, u0, u1, u2, u3, u4, u5, u6⟩ := box7 (f1.heap r4H (fun f => f))
           obtain ⟨⟨p0, p1, p2, p3, p4, p5, p6⟩, q0, q1, q2, q3, q4, q5, q6⟩ := box7 (f1.heap r6H (fun f => f))
           have f1H : Hidden (Fr (fun _ => False) V w1) := f1
           clear f1))
      all_goals
        clear kt
        go_wp2_with fail
        have sz := (show V.heap.size = w.heap.size + 7 from szH)
        have hne46 : w.heap.size + 1 + 1 + 1 + 1 ≠ w.heap.size + 1 + 1 + 1 + 1 + 1 + 1 := by omega
        have g1 := Fr.setCell w1 ⟨w.heap.size + 1 + 1 + 1 + 1 + 1 + 1, 3, none⟩ (.slice so X sc)
        have g2 := Fr.setCell (w1.setCell ⟨w.heap.size + 1 + 1 + 1 + 1 + 1 + 1, 3, none⟩ (.slice so X sc)) ⟨w.heap.size + 1 + 1 + 1 + 1 + 1 + 1, 0, none⟩ (.bool true)
        refine fl_post (u := 8) (W := (w1.setCell ⟨w.heap.size + 1 + 1 + 1 + 1 + 1 + 1, 3, none⟩ (.slice so X sc)).setCell ⟨w.heap.size + 1 + 1 + 1 + 1 + 1 + 1, 0, none⟩ (.bool true)) rfl rfl rfl (g2.heap (g1.heap ((show Fr (fun _ => False) V w1 from f1H).heap r4H (fun f => f)) hne46) hne46) (by omega) ((((show Fr (fun _ => False) w V from fVH).same f1H)).over (g1.same g2) (fun k e => by have e : k = w.heap.size + 1 + 1 + 1 + 1 + 1 + 1 := e; omega)) ?_
        intro W' fW'
        rw [show stepS f p ⟨3, (k : Int), t, bb⟩ s = some (some ⟨r, s.tr⟩, none) by simp [stepS, on, show (f.loc)[k]? = some x from hxH, show tk s.st [x] = _ from hTH]]
        refine ⟨_, _, _, _, _, _, _, _, _, _, _, _, rfl, fun z hz => ?_, fun z hz => by cases hz⟩
        cases hz
        exact ⟨so, sc, to', tc, by rw [show X = _ from hXH, show s.tr.length = nt from hntH], ((show InB w B so sc s.st from hsH).tk hTH).keep fW' (fun _ _ f => f), (show TrB w B to' tc s.tr from htH).keep fW' (fun _ _ f => f)⟩
set_option maxRecDepth 20000 in
set_option maxHeartbeats 4000000 in
theorem dstep_5 (f : Fu) (p : Fm) (a0 a2 a3 a4 a5 : Option Addr) (c0 c2 c3 c4 c5 : Nat) (k : Nat) (t bb : Int) (s : Sp) (so to' : Option Addr) (sc tc ns nt B : Nat) (w : World) (hns : s.st.length = ns) (hnt : s.tr.length = nt) (hF : Fi w f p a0 a2 a3 a4 a5 c0 c2 c3 c4 c5) (hs : InB w B so sc s.st) (ht : TrB w B to' tc s.tr) (hl : ns ≤ 600) (hB : B ≤ w.heap.size) :
    Calls Tryz.prog 27 #[.agg #[.slice a0 f.sg.ps.length c0, ci f.sg.res, .slice a2 f.loc.length c2, .slice a3 f.cd.length c3], .agg #[.slice a4 p.fns.length c4, .slice a5 p.vars.length c5], inV ⟨5, (k : Int), t, bb⟩, .agg #[.slice so ns sc, .slice to' nt tc]] w fun e w' => ∃ v, e = .returned v ∧ FlR w' B v (stepS f p ⟨5, (k : Int), t, bb⟩ s) ∧ Fr (fun _ => False) w w' := by
  obtain ⟨V, hV⟩ : ∃ V, V = (((((((w.alloc (.cells #[.slice a0 f.sg.ps.length c0, ci f.sg.res, .slice a2 f.loc.length c2, .slice a3 f.cd.length c3] 27 (0, 0))).alloc (.cells #[.slice a4 p.fns.length c4, .slice a5 p.vars.length c5] 30 (0, 0))).alloc (.cells #[ci 5, ci (k : Int), ci t, .int .u64 bb] 84 (0, 0))).alloc (.cells #[.slice so ns sc, .slice to' nt tc] 80 (0, 0))).alloc (.cells z7 86 (0, 0))).alloc (.cells z7 86 (0, 0))).alloc (.cells #[.bool true, .bool true, .bool false, .slice so ns sc, .slice to' nt tc, .slice none 0 0, .slice none 0 0] 86 (0, 0))) := ⟨_, rfl⟩
  have fV : Fr (fun _ => False) w V := by rw [hV]; exact ((((((Fr.alloc _ _ _).same (Fr.alloc _ _ _)).same (Fr.alloc _ _ _)).same (Fr.alloc _ _ _)).same (Fr.alloc _ _ _)).same (Fr.alloc _ _ _)).same (Fr.alloc _ _ _)
  have szV : V.heap.size = w.heap.size + 7 := by rw [hV]; simp
  have r0 : V.heap[w.heap.size]? = some (.cells #[.slice a0 f.sg.ps.length c0, ci f.sg.res, .slice a2 f.loc.length c2, .slice a3 f.cd.length c3] 27 (0, 0)) := by
    rw [hV]
    refine (Fr.alloc (fun _ => False) _ _).heap ?_ (fun f => f)
    refine (Fr.alloc (fun _ => False) _ _).heap ?_ (fun f => f)
    refine (Fr.alloc (fun _ => False) _ _).heap ?_ (fun f => f)
    refine (Fr.alloc (fun _ => False) _ _).heap ?_ (fun f => f)
    refine (Fr.alloc (fun _ => False) _ _).heap ?_ (fun f => f)
    refine (Fr.alloc (fun _ => False) _ _).heap ?_ (fun f => f)
    exact alloc_new _ _
  have r1 : V.heap[w.heap.size + 1]? = some (.cells #[.slice a4 p.fns.length c4, .slice a5 p.vars.length c5] 30 (0, 0)) := by
    rw [hV]
    refine (Fr.alloc (fun _ => False) _ _).heap ?_ (fun f => f)
    refine (Fr.alloc (fun _ => False) _ _).heap ?_ (fun f => f)
    refine (Fr.alloc (fun _ => False) _ _).heap ?_ (fun f => f)
    refine (Fr.alloc (fun _ => False) _ _).heap ?_ (fun f => f)
    refine (Fr.alloc (fun _ => False) _ _).heap ?_ (fun f => f)
    exact alloc_at _ _ _ (by simp)
  have r2 : V.heap[w.heap.size + 1 + 1]? = some (.cells #[ci 5, ci (k : Int), ci t, .int .u64 bb] 84 (0, 0)) := by
    rw [hV]
    refine (Fr.alloc (fun _ => False) _ _).heap ?_ (fun f => f)
    refine (Fr.alloc (fun _ => False) _ _).heap ?_ (fun f => f)
    refine (Fr.alloc (fun _ => False) _ _).heap ?_ (fun f => f)
    refine (Fr.alloc (fun _ => False) _ _).heap ?_ (fun f => f)
    exact alloc_at _ _ _ (by simp)
  have r3 : V.heap[w.heap.size + 1 + 1 + 1]? = some (.cells #[.slice so ns sc, .slice to' nt tc] 80 (0, 0)) := by
    rw [hV]
    refine (Fr.alloc (fun _ => False) _ _).heap ?_ (fun f => f)
    refine (Fr.alloc (fun _ => False) _ _).heap ?_ (fun f => f)
    refine (Fr.alloc (fun _ => False) _ _).heap ?_ (fun f => f)
    exact alloc_at _ _ _ (by simp)
  have r4 : V.heap[w.heap.size + 1 + 1 + 1 + 1]? = some (.cells z7 86 (0, 0)) := by
    rw [hV]
    refine (Fr.alloc (fun _ => False) _ _).heap ?_ (fun f => f)
    refine (Fr.alloc (fun _ => False) _ _).heap ?_ (fun f => f)
    exact alloc_at _ _ _ (by simp)
  have r5 : V.heap[w.heap.size + 1 + 1 + 1 + 1 + 1]? = some (.cells z7 86 (0, 0)) := by
    rw [hV]
    refine (Fr.alloc (fun _ => False) _ _).heap ?_ (fun f => f)
    exact alloc_at _ _ _ (by simp)
  have r6 : V.heap[w.heap.size + 1 + 1 + 1 + 1 + 1 + 1]? = some (.cells #[.bool true, .bool true, .bool false, .slice so ns sc, .slice to' nt tc, .slice none 0 0, .slice none 0 0] 86 (0, 0)) := by
    rw [hV]
    exact alloc_at _ _ _ (by simp)
  have kp := fun (x : Int) => put_any so ns sc s.st x V hns (InL.keep hs.1 fV) (by omega)
  obtain ⟨i0, i1, i2, i3⟩ := box4 r2
  have s0 : V.cell? ⟨w.heap.size + 1 + 1 + 1, 0, none⟩ = some (.slice so ns sc) := cell_of_row _ _ 0 _ _ _ r3
  have s1 : V.cell? ⟨w.heap.size + 1 + 1 + 1, 1, none⟩ = some (.slice to' nt tc) := cell_of_row _ _ 1 _ _ _ r3
  have r4H : Hidden (V.heap[w.heap.size + 1 + 1 + 1 + 1]? = some (.cells z7 86 (0, 0))) := r4
  have r6H : Hidden (V.heap[w.heap.size + 1 + 1 + 1 + 1 + 1 + 1]? = some (.cells #[.bool true, .bool true, .bool false, .slice so ns sc, .slice to' nt tc, .slice none 0 0, .slice none 0 0] 86 (0, 0))) := r6
  have fVH : Hidden (Fr (fun _ => False) w V) := fV
  have hVH : Hidden (V = _) := hV
  have hsH : Hidden (InB w B so sc s.st) := hs
  have htH : Hidden (TrB w B to' tc s.tr) := ht
  have hntH : Hidden (s.tr.length = nt) := hnt
  have hnsH : Hidden (s.st.length = ns) := hns
  have hFH : Hidden (Fi w f p a0 a2 a3 a4 a5 c0 c2 c3 c4 c5) := hF
  have r0H : Hidden (V.heap[w.heap.size]? = some (.cells #[.slice a0 f.sg.ps.length c0, ci f.sg.res, .slice a2 f.loc.length c2, .slice a3 f.cd.length c3] 27 (0, 0))) := r0
  have r1H : Hidden (V.heap[w.heap.size + 1]? = some (.cells #[.slice a4 p.fns.length c4, .slice a5 p.vars.length c5] 30 (0, 0))) := r1
  have r3H : Hidden (V.heap[w.heap.size + 1 + 1 + 1]? = some (.cells #[.slice so ns sc, .slice to' nt tc] 80 (0, 0))) := r3
  have r5H : Hidden (V.heap[w.heap.size + 1 + 1 + 1 + 1 + 1]? = some (.cells z7 86 (0, 0))) := r5
  have kpH : Hidden (∀ W, Fr (fun _ => False) V W → ∀ x : Int, Calls Tryz.prog 43 #[.slice so ns sc, ci x] W fun e w' => ∃ v, e = .returned v ∧ OwI w' W.heap.size v (s.st ++ [x]) ∧ Fr (fun _ => False) W w') := fun W hW x => put_any so ns sc s.st x W hns (InL.keep (InL.keep hs.1 fV) hW) (by omega)
  have szH : Hidden (V.heap.size = w.heap.size + 7) := szV
  have hBH : Hidden (B ≤ w.heap.size) := hB
  clear hF hs ht hV fV r0 r1 r2 r3 r4 r5 r6 hns hnt szV hB
  go_enter Tryz.func27, Tryz.ntmps27
  go_upto_region 3 with fail
  rw [← (show V = _ from hVH)]
  clear hVH
  have y0 : V.cell? ⟨w.heap.size + 1, 0, none⟩ = some (.slice a4 p.fns.length c4) := cell_of_row _ _ 0 _ _ _ r1H
  have y2 : V.cell? ⟨w.heap.size + 1, 1, none⟩ = some (.slice a5 p.vars.length c5) := cell_of_row _ _ 1 _ _ _ r1H
  clear kp
  by_cases hk : p.vars.length ≤ k
  · have e1 : decide ((p.vars.length : Int) ≤ (k : Int)) = true := decide_eq_true (by omega)
    have e2 : decide (p.vars.length ≤ k) = true := decide_eq_true hk
    have hnone : Hidden ((p.vars)[k]? = none) := List.getElem?_eq_none hk
    obtain ⟨⟨t0, t1, t2, t3, t4, t5, t6⟩, u0, u1, u2, u3, u4, u5, u6⟩ := box7 r4H
    obtain ⟨⟨p0, p1, p2, p3, p4, p5, p6⟩, q0, q1, q2, q3, q4, q5, q6⟩ := box7 r5H
    clear hk
    go_wp2_with fail
    have sz := (show V.heap.size = w.heap.size + 7 from szH)
    refine fl_post (u := 8) (W := V) rfl rfl rfl r4H (by omega) fVH ?_
    intro W' fW'
    rw [show stepS f p ⟨5, (k : Int), t, bb⟩ s = none by simp [stepS, show (p.vars)[k]? = none from hnone]]
    exact ⟨_, _, _, _, _, _, _, _, _, _, _, _, _, _, rfl⟩
  · have e1 : decide ((p.vars.length : Int) ≤ (k : Int)) = false := decide_eq_false (by omega)
    have e2 : decide (p.vars.length ≤ k) = false := decide_eq_false hk
    have hkn : (k : Int) < (p.vars.length : Int) := by omega
    have hk0 : (0 : Int) ≤ (k : Int) := by omega
    obtain ⟨x, hx⟩ : ∃ x, (p.vars)[k]? = some x := ⟨_, List.getElem?_eq_getElem (by omega)⟩
    obtain ⟨b, off, rfl, hc⟩ := ((show Fi w f p a0 a2 a3 a4 a5 c0 c2 c3 c4 c5 from hFH).keep fVH).vars.2.2.2.resolve_left (by intro e; rw [e] at hx; simp at hx)
    have ex := hc k x hx
    have hxH : Hidden ((p.vars)[k]? = some x) := hx
    clear hk hc hx
    rcases hT : tk s.st [x] with _ | r
    · have kt := taken_at so ns sc s.st x V hnsH (InL.keep (show InB w B so sc s.st from hsH).1 fVH) _ hT
      have hTH : Hidden (tk s.st [x] = none) := hT
      clear hT
      simp only [tkV, Option.isSome_none] at kt
      go_upto_region 24 with fail
      go_region_held3 (fun w' => w'.cell? ⟨w.heap.size + 1, 1, none⟩ = some (.slice (some ⟨b, off, none⟩) p.vars.length c5) ∧ w'.cell? ⟨w.heap.size + 1 + 1, 1, none⟩ = some (ci (k : Int)) ∧ w'.cell? ⟨w.heap.size + 1 + 1 + 1, 0, none⟩ = some (.slice so ns sc) ∧ w'.cell? ⟨b, off + k, none⟩ = some (ci x)) (first | (refine ⟨by with_reducible assumption, by with_reducible assumption, by with_reducible assumption, by with_reducible assumption⟩) | go_keep) (first
        | (go_at_call 44; refine (kt _ _ ((Fr.alloc _ _ _).same (Fr.drew _ _)) ((Fr.drew (fun _ => False) _).heap (alloc_new _ _) (fun f => f))).mono ?_; rintro e w1 ⟨rfl, f1⟩
           have a1 := f1.cellN y2; have a2' := f1.cellN i1; have a3' := f1.cellN s0; have a4' := f1.cellN ex
           obtain ⟨⟨t0, t1, t2, t3, t4, t5, t6⟩, u0, u1, u2, u3, u4, u5, u6⟩ := box7 (f1.heap r4H (fun f => f))
           obtain ⟨⟨p0, p1, p2, p3, p4, p5, p6⟩, q0, q1, q2, q3, q4, q5, q6⟩ := box7 (f1.heap r6H (fun f => f))
           have f1H : Hidden (Fr (fun _ => False) V w1) := f1
           clear f1))
      all_goals
        clear kt
        go_wp2_with fail
        have sz := (show V.heap.size = w.heap.size + 7 from szH)
        have hne46 : w.heap.size + 1 + 1 + 1 + 1 ≠ w.heap.size + 1 + 1 + 1 + 1 + 1 + 1 := by omega
        have g1 := Fr.setCell w1 ⟨w.heap.size + 1 + 1 + 1 + 1 + 1 + 1, 3, none⟩ (.slice none 0 0)
        have g2 := Fr.setCell (w1.setCell ⟨w.heap.size + 1 + 1 + 1 + 1 + 1 + 1, 3, none⟩ (.slice none 0 0)) ⟨w.heap.size + 1 + 1 + 1 + 1 + 1 + 1, 0, none⟩ (.bool false)
        refine fl_post (u := 8) (W := (w1.setCell ⟨w.heap.size + 1 + 1 + 1 + 1 + 1 + 1, 3, none⟩ (.slice none 0 0)).setCell ⟨w.heap.size + 1 + 1 + 1 + 1 + 1 + 1, 0, none⟩ (.bool false)) rfl rfl rfl (g2.heap (g1.heap ((show Fr (fun _ => False) V w1 from f1H).heap r4H (fun f => f)) hne46) hne46) (by omega) ((((show Fr (fun _ => False) w V from fVH).same f1H)).over (g1.same g2) (fun k e => by have e : k = w.heap.size + 1 + 1 + 1 + 1 + 1 + 1 := e; omega)) ?_
        intro W' fW'
        rw [show stepS f p ⟨5, (k : Int), t, bb⟩ s = none by simp [stepS, on, show (p.vars)[k]? = some x from hxH, show tk s.st [x] = _ from hTH]]
        exact ⟨_, _, _, _, _, _, _, _, _, _, _, _, _, _, rfl⟩
    · have kt := taken_at so ns sc s.st x V hnsH (InL.keep (show InB w B so sc s.st from hsH).1 fVH) _ hT
      have hTH : Hidden (tk s.st [x] = some r) := hT
      clear hT
      simp only [tkV, Option.isSome_some] at kt
      obtain ⟨X, hX⟩ : ∃ X, X = r.length := ⟨_, rfl⟩
      have hXH : Hidden (X = r.length) := hX
      rw [← hX] at kt
      clear hX
      go_upto_region 24 with fail
      go_region_held3 (fun w' => w'.cell? ⟨w.heap.size + 1, 1, none⟩ = some (.slice (some ⟨b, off, none⟩) p.vars.length c5) ∧ w'.cell? ⟨w.heap.size + 1 + 1, 1, none⟩ = some (ci (k : Int)) ∧ w'.cell? ⟨w.heap.size + 1 + 1 + 1, 0, none⟩ = some (.slice so ns sc) ∧ w'.cell? ⟨b, off + k, none⟩ = some (ci x)) (first | (refine ⟨by with_reducible assumption, by with_reducible assumption, by with_reducible assumption, by with_reducible assumption⟩) | go_keep) (first
        | (go_at_call 44; refine (kt _ _ ((Fr.alloc _ _ _).same (Fr.drew _ _)) ((Fr.drew (fun _ => False) _).heap (alloc_new _ _) (fun f => f))).mono ?_; rintro e w1 ⟨rfl, f1⟩
           have a1 := f1.cellN y2; have a2' := f1.cellN i1; have a3' := f1.cellN s0; have a4' := f1.cellN ex
           obtain ⟨⟨t0, t1, t2, t3, t4, t5, t6⟩, u0, u1, u2, u3, u4, u5, u6⟩ := box7 (f1.heap r4H (fun f => f))
           obtain ⟨⟨p0, p1, p2, p3, p4, p5, p6⟩, q0, q1, q2, q3, q4, q5, q6⟩ := box7 (f1.heap r6H (fun f => f))
           have f1H : Hidden (Fr (fun _ => False) V w1) := f1
           clear f1))
      all_goals
        clear kt
        go_wp2_with fail
        have sz := (show V.heap.size = w.heap.size + 7 from szH)
        have hne46 : w.heap.size + 1 + 1 + 1 + 1 ≠ w.heap.size + 1 + 1 + 1 + 1 + 1 + 1 := by omega
        have g1 := Fr.setCell w1 ⟨w.heap.size + 1 + 1 + 1 + 1 + 1 + 1, 3, none⟩ (.slice so X sc)
        have g2 := Fr.setCell (w1.setCell ⟨w.heap.size + 1 + 1 + 1 + 1 + 1 + 1, 3, none⟩ (.slice so X sc)) ⟨w.heap.size + 1 + 1 + 1 + 1 + 1 + 1, 0, none⟩ (.bool true)
        refine fl_post (u := 8) (W := (w1.setCell ⟨w.heap.size + 1 + 1 + 1 + 1 + 1 + 1, 3, none⟩ (.slice so X sc)).setCell ⟨w.heap.size + 1 + 1 + 1 + 1 + 1 + 1, 0, none⟩ (.bool true)) rfl rfl rfl (g2.heap (g1.heap ((show Fr (fun _ => False) V w1 from f1H).heap r4H (fun f => f)) hne46) hne46) (by omega) ((((show Fr (fun _ => False) w V from fVH).same f1H)).over (g1.same g2) (fun k e => by have e : k = w.heap.size + 1 + 1 + 1 + 1 + 1 + 1 := e; omega)) ?_
        intro W' fW'
        rw [show stepS f p ⟨5, (k : Int), t, bb⟩ s = some (some ⟨r, s.tr⟩, none) by simp [stepS, on, show (p.vars)[k]? = some x from hxH, show tk s.st [x] = _ from hTH]]
        refine ⟨_, _, _, _, _, _, _, _, _, _, _, _, rfl, fun z hz => ?_, fun z hz => by cases hz⟩
        cases hz
        exact ⟨so, sc, to', tc, by rw [show X = _ from hXH, show s.tr.length = nt from hntH], ((show InB w B so sc s.st from hsH).tk hTH).keep fW' (fun _ _ f => f), (show TrB w B to' tc s.tr from htH).keep fW' (fun _ _ f => f)⟩
end Go.Proofs.YtnmcehpdiopaiaaGreatDoor.Cd

namespace Go.Proofs.YtnmcehpdiopaiaaGreatDoor.Cd
open Go.RowKit Ty
set_option linter.unusedSimpArgs false
set_option linter.unusedVariables false

/-- The result that stands in a box: rows that were made keep, as the box alone was written. -/
theorem fl_post2 {fn : Func} {a : Act} {w W : World} {u : Tmp} {g4 B : Nat} {c0 c1 c2 c3 c4 c5 c6 x0 x1 x2 x3 x4 x5 x6 : Value} {o : Option (Option Sp × Option Sp)} (h : fn.results = #[.cell u 86]) (hd : a.defers = []) (hp : a.tmps.getD u undef = .pointer (some ⟨g4, 0, none⟩))
    (hg : W.heap[g4]? = some (.cells #[c0, c1, c2, c3, c4, c5, c6] 86 (0, 0))) (h4 : w.heap.size ≤ g4) (f : Fr (fun _ => False) w W) (hR : ∀ W', Fr (fun k => k = g4) W W' → Fr (fun _ => False) w W' → FlR W' B (.agg #[x0, x1, x2, x3, x4, x5, x6]) o) :
    bodyPost Tryz.prog fn (fun e w' => ∃ v, e = .returned v ∧ FlR w' B v o ∧ Fr (fun _ => False) w w') .ret a (w7 W g4 x0 x1 x2 x3 x4 x5 x6) := by
  have hend := set7 hg x0 x1 x2 x3 x4 x5 x6
  have f7 := w7_fr W g4 x0 x1 x2 x3 x4 x5 x6
  have fall := f.over f7 (fun k e => by subst e; exact h4)
  exact ⟨hd, _, results_cell_row h _ _ g4 _ _ (0, 0) _ hp hend Tryz.underlying86 rfl info_flow, ⟨_, rfl, hR _ f7 fall, fall⟩⟩
theorem info_open : (Tryz.prog.info? 134).map (fun i => (i.zero, i.size, i.bytes)) = some (some (.agg #[.int .i64 0, .slice none 0 0]), 2, 32) := by kernel_rfl
theorem two_of {n j : Nat} (h : j < n * 2) : ∃ i, i < n ∧ (j = i * 2 ∨ j = i * 2 + 1) := ⟨j / 2, by omega, by omega⟩
/-- The cells of open tries. -/
theorem TrB.cells {w : World} {B : Nat} {to' : Option Addr} {tc : Nat} {tr : List (Int × List Int)} (h : TrB w B to' tc tr) : ∃ news : List Value, news.length = tr.length * 2 ∧ (to' = none → tr.length = 0 ∧ tc = 0) ∧ (∀ ad, to' = some ad → ∀ (j : Nat) (u : Value), news[j]? = some u → w.cell? (ad.add j) = some u) ∧ (∀ u ∈ news, u.oneCell' = true) ∧
    ∀ (i : Nat) (x : Int × List Int), tr[i]? = some x → ∃ ap cp, InB w B ap cp x.2 ∧ news[i * 2]? = some (ci x.1) ∧ news[i * 2 + 1]? = some (.slice ap x.2.length cp) := by
  obtain ⟨h1, h2, h3, h5, h4⟩ := h
  have hn : to' = none → tr.length = 0 ∧ tc = 0 := fun e => ⟨by have := h3 e; omega, h3 e⟩
  rcases h4 with rfl | ⟨b, off, rfl, h4⟩
  · exact ⟨[], by simp, hn, fun _ _ j u hu => by simp at hu, fun u hu => by simp at hu, fun i x hx => by simp at hx⟩
  · have key : ∀ j, j < tr.length * 2 → ∃ u, w.cell? ⟨b, off + j, none⟩ = some u ∧ u.oneCell' = true := by
      intro j hj
      obtain ⟨i, hi, e⟩ := two_of hj
      obtain ⟨ap, cp, q1, q2, q3⟩ := h4 i _ (List.getElem?_eq_getElem hi)
      rcases e with rfl | rfl
      · exact ⟨_, q2, rfl⟩
      · exact ⟨_, q3, rfl⟩
    have at' : ∀ j, j < tr.length * 2 → ((List.range (tr.length * 2)).map (fun j => (w.cell? ⟨b, off + j, none⟩).getD undef))[j]? = w.cell? ⟨b, off + j, none⟩ := by
      intro j hj
      obtain ⟨u, hu, _⟩ := key j hj
      rw [List.getElem?_map, List.getElem?_range hj, Option.map_some, hu]
      rfl
    refine ⟨(List.range (tr.length * 2)).map (fun j => (w.cell? ⟨b, off + j, none⟩).getD undef), by simp, hn, fun ad e j u hu => ?_, fun u hu => ?_, fun i x hx => ?_⟩
    · obtain rfl := Option.some.inj e
      have hj : j < tr.length * 2 := by have := (List.getElem?_eq_some_iff.1 hu).1; simpa using this
      rw [at' j hj] at hu
      rw [Addr.add_lit]
      exact hu
    · obtain ⟨j, hj, rfl⟩ := List.mem_map.1 hu
      obtain ⟨u, hu, h1⟩ := key j (List.mem_range.1 hj)
      rw [hu]
      exact h1
    · have hi := (List.getElem?_eq_some_iff.1 hx).1
      obtain ⟨ap, cp, q1, q2, q3⟩ := h4 i x hx
      exact ⟨ap, cp, q1, by rw [at' _ (by omega)]; exact q2, by rw [at' _ (by omega), ← Nat.add_assoc]; exact q3⟩
theorem TrB.of_own {w : World} {B0 B : Nat} {v : Value} {tr : List (Int × List Int)} {cells : List Value} {n : Nat} (h : w.ownsRow B0 134 2 v n cells) (hn : tr.length = n) (hB : B ≤ B0) (h0 : tr ≠ []) (hc : ∀ (i : Nat) (x : Int × List Int), tr[i]? = some x → ∃ ap cp, InB w B ap cp x.2 ∧ cells[i * 2]? = some (ci x.1) ∧ cells[i * 2 + 1]? = some (.slice ap x.2.length cp)) : ∃ ao cap, v = .slice ao n cap ∧ TrB w B ao cap tr := by
  obtain ⟨ao, cap, rfl, h1, h2, h3, _, h4⟩ := own_slice h (by decide)
  refine ⟨ao, cap, rfl, by omega, h2, h3, ?_, ?_⟩
  · intro a e
    rcases h4 with h4 | ⟨g, rfl, hg, _⟩
    · exact absurd (List.length_eq_zero_iff.1 (hn.trans h4)) h0
    · obtain rfl := Option.some.inj e
      exact Nat.le_trans hB hg
  · rcases h4 with h4 | ⟨g, rfl, hg, _, h4⟩
    · exact absurd (List.length_eq_zero_iff.1 (hn.trans h4)) h0
    · refine Or.inr ⟨g, 0, rfl, fun i x hx => ?_⟩
      obtain ⟨ap, cp, q1, q2, q3⟩ := hc i x hx
      exact ⟨ap, cp, q1, by rw [Nat.zero_add]; exact h4 _ _ q2, by rw [Nat.zero_add]; exact h4 _ _ q3⟩
set_option maxRecDepth 20000 in
set_option maxHeartbeats 4000000 in
theorem lstep_10 (f : Fu) (p : Fm) (a0 a2 a3 a4 a5 : Option Addr) (c0 c2 c3 c4 c5 : Nat) (k : Nat) (t bb : Int) (s : Sp) (so to' : Option Addr) (sc tc ns nt B : Nat) (w : World) (hns : s.st.length = ns) (hnt : s.tr.length = nt) (hF : Fi w f p a0 a2 a3 a4 a5 c0 c2 c3 c4 c5) (hs : InB w B so sc s.st) (ht : TrB w B to' tc s.tr) (hl : ns ≤ 600) (hl2 : nt ≤ 600) (hB : B ≤ w.heap.size) :
    Calls Tryz.prog 48 #[.agg #[.slice a0 f.sg.ps.length c0, ci f.sg.res, .slice a2 f.loc.length c2, .slice a3 f.cd.length c3], .agg #[.slice a4 p.fns.length c4, .slice a5 p.vars.length c5], inV ⟨10, (k : Int), t, bb⟩, .agg #[.slice so ns sc, .slice to' nt tc]] w fun e w' => ∃ v, e = .returned v ∧ FlR w' B v (stepS f p ⟨10, (k : Int), t, bb⟩ s) ∧ Fr (fun _ => False) w w' := by
  obtain ⟨V, hV⟩ : ∃ V, V = (((((w.alloc (.cells #[.slice a0 f.sg.ps.length c0, ci f.sg.res, .slice a2 f.loc.length c2, .slice a3 f.cd.length c3] 27 (0, 0))).alloc (.cells #[.slice a4 p.fns.length c4, .slice a5 p.vars.length c5] 30 (0, 0))).alloc (.cells #[ci 10, ci (k : Int), ci t, .int .u64 bb] 84 (0, 0))).alloc (.cells #[.slice so ns sc, .slice to' nt tc] 80 (0, 0))).alloc (.cells z7 86 (0, 0))) := ⟨_, rfl⟩
  have fV : Fr (fun _ => False) w V := by rw [hV]; exact ((((Fr.alloc _ _ _).same (Fr.alloc _ _ _)).same (Fr.alloc _ _ _)).same (Fr.alloc _ _ _)).same (Fr.alloc _ _ _)
  have szV : V.heap.size = w.heap.size + 5 := by rw [hV]; simp
  have r0 : V.heap[w.heap.size]? = some (.cells #[.slice a0 f.sg.ps.length c0, ci f.sg.res, .slice a2 f.loc.length c2, .slice a3 f.cd.length c3] 27 (0, 0)) := by
    rw [hV]
    refine (Fr.alloc (fun _ => False) _ _).heap ?_ (fun f => f)
    refine (Fr.alloc (fun _ => False) _ _).heap ?_ (fun f => f)
    refine (Fr.alloc (fun _ => False) _ _).heap ?_ (fun f => f)
    refine (Fr.alloc (fun _ => False) _ _).heap ?_ (fun f => f)
    exact alloc_new _ _
  have r1 : V.heap[w.heap.size + 1]? = some (.cells #[.slice a4 p.fns.length c4, .slice a5 p.vars.length c5] 30 (0, 0)) := by
    rw [hV]
    refine (Fr.alloc (fun _ => False) _ _).heap ?_ (fun f => f)
    refine (Fr.alloc (fun _ => False) _ _).heap ?_ (fun f => f)
    refine (Fr.alloc (fun _ => False) _ _).heap ?_ (fun f => f)
    exact alloc_at _ _ _ (by simp)
  have r2 : V.heap[w.heap.size + 1 + 1]? = some (.cells #[ci 10, ci (k : Int), ci t, .int .u64 bb] 84 (0, 0)) := by
    rw [hV]
    refine (Fr.alloc (fun _ => False) _ _).heap ?_ (fun f => f)
    refine (Fr.alloc (fun _ => False) _ _).heap ?_ (fun f => f)
    exact alloc_at _ _ _ (by simp)
  have r3 : V.heap[w.heap.size + 1 + 1 + 1]? = some (.cells #[.slice so ns sc, .slice to' nt tc] 80 (0, 0)) := by
    rw [hV]
    refine (Fr.alloc (fun _ => False) _ _).heap ?_ (fun f => f)
    exact alloc_at _ _ _ (by simp)
  have r4 : V.heap[w.heap.size + 1 + 1 + 1 + 1]? = some (.cells z7 86 (0, 0)) := by
    rw [hV]
    exact alloc_at _ _ _ (by simp)
  obtain ⟨i0, i1, i2, i3⟩ := box4 r2
  have s0 : V.cell? ⟨w.heap.size + 1 + 1 + 1, 0, none⟩ = some (.slice so ns sc) := cell_of_row _ _ 0 _ _ _ r3
  have s1 : V.cell? ⟨w.heap.size + 1 + 1 + 1, 1, none⟩ = some (.slice to' nt tc) := cell_of_row _ _ 1 _ _ _ r3
  have r4H : Hidden (V.heap[w.heap.size + 1 + 1 + 1 + 1]? = some (.cells z7 86 (0, 0))) := r4
  have fVH : Hidden (Fr (fun _ => False) w V) := fV
  have hVH : Hidden (V = _) := hV
  have hsH : Hidden (InB w B so sc s.st) := hs
  have htH : Hidden (TrB w B to' tc s.tr) := ht
  have hntH : Hidden (s.tr.length = nt) := hnt
  have hnsH : Hidden (s.st.length = ns) := hns
  have hFH : Hidden (Fi w f p a0 a2 a3 a4 a5 c0 c2 c3 c4 c5) := hF
  have r0H : Hidden (V.heap[w.heap.size]? = some (.cells #[.slice a0 f.sg.ps.length c0, ci f.sg.res, .slice a2 f.loc.length c2, .slice a3 f.cd.length c3] 27 (0, 0))) := r0
  have r1H : Hidden (V.heap[w.heap.size + 1]? = some (.cells #[.slice a4 p.fns.length c4, .slice a5 p.vars.length c5] 30 (0, 0))) := r1
  have r2H : Hidden (V.heap[w.heap.size + 1 + 1]? = some (.cells #[ci 10, ci (k : Int), ci t, .int .u64 bb] 84 (0, 0))) := r2
  have r3H : Hidden (V.heap[w.heap.size + 1 + 1 + 1]? = some (.cells #[.slice so ns sc, .slice to' nt tc] 80 (0, 0))) := r3
  have szH : Hidden (V.heap.size = w.heap.size + 5) := szV
  have hBH : Hidden (B ≤ w.heap.size) := hB
  have hlH : Hidden (ns ≤ 600 ∧ nt ≤ 600) := ⟨hl, hl2⟩
  clear hF hs ht hV fV r0 r1 r2 r3 r4 hns hnt szV hB hl hl2
  go_enter Tryz.func48, Tryz.ntmps48
  go_upto_region 1 with fail
  rw [← (show V = _ from hVH)]
  clear hVH
  have y0 : V.cell? ⟨w.heap.size + 1, 0, none⟩ = some (.slice a4 p.fns.length c4) := cell_of_row _ _ 0 _ _ _ r1H
  by_cases hk : p.fns.length ≤ k
  · have e1 : decide ((p.fns.length : Int) ≤ (k : Int)) = true := decide_eq_true (by omega)
    have e2 : decide (p.fns.length ≤ k) = true := decide_eq_true hk
    have hnone : Hidden ((p.fns)[k]? = none) := List.getElem?_eq_none hk
    obtain ⟨⟨t0, t1, t2, t3, t4, t5, t6⟩, u0, u1, u2, u3, u4, u5, u6⟩ := box7 r4H
    clear hk
    go_wp2_with fail
    have sz := (show V.heap.size = w.heap.size + 5 from szH)
    refine fl_post (u := 8) (W := V) rfl rfl rfl r4H (by omega) fVH ?_
    intro W' fW'
    rw [show stepS f p ⟨10, (k : Int), t, bb⟩ s = none by simp [stepS, show (p.fns)[k]? = none from hnone]]
    exact ⟨_, _, _, _, _, _, _, _, _, _, _, _, _, _, rfl⟩
  · have e1 : decide ((p.fns.length : Int) ≤ (k : Int)) = false := decide_eq_false (by omega)
    have e2 : decide (p.fns.length ≤ k) = false := decide_eq_false hk
    have hkn : (k : Int) < (p.fns.length : Int) := by omega
    have hk0 : (0 : Int) ≤ (k : Int) := by omega
    obtain ⟨g, hx⟩ : ∃ g, (p.fns)[k]? = some g := ⟨_, List.getElem?_eq_getElem (by omega)⟩
    obtain ⟨b, off, rfl, hc⟩ := ((show Fi w f p a0 a2 a3 a4 a5 c0 c2 c3 c4 c5 from hFH).keep fVH).fns.2.2.2.resolve_left (by intro e; rw [e] at hx; simp at hx)
    obtain ⟨ap, cp, hI, ex, ey⟩ := hc k g hx
    obtain ⟨np, hnp⟩ : ∃ np, np = g.ps.length := ⟨_, rfl⟩
    obtain ⟨rs, hrs⟩ : ∃ rs, rs = g.res := ⟨_, rfl⟩
    rw [← hnp] at ex
    rw [← hrs] at ey
    have hrsH : Hidden (g.res = rs) := hrs.symm
    have hxH : Hidden ((p.fns)[k]? = some g) := hx
    rcases hT : tk s.st g.ps with _ | r
    · have kt := fun W (hW : Fr (fun _ => False) V W) => rtaken_any so ap ns np sc cp s.st g.ps W hnsH hnp.symm (InL.keep (InL.keep (show InB w B so sc s.st from hsH).1 fVH) hW) (InL.keep hI hW)
      have hTH : Hidden (tk s.st g.ps = none) := hT
      rw [hT] at kt
      clear hT hk hc hx hI hnp hrs
      simp only [tkV, Option.isSome_none] at kt
      go_upto_region 16 with fail
      go_region_held3 (fun w' => w'.cell? ⟨w.heap.size + 1, 0, none⟩ = some (.slice (some ⟨b, off, none⟩) p.fns.length c4) ∧ w'.cell? ⟨w.heap.size + 1 + 1, 1, none⟩ = some (ci (k : Int)) ∧ w'.cell? ⟨w.heap.size + 1 + 1 + 1, 0, none⟩ = some (.slice so ns sc) ∧ w'.cell? ⟨b, off + k * 2, none⟩ = some (.slice ap np cp)) (first | (refine ⟨by with_reducible assumption, by with_reducible assumption, by with_reducible assumption, by with_reducible assumption⟩) | go_keep) (first
        | (go_at_call 44; refine (kt _ (by first | exact Fr.refl _ _ | exact Fr.drew _ _)).mono ?_; rintro e w1 ⟨rfl, f1'⟩
           have f1 : Fr (fun _ => False) V w1 := (by first | exact f1' | exact (Fr.drew _ _).same f1')
           have b1 := f1.cellN y0; have b2 := f1.cellN i1; have b3 := f1.cellN s0; have b4 := f1.cellN ex; have b5 := f1.cellN ey; have b6 := f1.cellN s1
           have f1H : Hidden (Fr (fun _ => False) V w1) := f1
           clear f1 f1'))
      all_goals
        clear kt y0 i0 i1 i2 i3 s0 s1 ex ey
        have sz := (show V.heap.size = w.heap.size + 5 from szH)
        by_cases hz : rs = 0
        · subst hz
          obtain ⟨⟨t0, t1, t2, t3, t4, t5, t6⟩, u0, u1, u2, u3, u4, u5, u6⟩ := box7 ((show Fr (fun _ => False) V w1 from f1H).heap r4H (fun f => f))
          go_wp2_with fail
          refine fl_post (u := 8) (W := w1) rfl rfl rfl ((show Fr (fun _ => False) V w1 from f1H).heap r4H (fun f => f)) (by omega) ((show Fr (fun _ => False) w V from fVH).same f1H) ?_
          intro W' fW'
          rw [show stepS f p ⟨10, (k : Int), t, bb⟩ s = none by simp [stepS, on, show (p.fns)[k]? = some g from hxH, show tk s.st g.ps = _ from hTH, show g.res = 0 from hrsH]]
          exact ⟨_, _, _, _, _, _, _, _, _, _, _, _, _, _, rfl⟩
        · have hzb : (rs != 0) = true := by simpa using hz
          have hzH : Hidden (¬ rs = 0) := hz
          clear hz sz
          go_wp2_with fail
          go_at_call 43; refine (put_any none 0 0 [] rs _ rfl ⟨Nat.le_refl _, by simp [maxLen], fun _ => rfl, Or.inl rfl⟩ (by omega)).mono ?_; rintro e w2 ⟨v, rfl, hv, f2⟩
          have b7 := f2.cellN b6
          have f12 : Fr (fun _ => False) V w2 := (show Fr (fun _ => False) V w1 from f1H).same f2
          obtain ⟨⟨t0, t1, t2, t3, t4, t5, t6⟩, u0, u1, u2, u3, u4, u5, u6⟩ := box7 (f12.heap r4H (fun f => f))
          obtain ⟨vo, vc, rfl, hvB⟩ := OwI.inB hv
          have hvH : Hidden (InB w2 V.heap.size vo vc ([] ++ [rs])) := hvB.low (show Fr (fun _ => False) V w1 from f1H).size
          have f2H : Hidden (Fr (fun _ => False) V w2) := f12
          obtain ⟨Y, hY⟩ : ∃ Y, Y = ([] ++ [rs]).length := ⟨_, rfl⟩
          rw [← hY]
          have hYH : Hidden (Y = ([] ++ [rs]).length) := hY
          clear hv f2 f12 hvB hY b1 b2 b3 b4 b5 b6
          go_wp2_with fail
          have sz := (show V.heap.size = w.heap.size + 5 from szH)
          refine fl_post2 (u := 8) (W := w2) rfl rfl rfl ((show Fr (fun _ => False) V w2 from f2H).heap r4H (fun f => f)) (by omega) ((show Fr (fun _ => False) w V from fVH).same f2H) ?_
          intro W' f7 fW'
          rw [show stepS f p ⟨10, (k : Int), t, bb⟩ s = none by simp [stepS, on, show (p.fns)[k]? = some g from hxH, show tk s.st g.ps = _ from hTH, show g.res = rs from hrsH, show ¬ rs = 0 from hzH]]
          exact ⟨_, _, _, _, _, _, _, _, _, _, _, _, _, _, rfl⟩
    · have kt := fun W (hW : Fr (fun _ => False) V W) => rtaken_any so ap ns np sc cp s.st g.ps W hnsH hnp.symm (InL.keep (InL.keep (show InB w B so sc s.st from hsH).1 fVH) hW) (InL.keep hI hW)
      have hTH : Hidden (tk s.st g.ps = some r) := hT
      rw [hT] at kt
      clear hT hk hc hx hI hnp hrs
      simp only [tkV, Option.isSome_some] at kt
      obtain ⟨X, hX⟩ : ∃ X, X = r.length := ⟨_, rfl⟩
      have hXH : Hidden (X = r.length) := hX
      have hX6 : Hidden (X ≤ 600) := by show _ ≤ _; have := (tk_some (show tk s.st g.ps = some r from hTH)).2; have : s.st.length = ns := hnsH; have : ns ≤ 600 := (show ns ≤ 600 ∧ nt ≤ 600 from hlH).1; omega
      rw [← hX] at kt
      clear hX
      go_upto_region 16 with fail
      go_region_held3 (fun w' => w'.cell? ⟨w.heap.size + 1, 0, none⟩ = some (.slice (some ⟨b, off, none⟩) p.fns.length c4) ∧ w'.cell? ⟨w.heap.size + 1 + 1, 1, none⟩ = some (ci (k : Int)) ∧ w'.cell? ⟨w.heap.size + 1 + 1 + 1, 0, none⟩ = some (.slice so ns sc) ∧ w'.cell? ⟨b, off + k * 2, none⟩ = some (.slice ap np cp)) (first | (refine ⟨by with_reducible assumption, by with_reducible assumption, by with_reducible assumption, by with_reducible assumption⟩) | go_keep) (first
        | (go_at_call 44; refine (kt _ (by first | exact Fr.refl _ _ | exact Fr.drew _ _)).mono ?_; rintro e w1 ⟨rfl, f1'⟩
           have f1 : Fr (fun _ => False) V w1 := (by first | exact f1' | exact (Fr.drew _ _).same f1')
           have b1 := f1.cellN y0; have b2 := f1.cellN i1; have b3 := f1.cellN s0; have b4 := f1.cellN ex; have b5 := f1.cellN ey; have b6 := f1.cellN s1
           have f1H : Hidden (Fr (fun _ => False) V w1) := f1
           clear f1 f1'))
      all_goals
        clear kt y0 i0 i1 i2 i3 s0 s1 ex ey
        have sz := (show V.heap.size = w.heap.size + 5 from szH)
        by_cases hz : rs = 0
        · subst hz
          obtain ⟨⟨t0, t1, t2, t3, t4, t5, t6⟩, u0, u1, u2, u3, u4, u5, u6⟩ := box7 ((show Fr (fun _ => False) V w1 from f1H).heap r4H (fun f => f))
          go_wp2_with fail
          refine fl_post (u := 8) (W := w1) rfl rfl rfl ((show Fr (fun _ => False) V w1 from f1H).heap r4H (fun f => f)) (by omega) ((show Fr (fun _ => False) w V from fVH).same f1H) ?_
          intro W' fW'
          rw [show stepS f p ⟨10, (k : Int), t, bb⟩ s = some (some ⟨r, s.tr⟩, none) by simp [stepS, on, show (p.fns)[k]? = some g from hxH, show tk s.st g.ps = _ from hTH, show g.res = 0 from hrsH]]
          refine ⟨_, _, _, _, _, _, _, _, _, _, _, _, rfl, fun z hz => ?_, fun z hz => by cases hz⟩
          cases hz
          exact ⟨so, sc, to', tc, by rw [show X = _ from hXH, show s.tr.length = nt from hntH], ((show InB w B so sc s.st from hsH).tk hTH).keep fW' (fun _ _ f => f), (show TrB w B to' tc s.tr from htH).keep fW' (fun _ _ f => f)⟩
        · have hzb : (rs != 0) = true := by simpa using hz
          have hzH : Hidden (¬ rs = 0) := hz
          clear hz sz
          go_wp2_with fail
          go_at_call 43; refine (put_any so X sc r rs _ (show X = r.length from hXH).symm (InL.keep ((show InB w B so sc s.st from hsH).tk hTH).1 (Fr.same fVH f1H)) (by have : X ≤ 600 := hX6; omega)).mono ?_; rintro e w2 ⟨v, rfl, hv, f2⟩
          have b7 := f2.cellN b6
          have f12 : Fr (fun _ => False) V w2 := (show Fr (fun _ => False) V w1 from f1H).same f2
          obtain ⟨⟨t0, t1, t2, t3, t4, t5, t6⟩, u0, u1, u2, u3, u4, u5, u6⟩ := box7 (f12.heap r4H (fun f => f))
          obtain ⟨vo, vc, rfl, hvB⟩ := OwI.inB hv
          have hvH : Hidden (InB w2 V.heap.size vo vc (r ++ [rs])) := hvB.low (show Fr (fun _ => False) V w1 from f1H).size
          have f2H : Hidden (Fr (fun _ => False) V w2) := f12
          obtain ⟨Y, hY⟩ : ∃ Y, Y = (r ++ [rs]).length := ⟨_, rfl⟩
          rw [← hY]
          have hYH : Hidden (Y = (r ++ [rs]).length) := hY
          clear hv f2 f12 hvB hY b1 b2 b3 b4 b5 b6
          go_wp2_with fail
          have sz := (show V.heap.size = w.heap.size + 5 from szH)
          refine fl_post2 (u := 8) (W := w2) rfl rfl rfl ((show Fr (fun _ => False) V w2 from f2H).heap r4H (fun f => f)) (by omega) ((show Fr (fun _ => False) w V from fVH).same f2H) ?_
          intro W' f7 fW'
          rw [show stepS f p ⟨10, (k : Int), t, bb⟩ s = some (some ⟨r ++ [rs], s.tr⟩, none) by simp [stepS, on, show (p.fns)[k]? = some g from hxH, show tk s.st g.ps = _ from hTH, show g.res = rs from hrsH, show ¬ rs = 0 from hzH]]
          refine ⟨_, _, _, _, _, _, _, _, _, _, _, _, rfl, fun z hz => ?_, fun z hz => by cases hz⟩
          cases hz
          exact ⟨vo, vc, to', tc, by rw [show Y = _ from hYH, show s.tr.length = nt from hntH], ((show InB w2 V.heap.size vo vc (r ++ [rs]) from hvH).keep f7 (fun k hk e => by omega)).low (by have : B ≤ w.heap.size := hBH; omega), (show TrB w B to' tc s.tr from htH).keep fW' (fun _ _ f => f)⟩
set_option maxRecDepth 20000 in
set_option maxHeartbeats 4000000 in
theorem lstep_15 (f : Fu) (p : Fm) (a0 a2 a3 a4 a5 : Option Addr) (c0 c2 c3 c4 c5 : Nat) (n t bb : Int) (s : Sp) (so to' : Option Addr) (sc tc ns nt B : Nat) (w : World) (hns : s.st.length = ns) (hnt : s.tr.length = nt) (hF : Fi w f p a0 a2 a3 a4 a5 c0 c2 c3 c4 c5) (hs : InB w B so sc s.st) (ht : TrB w B to' tc s.tr) (hl : ns ≤ 600) (hl2 : nt ≤ 600) (hB : B ≤ w.heap.size) :
    Calls Tryz.prog 48 #[.agg #[.slice a0 f.sg.ps.length c0, ci f.sg.res, .slice a2 f.loc.length c2, .slice a3 f.cd.length c3], .agg #[.slice a4 p.fns.length c4, .slice a5 p.vars.length c5], inV ⟨15, n, t, bb⟩, .agg #[.slice so ns sc, .slice to' nt tc]] w fun e w' => ∃ v, e = .returned v ∧ FlR w' B v (stepS f p ⟨15, n, t, bb⟩ s) ∧ Fr (fun _ => False) w w' := by
  obtain ⟨V, hV⟩ : ∃ V, V = (((((w.alloc (.cells #[.slice a0 f.sg.ps.length c0, ci f.sg.res, .slice a2 f.loc.length c2, .slice a3 f.cd.length c3] 27 (0, 0))).alloc (.cells #[.slice a4 p.fns.length c4, .slice a5 p.vars.length c5] 30 (0, 0))).alloc (.cells #[ci 15, ci n, ci t, .int .u64 bb] 84 (0, 0))).alloc (.cells #[.slice so ns sc, .slice to' nt tc] 80 (0, 0))).alloc (.cells z7 86 (0, 0))) := ⟨_, rfl⟩
  have fV : Fr (fun _ => False) w V := by rw [hV]; exact ((((Fr.alloc _ _ _).same (Fr.alloc _ _ _)).same (Fr.alloc _ _ _)).same (Fr.alloc _ _ _)).same (Fr.alloc _ _ _)
  have szV : V.heap.size = w.heap.size + 5 := by rw [hV]; simp
  have r0 : V.heap[w.heap.size]? = some (.cells #[.slice a0 f.sg.ps.length c0, ci f.sg.res, .slice a2 f.loc.length c2, .slice a3 f.cd.length c3] 27 (0, 0)) := by
    rw [hV]
    refine (Fr.alloc (fun _ => False) _ _).heap ?_ (fun f => f)
    refine (Fr.alloc (fun _ => False) _ _).heap ?_ (fun f => f)
    refine (Fr.alloc (fun _ => False) _ _).heap ?_ (fun f => f)
    refine (Fr.alloc (fun _ => False) _ _).heap ?_ (fun f => f)
    exact alloc_new _ _
  have r1 : V.heap[w.heap.size + 1]? = some (.cells #[.slice a4 p.fns.length c4, .slice a5 p.vars.length c5] 30 (0, 0)) := by
    rw [hV]
    refine (Fr.alloc (fun _ => False) _ _).heap ?_ (fun f => f)
    refine (Fr.alloc (fun _ => False) _ _).heap ?_ (fun f => f)
    refine (Fr.alloc (fun _ => False) _ _).heap ?_ (fun f => f)
    exact alloc_at _ _ _ (by simp)
  have r2 : V.heap[w.heap.size + 1 + 1]? = some (.cells #[ci 15, ci n, ci t, .int .u64 bb] 84 (0, 0)) := by
    rw [hV]
    refine (Fr.alloc (fun _ => False) _ _).heap ?_ (fun f => f)
    refine (Fr.alloc (fun _ => False) _ _).heap ?_ (fun f => f)
    exact alloc_at _ _ _ (by simp)
  have r3 : V.heap[w.heap.size + 1 + 1 + 1]? = some (.cells #[.slice so ns sc, .slice to' nt tc] 80 (0, 0)) := by
    rw [hV]
    refine (Fr.alloc (fun _ => False) _ _).heap ?_ (fun f => f)
    exact alloc_at _ _ _ (by simp)
  have r4 : V.heap[w.heap.size + 1 + 1 + 1 + 1]? = some (.cells z7 86 (0, 0)) := by
    rw [hV]
    exact alloc_at _ _ _ (by simp)
  obtain ⟨i0, i1, i2, i3⟩ := box4 r2
  have s0 : V.cell? ⟨w.heap.size + 1 + 1 + 1, 0, none⟩ = some (.slice so ns sc) := cell_of_row _ _ 0 _ _ _ r3
  have s1 : V.cell? ⟨w.heap.size + 1 + 1 + 1, 1, none⟩ = some (.slice to' nt tc) := cell_of_row _ _ 1 _ _ _ r3
  have r4H : Hidden (V.heap[w.heap.size + 1 + 1 + 1 + 1]? = some (.cells z7 86 (0, 0))) := r4
  have fVH : Hidden (Fr (fun _ => False) w V) := fV
  have hVH : Hidden (V = _) := hV
  have hsH : Hidden (InB w B so sc s.st) := hs
  have htH : Hidden (TrB w B to' tc s.tr) := ht
  have hntH : Hidden (s.tr.length = nt) := hnt
  have hnsH : Hidden (s.st.length = ns) := hns
  have hFH : Hidden (Fi w f p a0 a2 a3 a4 a5 c0 c2 c3 c4 c5) := hF
  have r0H : Hidden (V.heap[w.heap.size]? = some (.cells #[.slice a0 f.sg.ps.length c0, ci f.sg.res, .slice a2 f.loc.length c2, .slice a3 f.cd.length c3] 27 (0, 0))) := r0
  have r1H : Hidden (V.heap[w.heap.size + 1]? = some (.cells #[.slice a4 p.fns.length c4, .slice a5 p.vars.length c5] 30 (0, 0))) := r1
  have r2H : Hidden (V.heap[w.heap.size + 1 + 1]? = some (.cells #[ci 15, ci n, ci t, .int .u64 bb] 84 (0, 0))) := r2
  have r3H : Hidden (V.heap[w.heap.size + 1 + 1 + 1]? = some (.cells #[.slice so ns sc, .slice to' nt tc] 80 (0, 0))) := r3
  have szH : Hidden (V.heap.size = w.heap.size + 5) := szV
  have hBH : Hidden (B ≤ w.heap.size) := hB
  have hlH : Hidden (ns ≤ 600 ∧ nt ≤ 600) := ⟨hl, hl2⟩
  clear hF hs ht hV fV r0 r1 r2 r3 r4 hns hnt szV hB hl hl2
  go_enter Tryz.func48, Tryz.ntmps48
  go_upto_region 1 with fail
  rw [← (show V = _ from hVH)]
  clear hVH
  obtain ⟨news, n1, n2, n3', n4, n5⟩ := (show TrB w B to' tc s.tr from htH).cells
  have n3 : ∀ ad, to' = some ad → ∀ (j : Nat) (u : Value), news[j]? = some u → V.cell? (ad.add j) = some u := fun ad e j u hu => (show Fr (fun _ => False) w V from fVH).cellN (n3' ad e j u hu)
  rw [show s.tr.length = nt from hntH] at n1 n2
  have n1H : Hidden (news.length = nt * 2) := n1
  have n2H : Hidden (to' = none → nt = 0 ∧ tc = 0) := n2
  have n3H : Hidden (∀ ad, to' = some ad → ∀ (j : Nat) (u : Value), news[j]? = some u → V.cell? (ad.add j) = some u) := n3
  have n4H : Hidden (∀ u ∈ news, u.oneCell' = true) := n4
  have n5H : Hidden (∀ (i : Nat) (x : Int × List Int), s.tr[i]? = some x → ∃ ap cp, InB w B ap cp x.2 ∧ news[i * 2]? = some (ci x.1) ∧ news[i * 2 + 1]? = some (.slice ap x.2.length cp)) := n5
  have kp := put_any so ns sc s.st 1
  clear n1 n2 n3 n3' n4 n5
  go_upto_region 12 with (first
    | (at_builtin
       refine wpl_app rfl _ _ 78 134 _ 2 32 Tryz.underlying78 info_open rfl (by decide) rfl V.heap.size (.slice none 0 0) 0 [] to' nt tc news rfl (own_nil _ _ _ _) rfl ?c1 ?c2 ?c3 ?c4 ?c5 ?c6 ?c7 ?_
       case c1 => exact n1H
       case c2 => exact n2H
       case c3 => exact n3H
       case c4 => exact n4H
       case c5 => have := (show ns ≤ 600 ∧ nt ≤ 600 from hlH).2; simp only [maxLen]; omega
       case c6 => have := (show ns ≤ 600 ∧ nt ≤ 600 from hlH).2; omega
       case c7 => exact Nat.le_refl _
       intro v1 w1 h1 f1 _
       have h1H : Hidden (w1.ownsRow V.heap.size 134 2 v1 nt news) := by
         show w1.ownsRow _ _ 2 v1 nt news
         simpa using h1
       have f1N : Fr (fun _ => False) V w1 := f1.mono (fun k _ e => by cases e)
       have b1 := f1N.cellN i1; have b2 := f1N.cellN s0; have b3 := f1N.cellN s1
       have f1H : Hidden (Fr (fun _ => False) V w1) := f1N
       clear h1 f1 f1N)
    | (at_builtin
       refine wpl_append rfl _ _ 78 134 _ 2 32 Tryz.underlying78 info_open rfl (by decide) rfl V.heap.size v1 nt news ⟨w1.heap.size, 0, none⟩ 1 1 [ci n, .slice so ns sc] rfl ?d0 rfl rfl ?d1 ?d2 ?d3 ?d4 ?d5 ?_
       case d0 => exact own_keep (show w1.ownsRow V.heap.size 134 2 v1 nt news from h1H) (Fr.alloc (fun _ => False) _ _) (fun _ _ f => f)
       case d1 =>
         intro j u hu
         rw [Addr.add_lit, Nat.zero_add]
         rcases j with _ | _ | j
         · simp at hu; subst hu; exact cell_of_row _ _ 0 _ _ _ (alloc_new _ _)
         · simp at hu; subst hu; exact cell_of_row _ _ 1 _ _ _ (alloc_new _ _)
         · simp at hu
       case d2 => intro u hu; simp only [List.mem_cons, List.not_mem_nil, or_false] at hu; rcases hu with rfl | rfl <;> rfl
       case d3 => have := (show ns ≤ 600 ∧ nt ≤ 600 from hlH).2; simp only [maxLen]; omega
       case d4 => have := (show ns ≤ 600 ∧ nt ≤ 600 from hlH).2; omega
       case d5 => have := (show Fr (fun _ => False) V w1 from f1H).size; simp; omega
       intro v2 w2 h2 a2 _
       have h2H : Hidden (w2.ownsRow V.heap.size 134 2 v2 (nt + 1) (news ++ [ci n, .slice so ns sc])) := h2
       have f2N : Fr (fun _ => False) V w2 := (show Fr (fun _ => False) V w1 from f1H).over ((Fr.alloc (fun k => v1.ownBlock = some k) _ _).same a2) (fun k e => (own_block (show w1.ownsRow V.heap.size 134 2 v1 nt news from h1H) k e).1)
       have f2H : Hidden (Fr (fun _ => False) V w2) := f2N
       have m1 := f2N.cellN s0; have m2 := f2N.cellN s1
       clear h2 a2 f2N b1 b2 b3))
  obtain ⟨vo, vc, hv2, _⟩ := own_slice (show w2.ownsRow V.heap.size 134 2 v2 (nt + 1) (news ++ [ci n, .slice so ns sc]) from h2H) (by decide)
  subst hv2
  have kpx : ∀ W, Fr (fun _ => False) w2 W → _ := fun W hW => kp W (show s.st.length = ns from hnsH) (InL.keep (InL.keep (InL.keep (show InB w B so sc s.st from hsH).1 fVH) f2H) hW) (by have := (show ns ≤ 600 ∧ nt ≤ 600 from hlH).1; omega)
  clear kp i0 i1 i2 i3 s0 s1
  go_region_held3 (fun w' => w'.cell? ⟨w.heap.size + 1 + 1 + 1, 0, none⟩ = some (.slice so ns sc) ∧ w'.cell? ⟨w.heap.size + 1 + 1 + 1, 1, none⟩ = some (.slice to' nt tc)) (first | (refine ⟨by with_reducible assumption, by with_reducible assumption⟩) | go_keep) (first
    | (go_at_call 43; refine (kpx _ (by first | exact Fr.refl _ _ | exact Fr.drew _ _)).mono ?_; rintro e w3 ⟨v, rfl, hv, f3'⟩
       have f3 : Fr (fun _ => False) w2 w3 := (by first | exact f3' | exact (Fr.drew _ _).same f3')
       have b1 := f3.cellN m1; have b2 := f3.cellN m2
       have f13 : Fr (fun _ => False) V w3 := (show Fr (fun _ => False) V w2 from f2H).same f3
       obtain ⟨⟨t0, t1, t2, t3, t4, t5, t6⟩, u0, u1, u2, u3, u4, u5, u6⟩ := box7 (f13.heap r4H (fun f => f))
       have hv2 : OwI w3 w2.heap.size v (s.st ++ [1]) := hv
       obtain ⟨po, pc, rfl, hvB⟩ := OwI.inB hv2
       have hvH : Hidden (InB w3 V.heap.size po pc (s.st ++ [1])) := hvB.low (show Fr (fun _ => False) V w2 from f2H).size
       have f13H : Hidden (Fr (fun _ => False) V w3) := f13
       have f3H : Hidden (Fr (fun _ => False) w2 w3) := f3
       obtain ⟨Y, hY⟩ : ∃ Y, Y = (s.st ++ [(1 : Int)]).length := ⟨_, rfl⟩
       rw [← hY]
       have hYH : Hidden (Y = (s.st ++ [(1 : Int)]).length) := hY
       clear hv hv2 f3 f3' f13 hvB hY))
  all_goals
    clear kpx
    go_wp2_with fail
    have sz := (show V.heap.size = w.heap.size + 5 from szH)
    refine fl_post2 (u := 8) (W := w3) rfl rfl rfl ((show Fr (fun _ => False) V w3 from f13H).heap r4H (fun f => f)) (by omega) ((show Fr (fun _ => False) w V from fVH).same f13H) ?_
    intro W' f7 fW'
    rw [show stepS f p ⟨15, n, t, bb⟩ s = some (some ⟨s.st, s.tr ++ [(n, s.st)]⟩, some ⟨s.st ++ [1], s.tr⟩) by simp [stepS]]
    have hBs : B ≤ V.heap.size := by have : B ≤ w.heap.size := hBH; omega
    have hnsE : s.st.length = ns := hnsH
    have hntE : s.tr.length = nt := hntH
    have hsW : InB W' B so sc s.st := (show InB w B so sc s.st from hsH).keep fW' (fun _ _ f => f)
    refine ⟨_, _, _, _, _, _, _, _, _, _, _, _, rfl, fun z hz => ?_, fun z hz => ?_⟩
    · cases hz
      have hown := own_keep (own_keep (show w2.ownsRow V.heap.size 134 2 _ (nt + 1) (news ++ [ci n, .slice so ns sc]) from h2H) (show Fr (fun _ => False) w2 w3 from f3H) (fun _ _ f => f)) f7 (fun k e e2 => by
        have := (own_block (show w2.ownsRow V.heap.size 134 2 _ (nt + 1) (news ++ [ci n, .slice so ns sc]) from h2H) k e).1
        omega)
      obtain ⟨ao, cap, ev, hT⟩ := TrB.of_own (B := B) (tr := s.tr ++ [(n, s.st)]) hown (by simp [hntE]) hBs (by simp) (fun i x hx => by
        have hlen : news.length = nt * 2 := n1H
        rw [List.getElem?_append] at hx
        split at hx
        · rename_i hi
          rw [hntE] at hi
          obtain ⟨ap, cp, q1, q2, q3⟩ := (show ∀ (i : Nat) (x : Int × List Int), s.tr[i]? = some x → _ from n5H) i x hx
          refine ⟨ap, cp, q1.keep fW' (fun _ _ f => f), ?_, ?_⟩
          · rw [List.getElem?_append_left (by omega)]; exact q2
          · rw [List.getElem?_append_left (by omega)]; exact q3
        · rename_i hi
          rw [hntE] at hi hx
          have hi0 : i = nt := by
            have := (List.getElem?_eq_some_iff.1 hx).1
            simp at this
            omega
          subst hi0
          simp only [Nat.sub_self, List.getElem?_cons_zero, Option.some.injEq] at hx
          subst hx
          refine ⟨so, sc, hsW, ?_, ?_⟩
          · rw [List.getElem?_append_right (by omega), hlen, Nat.sub_self]; rfl
          · rw [List.getElem?_append_right (by omega), hlen, show i * 2 + 1 - i * 2 = 1 by omega, hnsE]; rfl)
      simp only [Value.slice.injEq] at ev
      obtain ⟨rfl, _, rfl⟩ := ev
      exact ⟨so, sc, vo, vc, by rw [hnsE]; simp [hntE], hsW, hT⟩
    · cases hz
      exact ⟨po, pc, to', tc, by rw [show Y = _ from hYH, hntE], ((show InB w3 V.heap.size po pc (s.st ++ [1]) from hvH).keep f7 (fun k hk e => by omega)).low hBs, (show TrB w B to' tc s.tr from htH).keep fW' (fun _ _ f => f)⟩
end Go.Proofs.YtnmcehpdiopaiaaGreatDoor.Cd

namespace Go.Proofs.YtnmcehpdiopaiaaGreatDoor.Cd
open Go.RowKit Ty
set_option linter.unusedSimpArgs false
set_option linter.unusedVariables false

/-- No cell of a box is an int. -/
def NoInt (cs : Array Value) : Prop := ∀ (i : Nat) (x : Int), cs[i]? ≠ some (ci x)
theorem InB.box {w w' : World} {B g : Nat} {ao : Option Addr} {cap : Nat} {l : List Int} {cs : Array Value} {t : TypeId} (h : InB w B ao cap l) (hg : w.heap[g]? = some (.cells cs t (0, 0))) (hno : NoInt cs) (f : Fr (fun k => k = g) w w') : InB w' B ao cap l := by
  obtain ⟨⟨h1, h2, h3, h4⟩, h5⟩ := h
  refine ⟨⟨h1, h2, h3, ?_⟩, h5⟩
  rcases h4 with h4 | ⟨b, off, rfl, hc⟩
  · exact Or.inl h4
  · refine Or.inr ⟨b, off, rfl, fun i x hx => f.cell (hc i x hx) (fun e => ?_)⟩
    have e : b = g := e
    subst e
    have := hc i x hx
    rw [cell_of_row w b _ cs t (0, 0) hg] at this
    exact hno _ _ this
theorem TrB.box {w w' : World} {B g : Nat} {ao : Option Addr} {cap : Nat} {l : List (Int × List Int)} {cs : Array Value} {t : TypeId} (h : TrB w B ao cap l) (hg : w.heap[g]? = some (.cells cs t (0, 0))) (hno : NoInt cs) (f : Fr (fun k => k = g) w w') : TrB w' B ao cap l := by
  obtain ⟨h1, h2, h3, h5, h4⟩ := h
  refine ⟨h1, h2, h3, h5, ?_⟩
  rcases h4 with h4 | ⟨b, off, rfl, hc⟩
  · exact Or.inl h4
  · refine Or.inr ⟨b, off, rfl, fun i x hx => ?_⟩
    obtain ⟨ap, cp, q1, q2, q3⟩ := hc i x hx
    have hne : ¬ b = g := by
      intro e
      subst e
      rw [cell_of_row w b _ cs t (0, 0) hg] at q2
      exact hno _ _ q2
    exact ⟨ap, cp, q1.box hg hno f, f.cell q2 hne, f.cell q3 hne⟩
theorem ShB.box {w w' : World} {B g : Nat} {v : Value} {s : Sp} {cs : Array Value} {t : TypeId} (h : ShB w B v s) (hg : w.heap[g]? = some (.cells cs t (0, 0))) (hno : NoInt cs) (f : Fr (fun k => k = g) w w') : ShB w' B v s := by
  obtain ⟨so, sc, to', tc, e, h1, h2⟩ := h
  exact ⟨so, sc, to', tc, e, h1.box hg hno f, h2.box hg hno f⟩
theorem FlR.box {w w' : World} {B g : Nat} {v : Value} {o : Option (Option Sp × Option Sp)} {cs : Array Value} {t : TypeId} (h : FlR w B v o) (hg : w.heap[g]? = some (.cells cs t (0, 0))) (hno : NoInt cs) (f : Fr (fun k => k = g) w w') : FlR w' B v o := by
  cases o with
  | none => exact h
  | some z =>
    obtain ⟨x, y⟩ := z
    obtain ⟨o3, n3, k3, o4, n4, k4, o5, n5, k5, o6, n6, k6, e, h1, h2⟩ := h
    exact ⟨o3, n3, k3, o4, n4, k4, o5, n5, k5, o6, n6, k6, e, fun s hs => (h1 s hs).box hg hno f, fun s hs => (h2 s hs).box hg hno f⟩
theorem FlR.keep {w w' : World} {B : Nat} {v : Value} {o : Option (Option Sp × Option Sp)} (h : FlR w B v o) (f : Fr (fun _ => False) w w') : FlR w' B v o := by
  cases o with
  | none => exact h
  | some z =>
    obtain ⟨x, y⟩ := z
    obtain ⟨o3, n3, k3, o4, n4, k4, o5, n5, k5, o6, n6, k6, e, h1, h2⟩ := h
    exact ⟨o3, n3, k3, o4, n4, k4, o5, n5, k5, o6, n6, k6, e, fun s hs => (h1 s hs).keep f (fun _ _ f => f), fun s hs => (h2 s hs).keep f (fun _ _ f => f)⟩
theorem FlR.seven {w : World} {B : Nat} {v : Value} {o : Option (Option Sp × Option Sp)} (h : FlR w B v o) : ∃ ok nx fr o3 n3 k3 o4 n4 k4 o5 n5 k5 o6 n6 k6, v = .agg #[.bool ok, .bool nx, .bool fr, .slice o3 n3 k3, .slice o4 n4 k4, .slice o5 n5 k5, .slice o6 n6 k6] := by
  cases o with
  | none => obtain ⟨x1, x2, o3, n3, k3, o4, n4, k4, o5, n5, k5, o6, n6, k6, e⟩ := h; exact ⟨false, _, _, _, _, _, _, _, _, _, _, _, _, _, _, e⟩
  | some z =>
    obtain ⟨x, y⟩ := z
    obtain ⟨o3, n3, k3, o4, n4, k4, o5, n5, k5, o6, n6, k6, e, h1, h2⟩ := h
    exact ⟨true, _, _, _, _, _, _, _, _, _, _, _, _, _, _, e⟩
theorem z7_no : NoInt z7 := by
  intro i x h
  rcases i with _ | _ | _ | _ | _ | _ | _ | i <;> simp [z7] at h
theorem leap_any (f : Fu) (p : Fm) (a0 a2 a3 a4 a5 : Option Addr) (c0 c2 c3 c4 c5 : Nat) (q n t bb : Int) (hq : q = 8 ∨ q = 9 ∨ q = 10 ∨ q = 11 ∨ q = 13 ∨ q = 15) (hn : 0 ≤ n) (s : Sp) (so to' : Option Addr) (sc tc ns nt B : Nat) (w : World) (hns : s.st.length = ns) (hnt : s.tr.length = nt) (hF : Fi w f p a0 a2 a3 a4 a5 c0 c2 c3 c4 c5) (hs : InB w B so sc s.st) (ht : TrB w B to' tc s.tr) (hl : ns ≤ 600) (hl2 : nt ≤ 600) (hB : B ≤ w.heap.size) :
    Calls Tryz.prog 48 #[.agg #[.slice a0 f.sg.ps.length c0, ci f.sg.res, .slice a2 f.loc.length c2, .slice a3 f.cd.length c3], .agg #[.slice a4 p.fns.length c4, .slice a5 p.vars.length c5], inV ⟨q, n, t, bb⟩, .agg #[.slice so ns sc, .slice to' nt tc]] w fun e w' => ∃ v, e = .returned v ∧ FlR w' B v (stepS f p ⟨q, n, t, bb⟩ s) ∧ Fr (fun _ => False) w w' := by
  obtain ⟨k, rfl⟩ : ∃ k : Nat, n = k := ⟨n.toNat, by omega⟩
  rcases hq with rfl | rfl | rfl | rfl | rfl | rfl
  · exact lstep_8 f p a0 a2 a3 a4 a5 c0 c2 c3 c4 c5 k t bb s so to' sc tc ns nt B w hns hnt hF hs ht hl hl2 hB
  · exact lstep_9 f p a0 a2 a3 a4 a5 c0 c2 c3 c4 c5 k t bb s so to' sc tc ns nt B w hns hnt hF hs ht hl hl2 hB
  · exact lstep_10 f p a0 a2 a3 a4 a5 c0 c2 c3 c4 c5 k t bb s so to' sc tc ns nt B w hns hnt hF hs ht hl hl2 hB
  · exact lstep_11 f p a0 a2 a3 a4 a5 c0 c2 c3 c4 c5 k t bb s so to' sc tc ns nt B w hns hnt hF hs ht hl hl2 hB
  · exact lstep_13 f p a0 a2 a3 a4 a5 c0 c2 c3 c4 c5 k t bb s so to' sc tc ns nt B w hns hnt hF hs ht hl hl2 hB
  · exact lstep_15 f p a0 a2 a3 a4 a5 c0 c2 c3 c4 c5 k t bb s so to' sc tc ns nt B w hns hnt hF hs ht hl hl2 hB
set_option maxRecDepth 20000 in
set_option maxHeartbeats 4000000 in
theorem dstep_q (f : Fu) (p : Fm) (a0 a2 a3 a4 a5 : Option Addr) (c0 c2 c3 c4 c5 : Nat) (q n t bb : Int) (hq : q = 8 ∨ q = 9 ∨ q = 10 ∨ q = 11 ∨ q = 13 ∨ q = 15) (hn : 0 ≤ n) (s : Sp) (so to' : Option Addr) (sc tc ns nt B : Nat) (w : World) (hns : s.st.length = ns) (hnt : s.tr.length = nt) (hF : Fi w f p a0 a2 a3 a4 a5 c0 c2 c3 c4 c5) (hs : InB w B so sc s.st) (ht : TrB w B to' tc s.tr) (hl : ns ≤ 600) (hl2 : nt ≤ 600) (hB : B ≤ w.heap.size) :
    Calls Tryz.prog 27 #[.agg #[.slice a0 f.sg.ps.length c0, ci f.sg.res, .slice a2 f.loc.length c2, .slice a3 f.cd.length c3], .agg #[.slice a4 p.fns.length c4, .slice a5 p.vars.length c5], inV ⟨q, n, t, bb⟩, .agg #[.slice so ns sc, .slice to' nt tc]] w fun e w' => ∃ v, e = .returned v ∧ FlR w' B v (stepS f p ⟨q, n, t, bb⟩ s) ∧ Fr (fun _ => False) w w' := by
  obtain ⟨V, hV⟩ : ∃ V, V = (((((((w.alloc (.cells #[.slice a0 f.sg.ps.length c0, ci f.sg.res, .slice a2 f.loc.length c2, .slice a3 f.cd.length c3] 27 (0, 0))).alloc (.cells #[.slice a4 p.fns.length c4, .slice a5 p.vars.length c5] 30 (0, 0))).alloc (.cells #[ci q, ci n, ci t, .int .u64 bb] 84 (0, 0))).alloc (.cells #[.slice so ns sc, .slice to' nt tc] 80 (0, 0))).alloc (.cells z7 86 (0, 0))).alloc (.cells z7 86 (0, 0))).alloc (.cells #[.bool true, .bool true, .bool false, .slice so ns sc, .slice to' nt tc, .slice none 0 0, .slice none 0 0] 86 (0, 0))) := ⟨_, rfl⟩
  have fV : Fr (fun _ => False) w V := by rw [hV]; exact ((((((Fr.alloc _ _ _).same (Fr.alloc _ _ _)).same (Fr.alloc _ _ _)).same (Fr.alloc _ _ _)).same (Fr.alloc _ _ _)).same (Fr.alloc _ _ _)).same (Fr.alloc _ _ _)
  have szV : V.heap.size = w.heap.size + 7 := by rw [hV]; simp
  have r0 : V.heap[w.heap.size]? = some (.cells #[.slice a0 f.sg.ps.length c0, ci f.sg.res, .slice a2 f.loc.length c2, .slice a3 f.cd.length c3] 27 (0, 0)) := by
    rw [hV]
    refine (Fr.alloc (fun _ => False) _ _).heap ?_ (fun f => f)
    refine (Fr.alloc (fun _ => False) _ _).heap ?_ (fun f => f)
    refine (Fr.alloc (fun _ => False) _ _).heap ?_ (fun f => f)
    refine (Fr.alloc (fun _ => False) _ _).heap ?_ (fun f => f)
    refine (Fr.alloc (fun _ => False) _ _).heap ?_ (fun f => f)
    refine (Fr.alloc (fun _ => False) _ _).heap ?_ (fun f => f)
    exact alloc_new _ _
  have r1 : V.heap[w.heap.size + 1]? = some (.cells #[.slice a4 p.fns.length c4, .slice a5 p.vars.length c5] 30 (0, 0)) := by
    rw [hV]
    refine (Fr.alloc (fun _ => False) _ _).heap ?_ (fun f => f)
    refine (Fr.alloc (fun _ => False) _ _).heap ?_ (fun f => f)
    refine (Fr.alloc (fun _ => False) _ _).heap ?_ (fun f => f)
    refine (Fr.alloc (fun _ => False) _ _).heap ?_ (fun f => f)
    refine (Fr.alloc (fun _ => False) _ _).heap ?_ (fun f => f)
    exact alloc_at _ _ _ (by simp)
  have r2 : V.heap[w.heap.size + 1 + 1]? = some (.cells #[ci q, ci n, ci t, .int .u64 bb] 84 (0, 0)) := by
    rw [hV]
    refine (Fr.alloc (fun _ => False) _ _).heap ?_ (fun f => f)
    refine (Fr.alloc (fun _ => False) _ _).heap ?_ (fun f => f)
    refine (Fr.alloc (fun _ => False) _ _).heap ?_ (fun f => f)
    refine (Fr.alloc (fun _ => False) _ _).heap ?_ (fun f => f)
    exact alloc_at _ _ _ (by simp)
  have r3 : V.heap[w.heap.size + 1 + 1 + 1]? = some (.cells #[.slice so ns sc, .slice to' nt tc] 80 (0, 0)) := by
    rw [hV]
    refine (Fr.alloc (fun _ => False) _ _).heap ?_ (fun f => f)
    refine (Fr.alloc (fun _ => False) _ _).heap ?_ (fun f => f)
    refine (Fr.alloc (fun _ => False) _ _).heap ?_ (fun f => f)
    exact alloc_at _ _ _ (by simp)
  have r4 : V.heap[w.heap.size + 1 + 1 + 1 + 1]? = some (.cells z7 86 (0, 0)) := by
    rw [hV]
    refine (Fr.alloc (fun _ => False) _ _).heap ?_ (fun f => f)
    refine (Fr.alloc (fun _ => False) _ _).heap ?_ (fun f => f)
    exact alloc_at _ _ _ (by simp)
  have r5 : V.heap[w.heap.size + 1 + 1 + 1 + 1 + 1]? = some (.cells z7 86 (0, 0)) := by
    rw [hV]
    refine (Fr.alloc (fun _ => False) _ _).heap ?_ (fun f => f)
    exact alloc_at _ _ _ (by simp)
  have r6 : V.heap[w.heap.size + 1 + 1 + 1 + 1 + 1 + 1]? = some (.cells #[.bool true, .bool true, .bool false, .slice so ns sc, .slice to' nt tc, .slice none 0 0, .slice none 0 0] 86 (0, 0)) := by
    rw [hV]
    exact alloc_at _ _ _ (by simp)
  have kp := fun (x : Int) => put_any so ns sc s.st x V hns (InL.keep hs.1 fV) (by omega)
  obtain ⟨i0, i1, i2, i3⟩ := box4 r2
  have s0 : V.cell? ⟨w.heap.size + 1 + 1 + 1, 0, none⟩ = some (.slice so ns sc) := cell_of_row _ _ 0 _ _ _ r3
  have s1 : V.cell? ⟨w.heap.size + 1 + 1 + 1, 1, none⟩ = some (.slice to' nt tc) := cell_of_row _ _ 1 _ _ _ r3
  have r4H : Hidden (V.heap[w.heap.size + 1 + 1 + 1 + 1]? = some (.cells z7 86 (0, 0))) := r4
  have r6H : Hidden (V.heap[w.heap.size + 1 + 1 + 1 + 1 + 1 + 1]? = some (.cells #[.bool true, .bool true, .bool false, .slice so ns sc, .slice to' nt tc, .slice none 0 0, .slice none 0 0] 86 (0, 0))) := r6
  have fVH : Hidden (Fr (fun _ => False) w V) := fV
  have hVH : Hidden (V = _) := hV
  have hsH : Hidden (InB w B so sc s.st) := hs
  have htH : Hidden (TrB w B to' tc s.tr) := ht
  have hntH : Hidden (s.tr.length = nt) := hnt
  have hnsH : Hidden (s.st.length = ns) := hns
  have hFH : Hidden (Fi w f p a0 a2 a3 a4 a5 c0 c2 c3 c4 c5) := hF
  have r0H : Hidden (V.heap[w.heap.size]? = some (.cells #[.slice a0 f.sg.ps.length c0, ci f.sg.res, .slice a2 f.loc.length c2, .slice a3 f.cd.length c3] 27 (0, 0))) := r0
  have r1H : Hidden (V.heap[w.heap.size + 1]? = some (.cells #[.slice a4 p.fns.length c4, .slice a5 p.vars.length c5] 30 (0, 0))) := r1
  have r3H : Hidden (V.heap[w.heap.size + 1 + 1 + 1]? = some (.cells #[.slice so ns sc, .slice to' nt tc] 80 (0, 0))) := r3
  have r5H : Hidden (V.heap[w.heap.size + 1 + 1 + 1 + 1 + 1]? = some (.cells z7 86 (0, 0))) := r5
  have kpH : Hidden (∀ W, Fr (fun _ => False) V W → ∀ x : Int, Calls Tryz.prog 43 #[.slice so ns sc, ci x] W fun e w' => ∃ v, e = .returned v ∧ OwI w' W.heap.size v (s.st ++ [x]) ∧ Fr (fun _ => False) W w') := fun W hW x => put_any so ns sc s.st x W hns (InL.keep (InL.keep hs.1 fV) hW) (by omega)
  have szH : Hidden (V.heap.size = w.heap.size + 7) := szV
  have hBH : Hidden (B ≤ w.heap.size) := hB
  have kl := leap_any f p a0 a2 a3 a4 a5 c0 c2 c3 c4 c5 q n t bb hq hn s so to' sc tc ns nt B V hns hnt (hF.keep fV) (hs.keep fV (fun _ _ f => f)) (ht.keep fV (fun _ _ f => f)) hl hl2 (by omega)
  have d1 : (q == 1) = false := by rcases hq with rfl | rfl | rfl | rfl | rfl | rfl <;> rfl
  have d14 : (q == 14) = false := by rcases hq with rfl | rfl | rfl | rfl | rfl | rfl <;> rfl
  have d2 : (q == 2) = false := by rcases hq with rfl | rfl | rfl | rfl | rfl | rfl <;> rfl
  have d3 : (q == 3) = false := by rcases hq with rfl | rfl | rfl | rfl | rfl | rfl <;> rfl
  have d4 : (q == 4) = false := by rcases hq with rfl | rfl | rfl | rfl | rfl | rfl <;> rfl
  have d5 : (q == 5) = false := by rcases hq with rfl | rfl | rfl | rfl | rfl | rfl <;> rfl
  have d6 : (q == 6) = false := by rcases hq with rfl | rfl | rfl | rfl | rfl | rfl <;> rfl
  have d7 : (q == 7) = false := by rcases hq with rfl | rfl | rfl | rfl | rfl | rfl <;> rfl
  have d12 : (q == 12) = false := by rcases hq with rfl | rfl | rfl | rfl | rfl | rfl <;> rfl
  have d17 : (q == 17) = false := by rcases hq with rfl | rfl | rfl | rfl | rfl | rfl <;> rfl
  have d16 : (q == 16) = false := by rcases hq with rfl | rfl | rfl | rfl | rfl | rfl <;> rfl
  have y0 := (box4 r0)
  have y1 : V.cell? ⟨w.heap.size + 1, 0, none⟩ = some (.slice a4 p.fns.length c4) := cell_of_row _ _ 0 _ _ _ r1
  have y2 : V.cell? ⟨w.heap.size + 1, 1, none⟩ = some (.slice a5 p.vars.length c5) := cell_of_row _ _ 1 _ _ _ r1
  obtain ⟨y3, y4, y5, y6⟩ := y0
  generalize stepS f p ⟨q, n, t, bb⟩ s = RR at *
  clear kp hq hn hl hl2
  clear hF hs ht hV fV r0 r1 r2 r3 r4 r5 r6 hns hnt szV hB
  go_enter Tryz.func27, Tryz.ntmps27
  go_upto_region 3 with fail
  rw [← (show V = _ from hVH)]
  clear hVH
  go_wp2_with (first
    | (go_at_call 48; refine kl.mono ?_; rintro e w1 ⟨v, rfl, hv, f1⟩
       obtain ⟨ok, nx, fr, o3, n3, k3, o4, n4, k4, o5, n5, k5, o6, n6, k6, rfl⟩ := hv.seven
       obtain ⟨⟨t0, t1, t2, t3, t4, t5, t6⟩, u0, u1, u2, u3, u4, u5, u6⟩ := box7 (f1.heap r4H (fun f => f))
       have hvH : Hidden (FlR w1 B _ RR) := hv
       have f1H : Hidden (Fr (fun _ => False) V w1) := f1
       clear hv f1 kl i0 i1 i2 i3 s0 s1 y1 y2 y3 y4 y5 y6))
  have sz := (show V.heap.size = w.heap.size + 7 from szH)
  have hg4 := (show Fr (fun _ => False) V w1 from f1H).heap r4H (fun f => f)
  refine fl_post2 (u := 8) (W := w1) rfl rfl rfl hg4 (by omega) ((show Fr (fun _ => False) w V from fVH).same f1H) ?_
  intro W' f7 fW'
  exact FlR.box (show FlR w1 B _ RR from hvH) hg4 z7_no f7
theorem step_any (f : Fu) (p : Fm) (a0 a2 a3 a4 a5 : Option Addr) (c0 c2 c3 c4 c5 : Nat) (i : In) (hr : rightS i = true) (s : Sp) (so to' : Option Addr) (sc tc ns nt B : Nat) (w : World) (hns : s.st.length = ns) (hnt : s.tr.length = nt) (hF : Fi w f p a0 a2 a3 a4 a5 c0 c2 c3 c4 c5) (hs : InB w B so sc s.st) (ht : TrB w B to' tc s.tr) (hl : ns ≤ 600) (hl2 : nt ≤ 600) (hB : B ≤ w.heap.size) :
    Calls Tryz.prog 27 #[.agg #[.slice a0 f.sg.ps.length c0, ci f.sg.res, .slice a2 f.loc.length c2, .slice a3 f.cd.length c3], .agg #[.slice a4 p.fns.length c4, .slice a5 p.vars.length c5], inV i, .agg #[.slice so ns sc, .slice to' nt tc]] w fun e w' => ∃ v, e = .returned v ∧ FlR w' B v (stepS f p i s) ∧ Fr (fun _ => False) w w' := by
  have hk : 1 ≤ i.op ∧ i.op ≤ 17 := by
    have := (right_parts hr).1
    unfold known at this
    exact of_decide_eq_true this
  have hn := (right_n hr).1
  obtain ⟨q, n, t, bb⟩ := i
  simp only [] at hk hn
  obtain ⟨k, rfl⟩ : ∃ k : Nat, n = k := ⟨n.toNat, by omega⟩
  by_cases hq : q = 8 ∨ q = 9 ∨ q = 10 ∨ q = 11 ∨ q = 13 ∨ q = 15
  · exact dstep_q f p a0 a2 a3 a4 a5 c0 c2 c3 c4 c5 q k t bb hq hn s so to' sc tc ns nt B w hns hnt hF hs ht hl hl2 hB
  · have : q = 1 ∨ q = 2 ∨ q = 3 ∨ q = 4 ∨ q = 5 ∨ q = 6 ∨ q = 7 ∨ q = 12 ∨ q = 14 ∨ q = 16 ∨ q = 17 := by omega
    rcases this with rfl | rfl | rfl | rfl | rfl | rfl | rfl | rfl | rfl | rfl | rfl
    · exact dstep_1 f p a0 a2 a3 a4 a5 c0 c2 c3 c4 c5 k t bb s so to' sc tc ns nt B w hns hnt hF hs ht hl hB
    · exact dstep_2 f p a0 a2 a3 a4 a5 c0 c2 c3 c4 c5 k t bb s so to' sc tc ns nt B w hns hnt hF hs ht hl hB
    · exact dstep_3 f p a0 a2 a3 a4 a5 c0 c2 c3 c4 c5 k t bb s so to' sc tc ns nt B w hns hnt hF hs ht hl hB
    · exact dstep_4 f p a0 a2 a3 a4 a5 c0 c2 c3 c4 c5 k t bb s so to' sc tc ns nt B w hns hnt hF hs ht hl hB
    · exact dstep_5 f p a0 a2 a3 a4 a5 c0 c2 c3 c4 c5 k t bb s so to' sc tc ns nt B w hns hnt hF hs ht hl hB
    · exact dstep_6 f p a0 a2 a3 a4 a5 c0 c2 c3 c4 c5 k t bb s so to' sc tc ns nt B w hns hnt hF hs ht hl hB
    · exact dstep_7 f p a0 a2 a3 a4 a5 c0 c2 c3 c4 c5 k t bb s so to' sc tc ns nt B w hns hnt hF hs ht hl hB
    · exact dstep_12 f p a0 a2 a3 a4 a5 c0 c2 c3 c4 c5 k t bb s so to' sc tc ns nt B w hns hnt hF hs ht hl hB
    · exact dstep_14 f p a0 a2 a3 a4 a5 c0 c2 c3 c4 c5 k t bb s so to' sc tc ns nt B w hns hnt hF hs ht hl hB
    · exact dstep_16 f p a0 a2 a3 a4 a5 c0 c2 c3 c4 c5 k t bb s so to' sc tc ns nt B w hns hnt hF hs ht hl hB
    · exact dstep_17 f p a0 a2 a3 a4 a5 c0 c2 c3 c4 c5 k t bb s so to' sc tc ns nt B w hns hnt hF hs ht hl hB
end Go.Proofs.YtnmcehpdiopaiaaGreatDoor.Cd
