/- Eval of the program. -/
import Derived.Test.YtpjahcncknccdaaGreatFoF
namespace Go.Proofs.YtpjahcncknccdaaGreat.Fo
open Go.RowKit Te
set_option linter.unusedSimpArgs false
set_option linter.unusedVariables false

abbrev eo (c : Int) : Obj := .cells #[ci c] 27 (0, 0)
/-- A frame that has given up. -/
def gvF (c : Int) (done : Bool) : FrameMode := .panicking [{ v := .iface 180 (.agg #[.int .i64 c]), recovered := done }]
def gvT (c : Int) (done : Bool) : FrameMode := .panicking [{ v := .iface 177 (.agg #[.int .i64 c]), recovered := done }]
theorem asF (v : Value) (w : World) : (Instr.typeAssert (.iface 180 v) 20 180 true).run Tryz.prog w = .ok (.tuple #[v, .bool true]) w := by kernel_rfl
theorem asT (v : Value) (w : World) : (Instr.typeAssert (.iface 177 v) 20 177 true).run Tryz.prog w = .ok (.tuple #[v, .bool true]) w := by kernel_rfl
theorem asFT (v : Value) (w : World) : (Instr.typeAssert (.iface 180 v) 20 177 true).run Tryz.prog w = .ok (.tuple #[.agg #[.int .i64 0], .bool false]) w := by kernel_rfl
set_option maxRecDepth 20000 in
set_option maxHeartbeats 1000000 in
theorem catch_T (b : Nat) (c : Int) (w : World) (hb : w.heap[b]? = some (eo 0)) :
    CallsD Tryz.prog 112 #[.pointer (some ⟨b, 0, none⟩)] (gvT c false) w fun e u' w' =>
      e = .returned (.tuple #[]) ∧ u' = gvT c true ∧ w'.heap[b]? = some (eo (errnoF c)) ∧ Fr (fun k => k = b) w w' := by
  have hta := asT
  have ke := errno_any c
  refine callsD_of_wpS Tryz.func112 rfl fun c₀ cs hu => ?_
  have e0 : (#[Value.pointer (some ⟨b, 0, none⟩)] ++ Array.replicate (Tryz.f112.ntmps - (#[Value.pointer (some ⟨b, 0, none⟩)] : Array Value).size) undef) = #[Value.pointer (some ⟨b, 0, none⟩), undef, undef, undef, undef, undef, undef, undef, undef, undef, undef, undef, undef, undef, undef, undef, undef, undef, undef] := rfl
  rw [e0]
  clear e0
  apply wpS_seq
  apply wpS_region
  simp [wpOpsS, go_sem, recoverD, hu, Tryz.ntmps112, Exit.thenS, gvT]
  refine wpS_of_wp ?_
  have hlt := lt_of_heap hb
  have hbH : Hidden (w.heap[b]? = some (eo 0)) := hb
  have hz2 : ∀ o : Obj, (w.alloc o).frozen? ⟨b, 0, none⟩ = false := fun o => by
    have : (w.alloc o).heap[b]? = some (eo 0) := (alloc_old w o b hlt).trans hb
    simp [World.frozen?, this]
  have hc2 : ∀ o : Obj, (w.alloc o).cell? ⟨b, 0, none⟩ = some (ci 0) := fun o => (Fr.alloc (fun _ => False) w o).cellN (cell_of_row _ _ 0 _ _ _ hb)
  clear hb
  go_wp2_with (go_at_call 113; refine (ke _).mono ?_; rintro e w1 ⟨rfl, hw⟩; rw [hw]; clear hw)
  refine ⟨rfl, _, rfl, _, results_none rfl _ _ _, rfl, rfl, ?_, ?_⟩
  · rw [alloc_old _ _ _ (by simpa using hlt)]
    exact heap_setCell_same w b 0 #[ci 0] 27 (ci (errnoF c)) hbH
  · exact (Fr.setCell w ⟨b, 0, none⟩ _).same (Fr.alloc _ _ _)
set_option maxRecDepth 20000 in
set_option maxHeartbeats 1000000 in
theorem catch_F (b : Nat) (c : Int) (w : World) (hb : w.heap[b]? = some (eo 0)) :
    CallsD Tryz.prog 112 #[.pointer (some ⟨b, 0, none⟩)] (gvF c false) w fun e u' w' =>
      e = .returned (.tuple #[]) ∧ u' = gvF c true ∧ w'.heap[b]? = some (eo c) ∧ Fr (fun k => k = b) w w' := by
  have hta := asF
  have hta2 := asFT
  refine callsD_of_wpS Tryz.func112 rfl fun c₀ cs hu => ?_
  have e0 : (#[Value.pointer (some ⟨b, 0, none⟩)] ++ Array.replicate (Tryz.f112.ntmps - (#[Value.pointer (some ⟨b, 0, none⟩)] : Array Value).size) undef) = #[Value.pointer (some ⟨b, 0, none⟩), undef, undef, undef, undef, undef, undef, undef, undef, undef, undef, undef, undef, undef, undef, undef, undef, undef, undef] := rfl
  rw [e0]
  clear e0
  apply wpS_seq
  apply wpS_region
  simp [wpOpsS, go_sem, recoverD, hu, Tryz.ntmps112, Exit.thenS, gvF]
  refine wpS_of_wp ?_
  have hlt := lt_of_heap hb
  have hbH : Hidden (w.heap[b]? = some (eo 0)) := hb
  have hz2 : ∀ o : Obj, (w.alloc o).frozen? ⟨b, 0, none⟩ = false := fun o => by
    have : (w.alloc o).heap[b]? = some (eo 0) := (alloc_old w o b hlt).trans hb
    simp [World.frozen?, this]
  have hc2 : ∀ o : Obj, (w.alloc o).cell? ⟨b, 0, none⟩ = some (ci 0) := fun o => (Fr.alloc (fun _ => False) w o).cellN (cell_of_row _ _ 0 _ _ _ hb)
  clear hb
  go_wp2
  refine ⟨rfl, _, rfl, _, results_none rfl _ _ _, rfl, rfl, ?_, ?_⟩
  · rw [alloc_old _ _ _ (by simpa using hlt)]
    exact heap_setCell_same w b 0 #[ci 0] 27 (ci c) hbH
  · exact (Fr.setCell w ⟨b, 0, none⟩ _).same (Fr.alloc _ _ _)
set_option maxHeartbeats 1000000 in
theorem idle_E (b : Nat) (w : World) :
    CallsD Tryz.prog 112 #[.pointer (some ⟨b, 0, none⟩)] .returning w fun e u' w' => e = .returned (.tuple #[]) ∧ u' = .returning ∧ w' = w := by
  refine callsD_of_wpS Tryz.func112 rfl fun c₀ cs hu => ?_
  have e0 : (#[Value.pointer (some ⟨b, 0, none⟩)] ++ Array.replicate (Tryz.f112.ntmps - (#[Value.pointer (some ⟨b, 0, none⟩)] : Array Value).size) undef) = #[Value.pointer (some ⟨b, 0, none⟩), undef, undef, undef, undef, undef, undef, undef, undef, undef, undef, undef, undef, undef, undef, undef, undef, undef, undef] := rfl
  rw [e0]
  clear e0
  apply wpS_seq
  apply wpS_region
  simp [wpOpsS, go_sem, recoverD, hu, Tryz.ntmps112, Exit.thenS]
  refine wpS_of_wp ?_
  go_wp2
  refine ⟨rfl, .returning, ?_, _, results_none rfl _ _ _, rfl, rfl, rfl⟩
  rw [← hu]
/-- What Eval answers. -/
def evalS (l : List Con) (h : EH) (k : Exs) : Vl × Int := if errX rnS cnS h k = 0 then ((evX l h k).val, (evX l h k).code) else ((0, 0), errX rnS cnS h k)
theorem load_v {w : World} {g : Nat} {x y : Value} (hg : w.heap[g]? = some (zb x y)) : (loadVar 54 ⟨g, 0, none⟩).run Tryz.prog w = .ok (.agg #[x, y]) w := run_loadVar_row _ _ _ _ _ _ _ hg Tryz.underlying54 rfl info_val
theorem post_d {P : Program} {fn : Func} {R : Ending → World → Prop} {a : Act} {w : World} (h : Leaves P fn a.tmps R a.defers .returning w) : bodyPostD P fn R .ret a w := h
set_option maxRecDepth 20000 in
set_option maxHeartbeats 2000000 in
theorem eval_any (l : List Con) (hok : ∀ c ∈ l, U64 c.b) (h : EH) (k : Exs) (v : Value) (la : Option Addr) (lc : Nat) (w : World) (ho : OkE h) (hx : OkX k) (hv : ExI w h k v) (hl : CoL w la lc l) :
    Calls Tryz.prog 92 #[v, .slice la l.length lc] w fun e w' => e = .returned (.tuple #[vv (evalS l h k).1, ci (evalS l h k).2]) ∧ Fr FN w w' := by
  obtain ⟨ao, cap, rfl, hk⟩ := hv
  have hmf : ∀ (fn : Fn) (first cap : Array Value) (w : World), (Instr.makeFunc fn first cap).run Tryz.prog w = .ok (.func fn first cap) w := fun _ _ _ _ => rfl
  have f0 : Fr FN w (((w.alloc (exO h (.slice ao k.len cap))).alloc zo).alloc (eo 0)) := ((Fr.alloc _ _ _).same (Fr.alloc _ _ _)).same (Fr.alloc _ _ _)
  have hA : Hidden ((((w.alloc (exO h (.slice ao k.len cap))).alloc zo).alloc (eo 0)).heap[w.heap.size]? = some (exO h (.slice ao k.len cap))) := (alloc_old _ _ _ (by simp; omega)).trans ((alloc_old _ _ _ (by simp)).trans (alloc_new _ _))
  have hB : Hidden ((((w.alloc (exO h (.slice ao k.len cap))).alloc zo).alloc (eo 0)).heap[w.heap.size + 1]? = some zo) := (alloc_old _ _ _ (by simp)).trans (alloc_at _ _ _ (by simp))
  have hC : Hidden ((((w.alloc (exO h (.slice ao k.len cap))).alloc zo).alloc (eo 0)).heap[w.heap.size + 2]? = some (eo 0)) := alloc_at _ _ _ (by simp)
  obtain ⟨W0, hW0⟩ : ∃ W, W = (((w.alloc (exO h (.slice ao k.len cap))).alloc zo).alloc (eo 0)) := ⟨_, rfl⟩
  rw [← hW0] at f0 hA hB hC
  have hW0H : Hidden (W0 = _) := hW0
  have kx := rightX_any h k _ W0 ho hx ⟨ao, cap, rfl, hk.keep f0⟩
  obtain ⟨a0, a1, a2, a3, a4, a5, a6⟩ := ex_box hA
  unfold evalS
  by_cases he : errX rnS cnS h k = 0
  · rw [if_pos he]
    rw [he] at kx
    have he2 := orE0 (orE0 (show orE _ _ = 0 from he)).2
    have kv := fun w1 (f1 : Fr FN W0 w1) => value_any l hok h k ao cap la lc w1 ho hx he2.1 he2.2 (hk.keep (f0.same f1)) (hl.keep (f0.same f1))
    generalize evX l h k = E at kv ⊢
    clear he he2 hk hl ho hx hW0
    rcases E with ⟨t, b⟩ | c | c
    · rw [fin_ok] at kv
      dsimp only [vv, Ev.val, Ev.code] at kv ⊢
      go_enter_defers Tryz.func92, Tryz.ntmps92
      go_wp2_with fail
      rw [← (show W0 = _ from hW0H)]
      go_at_call 111
      refine kx.mono ?_
      rintro e w1 ⟨rfl, f1⟩
      obtain ⟨b0, b1, b2, b3, b4, b5, b6⟩ := ex_box (f1.heap hA (fun f => f))
      go_wp2_with fail
      go_at_call 114
      refine (kv w1 f1).mono ?_
      rintro e w2 ⟨rfl, f2⟩
      have g2 := f1.same f2
      have qB := g2.heap hB (fun f => f)
      have qC := g2.heap hC (fun f => f)
      obtain ⟨c0, c1, z0, z1⟩ := box2 qB
      have y0 : w2.cell? ⟨w.heap.size + 2, 0, none⟩ = some (ci 0) := cell_of_row _ _ 0 _ _ _ qC
      have y1 := frozen_row qC 0
      go_wp2_with fail
      refine leaves_cons (f := 112) (args := #[.pointer (some ⟨w.heap.size + 2, 0, none⟩)]) (by simp) (by simp [go_sem]) ?_
      refine (idle_E (w.heap.size + 2) _).mono ?_
      rintro e u' w'' ⟨rfl, rfl, hw⟩
      have q3 := set_two qB (.int .i64 t) (.int .u64 b)
      have q4 := heap_setCell_same ((w2.setCell ⟨w.heap.size + 1, 0, none⟩ (.int .i64 t)).setCell ⟨w.heap.size + 1, 1, none⟩ (.int .u64 b)) (w.heap.size + 2) 0 #[ci 0] 27 (ci 0) (((Fr.setCell w2 ⟨w.heap.size + 1, 0, none⟩ (.int .i64 t)).same (Fr.setCell _ ⟨w.heap.size + 1, 1, none⟩ (.int .u64 b))).heap qC (fun e => by simp at e))
      have q5 := (Fr.setCell ((w2.setCell ⟨w.heap.size + 1, 0, none⟩ (.int .i64 t)).setCell ⟨w.heap.size + 1, 1, none⟩ (.int .u64 b)) ⟨w.heap.size + 2, 0, none⟩ (ci 0)).heap q3 (fun e => by simp at e)
      have fz : Fr FN w w'' := by
        rw [hw]
        exact (fr_two (g := w.heap.size + 1) (f0.same g2) (by omega) _ _).over (Fr.setCell _ ⟨w.heap.size + 2, 0, none⟩ _) (fun k hk => by have : k = w.heap.size + 2 := hk; omega)
      rw [← show w'' = _ from hw] at q4 q5
      have hc3 := cell_of_row _ _ 0 _ _ _ q4
      obtain ⟨l0, l1, _, _⟩ := box2 q5
      clear hw
      simp [Leaves, settle, results, Tryz.results92, go_sem, show w''.cell? ⟨w.heap.size + 1 + 1, 0, none⟩ = _ from hc3, l0, l1]
      exact fz
    · rw [fin_flt] at kv
      dsimp only [vv, Ev.val, Ev.code] at kv ⊢
      go_enter_defers Tryz.func92, Tryz.ntmps92
      go_wp2_with fail
      rw [← (show W0 = _ from hW0H)]
      go_at_call 111
      refine kx.mono ?_
      rintro e w1 ⟨rfl, f1⟩
      obtain ⟨b0, b1, b2, b3, b4, b5, b6⟩ := ex_box (f1.heap hA (fun f => f))
      go_wp2_with fail
      go_at_call 114
      refine (kv w1 f1).mono ?_
      rintro e w2 ⟨rfl, f2⟩
      have g2 := f1.same f2
      have qB := g2.heap hB (fun f => f)
      have qC := g2.heap hC (fun f => f)
      go_wp2_with fail
      refine leaves_cons (f := 112) (args := #[.pointer (some ⟨w.heap.size + 2, 0, none⟩)]) (by simp) (by simp [go_sem]) ?_
      refine (catch_F (w.heap.size + 2) c w2 qC).mono ?_
      rintro e u' w'' ⟨rfl, rfl, h3, h4⟩
      have hc3 := cell_of_row _ _ 0 _ _ _ h3
      obtain ⟨l0, l1, _, _⟩ := box2 (h4.heap qB (fun e => by omega))
      simp [Leaves, settle, results, Tryz.results92, go_sem, show w''.cell? ⟨w.heap.size + 1 + 1, 0, none⟩ = _ from hc3, l0, l1, gvF]
      exact (f0.same g2).over h4 (fun k hk => by have : k = w.heap.size + 2 := hk; omega)
    · rw [fin_trp] at kv
      dsimp only [vv, Ev.val, Ev.code] at kv ⊢
      go_enter_defers Tryz.func92, Tryz.ntmps92
      go_wp2_with fail
      rw [← (show W0 = _ from hW0H)]
      go_at_call 111
      refine kx.mono ?_
      rintro e w1 ⟨rfl, f1⟩
      obtain ⟨b0, b1, b2, b3, b4, b5, b6⟩ := ex_box (f1.heap hA (fun f => f))
      go_wp2_with fail
      go_at_call 114
      refine (kv w1 f1).mono ?_
      rintro e w2 ⟨rfl, f2⟩
      have g2 := f1.same f2
      have qB := g2.heap hB (fun f => f)
      have qC := g2.heap hC (fun f => f)
      go_wp2_with fail
      refine leaves_cons (f := 112) (args := #[.pointer (some ⟨w.heap.size + 2, 0, none⟩)]) (by simp) (by simp [go_sem]) ?_
      refine (catch_T (w.heap.size + 2) c w2 qC).mono ?_
      rintro e u' w'' ⟨rfl, rfl, h3, h4⟩
      have hc3 := cell_of_row _ _ 0 _ _ _ h3
      obtain ⟨l0, l1, _, _⟩ := box2 (h4.heap qB (fun e => by omega))
      simp [Leaves, settle, results, Tryz.results92, go_sem, show w''.cell? ⟨w.heap.size + 1 + 1, 0, none⟩ = _ from hc3, l0, l1, gvT]
      exact (f0.same g2).over h4 (fun k hk => by have : k = w.heap.size + 2 := hk; omega)
  · rw [if_neg he]
    have hne : (errX rnS cnS h k != 0) = true := by simp [he]
    generalize errX rnS cnS h k = c at kx hne ⊢
    clear hk hl ho hx hW0
    dsimp only [vv]
    go_enter_defers Tryz.func92, Tryz.ntmps92
    go_wp2_with fail
    rw [← (show W0 = _ from hW0H)]
    go_at_call 111
    refine kx.mono ?_
    rintro e w1 ⟨rfl, f1⟩
    have qB := f1.heap hB (fun f => f)
    have qC := f1.heap hC (fun f => f)
    obtain ⟨c0, c1, z0, z1⟩ := box2 qB
    have y0 : w1.cell? ⟨w.heap.size + 2, 0, none⟩ = some (ci 0) := cell_of_row _ _ 0 _ _ _ qC
    have y1 := frozen_row qC 0
    go_wp2_with fail
    have q3 := set_two qB (.int .i64 0) (.int .u64 0)
    have q4 := heap_setCell_same ((w1.setCell ⟨w.heap.size + 1, 0, none⟩ (.int .i64 0)).setCell ⟨w.heap.size + 1, 1, none⟩ (.int .u64 0)) (w.heap.size + 2) 0 #[ci 0] 27 (ci c) (((Fr.setCell w1 ⟨w.heap.size + 1, 0, none⟩ (.int .i64 0)).same (Fr.setCell _ ⟨w.heap.size + 1, 1, none⟩ (.int .u64 0))).heap qC (fun e => by simp at e))
    have q5 := (Fr.setCell ((w1.setCell ⟨w.heap.size + 1, 0, none⟩ (.int .i64 0)).setCell ⟨w.heap.size + 1, 1, none⟩ (.int .u64 0)) ⟨w.heap.size + 2, 0, none⟩ (ci c)).heap q3 (fun e => by simp at e)
    have fz : Fr FN w (((w1.setCell ⟨w.heap.size + 1, 0, none⟩ (.int .i64 0)).setCell ⟨w.heap.size + 1, 1, none⟩ (.int .u64 0)).setCell ⟨w.heap.size + 2, 0, none⟩ (ci c)) :=
      (fr_two (g := w.heap.size + 1) (f0.same f1) (by omega) _ _).over (Fr.setCell _ ⟨w.heap.size + 2, 0, none⟩ _) (fun k hk => by have : k = w.heap.size + 2 := hk; omega)
    refine post_d ?_
    change Fr FN w (((w1.setCell ⟨w.heap.size + 1, 0, none⟩ (.int .i64 0)).setCell ⟨w.heap.size + 1, 1, none⟩ (.int .u64 0)).setCell ⟨w.heap.size + 1 + 1, 0, none⟩ (.int .i64 c)) at fz
    change (((w1.setCell ⟨w.heap.size + 1, 0, none⟩ (.int .i64 0)).setCell ⟨w.heap.size + 1, 1, none⟩ (.int .u64 0)).setCell ⟨w.heap.size + 1 + 1, 0, none⟩ (.int .i64 c)).heap[_]? = _ at q4 q5
    generalize (((w1.setCell ⟨w.heap.size + 1, 0, none⟩ (.int .i64 0)).setCell ⟨w.heap.size + 1, 1, none⟩ (.int .u64 0)).setCell ⟨w.heap.size + 1 + 1, 0, none⟩ (.int .i64 c)) = w'' at q4 q5 fz ⊢
    have hc3 := cell_of_row _ _ 0 _ _ _ q4
    obtain ⟨l0, l1, _, _⟩ := box2 q5
    simp [Leaves, settle, results, Tryz.results92, go_sem, show w''.cell? ⟨w.heap.size + 1 + 1, 0, none⟩ = _ from hc3, l0, l1]
    exact fz
end Go.Proofs.YtpjahcncknccdaaGreat.Fo
