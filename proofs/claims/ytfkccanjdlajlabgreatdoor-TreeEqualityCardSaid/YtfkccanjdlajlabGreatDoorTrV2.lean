/- Print; what must come at any rate. -/
import Derived.Test.YtfkccanjdlajlabGreatDoorTrV
namespace Go.Proofs.YtfkccanjdlajlabGreatDoor
open Go.RowKit Te
set_option linter.unusedSimpArgs false
set_option linter.unusedVariables false

/-- What Print answers. -/
def prS (m : Mo) : Bs × Int :=
  if errM rnS cnS m = 0 then (if (Lx.lexS wordsL valS (moT txS m)).2.2 = 3 then ([], 3) else (moT txS m, 0)) else ([], errM rnS cnS m)
set_option maxRecDepth 20000 in
set_option maxHeartbeats 1000000 in
theorem print_w (m : Mo) (v : Value) (w : World) (hok : OkM m) (hv : MoI w m v) (ht : F.Tab w) (hd : errM rnS cnS m = 0 → ∀ d ∈ m.decls, DeclW d) (hl : errM rnS cnS m = 0 → (moT txS m).length ≤ 140737488351232) :
    Calls Tryz.prog 19 #[v] w fun e w' => e = .returned (.tuple #[ct (prS m).1, ci (prS m).2]) ∧ Fr (fun _ => False) w w' := by
  have hv0 := hv
  obtain ⟨ao, cap, ao2, cap2, rfl, hs, hds⟩ := hv
  have f0 := Fr.alloc (fun _ => False) w (moO m (.slice ao m.imports.length cap) (.slice ao2 m.decls.length cap2))
  have hq0 : Hidden ((w.alloc (moO m (.slice ao m.imports.length cap) (.slice ao2 m.decls.length cap2))).heap[w.heap.size]? = some (moO m (.slice ao m.imports.length cap) (.slice ao2 m.decls.length cap2))) := alloc_new _ _
  have kr := right_any m _ _ hok (hv0.keep f0)
  by_cases h0 : errM rnS cnS m = 0
  · have hl0 := hl h0
    have kt := fun (w1 : World) (f1 : Fr (fun _ => False) w w1) => mtext_w m _ w1 (hv0.keep f1) (tab_fr ht f1) (hd h0) _ rfl (by omega)
    obtain ⟨ts, q, c, hlx⟩ : ∃ ts q c, Lx.lexS wordsL valS (moT txS m) = (ts, q, c) := ⟨_, _, _, rfl⟩
    have kx := fun (w1 : World) (f1 : Fr (fun _ => False) w w1) => lex_any (moT txS m) ts q c (by omega) hlx w1 (tab_fr ht f1)
    have hp : prS m = if c = 3 then ([], 3) else (moT txS m, 0) := by unfold prS; rw [if_pos h0, hlx]
    rw [hp]
    rw [h0] at kr
    generalize moT txS m = T at kt kx
    clear hl hd hp hlx h0 hl0
    by_cases h3 : c = 3
    · subst h3
      go_enter Tryz.func19, Tryz.ntmps19
      go_wp2_with fail
      go_at_call 17
      refine kr.mono ?_
      rintro e w1 ⟨rfl, f1⟩
      obtain ⟨c0, c1, c2⟩ := mo_box (f1.heap hq0 (fun f => f))
      go_wp2_with fail
      go_at_call 38
      refine (kt _ (f0.same f1)).mono ?_
      rintro e w2 ⟨rfl, f2⟩
      go_wp2_with fail
      go_at_call 39
      refine (kx _ ((f0.same f1).same f2)).mono ?_
      rintro e w3 ⟨v1, rfl, r1, f3⟩
      go_wp2_with fail
      go_ret2
      exact ⟨rfl, ((f0.same f1).same f2).same f3⟩
    · have n3 : (c == 3) = false := by simp [h3]
      rw [if_neg h3]
      go_enter Tryz.func19, Tryz.ntmps19
      go_wp2_with fail
      go_at_call 17
      refine kr.mono ?_
      rintro e w1 ⟨rfl, f1⟩
      obtain ⟨c0, c1, c2⟩ := mo_box (f1.heap hq0 (fun f => f))
      go_wp2_with fail
      go_at_call 38
      refine (kt _ (f0.same f1)).mono ?_
      rintro e w2 ⟨rfl, f2⟩
      go_wp2_with fail
      go_at_call 39
      refine (kx _ ((f0.same f1).same f2)).mono ?_
      rintro e w3 ⟨v1, rfl, r1, f3⟩
      go_wp2_with fail
      go_ret2
      exact ⟨rfl, ((f0.same f1).same f2).same f3⟩
  · have hp : prS m = ([], errM rnS cnS m) := by unfold prS; rw [if_neg h0]
    rw [hp]
    generalize errM rnS cnS m = E at *
    have hb : (E != 0) = true := by simp [h0]
    clear hl hd hp
    go_enter Tryz.func19, Tryz.ntmps19
    go_wp2_with fail
    go_at_call 17
    refine kr.mono ?_
    rintro e w1 ⟨rfl, f1⟩
    go_wp2_with fail
    go_ret2
    exact ⟨rfl, f0.same f1⟩

/-- A literal of an int; two joined. -/
abbrev lh (n : Int) : EH := ⟨1, 0, [], [], 1, n⟩
theorem info_ex : (Tryz.prog.info? 44).map (fun i => (i.zero, i.size, i.bytes)) = some (some (.agg #[.int .i64 0, .int .i64 0, .string ⟨#[]⟩, .string ⟨#[]⟩, .int .i64 0, .int .u64 0, .slice none 0 0]), 7, 88) := by kernel_rfl
theorem info_ex1 : (Tryz.prog.info? 44).map (·.size) = some 7 := by kernel_rfl
theorem post_cell1 {fn : Func} {R : Ending → World → Prop} {a : Act} {w : World} {p : Tmp} (h : fn.results = #[.cell p 44]) (hd : a.defers = []) (g : Nat) (x0 x1 x2 x3 x4 x5 x6 : Value)
    (hp : a.tmps.getD p undef = .pointer (some ⟨g, 0, none⟩)) (hg : w.heap[g]? = some (.cells #[x0, x1, x2, x3, x4, x5, x6] 44 (0, 0)))
    (hR : R (.returned (.agg #[x0, x1, x2, x3, x4, x5, x6])) w) : bodyPost Tryz.prog fn R .ret a w := by
  refine ⟨hd, _, ?_, hR⟩
  exact results_cell_row h a.tmps w g _ _ _ _ hp hg Tryz.underlying44 rfl info_ex1
set_option maxRecDepth 20000 in
theorem lit_any6 (n : Int) (w : World) : Calls Tryz.prog 18 #[.int .u64 n] w fun e w' => e = .returned (exV (lh n) (.slice none 0 0)) ∧ Fr (fun _ => False) w w' := by
  go_enter Tryz.func18, Tryz.ntmps18
  go_wp2_with fail
  exact post_cell1 rfl rfl w.heap.size _ _ _ _ _ _ _ rfl (alloc_new _ _) ⟨rfl, Fr.alloc _ _ _⟩
set_option maxRecDepth 20000 in
set_option maxHeartbeats 1000000 in
theorem bin_any6 (op : Int) (h1 h2 : EH) (k1 k2 : Exs) (v1 v2 : Value) (w : World) (e1 : ExI w h1 k1 v1) (e2 : ExI w h2 k2 v2) :
    Calls Tryz.prog 16 #[ci op, v1, v2] w fun e w' => (∃ v, e = .returned v ∧ ExI w' (bh op) (two2 h1 k1 h2 k2) v) ∧ Fr (fun _ => False) w w' := by
  obtain ⟨ao1, cap1, rfl, l1⟩ := e1
  obtain ⟨ao2, cap2, rfl, l2⟩ := e2
  go_enter Tryz.func16, Tryz.ntmps16
  go_wp2_with fail
  refine post_cell1 rfl rfl (w.heap.size + 1 + 1) (ci 7) (ci op) (ct []) (ct []) (ci 0) (.int .u64 0) (.slice (some ⟨w.heap.size + 1 + 1 + 1, 0, none⟩) 2 2) rfl ?hg ⟨⟨_, rfl, ?_⟩, ?_⟩
  case hg => exact (alloc_old _ _ _ (by simp)).trans ((congrArg _ (by simp)).trans (alloc_new _ _))
  · refine ⟨some ⟨w.heap.size + 1 + 1 + 1, 0, none⟩, 2, rfl, ?_⟩
    have fr : Fr (fun _ => False) w ((((w.alloc (exB h1 ao1 k1.len cap1)).alloc (exB h2 ao2 k2.len cap2)).alloc (exB (bh op) (some ⟨w.heap.size + 1 + 1 + 1, 0, none⟩) 2 2)).alloc (.cells #[ci h1.kind, ci h1.op, ct h1.mod, ct h1.name, ci h1.vt, .int .u64 h1.vb, .slice ao1 k1.len cap1, ci h2.kind, ci h2.op, ct h2.mod, ct h2.name, ci h2.vt, .int .u64 h2.vb, .slice ao2 k2.len cap2] 44)) := (((Fr.alloc _ _ _).same (Fr.alloc _ _ _)).same (Fr.alloc _ _ _)).same (Fr.alloc _ _ _)
    have m1 := l1.keep fr
    have m2 := l2.keep fr
    have hrow : ((((w.alloc (exB h1 ao1 k1.len cap1)).alloc (exB h2 ao2 k2.len cap2)).alloc (exB (bh op) (some ⟨w.heap.size + 1 + 1 + 1, 0, none⟩) 2 2)).alloc (.cells #[ci h1.kind, ci h1.op, ct h1.mod, ct h1.name, ci h1.vt, .int .u64 h1.vb, .slice ao1 k1.len cap1, ci h2.kind, ci h2.op, ct h2.mod, ct h2.name, ci h2.vt, .int .u64 h2.vb, .slice ao2 k2.len cap2] 44)).heap[w.heap.size + 1 + 1 + 1]? = some (.cells #[ci h1.kind, ci h1.op, ct h1.mod, ct h1.name, ci h1.vt, .int .u64 h1.vb, .slice ao1 k1.len cap1, ci h2.kind, ci h2.op, ct h2.mod, ct h2.name, ci h2.vt, .int .u64 h2.vb, .slice ao2 k2.len cap2] 44 (0, 0)) := (congrArg _ (by simp)).trans (alloc_new _ _)
    generalize ((((w.alloc (exB h1 ao1 k1.len cap1)).alloc (exB h2 ao2 k2.len cap2)).alloc (exB (bh op) (some ⟨w.heap.size + 1 + 1 + 1, 0, none⟩) 2 2)).alloc (.cells #[ci h1.kind, ci h1.op, ct h1.mod, ct h1.name, ci h1.vt, .int .u64 h1.vb, .slice ao1 k1.len cap1, ci h2.kind, ci h2.op, ct h2.mod, ct h2.name, ci h2.vt, .int .u64 h2.vb, .slice ao2 k2.len cap2] 44)) = W at m1 m2 hrow
    have hc : ∀ j, W.cell? ⟨w.heap.size + 1 + 1 + 1, j, none⟩ = (#[ci h1.kind, ci h1.op, ct h1.mod, ct h1.name, ci h1.vt, .int .u64 h1.vb, .slice ao1 k1.len cap1, ci h2.kind, ci h2.op, ct h2.mod, ct h2.name, ci h2.vt, .int .u64 h2.vb, .slice ao2 k2.len cap2] : Array Value)[j]? := fun j => cell_of_row W _ j _ _ _ hrow
    refine ⟨by simp [two2, Exs.len], by simp [maxLen], Or.inr ⟨_, 0, rfl, ⟨⟨ao1, cap1, ?_, m1.1, m1.2.1, m1.2.2⟩, ⟨ao2, cap2, ?_, m2.1, m2.2.1, m2.2.2⟩, trivial⟩⟩⟩
    · intro j x hx
      rw [hc]
      match j, hx with
      | 0, hx => exact hx
      | 1, hx => exact hx
      | 2, hx => exact hx
      | 3, hx => exact hx
      | 4, hx => exact hx
      | 5, hx => exact hx
      | 6, hx => exact hx
      | j + 7, hx => simp [exC] at hx
    · intro j x hx
      rw [hc]
      match j, hx with
      | 0, hx => exact hx
      | 1, hx => exact hx
      | 2, hx => exact hx
      | 3, hx => exact hx
      | 4, hx => exact hx
      | 5, hx => exact hx
      | 6, hx => exact hx
      | j + 7, hx => simp [exC] at hx
  · exact (((Fr.alloc _ _ _).same (Fr.alloc _ _ _)).same (Fr.alloc _ _ _)).same (Fr.alloc _ _ _)
end Go.Proofs.YtfkccanjdlajlabGreatDoor
