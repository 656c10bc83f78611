/- The program's parser: its state; what reads one token. -/
import Derived.Test.YtpkaekokkhecmaaGreatDoorLxAll
import Derived.Test.YtpkaekokkhecmaaGreatDoorPsF
import Derived.Test.YtpkaekokkhecmaaGreatDoorTrM
namespace Go.Proofs.YtpkaekokkhecmaaGreatDoor
open Go.RowKit Lx Te
set_option linter.unusedSimpArgs false
set_option linter.unusedVariables false

abbrev pp (q : Nat) : Value := .pointer (some ⟨q, 0, none⟩)
abbrev tokV (t : Tok) : Value := .agg #[.int .i64 (t.k : Int), .string ⟨t.x.toArray⟩, .int .i64 t.ty, .int .u64 t.b, .int .i64 (t.p : Int)]
abbrev psO (v : Value) (d : Nat) (fl : Bool) : Obj := .cells #[v, ci (d : Int), .bool fl] 102 (0, 0)
/-- The table, whatever is written from q on. -/
def Tq (q : Nat) (w : World) : Prop := ∀ w', Fr (fun k => q ≤ k) w w' → F.Tab w'
theorem Tq.step {q : Nat} {S : Nat → Prop} {w w' : World} (h : Tq q w) (hf : Fr S w w') (hS : ∀ k, S k → q ≤ k) : Tq q w' :=
  fun w'' hf' => h w'' ((hf.mono (fun k _ hk => hS k hk)).same hf')
theorem Tq.of {q : Nat} {w w' : World} (h : F.Tab w) (hf : Fr (fun _ => False) w w') (hq : w.heap.size ≤ q) : Tq q w' :=
  fun w'' hf' => tab_fr h (hf.trans hf' (fun k hk hs => by omega))
/-- The parser at q: tokens that are not taken yet, how deep they stand, whether there is room for one more. -/
def Ps (w : World) (q : Nat) (ts : List Tok) (d : Nat) (fl : Bool) : Prop :=
  Tq q w ∧ ∃ g off cap, w.heap[q]? = some (psO (.slice (some ⟨g, off, none⟩) ts.length cap) d fl) ∧ g < q ∧ ts.length ≤ cap ∧ cap ≤ maxLen ∧
    ∀ (i : Nat) (t : Tok), ts[i]? = some t → ∀ (j : Nat) (x : Value), (tokC t)[j]? = some x → w.cell? ⟨g, off + i * 5 + j, none⟩ = some x
theorem Ps.keepN {w w' : World} {q : Nat} {ts : List Tok} {d : Nat} {fl : Bool} (h : Ps w q ts d fl) (hf : Fr (fun _ => False) w w') : Ps w' q ts d fl := by
  obtain ⟨hTq, g, off, cap, h1, h2, h3, h4, h5⟩ := h
  exact ⟨hTq.step hf (fun _ f => f.elim), g, off, cap, hf.heap h1 (fun f => f), h2, h3, h4, fun i t ht j x hx => hf.cellN (h5 i t ht j x hx)⟩
theorem Ps.lt {w : World} {q : Nat} {ts : List Tok} {d : Nat} {fl : Bool} (h : Ps w q ts d fl) : q < w.heap.size := by
  obtain ⟨hTq, g, off, cap, h1, _⟩ := h
  exact lt_of_heap h1
/-- With its block written. -/
theorem Ps.set {w w' : World} {q : Nat} {ts : List Tok} {d d' : Nat} {fl fl' : Bool} (h : Ps w q ts d fl) (hf : Fr (fun k => k = q) w w') (hw : ∀ v, w.heap[q]? = some (psO v d fl) → w'.heap[q]? = some (psO v d' fl')) : Ps w' q ts d' fl' := by
  obtain ⟨hTq, g, off, cap, h1, h2, h3, h4, h5⟩ := h
  exact ⟨hTq.step hf (fun k hk => by subst hk; exact Nat.le_refl _), g, off, cap, hw _ h1, h2, h3, h4, fun i t ht j x hx => hf.cell (h5 i t ht j x hx) (by show g ≠ q; omega)⟩

/-- Where only what lies behind it is written. -/
theorem Ps.high {S : Nat → Prop} {w w' : World} {q : Nat} {ts : List Tok} {d : Nat} {fl : Bool} (h : Ps w q ts d fl) (hf : Fr S w w') (hS : ∀ k, S k → q < k) : Ps w' q ts d fl := by
  obtain ⟨hTq, g, off, cap, h1, h2, h3, h4, h5⟩ := h
  exact ⟨hTq.step hf (fun k hk => Nat.le_of_lt (hS k hk)), g, off, cap, hf.heap h1 (fun f => by have := hS q f; omega), h2, h3, h4, fun i t ht j x hx => hf.cell (h5 i t ht j x hx) (fun f => by have := hS g f; omega)⟩
theorem Fr.put (w : World) (g off : Nat) (v : Value) : Fr (fun k => k = g) w (w.setCell ⟨g, off, none⟩ v) := Fr.setCell w ⟨g, off, none⟩ v
theorem set2_fr (w : World) (g : Nat) (v0 v1 : Value) : Fr (fun k => k = g) w ((w.setCell ⟨g, 0, none⟩ v0).setCell ⟨g, 1, none⟩ v1) := (Fr.put w g 0 v0).same (Fr.put _ g 1 v1)
theorem set3_fr (w : World) (g : Nat) (v0 v1 v2 : Value) : Fr (fun k => k = g) w (((w.setCell ⟨g, 0, none⟩ v0).setCell ⟨g, 1, none⟩ v1).setCell ⟨g, 2, none⟩ v2) := (set2_fr w g v0 v1).same (Fr.put _ g 2 v2)
theorem set4_fr (w : World) (g : Nat) (v0 v1 v2 v3 : Value) : Fr (fun k => k = g) w ((((w.setCell ⟨g, 0, none⟩ v0).setCell ⟨g, 1, none⟩ v1).setCell ⟨g, 2, none⟩ v2).setCell ⟨g, 3, none⟩ v3) := (set3_fr w g v0 v1 v2).same (Fr.put _ g 3 v3)
theorem set5_fr (w : World) (g : Nat) (v0 v1 v2 v3 v4 : Value) : Fr (fun k => k = g) w (((((w.setCell ⟨g, 0, none⟩ v0).setCell ⟨g, 1, none⟩ v1).setCell ⟨g, 2, none⟩ v2).setCell ⟨g, 3, none⟩ v3).setCell ⟨g, 4, none⟩ v4) := (set4_fr w g v0 v1 v2 v3).same (Fr.put _ g 4 v4)
theorem set6_fr (w : World) (g : Nat) (v0 v1 v2 v3 v4 v5 : Value) : Fr (fun k => k = g) w ((((((w.setCell ⟨g, 0, none⟩ v0).setCell ⟨g, 1, none⟩ v1).setCell ⟨g, 2, none⟩ v2).setCell ⟨g, 3, none⟩ v3).setCell ⟨g, 4, none⟩ v4).setCell ⟨g, 5, none⟩ v5) := (set5_fr w g v0 v1 v2 v3 v4).same (Fr.put _ g 5 v5)
theorem set7_fr (w : World) (g : Nat) (v0 v1 v2 v3 v4 v5 v6 : Value) : Fr (fun k => k = g) w (((((((w.setCell ⟨g, 0, none⟩ v0).setCell ⟨g, 1, none⟩ v1).setCell ⟨g, 2, none⟩ v2).setCell ⟨g, 3, none⟩ v3).setCell ⟨g, 4, none⟩ v4).setCell ⟨g, 5, none⟩ v5).setCell ⟨g, 6, none⟩ v6) := (set6_fr w g v0 v1 v2 v3 v4 v5).same (Fr.put _ g 6 v6)
theorem set_seven {w : World} {g : Nat} {a b c d e f h : Value} {t : TypeId} (hg : w.heap[g]? = some (.cells #[a, b, c, d, e, f, h] t (0, 0))) (v0 v1 v2 v3 v4 v5 v6 : Value) :
    (((((((w.setCell ⟨g, 0, none⟩ v0).setCell ⟨g, 1, none⟩ v1).setCell ⟨g, 2, none⟩ v2).setCell ⟨g, 3, none⟩ v3).setCell ⟨g, 4, none⟩ v4).setCell ⟨g, 5, none⟩ v5).setCell ⟨g, 6, none⟩ v6).heap[g]? = some (.cells #[v0, v1, v2, v3, v4, v5, v6] t (0, 0)) := by
  have h1 : (w.setCell ⟨g, 0, none⟩ v0).heap[g]? = some (.cells #[v0, b, c, d, e, f, h] t (0, 0)) := heap_setCell_same _ g 0 _ t v0 hg
  have h2 : ((w.setCell ⟨g, 0, none⟩ v0).setCell ⟨g, 1, none⟩ v1).heap[g]? = some (.cells #[v0, v1, c, d, e, f, h] t (0, 0)) := heap_setCell_same _ g 1 _ t v1 h1
  have h3 : (((w.setCell ⟨g, 0, none⟩ v0).setCell ⟨g, 1, none⟩ v1).setCell ⟨g, 2, none⟩ v2).heap[g]? = some (.cells #[v0, v1, v2, d, e, f, h] t (0, 0)) := heap_setCell_same _ g 2 _ t v2 h2
  have h4 : ((((w.setCell ⟨g, 0, none⟩ v0).setCell ⟨g, 1, none⟩ v1).setCell ⟨g, 2, none⟩ v2).setCell ⟨g, 3, none⟩ v3).heap[g]? = some (.cells #[v0, v1, v2, v3, e, f, h] t (0, 0)) := heap_setCell_same _ g 3 _ t v3 h3
  have h5 : (((((w.setCell ⟨g, 0, none⟩ v0).setCell ⟨g, 1, none⟩ v1).setCell ⟨g, 2, none⟩ v2).setCell ⟨g, 3, none⟩ v3).setCell ⟨g, 4, none⟩ v4).heap[g]? = some (.cells #[v0, v1, v2, v3, v4, f, h] t (0, 0)) := heap_setCell_same _ g 4 _ t v4 h4
  have h6 : ((((((w.setCell ⟨g, 0, none⟩ v0).setCell ⟨g, 1, none⟩ v1).setCell ⟨g, 2, none⟩ v2).setCell ⟨g, 3, none⟩ v3).setCell ⟨g, 4, none⟩ v4).setCell ⟨g, 5, none⟩ v5).heap[g]? = some (.cells #[v0, v1, v2, v3, v4, v5, h] t (0, 0)) := heap_setCell_same _ g 5 _ t v5 h5
  have h7 : (((((((w.setCell ⟨g, 0, none⟩ v0).setCell ⟨g, 1, none⟩ v1).setCell ⟨g, 2, none⟩ v2).setCell ⟨g, 3, none⟩ v3).setCell ⟨g, 4, none⟩ v4).setCell ⟨g, 5, none⟩ v5).setCell ⟨g, 6, none⟩ v6).heap[g]? = some (.cells #[v0, v1, v2, v3, v4, v5, v6] t (0, 0)) := heap_setCell_same _ g 6 _ t v6 h6
  exact h7

/-- The result lies in memory. -/
theorem post_one {fn : Func} {R : Ending → World → Prop} {a : Act} {w : World} {v : Value} (hr : (results fn a.tmps).run Tryz.prog w = .ok v w) (hd : a.defers = []) (hR : R (.returned v) w) : bodyPost Tryz.prog fn R .ret a w := ⟨hd, _, hr, hR⟩
theorem info_fault : (Tryz.prog.info? 75).map (·.size) = some 2 := by kernel_rfl
theorem fr_set1 {S : Nat → Prop} {w w' : World} {b : Nat} (h : Fr S w w') (hb : w.heap.size ≤ b) (off : Nat) (v : Value) : Fr S w (w'.setCell ⟨b, off, none⟩ v) :=
  h.over (Fr.setCell w' ⟨b, off, none⟩ v) (fun k hk => by have : k = b := hk; omega)

/-- What lies where the first token lies. -/
theorem Ps.head {w : World} {q : Nat} {t : Tok} {r : List Tok} {d : Nat} {fl : Bool} (h : Ps w q (t :: r) d fl) : ∃ g off cap, w.heap[q]? = some (psO (.slice (some ⟨g, off, none⟩) (r.length + 1) cap) d fl) ∧ g < q ∧ r.length + 1 ≤ cap ∧ cap ≤ 9223372036854775807 ∧
    w.cell? ⟨g, off, none⟩ = some (.int .i64 (t.k : Int)) ∧ w.cell? ⟨g, off + 1, none⟩ = some (.string ⟨t.x.toArray⟩) ∧ w.cell? ⟨g, off + 2, none⟩ = some (.int .i64 t.ty) ∧ w.cell? ⟨g, off + 3, none⟩ = some (.int .u64 t.b) ∧ w.cell? ⟨g, off + 4, none⟩ = some (.int .i64 (t.p : Int)) ∧
    (∀ (i : Nat) (u : Tok), r[i]? = some u → ∀ (j : Nat) (x : Value), (tokC u)[j]? = some x → w.cell? ⟨g, off + 5 + i * 5 + j, none⟩ = some x) := by
  obtain ⟨hTq, g, off, cap, h1, h2, h3, h4, h5⟩ := h
  have h0 := h5 0 t rfl
  refine ⟨g, off, cap, h1, h2, h3, by unfold maxLen at h4; omega, by simpa using h0 0 _ rfl, by simpa using h0 1 _ rfl, by simpa using h0 2 _ rfl, by simpa using h0 3 _ rfl, by simpa using h0 4 _ rfl, fun i u hu j x hx => ?_⟩
  have := h5 (i + 1) u (by simpa using hu) j x hx
  rw [show off + 5 + i * 5 + j = off + (i + 1) * 5 + j by omega]
  exact this

abbrev tok0 : Obj := .cells #[.int .i64 0, .string ⟨#[]⟩, .int .i64 0, .int .u64 0, .int .i64 0] 57 (0, 0)
set_option maxRecDepth 20000 in
theorem next_any (q : Nat) (t : Tok) (r : List Tok) (d : Nat) (fl : Bool) (w : World) (h : Ps w q (t :: r) d fl) :
    Calls Tryz.prog 55 #[pp q] w fun e w' => e = .returned (.agg #[.int .i64 (t.k : Int), .string ⟨t.x.toArray⟩, .int .i64 t.ty, .int .u64 t.b, .int .i64 (t.p : Int)]) ∧ Fr (fun _ => False) w w' := by
  obtain ⟨g, off, cap, h1, h2, h3, h4, c0, c1, c2, c3, c4, _⟩ := h.head
  have f0 := Fr.alloc (fun _ => False) w tok0
  have z0 : (w.alloc tok0).cell? ⟨q, 0, none⟩ = some (.slice (some ⟨g, off, none⟩) (r.length + 1) cap) := cell_of_row _ _ 0 _ _ _ (f0.heap h1 (fun f => f))
  have e0 := f0.cellN c0
  have e1 := f0.cellN c1
  have e2 := f0.cellN c2
  have e3 := f0.cellN c3
  have e4 := f0.cellN c4
  clear c0 c1 c2 c3 c4 h1
  have hz : (0 : Int) < ((r.length + 1 : Nat) : Int) := by omega
  go_enter Tryz.func55, Tryz.ntmps55
  go_wp2_with fail
  exact post_one (results_cell_row rfl _ _ _ _ _ _ _ rfl (alloc_new _ _) Tryz.underlying57 rfl info_tok) rfl ⟨rfl, Fr.alloc _ _ _⟩

theorem fld0 (a b c d e : Value) (w : World) : (Instr.field 57 (.agg #[a, b, c, d, e]) 0).run Tryz.prog w = .ok a w := by kernel_rfl
theorem fld1 (a b c d e : Value) (w : World) : (Instr.field 57 (.agg #[a, b, c, d, e]) 1).run Tryz.prog w = .ok b w := by kernel_rfl
theorem fld2 (a b c d e : Value) (w : World) : (Instr.field 57 (.agg #[a, b, c, d, e]) 2).run Tryz.prog w = .ok (.agg #[c, d]) w := by kernel_rfl
theorem fld3 (a b c d e : Value) (w : World) : (Instr.field 57 (.agg #[a, b, c, d, e]) 3).run Tryz.prog w = .ok e w := by kernel_rfl
/-- The cells of a block, and that they can be written. -/
theorem box2 {w : World} {b : Nat} {x0 x1 : Value} {t : TypeId} (h : w.heap[b]? = some (.cells #[x0, x1] t (0, 0))) :
    w.cell? ⟨b, 0, none⟩ = some x0 ∧ w.cell? ⟨b, 1, none⟩ = some x1 ∧ w.frozen? ⟨b, 0, none⟩ = false ∧ w.frozen? ⟨b, 1, none⟩ = false :=
  ⟨cell_of_row _ _ 0 _ _ _ h, cell_of_row _ _ 1 _ _ _ h, frozen_row h 0, frozen_row h 1⟩
theorem box3 {w : World} {b : Nat} {x0 x1 x2 : Value} {t : TypeId} (h : w.heap[b]? = some (.cells #[x0, x1, x2] t (0, 0))) :
    w.cell? ⟨b, 0, none⟩ = some x0 ∧ w.cell? ⟨b, 1, none⟩ = some x1 ∧ w.cell? ⟨b, 2, none⟩ = some x2 ∧ w.frozen? ⟨b, 0, none⟩ = false ∧ w.frozen? ⟨b, 1, none⟩ = false ∧ w.frozen? ⟨b, 2, none⟩ = false :=
  ⟨cell_of_row _ _ 0 _ _ _ h, cell_of_row _ _ 1 _ _ _ h, cell_of_row _ _ 2 _ _ _ h, frozen_row h 0, frozen_row h 1, frozen_row h 2⟩
theorem box5 {w : World} {b : Nat} {x0 x1 x2 x3 x4 : Value} {t : TypeId} (h : w.heap[b]? = some (.cells #[x0, x1, x2, x3, x4] t (0, 0))) :
    w.cell? ⟨b, 0, none⟩ = some x0 ∧ w.cell? ⟨b, 1, none⟩ = some x1 ∧ w.cell? ⟨b, 2, none⟩ = some x2 ∧ w.cell? ⟨b, 3, none⟩ = some x3 ∧ w.cell? ⟨b, 4, none⟩ = some x4 ∧
    w.frozen? ⟨b, 0, none⟩ = false ∧ w.frozen? ⟨b, 1, none⟩ = false ∧ w.frozen? ⟨b, 2, none⟩ = false ∧ w.frozen? ⟨b, 3, none⟩ = false ∧ w.frozen? ⟨b, 4, none⟩ = false :=
  ⟨cell_of_row _ _ 0 _ _ _ h, cell_of_row _ _ 1 _ _ _ h, cell_of_row _ _ 2 _ _ _ h, cell_of_row _ _ 3 _ _ _ h, cell_of_row _ _ 4 _ _ _ h, frozen_row h 0, frozen_row h 1, frozen_row h 2, frozen_row h 3, frozen_row h 4⟩
theorem box7 {w : World} {b : Nat} {x0 x1 x2 x3 x4 x5 x6 : Value} {t : TypeId} (h : w.heap[b]? = some (.cells #[x0, x1, x2, x3, x4, x5, x6] t (0, 0))) :
    w.cell? ⟨b, 0, none⟩ = some x0 ∧ w.cell? ⟨b, 1, none⟩ = some x1 ∧ w.cell? ⟨b, 2, none⟩ = some x2 ∧ w.cell? ⟨b, 3, none⟩ = some x3 ∧ w.cell? ⟨b, 4, none⟩ = some x4 ∧ w.cell? ⟨b, 5, none⟩ = some x5 ∧ w.cell? ⟨b, 6, none⟩ = some x6 ∧
    w.frozen? ⟨b, 0, none⟩ = false ∧ w.frozen? ⟨b, 1, none⟩ = false ∧ w.frozen? ⟨b, 2, none⟩ = false ∧ w.frozen? ⟨b, 3, none⟩ = false ∧ w.frozen? ⟨b, 4, none⟩ = false ∧ w.frozen? ⟨b, 5, none⟩ = false ∧ w.frozen? ⟨b, 6, none⟩ = false :=
  ⟨cell_of_row _ _ 0 _ _ _ h, cell_of_row _ _ 1 _ _ _ h, cell_of_row _ _ 2 _ _ _ h, cell_of_row _ _ 3 _ _ _ h, cell_of_row _ _ 4 _ _ _ h, cell_of_row _ _ 5 _ _ _ h, cell_of_row _ _ 6 _ _ _ h, frozen_row h 0, frozen_row h 1, frozen_row h 2, frozen_row h 3, frozen_row h 4, frozen_row h 5, frozen_row h 6⟩
set_option maxRecDepth 20000 in
theorem is_any (q : Nat) (s : Bs) (t : Tok) (r : List Tok) (d : Nat) (fl : Bool) (b : Bool) (hb : Hidden ((t.x == s) = b)) (w : World) (h : Ps w q (t :: r) d fl) :
    Calls Tryz.prog 46 #[pp q, ct s] w fun e w' => e = .returned (.bool b) ∧ Fr (fun _ => False) w w' := by
  have kn := next_any q t r d fl w h
  have hf1 := fld1
  go_enter Tryz.func46, Tryz.ntmps46
  go_wp2_with (go_at_call 55; refine kn.mono ?_; rintro e W1 ⟨rfl, f1⟩)
  go_ret
  refine ⟨?_, f1⟩
  rw [← (show _ = b from hb)]
  rfl
set_option maxRecDepth 20000 in
theorem fault_any (q : Nat) (c : Int) (t : Tok) (r : List Tok) (d : Nat) (fl : Bool) (w : World) (h : Ps w q (t :: r) d fl) :
    Calls Tryz.prog 52 #[pp q, ci c] w fun e w' => e = .returned (.agg #[ci (t.p : Int), ci c]) ∧ Fr (fun _ => False) w w' := by
  have f0 := Fr.alloc (fun _ => False) w (.cells #[ci 0, ci 0] 75)
  have kn := next_any q t r d fl _ (h.keepN f0)
  have hf3 := fld3
  have hn : Hidden ((w.alloc (.cells #[ci 0, ci 0] 75)).heap[w.heap.size]? = some (.cells #[ci 0, ci 0] 75 (0, 0))) := alloc_new _ _
  go_enter Tryz.func52, Tryz.ntmps52
  go_wp2_with fail
  go_at_call 55
  refine kn.mono ?_
  rintro e W1 ⟨rfl, f1⟩
  have hb := f1.heap hn (fun f => f)
  have c0 : W1.cell? ⟨w.heap.size, 0, none⟩ = some (ci 0) := cell_of_row _ _ 0 _ _ _ hb
  have c1 : W1.cell? ⟨w.heap.size, 1, none⟩ = some (ci 0) := cell_of_row _ _ 1 _ _ _ hb
  have z0 := frozen_row hb 0
  have z1 := frozen_row hb 1
  go_wp2_with fail
  refine post_one (results_cell_row rfl _ _ _ _ _ _ _ rfl (set_two hb _ _) Tryz.underlying75 rfl info_fault) rfl ⟨rfl, ?_⟩
  exact fr_set1 (fr_set1 (f0.same f1) (Nat.le_refl _) _ _) (Nat.le_refl _) _ _
/-- It gave up at a place by an error. -/
def gP (p : Nat) (c : Int) : Ending := .panicked [{ v := .iface 75 (.agg #[.int .i64 (p : Int), .int .i64 c]), recovered := false }]
theorem slice_tail (g off n cap : Nat) (h : n + 1 ≤ cap) (hc : cap ≤ 9223372036854775807) : ∃ off', (n = 0 ∨ off' = off + 5) ∧ ∀ w, (Instr.slice 34 (.slice (some ⟨g, off, none⟩) (n + 1) cap) (some (.int .i64 1)) none none).run Tryz.prog w = .ok (.slice (some ⟨g, off', none⟩) n (cap - 1)) w := by
  have hi : Tryz.prog.info? 57 = none ∨ ∃ i, Tryz.prog.info? 57 = some i ∧ i.size = 5 := by
    have := info_tok
    cases hx : Tryz.prog.info? 57 with
    | none => exact Or.inl rfl
    | some i => rw [hx] at this; exact Or.inr ⟨i, rfl, by simpa using this⟩
  rcases hi with hi | ⟨i, hi, h5⟩
  · have := info_tok
    rw [hi] at this
    cases this
  · by_cases h1 : cap = 1
    · refine ⟨off, Or.inl (by omega), fun w => ?_⟩
      subst h1
      obtain rfl : n = 0 := by omega
      simp [Instr.slice, Instr.sliceBounds, Instr.sliceBound, go_sem, Tryz.underlying34, sizeOf, typeInfo, hi, h5, Sem.run_bind]
    · refine ⟨off + 5, Or.inr rfl, fun w => ?_⟩
      simp [Instr.slice, Instr.sliceBounds, Instr.sliceBound, go_sem, Tryz.underlying34, sizeOf, typeInfo, hi, h5, Sem.run_bind, Addr.add, h1]
      intro h9
      omega

theorem frozen_ps {w : World} {q : Nat} {v : Value} {d : Nat} {fl : Bool} (h : w.heap[q]? = some (psO v d fl)) (j : Nat) : w.frozen? ⟨q, j, none⟩ = false := frozen_row h j
set_option maxRecDepth 20000 in
theorem take_no (q : Nat) (t : Tok) (r : List Tok) (d : Nat) (w : World) (h : Ps w q (t :: r) d true) :
    Calls Tryz.prog 56 #[pp q] w fun e w' => e = gP t.p 3 ∧ Fr (fun _ => False) w w' := by
  have f0 := Fr.alloc (fun _ => False) w tok0
  have kf := fault_any q 3 t r d true _ (h.keepN f0)
  obtain ⟨hTq, g, off, cap, h1, _⟩ := h
  have z2 : (w.alloc tok0).cell? ⟨q, 2, none⟩ = some (.bool true) := cell_of_row _ _ 2 _ _ _ (f0.heap h1 (fun f => f))
  clear h1
  go_enter Tryz.func56, Tryz.ntmps56
  go_wp2_with (go_at_call 52; refine kf.mono ?_; rintro e W1 ⟨rfl, f1⟩)
  exact ⟨rfl, rfl, f0.same f1⟩
set_option maxRecDepth 20000 in
theorem take_ok (q : Nat) (t : Tok) (r : List Tok) (d : Nat) (w : World) (h : Ps w q (t :: r) d false) :
    Calls Tryz.prog 56 #[pp q] w fun e w' => e = .returned (.agg #[.int .i64 (t.k : Int), .string ⟨t.x.toArray⟩, .int .i64 t.ty, .int .u64 t.b, .int .i64 (t.p : Int)]) ∧ Ps w' q r d false ∧ Fr (fun k => k = q) w w' := by
  have f0 := Fr.alloc (fun _ => False) w tok0
  have kn := next_any q t r d false _ (h.keepN f0)
  have hn : Hidden ((w.alloc tok0).heap[w.heap.size]? = some tok0) := alloc_new _ _
  have hlt := h.lt
  obtain ⟨g, off, cap, h1, h2, h3, h4, c0, c1, c2, c3, c4, hrest⟩ := h.head
  have z2 : (w.alloc tok0).cell? ⟨q, 2, none⟩ = some (.bool false) := cell_of_row _ _ 2 _ _ _ (f0.heap h1 (fun f => f))
  have hTq := h.1
  obtain ⟨off', hoff, hsl⟩ := slice_tail g off r.length cap h3 h4
  have h1H : Hidden (w.heap[q]? = some (psO (.slice (some ⟨g, off, none⟩) (r.length + 1) cap) d false)) := h1
  have hoffH : Hidden (r.length = 0 ∨ off' = off + 5) := hoff
  clear c0 c1 c2 c3 c4 h1 hoff h
  go_enter Tryz.func56, Tryz.ntmps56
  go_wp2_with fail
  go_at_call 55
  refine kn.mono ?_
  rintro e W1 ⟨rfl, f1⟩
  have hq1 := (f0.same f1).heap h1H (fun f => f)
  have hn1 := f1.heap hn (fun f => f)
  have hs1 := f1.size
  have fa := Fr.alloc (fun _ => False) W1 (.cells #[.int .i64 (t.k : Int), .string ⟨t.x.toArray⟩, .int .i64 t.ty, .int .u64 t.b, .int .i64 (t.p : Int)] 57)
  have y0 : (W1.alloc (.cells #[.int .i64 (t.k : Int), .string ⟨t.x.toArray⟩, .int .i64 t.ty, .int .u64 t.b, .int .i64 (t.p : Int)] 57)).cell? ⟨q, 0, none⟩ = some (.slice (some ⟨g, off, none⟩) (r.length + 1) cap) := cell_of_row _ _ 0 _ _ _ (fa.heap hq1 (fun f => f))
  have z0 := frozen_ps (fa.heap hq1 (fun f => f)) 0
  go_upto_region 5 with fail
  have g1 : Fr (fun k => k = q) W1 ((W1.alloc (.cells #[.int .i64 (t.k : Int), .string ⟨t.x.toArray⟩, .int .i64 t.ty, .int .u64 t.b, .int .i64 (t.p : Int)] 57)).setCell ⟨q, 0, none⟩ (.slice (some ⟨g, off', none⟩) r.length (cap - 1))) := (fa.mono (fun _ _ f => f.elim)).same (Fr.setCell _ ⟨q, 0, none⟩ _)
  have g2 : ((W1.alloc (.cells #[.int .i64 (t.k : Int), .string ⟨t.x.toArray⟩, .int .i64 t.ty, .int .u64 t.b, .int .i64 (t.p : Int)] 57)).setCell ⟨q, 0, none⟩ (.slice (some ⟨g, off', none⟩) r.length (cap - 1))).heap[q]? = some (psO (.slice (some ⟨g, off', none⟩) r.length (cap - 1)) d false) := heap_setCell_same _ q 0 _ 102 _ (fa.heap hq1 (fun f => f))
  have g3 : ((W1.alloc (.cells #[.int .i64 (t.k : Int), .string ⟨t.x.toArray⟩, .int .i64 t.ty, .int .u64 t.b, .int .i64 (t.p : Int)] 57)).setCell ⟨q, 0, none⟩ (.slice (some ⟨g, off', none⟩) r.length (cap - 1))).heap[W1.heap.size]? = some (.cells #[.int .i64 (t.k : Int), .string ⟨t.x.toArray⟩, .int .i64 t.ty, .int .u64 t.b, .int .i64 (t.p : Int)] 57 (0, 0)) := by
    rw [heap_setCell_other _ _ _ _ (by show W1.heap.size ≠ q; simp at hs1; omega)]
    exact alloc_new _ _
  have hn2 := g1.heap hn1 (by omega)
  generalize (W1.alloc (.cells #[.int .i64 (t.k : Int), .string ⟨t.x.toArray⟩, .int .i64 t.ty, .int .u64 t.b, .int .i64 (t.p : Int)] 57)).setCell ⟨q, 0, none⟩ (.slice (some ⟨g, off', none⟩) r.length (cap - 1)) = W2 at g1 g2 g3 hn2 ⊢
  obtain ⟨b0, b1, b2, b3, b4, y0, y1, y2, y3, y4⟩ := box5 g3
  obtain ⟨a0, a1, a2, a3, a4, x0, x1, x2, x3, x4⟩ := box5 hn2
  have g2H : Hidden (W2.heap[q]? = some (psO (.slice (some ⟨g, off', none⟩) r.length (cap - 1)) d false)) := g2
  have hn2H : Hidden (W2.heap[w.heap.size]? = some tok0) := hn2
  clear g2 g3 hn2 hn1 hq1 y0 y1 y2 y3 y4
  go_wp2_with fail
  have fr5 := fr_five (((f0.same f1).mono (fun _ _ f => f.elim)).same g1) (Nat.le_refl _) (.int .i64 (t.k : Int)) (.string ⟨t.x.toArray⟩) (.int .i64 t.ty) (.int .u64 t.b) (.int .i64 (t.p : Int))
  refine post_one (results_cell_row rfl _ _ _ _ _ _ _ rfl (set_five hn2H _ _ _ _ _) Tryz.underlying57 rfl info_tok) rfl ⟨rfl, ?_, fr5⟩
  have hW2 : Ps W2 q r d false := by
    refine ⟨(hTq.step (f0.same f1) (fun _ f => f.elim)).step g1 (fun k hk => by subst hk; exact Nat.le_refl _), g, off', cap - 1, g2H, h2, by omega, by unfold maxLen; omega, fun i u hu j x hx => ?_⟩
    have ho : r.length = 0 ∨ off' = off + 5 := hoffH
    rcases ho with h0 | rfl
    · rw [List.eq_nil_of_length_eq_zero h0] at hu
      simp at hu
    · exact g1.cell ((f0.same f1).cellN (hrest i u hu j x hx)) (by show g ≠ q; omega)
  exact hW2.high (set5_fr W2 w.heap.size _ _ _ _ _) (fun k hk => by subst hk; exact hlt)
/-- A call that reads tokens: it comes back with them taken, or it gave up. -/
def Out {α : Type} (T : α → Value → World → World → Prop) (q d : Nat) (w : World) (r : Pz.Rs α) (e : Ending) (w' : World) : Prop :=
  match r with
  | .ok a ts => ∃ v, e = .returned v ∧ T a v w w' ∧ Ps w' q ts d false ∧ Fr (fun k => k = q) w w'
  | .er p c => e = gP p c ∧ Fr (fun k => k = q) w w'
theorem frq {q : Nat} {w w' : World} (h : Fr (fun _ => False) w w') : Fr (fun k => k = q) w w' := h.mono (fun _ _ f => f.elim)

theorem has_no (q : Nat) (s : Bs) (t : Tok) (r : List Tok) (d : Nat) (fl : Bool) (hx : t.x ≠ s) (w : World) (h : Ps w q (t :: r) d fl) :
    Calls Tryz.prog 80 #[pp q, ct s] w fun e w' => e = .returned (.bool false) ∧ Fr (fun _ => False) w w' := by
  have ki := is_any q s t r d fl false (by simpa [Hidden] using hx) w h
  go_enter Tryz.func80, Tryz.ntmps80
  go_wp2_with (go_at_call 46; refine ki.mono ?_; rintro e W1 ⟨rfl, f1⟩)
  go_ret
  exact ⟨rfl, f1⟩
theorem has_yes (q : Nat) (s : Bs) (t : Tok) (r : List Tok) (d : Nat) (hx : t.x = s) (w : World) (h : Ps w q (t :: r) d false) :
    Calls Tryz.prog 80 #[pp q, ct s] w fun e w' => e = .returned (.bool true) ∧ Ps w' q r d false ∧ Fr (fun k => k = q) w w' := by
  have ki := is_any q s t r d false true (by simpa [Hidden] using hx) w h
  have kt := fun w => take_ok q t r d w
  have hH : Hidden (Ps w q (t :: r) d false) := h
  clear hx h
  go_enter Tryz.func80, Tryz.ntmps80
  go_wp2_with fail
  go_at_call 46
  refine ki.mono ?_
  rintro e W1 ⟨rfl, f1⟩
  go_wp2_with fail
  go_at_call 56
  refine (kt _ (Ps.keepN hH f1)).mono ?_
  rintro e W2 ⟨rfl, h2, f2⟩
  go_wp2_with fail
  go_ret
  exact ⟨rfl, h2, (frq f1).same f2⟩
theorem has_full (q : Nat) (s : Bs) (t : Tok) (r : List Tok) (d : Nat) (hx : t.x = s) (w : World) (h : Ps w q (t :: r) d true) :
    Calls Tryz.prog 80 #[pp q, ct s] w fun e w' => e = gP t.p 3 ∧ Fr (fun k => k = q) w w' := by
  have ki := is_any q s t r d true true (by simpa [Hidden] using hx) w h
  have kt := fun w => take_no q t r d w
  have hH : Hidden (Ps w q (t :: r) d true) := h
  unfold gP at *
  clear hx h
  go_enter Tryz.func80, Tryz.ntmps80
  go_wp2_with fail
  go_at_call 46
  refine ki.mono ?_
  rintro e W1 ⟨rfl, f1⟩
  go_wp2_with fail
  go_at_call 56
  refine (kt _ (Ps.keepN hH f1)).mono ?_
  rintro e W2 ⟨rfl, f2⟩
  go_wp2_with fail
  exact ⟨rfl, rfl, frq (f1.same f2)⟩
/-- must. -/
theorem must_c (q : Nat) (s : Bs) (ts : List Tok) (d : Nat) (fl : Bool) (rs : Pz.Rs Unit) (hs : Pz.must s fl ts = some rs) (w : World) (h : Ps w q ts d fl) :
    Calls Tryz.prog 44 #[pp q, ct s] w (Out (fun _ v _ _ => v = .tuple #[]) q d w rs) := by
  cases ts with
  | nil => simp [Pz.must] at hs
  | cons t r =>
    simp only [Pz.must] at hs
    by_cases hx : t.x = s
    · rw [if_pos hx] at hs
      cases fl
      · have e : Pz.Rs.ok () r = rs := by simpa using hs
        subst e
        have k := has_yes q s t r d hx w h
        clear hs hx
        unfold Out
        go_enter Tryz.func44, Tryz.ntmps44
        go_wp2_with (go_at_call 80; refine k.mono ?_; rintro e W1 ⟨rfl, h1, f1⟩)
        go_end0
        exact ⟨_, rfl, rfl, h1, f1⟩
      · have e : Pz.Rs.er t.p 3 = rs := by simpa using hs
        subst e
        have k := has_full q s t r d hx w h
        clear hs hx
        unfold Out gP at *
        go_enter Tryz.func44, Tryz.ntmps44
        go_wp2_with (go_at_call 80; refine k.mono ?_; rintro e W1 ⟨rfl, f1⟩)
        exact ⟨rfl, rfl, f1⟩
    · rw [if_neg hx] at hs
      have e : Pz.Rs.er t.p 11 = rs := by simpa using hs
      subst e
      have k := has_no q s t r d fl hx w h
      have kf := fun w => fault_any q 11 t r d fl w
      have hH : Hidden (Ps w q (t :: r) d fl) := h
      clear hs hx h
      unfold Out gP at *
      go_enter Tryz.func44, Tryz.ntmps44
      go_wp2_with fail
      go_at_call 80
      refine k.mono ?_
      rintro e W1 ⟨rfl, f1⟩
      go_wp2_with fail
      go_at_call 52
      refine (kf _ (Ps.keepN hH f1)).mono ?_
      rintro e W2 ⟨rfl, f2⟩
      go_wp2_with fail
      exact ⟨rfl, rfl, frq (f1.same f2)⟩
/-- has. -/
theorem has_c (q : Nat) (s : Bs) (ts : List Tok) (d : Nat) (rs : Pz.Rs Bool) (hs : Pz.has s false ts = some rs) (w : World) (h : Ps w q ts d false) :
    Calls Tryz.prog 80 #[pp q, ct s] w (Out (fun b v _ _ => v = .bool b) q d w rs) := by
  cases ts with
  | nil => simp [Pz.has] at hs
  | cons t r =>
    simp only [Pz.has] at hs
    by_cases hx : t.x = s
    · rw [if_pos hx] at hs
      have e : Pz.Rs.ok true r = rs := by simpa using hs
      subst e
      exact (has_yes q s t r d hx w h).mono fun e w' ⟨h1, h2, h3⟩ => ⟨_, h1, rfl, h2, h3⟩
    · rw [if_neg hx] at hs
      have e : Pz.Rs.ok false (t :: r) = rs := by simpa using hs
      subst e
      exact (has_no q s t r d false hx w h).mono fun e w' ⟨h1, h2⟩ => ⟨_, h1, rfl, h.keepN h2, frq h2⟩
set_option maxRecDepth 20000 in
/-- name. -/
theorem name_c (q : Nat) (ts : List Tok) (d : Nat) (fl : Bool) (rs : Pz.Rs Bs) (hs : Pz.name fl ts = some rs) (w : World) (h : Ps w q ts d fl) :
    Calls Tryz.prog 45 #[pp q] w (Out (fun n v _ _ => v = ct n) q d w rs) := by
  have hf0 := fld0
  have hf1 := fld1
  cases ts with
  | nil => simp [Pz.name] at hs
  | cons t r =>
    simp only [Pz.name] at hs
    have kn := next_any q t r d fl w h
    have hH : Hidden (Ps w q (t :: r) d fl) := h
    by_cases hx : t.k = 1
    · rw [if_pos hx] at hs
      have hk : ((t.k : Int) == 1) = true := by simp [hx]
      have hk2 : ((t.k : Int) != 1) = false := by simp [hx]
      cases fl
      · have e : Pz.Rs.ok t.x r = rs := by simpa using hs
        subst e
        have kt := fun w => take_ok q t r d w
        clear hs hx h
        unfold Out
        go_enter Tryz.func45, Tryz.ntmps45
        go_wp2_with fail
        go_at_call 55
        refine kn.mono ?_
        rintro e W1 ⟨rfl, f1⟩
        go_wp2_with fail
        go_at_call 56
        refine (kt _ (Ps.keepN hH f1)).mono ?_
        rintro e W2 ⟨rfl, h2, f2⟩
        go_wp2_with fail
        go_ret
        exact ⟨_, rfl, rfl, h2, (frq f1).same f2⟩
      · have e : Pz.Rs.er t.p 3 = rs := by simpa using hs
        subst e
        have kt := fun w => take_no q t r d w
        clear hs hx h
        unfold Out gP at *
        go_enter Tryz.func45, Tryz.ntmps45
        go_wp2_with fail
        go_at_call 55
        refine kn.mono ?_
        rintro e W1 ⟨rfl, f1⟩
        go_wp2_with fail
        go_at_call 56
        refine (kt _ (Ps.keepN hH f1)).mono ?_
        rintro e W2 ⟨rfl, f2⟩
        go_wp2_with fail
        exact ⟨rfl, rfl, frq (f1.same f2)⟩
    · rw [if_neg hx] at hs
      have hk : ((t.k : Int) == 1) = false := by rw [beq_eq_false_iff_ne]; omega
      have hk2 : ((t.k : Int) != 1) = true := by rw [bne_iff_ne]; omega
      have e : Pz.Rs.er t.p 11 = rs := by simpa using hs
      subst e
      have kf := fun w => fault_any q 11 t r d fl w
      clear hs hx h
      unfold Out gP at *
      go_enter Tryz.func45, Tryz.ntmps45
      go_wp2_with fail
      go_at_call 55
      refine kn.mono ?_
      rintro e W1 ⟨rfl, f1⟩
      go_wp2_with fail
      go_at_call 52
      refine (kf _ (Ps.keepN hH f1)).mono ?_
      rintro e W2 ⟨rfl, f2⟩
      go_wp2_with fail
      exact ⟨rfl, rfl, frq (f1.same f2)⟩
end Go.Proofs.YtpkaekokkhecmaaGreatDoor
