/- The program's parser: statements. -/
import Derived.Test.YtpkaekokkhecmaaGreatDoorPwG
namespace Go.Proofs.YtpkaekokkhecmaaGreatDoor
open Go.RowKit Lx Te
set_option linter.unusedSimpArgs false
set_option linter.unusedVariables false
set_option linter.unusedSectionVars false

theorem info_st : (Tryz.prog.info? 169).map (·.size) = some 5 := by kernel_rfl
abbrev st0 : Obj := .cells #[ci 0, .string ⟨#[]⟩, .slice none 0 0, .slice none 0 0, .slice none 0 0] 169 (0, 0)
theorem post_st {fn : Func} {R : Ending → World → Prop} {a : Act} {w : World} {p : Tmp} {g : Nat} {x0 x1 x2 x3 x4 v0 v1 v2 v3 v4 : Value} (hg : w.heap[g]? = some (.cells #[x0, x1, x2, x3, x4] 169 (0, 0))) (h : fn.results = #[.cell p 169]) (hd : a.defers = [])
    (hp : a.tmps.getD p undef = .pointer (some ⟨g, 0, none⟩)) (hR : R (.returned (.agg #[v0, v1, v2, v3, v4])) (((((w.setCell ⟨g, 0, none⟩ v0).setCell ⟨g, 1, none⟩ v1).setCell ⟨g, 2, none⟩ v2).setCell ⟨g, 3, none⟩ v3).setCell ⟨g, 4, none⟩ v4)) :
    bodyPost Tryz.prog fn R .ret a (((((w.setCell ⟨g, 0, none⟩ v0).setCell ⟨g, 1, none⟩ v1).setCell ⟨g, 2, none⟩ v2).setCell ⟨g, 3, none⟩ v3).setCell ⟨g, 4, none⟩ v4) :=
  post_one (results_cell_row h _ _ _ _ _ _ _ hp (set_five hg _ _ _ _ _) Tryz.underlying169 rfl info_st) hd hR
/-- A statement that was made since; statements in a row. -/
def TS (s : Pz.St) (v : Value) (w w' : World) : Prop := ∃ ao1 cap1 ao2 cap2 ao3 cap3, v = .agg #[ci s.1.kind, ct s.1.name, .slice ao1 s.2.1.len cap1, .slice ao2 s.2.2.1.len cap2, .slice ao3 s.2.2.2.len cap3] ∧ Nw w.heap.size w' (fun w => ExL w ao1 cap1 s.2.1 ∧ StL w ao2 cap2 s.2.2.1 ∧ StL w ao3 cap3 s.2.2.2)
def TB (l : Sts) (v : Value) (w w' : World) : Prop := ∃ ao cap, v = .slice ao l.len cap ∧ Nw w.heap.size w' (fun w => StL w ao cap l)
def CE0 (E : Nat → List Tok → Pz.Ou Pz.Ex) : Prop := ∀ (d : Nat) (ts : List Tok) (rs : Pz.Rs Pz.Ex) (q : Nat) (w : World), d ≤ 32 → E d ts = some rs → Ps w q ts d false → Calls Tryz.prog 13 #[pp q] w (Out TE q d w rs)
def CC0 (C : Nat → Pz.Ex → List Tok → Pz.Ou Pz.Ex) : Prop := ∀ (d : Nat) (x : Pz.Ex) (ao : Option Addr) (n cap : Nat) (ts : List Tok) (rs : Pz.Rs Pz.Ex) (q : Nat) (w : World), d ≤ 32 → C d x ts = some rs → Ps w q ts d false →
  Calls Tryz.prog 107 #[pp q, .agg #[ci x.1.kind, ci x.1.op, ct x.1.mod, ct x.1.name, ci x.1.vt, .int .u64 x.1.vb, .slice ao n cap]] w (Out TE q d w rs)
def CB0 (B : Nat → List Tok → Pz.Ou Sts) : Prop := ∀ (d : Nat) (ts : List Tok) (rs : Pz.Rs Sts) (q : Nat) (w : World), d ≤ 32 → B d ts = some rs → Ps w q ts d false → Calls Tryz.prog 102 #[pp q] w (Out TB q d w rs)
theorem stnil (w : World) : StL w none 0 .nil := ⟨Nat.le_refl _, by decide, Or.inl rfl⟩
theorem exnil (w : World) : ExL w none 0 .nil := ⟨Nat.le_refl _, by decide, Or.inl rfl⟩
/- ended, whatever the statement. -/

set_option maxRecDepth 20000 in
set_option maxHeartbeats 1000000 in
theorem ended_c (q : Nat) (kind : Int) (ev : Value) (hev : ∃ ao n cap, ev = .slice ao n cap) (ts : List Tok) (d : Nat) (rs : Pz.Rs Unit) (hs : Hidden (Pz.must [59] false ts = some rs)) (w : World) (h : Ps w q ts d false) :
    Calls Tryz.prog 143 #[pp q, ci kind, ev] w (Out (fun _ v _ _ => v = .agg #[ci kind, .string ⟨#[]⟩, ev, .slice none 0 0, .slice none 0 0]) q d w rs) := by
  obtain ⟨aoe, ne, cape, rfl⟩ := hev
  have hq := h.lt
  have f0 := Fr.alloc (fun _ => False) w st0
  have g0 : Fr (fun k => k = q) w (w.alloc st0) := frq f0
  have hP0 : Hidden (Ps (w.alloc st0) q ts d false) := h.keepN f0
  have hb0 : Hidden ((w.alloc st0).heap[w.heap.size]? = some st0) := alloc_new _ _
  clear h
  go_enter Tryz.func143, Tryz.ntmps143
  go_wp2_with fail
  go_at_call 44
  obtain ⟨r1, e1, hs⟩ : ∃ r, _ = some r ∧ Hidden (r = rs) := ⟨rs, hs, rfl⟩
  refine (must_c q [59] ts d false r1 e1 _ hP0).mono ?_
  clear e1
  rcases r1 with ⟨u, ts1⟩ | ⟨p, c⟩
  rotate_left
  · obtain rfl : .er p c = rs := hs
    rintro e W1 ⟨rfl, f1⟩
    unfold gP
    go_wp2_with fail
    exact ⟨rfl, rfl, g0.same f1⟩
  rintro e W1 ⟨v1, rfl, rfl, hQ1, f1⟩
  have g1 := g0.same f1
  have s1 := f1.size
  have t1 := g1.size
  have hP1 : Hidden (Ps W1 q ts1 d false) := hQ1
  clear hQ1
  simp only [World.size_alloc] at s1
  have hb0_1 : Hidden (W1.heap[w.heap.size]? = some (st0)) := f1.heap hb0 (by omega)
  obtain rfl : .ok u ts1 = rs := hs
  obtain ⟨b0c0, b0c1, b0c2, b0c3, b0c4, b0z0, b0z1, b0z2, b0z3, b0z4⟩ := box5 hb0_1
  go_wp2_with fail
  have fs := set5_fr W1 w.heap.size (ci kind) (.string ⟨#[]⟩) (.slice aoe ne cape) (.slice none 0 0) (.slice none 0 0)
  exact post_st hb0_1 rfl rfl rfl ⟨_, rfl, rfl, Ps.high hP1 fs (fun k hk => by subst hk; exact hq), g1.over fs (fun k hk => by subst hk; exact Nat.le_refl _)⟩

section
variable {E : Nat → List Tok → Pz.Ou Pz.Ex} (hE : CE0 E) {C : Nat → Pz.Ex → List Tok → Pz.Ou Pz.Ex} (hC : CC0 C) {B : Nat → List Tok → Pz.Ou Sts} (hB : CB0 B)
include hE
set_option maxRecDepth 20000 in
set_option maxHeartbeats 1000000 in
theorem lone_c (q : Nat) (ts : List Tok) (d : Nat) (hd : d ≤ 32) (rs : Pz.Rs Exs) (hs : Hidden (Pz.lone E d ts = some rs)) (w : World) (h : Ps w q ts d false) :
    Calls Tryz.prog 99 #[pp q] w (Out TL q d w rs) := by
  have hq := h.lt
  have g0 := Fr.refl (fun k => k = q) w
  have hP0 : Hidden (Ps w q ts d false) := h
  clear h
  go_enter Tryz.func99, Tryz.ntmps99
  go_wp2_with fail
  go_at_call 13
  obtain ⟨r1, e1, hs⟩ := Pz.bd_some hs
  refine (hE d ts r1 q _ hd e1 hP0).mono ?_
  clear e1
  rcases r1 with ⟨x, ts1⟩ | ⟨p, c⟩
  rotate_left
  · obtain rfl : rs = .er p c := hs
    rintro e W1 ⟨rfl, f1⟩
    unfold gP
    go_wp2_with fail
    exact ⟨rfl, rfl, g0.same f1⟩
  rintro e W1 ⟨v1, rfl, ⟨ao, cap, rfl, hN⟩, hQ1, f1⟩
  have g1 := g0.same f1
  have s1 := f1.size
  have t1 := g1.size
  have hP1 : Hidden (Ps W1 q ts1 d false) := hQ1
  clear hQ1
  obtain rfl : rs = .ok (.cons x.1 x.2 .nil) ts1 := (Option.some.inj (show some _ = some rs from hs)).symm
  have fab1 := Fr.alloc (fun _ => False) W1 (.cells #[ci x.1.kind, ci x.1.op, ct x.1.mod, ct x.1.name, ci x.1.vt, .int .u64 x.1.vb, .slice ao x.2.len cap] 27)
  have gb1 : Fr (fun k => k = q) w (W1.alloc (.cells #[ci x.1.kind, ci x.1.op, ct x.1.mod, ct x.1.name, ci x.1.vt, .int .u64 x.1.vb, .slice ao x.2.len cap] 27)) := g1.same (frq fab1)
  have hPb1 : Hidden (Ps (W1.alloc (.cells #[ci x.1.kind, ci x.1.op, ct x.1.mod, ct x.1.name, ci x.1.vt, .int .u64 x.1.vb, .slice ao x.2.len cap] 27)) q ts1 d false) := Ps.keepN hP1 fab1
  have hnb1 : Hidden ((W1.alloc (.cells #[ci x.1.kind, ci x.1.op, ct x.1.mod, ct x.1.name, ci x.1.vt, .int .u64 x.1.vb, .slice ao x.2.len cap] 27)).heap[W1.heap.size]? = some (.cells #[ci x.1.kind, ci x.1.op, ct x.1.mod, ct x.1.name, ci x.1.vt, .int .u64 x.1.vb, .slice ao x.2.len cap] 27)) := alloc_new _ _
  go_wp2_with fail
  go_ret
  exact ⟨_, rfl, ⟨some ⟨W1.heap.size, 0, none⟩, 1, rfl, (hN.step fab1 (fun _ f => f.elim)).one hnb1 (by omega)⟩, hPb1, gb1⟩

set_option maxRecDepth 20000 in
set_option maxHeartbeats 1000000 in
theorem asg_c (q : Nat) (kind : Int) (n : Bs) (ts : List Tok) (d : Nat) (hd : d ≤ 32) (rs : Pz.Rs Pz.St) (hs : Hidden (Pz.asg E d kind n ts = some rs)) (w : World) (h : Ps w q ts d false) :
    Calls Tryz.prog 140 #[pp q, ci kind, ct n] w (Out TS q d w rs) := by
  have hq := h.lt
  have f0 := Fr.alloc (fun _ => False) w st0
  have g0 : Fr (fun k => k = q) w (w.alloc st0) := frq f0
  have hP0 : Hidden (Ps (w.alloc st0) q ts d false) := h.keepN f0
  have hb0 : Hidden ((w.alloc st0).heap[w.heap.size]? = some st0) := alloc_new _ _
  clear h
  go_enter Tryz.func140, Tryz.ntmps140
  go_wp2_with fail
  go_at_call 44
  obtain ⟨r1, e1, hs⟩ := Pz.bd_some hs
  refine (must_c q [61] ts d false r1 e1 _ hP0).mono ?_
  clear e1
  rcases r1 with ⟨u, ts1⟩ | ⟨p, c⟩
  rotate_left
  · obtain rfl : rs = .er p c := hs
    rintro e W1 ⟨rfl, f1⟩
    unfold gP
    go_wp2_with fail
    exact ⟨rfl, rfl, g0.same f1⟩
  rintro e W1 ⟨v1, rfl, rfl, hQ1, f1⟩
  have g1 := g0.same f1
  have s1 := f1.size
  have t1 := g1.size
  have hP1 : Hidden (Ps W1 q ts1 d false) := hQ1
  clear hQ1
  simp only [World.size_alloc] at s1
  have hb0_1 : Hidden (W1.heap[w.heap.size]? = some (st0)) := f1.heap hb0 (by omega)
  go_wp2_with fail
  go_at_call 99
  obtain ⟨r2, e2, hs⟩ := Pz.bd_some hs
  refine (lone_c hE q ts1 d hd r2 e2 _ hP1).mono ?_
  clear e2
  rcases r2 with ⟨l, ts2⟩ | ⟨p, c⟩
  rotate_left
  · obtain rfl : rs = .er p c := hs
    rintro e W2 ⟨rfl, f2⟩
    unfold gP
    go_wp2_with fail
    exact ⟨rfl, rfl, g1.same f2⟩
  rintro e W2 ⟨v2, rfl, ⟨ao, cap, rfl, hN⟩, hQ2, f2⟩
  have g2 := g1.same f2
  have s2 := f2.size
  have t2 := g2.size
  have hP2 : Hidden (Ps W2 q ts2 d false) := hQ2
  clear hQ2
  have hb0_2 : Hidden (W2.heap[w.heap.size]? = some (st0)) := f2.heap hb0_1 (by omega)
  go_wp2_with fail
  go_at_call 143
  obtain ⟨r3, e3, hs⟩ := Pz.bd_some hs
  refine (ended_c q kind (.slice ao l.len cap) ⟨_, _, _, rfl⟩ ts2 d r3 e3 _ hP2).mono ?_
  clear e3
  rcases r3 with ⟨u3, ts3⟩ | ⟨p, c⟩
  rotate_left
  · obtain rfl : rs = .er p c := hs
    rintro e W3 ⟨rfl, f3⟩
    unfold gP
    go_wp2_with fail
    exact ⟨rfl, rfl, g2.same f3⟩
  rintro e W3 ⟨v3, rfl, rfl, hQ3, f3⟩
  have g3 := g2.same f3
  have s3 := f3.size
  have t3 := g3.size
  have hP3 : Hidden (Ps W3 q ts3 d false) := hQ3
  clear hQ3
  have hb0_3 : Hidden (W3.heap[w.heap.size]? = some (st0)) := f3.heap hb0_2 (by omega)
  have hZ := Nw.nz (z := W3.heap.size) ((hN.step f3 (fun k hk => by subst hk; omega)).weak (B' := w.heap.size + 1) (by omega)) (Nat.le_refl _)
  obtain rfl : rs = .ok (⟨kind, n⟩, l, .nil, .nil) ts3 := (Option.some.inj (show some _ = some rs from hs)).symm
  have fab1 := Fr.alloc (fun _ => False) W3 (.cells #[ci kind, ct n, .slice ao l.len cap, .slice none 0 0, .slice none 0 0] 169)
  have gb1 : Fr (fun k => k = q) w (W3.alloc (.cells #[ci kind, ct n, .slice ao l.len cap, .slice none 0 0, .slice none 0 0] 169)) := g3.same (frq fab1)
  have hPb1 : Hidden (Ps (W3.alloc (.cells #[ci kind, ct n, .slice ao l.len cap, .slice none 0 0, .slice none 0 0] 169)) q ts3 d false) := Ps.keepN hP3 fab1
  have hnb1 : Hidden ((W3.alloc (.cells #[ci kind, ct n, .slice ao l.len cap, .slice none 0 0, .slice none 0 0] 169)).heap[W3.heap.size]? = some (.cells #[ci kind, ct n, .slice ao l.len cap, .slice none 0 0, .slice none 0 0] 169)) := alloc_new _ _
  have hb0_b1 : Hidden ((W3.alloc (.cells #[ci kind, ct n, .slice ao l.len cap, .slice none 0 0, .slice none 0 0] 169)).heap[w.heap.size]? = some (st0)) := fab1.heap hb0_3 (fun f => f)
  replace hZ := Nz.step hZ fab1 (fun _ f => f.elim)
  obtain ⟨b0c0, b0c1, b0c2, b0c3, b0c4, b0z0, b0z1, b0z2, b0z3, b0z4⟩ := box5 hb0_b1
  obtain ⟨b1c0, b1c1, b1c2, b1c3, b1c4, b1z0, b1z1, b1z2, b1z3, b1z4⟩ := box5 hnb1
  go_wp2_with fail
  have fs := set5_fr (W3.alloc (.cells #[ci kind, ct n, .slice ao l.len cap, .slice none 0 0, .slice none 0 0] 169)) w.heap.size (ci kind) (ct n) (.slice ao l.len cap) (.slice none 0 0) (.slice none 0 0)
  exact post_st hb0_b1 rfl rfl rfl ⟨_, rfl, ⟨ao, cap, none, 0, none, 0, rfl, fun w2 hf => ⟨((hZ.nw.step fs (fun k hk => by subst hk; omega)).weak (by omega)) w2 hf, stnil _, stnil _⟩⟩, Ps.high hPb1 fs (fun k hk => by subst hk; exact hq), gb1.over fs (fun k hk => by subst hk; exact Nat.le_refl _)⟩

include hB
set_option maxRecDepth 20000 in
set_option maxHeartbeats 1000000 in
theorem branch_c (q : Nat) (ts : List Tok) (d : Nat) (hd : d ≤ 32) (rs : Pz.Rs Pz.St) (hs : Hidden (Pz.branch E B d ts = some rs)) (w : World) (h : Ps w q ts d false) :
    Calls Tryz.prog 141 #[pp q] w (Out TS q d w rs) := by
  have hq := h.lt
  have f0 := Fr.alloc (fun _ => False) w st0
  have g0 : Fr (fun k => k = q) w (w.alloc st0) := frq f0
  have hP0 : Hidden (Ps (w.alloc st0) q ts d false) := h.keepN f0
  have hb0 : Hidden ((w.alloc st0).heap[w.heap.size]? = some st0) := alloc_new _ _
  clear h
  go_enter Tryz.func141, Tryz.ntmps141
  go_wp2_with fail
  go_at_call 99
  obtain ⟨r1, e1, hs⟩ := Pz.bd_some hs
  refine (lone_c hE q ts d hd r1 e1 _ hP0).mono ?_
  clear e1
  rcases r1 with ⟨e, ts1⟩ | ⟨p, c⟩
  rotate_left
  · obtain rfl : rs = .er p c := hs
    rintro e W1 ⟨rfl, f1⟩
    unfold gP
    go_wp2_with fail
    exact ⟨rfl, rfl, g0.same f1⟩
  rintro e W1 ⟨v1, rfl, ⟨ao, cap, rfl, hN⟩, hQ1, f1⟩
  have g1 := g0.same f1
  have s1 := f1.size
  have t1 := g1.size
  have hP1 : Hidden (Ps W1 q ts1 d false) := hQ1
  clear hQ1
  simp only [World.size_alloc] at s1
  have hb0_1 : Hidden (W1.heap[w.heap.size]? = some (st0)) := f1.heap hb0 (by omega)
  simp only [World.size_alloc] at hN
  have hZ := Nw.nz (z := W1.heap.size) (hN.weak (B' := w.heap.size + 1) (by omega)) (Nat.le_refl _)
  have fab1 := Fr.alloc (fun _ => False) W1 (.cells #[ci 3, .string ⟨#[]⟩, .slice ao e.len cap, .slice none 0 0, .slice none 0 0] 169)
  have gb1 : Fr (fun k => k = q) w (W1.alloc (.cells #[ci 3, .string ⟨#[]⟩, .slice ao e.len cap, .slice none 0 0, .slice none 0 0] 169)) := g1.same (frq fab1)
  have hPb1 : Hidden (Ps (W1.alloc (.cells #[ci 3, .string ⟨#[]⟩, .slice ao e.len cap, .slice none 0 0, .slice none 0 0] 169)) q ts1 d false) := Ps.keepN hP1 fab1
  have hnb1 : Hidden ((W1.alloc (.cells #[ci 3, .string ⟨#[]⟩, .slice ao e.len cap, .slice none 0 0, .slice none 0 0] 169)).heap[W1.heap.size]? = some (.cells #[ci 3, .string ⟨#[]⟩, .slice ao e.len cap, .slice none 0 0, .slice none 0 0] 169)) := alloc_new _ _
  have hb0_b1 : Hidden ((W1.alloc (.cells #[ci 3, .string ⟨#[]⟩, .slice ao e.len cap, .slice none 0 0, .slice none 0 0] 169)).heap[w.heap.size]? = some (st0)) := fab1.heap hb0_1 (fun f => f)
  replace hZ := Nz.step hZ fab1 (fun _ f => f.elim)
  go_wp2_with fail
  go_at_call 102
  obtain ⟨r2, e2, hs⟩ := Pz.bd_some hs
  refine (hB d ts1 r2 q _ hd e2 hPb1).mono ?_
  clear e2
  rcases r2 with ⟨b, ts2⟩ | ⟨p, c⟩
  rotate_left
  · obtain rfl : rs = .er p c := hs
    rintro e W2 ⟨rfl, f2⟩
    unfold gP
    go_wp2_with fail
    exact ⟨rfl, rfl, gb1.same f2⟩
  rintro e W2 ⟨v2, rfl, ⟨ao2, cap2, rfl, hN2⟩, hQ2, f2⟩
  have g2 := gb1.same f2
  have s2 := f2.size
  have t2 := g2.size
  have hP2 : Hidden (Ps W2 q ts2 d false) := hQ2
  clear hQ2
  simp only [World.size_alloc] at s2
  have hb0_2 : Hidden (W2.heap[w.heap.size]? = some (st0)) := f2.heap hb0_b1 (by omega)
  have hb1_2 : Hidden (W2.heap[W1.heap.size]? = some (.cells #[ci 3, .string ⟨#[]⟩, .slice ao e.len cap, .slice none 0 0, .slice none 0 0] 169)) := f2.heap hnb1 (by omega)
  replace hZ := Nz.step hZ f2 (fun k hk => by subst hk; omega)
  simp only [World.size_alloc] at hN2
  have hZ2 := Nw.old (z := W1.heap.size) (B' := w.heap.size + 1) hN2 (by omega) (by omega)
  obtain ⟨b1c0, b1c1, b1c2, b1c3, b1c4, b1z0, b1z1, b1z2, b1z3, b1z4⟩ := box5 hb1_2
  go_upto_region 3 with fail
  have f3 := Fr.put W2 (W1.heap.size) 3 (.slice ao2 b.len cap2)
  have hbb1_3 : (W2.setCell ⟨W1.heap.size, 3, none⟩ (.slice ao2 b.len cap2)).heap[W1.heap.size]? = some (.cells #[ci 3, .string ⟨#[]⟩, .slice ao e.len cap, .slice ao2 b.len cap2, .slice none 0 0] 169) := heap_setCell_same _ _ 3 _ _ _ hb1_2
  have hob0_3 : (W2.setCell ⟨W1.heap.size, 3, none⟩ (.slice ao2 b.len cap2)).heap[w.heap.size]? = some (st0) := f3.heap hb0_2 (by omega)
  have hP3 : Hidden (Ps (W2.setCell ⟨W1.heap.size, 3, none⟩ (.slice ao2 b.len cap2)) q ts2 d false) := Ps.high hP2 f3 (fun k hk => by subst hk; omega)
  have g3 : Fr (fun k => k = q) w (W2.setCell ⟨W1.heap.size, 3, none⟩ (.slice ao2 b.len cap2)) := g2.over f3 (fun k hk => by subst hk; omega)
  have t3 := g3.size
  have s3 := f3.size
  replace hZ := Nz.step hZ f3 (fun k hk => by subst hk; omega)
  replace hZ2 := Nz.step hZ2 f3 (fun k hk => by subst hk; omega)
  generalize (W2.setCell ⟨W1.heap.size, 3, none⟩ (.slice ao2 b.len cap2)) = W3 at f3 hbb1_3 hob0_3 hP3 g3 t3 s3 hZ hZ2 ⊢
  clear b1c0 b1c1 b1c2 b1c3 b1c4 b1z0 b1z1 b1z2 b1z3 b1z4
  have hhb0_3 : Hidden (W3.heap[w.heap.size]? = some (st0)) := hob0_3
  clear hob0_3
  have hhb1_3 : Hidden (W3.heap[W1.heap.size]? = some (.cells #[ci 3, .string ⟨#[]⟩, .slice ao e.len cap, .slice ao2 b.len cap2, .slice none 0 0] 169)) := hbb1_3
  clear hbb1_3
  go_wp2_with fail
  go_at_call 80
  obtain ⟨r4, e4, hs⟩ := Pz.bd_some hs
  refine (has_c q [101, 108, 115, 101] ts2 d r4 e4 _ hP3).mono ?_
  clear e4
  rcases r4 with ⟨y, ts4⟩ | ⟨p, c⟩
  rotate_left
  · obtain rfl : rs = .er p c := hs
    rintro e W4 ⟨rfl, f4⟩
    unfold gP
    go_wp2_with fail
    exact ⟨rfl, rfl, g3.same f4⟩
  rintro e W4 ⟨v4, rfl, rfl, hQ4, f4⟩
  have g4 := g3.same f4
  have s4 := f4.size
  have t4 := g4.size
  have hP4 : Hidden (Ps W4 q ts4 d false) := hQ4
  clear hQ4
  have hb0_4 : Hidden (W4.heap[w.heap.size]? = some (st0)) := f4.heap hhb0_3 (by omega)
  have hb1_4 : Hidden (W4.heap[W1.heap.size]? = some (.cells #[ci 3, .string ⟨#[]⟩, .slice ao e.len cap, .slice ao2 b.len cap2, .slice none 0 0] 169)) := f4.heap hhb1_3 (by omega)
  replace hZ := Nz.step hZ f4 (fun k hk => by subst hk; omega)
  replace hZ2 := Nz.step hZ2 f4 (fun k hk => by subst hk; omega)
  cases y
  · skip
    obtain rfl : rs = .ok (⟨3, []⟩, e, b, .nil) ts4 := (Option.some.inj (show some _ = some rs from hs)).symm
    obtain ⟨b0c0, b0c1, b0c2, b0c3, b0c4, b0z0, b0z1, b0z2, b0z3, b0z4⟩ := box5 hb0_4
    obtain ⟨b1c0, b1c1, b1c2, b1c3, b1c4, b1z0, b1z1, b1z2, b1z3, b1z4⟩ := box5 hb1_4
    go_wp2_with fail
    have fs := set5_fr W4 w.heap.size (ci 3) (.string ⟨#[]⟩) (.slice ao e.len cap) (.slice ao2 b.len cap2) (.slice none 0 0)
    exact post_st hb0_4 rfl rfl rfl ⟨_, rfl, ⟨ao, cap, ao2, cap2, none, 0, rfl, fun w2 hf => ⟨((hZ.nw.step fs (fun k hk => by subst hk; omega)).weak (by omega)) w2 hf, ((hZ2.nw.step fs (fun k hk => by subst hk; omega)).weak (by omega)) w2 hf, stnil _⟩⟩, Ps.high hP4 fs (fun k hk => by subst hk; exact hq), g4.over fs (fun k hk => by subst hk; exact Nat.le_refl _)⟩
  · skip
    go_wp2_with fail
    go_at_call 102
    obtain ⟨r5, e5, hs⟩ := Pz.bd_some hs
    refine (hB d ts4 r5 q _ hd e5 hP4).mono ?_
    clear e5
    rcases r5 with ⟨l, ts5⟩ | ⟨p, c⟩
    rotate_left
    · obtain rfl : rs = .er p c := hs
      rintro e W5 ⟨rfl, f5⟩
      unfold gP
      go_wp2_with fail
      exact ⟨rfl, rfl, g4.same f5⟩
    rintro e W5 ⟨v5, rfl, ⟨ao3, cap3, rfl, hN3⟩, hQ5, f5⟩
    have g5 := g4.same f5
    have s5 := f5.size
    have t5 := g5.size
    have hP5 : Hidden (Ps W5 q ts5 d false) := hQ5
    clear hQ5
    have hb0_5 : Hidden (W5.heap[w.heap.size]? = some (st0)) := f5.heap hb0_4 (by omega)
    have hb1_5 : Hidden (W5.heap[W1.heap.size]? = some (.cells #[ci 3, .string ⟨#[]⟩, .slice ao e.len cap, .slice ao2 b.len cap2, .slice none 0 0] 169)) := f5.heap hb1_4 (by omega)
    replace hZ := Nz.step hZ f5 (fun k hk => by subst hk; omega)
    replace hZ2 := Nz.step hZ2 f5 (fun k hk => by subst hk; omega)
    have hZ3 := Nw.old (z := W1.heap.size) (B' := w.heap.size + 1) hN3 (by omega) (by omega)
    obtain rfl : rs = .ok (⟨3, []⟩, e, b, l) ts5 := (Option.some.inj (show some _ = some rs from hs)).symm
    obtain ⟨b1c0, b1c1, b1c2, b1c3, b1c4, b1z0, b1z1, b1z2, b1z3, b1z4⟩ := box5 hb1_5
    go_upto_region 5 with fail
    have f6 := Fr.put W5 (W1.heap.size) 4 (.slice ao3 l.len cap3)
    have hbb1_6 : (W5.setCell ⟨W1.heap.size, 4, none⟩ (.slice ao3 l.len cap3)).heap[W1.heap.size]? = some (.cells #[ci 3, .string ⟨#[]⟩, .slice ao e.len cap, .slice ao2 b.len cap2, .slice ao3 l.len cap3] 169) := heap_setCell_same _ _ 4 _ _ _ hb1_5
    have hob0_6 : (W5.setCell ⟨W1.heap.size, 4, none⟩ (.slice ao3 l.len cap3)).heap[w.heap.size]? = some (st0) := f6.heap hb0_5 (by omega)
    have hP6 : Hidden (Ps (W5.setCell ⟨W1.heap.size, 4, none⟩ (.slice ao3 l.len cap3)) q ts5 d false) := Ps.high hP5 f6 (fun k hk => by subst hk; omega)
    have g6 : Fr (fun k => k = q) w (W5.setCell ⟨W1.heap.size, 4, none⟩ (.slice ao3 l.len cap3)) := g5.over f6 (fun k hk => by subst hk; omega)
    have t6 := g6.size
    have s6 := f6.size
    replace hZ := Nz.step hZ f6 (fun k hk => by subst hk; omega)
    replace hZ2 := Nz.step hZ2 f6 (fun k hk => by subst hk; omega)
    replace hZ3 := Nz.step hZ3 f6 (fun k hk => by subst hk; omega)
    generalize (W5.setCell ⟨W1.heap.size, 4, none⟩ (.slice ao3 l.len cap3)) = W6 at f6 hbb1_6 hob0_6 hP6 g6 t6 s6 hZ hZ2 hZ3 ⊢
    clear b1c0 b1c1 b1c2 b1c3 b1c4 b1z0 b1z1 b1z2 b1z3 b1z4
    have hhb0_6 : Hidden (W6.heap[w.heap.size]? = some (st0)) := hob0_6
    clear hob0_6
    have hhb1_6 : Hidden (W6.heap[W1.heap.size]? = some (.cells #[ci 3, .string ⟨#[]⟩, .slice ao e.len cap, .slice ao2 b.len cap2, .slice ao3 l.len cap3] 169)) := hbb1_6
    clear hbb1_6
    obtain ⟨b0c0, b0c1, b0c2, b0c3, b0c4, b0z0, b0z1, b0z2, b0z3, b0z4⟩ := box5 hhb0_6
    obtain ⟨b1c0, b1c1, b1c2, b1c3, b1c4, b1z0, b1z1, b1z2, b1z3, b1z4⟩ := box5 hhb1_6
    go_wp2_with fail
    have fs := set5_fr W6 w.heap.size (ci 3) (.string ⟨#[]⟩) (.slice ao e.len cap) (.slice ao2 b.len cap2) (.slice ao3 l.len cap3)
    exact post_st hhb0_6 rfl rfl rfl ⟨_, rfl, ⟨ao, cap, ao2, cap2, ao3, cap3, rfl, fun w2 hf => ⟨((hZ.nw.step fs (fun k hk => by subst hk; omega)).weak (by omega)) w2 hf, ((hZ2.nw.step fs (fun k hk => by subst hk; omega)).weak (by omega)) w2 hf, ((hZ3.nw.step fs (fun k hk => by subst hk; omega)).weak (by omega)) w2 hf⟩⟩, Ps.high hP6 fs (fun k hk => by subst hk; exact hq), g6.over fs (fun k hk => by subst hk; exact Nat.le_refl _)⟩

omit hE
set_option maxRecDepth 20000 in
set_option maxHeartbeats 1000000 in
theorem tried_c (q : Nat) (ts : List Tok) (d : Nat) (hd : d ≤ 32) (rs : Pz.Rs Pz.St) (hs : Hidden (Pz.tried B d ts = some rs)) (w : World) (h : Ps w q ts d false) :
    Calls Tryz.prog 144 #[pp q] w (Out TS q d w rs) := by
  have hq := h.lt
  have f0 := Fr.alloc (fun _ => False) w st0
  have g0 : Fr (fun k => k = q) w (w.alloc st0) := frq f0
  have hP0 : Hidden (Ps (w.alloc st0) q ts d false) := h.keepN f0
  have hb0 : Hidden ((w.alloc st0).heap[w.heap.size]? = some st0) := alloc_new _ _
  clear h
  go_enter Tryz.func144, Tryz.ntmps144
  go_wp2_with fail
  go_at_call 102
  obtain ⟨r1, e1, hs⟩ := Pz.bd_some hs
  refine (hB d ts r1 q _ hd e1 hP0).mono ?_
  clear e1
  rcases r1 with ⟨b, ts1⟩ | ⟨p, c⟩
  rotate_left
  · obtain rfl : rs = .er p c := hs
    rintro e W1 ⟨rfl, f1⟩
    unfold gP
    go_wp2_with fail
    exact ⟨rfl, rfl, g0.same f1⟩
  rintro e W1 ⟨v1, rfl, ⟨ao2, cap2, rfl, hN2⟩, hQ1, f1⟩
  have g1 := g0.same f1
  have s1 := f1.size
  have t1 := g1.size
  have hP1 : Hidden (Ps W1 q ts1 d false) := hQ1
  clear hQ1
  simp only [World.size_alloc] at s1
  have hb0_1 : Hidden (W1.heap[w.heap.size]? = some (st0)) := f1.heap hb0 (by omega)
  simp only [World.size_alloc] at hN2
  have hZ2 := Nw.nz (z := W1.heap.size) (hN2.weak (B' := w.heap.size + 1) (by omega)) (Nat.le_refl _)
  have fab1 := Fr.alloc (fun _ => False) W1 (.cells #[ci 8, .string ⟨#[]⟩, .slice none 0 0, .slice ao2 b.len cap2, .slice none 0 0] 169)
  have gb1 : Fr (fun k => k = q) w (W1.alloc (.cells #[ci 8, .string ⟨#[]⟩, .slice none 0 0, .slice ao2 b.len cap2, .slice none 0 0] 169)) := g1.same (frq fab1)
  have hPb1 : Hidden (Ps (W1.alloc (.cells #[ci 8, .string ⟨#[]⟩, .slice none 0 0, .slice ao2 b.len cap2, .slice none 0 0] 169)) q ts1 d false) := Ps.keepN hP1 fab1
  have hnb1 : Hidden ((W1.alloc (.cells #[ci 8, .string ⟨#[]⟩, .slice none 0 0, .slice ao2 b.len cap2, .slice none 0 0] 169)).heap[W1.heap.size]? = some (.cells #[ci 8, .string ⟨#[]⟩, .slice none 0 0, .slice ao2 b.len cap2, .slice none 0 0] 169)) := alloc_new _ _
  have hb0_b1 : Hidden ((W1.alloc (.cells #[ci 8, .string ⟨#[]⟩, .slice none 0 0, .slice ao2 b.len cap2, .slice none 0 0] 169)).heap[w.heap.size]? = some (st0)) := fab1.heap hb0_1 (fun f => f)
  replace hZ2 := Nz.step hZ2 fab1 (fun _ f => f.elim)
  go_wp2_with fail
  go_at_call 44
  obtain ⟨r2, e2, hs⟩ := Pz.bd_some hs
  refine (must_c q [99, 97, 116, 99, 104] ts1 d false r2 e2 _ hPb1).mono ?_
  clear e2
  rcases r2 with ⟨u, ts2⟩ | ⟨p, c⟩
  rotate_left
  · obtain rfl : rs = .er p c := hs
    rintro e W2 ⟨rfl, f2⟩
    unfold gP
    go_wp2_with fail
    exact ⟨rfl, rfl, gb1.same f2⟩
  rintro e W2 ⟨v2, rfl, rfl, hQ2, f2⟩
  have g2 := gb1.same f2
  have s2 := f2.size
  have t2 := g2.size
  have hP2 : Hidden (Ps W2 q ts2 d false) := hQ2
  clear hQ2
  simp only [World.size_alloc] at s2
  have hb0_2 : Hidden (W2.heap[w.heap.size]? = some (st0)) := f2.heap hb0_b1 (by omega)
  have hb1_2 : Hidden (W2.heap[W1.heap.size]? = some (.cells #[ci 8, .string ⟨#[]⟩, .slice none 0 0, .slice ao2 b.len cap2, .slice none 0 0] 169)) := f2.heap hnb1 (by omega)
  replace hZ2 := Nz.step hZ2 f2 (fun k hk => by subst hk; omega)
  go_wp2_with fail
  go_at_call 45
  obtain ⟨r3, e3, hs⟩ := Pz.bd_some hs
  refine (name_c q ts2 d false r3 e3 _ hP2).mono ?_
  clear e3
  rcases r3 with ⟨n, ts3⟩ | ⟨p, c⟩
  rotate_left
  · obtain rfl : rs = .er p c := hs
    rintro e W3 ⟨rfl, f3⟩
    unfold gP
    go_wp2_with fail
    exact ⟨rfl, rfl, g2.same f3⟩
  rintro e W3 ⟨v3, rfl, rfl, hQ3, f3⟩
  have g3 := g2.same f3
  have s3 := f3.size
  have t3 := g3.size
  have hP3 : Hidden (Ps W3 q ts3 d false) := hQ3
  clear hQ3
  have hb0_3 : Hidden (W3.heap[w.heap.size]? = some (st0)) := f3.heap hb0_2 (by omega)
  have hb1_3 : Hidden (W3.heap[W1.heap.size]? = some (.cells #[ci 8, .string ⟨#[]⟩, .slice none 0 0, .slice ao2 b.len cap2, .slice none 0 0] 169)) := f3.heap hb1_2 (by omega)
  replace hZ2 := Nz.step hZ2 f3 (fun k hk => by subst hk; omega)
  obtain ⟨b1c0, b1c1, b1c2, b1c3, b1c4, b1z0, b1z1, b1z2, b1z3, b1z4⟩ := box5 hb1_3
  go_upto_region 4 with fail
  have f4 := Fr.put W3 (W1.heap.size) 1 (ct n)
  have hbb1_4 : (W3.setCell ⟨W1.heap.size, 1, none⟩ (ct n)).heap[W1.heap.size]? = some (.cells #[ci 8, ct n, .slice none 0 0, .slice ao2 b.len cap2, .slice none 0 0] 169) := heap_setCell_same _ _ 1 _ _ _ hb1_3
  have hob0_4 : (W3.setCell ⟨W1.heap.size, 1, none⟩ (ct n)).heap[w.heap.size]? = some (st0) := f4.heap hb0_3 (by omega)
  have hP4 : Hidden (Ps (W3.setCell ⟨W1.heap.size, 1, none⟩ (ct n)) q ts3 d false) := Ps.high hP3 f4 (fun k hk => by subst hk; omega)
  have g4 : Fr (fun k => k = q) w (W3.setCell ⟨W1.heap.size, 1, none⟩ (ct n)) := g3.over f4 (fun k hk => by subst hk; omega)
  have t4 := g4.size
  have s4 := f4.size
  replace hZ2 := Nz.step hZ2 f4 (fun k hk => by subst hk; omega)
  generalize (W3.setCell ⟨W1.heap.size, 1, none⟩ (ct n)) = W4 at f4 hbb1_4 hob0_4 hP4 g4 t4 s4 hZ2 ⊢
  clear b1c0 b1c1 b1c2 b1c3 b1c4 b1z0 b1z1 b1z2 b1z3 b1z4
  have hhb0_4 : Hidden (W4.heap[w.heap.size]? = some (st0)) := hob0_4
  clear hob0_4
  have hhb1_4 : Hidden (W4.heap[W1.heap.size]? = some (.cells #[ci 8, ct n, .slice none 0 0, .slice ao2 b.len cap2, .slice none 0 0] 169)) := hbb1_4
  clear hbb1_4
  go_wp2_with fail
  go_at_call 102
  obtain ⟨r5, e5, hs⟩ := Pz.bd_some hs
  refine (hB d ts3 r5 q _ hd e5 hP4).mono ?_
  clear e5
  rcases r5 with ⟨l, ts5⟩ | ⟨p, c⟩
  rotate_left
  · obtain rfl : rs = .er p c := hs
    rintro e W5 ⟨rfl, f5⟩
    unfold gP
    go_wp2_with fail
    exact ⟨rfl, rfl, g4.same f5⟩
  rintro e W5 ⟨v5, rfl, ⟨ao3, cap3, rfl, hN3⟩, hQ5, f5⟩
  have g5 := g4.same f5
  have s5 := f5.size
  have t5 := g5.size
  have hP5 : Hidden (Ps W5 q ts5 d false) := hQ5
  clear hQ5
  have hb0_5 : Hidden (W5.heap[w.heap.size]? = some (st0)) := f5.heap hhb0_4 (by omega)
  have hb1_5 : Hidden (W5.heap[W1.heap.size]? = some (.cells #[ci 8, ct n, .slice none 0 0, .slice ao2 b.len cap2, .slice none 0 0] 169)) := f5.heap hhb1_4 (by omega)
  replace hZ2 := Nz.step hZ2 f5 (fun k hk => by subst hk; omega)
  have hZ3 := Nw.old (z := W1.heap.size) (B' := w.heap.size + 1) hN3 (by omega) (by omega)
  obtain rfl : rs = .ok (⟨8, n⟩, .nil, b, l) ts5 := (Option.some.inj (show some _ = some rs from hs)).symm
  obtain ⟨b1c0, b1c1, b1c2, b1c3, b1c4, b1z0, b1z1, b1z2, b1z3, b1z4⟩ := box5 hb1_5
  go_upto_region 5 with fail
  have f6 := Fr.put W5 (W1.heap.size) 4 (.slice ao3 l.len cap3)
  have hbb1_6 : (W5.setCell ⟨W1.heap.size, 4, none⟩ (.slice ao3 l.len cap3)).heap[W1.heap.size]? = some (.cells #[ci 8, ct n, .slice none 0 0, .slice ao2 b.len cap2, .slice ao3 l.len cap3] 169) := heap_setCell_same _ _ 4 _ _ _ hb1_5
  have hob0_6 : (W5.setCell ⟨W1.heap.size, 4, none⟩ (.slice ao3 l.len cap3)).heap[w.heap.size]? = some (st0) := f6.heap hb0_5 (by omega)
  have hP6 : Hidden (Ps (W5.setCell ⟨W1.heap.size, 4, none⟩ (.slice ao3 l.len cap3)) q ts5 d false) := Ps.high hP5 f6 (fun k hk => by subst hk; omega)
  have g6 : Fr (fun k => k = q) w (W5.setCell ⟨W1.heap.size, 4, none⟩ (.slice ao3 l.len cap3)) := g5.over f6 (fun k hk => by subst hk; omega)
  have t6 := g6.size
  have s6 := f6.size
  replace hZ2 := Nz.step hZ2 f6 (fun k hk => by subst hk; omega)
  replace hZ3 := Nz.step hZ3 f6 (fun k hk => by subst hk; omega)
  generalize (W5.setCell ⟨W1.heap.size, 4, none⟩ (.slice ao3 l.len cap3)) = W6 at f6 hbb1_6 hob0_6 hP6 g6 t6 s6 hZ2 hZ3 ⊢
  clear b1c0 b1c1 b1c2 b1c3 b1c4 b1z0 b1z1 b1z2 b1z3 b1z4
  have hhb0_6 : Hidden (W6.heap[w.heap.size]? = some (st0)) := hob0_6
  clear hob0_6
  have hhb1_6 : Hidden (W6.heap[W1.heap.size]? = some (.cells #[ci 8, ct n, .slice none 0 0, .slice ao2 b.len cap2, .slice ao3 l.len cap3] 169)) := hbb1_6
  clear hbb1_6
  obtain ⟨b0c0, b0c1, b0c2, b0c3, b0c4, b0z0, b0z1, b0z2, b0z3, b0z4⟩ := box5 hhb0_6
  obtain ⟨b1c0, b1c1, b1c2, b1c3, b1c4, b1z0, b1z1, b1z2, b1z3, b1z4⟩ := box5 hhb1_6
  go_wp2_with fail
  have fs := set5_fr W6 w.heap.size (ci 8) (ct n) (.slice none 0 0) (.slice ao2 b.len cap2) (.slice ao3 l.len cap3)
  exact post_st hhb0_6 rfl rfl rfl ⟨_, rfl, ⟨none, 0, ao2, cap2, ao3, cap3, rfl, fun w2 hf => ⟨exnil _, ((hZ2.nw.step fs (fun k hk => by subst hk; omega)).weak (by omega)) w2 hf, ((hZ3.nw.step fs (fun k hk => by subst hk; omega)).weak (by omega)) w2 hf⟩⟩, Ps.high hP6 fs (fun k hk => by subst hk; exact hq), g6.over fs (fun k hk => by subst hk; exact Nat.le_refl _)⟩

omit hB
include hE
set_option maxRecDepth 20000 in
set_option maxHeartbeats 1000000 in
theorem returned_c (q : Nat) (ts : List Tok) (d : Nat) (hd : d ≤ 32) (rs : Pz.Rs Pz.St) (hs : Hidden (Pz.returned E d ts = some rs)) (w : World) (h : Ps w q ts d false) :
    Calls Tryz.prog 142 #[pp q] w (Out TS q d w rs) := by
  obtain rfl | ⟨t, r, rfl⟩ : ts = [] ∨ ∃ t r, ts = t :: r := by cases ts with | nil => exact Or.inl rfl | cons t r => exact Or.inr ⟨t, r, rfl⟩
  · exact absurd hs (by simp [Hidden, Pz.returned])
  have hs1 : Pz.returned E d (t :: r) = some rs := hs
  rw [Pz.returned] at hs1
  by_cases hx : t.x = [59]
  · rw [if_pos hx] at hs1
    replace hs : Hidden (Pz.ended 5 [] .nil (t :: r) = some rs) := hs1
    clear hs1
    have hq := h.lt
    have f0 := Fr.alloc (fun _ => False) w st0
    have g0 : Fr (fun k => k = q) w (w.alloc st0) := frq f0
    have hP0 : Hidden (Ps (w.alloc st0) q (t :: r) d false) := h.keepN f0
    have hb0 : Hidden ((w.alloc st0).heap[w.heap.size]? = some st0) := alloc_new _ _
    clear h
    go_enter Tryz.func142, Tryz.ntmps142
    go_wp2_with fail
    go_at_call 46
    refine (is_any q [59] t r d false true (by simp [Hidden, hx]) _ hP0).mono ?_
    rintro e W1 ⟨rfl, F1⟩
    have f1 : Fr (fun k => k = q) _ W1 := frq F1
    have hQ1 := Ps.keepN hP0 F1
    have g1 := g0.same f1
    have s1 := f1.size
    have t1 := g1.size
    have hP1 : Hidden (Ps W1 q (t :: r) d false) := hQ1
    clear hQ1
    simp only [World.size_alloc] at s1
    have hb0_1 : Hidden (W1.heap[w.heap.size]? = some (st0)) := f1.heap hb0 (by omega)
    clear hx
    go_wp2_with fail
    go_at_call 143
    obtain ⟨r2, e2, hs⟩ := Pz.bd_some hs
    refine (ended_c q 5 (.slice none 0 0) ⟨_, _, _, rfl⟩ (t :: r) d r2 e2 _ hP1).mono ?_
    clear e2
    rcases r2 with ⟨u, ts2⟩ | ⟨p, c⟩
    rotate_left
    · obtain rfl : rs = .er p c := hs
      rintro e W2 ⟨rfl, f2⟩
      unfold gP
      go_wp2_with fail
      exact ⟨rfl, rfl, g1.same f2⟩
    rintro e W2 ⟨v2, rfl, rfl, hQ2, f2⟩
    have g2 := g1.same f2
    have s2 := f2.size
    have t2 := g2.size
    have hP2 : Hidden (Ps W2 q ts2 d false) := hQ2
    clear hQ2
    have hb0_2 : Hidden (W2.heap[w.heap.size]? = some (st0)) := f2.heap hb0_1 (by omega)
    obtain rfl : rs = .ok (⟨5, []⟩, .nil, .nil, .nil) ts2 := (Option.some.inj (show some _ = some rs from hs)).symm
    obtain ⟨b0c0, b0c1, b0c2, b0c3, b0c4, b0z0, b0z1, b0z2, b0z3, b0z4⟩ := box5 hb0_2
    go_wp2_with fail
    have fs := set5_fr W2 w.heap.size (ci 5) (.string ⟨#[]⟩) (.slice none 0 0) (.slice none 0 0) (.slice none 0 0)
    exact post_st hb0_2 rfl rfl rfl ⟨_, rfl, ⟨none, 0, none, 0, none, 0, rfl, fun w2 hf => ⟨exnil _, stnil _, stnil _⟩⟩, Ps.high hP2 fs (fun k hk => by subst hk; exact hq), g2.over fs (fun k hk => by subst hk; exact Nat.le_refl _)⟩
  · rw [if_neg hx] at hs1
    replace hs : Hidden (Pz.bd (Pz.lone E d (t :: r)) (fun e ts => Pz.ended 5 [] e ts) = some rs) := hs1
    clear hs1
    have hq := h.lt
    have f0 := Fr.alloc (fun _ => False) w st0
    have g0 : Fr (fun k => k = q) w (w.alloc st0) := frq f0
    have hP0 : Hidden (Ps (w.alloc st0) q (t :: r) d false) := h.keepN f0
    have hb0 : Hidden ((w.alloc st0).heap[w.heap.size]? = some st0) := alloc_new _ _
    clear h
    go_enter Tryz.func142, Tryz.ntmps142
    go_wp2_with fail
    go_at_call 46
    refine (is_any q [59] t r d false false (by simpa [Hidden] using hx) _ hP0).mono ?_
    rintro e W1 ⟨rfl, F1⟩
    have f1 : Fr (fun k => k = q) _ W1 := frq F1
    have hQ1 := Ps.keepN hP0 F1
    have g1 := g0.same f1
    have s1 := f1.size
    have t1 := g1.size
    have hP1 : Hidden (Ps W1 q (t :: r) d false) := hQ1
    clear hQ1
    simp only [World.size_alloc] at s1
    have hb0_1 : Hidden (W1.heap[w.heap.size]? = some (st0)) := f1.heap hb0 (by omega)
    clear hx
    go_wp2_with fail
    go_at_call 99
    obtain ⟨r2, e2, hs⟩ := Pz.bd_some hs
    refine (lone_c hE q (t :: r) d hd r2 e2 _ hP1).mono ?_
    clear e2
    rcases r2 with ⟨e, ts2⟩ | ⟨p, c⟩
    rotate_left
    · obtain rfl : rs = .er p c := hs
      rintro e W2 ⟨rfl, f2⟩
      unfold gP
      go_wp2_with fail
      exact ⟨rfl, rfl, g1.same f2⟩
    rintro e W2 ⟨v2, rfl, ⟨ao, cap, rfl, hN⟩, hQ2, f2⟩
    have g2 := g1.same f2
    have s2 := f2.size
    have t2 := g2.size
    have hP2 : Hidden (Ps W2 q ts2 d false) := hQ2
    clear hQ2
    have hb0_2 : Hidden (W2.heap[w.heap.size]? = some (st0)) := f2.heap hb0_1 (by omega)
    go_wp2_with fail
    go_at_call 143
    obtain ⟨r3, e3, hs⟩ := Pz.bd_some hs
    refine (ended_c q 5 (.slice ao e.len cap) ⟨_, _, _, rfl⟩ ts2 d r3 e3 _ hP2).mono ?_
    clear e3
    rcases r3 with ⟨u, ts3⟩ | ⟨p, c⟩
    rotate_left
    · obtain rfl : rs = .er p c := hs
      rintro e W3 ⟨rfl, f3⟩
      unfold gP
      go_wp2_with fail
      exact ⟨rfl, rfl, g2.same f3⟩
    rintro e W3 ⟨v3, rfl, rfl, hQ3, f3⟩
    have g3 := g2.same f3
    have s3 := f3.size
    have t3 := g3.size
    have hP3 : Hidden (Ps W3 q ts3 d false) := hQ3
    clear hQ3
    have hb0_3 : Hidden (W3.heap[w.heap.size]? = some (st0)) := f3.heap hb0_2 (by omega)
    obtain rfl : rs = .ok (⟨5, []⟩, e, .nil, .nil) ts3 := (Option.some.inj (show some _ = some rs from hs)).symm
    obtain ⟨b0c0, b0c1, b0c2, b0c3, b0c4, b0z0, b0z1, b0z2, b0z3, b0z4⟩ := box5 hb0_3
    have hM := hN.step f3 (fun k hk => by subst hk; omega)
    go_wp2_with fail
    have fs := set5_fr W3 w.heap.size (ci 5) (.string ⟨#[]⟩) (.slice ao e.len cap) (.slice none 0 0) (.slice none 0 0)
    exact post_st hb0_3 rfl rfl rfl ⟨_, rfl, ⟨ao, cap, none, 0, none, 0, rfl, fun w2 hf => ⟨((hM.step fs (fun k hk => by subst hk; omega)).weak (by omega)) w2 hf, stnil _, stnil _⟩⟩, Ps.high hP3 fs (fun k hk => by subst hk; exact hq), g3.over fs (fun k hk => by subst hk; exact Nat.le_refl _)⟩

include hC
set_option maxRecDepth 20000 in
set_option maxHeartbeats 1000000 in
theorem named_c (q : Nat) (ts : List Tok) (d : Nat) (hd : d ≤ 32) (rs : Pz.Rs Pz.St) (hs : Hidden (Pz.named E C d ts = some rs)) (w : World) (h : Ps w q ts d false) :
    Calls Tryz.prog 139 #[pp q] w (Out TS q d w rs) := by
  have hq := h.lt
  have f0 := Fr.alloc (fun _ => False) w st0
  have g0 : Fr (fun k => k = q) w (w.alloc st0) := frq f0
  have hP0 : Hidden (Ps (w.alloc st0) q ts d false) := h.keepN f0
  have hb0 : Hidden ((w.alloc st0).heap[w.heap.size]? = some st0) := alloc_new _ _
  clear h
  go_enter Tryz.func139, Tryz.ntmps139
  go_wp2_with fail
  go_at_call 106
  obtain ⟨r1, e1, hs⟩ := Pz.bd_some hs
  refine (refr_c q ts d false r1 e1 _ hP0).mono ?_
  clear e1
  rcases r1 with ⟨x, ts1⟩ | ⟨p, c⟩
  rotate_left
  · obtain rfl : rs = .er p c := hs
    rintro e W1 ⟨rfl, f1⟩
    unfold gP
    go_wp2_with fail
    exact ⟨rfl, rfl, g0.same f1⟩
  rintro e W1 ⟨v1, rfl, ⟨ao, cap, rfl, hN⟩, hQ1, f1⟩
  have g1 := g0.same f1
  have s1 := f1.size
  have t1 := g1.size
  have hP1 : Hidden (Ps W1 q ts1 d false) := hQ1
  clear hQ1
  simp only [World.size_alloc] at s1
  have hb0_1 : Hidden (W1.heap[w.heap.size]? = some (st0)) := f1.heap hb0 (by omega)
  have fab1 := Fr.alloc (fun _ => False) W1 (.cells #[ci x.1.kind, ci x.1.op, ct x.1.mod, ct x.1.name, ci x.1.vt, .int .u64 x.1.vb, .slice ao x.2.len cap] 27)
  have gb1 : Fr (fun k => k = q) w (W1.alloc (.cells #[ci x.1.kind, ci x.1.op, ct x.1.mod, ct x.1.name, ci x.1.vt, .int .u64 x.1.vb, .slice ao x.2.len cap] 27)) := g1.same (frq fab1)
  have hPb1 : Hidden (Ps (W1.alloc (.cells #[ci x.1.kind, ci x.1.op, ct x.1.mod, ct x.1.name, ci x.1.vt, .int .u64 x.1.vb, .slice ao x.2.len cap] 27)) q ts1 d false) := Ps.keepN hP1 fab1
  have hnb1 : Hidden ((W1.alloc (.cells #[ci x.1.kind, ci x.1.op, ct x.1.mod, ct x.1.name, ci x.1.vt, .int .u64 x.1.vb, .slice ao x.2.len cap] 27)).heap[W1.heap.size]? = some (.cells #[ci x.1.kind, ci x.1.op, ct x.1.mod, ct x.1.name, ci x.1.vt, .int .u64 x.1.vb, .slice ao x.2.len cap] 27)) := alloc_new _ _
  have hb0_b1 : Hidden ((W1.alloc (.cells #[ci x.1.kind, ci x.1.op, ct x.1.mod, ct x.1.name, ci x.1.vt, .int .u64 x.1.vb, .slice ao x.2.len cap] 27)).heap[w.heap.size]? = some (st0)) := fab1.heap hb0_1 (fun f => f)
  obtain ⟨u, us, rfl⟩ : ∃ u us, ts1 = u :: us := by
    cases ts1 with
    | nil => exact absurd hs (by simp [Hidden])
    | cons u us => exact ⟨u, us, rfl⟩
  replace hs : Hidden ((if x.1.kind = 2 ∧ u.x = [61] then Pz.asg E d 2 x.1.name (u :: us) else Pz.bd (C d x (u :: us)) fun c ts => Pz.ended 9 [] (.cons c.1 c.2 .nil) ts) = some rs) := hs
  obtain ⟨b1c0, b1c1, b1c2, b1c3, b1c4, b1c5, b1c6, b1z0, b1z1, b1z2, b1z3, b1z4, b1z5, b1z6⟩ := box7 hnb1
  by_cases hk : x.1.kind = 2
  · skip
    have hkb : (x.1.kind == 2) = true := by simp [hk]
    by_cases hx : u.x = [61]
    · skip
      replace hs : Hidden (Pz.asg E d 2 x.1.name (u :: us) = some rs) := by
        have h1 : (if x.1.kind = 2 ∧ u.x = [61] then Pz.asg E d 2 x.1.name (u :: us) else Pz.bd (C d x (u :: us)) fun c ts => Pz.ended 9 [] (.cons c.1 c.2 .nil) ts) = some rs := hs
        rw [if_pos ⟨hk, hx⟩] at h1
        exact h1
      clear hk
      go_wp2_with fail
      go_at_call 46
      refine (is_any q [61] u us d false true (by simp [Hidden, hx]) _ hPb1).mono ?_
      rintro e W2 ⟨rfl, F2⟩
      have f2 : Fr (fun k => k = q) _ W2 := frq F2
      have hQ2 := Ps.keepN hPb1 F2
      have g2 := gb1.same f2
      have s2 := f2.size
      have t2 := g2.size
      have hP2 : Hidden (Ps W2 q (u :: us) d false) := hQ2
      clear hQ2
      simp only [World.size_alloc] at s2
      have hb0_2 : Hidden (W2.heap[w.heap.size]? = some (st0)) := f2.heap hb0_b1 (by omega)
      have hb1_2 : Hidden (W2.heap[W1.heap.size]? = some (.cells #[ci x.1.kind, ci x.1.op, ct x.1.mod, ct x.1.name, ci x.1.vt, .int .u64 x.1.vb, .slice ao x.2.len cap] 27)) := f2.heap hnb1 (by omega)
      clear hx b1c0 b1c1 b1c2 b1c3 b1c4 b1c5 b1c6 b1z0 b1z1 b1z2 b1z3 b1z4 b1z5 b1z6
      obtain ⟨b1c0, b1c1, b1c2, b1c3, b1c4, b1c5, b1c6, b1z0, b1z1, b1z2, b1z3, b1z4, b1z5, b1z6⟩ := box7 hb1_2
      go_wp2_with fail
      go_at_call 140
      obtain ⟨r3, e3, hs⟩ : ∃ r, _ = some r ∧ Hidden (r = rs) := ⟨rs, hs, rfl⟩
      refine (asg_c hE q 2 x.1.name (u :: us) d hd r3 e3 _ hP2).mono ?_
      clear e3
      rcases r3 with ⟨s, ts3⟩ | ⟨p, c⟩
      rotate_left
      · obtain rfl : .er p c = rs := hs
        rintro e W3 ⟨rfl, f3⟩
        unfold gP
        go_wp2_with fail
        exact ⟨rfl, rfl, g2.same f3⟩
      rintro e W3 ⟨v3, rfl, ⟨ao1, cap1, ao2, cap2, ao3, cap3, rfl, hM⟩, hQ3, f3⟩
      have g3 := g2.same f3
      have s3 := f3.size
      have t3 := g3.size
      have hP3 : Hidden (Ps W3 q ts3 d false) := hQ3
      clear hQ3
      have hb0_3 : Hidden (W3.heap[w.heap.size]? = some (st0)) := f3.heap hb0_2 (by omega)
      have hb1_3 : Hidden (W3.heap[W1.heap.size]? = some (.cells #[ci x.1.kind, ci x.1.op, ct x.1.mod, ct x.1.name, ci x.1.vt, .int .u64 x.1.vb, .slice ao x.2.len cap] 27)) := f3.heap hb1_2 (by omega)
      obtain rfl : .ok s ts3 = rs := hs
      obtain ⟨b0c0, b0c1, b0c2, b0c3, b0c4, b0z0, b0z1, b0z2, b0z3, b0z4⟩ := box5 hb0_3
      go_wp2_with fail
      have fs := set5_fr W3 w.heap.size (ci s.1.kind) (ct s.1.name) (.slice ao1 s.2.1.len cap1) (.slice ao2 s.2.2.1.len cap2) (.slice ao3 s.2.2.2.len cap3)
      exact post_st hb0_3 rfl rfl rfl ⟨_, rfl, ⟨ao1, cap1, ao2, cap2, ao3, cap3, rfl, (hM.step fs (fun k hk => by subst hk; omega)).weak (by omega)⟩, Ps.high hP3 fs (fun k hk => by subst hk; exact hq), g3.over fs (fun k hk => by subst hk; exact Nat.le_refl _)⟩
    · skip
      replace hs : Hidden (Pz.bd (C d x (u :: us)) (fun c ts => Pz.ended 9 [] (.cons c.1 c.2 .nil) ts) = some rs) := by
        have h1 : (if x.1.kind = 2 ∧ u.x = [61] then Pz.asg E d 2 x.1.name (u :: us) else Pz.bd (C d x (u :: us)) fun c ts => Pz.ended 9 [] (.cons c.1 c.2 .nil) ts) = some rs := hs
        rw [if_neg (fun h => hx h.2)] at h1
        exact h1
      clear hk
      go_wp2_with fail
      go_at_call 46
      refine (is_any q [61] u us d false false (by simpa [Hidden] using hx) _ hPb1).mono ?_
      rintro e W2 ⟨rfl, F2⟩
      have f2 : Fr (fun k => k = q) _ W2 := frq F2
      have hQ2 := Ps.keepN hPb1 F2
      have g2 := gb1.same f2
      have s2 := f2.size
      have t2 := g2.size
      have hP2 : Hidden (Ps W2 q (u :: us) d false) := hQ2
      clear hQ2
      simp only [World.size_alloc] at s2
      have hb0_2 : Hidden (W2.heap[w.heap.size]? = some (st0)) := f2.heap hb0_b1 (by omega)
      have hb1_2 : Hidden (W2.heap[W1.heap.size]? = some (.cells #[ci x.1.kind, ci x.1.op, ct x.1.mod, ct x.1.name, ci x.1.vt, .int .u64 x.1.vb, .slice ao x.2.len cap] 27)) := f2.heap hnb1 (by omega)
      clear hx b1c0 b1c1 b1c2 b1c3 b1c4 b1c5 b1c6 b1z0 b1z1 b1z2 b1z3 b1z4 b1z5 b1z6
      obtain ⟨b1c0, b1c1, b1c2, b1c3, b1c4, b1c5, b1c6, b1z0, b1z1, b1z2, b1z3, b1z4, b1z5, b1z6⟩ := box7 hb1_2
      go_wp2_with fail
      go_at_call 107
      obtain ⟨r3, e3, hs⟩ := Pz.bd_some hs
      refine (hC d x ao x.2.len cap (u :: us) r3 q _ hd e3 hP2).mono ?_
      clear e3
      rcases r3 with ⟨c2, ts3⟩ | ⟨p, c⟩
      rotate_left
      · obtain rfl : rs = .er p c := hs
        rintro e W3 ⟨rfl, f3⟩
        unfold gP
        go_wp2_with fail
        exact ⟨rfl, rfl, g2.same f3⟩
      rintro e W3 ⟨v3, rfl, ⟨ao4, cap4, rfl, hM⟩, hQ3, f3⟩
      have g3 := g2.same f3
      have s3 := f3.size
      have t3 := g3.size
      have hP3 : Hidden (Ps W3 q ts3 d false) := hQ3
      clear hQ3
      have hb0_3 : Hidden (W3.heap[w.heap.size]? = some (st0)) := f3.heap hb0_2 (by omega)
      have hb1_3 : Hidden (W3.heap[W1.heap.size]? = some (.cells #[ci x.1.kind, ci x.1.op, ct x.1.mod, ct x.1.name, ci x.1.vt, .int .u64 x.1.vb, .slice ao x.2.len cap] 27)) := f3.heap hb1_2 (by omega)
      have bM := hM.weak (B' := w.heap.size + 1) (by first | omega | (simp only [World.size_alloc]; omega))
      have fab2 := Fr.alloc (fun _ => False) W3 (.cells #[ci c2.1.kind, ci c2.1.op, ct c2.1.mod, ct c2.1.name, ci c2.1.vt, .int .u64 c2.1.vb, .slice ao4 c2.2.len cap4] 27)
      have gb2 : Fr (fun k => k = q) w (W3.alloc (.cells #[ci c2.1.kind, ci c2.1.op, ct c2.1.mod, ct c2.1.name, ci c2.1.vt, .int .u64 c2.1.vb, .slice ao4 c2.2.len cap4] 27)) := g3.same (frq fab2)
      have hPb2 : Hidden (Ps (W3.alloc (.cells #[ci c2.1.kind, ci c2.1.op, ct c2.1.mod, ct c2.1.name, ci c2.1.vt, .int .u64 c2.1.vb, .slice ao4 c2.2.len cap4] 27)) q ts3 d false) := Ps.keepN hP3 fab2
      have hnb2 : Hidden ((W3.alloc (.cells #[ci c2.1.kind, ci c2.1.op, ct c2.1.mod, ct c2.1.name, ci c2.1.vt, .int .u64 c2.1.vb, .slice ao4 c2.2.len cap4] 27)).heap[W3.heap.size]? = some (.cells #[ci c2.1.kind, ci c2.1.op, ct c2.1.mod, ct c2.1.name, ci c2.1.vt, .int .u64 c2.1.vb, .slice ao4 c2.2.len cap4] 27)) := alloc_new _ _
      have hb0_b2 : Hidden ((W3.alloc (.cells #[ci c2.1.kind, ci c2.1.op, ct c2.1.mod, ct c2.1.name, ci c2.1.vt, .int .u64 c2.1.vb, .slice ao4 c2.2.len cap4] 27)).heap[w.heap.size]? = some (st0)) := fab2.heap hb0_3 (fun f => f)
      have hb1_b2 : Hidden ((W3.alloc (.cells #[ci c2.1.kind, ci c2.1.op, ct c2.1.mod, ct c2.1.name, ci c2.1.vt, .int .u64 c2.1.vb, .slice ao4 c2.2.len cap4] 27)).heap[W1.heap.size]? = some (.cells #[ci x.1.kind, ci x.1.op, ct x.1.mod, ct x.1.name, ci x.1.vt, .int .u64 x.1.vb, .slice ao x.2.len cap] 27)) := fab2.heap hb1_3 (fun f => f)
      have hM2 := (bM.step fab2 (fun _ f => f.elim)).one hnb2 (by omega)
      go_wp2_with fail
      go_at_call 143
      obtain ⟨r4, e4, hs⟩ := Pz.bd_some hs
      refine (ended_c q 9 (.slice (some ⟨W3.heap.size, 0, none⟩) 1 1) ⟨_, _, _, rfl⟩ ts3 d r4 e4 _ hPb2).mono ?_
      clear e4
      rcases r4 with ⟨u, ts4⟩ | ⟨p, c⟩
      rotate_left
      · obtain rfl : rs = .er p c := hs
        rintro e W4 ⟨rfl, f4⟩
        unfold gP
        go_wp2_with fail
        exact ⟨rfl, rfl, gb2.same f4⟩
      rintro e W4 ⟨v4, rfl, rfl, hQ4, f4⟩
      have g4 := gb2.same f4
      have s4 := f4.size
      have t4 := g4.size
      have hP4 : Hidden (Ps W4 q ts4 d false) := hQ4
      clear hQ4
      simp only [World.size_alloc] at s4
      have hb0_4 : Hidden (W4.heap[w.heap.size]? = some (st0)) := f4.heap hb0_b2 (by omega)
      have hb1_4 : Hidden (W4.heap[W1.heap.size]? = some (.cells #[ci x.1.kind, ci x.1.op, ct x.1.mod, ct x.1.name, ci x.1.vt, .int .u64 x.1.vb, .slice ao x.2.len cap] 27)) := f4.heap hb1_b2 (by omega)
      have hb2_4 : Hidden (W4.heap[W3.heap.size]? = some (.cells #[ci c2.1.kind, ci c2.1.op, ct c2.1.mod, ct c2.1.name, ci c2.1.vt, .int .u64 c2.1.vb, .slice ao4 c2.2.len cap4] 27)) := f4.heap hnb2 (by omega)
      obtain rfl : rs = .ok (⟨9, []⟩, .cons c2.1 c2.2 .nil, .nil, .nil) ts4 := (Option.some.inj (show some _ = some rs from hs)).symm
      obtain ⟨b0c0, b0c1, b0c2, b0c3, b0c4, b0z0, b0z1, b0z2, b0z3, b0z4⟩ := box5 hb0_4
      have hM3 := hM2.step f4 (fun k hk => by subst hk; omega)
      go_wp2_with fail
      have fs := set5_fr W4 w.heap.size (ci 9) (.string ⟨#[]⟩) (.slice (some ⟨W3.heap.size, 0, none⟩) 1 1) (.slice none 0 0) (.slice none 0 0)
      exact post_st hb0_4 rfl rfl rfl ⟨_, rfl, ⟨some ⟨W3.heap.size, 0, none⟩, 1, none, 0, none, 0, rfl, fun w2 hf => ⟨((hM3.step fs (fun k hk => by subst hk; omega)).weak (by omega)) w2 hf, stnil _, stnil _⟩⟩, Ps.high hP4 fs (fun k hk => by subst hk; exact hq), g4.over fs (fun k hk => by subst hk; exact Nat.le_refl _)⟩
  · skip
    have hkb : (x.1.kind == 2) = false := by simpa using hk
    replace hs : Hidden (Pz.bd (C d x (u :: us)) (fun c ts => Pz.ended 9 [] (.cons c.1 c.2 .nil) ts) = some rs) := by
      have h1 : (if x.1.kind = 2 ∧ u.x = [61] then Pz.asg E d 2 x.1.name (u :: us) else Pz.bd (C d x (u :: us)) fun c ts => Pz.ended 9 [] (.cons c.1 c.2 .nil) ts) = some rs := hs
      rw [if_neg (fun h => hk h.1)] at h1
      exact h1
    clear hk
    go_wp2_with fail
    go_at_call 107
    obtain ⟨r2, e2, hs⟩ := Pz.bd_some hs
    refine (hC d x ao x.2.len cap (u :: us) r2 q _ hd e2 hPb1).mono ?_
    clear e2
    rcases r2 with ⟨c2, ts2⟩ | ⟨p, c⟩
    rotate_left
    · obtain rfl : rs = .er p c := hs
      rintro e W2 ⟨rfl, f2⟩
      unfold gP
      go_wp2_with fail
      exact ⟨rfl, rfl, gb1.same f2⟩
    rintro e W2 ⟨v2, rfl, ⟨ao4, cap4, rfl, hM⟩, hQ2, f2⟩
    have g2 := gb1.same f2
    have s2 := f2.size
    have t2 := g2.size
    have hP2 : Hidden (Ps W2 q ts2 d false) := hQ2
    clear hQ2
    simp only [World.size_alloc] at s2
    have hb0_2 : Hidden (W2.heap[w.heap.size]? = some (st0)) := f2.heap hb0_b1 (by omega)
    have hb1_2 : Hidden (W2.heap[W1.heap.size]? = some (.cells #[ci x.1.kind, ci x.1.op, ct x.1.mod, ct x.1.name, ci x.1.vt, .int .u64 x.1.vb, .slice ao x.2.len cap] 27)) := f2.heap hnb1 (by omega)
    have bM := hM.weak (B' := w.heap.size + 1) (by first | omega | (simp only [World.size_alloc]; omega))
    have fab2 := Fr.alloc (fun _ => False) W2 (.cells #[ci c2.1.kind, ci c2.1.op, ct c2.1.mod, ct c2.1.name, ci c2.1.vt, .int .u64 c2.1.vb, .slice ao4 c2.2.len cap4] 27)
    have gb2 : Fr (fun k => k = q) w (W2.alloc (.cells #[ci c2.1.kind, ci c2.1.op, ct c2.1.mod, ct c2.1.name, ci c2.1.vt, .int .u64 c2.1.vb, .slice ao4 c2.2.len cap4] 27)) := g2.same (frq fab2)
    have hPb2 : Hidden (Ps (W2.alloc (.cells #[ci c2.1.kind, ci c2.1.op, ct c2.1.mod, ct c2.1.name, ci c2.1.vt, .int .u64 c2.1.vb, .slice ao4 c2.2.len cap4] 27)) q ts2 d false) := Ps.keepN hP2 fab2
    have hnb2 : Hidden ((W2.alloc (.cells #[ci c2.1.kind, ci c2.1.op, ct c2.1.mod, ct c2.1.name, ci c2.1.vt, .int .u64 c2.1.vb, .slice ao4 c2.2.len cap4] 27)).heap[W2.heap.size]? = some (.cells #[ci c2.1.kind, ci c2.1.op, ct c2.1.mod, ct c2.1.name, ci c2.1.vt, .int .u64 c2.1.vb, .slice ao4 c2.2.len cap4] 27)) := alloc_new _ _
    have hb0_b2 : Hidden ((W2.alloc (.cells #[ci c2.1.kind, ci c2.1.op, ct c2.1.mod, ct c2.1.name, ci c2.1.vt, .int .u64 c2.1.vb, .slice ao4 c2.2.len cap4] 27)).heap[w.heap.size]? = some (st0)) := fab2.heap hb0_2 (fun f => f)
    have hb1_b2 : Hidden ((W2.alloc (.cells #[ci c2.1.kind, ci c2.1.op, ct c2.1.mod, ct c2.1.name, ci c2.1.vt, .int .u64 c2.1.vb, .slice ao4 c2.2.len cap4] 27)).heap[W1.heap.size]? = some (.cells #[ci x.1.kind, ci x.1.op, ct x.1.mod, ct x.1.name, ci x.1.vt, .int .u64 x.1.vb, .slice ao x.2.len cap] 27)) := fab2.heap hb1_2 (fun f => f)
    have hM2 := (bM.step fab2 (fun _ f => f.elim)).one hnb2 (by omega)
    go_wp2_with fail
    go_at_call 143
    obtain ⟨r3, e3, hs⟩ := Pz.bd_some hs
    refine (ended_c q 9 (.slice (some ⟨W2.heap.size, 0, none⟩) 1 1) ⟨_, _, _, rfl⟩ ts2 d r3 e3 _ hPb2).mono ?_
    clear e3
    rcases r3 with ⟨u, ts3⟩ | ⟨p, c⟩
    rotate_left
    · obtain rfl : rs = .er p c := hs
      rintro e W3 ⟨rfl, f3⟩
      unfold gP
      go_wp2_with fail
      exact ⟨rfl, rfl, gb2.same f3⟩
    rintro e W3 ⟨v3, rfl, rfl, hQ3, f3⟩
    have g3 := gb2.same f3
    have s3 := f3.size
    have t3 := g3.size
    have hP3 : Hidden (Ps W3 q ts3 d false) := hQ3
    clear hQ3
    simp only [World.size_alloc] at s3
    have hb0_3 : Hidden (W3.heap[w.heap.size]? = some (st0)) := f3.heap hb0_b2 (by omega)
    have hb1_3 : Hidden (W3.heap[W1.heap.size]? = some (.cells #[ci x.1.kind, ci x.1.op, ct x.1.mod, ct x.1.name, ci x.1.vt, .int .u64 x.1.vb, .slice ao x.2.len cap] 27)) := f3.heap hb1_b2 (by omega)
    have hb2_3 : Hidden (W3.heap[W2.heap.size]? = some (.cells #[ci c2.1.kind, ci c2.1.op, ct c2.1.mod, ct c2.1.name, ci c2.1.vt, .int .u64 c2.1.vb, .slice ao4 c2.2.len cap4] 27)) := f3.heap hnb2 (by omega)
    obtain rfl : rs = .ok (⟨9, []⟩, .cons c2.1 c2.2 .nil, .nil, .nil) ts3 := (Option.some.inj (show some _ = some rs from hs)).symm
    obtain ⟨b0c0, b0c1, b0c2, b0c3, b0c4, b0z0, b0z1, b0z2, b0z3, b0z4⟩ := box5 hb0_3
    have hM3 := hM2.step f3 (fun k hk => by subst hk; omega)
    go_wp2_with fail
    have fs := set5_fr W3 w.heap.size (ci 9) (.string ⟨#[]⟩) (.slice (some ⟨W2.heap.size, 0, none⟩) 1 1) (.slice none 0 0) (.slice none 0 0)
    exact post_st hb0_3 rfl rfl rfl ⟨_, rfl, ⟨some ⟨W2.heap.size, 0, none⟩, 1, none, 0, none, 0, rfl, fun w2 hf => ⟨((hM3.step fs (fun k hk => by subst hk; omega)).weak (by omega)) w2 hf, stnil _, stnil _⟩⟩, Ps.high hP3 fs (fun k hk => by subst hk; exact hq), g3.over fs (fun k hk => by subst hk; exact Nat.le_refl _)⟩

end
end Go.Proofs.YtpkaekokkhecmaaGreatDoor
