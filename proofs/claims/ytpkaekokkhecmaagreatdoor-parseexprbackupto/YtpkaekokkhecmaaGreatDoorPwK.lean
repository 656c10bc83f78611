/- The program's parser: declarations, modules. -/
import Derived.Test.YtpkaekokkhecmaaGreatDoorPwJ
namespace Go.Proofs.YtpkaekokkhecmaaGreatDoor
open Go.RowKit Lx Te
set_option linter.unusedSimpArgs false
set_option linter.unusedVariables false
set_option linter.unusedSectionVars false

/-- A declaration that was made since. -/
def TD (x : De) (v : Value) (w w' : World) : Prop := ∃ pv ev bv, v = .agg #[ci x.kind, .bool x.ex, ct x.name, ci x.type, pv, ev, bv] ∧ Nw w.heap.size w' (fun w => DeI w x pv ev bv)
theorem info_de : (Tryz.prog.info? 50).map (·.size) = some 7 := by kernel_rfl
abbrev de0 : Obj := .cells #[ci 0, .bool false, .string ⟨#[]⟩, ci 0, .slice none 0 0, .slice none 0 0, .slice none 0 0] 50 (0, 0)
theorem post_de {fn : Func} {R : Ending → World → Prop} {a : Act} {w : World} {p : Tmp} {g : Nat} {x0 x1 x2 x3 x4 x5 x6 v0 v1 v2 v3 v4 v5 v6 : Value} (hg : w.heap[g]? = some (.cells #[x0, x1, x2, x3, x4, x5, x6] 50 (0, 0))) (h : fn.results = #[.cell p 50]) (hd : a.defers = [])
    (hp : a.tmps.getD p undef = .pointer (some ⟨g, 0, none⟩)) (hR : R (.returned (.agg #[v0, v1, v2, v3, v4, v5, v6])) (((((((w.setCell ⟨g, 0, none⟩ v0).setCell ⟨g, 1, none⟩ v1).setCell ⟨g, 2, none⟩ v2).setCell ⟨g, 3, none⟩ v3).setCell ⟨g, 4, none⟩ v4).setCell ⟨g, 5, none⟩ v5).setCell ⟨g, 6, none⟩ v6)) :
    bodyPost Tryz.prog fn R .ret a (((((((w.setCell ⟨g, 0, none⟩ v0).setCell ⟨g, 1, none⟩ v1).setCell ⟨g, 2, none⟩ v2).setCell ⟨g, 3, none⟩ v3).setCell ⟨g, 4, none⟩ v4).setCell ⟨g, 5, none⟩ v5).setCell ⟨g, 6, none⟩ v6) :=
  post_one (results_cell_row h _ _ _ _ _ _ _ hp (set_seven hg _ _ _ _ _ _ _) Tryz.underlying50 rfl info_de) hd hR
section
variable {E : Nat → List Tok → Pz.Ou Pz.Ex} (hE : CE0 E) {B : Nat → List Tok → Pz.Ou Sts} (hB : CB0 B)
include hE hB

set_option maxRecDepth 20000 in
set_option maxHeartbeats 1000000 in
theorem dcl_full (g : Nat) (hg : g ≤ 3000) (q : Nat) (t : Tok) (r : List Tok) (fl : Bool) (rs : Pz.Rs De) (hfl : fl = true) (hx : t.x = [101, 120, 112, 111, 114, 116]) (hs : Hidden (Pz.dcl E B g fl (t :: r) = some rs)) (w : World) (h : Ps w q (t :: r) 0 fl) :
    Calls Tryz.prog 51 #[pp q] w (Out TD q 0 w rs) := by
  subst hfl
  obtain rfl : rs = .er t.p 3 := by
    have hs1 : Pz.dcl E B g true (t :: r) = some rs := hs
    rw [Pz.dcl, if_pos hx] at hs1
    exact (Option.some.inj hs1).symm
  clear hs
  have hq := h.lt
  have f0 := Fr.alloc (fun _ => False) w de0
  have g0 : Fr (fun k => k = q) w (w.alloc de0) := frq f0
  have hP0 : Hidden (Ps (w.alloc de0) q (t :: r) 0 true) := h.keepN f0
  have hb0 : Hidden ((w.alloc de0).heap[w.heap.size]? = some de0) := alloc_new _ _
  clear h
  go_enter Tryz.func51, Tryz.ntmps51
  go_wp2_with fail
  go_at_call 80
  refine (has_full q [101, 120, 112, 111, 114, 116] t r 0 hx _ hP0).mono ?_
  rintro e W1 ⟨rfl, f1⟩
  unfold gP
  go_wp2_with fail
  exact ⟨rfl, rfl, g0.same f1⟩

set_option maxRecDepth 20000 in
set_option maxHeartbeats 1000000 in
theorem dcl_ex_const (g : Nat) (hg : g ≤ 3000) (q : Nat) (t : Tok) (r : List Tok) (fl : Bool) (rs : Pz.Rs De) (u : Tok) (us : List Tok) (hr : r = u :: us) (hfl : fl = false) (hx : t.x = [101, 120, 112, 111, 114, 116]) (hy : u.x = [99, 111, 110, 115, 116]) (hs : Hidden (Pz.dcl E B g fl (t :: r) = some rs)) (w : World) (h : Ps w q (t :: r) 0 fl) :
    Calls Tryz.prog 51 #[pp q] w (Out TD q 0 w rs) := by
  subst hr
  subst hfl
  have hs1 : Pz.dcl E B g false (t :: u :: us) = some rs := hs
  rw [Pz.dcl, if_pos hx, if_neg (by simp), Pz.dcl2, if_pos hy] at hs1
  rw [if_neg (by simp)] at hs1
  replace hs : Hidden (Pz.holder E 1 true us = some rs) := hs1
  clear hs1
  have hq := h.lt
  have f0 := Fr.alloc (fun _ => False) w de0
  have g0 : Fr (fun k => k = q) w (w.alloc de0) := frq f0
  have hP0 : Hidden (Ps (w.alloc de0) q (t :: u :: us) 0 false) := h.keepN f0
  have hb0 : Hidden ((w.alloc de0).heap[w.heap.size]? = some de0) := alloc_new _ _
  clear h
  go_enter Tryz.func51, Tryz.ntmps51
  go_wp2_with fail
  go_at_call 80
  refine (has_yes q [101, 120, 112, 111, 114, 116] t (u :: us) 0 hx _ hP0).mono ?_
  rintro e W1 ⟨rfl, hQ1, f1⟩
  have g1 := g0.same f1
  have s1 := f1.size
  have t1 := g1.size
  have hP1 : Hidden (Ps W1 q (u :: us) 0 false) := hQ1
  clear hQ1
  simp only [World.size_alloc] at s1
  have hb0_1 : Hidden (W1.heap[w.heap.size]? = some (de0)) := f1.heap hb0 (by omega)
  clear hx
  have fab1 := Fr.alloc (fun _ => False) W1 (.cells #[ci 0, .bool true, .string ⟨#[]⟩, ci 0, .slice none 0 0, .slice none 0 0, .slice none 0 0] 50)
  have gb1 : Fr (fun k => k = q) w (W1.alloc (.cells #[ci 0, .bool true, .string ⟨#[]⟩, ci 0, .slice none 0 0, .slice none 0 0, .slice none 0 0] 50)) := g1.same (frq fab1)
  have hPb1 : Hidden (Ps (W1.alloc (.cells #[ci 0, .bool true, .string ⟨#[]⟩, ci 0, .slice none 0 0, .slice none 0 0, .slice none 0 0] 50)) q (u :: us) 0 false) := Ps.keepN hP1 fab1
  have hnb1 : Hidden ((W1.alloc (.cells #[ci 0, .bool true, .string ⟨#[]⟩, ci 0, .slice none 0 0, .slice none 0 0, .slice none 0 0] 50)).heap[W1.heap.size]? = some (.cells #[ci 0, .bool true, .string ⟨#[]⟩, ci 0, .slice none 0 0, .slice none 0 0, .slice none 0 0] 50)) := alloc_new _ _
  have hb0_b1 : Hidden ((W1.alloc (.cells #[ci 0, .bool true, .string ⟨#[]⟩, ci 0, .slice none 0 0, .slice none 0 0, .slice none 0 0] 50)).heap[w.heap.size]? = some (de0)) := fab1.heap hb0_1 (fun f => f)
  go_wp2_with fail
  go_at_call 80
  refine (has_yes q [99, 111, 110, 115, 116] u us 0 hy _ hPb1).mono ?_
  rintro e W2 ⟨rfl, hQ2, f2⟩
  have g2 := gb1.same f2
  have s2 := f2.size
  have t2 := g2.size
  have hP2 : Hidden (Ps W2 q us 0 false) := hQ2
  clear hQ2
  simp only [World.size_alloc] at s2
  have hb0_2 : Hidden (W2.heap[w.heap.size]? = some (de0)) := f2.heap hb0_b1 (by omega)
  have hb1_2 : Hidden (W2.heap[W1.heap.size]? = some (.cells #[ci 0, .bool true, .string ⟨#[]⟩, ci 0, .slice none 0 0, .slice none 0 0, .slice none 0 0] 50)) := f2.heap hnb1 (by omega)
  clear hy
  obtain ⟨b1c0, b1c1, b1c2, b1c3, b1c4, b1c5, b1c6, b1z0, b1z1, b1z2, b1z3, b1z4, b1z5, b1z6⟩ := box7 hb1_2
  go_upto_region 6 with fail
  have f3 := Fr.put W2 (W1.heap.size) 0 (ci 1)
  have hbb1_3 : (W2.setCell ⟨W1.heap.size, 0, none⟩ (ci 1)).heap[W1.heap.size]? = some (.cells #[ci 1, .bool true, .string ⟨#[]⟩, ci 0, .slice none 0 0, .slice none 0 0, .slice none 0 0] 50) := heap_setCell_same _ _ 0 _ _ _ hb1_2
  have hob0_3 : (W2.setCell ⟨W1.heap.size, 0, none⟩ (ci 1)).heap[w.heap.size]? = some (de0) := f3.heap hb0_2 (by omega)
  have hP3 : Hidden (Ps (W2.setCell ⟨W1.heap.size, 0, none⟩ (ci 1)) q us 0 false) := Ps.high hP2 f3 (fun k hk => by subst hk; omega)
  have g3 : Fr (fun k => k = q) w (W2.setCell ⟨W1.heap.size, 0, none⟩ (ci 1)) := g2.over f3 (fun k hk => by subst hk; omega)
  have t3 := g3.size
  have s3 := f3.size
  generalize (W2.setCell ⟨W1.heap.size, 0, none⟩ (ci 1)) = W3 at f3 hbb1_3 hob0_3 hP3 g3 t3 s3  ⊢
  clear b1c0 b1c1 b1c2 b1c3 b1c4 b1c5 b1c6 b1z0 b1z1 b1z2 b1z3 b1z4 b1z5 b1z6
  have hhb0_3 : Hidden (W3.heap[w.heap.size]? = some (de0)) := hob0_3
  clear hob0_3
  have hhb1_3 : Hidden (W3.heap[W1.heap.size]? = some (.cells #[ci 1, .bool true, .string ⟨#[]⟩, ci 0, .slice none 0 0, .slice none 0 0, .slice none 0 0] 50)) := hbb1_3
  clear hbb1_3
  go_wp2_with fail
  go_at_call 81
  refine (holder_c hE q W1.heap.size (by omega) 1 true us 0 rfl rs hs _ hP3 hhb1_3).mono ?_
  rcases rs with ⟨x, ts4⟩ | ⟨p, c⟩
  rotate_left
  · rintro e W4 ⟨rfl, f4⟩
    unfold gP
    go_wp2_with fail
    exact ⟨rfl, rfl, g3.trans f4 (fun k hk hs => by rcases hs with hs | hs <;> omega)⟩
  rintro e W4 ⟨pv, ev, bv, rfl, hz4, hN, hQ4, f4⟩
  have g4 : Fr (fun k => k = q) w W4 := g3.trans f4 (fun k hk hs => by rcases hs with hs | hs <;> omega)
  have s4 := f4.size
  have hb0f : Hidden (W4.heap[w.heap.size]? = some de0) := f4.heap hhb0_3 (by omega)
  have hzH : Hidden (W4.heap[W1.heap.size]? = some (.cells #[ci x.kind, .bool x.ex, ct x.name, ci x.type, pv, ev, bv] 50 (0, 0))) := hz4
  have hQH : Hidden (Ps W4 q ts4 0 false) := hQ4
  clear hz4 hQ4
  obtain ⟨a1, p1, a2, p2, a3, p3, rfl, rfl, rfl, _⟩ := hN.now
  obtain ⟨ac0, ac1, ac2, ac3, ac4, ac5, ac6, az0, az1, az2, az3, az4, az5, az6⟩ := box7 hb0f
  obtain ⟨bc0, bc1, bc2, bc3, bc4, bc5, bc6, bz0, bz1, bz2, bz3, bz4, bz5, bz6⟩ := box7 hzH
  go_wp2_with fail
  have fs := set7_fr W4 w.heap.size (ci x.kind) (.bool x.ex) (ct x.name) (ci x.type) (.slice a1 x.params.length p1) (.slice a2 x.e.len p2) (.slice a3 x.body.len p3)
  exact post_de hb0f rfl rfl rfl ⟨_, rfl, ⟨_, _, _, rfl, (hN.step fs (fun k hk => by subst hk; omega)).weak (by omega)⟩, Ps.high hQH fs (fun k hk => by subst hk; exact hq), g4.over fs (fun k hk => by subst hk; exact Nat.le_refl _)⟩

set_option maxRecDepth 20000 in
set_option maxHeartbeats 1000000 in
theorem dcl_ex_fn (g : Nat) (hg : g ≤ 3000) (q : Nat) (t : Tok) (r : List Tok) (fl : Bool) (rs : Pz.Rs De) (u : Tok) (us : List Tok) (hr : r = u :: us) (hfl : fl = false) (hx : t.x = [101, 120, 112, 111, 114, 116]) (hn1 : u.x ≠ [99, 111, 110, 115, 116]) (hy : u.x = [102, 110]) (hs : Hidden (Pz.dcl E B g fl (t :: r) = some rs)) (w : World) (h : Ps w q (t :: r) 0 fl) :
    Calls Tryz.prog 51 #[pp q] w (Out TD q 0 w rs) := by
  subst hr
  subst hfl
  have hs1 : Pz.dcl E B g false (t :: u :: us) = some rs := hs
  rw [Pz.dcl, if_pos hx, if_neg (by simp), Pz.dcl2, if_neg hn1, if_neg (by simp), if_pos hy] at hs1
  rw [if_neg (by simp)] at hs1
  replace hs : Hidden (Pz.fnc B g true us = some rs) := hs1
  clear hs1
  have hq := h.lt
  have f0 := Fr.alloc (fun _ => False) w de0
  have g0 : Fr (fun k => k = q) w (w.alloc de0) := frq f0
  have hP0 : Hidden (Ps (w.alloc de0) q (t :: u :: us) 0 false) := h.keepN f0
  have hb0 : Hidden ((w.alloc de0).heap[w.heap.size]? = some de0) := alloc_new _ _
  clear h
  go_enter Tryz.func51, Tryz.ntmps51
  go_wp2_with fail
  go_at_call 80
  refine (has_yes q [101, 120, 112, 111, 114, 116] t (u :: us) 0 hx _ hP0).mono ?_
  rintro e W1 ⟨rfl, hQ1, f1⟩
  have g1 := g0.same f1
  have s1 := f1.size
  have t1 := g1.size
  have hP1 : Hidden (Ps W1 q (u :: us) 0 false) := hQ1
  clear hQ1
  simp only [World.size_alloc] at s1
  have hb0_1 : Hidden (W1.heap[w.heap.size]? = some (de0)) := f1.heap hb0 (by omega)
  clear hx
  have fab1 := Fr.alloc (fun _ => False) W1 (.cells #[ci 0, .bool true, .string ⟨#[]⟩, ci 0, .slice none 0 0, .slice none 0 0, .slice none 0 0] 50)
  have gb1 : Fr (fun k => k = q) w (W1.alloc (.cells #[ci 0, .bool true, .string ⟨#[]⟩, ci 0, .slice none 0 0, .slice none 0 0, .slice none 0 0] 50)) := g1.same (frq fab1)
  have hPb1 : Hidden (Ps (W1.alloc (.cells #[ci 0, .bool true, .string ⟨#[]⟩, ci 0, .slice none 0 0, .slice none 0 0, .slice none 0 0] 50)) q (u :: us) 0 false) := Ps.keepN hP1 fab1
  have hnb1 : Hidden ((W1.alloc (.cells #[ci 0, .bool true, .string ⟨#[]⟩, ci 0, .slice none 0 0, .slice none 0 0, .slice none 0 0] 50)).heap[W1.heap.size]? = some (.cells #[ci 0, .bool true, .string ⟨#[]⟩, ci 0, .slice none 0 0, .slice none 0 0, .slice none 0 0] 50)) := alloc_new _ _
  have hb0_b1 : Hidden ((W1.alloc (.cells #[ci 0, .bool true, .string ⟨#[]⟩, ci 0, .slice none 0 0, .slice none 0 0, .slice none 0 0] 50)).heap[w.heap.size]? = some (de0)) := fab1.heap hb0_1 (fun f => f)
  go_wp2_with fail
  go_at_call 80
  refine (has_no q [99, 111, 110, 115, 116] u us 0 false hn1 _ hPb1).mono ?_
  rintro e W2 ⟨rfl, F2⟩
  have f2 : Fr (fun k => k = q) _ W2 := frq F2
  have hQ2 := Ps.keepN hPb1 F2
  have g2 := gb1.same f2
  have s2 := f2.size
  have t2 := g2.size
  have hP2 : Hidden (Ps W2 q (u :: us) 0 false) := hQ2
  clear hQ2
  simp only [World.size_alloc] at s2
  have hb0_2 : Hidden (W2.heap[w.heap.size]? = some (de0)) := f2.heap hb0_b1 (by omega)
  have hb1_2 : Hidden (W2.heap[W1.heap.size]? = some (.cells #[ci 0, .bool true, .string ⟨#[]⟩, ci 0, .slice none 0 0, .slice none 0 0, .slice none 0 0] 50)) := f2.heap hnb1 (by omega)
  clear hn1
  go_wp2_with fail
  go_at_call 80
  refine (has_yes q [102, 110] u us 0 hy _ hP2).mono ?_
  rintro e W3 ⟨rfl, hQ3, f3⟩
  have g3 := g2.same f3
  have s3 := f3.size
  have t3 := g3.size
  have hP3 : Hidden (Ps W3 q us 0 false) := hQ3
  clear hQ3
  have hb0_3 : Hidden (W3.heap[w.heap.size]? = some (de0)) := f3.heap hb0_2 (by omega)
  have hb1_3 : Hidden (W3.heap[W1.heap.size]? = some (.cells #[ci 0, .bool true, .string ⟨#[]⟩, ci 0, .slice none 0 0, .slice none 0 0, .slice none 0 0] 50)) := f3.heap hb1_2 (by omega)
  clear hy
  obtain ⟨b1c0, b1c1, b1c2, b1c3, b1c4, b1c5, b1c6, b1z0, b1z1, b1z2, b1z3, b1z4, b1z5, b1z6⟩ := box7 hb1_3
  go_upto_region 12 with fail
  have f4 := Fr.put W3 (W1.heap.size) 0 (ci 3)
  have hbb1_4 : (W3.setCell ⟨W1.heap.size, 0, none⟩ (ci 3)).heap[W1.heap.size]? = some (.cells #[ci 3, .bool true, .string ⟨#[]⟩, ci 0, .slice none 0 0, .slice none 0 0, .slice none 0 0] 50) := heap_setCell_same _ _ 0 _ _ _ hb1_3
  have hob0_4 : (W3.setCell ⟨W1.heap.size, 0, none⟩ (ci 3)).heap[w.heap.size]? = some (de0) := f4.heap hb0_3 (by omega)
  have hP4 : Hidden (Ps (W3.setCell ⟨W1.heap.size, 0, none⟩ (ci 3)) q us 0 false) := Ps.high hP3 f4 (fun k hk => by subst hk; omega)
  have g4 : Fr (fun k => k = q) w (W3.setCell ⟨W1.heap.size, 0, none⟩ (ci 3)) := g3.over f4 (fun k hk => by subst hk; omega)
  have t4 := g4.size
  have s4 := f4.size
  generalize (W3.setCell ⟨W1.heap.size, 0, none⟩ (ci 3)) = W4 at f4 hbb1_4 hob0_4 hP4 g4 t4 s4  ⊢
  clear b1c0 b1c1 b1c2 b1c3 b1c4 b1c5 b1c6 b1z0 b1z1 b1z2 b1z3 b1z4 b1z5 b1z6
  have hhb0_4 : Hidden (W4.heap[w.heap.size]? = some (de0)) := hob0_4
  clear hob0_4
  have hhb1_4 : Hidden (W4.heap[W1.heap.size]? = some (.cells #[ci 3, .bool true, .string ⟨#[]⟩, ci 0, .slice none 0 0, .slice none 0 0, .slice none 0 0] 50)) := hbb1_4
  clear hbb1_4
  go_wp2_with fail
  go_at_call 82
  refine (fnc_c hB g hg q W1.heap.size (by omega) true us 0 rfl rs hs _ hP4 hhb1_4).mono ?_
  rcases rs with ⟨x, ts5⟩ | ⟨p, c⟩
  rotate_left
  · rintro e W5 ⟨rfl, f5⟩
    unfold gP
    go_wp2_with fail
    exact ⟨rfl, rfl, g4.trans f5 (fun k hk hs => by rcases hs with hs | hs <;> omega)⟩
  rintro e W5 ⟨pv, ev, bv, rfl, hz5, hN, hQ5, f5⟩
  have g5 : Fr (fun k => k = q) w W5 := g4.trans f5 (fun k hk hs => by rcases hs with hs | hs <;> omega)
  have s5 := f5.size
  have hb0f : Hidden (W5.heap[w.heap.size]? = some de0) := f5.heap hhb0_4 (by omega)
  have hzH : Hidden (W5.heap[W1.heap.size]? = some (.cells #[ci x.kind, .bool x.ex, ct x.name, ci x.type, pv, ev, bv] 50 (0, 0))) := hz5
  have hQH : Hidden (Ps W5 q ts5 0 false) := hQ5
  clear hz5 hQ5
  obtain ⟨a1, p1, a2, p2, a3, p3, rfl, rfl, rfl, _⟩ := hN.now
  obtain ⟨ac0, ac1, ac2, ac3, ac4, ac5, ac6, az0, az1, az2, az3, az4, az5, az6⟩ := box7 hb0f
  obtain ⟨bc0, bc1, bc2, bc3, bc4, bc5, bc6, bz0, bz1, bz2, bz3, bz4, bz5, bz6⟩ := box7 hzH
  go_wp2_with fail
  have fs := set7_fr W5 w.heap.size (ci x.kind) (.bool x.ex) (ct x.name) (ci x.type) (.slice a1 x.params.length p1) (.slice a2 x.e.len p2) (.slice a3 x.body.len p3)
  exact post_de hb0f rfl rfl rfl ⟨_, rfl, ⟨_, _, _, rfl, (hN.step fs (fun k hk => by subst hk; omega)).weak (by omega)⟩, Ps.high hQH fs (fun k hk => by subst hk; exact hq), g5.over fs (fun k hk => by subst hk; exact Nat.le_refl _)⟩

set_option maxRecDepth 20000 in
set_option maxHeartbeats 1000000 in
theorem dcl_ex_else (g : Nat) (hg : g ≤ 3000) (q : Nat) (t : Tok) (r : List Tok) (fl : Bool) (rs : Pz.Rs De) (u : Tok) (us : List Tok) (hr : r = u :: us) (hfl : fl = false) (hx : t.x = [101, 120, 112, 111, 114, 116]) (hn1 : u.x ≠ [99, 111, 110, 115, 116]) (hn2 : u.x ≠ [102, 110]) (hs : Hidden (Pz.dcl E B g fl (t :: r) = some rs)) (w : World) (h : Ps w q (t :: r) 0 fl) :
    Calls Tryz.prog 51 #[pp q] w (Out TD q 0 w rs) := by
  subst hr
  subst hfl
  have hs1 : Pz.dcl E B g false (t :: u :: us) = some rs := hs
  rw [Pz.dcl, if_pos hx, if_neg (by simp), Pz.dcl2, if_neg hn1, if_neg (by simp), if_neg hn2] at hs1
  obtain rfl : rs = .er u.p 11 := (Option.some.inj hs1).symm
  clear hs hs1
  have hq := h.lt
  have f0 := Fr.alloc (fun _ => False) w de0
  have g0 : Fr (fun k => k = q) w (w.alloc de0) := frq f0
  have hP0 : Hidden (Ps (w.alloc de0) q (t :: u :: us) 0 false) := h.keepN f0
  have hb0 : Hidden ((w.alloc de0).heap[w.heap.size]? = some de0) := alloc_new _ _
  clear h
  go_enter Tryz.func51, Tryz.ntmps51
  go_wp2_with fail
  go_at_call 80
  refine (has_yes q [101, 120, 112, 111, 114, 116] t (u :: us) 0 hx _ hP0).mono ?_
  rintro e W1 ⟨rfl, hQ1, f1⟩
  have g1 := g0.same f1
  have s1 := f1.size
  have t1 := g1.size
  have hP1 : Hidden (Ps W1 q (u :: us) 0 false) := hQ1
  clear hQ1
  simp only [World.size_alloc] at s1
  have hb0_1 : Hidden (W1.heap[w.heap.size]? = some (de0)) := f1.heap hb0 (by omega)
  clear hx
  have fab1 := Fr.alloc (fun _ => False) W1 (.cells #[ci 0, .bool true, .string ⟨#[]⟩, ci 0, .slice none 0 0, .slice none 0 0, .slice none 0 0] 50)
  have gb1 : Fr (fun k => k = q) w (W1.alloc (.cells #[ci 0, .bool true, .string ⟨#[]⟩, ci 0, .slice none 0 0, .slice none 0 0, .slice none 0 0] 50)) := g1.same (frq fab1)
  have hPb1 : Hidden (Ps (W1.alloc (.cells #[ci 0, .bool true, .string ⟨#[]⟩, ci 0, .slice none 0 0, .slice none 0 0, .slice none 0 0] 50)) q (u :: us) 0 false) := Ps.keepN hP1 fab1
  have hnb1 : Hidden ((W1.alloc (.cells #[ci 0, .bool true, .string ⟨#[]⟩, ci 0, .slice none 0 0, .slice none 0 0, .slice none 0 0] 50)).heap[W1.heap.size]? = some (.cells #[ci 0, .bool true, .string ⟨#[]⟩, ci 0, .slice none 0 0, .slice none 0 0, .slice none 0 0] 50)) := alloc_new _ _
  have hb0_b1 : Hidden ((W1.alloc (.cells #[ci 0, .bool true, .string ⟨#[]⟩, ci 0, .slice none 0 0, .slice none 0 0, .slice none 0 0] 50)).heap[w.heap.size]? = some (de0)) := fab1.heap hb0_1 (fun f => f)
  go_wp2_with fail
  go_at_call 80
  refine (has_no q [99, 111, 110, 115, 116] u us 0 false hn1 _ hPb1).mono ?_
  rintro e W2 ⟨rfl, F2⟩
  have f2 : Fr (fun k => k = q) _ W2 := frq F2
  have hQ2 := Ps.keepN hPb1 F2
  have g2 := gb1.same f2
  have s2 := f2.size
  have t2 := g2.size
  have hP2 : Hidden (Ps W2 q (u :: us) 0 false) := hQ2
  clear hQ2
  simp only [World.size_alloc] at s2
  have hb0_2 : Hidden (W2.heap[w.heap.size]? = some (de0)) := f2.heap hb0_b1 (by omega)
  have hb1_2 : Hidden (W2.heap[W1.heap.size]? = some (.cells #[ci 0, .bool true, .string ⟨#[]⟩, ci 0, .slice none 0 0, .slice none 0 0, .slice none 0 0] 50)) := f2.heap hnb1 (by omega)
  clear hn1
  go_wp2_with fail
  go_at_call 80
  refine (has_no q [102, 110] u us 0 false hn2 _ hP2).mono ?_
  rintro e W3 ⟨rfl, F3⟩
  have f3 : Fr (fun k => k = q) _ W3 := frq F3
  have hQ3 := Ps.keepN hP2 F3
  have g3 := g2.same f3
  have s3 := f3.size
  have t3 := g3.size
  have hP3 : Hidden (Ps W3 q (u :: us) 0 false) := hQ3
  clear hQ3
  have hb0_3 : Hidden (W3.heap[w.heap.size]? = some (de0)) := f3.heap hb0_2 (by omega)
  have hb1_3 : Hidden (W3.heap[W1.heap.size]? = some (.cells #[ci 0, .bool true, .string ⟨#[]⟩, ci 0, .slice none 0 0, .slice none 0 0, .slice none 0 0] 50)) := f3.heap hb1_2 (by omega)
  clear hn2
  go_wp2_with fail
  go_at_call 52
  refine (fault_any q 11 u us 0 false _ hP3).mono ?_
  rintro e W4 ⟨rfl, F4⟩
  have f4 : Fr (fun k => k = q) _ W4 := frq F4
  have hQ4 := Ps.keepN hP3 F4
  have g4 := g3.same f4
  have s4 := f4.size
  have t4 := g4.size
  have hP4 : Hidden (Ps W4 q (u :: us) 0 false) := hQ4
  clear hQ4
  have hb0_4 : Hidden (W4.heap[w.heap.size]? = some (de0)) := f4.heap hb0_3 (by omega)
  have hb1_4 : Hidden (W4.heap[W1.heap.size]? = some (.cells #[ci 0, .bool true, .string ⟨#[]⟩, ci 0, .slice none 0 0, .slice none 0 0, .slice none 0 0] 50)) := f4.heap hb1_3 (by omega)
  (try unfold Out gP)
  go_wp2_with fail
  exact ⟨rfl, rfl, g4⟩

set_option maxRecDepth 20000 in
set_option maxHeartbeats 1000000 in
theorem dcl_const (g : Nat) (hg : g ≤ 3000) (q : Nat) (t : Tok) (r : List Tok) (fl : Bool) (rs : Pz.Rs De) (hfl : fl = false) (hx : t.x ≠ [101, 120, 112, 111, 114, 116])  (hy : t.x = [99, 111, 110, 115, 116]) (hs : Hidden (Pz.dcl E B g fl (t :: r) = some rs)) (w : World) (h : Ps w q (t :: r) 0 fl) :
    Calls Tryz.prog 51 #[pp q] w (Out TD q 0 w rs) := by
  subst hfl
  have hs1 : Pz.dcl E B g false (t :: r) = some rs := hs
  rw [Pz.dcl, if_neg hx, Pz.dcl2, if_pos hy] at hs1
  rw [if_neg (by simp)] at hs1
  replace hs : Hidden (Pz.holder E 1 false r = some rs) := hs1
  clear hs1
  have hq := h.lt
  have f0 := Fr.alloc (fun _ => False) w de0
  have g0 : Fr (fun k => k = q) w (w.alloc de0) := frq f0
  have hP0 : Hidden (Ps (w.alloc de0) q (t :: r) 0 false) := h.keepN f0
  have hb0 : Hidden ((w.alloc de0).heap[w.heap.size]? = some de0) := alloc_new _ _
  clear h
  go_enter Tryz.func51, Tryz.ntmps51
  go_wp2_with fail
  go_at_call 80
  refine (has_no q [101, 120, 112, 111, 114, 116] t r 0 false hx _ hP0).mono ?_
  rintro e W1 ⟨rfl, F1⟩
  have f1 : Fr (fun k => k = q) _ W1 := frq F1
  have hQ1 := Ps.keepN hP0 F1
  have g1 := g0.same f1
  have s1 := f1.size
  have t1 := g1.size
  have hP1 : Hidden (Ps W1 q (t :: r) 0 false) := hQ1
  clear hQ1
  simp only [World.size_alloc] at s1
  have hb0_1 : Hidden (W1.heap[w.heap.size]? = some (de0)) := f1.heap hb0 (by omega)
  clear hx
  have fab1 := Fr.alloc (fun _ => False) W1 (.cells #[ci 0, .bool false, .string ⟨#[]⟩, ci 0, .slice none 0 0, .slice none 0 0, .slice none 0 0] 50)
  have gb1 : Fr (fun k => k = q) w (W1.alloc (.cells #[ci 0, .bool false, .string ⟨#[]⟩, ci 0, .slice none 0 0, .slice none 0 0, .slice none 0 0] 50)) := g1.same (frq fab1)
  have hPb1 : Hidden (Ps (W1.alloc (.cells #[ci 0, .bool false, .string ⟨#[]⟩, ci 0, .slice none 0 0, .slice none 0 0, .slice none 0 0] 50)) q (t :: r) 0 false) := Ps.keepN hP1 fab1
  have hnb1 : Hidden ((W1.alloc (.cells #[ci 0, .bool false, .string ⟨#[]⟩, ci 0, .slice none 0 0, .slice none 0 0, .slice none 0 0] 50)).heap[W1.heap.size]? = some (.cells #[ci 0, .bool false, .string ⟨#[]⟩, ci 0, .slice none 0 0, .slice none 0 0, .slice none 0 0] 50)) := alloc_new _ _
  have hb0_b1 : Hidden ((W1.alloc (.cells #[ci 0, .bool false, .string ⟨#[]⟩, ci 0, .slice none 0 0, .slice none 0 0, .slice none 0 0] 50)).heap[w.heap.size]? = some (de0)) := fab1.heap hb0_1 (fun f => f)
  go_wp2_with fail
  go_at_call 80
  refine (has_yes q [99, 111, 110, 115, 116] t r 0 hy _ hPb1).mono ?_
  rintro e W2 ⟨rfl, hQ2, f2⟩
  have g2 := gb1.same f2
  have s2 := f2.size
  have t2 := g2.size
  have hP2 : Hidden (Ps W2 q r 0 false) := hQ2
  clear hQ2
  simp only [World.size_alloc] at s2
  have hb0_2 : Hidden (W2.heap[w.heap.size]? = some (de0)) := f2.heap hb0_b1 (by omega)
  have hb1_2 : Hidden (W2.heap[W1.heap.size]? = some (.cells #[ci 0, .bool false, .string ⟨#[]⟩, ci 0, .slice none 0 0, .slice none 0 0, .slice none 0 0] 50)) := f2.heap hnb1 (by omega)
  clear hy
  obtain ⟨b1c0, b1c1, b1c2, b1c3, b1c4, b1c5, b1c6, b1z0, b1z1, b1z2, b1z3, b1z4, b1z5, b1z6⟩ := box7 hb1_2
  go_upto_region 6 with fail
  have f3 := Fr.put W2 (W1.heap.size) 0 (ci 1)
  have hbb1_3 : (W2.setCell ⟨W1.heap.size, 0, none⟩ (ci 1)).heap[W1.heap.size]? = some (.cells #[ci 1, .bool false, .string ⟨#[]⟩, ci 0, .slice none 0 0, .slice none 0 0, .slice none 0 0] 50) := heap_setCell_same _ _ 0 _ _ _ hb1_2
  have hob0_3 : (W2.setCell ⟨W1.heap.size, 0, none⟩ (ci 1)).heap[w.heap.size]? = some (de0) := f3.heap hb0_2 (by omega)
  have hP3 : Hidden (Ps (W2.setCell ⟨W1.heap.size, 0, none⟩ (ci 1)) q r 0 false) := Ps.high hP2 f3 (fun k hk => by subst hk; omega)
  have g3 : Fr (fun k => k = q) w (W2.setCell ⟨W1.heap.size, 0, none⟩ (ci 1)) := g2.over f3 (fun k hk => by subst hk; omega)
  have t3 := g3.size
  have s3 := f3.size
  generalize (W2.setCell ⟨W1.heap.size, 0, none⟩ (ci 1)) = W3 at f3 hbb1_3 hob0_3 hP3 g3 t3 s3  ⊢
  clear b1c0 b1c1 b1c2 b1c3 b1c4 b1c5 b1c6 b1z0 b1z1 b1z2 b1z3 b1z4 b1z5 b1z6
  have hhb0_3 : Hidden (W3.heap[w.heap.size]? = some (de0)) := hob0_3
  clear hob0_3
  have hhb1_3 : Hidden (W3.heap[W1.heap.size]? = some (.cells #[ci 1, .bool false, .string ⟨#[]⟩, ci 0, .slice none 0 0, .slice none 0 0, .slice none 0 0] 50)) := hbb1_3
  clear hbb1_3
  go_wp2_with fail
  go_at_call 81
  refine (holder_c hE q W1.heap.size (by omega) 1 false r 0 rfl rs hs _ hP3 hhb1_3).mono ?_
  rcases rs with ⟨x, ts4⟩ | ⟨p, c⟩
  rotate_left
  · rintro e W4 ⟨rfl, f4⟩
    unfold gP
    go_wp2_with fail
    exact ⟨rfl, rfl, g3.trans f4 (fun k hk hs => by rcases hs with hs | hs <;> omega)⟩
  rintro e W4 ⟨pv, ev, bv, rfl, hz4, hN, hQ4, f4⟩
  have g4 : Fr (fun k => k = q) w W4 := g3.trans f4 (fun k hk hs => by rcases hs with hs | hs <;> omega)
  have s4 := f4.size
  have hb0f : Hidden (W4.heap[w.heap.size]? = some de0) := f4.heap hhb0_3 (by omega)
  have hzH : Hidden (W4.heap[W1.heap.size]? = some (.cells #[ci x.kind, .bool x.ex, ct x.name, ci x.type, pv, ev, bv] 50 (0, 0))) := hz4
  have hQH : Hidden (Ps W4 q ts4 0 false) := hQ4
  clear hz4 hQ4
  obtain ⟨a1, p1, a2, p2, a3, p3, rfl, rfl, rfl, _⟩ := hN.now
  obtain ⟨ac0, ac1, ac2, ac3, ac4, ac5, ac6, az0, az1, az2, az3, az4, az5, az6⟩ := box7 hb0f
  obtain ⟨bc0, bc1, bc2, bc3, bc4, bc5, bc6, bz0, bz1, bz2, bz3, bz4, bz5, bz6⟩ := box7 hzH
  go_wp2_with fail
  have fs := set7_fr W4 w.heap.size (ci x.kind) (.bool x.ex) (ct x.name) (ci x.type) (.slice a1 x.params.length p1) (.slice a2 x.e.len p2) (.slice a3 x.body.len p3)
  exact post_de hb0f rfl rfl rfl ⟨_, rfl, ⟨_, _, _, rfl, (hN.step fs (fun k hk => by subst hk; omega)).weak (by omega)⟩, Ps.high hQH fs (fun k hk => by subst hk; exact hq), g4.over fs (fun k hk => by subst hk; exact Nat.le_refl _)⟩

set_option maxRecDepth 20000 in
set_option maxHeartbeats 1000000 in
theorem dcl_const_full (g : Nat) (hg : g ≤ 3000) (q : Nat) (t : Tok) (r : List Tok) (fl : Bool) (rs : Pz.Rs De) (hfl : fl = true) (hx : t.x ≠ [101, 120, 112, 111, 114, 116])  (hy : t.x = [99, 111, 110, 115, 116]) (hs : Hidden (Pz.dcl E B g fl (t :: r) = some rs)) (w : World) (h : Ps w q (t :: r) 0 fl) :
    Calls Tryz.prog 51 #[pp q] w (Out TD q 0 w rs) := by
  subst hfl
  have hs1 : Pz.dcl E B g true (t :: r) = some rs := hs
  rw [Pz.dcl, if_neg hx, Pz.dcl2, if_pos hy] at hs1
  rw [if_pos rfl] at hs1
  obtain rfl : rs = .er t.p 3 := (Option.some.inj hs1).symm
  clear hs hs1
  have hq := h.lt
  have f0 := Fr.alloc (fun _ => False) w de0
  have g0 : Fr (fun k => k = q) w (w.alloc de0) := frq f0
  have hP0 : Hidden (Ps (w.alloc de0) q (t :: r) 0 true) := h.keepN f0
  have hb0 : Hidden ((w.alloc de0).heap[w.heap.size]? = some de0) := alloc_new _ _
  clear h
  go_enter Tryz.func51, Tryz.ntmps51
  go_wp2_with fail
  go_at_call 80
  refine (has_no q [101, 120, 112, 111, 114, 116] t r 0 true hx _ hP0).mono ?_
  rintro e W1 ⟨rfl, F1⟩
  have f1 : Fr (fun k => k = q) _ W1 := frq F1
  have hQ1 := Ps.keepN hP0 F1
  have g1 := g0.same f1
  have s1 := f1.size
  have t1 := g1.size
  have hP1 : Hidden (Ps W1 q (t :: r) 0 true) := hQ1
  clear hQ1
  simp only [World.size_alloc] at s1
  have hb0_1 : Hidden (W1.heap[w.heap.size]? = some (de0)) := f1.heap hb0 (by omega)
  clear hx
  have fab1 := Fr.alloc (fun _ => False) W1 (.cells #[ci 0, .bool false, .string ⟨#[]⟩, ci 0, .slice none 0 0, .slice none 0 0, .slice none 0 0] 50)
  have gb1 : Fr (fun k => k = q) w (W1.alloc (.cells #[ci 0, .bool false, .string ⟨#[]⟩, ci 0, .slice none 0 0, .slice none 0 0, .slice none 0 0] 50)) := g1.same (frq fab1)
  have hPb1 : Hidden (Ps (W1.alloc (.cells #[ci 0, .bool false, .string ⟨#[]⟩, ci 0, .slice none 0 0, .slice none 0 0, .slice none 0 0] 50)) q (t :: r) 0 true) := Ps.keepN hP1 fab1
  have hnb1 : Hidden ((W1.alloc (.cells #[ci 0, .bool false, .string ⟨#[]⟩, ci 0, .slice none 0 0, .slice none 0 0, .slice none 0 0] 50)).heap[W1.heap.size]? = some (.cells #[ci 0, .bool false, .string ⟨#[]⟩, ci 0, .slice none 0 0, .slice none 0 0, .slice none 0 0] 50)) := alloc_new _ _
  have hb0_b1 : Hidden ((W1.alloc (.cells #[ci 0, .bool false, .string ⟨#[]⟩, ci 0, .slice none 0 0, .slice none 0 0, .slice none 0 0] 50)).heap[w.heap.size]? = some (de0)) := fab1.heap hb0_1 (fun f => f)
  go_wp2_with fail
  go_at_call 80
  refine (has_full q [99, 111, 110, 115, 116] t r 0 hy _ hPb1).mono ?_
  rintro e W2 ⟨rfl, f2⟩
  unfold gP
  go_wp2_with fail
  exact ⟨rfl, rfl, gb1.same f2⟩

set_option maxRecDepth 20000 in
set_option maxHeartbeats 1000000 in
theorem dcl_var (g : Nat) (hg : g ≤ 3000) (q : Nat) (t : Tok) (r : List Tok) (fl : Bool) (rs : Pz.Rs De) (hfl : fl = false) (hx : t.x ≠ [101, 120, 112, 111, 114, 116]) (hn0 : t.x ≠ [99, 111, 110, 115, 116]) (hy : t.x = [118, 97, 114]) (hs : Hidden (Pz.dcl E B g fl (t :: r) = some rs)) (w : World) (h : Ps w q (t :: r) 0 fl) :
    Calls Tryz.prog 51 #[pp q] w (Out TD q 0 w rs) := by
  subst hfl
  have hs1 : Pz.dcl E B g false (t :: r) = some rs := hs
  rw [Pz.dcl, if_neg hx, Pz.dcl2, if_neg hn0, if_pos ⟨rfl, hy⟩] at hs1
  rw [if_neg (by simp)] at hs1
  replace hs : Hidden (Pz.holder E 2 false r = some rs) := hs1
  clear hs1
  have hq := h.lt
  have f0 := Fr.alloc (fun _ => False) w de0
  have g0 : Fr (fun k => k = q) w (w.alloc de0) := frq f0
  have hP0 : Hidden (Ps (w.alloc de0) q (t :: r) 0 false) := h.keepN f0
  have hb0 : Hidden ((w.alloc de0).heap[w.heap.size]? = some de0) := alloc_new _ _
  clear h
  go_enter Tryz.func51, Tryz.ntmps51
  go_wp2_with fail
  go_at_call 80
  refine (has_no q [101, 120, 112, 111, 114, 116] t r 0 false hx _ hP0).mono ?_
  rintro e W1 ⟨rfl, F1⟩
  have f1 : Fr (fun k => k = q) _ W1 := frq F1
  have hQ1 := Ps.keepN hP0 F1
  have g1 := g0.same f1
  have s1 := f1.size
  have t1 := g1.size
  have hP1 : Hidden (Ps W1 q (t :: r) 0 false) := hQ1
  clear hQ1
  simp only [World.size_alloc] at s1
  have hb0_1 : Hidden (W1.heap[w.heap.size]? = some (de0)) := f1.heap hb0 (by omega)
  clear hx
  have fab1 := Fr.alloc (fun _ => False) W1 (.cells #[ci 0, .bool false, .string ⟨#[]⟩, ci 0, .slice none 0 0, .slice none 0 0, .slice none 0 0] 50)
  have gb1 : Fr (fun k => k = q) w (W1.alloc (.cells #[ci 0, .bool false, .string ⟨#[]⟩, ci 0, .slice none 0 0, .slice none 0 0, .slice none 0 0] 50)) := g1.same (frq fab1)
  have hPb1 : Hidden (Ps (W1.alloc (.cells #[ci 0, .bool false, .string ⟨#[]⟩, ci 0, .slice none 0 0, .slice none 0 0, .slice none 0 0] 50)) q (t :: r) 0 false) := Ps.keepN hP1 fab1
  have hnb1 : Hidden ((W1.alloc (.cells #[ci 0, .bool false, .string ⟨#[]⟩, ci 0, .slice none 0 0, .slice none 0 0, .slice none 0 0] 50)).heap[W1.heap.size]? = some (.cells #[ci 0, .bool false, .string ⟨#[]⟩, ci 0, .slice none 0 0, .slice none 0 0, .slice none 0 0] 50)) := alloc_new _ _
  have hb0_b1 : Hidden ((W1.alloc (.cells #[ci 0, .bool false, .string ⟨#[]⟩, ci 0, .slice none 0 0, .slice none 0 0, .slice none 0 0] 50)).heap[w.heap.size]? = some (de0)) := fab1.heap hb0_1 (fun f => f)
  go_wp2_with fail
  go_at_call 80
  refine (has_no q [99, 111, 110, 115, 116] t r 0 false hn0 _ hPb1).mono ?_
  rintro e W2 ⟨rfl, F2⟩
  have f2 : Fr (fun k => k = q) _ W2 := frq F2
  have hQ2 := Ps.keepN hPb1 F2
  have g2 := gb1.same f2
  have s2 := f2.size
  have t2 := g2.size
  have hP2 : Hidden (Ps W2 q (t :: r) 0 false) := hQ2
  clear hQ2
  simp only [World.size_alloc] at s2
  have hb0_2 : Hidden (W2.heap[w.heap.size]? = some (de0)) := f2.heap hb0_b1 (by omega)
  have hb1_2 : Hidden (W2.heap[W1.heap.size]? = some (.cells #[ci 0, .bool false, .string ⟨#[]⟩, ci 0, .slice none 0 0, .slice none 0 0, .slice none 0 0] 50)) := f2.heap hnb1 (by omega)
  clear hn0
  go_wp2_with fail
  go_at_call 80
  refine (has_yes q [118, 97, 114] t r 0 hy _ hP2).mono ?_
  rintro e W3 ⟨rfl, hQ3, f3⟩
  have g3 := g2.same f3
  have s3 := f3.size
  have t3 := g3.size
  have hP3 : Hidden (Ps W3 q r 0 false) := hQ3
  clear hQ3
  have hb0_3 : Hidden (W3.heap[w.heap.size]? = some (de0)) := f3.heap hb0_2 (by omega)
  have hb1_3 : Hidden (W3.heap[W1.heap.size]? = some (.cells #[ci 0, .bool false, .string ⟨#[]⟩, ci 0, .slice none 0 0, .slice none 0 0, .slice none 0 0] 50)) := f3.heap hb1_2 (by omega)
  clear hy
  obtain ⟨b1c0, b1c1, b1c2, b1c3, b1c4, b1c5, b1c6, b1z0, b1z1, b1z2, b1z3, b1z4, b1z5, b1z6⟩ := box7 hb1_3
  go_upto_region 9 with fail
  have f4 := Fr.put W3 (W1.heap.size) 0 (ci 2)
  have hbb1_4 : (W3.setCell ⟨W1.heap.size, 0, none⟩ (ci 2)).heap[W1.heap.size]? = some (.cells #[ci 2, .bool false, .string ⟨#[]⟩, ci 0, .slice none 0 0, .slice none 0 0, .slice none 0 0] 50) := heap_setCell_same _ _ 0 _ _ _ hb1_3
  have hob0_4 : (W3.setCell ⟨W1.heap.size, 0, none⟩ (ci 2)).heap[w.heap.size]? = some (de0) := f4.heap hb0_3 (by omega)
  have hP4 : Hidden (Ps (W3.setCell ⟨W1.heap.size, 0, none⟩ (ci 2)) q r 0 false) := Ps.high hP3 f4 (fun k hk => by subst hk; omega)
  have g4 : Fr (fun k => k = q) w (W3.setCell ⟨W1.heap.size, 0, none⟩ (ci 2)) := g3.over f4 (fun k hk => by subst hk; omega)
  have t4 := g4.size
  have s4 := f4.size
  generalize (W3.setCell ⟨W1.heap.size, 0, none⟩ (ci 2)) = W4 at f4 hbb1_4 hob0_4 hP4 g4 t4 s4  ⊢
  clear b1c0 b1c1 b1c2 b1c3 b1c4 b1c5 b1c6 b1z0 b1z1 b1z2 b1z3 b1z4 b1z5 b1z6
  have hhb0_4 : Hidden (W4.heap[w.heap.size]? = some (de0)) := hob0_4
  clear hob0_4
  have hhb1_4 : Hidden (W4.heap[W1.heap.size]? = some (.cells #[ci 2, .bool false, .string ⟨#[]⟩, ci 0, .slice none 0 0, .slice none 0 0, .slice none 0 0] 50)) := hbb1_4
  clear hbb1_4
  go_wp2_with fail
  go_at_call 81
  refine (holder_c hE q W1.heap.size (by omega) 2 false r 0 rfl rs hs _ hP4 hhb1_4).mono ?_
  rcases rs with ⟨x, ts5⟩ | ⟨p, c⟩
  rotate_left
  · rintro e W5 ⟨rfl, f5⟩
    unfold gP
    go_wp2_with fail
    exact ⟨rfl, rfl, g4.trans f5 (fun k hk hs => by rcases hs with hs | hs <;> omega)⟩
  rintro e W5 ⟨pv, ev, bv, rfl, hz5, hN, hQ5, f5⟩
  have g5 : Fr (fun k => k = q) w W5 := g4.trans f5 (fun k hk hs => by rcases hs with hs | hs <;> omega)
  have s5 := f5.size
  have hb0f : Hidden (W5.heap[w.heap.size]? = some de0) := f5.heap hhb0_4 (by omega)
  have hzH : Hidden (W5.heap[W1.heap.size]? = some (.cells #[ci x.kind, .bool x.ex, ct x.name, ci x.type, pv, ev, bv] 50 (0, 0))) := hz5
  have hQH : Hidden (Ps W5 q ts5 0 false) := hQ5
  clear hz5 hQ5
  obtain ⟨a1, p1, a2, p2, a3, p3, rfl, rfl, rfl, _⟩ := hN.now
  obtain ⟨ac0, ac1, ac2, ac3, ac4, ac5, ac6, az0, az1, az2, az3, az4, az5, az6⟩ := box7 hb0f
  obtain ⟨bc0, bc1, bc2, bc3, bc4, bc5, bc6, bz0, bz1, bz2, bz3, bz4, bz5, bz6⟩ := box7 hzH
  go_wp2_with fail
  have fs := set7_fr W5 w.heap.size (ci x.kind) (.bool x.ex) (ct x.name) (ci x.type) (.slice a1 x.params.length p1) (.slice a2 x.e.len p2) (.slice a3 x.body.len p3)
  exact post_de hb0f rfl rfl rfl ⟨_, rfl, ⟨_, _, _, rfl, (hN.step fs (fun k hk => by subst hk; omega)).weak (by omega)⟩, Ps.high hQH fs (fun k hk => by subst hk; exact hq), g5.over fs (fun k hk => by subst hk; exact Nat.le_refl _)⟩

set_option maxRecDepth 20000 in
set_option maxHeartbeats 1000000 in
theorem dcl_var_full (g : Nat) (hg : g ≤ 3000) (q : Nat) (t : Tok) (r : List Tok) (fl : Bool) (rs : Pz.Rs De) (hfl : fl = true) (hx : t.x ≠ [101, 120, 112, 111, 114, 116]) (hn0 : t.x ≠ [99, 111, 110, 115, 116]) (hy : t.x = [118, 97, 114]) (hs : Hidden (Pz.dcl E B g fl (t :: r) = some rs)) (w : World) (h : Ps w q (t :: r) 0 fl) :
    Calls Tryz.prog 51 #[pp q] w (Out TD q 0 w rs) := by
  subst hfl
  have hs1 : Pz.dcl E B g true (t :: r) = some rs := hs
  rw [Pz.dcl, if_neg hx, Pz.dcl2, if_neg hn0, if_pos ⟨rfl, hy⟩] at hs1
  rw [if_pos rfl] at hs1
  obtain rfl : rs = .er t.p 3 := (Option.some.inj hs1).symm
  clear hs hs1
  have hq := h.lt
  have f0 := Fr.alloc (fun _ => False) w de0
  have g0 : Fr (fun k => k = q) w (w.alloc de0) := frq f0
  have hP0 : Hidden (Ps (w.alloc de0) q (t :: r) 0 true) := h.keepN f0
  have hb0 : Hidden ((w.alloc de0).heap[w.heap.size]? = some de0) := alloc_new _ _
  clear h
  go_enter Tryz.func51, Tryz.ntmps51
  go_wp2_with fail
  go_at_call 80
  refine (has_no q [101, 120, 112, 111, 114, 116] t r 0 true hx _ hP0).mono ?_
  rintro e W1 ⟨rfl, F1⟩
  have f1 : Fr (fun k => k = q) _ W1 := frq F1
  have hQ1 := Ps.keepN hP0 F1
  have g1 := g0.same f1
  have s1 := f1.size
  have t1 := g1.size
  have hP1 : Hidden (Ps W1 q (t :: r) 0 true) := hQ1
  clear hQ1
  simp only [World.size_alloc] at s1
  have hb0_1 : Hidden (W1.heap[w.heap.size]? = some (de0)) := f1.heap hb0 (by omega)
  clear hx
  have fab1 := Fr.alloc (fun _ => False) W1 (.cells #[ci 0, .bool false, .string ⟨#[]⟩, ci 0, .slice none 0 0, .slice none 0 0, .slice none 0 0] 50)
  have gb1 : Fr (fun k => k = q) w (W1.alloc (.cells #[ci 0, .bool false, .string ⟨#[]⟩, ci 0, .slice none 0 0, .slice none 0 0, .slice none 0 0] 50)) := g1.same (frq fab1)
  have hPb1 : Hidden (Ps (W1.alloc (.cells #[ci 0, .bool false, .string ⟨#[]⟩, ci 0, .slice none 0 0, .slice none 0 0, .slice none 0 0] 50)) q (t :: r) 0 true) := Ps.keepN hP1 fab1
  have hnb1 : Hidden ((W1.alloc (.cells #[ci 0, .bool false, .string ⟨#[]⟩, ci 0, .slice none 0 0, .slice none 0 0, .slice none 0 0] 50)).heap[W1.heap.size]? = some (.cells #[ci 0, .bool false, .string ⟨#[]⟩, ci 0, .slice none 0 0, .slice none 0 0, .slice none 0 0] 50)) := alloc_new _ _
  have hb0_b1 : Hidden ((W1.alloc (.cells #[ci 0, .bool false, .string ⟨#[]⟩, ci 0, .slice none 0 0, .slice none 0 0, .slice none 0 0] 50)).heap[w.heap.size]? = some (de0)) := fab1.heap hb0_1 (fun f => f)
  go_wp2_with fail
  go_at_call 80
  refine (has_no q [99, 111, 110, 115, 116] t r 0 true hn0 _ hPb1).mono ?_
  rintro e W2 ⟨rfl, F2⟩
  have f2 : Fr (fun k => k = q) _ W2 := frq F2
  have hQ2 := Ps.keepN hPb1 F2
  have g2 := gb1.same f2
  have s2 := f2.size
  have t2 := g2.size
  have hP2 : Hidden (Ps W2 q (t :: r) 0 true) := hQ2
  clear hQ2
  simp only [World.size_alloc] at s2
  have hb0_2 : Hidden (W2.heap[w.heap.size]? = some (de0)) := f2.heap hb0_b1 (by omega)
  have hb1_2 : Hidden (W2.heap[W1.heap.size]? = some (.cells #[ci 0, .bool false, .string ⟨#[]⟩, ci 0, .slice none 0 0, .slice none 0 0, .slice none 0 0] 50)) := f2.heap hnb1 (by omega)
  clear hn0
  go_wp2_with fail
  go_at_call 80
  refine (has_full q [118, 97, 114] t r 0 hy _ hP2).mono ?_
  rintro e W3 ⟨rfl, f3⟩
  unfold gP
  go_wp2_with fail
  exact ⟨rfl, rfl, g2.same f3⟩

set_option maxRecDepth 20000 in
set_option maxHeartbeats 1000000 in
theorem dcl_fn (g : Nat) (hg : g ≤ 3000) (q : Nat) (t : Tok) (r : List Tok) (fl : Bool) (rs : Pz.Rs De) (hfl : fl = false) (hx : t.x ≠ [101, 120, 112, 111, 114, 116]) (hn0 : t.x ≠ [99, 111, 110, 115, 116]) (hn1 : t.x ≠ [118, 97, 114]) (hy : t.x = [102, 110]) (hs : Hidden (Pz.dcl E B g fl (t :: r) = some rs)) (w : World) (h : Ps w q (t :: r) 0 fl) :
    Calls Tryz.prog 51 #[pp q] w (Out TD q 0 w rs) := by
  subst hfl
  have hs1 : Pz.dcl E B g false (t :: r) = some rs := hs
  rw [Pz.dcl, if_neg hx, Pz.dcl2, if_neg hn0, if_neg (fun h => hn1 h.2), if_pos hy] at hs1
  rw [if_neg (by simp)] at hs1
  replace hs : Hidden (Pz.fnc B g false r = some rs) := hs1
  clear hs1
  have hq := h.lt
  have f0 := Fr.alloc (fun _ => False) w de0
  have g0 : Fr (fun k => k = q) w (w.alloc de0) := frq f0
  have hP0 : Hidden (Ps (w.alloc de0) q (t :: r) 0 false) := h.keepN f0
  have hb0 : Hidden ((w.alloc de0).heap[w.heap.size]? = some de0) := alloc_new _ _
  clear h
  go_enter Tryz.func51, Tryz.ntmps51
  go_wp2_with fail
  go_at_call 80
  refine (has_no q [101, 120, 112, 111, 114, 116] t r 0 false hx _ hP0).mono ?_
  rintro e W1 ⟨rfl, F1⟩
  have f1 : Fr (fun k => k = q) _ W1 := frq F1
  have hQ1 := Ps.keepN hP0 F1
  have g1 := g0.same f1
  have s1 := f1.size
  have t1 := g1.size
  have hP1 : Hidden (Ps W1 q (t :: r) 0 false) := hQ1
  clear hQ1
  simp only [World.size_alloc] at s1
  have hb0_1 : Hidden (W1.heap[w.heap.size]? = some (de0)) := f1.heap hb0 (by omega)
  clear hx
  have fab1 := Fr.alloc (fun _ => False) W1 (.cells #[ci 0, .bool false, .string ⟨#[]⟩, ci 0, .slice none 0 0, .slice none 0 0, .slice none 0 0] 50)
  have gb1 : Fr (fun k => k = q) w (W1.alloc (.cells #[ci 0, .bool false, .string ⟨#[]⟩, ci 0, .slice none 0 0, .slice none 0 0, .slice none 0 0] 50)) := g1.same (frq fab1)
  have hPb1 : Hidden (Ps (W1.alloc (.cells #[ci 0, .bool false, .string ⟨#[]⟩, ci 0, .slice none 0 0, .slice none 0 0, .slice none 0 0] 50)) q (t :: r) 0 false) := Ps.keepN hP1 fab1
  have hnb1 : Hidden ((W1.alloc (.cells #[ci 0, .bool false, .string ⟨#[]⟩, ci 0, .slice none 0 0, .slice none 0 0, .slice none 0 0] 50)).heap[W1.heap.size]? = some (.cells #[ci 0, .bool false, .string ⟨#[]⟩, ci 0, .slice none 0 0, .slice none 0 0, .slice none 0 0] 50)) := alloc_new _ _
  have hb0_b1 : Hidden ((W1.alloc (.cells #[ci 0, .bool false, .string ⟨#[]⟩, ci 0, .slice none 0 0, .slice none 0 0, .slice none 0 0] 50)).heap[w.heap.size]? = some (de0)) := fab1.heap hb0_1 (fun f => f)
  go_wp2_with fail
  go_at_call 80
  refine (has_no q [99, 111, 110, 115, 116] t r 0 false hn0 _ hPb1).mono ?_
  rintro e W2 ⟨rfl, F2⟩
  have f2 : Fr (fun k => k = q) _ W2 := frq F2
  have hQ2 := Ps.keepN hPb1 F2
  have g2 := gb1.same f2
  have s2 := f2.size
  have t2 := g2.size
  have hP2 : Hidden (Ps W2 q (t :: r) 0 false) := hQ2
  clear hQ2
  simp only [World.size_alloc] at s2
  have hb0_2 : Hidden (W2.heap[w.heap.size]? = some (de0)) := f2.heap hb0_b1 (by omega)
  have hb1_2 : Hidden (W2.heap[W1.heap.size]? = some (.cells #[ci 0, .bool false, .string ⟨#[]⟩, ci 0, .slice none 0 0, .slice none 0 0, .slice none 0 0] 50)) := f2.heap hnb1 (by omega)
  clear hn0
  go_wp2_with fail
  go_at_call 80
  refine (has_no q [118, 97, 114] t r 0 false hn1 _ hP2).mono ?_
  rintro e W3 ⟨rfl, F3⟩
  have f3 : Fr (fun k => k = q) _ W3 := frq F3
  have hQ3 := Ps.keepN hP2 F3
  have g3 := g2.same f3
  have s3 := f3.size
  have t3 := g3.size
  have hP3 : Hidden (Ps W3 q (t :: r) 0 false) := hQ3
  clear hQ3
  have hb0_3 : Hidden (W3.heap[w.heap.size]? = some (de0)) := f3.heap hb0_2 (by omega)
  have hb1_3 : Hidden (W3.heap[W1.heap.size]? = some (.cells #[ci 0, .bool false, .string ⟨#[]⟩, ci 0, .slice none 0 0, .slice none 0 0, .slice none 0 0] 50)) := f3.heap hb1_2 (by omega)
  clear hn1
  go_wp2_with fail
  go_at_call 80
  refine (has_yes q [102, 110] t r 0 hy _ hP3).mono ?_
  rintro e W4 ⟨rfl, hQ4, f4⟩
  have g4 := g3.same f4
  have s4 := f4.size
  have t4 := g4.size
  have hP4 : Hidden (Ps W4 q r 0 false) := hQ4
  clear hQ4
  have hb0_4 : Hidden (W4.heap[w.heap.size]? = some (de0)) := f4.heap hb0_3 (by omega)
  have hb1_4 : Hidden (W4.heap[W1.heap.size]? = some (.cells #[ci 0, .bool false, .string ⟨#[]⟩, ci 0, .slice none 0 0, .slice none 0 0, .slice none 0 0] 50)) := f4.heap hb1_3 (by omega)
  clear hy
  obtain ⟨b1c0, b1c1, b1c2, b1c3, b1c4, b1c5, b1c6, b1z0, b1z1, b1z2, b1z3, b1z4, b1z5, b1z6⟩ := box7 hb1_4
  go_upto_region 12 with fail
  have f5 := Fr.put W4 (W1.heap.size) 0 (ci 3)
  have hbb1_5 : (W4.setCell ⟨W1.heap.size, 0, none⟩ (ci 3)).heap[W1.heap.size]? = some (.cells #[ci 3, .bool false, .string ⟨#[]⟩, ci 0, .slice none 0 0, .slice none 0 0, .slice none 0 0] 50) := heap_setCell_same _ _ 0 _ _ _ hb1_4
  have hob0_5 : (W4.setCell ⟨W1.heap.size, 0, none⟩ (ci 3)).heap[w.heap.size]? = some (de0) := f5.heap hb0_4 (by omega)
  have hP5 : Hidden (Ps (W4.setCell ⟨W1.heap.size, 0, none⟩ (ci 3)) q r 0 false) := Ps.high hP4 f5 (fun k hk => by subst hk; omega)
  have g5 : Fr (fun k => k = q) w (W4.setCell ⟨W1.heap.size, 0, none⟩ (ci 3)) := g4.over f5 (fun k hk => by subst hk; omega)
  have t5 := g5.size
  have s5 := f5.size
  generalize (W4.setCell ⟨W1.heap.size, 0, none⟩ (ci 3)) = W5 at f5 hbb1_5 hob0_5 hP5 g5 t5 s5  ⊢
  clear b1c0 b1c1 b1c2 b1c3 b1c4 b1c5 b1c6 b1z0 b1z1 b1z2 b1z3 b1z4 b1z5 b1z6
  have hhb0_5 : Hidden (W5.heap[w.heap.size]? = some (de0)) := hob0_5
  clear hob0_5
  have hhb1_5 : Hidden (W5.heap[W1.heap.size]? = some (.cells #[ci 3, .bool false, .string ⟨#[]⟩, ci 0, .slice none 0 0, .slice none 0 0, .slice none 0 0] 50)) := hbb1_5
  clear hbb1_5
  go_wp2_with fail
  go_at_call 82
  refine (fnc_c hB g hg q W1.heap.size (by omega) false r 0 rfl rs hs _ hP5 hhb1_5).mono ?_
  rcases rs with ⟨x, ts6⟩ | ⟨p, c⟩
  rotate_left
  · rintro e W6 ⟨rfl, f6⟩
    unfold gP
    go_wp2_with fail
    exact ⟨rfl, rfl, g5.trans f6 (fun k hk hs => by rcases hs with hs | hs <;> omega)⟩
  rintro e W6 ⟨pv, ev, bv, rfl, hz6, hN, hQ6, f6⟩
  have g6 : Fr (fun k => k = q) w W6 := g5.trans f6 (fun k hk hs => by rcases hs with hs | hs <;> omega)
  have s6 := f6.size
  have hb0f : Hidden (W6.heap[w.heap.size]? = some de0) := f6.heap hhb0_5 (by omega)
  have hzH : Hidden (W6.heap[W1.heap.size]? = some (.cells #[ci x.kind, .bool x.ex, ct x.name, ci x.type, pv, ev, bv] 50 (0, 0))) := hz6
  have hQH : Hidden (Ps W6 q ts6 0 false) := hQ6
  clear hz6 hQ6
  obtain ⟨a1, p1, a2, p2, a3, p3, rfl, rfl, rfl, _⟩ := hN.now
  obtain ⟨ac0, ac1, ac2, ac3, ac4, ac5, ac6, az0, az1, az2, az3, az4, az5, az6⟩ := box7 hb0f
  obtain ⟨bc0, bc1, bc2, bc3, bc4, bc5, bc6, bz0, bz1, bz2, bz3, bz4, bz5, bz6⟩ := box7 hzH
  go_wp2_with fail
  have fs := set7_fr W6 w.heap.size (ci x.kind) (.bool x.ex) (ct x.name) (ci x.type) (.slice a1 x.params.length p1) (.slice a2 x.e.len p2) (.slice a3 x.body.len p3)
  exact post_de hb0f rfl rfl rfl ⟨_, rfl, ⟨_, _, _, rfl, (hN.step fs (fun k hk => by subst hk; omega)).weak (by omega)⟩, Ps.high hQH fs (fun k hk => by subst hk; exact hq), g6.over fs (fun k hk => by subst hk; exact Nat.le_refl _)⟩

set_option maxRecDepth 20000 in
set_option maxHeartbeats 1000000 in
theorem dcl_fn_full (g : Nat) (hg : g ≤ 3000) (q : Nat) (t : Tok) (r : List Tok) (fl : Bool) (rs : Pz.Rs De) (hfl : fl = true) (hx : t.x ≠ [101, 120, 112, 111, 114, 116]) (hn0 : t.x ≠ [99, 111, 110, 115, 116]) (hn1 : t.x ≠ [118, 97, 114]) (hy : t.x = [102, 110]) (hs : Hidden (Pz.dcl E B g fl (t :: r) = some rs)) (w : World) (h : Ps w q (t :: r) 0 fl) :
    Calls Tryz.prog 51 #[pp q] w (Out TD q 0 w rs) := by
  subst hfl
  have hs1 : Pz.dcl E B g true (t :: r) = some rs := hs
  rw [Pz.dcl, if_neg hx, Pz.dcl2, if_neg hn0, if_neg (fun h => hn1 h.2), if_pos hy] at hs1
  rw [if_pos rfl] at hs1
  obtain rfl : rs = .er t.p 3 := (Option.some.inj hs1).symm
  clear hs hs1
  have hq := h.lt
  have f0 := Fr.alloc (fun _ => False) w de0
  have g0 : Fr (fun k => k = q) w (w.alloc de0) := frq f0
  have hP0 : Hidden (Ps (w.alloc de0) q (t :: r) 0 true) := h.keepN f0
  have hb0 : Hidden ((w.alloc de0).heap[w.heap.size]? = some de0) := alloc_new _ _
  clear h
  go_enter Tryz.func51, Tryz.ntmps51
  go_wp2_with fail
  go_at_call 80
  refine (has_no q [101, 120, 112, 111, 114, 116] t r 0 true hx _ hP0).mono ?_
  rintro e W1 ⟨rfl, F1⟩
  have f1 : Fr (fun k => k = q) _ W1 := frq F1
  have hQ1 := Ps.keepN hP0 F1
  have g1 := g0.same f1
  have s1 := f1.size
  have t1 := g1.size
  have hP1 : Hidden (Ps W1 q (t :: r) 0 true) := hQ1
  clear hQ1
  simp only [World.size_alloc] at s1
  have hb0_1 : Hidden (W1.heap[w.heap.size]? = some (de0)) := f1.heap hb0 (by omega)
  clear hx
  have fab1 := Fr.alloc (fun _ => False) W1 (.cells #[ci 0, .bool false, .string ⟨#[]⟩, ci 0, .slice none 0 0, .slice none 0 0, .slice none 0 0] 50)
  have gb1 : Fr (fun k => k = q) w (W1.alloc (.cells #[ci 0, .bool false, .string ⟨#[]⟩, ci 0, .slice none 0 0, .slice none 0 0, .slice none 0 0] 50)) := g1.same (frq fab1)
  have hPb1 : Hidden (Ps (W1.alloc (.cells #[ci 0, .bool false, .string ⟨#[]⟩, ci 0, .slice none 0 0, .slice none 0 0, .slice none 0 0] 50)) q (t :: r) 0 true) := Ps.keepN hP1 fab1
  have hnb1 : Hidden ((W1.alloc (.cells #[ci 0, .bool false, .string ⟨#[]⟩, ci 0, .slice none 0 0, .slice none 0 0, .slice none 0 0] 50)).heap[W1.heap.size]? = some (.cells #[ci 0, .bool false, .string ⟨#[]⟩, ci 0, .slice none 0 0, .slice none 0 0, .slice none 0 0] 50)) := alloc_new _ _
  have hb0_b1 : Hidden ((W1.alloc (.cells #[ci 0, .bool false, .string ⟨#[]⟩, ci 0, .slice none 0 0, .slice none 0 0, .slice none 0 0] 50)).heap[w.heap.size]? = some (de0)) := fab1.heap hb0_1 (fun f => f)
  go_wp2_with fail
  go_at_call 80
  refine (has_no q [99, 111, 110, 115, 116] t r 0 true hn0 _ hPb1).mono ?_
  rintro e W2 ⟨rfl, F2⟩
  have f2 : Fr (fun k => k = q) _ W2 := frq F2
  have hQ2 := Ps.keepN hPb1 F2
  have g2 := gb1.same f2
  have s2 := f2.size
  have t2 := g2.size
  have hP2 : Hidden (Ps W2 q (t :: r) 0 true) := hQ2
  clear hQ2
  simp only [World.size_alloc] at s2
  have hb0_2 : Hidden (W2.heap[w.heap.size]? = some (de0)) := f2.heap hb0_b1 (by omega)
  have hb1_2 : Hidden (W2.heap[W1.heap.size]? = some (.cells #[ci 0, .bool false, .string ⟨#[]⟩, ci 0, .slice none 0 0, .slice none 0 0, .slice none 0 0] 50)) := f2.heap hnb1 (by omega)
  clear hn0
  go_wp2_with fail
  go_at_call 80
  refine (has_no q [118, 97, 114] t r 0 true hn1 _ hP2).mono ?_
  rintro e W3 ⟨rfl, F3⟩
  have f3 : Fr (fun k => k = q) _ W3 := frq F3
  have hQ3 := Ps.keepN hP2 F3
  have g3 := g2.same f3
  have s3 := f3.size
  have t3 := g3.size
  have hP3 : Hidden (Ps W3 q (t :: r) 0 true) := hQ3
  clear hQ3
  have hb0_3 : Hidden (W3.heap[w.heap.size]? = some (de0)) := f3.heap hb0_2 (by omega)
  have hb1_3 : Hidden (W3.heap[W1.heap.size]? = some (.cells #[ci 0, .bool false, .string ⟨#[]⟩, ci 0, .slice none 0 0, .slice none 0 0, .slice none 0 0] 50)) := f3.heap hb1_2 (by omega)
  clear hn1
  go_wp2_with fail
  go_at_call 80
  refine (has_full q [102, 110] t r 0 hy _ hP3).mono ?_
  rintro e W4 ⟨rfl, f4⟩
  unfold gP
  go_wp2_with fail
  exact ⟨rfl, rfl, g3.same f4⟩

set_option maxRecDepth 20000 in
set_option maxHeartbeats 1000000 in
theorem dcl_else (g : Nat) (hg : g ≤ 3000) (q : Nat) (t : Tok) (r : List Tok) (fl : Bool) (rs : Pz.Rs De) (hx : t.x ≠ [101, 120, 112, 111, 114, 116]) (hn0 : t.x ≠ [99, 111, 110, 115, 116]) (hn1 : t.x ≠ [118, 97, 114]) (hn2 : t.x ≠ [102, 110]) (hs : Hidden (Pz.dcl E B g fl (t :: r) = some rs)) (w : World) (h : Ps w q (t :: r) 0 fl) :
    Calls Tryz.prog 51 #[pp q] w (Out TD q 0 w rs) := by
  have hs1 : Pz.dcl E B g fl (t :: r) = some rs := hs
  rw [Pz.dcl, if_neg hx, Pz.dcl2, if_neg hn0, if_neg (fun h => hn1 h.2), if_neg hn2] at hs1
  obtain rfl : rs = .er t.p 11 := (Option.some.inj hs1).symm
  clear hs hs1
  have hq := h.lt
  have f0 := Fr.alloc (fun _ => False) w de0
  have g0 : Fr (fun k => k = q) w (w.alloc de0) := frq f0
  have hP0 : Hidden (Ps (w.alloc de0) q (t :: r) 0 fl) := h.keepN f0
  have hb0 : Hidden ((w.alloc de0).heap[w.heap.size]? = some de0) := alloc_new _ _
  clear h
  go_enter Tryz.func51, Tryz.ntmps51
  go_wp2_with fail
  go_at_call 80
  refine (has_no q [101, 120, 112, 111, 114, 116] t r 0 fl hx _ hP0).mono ?_
  rintro e W1 ⟨rfl, F1⟩
  have f1 : Fr (fun k => k = q) _ W1 := frq F1
  have hQ1 := Ps.keepN hP0 F1
  have g1 := g0.same f1
  have s1 := f1.size
  have t1 := g1.size
  have hP1 : Hidden (Ps W1 q (t :: r) 0 fl) := hQ1
  clear hQ1
  simp only [World.size_alloc] at s1
  have hb0_1 : Hidden (W1.heap[w.heap.size]? = some (de0)) := f1.heap hb0 (by omega)
  clear hx
  have fab1 := Fr.alloc (fun _ => False) W1 (.cells #[ci 0, .bool false, .string ⟨#[]⟩, ci 0, .slice none 0 0, .slice none 0 0, .slice none 0 0] 50)
  have gb1 : Fr (fun k => k = q) w (W1.alloc (.cells #[ci 0, .bool false, .string ⟨#[]⟩, ci 0, .slice none 0 0, .slice none 0 0, .slice none 0 0] 50)) := g1.same (frq fab1)
  have hPb1 : Hidden (Ps (W1.alloc (.cells #[ci 0, .bool false, .string ⟨#[]⟩, ci 0, .slice none 0 0, .slice none 0 0, .slice none 0 0] 50)) q (t :: r) 0 fl) := Ps.keepN hP1 fab1
  have hnb1 : Hidden ((W1.alloc (.cells #[ci 0, .bool false, .string ⟨#[]⟩, ci 0, .slice none 0 0, .slice none 0 0, .slice none 0 0] 50)).heap[W1.heap.size]? = some (.cells #[ci 0, .bool false, .string ⟨#[]⟩, ci 0, .slice none 0 0, .slice none 0 0, .slice none 0 0] 50)) := alloc_new _ _
  have hb0_b1 : Hidden ((W1.alloc (.cells #[ci 0, .bool false, .string ⟨#[]⟩, ci 0, .slice none 0 0, .slice none 0 0, .slice none 0 0] 50)).heap[w.heap.size]? = some (de0)) := fab1.heap hb0_1 (fun f => f)
  go_wp2_with fail
  go_at_call 80
  refine (has_no q [99, 111, 110, 115, 116] t r 0 fl hn0 _ hPb1).mono ?_
  rintro e W2 ⟨rfl, F2⟩
  have f2 : Fr (fun k => k = q) _ W2 := frq F2
  have hQ2 := Ps.keepN hPb1 F2
  have g2 := gb1.same f2
  have s2 := f2.size
  have t2 := g2.size
  have hP2 : Hidden (Ps W2 q (t :: r) 0 fl) := hQ2
  clear hQ2
  simp only [World.size_alloc] at s2
  have hb0_2 : Hidden (W2.heap[w.heap.size]? = some (de0)) := f2.heap hb0_b1 (by omega)
  have hb1_2 : Hidden (W2.heap[W1.heap.size]? = some (.cells #[ci 0, .bool false, .string ⟨#[]⟩, ci 0, .slice none 0 0, .slice none 0 0, .slice none 0 0] 50)) := f2.heap hnb1 (by omega)
  clear hn0
  go_wp2_with fail
  go_at_call 80
  refine (has_no q [118, 97, 114] t r 0 fl hn1 _ hP2).mono ?_
  rintro e W3 ⟨rfl, F3⟩
  have f3 : Fr (fun k => k = q) _ W3 := frq F3
  have hQ3 := Ps.keepN hP2 F3
  have g3 := g2.same f3
  have s3 := f3.size
  have t3 := g3.size
  have hP3 : Hidden (Ps W3 q (t :: r) 0 fl) := hQ3
  clear hQ3
  have hb0_3 : Hidden (W3.heap[w.heap.size]? = some (de0)) := f3.heap hb0_2 (by omega)
  have hb1_3 : Hidden (W3.heap[W1.heap.size]? = some (.cells #[ci 0, .bool false, .string ⟨#[]⟩, ci 0, .slice none 0 0, .slice none 0 0, .slice none 0 0] 50)) := f3.heap hb1_2 (by omega)
  clear hn1
  go_wp2_with fail
  go_at_call 80
  refine (has_no q [102, 110] t r 0 fl hn2 _ hP3).mono ?_
  rintro e W4 ⟨rfl, F4⟩
  have f4 : Fr (fun k => k = q) _ W4 := frq F4
  have hQ4 := Ps.keepN hP3 F4
  have g4 := g3.same f4
  have s4 := f4.size
  have t4 := g4.size
  have hP4 : Hidden (Ps W4 q (t :: r) 0 fl) := hQ4
  clear hQ4
  have hb0_4 : Hidden (W4.heap[w.heap.size]? = some (de0)) := f4.heap hb0_3 (by omega)
  have hb1_4 : Hidden (W4.heap[W1.heap.size]? = some (.cells #[ci 0, .bool false, .string ⟨#[]⟩, ci 0, .slice none 0 0, .slice none 0 0, .slice none 0 0] 50)) := f4.heap hb1_3 (by omega)
  clear hn2
  go_wp2_with fail
  go_at_call 52
  refine (fault_any q 11 t r 0 fl _ hP4).mono ?_
  rintro e W5 ⟨rfl, F5⟩
  have f5 : Fr (fun k => k = q) _ W5 := frq F5
  have hQ5 := Ps.keepN hP4 F5
  have g5 := g4.same f5
  have s5 := f5.size
  have t5 := g5.size
  have hP5 : Hidden (Ps W5 q (t :: r) 0 fl) := hQ5
  clear hQ5
  have hb0_5 : Hidden (W5.heap[w.heap.size]? = some (de0)) := f5.heap hb0_4 (by omega)
  have hb1_5 : Hidden (W5.heap[W1.heap.size]? = some (.cells #[ci 0, .bool false, .string ⟨#[]⟩, ci 0, .slice none 0 0, .slice none 0 0, .slice none 0 0] 50)) := f5.heap hb1_4 (by omega)
  (try unfold Out gP)
  go_wp2_with fail
  exact ⟨rfl, rfl, g5⟩

/-- decl. -/
theorem dcl_c (g : Nat) (hg : g ≤ 3000) (q : Nat) (ts : List Tok) (fl : Bool) (rs : Pz.Rs De) (hs : Hidden (Pz.dcl E B g fl ts = some rs)) (w : World) (h : Ps w q ts 0 fl) :
    Calls Tryz.prog 51 #[pp q] w (Out TD q 0 w rs) := by
  cases ts with
  | nil => exact absurd hs (by simp [Hidden, Pz.dcl])
  | cons t r =>
    by_cases hx : t.x = [101, 120, 112, 111, 114, 116]
    · cases fl
      · cases r with
        | nil =>
          have hs1 : Pz.dcl E B g false [t] = some rs := hs
          rw [Pz.dcl, if_pos hx, if_neg (by simp), Pz.dcl2] at hs1
          cases hs1
        | cons u us =>
          by_cases h1 : u.x = [99, 111, 110, 115, 116]
          · exact dcl_ex_const hE hB g hg q t _ false rs u us rfl rfl hx h1 hs w h
          by_cases h2 : u.x = [102, 110]
          · exact dcl_ex_fn hE hB g hg q t _ false rs u us rfl rfl hx h1 h2 hs w h
          exact dcl_ex_else hE hB g hg q t _ false rs u us rfl rfl hx h1 h2 hs w h
      · exact dcl_full hE hB g hg q t r true rs rfl hx hs w h
    by_cases h1 : t.x = [99, 111, 110, 115, 116]
    · cases fl
      · exact dcl_const hE hB g hg q t r false rs rfl hx h1 hs w h
      · exact dcl_const_full hE hB g hg q t r true rs rfl hx h1 hs w h
    by_cases h2 : t.x = [118, 97, 114]
    · cases fl
      · exact dcl_var hE hB g hg q t r false rs rfl hx h1 h2 hs w h
      · exact dcl_var_full hE hB g hg q t r true rs rfl hx h1 h2 hs w h
    by_cases h3 : t.x = [102, 110]
    · cases fl
      · exact dcl_fn hE hB g hg q t r false rs rfl hx h1 h2 h3 hs w h
      · exact dcl_fn_full hE hB g hg q t r true rs rfl hx h1 h2 h3 hs w h
    exact dcl_else hE hB g hg q t r fl rs hx h1 h2 h3 hs w h
end

theorem info_moreD : (Tryz.prog.info? 50).map (fun i => (i.zero, i.size, i.bytes)) = some (some (.agg #[.int .i64 0, .bool false, .string ⟨#[]⟩, .int .i64 0, .slice none 0 0, .slice none 0 0, .slice none 0 0]), 7, 112) := by kernel_rfl
set_option maxRecDepth 20000 in
set_option maxHeartbeats 1000000 in
theorem moreD_c (q B : Nat) (v : Value) (l : List De) (most : Int) (ts : List Tok) (d : Nat) (fl fl' : Bool) (rs : Pz.Rs De) (w : World) (hfl : ((l.length : Int) == most) = fl') (hl : l.length ≤ 4000) (hr0 : Row RD 50 7 w B v l) (hqB : q < B) (hB : B ≤ w.heap.size)
    (k1 : ∀ w1, Ps w1 q ts d fl' → Calls Tryz.prog 51 #[pp q] w1 (Out TD q d w1 rs)) (h : Ps w q ts d fl) :
    Calls Tryz.prog 50 #[pp q, v, ci most, .func (.func 51) #[] #[]] w (OutR RD 50 7 q d B v l w rs) := by
  have hq := h.lt
  obtain ⟨aor, capr, rfl, hlen, hcap⟩ := hr0.shape
  have hcap2 : capr ≤ 9223372036854775807 := by unfold maxLen at hcap; omega
  obtain ⟨c2, z2⟩ := h.fullC
  have hP1 : Hidden (Ps (w.setCell ⟨q, 2, none⟩ (.bool fl')) q ts d fl') := h.setFull fl'
  have fq := Fr.put w q 2 (.bool fl')
  have hr1 : Hidden (Row RD 50 7 (w.setCell ⟨q, 2, none⟩ (.bool fl')) B (.slice aor l.length capr) l) := hr0.keep fq (fun k hk => by subst hk; exact hqB)
  have k2 := k1 _ hP1
  have hsz : (w.setCell ⟨q, 2, none⟩ (.bool fl')).heap.size = w.heap.size := by simp
  have hszH : Hidden ((w.setCell ⟨q, 2, none⟩ (.bool fl')).heap.size = w.heap.size) := hsz
  clear h k1 hsz
  go_enter Tryz.func50, Tryz.ntmps50
  go_wp2_with fail
  go_at_call 51
  refine k2.mono ?_
  rcases rs with ⟨x, ts1⟩ | ⟨p, c⟩
  rotate_left
  · rintro e W1 ⟨rfl, f1⟩
    unfold gP
    go_wp2_with fail
    exact ⟨rfl, rfl, fq.same f1⟩
  rintro e W1 ⟨v1, rfl, ⟨pv, ev, bv, rfl, hN⟩, hQ1, f1⟩
  have s1 : w.heap.size ≤ W1.heap.size := by have := f1.size; rw [show _ = w.heap.size from hszH] at this; exact this
  rw [show _ = w.heap.size from hszH] at hN
  have hr2 : Hidden (Row RD 50 7 W1 B (.slice aor l.length capr) l) := Row.keep hr1 f1 (fun k hk => by subst hk; exact hqB)
  have hQH : Hidden (Ps W1 q ts1 d false) := hQ1
  have fa := Fr.alloc (fun _ => False) W1 (.cells #[ci x.kind, .bool x.ex, ct x.name, ci x.type, pv, ev, bv] 50)
  clear hQ1
  go_wp2_with (at_builtin
               go_must (refine wpList_row (R := RD) rfl _ _ 42 50 _ 7 112 Tryz.underlying42 info_moreD rfl (by decide) rfl B (.slice aor l.length capr) l x (deC x pv ev bv) ⟨W1.heap.size, 0, none⟩ 1 rfl ?c0 rfl rfl ?c1 ?c2 ?c3 hl (by decide) ?c4 ?_)
               case c0 => go_must (exact Row.keep hr2 fa (fun _ f => f.elim))
               case c1 => go_must (exact fun j u hu => by rw [add0, cell_of_row _ _ j _ _ _ (alloc_new _ _)]; simpa [exC, paC, deC] using hu)
               case c2 => go_must (exact fun u hu => by simp only [exC, paC, deC, List.mem_cons, List.not_mem_nil, or_false] at hu; obtain ⟨a1, p1, a2, p2, a3, p3, rfl, rfl, rfl, _⟩ := hN.now; rcases hu with rfl | rfl | rfl | rfl | rfl | rfl | rfl <;> rfl)
               case c3 => go_must (exact fun w' hf => ⟨pv, ev, bv, rfl, (hN.step fa (fun _ f => f.elim)) w' (hf.mono (fun k _ hk => by rcases hk with hk | hk; (omega); (have := (hr0.own k hk).2; omega)))⟩)
               case c4 => go_must (simp; omega)
               intro v2 W2 hr3 f3)
  go_ret
  have fall : Fr (fun k => k = q ∨ Value.ownBlock (.slice aor l.length capr) = some k) w W2 := (((fq.same f1).same (frq fa)).mono (fun k _ hk => Or.inl hk)).same (f3.mono (fun k _ hk => Or.inr hk))
  exact ⟨_, rfl, hr3, (Ps.keepN hQH fa).high f3 (fun k hk => by have := (hr0.own k hk).1; omega), fall⟩

end Go.Proofs.YtpkaekokkhecmaaGreatDoor
