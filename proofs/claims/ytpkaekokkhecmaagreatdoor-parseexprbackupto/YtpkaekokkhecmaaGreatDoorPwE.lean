/- The program's parser: primaries. -/
import Derived.Test.YtpkaekokkhecmaaGreatDoorPwD
namespace Go.Proofs.YtpkaekokkhecmaaGreatDoor
open Go.RowKit Lx Te
set_option linter.unusedSimpArgs false
set_option linter.unusedVariables false
set_option linter.unusedSectionVars false

theorem Tq.now {q : Nat} {w : World} (h : Tq q w) : F.Tab w := h w (Fr.refl _ _)
theorem parse_inf : F.parseS [105, 110, 102] = (9218868437227405312, 0) := by decide +kernel
theorem parse_nan : F.parseS [110, 97, 110] = (9221120237041090561, 0) := by decide +kernel
section
variable {E : Bool → Nat → List Tok → Pz.Ou Pz.Ex} (hE : CE E)
include hE

set_option maxRecDepth 20000 in
set_option maxHeartbeats 1000000 in
theorem pr_lit3 (g : Nat) (hg : g ≤ 3000) (q : Nat) (t : Tok) (r : List Tok) (d : Nat) (hd : d ≤ 32) (fl : Bool) (rs : Pz.Rs Pz.Ex) (hk : t.k = 3) (hs : Hidden (Pz.pr E g fl d (t :: r) = some rs)) (w : World) (h : Ps w q (t :: r) d fl) :
    Calls Tryz.prog 84 #[pp q] w (Out TE q d w rs) := by
  have hf0 := fld0
  have hf1 := fld1
  have hf2 := fld2
  have k3 : ((t.k : Int) == 3) = true := by rw [hk]; rfl
  have k4 : ((t.k : Int) == 4) = false := by rw [hk]; rfl
  have hs1 : Pz.pr E g fl d (t :: r) = some rs := hs
  rw [Pz.pr, if_pos (by omega)] at hs1
  cases fl
  · skip
    obtain rfl : rs = .ok (Pz.lit t.ty t.b) r := by simpa using hs1.symm
    clear hs hs1 hk
    have hq := h.lt
    have f0 := Fr.alloc (fun _ => False) w ex0
    have g0 : Fr (fun k => k = q) w (w.alloc ex0) := frq f0
    have hP0 : Hidden (Ps (w.alloc ex0) q (t :: r) d false) := h.keepN f0
    have hb0 : Hidden ((w.alloc ex0).heap[w.heap.size]? = some ex0) := alloc_new _ _
    clear h
    go_enter Tryz.func84, Tryz.ntmps84
    go_wp2_with fail
    go_at_call 55
    refine (next_any q t r d false _ hP0).mono ?_
    rintro e W1 ⟨rfl, F1⟩
    have f1 : Fr (fun k => k = q) _ W1 := frq F1
    have hQ1 := Ps.keepN hP0 F1
    have g1 := g0.same f1
    have s1 := f1.size
    have t1 := g1.size
    have hP1 : Hidden (Ps W1 q (t :: r) d false) := hQ1
    clear hQ1
    simp only [World.size_alloc] at s1
    have hb0_1 : Hidden (W1.heap[w.heap.size]? = some (ex0)) := f1.heap hb0 (by omega)
    go_wp2_with fail
    go_at_call 56
    refine (take_ok q t r d _ hP1).mono ?_
    rintro e W2 ⟨rfl, hQ2, f2⟩
    have g2 := g1.same f2
    have s2 := f2.size
    have t2 := g2.size
    have hP2 : Hidden (Ps W2 q r d false) := hQ2
    clear hQ2
    have hb0_2 : Hidden (W2.heap[w.heap.size]? = some (ex0)) := f2.heap hb0_1 (by omega)
    go_wp2_with fail
    go_at_call 105
    refine (lit_c t.ty t.b _).mono ?_
    rintro e W3 ⟨v, rfl, ⟨ao, cap, rfl, hN⟩, F3⟩
    have f3 : Fr (fun k => k = q) _ W3 := frq F3
    have hQ3 := Ps.keepN hP2 F3
    have g3 := g2.same f3
    have s3 := f3.size
    have t3 := g3.size
    have hP3 : Hidden (Ps W3 q r d false) := hQ3
    clear hQ3
    have hb0_3 : Hidden (W3.heap[w.heap.size]? = some (ex0)) := f3.heap hb0_2 (by omega)
    obtain ⟨b0c0, b0c1, b0c2, b0c3, b0c4, b0c5, b0c6, b0z0, b0z1, b0z2, b0z3, b0z4, b0z5, b0z6⟩ := box7 hb0_3
    go_wp2_with fail
    have fs := set7_fr W3 w.heap.size (ci (Pz.lit t.ty t.b).1.kind) (ci (Pz.lit t.ty t.b).1.op) (ct (Pz.lit t.ty t.b).1.mod) (ct (Pz.lit t.ty t.b).1.name) (ci (Pz.lit t.ty t.b).1.vt) (.int .u64 (Pz.lit t.ty t.b).1.vb) (.slice ao (Pz.lit t.ty t.b).2.len cap)
    exact post_ex hb0_3 rfl rfl rfl ⟨_, rfl, ⟨ao, cap, rfl, (hN.step fs (fun k hk => by subst hk; omega)).weak (by omega)⟩, Ps.high hP3 fs (fun k hk => by subst hk; exact hq), g3.over fs (fun k hk => by subst hk; exact Nat.le_refl _)⟩
  · skip
    obtain rfl : rs = .er t.p 3 := by simpa using hs1.symm
    clear hs hs1 hk
    have hq := h.lt
    have f0 := Fr.alloc (fun _ => False) w ex0
    have g0 : Fr (fun k => k = q) w (w.alloc ex0) := frq f0
    have hP0 : Hidden (Ps (w.alloc ex0) q (t :: r) d true) := h.keepN f0
    have hb0 : Hidden ((w.alloc ex0).heap[w.heap.size]? = some ex0) := alloc_new _ _
    clear h
    go_enter Tryz.func84, Tryz.ntmps84
    go_wp2_with fail
    go_at_call 55
    refine (next_any q t r d true _ hP0).mono ?_
    rintro e W1 ⟨rfl, F1⟩
    have f1 : Fr (fun k => k = q) _ W1 := frq F1
    have hQ1 := Ps.keepN hP0 F1
    have g1 := g0.same f1
    have s1 := f1.size
    have t1 := g1.size
    have hP1 : Hidden (Ps W1 q (t :: r) d true) := hQ1
    clear hQ1
    simp only [World.size_alloc] at s1
    have hb0_1 : Hidden (W1.heap[w.heap.size]? = some (ex0)) := f1.heap hb0 (by omega)
    go_wp2_with fail
    go_at_call 56
    refine (take_no q t r d _ hP1).mono ?_
    rintro e W2 ⟨rfl, f2⟩
    unfold gP
    go_wp2_with fail
    exact ⟨rfl, rfl, g1.same (frq f2)⟩

set_option maxRecDepth 20000 in
set_option maxHeartbeats 1000000 in
theorem pr_lit4 (g : Nat) (hg : g ≤ 3000) (q : Nat) (t : Tok) (r : List Tok) (d : Nat) (hd : d ≤ 32) (fl : Bool) (rs : Pz.Rs Pz.Ex) (hk : t.k = 4) (hs : Hidden (Pz.pr E g fl d (t :: r) = some rs)) (w : World) (h : Ps w q (t :: r) d fl) :
    Calls Tryz.prog 84 #[pp q] w (Out TE q d w rs) := by
  have hf0 := fld0
  have hf1 := fld1
  have hf2 := fld2
  have k3 : ((t.k : Int) == 3) = false := by rw [hk]; rfl
  have k4 : ((t.k : Int) == 4) = true := by rw [hk]; rfl
  have hs1 : Pz.pr E g fl d (t :: r) = some rs := hs
  rw [Pz.pr, if_pos (by omega)] at hs1
  cases fl
  · skip
    obtain rfl : rs = .ok (Pz.lit t.ty t.b) r := by simpa using hs1.symm
    clear hs hs1 hk
    have hq := h.lt
    have f0 := Fr.alloc (fun _ => False) w ex0
    have g0 : Fr (fun k => k = q) w (w.alloc ex0) := frq f0
    have hP0 : Hidden (Ps (w.alloc ex0) q (t :: r) d false) := h.keepN f0
    have hb0 : Hidden ((w.alloc ex0).heap[w.heap.size]? = some ex0) := alloc_new _ _
    clear h
    go_enter Tryz.func84, Tryz.ntmps84
    go_wp2_with fail
    go_at_call 55
    refine (next_any q t r d false _ hP0).mono ?_
    rintro e W1 ⟨rfl, F1⟩
    have f1 : Fr (fun k => k = q) _ W1 := frq F1
    have hQ1 := Ps.keepN hP0 F1
    have g1 := g0.same f1
    have s1 := f1.size
    have t1 := g1.size
    have hP1 : Hidden (Ps W1 q (t :: r) d false) := hQ1
    clear hQ1
    simp only [World.size_alloc] at s1
    have hb0_1 : Hidden (W1.heap[w.heap.size]? = some (ex0)) := f1.heap hb0 (by omega)
    go_wp2_with fail
    go_at_call 56
    refine (take_ok q t r d _ hP1).mono ?_
    rintro e W2 ⟨rfl, hQ2, f2⟩
    have g2 := g1.same f2
    have s2 := f2.size
    have t2 := g2.size
    have hP2 : Hidden (Ps W2 q r d false) := hQ2
    clear hQ2
    have hb0_2 : Hidden (W2.heap[w.heap.size]? = some (ex0)) := f2.heap hb0_1 (by omega)
    go_wp2_with fail
    go_at_call 105
    refine (lit_c t.ty t.b _).mono ?_
    rintro e W3 ⟨v, rfl, ⟨ao, cap, rfl, hN⟩, F3⟩
    have f3 : Fr (fun k => k = q) _ W3 := frq F3
    have hQ3 := Ps.keepN hP2 F3
    have g3 := g2.same f3
    have s3 := f3.size
    have t3 := g3.size
    have hP3 : Hidden (Ps W3 q r d false) := hQ3
    clear hQ3
    have hb0_3 : Hidden (W3.heap[w.heap.size]? = some (ex0)) := f3.heap hb0_2 (by omega)
    obtain ⟨b0c0, b0c1, b0c2, b0c3, b0c4, b0c5, b0c6, b0z0, b0z1, b0z2, b0z3, b0z4, b0z5, b0z6⟩ := box7 hb0_3
    go_wp2_with fail
    have fs := set7_fr W3 w.heap.size (ci (Pz.lit t.ty t.b).1.kind) (ci (Pz.lit t.ty t.b).1.op) (ct (Pz.lit t.ty t.b).1.mod) (ct (Pz.lit t.ty t.b).1.name) (ci (Pz.lit t.ty t.b).1.vt) (.int .u64 (Pz.lit t.ty t.b).1.vb) (.slice ao (Pz.lit t.ty t.b).2.len cap)
    exact post_ex hb0_3 rfl rfl rfl ⟨_, rfl, ⟨ao, cap, rfl, (hN.step fs (fun k hk => by subst hk; omega)).weak (by omega)⟩, Ps.high hP3 fs (fun k hk => by subst hk; exact hq), g3.over fs (fun k hk => by subst hk; exact Nat.le_refl _)⟩
  · skip
    obtain rfl : rs = .er t.p 3 := by simpa using hs1.symm
    clear hs hs1 hk
    have hq := h.lt
    have f0 := Fr.alloc (fun _ => False) w ex0
    have g0 : Fr (fun k => k = q) w (w.alloc ex0) := frq f0
    have hP0 : Hidden (Ps (w.alloc ex0) q (t :: r) d true) := h.keepN f0
    have hb0 : Hidden ((w.alloc ex0).heap[w.heap.size]? = some ex0) := alloc_new _ _
    clear h
    go_enter Tryz.func84, Tryz.ntmps84
    go_wp2_with fail
    go_at_call 55
    refine (next_any q t r d true _ hP0).mono ?_
    rintro e W1 ⟨rfl, F1⟩
    have f1 : Fr (fun k => k = q) _ W1 := frq F1
    have hQ1 := Ps.keepN hP0 F1
    have g1 := g0.same f1
    have s1 := f1.size
    have t1 := g1.size
    have hP1 : Hidden (Ps W1 q (t :: r) d true) := hQ1
    clear hQ1
    simp only [World.size_alloc] at s1
    have hb0_1 : Hidden (W1.heap[w.heap.size]? = some (ex0)) := f1.heap hb0 (by omega)
    go_wp2_with fail
    go_at_call 56
    refine (take_no q t r d _ hP1).mono ?_
    rintro e W2 ⟨rfl, f2⟩
    unfold gP
    go_wp2_with fail
    exact ⟨rfl, rfl, g1.same (frq f2)⟩

set_option maxRecDepth 20000 in
set_option maxHeartbeats 1000000 in
theorem pr_name (g : Nat) (hg : g ≤ 3000) (q : Nat) (t : Tok) (r : List Tok) (d : Nat) (hd : d ≤ 32) (fl : Bool) (rs : Pz.Rs Pz.Ex) (hk : t.k = 1) (hs : Hidden (Pz.pr E g fl d (t :: r) = some rs)) (w : World) (h : Ps w q (t :: r) d fl) :
    Calls Tryz.prog 84 #[pp q] w (Out TE q d w rs) := by
  have hf0 := fld0
  have hf1 := fld1
  have hf2 := fld2
  have k3 : ((t.k : Int) == 3) = false := by rw [hk]; rfl
  have k4 : ((t.k : Int) == 4) = false := by rw [hk]; rfl
  have k1 : ((t.k : Int) == 1) = true := by rw [hk]; rfl
  replace hs : Hidden (Pz.bd (Pz.refr fl (t :: r)) (fun e ts => match ts with | [] => none | u :: r' => if u.x = [40] then Pz.call E g d e (u :: r') else some (.ok e (u :: r'))) = some rs) := by
    have hs1 : Pz.pr E g fl d (t :: r) = some rs := hs
    rw [Pz.pr, if_neg (by omega), if_pos hk] at hs1
    exact hs1
  clear hk
  have hq := h.lt
  have f0 := Fr.alloc (fun _ => False) w ex0
  have g0 : Fr (fun k => k = q) w (w.alloc ex0) := frq f0
  have hP0 : Hidden (Ps (w.alloc ex0) q (t :: r) d fl) := h.keepN f0
  have hb0 : Hidden ((w.alloc ex0).heap[w.heap.size]? = some ex0) := alloc_new _ _
  clear h
  go_enter Tryz.func84, Tryz.ntmps84
  go_wp2_with fail
  go_at_call 55
  refine (next_any q t r d fl _ hP0).mono ?_
  rintro e W1 ⟨rfl, F1⟩
  have f1 : Fr (fun k => k = q) _ W1 := frq F1
  have hQ1 := Ps.keepN hP0 F1
  have g1 := g0.same f1
  have s1 := f1.size
  have t1 := g1.size
  have hP1 : Hidden (Ps W1 q (t :: r) d fl) := hQ1
  clear hQ1
  simp only [World.size_alloc] at s1
  have hb0_1 : Hidden (W1.heap[w.heap.size]? = some (ex0)) := f1.heap hb0 (by omega)
  go_wp2_with fail
  go_at_call 106
  obtain ⟨r2, e2, hs⟩ := Pz.bd_some hs
  refine (refr_c q (t :: r) d fl r2 e2 _ hP1).mono ?_
  clear e2
  rcases r2 with ⟨x, ts2⟩ | ⟨p, c⟩
  rotate_left
  · obtain rfl : rs = .er p c := hs
    rintro e W2 ⟨rfl, f2⟩
    unfold gP
    go_wp2_with fail
    exact ⟨rfl, rfl, g1.same f2⟩
  rintro e W2 ⟨v2, rfl, ⟨ao, cap, rfl, hN⟩, hQ2, f2⟩
  have g2 := g1.same f2
  have s2 := f2.size
  have t2 := g2.size
  have hP2 : Hidden (Ps W2 q ts2 d false) := hQ2
  clear hQ2
  have hb0_2 : Hidden (W2.heap[w.heap.size]? = some (ex0)) := f2.heap hb0_1 (by omega)
  have fab1 := Fr.alloc (fun _ => False) W2 (.cells #[ci x.1.kind, ci x.1.op, ct x.1.mod, ct x.1.name, ci x.1.vt, .int .u64 x.1.vb, .slice ao x.2.len cap] 27)
  have gb1 : Fr (fun k => k = q) w (W2.alloc (.cells #[ci x.1.kind, ci x.1.op, ct x.1.mod, ct x.1.name, ci x.1.vt, .int .u64 x.1.vb, .slice ao x.2.len cap] 27)) := g2.same (frq fab1)
  have hPb1 : Hidden (Ps (W2.alloc (.cells #[ci x.1.kind, ci x.1.op, ct x.1.mod, ct x.1.name, ci x.1.vt, .int .u64 x.1.vb, .slice ao x.2.len cap] 27)) q ts2 d false) := Ps.keepN hP2 fab1
  have hnb1 : Hidden ((W2.alloc (.cells #[ci x.1.kind, ci x.1.op, ct x.1.mod, ct x.1.name, ci x.1.vt, .int .u64 x.1.vb, .slice ao x.2.len cap] 27)).heap[W2.heap.size]? = some (.cells #[ci x.1.kind, ci x.1.op, ct x.1.mod, ct x.1.name, ci x.1.vt, .int .u64 x.1.vb, .slice ao x.2.len cap] 27)) := alloc_new _ _
  have hb0_b1 : Hidden ((W2.alloc (.cells #[ci x.1.kind, ci x.1.op, ct x.1.mod, ct x.1.name, ci x.1.vt, .int .u64 x.1.vb, .slice ao x.2.len cap] 27)).heap[w.heap.size]? = some (ex0)) := fab1.heap hb0_2 (fun f => f)
  obtain ⟨u, us, rfl⟩ : ∃ u us, ts2 = u :: us := by
    cases ts2 with
    | nil => exact absurd hs (by simp [Hidden])
    | cons u us => exact ⟨u, us, rfl⟩
  by_cases hx : u.x = [40]
  · skip
    replace hs : Hidden (Pz.call E g d x (u :: us) = some rs) := by
      have hs1 : (if u.x = [40] then Pz.call E g d x (u :: us) else some (.ok x (u :: us))) = some rs := hs
      rw [if_pos hx] at hs1
      exact hs1
    go_wp2_with fail
    go_at_call 46
    refine (is_any q [40] u us d false true (by simp [Hidden, hx]) _ hPb1).mono ?_
    rintro e W3 ⟨rfl, F3⟩
    have f3 : Fr (fun k => k = q) _ W3 := frq F3
    have hQ3 := Ps.keepN hPb1 F3
    have g3 := gb1.same f3
    have s3 := f3.size
    have t3 := g3.size
    have hP3 : Hidden (Ps W3 q (u :: us) d false) := hQ3
    clear hQ3
    simp only [World.size_alloc] at s3
    have hb0_3 : Hidden (W3.heap[w.heap.size]? = some (ex0)) := f3.heap hb0_b1 (by omega)
    have hb1_3 : Hidden (W3.heap[W2.heap.size]? = some (.cells #[ci x.1.kind, ci x.1.op, ct x.1.mod, ct x.1.name, ci x.1.vt, .int .u64 x.1.vb, .slice ao x.2.len cap] 27)) := f3.heap hnb1 (by omega)
    clear hx
    obtain ⟨b1c0, b1c1, b1c2, b1c3, b1c4, b1c5, b1c6, b1z0, b1z1, b1z2, b1z3, b1z4, b1z5, b1z6⟩ := box7 hb1_3
    go_wp2_with fail
    go_at_call 107
    obtain ⟨r4, e4, hs⟩ : ∃ r, _ = some r ∧ Hidden (r = rs) := ⟨rs, hs, rfl⟩
    refine (call_c hE g hg q x ao x.2.len cap (u :: us) d hd r4 e4 _ hP3).mono ?_
    clear e4
    rcases r4 with ⟨y, ts4⟩ | ⟨p, c⟩
    rotate_left
    · obtain rfl : .er p c = rs := hs
      rintro e W4 ⟨rfl, f4⟩
      unfold gP
      go_wp2_with fail
      exact ⟨rfl, rfl, g3.same f4⟩
    rintro e W4 ⟨v4, rfl, ⟨ao2, cap2, rfl, hM⟩, hQ4, f4⟩
    have g4 := g3.same f4
    have s4 := f4.size
    have t4 := g4.size
    have hP4 : Hidden (Ps W4 q ts4 d false) := hQ4
    clear hQ4
    have hb0_4 : Hidden (W4.heap[w.heap.size]? = some (ex0)) := f4.heap hb0_3 (by omega)
    have hb1_4 : Hidden (W4.heap[W2.heap.size]? = some (.cells #[ci x.1.kind, ci x.1.op, ct x.1.mod, ct x.1.name, ci x.1.vt, .int .u64 x.1.vb, .slice ao x.2.len cap] 27)) := f4.heap hb1_3 (by omega)
    obtain rfl : .ok y ts4 = rs := hs
    obtain ⟨b0c0, b0c1, b0c2, b0c3, b0c4, b0c5, b0c6, b0z0, b0z1, b0z2, b0z3, b0z4, b0z5, b0z6⟩ := box7 hb0_4
    go_wp2_with fail
    have fs := set7_fr W4 w.heap.size (ci y.1.kind) (ci y.1.op) (ct y.1.mod) (ct y.1.name) (ci y.1.vt) (.int .u64 y.1.vb) (.slice ao2 y.2.len cap2)
    exact post_ex hb0_4 rfl rfl rfl ⟨_, rfl, ⟨ao2, cap2, rfl, (hM.step fs (fun k hk => by subst hk; omega)).weak (by omega)⟩, Ps.high hP4 fs (fun k hk => by subst hk; exact hq), g4.over fs (fun k hk => by subst hk; exact Nat.le_refl _)⟩
  · skip
    obtain rfl : rs = .ok x (u :: us) := by
      have hs1 : (if u.x = [40] then Pz.call E g d x (u :: us) else some (.ok x (u :: us))) = some rs := hs
      rw [if_neg hx] at hs1
      exact (Option.some.inj hs1).symm
    go_wp2_with fail
    go_at_call 46
    refine (is_any q [40] u us d false false (by simpa [Hidden] using hx) _ hPb1).mono ?_
    rintro e W3 ⟨rfl, F3⟩
    have f3 : Fr (fun k => k = q) _ W3 := frq F3
    have hQ3 := Ps.keepN hPb1 F3
    have g3 := gb1.same f3
    have s3 := f3.size
    have t3 := g3.size
    have hP3 : Hidden (Ps W3 q (u :: us) d false) := hQ3
    clear hQ3
    simp only [World.size_alloc] at s3
    have hb0_3 : Hidden (W3.heap[w.heap.size]? = some (ex0)) := f3.heap hb0_b1 (by omega)
    have hb1_3 : Hidden (W3.heap[W2.heap.size]? = some (.cells #[ci x.1.kind, ci x.1.op, ct x.1.mod, ct x.1.name, ci x.1.vt, .int .u64 x.1.vb, .slice ao x.2.len cap] 27)) := f3.heap hnb1 (by omega)
    clear hx hs
    obtain ⟨b1c0, b1c1, b1c2, b1c3, b1c4, b1c5, b1c6, b1z0, b1z1, b1z2, b1z3, b1z4, b1z5, b1z6⟩ := box7 hb1_3
    obtain ⟨b0c0, b0c1, b0c2, b0c3, b0c4, b0c5, b0c6, b0z0, b0z1, b0z2, b0z3, b0z4, b0z5, b0z6⟩ := box7 hb0_3
    go_wp2_with fail
    have fs := set7_fr W3 w.heap.size (ci x.1.kind) (ci x.1.op) (ct x.1.mod) (ct x.1.name) (ci x.1.vt) (.int .u64 x.1.vb) (.slice ao x.2.len cap)
    exact post_ex hb0_3 rfl rfl rfl ⟨_, rfl, ⟨ao, cap, rfl, (((hN.step fab1 (fun _ f => f.elim)).step f3 (fun k hk => by subst hk; omega)).step fs (fun k hk => by subst hk; omega)).weak (by omega)⟩, Ps.high hP3 fs (fun k hk => by subst hk; exact hq), g3.over fs (fun k hk => by subst hk; exact Nat.le_refl _)⟩

set_option maxRecDepth 20000 in
set_option maxHeartbeats 1000000 in
theorem pr_true (g : Nat) (hg : g ≤ 3000) (q : Nat) (t : Tok) (r : List Tok) (d : Nat) (hd : d ≤ 32) (fl : Bool) (rs : Pz.Rs Pz.Ex) (n3 : t.k ≠ 3) (n4 : t.k ≠ 4) (n1 : t.k ≠ 1) (hx : t.x = [116, 114, 117, 101]) (hs : Hidden (Pz.pr E g fl d (t :: r) = some rs)) (w : World) (h : Ps w q (t :: r) d fl) :
    Calls Tryz.prog 84 #[pp q] w (Out TE q d w rs) := by
  have hf0 := fld0
  have hf1 := fld1
  have hf2 := fld2
  have k3 : ((t.k : Int) == 3) = false := by rw [beq_eq_false_iff_ne]; omega
  have k4 : ((t.k : Int) == 4) = false := by rw [beq_eq_false_iff_ne]; omega
  have k1 : ((t.k : Int) == 1) = false := by rw [beq_eq_false_iff_ne]; omega
  have hs1 : Pz.pr E g fl d (t :: r) = some rs := hs
  rw [Pz.pr, if_neg (by omega), if_neg n1, if_pos hx] at hs1
  clear n3 n4 n1
  cases fl
  · skip
    obtain rfl : rs = .ok (Pz.lit 3 1) r := by simpa using hs1.symm
    clear hs hs1
    have hq := h.lt
    have f0 := Fr.alloc (fun _ => False) w ex0
    have g0 : Fr (fun k => k = q) w (w.alloc ex0) := frq f0
    have hP0 : Hidden (Ps (w.alloc ex0) q (t :: r) d false) := h.keepN f0
    have hb0 : Hidden ((w.alloc ex0).heap[w.heap.size]? = some ex0) := alloc_new _ _
    clear h
    go_enter Tryz.func84, Tryz.ntmps84
    go_wp2_with fail
    go_at_call 55
    refine (next_any q t r d false _ hP0).mono ?_
    rintro e W1 ⟨rfl, F1⟩
    have f1 : Fr (fun k => k = q) _ W1 := frq F1
    have hQ1 := Ps.keepN hP0 F1
    have g1 := g0.same f1
    have s1 := f1.size
    have t1 := g1.size
    have hP1 : Hidden (Ps W1 q (t :: r) d false) := hQ1
    clear hQ1
    simp only [World.size_alloc] at s1
    have hb0_1 : Hidden (W1.heap[w.heap.size]? = some (ex0)) := f1.heap hb0 (by omega)
    go_wp2_with fail
    go_at_call 80
    refine (has_yes q [116, 114, 117, 101] t r d hx _ hP1).mono ?_
    rintro e W2 ⟨rfl, hQ2, f2⟩
    have g2 := g1.same f2
    have s2 := f2.size
    have t2 := g2.size
    have hP2 : Hidden (Ps W2 q r d false) := hQ2
    clear hQ2
    have hb0_2 : Hidden (W2.heap[w.heap.size]? = some (ex0)) := f2.heap hb0_1 (by omega)
    clear hx
    go_wp2_with fail
    go_at_call 105
    refine (lit_c 3 1 _).mono ?_
    rintro e W3 ⟨v, rfl, ⟨ao, cap, rfl, hN⟩, F3⟩
    have f3 : Fr (fun k => k = q) _ W3 := frq F3
    have hQ3 := Ps.keepN hP2 F3
    have g3 := g2.same f3
    have s3 := f3.size
    have t3 := g3.size
    have hP3 : Hidden (Ps W3 q r d false) := hQ3
    clear hQ3
    have hb0_3 : Hidden (W3.heap[w.heap.size]? = some (ex0)) := f3.heap hb0_2 (by omega)
    obtain ⟨b0c0, b0c1, b0c2, b0c3, b0c4, b0c5, b0c6, b0z0, b0z1, b0z2, b0z3, b0z4, b0z5, b0z6⟩ := box7 hb0_3
    go_wp2_with fail
    have fs := set7_fr W3 w.heap.size (ci (Pz.lit 3 1).1.kind) (ci (Pz.lit 3 1).1.op) (ct (Pz.lit 3 1).1.mod) (ct (Pz.lit 3 1).1.name) (ci (Pz.lit 3 1).1.vt) (.int .u64 (Pz.lit 3 1).1.vb) (.slice ao (Pz.lit 3 1).2.len cap)
    exact post_ex hb0_3 rfl rfl rfl ⟨_, rfl, ⟨ao, cap, rfl, (hN.step fs (fun k hk => by subst hk; omega)).weak (by omega)⟩, Ps.high hP3 fs (fun k hk => by subst hk; exact hq), g3.over fs (fun k hk => by subst hk; exact Nat.le_refl _)⟩
  · skip
    obtain rfl : rs = .er t.p 3 := by simpa using hs1.symm
    clear hs hs1
    have hq := h.lt
    have f0 := Fr.alloc (fun _ => False) w ex0
    have g0 : Fr (fun k => k = q) w (w.alloc ex0) := frq f0
    have hP0 : Hidden (Ps (w.alloc ex0) q (t :: r) d true) := h.keepN f0
    have hb0 : Hidden ((w.alloc ex0).heap[w.heap.size]? = some ex0) := alloc_new _ _
    clear h
    go_enter Tryz.func84, Tryz.ntmps84
    go_wp2_with fail
    go_at_call 55
    refine (next_any q t r d true _ hP0).mono ?_
    rintro e W1 ⟨rfl, F1⟩
    have f1 : Fr (fun k => k = q) _ W1 := frq F1
    have hQ1 := Ps.keepN hP0 F1
    have g1 := g0.same f1
    have s1 := f1.size
    have t1 := g1.size
    have hP1 : Hidden (Ps W1 q (t :: r) d true) := hQ1
    clear hQ1
    simp only [World.size_alloc] at s1
    have hb0_1 : Hidden (W1.heap[w.heap.size]? = some (ex0)) := f1.heap hb0 (by omega)
    go_wp2_with fail
    go_at_call 80
    refine (has_full q [116, 114, 117, 101] t r d hx _ hP1).mono ?_
    rintro e W2 ⟨rfl, f2⟩
    unfold gP
    go_wp2_with fail
    exact ⟨rfl, rfl, g1.same f2⟩

set_option maxRecDepth 20000 in
set_option maxHeartbeats 1000000 in
theorem pr_false (g : Nat) (hg : g ≤ 3000) (q : Nat) (t : Tok) (r : List Tok) (d : Nat) (hd : d ≤ 32) (fl : Bool) (rs : Pz.Rs Pz.Ex) (n3 : t.k ≠ 3) (n4 : t.k ≠ 4) (n1 : t.k ≠ 1) (hx : t.x = [102, 97, 108, 115, 101]) (hs : Hidden (Pz.pr E g fl d (t :: r) = some rs)) (w : World) (h : Ps w q (t :: r) d fl) :
    Calls Tryz.prog 84 #[pp q] w (Out TE q d w rs) := by
  have hf0 := fld0
  have hf1 := fld1
  have hf2 := fld2
  have k3 : ((t.k : Int) == 3) = false := by rw [beq_eq_false_iff_ne]; omega
  have k4 : ((t.k : Int) == 4) = false := by rw [beq_eq_false_iff_ne]; omega
  have k1 : ((t.k : Int) == 1) = false := by rw [beq_eq_false_iff_ne]; omega
  have h_true : t.x ≠ [116, 114, 117, 101] := by rw [hx]; decide
  have hs1 : Pz.pr E g fl d (t :: r) = some rs := hs
  rw [Pz.pr, if_neg (by omega), if_neg n1, if_neg h_true, if_pos hx] at hs1
  clear n3 n4 n1
  cases fl
  · skip
    obtain rfl : rs = .ok (Pz.lit 3 0) r := by simpa using hs1.symm
    clear hs hs1
    have hq := h.lt
    have f0 := Fr.alloc (fun _ => False) w ex0
    have g0 : Fr (fun k => k = q) w (w.alloc ex0) := frq f0
    have hP0 : Hidden (Ps (w.alloc ex0) q (t :: r) d false) := h.keepN f0
    have hb0 : Hidden ((w.alloc ex0).heap[w.heap.size]? = some ex0) := alloc_new _ _
    clear h
    go_enter Tryz.func84, Tryz.ntmps84
    go_wp2_with fail
    go_at_call 55
    refine (next_any q t r d false _ hP0).mono ?_
    rintro e W1 ⟨rfl, F1⟩
    have f1 : Fr (fun k => k = q) _ W1 := frq F1
    have hQ1 := Ps.keepN hP0 F1
    have g1 := g0.same f1
    have s1 := f1.size
    have t1 := g1.size
    have hP1 : Hidden (Ps W1 q (t :: r) d false) := hQ1
    clear hQ1
    simp only [World.size_alloc] at s1
    have hb0_1 : Hidden (W1.heap[w.heap.size]? = some (ex0)) := f1.heap hb0 (by omega)
    go_wp2_with fail
    go_at_call 80
    refine (has_no q [116, 114, 117, 101] t r d false h_true _ hP1).mono ?_
    rintro e W2 ⟨rfl, F2⟩
    have f2 : Fr (fun k => k = q) _ W2 := frq F2
    have hQ2 := Ps.keepN hP1 F2
    have g2 := g1.same f2
    have s2 := f2.size
    have t2 := g2.size
    have hP2 : Hidden (Ps W2 q (t :: r) d false) := hQ2
    clear hQ2
    have hb0_2 : Hidden (W2.heap[w.heap.size]? = some (ex0)) := f2.heap hb0_1 (by omega)
    go_wp2_with fail
    go_at_call 80
    refine (has_yes q [102, 97, 108, 115, 101] t r d hx _ hP2).mono ?_
    rintro e W3 ⟨rfl, hQ3, f3⟩
    have g3 := g2.same f3
    have s3 := f3.size
    have t3 := g3.size
    have hP3 : Hidden (Ps W3 q r d false) := hQ3
    clear hQ3
    have hb0_3 : Hidden (W3.heap[w.heap.size]? = some (ex0)) := f3.heap hb0_2 (by omega)
    clear hx
    go_wp2_with fail
    go_at_call 105
    refine (lit_c 3 0 _).mono ?_
    rintro e W4 ⟨v, rfl, ⟨ao, cap, rfl, hN⟩, F4⟩
    have f4 : Fr (fun k => k = q) _ W4 := frq F4
    have hQ4 := Ps.keepN hP3 F4
    have g4 := g3.same f4
    have s4 := f4.size
    have t4 := g4.size
    have hP4 : Hidden (Ps W4 q r d false) := hQ4
    clear hQ4
    have hb0_4 : Hidden (W4.heap[w.heap.size]? = some (ex0)) := f4.heap hb0_3 (by omega)
    obtain ⟨b0c0, b0c1, b0c2, b0c3, b0c4, b0c5, b0c6, b0z0, b0z1, b0z2, b0z3, b0z4, b0z5, b0z6⟩ := box7 hb0_4
    go_wp2_with fail
    have fs := set7_fr W4 w.heap.size (ci (Pz.lit 3 0).1.kind) (ci (Pz.lit 3 0).1.op) (ct (Pz.lit 3 0).1.mod) (ct (Pz.lit 3 0).1.name) (ci (Pz.lit 3 0).1.vt) (.int .u64 (Pz.lit 3 0).1.vb) (.slice ao (Pz.lit 3 0).2.len cap)
    exact post_ex hb0_4 rfl rfl rfl ⟨_, rfl, ⟨ao, cap, rfl, (hN.step fs (fun k hk => by subst hk; omega)).weak (by omega)⟩, Ps.high hP4 fs (fun k hk => by subst hk; exact hq), g4.over fs (fun k hk => by subst hk; exact Nat.le_refl _)⟩
  · skip
    obtain rfl : rs = .er t.p 3 := by simpa using hs1.symm
    clear hs hs1
    have hq := h.lt
    have f0 := Fr.alloc (fun _ => False) w ex0
    have g0 : Fr (fun k => k = q) w (w.alloc ex0) := frq f0
    have hP0 : Hidden (Ps (w.alloc ex0) q (t :: r) d true) := h.keepN f0
    have hb0 : Hidden ((w.alloc ex0).heap[w.heap.size]? = some ex0) := alloc_new _ _
    clear h
    go_enter Tryz.func84, Tryz.ntmps84
    go_wp2_with fail
    go_at_call 55
    refine (next_any q t r d true _ hP0).mono ?_
    rintro e W1 ⟨rfl, F1⟩
    have f1 : Fr (fun k => k = q) _ W1 := frq F1
    have hQ1 := Ps.keepN hP0 F1
    have g1 := g0.same f1
    have s1 := f1.size
    have t1 := g1.size
    have hP1 : Hidden (Ps W1 q (t :: r) d true) := hQ1
    clear hQ1
    simp only [World.size_alloc] at s1
    have hb0_1 : Hidden (W1.heap[w.heap.size]? = some (ex0)) := f1.heap hb0 (by omega)
    go_wp2_with fail
    go_at_call 80
    refine (has_no q [116, 114, 117, 101] t r d true h_true _ hP1).mono ?_
    rintro e W2 ⟨rfl, F2⟩
    have f2 : Fr (fun k => k = q) _ W2 := frq F2
    have hQ2 := Ps.keepN hP1 F2
    have g2 := g1.same f2
    have s2 := f2.size
    have t2 := g2.size
    have hP2 : Hidden (Ps W2 q (t :: r) d true) := hQ2
    clear hQ2
    have hb0_2 : Hidden (W2.heap[w.heap.size]? = some (ex0)) := f2.heap hb0_1 (by omega)
    go_wp2_with fail
    go_at_call 80
    refine (has_full q [102, 97, 108, 115, 101] t r d hx _ hP2).mono ?_
    rintro e W3 ⟨rfl, f3⟩
    unfold gP
    go_wp2_with fail
    exact ⟨rfl, rfl, g2.same f3⟩

set_option maxRecDepth 20000 in
set_option maxHeartbeats 1000000 in
theorem pr_inf (g : Nat) (hg : g ≤ 3000) (q : Nat) (t : Tok) (r : List Tok) (d : Nat) (hd : d ≤ 32) (fl : Bool) (rs : Pz.Rs Pz.Ex) (n3 : t.k ≠ 3) (n4 : t.k ≠ 4) (n1 : t.k ≠ 1) (hx : t.x = [105, 110, 102]) (hs : Hidden (Pz.pr E g fl d (t :: r) = some rs)) (w : World) (h : Ps w q (t :: r) d fl) :
    Calls Tryz.prog 84 #[pp q] w (Out TE q d w rs) := by
  have hf0 := fld0
  have hf1 := fld1
  have hf2 := fld2
  have k3 : ((t.k : Int) == 3) = false := by rw [beq_eq_false_iff_ne]; omega
  have k4 : ((t.k : Int) == 4) = false := by rw [beq_eq_false_iff_ne]; omega
  have k1 : ((t.k : Int) == 1) = false := by rw [beq_eq_false_iff_ne]; omega
  have h_true : t.x ≠ [116, 114, 117, 101] := by rw [hx]; decide
  have h_false : t.x ≠ [102, 97, 108, 115, 101] := by rw [hx]; decide
  have hs1 : Pz.pr E g fl d (t :: r) = some rs := hs
  rw [Pz.pr, if_neg (by omega), if_neg n1, if_neg h_true, if_neg h_false, if_pos hx] at hs1
  clear n3 n4 n1
  cases fl
  · skip
    obtain rfl : rs = .ok (Pz.lit 2 9218868437227405312) r := by simpa using hs1.symm
    clear hs hs1
    have hq := h.lt
    have f0 := Fr.alloc (fun _ => False) w ex0
    have g0 : Fr (fun k => k = q) w (w.alloc ex0) := frq f0
    have hP0 : Hidden (Ps (w.alloc ex0) q (t :: r) d false) := h.keepN f0
    have hb0 : Hidden ((w.alloc ex0).heap[w.heap.size]? = some ex0) := alloc_new _ _
    clear h
    go_enter Tryz.func84, Tryz.ntmps84
    go_wp2_with fail
    go_at_call 55
    refine (next_any q t r d false _ hP0).mono ?_
    rintro e W1 ⟨rfl, F1⟩
    have f1 : Fr (fun k => k = q) _ W1 := frq F1
    have hQ1 := Ps.keepN hP0 F1
    have g1 := g0.same f1
    have s1 := f1.size
    have t1 := g1.size
    have hP1 : Hidden (Ps W1 q (t :: r) d false) := hQ1
    clear hQ1
    simp only [World.size_alloc] at s1
    have hb0_1 : Hidden (W1.heap[w.heap.size]? = some (ex0)) := f1.heap hb0 (by omega)
    go_wp2_with fail
    go_at_call 80
    refine (has_no q [116, 114, 117, 101] t r d false h_true _ hP1).mono ?_
    rintro e W2 ⟨rfl, F2⟩
    have f2 : Fr (fun k => k = q) _ W2 := frq F2
    have hQ2 := Ps.keepN hP1 F2
    have g2 := g1.same f2
    have s2 := f2.size
    have t2 := g2.size
    have hP2 : Hidden (Ps W2 q (t :: r) d false) := hQ2
    clear hQ2
    have hb0_2 : Hidden (W2.heap[w.heap.size]? = some (ex0)) := f2.heap hb0_1 (by omega)
    go_wp2_with fail
    go_at_call 80
    refine (has_no q [102, 97, 108, 115, 101] t r d false h_false _ hP2).mono ?_
    rintro e W3 ⟨rfl, F3⟩
    have f3 : Fr (fun k => k = q) _ W3 := frq F3
    have hQ3 := Ps.keepN hP2 F3
    have g3 := g2.same f3
    have s3 := f3.size
    have t3 := g3.size
    have hP3 : Hidden (Ps W3 q (t :: r) d false) := hQ3
    clear hQ3
    have hb0_3 : Hidden (W3.heap[w.heap.size]? = some (ex0)) := f3.heap hb0_2 (by omega)
    go_wp2_with fail
    go_at_call 46
    refine (is_any q [105, 110, 102] t r d false true (by simp [Hidden, hx]) _ hP3).mono ?_
    rintro e W4 ⟨rfl, F4⟩
    have f4 : Fr (fun k => k = q) _ W4 := frq F4
    have hQ4 := Ps.keepN hP3 F4
    have g4 := g3.same f4
    have s4 := f4.size
    have t4 := g4.size
    have hP4 : Hidden (Ps W4 q (t :: r) d false) := hQ4
    clear hQ4
    have hb0_4 : Hidden (W4.heap[w.heap.size]? = some (ex0)) := f4.heap hb0_3 (by omega)
    go_wp2_with fail
    go_at_call 56
    refine (take_ok q t r d _ hP4).mono ?_
    rintro e W5 ⟨rfl, hQ5, f5⟩
    have g5 := g4.same f5
    have s5 := f5.size
    have t5 := g5.size
    have hP5 : Hidden (Ps W5 q r d false) := hQ5
    clear hQ5
    have hb0_5 : Hidden (W5.heap[w.heap.size]? = some (ex0)) := f5.heap hb0_4 (by omega)
    rw [hx]
    go_wp2_with fail
    go_at_call 67
    refine (F.parse_any [105, 110, 102] 9218868437227405312 0 parse_inf (by decide) _ (Tq.now (And.left hP5))).mono ?_
    rintro e W6 ⟨rfl, K6⟩
    have F6 := fr_of_kept K6.1 K6.2
    have f6 : Fr (fun k => k = q) _ W6 := frq F6
    have hQ6 := Ps.keepN hP5 F6
    clear hx
    have g6 := g5.same f6
    have s6 := f6.size
    have t6 := g6.size
    have hP6 : Hidden (Ps W6 q r d false) := hQ6
    clear hQ6
    have hb0_6 : Hidden (W6.heap[w.heap.size]? = some (ex0)) := f6.heap hb0_5 (by omega)
    go_wp2_with fail
    go_at_call 105
    refine (lit_c 2 9218868437227405312 _).mono ?_
    rintro e W7 ⟨v, rfl, ⟨ao, cap, rfl, hN⟩, F7⟩
    have f7 : Fr (fun k => k = q) _ W7 := frq F7
    have hQ7 := Ps.keepN hP6 F7
    have g7 := g6.same f7
    have s7 := f7.size
    have t7 := g7.size
    have hP7 : Hidden (Ps W7 q r d false) := hQ7
    clear hQ7
    have hb0_7 : Hidden (W7.heap[w.heap.size]? = some (ex0)) := f7.heap hb0_6 (by omega)
    obtain ⟨b0c0, b0c1, b0c2, b0c3, b0c4, b0c5, b0c6, b0z0, b0z1, b0z2, b0z3, b0z4, b0z5, b0z6⟩ := box7 hb0_7
    go_wp2_with fail
    have fs := set7_fr W7 w.heap.size (ci (Pz.lit 2 9218868437227405312).1.kind) (ci (Pz.lit 2 9218868437227405312).1.op) (ct (Pz.lit 2 9218868437227405312).1.mod) (ct (Pz.lit 2 9218868437227405312).1.name) (ci (Pz.lit 2 9218868437227405312).1.vt) (.int .u64 (Pz.lit 2 9218868437227405312).1.vb) (.slice ao (Pz.lit 2 9218868437227405312).2.len cap)
    exact post_ex hb0_7 rfl rfl rfl ⟨_, rfl, ⟨ao, cap, rfl, (hN.step fs (fun k hk => by subst hk; omega)).weak (by omega)⟩, Ps.high hP7 fs (fun k hk => by subst hk; exact hq), g7.over fs (fun k hk => by subst hk; exact Nat.le_refl _)⟩
  · skip
    obtain rfl : rs = .er t.p 3 := by simpa using hs1.symm
    clear hs hs1
    have hq := h.lt
    have f0 := Fr.alloc (fun _ => False) w ex0
    have g0 : Fr (fun k => k = q) w (w.alloc ex0) := frq f0
    have hP0 : Hidden (Ps (w.alloc ex0) q (t :: r) d true) := h.keepN f0
    have hb0 : Hidden ((w.alloc ex0).heap[w.heap.size]? = some ex0) := alloc_new _ _
    clear h
    go_enter Tryz.func84, Tryz.ntmps84
    go_wp2_with fail
    go_at_call 55
    refine (next_any q t r d true _ hP0).mono ?_
    rintro e W1 ⟨rfl, F1⟩
    have f1 : Fr (fun k => k = q) _ W1 := frq F1
    have hQ1 := Ps.keepN hP0 F1
    have g1 := g0.same f1
    have s1 := f1.size
    have t1 := g1.size
    have hP1 : Hidden (Ps W1 q (t :: r) d true) := hQ1
    clear hQ1
    simp only [World.size_alloc] at s1
    have hb0_1 : Hidden (W1.heap[w.heap.size]? = some (ex0)) := f1.heap hb0 (by omega)
    go_wp2_with fail
    go_at_call 80
    refine (has_no q [116, 114, 117, 101] t r d true h_true _ hP1).mono ?_
    rintro e W2 ⟨rfl, F2⟩
    have f2 : Fr (fun k => k = q) _ W2 := frq F2
    have hQ2 := Ps.keepN hP1 F2
    have g2 := g1.same f2
    have s2 := f2.size
    have t2 := g2.size
    have hP2 : Hidden (Ps W2 q (t :: r) d true) := hQ2
    clear hQ2
    have hb0_2 : Hidden (W2.heap[w.heap.size]? = some (ex0)) := f2.heap hb0_1 (by omega)
    go_wp2_with fail
    go_at_call 80
    refine (has_no q [102, 97, 108, 115, 101] t r d true h_false _ hP2).mono ?_
    rintro e W3 ⟨rfl, F3⟩
    have f3 : Fr (fun k => k = q) _ W3 := frq F3
    have hQ3 := Ps.keepN hP2 F3
    have g3 := g2.same f3
    have s3 := f3.size
    have t3 := g3.size
    have hP3 : Hidden (Ps W3 q (t :: r) d true) := hQ3
    clear hQ3
    have hb0_3 : Hidden (W3.heap[w.heap.size]? = some (ex0)) := f3.heap hb0_2 (by omega)
    go_wp2_with fail
    go_at_call 46
    refine (is_any q [105, 110, 102] t r d true true (by simp [Hidden, hx]) _ hP3).mono ?_
    rintro e W4 ⟨rfl, F4⟩
    have f4 : Fr (fun k => k = q) _ W4 := frq F4
    have hQ4 := Ps.keepN hP3 F4
    have g4 := g3.same f4
    have s4 := f4.size
    have t4 := g4.size
    have hP4 : Hidden (Ps W4 q (t :: r) d true) := hQ4
    clear hQ4
    have hb0_4 : Hidden (W4.heap[w.heap.size]? = some (ex0)) := f4.heap hb0_3 (by omega)
    clear hx
    go_wp2_with fail
    go_at_call 56
    refine (take_no q t r d _ hP4).mono ?_
    rintro e W5 ⟨rfl, f5⟩
    unfold gP
    go_wp2_with fail
    exact ⟨rfl, rfl, g4.same (frq f5)⟩

set_option maxRecDepth 20000 in
set_option maxHeartbeats 1000000 in
theorem pr_nan (g : Nat) (hg : g ≤ 3000) (q : Nat) (t : Tok) (r : List Tok) (d : Nat) (hd : d ≤ 32) (fl : Bool) (rs : Pz.Rs Pz.Ex) (n3 : t.k ≠ 3) (n4 : t.k ≠ 4) (n1 : t.k ≠ 1) (hx : t.x = [110, 97, 110]) (hs : Hidden (Pz.pr E g fl d (t :: r) = some rs)) (w : World) (h : Ps w q (t :: r) d fl) :
    Calls Tryz.prog 84 #[pp q] w (Out TE q d w rs) := by
  have hf0 := fld0
  have hf1 := fld1
  have hf2 := fld2
  have k3 : ((t.k : Int) == 3) = false := by rw [beq_eq_false_iff_ne]; omega
  have k4 : ((t.k : Int) == 4) = false := by rw [beq_eq_false_iff_ne]; omega
  have k1 : ((t.k : Int) == 1) = false := by rw [beq_eq_false_iff_ne]; omega
  have h_true : t.x ≠ [116, 114, 117, 101] := by rw [hx]; decide
  have h_false : t.x ≠ [102, 97, 108, 115, 101] := by rw [hx]; decide
  have h_inf : t.x ≠ [105, 110, 102] := by rw [hx]; decide
  have hs1 : Pz.pr E g fl d (t :: r) = some rs := hs
  rw [Pz.pr, if_neg (by omega), if_neg n1, if_neg h_true, if_neg h_false, if_neg h_inf, if_pos hx] at hs1
  clear n3 n4 n1
  cases fl
  · skip
    obtain rfl : rs = .ok (Pz.lit 2 9221120237041090561) r := by simpa using hs1.symm
    clear hs hs1
    have hq := h.lt
    have f0 := Fr.alloc (fun _ => False) w ex0
    have g0 : Fr (fun k => k = q) w (w.alloc ex0) := frq f0
    have hP0 : Hidden (Ps (w.alloc ex0) q (t :: r) d false) := h.keepN f0
    have hb0 : Hidden ((w.alloc ex0).heap[w.heap.size]? = some ex0) := alloc_new _ _
    clear h
    go_enter Tryz.func84, Tryz.ntmps84
    go_wp2_with fail
    go_at_call 55
    refine (next_any q t r d false _ hP0).mono ?_
    rintro e W1 ⟨rfl, F1⟩
    have f1 : Fr (fun k => k = q) _ W1 := frq F1
    have hQ1 := Ps.keepN hP0 F1
    have g1 := g0.same f1
    have s1 := f1.size
    have t1 := g1.size
    have hP1 : Hidden (Ps W1 q (t :: r) d false) := hQ1
    clear hQ1
    simp only [World.size_alloc] at s1
    have hb0_1 : Hidden (W1.heap[w.heap.size]? = some (ex0)) := f1.heap hb0 (by omega)
    go_wp2_with fail
    go_at_call 80
    refine (has_no q [116, 114, 117, 101] t r d false h_true _ hP1).mono ?_
    rintro e W2 ⟨rfl, F2⟩
    have f2 : Fr (fun k => k = q) _ W2 := frq F2
    have hQ2 := Ps.keepN hP1 F2
    have g2 := g1.same f2
    have s2 := f2.size
    have t2 := g2.size
    have hP2 : Hidden (Ps W2 q (t :: r) d false) := hQ2
    clear hQ2
    have hb0_2 : Hidden (W2.heap[w.heap.size]? = some (ex0)) := f2.heap hb0_1 (by omega)
    go_wp2_with fail
    go_at_call 80
    refine (has_no q [102, 97, 108, 115, 101] t r d false h_false _ hP2).mono ?_
    rintro e W3 ⟨rfl, F3⟩
    have f3 : Fr (fun k => k = q) _ W3 := frq F3
    have hQ3 := Ps.keepN hP2 F3
    have g3 := g2.same f3
    have s3 := f3.size
    have t3 := g3.size
    have hP3 : Hidden (Ps W3 q (t :: r) d false) := hQ3
    clear hQ3
    have hb0_3 : Hidden (W3.heap[w.heap.size]? = some (ex0)) := f3.heap hb0_2 (by omega)
    go_wp2_with fail
    go_at_call 46
    refine (is_any q [105, 110, 102] t r d false false (by simpa [Hidden] using h_inf) _ hP3).mono ?_
    rintro e W4 ⟨rfl, F4⟩
    have f4 : Fr (fun k => k = q) _ W4 := frq F4
    have hQ4 := Ps.keepN hP3 F4
    have g4 := g3.same f4
    have s4 := f4.size
    have t4 := g4.size
    have hP4 : Hidden (Ps W4 q (t :: r) d false) := hQ4
    clear hQ4
    have hb0_4 : Hidden (W4.heap[w.heap.size]? = some (ex0)) := f4.heap hb0_3 (by omega)
    go_wp2_with fail
    go_at_call 46
    refine (is_any q [110, 97, 110] t r d false true (by simp [Hidden, hx]) _ hP4).mono ?_
    rintro e W5 ⟨rfl, F5⟩
    have f5 : Fr (fun k => k = q) _ W5 := frq F5
    have hQ5 := Ps.keepN hP4 F5
    have g5 := g4.same f5
    have s5 := f5.size
    have t5 := g5.size
    have hP5 : Hidden (Ps W5 q (t :: r) d false) := hQ5
    clear hQ5
    have hb0_5 : Hidden (W5.heap[w.heap.size]? = some (ex0)) := f5.heap hb0_4 (by omega)
    go_wp2_with fail
    go_at_call 56
    refine (take_ok q t r d _ hP5).mono ?_
    rintro e W6 ⟨rfl, hQ6, f6⟩
    have g6 := g5.same f6
    have s6 := f6.size
    have t6 := g6.size
    have hP6 : Hidden (Ps W6 q r d false) := hQ6
    clear hQ6
    have hb0_6 : Hidden (W6.heap[w.heap.size]? = some (ex0)) := f6.heap hb0_5 (by omega)
    rw [hx]
    go_wp2_with fail
    go_at_call 67
    refine (F.parse_any [110, 97, 110] 9221120237041090561 0 parse_nan (by decide) _ (Tq.now (And.left hP6))).mono ?_
    rintro e W7 ⟨rfl, K7⟩
    have F7 := fr_of_kept K7.1 K7.2
    have f7 : Fr (fun k => k = q) _ W7 := frq F7
    have hQ7 := Ps.keepN hP6 F7
    clear hx
    have g7 := g6.same f7
    have s7 := f7.size
    have t7 := g7.size
    have hP7 : Hidden (Ps W7 q r d false) := hQ7
    clear hQ7
    have hb0_7 : Hidden (W7.heap[w.heap.size]? = some (ex0)) := f7.heap hb0_6 (by omega)
    go_wp2_with fail
    go_at_call 105
    refine (lit_c 2 9221120237041090561 _).mono ?_
    rintro e W8 ⟨v, rfl, ⟨ao, cap, rfl, hN⟩, F8⟩
    have f8 : Fr (fun k => k = q) _ W8 := frq F8
    have hQ8 := Ps.keepN hP7 F8
    have g8 := g7.same f8
    have s8 := f8.size
    have t8 := g8.size
    have hP8 : Hidden (Ps W8 q r d false) := hQ8
    clear hQ8
    have hb0_8 : Hidden (W8.heap[w.heap.size]? = some (ex0)) := f8.heap hb0_7 (by omega)
    obtain ⟨b0c0, b0c1, b0c2, b0c3, b0c4, b0c5, b0c6, b0z0, b0z1, b0z2, b0z3, b0z4, b0z5, b0z6⟩ := box7 hb0_8
    go_wp2_with fail
    have fs := set7_fr W8 w.heap.size (ci (Pz.lit 2 9221120237041090561).1.kind) (ci (Pz.lit 2 9221120237041090561).1.op) (ct (Pz.lit 2 9221120237041090561).1.mod) (ct (Pz.lit 2 9221120237041090561).1.name) (ci (Pz.lit 2 9221120237041090561).1.vt) (.int .u64 (Pz.lit 2 9221120237041090561).1.vb) (.slice ao (Pz.lit 2 9221120237041090561).2.len cap)
    exact post_ex hb0_8 rfl rfl rfl ⟨_, rfl, ⟨ao, cap, rfl, (hN.step fs (fun k hk => by subst hk; omega)).weak (by omega)⟩, Ps.high hP8 fs (fun k hk => by subst hk; exact hq), g8.over fs (fun k hk => by subst hk; exact Nat.le_refl _)⟩
  · skip
    obtain rfl : rs = .er t.p 3 := by simpa using hs1.symm
    clear hs hs1
    have hq := h.lt
    have f0 := Fr.alloc (fun _ => False) w ex0
    have g0 : Fr (fun k => k = q) w (w.alloc ex0) := frq f0
    have hP0 : Hidden (Ps (w.alloc ex0) q (t :: r) d true) := h.keepN f0
    have hb0 : Hidden ((w.alloc ex0).heap[w.heap.size]? = some ex0) := alloc_new _ _
    clear h
    go_enter Tryz.func84, Tryz.ntmps84
    go_wp2_with fail
    go_at_call 55
    refine (next_any q t r d true _ hP0).mono ?_
    rintro e W1 ⟨rfl, F1⟩
    have f1 : Fr (fun k => k = q) _ W1 := frq F1
    have hQ1 := Ps.keepN hP0 F1
    have g1 := g0.same f1
    have s1 := f1.size
    have t1 := g1.size
    have hP1 : Hidden (Ps W1 q (t :: r) d true) := hQ1
    clear hQ1
    simp only [World.size_alloc] at s1
    have hb0_1 : Hidden (W1.heap[w.heap.size]? = some (ex0)) := f1.heap hb0 (by omega)
    go_wp2_with fail
    go_at_call 80
    refine (has_no q [116, 114, 117, 101] t r d true h_true _ hP1).mono ?_
    rintro e W2 ⟨rfl, F2⟩
    have f2 : Fr (fun k => k = q) _ W2 := frq F2
    have hQ2 := Ps.keepN hP1 F2
    have g2 := g1.same f2
    have s2 := f2.size
    have t2 := g2.size
    have hP2 : Hidden (Ps W2 q (t :: r) d true) := hQ2
    clear hQ2
    have hb0_2 : Hidden (W2.heap[w.heap.size]? = some (ex0)) := f2.heap hb0_1 (by omega)
    go_wp2_with fail
    go_at_call 80
    refine (has_no q [102, 97, 108, 115, 101] t r d true h_false _ hP2).mono ?_
    rintro e W3 ⟨rfl, F3⟩
    have f3 : Fr (fun k => k = q) _ W3 := frq F3
    have hQ3 := Ps.keepN hP2 F3
    have g3 := g2.same f3
    have s3 := f3.size
    have t3 := g3.size
    have hP3 : Hidden (Ps W3 q (t :: r) d true) := hQ3
    clear hQ3
    have hb0_3 : Hidden (W3.heap[w.heap.size]? = some (ex0)) := f3.heap hb0_2 (by omega)
    go_wp2_with fail
    go_at_call 46
    refine (is_any q [105, 110, 102] t r d true false (by simpa [Hidden] using h_inf) _ hP3).mono ?_
    rintro e W4 ⟨rfl, F4⟩
    have f4 : Fr (fun k => k = q) _ W4 := frq F4
    have hQ4 := Ps.keepN hP3 F4
    have g4 := g3.same f4
    have s4 := f4.size
    have t4 := g4.size
    have hP4 : Hidden (Ps W4 q (t :: r) d true) := hQ4
    clear hQ4
    have hb0_4 : Hidden (W4.heap[w.heap.size]? = some (ex0)) := f4.heap hb0_3 (by omega)
    go_wp2_with fail
    go_at_call 46
    refine (is_any q [110, 97, 110] t r d true true (by simp [Hidden, hx]) _ hP4).mono ?_
    rintro e W5 ⟨rfl, F5⟩
    have f5 : Fr (fun k => k = q) _ W5 := frq F5
    have hQ5 := Ps.keepN hP4 F5
    have g5 := g4.same f5
    have s5 := f5.size
    have t5 := g5.size
    have hP5 : Hidden (Ps W5 q (t :: r) d true) := hQ5
    clear hQ5
    have hb0_5 : Hidden (W5.heap[w.heap.size]? = some (ex0)) := f5.heap hb0_4 (by omega)
    clear hx
    go_wp2_with fail
    go_at_call 56
    refine (take_no q t r d _ hP5).mono ?_
    rintro e W6 ⟨rfl, f6⟩
    unfold gP
    go_wp2_with fail
    exact ⟨rfl, rfl, g5.same (frq f6)⟩

set_option maxRecDepth 20000 in
set_option maxHeartbeats 1000000 in
theorem pr_input (g : Nat) (hg : g ≤ 3000) (q : Nat) (t : Tok) (r : List Tok) (d : Nat) (hd : d ≤ 32) (fl : Bool) (rs : Pz.Rs Pz.Ex) (n3 : t.k ≠ 3) (n4 : t.k ≠ 4) (n1 : t.k ≠ 1) (hx : t.x = [105, 110, 112, 117, 116]) (hs : Hidden (Pz.pr E g fl d (t :: r) = some rs)) (w : World) (h : Ps w q (t :: r) d fl) :
    Calls Tryz.prog 84 #[pp q] w (Out TE q d w rs) := by
  have hf0 := fld0
  have hf1 := fld1
  have hf2 := fld2
  have k3 : ((t.k : Int) == 3) = false := by rw [beq_eq_false_iff_ne]; omega
  have k4 : ((t.k : Int) == 4) = false := by rw [beq_eq_false_iff_ne]; omega
  have k1 : ((t.k : Int) == 1) = false := by rw [beq_eq_false_iff_ne]; omega
  have h_true : t.x ≠ [116, 114, 117, 101] := by rw [hx]; decide
  have h_false : t.x ≠ [102, 97, 108, 115, 101] := by rw [hx]; decide
  have h_inf : t.x ≠ [105, 110, 102] := by rw [hx]; decide
  have h_nan : t.x ≠ [110, 97, 110] := by rw [hx]; decide
  have hs1 : Pz.pr E g fl d (t :: r) = some rs := hs
  rw [Pz.pr, if_neg (by omega), if_neg n1, if_neg h_true, if_neg h_false, if_neg h_inf, if_neg h_nan, if_pos hx] at hs1
  clear n3 n4 n1
  cases fl
  · skip
    obtain rfl : rs = .ok (⟨8, 0, [], [], 0, 0⟩, .nil) r := by simpa using hs1.symm
    clear hs hs1
    have hq := h.lt
    have f0 := Fr.alloc (fun _ => False) w ex0
    have g0 : Fr (fun k => k = q) w (w.alloc ex0) := frq f0
    have hP0 : Hidden (Ps (w.alloc ex0) q (t :: r) d false) := h.keepN f0
    have hb0 : Hidden ((w.alloc ex0).heap[w.heap.size]? = some ex0) := alloc_new _ _
    clear h
    go_enter Tryz.func84, Tryz.ntmps84
    go_wp2_with fail
    go_at_call 55
    refine (next_any q t r d false _ hP0).mono ?_
    rintro e W1 ⟨rfl, F1⟩
    have f1 : Fr (fun k => k = q) _ W1 := frq F1
    have hQ1 := Ps.keepN hP0 F1
    have g1 := g0.same f1
    have s1 := f1.size
    have t1 := g1.size
    have hP1 : Hidden (Ps W1 q (t :: r) d false) := hQ1
    clear hQ1
    simp only [World.size_alloc] at s1
    have hb0_1 : Hidden (W1.heap[w.heap.size]? = some (ex0)) := f1.heap hb0 (by omega)
    go_wp2_with fail
    go_at_call 80
    refine (has_no q [116, 114, 117, 101] t r d false h_true _ hP1).mono ?_
    rintro e W2 ⟨rfl, F2⟩
    have f2 : Fr (fun k => k = q) _ W2 := frq F2
    have hQ2 := Ps.keepN hP1 F2
    have g2 := g1.same f2
    have s2 := f2.size
    have t2 := g2.size
    have hP2 : Hidden (Ps W2 q (t :: r) d false) := hQ2
    clear hQ2
    have hb0_2 : Hidden (W2.heap[w.heap.size]? = some (ex0)) := f2.heap hb0_1 (by omega)
    go_wp2_with fail
    go_at_call 80
    refine (has_no q [102, 97, 108, 115, 101] t r d false h_false _ hP2).mono ?_
    rintro e W3 ⟨rfl, F3⟩
    have f3 : Fr (fun k => k = q) _ W3 := frq F3
    have hQ3 := Ps.keepN hP2 F3
    have g3 := g2.same f3
    have s3 := f3.size
    have t3 := g3.size
    have hP3 : Hidden (Ps W3 q (t :: r) d false) := hQ3
    clear hQ3
    have hb0_3 : Hidden (W3.heap[w.heap.size]? = some (ex0)) := f3.heap hb0_2 (by omega)
    go_wp2_with fail
    go_at_call 46
    refine (is_any q [105, 110, 102] t r d false false (by simpa [Hidden] using h_inf) _ hP3).mono ?_
    rintro e W4 ⟨rfl, F4⟩
    have f4 : Fr (fun k => k = q) _ W4 := frq F4
    have hQ4 := Ps.keepN hP3 F4
    have g4 := g3.same f4
    have s4 := f4.size
    have t4 := g4.size
    have hP4 : Hidden (Ps W4 q (t :: r) d false) := hQ4
    clear hQ4
    have hb0_4 : Hidden (W4.heap[w.heap.size]? = some (ex0)) := f4.heap hb0_3 (by omega)
    go_wp2_with fail
    go_at_call 46
    refine (is_any q [110, 97, 110] t r d false false (by simpa [Hidden] using h_nan) _ hP4).mono ?_
    rintro e W5 ⟨rfl, F5⟩
    have f5 : Fr (fun k => k = q) _ W5 := frq F5
    have hQ5 := Ps.keepN hP4 F5
    have g5 := g4.same f5
    have s5 := f5.size
    have t5 := g5.size
    have hP5 : Hidden (Ps W5 q (t :: r) d false) := hQ5
    clear hQ5
    have hb0_5 : Hidden (W5.heap[w.heap.size]? = some (ex0)) := f5.heap hb0_4 (by omega)
    go_wp2_with fail
    go_at_call 80
    refine (has_yes q [105, 110, 112, 117, 116] t r d hx _ hP5).mono ?_
    rintro e W6 ⟨rfl, hQ6, f6⟩
    have g6 := g5.same f6
    have s6 := f6.size
    have t6 := g6.size
    have hP6 : Hidden (Ps W6 q r d false) := hQ6
    clear hQ6
    have hb0_6 : Hidden (W6.heap[w.heap.size]? = some (ex0)) := f6.heap hb0_5 (by omega)
    clear hx
    obtain ⟨b0c0, b0c1, b0c2, b0c3, b0c4, b0c5, b0c6, b0z0, b0z1, b0z2, b0z3, b0z4, b0z5, b0z6⟩ := box7 hb0_6
    go_wp2_with fail
    have fs := set7_fr W6 w.heap.size (ci 8) (ci 0) (.string ⟨#[]⟩) (.string ⟨#[]⟩) (ci 0) (.int .u64 0) (.slice none 0 0)
    exact post_ex hb0_6 rfl rfl rfl ⟨_, rfl, ⟨none, 0, rfl, Nw.nil _ _⟩, Ps.high hP6 fs (fun k hk => by subst hk; exact hq), g6.over fs (fun k hk => by subst hk; exact Nat.le_refl _)⟩
  · skip
    obtain rfl : rs = .er t.p 3 := by simpa using hs1.symm
    clear hs hs1
    have hq := h.lt
    have f0 := Fr.alloc (fun _ => False) w ex0
    have g0 : Fr (fun k => k = q) w (w.alloc ex0) := frq f0
    have hP0 : Hidden (Ps (w.alloc ex0) q (t :: r) d true) := h.keepN f0
    have hb0 : Hidden ((w.alloc ex0).heap[w.heap.size]? = some ex0) := alloc_new _ _
    clear h
    go_enter Tryz.func84, Tryz.ntmps84
    go_wp2_with fail
    go_at_call 55
    refine (next_any q t r d true _ hP0).mono ?_
    rintro e W1 ⟨rfl, F1⟩
    have f1 : Fr (fun k => k = q) _ W1 := frq F1
    have hQ1 := Ps.keepN hP0 F1
    have g1 := g0.same f1
    have s1 := f1.size
    have t1 := g1.size
    have hP1 : Hidden (Ps W1 q (t :: r) d true) := hQ1
    clear hQ1
    simp only [World.size_alloc] at s1
    have hb0_1 : Hidden (W1.heap[w.heap.size]? = some (ex0)) := f1.heap hb0 (by omega)
    go_wp2_with fail
    go_at_call 80
    refine (has_no q [116, 114, 117, 101] t r d true h_true _ hP1).mono ?_
    rintro e W2 ⟨rfl, F2⟩
    have f2 : Fr (fun k => k = q) _ W2 := frq F2
    have hQ2 := Ps.keepN hP1 F2
    have g2 := g1.same f2
    have s2 := f2.size
    have t2 := g2.size
    have hP2 : Hidden (Ps W2 q (t :: r) d true) := hQ2
    clear hQ2
    have hb0_2 : Hidden (W2.heap[w.heap.size]? = some (ex0)) := f2.heap hb0_1 (by omega)
    go_wp2_with fail
    go_at_call 80
    refine (has_no q [102, 97, 108, 115, 101] t r d true h_false _ hP2).mono ?_
    rintro e W3 ⟨rfl, F3⟩
    have f3 : Fr (fun k => k = q) _ W3 := frq F3
    have hQ3 := Ps.keepN hP2 F3
    have g3 := g2.same f3
    have s3 := f3.size
    have t3 := g3.size
    have hP3 : Hidden (Ps W3 q (t :: r) d true) := hQ3
    clear hQ3
    have hb0_3 : Hidden (W3.heap[w.heap.size]? = some (ex0)) := f3.heap hb0_2 (by omega)
    go_wp2_with fail
    go_at_call 46
    refine (is_any q [105, 110, 102] t r d true false (by simpa [Hidden] using h_inf) _ hP3).mono ?_
    rintro e W4 ⟨rfl, F4⟩
    have f4 : Fr (fun k => k = q) _ W4 := frq F4
    have hQ4 := Ps.keepN hP3 F4
    have g4 := g3.same f4
    have s4 := f4.size
    have t4 := g4.size
    have hP4 : Hidden (Ps W4 q (t :: r) d true) := hQ4
    clear hQ4
    have hb0_4 : Hidden (W4.heap[w.heap.size]? = some (ex0)) := f4.heap hb0_3 (by omega)
    go_wp2_with fail
    go_at_call 46
    refine (is_any q [110, 97, 110] t r d true false (by simpa [Hidden] using h_nan) _ hP4).mono ?_
    rintro e W5 ⟨rfl, F5⟩
    have f5 : Fr (fun k => k = q) _ W5 := frq F5
    have hQ5 := Ps.keepN hP4 F5
    have g5 := g4.same f5
    have s5 := f5.size
    have t5 := g5.size
    have hP5 : Hidden (Ps W5 q (t :: r) d true) := hQ5
    clear hQ5
    have hb0_5 : Hidden (W5.heap[w.heap.size]? = some (ex0)) := f5.heap hb0_4 (by omega)
    go_wp2_with fail
    go_at_call 80
    refine (has_full q [105, 110, 112, 117, 116] t r d hx _ hP5).mono ?_
    rintro e W6 ⟨rfl, f6⟩
    unfold gP
    go_wp2_with fail
    exact ⟨rfl, rfl, g5.same f6⟩

set_option maxRecDepth 20000 in
set_option maxHeartbeats 1000000 in
theorem pr_int (g : Nat) (hg : g ≤ 3000) (q : Nat) (t : Tok) (r : List Tok) (d : Nat) (hd : d ≤ 32) (fl : Bool) (rs : Pz.Rs Pz.Ex) (n3 : t.k ≠ 3) (n4 : t.k ≠ 4) (n1 : t.k ≠ 1) (hx : t.x = [105, 110, 116]) (hs : Hidden (Pz.pr E g fl d (t :: r) = some rs)) (w : World) (h : Ps w q (t :: r) d fl) :
    Calls Tryz.prog 84 #[pp q] w (Out TE q d w rs) := by
  have hf0 := fld0
  have hf1 := fld1
  have hf2 := fld2
  have k3 : ((t.k : Int) == 3) = false := by rw [beq_eq_false_iff_ne]; omega
  have k4 : ((t.k : Int) == 4) = false := by rw [beq_eq_false_iff_ne]; omega
  have k1 : ((t.k : Int) == 1) = false := by rw [beq_eq_false_iff_ne]; omega
  have h_true : t.x ≠ [116, 114, 117, 101] := by rw [hx]; decide
  have h_false : t.x ≠ [102, 97, 108, 115, 101] := by rw [hx]; decide
  have h_inf : t.x ≠ [105, 110, 102] := by rw [hx]; decide
  have h_nan : t.x ≠ [110, 97, 110] := by rw [hx]; decide
  have h_input : t.x ≠ [105, 110, 112, 117, 116] := by rw [hx]; decide
  have hs1 : Pz.pr E g fl d (t :: r) = some rs := hs
  rw [Pz.pr, if_neg (by omega), if_neg n1, if_neg h_true, if_neg h_false, if_neg h_inf, if_neg h_nan, if_neg h_input, if_pos hx] at hs1
  clear n3 n4 n1
  cases fl
  · skip
    replace hs : Hidden (Pz.bd (Pz.ins E false d r) (fun e ts => some (.ok (Pz.one 3 e) ts)) = some rs) := by simpa [Hidden] using hs1
    clear hs1
    have hq := h.lt
    have f0 := Fr.alloc (fun _ => False) w ex0
    have g0 : Fr (fun k => k = q) w (w.alloc ex0) := frq f0
    have hP0 : Hidden (Ps (w.alloc ex0) q (t :: r) d false) := h.keepN f0
    have hb0 : Hidden ((w.alloc ex0).heap[w.heap.size]? = some ex0) := alloc_new _ _
    clear h
    go_enter Tryz.func84, Tryz.ntmps84
    go_wp2_with fail
    go_at_call 55
    refine (next_any q t r d false _ hP0).mono ?_
    rintro e W1 ⟨rfl, F1⟩
    have f1 : Fr (fun k => k = q) _ W1 := frq F1
    have hQ1 := Ps.keepN hP0 F1
    have g1 := g0.same f1
    have s1 := f1.size
    have t1 := g1.size
    have hP1 : Hidden (Ps W1 q (t :: r) d false) := hQ1
    clear hQ1
    simp only [World.size_alloc] at s1
    have hb0_1 : Hidden (W1.heap[w.heap.size]? = some (ex0)) := f1.heap hb0 (by omega)
    go_wp2_with fail
    go_at_call 80
    refine (has_no q [116, 114, 117, 101] t r d false h_true _ hP1).mono ?_
    rintro e W2 ⟨rfl, F2⟩
    have f2 : Fr (fun k => k = q) _ W2 := frq F2
    have hQ2 := Ps.keepN hP1 F2
    have g2 := g1.same f2
    have s2 := f2.size
    have t2 := g2.size
    have hP2 : Hidden (Ps W2 q (t :: r) d false) := hQ2
    clear hQ2
    have hb0_2 : Hidden (W2.heap[w.heap.size]? = some (ex0)) := f2.heap hb0_1 (by omega)
    go_wp2_with fail
    go_at_call 80
    refine (has_no q [102, 97, 108, 115, 101] t r d false h_false _ hP2).mono ?_
    rintro e W3 ⟨rfl, F3⟩
    have f3 : Fr (fun k => k = q) _ W3 := frq F3
    have hQ3 := Ps.keepN hP2 F3
    have g3 := g2.same f3
    have s3 := f3.size
    have t3 := g3.size
    have hP3 : Hidden (Ps W3 q (t :: r) d false) := hQ3
    clear hQ3
    have hb0_3 : Hidden (W3.heap[w.heap.size]? = some (ex0)) := f3.heap hb0_2 (by omega)
    go_wp2_with fail
    go_at_call 46
    refine (is_any q [105, 110, 102] t r d false false (by simpa [Hidden] using h_inf) _ hP3).mono ?_
    rintro e W4 ⟨rfl, F4⟩
    have f4 : Fr (fun k => k = q) _ W4 := frq F4
    have hQ4 := Ps.keepN hP3 F4
    have g4 := g3.same f4
    have s4 := f4.size
    have t4 := g4.size
    have hP4 : Hidden (Ps W4 q (t :: r) d false) := hQ4
    clear hQ4
    have hb0_4 : Hidden (W4.heap[w.heap.size]? = some (ex0)) := f4.heap hb0_3 (by omega)
    go_wp2_with fail
    go_at_call 46
    refine (is_any q [110, 97, 110] t r d false false (by simpa [Hidden] using h_nan) _ hP4).mono ?_
    rintro e W5 ⟨rfl, F5⟩
    have f5 : Fr (fun k => k = q) _ W5 := frq F5
    have hQ5 := Ps.keepN hP4 F5
    have g5 := g4.same f5
    have s5 := f5.size
    have t5 := g5.size
    have hP5 : Hidden (Ps W5 q (t :: r) d false) := hQ5
    clear hQ5
    have hb0_5 : Hidden (W5.heap[w.heap.size]? = some (ex0)) := f5.heap hb0_4 (by omega)
    go_wp2_with fail
    go_at_call 80
    refine (has_no q [105, 110, 112, 117, 116] t r d false h_input _ hP5).mono ?_
    rintro e W6 ⟨rfl, F6⟩
    have f6 : Fr (fun k => k = q) _ W6 := frq F6
    have hQ6 := Ps.keepN hP5 F6
    have g6 := g5.same f6
    have s6 := f6.size
    have t6 := g6.size
    have hP6 : Hidden (Ps W6 q (t :: r) d false) := hQ6
    clear hQ6
    have hb0_6 : Hidden (W6.heap[w.heap.size]? = some (ex0)) := f6.heap hb0_5 (by omega)
    go_wp2_with fail
    go_at_call 80
    refine (has_yes q [105, 110, 116] t r d hx _ hP6).mono ?_
    rintro e W7 ⟨rfl, hQ7, f7⟩
    have g7 := g6.same f7
    have s7 := f7.size
    have t7 := g7.size
    have hP7 : Hidden (Ps W7 q r d false) := hQ7
    clear hQ7
    have hb0_7 : Hidden (W7.heap[w.heap.size]? = some (ex0)) := f7.heap hb0_6 (by omega)
    clear hx
    go_wp2_with fail
    go_at_call 108
    obtain ⟨r8, e8, hs⟩ := Pz.bd_some hs
    refine (ins_c hE q r d hd false r8 e8 _ hP7).mono ?_
    clear e8
    rcases r8 with ⟨x, ts8⟩ | ⟨p, c⟩
    rotate_left
    · obtain rfl : rs = .er p c := hs
      rintro e W8 ⟨rfl, f8⟩
      unfold gP
      go_wp2_with fail
      exact ⟨rfl, rfl, g7.same f8⟩
    rintro e W8 ⟨v8, rfl, ⟨ao, cap, rfl, hN⟩, hQ8, f8⟩
    have g8 := g7.same f8
    have s8 := f8.size
    have t8 := g8.size
    have hP8 : Hidden (Ps W8 q ts8 d false) := hQ8
    clear hQ8
    have hb0_8 : Hidden (W8.heap[w.heap.size]? = some (ex0)) := f8.heap hb0_7 (by omega)
    have hB := hN.weak (B' := w.heap.size + 1) (by omega)
    go_wp2_with fail
    go_at_call 104
    refine (one_c 3 (w.heap.size + 1) x ao cap _ (by omega) hB).mono ?_
    rintro e W9 ⟨bo, capo, rfl, hO, F9⟩
    have f9 : Fr (fun k => k = q) _ W9 := frq F9
    have hQ9 := Ps.keepN hP8 F9
    have g9 := g8.same f9
    have s9 := f9.size
    have t9 := g9.size
    have hP9 : Hidden (Ps W9 q ts8 d false) := hQ9
    clear hQ9
    have hb0_9 : Hidden (W9.heap[w.heap.size]? = some (ex0)) := f9.heap hb0_8 (by omega)
    obtain rfl : rs = .ok (Pz.one 3 x) ts8 := (Option.some.inj (show some _ = some rs from hs)).symm
    obtain ⟨b0c0, b0c1, b0c2, b0c3, b0c4, b0c5, b0c6, b0z0, b0z1, b0z2, b0z3, b0z4, b0z5, b0z6⟩ := box7 hb0_9
    go_wp2_with fail
    have fs := set7_fr W9 w.heap.size (ci 6) (ci 3) (.string ⟨#[]⟩) (.string ⟨#[]⟩) (ci 0) (.int .u64 0) (.slice (some ⟨bo, 0, none⟩) 1 capo)
    exact post_ex hb0_9 rfl rfl rfl ⟨_, rfl, ⟨some ⟨bo, 0, none⟩, capo, rfl, (hO.step fs (fun k hk => by subst hk; omega)).weak (by omega)⟩, Ps.high hP9 fs (fun k hk => by subst hk; exact hq), g9.over fs (fun k hk => by subst hk; exact Nat.le_refl _)⟩
  · skip
    obtain rfl : rs = .er t.p 3 := by simpa using hs1.symm
    clear hs hs1
    have hq := h.lt
    have f0 := Fr.alloc (fun _ => False) w ex0
    have g0 : Fr (fun k => k = q) w (w.alloc ex0) := frq f0
    have hP0 : Hidden (Ps (w.alloc ex0) q (t :: r) d true) := h.keepN f0
    have hb0 : Hidden ((w.alloc ex0).heap[w.heap.size]? = some ex0) := alloc_new _ _
    clear h
    go_enter Tryz.func84, Tryz.ntmps84
    go_wp2_with fail
    go_at_call 55
    refine (next_any q t r d true _ hP0).mono ?_
    rintro e W1 ⟨rfl, F1⟩
    have f1 : Fr (fun k => k = q) _ W1 := frq F1
    have hQ1 := Ps.keepN hP0 F1
    have g1 := g0.same f1
    have s1 := f1.size
    have t1 := g1.size
    have hP1 : Hidden (Ps W1 q (t :: r) d true) := hQ1
    clear hQ1
    simp only [World.size_alloc] at s1
    have hb0_1 : Hidden (W1.heap[w.heap.size]? = some (ex0)) := f1.heap hb0 (by omega)
    go_wp2_with fail
    go_at_call 80
    refine (has_no q [116, 114, 117, 101] t r d true h_true _ hP1).mono ?_
    rintro e W2 ⟨rfl, F2⟩
    have f2 : Fr (fun k => k = q) _ W2 := frq F2
    have hQ2 := Ps.keepN hP1 F2
    have g2 := g1.same f2
    have s2 := f2.size
    have t2 := g2.size
    have hP2 : Hidden (Ps W2 q (t :: r) d true) := hQ2
    clear hQ2
    have hb0_2 : Hidden (W2.heap[w.heap.size]? = some (ex0)) := f2.heap hb0_1 (by omega)
    go_wp2_with fail
    go_at_call 80
    refine (has_no q [102, 97, 108, 115, 101] t r d true h_false _ hP2).mono ?_
    rintro e W3 ⟨rfl, F3⟩
    have f3 : Fr (fun k => k = q) _ W3 := frq F3
    have hQ3 := Ps.keepN hP2 F3
    have g3 := g2.same f3
    have s3 := f3.size
    have t3 := g3.size
    have hP3 : Hidden (Ps W3 q (t :: r) d true) := hQ3
    clear hQ3
    have hb0_3 : Hidden (W3.heap[w.heap.size]? = some (ex0)) := f3.heap hb0_2 (by omega)
    go_wp2_with fail
    go_at_call 46
    refine (is_any q [105, 110, 102] t r d true false (by simpa [Hidden] using h_inf) _ hP3).mono ?_
    rintro e W4 ⟨rfl, F4⟩
    have f4 : Fr (fun k => k = q) _ W4 := frq F4
    have hQ4 := Ps.keepN hP3 F4
    have g4 := g3.same f4
    have s4 := f4.size
    have t4 := g4.size
    have hP4 : Hidden (Ps W4 q (t :: r) d true) := hQ4
    clear hQ4
    have hb0_4 : Hidden (W4.heap[w.heap.size]? = some (ex0)) := f4.heap hb0_3 (by omega)
    go_wp2_with fail
    go_at_call 46
    refine (is_any q [110, 97, 110] t r d true false (by simpa [Hidden] using h_nan) _ hP4).mono ?_
    rintro e W5 ⟨rfl, F5⟩
    have f5 : Fr (fun k => k = q) _ W5 := frq F5
    have hQ5 := Ps.keepN hP4 F5
    have g5 := g4.same f5
    have s5 := f5.size
    have t5 := g5.size
    have hP5 : Hidden (Ps W5 q (t :: r) d true) := hQ5
    clear hQ5
    have hb0_5 : Hidden (W5.heap[w.heap.size]? = some (ex0)) := f5.heap hb0_4 (by omega)
    go_wp2_with fail
    go_at_call 80
    refine (has_no q [105, 110, 112, 117, 116] t r d true h_input _ hP5).mono ?_
    rintro e W6 ⟨rfl, F6⟩
    have f6 : Fr (fun k => k = q) _ W6 := frq F6
    have hQ6 := Ps.keepN hP5 F6
    have g6 := g5.same f6
    have s6 := f6.size
    have t6 := g6.size
    have hP6 : Hidden (Ps W6 q (t :: r) d true) := hQ6
    clear hQ6
    have hb0_6 : Hidden (W6.heap[w.heap.size]? = some (ex0)) := f6.heap hb0_5 (by omega)
    go_wp2_with fail
    go_at_call 80
    refine (has_full q [105, 110, 116] t r d hx _ hP6).mono ?_
    rintro e W7 ⟨rfl, f7⟩
    unfold gP
    go_wp2_with fail
    exact ⟨rfl, rfl, g6.same f7⟩

set_option maxRecDepth 20000 in
set_option maxHeartbeats 1000000 in
theorem pr_float (g : Nat) (hg : g ≤ 3000) (q : Nat) (t : Tok) (r : List Tok) (d : Nat) (hd : d ≤ 32) (fl : Bool) (rs : Pz.Rs Pz.Ex) (n3 : t.k ≠ 3) (n4 : t.k ≠ 4) (n1 : t.k ≠ 1) (hx : t.x = [102, 108, 111, 97, 116]) (hs : Hidden (Pz.pr E g fl d (t :: r) = some rs)) (w : World) (h : Ps w q (t :: r) d fl) :
    Calls Tryz.prog 84 #[pp q] w (Out TE q d w rs) := by
  have hf0 := fld0
  have hf1 := fld1
  have hf2 := fld2
  have k3 : ((t.k : Int) == 3) = false := by rw [beq_eq_false_iff_ne]; omega
  have k4 : ((t.k : Int) == 4) = false := by rw [beq_eq_false_iff_ne]; omega
  have k1 : ((t.k : Int) == 1) = false := by rw [beq_eq_false_iff_ne]; omega
  have h_true : t.x ≠ [116, 114, 117, 101] := by rw [hx]; decide
  have h_false : t.x ≠ [102, 97, 108, 115, 101] := by rw [hx]; decide
  have h_inf : t.x ≠ [105, 110, 102] := by rw [hx]; decide
  have h_nan : t.x ≠ [110, 97, 110] := by rw [hx]; decide
  have h_input : t.x ≠ [105, 110, 112, 117, 116] := by rw [hx]; decide
  have h_int : t.x ≠ [105, 110, 116] := by rw [hx]; decide
  have hs1 : Pz.pr E g fl d (t :: r) = some rs := hs
  rw [Pz.pr, if_neg (by omega), if_neg n1, if_neg h_true, if_neg h_false, if_neg h_inf, if_neg h_nan, if_neg h_input, if_neg h_int, if_pos hx] at hs1
  clear n3 n4 n1
  cases fl
  · skip
    replace hs : Hidden (Pz.bd (Pz.ins E false d r) (fun e ts => some (.ok (Pz.one 4 e) ts)) = some rs) := by simpa [Hidden] using hs1
    clear hs1
    have hq := h.lt
    have f0 := Fr.alloc (fun _ => False) w ex0
    have g0 : Fr (fun k => k = q) w (w.alloc ex0) := frq f0
    have hP0 : Hidden (Ps (w.alloc ex0) q (t :: r) d false) := h.keepN f0
    have hb0 : Hidden ((w.alloc ex0).heap[w.heap.size]? = some ex0) := alloc_new _ _
    clear h
    go_enter Tryz.func84, Tryz.ntmps84
    go_wp2_with fail
    go_at_call 55
    refine (next_any q t r d false _ hP0).mono ?_
    rintro e W1 ⟨rfl, F1⟩
    have f1 : Fr (fun k => k = q) _ W1 := frq F1
    have hQ1 := Ps.keepN hP0 F1
    have g1 := g0.same f1
    have s1 := f1.size
    have t1 := g1.size
    have hP1 : Hidden (Ps W1 q (t :: r) d false) := hQ1
    clear hQ1
    simp only [World.size_alloc] at s1
    have hb0_1 : Hidden (W1.heap[w.heap.size]? = some (ex0)) := f1.heap hb0 (by omega)
    go_wp2_with fail
    go_at_call 80
    refine (has_no q [116, 114, 117, 101] t r d false h_true _ hP1).mono ?_
    rintro e W2 ⟨rfl, F2⟩
    have f2 : Fr (fun k => k = q) _ W2 := frq F2
    have hQ2 := Ps.keepN hP1 F2
    have g2 := g1.same f2
    have s2 := f2.size
    have t2 := g2.size
    have hP2 : Hidden (Ps W2 q (t :: r) d false) := hQ2
    clear hQ2
    have hb0_2 : Hidden (W2.heap[w.heap.size]? = some (ex0)) := f2.heap hb0_1 (by omega)
    go_wp2_with fail
    go_at_call 80
    refine (has_no q [102, 97, 108, 115, 101] t r d false h_false _ hP2).mono ?_
    rintro e W3 ⟨rfl, F3⟩
    have f3 : Fr (fun k => k = q) _ W3 := frq F3
    have hQ3 := Ps.keepN hP2 F3
    have g3 := g2.same f3
    have s3 := f3.size
    have t3 := g3.size
    have hP3 : Hidden (Ps W3 q (t :: r) d false) := hQ3
    clear hQ3
    have hb0_3 : Hidden (W3.heap[w.heap.size]? = some (ex0)) := f3.heap hb0_2 (by omega)
    go_wp2_with fail
    go_at_call 46
    refine (is_any q [105, 110, 102] t r d false false (by simpa [Hidden] using h_inf) _ hP3).mono ?_
    rintro e W4 ⟨rfl, F4⟩
    have f4 : Fr (fun k => k = q) _ W4 := frq F4
    have hQ4 := Ps.keepN hP3 F4
    have g4 := g3.same f4
    have s4 := f4.size
    have t4 := g4.size
    have hP4 : Hidden (Ps W4 q (t :: r) d false) := hQ4
    clear hQ4
    have hb0_4 : Hidden (W4.heap[w.heap.size]? = some (ex0)) := f4.heap hb0_3 (by omega)
    go_wp2_with fail
    go_at_call 46
    refine (is_any q [110, 97, 110] t r d false false (by simpa [Hidden] using h_nan) _ hP4).mono ?_
    rintro e W5 ⟨rfl, F5⟩
    have f5 : Fr (fun k => k = q) _ W5 := frq F5
    have hQ5 := Ps.keepN hP4 F5
    have g5 := g4.same f5
    have s5 := f5.size
    have t5 := g5.size
    have hP5 : Hidden (Ps W5 q (t :: r) d false) := hQ5
    clear hQ5
    have hb0_5 : Hidden (W5.heap[w.heap.size]? = some (ex0)) := f5.heap hb0_4 (by omega)
    go_wp2_with fail
    go_at_call 80
    refine (has_no q [105, 110, 112, 117, 116] t r d false h_input _ hP5).mono ?_
    rintro e W6 ⟨rfl, F6⟩
    have f6 : Fr (fun k => k = q) _ W6 := frq F6
    have hQ6 := Ps.keepN hP5 F6
    have g6 := g5.same f6
    have s6 := f6.size
    have t6 := g6.size
    have hP6 : Hidden (Ps W6 q (t :: r) d false) := hQ6
    clear hQ6
    have hb0_6 : Hidden (W6.heap[w.heap.size]? = some (ex0)) := f6.heap hb0_5 (by omega)
    go_wp2_with fail
    go_at_call 80
    refine (has_no q [105, 110, 116] t r d false h_int _ hP6).mono ?_
    rintro e W7 ⟨rfl, F7⟩
    have f7 : Fr (fun k => k = q) _ W7 := frq F7
    have hQ7 := Ps.keepN hP6 F7
    have g7 := g6.same f7
    have s7 := f7.size
    have t7 := g7.size
    have hP7 : Hidden (Ps W7 q (t :: r) d false) := hQ7
    clear hQ7
    have hb0_7 : Hidden (W7.heap[w.heap.size]? = some (ex0)) := f7.heap hb0_6 (by omega)
    go_wp2_with fail
    go_at_call 80
    refine (has_yes q [102, 108, 111, 97, 116] t r d hx _ hP7).mono ?_
    rintro e W8 ⟨rfl, hQ8, f8⟩
    have g8 := g7.same f8
    have s8 := f8.size
    have t8 := g8.size
    have hP8 : Hidden (Ps W8 q r d false) := hQ8
    clear hQ8
    have hb0_8 : Hidden (W8.heap[w.heap.size]? = some (ex0)) := f8.heap hb0_7 (by omega)
    clear hx
    go_wp2_with fail
    go_at_call 108
    obtain ⟨r9, e9, hs⟩ := Pz.bd_some hs
    refine (ins_c hE q r d hd false r9 e9 _ hP8).mono ?_
    clear e9
    rcases r9 with ⟨x, ts9⟩ | ⟨p, c⟩
    rotate_left
    · obtain rfl : rs = .er p c := hs
      rintro e W9 ⟨rfl, f9⟩
      unfold gP
      go_wp2_with fail
      exact ⟨rfl, rfl, g8.same f9⟩
    rintro e W9 ⟨v9, rfl, ⟨ao, cap, rfl, hN⟩, hQ9, f9⟩
    have g9 := g8.same f9
    have s9 := f9.size
    have t9 := g9.size
    have hP9 : Hidden (Ps W9 q ts9 d false) := hQ9
    clear hQ9
    have hb0_9 : Hidden (W9.heap[w.heap.size]? = some (ex0)) := f9.heap hb0_8 (by omega)
    have hB := hN.weak (B' := w.heap.size + 1) (by omega)
    go_wp2_with fail
    go_at_call 104
    refine (one_c 4 (w.heap.size + 1) x ao cap _ (by omega) hB).mono ?_
    rintro e W10 ⟨bo, capo, rfl, hO, F10⟩
    have f10 : Fr (fun k => k = q) _ W10 := frq F10
    have hQ10 := Ps.keepN hP9 F10
    have g10 := g9.same f10
    have s10 := f10.size
    have t10 := g10.size
    have hP10 : Hidden (Ps W10 q ts9 d false) := hQ10
    clear hQ10
    have hb0_10 : Hidden (W10.heap[w.heap.size]? = some (ex0)) := f10.heap hb0_9 (by omega)
    obtain rfl : rs = .ok (Pz.one 4 x) ts9 := (Option.some.inj (show some _ = some rs from hs)).symm
    obtain ⟨b0c0, b0c1, b0c2, b0c3, b0c4, b0c5, b0c6, b0z0, b0z1, b0z2, b0z3, b0z4, b0z5, b0z6⟩ := box7 hb0_10
    go_wp2_with fail
    have fs := set7_fr W10 w.heap.size (ci 6) (ci 4) (.string ⟨#[]⟩) (.string ⟨#[]⟩) (ci 0) (.int .u64 0) (.slice (some ⟨bo, 0, none⟩) 1 capo)
    exact post_ex hb0_10 rfl rfl rfl ⟨_, rfl, ⟨some ⟨bo, 0, none⟩, capo, rfl, (hO.step fs (fun k hk => by subst hk; omega)).weak (by omega)⟩, Ps.high hP10 fs (fun k hk => by subst hk; exact hq), g10.over fs (fun k hk => by subst hk; exact Nat.le_refl _)⟩
  · skip
    obtain rfl : rs = .er t.p 3 := by simpa using hs1.symm
    clear hs hs1
    have hq := h.lt
    have f0 := Fr.alloc (fun _ => False) w ex0
    have g0 : Fr (fun k => k = q) w (w.alloc ex0) := frq f0
    have hP0 : Hidden (Ps (w.alloc ex0) q (t :: r) d true) := h.keepN f0
    have hb0 : Hidden ((w.alloc ex0).heap[w.heap.size]? = some ex0) := alloc_new _ _
    clear h
    go_enter Tryz.func84, Tryz.ntmps84
    go_wp2_with fail
    go_at_call 55
    refine (next_any q t r d true _ hP0).mono ?_
    rintro e W1 ⟨rfl, F1⟩
    have f1 : Fr (fun k => k = q) _ W1 := frq F1
    have hQ1 := Ps.keepN hP0 F1
    have g1 := g0.same f1
    have s1 := f1.size
    have t1 := g1.size
    have hP1 : Hidden (Ps W1 q (t :: r) d true) := hQ1
    clear hQ1
    simp only [World.size_alloc] at s1
    have hb0_1 : Hidden (W1.heap[w.heap.size]? = some (ex0)) := f1.heap hb0 (by omega)
    go_wp2_with fail
    go_at_call 80
    refine (has_no q [116, 114, 117, 101] t r d true h_true _ hP1).mono ?_
    rintro e W2 ⟨rfl, F2⟩
    have f2 : Fr (fun k => k = q) _ W2 := frq F2
    have hQ2 := Ps.keepN hP1 F2
    have g2 := g1.same f2
    have s2 := f2.size
    have t2 := g2.size
    have hP2 : Hidden (Ps W2 q (t :: r) d true) := hQ2
    clear hQ2
    have hb0_2 : Hidden (W2.heap[w.heap.size]? = some (ex0)) := f2.heap hb0_1 (by omega)
    go_wp2_with fail
    go_at_call 80
    refine (has_no q [102, 97, 108, 115, 101] t r d true h_false _ hP2).mono ?_
    rintro e W3 ⟨rfl, F3⟩
    have f3 : Fr (fun k => k = q) _ W3 := frq F3
    have hQ3 := Ps.keepN hP2 F3
    have g3 := g2.same f3
    have s3 := f3.size
    have t3 := g3.size
    have hP3 : Hidden (Ps W3 q (t :: r) d true) := hQ3
    clear hQ3
    have hb0_3 : Hidden (W3.heap[w.heap.size]? = some (ex0)) := f3.heap hb0_2 (by omega)
    go_wp2_with fail
    go_at_call 46
    refine (is_any q [105, 110, 102] t r d true false (by simpa [Hidden] using h_inf) _ hP3).mono ?_
    rintro e W4 ⟨rfl, F4⟩
    have f4 : Fr (fun k => k = q) _ W4 := frq F4
    have hQ4 := Ps.keepN hP3 F4
    have g4 := g3.same f4
    have s4 := f4.size
    have t4 := g4.size
    have hP4 : Hidden (Ps W4 q (t :: r) d true) := hQ4
    clear hQ4
    have hb0_4 : Hidden (W4.heap[w.heap.size]? = some (ex0)) := f4.heap hb0_3 (by omega)
    go_wp2_with fail
    go_at_call 46
    refine (is_any q [110, 97, 110] t r d true false (by simpa [Hidden] using h_nan) _ hP4).mono ?_
    rintro e W5 ⟨rfl, F5⟩
    have f5 : Fr (fun k => k = q) _ W5 := frq F5
    have hQ5 := Ps.keepN hP4 F5
    have g5 := g4.same f5
    have s5 := f5.size
    have t5 := g5.size
    have hP5 : Hidden (Ps W5 q (t :: r) d true) := hQ5
    clear hQ5
    have hb0_5 : Hidden (W5.heap[w.heap.size]? = some (ex0)) := f5.heap hb0_4 (by omega)
    go_wp2_with fail
    go_at_call 80
    refine (has_no q [105, 110, 112, 117, 116] t r d true h_input _ hP5).mono ?_
    rintro e W6 ⟨rfl, F6⟩
    have f6 : Fr (fun k => k = q) _ W6 := frq F6
    have hQ6 := Ps.keepN hP5 F6
    have g6 := g5.same f6
    have s6 := f6.size
    have t6 := g6.size
    have hP6 : Hidden (Ps W6 q (t :: r) d true) := hQ6
    clear hQ6
    have hb0_6 : Hidden (W6.heap[w.heap.size]? = some (ex0)) := f6.heap hb0_5 (by omega)
    go_wp2_with fail
    go_at_call 80
    refine (has_no q [105, 110, 116] t r d true h_int _ hP6).mono ?_
    rintro e W7 ⟨rfl, F7⟩
    have f7 : Fr (fun k => k = q) _ W7 := frq F7
    have hQ7 := Ps.keepN hP6 F7
    have g7 := g6.same f7
    have s7 := f7.size
    have t7 := g7.size
    have hP7 : Hidden (Ps W7 q (t :: r) d true) := hQ7
    clear hQ7
    have hb0_7 : Hidden (W7.heap[w.heap.size]? = some (ex0)) := f7.heap hb0_6 (by omega)
    go_wp2_with fail
    go_at_call 80
    refine (has_full q [102, 108, 111, 97, 116] t r d hx _ hP7).mono ?_
    rintro e W8 ⟨rfl, f8⟩
    unfold gP
    go_wp2_with fail
    exact ⟨rfl, rfl, g7.same f8⟩

set_option maxRecDepth 20000 in
set_option maxHeartbeats 1000000 in
theorem pr_else (g : Nat) (hg : g ≤ 3000) (q : Nat) (t : Tok) (r : List Tok) (d : Nat) (hd : d ≤ 32) (fl : Bool) (rs : Pz.Rs Pz.Ex) (n3 : t.k ≠ 3) (n4 : t.k ≠ 4) (n1 : t.k ≠ 1) (h_true : t.x ≠ [116, 114, 117, 101]) (h_false : t.x ≠ [102, 97, 108, 115, 101]) (h_inf : t.x ≠ [105, 110, 102]) (h_nan : t.x ≠ [110, 97, 110]) (h_input : t.x ≠ [105, 110, 112, 117, 116]) (h_int : t.x ≠ [105, 110, 116]) (h_float : t.x ≠ [102, 108, 111, 97, 116]) (hs : Hidden (Pz.pr E g fl d (t :: r) = some rs)) (w : World) (h : Ps w q (t :: r) d fl) :
    Calls Tryz.prog 84 #[pp q] w (Out TE q d w rs) := by
  have hf0 := fld0
  have hf1 := fld1
  have hf2 := fld2
  have k3 : ((t.k : Int) == 3) = false := by rw [beq_eq_false_iff_ne]; omega
  have k4 : ((t.k : Int) == 4) = false := by rw [beq_eq_false_iff_ne]; omega
  have k1 : ((t.k : Int) == 1) = false := by rw [beq_eq_false_iff_ne]; omega
  have hs1 : Pz.pr E g fl d (t :: r) = some rs := hs
  rw [Pz.pr, if_neg (by omega), if_neg n1, if_neg h_true, if_neg h_false, if_neg h_inf, if_neg h_nan, if_neg h_input, if_neg h_int, if_neg h_float] at hs1
  clear n3 n4 n1
  replace hs : Hidden (Pz.ins E fl d (t :: r) = some rs) := hs1
  clear hs1
  have hq := h.lt
  have f0 := Fr.alloc (fun _ => False) w ex0
  have g0 : Fr (fun k => k = q) w (w.alloc ex0) := frq f0
  have hP0 : Hidden (Ps (w.alloc ex0) q (t :: r) d fl) := h.keepN f0
  have hb0 : Hidden ((w.alloc ex0).heap[w.heap.size]? = some ex0) := alloc_new _ _
  clear h
  go_enter Tryz.func84, Tryz.ntmps84
  go_wp2_with fail
  go_at_call 55
  refine (next_any q t r d fl _ hP0).mono ?_
  rintro e W1 ⟨rfl, F1⟩
  have f1 : Fr (fun k => k = q) _ W1 := frq F1
  have hQ1 := Ps.keepN hP0 F1
  have g1 := g0.same f1
  have s1 := f1.size
  have t1 := g1.size
  have hP1 : Hidden (Ps W1 q (t :: r) d fl) := hQ1
  clear hQ1
  simp only [World.size_alloc] at s1
  have hb0_1 : Hidden (W1.heap[w.heap.size]? = some (ex0)) := f1.heap hb0 (by omega)
  go_wp2_with fail
  go_at_call 80
  refine (has_no q [116, 114, 117, 101] t r d fl h_true _ hP1).mono ?_
  rintro e W2 ⟨rfl, F2⟩
  have f2 : Fr (fun k => k = q) _ W2 := frq F2
  have hQ2 := Ps.keepN hP1 F2
  have g2 := g1.same f2
  have s2 := f2.size
  have t2 := g2.size
  have hP2 : Hidden (Ps W2 q (t :: r) d fl) := hQ2
  clear hQ2
  have hb0_2 : Hidden (W2.heap[w.heap.size]? = some (ex0)) := f2.heap hb0_1 (by omega)
  go_wp2_with fail
  go_at_call 80
  refine (has_no q [102, 97, 108, 115, 101] t r d fl h_false _ hP2).mono ?_
  rintro e W3 ⟨rfl, F3⟩
  have f3 : Fr (fun k => k = q) _ W3 := frq F3
  have hQ3 := Ps.keepN hP2 F3
  have g3 := g2.same f3
  have s3 := f3.size
  have t3 := g3.size
  have hP3 : Hidden (Ps W3 q (t :: r) d fl) := hQ3
  clear hQ3
  have hb0_3 : Hidden (W3.heap[w.heap.size]? = some (ex0)) := f3.heap hb0_2 (by omega)
  go_wp2_with fail
  go_at_call 46
  refine (is_any q [105, 110, 102] t r d fl false (by simpa [Hidden] using h_inf) _ hP3).mono ?_
  rintro e W4 ⟨rfl, F4⟩
  have f4 : Fr (fun k => k = q) _ W4 := frq F4
  have hQ4 := Ps.keepN hP3 F4
  have g4 := g3.same f4
  have s4 := f4.size
  have t4 := g4.size
  have hP4 : Hidden (Ps W4 q (t :: r) d fl) := hQ4
  clear hQ4
  have hb0_4 : Hidden (W4.heap[w.heap.size]? = some (ex0)) := f4.heap hb0_3 (by omega)
  go_wp2_with fail
  go_at_call 46
  refine (is_any q [110, 97, 110] t r d fl false (by simpa [Hidden] using h_nan) _ hP4).mono ?_
  rintro e W5 ⟨rfl, F5⟩
  have f5 : Fr (fun k => k = q) _ W5 := frq F5
  have hQ5 := Ps.keepN hP4 F5
  have g5 := g4.same f5
  have s5 := f5.size
  have t5 := g5.size
  have hP5 : Hidden (Ps W5 q (t :: r) d fl) := hQ5
  clear hQ5
  have hb0_5 : Hidden (W5.heap[w.heap.size]? = some (ex0)) := f5.heap hb0_4 (by omega)
  go_wp2_with fail
  go_at_call 80
  refine (has_no q [105, 110, 112, 117, 116] t r d fl h_input _ hP5).mono ?_
  rintro e W6 ⟨rfl, F6⟩
  have f6 : Fr (fun k => k = q) _ W6 := frq F6
  have hQ6 := Ps.keepN hP5 F6
  have g6 := g5.same f6
  have s6 := f6.size
  have t6 := g6.size
  have hP6 : Hidden (Ps W6 q (t :: r) d fl) := hQ6
  clear hQ6
  have hb0_6 : Hidden (W6.heap[w.heap.size]? = some (ex0)) := f6.heap hb0_5 (by omega)
  go_wp2_with fail
  go_at_call 80
  refine (has_no q [105, 110, 116] t r d fl h_int _ hP6).mono ?_
  rintro e W7 ⟨rfl, F7⟩
  have f7 : Fr (fun k => k = q) _ W7 := frq F7
  have hQ7 := Ps.keepN hP6 F7
  have g7 := g6.same f7
  have s7 := f7.size
  have t7 := g7.size
  have hP7 : Hidden (Ps W7 q (t :: r) d fl) := hQ7
  clear hQ7
  have hb0_7 : Hidden (W7.heap[w.heap.size]? = some (ex0)) := f7.heap hb0_6 (by omega)
  go_wp2_with fail
  go_at_call 80
  refine (has_no q [102, 108, 111, 97, 116] t r d fl h_float _ hP7).mono ?_
  rintro e W8 ⟨rfl, F8⟩
  have f8 : Fr (fun k => k = q) _ W8 := frq F8
  have hQ8 := Ps.keepN hP7 F8
  have g8 := g7.same f8
  have s8 := f8.size
  have t8 := g8.size
  have hP8 : Hidden (Ps W8 q (t :: r) d fl) := hQ8
  clear hQ8
  have hb0_8 : Hidden (W8.heap[w.heap.size]? = some (ex0)) := f8.heap hb0_7 (by omega)
  go_wp2_with fail
  go_at_call 108
  obtain ⟨r9, e9, hs⟩ : ∃ r, _ = some r ∧ Hidden (r = rs) := ⟨rs, hs, rfl⟩
  refine (ins_c hE q (t :: r) d hd fl r9 e9 _ hP8).mono ?_
  clear e9
  rcases r9 with ⟨x, ts9⟩ | ⟨p, c⟩
  rotate_left
  · obtain rfl : .er p c = rs := hs
    rintro e W9 ⟨rfl, f9⟩
    unfold gP
    go_wp2_with fail
    exact ⟨rfl, rfl, g8.same f9⟩
  rintro e W9 ⟨v9, rfl, ⟨ao, cap, rfl, hN⟩, hQ9, f9⟩
  have g9 := g8.same f9
  have s9 := f9.size
  have t9 := g9.size
  have hP9 : Hidden (Ps W9 q ts9 d false) := hQ9
  clear hQ9
  have hb0_9 : Hidden (W9.heap[w.heap.size]? = some (ex0)) := f9.heap hb0_8 (by omega)
  obtain rfl : .ok x ts9 = rs := hs
  obtain ⟨b0c0, b0c1, b0c2, b0c3, b0c4, b0c5, b0c6, b0z0, b0z1, b0z2, b0z3, b0z4, b0z5, b0z6⟩ := box7 hb0_9
  go_wp2_with fail
  have fs := set7_fr W9 w.heap.size (ci x.1.kind) (ci x.1.op) (ct x.1.mod) (ct x.1.name) (ci x.1.vt) (.int .u64 x.1.vb) (.slice ao x.2.len cap)
  exact post_ex hb0_9 rfl rfl rfl ⟨_, rfl, ⟨ao, cap, rfl, (hN.step fs (fun k hk => by subst hk; omega)).weak (by omega)⟩, Ps.high hP9 fs (fun k hk => by subst hk; exact hq), g9.over fs (fun k hk => by subst hk; exact Nat.le_refl _)⟩

/-- primary. -/
theorem pr_c (g : Nat) (hg : g ≤ 3000) (q : Nat) (ts : List Tok) (d : Nat) (hd : d ≤ 32) (fl : Bool) (rs : Pz.Rs Pz.Ex) (hs : Hidden (Pz.pr E g fl d ts = some rs)) (w : World) (h : Ps w q ts d fl) :
    Calls Tryz.prog 84 #[pp q] w (Out TE q d w rs) := by
  cases ts with
  | nil => exact absurd hs (by simp [Hidden, Pz.pr])
  | cons t r =>
    by_cases n3 : t.k = 3
    · exact pr_lit3 hE g hg q t r d hd fl rs n3 hs w h
    by_cases n4 : t.k = 4
    · exact pr_lit4 hE g hg q t r d hd fl rs n4 hs w h
    by_cases n1 : t.k = 1
    · exact pr_name hE g hg q t r d hd fl rs n1 hs w h
    by_cases h_true : t.x = [116, 114, 117, 101]
    · exact pr_true hE g hg q t r d hd fl rs n3 n4 n1 h_true hs w h
    by_cases h_false : t.x = [102, 97, 108, 115, 101]
    · exact pr_false hE g hg q t r d hd fl rs n3 n4 n1 h_false hs w h
    by_cases h_inf : t.x = [105, 110, 102]
    · exact pr_inf hE g hg q t r d hd fl rs n3 n4 n1 h_inf hs w h
    by_cases h_nan : t.x = [110, 97, 110]
    · exact pr_nan hE g hg q t r d hd fl rs n3 n4 n1 h_nan hs w h
    by_cases h_input : t.x = [105, 110, 112, 117, 116]
    · exact pr_input hE g hg q t r d hd fl rs n3 n4 n1 h_input hs w h
    by_cases h_int : t.x = [105, 110, 116]
    · exact pr_int hE g hg q t r d hd fl rs n3 n4 n1 h_int hs w h
    by_cases h_float : t.x = [102, 108, 111, 97, 116]
    · exact pr_float hE g hg q t r d hd fl rs n3 n4 n1 h_float hs w h
    exact pr_else hE g hg q t r d hd fl rs n3 n4 n1 h_true h_false h_inf h_nan h_input h_int h_float hs w h

end
end Go.Proofs.YtpkaekokkhecmaaGreatDoor
