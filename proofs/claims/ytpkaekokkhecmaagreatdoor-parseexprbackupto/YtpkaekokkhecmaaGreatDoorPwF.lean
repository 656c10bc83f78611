/- The program's parser: operators, expressions. -/
import Derived.Test.YtpkaekokkhecmaaGreatDoorPwE
import Derived.Deep.RegionHeld3
namespace Go.Proofs.YtpkaekokkhecmaaGreatDoor
open Go.RowKit Lx Te
set_option linter.unusedSimpArgs false
set_option linter.unusedVariables false
set_option linter.unusedSectionVars false

section
variable {E : Bool → Nat → List Tok → Pz.Ou Pz.Ex} (hE : CE E)
/-- What reads an operator of one. -/
def CU (E : Bool → Nat → List Tok → Pz.Ou Pz.Ex) (g f : Nat) : Prop := ∀ (fl : Bool) (d : Nat) (ts : List Tok) (rs : Pz.Rs Pz.Ex) (q : Nat) (w : World), d ≤ 32 → Pz.un E g f fl d ts = some rs → Ps w q ts d fl →
  Calls Tryz.prog 53 #[pp q] w (Out TE q d w rs)

set_option maxRecDepth 20000 in
set_option maxHeartbeats 1000000 in
theorem sg_c (g f : Nat) (hU : CU E g f) (mark : Bs) (op : Int) (q : Nat) (ts : List Tok) (d : Nat) (hd : d ≤ 32) (fl : Bool) (rs : Pz.Rs Pz.Ex)
    (hs : Hidden (Pz.bd (Pz.opn mark fl d ts) (fun _ ts => Pz.bd (Pz.un E g f false (d + 1) ts) fun e ts => some (.ok (Pz.one op e) ts)) = some rs)) (w : World) (h : Ps w q ts d fl) :
    Calls Tryz.prog 83 #[pp q, ct mark, ci op] w (Out TE q d w rs) := by
  have hq := h.lt
  have f0 := Fr.alloc (fun _ => False) w ex0
  have g0 : Fr (fun k => k = q) w (w.alloc ex0) := frq f0
  have hP0 : Hidden (Ps (w.alloc ex0) q ts d fl) := h.keepN f0
  have hb0 : Hidden ((w.alloc ex0).heap[w.heap.size]? = some ex0) := alloc_new _ _
  clear h
  go_enter Tryz.func83, Tryz.ntmps83
  go_wp2_with fail
  go_at_call 103
  obtain ⟨r1, e1, hs⟩ := Pz.bd_some hs
  refine (opn_c q mark ts d hd fl r1 e1 _ hP0).mono ?_
  rcases r1 with ⟨u, ts1⟩ | ⟨p, c⟩
  rotate_left
  · obtain rfl : rs = .er p c := hs
    rintro e W1 ⟨rfl, f1⟩
    unfold gP
    go_wp2_with fail
    exact ⟨rfl, rfl, g0.same f1⟩
  rintro e W1 ⟨v1, rfl, rfl, hQ1, f1⟩
  have g1 := g0.same f1
  have s1 := f1.size
  have t1 := g1.size
  have hP1 : Hidden (Ps W1 q ts1 (d + 1) false) := hQ1
  clear hQ1
  simp only [World.size_alloc] at s1
  have hb0_1 : Hidden (W1.heap[w.heap.size]? = some (ex0)) := f1.heap hb0 (by omega)
  have hd1 := Pz.opn_lt hd e1
  clear e1
  go_wp2_with fail
  go_at_call 53
  obtain ⟨r2, e2, hs⟩ := Pz.bd_some hs
  refine (hU false (d + 1) ts1 r2 q _ hd1 e2 hP1).mono ?_
  clear e2
  rcases r2 with ⟨x, ts2⟩ | ⟨p, c⟩
  rotate_left
  · obtain rfl : rs = .er p c := hs
    rintro e W2 ⟨rfl, f2⟩
    unfold gP
    go_wp2_with fail
    exact ⟨rfl, rfl, g1.same f2⟩
  rintro e W2 ⟨v2, rfl, ⟨ao, cap, rfl, hN⟩, hQ2, f2⟩
  have g2 := g1.same f2
  have s2 := f2.size
  have t2 := g2.size
  have hP2 : Hidden (Ps W2 q ts2 (d + 1) false) := hQ2
  clear hQ2
  have hb0_2 : Hidden (W2.heap[w.heap.size]? = some (ex0)) := f2.heap hb0_1 (by omega)
  have hB := hN.weak (B' := w.heap.size + 1) (by omega)
  go_wp2_with fail
  go_at_call 104
  refine (one_c op (w.heap.size + 1) x ao cap _ (by omega) hB).mono ?_
  rintro e W3 ⟨bo, capo, rfl, hO, F3⟩
  have f3 : Fr (fun k => k = q) _ W3 := frq F3
  have hQ3 := Ps.keepN hP2 F3
  have g3 := g2.same f3
  have s3 := f3.size
  have t3 := g3.size
  have hP3 : Hidden (Ps W3 q ts2 (d + 1) false) := hQ3
  clear hQ3
  have hb0_3 : Hidden (W3.heap[w.heap.size]? = some (ex0)) := f3.heap hb0_2 (by omega)
  have fab1 := Fr.alloc (fun _ => False) W3 (.cells #[ci 6, ci op, .string ⟨#[]⟩, .string ⟨#[]⟩, ci 0, .int .u64 0, .slice (some ⟨bo, 0, none⟩) 1 capo] 27)
  have gb1 : Fr (fun k => k = q) w (W3.alloc (.cells #[ci 6, ci op, .string ⟨#[]⟩, .string ⟨#[]⟩, ci 0, .int .u64 0, .slice (some ⟨bo, 0, none⟩) 1 capo] 27)) := g3.same (frq fab1)
  have hPb1 : Hidden (Ps (W3.alloc (.cells #[ci 6, ci op, .string ⟨#[]⟩, .string ⟨#[]⟩, ci 0, .int .u64 0, .slice (some ⟨bo, 0, none⟩) 1 capo] 27)) q ts2 (d + 1) false) := Ps.keepN hP3 fab1
  have hnb1 : Hidden ((W3.alloc (.cells #[ci 6, ci op, .string ⟨#[]⟩, .string ⟨#[]⟩, ci 0, .int .u64 0, .slice (some ⟨bo, 0, none⟩) 1 capo] 27)).heap[W3.heap.size]? = some (.cells #[ci 6, ci op, .string ⟨#[]⟩, .string ⟨#[]⟩, ci 0, .int .u64 0, .slice (some ⟨bo, 0, none⟩) 1 capo] 27)) := alloc_new _ _
  have hb0_b1 : Hidden ((W3.alloc (.cells #[ci 6, ci op, .string ⟨#[]⟩, .string ⟨#[]⟩, ci 0, .int .u64 0, .slice (some ⟨bo, 0, none⟩) 1 capo] 27)).heap[w.heap.size]? = some (ex0)) := fab1.heap hb0_3 (fun f => f)
  obtain ⟨dc, dz⟩ := Ps.deep hPb1
  have dc2 : (W3.alloc (.cells #[ci 6, ci op, .string ⟨#[]⟩, .string ⟨#[]⟩, ci 0, .int .u64 0, .slice (some ⟨bo, 0, none⟩) 1 capo] 27)).cell? ⟨q, 1, none⟩ = some (ci ((d : Int) + 1)) := dc
  clear dc
  go_upto_region 4 with fail
  have fp := Fr.put (W3.alloc (.cells #[ci 6, ci op, .string ⟨#[]⟩, .string ⟨#[]⟩, ci 0, .int .u64 0, .slice (some ⟨bo, 0, none⟩) 1 capo] 27)) q 1 (ci (d : Int))
  have hPd : Hidden (Ps ((W3.alloc (.cells #[ci 6, ci op, .string ⟨#[]⟩, .string ⟨#[]⟩, ci 0, .int .u64 0, .slice (some ⟨bo, 0, none⟩) 1 capo] 27)).setCell ⟨q, 1, none⟩ (ci (d : Int))) q ts2 d false) := Ps.setDeep hPb1 d
  have hb0d : ((W3.alloc (.cells #[ci 6, ci op, .string ⟨#[]⟩, .string ⟨#[]⟩, ci 0, .int .u64 0, .slice (some ⟨bo, 0, none⟩) 1 capo] 27)).setCell ⟨q, 1, none⟩ (ci (d : Int))).heap[w.heap.size]? = some ex0 := fp.heap hb0_b1 (by omega)
  have hb1d : ((W3.alloc (.cells #[ci 6, ci op, .string ⟨#[]⟩, .string ⟨#[]⟩, ci 0, .int .u64 0, .slice (some ⟨bo, 0, none⟩) 1 capo] 27)).setCell ⟨q, 1, none⟩ (ci (d : Int))).heap[W3.heap.size]? = some (.cells #[ci 6, ci op, .string ⟨#[]⟩, .string ⟨#[]⟩, ci 0, .int .u64 0, .slice (some ⟨bo, 0, none⟩) 1 capo] 27) := fp.heap hnb1 (by omega)
  have gd : Fr (fun k => k = q) w ((W3.alloc (.cells #[ci 6, ci op, .string ⟨#[]⟩, .string ⟨#[]⟩, ci 0, .int .u64 0, .slice (some ⟨bo, 0, none⟩) 1 capo] 27)).setCell ⟨q, 1, none⟩ (ci (d : Int))) := gb1.same fp
  have hOd := (hO.step fab1 (fun _ f => f.elim)).step fp (fun k hk => by subst hk; omega)
  generalize (W3.alloc (.cells #[ci 6, ci op, .string ⟨#[]⟩, .string ⟨#[]⟩, ci 0, .int .u64 0, .slice (some ⟨bo, 0, none⟩) 1 capo] 27)).setCell ⟨q, 1, none⟩ (ci (d : Int)) = W4 at fp hPd hb0d hb1d gd hOd ⊢
  have hb0H : Hidden (W4.heap[w.heap.size]? = some ex0) := hb0d
  obtain ⟨ac0, ac1, ac2, ac3, ac4, ac5, ac6, az0, az1, az2, az3, az4, az5, az6⟩ := box7 hb0d
  obtain ⟨bc0, bc1, bc2, bc3, bc4, bc5, bc6, bz0, bz1, bz2, bz3, bz4, bz5, bz6⟩ := box7 hb1d
  clear hb0d hb1d dz dc2 hO fp fab1 hN hB
  obtain rfl : rs = .ok (Pz.one op x) ts2 := (Option.some.inj (show some _ = some rs from hs)).symm
  go_wp2_with fail
  have fs := set7_fr W4 w.heap.size (ci 6) (ci op) (.string ⟨#[]⟩) (.string ⟨#[]⟩) (ci 0) (.int .u64 0) (.slice (some ⟨bo, 0, none⟩) 1 capo)
  exact post_ex hb0H rfl rfl rfl ⟨_, rfl, ⟨some ⟨bo, 0, none⟩, capo, rfl, (hOd.step fs (fun k hk => by subst hk; omega)).weak (by omega)⟩, Ps.high hPd fs (fun k hk => by subst hk; exact hq), gd.over fs (fun k hk => by subst hk; exact Nat.le_refl _)⟩

include hE in
set_option maxRecDepth 20000 in
set_option maxHeartbeats 1000000 in
theorem un_step (g f : Nat) (hg : g ≤ 3000) (hU : CU E g f) : CU E g (f + 1) := by
  intro fl d ts rs q w hd hs0 h
  cases ts with
  | nil => simp [Pz.un] at hs0
  | cons t r =>
    by_cases hx : t.x = [45]
    · rw [Pz.un, if_pos hx] at hs0
      have hs : Hidden (_ = some rs) := hs0
      clear hs0
      have hq := h.lt
      have f0 := Fr.alloc (fun _ => False) w ex0
      have g0 : Fr (fun k => k = q) w (w.alloc ex0) := frq f0
      have hP0 : Hidden (Ps (w.alloc ex0) q (t :: r) d fl) := h.keepN f0
      have hb0 : Hidden ((w.alloc ex0).heap[w.heap.size]? = some ex0) := alloc_new _ _
      clear h
      go_enter Tryz.func53, Tryz.ntmps53
      go_wp2_with fail
      go_at_call 46
      refine (is_any q [45] t r d fl true (by simp [Hidden, hx]) _ hP0).mono ?_
      rintro e W1 ⟨rfl, F1⟩
      have f1 : Fr (fun k => k = q) _ W1 := frq F1
      have hQ1 := Ps.keepN hP0 F1
      have g1 := g0.same f1
      have s1 := f1.size
      have t1 := g1.size
      have hP1 : Hidden (Ps W1 q (t :: r) d fl) := hQ1
      clear hQ1
      simp only [World.size_alloc] at s1
      have hb0_1 : Hidden (W1.heap[w.heap.size]? = some (ex0)) := f1.heap hb0 (by omega)
      clear hx
      go_wp2_with fail
      go_at_call 83
      obtain ⟨r2, e2, hs⟩ : ∃ r, _ = some r ∧ Hidden (r = rs) := ⟨rs, hs, rfl⟩
      refine (sg_c g f hU [45] 1 q (t :: r) d hd fl r2 e2 _ hP1).mono ?_
      clear e2
      rcases r2 with ⟨x, ts2⟩ | ⟨p, c⟩
      rotate_left
      · obtain rfl : .er p c = rs := hs
        rintro e W2 ⟨rfl, f2⟩
        unfold gP
        go_wp2_with fail
        exact ⟨rfl, rfl, g1.same f2⟩
      rintro e W2 ⟨v2, rfl, ⟨ao, cap, rfl, hN⟩, hQ2, f2⟩
      have g2 := g1.same f2
      have s2 := f2.size
      have t2 := g2.size
      have hP2 : Hidden (Ps W2 q ts2 d false) := hQ2
      clear hQ2
      have hb0_2 : Hidden (W2.heap[w.heap.size]? = some (ex0)) := f2.heap hb0_1 (by omega)
      obtain rfl : .ok x ts2 = rs := hs
      obtain ⟨b0c0, b0c1, b0c2, b0c3, b0c4, b0c5, b0c6, b0z0, b0z1, b0z2, b0z3, b0z4, b0z5, b0z6⟩ := box7 hb0_2
      go_wp2_with fail
      have fs := set7_fr W2 w.heap.size (ci x.1.kind) (ci x.1.op) (ct x.1.mod) (ct x.1.name) (ci x.1.vt) (.int .u64 x.1.vb) (.slice ao x.2.len cap)
      exact post_ex hb0_2 rfl rfl rfl ⟨_, rfl, ⟨ao, cap, rfl, (hN.step fs (fun k hk => by subst hk; omega)).weak (by omega)⟩, Ps.high hP2 fs (fun k hk => by subst hk; exact hq), g2.over fs (fun k hk => by subst hk; exact Nat.le_refl _)⟩
    rw [Pz.un, if_neg hx] at hs0
    by_cases hy : t.x = [33]
    · rw [if_pos hy] at hs0
      have hs : Hidden (_ = some rs) := hs0
      clear hs0
      have hq := h.lt
      have f0 := Fr.alloc (fun _ => False) w ex0
      have g0 : Fr (fun k => k = q) w (w.alloc ex0) := frq f0
      have hP0 : Hidden (Ps (w.alloc ex0) q (t :: r) d fl) := h.keepN f0
      have hb0 : Hidden ((w.alloc ex0).heap[w.heap.size]? = some ex0) := alloc_new _ _
      clear h
      go_enter Tryz.func53, Tryz.ntmps53
      go_wp2_with fail
      go_at_call 46
      refine (is_any q [45] t r d fl false (by simpa [Hidden] using hx) _ hP0).mono ?_
      rintro e W1 ⟨rfl, F1⟩
      have f1 : Fr (fun k => k = q) _ W1 := frq F1
      have hQ1 := Ps.keepN hP0 F1
      have g1 := g0.same f1
      have s1 := f1.size
      have t1 := g1.size
      have hP1 : Hidden (Ps W1 q (t :: r) d fl) := hQ1
      clear hQ1
      simp only [World.size_alloc] at s1
      have hb0_1 : Hidden (W1.heap[w.heap.size]? = some (ex0)) := f1.heap hb0 (by omega)
      clear hx
      go_wp2_with fail
      go_at_call 46
      refine (is_any q [33] t r d fl true (by simp [Hidden, hy]) _ hP1).mono ?_
      rintro e W2 ⟨rfl, F2⟩
      have f2 : Fr (fun k => k = q) _ W2 := frq F2
      have hQ2 := Ps.keepN hP1 F2
      have g2 := g1.same f2
      have s2 := f2.size
      have t2 := g2.size
      have hP2 : Hidden (Ps W2 q (t :: r) d fl) := hQ2
      clear hQ2
      have hb0_2 : Hidden (W2.heap[w.heap.size]? = some (ex0)) := f2.heap hb0_1 (by omega)
      clear hy
      go_wp2_with fail
      go_at_call 83
      obtain ⟨r3, e3, hs⟩ : ∃ r, _ = some r ∧ Hidden (r = rs) := ⟨rs, hs, rfl⟩
      refine (sg_c g f hU [33] 2 q (t :: r) d hd fl r3 e3 _ hP2).mono ?_
      clear e3
      rcases r3 with ⟨x, ts3⟩ | ⟨p, c⟩
      rotate_left
      · obtain rfl : .er p c = rs := hs
        rintro e W3 ⟨rfl, f3⟩
        unfold gP
        go_wp2_with fail
        exact ⟨rfl, rfl, g2.same f3⟩
      rintro e W3 ⟨v3, rfl, ⟨ao, cap, rfl, hN⟩, hQ3, f3⟩
      have g3 := g2.same f3
      have s3 := f3.size
      have t3 := g3.size
      have hP3 : Hidden (Ps W3 q ts3 d false) := hQ3
      clear hQ3
      have hb0_3 : Hidden (W3.heap[w.heap.size]? = some (ex0)) := f3.heap hb0_2 (by omega)
      obtain rfl : .ok x ts3 = rs := hs
      obtain ⟨b0c0, b0c1, b0c2, b0c3, b0c4, b0c5, b0c6, b0z0, b0z1, b0z2, b0z3, b0z4, b0z5, b0z6⟩ := box7 hb0_3
      go_wp2_with fail
      have fs := set7_fr W3 w.heap.size (ci x.1.kind) (ci x.1.op) (ct x.1.mod) (ct x.1.name) (ci x.1.vt) (.int .u64 x.1.vb) (.slice ao x.2.len cap)
      exact post_ex hb0_3 rfl rfl rfl ⟨_, rfl, ⟨ao, cap, rfl, (hN.step fs (fun k hk => by subst hk; omega)).weak (by omega)⟩, Ps.high hP3 fs (fun k hk => by subst hk; exact hq), g3.over fs (fun k hk => by subst hk; exact Nat.le_refl _)⟩
    · rw [if_neg hy] at hs0
      have hs : Hidden (_ = some rs) := hs0
      clear hs0
      have hq := h.lt
      have f0 := Fr.alloc (fun _ => False) w ex0
      have g0 : Fr (fun k => k = q) w (w.alloc ex0) := frq f0
      have hP0 : Hidden (Ps (w.alloc ex0) q (t :: r) d fl) := h.keepN f0
      have hb0 : Hidden ((w.alloc ex0).heap[w.heap.size]? = some ex0) := alloc_new _ _
      clear h
      go_enter Tryz.func53, Tryz.ntmps53
      go_wp2_with fail
      go_at_call 46
      refine (is_any q [45] t r d fl false (by simpa [Hidden] using hx) _ hP0).mono ?_
      rintro e W1 ⟨rfl, F1⟩
      have f1 : Fr (fun k => k = q) _ W1 := frq F1
      have hQ1 := Ps.keepN hP0 F1
      have g1 := g0.same f1
      have s1 := f1.size
      have t1 := g1.size
      have hP1 : Hidden (Ps W1 q (t :: r) d fl) := hQ1
      clear hQ1
      simp only [World.size_alloc] at s1
      have hb0_1 : Hidden (W1.heap[w.heap.size]? = some (ex0)) := f1.heap hb0 (by omega)
      clear hx
      go_wp2_with fail
      go_at_call 46
      refine (is_any q [33] t r d fl false (by simpa [Hidden] using hy) _ hP1).mono ?_
      rintro e W2 ⟨rfl, F2⟩
      have f2 : Fr (fun k => k = q) _ W2 := frq F2
      have hQ2 := Ps.keepN hP1 F2
      have g2 := g1.same f2
      have s2 := f2.size
      have t2 := g2.size
      have hP2 : Hidden (Ps W2 q (t :: r) d fl) := hQ2
      clear hQ2
      have hb0_2 : Hidden (W2.heap[w.heap.size]? = some (ex0)) := f2.heap hb0_1 (by omega)
      clear hy
      go_wp2_with fail
      go_at_call 84
      obtain ⟨r3, e3, hs⟩ : ∃ r, _ = some r ∧ Hidden (r = rs) := ⟨rs, hs, rfl⟩
      refine (pr_c hE g hg q (t :: r) d hd fl r3 e3 _ hP2).mono ?_
      clear e3
      rcases r3 with ⟨x, ts3⟩ | ⟨p, c⟩
      rotate_left
      · obtain rfl : .er p c = rs := hs
        rintro e W3 ⟨rfl, f3⟩
        unfold gP
        go_wp2_with fail
        exact ⟨rfl, rfl, g2.same f3⟩
      rintro e W3 ⟨v3, rfl, ⟨ao, cap, rfl, hN⟩, hQ3, f3⟩
      have g3 := g2.same f3
      have s3 := f3.size
      have t3 := g3.size
      have hP3 : Hidden (Ps W3 q ts3 d false) := hQ3
      clear hQ3
      have hb0_3 : Hidden (W3.heap[w.heap.size]? = some (ex0)) := f3.heap hb0_2 (by omega)
      obtain rfl : .ok x ts3 = rs := hs
      obtain ⟨b0c0, b0c1, b0c2, b0c3, b0c4, b0c5, b0c6, b0z0, b0z1, b0z2, b0z3, b0z4, b0z5, b0z6⟩ := box7 hb0_3
      go_wp2_with fail
      have fs := set7_fr W3 w.heap.size (ci x.1.kind) (ci x.1.op) (ct x.1.mod) (ct x.1.name) (ci x.1.vt) (.int .u64 x.1.vb) (.slice ao x.2.len cap)
      exact post_ex hb0_3 rfl rfl rfl ⟨_, rfl, ⟨ao, cap, rfl, (hN.step fs (fun k hk => by subst hk; omega)).weak (by omega)⟩, Ps.high hP3 fs (fun k hk => by subst hk; exact hq), g3.over fs (fun k hk => by subst hk; exact Nat.le_refl _)⟩
include hE in
theorem un_c (g : Nat) (hg : g ≤ 3000) : ∀ f, CU E g f
  | 0 => fun fl d ts rs q w hd hs h => by simp [Pz.un] at hs
  | f + 1 => un_step hE g f hg (un_c g hg f)
end
set_option maxRecDepth 20000 in
set_option maxHeartbeats 2000000 in
theorem op_c (x : Bs) (w : World) : Calls Tryz.prog 54 #[ct x] w fun e w' => e = .returned (.tuple #[ci (Pz.opOf x).1, ci ((Pz.opOf x).2 : Int)]) ∧ w' = w := by
  go_enter Tryz.func54, Tryz.ntmps54
  go_wp2
  all_goals (go_ret2; refine ⟨?_, rfl⟩)
  all_goals (simp only [beq_iff_eq, beq_eq_false_iff_ne, ne_eq] at *)
  all_goals (simp [Pz.opOf, *])
end Go.Proofs.YtpkaekokkhecmaaGreatDoor
