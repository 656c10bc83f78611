/- The program's parser: a statement, a block. -/
import Derived.Test.YtpkaekokkhecmaaGreatDoorPwH
namespace Go.Proofs.YtpkaekokkhecmaaGreatDoor
open Go.RowKit Lx Te
set_option linter.unusedSimpArgs false
set_option linter.unusedVariables false
set_option linter.unusedSectionVars false

section
variable {E : Nat → List Tok → Pz.Ou Pz.Ex} (hE : CE0 E) {C : Nat → Pz.Ex → List Tok → Pz.Ou Pz.Ex} (hC : CC0 C) {B : Nat → List Tok → Pz.Ou Sts} (hB : CB0 B)
include hE hC hB

set_option maxRecDepth 20000 in
set_option maxHeartbeats 1000000 in
theorem stm_name (q : Nat) (t : Tok) (r : List Tok) (d : Nat) (hd : d ≤ 32) (rs : Pz.Rs Pz.St) (hk : t.k = 1) (hs : Hidden (Pz.stm E C B d (t :: r) = some rs)) (w : World) (h : Ps w q (t :: r) d false) :
    Calls Tryz.prog 126 #[pp q] w (Out TS q d w rs) := by
  have hf0 := fld0
  have k1 : ((t.k : Int) == 1) = true := by rw [hk]; rfl
  replace hs : Hidden (Pz.named E C d (t :: r) = some rs) := by
    have hs1 : Pz.stm E C B d (t :: r) = some rs := hs
    rw [Pz.stm, if_pos hk] at hs1
    exact hs1
  clear hk
  have hq := h.lt
  have f0 := Fr.alloc (fun _ => False) w st0
  have g0 : Fr (fun k => k = q) w (w.alloc st0) := frq f0
  have hP0 : Hidden (Ps (w.alloc st0) q (t :: r) d false) := h.keepN f0
  have hb0 : Hidden ((w.alloc st0).heap[w.heap.size]? = some st0) := alloc_new _ _
  clear h
  go_enter Tryz.func126, Tryz.ntmps126
  go_wp2_with fail
  go_at_call 55
  refine (next_any q t r d false _ hP0).mono ?_
  rintro e W1 ⟨rfl, F1⟩
  have f1 : Fr (fun k => k = q) _ W1 := frq F1
  have hQ1 := Ps.keepN hP0 F1
  have g1 := g0.same f1
  have s1 := f1.size
  have t1 := g1.size
  have hP1 : Hidden (Ps W1 q (t :: r) d false) := hQ1
  clear hQ1
  simp only [World.size_alloc] at s1
  have hb0_1 : Hidden (W1.heap[w.heap.size]? = some (st0)) := f1.heap hb0 (by omega)
  go_wp2_with fail
  go_at_call 139
  obtain ⟨r2, e2, hs⟩ : ∃ r, _ = some r ∧ Hidden (r = rs) := ⟨rs, hs, rfl⟩
  refine (named_c hE hC q (t :: r) d hd r2 e2 _ hP1).mono ?_
  clear e2
  rcases r2 with ⟨s, ts2⟩ | ⟨p, c⟩
  rotate_left
  · obtain rfl : .er p c = rs := hs
    rintro e W2 ⟨rfl, f2⟩
    unfold gP
    go_wp2_with fail
    exact ⟨rfl, rfl, g1.same f2⟩
  rintro e W2 ⟨v2, rfl, ⟨ao1, cap1, ao2, cap2, ao3, cap3, rfl, hM⟩, hQ2, f2⟩
  have g2 := g1.same f2
  have s2 := f2.size
  have t2 := g2.size
  have hP2 : Hidden (Ps W2 q ts2 d false) := hQ2
  clear hQ2
  have hb0_2 : Hidden (W2.heap[w.heap.size]? = some (st0)) := f2.heap hb0_1 (by omega)
  obtain rfl : .ok s ts2 = rs := hs
  obtain ⟨b0c0, b0c1, b0c2, b0c3, b0c4, b0z0, b0z1, b0z2, b0z3, b0z4⟩ := box5 hb0_2
  go_wp2_with fail
  have fs := set5_fr W2 w.heap.size (ci s.1.kind) (ct s.1.name) (.slice ao1 s.2.1.len cap1) (.slice ao2 s.2.2.1.len cap2) (.slice ao3 s.2.2.2.len cap3)
  exact post_st hb0_2 rfl rfl rfl ⟨_, rfl, ⟨ao1, cap1, ao2, cap2, ao3, cap3, rfl, (hM.step fs (fun k hk => by subst hk; omega)).weak (by omega)⟩, Ps.high hP2 fs (fun k hk => by subst hk; exact hq), g2.over fs (fun k hk => by subst hk; exact Nat.le_refl _)⟩

set_option maxRecDepth 20000 in
set_option maxHeartbeats 1000000 in
theorem stm_let (q : Nat) (t : Tok) (r : List Tok) (d : Nat) (hd : d ≤ 32) (rs : Pz.Rs Pz.St) (n1 : t.k ≠ 1) (hx : t.x = [108, 101, 116]) (hs : Hidden (Pz.stm E C B d (t :: r) = some rs)) (w : World) (h : Ps w q (t :: r) d false) :
    Calls Tryz.prog 126 #[pp q] w (Out TS q d w rs) := by
  have hf0 := fld0
  have k1 : ((t.k : Int) == 1) = false := by rw [beq_eq_false_iff_ne]; omega
  replace hs : Hidden (Pz.bd (Pz.name false r) (fun n ts => Pz.asg E d 1 n ts) = some rs) := by
    have hs1 : Pz.stm E C B d (t :: r) = some rs := hs
    rw [Pz.stm, if_neg n1, if_pos hx] at hs1
    exact hs1
  clear n1
  have hq := h.lt
  have f0 := Fr.alloc (fun _ => False) w st0
  have g0 : Fr (fun k => k = q) w (w.alloc st0) := frq f0
  have hP0 : Hidden (Ps (w.alloc st0) q (t :: r) d false) := h.keepN f0
  have hb0 : Hidden ((w.alloc st0).heap[w.heap.size]? = some st0) := alloc_new _ _
  clear h
  go_enter Tryz.func126, Tryz.ntmps126
  go_wp2_with fail
  go_at_call 55
  refine (next_any q t r d false _ hP0).mono ?_
  rintro e W1 ⟨rfl, F1⟩
  have f1 : Fr (fun k => k = q) _ W1 := frq F1
  have hQ1 := Ps.keepN hP0 F1
  have g1 := g0.same f1
  have s1 := f1.size
  have t1 := g1.size
  have hP1 : Hidden (Ps W1 q (t :: r) d false) := hQ1
  clear hQ1
  simp only [World.size_alloc] at s1
  have hb0_1 : Hidden (W1.heap[w.heap.size]? = some (st0)) := f1.heap hb0 (by omega)
  go_wp2_with fail
  go_at_call 80
  refine (has_yes q [108, 101, 116] t r d hx _ hP1).mono ?_
  rintro e W2 ⟨rfl, hQ2, f2⟩
  have g2 := g1.same f2
  have s2 := f2.size
  have t2 := g2.size
  have hP2 : Hidden (Ps W2 q r d false) := hQ2
  clear hQ2
  have hb0_2 : Hidden (W2.heap[w.heap.size]? = some (st0)) := f2.heap hb0_1 (by omega)
  clear hx
  go_wp2_with fail
  go_at_call 45
  obtain ⟨r3, e3, hs⟩ := Pz.bd_some hs
  refine (name_c q r d false r3 e3 _ hP2).mono ?_
  clear e3
  rcases r3 with ⟨n, ts3⟩ | ⟨p, c⟩
  rotate_left
  · obtain rfl : rs = .er p c := hs
    rintro e W3 ⟨rfl, f3⟩
    unfold gP
    go_wp2_with fail
    exact ⟨rfl, rfl, g2.same f3⟩
  rintro e W3 ⟨v3, rfl, rfl, hQ3, f3⟩
  have g3 := g2.same f3
  have s3 := f3.size
  have t3 := g3.size
  have hP3 : Hidden (Ps W3 q ts3 d false) := hQ3
  clear hQ3
  have hb0_3 : Hidden (W3.heap[w.heap.size]? = some (st0)) := f3.heap hb0_2 (by omega)
  go_wp2_with fail
  go_at_call 140
  obtain ⟨r4, e4, hs⟩ : ∃ r, _ = some r ∧ Hidden (r = rs) := ⟨rs, hs, rfl⟩
  refine (asg_c hE q 1 n ts3 d hd r4 e4 _ hP3).mono ?_
  clear e4
  rcases r4 with ⟨s, ts4⟩ | ⟨p, c⟩
  rotate_left
  · obtain rfl : .er p c = rs := hs
    rintro e W4 ⟨rfl, f4⟩
    unfold gP
    go_wp2_with fail
    exact ⟨rfl, rfl, g3.same f4⟩
  rintro e W4 ⟨v4, rfl, ⟨ao1, cap1, ao2, cap2, ao3, cap3, rfl, hM⟩, hQ4, f4⟩
  have g4 := g3.same f4
  have s4 := f4.size
  have t4 := g4.size
  have hP4 : Hidden (Ps W4 q ts4 d false) := hQ4
  clear hQ4
  have hb0_4 : Hidden (W4.heap[w.heap.size]? = some (st0)) := f4.heap hb0_3 (by omega)
  obtain rfl : .ok s ts4 = rs := hs
  obtain ⟨b0c0, b0c1, b0c2, b0c3, b0c4, b0z0, b0z1, b0z2, b0z3, b0z4⟩ := box5 hb0_4
  go_wp2_with fail
  have fs := set5_fr W4 w.heap.size (ci s.1.kind) (ct s.1.name) (.slice ao1 s.2.1.len cap1) (.slice ao2 s.2.2.1.len cap2) (.slice ao3 s.2.2.2.len cap3)
  exact post_st hb0_4 rfl rfl rfl ⟨_, rfl, ⟨ao1, cap1, ao2, cap2, ao3, cap3, rfl, (hM.step fs (fun k hk => by subst hk; omega)).weak (by omega)⟩, Ps.high hP4 fs (fun k hk => by subst hk; exact hq), g4.over fs (fun k hk => by subst hk; exact Nat.le_refl _)⟩

set_option maxRecDepth 20000 in
set_option maxHeartbeats 1000000 in
theorem stm_if (q : Nat) (t : Tok) (r : List Tok) (d : Nat) (hd : d ≤ 32) (rs : Pz.Rs Pz.St) (n1 : t.k ≠ 1) (hx : t.x = [105, 102]) (hs : Hidden (Pz.stm E C B d (t :: r) = some rs)) (w : World) (h : Ps w q (t :: r) d false) :
    Calls Tryz.prog 126 #[pp q] w (Out TS q d w rs) := by
  have hf0 := fld0
  have k1 : ((t.k : Int) == 1) = false := by rw [beq_eq_false_iff_ne]; omega
  have h_let : t.x ≠ [108, 101, 116] := by rw [hx]; decide
  replace hs : Hidden (Pz.branch E B d r = some rs) := by
    have hs1 : Pz.stm E C B d (t :: r) = some rs := hs
    rw [Pz.stm, if_neg n1, if_neg h_let, if_pos hx] at hs1
    exact hs1
  clear n1
  have hq := h.lt
  have f0 := Fr.alloc (fun _ => False) w st0
  have g0 : Fr (fun k => k = q) w (w.alloc st0) := frq f0
  have hP0 : Hidden (Ps (w.alloc st0) q (t :: r) d false) := h.keepN f0
  have hb0 : Hidden ((w.alloc st0).heap[w.heap.size]? = some st0) := alloc_new _ _
  clear h
  go_enter Tryz.func126, Tryz.ntmps126
  go_wp2_with fail
  go_at_call 55
  refine (next_any q t r d false _ hP0).mono ?_
  rintro e W1 ⟨rfl, F1⟩
  have f1 : Fr (fun k => k = q) _ W1 := frq F1
  have hQ1 := Ps.keepN hP0 F1
  have g1 := g0.same f1
  have s1 := f1.size
  have t1 := g1.size
  have hP1 : Hidden (Ps W1 q (t :: r) d false) := hQ1
  clear hQ1
  simp only [World.size_alloc] at s1
  have hb0_1 : Hidden (W1.heap[w.heap.size]? = some (st0)) := f1.heap hb0 (by omega)
  go_wp2_with fail
  go_at_call 80
  refine (has_no q [108, 101, 116] t r d false h_let _ hP1).mono ?_
  rintro e W2 ⟨rfl, F2⟩
  have f2 : Fr (fun k => k = q) _ W2 := frq F2
  have hQ2 := Ps.keepN hP1 F2
  have g2 := g1.same f2
  have s2 := f2.size
  have t2 := g2.size
  have hP2 : Hidden (Ps W2 q (t :: r) d false) := hQ2
  clear hQ2
  have hb0_2 : Hidden (W2.heap[w.heap.size]? = some (st0)) := f2.heap hb0_1 (by omega)
  go_wp2_with fail
  go_at_call 80
  refine (has_yes q [105, 102] t r d hx _ hP2).mono ?_
  rintro e W3 ⟨rfl, hQ3, f3⟩
  have g3 := g2.same f3
  have s3 := f3.size
  have t3 := g3.size
  have hP3 : Hidden (Ps W3 q r d false) := hQ3
  clear hQ3
  have hb0_3 : Hidden (W3.heap[w.heap.size]? = some (st0)) := f3.heap hb0_2 (by omega)
  clear hx
  go_wp2_with fail
  go_at_call 141
  obtain ⟨r4, e4, hs⟩ : ∃ r, _ = some r ∧ Hidden (r = rs) := ⟨rs, hs, rfl⟩
  refine (branch_c hE hB q r d hd r4 e4 _ hP3).mono ?_
  clear e4
  rcases r4 with ⟨s, ts4⟩ | ⟨p, c⟩
  rotate_left
  · obtain rfl : .er p c = rs := hs
    rintro e W4 ⟨rfl, f4⟩
    unfold gP
    go_wp2_with fail
    exact ⟨rfl, rfl, g3.same f4⟩
  rintro e W4 ⟨v4, rfl, ⟨ao1, cap1, ao2, cap2, ao3, cap3, rfl, hM⟩, hQ4, f4⟩
  have g4 := g3.same f4
  have s4 := f4.size
  have t4 := g4.size
  have hP4 : Hidden (Ps W4 q ts4 d false) := hQ4
  clear hQ4
  have hb0_4 : Hidden (W4.heap[w.heap.size]? = some (st0)) := f4.heap hb0_3 (by omega)
  obtain rfl : .ok s ts4 = rs := hs
  obtain ⟨b0c0, b0c1, b0c2, b0c3, b0c4, b0z0, b0z1, b0z2, b0z3, b0z4⟩ := box5 hb0_4
  go_wp2_with fail
  have fs := set5_fr W4 w.heap.size (ci s.1.kind) (ct s.1.name) (.slice ao1 s.2.1.len cap1) (.slice ao2 s.2.2.1.len cap2) (.slice ao3 s.2.2.2.len cap3)
  exact post_st hb0_4 rfl rfl rfl ⟨_, rfl, ⟨ao1, cap1, ao2, cap2, ao3, cap3, rfl, (hM.step fs (fun k hk => by subst hk; omega)).weak (by omega)⟩, Ps.high hP4 fs (fun k hk => by subst hk; exact hq), g4.over fs (fun k hk => by subst hk; exact Nat.le_refl _)⟩

set_option maxRecDepth 20000 in
set_option maxHeartbeats 1000000 in
theorem stm_while (q : Nat) (t : Tok) (r : List Tok) (d : Nat) (hd : d ≤ 32) (rs : Pz.Rs Pz.St) (n1 : t.k ≠ 1) (hx : t.x = [119, 104, 105, 108, 101]) (hs : Hidden (Pz.stm E C B d (t :: r) = some rs)) (w : World) (h : Ps w q (t :: r) d false) :
    Calls Tryz.prog 126 #[pp q] w (Out TS q d w rs) := by
  have hf0 := fld0
  have k1 : ((t.k : Int) == 1) = false := by rw [beq_eq_false_iff_ne]; omega
  have h_let : t.x ≠ [108, 101, 116] := by rw [hx]; decide
  have h_if : t.x ≠ [105, 102] := by rw [hx]; decide
  replace hs : Hidden (Pz.while_ E B d r = some rs) := by
    have hs1 : Pz.stm E C B d (t :: r) = some rs := hs
    rw [Pz.stm, if_neg n1, if_neg h_let, if_neg h_if, if_pos hx] at hs1
    exact hs1
  clear n1
  have hq := h.lt
  have f0 := Fr.alloc (fun _ => False) w st0
  have g0 : Fr (fun k => k = q) w (w.alloc st0) := frq f0
  have hP0 : Hidden (Ps (w.alloc st0) q (t :: r) d false) := h.keepN f0
  have hb0 : Hidden ((w.alloc st0).heap[w.heap.size]? = some st0) := alloc_new _ _
  clear h
  go_enter Tryz.func126, Tryz.ntmps126
  go_wp2_with fail
  go_at_call 55
  refine (next_any q t r d false _ hP0).mono ?_
  rintro e W1 ⟨rfl, F1⟩
  have f1 : Fr (fun k => k = q) _ W1 := frq F1
  have hQ1 := Ps.keepN hP0 F1
  have g1 := g0.same f1
  have s1 := f1.size
  have t1 := g1.size
  have hP1 : Hidden (Ps W1 q (t :: r) d false) := hQ1
  clear hQ1
  simp only [World.size_alloc] at s1
  have hb0_1 : Hidden (W1.heap[w.heap.size]? = some (st0)) := f1.heap hb0 (by omega)
  go_wp2_with fail
  go_at_call 80
  refine (has_no q [108, 101, 116] t r d false h_let _ hP1).mono ?_
  rintro e W2 ⟨rfl, F2⟩
  have f2 : Fr (fun k => k = q) _ W2 := frq F2
  have hQ2 := Ps.keepN hP1 F2
  have g2 := g1.same f2
  have s2 := f2.size
  have t2 := g2.size
  have hP2 : Hidden (Ps W2 q (t :: r) d false) := hQ2
  clear hQ2
  have hb0_2 : Hidden (W2.heap[w.heap.size]? = some (st0)) := f2.heap hb0_1 (by omega)
  go_wp2_with fail
  go_at_call 80
  refine (has_no q [105, 102] t r d false h_if _ hP2).mono ?_
  rintro e W3 ⟨rfl, F3⟩
  have f3 : Fr (fun k => k = q) _ W3 := frq F3
  have hQ3 := Ps.keepN hP2 F3
  have g3 := g2.same f3
  have s3 := f3.size
  have t3 := g3.size
  have hP3 : Hidden (Ps W3 q (t :: r) d false) := hQ3
  clear hQ3
  have hb0_3 : Hidden (W3.heap[w.heap.size]? = some (st0)) := f3.heap hb0_2 (by omega)
  go_wp2_with fail
  go_at_call 80
  refine (has_yes q [119, 104, 105, 108, 101] t r d hx _ hP3).mono ?_
  rintro e W4 ⟨rfl, hQ4, f4⟩
  have g4 := g3.same f4
  have s4 := f4.size
  have t4 := g4.size
  have hP4 : Hidden (Ps W4 q r d false) := hQ4
  clear hQ4
  have hb0_4 : Hidden (W4.heap[w.heap.size]? = some (st0)) := f4.heap hb0_3 (by omega)
  clear hx
  go_wp2_with fail
  go_at_call 99
  obtain ⟨r5, e5, hs⟩ := Pz.bd_some hs
  refine (lone_c hE q r d hd r5 e5 _ hP4).mono ?_
  clear e5
  rcases r5 with ⟨e, ts5⟩ | ⟨p, c⟩
  rotate_left
  · obtain rfl : rs = .er p c := hs
    rintro e W5 ⟨rfl, f5⟩
    unfold gP
    go_wp2_with fail
    exact ⟨rfl, rfl, g4.same f5⟩
  rintro e W5 ⟨v5, rfl, ⟨ao, cap, rfl, hN⟩, hQ5, f5⟩
  have g5 := g4.same f5
  have s5 := f5.size
  have t5 := g5.size
  have hP5 : Hidden (Ps W5 q ts5 d false) := hQ5
  clear hQ5
  have hb0_5 : Hidden (W5.heap[w.heap.size]? = some (st0)) := f5.heap hb0_4 (by omega)
  have hZ := Nw.nz (z := W5.heap.size) (hN.weak (B' := w.heap.size + 1) (by omega)) (Nat.le_refl _)
  have fab1 := Fr.alloc (fun _ => False) W5 (.cells #[ci 4, .string ⟨#[]⟩, .slice ao e.len cap, .slice none 0 0, .slice none 0 0] 169)
  have gb1 : Fr (fun k => k = q) w (W5.alloc (.cells #[ci 4, .string ⟨#[]⟩, .slice ao e.len cap, .slice none 0 0, .slice none 0 0] 169)) := g5.same (frq fab1)
  have hPb1 : Hidden (Ps (W5.alloc (.cells #[ci 4, .string ⟨#[]⟩, .slice ao e.len cap, .slice none 0 0, .slice none 0 0] 169)) q ts5 d false) := Ps.keepN hP5 fab1
  have hnb1 : Hidden ((W5.alloc (.cells #[ci 4, .string ⟨#[]⟩, .slice ao e.len cap, .slice none 0 0, .slice none 0 0] 169)).heap[W5.heap.size]? = some (.cells #[ci 4, .string ⟨#[]⟩, .slice ao e.len cap, .slice none 0 0, .slice none 0 0] 169)) := alloc_new _ _
  have hb0_b1 : Hidden ((W5.alloc (.cells #[ci 4, .string ⟨#[]⟩, .slice ao e.len cap, .slice none 0 0, .slice none 0 0] 169)).heap[w.heap.size]? = some (st0)) := fab1.heap hb0_5 (fun f => f)
  replace hZ := Nz.step hZ fab1 (fun _ f => f.elim)
  go_wp2_with fail
  go_at_call 102
  obtain ⟨r6, e6, hs⟩ := Pz.bd_some hs
  refine (hB d ts5 r6 q _ hd e6 hPb1).mono ?_
  clear e6
  rcases r6 with ⟨b, ts6⟩ | ⟨p, c⟩
  rotate_left
  · obtain rfl : rs = .er p c := hs
    rintro e W6 ⟨rfl, f6⟩
    unfold gP
    go_wp2_with fail
    exact ⟨rfl, rfl, gb1.same f6⟩
  rintro e W6 ⟨v6, rfl, ⟨ao2, cap2, rfl, hN2⟩, hQ6, f6⟩
  have g6 := gb1.same f6
  have s6 := f6.size
  have t6 := g6.size
  have hP6 : Hidden (Ps W6 q ts6 d false) := hQ6
  clear hQ6
  simp only [World.size_alloc] at s6
  have hb0_6 : Hidden (W6.heap[w.heap.size]? = some (st0)) := f6.heap hb0_b1 (by omega)
  have hb1_6 : Hidden (W6.heap[W5.heap.size]? = some (.cells #[ci 4, .string ⟨#[]⟩, .slice ao e.len cap, .slice none 0 0, .slice none 0 0] 169)) := f6.heap hnb1 (by omega)
  replace hZ := Nz.step hZ f6 (fun k hk => by subst hk; omega)
  simp only [World.size_alloc] at hN2
  have hZ2 := Nw.old (z := W5.heap.size) (B' := w.heap.size + 1) hN2 (by omega) (by omega)
  obtain rfl : rs = .ok (⟨4, []⟩, e, b, .nil) ts6 := (Option.some.inj (show some _ = some rs from hs)).symm
  obtain ⟨b1c0, b1c1, b1c2, b1c3, b1c4, b1z0, b1z1, b1z2, b1z3, b1z4⟩ := box5 hb1_6
  go_upto_region 10 with fail
  have f7 := Fr.put W6 (W5.heap.size) 3 (.slice ao2 b.len cap2)
  have hbb1_7 : (W6.setCell ⟨W5.heap.size, 3, none⟩ (.slice ao2 b.len cap2)).heap[W5.heap.size]? = some (.cells #[ci 4, .string ⟨#[]⟩, .slice ao e.len cap, .slice ao2 b.len cap2, .slice none 0 0] 169) := heap_setCell_same _ _ 3 _ _ _ hb1_6
  have hob0_7 : (W6.setCell ⟨W5.heap.size, 3, none⟩ (.slice ao2 b.len cap2)).heap[w.heap.size]? = some (st0) := f7.heap hb0_6 (by omega)
  have hP7 : Hidden (Ps (W6.setCell ⟨W5.heap.size, 3, none⟩ (.slice ao2 b.len cap2)) q ts6 d false) := Ps.high hP6 f7 (fun k hk => by subst hk; omega)
  have g7 : Fr (fun k => k = q) w (W6.setCell ⟨W5.heap.size, 3, none⟩ (.slice ao2 b.len cap2)) := g6.over f7 (fun k hk => by subst hk; omega)
  have t7 := g7.size
  have s7 := f7.size
  replace hZ := Nz.step hZ f7 (fun k hk => by subst hk; omega)
  replace hZ2 := Nz.step hZ2 f7 (fun k hk => by subst hk; omega)
  generalize (W6.setCell ⟨W5.heap.size, 3, none⟩ (.slice ao2 b.len cap2)) = W7 at f7 hbb1_7 hob0_7 hP7 g7 t7 s7 hZ hZ2 ⊢
  clear b1c0 b1c1 b1c2 b1c3 b1c4 b1z0 b1z1 b1z2 b1z3 b1z4
  have hhb0_7 : Hidden (W7.heap[w.heap.size]? = some (st0)) := hob0_7
  clear hob0_7
  have hhb1_7 : Hidden (W7.heap[W5.heap.size]? = some (.cells #[ci 4, .string ⟨#[]⟩, .slice ao e.len cap, .slice ao2 b.len cap2, .slice none 0 0] 169)) := hbb1_7
  clear hbb1_7
  obtain ⟨b0c0, b0c1, b0c2, b0c3, b0c4, b0z0, b0z1, b0z2, b0z3, b0z4⟩ := box5 hhb0_7
  obtain ⟨b1c0, b1c1, b1c2, b1c3, b1c4, b1z0, b1z1, b1z2, b1z3, b1z4⟩ := box5 hhb1_7
  go_wp2_with fail
  have fs := set5_fr W7 w.heap.size (ci 4) (.string ⟨#[]⟩) (.slice ao e.len cap) (.slice ao2 b.len cap2) (.slice none 0 0)
  exact post_st hhb0_7 rfl rfl rfl ⟨_, rfl, ⟨ao, cap, ao2, cap2, none, 0, rfl, fun w2 hf => ⟨((hZ.nw.step fs (fun k hk => by subst hk; omega)).weak (by omega)) w2 hf, ((hZ2.nw.step fs (fun k hk => by subst hk; omega)).weak (by omega)) w2 hf, stnil _⟩⟩, Ps.high hP7 fs (fun k hk => by subst hk; exact hq), g7.over fs (fun k hk => by subst hk; exact Nat.le_refl _)⟩

set_option maxRecDepth 20000 in
set_option maxHeartbeats 1000000 in
theorem stm_return (q : Nat) (t : Tok) (r : List Tok) (d : Nat) (hd : d ≤ 32) (rs : Pz.Rs Pz.St) (n1 : t.k ≠ 1) (hx : t.x = [114, 101, 116, 117, 114, 110]) (hs : Hidden (Pz.stm E C B d (t :: r) = some rs)) (w : World) (h : Ps w q (t :: r) d false) :
    Calls Tryz.prog 126 #[pp q] w (Out TS q d w rs) := by
  have hf0 := fld0
  have k1 : ((t.k : Int) == 1) = false := by rw [beq_eq_false_iff_ne]; omega
  have h_let : t.x ≠ [108, 101, 116] := by rw [hx]; decide
  have h_if : t.x ≠ [105, 102] := by rw [hx]; decide
  have h_while : t.x ≠ [119, 104, 105, 108, 101] := by rw [hx]; decide
  replace hs : Hidden (Pz.returned E d r = some rs) := by
    have hs1 : Pz.stm E C B d (t :: r) = some rs := hs
    rw [Pz.stm, if_neg n1, if_neg h_let, if_neg h_if, if_neg h_while, if_pos hx] at hs1
    exact hs1
  clear n1
  have hq := h.lt
  have f0 := Fr.alloc (fun _ => False) w st0
  have g0 : Fr (fun k => k = q) w (w.alloc st0) := frq f0
  have hP0 : Hidden (Ps (w.alloc st0) q (t :: r) d false) := h.keepN f0
  have hb0 : Hidden ((w.alloc st0).heap[w.heap.size]? = some st0) := alloc_new _ _
  clear h
  go_enter Tryz.func126, Tryz.ntmps126
  go_wp2_with fail
  go_at_call 55
  refine (next_any q t r d false _ hP0).mono ?_
  rintro e W1 ⟨rfl, F1⟩
  have f1 : Fr (fun k => k = q) _ W1 := frq F1
  have hQ1 := Ps.keepN hP0 F1
  have g1 := g0.same f1
  have s1 := f1.size
  have t1 := g1.size
  have hP1 : Hidden (Ps W1 q (t :: r) d false) := hQ1
  clear hQ1
  simp only [World.size_alloc] at s1
  have hb0_1 : Hidden (W1.heap[w.heap.size]? = some (st0)) := f1.heap hb0 (by omega)
  go_wp2_with fail
  go_at_call 80
  refine (has_no q [108, 101, 116] t r d false h_let _ hP1).mono ?_
  rintro e W2 ⟨rfl, F2⟩
  have f2 : Fr (fun k => k = q) _ W2 := frq F2
  have hQ2 := Ps.keepN hP1 F2
  have g2 := g1.same f2
  have s2 := f2.size
  have t2 := g2.size
  have hP2 : Hidden (Ps W2 q (t :: r) d false) := hQ2
  clear hQ2
  have hb0_2 : Hidden (W2.heap[w.heap.size]? = some (st0)) := f2.heap hb0_1 (by omega)
  go_wp2_with fail
  go_at_call 80
  refine (has_no q [105, 102] t r d false h_if _ hP2).mono ?_
  rintro e W3 ⟨rfl, F3⟩
  have f3 : Fr (fun k => k = q) _ W3 := frq F3
  have hQ3 := Ps.keepN hP2 F3
  have g3 := g2.same f3
  have s3 := f3.size
  have t3 := g3.size
  have hP3 : Hidden (Ps W3 q (t :: r) d false) := hQ3
  clear hQ3
  have hb0_3 : Hidden (W3.heap[w.heap.size]? = some (st0)) := f3.heap hb0_2 (by omega)
  go_wp2_with fail
  go_at_call 80
  refine (has_no q [119, 104, 105, 108, 101] t r d false h_while _ hP3).mono ?_
  rintro e W4 ⟨rfl, F4⟩
  have f4 : Fr (fun k => k = q) _ W4 := frq F4
  have hQ4 := Ps.keepN hP3 F4
  have g4 := g3.same f4
  have s4 := f4.size
  have t4 := g4.size
  have hP4 : Hidden (Ps W4 q (t :: r) d false) := hQ4
  clear hQ4
  have hb0_4 : Hidden (W4.heap[w.heap.size]? = some (st0)) := f4.heap hb0_3 (by omega)
  go_wp2_with fail
  go_at_call 80
  refine (has_yes q [114, 101, 116, 117, 114, 110] t r d hx _ hP4).mono ?_
  rintro e W5 ⟨rfl, hQ5, f5⟩
  have g5 := g4.same f5
  have s5 := f5.size
  have t5 := g5.size
  have hP5 : Hidden (Ps W5 q r d false) := hQ5
  clear hQ5
  have hb0_5 : Hidden (W5.heap[w.heap.size]? = some (st0)) := f5.heap hb0_4 (by omega)
  clear hx
  go_wp2_with fail
  go_at_call 142
  obtain ⟨r6, e6, hs⟩ : ∃ r, _ = some r ∧ Hidden (r = rs) := ⟨rs, hs, rfl⟩
  refine (returned_c hE q r d hd r6 e6 _ hP5).mono ?_
  clear e6
  rcases r6 with ⟨s, ts6⟩ | ⟨p, c⟩
  rotate_left
  · obtain rfl : .er p c = rs := hs
    rintro e W6 ⟨rfl, f6⟩
    unfold gP
    go_wp2_with fail
    exact ⟨rfl, rfl, g5.same f6⟩
  rintro e W6 ⟨v6, rfl, ⟨ao1, cap1, ao2, cap2, ao3, cap3, rfl, hM⟩, hQ6, f6⟩
  have g6 := g5.same f6
  have s6 := f6.size
  have t6 := g6.size
  have hP6 : Hidden (Ps W6 q ts6 d false) := hQ6
  clear hQ6
  have hb0_6 : Hidden (W6.heap[w.heap.size]? = some (st0)) := f6.heap hb0_5 (by omega)
  obtain rfl : .ok s ts6 = rs := hs
  obtain ⟨b0c0, b0c1, b0c2, b0c3, b0c4, b0z0, b0z1, b0z2, b0z3, b0z4⟩ := box5 hb0_6
  go_wp2_with fail
  have fs := set5_fr W6 w.heap.size (ci s.1.kind) (ct s.1.name) (.slice ao1 s.2.1.len cap1) (.slice ao2 s.2.2.1.len cap2) (.slice ao3 s.2.2.2.len cap3)
  exact post_st hb0_6 rfl rfl rfl ⟨_, rfl, ⟨ao1, cap1, ao2, cap2, ao3, cap3, rfl, (hM.step fs (fun k hk => by subst hk; omega)).weak (by omega)⟩, Ps.high hP6 fs (fun k hk => by subst hk; exact hq), g6.over fs (fun k hk => by subst hk; exact Nat.le_refl _)⟩

set_option maxRecDepth 20000 in
set_option maxHeartbeats 1000000 in
theorem stm_show (q : Nat) (t : Tok) (r : List Tok) (d : Nat) (hd : d ≤ 32) (rs : Pz.Rs Pz.St) (n1 : t.k ≠ 1) (hx : t.x = [115, 104, 111, 119]) (hs : Hidden (Pz.stm E C B d (t :: r) = some rs)) (w : World) (h : Ps w q (t :: r) d false) :
    Calls Tryz.prog 126 #[pp q] w (Out TS q d w rs) := by
  have hf0 := fld0
  have k1 : ((t.k : Int) == 1) = false := by rw [beq_eq_false_iff_ne]; omega
  have h_let : t.x ≠ [108, 101, 116] := by rw [hx]; decide
  have h_if : t.x ≠ [105, 102] := by rw [hx]; decide
  have h_while : t.x ≠ [119, 104, 105, 108, 101] := by rw [hx]; decide
  have h_return : t.x ≠ [114, 101, 116, 117, 114, 110] := by rw [hx]; decide
  replace hs : Hidden (Pz.bd (Pz.lone E d r) (fun e ts => Pz.ended 6 [] e ts) = some rs) := by
    have hs1 : Pz.stm E C B d (t :: r) = some rs := hs
    rw [Pz.stm, if_neg n1, if_neg h_let, if_neg h_if, if_neg h_while, if_neg h_return, if_pos hx] at hs1
    exact hs1
  clear n1
  have hq := h.lt
  have f0 := Fr.alloc (fun _ => False) w st0
  have g0 : Fr (fun k => k = q) w (w.alloc st0) := frq f0
  have hP0 : Hidden (Ps (w.alloc st0) q (t :: r) d false) := h.keepN f0
  have hb0 : Hidden ((w.alloc st0).heap[w.heap.size]? = some st0) := alloc_new _ _
  clear h
  go_enter Tryz.func126, Tryz.ntmps126
  go_wp2_with fail
  go_at_call 55
  refine (next_any q t r d false _ hP0).mono ?_
  rintro e W1 ⟨rfl, F1⟩
  have f1 : Fr (fun k => k = q) _ W1 := frq F1
  have hQ1 := Ps.keepN hP0 F1
  have g1 := g0.same f1
  have s1 := f1.size
  have t1 := g1.size
  have hP1 : Hidden (Ps W1 q (t :: r) d false) := hQ1
  clear hQ1
  simp only [World.size_alloc] at s1
  have hb0_1 : Hidden (W1.heap[w.heap.size]? = some (st0)) := f1.heap hb0 (by omega)
  go_wp2_with fail
  go_at_call 80
  refine (has_no q [108, 101, 116] t r d false h_let _ hP1).mono ?_
  rintro e W2 ⟨rfl, F2⟩
  have f2 : Fr (fun k => k = q) _ W2 := frq F2
  have hQ2 := Ps.keepN hP1 F2
  have g2 := g1.same f2
  have s2 := f2.size
  have t2 := g2.size
  have hP2 : Hidden (Ps W2 q (t :: r) d false) := hQ2
  clear hQ2
  have hb0_2 : Hidden (W2.heap[w.heap.size]? = some (st0)) := f2.heap hb0_1 (by omega)
  go_wp2_with fail
  go_at_call 80
  refine (has_no q [105, 102] t r d false h_if _ hP2).mono ?_
  rintro e W3 ⟨rfl, F3⟩
  have f3 : Fr (fun k => k = q) _ W3 := frq F3
  have hQ3 := Ps.keepN hP2 F3
  have g3 := g2.same f3
  have s3 := f3.size
  have t3 := g3.size
  have hP3 : Hidden (Ps W3 q (t :: r) d false) := hQ3
  clear hQ3
  have hb0_3 : Hidden (W3.heap[w.heap.size]? = some (st0)) := f3.heap hb0_2 (by omega)
  go_wp2_with fail
  go_at_call 80
  refine (has_no q [119, 104, 105, 108, 101] t r d false h_while _ hP3).mono ?_
  rintro e W4 ⟨rfl, F4⟩
  have f4 : Fr (fun k => k = q) _ W4 := frq F4
  have hQ4 := Ps.keepN hP3 F4
  have g4 := g3.same f4
  have s4 := f4.size
  have t4 := g4.size
  have hP4 : Hidden (Ps W4 q (t :: r) d false) := hQ4
  clear hQ4
  have hb0_4 : Hidden (W4.heap[w.heap.size]? = some (st0)) := f4.heap hb0_3 (by omega)
  go_wp2_with fail
  go_at_call 80
  refine (has_no q [114, 101, 116, 117, 114, 110] t r d false h_return _ hP4).mono ?_
  rintro e W5 ⟨rfl, F5⟩
  have f5 : Fr (fun k => k = q) _ W5 := frq F5
  have hQ5 := Ps.keepN hP4 F5
  have g5 := g4.same f5
  have s5 := f5.size
  have t5 := g5.size
  have hP5 : Hidden (Ps W5 q (t :: r) d false) := hQ5
  clear hQ5
  have hb0_5 : Hidden (W5.heap[w.heap.size]? = some (st0)) := f5.heap hb0_4 (by omega)
  go_wp2_with fail
  go_at_call 80
  refine (has_yes q [115, 104, 111, 119] t r d hx _ hP5).mono ?_
  rintro e W6 ⟨rfl, hQ6, f6⟩
  have g6 := g5.same f6
  have s6 := f6.size
  have t6 := g6.size
  have hP6 : Hidden (Ps W6 q r d false) := hQ6
  clear hQ6
  have hb0_6 : Hidden (W6.heap[w.heap.size]? = some (st0)) := f6.heap hb0_5 (by omega)
  clear hx
  go_wp2_with fail
  go_at_call 99
  obtain ⟨r7, e7, hs⟩ := Pz.bd_some hs
  refine (lone_c hE q r d hd r7 e7 _ hP6).mono ?_
  clear e7
  rcases r7 with ⟨e, ts7⟩ | ⟨p, c⟩
  rotate_left
  · obtain rfl : rs = .er p c := hs
    rintro e W7 ⟨rfl, f7⟩
    unfold gP
    go_wp2_with fail
    exact ⟨rfl, rfl, g6.same f7⟩
  rintro e W7 ⟨v7, rfl, ⟨ao, cap, rfl, hN⟩, hQ7, f7⟩
  have g7 := g6.same f7
  have s7 := f7.size
  have t7 := g7.size
  have hP7 : Hidden (Ps W7 q ts7 d false) := hQ7
  clear hQ7
  have hb0_7 : Hidden (W7.heap[w.heap.size]? = some (st0)) := f7.heap hb0_6 (by omega)
  go_wp2_with fail
  go_at_call 143
  obtain ⟨r8, e8, hs⟩ := Pz.bd_some hs
  refine (ended_c q 6 (.slice ao e.len cap) ⟨_, _, _, rfl⟩ ts7 d r8 e8 _ hP7).mono ?_
  clear e8
  rcases r8 with ⟨u, ts8⟩ | ⟨p, c⟩
  rotate_left
  · obtain rfl : rs = .er p c := hs
    rintro e W8 ⟨rfl, f8⟩
    unfold gP
    go_wp2_with fail
    exact ⟨rfl, rfl, g7.same f8⟩
  rintro e W8 ⟨v8, rfl, rfl, hQ8, f8⟩
  have g8 := g7.same f8
  have s8 := f8.size
  have t8 := g8.size
  have hP8 : Hidden (Ps W8 q ts8 d false) := hQ8
  clear hQ8
  have hb0_8 : Hidden (W8.heap[w.heap.size]? = some (st0)) := f8.heap hb0_7 (by omega)
  obtain rfl : rs = .ok (⟨6, []⟩, e, .nil, .nil) ts8 := (Option.some.inj (show some _ = some rs from hs)).symm
  obtain ⟨b0c0, b0c1, b0c2, b0c3, b0c4, b0z0, b0z1, b0z2, b0z3, b0z4⟩ := box5 hb0_8
  have hM := hN.step f8 (fun k hk => by subst hk; omega)
  go_wp2_with fail
  have fs := set5_fr W8 w.heap.size (ci 6) (.string ⟨#[]⟩) (.slice ao e.len cap) (.slice none 0 0) (.slice none 0 0)
  exact post_st hb0_8 rfl rfl rfl ⟨_, rfl, ⟨ao, cap, none, 0, none, 0, rfl, fun w2 hf => ⟨((hM.step fs (fun k hk => by subst hk; omega)).weak (by omega)) w2 hf, stnil _, stnil _⟩⟩, Ps.high hP8 fs (fun k hk => by subst hk; exact hq), g8.over fs (fun k hk => by subst hk; exact Nat.le_refl _)⟩

set_option maxRecDepth 20000 in
set_option maxHeartbeats 1000000 in
theorem stm_fail (q : Nat) (t : Tok) (r : List Tok) (d : Nat) (hd : d ≤ 32) (rs : Pz.Rs Pz.St) (n1 : t.k ≠ 1) (hx : t.x = [102, 97, 105, 108]) (hs : Hidden (Pz.stm E C B d (t :: r) = some rs)) (w : World) (h : Ps w q (t :: r) d false) :
    Calls Tryz.prog 126 #[pp q] w (Out TS q d w rs) := by
  have hf0 := fld0
  have k1 : ((t.k : Int) == 1) = false := by rw [beq_eq_false_iff_ne]; omega
  have h_let : t.x ≠ [108, 101, 116] := by rw [hx]; decide
  have h_if : t.x ≠ [105, 102] := by rw [hx]; decide
  have h_while : t.x ≠ [119, 104, 105, 108, 101] := by rw [hx]; decide
  have h_return : t.x ≠ [114, 101, 116, 117, 114, 110] := by rw [hx]; decide
  have h_show : t.x ≠ [115, 104, 111, 119] := by rw [hx]; decide
  replace hs : Hidden (Pz.bd (Pz.lone E d r) (fun e ts => Pz.ended 7 [] e ts) = some rs) := by
    have hs1 : Pz.stm E C B d (t :: r) = some rs := hs
    rw [Pz.stm, if_neg n1, if_neg h_let, if_neg h_if, if_neg h_while, if_neg h_return, if_neg h_show, if_pos hx] at hs1
    exact hs1
  clear n1
  have hq := h.lt
  have f0 := Fr.alloc (fun _ => False) w st0
  have g0 : Fr (fun k => k = q) w (w.alloc st0) := frq f0
  have hP0 : Hidden (Ps (w.alloc st0) q (t :: r) d false) := h.keepN f0
  have hb0 : Hidden ((w.alloc st0).heap[w.heap.size]? = some st0) := alloc_new _ _
  clear h
  go_enter Tryz.func126, Tryz.ntmps126
  go_wp2_with fail
  go_at_call 55
  refine (next_any q t r d false _ hP0).mono ?_
  rintro e W1 ⟨rfl, F1⟩
  have f1 : Fr (fun k => k = q) _ W1 := frq F1
  have hQ1 := Ps.keepN hP0 F1
  have g1 := g0.same f1
  have s1 := f1.size
  have t1 := g1.size
  have hP1 : Hidden (Ps W1 q (t :: r) d false) := hQ1
  clear hQ1
  simp only [World.size_alloc] at s1
  have hb0_1 : Hidden (W1.heap[w.heap.size]? = some (st0)) := f1.heap hb0 (by omega)
  go_wp2_with fail
  go_at_call 80
  refine (has_no q [108, 101, 116] t r d false h_let _ hP1).mono ?_
  rintro e W2 ⟨rfl, F2⟩
  have f2 : Fr (fun k => k = q) _ W2 := frq F2
  have hQ2 := Ps.keepN hP1 F2
  have g2 := g1.same f2
  have s2 := f2.size
  have t2 := g2.size
  have hP2 : Hidden (Ps W2 q (t :: r) d false) := hQ2
  clear hQ2
  have hb0_2 : Hidden (W2.heap[w.heap.size]? = some (st0)) := f2.heap hb0_1 (by omega)
  go_wp2_with fail
  go_at_call 80
  refine (has_no q [105, 102] t r d false h_if _ hP2).mono ?_
  rintro e W3 ⟨rfl, F3⟩
  have f3 : Fr (fun k => k = q) _ W3 := frq F3
  have hQ3 := Ps.keepN hP2 F3
  have g3 := g2.same f3
  have s3 := f3.size
  have t3 := g3.size
  have hP3 : Hidden (Ps W3 q (t :: r) d false) := hQ3
  clear hQ3
  have hb0_3 : Hidden (W3.heap[w.heap.size]? = some (st0)) := f3.heap hb0_2 (by omega)
  go_wp2_with fail
  go_at_call 80
  refine (has_no q [119, 104, 105, 108, 101] t r d false h_while _ hP3).mono ?_
  rintro e W4 ⟨rfl, F4⟩
  have f4 : Fr (fun k => k = q) _ W4 := frq F4
  have hQ4 := Ps.keepN hP3 F4
  have g4 := g3.same f4
  have s4 := f4.size
  have t4 := g4.size
  have hP4 : Hidden (Ps W4 q (t :: r) d false) := hQ4
  clear hQ4
  have hb0_4 : Hidden (W4.heap[w.heap.size]? = some (st0)) := f4.heap hb0_3 (by omega)
  go_wp2_with fail
  go_at_call 80
  refine (has_no q [114, 101, 116, 117, 114, 110] t r d false h_return _ hP4).mono ?_
  rintro e W5 ⟨rfl, F5⟩
  have f5 : Fr (fun k => k = q) _ W5 := frq F5
  have hQ5 := Ps.keepN hP4 F5
  have g5 := g4.same f5
  have s5 := f5.size
  have t5 := g5.size
  have hP5 : Hidden (Ps W5 q (t :: r) d false) := hQ5
  clear hQ5
  have hb0_5 : Hidden (W5.heap[w.heap.size]? = some (st0)) := f5.heap hb0_4 (by omega)
  go_wp2_with fail
  go_at_call 80
  refine (has_no q [115, 104, 111, 119] t r d false h_show _ hP5).mono ?_
  rintro e W6 ⟨rfl, F6⟩
  have f6 : Fr (fun k => k = q) _ W6 := frq F6
  have hQ6 := Ps.keepN hP5 F6
  have g6 := g5.same f6
  have s6 := f6.size
  have t6 := g6.size
  have hP6 : Hidden (Ps W6 q (t :: r) d false) := hQ6
  clear hQ6
  have hb0_6 : Hidden (W6.heap[w.heap.size]? = some (st0)) := f6.heap hb0_5 (by omega)
  go_wp2_with fail
  go_at_call 80
  refine (has_yes q [102, 97, 105, 108] t r d hx _ hP6).mono ?_
  rintro e W7 ⟨rfl, hQ7, f7⟩
  have g7 := g6.same f7
  have s7 := f7.size
  have t7 := g7.size
  have hP7 : Hidden (Ps W7 q r d false) := hQ7
  clear hQ7
  have hb0_7 : Hidden (W7.heap[w.heap.size]? = some (st0)) := f7.heap hb0_6 (by omega)
  clear hx
  go_wp2_with fail
  go_at_call 99
  obtain ⟨r8, e8, hs⟩ := Pz.bd_some hs
  refine (lone_c hE q r d hd r8 e8 _ hP7).mono ?_
  clear e8
  rcases r8 with ⟨e, ts8⟩ | ⟨p, c⟩
  rotate_left
  · obtain rfl : rs = .er p c := hs
    rintro e W8 ⟨rfl, f8⟩
    unfold gP
    go_wp2_with fail
    exact ⟨rfl, rfl, g7.same f8⟩
  rintro e W8 ⟨v8, rfl, ⟨ao, cap, rfl, hN⟩, hQ8, f8⟩
  have g8 := g7.same f8
  have s8 := f8.size
  have t8 := g8.size
  have hP8 : Hidden (Ps W8 q ts8 d false) := hQ8
  clear hQ8
  have hb0_8 : Hidden (W8.heap[w.heap.size]? = some (st0)) := f8.heap hb0_7 (by omega)
  go_wp2_with fail
  go_at_call 143
  obtain ⟨r9, e9, hs⟩ := Pz.bd_some hs
  refine (ended_c q 7 (.slice ao e.len cap) ⟨_, _, _, rfl⟩ ts8 d r9 e9 _ hP8).mono ?_
  clear e9
  rcases r9 with ⟨u, ts9⟩ | ⟨p, c⟩
  rotate_left
  · obtain rfl : rs = .er p c := hs
    rintro e W9 ⟨rfl, f9⟩
    unfold gP
    go_wp2_with fail
    exact ⟨rfl, rfl, g8.same f9⟩
  rintro e W9 ⟨v9, rfl, rfl, hQ9, f9⟩
  have g9 := g8.same f9
  have s9 := f9.size
  have t9 := g9.size
  have hP9 : Hidden (Ps W9 q ts9 d false) := hQ9
  clear hQ9
  have hb0_9 : Hidden (W9.heap[w.heap.size]? = some (st0)) := f9.heap hb0_8 (by omega)
  obtain rfl : rs = .ok (⟨7, []⟩, e, .nil, .nil) ts9 := (Option.some.inj (show some _ = some rs from hs)).symm
  obtain ⟨b0c0, b0c1, b0c2, b0c3, b0c4, b0z0, b0z1, b0z2, b0z3, b0z4⟩ := box5 hb0_9
  have hM := hN.step f9 (fun k hk => by subst hk; omega)
  go_wp2_with fail
  have fs := set5_fr W9 w.heap.size (ci 7) (.string ⟨#[]⟩) (.slice ao e.len cap) (.slice none 0 0) (.slice none 0 0)
  exact post_st hb0_9 rfl rfl rfl ⟨_, rfl, ⟨ao, cap, none, 0, none, 0, rfl, fun w2 hf => ⟨((hM.step fs (fun k hk => by subst hk; omega)).weak (by omega)) w2 hf, stnil _, stnil _⟩⟩, Ps.high hP9 fs (fun k hk => by subst hk; exact hq), g9.over fs (fun k hk => by subst hk; exact Nat.le_refl _)⟩

set_option maxRecDepth 20000 in
set_option maxHeartbeats 1000000 in
theorem stm_try (q : Nat) (t : Tok) (r : List Tok) (d : Nat) (hd : d ≤ 32) (rs : Pz.Rs Pz.St) (n1 : t.k ≠ 1) (hx : t.x = [116, 114, 121]) (hs : Hidden (Pz.stm E C B d (t :: r) = some rs)) (w : World) (h : Ps w q (t :: r) d false) :
    Calls Tryz.prog 126 #[pp q] w (Out TS q d w rs) := by
  have hf0 := fld0
  have k1 : ((t.k : Int) == 1) = false := by rw [beq_eq_false_iff_ne]; omega
  have h_let : t.x ≠ [108, 101, 116] := by rw [hx]; decide
  have h_if : t.x ≠ [105, 102] := by rw [hx]; decide
  have h_while : t.x ≠ [119, 104, 105, 108, 101] := by rw [hx]; decide
  have h_return : t.x ≠ [114, 101, 116, 117, 114, 110] := by rw [hx]; decide
  have h_show : t.x ≠ [115, 104, 111, 119] := by rw [hx]; decide
  have h_fail : t.x ≠ [102, 97, 105, 108] := by rw [hx]; decide
  replace hs : Hidden (Pz.tried B d r = some rs) := by
    have hs1 : Pz.stm E C B d (t :: r) = some rs := hs
    rw [Pz.stm, if_neg n1, if_neg h_let, if_neg h_if, if_neg h_while, if_neg h_return, if_neg h_show, if_neg h_fail, if_pos hx] at hs1
    exact hs1
  clear n1
  have hq := h.lt
  have f0 := Fr.alloc (fun _ => False) w st0
  have g0 : Fr (fun k => k = q) w (w.alloc st0) := frq f0
  have hP0 : Hidden (Ps (w.alloc st0) q (t :: r) d false) := h.keepN f0
  have hb0 : Hidden ((w.alloc st0).heap[w.heap.size]? = some st0) := alloc_new _ _
  clear h
  go_enter Tryz.func126, Tryz.ntmps126
  go_wp2_with fail
  go_at_call 55
  refine (next_any q t r d false _ hP0).mono ?_
  rintro e W1 ⟨rfl, F1⟩
  have f1 : Fr (fun k => k = q) _ W1 := frq F1
  have hQ1 := Ps.keepN hP0 F1
  have g1 := g0.same f1
  have s1 := f1.size
  have t1 := g1.size
  have hP1 : Hidden (Ps W1 q (t :: r) d false) := hQ1
  clear hQ1
  simp only [World.size_alloc] at s1
  have hb0_1 : Hidden (W1.heap[w.heap.size]? = some (st0)) := f1.heap hb0 (by omega)
  go_wp2_with fail
  go_at_call 80
  refine (has_no q [108, 101, 116] t r d false h_let _ hP1).mono ?_
  rintro e W2 ⟨rfl, F2⟩
  have f2 : Fr (fun k => k = q) _ W2 := frq F2
  have hQ2 := Ps.keepN hP1 F2
  have g2 := g1.same f2
  have s2 := f2.size
  have t2 := g2.size
  have hP2 : Hidden (Ps W2 q (t :: r) d false) := hQ2
  clear hQ2
  have hb0_2 : Hidden (W2.heap[w.heap.size]? = some (st0)) := f2.heap hb0_1 (by omega)
  go_wp2_with fail
  go_at_call 80
  refine (has_no q [105, 102] t r d false h_if _ hP2).mono ?_
  rintro e W3 ⟨rfl, F3⟩
  have f3 : Fr (fun k => k = q) _ W3 := frq F3
  have hQ3 := Ps.keepN hP2 F3
  have g3 := g2.same f3
  have s3 := f3.size
  have t3 := g3.size
  have hP3 : Hidden (Ps W3 q (t :: r) d false) := hQ3
  clear hQ3
  have hb0_3 : Hidden (W3.heap[w.heap.size]? = some (st0)) := f3.heap hb0_2 (by omega)
  go_wp2_with fail
  go_at_call 80
  refine (has_no q [119, 104, 105, 108, 101] t r d false h_while _ hP3).mono ?_
  rintro e W4 ⟨rfl, F4⟩
  have f4 : Fr (fun k => k = q) _ W4 := frq F4
  have hQ4 := Ps.keepN hP3 F4
  have g4 := g3.same f4
  have s4 := f4.size
  have t4 := g4.size
  have hP4 : Hidden (Ps W4 q (t :: r) d false) := hQ4
  clear hQ4
  have hb0_4 : Hidden (W4.heap[w.heap.size]? = some (st0)) := f4.heap hb0_3 (by omega)
  go_wp2_with fail
  go_at_call 80
  refine (has_no q [114, 101, 116, 117, 114, 110] t r d false h_return _ hP4).mono ?_
  rintro e W5 ⟨rfl, F5⟩
  have f5 : Fr (fun k => k = q) _ W5 := frq F5
  have hQ5 := Ps.keepN hP4 F5
  have g5 := g4.same f5
  have s5 := f5.size
  have t5 := g5.size
  have hP5 : Hidden (Ps W5 q (t :: r) d false) := hQ5
  clear hQ5
  have hb0_5 : Hidden (W5.heap[w.heap.size]? = some (st0)) := f5.heap hb0_4 (by omega)
  go_wp2_with fail
  go_at_call 80
  refine (has_no q [115, 104, 111, 119] t r d false h_show _ hP5).mono ?_
  rintro e W6 ⟨rfl, F6⟩
  have f6 : Fr (fun k => k = q) _ W6 := frq F6
  have hQ6 := Ps.keepN hP5 F6
  have g6 := g5.same f6
  have s6 := f6.size
  have t6 := g6.size
  have hP6 : Hidden (Ps W6 q (t :: r) d false) := hQ6
  clear hQ6
  have hb0_6 : Hidden (W6.heap[w.heap.size]? = some (st0)) := f6.heap hb0_5 (by omega)
  go_wp2_with fail
  go_at_call 80
  refine (has_no q [102, 97, 105, 108] t r d false h_fail _ hP6).mono ?_
  rintro e W7 ⟨rfl, F7⟩
  have f7 : Fr (fun k => k = q) _ W7 := frq F7
  have hQ7 := Ps.keepN hP6 F7
  have g7 := g6.same f7
  have s7 := f7.size
  have t7 := g7.size
  have hP7 : Hidden (Ps W7 q (t :: r) d false) := hQ7
  clear hQ7
  have hb0_7 : Hidden (W7.heap[w.heap.size]? = some (st0)) := f7.heap hb0_6 (by omega)
  go_wp2_with fail
  go_at_call 80
  refine (has_yes q [116, 114, 121] t r d hx _ hP7).mono ?_
  rintro e W8 ⟨rfl, hQ8, f8⟩
  have g8 := g7.same f8
  have s8 := f8.size
  have t8 := g8.size
  have hP8 : Hidden (Ps W8 q r d false) := hQ8
  clear hQ8
  have hb0_8 : Hidden (W8.heap[w.heap.size]? = some (st0)) := f8.heap hb0_7 (by omega)
  clear hx
  go_wp2_with fail
  go_at_call 144
  obtain ⟨r9, e9, hs⟩ : ∃ r, _ = some r ∧ Hidden (r = rs) := ⟨rs, hs, rfl⟩
  refine (tried_c hB q r d hd r9 e9 _ hP8).mono ?_
  clear e9
  rcases r9 with ⟨s, ts9⟩ | ⟨p, c⟩
  rotate_left
  · obtain rfl : .er p c = rs := hs
    rintro e W9 ⟨rfl, f9⟩
    unfold gP
    go_wp2_with fail
    exact ⟨rfl, rfl, g8.same f9⟩
  rintro e W9 ⟨v9, rfl, ⟨ao1, cap1, ao2, cap2, ao3, cap3, rfl, hM⟩, hQ9, f9⟩
  have g9 := g8.same f9
  have s9 := f9.size
  have t9 := g9.size
  have hP9 : Hidden (Ps W9 q ts9 d false) := hQ9
  clear hQ9
  have hb0_9 : Hidden (W9.heap[w.heap.size]? = some (st0)) := f9.heap hb0_8 (by omega)
  obtain rfl : .ok s ts9 = rs := hs
  obtain ⟨b0c0, b0c1, b0c2, b0c3, b0c4, b0z0, b0z1, b0z2, b0z3, b0z4⟩ := box5 hb0_9
  go_wp2_with fail
  have fs := set5_fr W9 w.heap.size (ci s.1.kind) (ct s.1.name) (.slice ao1 s.2.1.len cap1) (.slice ao2 s.2.2.1.len cap2) (.slice ao3 s.2.2.2.len cap3)
  exact post_st hb0_9 rfl rfl rfl ⟨_, rfl, ⟨ao1, cap1, ao2, cap2, ao3, cap3, rfl, (hM.step fs (fun k hk => by subst hk; omega)).weak (by omega)⟩, Ps.high hP9 fs (fun k hk => by subst hk; exact hq), g9.over fs (fun k hk => by subst hk; exact Nat.le_refl _)⟩

set_option maxRecDepth 20000 in
set_option maxHeartbeats 1000000 in
theorem stm_else (q : Nat) (t : Tok) (r : List Tok) (d : Nat) (hd : d ≤ 32) (rs : Pz.Rs Pz.St) (n1 : t.k ≠ 1) (h_let : t.x ≠ [108, 101, 116]) (h_if : t.x ≠ [105, 102]) (h_while : t.x ≠ [119, 104, 105, 108, 101]) (h_return : t.x ≠ [114, 101, 116, 117, 114, 110]) (h_show : t.x ≠ [115, 104, 111, 119]) (h_fail : t.x ≠ [102, 97, 105, 108]) (h_try : t.x ≠ [116, 114, 121]) (hs : Hidden (Pz.stm E C B d (t :: r) = some rs)) (w : World) (h : Ps w q (t :: r) d false) :
    Calls Tryz.prog 126 #[pp q] w (Out TS q d w rs) := by
  have hf0 := fld0
  have k1 : ((t.k : Int) == 1) = false := by rw [beq_eq_false_iff_ne]; omega
  obtain rfl : rs = .er t.p 11 := by
    have hs1 : Pz.stm E C B d (t :: r) = some rs := hs
    rw [Pz.stm, if_neg n1, if_neg h_let, if_neg h_if, if_neg h_while, if_neg h_return, if_neg h_show, if_neg h_fail, if_neg h_try] at hs1
    exact (Option.some.inj hs1).symm
  clear n1 hs
  have hq := h.lt
  have f0 := Fr.alloc (fun _ => False) w st0
  have g0 : Fr (fun k => k = q) w (w.alloc st0) := frq f0
  have hP0 : Hidden (Ps (w.alloc st0) q (t :: r) d false) := h.keepN f0
  have hb0 : Hidden ((w.alloc st0).heap[w.heap.size]? = some st0) := alloc_new _ _
  clear h
  go_enter Tryz.func126, Tryz.ntmps126
  go_wp2_with fail
  go_at_call 55
  refine (next_any q t r d false _ hP0).mono ?_
  rintro e W1 ⟨rfl, F1⟩
  have f1 : Fr (fun k => k = q) _ W1 := frq F1
  have hQ1 := Ps.keepN hP0 F1
  have g1 := g0.same f1
  have s1 := f1.size
  have t1 := g1.size
  have hP1 : Hidden (Ps W1 q (t :: r) d false) := hQ1
  clear hQ1
  simp only [World.size_alloc] at s1
  have hb0_1 : Hidden (W1.heap[w.heap.size]? = some (st0)) := f1.heap hb0 (by omega)
  go_wp2_with fail
  go_at_call 80
  refine (has_no q [108, 101, 116] t r d false h_let _ hP1).mono ?_
  rintro e W2 ⟨rfl, F2⟩
  have f2 : Fr (fun k => k = q) _ W2 := frq F2
  have hQ2 := Ps.keepN hP1 F2
  have g2 := g1.same f2
  have s2 := f2.size
  have t2 := g2.size
  have hP2 : Hidden (Ps W2 q (t :: r) d false) := hQ2
  clear hQ2
  have hb0_2 : Hidden (W2.heap[w.heap.size]? = some (st0)) := f2.heap hb0_1 (by omega)
  go_wp2_with fail
  go_at_call 80
  refine (has_no q [105, 102] t r d false h_if _ hP2).mono ?_
  rintro e W3 ⟨rfl, F3⟩
  have f3 : Fr (fun k => k = q) _ W3 := frq F3
  have hQ3 := Ps.keepN hP2 F3
  have g3 := g2.same f3
  have s3 := f3.size
  have t3 := g3.size
  have hP3 : Hidden (Ps W3 q (t :: r) d false) := hQ3
  clear hQ3
  have hb0_3 : Hidden (W3.heap[w.heap.size]? = some (st0)) := f3.heap hb0_2 (by omega)
  go_wp2_with fail
  go_at_call 80
  refine (has_no q [119, 104, 105, 108, 101] t r d false h_while _ hP3).mono ?_
  rintro e W4 ⟨rfl, F4⟩
  have f4 : Fr (fun k => k = q) _ W4 := frq F4
  have hQ4 := Ps.keepN hP3 F4
  have g4 := g3.same f4
  have s4 := f4.size
  have t4 := g4.size
  have hP4 : Hidden (Ps W4 q (t :: r) d false) := hQ4
  clear hQ4
  have hb0_4 : Hidden (W4.heap[w.heap.size]? = some (st0)) := f4.heap hb0_3 (by omega)
  go_wp2_with fail
  go_at_call 80
  refine (has_no q [114, 101, 116, 117, 114, 110] t r d false h_return _ hP4).mono ?_
  rintro e W5 ⟨rfl, F5⟩
  have f5 : Fr (fun k => k = q) _ W5 := frq F5
  have hQ5 := Ps.keepN hP4 F5
  have g5 := g4.same f5
  have s5 := f5.size
  have t5 := g5.size
  have hP5 : Hidden (Ps W5 q (t :: r) d false) := hQ5
  clear hQ5
  have hb0_5 : Hidden (W5.heap[w.heap.size]? = some (st0)) := f5.heap hb0_4 (by omega)
  go_wp2_with fail
  go_at_call 80
  refine (has_no q [115, 104, 111, 119] t r d false h_show _ hP5).mono ?_
  rintro e W6 ⟨rfl, F6⟩
  have f6 : Fr (fun k => k = q) _ W6 := frq F6
  have hQ6 := Ps.keepN hP5 F6
  have g6 := g5.same f6
  have s6 := f6.size
  have t6 := g6.size
  have hP6 : Hidden (Ps W6 q (t :: r) d false) := hQ6
  clear hQ6
  have hb0_6 : Hidden (W6.heap[w.heap.size]? = some (st0)) := f6.heap hb0_5 (by omega)
  go_wp2_with fail
  go_at_call 80
  refine (has_no q [102, 97, 105, 108] t r d false h_fail _ hP6).mono ?_
  rintro e W7 ⟨rfl, F7⟩
  have f7 : Fr (fun k => k = q) _ W7 := frq F7
  have hQ7 := Ps.keepN hP6 F7
  have g7 := g6.same f7
  have s7 := f7.size
  have t7 := g7.size
  have hP7 : Hidden (Ps W7 q (t :: r) d false) := hQ7
  clear hQ7
  have hb0_7 : Hidden (W7.heap[w.heap.size]? = some (st0)) := f7.heap hb0_6 (by omega)
  go_wp2_with fail
  go_at_call 80
  refine (has_no q [116, 114, 121] t r d false h_try _ hP7).mono ?_
  rintro e W8 ⟨rfl, F8⟩
  have f8 : Fr (fun k => k = q) _ W8 := frq F8
  have hQ8 := Ps.keepN hP7 F8
  have g8 := g7.same f8
  have s8 := f8.size
  have t8 := g8.size
  have hP8 : Hidden (Ps W8 q (t :: r) d false) := hQ8
  clear hQ8
  have hb0_8 : Hidden (W8.heap[w.heap.size]? = some (st0)) := f8.heap hb0_7 (by omega)
  go_wp2_with fail
  go_at_call 52
  refine (fault_any q 11 t r d false _ hP8).mono ?_
  rintro e W9 ⟨rfl, F9⟩
  have f9 : Fr (fun k => k = q) _ W9 := frq F9
  have hQ9 := Ps.keepN hP8 F9
  have g9 := g8.same f9
  have s9 := f9.size
  have t9 := g9.size
  have hP9 : Hidden (Ps W9 q (t :: r) d false) := hQ9
  clear hQ9
  have hb0_9 : Hidden (W9.heap[w.heap.size]? = some (st0)) := f9.heap hb0_8 (by omega)
  unfold Out gP
  go_wp2_with fail
  exact ⟨rfl, rfl, g9⟩

/-- stmt. -/
theorem stm_c (q : Nat) (ts : List Tok) (d : Nat) (hd : d ≤ 32) (rs : Pz.Rs Pz.St) (hs : Hidden (Pz.stm E C B d ts = some rs)) (w : World) (h : Ps w q ts d false) :
    Calls Tryz.prog 126 #[pp q] w (Out TS q d w rs) := by
  cases ts with
  | nil => exact absurd hs (by simp [Hidden, Pz.stm])
  | cons t r =>
    by_cases n1 : t.k = 1
    · exact stm_name hE hC hB q t r d hd rs n1 hs w h
    by_cases h_let : t.x = [108, 101, 116]
    · exact stm_let hE hC hB q t r d hd rs n1 h_let hs w h
    by_cases h_if : t.x = [105, 102]
    · exact stm_if hE hC hB q t r d hd rs n1 h_if hs w h
    by_cases h_while : t.x = [119, 104, 105, 108, 101]
    · exact stm_while hE hC hB q t r d hd rs n1 h_while hs w h
    by_cases h_return : t.x = [114, 101, 116, 117, 114, 110]
    · exact stm_return hE hC hB q t r d hd rs n1 h_return hs w h
    by_cases h_show : t.x = [115, 104, 111, 119]
    · exact stm_show hE hC hB q t r d hd rs n1 h_show hs w h
    by_cases h_fail : t.x = [102, 97, 105, 108]
    · exact stm_fail hE hC hB q t r d hd rs n1 h_fail hs w h
    by_cases h_try : t.x = [116, 114, 121]
    · exact stm_try hE hC hB q t r d hd rs n1 h_try hs w h
    exact stm_else hE hC hB q t r d hd rs n1 h_let h_if h_while h_return h_show h_fail h_try hs w h
end

theorem info_moreST : (Tryz.prog.info? 169).map (fun i => (i.zero, i.size, i.bytes)) = some (some (.agg #[.int .i64 0, .string ⟨#[]⟩, .slice none 0 0, .slice none 0 0, .slice none 0 0]), 5, 96) := by kernel_rfl
set_option maxRecDepth 20000 in
set_option maxHeartbeats 2000000 in
theorem blk_s (S : Nat → List Tok → Pz.Ou Pz.St) (hS : ∀ (q : Nat) (ts : List Tok) (d : Nat) (_ : d ≤ 32) (rs : Pz.Rs Pz.St) (_ : S d ts = some rs) (w : World) (_ : Ps w q ts d false), Calls Tryz.prog 126 #[pp q] w (Out TS q d w rs))
    (g : Nat) (hg : g ≤ 3000) (q : Nat) (ts : List Tok) (d : Nat) (hd : d ≤ 32) (rs : Pz.Rs Sts)
    (hs : Hidden (Pz.bd (Pz.opn [123] false d ts) (fun _ ts => Pz.bd (Pz.sts (S (d + 1)) g .nil ts) fun l ts => Pz.bd (Pz.must [125] false ts) fun _ ts => some (.ok l ts)) = some rs)) (w : World) (h : Ps w q ts d false) :
    Calls Tryz.prog 102 #[pp q] w (Out TB q d w rs) := by

  have hq := h.lt
  have g0 := Fr.refl (fun k => k = q) w
  have hP0 : Hidden (Ps w q ts d false) := h
  clear h
  go_enter Tryz.func102, Tryz.ntmps102
  go_wp2_with fail
  go_at_call 103
  obtain ⟨r1, e1, hs⟩ := Pz.bd_some hs
  refine (opn_c q [123] ts d hd false r1 e1 _ hP0).mono ?_
  rcases r1 with ⟨u, ts1⟩ | ⟨p, c⟩
  rotate_left
  · obtain rfl : rs = .er p c := hs
    rintro e W1 ⟨rfl, f1⟩
    unfold gP
    go_wp2_with fail
    exact ⟨rfl, rfl, g0.same f1⟩
  rintro e W1 ⟨v1, rfl, rfl, hQ1, f1⟩
  have g1 := g0.same f1
  have s1 := f1.size
  have t1 := g1.size
  have hP1 : Hidden (Ps W1 q ts1 (d + 1) false) := hQ1
  clear hQ1
  have hd1 := Pz.opn_lt hd e1
  clear e1
  obtain ⟨r2, e2, hs⟩ := Pz.bd_some hs
  have hs2 : Hidden (Pz.sts (S (d + 1)) g .nil ts1 = some r2) := e2
  clear e2
  go_wp2_with fail
  go_loopg [3] g (fun k lx wr => ∃ (lv : Value) (acc : Sts) (us : List Tok), lv = lx ∧ Pz.sts (S (d + 1)) k acc us = some r2 ∧ Row RS 169 5 wr w.heap.size lv acc.list ∧ acc.len + k ≤ g ∧ Ps wr q us (d + 1) false ∧ Fr (fun k => k = q) w wr)
  case atStart => exact ⟨_, .nil, ts1, rfl, hs2, Row.nil _ _ _ _ _, by simp [Sts.len], hP1, g1⟩
  case round =>
    obtain ⟨lv, acc, us, rfl, hspec, hrow, hlen, hps, hfr⟩ := hrel
    have hspecH : Hidden (Pz.sts (S (d + 1)) gk acc us = some r2) := hspec
    have hrowH : Hidden (Row RS 169 5 wr w.heap.size lv acc.list) := hrow
    have hpsH : Hidden (Ps wr q us (d + 1) false) := hps
    have hlenH : Hidden (acc.len + gk ≤ g) := hlen
    have szr := hfr.size
    clear hspec hps hlen hs2 hrow
    cases gk with
    | zero => exact absurd hspecH (by simp [Hidden, Pz.sts])
    | succ gk =>
      cases us with
      | nil => exact absurd hspecH (by simp [Hidden, Pz.sts])
      | cons t r =>
        by_cases hx : t.x = [125]
        · have hs3 : Pz.sts (S (d + 1)) (gk + 1) acc (t :: r) = some r2 := hspecH
          rw [Pz.sts, if_pos hx] at hs3
          obtain rfl : r2 = .ok acc (t :: r) := (Option.some.inj hs3).symm
          have ki := is_any q [125] t r (d + 1) false true (by simp [Hidden, hx]) wr hpsH
          clear hspecH hx hs3
          obtain ⟨ao, cap, rfl, hN⟩ := Row.held hrowH
          have hN2 : Nw w.heap.size wr (fun w => StL w ao cap acc) := fun w1 hf => stL_of (hN w1 hf)
          clear hrowH hN
          go_wp2_with fail
          go_at_call 46
          refine ki.mono ?_
          rintro e W2 ⟨rfl, f2⟩
          have hp2H : Hidden (Ps W2 q (t :: r) (d + 1) false) := Ps.keepN hpsH f2
          go_wp2_with fail
          go_at_call 127
          obtain ⟨r3, e3, hs⟩ := Pz.bd_some hs
          refine (shut_c q [125] (t :: r) d hd r3 e3 _ hp2H).mono ?_
          clear e3
          rcases r3 with ⟨u3, ts3⟩ | ⟨p, c⟩
          rotate_left
          · obtain rfl : rs = .er p c := hs
            rintro e W3 ⟨rfl, f3⟩
            unfold gP
            go_wp2_with fail
            exact ⟨rfl, rfl, (hfr.same (frq f2)).same f3⟩
          rintro e W3 ⟨v3, rfl, rfl, hQ3, f3⟩
          obtain rfl : rs = .ok acc ts3 := (Option.some.inj (show some _ = some rs from hs)).symm
          go_wp2_with fail
          go_ret
          exact ⟨_, rfl, ⟨ao, cap, by rw [← Sts.list_len]; rfl, (hN2.step f2 (fun _ f => f.elim)).step f3 (fun k hk => by subst hk; exact hq)⟩, hQ3, (hfr.same (frq f2)).same f3⟩
        · have hs3 : Pz.sts (S (d + 1)) (gk + 1) acc (t :: r) = some r2 := hspecH
          rw [Pz.sts, if_neg hx] at hs3
          have hs4 : Hidden (Pz.bd _ _ = some r2) := hs3
          have ki := is_any q [125] t r (d + 1) false false (by simpa [Hidden] using hx) wr hpsH
          clear hspecH hx hs3
          obtain ⟨aor, capr, rfl, hlenr, hcapr⟩ := Row.shape hrowH
          have hcapr2 : capr ≤ 9223372036854775807 := by unfold maxLen at hcapr; omega
          go_wp2_with fail
          go_at_call 46
          refine ki.mono ?_
          rintro e W2 ⟨rfl, f2⟩
          have hp2H : Hidden (Ps W2 q (t :: r) (d + 1) false) := Ps.keepN hpsH f2
          have s2 := f2.size
          go_wp2_with fail
          go_at_call 126
          obtain ⟨r4, e4, hs5⟩ := Pz.bd_some hs4
          refine (hS q (t :: r) (d + 1) hd1 r4 e4 _ hp2H).mono ?_
          clear e4
          rcases r4 with ⟨s, ts4⟩ | ⟨p, c⟩
          rotate_left
          · obtain rfl : r2 = .er p c := hs5
            obtain rfl : rs = .er p c := hs
            rintro e W3 ⟨rfl, f3⟩
            unfold gP
            go_wp2_with fail
            exact ⟨rfl, rfl, (hfr.same (frq f2)).same f3⟩
          rintro e W3 ⟨v3, rfl, ⟨ao1, cap1, ao2, cap2, ao3, cap3, rfl, hM⟩, hQ3, f3⟩
          have s3 := f3.size
          have g3 := (hfr.same (frq f2)).same f3
          have hrow3 : Hidden (Row RS 169 5 W3 w.heap.size (.slice aor acc.list.length capr) acc.list) := (Row.keep (Row.keep hrowH f2 (fun _ f => f.elim)) f3 (fun k hk => by subst hk; exact hq))
          have fa := Fr.alloc (fun _ => False) W3 (.cells #[ci s.1.kind, ct s.1.name, .slice ao1 s.2.1.len cap1, .slice ao2 s.2.2.1.len cap2, .slice ao3 s.2.2.2.len cap3] 169)
          have hQH : Hidden (Ps W3 q ts4 (d + 1) false) := hQ3
          have hln : acc.list.length ≤ 4000 := by have h9 : acc.len + (gk + 1) ≤ g := hlenH; rw [Sts.list_len]; omega
          clear hQ3
          go_wp2_with (at_builtin
                       refine wpList_row (R := RS) rfl _ _ 48 169 _ 5 96 Tryz.underlying48 info_moreST rfl (by decide) rfl w.heap.size (.slice aor acc.list.length capr) acc.list s (stC s.1 (.slice ao1 s.2.1.len cap1) (.slice ao2 s.2.2.1.len cap2) (.slice ao3 s.2.2.2.len cap3)) ⟨W3.heap.size, 0, none⟩ 1 rfl ?c0 rfl rfl ?c1 ?c2 ?c3 hln (by decide) ?c4 ?_
                       case c0 => go_must (exact Row.keep hrow3 fa (fun _ f => f.elim))
                       case c1 => go_must (exact fun j u hu => by rw [add0, cell_of_row _ _ j _ _ _ (alloc_new _ _)]; simpa [stC] using hu)
                       case c2 => go_must (exact fun u hu => by simp only [stC, List.mem_cons, List.not_mem_nil, or_false] at hu; rcases hu with rfl | rfl | rfl | rfl | rfl <;> rfl)
                       case c3 => go_must (exact fun w' hf => ⟨ao1, cap1, ao2, cap2, ao3, cap3, rfl, (hM.step fa (fun _ f => f.elim)) w' (hf.mono (fun k _ hk => by rcases hk with hk | hk; (omega); (have := (Row.own hrowH k hk).2; omega)))⟩)
                       case c4 => go_must (simp; omega)
                       intro v5 W5 hr5 f5)
          have g5 : Fr (fun k => k = q) w W5 := (g3.same (frq fa)).trans f5 (fun k hk hs => by have := (Row.own hrowH k hs).1; omega)
          have hp5 : Hidden (Ps W5 q ts4 (d + 1) false) := (Ps.keepN hQH fa).high f5 (fun k hk => by have := (Row.own hrowH k hk).1; omega)
          go_roundg gk
          case measure => omega
          case rel => exact ⟨_, acc.app (.cons s.1 s.2.1 s.2.2.1 s.2.2.2 .nil), ts4, rfl, hs5, by rw [Sts.list_app]; exact hr5, by have h9 : acc.len + (gk + 1) ≤ g := hlenH; rw [Sts.app_len]; simp only [Sts.len]; omega, hp5, g5⟩

/-- block. -/
theorem blk_c {E : Nat → List Tok → Pz.Ou Pz.Ex} (hE : CE0 E) {C : Nat → Pz.Ex → List Tok → Pz.Ou Pz.Ex} (hC : CC0 C) (g : Nat) (hg : g ≤ 3000) : ∀ (f : Nat), CB0 (Pz.blk E C g f)
  | 0 => fun d ts rs q w hd hs h => by simp [Pz.blk] at hs
  | f + 1 => fun d ts rs q w hd hs h => by
    rw [Pz.blk] at hs
    exact blk_s (fun d ts => Pz.stm E C (Pz.blk E C g f) d ts) (fun q ts d hd rs hs w h => stm_c hE hC (blk_c hE hC g hg f) q ts d hd rs hs w h) g hg q ts d hd rs hs w h
end Go.Proofs.YtpkaekokkhecmaaGreatDoor
