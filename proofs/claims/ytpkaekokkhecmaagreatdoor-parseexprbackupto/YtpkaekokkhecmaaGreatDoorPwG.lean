/- The program's parser: operators of two, expressions. -/
import Derived.Test.YtpkaekokkhecmaaGreatDoorPwF
import Derived.RegionDies
namespace Go.Proofs.YtpkaekokkhecmaaGreatDoor
open Go.RowKit Lx Te
set_option linter.unusedSimpArgs false
set_option linter.unusedVariables false
set_option linter.unusedSectionVars false

theorem wrap_s {z : Int} (h0 : -9223372036854775808 ≤ z) (h1 : z ≤ 9223372036854775807) : IntKind.i64.wrap z = z := by
  simp only [IntKind.wrap, IntKind.bits, IntKind.signed]
  simp
  omega
/-- It holds whatever is written ahead of B, and in the block z. -/
def Nz (B z : Nat) (w : World) (P : World → Prop) : Prop := ∀ w', Fr (fun k => k < B ∨ k = z) w w' → P w'
theorem Nz.step {B z : Nat} {S : Nat → Prop} {w w' : World} {P : World → Prop} (h : Nz B z w P) (hf : Fr S w w') (hS : ∀ k, S k → k < B ∨ k = z) : Nz B z w' P :=
  fun w'' hf' => h w'' ((hf.mono (fun k _ hk => hS k hk)).same hf')
theorem Nz.nw {B z : Nat} {w : World} {P : World → Prop} (h : Nz B z w P) : Nw B w P := fun w' hf => h w' (hf.mono (fun k _ hk => Or.inl hk))
/-- A new block. -/
theorem Nw.nz {B z : Nat} {w : World} {P : World → Prop} (h : Nw B w P) (hz : w.heap.size ≤ z) : Nz B z w P := fun w' hf => h w' (hf.mono (fun k hk hs => by omega))
theorem Nw.old {B B' z : Nat} {w : World} {P : World → Prop} (h : Nw B w P) (hz : z < B) (hB : B' ≤ B) : Nz B' z w P := fun w' hf => h w' (hf.mono (fun k hk hs => by omega))
/-- Two expressions in a row of their own. -/
theorem Nz.two {B z : Nat} {w : World} {x y : Pz.Ex} {ao ao2 : Option Addr} {cap cap2 b : Nat} {t : TypeId} (hx : Nz B z w (fun w => ExL w ao cap x.2)) (hy : Nz B z w (fun w => ExL w ao2 cap2 y.2))
    (hb : w.heap[b]? = some (.cells #[ci x.1.kind, ci x.1.op, ct x.1.mod, ct x.1.name, ci x.1.vt, .int .u64 x.1.vb, .slice ao x.2.len cap, ci y.1.kind, ci y.1.op, ct y.1.mod, ct y.1.name, ci y.1.vt, .int .u64 y.1.vb, .slice ao2 y.2.len cap2] t (0, 0))) (hB : B ≤ b) (hz : b ≠ z) :
    Nz B z w (fun w => ExL w (some ⟨b, 0, none⟩) 2 (.cons x.1 x.2 (.cons y.1 y.2 .nil))) := by
  intro w' hf
  have hx' := hx w' hf
  have hy' := hy w' hf
  have hb' := hf.heap hb (by omega)
  have hc := fun j => cell_of_row w' b j _ t (0, 0) hb'
  refine ⟨Nat.le_refl _, by decide, Or.inr ⟨b, 0, rfl, ⟨⟨ao, cap, fun j u hu => ?_, hx'.1, hx'.2.1, hx'.2.2⟩, ⟨ao2, cap2, fun j u hu => ?_, hy'.1, hy'.2.1, hy'.2.2⟩, trivial⟩⟩⟩
  · rw [Nat.zero_add, hc j]
    have h7 : j < 7 := (List.getElem?_eq_some_iff.1 hu).1
    obtain rfl | rfl | rfl | rfl | rfl | rfl | rfl : j = 0 ∨ j = 1 ∨ j = 2 ∨ j = 3 ∨ j = 4 ∨ j = 5 ∨ j = 6 := by omega
    all_goals exact hu
  · have h7 : j < 7 := (List.getElem?_eq_some_iff.1 hu).1
    obtain rfl | rfl | rfl | rfl | rfl | rfl | rfl : j = 0 ∨ j = 1 ∨ j = 2 ∨ j = 3 ∨ j = 4 ∨ j = 5 ∨ j = 6 := by omega
    all_goals (rw [hc]; exact hu)

section
variable {E : Bool → Nat → List Tok → Pz.Ou Pz.Ex} (hE : CE E)
/-- What reads operators of two. -/
def CT (E : Bool → Nat → List Tok → Pz.Ou Pz.Ex) (g n lv : Nat) : Prop := ∀ (fl : Bool) (d : Nat) (ts : List Tok) (rs : Pz.Rs Pz.Ex) (q : Nat) (w : World), d ≤ 32 → Pz.two E g n fl d ts = some rs → Ps w q ts d fl →
  Calls Tryz.prog 29 #[pp q, ci (lv : Int)] w (Out TE q d w rs)

include hE in
set_option maxRecDepth 20000 in
set_option maxHeartbeats 1000000 in
theorem two_0 (g : Nat) (hg : g ≤ 3000) : CT E g 0 6 := by
  intro fl d ts rs q w hd hs0 h
  rw [Pz.two] at hs0
  have hs : Hidden (_ = some rs) := hs0
  clear hs0
  have hq := h.lt
  have f0 := Fr.alloc (fun _ => False) w ex0
  have g0 : Fr (fun k => k = q) w (w.alloc ex0) := frq f0
  have hP0 : Hidden (Ps (w.alloc ex0) q ts d fl) := h.keepN f0
  have hb0 : Hidden ((w.alloc ex0).heap[w.heap.size]? = some ex0) := alloc_new _ _
  clear h
  go_enter Tryz.func29, Tryz.ntmps29
  go_wp2_with fail
  go_at_call 53
  obtain ⟨r1, e1, hs⟩ : ∃ r, _ = some r ∧ Hidden (r = rs) := ⟨rs, hs, rfl⟩
  refine (un_c hE g hg g fl d ts r1 q _ hd e1 hP0).mono ?_
  clear e1
  rcases r1 with ⟨x, ts1⟩ | ⟨p, c⟩
  rotate_left
  · obtain rfl : .er p c = rs := hs
    rintro e W1 ⟨rfl, f1⟩
    unfold gP
    go_wp2_with fail
    exact ⟨rfl, rfl, g0.same f1⟩
  rintro e W1 ⟨v1, rfl, ⟨ao, cap, rfl, hN⟩, hQ1, f1⟩
  have g1 := g0.same f1
  have s1 := f1.size
  have t1 := g1.size
  have hP1 : Hidden (Ps W1 q ts1 d false) := hQ1
  clear hQ1
  simp only [World.size_alloc] at s1
  have hb0_1 : Hidden (W1.heap[w.heap.size]? = some (ex0)) := f1.heap hb0 (by omega)
  obtain rfl : .ok x ts1 = rs := hs
  simp only [World.size_alloc] at hN
  obtain ⟨b0c0, b0c1, b0c2, b0c3, b0c4, b0c5, b0c6, b0z0, b0z1, b0z2, b0z3, b0z4, b0z5, b0z6⟩ := box7 hb0_1
  go_wp2_with fail
  have fs := set7_fr W1 w.heap.size (ci x.1.kind) (ci x.1.op) (ct x.1.mod) (ct x.1.name) (ci x.1.vt) (.int .u64 x.1.vb) (.slice ao x.2.len cap)
  exact post_ex hb0_1 rfl rfl rfl ⟨_, rfl, ⟨ao, cap, rfl, (hN.step fs (fun k hk => by subst hk; omega)).weak (by omega)⟩, Ps.high hP1 fs (fun k hk => by subst hk; exact hq), g1.over fs (fun k hk => by subst hk; exact Nat.le_refl _)⟩

include hE in
set_option maxRecDepth 20000 in
set_option maxHeartbeats 4000000 in
theorem two_s (g : Nat) (hg : g ≤ 3000) (n lv : Nat) (hlv : lv + n = 5) (hl0 : 1 ≤ lv) (hT : CT E g n (lv + 1)) : CT E g (n + 1) lv := by
  intro fl d ts rs q w hd hs0 h
  obtain rfl : 5 - n = lv := by omega
  rw [Pz.two] at hs0
  generalize hlvv : 5 - n = lv at *
  clear hlvv
  have hs : Hidden (_ = some rs) := hs0
  clear hs0
  have hlb : decide (((lv : Nat) : Int) > 5) = false := by simp; omega
  have hT1 : ∀ (fl : Bool) (d : Nat) (ts : List Tok) (rs : Pz.Rs Pz.Ex) (q : Nat) (w : World), d ≤ 32 → Pz.two E g n fl d ts = some rs → Ps w q ts d fl → Calls Tryz.prog 29 #[pp q, ci ((lv : Int) + 1)] w (Out TE q d w rs) := hT
  clear hT
  have hq := h.lt
  have f0 := Fr.alloc (fun _ => False) w ex0
  have g0 : Fr (fun k => k = q) w (w.alloc ex0) := frq f0
  have hP0 : Hidden (Ps (w.alloc ex0) q ts d fl) := h.keepN f0
  have hb0 : Hidden ((w.alloc ex0).heap[w.heap.size]? = some ex0) := alloc_new _ _
  clear h
  go_enter Tryz.func29, Tryz.ntmps29
  go_wp2_with fail
  go_at_call 29
  obtain ⟨r1, e1, hs⟩ := Pz.bd_some hs
  refine (hT1 fl d ts r1 q _ hd e1 hP0).mono ?_
  clear e1
  rcases r1 with ⟨x, ts1⟩ | ⟨p, c⟩
  rotate_left
  · obtain rfl : rs = .er p c := hs
    rintro e W1 ⟨rfl, f1⟩
    unfold gP
    go_wp2_with fail
    exact ⟨rfl, rfl, g0.same f1⟩
  rintro e W1 ⟨v1, rfl, ⟨ao, cap, rfl, hN⟩, hQ1, f1⟩
  have g1 := g0.same f1
  have s1 := f1.size
  have t1 := g1.size
  have hP1 : Hidden (Ps W1 q ts1 d false) := hQ1
  clear hQ1
  simp only [World.size_alloc] at s1
  have hb0_1 : Hidden (W1.heap[w.heap.size]? = some (ex0)) := f1.heap hb0 (by omega)
  simp only [World.size_alloc] at hN
  have fab1 := Fr.alloc (fun _ => False) W1 (.cells #[ci x.1.kind, ci x.1.op, ct x.1.mod, ct x.1.name, ci x.1.vt, .int .u64 x.1.vb, .slice ao x.2.len cap] 27)
  have gb1 : Fr (fun k => k = q) w (W1.alloc (.cells #[ci x.1.kind, ci x.1.op, ct x.1.mod, ct x.1.name, ci x.1.vt, .int .u64 x.1.vb, .slice ao x.2.len cap] 27)) := g1.same (frq fab1)
  have hPb1 : Hidden (Ps (W1.alloc (.cells #[ci x.1.kind, ci x.1.op, ct x.1.mod, ct x.1.name, ci x.1.vt, .int .u64 x.1.vb, .slice ao x.2.len cap] 27)) q ts1 d false) := Ps.keepN hP1 fab1
  have hnb1 : Hidden ((W1.alloc (.cells #[ci x.1.kind, ci x.1.op, ct x.1.mod, ct x.1.name, ci x.1.vt, .int .u64 x.1.vb, .slice ao x.2.len cap] 27)).heap[W1.heap.size]? = some (.cells #[ci x.1.kind, ci x.1.op, ct x.1.mod, ct x.1.name, ci x.1.vt, .int .u64 x.1.vb, .slice ao x.2.len cap] 27)) := alloc_new _ _
  have hb0_b1 : Hidden ((W1.alloc (.cells #[ci x.1.kind, ci x.1.op, ct x.1.mod, ct x.1.name, ci x.1.vt, .int .u64 x.1.vb, .slice ao x.2.len cap] 27)).heap[w.heap.size]? = some (ex0)) := fab1.heap hb0_1 (fun f => f)
  go_wp2_with fail
  have hN0 : Hidden (Nz (w.heap.size + 1) W1.heap.size (W1.alloc (.cells #[ci x.1.kind, ci x.1.op, ct x.1.mod, ct x.1.name, ci x.1.vt, .int .u64 x.1.vb, .slice ao x.2.len cap] 27)) (fun w => ExL w ao cap x.2)) := ((hN.weak (by omega)).nz (Nat.le_refl _)).step fab1 (fun _ f => f.elim)
  obtain ⟨β, hβ⟩ : ∃ β, β = W1.heap.size := ⟨_, rfl⟩
  have hβ1 : w.heap.size + 1 ≤ β := by omega
  go_loopg [6, 7] g (fun k _ _ wr => ∃ (y : Pz.Ex) (us : List Tok) (ao : Option Addr) (cap : Nat), Pz.lp (Pz.two E g n false d) lv k y us = some rs ∧ wr.heap[W1.heap.size]? = some (.cells #[ci y.1.kind, ci y.1.op, ct y.1.mod, ct y.1.name, ci y.1.vt, .int .u64 y.1.vb, .slice ao y.2.len cap] 27) ∧ wr.heap[w.heap.size]? = some ex0 ∧ Nz (w.heap.size + 1) W1.heap.size wr (fun w => ExL w ao cap y.2) ∧ Ps wr q us d false ∧ Fr (fun k => k = q) w wr ∧ W1.heap.size + 1 ≤ wr.heap.size)
  case atStart => exact ⟨x, ts1, ao, cap, hs, hnb1, hb0_b1, hN0, hPb1, gb1, by simp⟩
  case round =>
    obtain ⟨y, us, ao2, cap2, hspec, hb1w, hb0w, hNz, hps, hfr, hsz⟩ := hrel
    have hspecH : Hidden (Pz.lp (Pz.two E g n false d) lv gk y us = some rs) := hspec
    have hb1H : Hidden (wr.heap[W1.heap.size]? = some (.cells #[ci y.1.kind, ci y.1.op, ct y.1.mod, ct y.1.name, ci y.1.vt, .int .u64 y.1.vb, .slice ao2 y.2.len cap2] 27)) := hb1w
    have hb0H : Hidden (wr.heap[w.heap.size]? = some ex0) := hb0w
    have hpsH : Hidden (Ps wr q us d false) := hps
    clear hspec hb1w hb0w hps hs hN0 hnb1 hb0_b1 hPb1
    have hf1 := fld1
    cases gk with
    | zero => exact absurd hspecH (by simp [Hidden, Pz.lp])
    | succ gk =>
      cases us with
      | nil => exact absurd hspecH (by simp [Hidden, Pz.lp])
      | cons t r =>
        have hs3 : Pz.lp (Pz.two E g n false d) lv (gk + 1) y (t :: r) = some rs := hspecH
        rw [Pz.lp] at hs3
        have kop := fun w => op_c t.x w
        obtain ⟨op, own, hO⟩ : ∃ op own, Pz.opOf t.x = (op, own) := ⟨_, _, rfl⟩
        rw [hO] at hs3
        simp only [hO] at kop
        simp only [] at hs3 kop
        clear hO hspecH
        by_cases hop : own = lv
        · subst hop
          rw [if_neg (by simp)] at hs3
          have hs4 : Hidden (Pz.bd _ _ = some rs) := hs3
          have ob1 : ((own : Int) == (own : Int)) = true := by simp
          have ob2 : ((own : Int) != (own : Int)) = false := by simp
          clear hs3
          go_wp2_with fail
          go_at_call 55
          refine (next_any q t r d false _ hpsH).mono ?_
          rintro e W2 ⟨rfl, f2⟩
          go_wp2_with fail
          go_at_call 54
          refine (kop _).mono ?_
          rintro e W2' ⟨rfl, rfl⟩
          go_wp2_with fail
          go_at_call 56
          refine (take_ok q t r d _ (Ps.keepN hpsH f2)).mono ?_
          rintro e W3 ⟨rfl, hp3, f3⟩
          have hp3H : Hidden (Ps W3 q r d false) := hp3
          have g3 := (hfr.same (frq f2)).same f3
          have b13 : Hidden (W3.heap[W1.heap.size]? = some (.cells #[ci y.1.kind, ci y.1.op, ct y.1.mod, ct y.1.name, ci y.1.vt, .int .u64 y.1.vb, .slice ao2 y.2.len cap2] 27)) := f3.heap (f2.heap hb1H (fun f => f)) (by omega)
          have b03 : Hidden (W3.heap[w.heap.size]? = some ex0) := f3.heap (f2.heap hb0H (fun f => f)) (by omega)
          have hN3 := (hNz.step f2 (fun _ f => f.elim)).step f3 (fun k hk => by subst hk; omega)
          have sz3 := (f2.same (Fr.refl _ _)).size
          have sz3' := f3.size
          have f3d : Fr (fun _ => False) W3 W3.drew := Fr.drew _ _
          have b13d := f3d.heap b13 (fun f => f)
          obtain ⟨bc0, bc1, bc2, bc3, bc4, bc5, bc6, bz0, bz1, bz2, bz3, bz4, bz5, bz6⟩ := box7 b13d
          clear hp3 bz0 bz1 bz2 bz3 bz4 bz5 bz6 b13d
          obtain ⟨r1, e1, hs⟩ := Pz.bd_some hs4
          have kT : Calls Tryz.prog 29 #[pp q, .int .i64 (IntKind.i64.wrap ((own : Int) + 1))] W3.drew (Out TE q d W3.drew r1) := by
            rw [show IntKind.i64.wrap ((own : Int) + 1) = (own : Int) + 1 from wrap_s (by omega) (by omega)]
            exact hT1 false d r r1 q W3.drew hd e1 (Ps.keepN hp3H f3d)
          clear e1 hs4
          go_wp2_with fail
          rcases r1 with ⟨z, ts4⟩ | ⟨p, c⟩
          rotate_left
          · obtain rfl : rs = .er p c := hs
            unfold Out gP at kT
            go_region_dies
            all_goals (refine kT.mono ?_; rintro e W4 ⟨rfl, f4⟩; exact ⟨rfl, rfl, (g3.same (frq f3d)).same f4⟩)
          · unfold Out TE at kT
            go_region_with (first
              | (go_at_call 29; refine kT.mono ?_; rintro e W4 ⟨v4, rfl, ⟨ao4, cap4, rfl, hN4⟩, hQ4, f4⟩
                 have b14 := f4.heap (f3d.heap b13 (fun f => f)) (by omega)
                 have b14H : Hidden (W4.heap[W1.heap.size]? = some (.cells #[ci y.1.kind, ci y.1.op, ct y.1.mod, ct y.1.name, ci y.1.vt, .int .u64 y.1.vb, .slice ao2 y.2.len cap2] 27)) := b14
                 have fa4 := Fr.alloc (fun _ => False) W4 (.cells #[ci y.1.kind, ci y.1.op, ct y.1.mod, ct y.1.name, ci y.1.vt, .int .u64 y.1.vb, .slice ao2 y.2.len cap2, ci z.1.kind, ci z.1.op, ct z.1.mod, ct z.1.name, ci z.1.vt, .int .u64 z.1.vb, .slice ao4 z.2.len cap4] 27)
                 obtain ⟨ec0, ec1, ec2, ec3, ec4, ec5, ec6, ez0, ez1, ez2, ez3, ez4, ez5, ez6⟩ := box7 (fa4.heap b14 (fun f => f))
                 obtain ⟨dc0, dc1, dc2, dc3, dc4, dc5, dc6, dz0, dz1, dz2, dz3, dz4, dz5, dz6⟩ := box7 b14))
            all_goals
              have s4 := f4.size
              have s4b : W3.drew.heap.size = W3.heap.size := rfl
              have fs5 := set7_fr (W4.alloc (.cells #[ci y.1.kind, ci y.1.op, ct y.1.mod, ct y.1.name, ci y.1.vt, .int .u64 y.1.vb, .slice ao2 y.2.len cap2, ci z.1.kind, ci z.1.op, ct z.1.mod, ct z.1.name, ci z.1.vt, .int .u64 z.1.vb, .slice ao4 z.2.len cap4] 27)) W1.heap.size (ci 7) (ci op) (.string ⟨#[]⟩) (.string ⟨#[]⟩) (ci 0) (.int .u64 0) (.slice (some ⟨W4.heap.size, 0, none⟩) 2 2)
              have hb15 : ((((((((W4.alloc (.cells #[ci y.1.kind, ci y.1.op, ct y.1.mod, ct y.1.name, ci y.1.vt, .int .u64 y.1.vb, .slice ao2 y.2.len cap2, ci z.1.kind, ci z.1.op, ct z.1.mod, ct z.1.name, ci z.1.vt, .int .u64 z.1.vb, .slice ao4 z.2.len cap4] 27)).setCell ⟨W1.heap.size, 0, none⟩ (ci 7)).setCell ⟨W1.heap.size, 1, none⟩ (ci op)).setCell ⟨W1.heap.size, 2, none⟩ (.string ⟨#[]⟩)).setCell ⟨W1.heap.size, 3, none⟩ (.string ⟨#[]⟩)).setCell ⟨W1.heap.size, 4, none⟩ (ci 0)).setCell ⟨W1.heap.size, 5, none⟩ (.int .u64 0)).setCell ⟨W1.heap.size, 6, none⟩ (.slice (some ⟨W4.heap.size, 0, none⟩) 2 2)).heap[W1.heap.size]? = some (.cells #[ci 7, ci op, .string ⟨#[]⟩, .string ⟨#[]⟩, ci 0, .int .u64 0, .slice (some ⟨W4.heap.size, 0, none⟩) 2 2] 27) := set_seven (fa4.heap b14H (fun f => f)) _ _ _ _ _ _ _
              have hb05 : ((((((((W4.alloc (.cells #[ci y.1.kind, ci y.1.op, ct y.1.mod, ct y.1.name, ci y.1.vt, .int .u64 y.1.vb, .slice ao2 y.2.len cap2, ci z.1.kind, ci z.1.op, ct z.1.mod, ct z.1.name, ci z.1.vt, .int .u64 z.1.vb, .slice ao4 z.2.len cap4] 27)).setCell ⟨W1.heap.size, 0, none⟩ (ci 7)).setCell ⟨W1.heap.size, 1, none⟩ (ci op)).setCell ⟨W1.heap.size, 2, none⟩ (.string ⟨#[]⟩)).setCell ⟨W1.heap.size, 3, none⟩ (.string ⟨#[]⟩)).setCell ⟨W1.heap.size, 4, none⟩ (ci 0)).setCell ⟨W1.heap.size, 5, none⟩ (.int .u64 0)).setCell ⟨W1.heap.size, 6, none⟩ (.slice (some ⟨W4.heap.size, 0, none⟩) 2 2)).heap[w.heap.size]? = some ex0 := fs5.heap (fa4.heap (f4.heap (f3d.heap b03 (fun f => f)) (by omega)) (fun f => f)) (by omega)
              have hg5 : ((((((((W4.alloc (.cells #[ci y.1.kind, ci y.1.op, ct y.1.mod, ct y.1.name, ci y.1.vt, .int .u64 y.1.vb, .slice ao2 y.2.len cap2, ci z.1.kind, ci z.1.op, ct z.1.mod, ct z.1.name, ci z.1.vt, .int .u64 z.1.vb, .slice ao4 z.2.len cap4] 27)).setCell ⟨W1.heap.size, 0, none⟩ (ci 7)).setCell ⟨W1.heap.size, 1, none⟩ (ci op)).setCell ⟨W1.heap.size, 2, none⟩ (.string ⟨#[]⟩)).setCell ⟨W1.heap.size, 3, none⟩ (.string ⟨#[]⟩)).setCell ⟨W1.heap.size, 4, none⟩ (ci 0)).setCell ⟨W1.heap.size, 5, none⟩ (.int .u64 0)).setCell ⟨W1.heap.size, 6, none⟩ (.slice (some ⟨W4.heap.size, 0, none⟩) 2 2)).heap[W4.heap.size]? = some (.cells #[ci y.1.kind, ci y.1.op, ct y.1.mod, ct y.1.name, ci y.1.vt, .int .u64 y.1.vb, .slice ao2 y.2.len cap2, ci z.1.kind, ci z.1.op, ct z.1.mod, ct z.1.name, ci z.1.vt, .int .u64 z.1.vb, .slice ao4 z.2.len cap4] 27) := fs5.heap (alloc_new _ _) (by omega)
              have hNy := (((hN3.step f3d (fun _ f => f.elim)).step f4 (fun k hk => by subst hk; omega)).step fa4 (fun _ f => f.elim)).step fs5 (fun k hk => Or.inr hk)
              have hNz5 := (((hN4.old (z := W1.heap.size) (B' := w.heap.size + 1) (by omega) (by omega)).step fa4 (fun _ f => f.elim)).step fs5 (fun k hk => Or.inr hk))
              have hK5 := Nz.two hNy hNz5 hg5 (by omega) (by omega)
              have hp5 : Hidden (Ps ((((((((W4.alloc (.cells #[ci y.1.kind, ci y.1.op, ct y.1.mod, ct y.1.name, ci y.1.vt, .int .u64 y.1.vb, .slice ao2 y.2.len cap2, ci z.1.kind, ci z.1.op, ct z.1.mod, ct z.1.name, ci z.1.vt, .int .u64 z.1.vb, .slice ao4 z.2.len cap4] 27)).setCell ⟨W1.heap.size, 0, none⟩ (ci 7)).setCell ⟨W1.heap.size, 1, none⟩ (ci op)).setCell ⟨W1.heap.size, 2, none⟩ (.string ⟨#[]⟩)).setCell ⟨W1.heap.size, 3, none⟩ (.string ⟨#[]⟩)).setCell ⟨W1.heap.size, 4, none⟩ (ci 0)).setCell ⟨W1.heap.size, 5, none⟩ (.int .u64 0)).setCell ⟨W1.heap.size, 6, none⟩ (.slice (some ⟨W4.heap.size, 0, none⟩) 2 2)) q ts4 d false) := (hQ4.keepN fa4).high fs5 (fun k hk => by subst hk; omega)
              have g5 : Fr (fun k => k = q) w ((((((((W4.alloc (.cells #[ci y.1.kind, ci y.1.op, ct y.1.mod, ct y.1.name, ci y.1.vt, .int .u64 y.1.vb, .slice ao2 y.2.len cap2, ci z.1.kind, ci z.1.op, ct z.1.mod, ct z.1.name, ci z.1.vt, .int .u64 z.1.vb, .slice ao4 z.2.len cap4] 27)).setCell ⟨W1.heap.size, 0, none⟩ (ci 7)).setCell ⟨W1.heap.size, 1, none⟩ (ci op)).setCell ⟨W1.heap.size, 2, none⟩ (.string ⟨#[]⟩)).setCell ⟨W1.heap.size, 3, none⟩ (.string ⟨#[]⟩)).setCell ⟨W1.heap.size, 4, none⟩ (ci 0)).setCell ⟨W1.heap.size, 5, none⟩ (.int .u64 0)).setCell ⟨W1.heap.size, 6, none⟩ (.slice (some ⟨W4.heap.size, 0, none⟩) 2 2)) := (((g3.same (frq f3d)).same f4).same (frq fa4)).over fs5 (fun k hk => by subst hk; omega)
              have s5 := fs5.size
              simp only [World.size_alloc] at s5
              generalize ((((((((W4.alloc (.cells #[ci y.1.kind, ci y.1.op, ct y.1.mod, ct y.1.name, ci y.1.vt, .int .u64 y.1.vb, .slice ao2 y.2.len cap2, ci z.1.kind, ci z.1.op, ct z.1.mod, ct z.1.name, ci z.1.vt, .int .u64 z.1.vb, .slice ao4 z.2.len cap4] 27)).setCell ⟨W1.heap.size, 0, none⟩ (ci 7)).setCell ⟨W1.heap.size, 1, none⟩ (ci op)).setCell ⟨W1.heap.size, 2, none⟩ (.string ⟨#[]⟩)).setCell ⟨W1.heap.size, 3, none⟩ (.string ⟨#[]⟩)).setCell ⟨W1.heap.size, 4, none⟩ (ci 0)).setCell ⟨W1.heap.size, 5, none⟩ (.int .u64 0)).setCell ⟨W1.heap.size, 6, none⟩ (.slice (some ⟨W4.heap.size, 0, none⟩) 2 2)) = W5 at fs5 hb15 hb05 hg5 hK5 hp5 g5 s5 ⊢
              have hb15H : Hidden (W5.heap[W1.heap.size]? = some (.cells #[ci 7, ci op, .string ⟨#[]⟩, .string ⟨#[]⟩, ci 0, .int .u64 0, .slice (some ⟨W4.heap.size, 0, none⟩) 2 2] 27)) := hb15
              have hb05H : Hidden (W5.heap[w.heap.size]? = some ex0) := hb05
              clear hNy hNz5 hg5 fs5 hb15 hb05 dc0 dc1 dc2 dc3 dc4 dc5 dc6 dz0 dz1 dz2 dz3 dz4 dz5 dz6 ec0 ec1 ec2 ec3 ec4 ec5 ec6 ez0 ez1 ez2 ez3 ez4 ez5 ez6 bc0 bc1 bc2 bc3 bc4 bc5 bc6 b14H b14 fa4 hQ4 hN4
              by_cases hl3 : own = 3
              · obtain rfl : rs = .ok (Pz.bin op y z) ts4 := by
                  have h1 : (if own = 3 then some (Pz.Rs.ok (Pz.bin op y z) ts4) else Pz.lp (Pz.two E g n false d) own gk (Pz.bin op y z) ts4) = some rs := hs
                  rw [if_pos hl3] at h1
                  exact (Option.some.inj h1).symm
                have l3 : ((own : Int) == 3) = true := by simp [hl3]
                obtain ⟨ac0, ac1, ac2, ac3, ac4, ac5, ac6, az0, az1, az2, az3, az4, az5, az6⟩ := box7 hb05H
                obtain ⟨bc0, bc1, bc2, bc3, bc4, bc5, bc6, bz0, bz1, bz2, bz3, bz4, bz5, bz6⟩ := box7 hb15H
                clear hs hl3
                go_wp2_with fail
                (try simp only [Exit.inBlock, Exit.then])
                have fs := set7_fr W5 w.heap.size (ci 7) (ci op) (.string ⟨#[]⟩) (.string ⟨#[]⟩) (ci 0) (.int .u64 0) (.slice (some ⟨W4.heap.size, 0, none⟩) 2 2)
                exact post_ex hb05H rfl rfl rfl ⟨_, rfl, ⟨some ⟨W4.heap.size, 0, none⟩, 2, rfl, (hK5.nw.step fs (fun k hk => by subst hk; omega)).weak (by omega)⟩, Ps.high hp5 fs (fun k hk => by subst hk; exact hq), g5.over fs (fun k hk => by subst hk; exact Nat.le_refl _)⟩
              · have hs5 : Hidden (Pz.lp (Pz.two E g n false d) own gk (Pz.bin op y z) ts4 = some rs) := by
                  have h1 : (if own = 3 then some (Pz.Rs.ok (Pz.bin op y z) ts4) else Pz.lp (Pz.two E g n false d) own gk (Pz.bin op y z) ts4) = some rs := hs
                  rw [if_neg hl3] at h1
                  exact h1
                have l3 : ((own : Int) == 3) = false := by rw [beq_eq_false_iff_ne]; omega
                clear hs hl3
                go_wp2_with fail
                go_roundg gk
                case measure => omega
                case rel => exact ⟨Pz.bin op y z, ts4, _, _, hs5, hb15H, hb05H, hK5, hp5, g5, by omega⟩
        · rw [if_pos hop] at hs3
          obtain rfl : rs = .ok y (t :: r) := (Option.some.inj hs3).symm
          have ob1 : ((own : Int) == (lv : Int)) = false := by rw [beq_eq_false_iff_ne]; omega
          have ob2 : ((own : Int) != (lv : Int)) = true := by rw [bne_iff_ne]; omega
          clear hs3 hop
          go_wp2_with fail
          go_at_call 55
          refine (next_any q t r d false _ hpsH).mono ?_
          rintro e W2 ⟨rfl, f2⟩
          have b12 := f2.heap hb1H (fun f => f)
          have b02 : Hidden (W2.heap[w.heap.size]? = some ex0) := f2.heap hb0H (fun f => f)
          obtain ⟨ac0, ac1, ac2, ac3, ac4, ac5, ac6, az0, az1, az2, az3, az4, az5, az6⟩ := box7 b02
          obtain ⟨bc0, bc1, bc2, bc3, bc4, bc5, bc6, bz0, bz1, bz2, bz3, bz4, bz5, bz6⟩ := box7 b12
          clear b12
          go_wp2_with fail
          go_at_call 54
          refine (kop _).mono ?_
          rintro e W2' ⟨rfl, rfl⟩
          go_wp2_with fail
          (try simp only [Exit.inBlock, Exit.then])
          have fs := set7_fr W2' w.heap.size (ci y.1.kind) (ci y.1.op) (ct y.1.mod) (ct y.1.name) (ci y.1.vt) (.int .u64 y.1.vb) (.slice ao2 y.2.len cap2)
          exact post_ex b02 rfl rfl rfl ⟨_, rfl, ⟨ao2, cap2, rfl, ((hNz.step f2 (fun _ f => f.elim)).nw.step fs (fun k hk => by subst hk; omega)).weak (by omega)⟩, (Ps.keepN hpsH f2).high fs (fun k hk => by subst hk; exact hq), (hfr.same (frq f2)).over fs (fun k hk => by subst hk; exact Nat.le_refl _)⟩

include hE in
theorem two_c (g : Nat) (hg : g ≤ 3000) : CT E g 5 1 :=
  two_s hE g hg 4 1 (by omega) (by omega) (two_s hE g hg 3 2 (by omega) (by omega) (two_s hE g hg 2 3 (by omega) (by omega) (two_s hE g hg 1 4 (by omega) (by omega) (two_s hE g hg 0 5 (by omega) (by omega) (two_0 hE g hg)))))
end
set_option maxRecDepth 20000 in
set_option maxHeartbeats 1000000 in
theorem expr_s (f : Nat) (hf : f + 1 ≤ 3000) (hE : CE (Pz.expr f)) : CE (Pz.expr (f + 1)) := by
  intro fl d ts rs q w hd hs0 h
  rw [Pz.expr] at hs0
  have hT := two_c hE (f + 1) hf
  unfold CT at hT
  have hs : Hidden (_ = some rs) := hs0
  clear hs0
  have hq := h.lt
  have f0 := Fr.alloc (fun _ => False) w ex0
  have g0 : Fr (fun k => k = q) w (w.alloc ex0) := frq f0
  have hP0 : Hidden (Ps (w.alloc ex0) q ts d fl) := h.keepN f0
  have hb0 : Hidden ((w.alloc ex0).heap[w.heap.size]? = some ex0) := alloc_new _ _
  clear h
  go_enter Tryz.func13, Tryz.ntmps13
  go_wp2_with fail
  go_at_call 29
  obtain ⟨r1, e1, hs⟩ : ∃ r, _ = some r ∧ Hidden (r = rs) := ⟨rs, hs, rfl⟩
  refine (hT fl d ts r1 q _ hd e1 hP0).mono ?_
  clear e1
  rcases r1 with ⟨x, ts1⟩ | ⟨p, c⟩
  rotate_left
  · obtain rfl : .er p c = rs := hs
    rintro e W1 ⟨rfl, f1⟩
    unfold gP
    go_wp2_with fail
    exact ⟨rfl, rfl, g0.same f1⟩
  rintro e W1 ⟨v1, rfl, ⟨ao, cap, rfl, hN⟩, hQ1, f1⟩
  have g1 := g0.same f1
  have s1 := f1.size
  have t1 := g1.size
  have hP1 : Hidden (Ps W1 q ts1 d false) := hQ1
  clear hQ1
  simp only [World.size_alloc] at s1
  have hb0_1 : Hidden (W1.heap[w.heap.size]? = some (ex0)) := f1.heap hb0 (by omega)
  obtain rfl : .ok x ts1 = rs := hs
  simp only [World.size_alloc] at hN
  obtain ⟨b0c0, b0c1, b0c2, b0c3, b0c4, b0c5, b0c6, b0z0, b0z1, b0z2, b0z3, b0z4, b0z5, b0z6⟩ := box7 hb0_1
  go_wp2_with fail
  have fs := set7_fr W1 w.heap.size (ci x.1.kind) (ci x.1.op) (ct x.1.mod) (ct x.1.name) (ci x.1.vt) (.int .u64 x.1.vb) (.slice ao x.2.len cap)
  exact post_ex hb0_1 rfl rfl rfl ⟨_, rfl, ⟨ao, cap, rfl, (hN.step fs (fun k hk => by subst hk; omega)).weak (by omega)⟩, Ps.high hP1 fs (fun k hk => by subst hk; exact hq), g1.over fs (fun k hk => by subst hk; exact Nat.le_refl _)⟩
/-- expr. -/
theorem expr_c : ∀ (f : Nat), f ≤ 3000 → CE (Pz.expr f)
  | 0, _ => fun fl d ts rs q w hd hs h => by simp [Pz.expr] at hs
  | f + 1, hf => expr_s f hf (expr_c f (by omega))

end Go.Proofs.YtpkaekokkhecmaaGreatDoor
