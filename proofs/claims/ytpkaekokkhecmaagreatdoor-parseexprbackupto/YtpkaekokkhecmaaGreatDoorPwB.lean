/- The program's parser: depth, what an expression is made of. -/
import Derived.Test.YtpkaekokkhecmaaGreatDoorPwA
namespace Go.Proofs.YtpkaekokkhecmaaGreatDoor
open Go.RowKit Lx Te
set_option linter.unusedSimpArgs false
set_option linter.unusedVariables false

theorem Pz.bd_some {α β : Type} {m : Pz.Ou α} {k : α → List Tok → Pz.Ou β} {r : Pz.Rs β} (h : Hidden (Pz.bd m k = some r)) :
    ∃ r1, m = some r1 ∧ Hidden (match r1 with | .ok a ts => k a ts = some r | .er p c => r = .er p c) := by
  match m, h with
  | none, h => exact absurd h (by simp [Hidden])
  | some (.er p c), h => exact ⟨_, rfl, by have : some (Pz.Rs.er p c) = some r := h; exact (Option.some.inj this).symm⟩
  | some (.ok a ts), h => exact ⟨_, rfl, h⟩
/-- It holds whatever is written ahead of B. -/
def Nw (B : Nat) (w : World) (P : World → Prop) : Prop := ∀ w', Fr (fun k => k < B) w w' → P w'
theorem Nw.now {B : Nat} {w : World} {P : World → Prop} (h : Nw B w P) : P w := h w (Fr.refl _ _)
theorem Nw.step {B : Nat} {S : Nat → Prop} {w w' : World} {P : World → Prop} (h : Nw B w P) (hf : Fr S w w') (hS : ∀ k, S k → k < B) : Nw B w' P :=
  fun w'' hf' => h w'' ((hf.mono (fun k _ hk => hS k hk)).same hf')
theorem Nw.weak {B B' : Nat} {w : World} {P : World → Prop} (h : Nw B w P) (hB : B' ≤ B) : Nw B' w P :=
  fun w' hf => h w' (hf.mono (fun k _ hk => by omega))
/-- An expression that was made since. -/
def TE (x : Pz.Ex) (v : Value) (w w' : World) : Prop :=
  ∃ ao cap, v = .agg #[ci x.1.kind, ci x.1.op, ct x.1.mod, ct x.1.name, ci x.1.vt, .int .u64 x.1.vb, .slice ao x.2.len cap] ∧ Nw w.heap.size w' (fun w => ExL w ao cap x.2)
theorem info_ex : (Tryz.prog.info? 27).map (·.size) = some 7 := by kernel_rfl
theorem post_ex {fn : Func} {R : Ending → World → Prop} {a : Act} {w : World} {p : Tmp} {g : Nat} {x0 x1 x2 x3 x4 x5 x6 v0 v1 v2 v3 v4 v5 v6 : Value} (hg : w.heap[g]? = some (.cells #[x0, x1, x2, x3, x4, x5, x6] 27 (0, 0))) (h : fn.results = #[.cell p 27]) (hd : a.defers = [])
    (hp : a.tmps.getD p undef = .pointer (some ⟨g, 0, none⟩)) (hR : R (.returned (.agg #[v0, v1, v2, v3, v4, v5, v6])) (((((((w.setCell ⟨g, 0, none⟩ v0).setCell ⟨g, 1, none⟩ v1).setCell ⟨g, 2, none⟩ v2).setCell ⟨g, 3, none⟩ v3).setCell ⟨g, 4, none⟩ v4).setCell ⟨g, 5, none⟩ v5).setCell ⟨g, 6, none⟩ v6)) :
    bodyPost Tryz.prog fn R .ret a (((((((w.setCell ⟨g, 0, none⟩ v0).setCell ⟨g, 1, none⟩ v1).setCell ⟨g, 2, none⟩ v2).setCell ⟨g, 3, none⟩ v3).setCell ⟨g, 4, none⟩ v4).setCell ⟨g, 5, none⟩ v5).setCell ⟨g, 6, none⟩ v6) :=
  post_one (results_cell_row h _ _ _ _ _ _ _ hp (set_seven hg _ _ _ _ _ _ _) Tryz.underlying27 rfl info_ex) hd hR
abbrev ex0 : Obj := .cells #[ci 0, ci 0, .string ⟨#[]⟩, .string ⟨#[]⟩, ci 0, .int .u64 0, .slice none 0 0] 27 (0, 0)

theorem atEnd_any (q : Nat) (ts : List Tok) (d : Nat) (fl : Bool) (b : Bool) (hb : Hidden (((ts.length : Int) == 1) = b)) (w : World) (h : Ps w q ts d fl) :
    Calls Tryz.prog 49 #[pp q] w fun e w' => e = .returned (.bool b) ∧ w' = w := by
  obtain ⟨hTq, g, off, cap, h1, _⟩ := h
  have c0 : w.cell? ⟨q, 0, none⟩ = some (.slice (some ⟨g, off, none⟩) ts.length cap) := cell_of_row _ _ 0 _ _ _ h1
  clear h1
  go_enter Tryz.func49, Tryz.ntmps49
  go_wp2_with fail
  go_ret
  refine ⟨?_, rfl⟩
  rw [← (show _ = b from hb)]
  rfl
theorem mustEnd_ok (q : Nat) (t : Tok) (d : Nat) (fl : Bool) (w : World) (h : Ps w q [t] d fl) :
    Calls Tryz.prog 28 #[pp q] w fun e w' => e = .returned (.tuple #[]) ∧ w' = w := by
  have k := atEnd_any q [t] d fl true rfl w h
  go_enter Tryz.func28, Tryz.ntmps28
  go_wp2_with (go_at_call 49; refine k.mono ?_; rintro e W1 ⟨rfl, rfl⟩)
  go_end0
  exact ⟨rfl, rfl⟩
theorem mustEnd_no (q : Nat) (t u : Tok) (r : List Tok) (d : Nat) (fl : Bool) (w : World) (h : Ps w q (t :: u :: r) d fl) :
    Calls Tryz.prog 28 #[pp q] w fun e w' => e = gP t.p 11 ∧ Fr (fun _ => False) w w' := by
  have k := atEnd_any q (t :: u :: r) d fl false (by simp only [Hidden, beq_eq_false_iff_ne, List.length_cons]; omega) w h
  have kf := fault_any q 11 t (u :: r) d fl w h
  unfold gP
  go_enter Tryz.func28, Tryz.ntmps28
  go_wp2_with fail
  go_at_call 49
  refine k.mono ?_
  rintro e W1 ⟨rfl, rfl⟩
  go_wp2_with fail
  go_at_call 52
  refine kf.mono ?_
  rintro e W2 ⟨rfl, f2⟩
  go_wp2_with fail
  exact ⟨rfl, rfl, f2⟩

/-- How deep it stands, and with it changed. -/
theorem Ps.deep {w : World} {q : Nat} {ts : List Tok} {d : Nat} {fl : Bool} (h : Ps w q ts d fl) : w.cell? ⟨q, 1, none⟩ = some (ci (d : Int)) ∧ w.frozen? ⟨q, 1, none⟩ = false := by
  obtain ⟨hTq, g, off, cap, h1, _⟩ := h
  exact ⟨cell_of_row _ _ 1 _ _ _ h1, frozen_row h1 1⟩
theorem Ps.setDeep {w : World} {q : Nat} {ts : List Tok} {d : Nat} {fl : Bool} (h : Ps w q ts d fl) (d' : Nat) : Ps (w.setCell ⟨q, 1, none⟩ (ci (d' : Int))) q ts d' fl :=
  h.set (Fr.put w q 1 _) (fun v hv => heap_setCell_same _ q 1 _ 102 _ hv)
theorem Ps.setFull {w : World} {q : Nat} {ts : List Tok} {d : Nat} {fl : Bool} (h : Ps w q ts d fl) (fl' : Bool) : Ps (w.setCell ⟨q, 2, none⟩ (.bool fl')) q ts d fl' :=
  h.set (Fr.put w q 2 _) (fun v hv => heap_setCell_same _ q 2 _ 102 _ hv)
theorem Ps.fullC {w : World} {q : Nat} {ts : List Tok} {d : Nat} {fl : Bool} (h : Ps w q ts d fl) : w.cell? ⟨q, 2, none⟩ = some (.bool fl) ∧ w.frozen? ⟨q, 2, none⟩ = false := by
  obtain ⟨hTq, g, off, cap, h1, _⟩ := h
  exact ⟨cell_of_row _ _ 2 _ _ _ h1, frozen_row h1 2⟩

set_option maxRecDepth 20000 in
theorem opn_c (q : Nat) (s : Bs) (ts : List Tok) (d : Nat) (hd : d ≤ 32) (fl : Bool) (rs : Pz.Rs Unit) (hs : Pz.opn s fl d ts = some rs) (w : World) (h : Ps w q ts d fl) :
    Calls Tryz.prog 103 #[pp q, ct s] w (Out (fun _ v _ _ => v = .tuple #[]) q (d + 1) w rs) := by
  cases ts with
  | nil => simp [Pz.opn] at hs
  | cons t r =>
    have hH : Hidden (Ps w q (t :: r) d fl) := h
    simp only [Pz.opn] at hs
    by_cases hx : t.x = s
    · rw [if_pos hx] at hs
      have ki := is_any q s t r d fl true (by simpa [Hidden] using hx) w h
      by_cases h32 : d = 32
      · rw [if_pos h32] at hs
        have e : Pz.Rs.er t.p 13 = rs := by simpa using hs
        subst e
        have kf := fun w => fault_any q 13 t r d fl w
        have hb : ((d : Int) == 32) = true := by simp [h32]
        clear hs hx h h32
        unfold Out gP at *
        go_enter Tryz.func103, Tryz.ntmps103
        go_wp2_with fail
        go_at_call 46
        refine ki.mono ?_
        rintro e W1 ⟨rfl, f1⟩
        obtain ⟨c1, z1⟩ := (Ps.keepN hH f1).deep
        go_wp2_with fail
        go_at_call 52
        refine (kf _ (Ps.keepN hH f1)).mono ?_
        rintro e W2 ⟨rfl, f2⟩
        go_wp2_with fail
        exact ⟨rfl, rfl, frq (f1.same f2)⟩
      · rw [if_neg h32] at hs
        have hm : Pz.must s fl (t :: r) = some rs := by simp only [Pz.must, if_pos hx]; exact hs
        have km := fun w => must_c q s (t :: r) d fl rs hm w
        have hb : ((d : Int) == 32) = false := by rw [beq_eq_false_iff_ne]; omega
        clear hs hx h h32 hm
        go_enter Tryz.func103, Tryz.ntmps103
        go_wp2_with fail
        go_at_call 46
        refine ki.mono ?_
        rintro e W1 ⟨rfl, f1⟩
        obtain ⟨c1, z1⟩ := (Ps.keepN hH f1).deep
        go_wp2_with fail
        go_at_call 44
        refine (km _ (Ps.keepN hH f1)).mono ?_
        rcases rs with ⟨u, ts1⟩ | ⟨p, c⟩
        · rintro e W2 ⟨v, rfl, rfl, h2, f2⟩
          obtain ⟨c2, z2⟩ := h2.deep
          have h2H : Hidden (Ps W2 q ts1 d false) := h2
          clear h2
          go_wp2_with fail
          go_end0
          exact ⟨_, rfl, rfl, Ps.setDeep h2H (d + 1), ((frq f1).same f2).same (Fr.put _ q 1 _)⟩
        · rintro e W2 ⟨rfl, f2⟩
          unfold gP
          go_wp2_with fail
          exact ⟨rfl, rfl, (frq f1).same f2⟩
    · rw [if_neg hx] at hs
      have ki := is_any q s t r d fl false (by simpa [Hidden] using hx) w h
      have hm : Pz.must s fl (t :: r) = some rs := by simp only [Pz.must, if_neg hx]; exact hs
      have km := fun w => must_c q s (t :: r) d fl rs hm w
      have e : Pz.Rs.er t.p 11 = rs := by simpa using hs
      subst e
      clear hs hx h hm
      go_enter Tryz.func103, Tryz.ntmps103
      go_wp2_with fail
      go_at_call 46
      refine ki.mono ?_
      rintro e W1 ⟨rfl, f1⟩
      go_wp2_with fail
      go_at_call 44
      refine (km _ (Ps.keepN hH f1)).mono ?_
      rintro e W2 ⟨rfl, f2⟩
      unfold gP
      go_wp2_with fail
      exact ⟨rfl, rfl, (frq f1).same f2⟩
set_option maxRecDepth 20000 in
theorem shut_c (q : Nat) (s : Bs) (ts : List Tok) (d : Nat) (hd : d ≤ 32) (rs : Pz.Rs Unit) (hs : Pz.must s false ts = some rs) (w : World) (h : Ps w q ts (d + 1) false) :
    Calls Tryz.prog 127 #[pp q, ct s] w (Out (fun _ v _ _ => v = .tuple #[]) q d w rs) := by
  have km := must_c q s ts (d + 1) false rs hs w h
  clear hs h
  go_enter Tryz.func127, Tryz.ntmps127
  go_wp2_with fail
  go_at_call 44
  refine km.mono ?_
  rcases rs with ⟨u, ts1⟩ | ⟨p, c⟩
  · rintro e W2 ⟨v, rfl, rfl, h2, f2⟩
    obtain ⟨c2, z2⟩ := h2.deep
    have c3 : W2.cell? ⟨q, 1, none⟩ = some (ci ((d : Int) + 1)) := c2
    have h2H : Hidden (Ps W2 q ts1 (d + 1) false) := h2
    clear h2 c2
    go_wp2_with fail
    go_end0
    exact ⟨_, rfl, rfl, Ps.setDeep h2H d, f2.same (Fr.put _ q 1 _)⟩
  · rintro e W2 ⟨rfl, f2⟩
    unfold gP
    go_wp2_with fail
    exact ⟨rfl, rfl, f2⟩
theorem Nw.nil (B : Nat) (w : World) : Nw B w (fun w => ExL w none 0 .nil) := fun _ _ => ⟨Nat.le_refl _, by decide, Or.inl rfl⟩
set_option maxRecDepth 20000 in
theorem lit_c (ty b : Int) (w : World) : Calls Tryz.prog 105 #[.agg #[ci ty, .int .u64 b]] w fun e w' => ∃ v, e = .returned v ∧ TE (Pz.lit ty b) v w w' ∧ Fr (fun _ => False) w w' := by
  go_enter Tryz.func105, Tryz.ntmps105
  go_wp2_with fail
  exact post_one (results_cell_row rfl _ _ _ _ _ _ _ rfl (heap_alloc2_new _ _ _) Tryz.underlying27 rfl info_ex) rfl ⟨_, rfl, ⟨none, 0, rfl, Nw.nil _ _⟩, (Fr.alloc _ _ _).same (Fr.alloc _ _ _)⟩
/-- One expression in a row of its own. -/
theorem Nw.one {B : Nat} {w : World} {h : EH} {k : Exs} {ao : Option Addr} {cap b : Nat} {t : TypeId} (hk : Nw B w (fun w => ExL w ao cap k)) (hb : w.heap[b]? = some (.cells #[ci h.kind, ci h.op, ct h.mod, ct h.name, ci h.vt, .int .u64 h.vb, .slice ao k.len cap] t (0, 0))) (hB : B ≤ b) :
    Nw B w (fun w => ExL w (some ⟨b, 0, none⟩) 1 (.cons h k .nil)) := by
  intro w' hf
  have hk' := hk w' hf
  have hb' := hf.heap hb (by omega)
  refine ⟨Nat.le_refl _, by decide, Or.inr ⟨b, 0, rfl, ⟨⟨ao, cap, fun j x hx => ?_, hk'.1, hk'.2.1, hk'.2.2⟩, trivial⟩⟩⟩
  rw [Nat.zero_add, cell_of_row _ _ j _ _ _ hb']
  simpa [exC] using hx
set_option maxRecDepth 20000 in
theorem one_c (op : Int) (B : Nat) (x : Pz.Ex) (ao : Option Addr) (cap : Nat) (w : World) (hB : B ≤ w.heap.size) (hx : Nw B w (fun w => ExL w ao cap x.2)) :
    Calls Tryz.prog 104 #[ci op, .agg #[ci x.1.kind, ci x.1.op, ct x.1.mod, ct x.1.name, ci x.1.vt, .int .u64 x.1.vb, .slice ao x.2.len cap]] w fun e w' =>
      ∃ b cap', e = .returned (.agg #[ci 6, ci op, .string ⟨#[]⟩, .string ⟨#[]⟩, ci 0, .int .u64 0, .slice (some ⟨b, 0, none⟩) 1 cap']) ∧ Nw B w' (fun w => ExL w (some ⟨b, 0, none⟩) cap' (.cons x.1 x.2 .nil)) ∧ Fr (fun _ => False) w w' := by
  go_enter Tryz.func104, Tryz.ntmps104
  go_wp2_with fail
  have hf := ((Fr.alloc (fun _ => False) w (.cells #[ci x.1.kind, ci x.1.op, ct x.1.mod, ct x.1.name, ci x.1.vt, .int .u64 x.1.vb, .slice ao x.2.len cap] 27)).same (Fr.alloc _ _ (.cells #[ci 6, ci op, .string ⟨#[]⟩, .string ⟨#[]⟩, ci 0, .int .u64 0, .slice (some ⟨w.heap.size + 1 + 1, 0, none⟩) 1 1] 27))).same (Fr.alloc _ _ (.cells #[ci x.1.kind, ci x.1.op, ct x.1.mod, ct x.1.name, ci x.1.vt, .int .u64 x.1.vb, .slice ao x.2.len cap] 27))
  refine post_one (results_cell_row rfl _ _ _ _ _ _ _ rfl ((alloc_old _ _ _ (by simp)).trans (heap_alloc2_new _ _ _)) Tryz.underlying27 rfl info_ex) rfl ⟨w.heap.size + 1 + 1, 1, rfl, ?_, hf⟩
  exact (hx.step hf (fun _ f => f.elim)).one (by have := alloc_new ((w.alloc (.cells #[ci x.1.kind, ci x.1.op, ct x.1.mod, ct x.1.name, ci x.1.vt, .int .u64 x.1.vb, .slice ao x.2.len cap] 27)).alloc (.cells #[ci 6, ci op, .string ⟨#[]⟩, .string ⟨#[]⟩, ci 0, .int .u64 0, .slice (some ⟨w.heap.size + 1 + 1, 0, none⟩) 1 1] 27)) (.cells #[ci x.1.kind, ci x.1.op, ct x.1.mod, ct x.1.name, ci x.1.vt, .int .u64 x.1.vb, .slice ao x.2.len cap] 27); simpa using this) (by omega)

set_option maxRecDepth 20000 in
theorem refr_c (q : Nat) (ts : List Tok) (d : Nat) (fl : Bool) (rs : Pz.Rs Pz.Ex) (hs : Hidden (Pz.refr fl ts = some rs)) (w : World) (h : Ps w q ts d fl) :
    Calls Tryz.prog 106 #[pp q] w (Out TE q d w rs) := by
  have hq := h.lt
  have f0 := Fr.alloc (fun _ => False) w ex0
  have hP0 : Hidden (Ps (w.alloc ex0) q ts d fl) := h.keepN f0
  have hb0 : Hidden ((w.alloc ex0).heap[w.heap.size]? = some ex0) := alloc_new _ _
  clear h
  go_enter Tryz.func106, Tryz.ntmps106
  go_wp2_with fail
  go_at_call 45
  obtain ⟨r1, e1, hs⟩ := Pz.bd_some hs
  refine (name_c q ts d fl r1 e1 _ hP0).mono ?_
  clear e1
  rcases r1 with ⟨n, ts1⟩ | ⟨p, c⟩
  rotate_left
  · obtain rfl : rs = .er p c := hs
    rintro e W1 ⟨rfl, f1⟩
    unfold gP
    go_wp2_with fail
    exact ⟨rfl, rfl, (frq f0).same f1⟩
  rintro e W1 ⟨v, rfl, rfl, hP1, f1⟩
  have g1 := (frq f0).same f1
  have hb1 : Hidden (W1.heap[w.heap.size]? = some ex0) := f1.heap hb0 (by omega)
  have hP1H : Hidden (Ps W1 q ts1 d false) := hP1
  clear hP1
  go_wp2_with fail
  go_at_call 80
  obtain ⟨r2, e2, hs⟩ := Pz.bd_some hs
  refine (has_c q [46] ts1 d r2 e2 _ hP1H).mono ?_
  clear e2
  rcases r2 with ⟨b, ts2⟩ | ⟨p, c⟩
  rotate_left
  · obtain rfl : rs = .er p c := hs
    rintro e W2 ⟨rfl, f2⟩
    unfold gP
    go_wp2_with fail
    exact ⟨rfl, rfl, g1.same f2⟩
  rintro e W2 ⟨v, rfl, rfl, hP2, f2⟩
  have g2 := g1.same f2
  have hb2 : Hidden (W2.heap[w.heap.size]? = some ex0) := f2.heap hb1 (by omega)
  have hP2H : Hidden (Ps W2 q ts2 d false) := hP2
  clear hP2
  cases b
  · obtain rfl : rs = .ok (⟨2, 0, [], n, 0, 0⟩, .nil) ts2 := (Option.some.inj (show some _ = some rs from hs)).symm
    obtain ⟨a0, a1, a2, a3, a4, a5, a6, x0, x1, x2, x3, x4, x5, x6⟩ := box7 hb2
    go_wp2_with fail
    have fs := set7_fr W2 w.heap.size (ci 2) (ci 0) (.string ⟨#[]⟩) (ct n) (ci 0) (.int .u64 0) (.slice none 0 0)
    exact post_ex hb2 rfl rfl rfl ⟨_, rfl, ⟨none, 0, rfl, Nw.nil _ _⟩, Ps.high hP2H fs (fun k hk => by subst hk; exact hq), g2.over fs (fun k hk => by subst hk; exact Nat.le_refl _)⟩
  · go_wp2_with fail
    go_at_call 45
    obtain ⟨r3, e3, hs⟩ := Pz.bd_some hs
    refine (name_c q ts2 d false r3 e3 _ hP2H).mono ?_
    clear e3
    rcases r3 with ⟨m, ts3⟩ | ⟨p, c⟩
    rotate_left
    · obtain rfl : rs = .er p c := hs
      rintro e W3 ⟨rfl, f3⟩
      unfold gP
      go_wp2_with fail
      exact ⟨rfl, rfl, g2.same f3⟩
    rintro e W3 ⟨v, rfl, rfl, hP3, f3⟩
    have g3 := g2.same f3
    have hb3 : Hidden (W3.heap[w.heap.size]? = some ex0) := f3.heap hb2 (by omega)
    have hP3H : Hidden (Ps W3 q ts3 d false) := hP3
    clear hP3
    obtain rfl : rs = .ok (⟨3, 0, n, m, 0, 0⟩, .nil) ts3 := (Option.some.inj (show some _ = some rs from hs)).symm
    obtain ⟨a0, a1, a2, a3, a4, a5, a6, x0, x1, x2, x3, x4, x5, x6⟩ := box7 hb3
    go_wp2_with fail
    have fs := set7_fr W3 w.heap.size (ci 3) (ci 0) (ct n) (ct m) (ci 0) (.int .u64 0) (.slice none 0 0)
    exact post_ex hb3 rfl rfl rfl ⟨_, rfl, ⟨none, 0, rfl, Nw.nil _ _⟩, Ps.high hP3H fs (fun k hk => by subst hk; exact hq), g3.over fs (fun k hk => by subst hk; exact Nat.le_refl _)⟩
end Go.Proofs.YtpkaekokkhecmaaGreatDoor
