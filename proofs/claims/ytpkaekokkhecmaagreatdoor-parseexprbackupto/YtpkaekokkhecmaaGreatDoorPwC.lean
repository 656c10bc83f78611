/- The program's parser: parentheses, arguments, calls. -/
import Derived.Test.YtpkaekokkhecmaaGreatDoorPwR
namespace Go.Proofs.YtpkaekokkhecmaaGreatDoor
open Go.RowKit Lx Te
set_option linter.unusedSimpArgs false
set_option linter.unusedVariables false

theorem Pz.opn_lt {s : Bs} {fl : Bool} {d : Nat} {ts ts' : List Tok} {u : Unit} (hd : d ≤ 32) (h : Pz.opn s fl d ts = some (.ok u ts')) : d + 1 ≤ 32 := by
  cases ts with
  | nil => simp [Pz.opn] at h
  | cons t r =>
    simp only [Pz.opn] at h
    by_cases h1 : d = 32
    · rw [if_pos h1] at h
      split at h <;> simp at h
    · omega
/-- With one more in a row, or it gave up. -/
def OutR {α : Type} (R : World → α → List Value → Prop) (el : TypeId) (size q d B : Nat) (v : Value) (l : List α) (w : World) (r : Pz.Rs α) (e : Ending) (w' : World) : Prop :=
  match r with
  | .ok x ts => ∃ v', e = .returned v' ∧ Row R el size w' B v' (l ++ [x]) ∧ Ps w' q ts d false ∧ Fr (fun k => k = q ∨ v.ownBlock = some k) w w'
  | .er p c => e = gP p c ∧ Fr (fun k => k = q) w w'
theorem add0 (b j : Nat) : (⟨b, 0, none⟩ : Addr).add j = ⟨b, j, none⟩ := by unfold Addr.add; split <;> simp_all
theorem info_moreE : (Tryz.prog.info? 27).map (fun i => (i.zero, i.size, i.bytes)) = some (some (.agg #[.int .i64 0, .int .i64 0, .string ⟨#[]⟩, .string ⟨#[]⟩, .int .i64 0, .int .u64 0, .slice none 0 0]), 7, 88) := by kernel_rfl
set_option maxRecDepth 20000 in
set_option maxHeartbeats 1000000 in
theorem moreE_c (q B : Nat) (v : Value) (l : List Pz.Ex) (most : Int) (ts : List Tok) (d : Nat) (fl fl' : Bool) (rs : Pz.Rs Pz.Ex) (w : World) (hfl : ((l.length : Int) == most) = fl') (hl : l.length ≤ 4000) (hr0 : Row RE 27 7 w B v l) (hqB : q < B) (hB : B ≤ w.heap.size)
    (k1 : ∀ w1, Ps w1 q ts d fl' → Calls Tryz.prog 13 #[pp q] w1 (Out TE q d w1 rs)) (h : Ps w q ts d fl) :
    Calls Tryz.prog 157 #[pp q, v, ci most, .func (.func 13) #[] #[]] w (OutR RE 27 7 q d B v l w rs) := by
  have hq := h.lt
  obtain ⟨aor, capr, rfl, hlen, hcap⟩ := hr0.shape
  have hcap2 : capr ≤ 9223372036854775807 := by unfold maxLen at hcap; omega
  obtain ⟨c2, z2⟩ := h.fullC
  have hP1 : Hidden (Ps (w.setCell ⟨q, 2, none⟩ (.bool fl')) q ts d fl') := h.setFull fl'
  have fq := Fr.put w q 2 (.bool fl')
  have hr1 : Hidden (Row RE 27 7 (w.setCell ⟨q, 2, none⟩ (.bool fl')) B (.slice aor l.length capr) l) := hr0.keep fq (fun k hk => by subst hk; exact hqB)
  have k2 := k1 _ hP1
  have hsz : (w.setCell ⟨q, 2, none⟩ (.bool fl')).heap.size = w.heap.size := by simp
  have hszH : Hidden ((w.setCell ⟨q, 2, none⟩ (.bool fl')).heap.size = w.heap.size) := hsz
  clear h k1 hsz
  go_enter Tryz.func157, Tryz.ntmps157
  go_wp2_with fail
  go_at_call 13
  refine k2.mono ?_
  rcases rs with ⟨x, ts1⟩ | ⟨p, c⟩
  rotate_left
  · rintro e W1 ⟨rfl, f1⟩
    unfold gP
    go_wp2_with fail
    exact ⟨rfl, rfl, fq.same f1⟩
  rintro e W1 ⟨v1, rfl, ⟨ao, cap, rfl, hN⟩, hQ1, f1⟩
  have s1 : w.heap.size ≤ W1.heap.size := by have := f1.size; rw [show _ = w.heap.size from hszH] at this; exact this
  rw [show _ = w.heap.size from hszH] at hN
  have hr2 : Hidden (Row RE 27 7 W1 B (.slice aor l.length capr) l) := Row.keep hr1 f1 (fun k hk => by subst hk; exact hqB)
  have hQH : Hidden (Ps W1 q ts1 d false) := hQ1
  have fa := Fr.alloc (fun _ => False) W1 (.cells #[ci x.1.kind, ci x.1.op, ct x.1.mod, ct x.1.name, ci x.1.vt, .int .u64 x.1.vb, .slice ao x.2.len cap] 27)
  clear hQ1
  go_wp2_with (at_builtin
               go_must (refine wpList_row (R := RE) rfl _ _ 25 27 _ 7 88 Tryz.underlying25 info_moreE rfl (by decide) rfl B (.slice aor l.length capr) l x (exC x.1 (.slice ao x.2.len cap)) ⟨W1.heap.size, 0, none⟩ 1 rfl ?c0 rfl rfl ?c1 ?c2 ?c3 hl (by decide) ?c4 ?_)
               case c0 => go_must (exact Row.keep hr2 fa (fun _ f => f.elim))
               case c1 => go_must (exact fun j u hu => by rw [add0, cell_of_row _ _ j _ _ _ (alloc_new _ _)]; simpa [exC, paC, deC] using hu)
               case c2 => go_must (exact fun u hu => by simp only [exC, paC, deC, List.mem_cons, List.not_mem_nil, or_false] at hu; rcases hu with rfl | rfl | rfl | rfl | rfl | rfl | rfl <;> rfl)
               case c3 => go_must (exact fun w' hf => ⟨ao, cap, rfl, (hN.step fa (fun _ f => f.elim)) w' (hf.mono (fun k _ hk => by rcases hk with hk | hk; (omega); (have := (hr0.own k hk).2; omega)))⟩)
               case c4 => go_must (simp; omega)
               intro v2 W2 hr3 f3)
  go_ret
  have fall : Fr (fun k => k = q ∨ Value.ownBlock (.slice aor l.length capr) = some k) w W2 := (((fq.same f1).same (frq fa)).mono (fun k _ hk => Or.inl hk)).same (f3.mono (fun k _ hk => Or.inr hk))
  exact ⟨_, rfl, hr3, (Ps.keepN hQH fa).high f3 (fun k hk => by have := (hr0.own k hk).1; omega), fall⟩
/-- What reads an expression. -/
def CE (E : Bool → Nat → List Tok → Pz.Ou Pz.Ex) : Prop := ∀ (fl : Bool) (d : Nat) (ts : List Tok) (rs : Pz.Rs Pz.Ex) (q : Nat) (w : World), d ≤ 32 → E fl d ts = some rs → Ps w q ts d fl →
  Calls Tryz.prog 13 #[pp q] w (Out TE q d w rs)
/-- Expressions in a row that was made since. -/
def TL (l : Exs) (v : Value) (w w' : World) : Prop := ∃ ao cap, v = .slice ao l.len cap ∧ Nw w.heap.size w' (fun w => ExL w ao cap l)
def TP (l : List Pa) (v : Value) (w w' : World) : Prop := ∃ ao cap, v = .slice ao l.length cap ∧ Nw w.heap.size w' (fun w => PaL w ao cap l)
section
variable {E : Bool → Nat → List Tok → Pz.Ou Pz.Ex} (hE : CE E)
include hE


set_option maxRecDepth 20000 in
set_option maxHeartbeats 1000000 in
theorem ins_c (q : Nat) (ts : List Tok) (d : Nat) (hd : d ≤ 32) (fl : Bool) (rs : Pz.Rs Pz.Ex) (hs : Hidden (Pz.ins E fl d ts = some rs)) (w : World) (h : Ps w q ts d fl) :
    Calls Tryz.prog 108 #[pp q] w (Out TE q d w rs) := by
  have hq := h.lt
  have f0 := Fr.alloc (fun _ => False) w ex0
  have g0 : Fr (fun k => k = q) w (w.alloc ex0) := frq f0
  have hP0 : Hidden (Ps (w.alloc ex0) q ts d fl) := h.keepN f0
  have hb0 : Hidden ((w.alloc ex0).heap[w.heap.size]? = some ex0) := alloc_new _ _
  clear h
  go_enter Tryz.func108, Tryz.ntmps108
  go_wp2_with fail
  go_at_call 103
  obtain ⟨r1, e1, hs⟩ := Pz.bd_some hs
  refine (opn_c q [40] ts d hd fl r1 e1 _ hP0).mono ?_
  rcases r1 with ⟨u, ts1⟩ | ⟨p, c⟩
  rotate_left
  · obtain rfl : rs = .er p c := hs
    rintro e W1 ⟨rfl, f1⟩
    unfold gP
    go_wp2_with fail
    exact ⟨rfl, rfl, g0.same f1⟩
  rintro e W1 ⟨v1, rfl, rfl, hQ1, f1⟩
  have g1 := g0.same f1
  have s1 := f1.size
  have t1 := g1.size
  have hP1 : Hidden (Ps W1 q ts1 (d + 1) false) := hQ1
  clear hQ1
  simp only [World.size_alloc] at s1
  have hb0_1 : Hidden (W1.heap[w.heap.size]? = some (ex0)) := f1.heap hb0 (by omega)
  have hd1 := Pz.opn_lt hd e1
  clear e1
  go_wp2_with fail
  go_at_call 13
  obtain ⟨r2, e2, hs⟩ := Pz.bd_some hs
  refine (hE false (d + 1) ts1 r2 q _ hd1 e2 hP1).mono ?_
  clear e2
  rcases r2 with ⟨x, ts2⟩ | ⟨p, c⟩
  rotate_left
  · obtain rfl : rs = .er p c := hs
    rintro e W2 ⟨rfl, f2⟩
    unfold gP
    go_wp2_with fail
    exact ⟨rfl, rfl, g1.same f2⟩
  rintro e W2 ⟨v2, rfl, ⟨ao, cap, rfl, hN⟩, hQ2, f2⟩
  have g2 := g1.same f2
  have s2 := f2.size
  have t2 := g2.size
  have hP2 : Hidden (Ps W2 q ts2 (d + 1) false) := hQ2
  clear hQ2
  have hb0_2 : Hidden (W2.heap[w.heap.size]? = some (ex0)) := f2.heap hb0_1 (by omega)
  have fab1 := Fr.alloc (fun _ => False) W2 (.cells #[ci x.1.kind, ci x.1.op, ct x.1.mod, ct x.1.name, ci x.1.vt, .int .u64 x.1.vb, .slice ao x.2.len cap] 27)
  have gb1 : Fr (fun k => k = q) w (W2.alloc (.cells #[ci x.1.kind, ci x.1.op, ct x.1.mod, ct x.1.name, ci x.1.vt, .int .u64 x.1.vb, .slice ao x.2.len cap] 27)) := g2.same (frq fab1)
  have hPb1 : Hidden (Ps (W2.alloc (.cells #[ci x.1.kind, ci x.1.op, ct x.1.mod, ct x.1.name, ci x.1.vt, .int .u64 x.1.vb, .slice ao x.2.len cap] 27)) q ts2 (d + 1) false) := Ps.keepN hP2 fab1
  have hnb1 : Hidden ((W2.alloc (.cells #[ci x.1.kind, ci x.1.op, ct x.1.mod, ct x.1.name, ci x.1.vt, .int .u64 x.1.vb, .slice ao x.2.len cap] 27)).heap[W2.heap.size]? = some (.cells #[ci x.1.kind, ci x.1.op, ct x.1.mod, ct x.1.name, ci x.1.vt, .int .u64 x.1.vb, .slice ao x.2.len cap] 27)) := alloc_new _ _
  have hb0_b1 : Hidden ((W2.alloc (.cells #[ci x.1.kind, ci x.1.op, ct x.1.mod, ct x.1.name, ci x.1.vt, .int .u64 x.1.vb, .slice ao x.2.len cap] 27)).heap[w.heap.size]? = some (ex0)) := fab1.heap hb0_2 (fun f => f)
  go_wp2_with fail
  go_at_call 127
  obtain ⟨r3, e3, hs⟩ := Pz.bd_some hs
  refine (shut_c q [41] ts2 d hd r3 e3 _ hPb1).mono ?_
  clear e3
  rcases r3 with ⟨u2, ts3⟩ | ⟨p, c⟩
  rotate_left
  · obtain rfl : rs = .er p c := hs
    rintro e W3 ⟨rfl, f3⟩
    unfold gP
    go_wp2_with fail
    exact ⟨rfl, rfl, gb1.same f3⟩
  rintro e W3 ⟨v3, rfl, rfl, hQ3, f3⟩
  have g3 := gb1.same f3
  have s3 := f3.size
  have t3 := g3.size
  have hP3 : Hidden (Ps W3 q ts3 d false) := hQ3
  clear hQ3
  simp only [World.size_alloc] at s3
  have hb0_3 : Hidden (W3.heap[w.heap.size]? = some (ex0)) := f3.heap hb0_b1 (by omega)
  have hb1_3 : Hidden (W3.heap[W2.heap.size]? = some (.cells #[ci x.1.kind, ci x.1.op, ct x.1.mod, ct x.1.name, ci x.1.vt, .int .u64 x.1.vb, .slice ao x.2.len cap] 27)) := f3.heap hnb1 (by omega)
  obtain rfl : rs = .ok x ts3 := (Option.some.inj (show some _ = some rs from hs)).symm
  obtain ⟨b0c0, b0c1, b0c2, b0c3, b0c4, b0c5, b0c6, b0z0, b0z1, b0z2, b0z3, b0z4, b0z5, b0z6⟩ := box7 hb0_3
  obtain ⟨b1c0, b1c1, b1c2, b1c3, b1c4, b1c5, b1c6, b1z0, b1z1, b1z2, b1z3, b1z4, b1z5, b1z6⟩ := box7 hb1_3
  go_wp2_with fail
  have fs := set7_fr W3 w.heap.size (ci x.1.kind) (ci x.1.op) (ct x.1.mod) (ct x.1.name) (ci x.1.vt) (.int .u64 x.1.vb) (.slice ao x.2.len cap)
  exact post_ex hb0_3 rfl rfl rfl ⟨_, rfl, ⟨ao, cap, rfl, (((hN.step fab1 (fun _ f => f.elim)).step f3 (fun k hk => by subst hk; omega)).step fs (fun k hk => by subst hk; omega)).weak (by omega)⟩, Ps.high hP3 fs (fun k hk => by subst hk; exact hq), g3.over fs (fun k hk => by subst hk; exact Nat.le_refl _)⟩

omit hE in
theorem beq8 (n : Nat) : ((n : Int) == 8) = (n == 8) := by
  by_cases h : n = 8
  · subst h; rfl
  · have h1 : (n == 8) = false := by simpa using h
    rw [h1, beq_eq_false_iff_ne]
    omega

set_option maxRecDepth 20000 in
set_option maxHeartbeats 1000000 in
theorem rowE_c (g : Nat) (hg : g ≤ 3000) (q : Nat) (ts : List Tok) (d : Nat) (hd : d ≤ 32) (fl : Bool) (rs : Pz.Rs Exs) (hs : Hidden (Pz.bd (E false d ts) (fun e ts => Pz.rwE E d g (.cons e.1 e.2 .nil) ts) = some rs)) (w : World) (h : Ps w q ts d fl) :
    Calls Tryz.prog 145 #[pp q, ci 8, .func (.func 13) #[] #[]] w (Out TL q d w rs) := by
  have hq := h.lt
  have hP0 : Hidden (Ps w q ts d fl) := h
  clear h
  go_enter Tryz.func145, Tryz.ntmps145
  go_wp2_with fail
  go_at_call 157
  obtain ⟨r1, e1, hs⟩ := Pz.bd_some hs
  refine (moreE_c q w.heap.size (.slice none 0 0) [] 8 ts d fl false r1 w rfl (by simp) (Row.nil _ _ _ _ _) hq (Nat.le_refl _) (fun w1 hp => hE false d ts r1 q w1 hd e1 hp) hP0).mono ?_
  clear e1
  rcases r1 with ⟨x, ts1⟩ | ⟨p, c⟩
  rotate_left
  · obtain rfl : rs = .er p c := hs
    rintro e W1 ⟨rfl, f1⟩
    unfold gP
    go_wp2_with fail
    exact ⟨rfl, rfl, f1⟩
  rintro e W1 ⟨v1, rfl, hr1, hQ1, f1⟩
  have g1 : Fr (fun k => k = q) w W1 := f1.mono (fun k _ hk => by rcases hk with hk | hk; (exact hk); (simp [Value.ownBlock] at hk))
  have hQH : Hidden (Ps W1 q ts1 d false) := hQ1
  have hrH : Hidden (Row RE 27 7 W1 w.heap.size v1 ([] ++ [x])) := hr1
  have hs2 : Hidden (Pz.rwE E d g (.cons x.1 x.2 .nil) ts1 = some rs) := hs
  clear hQ1 hr1 hs
  go_wp2_with fail
  go_loopg [7] g (fun k lx wr => ∃ (lv : Value) (acc : Exs) (us : List Tok), lv = lx ∧ Pz.rwE E d k acc us = some rs ∧ Row RE 27 7 wr w.heap.size lv acc.list ∧ acc.len + k ≤ g + 1 ∧ Ps wr q us d false ∧ Fr (fun k => k = q) w wr)
  case atStart => exact ⟨_, (.cons x.1 x.2 .nil), ts1, rfl, hs2, hrH, by simp [Exs.len]; omega, hQH, g1⟩
  case round =>
    obtain ⟨lv, acc, us, rfl, hspec, hrow, hlen, hps, hfr⟩ := hrel
    have hspecH : Hidden (Pz.rwE E d gk acc us = some rs) := hspec
    have hrowH : Hidden (Row RE 27 7 wr w.heap.size lv acc.list) := hrow
    have hpsH : Hidden (Ps wr q us d false) := hps
    have hlenH : Hidden (acc.len + gk ≤ g + 1) := hlen
    clear hspec hps hlen hs2 hrow
    cases gk with
    | zero => exact absurd hspecH (by simp [Hidden, Pz.rwE])
    | succ gk =>
      cases us with
      | nil => exact absurd hspecH (by simp [Hidden, Pz.rwE])
      | cons t r =>
        by_cases hx : t.x = [44]
        · have hs3 := hspecH
          simp only [Hidden, Pz.rwE, if_pos hx] at hs3
          have hs4 : Hidden (Pz.bd _ _ = some rs) := hs3
          have kh := has_yes q [44] t r d hx wr hpsH
          clear hspecH hx hs3 hpsH
          go_wp2_with fail
          go_at_call 80
          refine kh.mono ?_
          rintro e W2 ⟨rfl, hp2, f2⟩
          have hp2H : Hidden (Ps W2 q r d false) := hp2
          have hrow2 := Row.keep hrowH f2 (fun k hk => by subst hk; exact hq)
          have hrow2H : Hidden (Row RE 27 7 W2 w.heap.size lv acc.list) := hrow2
          have g2 := hfr.same f2
          have s2 := g2.size
          clear hp2 hrow2 kh
          go_wp2_with fail
          go_at_call 157
          obtain ⟨r1, e1, hs⟩ := Pz.bd_some hs4
          refine (moreE_c q w.heap.size lv acc.list 8 r d false (acc.len == 8) r1 W2 (by rw [Exs.list_len]; exact beq8 acc.len) (by have h9 : acc.len + (gk + 1) ≤ g + 1 := hlenH; rw [Exs.list_len]; omega) hrow2H hq s2 (fun w1 hp => hE _ d r r1 q w1 hd e1 hp) hp2H).mono ?_
          clear e1
          rcases r1 with ⟨x, ts2⟩ | ⟨p, c⟩
          rotate_left
          · obtain rfl : rs = .er p c := hs
            rintro e W3 ⟨rfl, f3⟩
            unfold gP
            go_wp2_with fail
            exact ⟨rfl, rfl, g2.same f3⟩
          rintro e W3 ⟨v3, rfl, hr2, hQ3, f3⟩
          have g3 : Fr (fun k => k = q) w W3 := g2.trans f3 (fun k hk hs => by rcases hs with hs | hs; (exact hs); (have := (Row.own hrow2H k hs).1; omega))
          go_wp2_with fail
          go_roundg gk
          case measure => omega
          case rel => exact ⟨_, (acc.app (.cons x.1 x.2 .nil)), ts2, rfl, hs, by rw [Exs.list_app]; exact hr2, by have h9 : acc.len + (gk + 1) ≤ g + 1 := hlenH; rw [Exs.app_len]; simp only [Exs.len]; omega, hQ3, g3⟩
        · have hs3 := hspecH
          simp only [Hidden, Pz.rwE, if_neg hx] at hs3
          obtain rfl : rs = .ok acc (t :: r) := (Option.some.inj hs3).symm
          have kh := has_no q [44] t r d false hx wr hpsH
          clear hspecH hx hs3
          obtain ⟨ao, cap, rfl, hN⟩ := Row.held hrowH
          have hN2 := (show Nw w.heap.size wr (fun w => ExL w ao cap acc) from fun w1 hf => exL_of (hN w1 hf))
          clear hrowH
          go_wp2_with fail
          go_at_call 80
          refine kh.mono ?_
          rintro e W2 ⟨rfl, f2⟩
          go_wp2_with fail
          go_ret
          exact ⟨_, rfl, ⟨ao, cap, by rw [← Exs.list_len]; rfl, hN2.step f2 (fun _ f => f.elim)⟩, Ps.keepN hpsH f2, hfr.same (frq f2)⟩

end
end Go.Proofs.YtpkaekokkhecmaaGreatDoor
