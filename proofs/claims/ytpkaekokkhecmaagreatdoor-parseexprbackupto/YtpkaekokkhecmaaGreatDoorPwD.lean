/- The program's parser: arguments, calls, operators of one. -/
import Derived.Test.YtpkaekokkhecmaaGreatDoorPwC
namespace Go.Proofs.YtpkaekokkhecmaaGreatDoor
open Go.RowKit Lx Te
set_option linter.unusedSimpArgs false
set_option linter.unusedVariables false

theorem Pz.bd_assoc {α β γ : Type} (m : Pz.Ou α) (k : α → List Tok → Pz.Ou β) (k2 : β → List Tok → Pz.Ou γ) : Pz.bd m (fun a ts => Pz.bd (k a ts) k2) = Pz.bd (Pz.bd m k) k2 := by
  match m with
  | none => rfl
  | some (.er p c) => rfl
  | some (.ok a ts) => rfl
theorem Ps.second {w : World} {q : Nat} {t u : Tok} {r : List Tok} {d : Nat} {fl : Bool} (h : Ps w q (t :: u :: r) d fl) : ∃ g off cap, w.cell? ⟨q, 0, none⟩ = some (.slice (some ⟨g, off, none⟩) (r.length + 1 + 1) cap) ∧ r.length + 1 + 1 ≤ cap ∧ cap ≤ 9223372036854775807 ∧
    w.cell? ⟨g, off + 5 + 1, none⟩ = some (.string ⟨u.x.toArray⟩) := by
  obtain ⟨g, off, cap, h1, h2, h3, h4, _, _, _, _, _, h5⟩ := h.head
  refine ⟨g, off, cap, cell_of_row _ _ 0 _ _ _ h1, h3, h4, ?_⟩
  have := h5 0 u rfl 1 _ rfl
  simpa using this
section
variable {E : Bool → Nat → List Tok → Pz.Ou Pz.Ex} (hE : CE E)
include hE

set_option maxRecDepth 20000 in
set_option maxHeartbeats 1000000 in
theorem args_c (g : Nat) (hg : g ≤ 3000) (q : Nat) (ts : List Tok) (d : Nat) (hd : d ≤ 32) (rs : Pz.Rs Exs) (hs : Hidden (Pz.args E g d ts = some rs)) (w : World) (h : Ps w q ts d false) :
    Calls Tryz.prog 128 #[pp q] w (Out TL q d w rs) := by
  obtain rfl | ⟨t, r, rfl⟩ : ts = [] ∨ ∃ t r, ts = t :: r := by cases ts with | nil => exact Or.inl rfl | cons t r => exact Or.inr ⟨t, r, rfl⟩
  · exact absurd hs (by simp [Hidden, Pz.args])
  by_cases hx : t.x = [40]
  · obtain rfl | ⟨u, r, rfl⟩ : r = [] ∨ ∃ t r', r = t :: r' := by cases r with | nil => exact Or.inl rfl | cons t r => exact Or.inr ⟨t, r, rfl⟩
    · exact absurd hs (by simp [Hidden, Pz.args, hx])
    by_cases hy : u.x = [41]
    · skip
      have hq := h.lt
      have g0 := Fr.refl (fun k => k = q) w
      have hP0 : Hidden (Ps w q (t :: u :: r) d false) := h
      clear h
      have ki := is_any q [40] t (u :: r) d false true (by simp [Hidden, hx]) w hP0
      have km1 := fun w => must_c q [40] (t :: u :: r) d false (.ok () (u :: r)) (by simp [Pz.must, hx]) w
      have km2 := fun w => must_c q [41] (u :: r) d false (.ok () r) (by simp [Pz.must, hy]) w
      obtain rfl : rs = .ok .nil r := by
        have hs1 : Pz.args E g d (t :: u :: r) = some rs := hs
        simp only [Pz.args, hx, hy, and_self, if_true] at hs1
        exact (Option.some.inj hs1).symm
      have hyb : (u.x == [41]) = true := by simp [hy]
      clear hs hx hy
      go_enter Tryz.func128, Tryz.ntmps128
      go_wp2_with fail
      go_at_call 46
      refine ki.mono ?_
      rintro e W1 ⟨rfl, f1⟩
      obtain ⟨g', off, cap, c0, c1, c2, c3⟩ := (Ps.keepN hP0 f1).second
      go_wp2_with fail
      go_at_call 44
      refine (km1 _ (Ps.keepN hP0 f1)).mono ?_
      rintro e W2 ⟨v2, rfl, rfl, hp2, f2⟩
      have hp2H : Hidden (Ps W2 q (u :: r) d false) := hp2
      clear hp2 c0 c3
      go_wp2_with fail
      go_at_call 44
      refine (km2 _ hp2H).mono ?_
      rintro e W3 ⟨v3, rfl, rfl, hp3, f3⟩
      go_wp2_with fail
      go_ret
      exact ⟨_, rfl, ⟨none, 0, rfl, Nw.nil _ _⟩, hp3, ((frq f1).same f2).same f3⟩
    · skip
      have hq := h.lt
      have g0 := Fr.refl (fun k => k = q) w
      have hP0 : Hidden (Ps w q (t :: u :: r) d false) := h
      clear h
      have ki := is_any q [40] t (u :: r) d false true (by simp [Hidden, hx]) w hP0
      have hyb : (u.x == [41]) = false := by simpa using hy
      replace hs : Hidden (Pz.bd (Pz.opn [40] false d (t :: u :: r)) (fun _ ts => Pz.bd (E false (d + 1) ts) fun e ts => Pz.bd (Pz.rwE E (d + 1) g (.cons e.1 e.2 .nil) ts) fun l ts => Pz.bd (Pz.must [41] false ts) fun _ ts => some (.ok l ts)) = some rs) := by
        have hs1 : Pz.args E g d (t :: u :: r) = some rs := hs
        rw [Pz.args, if_neg (fun h => hy h.2)] at hs1
        exact hs1
      clear hx hy
      go_enter Tryz.func128, Tryz.ntmps128
      go_wp2_with fail
      go_at_call 46
      refine ki.mono ?_
      rintro e W0 ⟨rfl, f0⟩
      obtain ⟨g', off, cap, c0, c1, c2, c3⟩ := (Ps.keepN hP0 f0).second
      have g00 : Fr (fun k => k = q) w W0 := frq f0
      have hP00 : Hidden (Ps W0 q (t :: u :: r) d false) := Ps.keepN hP0 f0
      go_wp2_with fail
      go_at_call 103
      obtain ⟨r1, e1, hs⟩ := Pz.bd_some hs
      refine (opn_c q [40] ((t :: u :: r)) d hd false r1 e1 _ hP00).mono ?_
      rcases r1 with ⟨u1, ts1⟩ | ⟨p, c⟩
      rotate_left
      · obtain rfl : rs = .er p c := hs
        rintro e W1 ⟨rfl, f1⟩
        unfold gP
        go_wp2_with fail
        exact ⟨rfl, rfl, g00.same f1⟩
      rintro e W1 ⟨v1, rfl, rfl, hQ1, f1⟩
      have g1 := g00.same f1
      have s1 := f1.size
      have t1 := g1.size
      have hP1 : Hidden (Ps W1 q ts1 (d + 1) false) := hQ1
      clear hQ1
      have hd1 := Pz.opn_lt hd e1
      clear e1
      replace hs : Hidden (Pz.bd (Pz.bd (E false (d + 1) ts1) (fun e ts => Pz.rwE E (d + 1) g (.cons e.1 e.2 .nil) ts)) (fun l ts => Pz.bd (Pz.must [41] false ts) fun _ ts => some (.ok l ts)) = some rs) := (Pz.bd_assoc _ _ _).symm.trans hs
      go_wp2_with fail
      go_at_call 145
      obtain ⟨r2, e2, hs⟩ := Pz.bd_some hs
      refine (rowE_c hE g hg q ts1 (d + 1) hd1 false r2 e2 _ hP1).mono ?_
      clear e2
      rcases r2 with ⟨l, ts2⟩ | ⟨p, c⟩
      rotate_left
      · obtain rfl : rs = .er p c := hs
        rintro e W2 ⟨rfl, f2⟩
        unfold gP
        go_wp2_with fail
        exact ⟨rfl, rfl, g1.same f2⟩
      rintro e W2 ⟨v2, rfl, ⟨ao, cap, rfl, hN⟩, hQ2, f2⟩
      have g2 := g1.same f2
      have s2 := f2.size
      have t2 := g2.size
      have hP2 : Hidden (Ps W2 q ts2 (d + 1) false) := hQ2
      clear hQ2
      go_wp2_with fail
      go_at_call 127
      obtain ⟨r3, e3, hs⟩ := Pz.bd_some hs
      refine (shut_c q [41] ts2 d hd r3 e3 _ hP2).mono ?_
      clear e3
      rcases r3 with ⟨u3, ts3⟩ | ⟨p, c⟩
      rotate_left
      · obtain rfl : rs = .er p c := hs
        rintro e W3 ⟨rfl, f3⟩
        unfold gP
        go_wp2_with fail
        exact ⟨rfl, rfl, g2.same f3⟩
      rintro e W3 ⟨v3, rfl, rfl, hQ3, f3⟩
      have g3 := g2.same f3
      have s3 := f3.size
      have t3 := g3.size
      have hP3 : Hidden (Ps W3 q ts3 d false) := hQ3
      clear hQ3
      obtain rfl : rs = .ok l ts3 := (Option.some.inj (show some _ = some rs from hs)).symm
      go_wp2_with fail
      go_ret
      exact ⟨_, rfl, ⟨ao, cap, rfl, (hN.step f3 (fun k hk => by subst hk; omega)).weak (by omega)⟩, hP3, g3⟩
  · skip
    have hq := h.lt
    have g0 := Fr.refl (fun k => k = q) w
    have hP0 : Hidden (Ps w q (t :: r) d false) := h
    clear h
    have ki := is_any q [40] t r d false false (by simpa [Hidden] using hx) w hP0
    replace hs : Hidden (Pz.bd (Pz.opn [40] false d (t :: r)) (fun _ ts => Pz.bd (E false (d + 1) ts) fun e ts => Pz.bd (Pz.rwE E (d + 1) g (.cons e.1 e.2 .nil) ts) fun l ts => Pz.bd (Pz.must [41] false ts) fun _ ts => some (.ok l ts)) = some rs) := by
      have hs1 : Pz.args E g d (t :: r) = some rs := hs
      cases r with
      | nil =>
        simp only [Pz.args, if_neg hx] at hs1
        simp only [Hidden, Pz.opn, if_neg hx, Pz.bd_er]
        exact hs1
      | cons u r =>
        rw [Pz.args, if_neg (fun h => hx h.1)] at hs1
        exact hs1
    clear hx
    go_enter Tryz.func128, Tryz.ntmps128
    go_wp2_with fail
    go_at_call 46
    refine ki.mono ?_
    rintro e W0 ⟨rfl, f0⟩
    have g00 : Fr (fun k => k = q) w W0 := frq f0
    have hP00 : Hidden (Ps W0 q (t :: r) d false) := Ps.keepN hP0 f0
    go_wp2_with fail
    go_at_call 103
    obtain ⟨r1, e1, hs⟩ := Pz.bd_some hs
    refine (opn_c q [40] ((t :: r)) d hd false r1 e1 _ hP00).mono ?_
    rcases r1 with ⟨u1, ts1⟩ | ⟨p, c⟩
    rotate_left
    · obtain rfl : rs = .er p c := hs
      rintro e W1 ⟨rfl, f1⟩
      unfold gP
      go_wp2_with fail
      exact ⟨rfl, rfl, g00.same f1⟩
    rintro e W1 ⟨v1, rfl, rfl, hQ1, f1⟩
    have g1 := g00.same f1
    have s1 := f1.size
    have t1 := g1.size
    have hP1 : Hidden (Ps W1 q ts1 (d + 1) false) := hQ1
    clear hQ1
    have hd1 := Pz.opn_lt hd e1
    clear e1
    replace hs : Hidden (Pz.bd (Pz.bd (E false (d + 1) ts1) (fun e ts => Pz.rwE E (d + 1) g (.cons e.1 e.2 .nil) ts)) (fun l ts => Pz.bd (Pz.must [41] false ts) fun _ ts => some (.ok l ts)) = some rs) := (Pz.bd_assoc _ _ _).symm.trans hs
    go_wp2_with fail
    go_at_call 145
    obtain ⟨r2, e2, hs⟩ := Pz.bd_some hs
    refine (rowE_c hE g hg q ts1 (d + 1) hd1 false r2 e2 _ hP1).mono ?_
    clear e2
    rcases r2 with ⟨l, ts2⟩ | ⟨p, c⟩
    rotate_left
    · obtain rfl : rs = .er p c := hs
      rintro e W2 ⟨rfl, f2⟩
      unfold gP
      go_wp2_with fail
      exact ⟨rfl, rfl, g1.same f2⟩
    rintro e W2 ⟨v2, rfl, ⟨ao, cap, rfl, hN⟩, hQ2, f2⟩
    have g2 := g1.same f2
    have s2 := f2.size
    have t2 := g2.size
    have hP2 : Hidden (Ps W2 q ts2 (d + 1) false) := hQ2
    clear hQ2
    go_wp2_with fail
    go_at_call 127
    obtain ⟨r3, e3, hs⟩ := Pz.bd_some hs
    refine (shut_c q [41] ts2 d hd r3 e3 _ hP2).mono ?_
    clear e3
    rcases r3 with ⟨u3, ts3⟩ | ⟨p, c⟩
    rotate_left
    · obtain rfl : rs = .er p c := hs
      rintro e W3 ⟨rfl, f3⟩
      unfold gP
      go_wp2_with fail
      exact ⟨rfl, rfl, g2.same f3⟩
    rintro e W3 ⟨v3, rfl, rfl, hQ3, f3⟩
    have g3 := g2.same f3
    have s3 := f3.size
    have t3 := g3.size
    have hP3 : Hidden (Ps W3 q ts3 d false) := hQ3
    clear hQ3
    obtain rfl : rs = .ok l ts3 := (Option.some.inj (show some _ = some rs from hs)).symm
    go_wp2_with fail
    go_ret
    exact ⟨_, rfl, ⟨ao, cap, rfl, (hN.step f3 (fun k hk => by subst hk; omega)).weak (by omega)⟩, hP3, g3⟩

set_option maxRecDepth 20000 in
set_option maxHeartbeats 1000000 in
theorem call_c (g : Nat) (hg : g ≤ 3000) (q : Nat) (x : Pz.Ex) (ao : Option Addr) (n cap : Nat) (ts : List Tok) (d : Nat) (hd : d ≤ 32) (rs : Pz.Rs Pz.Ex) (hs : Hidden (Pz.call E g d x ts = some rs)) (w : World) (h : Ps w q ts d false) :
    Calls Tryz.prog 107 #[pp q, .agg #[ci x.1.kind, ci x.1.op, ct x.1.mod, ct x.1.name, ci x.1.vt, .int .u64 x.1.vb, .slice ao n cap]] w (Out TE q d w rs) := by
  obtain ⟨⟨kind, op, mod, name, vt, vb⟩, ks⟩ := x
  simp only []
  have hq := h.lt
  by_cases hk : kind = 3
  · have hkb : (kind == 3) = true := by simpa using hk
    have hcH : Pz.Rs (Pz.Ex) = Pz.Rs Pz.Ex := rfl
    have hkc : Hidden (Pz.callH ⟨kind, op, mod, name, vt, vb⟩ = ⟨5, op, mod, name, vt, vb⟩) := by simp [Hidden, Pz.callH, hk]
    have fa := Fr.alloc (fun _ => False) w (.cells #[ci 5, ci op, ct mod, ct name, ci vt, .int .u64 vb, .slice ao n cap] 27)
    have fb := Fr.alloc (fun _ => False) (w.alloc (.cells #[ci 5, ci op, ct mod, ct name, ci vt, .int .u64 vb, .slice ao n cap] 27)) ex0
    have hP0 : Hidden (Ps ((w.alloc (.cells #[ci 5, ci op, ct mod, ct name, ci vt, .int .u64 vb, .slice ao n cap] 27)).alloc ex0) q ts d false) := (h.keepN fa).keepN fb
    have hn0 : Hidden (((w.alloc (.cells #[ci 5, ci op, ct mod, ct name, ci vt, .int .u64 vb, .slice ao n cap] 27)).alloc ex0).heap[w.heap.size]? = some (.cells #[ci 5, ci op, ct mod, ct name, ci vt, .int .u64 vb, .slice ao n cap] 27 (0, 0))) := heap_alloc2_old _ _ _
    have hn1 : Hidden (((w.alloc (.cells #[ci 5, ci op, ct mod, ct name, ci vt, .int .u64 vb, .slice ao n cap] 27)).alloc ex0).heap[w.heap.size + 1]? = some ex0) := heap_alloc2_new _ _ _
    clear h hcH hk
    go_enter Tryz.func107, Tryz.ntmps107
    go_wp2_with fail
    go_at_call 128
    obtain ⟨r1, e1, hs⟩ := Pz.bd_some hs
    refine (args_c hE g hg q ts d hd r1 e1 _ hP0).mono ?_
    clear e1
    rcases r1 with ⟨l, ts1⟩ | ⟨p, c⟩
    rotate_left
    · obtain rfl : rs = .er p c := hs
      rintro e W1 ⟨rfl, f1⟩
      unfold gP
      go_wp2_with fail
      exact ⟨rfl, rfl, ((frq fa).same (frq fb)).same f1⟩
    rintro e W1 ⟨v1, rfl, ⟨ao1, cap1, rfl, hN⟩, hQ1, f1⟩
    have g1 := ((frq (q := q) fa).same (frq fb)).same f1
    have s1 := f1.size
    simp only [World.size_alloc] at s1 hN
    have hm0 : Hidden (W1.heap[w.heap.size]? = some (.cells #[ci 5, ci op, ct mod, ct name, ci vt, .int .u64 vb, .slice ao n cap] 27 (0, 0))) := f1.heap hn0 (by omega)
    have hm1 : Hidden (W1.heap[w.heap.size + 1]? = some ex0) := f1.heap hn1 (by omega)
    have hQH : Hidden (Ps W1 q ts1 d false) := hQ1
    obtain rfl : rs = .ok (⟨5, op, mod, name, vt, vb⟩, l) ts1 := by
      have h1 : some (Pz.Rs.ok (Pz.callH ⟨kind, op, mod, name, vt, vb⟩, l) ts1) = some rs := hs
      rw [show Pz.callH _ = _ from hkc] at h1
      exact (Option.some.inj h1).symm
    clear hQ1
    obtain ⟨ac0, ac1, ac2, ac3, ac4, ac5, ac6, az0, az1, az2, az3, az4, az5, az6⟩ := box7 hm0
    obtain ⟨bc0, bc1, bc2, bc3, bc4, bc5, bc6, bz0, bz1, bz2, bz3, bz4, bz5, bz6⟩ := box7 hm1
    go_upto_region 5 with fail
    have fp := Fr.put W1 w.heap.size 6 (.slice ao1 l.len cap1)
    have hp0 : (W1.setCell ⟨w.heap.size, 6, none⟩ (.slice ao1 l.len cap1)).heap[w.heap.size]? = some (.cells #[ci 5, ci op, ct mod, ct name, ci vt, .int .u64 vb, .slice ao1 l.len cap1] 27 (0, 0)) := heap_setCell_same _ _ 6 _ _ _ hm0
    have hp1 : (W1.setCell ⟨w.heap.size, 6, none⟩ (.slice ao1 l.len cap1)).heap[w.heap.size + 1]? = some ex0 := fp.heap hm1 (by omega)
    have hN2 := hN.step fp (fun k hk => by subst hk; omega)
    have g2 : Fr (fun k => k = q) w (W1.setCell ⟨w.heap.size, 6, none⟩ (.slice ao1 l.len cap1)) := g1.over fp (fun k hk => by subst hk; omega)
    have hQ2 : Hidden (Ps (W1.setCell ⟨w.heap.size, 6, none⟩ (.slice ao1 l.len cap1)) q ts1 d false) := Ps.high hQH fp (fun k hk => by subst hk; omega)
    generalize W1.setCell ⟨w.heap.size, 6, none⟩ (.slice ao1 l.len cap1) = W2 at fp hp0 hp1 hN2 g2 hQ2 ⊢
    have hp1H : Hidden (W2.heap[w.heap.size + 1]? = some ex0) := hp1
    clear ac0 ac1 ac2 ac3 ac4 ac5 ac6 az0 az1 az2 az3 az4 az5 az6 bc0 bc1 bc2 bc3 bc4 bc5 bc6 bz0 bz1 bz2 bz3 bz4 bz5 bz6
    obtain ⟨ac0, ac1, ac2, ac3, ac4, ac5, ac6, az0, az1, az2, az3, az4, az5, az6⟩ := box7 hp0
    obtain ⟨bc0, bc1, bc2, bc3, bc4, bc5, bc6, bz0, bz1, bz2, bz3, bz4, bz5, bz6⟩ := box7 hp1
    clear hp0 hp1
    go_wp2_with fail
    have fs := set7_fr W2 (w.heap.size + 1) (ci 5) (ci op) (ct mod) (ct name) (ci vt) (.int .u64 vb) (.slice ao1 l.len cap1)
    exact post_ex hp1H rfl rfl rfl ⟨_, rfl, ⟨ao1, cap1, rfl, (hN2.step fs (fun k hk => by subst hk; omega)).weak (by omega)⟩, Ps.high hQ2 fs (fun k hk => by subst hk; omega), g2.over fs (fun k hk => by subst hk; omega)⟩
  · have hkb : (kind == 3) = false := by simpa using hk
    have hcH : Pz.Rs (Pz.Ex) = Pz.Rs Pz.Ex := rfl
    have hkc : Hidden (Pz.callH ⟨kind, op, mod, name, vt, vb⟩ = ⟨4, op, mod, name, vt, vb⟩) := by simp [Hidden, Pz.callH, hk]
    have fa := Fr.alloc (fun _ => False) w (.cells #[ci 4, ci op, ct mod, ct name, ci vt, .int .u64 vb, .slice ao n cap] 27)
    have fb := Fr.alloc (fun _ => False) (w.alloc (.cells #[ci 4, ci op, ct mod, ct name, ci vt, .int .u64 vb, .slice ao n cap] 27)) ex0
    have hP0 : Hidden (Ps ((w.alloc (.cells #[ci 4, ci op, ct mod, ct name, ci vt, .int .u64 vb, .slice ao n cap] 27)).alloc ex0) q ts d false) := (h.keepN fa).keepN fb
    have hn0 : Hidden (((w.alloc (.cells #[ci 4, ci op, ct mod, ct name, ci vt, .int .u64 vb, .slice ao n cap] 27)).alloc ex0).heap[w.heap.size]? = some (.cells #[ci 4, ci op, ct mod, ct name, ci vt, .int .u64 vb, .slice ao n cap] 27 (0, 0))) := heap_alloc2_old _ _ _
    have hn1 : Hidden (((w.alloc (.cells #[ci 4, ci op, ct mod, ct name, ci vt, .int .u64 vb, .slice ao n cap] 27)).alloc ex0).heap[w.heap.size + 1]? = some ex0) := heap_alloc2_new _ _ _
    clear h hcH hk
    go_enter Tryz.func107, Tryz.ntmps107
    go_wp2_with fail
    go_at_call 128
    obtain ⟨r1, e1, hs⟩ := Pz.bd_some hs
    refine (args_c hE g hg q ts d hd r1 e1 _ hP0).mono ?_
    clear e1
    rcases r1 with ⟨l, ts1⟩ | ⟨p, c⟩
    rotate_left
    · obtain rfl : rs = .er p c := hs
      rintro e W1 ⟨rfl, f1⟩
      unfold gP
      go_wp2_with fail
      exact ⟨rfl, rfl, ((frq fa).same (frq fb)).same f1⟩
    rintro e W1 ⟨v1, rfl, ⟨ao1, cap1, rfl, hN⟩, hQ1, f1⟩
    have g1 := ((frq (q := q) fa).same (frq fb)).same f1
    have s1 := f1.size
    simp only [World.size_alloc] at s1 hN
    have hm0 : Hidden (W1.heap[w.heap.size]? = some (.cells #[ci 4, ci op, ct mod, ct name, ci vt, .int .u64 vb, .slice ao n cap] 27 (0, 0))) := f1.heap hn0 (by omega)
    have hm1 : Hidden (W1.heap[w.heap.size + 1]? = some ex0) := f1.heap hn1 (by omega)
    have hQH : Hidden (Ps W1 q ts1 d false) := hQ1
    obtain rfl : rs = .ok (⟨4, op, mod, name, vt, vb⟩, l) ts1 := by
      have h1 : some (Pz.Rs.ok (Pz.callH ⟨kind, op, mod, name, vt, vb⟩, l) ts1) = some rs := hs
      rw [show Pz.callH _ = _ from hkc] at h1
      exact (Option.some.inj h1).symm
    clear hQ1
    obtain ⟨ac0, ac1, ac2, ac3, ac4, ac5, ac6, az0, az1, az2, az3, az4, az5, az6⟩ := box7 hm0
    obtain ⟨bc0, bc1, bc2, bc3, bc4, bc5, bc6, bz0, bz1, bz2, bz3, bz4, bz5, bz6⟩ := box7 hm1
    go_upto_region 5 with fail
    have fp := Fr.put W1 w.heap.size 6 (.slice ao1 l.len cap1)
    have hp0 : (W1.setCell ⟨w.heap.size, 6, none⟩ (.slice ao1 l.len cap1)).heap[w.heap.size]? = some (.cells #[ci 4, ci op, ct mod, ct name, ci vt, .int .u64 vb, .slice ao1 l.len cap1] 27 (0, 0)) := heap_setCell_same _ _ 6 _ _ _ hm0
    have hp1 : (W1.setCell ⟨w.heap.size, 6, none⟩ (.slice ao1 l.len cap1)).heap[w.heap.size + 1]? = some ex0 := fp.heap hm1 (by omega)
    have hN2 := hN.step fp (fun k hk => by subst hk; omega)
    have g2 : Fr (fun k => k = q) w (W1.setCell ⟨w.heap.size, 6, none⟩ (.slice ao1 l.len cap1)) := g1.over fp (fun k hk => by subst hk; omega)
    have hQ2 : Hidden (Ps (W1.setCell ⟨w.heap.size, 6, none⟩ (.slice ao1 l.len cap1)) q ts1 d false) := Ps.high hQH fp (fun k hk => by subst hk; omega)
    generalize W1.setCell ⟨w.heap.size, 6, none⟩ (.slice ao1 l.len cap1) = W2 at fp hp0 hp1 hN2 g2 hQ2 ⊢
    have hp1H : Hidden (W2.heap[w.heap.size + 1]? = some ex0) := hp1
    clear ac0 ac1 ac2 ac3 ac4 ac5 ac6 az0 az1 az2 az3 az4 az5 az6 bc0 bc1 bc2 bc3 bc4 bc5 bc6 bz0 bz1 bz2 bz3 bz4 bz5 bz6
    obtain ⟨ac0, ac1, ac2, ac3, ac4, ac5, ac6, az0, az1, az2, az3, az4, az5, az6⟩ := box7 hp0
    obtain ⟨bc0, bc1, bc2, bc3, bc4, bc5, bc6, bz0, bz1, bz2, bz3, bz4, bz5, bz6⟩ := box7 hp1
    clear hp0 hp1
    go_wp2_with fail
    have fs := set7_fr W2 (w.heap.size + 1) (ci 4) (ci op) (ct mod) (ct name) (ci vt) (.int .u64 vb) (.slice ao1 l.len cap1)
    exact post_ex hp1H rfl rfl rfl ⟨_, rfl, ⟨ao1, cap1, rfl, (hN2.step fs (fun k hk => by subst hk; omega)).weak (by omega)⟩, Ps.high hQ2 fs (fun k hk => by subst hk; omega), g2.over fs (fun k hk => by subst hk; omega)⟩

end
end Go.Proofs.YtpkaekokkhecmaaGreatDoor
