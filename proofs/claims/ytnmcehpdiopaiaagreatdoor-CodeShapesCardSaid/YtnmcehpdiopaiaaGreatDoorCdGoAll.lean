/- Texts of ours, in one. -/
import Derived.Test.YtnmcehpdiopaiaaGreatDoorCdDAll
import Derived.Test.YtnmcehpdiopaiaaGreatDoorCdFrAll
namespace Go.Proofs.YtnmcehpdiopaiaaGreatDoor.Cd
open Go.RowKit Ty
set_option linter.unusedSimpArgs false
set_option linter.unusedVariables false

theorem results_tmp4' {fn : Func} {t u v x : Tmp} (h : fn.results = #[.tmp t, .tmp u, .tmp v, .tmp x]) (tmps : Array Value) (P : Program) (w : World) :
    (results fn tmps).run P w = .ok (.tuple #[tmps.getD t undef, tmps.getD u undef, tmps.getD v undef, tmps.getD x undef]) w := by
  simp [results, h]
theorem go_err {f : Fu} {p : Fm} {jf j : Nat} {L : Cs} {s : Sp} {R : Rs} {e : Int} (h : goS f p (jf + 1) L = some R) (hl : leastS L = some (j, s)) (hr : roundS f p L j s = .error e) : R = .er j e := by
  rw [goS_next hl, hr] at h
  exact (Option.some.inj h).symm
theorem go_ok {f : Fu} {p : Fm} {jf j : Nat} {L L' : Cs} {s : Sp} {R : Rs} (h : goS f p (jf + 1) L = some R) (hl : leastS L = some (j, s)) (hr : roundS f p L j s = .ok L') : goS f p jf L' = some R := by
  rw [goS_next hl, hr] at h
  exact h
theorem getD_of {l : List In} {j : Nat} {i : In} (h : l[j]? = some i) : l.getD j default = i := by rw [List.getD_eq_getElem?_getD, h]; rfl
theorem rd_none {f : Fu} {p : Fm} {L : Cs} {j : Nat} {s : Sp} {i : In} (hi : f.cd[j]? = some i) (h : stepS f p i s = none) : roundS f p L j s = .error 51 := by
  unfold roundS
  rw [getD_of hi, h]
theorem rd_51 {f : Fu} {p : Fm} {L : Cs} {j n : Nat} {s : Sp} {i : In} {a b : Option Sp} (hi : f.cd[j]? = some i) (hn : f.cd.length = n) (h : stepS f p i s = some (a, b)) (hc : ((a.isSome && decide (n ≤ j + 1)) || (b.isSome && decide ((n : Int) ≤ i.n))) = true) : roundS f p L j s = .error 51 := by
  unfold roundS
  rw [getD_of hi, h, hn]
  simp only []
  rw [if_pos hc]
theorem rd_3 {f : Fu} {p : Fm} {L : Cs} {j n : Nat} {s : Sp} {i : In} {a b : Option Sp} (hi : f.cd[j]? = some i) (hn : f.cd.length = n) (h : stepS f p i s = some (a, b)) (hc : ((a.isSome && decide (n ≤ j + 1)) || (b.isSome && decide ((n : Int) ≤ i.n))) = false) (ho : (anyO a || anyO b) = true) : roundS f p L j s = .error 3 := by
  unfold roundS
  rw [getD_of hi, h, hn]
  simp only []
  rw [if_neg (by rw [hc]; decide), if_pos ho]
theorem rd_22a {f : Fu} {p : Fm} {L : Cs} {j n : Nat} {s : Sp} {i : In} {a b : Option Sp} (hi : f.cd[j]? = some i) (hn : f.cd.length = n) (h : stepS f p i s = some (a, b)) (hc : ((a.isSome && decide (n ≤ j + 1)) || (b.isSome && decide ((n : Int) ≤ i.n))) = false) (ho : (anyO a || anyO b) = false) (h1 : noteO (L.set j (some (true, s))) (j + 1) a = none) : roundS f p L j s = .error 22 := by
  unfold roundS
  rw [getD_of hi, h, hn]
  simp only []
  rw [if_neg (by rw [hc]; decide), if_neg (by rw [ho]; decide), h1]
theorem rd_22b {f : Fu} {p : Fm} {L L1 : Cs} {j n m : Nat} {s : Sp} {i : In} {a b : Option Sp} (hi : f.cd[j]? = some i) (hn : f.cd.length = n) (hm : i.n = m) (h : stepS f p i s = some (a, b)) (hc : ((a.isSome && decide (n ≤ j + 1)) || (b.isSome && decide ((n : Int) ≤ i.n))) = false) (ho : (anyO a || anyO b) = false) (h1 : noteO (L.set j (some (true, s))) (j + 1) a = some L1) (h2 : noteO L1 m b = none) : roundS f p L j s = .error 22 := by
  unfold roundS
  rw [getD_of hi, h, hn]
  simp only []
  rw [if_neg (by rw [hc]; decide), if_neg (by rw [ho]; decide), h1]
  simp only []
  rw [hm, Int.toNat_natCast, h2]
theorem rd_ok {f : Fu} {p : Fm} {L L1 L2 : Cs} {j n m : Nat} {s : Sp} {i : In} {a b : Option Sp} (hi : f.cd[j]? = some i) (hn : f.cd.length = n) (hm : i.n = m) (h : stepS f p i s = some (a, b)) (hc : ((a.isSome && decide (n ≤ j + 1)) || (b.isSome && decide ((n : Int) ≤ i.n))) = false) (ho : (anyO a || anyO b) = false) (h1 : noteO (L.set j (some (true, s))) (j + 1) a = some L1) (h2 : noteO L1 m b = some L2) : roundS f p L j s = .ok L2 := by
  unfold roundS
  rw [getD_of hi, h, hn]
  simp only []
  rw [if_neg (by rw [hc]; decide), if_neg (by rw [ho]; decide), h1]
  simp only []
  rw [hm, Int.toNat_natCast, h2]
/-- A step's answer in a box. -/
theorem box_new {W w1 : World} {B : Nat} {cs : Array Value} {t : TypeId} {o : Option (Option Sp × Option Sp)} (h : FlR w1 B (.agg cs) o) : FlR (w1.alloc (.cells cs t (0, 0))) B (.agg cs) o := h.keep (Fr.alloc _ _ _)
theorem box_old {w1 : World} {B g : Nat} {c0 c1 c2 c3 c4 c5 c6 x0 x1 x2 x3 x4 x5 x6 : Value} {o : Option (Option Sp × Option Sp)} (h : FlR w1 B (.agg #[x0, x1, x2, x3, x4, x5, x6]) o) (hg : w1.heap[g]? = some (.cells z7 86 (0, 0))) : FlR (w7 w1 g x0 x1 x2 x3 x4 x5 x6) B (.agg #[x0, x1, x2, x3, x4, x5, x6]) o :=
  h.box hg z7_no (w7_fr w1 g x0 x1 x2 x3 x4 x5 x6)
set_option maxRecDepth 20000 in
set_option maxHeartbeats 8000000 in
theorem found_w (f : Fu) (p : Fm) (n c3 b3 o3 : Nat) (v0 v1 v2 v4 v5 : Value) (R : Rs) (w : World) (hn : n ≤ 4096) (hn0 : 0 < n) (hc3 : n ≤ c3) (hc3m : c3 ≤ 9223372036854775807) (hlen : f.cd.length = n) (hR : goS f p (n + 1) (startS n) = some R)
    (hstep : ∀ {L L' : Cs} {k : Nat} {s : Sp}, InvL n L → L[k]? = some (some (false, s)) → roundS f p L k s = .ok L' → InvL n L')
    (hcell : ∀ (k : Nat) (i : In), f.cd[k]? = some i → ∀ (j : Nat) (u : Value), (inC i)[j]? = some u → w.cell? ⟨b3, o3 + k * 4 + j, none⟩ = some u)
    (hnn : ∀ (k : Nat) (i : In), f.cd[k]? = some i → 0 ≤ i.n)
    (kh : ∀ W, Fr (fun _ => False) w W → Calls Tryz.prog 26 #[.agg #[v0, v1, v2, .slice (some ⟨b3, o3, none⟩) n c3], .agg #[v4, v5]] W fun e w' => e = .returned (.tuple #[ci 0, ci 0]) ∧ Fr (fun _ => False) W w')
    (ks : ∀ (B : Nat) (W : World) (L : Cs) (k : Nat) (s : Sp) (i : In) (so to' : Option Addr) (sc tc : Nat), Fr (fun _ => False) w W → InvL n L → L[k]? = some (some (false, s)) → f.cd[k]? = some i → InB W B so sc s.st → TrB W B to' tc s.tr → B ≤ W.heap.size → Calls Tryz.prog 27 #[.agg #[v0, v1, v2, .slice (some ⟨b3, o3, none⟩) n c3], .agg #[v4, v5], inV i, .agg #[.slice so s.st.length sc, .slice to' s.tr.length tc]] W fun e w' => ∃ v, e = .returned v ∧ FlR w' B v (stepS f p i s) ∧ Fr (fun _ => False) W w') :
    Calls Tryz.prog 16 #[.agg #[v0, v1, v2, .slice (some ⟨b3, o3, none⟩) n c3], .agg #[v4, v5]] w fun e w' => ∃ vm vs, e = .returned (.tuple #[vm, vs, ci (placeS R), ci (errS R)]) ∧ Fr (fun _ => False) w w' ∧ ∀ L', R = .ok L' → ∃ B gm gd gs, vm = .slice (some ⟨gm, 0, none⟩) n n ∧ vs = .slice (some ⟨gs, 0, none⟩) n n ∧ Dk w' B gm gd gs n L' := by
  have hRH : Hidden (goS f p (n + 1) (startS n) = some R) := hR
  have hlenH : Hidden (f.cd.length = n) := hlen
  have hcellH : Hidden (∀ (k : Nat) (i : In), f.cd[k]? = some i → ∀ (j : Nat) (u : Value), (inC i)[j]? = some u → w.cell? ⟨b3, o3 + k * 4 + j, none⟩ = some u) := hcell
  have hnnH : Hidden (∀ (k : Nat) (i : In), f.cd[k]? = some i → 0 ≤ i.n) := hnn
  have mkB := fun W => mk_bool W n hn
  have mkS := fun W => mk_shp W n hn
  obtain ⟨oB, hoB⟩ : ∃ o : Obj, o = .cells (mB n) 4 (0, 0) := ⟨_, rfl⟩
  obtain ⟨oS, hoS⟩ : ∃ o : Obj, o = .cells (mS n) 80 (0, 0) := ⟨_, rfl⟩
  rw [← hoB] at mkB
  rw [← hoS] at mkS
  have hoBH : Hidden (oB = _) := hoB
  have hoSH : Hidden (oS = _) := hoS
  obtain ⟨V, hV⟩ : ∃ V, V = (w.alloc (.cells #[v0, v1, v2, .slice (some ⟨b3, o3, none⟩) n c3] 27 (0, 0))).alloc (.cells #[v4, v5] 30 (0, 0)) := ⟨_, rfl⟩
  have fV : Fr (fun _ => False) w V := by rw [hV]; exact (Fr.alloc _ _ _).same (Fr.alloc _ _ _)
  have hbf : V.heap[w.heap.size]? = some (.cells #[v0, v1, v2, .slice (some ⟨b3, o3, none⟩) n c3] 27 (0, 0)) := by rw [hV]; exact heap_alloc2_old _ _ _
  have hbp : V.heap[w.heap.size + 1]? = some (.cells #[v4, v5] 30 (0, 0)) := by rw [hV]; exact heap_alloc2_new _ _ _
  obtain ⟨k0, k1, k2, k3⟩ := box4 hbf
  have k4 : V.cell? ⟨w.heap.size + 1, 0, none⟩ = some v4 := cell_of_row _ _ 0 _ _ _ hbp
  have k5 : V.cell? ⟨w.heap.size + 1, 1, none⟩ = some v5 := cell_of_row _ _ 1 _ _ _ hbp
  have khV := kh V fV
  have hbfH : Hidden (V.heap[w.heap.size]? = some (.cells #[v0, v1, v2, .slice (some ⟨b3, o3, none⟩) n c3] 27 (0, 0))) := hbf
  have hbpH : Hidden (V.heap[w.heap.size + 1]? = some (.cells #[v4, v5] 30 (0, 0))) := hbp
  have fVH : Hidden (Fr (fun _ => False) w V) := fV
  have hVH : Hidden (V = _) := hV
  clear hR hlen hcell hnn hoB hoS hV fV hbf hbp kh
  go_enter Tryz.func16, Tryz.ntmps16
  go_upto_region 1 with fail
  rw [← (show V = _ from hVH)]
  clear hVH
  go_upto_region 8 with (first
    | (go_at_call 26; refine khV.mono ?_; rintro e w1 ⟨rfl, f1⟩
       have m3 := f1.cellN k3
       have f1H : Hidden (Fr (fun _ => False) V w1) := f1
       clear f1 khV k0 k1 k2 k3 k4 k5))
  obtain ⟨W3, hW3⟩ : ∃ W, W = ((w1.alloc oB).alloc oB).alloc oS := ⟨_, rfl⟩
  have f3 : Fr (fun _ => False) w1 W3 := by rw [hW3]; exact ((Fr.alloc _ _ _).same (Fr.alloc _ _ _)).same (Fr.alloc _ _ _)
  have sz3 : W3.heap.size = w1.heap.size + 3 := by rw [hW3]; simp
  have q0 : W3.heap[w1.heap.size]? = some (.cells (mB n) 4 (0, 0)) := by
    rw [hW3, ← show oB = _ from hoBH]
    exact ((Fr.alloc (fun _ => False) _ _).same (Fr.alloc (fun _ => False) _ _)).heap (alloc_new w1 oB) (fun f => f)
  have q1 : W3.heap[w1.heap.size + 1]? = some (.cells (mB n) 4 (0, 0)) := by
    rw [hW3, ← show oB = _ from hoBH]
    exact (Fr.alloc (fun _ => False) _ _).heap (alloc_at (w1.alloc oB) oB (w1.heap.size + 1) (by simp)) (fun f => f)
  have q2 : W3.heap[w1.heap.size + 1 + 1]? = some (.cells (mS n) 80 (0, 0)) := by
    rw [hW3, ← show oS = _ from hoSH]
    exact alloc_at ((w1.alloc oB).alloc oB) oS (w1.heap.size + 1 + 1) (by simp)
  rw [← hW3]
  have c0 : W3.cell? ⟨w1.heap.size, 0, none⟩ = some (.bool false) := by rw [cell_of_row W3 _ 0 _ _ (0, 0) q0]; exact mB_at n 0 hn0
  have z0 := fz_row q0 0
  have hst : Dk (W3.setCell ⟨w1.heap.size, 0, none⟩ (.bool true)) W3.heap.size w1.heap.size (w1.heap.size + 1) (w1.heap.size + 1 + 1) n (startS n) := Dk.start q0 q1 q2 (by omega) (by omega) (by omega) (by omega) (by omega)
  have hstH : Hidden (Dk (W3.setCell ⟨w1.heap.size, 0, none⟩ (.bool true)) W3.heap.size w1.heap.size (w1.heap.size + 1) (w1.heap.size + 1 + 1) n (startS n)) := hst
  have f3H : Hidden (Fr (fun _ => False) w1 W3) := f3
  have hnz : decide ((0 : Int) < (n : Int)) = true := by simp; omega
  clear hW3 hst f3 q0 q1 q2 m3 mkB mkS hoBH hoSH
  have szV : w.heap.size + 2 ≤ w1.heap.size := by
    have h1 := (show Fr (fun _ => False) V w1 from f1H).size
    have h2 := lt_of_heap (show V.heap[w.heap.size + 1]? = _ from hbpH)
    omega
  have szVH : Hidden (w.heap.size + 2 ≤ w1.heap.size ∧ W3.heap.size = w1.heap.size + 3) := ⟨szV, sz3⟩
  clear szV sz3
  go_wp2_with fail
  clear c0 z0
  obtain ⟨Wm, hWm⟩ : ∃ W, W = W3.setCell ⟨w1.heap.size, 0, none⟩ (.bool true) := ⟨_, rfl⟩
  have fs3 := Fr.setCell W3 ⟨w1.heap.size, 0, none⟩ (.bool true)
  rw [← hWm] at hstH fs3 ⊢
  clear hWm
  obtain ⟨gs, hgs⟩ : ∃ g, g = w1.heap.size + 1 + 1 := ⟨_, rfl⟩
  obtain ⟨gd, hgd⟩ : ∃ g, g = w1.heap.size + 1 := ⟨_, rfl⟩
  obtain ⟨gm, hgm⟩ : ∃ g, g = w1.heap.size := ⟨_, rfl⟩
  obtain ⟨B, hB⟩ : ∃ B, B = W3.heap.size := ⟨_, rfl⟩
  have hbM : Hidden (w.heap.size + 2 ≤ gm ∧ w.heap.size + 2 ≤ gd ∧ w.heap.size + 2 ≤ gs ∧ B ≤ Wm.heap.size) := by
    have h1 := fs3.size
    have h2 : w.heap.size + 2 ≤ w1.heap.size ∧ W3.heap.size = w1.heap.size + 3 := szVH
    exact ⟨by omega, by omega, by omega, by omega⟩
  have f03 : Fr (fun _ => False) V W3 := (show Fr (fun _ => False) V w1 from f1H).same f3H
  have hbfM : Hidden (Wm.heap[w.heap.size]? = some (.cells #[v0, v1, v2, .slice (some ⟨b3, o3, none⟩) n c3] 27 (0, 0))) := fs3.heap (f03.heap hbfH (fun f => f)) (by have h2 : w.heap.size + 2 ≤ w1.heap.size ∧ W3.heap.size = w1.heap.size + 3 := szVH; show ¬ (_ = w1.heap.size); omega)
  have hbpM : Hidden (Wm.heap[w.heap.size + 1]? = some (.cells #[v4, v5] 30 (0, 0))) := fs3.heap (f03.heap hbpH (fun f => f)) (by have h2 : w.heap.size + 2 ≤ w1.heap.size ∧ W3.heap.size = w1.heap.size + 3 := szVH; show ¬ (_ = w1.heap.size); omega)
  have fwM : Hidden (Fr (fun _ => False) w Wm) := ((show Fr (fun _ => False) w V from fVH).same f03).over fs3 (fun k e => by have h2 : w.heap.size + 2 ≤ w1.heap.size ∧ W3.heap.size = w1.heap.size + 3 := szVH; have e : k = w1.heap.size := e; omega)
  rw [← hgs, ← hgd, ← hgm] at ⊢
  rw [← hgs, ← hgd, ← hgm, ← hB] at hstH
  have hDH : Hidden (Dk Wm B gm gd gs n (startS n)) := hstH
  clear hgs hgd hgm hB fs3 f03 hstH szVH f3H f1H fVH hbfH hbpH
  go_loopg [14] (n + 1) (fun k _ wr => ∃ L, Dk wr B gm gd gs n L ∧ InvL n L ∧ goS f p k L = some R ∧ Fr (fun k => k = gm ∨ k = gd ∨ k = gs) Wm wr)
  case atStart => exact ⟨startS n, hDH, start_inv n, hRH, Fr.refl _ _⟩
  case round =>
    obtain ⟨L, hdk, hinv, hgo, hfr⟩ := hrel
    clear hRH hDH
    cases gk with
    | zero => cases hgo
    | succ jf =>
      obtain ⟨Wo, hWo⟩ : ∃ W, W = wr := ⟨_, rfl⟩
      rw [← hWo] at hdk hfr ⊢
      clear hWo
      have hdkH : Hidden (Dk Wo B gm gd gs n L) := hdk
      have hinvH : Hidden (InvL n L) := hinv
      have hgoH : Hidden (goS f p (jf + 1) L = some R) := hgo
      have hfrH : Hidden (Fr (fun k => k = gm ∨ k = gd ∨ k = gs) Wm Wo) := hfr
      have fwo : Hidden (Fr (fun _ => False) w Wo) := (show Fr (fun _ => False) w Wm from fwM).over hfr (fun k e => by
        have hb : w.heap.size + 2 ≤ gm ∧ w.heap.size + 2 ≤ gd ∧ w.heap.size + 2 ≤ gs ∧ B ≤ Wm.heap.size := hbM
        omega)
      have hbo : Hidden (B ≤ Wo.heap.size) := by
        have hb : w.heap.size + 2 ≤ gm ∧ w.heap.size + 2 ≤ gd ∧ w.heap.size + 2 ≤ gs ∧ B ≤ Wm.heap.size := hbM
        have := hfr.size
        show _ ≤ _
        omega
      clear hdk hinv hgo hfr
      go_wp2_with fail
      go_loopg [14] n (fun k iv wx => ∃ j : Nat, iv = .int .i64 (j : Int) ∧ j ≤ n ∧ k = n - j ∧ (∀ i : Nat, i < j → ∀ x, L[i]? ≠ some (some (false, x))) ∧ wx = Wo)
      case atStart => exact ⟨0, rfl, by omega, by omega, fun i hi => absurd hi (by omega), rfl⟩
      case round =>
        obtain ⟨j, rfl, hj, hk, hpre, rfl⟩ := hrel
        have hkH : Hidden (gk = n - j) := hk
        have hpreH : Hidden (∀ i : Nat, i < j → ∀ x, L[i]? ≠ some (some (false, x))) := hpre
        clear hk hpre
        by_cases hjn : j < n
        case neg =>
          have hle : leastS L = none := leastS_none (fun i x hx => (show ∀ i : Nat, i < j → ∀ x, L[i]? ≠ some (some (false, x)) from hpreH) i (by
            have := (List.getElem?_eq_some_iff.1 hx).1
            rw [(show Dk wr B gm gd gs n L from hdkH).len] at this
            omega) x hx)
          have eR : Hidden (R = .ok L) := by
            have hgo := (show goS f p (jf + 1) L = some R from hgoH)
            unfold goS at hgo
            rw [hle] at hgo
            exact (Option.some.inj hgo).symm
          obtain rfl : j = n := by omega
          have hl1 : decide ((j : Int) < (j : Int)) = false := by simp
          clear hle hjn
          go_wp2_with fail
          refine ⟨rfl, _, results_tmp4' rfl _ _ _, ?_⟩
          rw [show R = .ok L from eR]
          exact ⟨_, _, rfl, fwo, fun L' e => by cases e; exact ⟨B, gm, gd, gs, rfl, rfl, hdkH⟩⟩
        have hjn2 : (j : Int) < (n : Int) := by omega
        have hj0 : (0 : Int) ≤ (j : Int) := by omega
        obtain ⟨x, hx⟩ : ∃ x, L[j]? = some x := ⟨_, List.getElem?_eq_getElem (by rw [(show Dk wr B gm gd gs n L from hdkH).len]; exact hjn)⟩
        have e0 := (show Dk wr B gm gd gs n L from hdkH).met hx
        have e1 := (show Dk wr B gm gd gs n L from hdkH).gone hx
        obtain ⟨hw1, hw2⟩ := wrap_succ (a := j) (by omega)
        have hxH : Hidden (L[j]? = some x) := hx
        clear hx
        rcases x with _ | ⟨g, s⟩
        · simp only [Option.isSome_none] at e0
          go_wp2_with fail
          go_roundg (n - (j + 1))
          case measure => have : gk = n - j := hkH; omega
          case rel => exact ⟨j + 1, by first | rfl | (rw [hw1]), by omega, rfl, least_put hpreH (fun x hx => by rw [show L[j]? = _ from hxH] at hx; cases hx), rfl⟩
        cases g with
        | true =>
          simp only [Option.isSome_some, Cd.gone] at e0 e1
          go_wp2_with fail
          go_roundg (n - (j + 1))
          case measure => have : gk = n - j := hkH; omega
          case rel => exact ⟨j + 1, by first | rfl | (rw [hw1]), by omega, rfl, least_put hpreH (fun x hx => by rw [show L[j]? = _ from hxH] at hx; cases hx), rfl⟩
        | false =>
          simp only [Option.isSome_some, Cd.gone] at e0 e1
          have z1 := (show Dk wr B gm gd gs n L from hdkH).frz j
          have hdone : Hidden (Dk (wr.setCell ⟨gd, j, none⟩ (.bool true)) B gm gd gs n (L.set j (some (true, s)))) := (show Dk wr B gm gd gs n L from hdkH).done hxH
          go_upto_region 15 with fail
          clear e0 e1 z1 hw1 hw2
          have fsd := Fr.setCell wr ⟨gd, j, none⟩ (.bool true)
          obtain ⟨Wd, hWd⟩ : ∃ W, W = wr.setCell ⟨gd, j, none⟩ (.bool true) := ⟨_, rfl⟩
          rw [← hWd] at hdone fsd ⊢
          clear hWd
          have hb : w.heap.size + 2 ≤ gm ∧ w.heap.size + 2 ≤ gd ∧ w.heap.size + 2 ≤ gs ∧ B ≤ Wm.heap.size := hbM
          have hbd : B ≤ Wd.heap.size := Nat.le_trans (show B ≤ wr.heap.size from hbo) fsd.size
          have fmd : Fr (fun k => k = gm ∨ k = gd ∨ k = gs) Wm Wd := (show Fr (fun k => k = gm ∨ k = gd ∨ k = gs) Wm wr from hfrH).same (fsd.mono (fun k _ e => Or.inr (Or.inl e)))
          have fwd : Fr (fun _ => False) w Wd := (show Fr (fun _ => False) w Wm from fwM).over fmd (fun k e => by omega)
          have hbfd := fmd.heap hbfM (by omega)
          have hbpd := fmd.heap hbpM (by omega)
          obtain ⟨k0, k1, k2, k3'⟩ := box4 hbfd
          have k4' : Wd.cell? ⟨w.heap.size + 1, 0, none⟩ = some v4 := cell_of_row _ _ 0 _ _ _ hbpd
          have k5' : Wd.cell? ⟨w.heap.size + 1, 1, none⟩ = some v5 := cell_of_row _ _ 1 _ _ _ hbpd
          obtain ⟨i, hi⟩ : ∃ i, f.cd[j]? = some i := ⟨_, List.getElem?_eq_getElem (by rw [show f.cd.length = n from hlenH]; exact hjn)⟩
          have hcl := (show ∀ (k : Nat) (i : In), f.cd[k]? = some i → ∀ (j : Nat) (u : Value), (inC i)[j]? = some u → w.cell? ⟨b3, o3 + k * 4 + j, none⟩ = some u from hcellH) j i hi
          have hn0i := (show ∀ (k : Nat) (i : In), f.cd[k]? = some i → 0 ≤ i.n from hnnH) j i hi
          have i0 := fwd.cellN (hcl 0 _ rfl)
          have i1 := fwd.cellN (hcl 1 _ rfl)
          have i2 := fwd.cellN (hcl 2 _ rfl)
          have i3 := fwd.cellN (hcl 3 _ rfl)
          have i0 : Wd.cell? ⟨b3, o3 + j * 4, none⟩ = some (ci i.op) := i0
          have hLd : (L.set j (some (true, s)))[j]? = some (some (true, s)) := by rw [List.getElem?_set, if_pos rfl, if_pos (by rw [(show Dk wr B gm gd gs n L from hdkH).len]; exact hjn)]
          obtain ⟨so, sc, to', tc, hIs, hTs, s0, s1⟩ := (show Dk Wd B gm gd gs n (L.set j (some (true, s))) from hdone).shape hLd
          obtain ⟨ns, hns⟩ : ∃ m, m = s.st.length := ⟨_, rfl⟩
          obtain ⟨nt, hnt⟩ : ∃ m, m = s.tr.length := ⟨_, rfl⟩
          rw [← hns] at s0
          rw [← hnt] at s1
          obtain ⟨RR, hRR⟩ : ∃ r, r = stepS f p i s := ⟨_, rfl⟩
          have ksd : ∀ W, Fr (fun _ => False) Wd W → Calls Tryz.prog 27 #[.agg #[v0, v1, v2, .slice (some ⟨b3, o3, none⟩) n c3], .agg #[v4, v5], inV i, .agg #[.slice so ns sc, .slice to' nt tc]] W fun e w' => ∃ v, e = .returned v ∧ FlR w' B v RR ∧ Fr (fun _ => False) W w' := fun W hW => by
            have := ks B W L j s i so to' sc tc (fwd.same hW) hinvH hxH hi (hIs.keep hW (fun _ _ f => f)) (hTs.keep hW (fun _ _ f => f)) (Nat.le_trans hbd hW.size)
            rw [← hns, ← hnt, ← hRR] at this
            exact this
          have hRRH : Hidden (RR = stepS f p i s) := hRR
          have hiH : Hidden (f.cd[j]? = some i) := hi
          have fwdH : Hidden (Fr (fun _ => False) w Wd) := fwd
          have fmdH : Hidden (Fr (fun k => k = gm ∨ k = gd ∨ k = gs) Wm Wd) := fmd
          have hbdH : Hidden (B ≤ Wd.heap.size) := hbd
          have hn0H : Hidden (0 ≤ i.n) := hn0i
          have hbfdH : Hidden (Wd.heap[w.heap.size]? = some (.cells #[v0, v1, v2, .slice (some ⟨b3, o3, none⟩) n c3] 27 (0, 0))) := hbfd
          have hbpdH : Hidden (Wd.heap[w.heap.size + 1]? = some (.cells #[v4, v5] 30 (0, 0))) := hbpd
          clear hb hbd fmd fwd hbfd hbpd hcl hn0i hLd hIs hTs hns hnt hRR hi fsd
          have hbpd : Wd.heap[w.heap.size + 1]? = some (.cells #[v4, v5] 30 (0, 0)) := hbpdH
          refine fd_region v0 v1 v2 v4 v5 (.slice so ns sc) (.slice to' nt tc) w.heap.size (w.heap.size + 1) b3 o3 n c3 j gs B i RR (by show 75 ≤ 151; decide) hjn hn hc3 hc3m rfl rfl rfl rfl hbfdH hbpd i0 i1 i2 i3 s0 s1 ksd ?_
          intro wx ok nx fr p3 m3 kq3 p4 m4 k4 p5 m5 k5 p6 m6 k6 g hg hfl hgb fx
          simp only [setL, fdT, List.foldl_cons, List.foldl_nil, List.setIfInBounds_toArray, List.set_cons_zero, List.set_cons_succ]
          have hle : leastS L = some (j, s) := leastS_of hxH (fun i hi x => (show ∀ i : Nat, i < j → ∀ x, L[i]? ≠ some (some (false, x)) from hpreH) i hi x)
          have hleH : Hidden (leastS L = some (j, s)) := hle
          have hb2 : w.heap.size + 2 ≤ gm ∧ w.heap.size + 2 ≤ gd ∧ w.heap.size + 2 ≤ gs ∧ B ≤ Wm.heap.size := hbM
          have hDx : Hidden (Dk wx B gm gd gs n (L.set j (some (true, s)))) := (show Dk Wd B gm gd gs n (L.set j (some (true, s))) from hdone).keep fx
          have hbx : Hidden (wx.heap[w.heap.size]? = some (.cells #[v0, v1, v2, .slice (some ⟨b3, o3, none⟩) n c3] 27 (0, 0))) := fx.heap hbfdH (fun f => f)
          have cN := fx.cellN i1
          have c3x := (box4 hbx).2.2.2
          obtain ⟨m, hm⟩ : ∃ m : Nat, i.n = m := ⟨i.n.toNat, by have : 0 ≤ i.n := hn0H; omega⟩
          rw [hm] at cN
          have hmH : Hidden (i.n = (m : Int)) := hm
          have hb3 : b3 < w.heap.size := World.block_lt_of_cell? w _ ((show ∀ (k : Nat) (i : In), f.cd[k]? = some i → ∀ (j : Nat) (u : Value), (inC i)[j]? = some u → w.cell? ⟨b3, o3 + k * 4 + j, none⟩ = some u from hcellH) j i hiH 0 _ rfl)
          have fwx : Hidden (Fr (fun _ => False) w wx) := (show Fr (fun _ => False) w Wd from fwdH).same fx
          have fmx : Hidden (Fr (fun k => k = gm ∨ k = gd ∨ k = gs) Wm wx) := (show Fr (fun k => k = gm ∨ k = gd ∨ k = gs) Wm Wd from fmdH).same (fx.mono (fun _ _ e => e.elim))
          obtain ⟨hw1, hw2⟩ := wrap_succ (a := j) (by omega)
          obtain ⟨⟨t0, t1, t2, t3, t4, t5, t6⟩, _⟩ := box7 hg
          have hgH : Hidden (wx.heap[g]? = some (.cells #[.bool ok, .bool nx, .bool fr, .slice p3 m3 kq3, .slice p4 m4 k4, .slice p5 m5 k5, .slice p6 m6 k6] 86 (0, 0))) := hg
          have hne : Hidden (g ≠ gm ∧ g ≠ gs ∧ b3 ≠ gm ∧ b3 ≠ gs ∧ w.heap.size ≠ gm ∧ w.heap.size ≠ gs) := by
            have h1 : B ≤ Wd.heap.size := hbdH
            have h2 := (show Dk wr B gm gd gs n L from hdkH).b1
            have h3 := (show Dk wr B gm gd gs n L from hdkH).b3
            exact ⟨by omega, by omega, by omega, by omega, by omega, by omega⟩
          have hgsz : Hidden (w.heap.size + 2 ≤ gm ∧ w.heap.size + 2 ≤ gs) := ⟨hb2.1, hb2.2.2.1⟩
          clear hle hb2 hm hg hgb fx hbfdH hbpdH hbpd hn0H fmdH hbdH hdone hb3 ksd k0 k1 k2 k3' k4' k5' i0 i1 i2 i3 s0 s1
          rcases hRc : RR with _ | ⟨a, b⟩
          · subst hRc
            obtain ⟨_, _, _, _, _, _, _, _, _, _, _, _, _, _, e⟩ := hfl
            simp only [Value.agg.injEq, Array.mk.injEq, List.cons.injEq, Value.bool.injEq, Value.slice.injEq, and_true] at e
            obtain ⟨rfl, e⟩ := e
            clear e
            have eR : Hidden (R = .er j 51) := go_err hgoH hleH (rd_none hiH (show none = stepS f p i s from hRRH).symm)
            go_wp2_with fail
            refine ⟨rfl, _, results_tmp4' rfl _ _ _, ?_⟩
            rw [show R = .er j 51 from eR]
            exact ⟨_, _, rfl, fwx, fun L' e => by cases e⟩
          subst hRc
          obtain ⟨_, _, _, _, _, _, _, _, _, _, _, _, e, hA, hB'⟩ := hfl
          simp only [Value.agg.injEq, Array.mk.injEq, List.cons.injEq, Value.bool.injEq, Value.slice.injEq, and_true] at e
          obtain ⟨rfl, rfl, rfl, ⟨rfl, rfl, rfl⟩, ⟨rfl, rfl, rfl⟩, ⟨rfl, rfl, rfl⟩, ⟨rfl, rfl, rfl⟩⟩ := e
          have hst : Hidden (stepS f p i s = some (a, b)) := (show some (a, b) = stepS f p i s from hRRH).symm
          have hAH : Hidden (∀ x, a = some x → ShB wx B (.agg #[.slice p3 m3 kq3, .slice p4 m4 k4]) x) := hA
          have hBH : Hidden (∀ x, b = some x → ShB wx B (.agg #[.slice p5 m5 k5, .slice p6 m6 k6]) x) := hB'
          clear hA hB' hRRH
          rcases a with _ | sa <;> rcases b with _ | sb
          · simp only [Option.isSome_some, Option.isSome_none] at t1 t2 hgH
            have hc0 : Hidden ((((none : Option Sp).isSome && decide (n ≤ j + 1)) || ((none : Option Sp).isSome && decide ((n : Int) ≤ i.n))) = false) := by show _ = false; simp
            have ho0 : Hidden ((anyO (none) || anyO (none)) = false) := by show _ = false; simp [anyO]
            go_upto_region 20 with fail
            have hD2 : Dk wx B gm gd gs n (L.set j (some (true, s))) := (show Dk wx B gm gd gs n (L.set j (some (true, s))) from hDx).keep (Fr.refl _ _)
            have hg2 : Hidden (wx.heap[g]? = _) := (show Fr (fun _ => False) wx wx from Fr.refl _ _).heap hgH (fun f => f)
            have hb2 : Hidden (wx.heap[w.heap.size]? = _) := (show Fr (fun _ => False) wx wx from Fr.refl _ _).heap hbx (fun f => f)
            have fm2 : Hidden (Fr (fun k => k = gm ∨ k = gd ∨ k = gs) Wm wx) := (show Fr (fun k => k = gm ∨ k = gd ∨ k = gs) Wm wx from fmx).same ((show Fr (fun _ => False) wx wx from Fr.refl _ _).mono (fun _ _ e => e.elim))
            have fw2 : Hidden (Fr (fun _ => False) w wx) := (show Fr (fun _ => False) w wx from fwx).same (Fr.refl _ _)
            have hnq : g ≠ gm ∧ g ≠ gs ∧ b3 ≠ gm ∧ b3 ≠ gs ∧ w.heap.size ≠ gm ∧ w.heap.size ≠ gs := hne
            refine nr_region false false true true (.slice p3 m3 kq3) (.slice p4 m4 k4) (.slice p5 m5 k5) (.slice p6 m6 k6) g gm gs w.heap.size b3 o3 n c3 j m (fun F1 F2 u => Fr (fun q => q = gm ∨ q = gs) wx u ∧ (F1 = false → Fr (fun _ => False) wx u) ∧ (F1 = true → F2 = false → Dk u B gm gd gs n (L.set j (some (true, s)))) ∧ (F1 = true → F2 = true → Dk u B gm gd gs n (L.set j (some (true, s))))) (by show 150 ≤ 151; decide) hjn hn hc3 rfl rfl rfl rfl rfl ⟨Fr.drew _ _, fun _ => Fr.drew _ _, fun e => (by cases e), fun e => (by cases e)⟩ ?_ ?_ ?_ ?_ ?_ ?_
            · rintro F1 F2 u ⟨q1, _⟩
              have n1 : ¬ (g = gm ∨ g = gs) := by omega
              have n2 : ¬ (w.heap.size = gm ∨ w.heap.size = gs) := by omega
              have n3 : ¬ (b3 = gm ∨ b3 = gs) := by omega
              exact ⟨q1.cell t1 n1, q1.cell t2 n1, q1.cell t3 n1, q1.cell t4 n1, q1.cell t5 n1, q1.cell t6 n1, q1.cell c3x n2, q1.cell cN n3⟩
            · intro e; cases e
            · rintro _ u ⟨q1, q2, q3, q4⟩
              exact ⟨q1, fun e => (by cases e), fun _ _ => hD2.keep (q2 rfl), fun _ e => (by cases e)⟩
            · intro e; exact absurd e (by decide)
            · rintro _ u ⟨q1, q2, q3, q4⟩
              exact ⟨q1, fun e => (by cases e), fun _ e => (by cases e), fun _ _ => q3 rfl rfl⟩
            rintro wz ⟨q1, _, _, q4⟩
            have q1H : Hidden (Fr (fun q => q = gm ∨ q = gs) wx wz) := q1
            have q4H : Hidden (Dk wz B gm gd gs n (L.set j (some (true, s)))) := q4 rfl rfl
            clear q1 q4 t1 t2 t3 t4 t5 t6 c3x cN hnq
            simp only [putR, nrV, List.setIfInBounds_toArray, List.set_cons_zero, List.set_cons_succ, Bool.not_true, Bool.not_false, Bool.and_true, Bool.and_false, Bool.true_and, Bool.false_and, Bool.or_false, Bool.or_true, Bool.false_or, Bool.true_or, reduceIte, Bool.true_eq_false, Bool.false_eq_true]
            go_wp2_with fail
            go_roundg jf
            case measure => omega
            case rel => exact ⟨(L.set j (some (true, s))), q4H, hstep hinvH hxH (rd_ok (a := none) (b := none) hiH hlenH hmH hst hc0 ho0 rfl rfl), go_ok hgoH hleH (rd_ok (a := none) (b := none) hiH hlenH hmH hst hc0 ho0 rfl rfl), (show Fr (fun k => k = gm ∨ k = gd ∨ k = gs) Wm wx from fm2).same ((show Fr (fun q => q = gm ∨ q = gs) wx wz from q1H).mono (fun q _ e => by rcases e with e | e; exact Or.inl e; exact Or.inr (Or.inr e)))⟩
          · simp only [Option.isSome_some, Option.isSome_none] at t1 t2 hgH
            by_cases hj2 : n ≤ m
            · have hk2 : decide (n ≤ m) = true := decide_eq_true hj2
              have hk2i : decide ((n : Int) ≤ (m : Int)) = true := decide_eq_true (by omega)
              have eR : Hidden (R = .er j 51) := go_err hgoH hleH (rd_51 hiH hlenH hst (by rw [show i.n = (m : Int) from hmH, hk2i]; simp))
              clear hj2
              go_wp2_with fail
              refine ⟨rfl, _, results_tmp4' rfl _ _ _, ?_⟩
              rw [show R = .er j 51 from eR]
              exact ⟨_, _, rfl, fwx, fun L' e => by cases e⟩
            have hk2 : decide (n ≤ m) = false := decide_eq_false hj2
            have hk2i : decide ((n : Int) ≤ (m : Int)) = false := decide_eq_false (by omega)
            have hmn : (m : Int) < (n : Int) := by omega
            have hj2H : Hidden (m < n) := by show _ < _; omega
            have hc0 : Hidden ((((none : Option Sp).isSome && decide (n ≤ j + 1)) || ((some sb : Option Sp).isSome && decide ((n : Int) ≤ i.n))) = false) := by show _ = false; rw [show i.n = (m : Int) from hmH, hk2i]; simp
            clear hj2
            have hSb := (show ∀ x, (some sb : Option Sp) = some x → ShB wx B (.agg #[.slice p5 m5 k5, .slice p6 m6 k6]) x from hBH) sb rfl
            have hlb : Hidden (m5 = sb.st.length ∧ m6 = sb.tr.length) := by
              obtain ⟨_, _, _, _, e, _, _⟩ := hSb
              simp only [Value.agg.injEq, Array.mk.injEq, List.cons.injEq, Value.slice.injEq, and_true] at e
              exact ⟨e.1.2.1, e.2.2.1⟩
            have hSbH : Hidden (ShB wx B (.agg #[.slice p5 m5 k5, .slice p6 m6 k6]) sb) := hSb
            have kob : ∀ W, Calls Tryz.prog 28 #[.agg #[.slice p5 m5 k5, .slice p6 m6 k6]] W fun e w' => e = .returned (.bool (over sb)) ∧ Fr (fun _ => False) W w' := fun W => by
              have := over_any p5 p6 m5 k5 m6 k6 W
              rw [(show m5 = sb.st.length ∧ m6 = sb.tr.length from hlb).1, (show m5 = sb.st.length ∧ m6 = sb.tr.length from hlb).2] at this
              unfold over
              rw [(show m5 = sb.st.length ∧ m6 = sb.tr.length from hlb).1, (show m5 = sb.st.length ∧ m6 = sb.tr.length from hlb).2]
              exact this
            clear hSb
            obtain ⟨Db, hDb⟩ : ∃ D, D = over sb := ⟨_, rfl⟩
            rw [← hDb] at kob
            have hDbH : Hidden (Db = over sb) := hDb
            clear hDb
            cases hdb : Db
            case true =>
              subst hdb
              have eR : Hidden (R = .er j 3) := go_err hgoH hleH (rd_3 hiH hlenH hst hc0 (by simp [anyO, show over sb = _ from (show _ = over sb from hDbH).symm]))
              go_wp2_with fail
              go_at_call 28; refine (kob _).mono ?_; rintro e wo0 ⟨rfl, fob⟩
              replace t1 := fob.cellN t1
              replace t2 := fob.cellN t2
              replace t3 := fob.cellN t3
              replace t4 := fob.cellN t4
              replace t5 := fob.cellN t5
              replace t6 := fob.cellN t6
              replace c3x := fob.cellN c3x
              replace cN := fob.cellN cN
              have gwo0 : Hidden (Fr (fun _ => False) wx wo0) := fob
              clear fob
              go_wp2_with fail
              refine ⟨rfl, _, results_tmp4' rfl _ _ _, ?_⟩
              rw [show R = .er j 3 from eR]
              exact ⟨_, _, rfl, (show Fr (fun _ => False) w wx from fwx).same gwo0, fun L' e => by cases e⟩
            case false =>
              subst hdb
              have ho0 : Hidden ((anyO (none) || anyO (some sb)) = false) := by show _ = false; simp [anyO, show over sb = _ from (show _ = over sb from hDbH).symm]
              go_wp2_with fail
              go_at_call 28; refine (kob _).mono ?_; rintro e wo0 ⟨rfl, fob⟩
              replace t1 := fob.cellN t1
              replace t2 := fob.cellN t2
              replace t3 := fob.cellN t3
              replace t4 := fob.cellN t4
              replace t5 := fob.cellN t5
              replace t6 := fob.cellN t6
              replace c3x := fob.cellN c3x
              replace cN := fob.cellN cN
              have gwo0 : Hidden (Fr (fun _ => False) wx wo0) := fob
              clear fob
              go_upto_region 20 with fail
              have hD2 : Dk wo0 B gm gd gs n (L.set j (some (true, s))) := (show Dk wx B gm gd gs n (L.set j (some (true, s))) from hDx).keep (gwo0)
              have hg2 : Hidden (wo0.heap[g]? = _) := (show Fr (fun _ => False) wx wo0 from gwo0).heap hgH (fun f => f)
              have hb2 : Hidden (wo0.heap[w.heap.size]? = _) := (show Fr (fun _ => False) wx wo0 from gwo0).heap hbx (fun f => f)
              have fm2 : Hidden (Fr (fun k => k = gm ∨ k = gd ∨ k = gs) Wm wo0) := (show Fr (fun k => k = gm ∨ k = gd ∨ k = gs) Wm wx from fmx).same ((show Fr (fun _ => False) wx wo0 from gwo0).mono (fun _ _ e => e.elim))
              have fw2 : Hidden (Fr (fun _ => False) w wo0) := (show Fr (fun _ => False) w wx from fwx).same (gwo0)
              cases hn2 : noteS (L.set j (some (true, s))) m sb with
              | none =>
                have hn2H : Hidden (noteS (L.set j (some (true, s))) m sb = none) := hn2
                have eR : Hidden (R = .er j 22) := go_err hgoH hleH (rd_22b (b := some sb) hiH hlenH hmH hst hc0 ho0 rfl hn2)
                clear hn2
                have hnq : g ≠ gm ∧ g ≠ gs ∧ b3 ≠ gm ∧ b3 ≠ gs ∧ w.heap.size ≠ gm ∧ w.heap.size ≠ gs := hne
                refine nr_region false true true false (.slice p3 m3 kq3) (.slice p4 m4 k4) (.slice p5 m5 k5) (.slice p6 m6 k6) g gm gs w.heap.size b3 o3 n c3 j m (fun F1 F2 u => Fr (fun q => q = gm ∨ q = gs) wo0 u ∧ (F1 = false → Fr (fun _ => False) wo0 u) ∧ (F1 = true → F2 = false → Dk u B gm gd gs n (L.set j (some (true, s)))) ∧ (F1 = true → F2 = true → True)) (by show 150 ≤ 151; decide) hjn hn hc3 rfl rfl rfl rfl rfl ⟨Fr.drew _ _, fun _ => Fr.drew _ _, fun e => (by cases e), fun e => (by cases e)⟩ ?_ ?_ ?_ ?_ ?_ ?_
                · rintro F1 F2 u ⟨q1, _⟩
                  have n1 : ¬ (g = gm ∨ g = gs) := by omega
                  have n2 : ¬ (w.heap.size = gm ∨ w.heap.size = gs) := by omega
                  have n3 : ¬ (b3 = gm ∨ b3 = gs) := by omega
                  exact ⟨q1.cell t1 n1, q1.cell t2 n1, q1.cell t3 n1, q1.cell t4 n1, q1.cell t5 n1, q1.cell t6 n1, q1.cell c3x n2, q1.cell cN n3⟩
                · intro e; cases e
                · rintro _ u ⟨q1, q2, q3, q4⟩
                  exact ⟨q1, fun e => (by cases e), fun _ _ => hD2.keep (q2 rfl), fun _ e => (by cases e)⟩
                · rintro _ u ⟨q1, q2, q3, q4⟩
                  refine (noted_any B gm gd gs n m (L.set j (some (true, s))) sb _ _ u (q3 rfl rfl) hj2H (by omega) (((show ShB wx B _ sb from hSbH).keep (show Fr (fun _ => False) wx wo0 from gwo0) (fun _ _ f => f)).keep q1 (fun q hq e => by
                    have h2 := (show Dk wr B gm gd gs n L from hdkH).b1
                    have h3 := (show Dk wr B gm gd gs n L from hdkH).b3
                    omega))).mono ?_
                  rintro e w' ⟨rfl, f, hD⟩
                  rw [show noteS (L.set j (some (true, s))) m sb = _ from hn2H]
                  exact ⟨rfl, q1.same f, fun e => (by cases e), fun _ e => (by cases e), fun _ _ => trivial⟩
                · intro e; exact absurd e (by decide)
                rintro wz ⟨q1, _, _, q4⟩
                have q1H : Hidden (Fr (fun q => q = gm ∨ q = gs) wo0 wz) := q1
                skip
                clear q1 q4 t1 t2 t3 t4 t5 t6 c3x cN hnq
                simp only [putR, nrV, List.setIfInBounds_toArray, List.set_cons_zero, List.set_cons_succ, Bool.not_true, Bool.not_false, Bool.and_true, Bool.and_false, Bool.true_and, Bool.false_and, Bool.or_false, Bool.or_true, Bool.false_or, Bool.true_or, reduceIte, Bool.true_eq_false, Bool.false_eq_true]
                go_wp2_with fail
                refine ⟨rfl, _, results_tmp4' rfl _ _ _, ?_⟩
                rw [show R = .er j 22 from eR]
                exact ⟨_, _, rfl, ((show Fr (fun _ => False) w wo0 from fw2).over (show Fr (fun q => q = gm ∨ q = gs) wo0 wz from q1H) (fun q e => by have hq : w.heap.size + 2 ≤ gm ∧ w.heap.size + 2 ≤ gs := hgsz; omega)), fun L' e => by cases e⟩
              | some L2 =>
                have hn2H : Hidden (noteS (L.set j (some (true, s))) m sb = some L2) := hn2
                clear hn2
                have hnq : g ≠ gm ∧ g ≠ gs ∧ b3 ≠ gm ∧ b3 ≠ gs ∧ w.heap.size ≠ gm ∧ w.heap.size ≠ gs := hne
                refine nr_region false true true true (.slice p3 m3 kq3) (.slice p4 m4 k4) (.slice p5 m5 k5) (.slice p6 m6 k6) g gm gs w.heap.size b3 o3 n c3 j m (fun F1 F2 u => Fr (fun q => q = gm ∨ q = gs) wo0 u ∧ (F1 = false → Fr (fun _ => False) wo0 u) ∧ (F1 = true → F2 = false → Dk u B gm gd gs n (L.set j (some (true, s)))) ∧ (F1 = true → F2 = true → Dk u B gm gd gs n L2)) (by show 150 ≤ 151; decide) hjn hn hc3 rfl rfl rfl rfl rfl ⟨Fr.drew _ _, fun _ => Fr.drew _ _, fun e => (by cases e), fun e => (by cases e)⟩ ?_ ?_ ?_ ?_ ?_ ?_
                · rintro F1 F2 u ⟨q1, _⟩
                  have n1 : ¬ (g = gm ∨ g = gs) := by omega
                  have n2 : ¬ (w.heap.size = gm ∨ w.heap.size = gs) := by omega
                  have n3 : ¬ (b3 = gm ∨ b3 = gs) := by omega
                  exact ⟨q1.cell t1 n1, q1.cell t2 n1, q1.cell t3 n1, q1.cell t4 n1, q1.cell t5 n1, q1.cell t6 n1, q1.cell c3x n2, q1.cell cN n3⟩
                · intro e; cases e
                · rintro _ u ⟨q1, q2, q3, q4⟩
                  exact ⟨q1, fun e => (by cases e), fun _ _ => hD2.keep (q2 rfl), fun _ e => (by cases e)⟩
                · rintro _ u ⟨q1, q2, q3, q4⟩
                  refine (noted_any B gm gd gs n m (L.set j (some (true, s))) sb _ _ u (q3 rfl rfl) hj2H (by omega) (((show ShB wx B _ sb from hSbH).keep (show Fr (fun _ => False) wx wo0 from gwo0) (fun _ _ f => f)).keep q1 (fun q hq e => by
                    have h2 := (show Dk wr B gm gd gs n L from hdkH).b1
                    have h3 := (show Dk wr B gm gd gs n L from hdkH).b3
                    omega))).mono ?_
                  rintro e w' ⟨rfl, f, hD⟩
                  rw [show noteS (L.set j (some (true, s))) m sb = _ from hn2H]
                  exact ⟨rfl, q1.same f, fun e => (by cases e), fun _ e => (by cases e), fun _ _ => hD _ hn2H⟩
                · intro e; exact absurd e (by decide)
                rintro wz ⟨q1, _, _, q4⟩
                have q1H : Hidden (Fr (fun q => q = gm ∨ q = gs) wo0 wz) := q1
                have q4H : Hidden (Dk wz B gm gd gs n L2) := q4 rfl rfl
                clear q1 q4 t1 t2 t3 t4 t5 t6 c3x cN hnq
                simp only [putR, nrV, List.setIfInBounds_toArray, List.set_cons_zero, List.set_cons_succ, Bool.not_true, Bool.not_false, Bool.and_true, Bool.and_false, Bool.true_and, Bool.false_and, Bool.or_false, Bool.or_true, Bool.false_or, Bool.true_or, reduceIte, Bool.true_eq_false, Bool.false_eq_true]
                go_wp2_with fail
                go_roundg jf
                case measure => omega
                case rel => exact ⟨L2, q4H, hstep hinvH hxH (rd_ok (a := none) (b := some sb) hiH hlenH hmH hst hc0 ho0 rfl (show noteO _ _ _ = some _ from hn2H)), go_ok hgoH hleH (rd_ok (a := none) (b := some sb) hiH hlenH hmH hst hc0 ho0 rfl (show noteO _ _ _ = some _ from hn2H)), (show Fr (fun k => k = gm ∨ k = gd ∨ k = gs) Wm wo0 from fm2).same ((show Fr (fun q => q = gm ∨ q = gs) wo0 wz from q1H).mono (fun q _ e => by rcases e with e | e; exact Or.inl e; exact Or.inr (Or.inr e)))⟩
          · simp only [Option.isSome_some, Option.isSome_none] at t1 t2 hgH
            by_cases hj1 : n ≤ j + 1
            · have hk1 : decide (n ≤ j + 1) = true := decide_eq_true hj1
              have hk1i : decide ((n : Int) ≤ ((j + 1 : Nat) : Int)) = true := decide_eq_true (by omega)
              have hk1j : decide ((n : Int) ≤ (j : Int) + 1) = true := decide_eq_true (by omega)
              have eR : Hidden (R = .er j 51) := go_err hgoH hleH (rd_51 hiH hlenH hst (by rw [hk1]; rfl))
              clear hj1
              go_wp2_with fail
              refine ⟨rfl, _, results_tmp4' rfl _ _ _, ?_⟩
              rw [show R = .er j 51 from eR]
              exact ⟨_, _, rfl, fwx, fun L' e => by cases e⟩
            have hk1 : decide (n ≤ j + 1) = false := decide_eq_false hj1
            have hk1i : decide ((n : Int) ≤ ((j + 1 : Nat) : Int)) = false := decide_eq_false (by omega)
            have hk1j : decide ((n : Int) ≤ (j : Int) + 1) = false := decide_eq_false (by omega)
            have hj1H : Hidden (j + 1 < n) := by show _ < _; omega
            have hc0 : Hidden ((((some sa : Option Sp).isSome && decide (n ≤ j + 1)) || ((none : Option Sp).isSome && decide ((n : Int) ≤ i.n))) = false) := by show _ = false; rw [hk1]; simp
            clear hj1
            have hSa := (show ∀ x, (some sa : Option Sp) = some x → ShB wx B (.agg #[.slice p3 m3 kq3, .slice p4 m4 k4]) x from hAH) sa rfl
            have hla : Hidden (m3 = sa.st.length ∧ m4 = sa.tr.length) := by
              obtain ⟨_, _, _, _, e, _, _⟩ := hSa
              simp only [Value.agg.injEq, Array.mk.injEq, List.cons.injEq, Value.slice.injEq, and_true] at e
              exact ⟨e.1.2.1, e.2.2.1⟩
            have hSaH : Hidden (ShB wx B (.agg #[.slice p3 m3 kq3, .slice p4 m4 k4]) sa) := hSa
            have koa : ∀ W, Calls Tryz.prog 28 #[.agg #[.slice p3 m3 kq3, .slice p4 m4 k4]] W fun e w' => e = .returned (.bool (over sa)) ∧ Fr (fun _ => False) W w' := fun W => by
              have := over_any p3 p4 m3 kq3 m4 k4 W
              rw [(show m3 = sa.st.length ∧ m4 = sa.tr.length from hla).1, (show m3 = sa.st.length ∧ m4 = sa.tr.length from hla).2] at this
              unfold over
              rw [(show m3 = sa.st.length ∧ m4 = sa.tr.length from hla).1, (show m3 = sa.st.length ∧ m4 = sa.tr.length from hla).2]
              exact this
            clear hSa
            obtain ⟨Da, hDa⟩ : ∃ D, D = over sa := ⟨_, rfl⟩
            rw [← hDa] at koa
            have hDaH : Hidden (Da = over sa) := hDa
            clear hDa
            cases hda : Da
            case true =>
              subst hda
              have eR : Hidden (R = .er j 3) := go_err hgoH hleH (rd_3 hiH hlenH hst hc0 (by simp [anyO, show over sa = _ from (show _ = over sa from hDaH).symm]))
              go_wp2_with fail
              go_at_call 28; refine (koa _).mono ?_; rintro e wo0 ⟨rfl, foa⟩
              replace t1 := foa.cellN t1
              replace t2 := foa.cellN t2
              replace t3 := foa.cellN t3
              replace t4 := foa.cellN t4
              replace t5 := foa.cellN t5
              replace t6 := foa.cellN t6
              replace c3x := foa.cellN c3x
              replace cN := foa.cellN cN
              have gwo0 : Hidden (Fr (fun _ => False) wx wo0) := foa
              clear foa
              go_wp2_with fail
              refine ⟨rfl, _, results_tmp4' rfl _ _ _, ?_⟩
              rw [show R = .er j 3 from eR]
              exact ⟨_, _, rfl, (show Fr (fun _ => False) w wx from fwx).same gwo0, fun L' e => by cases e⟩
            case false =>
              subst hda
              have ho0 : Hidden ((anyO (some sa) || anyO (none)) = false) := by show _ = false; simp [anyO, show over sa = _ from (show _ = over sa from hDaH).symm]
              go_wp2_with fail
              go_at_call 28; refine (koa _).mono ?_; rintro e wo0 ⟨rfl, foa⟩
              replace t1 := foa.cellN t1
              replace t2 := foa.cellN t2
              replace t3 := foa.cellN t3
              replace t4 := foa.cellN t4
              replace t5 := foa.cellN t5
              replace t6 := foa.cellN t6
              replace c3x := foa.cellN c3x
              replace cN := foa.cellN cN
              have gwo0 : Hidden (Fr (fun _ => False) wx wo0) := foa
              clear foa
              go_upto_region 20 with fail
              have hD2 : Dk wo0 B gm gd gs n (L.set j (some (true, s))) := (show Dk wx B gm gd gs n (L.set j (some (true, s))) from hDx).keep (gwo0)
              have hg2 : Hidden (wo0.heap[g]? = _) := (show Fr (fun _ => False) wx wo0 from gwo0).heap hgH (fun f => f)
              have hb2 : Hidden (wo0.heap[w.heap.size]? = _) := (show Fr (fun _ => False) wx wo0 from gwo0).heap hbx (fun f => f)
              have fm2 : Hidden (Fr (fun k => k = gm ∨ k = gd ∨ k = gs) Wm wo0) := (show Fr (fun k => k = gm ∨ k = gd ∨ k = gs) Wm wx from fmx).same ((show Fr (fun _ => False) wx wo0 from gwo0).mono (fun _ _ e => e.elim))
              have fw2 : Hidden (Fr (fun _ => False) w wo0) := (show Fr (fun _ => False) w wx from fwx).same (gwo0)
              cases hn1 : noteS (L.set j (some (true, s))) (j + 1) sa with
              | none =>
                have hn1H : Hidden (noteS (L.set j (some (true, s))) (j + 1) sa = none) := hn1
                have eR : Hidden (R = .er j 22) := go_err hgoH hleH (rd_22a (a := some sa) hiH hlenH hst hc0 ho0 hn1)
                clear hn1
                have hnq : g ≠ gm ∧ g ≠ gs ∧ b3 ≠ gm ∧ b3 ≠ gs ∧ w.heap.size ≠ gm ∧ w.heap.size ≠ gs := hne
                refine nr_region true false false false (.slice p3 m3 kq3) (.slice p4 m4 k4) (.slice p5 m5 k5) (.slice p6 m6 k6) g gm gs w.heap.size b3 o3 n c3 j m (fun F1 F2 u => Fr (fun q => q = gm ∨ q = gs) wo0 u ∧ (F1 = false → Fr (fun _ => False) wo0 u) ∧ (F1 = true → F2 = false → True) ∧ (F1 = true → F2 = true → True)) (by show 150 ≤ 151; decide) hjn hn hc3 rfl rfl rfl rfl rfl ⟨Fr.drew _ _, fun _ => Fr.drew _ _, fun e => (by cases e), fun e => (by cases e)⟩ ?_ ?_ ?_ ?_ ?_ ?_
                · rintro F1 F2 u ⟨q1, _⟩
                  have n1 : ¬ (g = gm ∨ g = gs) := by omega
                  have n2 : ¬ (w.heap.size = gm ∨ w.heap.size = gs) := by omega
                  have n3 : ¬ (b3 = gm ∨ b3 = gs) := by omega
                  exact ⟨q1.cell t1 n1, q1.cell t2 n1, q1.cell t3 n1, q1.cell t4 n1, q1.cell t5 n1, q1.cell t6 n1, q1.cell c3x n2, q1.cell cN n3⟩
                · rintro _ u ⟨q1, q2, _⟩
                  refine (noted_any B gm gd gs n (j + 1) (L.set j (some (true, s))) sa _ _ u (hD2.keep (q2 rfl)) hj1H (by omega) (((show ShB wx B _ sa from hSaH).keep (show Fr (fun _ => False) wx wo0 from gwo0) (fun _ _ f => f)).keep (q2 rfl) (fun _ _ f => f))).mono ?_
                  rintro e w' ⟨rfl, f, hD⟩
                  rw [show noteS (L.set j (some (true, s))) (j + 1) sa = _ from hn1H]
                  exact ⟨rfl, q1.same f, fun e => (by cases e), fun _ _ => trivial, fun _ e => (by cases e)⟩
                · intro e; cases e
                · intro e; exact absurd e (by decide)
                · rintro _ u ⟨q1, q2, q3, q4⟩
                  exact ⟨q1, fun e => (by cases e), fun _ e => (by cases e), fun _ _ => trivial⟩
                rintro wz ⟨q1, _, _, q4⟩
                have q1H : Hidden (Fr (fun q => q = gm ∨ q = gs) wo0 wz) := q1
                skip
                clear q1 q4 t1 t2 t3 t4 t5 t6 c3x cN hnq
                simp only [putR, nrV, List.setIfInBounds_toArray, List.set_cons_zero, List.set_cons_succ, Bool.not_true, Bool.not_false, Bool.and_true, Bool.and_false, Bool.true_and, Bool.false_and, Bool.or_false, Bool.or_true, Bool.false_or, Bool.true_or, reduceIte, Bool.true_eq_false, Bool.false_eq_true]
                go_wp2_with fail
                refine ⟨rfl, _, results_tmp4' rfl _ _ _, ?_⟩
                rw [show R = .er j 22 from eR]
                exact ⟨_, _, rfl, ((show Fr (fun _ => False) w wo0 from fw2).over (show Fr (fun q => q = gm ∨ q = gs) wo0 wz from q1H) (fun q e => by have hq : w.heap.size + 2 ≤ gm ∧ w.heap.size + 2 ≤ gs := hgsz; omega)), fun L' e => by cases e⟩
              | some L1 =>
                have hn1H : Hidden (noteS (L.set j (some (true, s))) (j + 1) sa = some L1) := hn1
                clear hn1
                have hnq : g ≠ gm ∧ g ≠ gs ∧ b3 ≠ gm ∧ b3 ≠ gs ∧ w.heap.size ≠ gm ∧ w.heap.size ≠ gs := hne
                refine nr_region true false true true (.slice p3 m3 kq3) (.slice p4 m4 k4) (.slice p5 m5 k5) (.slice p6 m6 k6) g gm gs w.heap.size b3 o3 n c3 j m (fun F1 F2 u => Fr (fun q => q = gm ∨ q = gs) wo0 u ∧ (F1 = false → Fr (fun _ => False) wo0 u) ∧ (F1 = true → F2 = false → Dk u B gm gd gs n L1) ∧ (F1 = true → F2 = true → Dk u B gm gd gs n L1)) (by show 150 ≤ 151; decide) hjn hn hc3 rfl rfl rfl rfl rfl ⟨Fr.drew _ _, fun _ => Fr.drew _ _, fun e => (by cases e), fun e => (by cases e)⟩ ?_ ?_ ?_ ?_ ?_ ?_
                · rintro F1 F2 u ⟨q1, _⟩
                  have n1 : ¬ (g = gm ∨ g = gs) := by omega
                  have n2 : ¬ (w.heap.size = gm ∨ w.heap.size = gs) := by omega
                  have n3 : ¬ (b3 = gm ∨ b3 = gs) := by omega
                  exact ⟨q1.cell t1 n1, q1.cell t2 n1, q1.cell t3 n1, q1.cell t4 n1, q1.cell t5 n1, q1.cell t6 n1, q1.cell c3x n2, q1.cell cN n3⟩
                · rintro _ u ⟨q1, q2, _⟩
                  refine (noted_any B gm gd gs n (j + 1) (L.set j (some (true, s))) sa _ _ u (hD2.keep (q2 rfl)) hj1H (by omega) (((show ShB wx B _ sa from hSaH).keep (show Fr (fun _ => False) wx wo0 from gwo0) (fun _ _ f => f)).keep (q2 rfl) (fun _ _ f => f))).mono ?_
                  rintro e w' ⟨rfl, f, hD⟩
                  rw [show noteS (L.set j (some (true, s))) (j + 1) sa = _ from hn1H]
                  exact ⟨rfl, q1.same f, fun e => (by cases e), fun _ _ => hD _ hn1H, fun _ e => (by cases e)⟩
                · intro e; cases e
                · intro e; exact absurd e (by decide)
                · rintro _ u ⟨q1, q2, q3, q4⟩
                  exact ⟨q1, fun e => (by cases e), fun _ e => (by cases e), fun _ _ => q3 rfl rfl⟩
                rintro wz ⟨q1, _, _, q4⟩
                have q1H : Hidden (Fr (fun q => q = gm ∨ q = gs) wo0 wz) := q1
                have q4H : Hidden (Dk wz B gm gd gs n L1) := q4 rfl rfl
                clear q1 q4 t1 t2 t3 t4 t5 t6 c3x cN hnq
                simp only [putR, nrV, List.setIfInBounds_toArray, List.set_cons_zero, List.set_cons_succ, Bool.not_true, Bool.not_false, Bool.and_true, Bool.and_false, Bool.true_and, Bool.false_and, Bool.or_false, Bool.or_true, Bool.false_or, Bool.true_or, reduceIte, Bool.true_eq_false, Bool.false_eq_true]
                go_wp2_with fail
                go_roundg jf
                case measure => omega
                case rel => exact ⟨L1, q4H, hstep hinvH hxH (rd_ok (a := some sa) (b := none) hiH hlenH hmH hst hc0 ho0 (show noteO _ _ _ = some _ from hn1H) rfl), go_ok hgoH hleH (rd_ok (a := some sa) (b := none) hiH hlenH hmH hst hc0 ho0 (show noteO _ _ _ = some _ from hn1H) rfl), (show Fr (fun k => k = gm ∨ k = gd ∨ k = gs) Wm wo0 from fm2).same ((show Fr (fun q => q = gm ∨ q = gs) wo0 wz from q1H).mono (fun q _ e => by rcases e with e | e; exact Or.inl e; exact Or.inr (Or.inr e)))⟩
          · simp only [Option.isSome_some, Option.isSome_none] at t1 t2 hgH
            by_cases hj1 : n ≤ j + 1
            · have hk1 : decide (n ≤ j + 1) = true := decide_eq_true hj1
              have hk1i : decide ((n : Int) ≤ ((j + 1 : Nat) : Int)) = true := decide_eq_true (by omega)
              have hk1j : decide ((n : Int) ≤ (j : Int) + 1) = true := decide_eq_true (by omega)
              have eR : Hidden (R = .er j 51) := go_err hgoH hleH (rd_51 hiH hlenH hst (by rw [hk1]; rfl))
              clear hj1
              go_wp2_with fail
              refine ⟨rfl, _, results_tmp4' rfl _ _ _, ?_⟩
              rw [show R = .er j 51 from eR]
              exact ⟨_, _, rfl, fwx, fun L' e => by cases e⟩
            have hk1 : decide (n ≤ j + 1) = false := decide_eq_false hj1
            have hk1i : decide ((n : Int) ≤ ((j + 1 : Nat) : Int)) = false := decide_eq_false (by omega)
            have hk1j : decide ((n : Int) ≤ (j : Int) + 1) = false := decide_eq_false (by omega)
            have hj1H : Hidden (j + 1 < n) := by show _ < _; omega
            by_cases hj2 : n ≤ m
            · have hk2 : decide (n ≤ m) = true := decide_eq_true hj2
              have hk2i : decide ((n : Int) ≤ (m : Int)) = true := decide_eq_true (by omega)
              have eR : Hidden (R = .er j 51) := go_err hgoH hleH (rd_51 hiH hlenH hst (by rw [show i.n = (m : Int) from hmH, hk2i]; simp))
              clear hj2
              go_wp2_with fail
              refine ⟨rfl, _, results_tmp4' rfl _ _ _, ?_⟩
              rw [show R = .er j 51 from eR]
              exact ⟨_, _, rfl, fwx, fun L' e => by cases e⟩
            have hk2 : decide (n ≤ m) = false := decide_eq_false hj2
            have hk2i : decide ((n : Int) ≤ (m : Int)) = false := decide_eq_false (by omega)
            have hmn : (m : Int) < (n : Int) := by omega
            have hj2H : Hidden (m < n) := by show _ < _; omega
            have hc0 : Hidden ((((some sa : Option Sp).isSome && decide (n ≤ j + 1)) || ((some sb : Option Sp).isSome && decide ((n : Int) ≤ i.n))) = false) := by show _ = false; rw [show i.n = (m : Int) from hmH, hk2i, hk1]; simp
            clear hj1 hj2
            have hSa := (show ∀ x, (some sa : Option Sp) = some x → ShB wx B (.agg #[.slice p3 m3 kq3, .slice p4 m4 k4]) x from hAH) sa rfl
            have hla : Hidden (m3 = sa.st.length ∧ m4 = sa.tr.length) := by
              obtain ⟨_, _, _, _, e, _, _⟩ := hSa
              simp only [Value.agg.injEq, Array.mk.injEq, List.cons.injEq, Value.slice.injEq, and_true] at e
              exact ⟨e.1.2.1, e.2.2.1⟩
            have hSaH : Hidden (ShB wx B (.agg #[.slice p3 m3 kq3, .slice p4 m4 k4]) sa) := hSa
            have koa : ∀ W, Calls Tryz.prog 28 #[.agg #[.slice p3 m3 kq3, .slice p4 m4 k4]] W fun e w' => e = .returned (.bool (over sa)) ∧ Fr (fun _ => False) W w' := fun W => by
              have := over_any p3 p4 m3 kq3 m4 k4 W
              rw [(show m3 = sa.st.length ∧ m4 = sa.tr.length from hla).1, (show m3 = sa.st.length ∧ m4 = sa.tr.length from hla).2] at this
              unfold over
              rw [(show m3 = sa.st.length ∧ m4 = sa.tr.length from hla).1, (show m3 = sa.st.length ∧ m4 = sa.tr.length from hla).2]
              exact this
            clear hSa
            obtain ⟨Da, hDa⟩ : ∃ D, D = over sa := ⟨_, rfl⟩
            rw [← hDa] at koa
            have hDaH : Hidden (Da = over sa) := hDa
            clear hDa
            have hSb := (show ∀ x, (some sb : Option Sp) = some x → ShB wx B (.agg #[.slice p5 m5 k5, .slice p6 m6 k6]) x from hBH) sb rfl
            have hlb : Hidden (m5 = sb.st.length ∧ m6 = sb.tr.length) := by
              obtain ⟨_, _, _, _, e, _, _⟩ := hSb
              simp only [Value.agg.injEq, Array.mk.injEq, List.cons.injEq, Value.slice.injEq, and_true] at e
              exact ⟨e.1.2.1, e.2.2.1⟩
            have hSbH : Hidden (ShB wx B (.agg #[.slice p5 m5 k5, .slice p6 m6 k6]) sb) := hSb
            have kob : ∀ W, Calls Tryz.prog 28 #[.agg #[.slice p5 m5 k5, .slice p6 m6 k6]] W fun e w' => e = .returned (.bool (over sb)) ∧ Fr (fun _ => False) W w' := fun W => by
              have := over_any p5 p6 m5 k5 m6 k6 W
              rw [(show m5 = sb.st.length ∧ m6 = sb.tr.length from hlb).1, (show m5 = sb.st.length ∧ m6 = sb.tr.length from hlb).2] at this
              unfold over
              rw [(show m5 = sb.st.length ∧ m6 = sb.tr.length from hlb).1, (show m5 = sb.st.length ∧ m6 = sb.tr.length from hlb).2]
              exact this
            clear hSb
            obtain ⟨Db, hDb⟩ : ∃ D, D = over sb := ⟨_, rfl⟩
            rw [← hDb] at kob
            have hDbH : Hidden (Db = over sb) := hDb
            clear hDb
            cases hda : Da
            case true =>
              subst hda
              have eR : Hidden (R = .er j 3) := go_err hgoH hleH (rd_3 hiH hlenH hst hc0 (by simp [anyO, show over sa = _ from (show _ = over sa from hDaH).symm]))
              go_wp2_with fail
              go_at_call 28; refine (koa _).mono ?_; rintro e wo0 ⟨rfl, foa⟩
              replace t1 := foa.cellN t1
              replace t2 := foa.cellN t2
              replace t3 := foa.cellN t3
              replace t4 := foa.cellN t4
              replace t5 := foa.cellN t5
              replace t6 := foa.cellN t6
              replace c3x := foa.cellN c3x
              replace cN := foa.cellN cN
              have gwo0 : Hidden (Fr (fun _ => False) wx wo0) := foa
              clear foa
              go_wp2_with fail
              refine ⟨rfl, _, results_tmp4' rfl _ _ _, ?_⟩
              rw [show R = .er j 3 from eR]
              exact ⟨_, _, rfl, (show Fr (fun _ => False) w wx from fwx).same gwo0, fun L' e => by cases e⟩
            case false =>
              subst hda
              cases hdb : Db
              case true =>
                subst hdb
                have eR : Hidden (R = .er j 3) := go_err hgoH hleH (rd_3 hiH hlenH hst hc0 (by simp [anyO, show over sa = _ from (show _ = over sa from hDaH).symm, show over sb = _ from (show _ = over sb from hDbH).symm]))
                go_wp2_with fail
                go_at_call 28; refine (koa _).mono ?_; rintro e wo0 ⟨rfl, foa⟩
                replace t1 := foa.cellN t1
                replace t2 := foa.cellN t2
                replace t3 := foa.cellN t3
                replace t4 := foa.cellN t4
                replace t5 := foa.cellN t5
                replace t6 := foa.cellN t6
                replace c3x := foa.cellN c3x
                replace cN := foa.cellN cN
                have gwo0 : Hidden (Fr (fun _ => False) wx wo0) := foa
                clear foa
                go_wp2_with fail
                go_at_call 28; refine (kob _).mono ?_; rintro e wo1 ⟨rfl, fob⟩
                replace t1 := fob.cellN t1
                replace t2 := fob.cellN t2
                replace t3 := fob.cellN t3
                replace t4 := fob.cellN t4
                replace t5 := fob.cellN t5
                replace t6 := fob.cellN t6
                replace c3x := fob.cellN c3x
                replace cN := fob.cellN cN
                have gwo1 : Hidden (Fr (fun _ => False) wx wo1) := (show Fr (fun _ => False) wx wo0 from gwo0).same fob
                clear fob
                go_wp2_with fail
                refine ⟨rfl, _, results_tmp4' rfl _ _ _, ?_⟩
                rw [show R = .er j 3 from eR]
                exact ⟨_, _, rfl, (show Fr (fun _ => False) w wx from fwx).same gwo1, fun L' e => by cases e⟩
              case false =>
                subst hdb
                have ho0 : Hidden ((anyO (some sa) || anyO (some sb)) = false) := by show _ = false; simp [anyO, show over sa = _ from (show _ = over sa from hDaH).symm, show over sb = _ from (show _ = over sb from hDbH).symm]
                go_wp2_with fail
                go_at_call 28; refine (koa _).mono ?_; rintro e wo0 ⟨rfl, foa⟩
                replace t1 := foa.cellN t1
                replace t2 := foa.cellN t2
                replace t3 := foa.cellN t3
                replace t4 := foa.cellN t4
                replace t5 := foa.cellN t5
                replace t6 := foa.cellN t6
                replace c3x := foa.cellN c3x
                replace cN := foa.cellN cN
                have gwo0 : Hidden (Fr (fun _ => False) wx wo0) := foa
                clear foa
                go_wp2_with fail
                go_at_call 28; refine (kob _).mono ?_; rintro e wo1 ⟨rfl, fob⟩
                replace t1 := fob.cellN t1
                replace t2 := fob.cellN t2
                replace t3 := fob.cellN t3
                replace t4 := fob.cellN t4
                replace t5 := fob.cellN t5
                replace t6 := fob.cellN t6
                replace c3x := fob.cellN c3x
                replace cN := fob.cellN cN
                have gwo1 : Hidden (Fr (fun _ => False) wx wo1) := (show Fr (fun _ => False) wx wo0 from gwo0).same fob
                clear fob
                go_upto_region 20 with fail
                have hD2 : Dk wo1 B gm gd gs n (L.set j (some (true, s))) := (show Dk wx B gm gd gs n (L.set j (some (true, s))) from hDx).keep (gwo1)
                have hg2 : Hidden (wo1.heap[g]? = _) := (show Fr (fun _ => False) wx wo1 from gwo1).heap hgH (fun f => f)
                have hb2 : Hidden (wo1.heap[w.heap.size]? = _) := (show Fr (fun _ => False) wx wo1 from gwo1).heap hbx (fun f => f)
                have fm2 : Hidden (Fr (fun k => k = gm ∨ k = gd ∨ k = gs) Wm wo1) := (show Fr (fun k => k = gm ∨ k = gd ∨ k = gs) Wm wx from fmx).same ((show Fr (fun _ => False) wx wo1 from gwo1).mono (fun _ _ e => e.elim))
                have fw2 : Hidden (Fr (fun _ => False) w wo1) := (show Fr (fun _ => False) w wx from fwx).same (gwo1)
                cases hn1 : noteS (L.set j (some (true, s))) (j + 1) sa with
                | none =>
                  have hn1H : Hidden (noteS (L.set j (some (true, s))) (j + 1) sa = none) := hn1
                  have eR : Hidden (R = .er j 22) := go_err hgoH hleH (rd_22a (a := some sa) hiH hlenH hst hc0 ho0 hn1)
                  clear hn1
                  have hnq : g ≠ gm ∧ g ≠ gs ∧ b3 ≠ gm ∧ b3 ≠ gs ∧ w.heap.size ≠ gm ∧ w.heap.size ≠ gs := hne
                  refine nr_region true true false false (.slice p3 m3 kq3) (.slice p4 m4 k4) (.slice p5 m5 k5) (.slice p6 m6 k6) g gm gs w.heap.size b3 o3 n c3 j m (fun F1 F2 u => Fr (fun q => q = gm ∨ q = gs) wo1 u ∧ (F1 = false → Fr (fun _ => False) wo1 u) ∧ (F1 = true → F2 = false → True) ∧ (F1 = true → F2 = true → True)) (by show 150 ≤ 151; decide) hjn hn hc3 rfl rfl rfl rfl rfl ⟨Fr.drew _ _, fun _ => Fr.drew _ _, fun e => (by cases e), fun e => (by cases e)⟩ ?_ ?_ ?_ ?_ ?_ ?_
                  · rintro F1 F2 u ⟨q1, _⟩
                    have n1 : ¬ (g = gm ∨ g = gs) := by omega
                    have n2 : ¬ (w.heap.size = gm ∨ w.heap.size = gs) := by omega
                    have n3 : ¬ (b3 = gm ∨ b3 = gs) := by omega
                    exact ⟨q1.cell t1 n1, q1.cell t2 n1, q1.cell t3 n1, q1.cell t4 n1, q1.cell t5 n1, q1.cell t6 n1, q1.cell c3x n2, q1.cell cN n3⟩
                  · rintro _ u ⟨q1, q2, _⟩
                    refine (noted_any B gm gd gs n (j + 1) (L.set j (some (true, s))) sa _ _ u (hD2.keep (q2 rfl)) hj1H (by omega) (((show ShB wx B _ sa from hSaH).keep (show Fr (fun _ => False) wx wo1 from gwo1) (fun _ _ f => f)).keep (q2 rfl) (fun _ _ f => f))).mono ?_
                    rintro e w' ⟨rfl, f, hD⟩
                    rw [show noteS (L.set j (some (true, s))) (j + 1) sa = _ from hn1H]
                    exact ⟨rfl, q1.same f, fun e => (by cases e), fun _ _ => trivial, fun _ e => (by cases e)⟩
                  · intro e; cases e
                  · intro e; exact absurd e (by decide)
                  · rintro _ u ⟨q1, q2, q3, q4⟩
                    exact ⟨q1, fun e => (by cases e), fun _ e => (by cases e), fun _ _ => trivial⟩
                  rintro wz ⟨q1, _, _, q4⟩
                  have q1H : Hidden (Fr (fun q => q = gm ∨ q = gs) wo1 wz) := q1
                  skip
                  clear q1 q4 t1 t2 t3 t4 t5 t6 c3x cN hnq
                  simp only [putR, nrV, List.setIfInBounds_toArray, List.set_cons_zero, List.set_cons_succ, Bool.not_true, Bool.not_false, Bool.and_true, Bool.and_false, Bool.true_and, Bool.false_and, Bool.or_false, Bool.or_true, Bool.false_or, Bool.true_or, reduceIte, Bool.true_eq_false, Bool.false_eq_true]
                  go_wp2_with fail
                  refine ⟨rfl, _, results_tmp4' rfl _ _ _, ?_⟩
                  rw [show R = .er j 22 from eR]
                  exact ⟨_, _, rfl, ((show Fr (fun _ => False) w wo1 from fw2).over (show Fr (fun q => q = gm ∨ q = gs) wo1 wz from q1H) (fun q e => by have hq : w.heap.size + 2 ≤ gm ∧ w.heap.size + 2 ≤ gs := hgsz; omega)), fun L' e => by cases e⟩
                | some L1 =>
                  have hn1H : Hidden (noteS (L.set j (some (true, s))) (j + 1) sa = some L1) := hn1
                  clear hn1
                  cases hn2 : noteS L1 m sb with
                  | none =>
                    have hn2H : Hidden (noteS L1 m sb = none) := hn2
                    have eR : Hidden (R = .er j 22) := go_err hgoH hleH (rd_22b (b := some sb) hiH hlenH hmH hst hc0 ho0 (show noteO _ _ (some sa) = some L1 from hn1H) hn2)
                    clear hn2
                    have hnq : g ≠ gm ∧ g ≠ gs ∧ b3 ≠ gm ∧ b3 ≠ gs ∧ w.heap.size ≠ gm ∧ w.heap.size ≠ gs := hne
                    refine nr_region true true true false (.slice p3 m3 kq3) (.slice p4 m4 k4) (.slice p5 m5 k5) (.slice p6 m6 k6) g gm gs w.heap.size b3 o3 n c3 j m (fun F1 F2 u => Fr (fun q => q = gm ∨ q = gs) wo1 u ∧ (F1 = false → Fr (fun _ => False) wo1 u) ∧ (F1 = true → F2 = false → Dk u B gm gd gs n L1) ∧ (F1 = true → F2 = true → True)) (by show 150 ≤ 151; decide) hjn hn hc3 rfl rfl rfl rfl rfl ⟨Fr.drew _ _, fun _ => Fr.drew _ _, fun e => (by cases e), fun e => (by cases e)⟩ ?_ ?_ ?_ ?_ ?_ ?_
                    · rintro F1 F2 u ⟨q1, _⟩
                      have n1 : ¬ (g = gm ∨ g = gs) := by omega
                      have n2 : ¬ (w.heap.size = gm ∨ w.heap.size = gs) := by omega
                      have n3 : ¬ (b3 = gm ∨ b3 = gs) := by omega
                      exact ⟨q1.cell t1 n1, q1.cell t2 n1, q1.cell t3 n1, q1.cell t4 n1, q1.cell t5 n1, q1.cell t6 n1, q1.cell c3x n2, q1.cell cN n3⟩
                    · rintro _ u ⟨q1, q2, _⟩
                      refine (noted_any B gm gd gs n (j + 1) (L.set j (some (true, s))) sa _ _ u (hD2.keep (q2 rfl)) hj1H (by omega) (((show ShB wx B _ sa from hSaH).keep (show Fr (fun _ => False) wx wo1 from gwo1) (fun _ _ f => f)).keep (q2 rfl) (fun _ _ f => f))).mono ?_
                      rintro e w' ⟨rfl, f, hD⟩
                      rw [show noteS (L.set j (some (true, s))) (j + 1) sa = _ from hn1H]
                      exact ⟨rfl, q1.same f, fun e => (by cases e), fun _ _ => hD _ hn1H, fun _ e => (by cases e)⟩
                    · intro e; cases e
                    · rintro _ u ⟨q1, q2, q3, q4⟩
                      refine (noted_any B gm gd gs n m L1 sb _ _ u (q3 rfl rfl) hj2H (by omega) (((show ShB wx B _ sb from hSbH).keep (show Fr (fun _ => False) wx wo1 from gwo1) (fun _ _ f => f)).keep q1 (fun q hq e => by
                        have h2 := (show Dk wr B gm gd gs n L from hdkH).b1
                        have h3 := (show Dk wr B gm gd gs n L from hdkH).b3
                        omega))).mono ?_
                      rintro e w' ⟨rfl, f, hD⟩
                      rw [show noteS L1 m sb = _ from hn2H]
                      exact ⟨rfl, q1.same f, fun e => (by cases e), fun _ e => (by cases e), fun _ _ => trivial⟩
                    · intro e; exact absurd e (by decide)
                    rintro wz ⟨q1, _, _, q4⟩
                    have q1H : Hidden (Fr (fun q => q = gm ∨ q = gs) wo1 wz) := q1
                    skip
                    clear q1 q4 t1 t2 t3 t4 t5 t6 c3x cN hnq
                    simp only [putR, nrV, List.setIfInBounds_toArray, List.set_cons_zero, List.set_cons_succ, Bool.not_true, Bool.not_false, Bool.and_true, Bool.and_false, Bool.true_and, Bool.false_and, Bool.or_false, Bool.or_true, Bool.false_or, Bool.true_or, reduceIte, Bool.true_eq_false, Bool.false_eq_true]
                    go_wp2_with fail
                    refine ⟨rfl, _, results_tmp4' rfl _ _ _, ?_⟩
                    rw [show R = .er j 22 from eR]
                    exact ⟨_, _, rfl, ((show Fr (fun _ => False) w wo1 from fw2).over (show Fr (fun q => q = gm ∨ q = gs) wo1 wz from q1H) (fun q e => by have hq : w.heap.size + 2 ≤ gm ∧ w.heap.size + 2 ≤ gs := hgsz; omega)), fun L' e => by cases e⟩
                  | some L2 =>
                    have hn2H : Hidden (noteS L1 m sb = some L2) := hn2
                    clear hn2
                    have hnq : g ≠ gm ∧ g ≠ gs ∧ b3 ≠ gm ∧ b3 ≠ gs ∧ w.heap.size ≠ gm ∧ w.heap.size ≠ gs := hne
                    refine nr_region true true true true (.slice p3 m3 kq3) (.slice p4 m4 k4) (.slice p5 m5 k5) (.slice p6 m6 k6) g gm gs w.heap.size b3 o3 n c3 j m (fun F1 F2 u => Fr (fun q => q = gm ∨ q = gs) wo1 u ∧ (F1 = false → Fr (fun _ => False) wo1 u) ∧ (F1 = true → F2 = false → Dk u B gm gd gs n L1) ∧ (F1 = true → F2 = true → Dk u B gm gd gs n L2)) (by show 150 ≤ 151; decide) hjn hn hc3 rfl rfl rfl rfl rfl ⟨Fr.drew _ _, fun _ => Fr.drew _ _, fun e => (by cases e), fun e => (by cases e)⟩ ?_ ?_ ?_ ?_ ?_ ?_
                    · rintro F1 F2 u ⟨q1, _⟩
                      have n1 : ¬ (g = gm ∨ g = gs) := by omega
                      have n2 : ¬ (w.heap.size = gm ∨ w.heap.size = gs) := by omega
                      have n3 : ¬ (b3 = gm ∨ b3 = gs) := by omega
                      exact ⟨q1.cell t1 n1, q1.cell t2 n1, q1.cell t3 n1, q1.cell t4 n1, q1.cell t5 n1, q1.cell t6 n1, q1.cell c3x n2, q1.cell cN n3⟩
                    · rintro _ u ⟨q1, q2, _⟩
                      refine (noted_any B gm gd gs n (j + 1) (L.set j (some (true, s))) sa _ _ u (hD2.keep (q2 rfl)) hj1H (by omega) (((show ShB wx B _ sa from hSaH).keep (show Fr (fun _ => False) wx wo1 from gwo1) (fun _ _ f => f)).keep (q2 rfl) (fun _ _ f => f))).mono ?_
                      rintro e w' ⟨rfl, f, hD⟩
                      rw [show noteS (L.set j (some (true, s))) (j + 1) sa = _ from hn1H]
                      exact ⟨rfl, q1.same f, fun e => (by cases e), fun _ _ => hD _ hn1H, fun _ e => (by cases e)⟩
                    · intro e; cases e
                    · rintro _ u ⟨q1, q2, q3, q4⟩
                      refine (noted_any B gm gd gs n m L1 sb _ _ u (q3 rfl rfl) hj2H (by omega) (((show ShB wx B _ sb from hSbH).keep (show Fr (fun _ => False) wx wo1 from gwo1) (fun _ _ f => f)).keep q1 (fun q hq e => by
                        have h2 := (show Dk wr B gm gd gs n L from hdkH).b1
                        have h3 := (show Dk wr B gm gd gs n L from hdkH).b3
                        omega))).mono ?_
                      rintro e w' ⟨rfl, f, hD⟩
                      rw [show noteS L1 m sb = _ from hn2H]
                      exact ⟨rfl, q1.same f, fun e => (by cases e), fun _ e => (by cases e), fun _ _ => hD _ hn2H⟩
                    · intro e; exact absurd e (by decide)
                    rintro wz ⟨q1, _, _, q4⟩
                    have q1H : Hidden (Fr (fun q => q = gm ∨ q = gs) wo1 wz) := q1
                    have q4H : Hidden (Dk wz B gm gd gs n L2) := q4 rfl rfl
                    clear q1 q4 t1 t2 t3 t4 t5 t6 c3x cN hnq
                    simp only [putR, nrV, List.setIfInBounds_toArray, List.set_cons_zero, List.set_cons_succ, Bool.not_true, Bool.not_false, Bool.and_true, Bool.and_false, Bool.true_and, Bool.false_and, Bool.or_false, Bool.or_true, Bool.false_or, Bool.true_or, reduceIte, Bool.true_eq_false, Bool.false_eq_true]
                    go_wp2_with fail
                    go_roundg jf
                    case measure => omega
                    case rel => exact ⟨L2, q4H, hstep hinvH hxH (rd_ok (a := some sa) (b := some sb) hiH hlenH hmH hst hc0 ho0 (show noteO _ _ _ = some _ from hn1H) (show noteO _ _ _ = some _ from hn2H)), go_ok hgoH hleH (rd_ok (a := some sa) (b := some sb) hiH hlenH hmH hst hc0 ho0 (show noteO _ _ _ = some _ from hn1H) (show noteO _ _ _ = some _ from hn2H)), (show Fr (fun k => k = gm ∨ k = gd ∨ k = gs) Wm wo1 from fm2).same ((show Fr (fun q => q = gm ∨ q = gs) wo1 wz from q1H).mono (fun q _ e => by rcases e with e | e; exact Or.inl e; exact Or.inr (Or.inr e)))⟩

end Go.Proofs.YtnmcehpdiopaiaaGreatDoor.Cd

namespace Go.Proofs.YtnmcehpdiopaiaaGreatDoor.Cd
open Go.RowKit Ty
set_option linter.unusedSimpArgs false
set_option linter.unusedVariables false

set_option maxRecDepth 20000 in
set_option maxHeartbeats 2000000 in
theorem found_no (v0 v1 v2 v3 v4 v5 : Value) (h1 h2 : Int) (w : World) (hne : (h2 != 0) = true)
    (kh : ∀ W, Fr (fun _ => False) w W → Calls Tryz.prog 26 #[.agg #[v0, v1, v2, v3], .agg #[v4, v5]] W fun e w' => e = .returned (.tuple #[ci h1, ci h2]) ∧ Fr (fun _ => False) W w') (c0 : v0.oneCell' = true) (c1 : v1.oneCell' = true) (c2 : v2.oneCell' = true) (c3 : v3.oneCell' = true) (c4 : v4.oneCell' = true) (c5 : v5.oneCell' = true) :
    Calls Tryz.prog 16 #[.agg #[v0, v1, v2, v3], .agg #[v4, v5]] w fun e w' => e = .returned (.tuple #[.slice none 0 0, .slice none 0 0, ci h1, ci h2]) ∧ Fr (fun _ => False) w w' := by
  obtain ⟨V, hV⟩ : ∃ V, V = (w.alloc (.cells #[v0, v1, v2, v3] 27 (0, 0))).alloc (.cells #[v4, v5] 30 (0, 0)) := ⟨_, rfl⟩
  have fV : Fr (fun _ => False) w V := by rw [hV]; exact (Fr.alloc _ _ _).same (Fr.alloc _ _ _)
  have hbf : V.heap[w.heap.size]? = some (.cells #[v0, v1, v2, v3] 27 (0, 0)) := by rw [hV]; exact heap_alloc2_old _ _ _
  have hbp : V.heap[w.heap.size + 1]? = some (.cells #[v4, v5] 30 (0, 0)) := by rw [hV]; exact heap_alloc2_new _ _ _
  obtain ⟨k0, k1, k2, k3⟩ := box4 hbf
  have k4 : V.cell? ⟨w.heap.size + 1, 0, none⟩ = some v4 := cell_of_row _ _ 0 _ _ _ hbp
  have k5 : V.cell? ⟨w.heap.size + 1, 1, none⟩ = some v5 := cell_of_row _ _ 1 _ _ _ hbp
  have khV := kh V fV
  have fVH : Hidden (Fr (fun _ => False) w V) := fV
  have hVH : Hidden (V = _) := hV
  clear hV fV hbf hbp kh
  go_enter Tryz.func16, Tryz.ntmps16
  go_upto_region 1 with fail
  rw [← (show V = _ from hVH)]
  clear hVH
  go_wp2_with (first
    | (go_at_call 26; refine khV.mono ?_; rintro e w1 ⟨rfl, f1⟩
       have f1H : Hidden (Fr (fun _ => False) V w1) := f1
       clear f1 khV k0 k1 k2 k3 k4 k5))
  refine ⟨rfl, _, results_tmp4' rfl _ _ _, ?_⟩
  exact ⟨rfl, (show Fr (fun _ => False) w V from fVH).same f1H⟩
/-- What stands in memory of what was found. -/
def FoR (w' : World) (n : Nat) (vm vs : Value) (o : Option Cs) : Prop := ∀ L, o = some L → ∃ B gm gd gs, vm = .slice (some ⟨gm, 0, none⟩) n n ∧ vs = .slice (some ⟨gs, 0, none⟩) n n ∧ Dk w' B gm gd gs n L
theorem rfound_any (f : Fu) (p : Fm) (a0 a2 a3 a4 a5 : Option Addr) (c0 c2 c3 c4 c5 : Nat) (w : World) (h : Fi w f p a0 a2 a3 a4 a5 c0 c2 c3 c4 c5) :
    Calls Tryz.prog 16 #[.agg #[.slice a0 f.sg.ps.length c0, ci f.sg.res, .slice a2 f.loc.length c2, .slice a3 f.cd.length c3], .agg #[.slice a4 p.fns.length c4, .slice a5 p.vars.length c5]] w fun e w' => ∃ vm vs, e = .returned (.tuple #[vm, vs, ci (verS f p).1, ci (verS f p).2]) ∧ Fr (fun _ => False) w w' ∧ FoR w' f.cd.length vm vs (finS f p) := by
  have kh : ∀ W, Fr (fun _ => False) w W → _ := fun W hW => head_any f p a0 a2 a3 a4 a5 c0 c2 c3 c4 c5 _ _ _ _ _ rfl rfl rfl rfl rfl W (h.keep hW)
  by_cases hh : (headS f p).2 = 0
  case neg =>
    obtain ⟨e1, e2⟩ := ver_head hh
    rw [e1, e2]
    refine (found_no _ _ _ _ _ _ (headS f p).1 (headS f p).2 w (by simpa using hh) kh rfl rfl rfl rfl rfl rfl).mono ?_
    rintro e w' ⟨rfl, hf⟩
    exact ⟨_, _, rfl, hf, fun L e => (by cases e)⟩
  obtain ⟨e0, ho, hb, e1, e2⟩ := ver_head0 hh
  obtain ⟨_, _, hl, hne, hF⟩ := out_ok ho
  have hright := bad_no hb
  have hn0 : 0 < f.cd.length := by
    cases hc : f.cd with
    | nil => exact absurd hc hne
    | cons a r => simp
  obtain ⟨b3, o3, rfl, hcl⟩ := h.cd.2.2.2.resolve_left hne
  rw [e0] at kh
  rw [e1, e2]
  have hcap : f.cd.length ≤ c3 ∧ c3 ≤ 9223372036854775807 := ⟨h.cd.1, by have := h.cd.2.1; simpa [maxLen] using this⟩
  have hr : ∀ k : Nat, k < f.cd.length → rightS (f.cd.getD k default) = true := fun k hk => hright _ (by
    rw [List.getD_eq_getElem?_getD, List.getElem?_eq_getElem hk]
    exact List.getElem_mem hk)
  refine (found_w f p f.cd.length c3 b3 o3 _ _ _ _ _ (runS f p) w hl hn0 hcap.1 hcap.2 rfl (run_some f p) (fun hi hk e => round_inv hF hr hi hk e) (fun k i hi j u hu => hcl k i hi j u hu) (fun k i hi => (right_n (hright i (List.mem_of_getElem? hi))).1) kh (fun B W L k s i so to' sc tc hW hinv hk hi hIs hTs hB => ?_)).mono ?_
  · have ho := over_len (hinv.ov _ _ _ hk)
    exact step_any f p a0 a2 _ a4 a5 c0 c2 c3 c4 c5 i (hright i (List.mem_of_getElem? hi)) s so to' sc tc _ _ B W rfl rfl (h.keep hW) hIs hTs (by omega) (by omega) hB
  · rintro e w' ⟨vm, vs, rfl, hf, hL⟩
    refine ⟨vm, vs, rfl, hf, fun L e => hL L ?_⟩
    cases hR : runS f p with
    | ok L' => rw [hR] at e; cases e; rfl
    | er k e' => rw [hR] at e; cases e
set_option maxRecDepth 20000 in
set_option maxHeartbeats 2000000 in
theorem rverify_any (f : Fu) (p : Fm) (a0 a2 a3 a4 a5 : Option Addr) (c0 c2 c3 c4 c5 : Nat) (w : World) (h : Fi w f p a0 a2 a3 a4 a5 c0 c2 c3 c4 c5) :
    Calls Tryz.prog 8 #[.agg #[.slice a0 f.sg.ps.length c0, ci f.sg.res, .slice a2 f.loc.length c2, .slice a3 f.cd.length c3], .agg #[.slice a4 p.fns.length c4, .slice a5 p.vars.length c5]] w fun e w' => e = .returned (.tuple #[ci (verS f p).1, ci (verS f p).2]) ∧ Fr (fun _ => False) w w' := by
  obtain ⟨V, hV⟩ : ∃ V, V = (w.alloc (.cells #[.slice a0 f.sg.ps.length c0, ci f.sg.res, .slice a2 f.loc.length c2, .slice a3 f.cd.length c3] 27 (0, 0))).alloc (.cells #[.slice a4 p.fns.length c4, .slice a5 p.vars.length c5] 30 (0, 0)) := ⟨_, rfl⟩
  have fV : Fr (fun _ => False) w V := by rw [hV]; exact (Fr.alloc _ _ _).same (Fr.alloc _ _ _)
  obtain ⟨k0, k1, k2, k3⟩ := box4 (show V.heap[w.heap.size]? = some (.cells #[.slice a0 f.sg.ps.length c0, ci f.sg.res, .slice a2 f.loc.length c2, .slice a3 f.cd.length c3] 27 (0, 0)) by rw [hV]; exact heap_alloc2_old _ _ _)
  have hbp : V.heap[w.heap.size + 1]? = some (.cells #[.slice a4 p.fns.length c4, .slice a5 p.vars.length c5] 30 (0, 0)) := by rw [hV]; exact heap_alloc2_new _ _ _
  have k4 : V.cell? ⟨w.heap.size + 1, 0, none⟩ = some (.slice a4 p.fns.length c4) := cell_of_row _ _ 0 _ _ _ hbp
  have k5 : V.cell? ⟨w.heap.size + 1, 1, none⟩ = some (.slice a5 p.vars.length c5) := cell_of_row _ _ 1 _ _ _ hbp
  have kf := rfound_any f p a0 a2 a3 a4 a5 c0 c2 c3 c4 c5 V (h.keep fV)
  have fVH : Hidden (Fr (fun _ => False) w V) := fV
  have hVH : Hidden (V = _) := hV
  clear hV fV hbp h
  generalize verS f p = VR at *
  go_enter Tryz.func8, Tryz.ntmps8
  go_upto_region 1 with fail
  rw [← (show V = _ from hVH)]
  clear hVH
  go_wp2_with (first
    | (go_at_call 16; refine kf.mono ?_; rintro e w1 ⟨vm, vs, rfl, f1, hL⟩
       have f1H : Hidden (Fr (fun _ => False) V w1) := f1
       clear f1 kf k0 k1 k2 k3 k4 k5 hL))
  go_ret2
  exact ⟨rfl, (show Fr (fun _ => False) w V from fVH).same f1H⟩
theorem shp_none {f : Fu} {p : Fm} {at' : Int} (h : (verS f p).2 ≠ 0 ∨ at' < 0 ∨ (f.cd.length : Int) ≤ at') : shpS f p at' = none := by unfold shpS; rw [if_pos h]
theorem shp_at {f : Fu} {p : Fm} {k : Nat} {L : Cs} {x : Option (Bool × Sp)} (h : ¬ ((verS f p).2 ≠ 0 ∨ (k : Int) < 0 ∨ (f.cd.length : Int) ≤ (k : Int))) (hf : finS f p = some L) (hx : L[k]? = some x) : shpS f p (k : Int) = x.map fun y => y.2 := by
  unfold shpS
  rw [if_neg h, hf, Int.toNat_natCast]
  unfold atS
  rw [Option.bind_some, hx, Option.bind_some]
set_option maxRecDepth 20000 in
set_option maxHeartbeats 4000000 in
theorem rshape_any (f : Fu) (p : Fm) (a0 a2 a3 a4 a5 : Option Addr) (c0 c2 c3 c4 c5 : Nat) (at' : Int) (w : World) (h : Fi w f p a0 a2 a3 a4 a5 c0 c2 c3 c4 c5) :
    Calls Tryz.prog 11 #[.agg #[.slice a0 f.sg.ps.length c0, ci f.sg.res, .slice a2 f.loc.length c2, .slice a3 f.cd.length c3], .agg #[.slice a4 p.fns.length c4, .slice a5 p.vars.length c5], ci at'] w fun e w' => ∃ v, e = .returned (.tuple #[v, ci (shN (shpS f p at')), .bool (shB (shpS f p at'))]) ∧ (∃ ao cap, v = .slice ao (shL (shpS f p at')).length cap ∧ InL w' ao cap (shL (shpS f p at'))) ∧ Fr (fun _ => False) w w' := by
  obtain ⟨V, hV⟩ : ∃ V, V = (w.alloc (.cells #[.slice a0 f.sg.ps.length c0, ci f.sg.res, .slice a2 f.loc.length c2, .slice a3 f.cd.length c3] 27 (0, 0))).alloc (.cells #[.slice a4 p.fns.length c4, .slice a5 p.vars.length c5] 30 (0, 0)) := ⟨_, rfl⟩
  have fV : Fr (fun _ => False) w V := by rw [hV]; exact (Fr.alloc _ _ _).same (Fr.alloc _ _ _)
  obtain ⟨k0, k1, k2, k3⟩ := box4 (show V.heap[w.heap.size]? = some (.cells #[.slice a0 f.sg.ps.length c0, ci f.sg.res, .slice a2 f.loc.length c2, .slice a3 f.cd.length c3] 27 (0, 0)) by rw [hV]; exact heap_alloc2_old _ _ _)
  have hbp : V.heap[w.heap.size + 1]? = some (.cells #[.slice a4 p.fns.length c4, .slice a5 p.vars.length c5] 30 (0, 0)) := by rw [hV]; exact heap_alloc2_new _ _ _
  have k4 : V.cell? ⟨w.heap.size + 1, 0, none⟩ = some (.slice a4 p.fns.length c4) := cell_of_row _ _ 0 _ _ _ hbp
  have k5 : V.cell? ⟨w.heap.size + 1, 1, none⟩ = some (.slice a5 p.vars.length c5) := cell_of_row _ _ 1 _ _ _ hbp
  have kf := rfound_any f p a0 a2 a3 a4 a5 c0 c2 c3 c4 c5 V (h.keep fV)
  have fVH : Hidden (Fr (fun _ => False) w V) := fV
  have hVH : Hidden (V = _) := hV
  have hcap : Hidden (f.cd.length ≤ 9223372036854775807) := by
    have h1 := h.cd.1
    have h2 := h.cd.2.1
    simp only [maxLen] at h2
    show _ ≤ _
    omega
  have n1 : (verS f p).2 ≠ 0 → shpS f p at' = none := fun e => shp_none (Or.inl e)
  have n2 : at' < 0 → shpS f p at' = none := fun e => shp_none (Or.inr (Or.inl e))
  have n3 : (f.cd.length : Int) ≤ at' → shpS f p at' = none := fun e => shp_none (Or.inr (Or.inr e))
  have n4 : (verS f p).2 = 0 → ∀ k : Nat, at' = k → k < f.cd.length → ∃ L x, finS f p = some L ∧ L[k]? = some x ∧ shpS f p at' = x.map fun y => y.2 := fun e k hk hkn => by
    subst hk
    obtain ⟨L, g1, g2, g3, g4, _⟩ := ver_fin e
    have hlen := (fin_inv g2 g3 g4).len
    exact ⟨L, _, g1, List.getElem?_eq_getElem (by rw [hlen]; exact hkn), shp_at (by rintro (q | q | q); exact q e; omega; omega) g1 (List.getElem?_eq_getElem (by rw [hlen]; exact hkn))⟩
  have n1H : Hidden _ := n1
  have n2H : Hidden _ := n2
  have n3H : Hidden _ := n3
  have n4H : Hidden _ := n4
  clear hV fV hbp h n1 n2 n3 n4
  generalize f.cd.length = n at *
  generalize shpS f p at' = X at *
  generalize verS f p = VR at *
  generalize finS f p = FR at *
  obtain ⟨vr1, vr2⟩ := VR
  simp only [] at kf
  go_enter Tryz.func11, Tryz.ntmps11
  go_upto_region 1 with fail
  rw [← (show V = _ from hVH)]
  clear hVH
  by_cases hv : vr2 = 0
  case neg =>
    have hX : Hidden (X = none) := (show vr2 ≠ 0 → X = none from n1H) hv
    have hb1 : (vr2 != 0) = true := by simpa using hv
    clear hv
    go_wp2_with (first
      | (go_at_call 16; refine kf.mono ?_; rintro e w1 ⟨vm, vs, rfl, f1, hL⟩
         have j3 := f1.cellN k3
         have hLH : Hidden (FoR w1 n vm vs FR) := hL
         have f1H : Hidden (Fr (fun _ => False) V w1) := f1
         clear f1 kf k0 k1 k2 k3 k4 k5 hL))
    go_ret3
    rw [show X = none from hX]
    exact ⟨.slice none 0 0, rfl, ⟨none, 0, rfl, inl_none _⟩, (show Fr (fun _ => False) w V from fVH).same f1H⟩
  subst hv
  by_cases h0 : at' < 0
  · have hX : Hidden (X = none) := (show at' < 0 → X = none from n2H) h0
    have h0b : decide (at' < 0) = true := by simpa using h0
    clear h0
    go_wp2_with (first
      | (go_at_call 16; refine kf.mono ?_; rintro e w1 ⟨vm, vs, rfl, f1, hL⟩
         have j3 := f1.cellN k3
         have hLH : Hidden (FoR w1 n vm vs FR) := hL
         have f1H : Hidden (Fr (fun _ => False) V w1) := f1
         clear f1 kf k0 k1 k2 k3 k4 k5 hL))
    go_ret3
    rw [show X = none from hX]
    exact ⟨.slice none 0 0, rfl, ⟨none, 0, rfl, inl_none _⟩, (show Fr (fun _ => False) w V from fVH).same f1H⟩
  have h0b : decide (at' < 0) = false := by simpa using h0
  obtain ⟨k, rfl⟩ : ∃ k : Nat, at' = k := ⟨at'.toNat, by omega⟩
  by_cases h1 : n ≤ k
  · have hX : Hidden (X = none) := (show (n : Int) ≤ (k : Int) → X = none from n3H) (by omega)
    have h1b : decide ((n : Int) ≤ (k : Int)) = true := decide_eq_true (by omega)
    have h1c : decide (n ≤ k) = true := decide_eq_true h1
    clear h1 h0
    go_wp2_with (first
      | (go_at_call 16; refine kf.mono ?_; rintro e w1 ⟨vm, vs, rfl, f1, hL⟩
         have j3 := f1.cellN k3
         have hLH : Hidden (FoR w1 n vm vs FR) := hL
         have f1H : Hidden (Fr (fun _ => False) V w1) := f1
         clear f1 kf k0 k1 k2 k3 k4 k5 hL))
    go_ret3
    rw [show X = none from hX]
    exact ⟨.slice none 0 0, rfl, ⟨none, 0, rfl, inl_none _⟩, (show Fr (fun _ => False) w V from fVH).same f1H⟩
  have h1b : decide ((n : Int) ≤ (k : Int)) = false := decide_eq_false (by omega)
  have h1c : decide (n ≤ k) = false := decide_eq_false h1
  have hkn : (k : Int) < (n : Int) := by omega
  have hk0 : (0 : Int) ≤ (k : Int) := by omega
  obtain ⟨L, x, hF, hx, hXx⟩ := (show (0 : Int) = 0 → ∀ q : Nat, (k : Int) = q → q < n → ∃ L x, FR = some L ∧ L[q]? = some x ∧ X = x.map fun y => y.2 from n4H) rfl k rfl (by omega)
  have hFH : Hidden (FR = some L) := hF
  have hxH : Hidden (L[k]? = some x) := hx
  have hXH : Hidden (X = x.map fun y => y.2) := hXx
  clear h1 h0 hF hx hXx
  go_upto_region 2 with (first
    | (go_at_call 16; refine kf.mono ?_; rintro e w1 ⟨vm, vs, rfl, f1, hL⟩
       have j3 := f1.cellN k3
       have hLH : Hidden (FoR w1 n vm vs FR) := hL
       have f1H : Hidden (Fr (fun _ => False) V w1) := f1
       clear f1 kf k0 k1 k2 k3 k4 k5 hL))
  obtain ⟨B, gm, gd, gs, rfl, rfl, hD⟩ := (show FoR w1 n vm vs FR from hLH) L hFH
  have e0 := hD.met hxH
  have hDH : Hidden (Dk w1 B gm gd gs n L) := hD
  clear hD
  rcases x with _ | ⟨g, s⟩
  · have hX : Hidden (X = none) := hXH
    simp only [Option.isSome_none] at e0
    go_wp2_with fail
    go_ret3
    rw [show X = none from hX]
    exact ⟨.slice none 0 0, rfl, ⟨none, 0, rfl, inl_none _⟩, (show Fr (fun _ => False) w V from fVH).same f1H⟩
  have hX : Hidden (X = some s) := hXH
  simp only [Option.isSome_some] at e0
  obtain ⟨so, sc, to', tc, hI, _, s0, s1⟩ := (show Dk w1 B gm gd gs n L from hDH).shape hxH
  obtain ⟨ns, hns⟩ : ∃ m, m = s.st.length := ⟨_, rfl⟩
  obtain ⟨nt, hnt⟩ : ∃ m, m = s.tr.length := ⟨_, rfl⟩
  rw [← hns] at s0
  rw [← hnt] at s1
  have hnsH : Hidden (ns = s.st.length) := hns
  have hntH : Hidden (nt = s.tr.length) := hnt
  have hIH : Hidden (InL w1 so sc s.st) := hI.1
  clear hI hns hnt
  go_upto_region 4 with fail
  go_region_held3 (fun w' => w'.cell? ⟨gs, k * 2, none⟩ = some (.slice so ns sc) ∧ w'.cell? ⟨gs, k * 2 + 1, none⟩ = some (.slice to' nt tc)) (first | (refine ⟨by with_reducible assumption, by with_reducible assumption⟩) | go_keep) (fail)
  all_goals
    go_wp2_with fail
    go_ret3
    rw [show X = some s from hX]
    refine ⟨.slice so ns sc, ?_, ⟨so, sc, by rw [show ns = s.st.length from hnsH]; rfl, InL.keep (show InL w1 so sc s.st from hIH) (by first | exact Fr.refl _ _ | exact Fr.drew _ _)⟩, ((show Fr (fun _ => False) w V from fVH).same f1H).same (by first | exact Fr.refl _ _ | exact Fr.drew _ _)⟩
    rw [show nt = s.tr.length from hntH]
    rfl
end Go.Proofs.YtnmcehpdiopaiaaGreatDoor.Cd
