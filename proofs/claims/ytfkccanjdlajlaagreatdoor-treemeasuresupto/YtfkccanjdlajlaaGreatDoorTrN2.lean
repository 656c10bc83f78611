/- The document's Depth and Nodes. -/
import Derived.Test.YtfkccanjdlajlaaGreatDoorTrN
import Derived.Test.YtfkccanjdlajlaaGreatDoorTrX5
namespace Go.Proofs.YtfkccanjdlajlaaGreatDoor.X
open Go.RowKit Te
set_option linter.unusedSimpArgs false
set_option linter.unusedVariables false

def kz : Exs → Nat
  | .nil => 0
  | .cons _ k r => k.size + kz r
def sz : Sts → Nat
  | .nil => 0
  | .cons _ e b l r => e.size + b.size + l.size + sz r
theorem kz_size : ∀ k : Exs, k.len + kz k = k.size
  | .nil => rfl
  | .cons h k r => by have := kz_size r; simp only [Exs.len, Exs.size, kz]; omega
theorem sz_size : ∀ k : Sts, k.len + sz k = k.size
  | .nil => rfl
  | .cons h e b l r => by have := sz_size r; simp only [Sts.len, Sts.size, sz]; omega
def NdE (k : Exs) : Prop := ∀ (ao : Option Addr) (cap : Nat) (w : World), ExL w ao cap k → k.size ≤ 1099511627776 →
  Calls Tryz.prog 46 #[.slice ao k.len cap] w fun e w' => e = .returned (ci (k.size : Int)) ∧ Fr (fun _ => False) w w'
set_option maxRecDepth 20000 in
set_option maxHeartbeats 4000000 in
theorem ndE_step (k : Exs) (ih : ∀ k' : Exs, k'.size < k.size → NdE k') : NdE k := by
  intro ao cap w hk hb
  have hrest := hk.rest
  obtain ⟨hcap, hmax, _⟩ := hk
  have hlen : k.len ≤ 9223372036854775807 := by unfold maxLen at hmax; omega
  have hz := kz_size k
  obtain ⟨R, hR⟩ : ∃ R, k.size = R := ⟨_, rfl⟩
  rw [hR] at hz ⊢
  have hRH : Hidden (k.size = R) := hR
  have hzH : Hidden (k.len + kz k = R) := hz
  clear hz hR
  go_enter Tryz.func46, Tryz.ntmps46
  go_wp2_with fail
  go_loopg [3, 4] k.len (fun g sv iv wr => ∃ (i : Nat) (r : Exs) (ac : Nat), sv = ci (ac : Int) ∧ iv = ci (i : Int) ∧ i + r.len = k.len ∧ r.size ≤ k.size ∧ ExR w ao i r ∧ ac + kz r = R ∧ g = r.len ∧ Fr (fun _ => False) w wr)
  case atStart => exact ⟨0, k, k.len, rfl, rfl, by omega, Nat.le_refl _, hrest, hzH, rfl, Fr.refl _ _⟩
  case round =>
    clear hzH
    obtain ⟨i, r, ac, rfl, rfl, hlen2, hsize, hrow, hdk, hgk, hfr⟩ := hrel
    have hgkH : Hidden (gk = r.len) := hgk
    have hdkH : Hidden (ac + kz r = R) := hdk
    have hlenH : Hidden (i + r.len = k.len) := hlen2
    have hacb : ac ≤ 1099511627776 := by have : k.size = R := hRH; omega
    clear hgk hdk hlen2 hrest
    cases r with
    | nil =>
      have hi : i = k.len := hlenH
      subst hi
      obtain rfl : ac = R := hdkH
      go_wp2_with fail
      go_ret
      exact ⟨rfl, hfr⟩
    | cons h' k' r' =>
      have hil : i < k.len := by have : i + (r'.len + 1) = k.len := hlenH; omega
      obtain ⟨b, off, ao', cap', rfl, hL, hrow2, d0, d1, d2, d3, d4, d5, d6⟩ := hrow.next
      have d0 := hfr.cellN d0
      have d1 := hfr.cellN d1
      have d2 := hfr.cellN d2
      have d3 := hfr.cellN d3
      have d4 := hfr.cellN d4
      have d5 := hfr.cellN d5
      have d6 := hfr.cellN d6
      simp only [Exs.size] at hsize
      have ke := ih k' (by omega) ao' cap' _ (hL.keep hfr) (by omega)
      have hd2 : Hidden ((ac + k'.size) + kz r' = R) := by have h0 : ac + (k'.size + kz r') = R := hdkH; show _ = R; omega
      have hb2 : k'.size ≤ 1099511627776 := by omega
      clear hdkH
      obtain ⟨s, hs⟩ : ∃ s, k'.size = s := ⟨_, rfl⟩
      rw [hs] at ke hd2 hb2 hsize
      clear hs
      go_wp2_with fail
      go_at_call 46
      refine ke.mono ?_
      rintro e W3 ⟨rfl, f3⟩
      go_wp2_with fail
      go_roundg r'.len
      case measure =>
        have : gk = r'.len + 1 := hgkH
        omega
      case rel =>
        refine ⟨i + 1, r', ac + s, by go_num, by go_num, ?_, by omega, hrow2, hd2, rfl, hfr.same f3⟩
        have : i + (r'.len + 1) = k.len := hlenH
        omega
theorem ndE_any (k : Exs) : NdE k := by
  have : ∀ (n : Nat) (k : Exs), k.size < n → NdE k := by
    intro n
    induction n with
    | zero => intro k hk; omega
    | succ n ih => intro k hk; exact ndE_step k (fun k' hk' => ih k' (by omega))
  exact this (k.size + 1) k (by omega)
def NdS (k : Sts) : Prop := ∀ (ao : Option Addr) (cap : Nat) (w : World), StL w ao cap k → k.size ≤ 1099511627776 →
  Calls Tryz.prog 47 #[.slice ao k.len cap] w fun e w' => e = .returned (ci (k.size : Int)) ∧ Fr (fun _ => False) w w'
set_option maxRecDepth 20000 in
set_option maxHeartbeats 4000000 in
theorem ndS_step (k : Sts) (ih : ∀ k' : Sts, k'.size < k.size → NdS k') : NdS k := by
  intro ao cap w hk hb
  have hrest := hk.rest
  obtain ⟨hcap, hmax, _⟩ := hk
  have hlen : k.len ≤ 9223372036854775807 := by unfold maxLen at hmax; omega
  have hz := sz_size k
  obtain ⟨R, hR⟩ : ∃ R, k.size = R := ⟨_, rfl⟩
  rw [hR] at hz ⊢
  have hRH : Hidden (k.size = R) := hR
  have hzH : Hidden (k.len + sz k = R) := hz
  clear hz hR
  go_enter Tryz.func47, Tryz.ntmps47
  go_wp2_with fail
  go_loopg [3, 4] k.len (fun g sv iv wr => ∃ (i : Nat) (r : Sts) (ac : Nat), sv = ci (ac : Int) ∧ iv = ci (i : Int) ∧ i + r.len = k.len ∧ r.size ≤ k.size ∧ StR w ao i r ∧ ac + sz r = R ∧ g = r.len ∧ Fr (fun _ => False) w wr)
  case atStart => exact ⟨0, k, k.len, rfl, rfl, by omega, Nat.le_refl _, hrest, hzH, rfl, Fr.refl _ _⟩
  case round =>
    clear hzH
    obtain ⟨i, r, ac, rfl, rfl, hlen2, hsize, hrow, hdk, hgk, hfr⟩ := hrel
    have hgkH : Hidden (gk = r.len) := hgk
    have hdkH : Hidden (ac + sz r = R) := hdk
    have hlenH : Hidden (i + r.len = k.len) := hlen2
    have hacb : ac ≤ 1099511627776 := by have : k.size = R := hRH; omega
    clear hgk hdk hlen2 hrest
    cases r with
    | nil =>
      have hi : i = k.len := hlenH
      subst hi
      obtain rfl : ac = R := hdkH
      go_wp2_with fail
      go_ret
      exact ⟨rfl, hfr⟩
    | cons h' e' b' l' r' =>
      have hil : i < k.len := by have : i + (r'.len + 1) = k.len := hlenH; omega
      obtain ⟨b, off, ao1, cap1, ao2, cap2, ao3, cap3, rfl, hL1, hL2, hL3, hrow2, d0, d1, d2, d3, d4⟩ := hrow.next
      have d0 := hfr.cellN d0
      have d1 := hfr.cellN d1
      have d2 := hfr.cellN d2
      have d3 := hfr.cellN d3
      have d4 := hfr.cellN d4
      simp only [Sts.size] at hsize
      have ke := fun (w1 : World) (f : Fr (fun _ => False) w w1) => ndE_any e' ao1 cap1 w1 (hL1.keep f) (by omega)
      have kb := fun (w1 : World) (f : Fr (fun _ => False) w w1) => ih b' (by omega) ao2 cap2 w1 (hL2.keep f) (by omega)
      have kl := fun (w1 : World) (f : Fr (fun _ => False) w w1) => ih l' (by omega) ao3 cap3 w1 (hL3.keep f) (by omega)
      have hd2 : Hidden ((ac + (e'.size + b'.size + l'.size)) + sz r' = R) := by have h0 : ac + (e'.size + b'.size + l'.size + sz r') = R := hdkH; show _ = R; omega
      have hb2 : e'.size + b'.size + l'.size ≤ 1099511627776 := by omega
      clear hdkH
      obtain ⟨x, hx⟩ : ∃ s, e'.size = s := ⟨_, rfl⟩
      obtain ⟨y, hy⟩ : ∃ s, b'.size = s := ⟨_, rfl⟩
      obtain ⟨z, hz⟩ : ∃ s, l'.size = s := ⟨_, rfl⟩
      simp only [hx, hy, hz] at ke kb kl hd2 hb2 hsize
      clear hx hy hz
      go_wp2_with fail
      refine wp_region_grow (by kernel_rfl) (by kernel_rfl) ?_
      (repeat (first | (refine grow_op (v := ?_) ?_ ?_ ?_; rotate_left; (focus (first | exact wanted_none rfl | (go_simp; done))); (focus (intro w' hw'; have d0 := hw'.cellN d0; have d1 := hw'.cellN d1; have d2 := hw'.cellN d2; have d3 := hw'.cellN d3; have d4 := hw'.cellN d4; (go_simp; first | with_reducible rfl | (go_at_call 46; refine calls_grow hw' ?_; first | (have q := ke _ (hfr.same hw'); with_reducible exact q)) | (go_at_call 47; refine calls_grow hw' ?_; first | (have q := kb _ (hfr.same hw'); with_reducible exact q) | (have q := kl _ (hfr.same hw'); with_reducible exact q))))); (intro a' ha; simp only [Act.put, List.setIfInBounds_toArray, List.set_cons_zero, List.set_cons_succ] at ha; subst ha)) | (refine grow_no ?_ ?_; (focus (go_simp; done)); (intro a' ha; simp only [Act.put, List.setIfInBounds_toArray, List.set_cons_zero, List.set_cons_succ] at ha; subst ha)))); refine grow_nil ?_; intro w1 k1
      go_wp2_with fail
      go_roundg r'.len
      case measure =>
        have : gk = r'.len + 1 := hgkH
        omega
      case rel =>
        refine ⟨i + 1, r', ac + (x + y + z), ?_, by go_num, ?_, by omega, hrow2, hd2, rfl, hfr.same k1⟩
        · refine congrArg (Value.int .i64) ?_
          first | omega | (rw [wr_ok (z := (ac : Int) + x) (by omega) (by omega), wr_ok (z := (ac : Int) + x + y) (by omega) (by omega), wr_ok (z := (ac : Int) + x + y + z) (by omega) (by omega)]; omega)
        · have : i + (r'.len + 1) = k.len := hlenH
          omega
theorem ndS_any (k : Sts) : NdS k := by
  have : ∀ (n : Nat) (k : Sts), k.size < n → NdS k := by
    intro n
    induction n with
    | zero => intro k hk; omega
    | succ n ih => intro k hk; exact ndS_step k (fun k' hk' => ih k' (by omega))
  exact this (k.size + 1) k (by omega)
def nz (l : List De) : Nat := (l.map fun d => d.params.length + d.e.size + d.body.size).sum
theorem nz_size : ∀ l : List De, l.length + nz l = ndM l
  | [] => rfl
  | d :: l => by have := nz_size l; simp only [nz, ndM_cons, ndD, List.length_cons, List.map_cons, List.sum_cons] at this ⊢; omega
theorem nz_cons (d : De) (l : List De) : nz (d :: l) = d.params.length + d.e.size + d.body.size + nz l := by simp [nz]
set_option maxRecDepth 20000 in
set_option maxHeartbeats 4000000 in
theorem depthM_any (m : Mo) (v : Value) (w : World) (hv : MoI w m v) :
    Calls Tryz.prog 15 #[v] w fun e w' => e = .returned (ci (dM m.decls)) ∧ Fr (fun _ => False) w w' := by
  obtain ⟨ao, cap, aod, capd, rfl, s1, hk⟩ := hv
  obtain ⟨name, imports, decls⟩ := m
  simp only at *
  have hlen : decls.length ≤ 9223372036854775807 := by have := hk.1; have := hk.2.1; unfold maxLen at this; omega
  have hcap := hk.1
  have hbx : Hidden ((w.alloc (.cells #[ct name, .slice ao imports.length cap, .slice aod decls.length capd] 25)).heap[w.heap.size]? = some (.cells #[ct name, .slice ao imports.length cap, .slice aod decls.length capd] 25 (0, 0))) := alloc_new _ _
  have f0 : Fr (fun _ => False) w (w.alloc (.cells #[ct name, .slice ao imports.length cap, .slice aod decls.length capd] 25)) := Fr.alloc _ _ _
  obtain ⟨R, hR⟩ : ∃ R, decls.foldl (fun acc d => max acc (dD d)) 0 = R := ⟨_, rfl⟩
  rw [show dM decls = R from hR]
  go_enter Tryz.func15, Tryz.ntmps15
  go_wp2_with fail
  go_loopg [3, 4] decls.length (fun g sv iv wr => ∃ (i : Nat) (ac : Int), sv = ci ac ∧ iv = ci (i : Int) ∧ i ≤ decls.length ∧ (decls.drop i).foldl (fun acc d => max acc (dD d)) ac = R ∧ g = decls.length - i ∧ Fr (fun _ => False) (w.alloc (.cells #[ct name, .slice ao imports.length cap, .slice aod decls.length capd] 25)) wr)
  case atStart => exact ⟨0, 0, rfl, rfl, by omega, hR, rfl, Fr.refl _ _⟩
  case round =>
    clear hR
    obtain ⟨i, ac, rfl, rfl, hi, hdk, hgk, hfr⟩ := hrel
    have hgkH : Hidden (gk = decls.length - i) := hgk
    have hdkH : Hidden ((decls.drop i).foldl (fun acc d => max acc (dD d)) ac = R) := hdk
    have hbw := hfr.heap hbx (fun f => f)
    have c2 : wr.cell? ⟨w.heap.size, 2, none⟩ = some (.slice aod decls.length capd) := cell_of_row _ _ 2 _ _ _ hbw
    clear hgk hdk
    by_cases hil : i < decls.length
    · obtain ⟨x, hx⟩ : ∃ x, decls[i]? = some x := ⟨decls[i], List.getElem?_eq_getElem hil⟩
      rcases hk.2.2 with h0 | ⟨b, off, rfl, hc⟩
      · rw [h0] at hil; simp at hil
      obtain ⟨pv, ev, bv, hI, hcc⟩ := hc i x hx
      have fw := f0.same hfr
      have d0 := fw.cellN (hcc 0 _ rfl)
      have d1 := fw.cellN (hcc 1 _ rfl)
      have d2 := fw.cellN (hcc 2 _ rfl)
      have d3 := fw.cellN (hcc 3 _ rfl)
      have d4 := fw.cellN (hcc 4 _ rfl)
      have d5 := fw.cellN (hcc 5 _ rfl)
      have d6 := fw.cellN (hcc 6 _ rfl)
      simp only [Nat.add_zero] at d0
      have hd1 : Hidden ((decls.drop (i + 1)).foldl (fun acc d => max acc (dD d)) (max ac (dD x)) = R) := by
        have h0 : (decls.drop i).foldl (fun acc d => max acc (dD d)) ac = R := hdkH
        rw [drop_at hx] at h0
        exact h0
      have kd := decl_any x _ _ _ _ rfl _ (hI.keep fw)
      obtain ⟨a1, p1, a2, p2, a3, p3, rfl, rfl, rfl, _⟩ := hI
      generalize dD x = s at kd hd1
      clear hdkH hx hc hcc
      go_wp2_with fail
      go_at_call 43
      refine kd.mono ?_
      rintro e W3 ⟨rfl, f3⟩
      go_wp2_with fail
      all_goals
        go_roundg (decls.length - (i + 1))
        case measure =>
          have : gk = decls.length - i := hgkH
          omega
        case rel =>
          refine ⟨i + 1, _, rfl, by go_num, by omega, ?_, rfl, hfr.same f3⟩
          rw [← (show _ = R from hd1)]
          congr 1
          omega
    · obtain rfl : i = decls.length := by omega
      obtain rfl : ac = R := by rw [← (show _ = R from hdkH), List.drop_length]; rfl
      clear hdkH
      go_wp2_with fail
      go_ret
      exact ⟨rfl, f0.same hfr⟩
set_option maxRecDepth 20000 in
set_option maxHeartbeats 4000000 in
theorem nodes_any (m : Mo) (v : Value) (w : World) (hv : MoI w m v) (hb : ndM m.decls ≤ 1099511627776) :
    Calls Tryz.prog 17 #[v] w fun e w' => e = .returned (ci ((ndM m.decls : Int))) ∧ Fr (fun _ => False) w w' := by
  obtain ⟨ao, cap, aod, capd, rfl, s1, hk⟩ := hv
  obtain ⟨name, imports, decls⟩ := m
  simp only at *
  have hlen : decls.length ≤ 9223372036854775807 := by have := hk.1; have := hk.2.1; unfold maxLen at this; omega
  have hcap := hk.1
  have hbx : Hidden ((w.alloc (.cells #[ct name, .slice ao imports.length cap, .slice aod decls.length capd] 25)).heap[w.heap.size]? = some (.cells #[ct name, .slice ao imports.length cap, .slice aod decls.length capd] 25 (0, 0))) := alloc_new _ _
  have f0 : Fr (fun _ => False) w (w.alloc (.cells #[ct name, .slice ao imports.length cap, .slice aod decls.length capd] 25)) := Fr.alloc _ _ _
  obtain ⟨R, hR⟩ : ∃ R, ndM decls = R := ⟨_, rfl⟩
  have hz := nz_size decls
  rw [hR] at hb hz ⊢
  have hzH : Hidden (decls.length + nz decls = R) := hz
  clear hz hR
  go_enter Tryz.func17, Tryz.ntmps17
  go_wp2_with fail
  go_loopg [3, 4] decls.length (fun g sv iv wr => ∃ (i ac : Nat), sv = ci (ac : Int) ∧ iv = ci (i : Int) ∧ i ≤ decls.length ∧ ac + nz (decls.drop i) = R ∧ g = decls.length - i ∧ Fr (fun _ => False) (w.alloc (.cells #[ct name, .slice ao imports.length cap, .slice aod decls.length capd] 25)) wr)
  case atStart => exact ⟨0, decls.length, rfl, rfl, by omega, hzH, rfl, Fr.refl _ _⟩
  case round =>
    clear hzH
    obtain ⟨i, ac, rfl, rfl, hi, hdk, hgk, hfr⟩ := hrel
    have hgkH : Hidden (gk = decls.length - i) := hgk
    have hdkH : Hidden (ac + nz (decls.drop i) = R) := hdk
    have hacb : ac ≤ 1099511627776 := by omega
    have hbw := hfr.heap hbx (fun f => f)
    have c2 : wr.cell? ⟨w.heap.size, 2, none⟩ = some (.slice aod decls.length capd) := cell_of_row _ _ 2 _ _ _ hbw
    clear hgk hdk
    by_cases hil : i < decls.length
    · obtain ⟨x, hx⟩ : ∃ x, decls[i]? = some x := ⟨decls[i], List.getElem?_eq_getElem hil⟩
      rcases hk.2.2 with h0 | ⟨b, off, rfl, hc⟩
      · rw [h0] at hil; simp at hil
      obtain ⟨pv, ev, bv, hI, hcc⟩ := hc i x hx
      have fw := f0.same hfr
      have d0 := fw.cellN (hcc 0 _ rfl)
      have d1 := fw.cellN (hcc 1 _ rfl)
      have d2 := fw.cellN (hcc 2 _ rfl)
      have d3 := fw.cellN (hcc 3 _ rfl)
      have d4 := fw.cellN (hcc 4 _ rfl)
      have d5 := fw.cellN (hcc 5 _ rfl)
      have d6 := fw.cellN (hcc 6 _ rfl)
      simp only [Nat.add_zero] at d0
      have hd1 : ac + (x.params.length + x.e.size + x.body.size + nz (decls.drop (i + 1))) = R := by rw [← nz_cons, ← drop_at hx]; exact hdkH
      obtain ⟨a1, p1, a2, p2, a3, p3, rfl, rfl, rfl, _, he, hbo⟩ := hI
      have ke := fun (w1 : World) (f : Fr (fun _ => False) w w1) => ndE_any x.e a2 p2 w1 (he.keep f) (by omega)
      have kb := fun (w1 : World) (f : Fr (fun _ => False) w w1) => ndS_any x.body a3 p3 w1 (hbo.keep f) (by omega)
      have hd2 : Hidden ((ac + (x.params.length + x.e.size + x.body.size)) + nz (decls.drop (i + 1)) = R) := by show _ = R; omega
      have hb2 : x.params.length + x.e.size + x.body.size ≤ 1099511627776 := by omega
      clear hdkH hd1 hx hc hcc
      generalize x.params.length = p at *
      obtain ⟨y, hy⟩ : ∃ s, x.e.size = s := ⟨_, rfl⟩
      obtain ⟨z, hz⟩ : ∃ s, x.body.size = s := ⟨_, rfl⟩
      simp only [hy, hz] at ke kb hd2 hb2
      clear hy hz
      go_wp2_with fail
      refine wp_region_grow (by kernel_rfl) (by kernel_rfl) ?_
      (repeat (first | (refine grow_op (v := ?_) ?_ ?_ ?_; rotate_left; (focus (first | exact wanted_none rfl | (go_simp; done))); (focus (intro w' hw'; have c2 := hw'.cellN c2; have d0 := hw'.cellN d0; have d1 := hw'.cellN d1; have d2 := hw'.cellN d2; have d3 := hw'.cellN d3; have d4 := hw'.cellN d4; have d5 := hw'.cellN d5; have d6 := hw'.cellN d6; (go_simp; first | with_reducible rfl | (go_at_call 46; refine calls_grow hw' ?_; first | (have q := ke _ (fw.same hw'); with_reducible exact q)) | (go_at_call 47; refine calls_grow hw' ?_; first | (have q := kb _ (fw.same hw'); with_reducible exact q))))); (intro a' ha; simp only [Act.put, List.setIfInBounds_toArray, List.set_cons_zero, List.set_cons_succ] at ha; subst ha)) | (refine grow_no ?_ ?_; (focus (go_simp; done)); (intro a' ha; simp only [Act.put, List.setIfInBounds_toArray, List.set_cons_zero, List.set_cons_succ] at ha; subst ha)))); refine grow_nil ?_; intro w1 k1
      go_wp2_with fail
      go_roundg (decls.length - (i + 1))
      case measure =>
        have : gk = decls.length - i := hgkH
        omega
      case rel =>
        refine ⟨i + 1, ac + (p + y + z), ?_, by go_num, by omega, hd2, rfl, hfr.same k1⟩
        refine congrArg (Value.int .i64) ?_
        first | omega | (rw [wr_ok (z := (ac : Int) + p) (by omega) (by omega), wr_ok (z := (ac : Int) + p + y) (by omega) (by omega), wr_ok (z := (ac : Int) + p + y + z) (by omega) (by omega)]; omega)
    · obtain rfl : i = decls.length := by omega
      obtain rfl : ac = R := by rw [← (show _ = R from hdkH), List.drop_length]; rfl
      clear hdkH
      go_wp2_with fail
      go_ret
      exact ⟨rfl, f0.same hfr⟩
end Go.Proofs.YtfkccanjdlajlaaGreatDoor.X
