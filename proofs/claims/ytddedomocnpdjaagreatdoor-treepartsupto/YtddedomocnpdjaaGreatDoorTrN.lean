/- How deep and how great modules are. -/
import Derived.Test.YtddedomocnpdjaaGreatDoorTrD2
import Derived.Test.YtddedomocnpdjaaGreatDoorTrG
namespace Go.Proofs.YtddedomocnpdjaaGreatDoor
open Go.RowKit Te
set_option linter.unusedSimpArgs false
set_option linter.unusedVariables false

def NdE (k : Exs) : Prop := ∀ (ao : Option Addr) (cap : Nat) (w : World), ExL w ao cap k → k.size ≤ 1099511627776 →
  Calls Tryz.prog 27 #[.slice ao k.len cap, .func (.func 28) #[] #[]] w fun e w' => e = .returned (ci (k.size : Int)) ∧ Fr (fun _ => False) w w'
def NdX (h : EH) (k : Exs) : Prop := ∀ (ao : Option Addr) (cap : Nat) (w : World), ExL w ao cap k → k.size ≤ 1099511627776 →
  Calls Tryz.prog 28 #[exV h (.slice ao k.len cap)] w fun e w' => e = .returned (ci ((k.size + 1 : Nat) : Int)) ∧ Fr (fun _ => False) w w'
theorem wr_ok {z : Int} (h0 : 0 ≤ z) (h1 : z ≤ 9223372036854775807) : IntKind.i64.wrap z = z := by
  simp [IntKind.wrap, IntKind.bits, IntKind.signed]
  omega
theorem ret_nat {x : Int} {n : Nat} (h : x = (n : Int)) : Ending.returned (ci x) = .returned (ci (n : Int)) := by rw [h]
set_option maxRecDepth 20000 in
set_option maxHeartbeats 4000000 in
theorem ndX_step (h : EH) (k : Exs) (hk : NdE k) : NdX h k := by
  intro ao cap w he hb
  have f0 : Fr (fun _ => False) w (w.alloc (.cells #[ci h.kind, ci h.op, ct h.mod, ct h.name, ci h.vt, .int .u64 h.vb, .slice ao k.len cap] 43)) := Fr.alloc _ _ _
  have kk := hk ao cap _ (he.keep f0) hb
  generalize k.size = n at *
  go_enter Tryz.func28, Tryz.ntmps28
  go_wp2_with fail
  go_at_call 27
  refine kk.mono ?_
  rintro e w1 ⟨rfl, f1⟩
  go_wp2_with fail
  go_ret
  exact ⟨ret_nat (by omega), f0.same f1⟩
set_option maxRecDepth 20000 in
set_option maxHeartbeats 4000000 in
theorem ndE_step (k : Exs) (ih : ∀ h' k', k'.size < k.size → NdX h' k') : NdE k := by
  intro ao cap w hk hb
  have hrest := hk.rest
  obtain ⟨hcap, hmax, _⟩ := hk
  have hlen : k.len ≤ 9223372036854775807 := by unfold maxLen at hmax; omega
  obtain ⟨R, hR⟩ : ∃ R, k.size = R := ⟨_, rfl⟩
  rw [hR]
  have hRH : Hidden (k.size = R) := hR
  go_enter Tryz.func27, Tryz.ntmps27
  go_wp2_with fail
  go_loopg [5, 10] k.len (fun g sv iv wr => ∃ (i : Nat) (r : Exs) (ac : Nat), sv = ci (ac : Int) ∧ iv = ci (i : Int) ∧ i + r.len = k.len ∧ r.size ≤ k.size ∧ ExR w ao i r ∧ ac + r.size = R ∧ g = r.len ∧ Fr (fun _ => False) w wr)
  case atStart => exact ⟨0, k, 0, rfl, rfl, by omega, Nat.le_refl _, hrest, by rw [Nat.zero_add]; exact hR, rfl, Fr.refl _ _⟩
  case round =>
    clear hR
    obtain ⟨i, r, ac, rfl, rfl, hlen2, hsize, hrow, hdk, hgk, hfr⟩ := hrel
    have hgkH : Hidden (gk = r.len) := hgk
    have hdkH : Hidden (ac + r.size = R) := hdk
    have hlenH : Hidden (i + r.len = k.len) := hlen2
    have hacb : ac ≤ 1099511627776 := by have : k.size = R := hRH; omega
    clear hgk hdk hlen2 hrest
    cases r with
    | nil =>
      have hi : i = k.len := hlenH
      subst hi
      obtain rfl : ac = R := hdkH
      go_wp2_with fail
      go_ret
      exact ⟨rfl, hfr⟩
    | cons h' k' r' =>
      have hil : i < k.len := by have : i + (r'.len + 1) = k.len := hlenH; omega
      obtain ⟨b, off, ao', cap', rfl, hL, hrow2, d0, d1, d2, d3, d4, d5, d6⟩ := hrow.next
      have d0 := hfr.cellN d0
      have d1 := hfr.cellN d1
      have d2 := hfr.cellN d2
      have d3 := hfr.cellN d3
      have d4 := hfr.cellN d4
      have d5 := hfr.cellN d5
      have d6 := hfr.cellN d6
      simp only [Exs.size] at hsize
      have f2 := hfr.same (Fr.alloc (fun _ => False) wr (.cells #[ci h'.kind, ci h'.op, ct h'.mod, ct h'.name, ci h'.vt, .int .u64 h'.vb, .slice ao' k'.len cap'] 43))
      have ke := ih h' k' (by omega) ao' cap' _ (hL.keep f2) (by omega)
      have hd2 : Hidden ((ac + (k'.size + 1)) + r'.size = R) := by have h0 : ac + (k'.size + r'.size + 1) = R := hdkH; show _ = R; omega
      have hb2 : k'.size + 1 ≤ 1099511627776 := by omega
      clear hdkH
      obtain ⟨s, hs⟩ : ∃ s, k'.size + 1 = s := ⟨_, rfl⟩
      rw [hs] at ke hd2 hb2
      clear hs
      go_wp2_with fail
      go_at_call 28
      refine ke.mono ?_
      rintro e W3 ⟨rfl, f3⟩
      go_wp2_with fail
      go_roundg r'.len
      case measure =>
        have : gk = r'.len + 1 := hgkH
        omega
      case rel =>
        refine ⟨i + 1, r', ac + s, by go_num, by go_num, ?_, by omega, hrow2, hd2, rfl, f2.same f3⟩
        have : i + (r'.len + 1) = k.len := hlenH
        omega
theorem ndE_any (k : Exs) : NdE k := by
  have : ∀ (n : Nat) (k : Exs), k.size < n → NdE k := by
    intro n
    induction n with
    | zero => intro k hk; omega
    | succ n ih => intro k hk; exact ndE_step k (fun h' k' hk' => ndX_step h' k' (ih k' (by omega)))
  exact this (k.size + 1) k (by omega)
def NdS (k : Sts) : Prop := ∀ (ao : Option Addr) (cap : Nat) (w : World), StL w ao cap k → k.size ≤ 1099511627776 →
  Calls Tryz.prog 29 #[.slice ao k.len cap, .func (.func 30) #[] #[]] w fun e w' => e = .returned (ci (k.size : Int)) ∧ Fr (fun _ => False) w w'
def NdT (h : SH) (e : Exs) (b l : Sts) : Prop := ∀ (ao1 ao2 ao3 : Option Addr) (cap1 cap2 cap3 : Nat) (w : World), ExL w ao1 cap1 e → StL w ao2 cap2 b → StL w ao3 cap3 l → e.size + b.size + l.size ≤ 1099511627776 →
  Calls Tryz.prog 30 #[stV h (.slice ao1 e.len cap1) (.slice ao2 b.len cap2) (.slice ao3 l.len cap3)] w fun ee w' => ee = .returned (ci ((e.size + b.size + l.size + 1 : Nat) : Int)) ∧ Fr (fun _ => False) w w'
set_option maxRecDepth 20000 in
set_option maxHeartbeats 4000000 in
theorem ndT_step (h : SH) (e : Exs) (b l : Sts) (hb : NdS b) (hl : NdS l) : NdT h e b l := by
  intro ao1 ao2 ao3 cap1 cap2 cap3 w he hB hL hsz
  have hbx : Hidden ((w.alloc (.cells #[ci h.kind, ct h.name, .slice ao1 e.len cap1, .slice ao2 b.len cap2, .slice ao3 l.len cap3] 64)).heap[w.heap.size]? = some (.cells #[ci h.kind, ct h.name, .slice ao1 e.len cap1, .slice ao2 b.len cap2, .slice ao3 l.len cap3] 64 (0, 0))) := alloc_new _ _
  have f0 : Fr (fun _ => False) w (w.alloc (.cells #[ci h.kind, ct h.name, .slice ao1 e.len cap1, .slice ao2 b.len cap2, .slice ao3 l.len cap3] 64)) := Fr.alloc _ _ _
  have ke := fun (w1 : World) (f : Fr (fun _ => False) w w1) => ndE_any e ao1 cap1 w1 (he.keep f) (by omega)
  have kb := fun (w1 : World) (f : Fr (fun _ => False) w w1) => hb ao2 cap2 w1 (hB.keep f) (by omega)
  have kl := fun (w1 : World) (f : Fr (fun _ => False) w w1) => hl ao3 cap3 w1 (hL.keep f) (by omega)
  obtain ⟨c0, c1, c2, c3, c4⟩ := st_box hbx
  generalize e.size = x at *
  generalize b.size = y at *
  generalize l.size = z at *
  go_enter Tryz.func30, Tryz.ntmps30
  go_wp2_with fail
  refine wp_region_grow (by kernel_rfl) (by kernel_rfl) ?_
  (repeat (first | (refine grow_op (v := ?_) ?_ ?_ ?_; rotate_left; (focus (first | exact wanted_none rfl | (go_simp; done))); (focus (intro w' hw'; have c0 := hw'.cellN c0; have c1 := hw'.cellN c1; have c2 := hw'.cellN c2; have c3 := hw'.cellN c3; have c4 := hw'.cellN c4; (go_simp; first | with_reducible rfl | (go_at_call 27; refine calls_grow hw' ?_; first | (have q := ke _ (f0.same hw'); with_reducible exact q)) | (go_at_call 29; refine calls_grow hw' ?_; first | (have q := kb _ (f0.same hw'); with_reducible exact q) | (have q := kl _ (f0.same hw'); with_reducible exact q))))); (intro a' ha; simp only [Act.put, List.setIfInBounds_toArray, List.set_cons_zero, List.set_cons_succ] at ha; subst ha)) | (refine grow_no ?_ ?_; (focus (go_simp; done)); (intro a' ha; simp only [Act.put, List.setIfInBounds_toArray, List.set_cons_zero, List.set_cons_succ] at ha; subst ha)))); refine grow_nil ?_; intro w1 k1
  go_wp2_with fail
  go_ret
  exact ⟨ret_nat (by rw [wr_ok (z := 1 + (x : Int)) (by omega) (by omega), wr_ok (z := 1 + (x : Int) + y) (by omega) (by omega), wr_ok (z := 1 + (x : Int) + y + z) (by omega) (by omega)]; omega), f0.same k1⟩
set_option maxRecDepth 20000 in
set_option maxHeartbeats 4000000 in
theorem ndS_step (k : Sts) (ih : ∀ k' : Sts, k'.size < k.size → NdS k') : NdS k := by
  intro ao cap w hk hb
  have hrest := hk.rest
  obtain ⟨hcap, hmax, _⟩ := hk
  have hlen : k.len ≤ 9223372036854775807 := by unfold maxLen at hmax; omega
  obtain ⟨R, hR⟩ : ∃ R, k.size = R := ⟨_, rfl⟩
  rw [hR]
  have hRH : Hidden (k.size = R) := hR
  go_enter Tryz.func29, Tryz.ntmps29
  go_wp2_with fail
  go_loopg [5, 10] k.len (fun g sv iv wr => ∃ (i : Nat) (r : Sts) (ac : Nat), sv = ci (ac : Int) ∧ iv = ci (i : Int) ∧ i + r.len = k.len ∧ r.size ≤ k.size ∧ StR w ao i r ∧ ac + r.size = R ∧ g = r.len ∧ Fr (fun _ => False) w wr)
  case atStart => exact ⟨0, k, 0, rfl, rfl, by omega, Nat.le_refl _, hrest, by rw [Nat.zero_add]; exact hR, rfl, Fr.refl _ _⟩
  case round =>
    clear hR
    obtain ⟨i, r, ac, rfl, rfl, hlen2, hsize, hrow, hdk, hgk, hfr⟩ := hrel
    have hgkH : Hidden (gk = r.len) := hgk
    have hdkH : Hidden (ac + r.size = R) := hdk
    have hlenH : Hidden (i + r.len = k.len) := hlen2
    have hacb : ac ≤ 1099511627776 := by have : k.size = R := hRH; omega
    clear hgk hdk hlen2 hrest
    cases r with
    | nil =>
      have hi : i = k.len := hlenH
      subst hi
      obtain rfl : ac = R := hdkH
      go_wp2_with fail
      go_ret
      exact ⟨rfl, hfr⟩
    | cons h' e' b' l' r' =>
      have hil : i < k.len := by have : i + (r'.len + 1) = k.len := hlenH; omega
      obtain ⟨b, off, ao1, cap1, ao2, cap2, ao3, cap3, rfl, hL1, hL2, hL3, hrow2, d0, d1, d2, d3, d4⟩ := hrow.next
      have d0 := hfr.cellN d0
      have d1 := hfr.cellN d1
      have d2 := hfr.cellN d2
      have d3 := hfr.cellN d3
      have d4 := hfr.cellN d4
      simp only [Sts.size] at hsize
      have f2 := hfr.same (Fr.alloc (fun _ => False) wr (.cells #[ci h'.kind, ct h'.name, .slice ao1 e'.len cap1, .slice ao2 b'.len cap2, .slice ao3 l'.len cap3] 64))
      have ke := ndT_step h' e' b' l' (ih b' (by omega)) (ih l' (by omega)) ao1 ao2 ao3 cap1 cap2 cap3 _ (hL1.keep f2) (hL2.keep f2) (hL3.keep f2) (by omega)
      have hd2 : Hidden ((ac + (e'.size + b'.size + l'.size + 1)) + r'.size = R) := by have h0 : ac + (e'.size + b'.size + l'.size + r'.size + 1) = R := hdkH; show _ = R; omega
      have hb2 : e'.size + b'.size + l'.size + 1 ≤ 1099511627776 := by omega
      clear hdkH
      obtain ⟨s, hs⟩ : ∃ s, e'.size + b'.size + l'.size + 1 = s := ⟨_, rfl⟩
      rw [hs] at ke hd2 hb2
      clear hs
      go_wp2_with fail
      go_at_call 30
      refine ke.mono ?_
      rintro e W3 ⟨rfl, f3⟩
      go_wp2_with fail
      go_roundg r'.len
      case measure =>
        have : gk = r'.len + 1 := hgkH
        omega
      case rel =>
        refine ⟨i + 1, r', ac + s, by go_num, by go_num, ?_, by omega, hrow2, hd2, rfl, f2.same f3⟩
        have : i + (r'.len + 1) = k.len := hlenH
        omega
theorem ndS_any (k : Sts) : NdS k := by
  have : ∀ (n : Nat) (k : Sts), k.size < n → NdS k := by
    intro n
    induction n with
    | zero => intro k hk; omega
    | succ n ih => intro k hk; exact ndS_step k (fun k' hk' => ih k' (by omega))
  exact this (k.size + 1) k (by omega)
set_option maxRecDepth 20000 in
set_option maxHeartbeats 4000000 in
theorem ndD_any (d : De) (pv ev bv : Value) (w : World) (hd : DeI w d pv ev bv) (hb : ndD d ≤ 1099511627776) :
    Calls Tryz.prog 15 #[deV d pv ev bv] w fun ee w' => ee = .returned (ci (ndD d : Int)) ∧ Fr (fun _ => False) w w' := by
  obtain ⟨a1, p1, a2, p2, a3, p3, rfl, rfl, rfl, hp, he, hbo⟩ := hd
  unfold ndD at *
  have hbx : Hidden ((w.alloc (.cells #[ci d.kind, .bool d.ex, ct d.name, ci d.type, .slice a1 d.params.length p1, .slice a2 d.e.len p2, .slice a3 d.body.len p3] 30)).heap[w.heap.size]? = some (.cells #[ci d.kind, .bool d.ex, ct d.name, ci d.type, .slice a1 d.params.length p1, .slice a2 d.e.len p2, .slice a3 d.body.len p3] 30 (0, 0))) := alloc_new _ _
  have f0 : Fr (fun _ => False) w (w.alloc (.cells #[ci d.kind, .bool d.ex, ct d.name, ci d.type, .slice a1 d.params.length p1, .slice a2 d.e.len p2, .slice a3 d.body.len p3] 30)) := Fr.alloc _ _ _
  have ke := fun (w1 : World) (f : Fr (fun _ => False) w w1) => ndE_any d.e a2 p2 w1 (he.keep f) (by omega)
  have kb := fun (w1 : World) (f : Fr (fun _ => False) w w1) => ndS_any d.body a3 p3 w1 (hbo.keep f) (by omega)
  obtain ⟨c0, c1, c2, c3, c4, c5, c6⟩ := ex_box hbx
  generalize d.e.size = x at *
  generalize d.body.size = y at *
  generalize d.params.length = z at *
  go_enter Tryz.func15, Tryz.ntmps15
  go_wp2_with fail
  refine wp_region_grow (by kernel_rfl) (by kernel_rfl) ?_
  (repeat (first | (refine grow_op (v := ?_) ?_ ?_ ?_; rotate_left; (focus (first | exact wanted_none rfl | (go_simp; done))); (focus (intro w' hw'; have c0 := hw'.cellN c0; have c1 := hw'.cellN c1; have c2 := hw'.cellN c2; have c3 := hw'.cellN c3; have c4 := hw'.cellN c4; have c5 := hw'.cellN c5; have c6 := hw'.cellN c6; (go_simp; first | with_reducible rfl | (go_at_call 27; refine calls_grow hw' ?_; first | (have q := ke _ (f0.same hw'); with_reducible exact q)) | (go_at_call 29; refine calls_grow hw' ?_; first | (have q := kb _ (f0.same hw'); with_reducible exact q))))); (intro a' ha; simp only [Act.put, List.setIfInBounds_toArray, List.set_cons_zero, List.set_cons_succ] at ha; subst ha)) | (refine grow_no ?_ ?_; (focus (go_simp; done)); (intro a' ha; simp only [Act.put, List.setIfInBounds_toArray, List.set_cons_zero, List.set_cons_succ] at ha; subst ha)))); refine grow_nil ?_; intro w1 k1
  go_wp2_with fail
  go_ret
  exact ⟨ret_nat (by rw [wr_ok (z := 1 + (z : Int)) (by omega) (by omega), wr_ok (z := 1 + (z : Int) + x) (by omega) (by omega), wr_ok (z := 1 + (z : Int) + x + y) (by omega) (by omega)]; omega), f0.same k1⟩
theorem ndM_cons (d : De) (l : List De) : ndM (d :: l) = ndD d + ndM l := by simp [ndM]
theorem ndM_nil : ndM [] = 0 := rfl
set_option maxRecDepth 20000 in
set_option maxHeartbeats 4000000 in
theorem ndDs_any (l : List De) (ao : Option Addr) (cap : Nat) (w : World) (hk : DeL w ao cap l) (hb : ndM l ≤ 1099511627776) :
    Calls Tryz.prog 14 #[.slice ao l.length cap, .func (.func 15) #[] #[]] w fun e w' => e = .returned (ci (ndM l : Int)) ∧ Fr (fun _ => False) w w' := by
  have hlen : l.length ≤ 9223372036854775807 := by have := hk.1; have := hk.2.1; unfold maxLen at this; omega
  have hcap := hk.1
  obtain ⟨R, hR⟩ : ∃ R, ndM l = R := ⟨_, rfl⟩
  rw [hR] at hb ⊢
  go_enter Tryz.func14, Tryz.ntmps14
  go_wp2_with fail
  go_loopg [5, 10] l.length (fun g sv iv wr => ∃ (i ac : Nat), sv = ci (ac : Int) ∧ iv = ci (i : Int) ∧ i ≤ l.length ∧ ac + ndM (l.drop i) = R ∧ g = l.length - i ∧ Fr (fun _ => False) w wr)
  case atStart => exact ⟨0, 0, rfl, rfl, by omega, by rw [Nat.zero_add]; exact hR, rfl, Fr.refl _ _⟩
  case round =>
    clear hR
    obtain ⟨i, ac, rfl, rfl, hi, hdk, hgk, hfr⟩ := hrel
    have hgkH : Hidden (gk = l.length - i) := hgk
    have hdkH : Hidden (ac + ndM (l.drop i) = R) := hdk
    have hacb : ac ≤ 1099511627776 := by omega
    clear hgk hdk
    by_cases hil : i < l.length
    · obtain ⟨x, hx⟩ : ∃ x, l[i]? = some x := ⟨l[i], List.getElem?_eq_getElem hil⟩
      rcases hk.2.2 with h0 | ⟨b, off, rfl, hc⟩
      · rw [h0] at hil; simp at hil
      obtain ⟨pv, ev, bv, hI, hcc⟩ := hc i x hx
      have d0 := hfr.cellN (hcc 0 _ rfl)
      have d1 := hfr.cellN (hcc 1 _ rfl)
      have d2 := hfr.cellN (hcc 2 _ rfl)
      have d3 := hfr.cellN (hcc 3 _ rfl)
      have d4 := hfr.cellN (hcc 4 _ rfl)
      have d5 := hfr.cellN (hcc 5 _ rfl)
      have d6 := hfr.cellN (hcc 6 _ rfl)
      simp only [Nat.add_zero] at d0
      have hd1 : ac + (ndD x + ndM (l.drop (i + 1))) = R := by rw [← ndM_cons, ← drop_at hx]; exact hdkH
      have hI0 := hI
      obtain ⟨a1, p1, a2, p2, a3, p3, rfl, rfl, rfl, _⟩ := hI
      have f2 := hfr.same (Fr.alloc (fun _ => False) wr (.cells #[ci x.kind, .bool x.ex, ct x.name, ci x.type, .slice a1 x.params.length p1, .slice a2 x.e.len p2, .slice a3 x.body.len p3] 30))
      have kd := ndD_any x _ _ _ _ (hI0.keep f2) (by omega)
      have hd2 : Hidden ((ac + ndD x) + ndM (l.drop (i + 1)) = R) := by show _ = R; omega
      have hb2 : ndD x ≤ 1099511627776 := by omega
      generalize ndD x = s at kd hd2 hb2
      clear hdkH hd1 hx hc hcc hI0
      go_wp2_with fail
      go_at_call 15
      refine kd.mono ?_
      rintro e W3 ⟨rfl, f3⟩
      go_wp2_with fail
      go_roundg (l.length - (i + 1))
      case measure =>
        have : gk = l.length - i := hgkH
        omega
      case rel => exact ⟨i + 1, ac + s, by go_num, by go_num, by omega, hd2, rfl, f2.same f3⟩
    · obtain rfl : i = l.length := by omega
      obtain rfl : ac = R := by rw [← (show _ = R from hdkH), List.drop_length, ndM_nil]; rfl
      clear hdkH
      go_wp2_with fail
      go_ret
      exact ⟨rfl, hfr⟩
set_option maxRecDepth 20000 in
set_option maxHeartbeats 4000000 in
theorem nodes_any (m : Mo) (v : Value) (w : World) (hv : MoI w m v) (hb : ndM m.decls ≤ 1099511627776) :
    Calls Tryz.prog 6 #[v] w fun e w' => e = .returned (ci (ndM m.decls : Int)) ∧ Fr (fun _ => False) w w' := by
  obtain ⟨ao, cap, aod, capd, rfl, s1, d1⟩ := hv
  obtain ⟨name, imports, decls⟩ := m
  simp only at s1 d1 hb ⊢
  have f0 : Fr (fun _ => False) w (w.alloc (.cells #[ct name, .slice ao imports.length cap, .slice aod decls.length capd] 25)) := Fr.alloc _ _ _
  have kk := ndDs_any decls aod capd _ (d1.keep f0) hb
  go_enter Tryz.func6, Tryz.ntmps6
  go_wp2_with fail
  go_at_call 14
  refine kk.mono ?_
  rintro e w1 ⟨rfl, f1⟩
  go_wp2_with fail
  go_ret
  exact ⟨rfl, f0.same f1⟩
set_option maxRecDepth 20000 in
set_option maxHeartbeats 4000000 in
theorem depthM_any (m : Mo) (v : Value) (w : World) (hv : MoI w m v) :
    Calls Tryz.prog 7 #[v] w fun e w' => e = .returned (ci (dM m.decls)) ∧ Fr (fun _ => False) w w' := by
  obtain ⟨ao, cap, aod, capd, rfl, s1, hk⟩ := hv
  obtain ⟨name, imports, decls⟩ := m
  simp only at s1 hk ⊢
  have hlen : decls.length ≤ 9223372036854775807 := by have := hk.1; have := hk.2.1; unfold maxLen at this; omega
  have hcap := hk.1
  have f0 : Fr (fun _ => False) w (w.alloc (.cells #[ct name, .slice ao imports.length cap, .slice aod decls.length capd] 25)) := Fr.alloc _ _ _
  obtain ⟨R, hR⟩ : ∃ R, decls.foldl (fun acc d => max acc (dD d)) 0 = R := ⟨_, rfl⟩
  rw [show dM decls = R from hR]
  go_enter Tryz.func7, Tryz.ntmps7
  go_wp2_with fail
  go_loopg [3, 9] decls.length (fun g sv iv wr => ∃ (i : Nat) (ac : Int), sv = ci ac ∧ iv = ci (i : Int) ∧ i ≤ decls.length ∧ (decls.drop i).foldl (fun acc d => max acc (dD d)) ac = R ∧ g = decls.length - i ∧ Fr (fun _ => False) w wr)
  case atStart => exact ⟨0, 0, rfl, rfl, by omega, hR, rfl, f0⟩
  case round =>
    clear hR
    obtain ⟨i, ac, rfl, rfl, hi, hdk, hgk, hfr⟩ := hrel
    have hgkH : Hidden (gk = decls.length - i) := hgk
    have hdkH : Hidden ((decls.drop i).foldl (fun acc d => max acc (dD d)) ac = R) := hdk
    clear hgk hdk
    by_cases hil : i < decls.length
    · obtain ⟨x, hx⟩ : ∃ x, decls[i]? = some x := ⟨decls[i], List.getElem?_eq_getElem hil⟩
      rcases hk.2.2 with h0 | ⟨b, off, rfl, hc⟩
      · rw [h0] at hil; simp at hil
      obtain ⟨pv, ev, bv, hI, hcc⟩ := hc i x hx
      have d0 := hfr.cellN (hcc 0 _ rfl)
      have d1 := hfr.cellN (hcc 1 _ rfl)
      have d2 := hfr.cellN (hcc 2 _ rfl)
      have d3 := hfr.cellN (hcc 3 _ rfl)
      have d4 := hfr.cellN (hcc 4 _ rfl)
      have d5 := hfr.cellN (hcc 5 _ rfl)
      have d6 := hfr.cellN (hcc 6 _ rfl)
      simp only [Nat.add_zero] at d0
      have hd1 : Hidden ((decls.drop (i + 1)).foldl (fun acc d => max acc (dD d)) (max ac (dD x)) = R) := by
        have h0 : (decls.drop i).foldl (fun acc d => max acc (dD d)) ac = R := hdkH
        rw [drop_at hx] at h0
        exact h0
      have hI0 := hI
      obtain ⟨a1, p1, a2, p2, a3, p3, rfl, rfl, rfl, _⟩ := hI
      have f2 := hfr.same (Fr.alloc (fun _ => False) wr (.cells #[ci x.kind, .bool x.ex, ct x.name, ci x.type, .slice a1 x.params.length p1, .slice a2 x.e.len p2, .slice a3 x.body.len p3] 30))
      have kd := decl_any x _ _ _ _ rfl _ (hI0.keep f2)
      generalize dD x = s at kd hd1
      clear hdkH hx hc hcc hI0
      go_wp2_with fail
      go_at_call 16
      refine kd.mono ?_
      rintro e W3 ⟨rfl, f3⟩
      go_wp2_with fail
      all_goals
        go_roundg (decls.length - (i + 1))
        case measure =>
          have : gk = decls.length - i := hgkH
          omega
        case rel =>
          refine ⟨i + 1, _, rfl, by go_num, by omega, ?_, rfl, f2.same f3⟩
          rw [← (show _ = R from hd1)]
          congr 1
          omega
    · obtain rfl : i = decls.length := by omega
      obtain rfl : ac = R := by rw [← (show _ = R from hdkH), List.drop_length]; rfl
      clear hdkH
      go_wp2_with fail
      go_ret
      exact ⟨rfl, hfr⟩
end Go.Proofs.YtddedomocnpdjaaGreatDoor
