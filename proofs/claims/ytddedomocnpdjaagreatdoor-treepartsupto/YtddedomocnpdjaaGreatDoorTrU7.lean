/- The program's Uses, its answer a row of the call's own (for TreeParts). -/
import Derived.Test.YtddedomocnpdjaaGreatDoorTrU3
namespace Go.Proofs.YtddedomocnpdjaaGreatDoor.U
open Go.RowKit Go.Sort
set_option linter.unusedSimpArgs false
set_option linter.unusedVariables false

theorem To.low {w : World} {B B' : Nat} {v : Value} {l : List Str} (h : To w B' v l) (hB : B ≤ B') : To w B v l := by
  obtain ⟨h1, h2⟩ := h
  refine ⟨h1, ?_⟩
  rcases h2 with h0 | ⟨g, cap, cur, e, hb, h⟩
  · exact Or.inl h0
  · exact Or.inr ⟨g, cap, cur, e, Nat.le_trans hB hb, h⟩
/-- A row that is put anew, no longer than it was. -/
theorem To.put {w w' : World} {B g cap n : Nat} {l l' : List Str} {d : Array Str} {cur : Array Value} (hg : w.heap[g]? = some (.cells cur 9 (0, 0))) (hB : B ≤ g) (hcs : cur.size = cap * 1) (hlc : l.length ≤ cap) (hcm : cap ≤ maxLen) (hd : d.size = l.length) (hl' : l'.length ≤ l.length) (hdl : ∀ (i : Nat) (x : Str), l'[i]? = some x → d[i]? = some x)
    (hw : w'.heap[g]? = (putRow encStr (Sort.ahead w n) g 0 d).heap[g]?) : To w' B (.slice (some ⟨g, 0, none⟩) l'.length cap) l' := by
  have hh : w'.heap[g]? = some (.cells (putCells encStr 0 d cur) 9 (0, 0)) := by
    rw [hw]
    simp [putRow, mapBlock, Sort.ahead, Array.getElem?_modify, hg, onCells]
  refine ⟨by simp, Or.inr ⟨g, cap, _, rfl, hB, hh, by omega, hcm, by simp [putCells, hcs], ?_⟩⟩
  apply List.ext_getElem?
  intro i
  rw [List.getElem?_take]
  by_cases hi : i < l'.length
  · rw [if_pos (by omega)]
    have hx : l'[i]? = some l'[i] := List.getElem?_eq_getElem hi
    have hdi := hdl i _ hx
    rw [List.getElem?_map, hx, Array.getElem?_toList]
    have hci : i < cur.size := by omega
    simp only [putCells, Array.getElem?_mapIdx, Array.getElem?_eq_getElem hci, Option.map_some]
    rw [if_pos ⟨Nat.zero_le _, by omega⟩, Nat.sub_zero]
    have hid : i < d.size := by omega
    rw [getElem!_pos d i hid]
    rw [Array.getElem?_eq_getElem hid] at hdi
    injection hdi with hdi
    rw [hdi]
  · rw [if_neg (by omega), List.getElem?_eq_none (by simpa using Nat.le_of_not_lt hi)]
theorem sort_to (v : Value) (l : List Str) (B : Nat) (w : World) (h : To w B v l) (hl : l.length < 4611686018427387904) :
    Calls Tryz.prog 48 #[v] w fun e w' => e = .returned (.tuple #[]) ∧ To w' B v (sortS l) ∧ Fr (fun k => v.ownBlock = some k) w w' := by
  have h0 := h
  obtain ⟨h1, h2⟩ := h
  by_cases hz : l = []
  · subst hz
    obtain ⟨ao, cap, rfl, _, _⟩ := h0.shape
    refine (Tryz.slices_Sort_string_none ao cap w).mono ?_
    rintro e w' ⟨rfl, rfl⟩
    have e0 : sortS [] = [] := by simp [sortS]
    rw [e0]
    exact ⟨rfl, h0, Fr.refl _ _⟩
  · rcases h2 with ⟨_, hn⟩ | ⟨g, cap, cur, rfl, hB, hg, hnc, hcm, hcs, ht⟩
    · exact absurd (List.eq_nil_of_length_eq_zero hn) hz
    have htn := h0.tn
    obtain ⟨ao2, cap2, e2, _, _, _, h4⟩ := htn
    cases e2
    rcases h4 with h4 | ⟨b, off, e3, hB2, hb, hH⟩
    · exact absurd h4 hz
    cases e3
    refine (Tryz.slices_Sort_string g 0 cap l w hH hb hl).mono ?_
    rintro e w' ⟨rfl, n, os, rfl⟩
    refine ⟨rfl, ?_, Fr.row.mono fun k _ e => by rw [e]; rfl⟩
    have := To.put (l := l) (l' := sortS l) (d := (sortS l).toArray) (n := n) hg hB hcs hnc hcm (by simp [length_sortS]) (by rw [length_sortS]; exact Nat.le_refl _) (fun i x hx => by simpa using hx) (heap_grow_old (putRow encStr (Sort.ahead w n) g 0 (sortS l).toArray) os (by simpa using hb))
    rw [length_sortS] at this
    exact this
theorem compact_to (v : Value) (l : List Str) (B : Nat) (w : World) (h : To w B v l) (hl : l.length < 4611686018427387904) :
    Calls Tryz.prog 49 #[v] w fun e w' => ∃ v', e = .returned v' ∧ To w' B v' (Lib.compact l) ∧ Fr (fun k => v.ownBlock = some k) w w' ∧ v'.ownBlock = v.ownBlock := by
  have h0 := h
  obtain ⟨h1, h2⟩ := h
  by_cases hz : l = []
  · subst hz
    obtain ⟨ao, cap, rfl, _, _⟩ := h0.shape
    refine (Tryz.slices_Compact_string_empty ao cap w).mono ?_
    rintro e w' ⟨rfl, rfl⟩
    exact ⟨_, rfl, h0, Fr.refl _ _, rfl⟩
  · rcases h2 with ⟨_, hn⟩ | ⟨g, cap, cur, rfl, hB, hg, hnc, hcm, hcs, ht⟩
    · exact absurd (List.eq_nil_of_length_eq_zero hn) hz
    have htn := h0.tn
    obtain ⟨ao2, cap2, e2, _, _, _, h4⟩ := htn
    cases e2
    rcases h4 with h4 | ⟨b, off, e3, hB2, hb, hH⟩
    · exact absurd h4 hz
    cases e3
    refine (Tryz.slices_Compact_string g 0 cap l w hH (by omega) hnc).mono ?_
    rintro e w' ⟨rfl, n, rfl⟩
    have hcl : (Lib.compact l).length ≤ l.length := by
      show (Lib.compactUpTo _ _).length ≤ _
      unfold Lib.compactUpTo
      rw [List.length_map]
      exact Nat.le_trans (List.length_filter_le _ _) (by simp)
    refine ⟨_, rfl, To.put (l := l) (l' := Lib.compact l) (n := n) hg hB hcs hnc hcm (by simp; omega) hcl (fun i x hx => ?_) rfl, Fr.row0.mono fun k _ e => by rw [e]; rfl, rfl⟩
    have hi := (List.getElem?_eq_some_iff.1 hx).1
    rw [List.getElem?_toArray, List.getElem?_append_left hi]
    exact hx
theorem setof_to (v : Value) (l : List Str) (w : World) (h : Tl w v l) (hb : l.length * 16 ≤ 140737488355328) :
    Calls Tryz.prog 33 #[v] w fun e w' => ∃ v', e = .returned v' ∧ To w' w.heap.size v' (setS l) ∧ Fr (fun _ => False) w w' := by
  have hbH : Hidden ((0 + l.length) * 16 ≤ 140737488355328) := by show _ ≤ _; omega
  have hlH : Hidden (l.length < 4611686018427387904) := by show _ < _; omega
  have hH : Hidden (Tl w v l) := h
  obtain ⟨ao, cap, rfl, h1, h2, h3, h4⟩ := h
  obtain ⟨n, hn⟩ : ∃ n, l.length = n := ⟨_, rfl⟩
  rw [hn] at hH h1 ⊢
  clear h3 h4 hb hn
  go_enter Tryz.func33, Tryz.ntmps33
  go_wp2_with (first
    | (at_builtin; refine wpList_app rfl _ _ rfl w.heap.size _ _ [] l rfl (To.nil _ _) rfl hH (Nat.le_refl _) hbH ?_; intro v1 w1 ht1 hf1 _; have ks := sort_to v1 l _ w1 ht1 hlH)
    | (go_at_call 48; refine ks.mono ?_; rintro e w2 ⟨rfl, ht2, hf2⟩; have kc := compact_to v1 (sortS l) _ w2 ht2 (by rw [length_sortS]; exact hlH))
    | (go_at_call 49; refine kc.mono ?_; rintro e w3 ⟨v3, rfl, ht3, hf3, _⟩))
  go_ret
  refine ⟨v3, rfl, ht3, ?_⟩
  have f1 : Fr (fun _ => False) w w1 := hf1.mono fun k _ e => by cases e
  exact (f1.over hf2 fun k hk => (ht1.own k hk).1).over hf3 fun k hk => (ht1.own k hk).1
theorem set_to (v : Value) (l : List Str) (w : World) (h : Tl w v l) (hb : l.length * 16 ≤ 140737488355328) :
    Calls Tryz.prog 19 #[v] w fun e w' => ∃ v', e = .returned v' ∧ To w' w.heap.size v' (setS l) ∧ Fr (fun _ => False) w w' := by
  have k := setof_to v l w h hb
  obtain ⟨ao, cap, rfl, h1, h2, h3, h4⟩ := h
  obtain ⟨n, hn⟩ : ∃ n, l.length = n := ⟨_, rfl⟩
  rw [hn] at k h1 ⊢
  clear h3 h4 hb hn
  go_enter Tryz.func19, Tryz.ntmps19
  go_wp2_with (go_at_call 33; refine k.mono ?_; rintro e w1 ⟨v1, rfl, ht1, hf1⟩)
  go_ret
  exact ⟨v1, rfl, ht1, hf1⟩
end Go.Proofs.YtddedomocnpdjaaGreatDoor.U
namespace Go.Proofs.YtddedomocnpdjaaGreatDoor
open Go.RowKit Te
set_option linter.unusedSimpArgs false
set_option linter.unusedVariables false

set_option maxRecDepth 20000 in
set_option maxHeartbeats 4000000 in
theorem uses_to (m : Mo) (v : Value) (w : World) (hv : MoI w m v) (hb : (usM m.decls).length * 16 ≤ 140737488355328) :
    Calls Tryz.prog 8 #[v] w fun e w' => ∃ v', e = .returned v' ∧ U.To w' w.heap.size v' (U.setS (usM m.decls)) ∧ Fr (fun _ => False) w w' := by
  obtain ⟨ao, cap, aod, capd, rfl, s1, hk⟩ := hv
  obtain ⟨name, imports, decls⟩ := m
  simp only at s1 hk hb ⊢
  have hlen : decls.length ≤ 9223372036854775807 := by have := hk.1; have := hk.2.1; unfold maxLen at this; omega
  have hcap := hk.1
  have f0 : Fr (fun _ => False) w (w.alloc (.cells #[ct name, .slice ao imports.length cap, .slice aod decls.length capd] 25)) := Fr.alloc _ _ _
  obtain ⟨R, hR⟩ : ∃ R, usM decls = R := ⟨_, rfl⟩
  rw [hR] at hb ⊢
  go_enter Tryz.func8, Tryz.ntmps8
  go_wp2_with fail
  go_loopg [3, 9] decls.length (fun g mv iv wr => ∃ (i : Nat) (l1 : List Bs), iv = ci (i : Int) ∧ i ≤ decls.length ∧ U.To wr w.heap.size mv l1 ∧ l1 ++ usM (decls.drop i) = R ∧ g = decls.length - i ∧ Fr (fun _ => False) w wr)
  case atStart => exact ⟨0, [], rfl, by omega, U.To.nil _ _, hR, rfl, f0⟩
  case round =>
    clear hR
    obtain ⟨i, l1, rfl, hi, hto, hdk, hgk, hfr0⟩ := hrel
    have hgkH : Hidden (gk = decls.length - i) := hgk
    have hdkH : Hidden (l1 ++ usM (decls.drop i) = R) := hdk
    clear hgk hdk
    by_cases hil : i < decls.length
    · obtain ⟨x, hx⟩ : ∃ x, decls[i]? = some x := ⟨decls[i], List.getElem?_eq_getElem hil⟩
      rcases hk.2.2 with h0 | ⟨b, off, rfl, hc⟩
      · rw [h0] at hil; simp at hil
      obtain ⟨pv, ev, bv, hI, hcc⟩ := hc i x hx
      have d0 := hfr0.cellN (hcc 0 _ rfl)
      have d1 := hfr0.cellN (hcc 1 _ rfl)
      have d2 := hfr0.cellN (hcc 2 _ rfl)
      have d3 := hfr0.cellN (hcc 3 _ rfl)
      have d4 := hfr0.cellN (hcc 4 _ rfl)
      have d5 := hfr0.cellN (hcc 5 _ rfl)
      have d6 := hfr0.cellN (hcc 6 _ rfl)
      simp only [Nat.add_zero] at d0
      have hd2 : Hidden ((l1 ++ usE x.e) ++ usS x.body ++ usM (decls.drop (i + 1)) = R) := by
        have h0 : l1 ++ usM (decls.drop i) = R := hdkH
        rw [drop_at hx, usM_cons] at h0
        rw [← h0]
        simp [Hidden]
      have hl2 : l1.length + (usE x.e).length + (usS x.body).length ≤ R.length := by
        have h0 := congrArg List.length (show _ = R from hd2)
        simp only [List.length_append] at h0
        omega
      obtain ⟨a1, p1, a2, p2, a3, p3, rfl, rfl, rfl, _, hE, hB⟩ := hI
      have hbx : Hidden ((wr.alloc (.cells #[ci x.kind, .bool x.ex, ct x.name, ci x.type, .slice a1 x.params.length p1, .slice a2 x.e.len p2, .slice a3 x.body.len p3] 30)).heap[wr.heap.size]? = some (.cells #[ci x.kind, .bool x.ex, ct x.name, ci x.type, .slice a1 x.params.length p1, .slice a2 x.e.len p2, .slice a3 x.body.len p3] 30 (0, 0))) := alloc_new _ _
      have f1 : Fr (fun _ => False) wr (wr.alloc (.cells #[ci x.kind, .bool x.ex, ct x.name, ci x.type, .slice a1 x.params.length p1, .slice a2 x.e.len p2, .slice a3 x.body.len p3] 30)) := Fr.alloc _ _ _
      have hown := hto.own
      have hto1 := hto.later (fr_u f1)
      have hfr01 := hfr0.same f1
      have o1 : Off wr.heap.size _ := fun b hb2 => by have := (hown b hb2).2; omega
      have s1 : wr.heap.size < (wr.alloc (.cells #[ci x.kind, .bool x.ex, ct x.name, ci x.type, .slice a1 x.params.length p1, .slice a2 x.e.len p2, .slice a3 x.body.len p3] 30)).heap.size := by simp
      have kc := addE_any x.e a2 p2 w _ _ l1 hE hfr01 hto1 (by omega)
      clear hdkH hx hc hcc
      obtain ⟨c0, c1, c2, c3, c4, c5, c6⟩ := ex_box hbx
      go_wp2_with fail
      go_at_call 17
      refine kc.mono ?_
      rintro e w3 ⟨v3, rfl, to3, f3, n3⟩
      have hbx3 := off_heap o1 f3 hbx
      have fA := hfr01.over f3 (fun b hb2 => (hown b hb2).1)
      have kc := addS_any x.body a3 p3 w w3 v3 (l1 ++ usE x.e) hB fA to3 (by simp only [List.length_append]; omega)
      clear c0 c1 c2 c3 c4 c5 c6
      obtain ⟨c0, c1, c2, c3, c4, c5, c6⟩ := ex_box hbx3
      go_wp2_with fail
      go_at_call 18
      refine kc.mono ?_
      rintro e w4 ⟨v4, rfl, to4, f4, n4⟩
      go_wp2_with fail
      go_roundg (decls.length - (i + 1))
      case measure =>
        have : gk = decls.length - i := hgkH
        omega
      case rel => exact ⟨i + 1, _, by go_num, by omega, to4, hd2, rfl, fA.over f4 (fun b hb2 => (to3.own b hb2).1)⟩
    · obtain rfl : i = decls.length := by omega
      obtain rfl : l1 = R := by rw [← (show _ = R from hdkH), List.drop_length, usM_nil, List.append_nil]
      clear hdkH
      have ks := U.set_to _ l1 _ hto.tn.tl hb
      go_wp2_with fail
      go_at_call 19
      refine ks.mono ?_
      rintro e w3 ⟨v3, rfl, to3, f3⟩
      go_wp2_with fail
      go_ret
      exact ⟨_, rfl, to3.low hfr0.size, hfr0.same (u_fr f3)⟩
end Go.Proofs.YtddedomocnpdjaaGreatDoor
