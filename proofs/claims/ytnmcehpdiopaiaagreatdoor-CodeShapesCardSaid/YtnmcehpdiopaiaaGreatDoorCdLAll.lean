/- Texts of ours, in one. -/
import Derived.Test.YtnmcehpdiopaiaaGreatDoorCdMkAll
import Derived.Test.YtnmcehpdiopaiaaGreatDoorCdZ
import Derived.Test.YtnmcehpdiopaiaaGreatDoorCdNAll
import Derived.Test.YtnmcehpdiopaiaaGreatDoorCdTxAll
import Derived.Test.YtnmcehpdiopaiaaGreatDoorCdFgAll
namespace Go.Proofs.YtnmcehpdiopaiaaGreatDoor.Cd
open Go.RowKit Ty
set_option linter.unusedSimpArgs false
set_option linter.unusedVariables false

theorem inl_nil (w : World) : InL w none 0 [] := ⟨by simp, by simp [maxLen], fun _ => rfl, Or.inl rfl⟩
set_option maxRecDepth 20000 in
set_option maxHeartbeats 2000000 in
theorem outline_0 (r : Int) (hr : r = 0 ∨ valued r = true) (a3 : Option Addr) (n c3 : Nat) (hn0 : 0 < n) (hn : n ≤ 4096) (w : World) :
    Calls Tryz.prog 21 #[.agg #[.slice none 0 0, ci r, .slice none 0 0, .slice a3 n c3], .agg #[.slice none 0 0, .slice none 0 0]] w fun e w' => e = .returned (ci 0) ∧ Fr (fun _ => False) w w' := by
  have ka : ∀ W, Calls Tryz.prog 34 #[.slice none 0 0] W fun e w' => e = .returned (.bool true) ∧ Fr (fun _ => False) W w' := fun W => allof_any none 0 0 [] W rfl (inl_nil W)
  have ksg : ∀ W, Calls Tryz.prog 35 #[.agg #[.slice none 0 0, ci r]] W fun e w' => e = .returned (.bool true) ∧ Fr (fun _ => False) W w' := fun W => by
    have := rsig_any ⟨[], r⟩ (.agg #[.slice none 0 0, ci r]) W ⟨none, 0, rfl, inl_nil W⟩
    have e : sgS ⟨[], r⟩ = true := by
      unfold sgS
      rcases hr with rfl | h
      · rfl
      · simp [h]
    rw [e] at this
    exact this
  have ke : ∀ W, Calls Tryz.prog 33 #[.slice none 0 0, .slice none 0 0] W fun e w' => e = .returned (.bool true) ∧ Fr (fun _ => False) W w' := fun W => (Tryz.slices_Equal_int_empty none none 0 0 0 W (by decide)).mono (fun e w' h => ⟨h.1, by rw [h.2]; exact Fr.refl _ _⟩)
  have h1 : decide (4096 < (n : Int)) = false := by simp; omega
  have h2 : ((n : Int) == 0) = false := by rw [beq_eq_false_iff_ne]; omega
  clear hn hr hn0
  go_enter Tryz.func21, Tryz.ntmps21
  go_upto_region 4 with fail
  obtain ⟨V, hV⟩ : ∃ V, V = ((w.alloc (.cells #[.slice none 0 0, ci r, .slice none 0 0, .slice a3 n c3] 37 (0, 0))).alloc (.cells #[.slice none 0 0, .slice none 0 0] 41 (0, 0))).alloc (.cells #[.slice none 0 0, ci r] 34 (0, 0)) := ⟨_, rfl⟩
  have fV : Fr (fun _ => False) w V := by rw [hV]; exact ((Fr.alloc _ _ _).same (Fr.alloc _ _ _)).same (Fr.alloc _ _ _)
  obtain ⟨c0, c1, c2, c3'⟩ := box4 (show V.heap[w.heap.size]? = some (.cells #[.slice none 0 0, ci r, .slice none 0 0, .slice a3 n c3] 37 (0, 0)) by rw [hV]; exact (Fr.alloc (fun _ => False) _ _).heap (heap_alloc2_old _ _ _) (fun f => f))
  have hb2 : V.heap[w.heap.size + 1]? = some (.cells #[.slice none 0 0, .slice none 0 0] 41 (0, 0)) := by rw [hV]; exact (Fr.alloc (fun _ => False) _ _).heap (heap_alloc2_new _ _ _) (fun f => f)
  have d0 : V.cell? ⟨w.heap.size + 1, 0, none⟩ = some (.slice none 0 0) := cell_of_row _ _ 0 _ _ _ hb2
  have d1 : V.cell? ⟨w.heap.size + 1, 1, none⟩ = some (.slice none 0 0) := cell_of_row _ _ 1 _ _ _ hb2
  have hb3 : V.heap[w.heap.size + 1 + 1]? = some (.cells #[.slice none 0 0, ci r] 34 (0, 0)) := by rw [hV]; exact alloc_at _ _ _ (by simp)
  have e0 : V.cell? ⟨w.heap.size + 1 + 1, 0, none⟩ = some (.slice none 0 0) := cell_of_row _ _ 0 _ _ _ hb3
  have e1 : V.cell? ⟨w.heap.size + 1 + 1, 1, none⟩ = some (ci r) := cell_of_row _ _ 1 _ _ _ hb3
  have fVH : Hidden (Fr (fun _ => False) w V) := fV
  rw [← hV]
  clear hV hb2 hb3 fV
  refine wp_region_grow (by kernel_rfl) (by kernel_rfl) ?_
  (repeat (first | (refine grow_op (v := ?_) ?_ ?_ ?_; rotate_left; (focus (first | exact wanted_none rfl | (go_simp; done))); (focus (intro w' hw'; have c2 := hw'.cellN c2; have c3' := hw'.cellN c3'; have e0 := hw'.cellN e0; (go_simp; first | with_reducible rfl | (go_at_call 33; refine calls_grow hw' ?_; first | (have q := ke w'; with_reducible exact q))))); (intro a' ha; simp only [Act.put, List.setIfInBounds_toArray, List.set_cons_zero, List.set_cons_succ] at ha; subst ha)) | (refine grow_no ?_ ?_; (focus (first | (go_simp; done) | rfl)); (intro a' ha; simp only [Act.put, List.setIfInBounds_toArray, List.set_cons_zero, List.set_cons_succ] at ha; subst ha)))); refine grow_nil ?_; intro w3 q2
  replace c2 := q2.cellN c2
  replace d0 := q2.cellN d0
  replace d1 := q2.cellN d1
  replace e0 := q2.cellN e0
  replace e1 := q2.cellN e1
  go_wp2_with (first
    | (go_at_call 34
       first
         | (have qq := f5; refine (ka _).mono ?_; rintro e w6 ⟨rfl, f6⟩
            replace d0 := f6.cellN d0)
         | (refine (ka _).mono ?_; rintro e w4 ⟨rfl, f4⟩
            replace d0 := f4.cellN d0
            replace d1 := f4.cellN d1
            replace e0 := f4.cellN e0
            replace e1 := f4.cellN e1))
    | (go_at_call 35; refine (ksg _).mono ?_; rintro e w5 ⟨rfl, f5⟩
       replace d0 := f5.cellN d0
       replace d1 := f5.cellN d1))
  go_loopg [72] 1 (fun k iv wr => iv = .int .i64 0 ∧ wr = w6)
  case atStart => exact ⟨rfl, rfl⟩
  case round =>
    obtain ⟨rfl, rfl⟩ := hrel
    go_wp2_with fail
    go_ret
    exact ⟨rfl, (((show Fr (fun _ => False) w V from fVH).same q2).same f4).same (f5.same f6)⟩
set_option maxRecDepth 20000 in
set_option maxHeartbeats 2000000 in
theorem verified_0 (f : Fu) (hps : f.sg.ps = []) (hloc : f.loc = []) (hr : f.sg.res = 0 ∨ valued f.sg.res = true) (b3 o3 n c3 : Nat) (hlen : f.cd.length = n) (hn0 : 0 < n) (hn : n ≤ 4096) (w : World) (hil : IL w (some ⟨b3, o3, none⟩) c3 f.cd) (hok : ∀ i ∈ f.cd, U64 i.b ∧ rightS i = true ∧ (i.op = 1 ∨ i.op = 11)) :
    Calls Tryz.prog 13 #[.agg #[.slice none 0 0, ci f.sg.res, .slice none 0 0, .slice (some ⟨b3, o3, none⟩) n c3], .agg #[.slice none 0 0, .slice none 0 0]] w fun e w' => ∃ pv R, goS f ⟨[], []⟩ (n + 1) (startS n) = some R ∧ e = .returned (.tuple #[pv, ci (placeS R), ci (errS R)]) ∧ Fr (fun _ => False) w w' := by
  have hc3 : n ≤ c3 := by rw [← hlen]; exact hil.1
  have hc3m : c3 ≤ 9223372036854775807 := by have := hil.2.1; simpa [maxLen] using this
  obtain ⟨R, hR⟩ := goS_all f ⟨[], []⟩ (n + 1) (startS n) (by have := notgone_le (startS n); simp [startS] at this ⊢; omega)
  have hcells := hil.2.2.2.resolve_left (by intro e; rw [e] at hlen; simp at hlen; omega)
  obtain ⟨bb, oo, hbb, hcells⟩ := hcells
  simp only [Option.some.injEq, Addr.mk.injEq, and_true] at hbb
  obtain ⟨rfl, rfl⟩ := hbb
  have hF : OkF f ⟨[], []⟩ := ⟨by rw [hloc]; intro x hx; simp at hx, by intro x hx; simp at hx, hr, by intro x hx; simp at hx⟩
  have hget : ∀ k : Nat, k < n → f.cd[k]? = some (f.cd.getD k default) := fun k hk => by
    rw [List.getD_eq_getElem?_getD, List.getElem?_eq_getElem (by omega)]
    rfl
  have hmem : ∀ k : Nat, k < n → f.cd.getD k default ∈ f.cd := fun k hk => List.mem_of_getElem? (hget k hk)
  have hI : ∀ k : Nat, k < f.cd.length → OkI (f.cd.getD k default) := fun k hk => right_okI (hok _ (hmem k (by omega))).2.1
  have kg : ∀ W, Fr (fun _ => False) w W → Calls Tryz.prog 25 #[.agg #[.slice none 0 0, ci f.sg.res, .slice none 0 0, .slice (some ⟨b3, o3, none⟩) n c3], .agg #[.slice none 0 0, .slice none 0 0]] W fun e w' => ∃ pv, e = .returned (.tuple #[pv, ci (placeS R), ci (errS R)]) ∧ Fr (fun _ => False) W w' := fun W hW => by
    refine (gone_w f ⟨[], []⟩ n c3 (some ⟨b3, o3, none⟩) (.slice none 0 0) (ci f.sg.res) (.slice none 0 0) (.slice none 0 0) (.slice none 0 0) R W hn hn0 hc3 hc3m hlen hR ?_ ?_ ?_).mono (fun e w' h => by obtain ⟨pv, h1, h2, _⟩ := h; exact ⟨pv, h1, h2⟩)
    · intro L L' k s hinv hk hrd
      exact ⟨by rw [(roundS_len hk hrd).1]; exact hinv.len, goS_ok hF hI (by rw [hinv.len, hlen]) hinv.ok hk hrd, round_over hinv.ov hk hrd, round_tz (hok _ (hmem k (by rw [← hinv.len]; exact (List.getElem?_eq_some_iff.1 hk).1))).2.1 (hinv.ov _ _ _ hk) hinv.tz hk hrd⟩
    · intro q gs ga W2 L k s hW2 hwk hinv hk
      have hkn : k < n := by rw [← hinv.len]; exact (List.getElem?_eq_some_iff.1 hk).1
      have hi := hok _ (hmem k hkn)
      have hcl : ∀ (j : Nat) (u : Value), (inC (f.cd.getD k default))[j]? = some u → W2.cell? ⟨b3, o3 + k * 4 + j, none⟩ = some u := fun j u hu => (hW.same hW2).cellN (hcells k _ (hget k hkn) j u hu)
      have hwk' : Wk W2 q gs ga n (.slice none 0 0) (ci f.sg.res) (.slice none f.loc.length 0) (.slice (some ⟨b3, o3, none⟩) n c3) (.slice none (⟨[], []⟩ : Fm).fns.length 0) (.slice none (⟨[], []⟩ : Fm).vars.length 0) L := by rw [hloc]; exact hwk
      rcases hi.2.2 with h1 | h1
      · exact kw_push f ⟨[], []⟩ q gs ga n k b3 o3 0 c3 0 0 (.slice none 0 0) none none none L s false _ W2 hwk' hk hn hc3 hc3m hlen hcl rfl hi.2.1 (hinv.ov _ _ _ hk) (hinv.ok _ _ _ hk) h1
      · exact kw_ret f ⟨[], []⟩ q gs ga n k b3 o3 0 c3 0 0 (.slice none 0 0) none none none L s false _ W2 hwk' hk hn hc3 hc3m hlen hcl rfl hi.2.1 (hinv.ov _ _ _ hk) (hinv.ok _ _ _ hk) h1 hr
    · intro k s hkn hos x hx
      unfold wayS at hx
      split at hx
      · simp at hx
      rename_i a b hst
      split at hx
      · simp at hx
      rename_i c1
      split at hx
      · simp at hx
      simp only [Bool.or_eq_true, not_or, Bool.not_eq_true] at c1
      have hkl : k < f.cd.length := by omega
      have ho := step_ok hF (hI k hkl) hos hst
      simp only [List.mem_append] at hx
      rcases hx with hx | hx
      · cases a with
        | none => simp at hx
        | some y =>
          simp at hx
          subst hx
          have := c1.1
          simp at this
          exact ⟨by rw [← hlen]; exact this, ho.1 _ rfl⟩
      · cases b with
        | none => simp at hx
        | some y =>
          simp at hx
          subst hx
          have := c1.2
          simp at this
          have h0 := (hI k hkl).n
          simp only [List.getD_eq_getElem?_getD] at h0 ⊢
          exact ⟨by rw [← hlen]; omega, ho.2 _ rfl⟩
  have kb : ∀ W, Fr (fun _ => False) w W → Calls Tryz.prog 24 #[.slice (some ⟨b3, o3, none⟩) n c3, .func (.func 22) #[] #[]] W fun e w' => e = .returned (ci (-1)) ∧ Fr (fun _ => False) W w' := fun W hW => by
    have := firstbad_any (some ⟨b3, o3, none⟩) n c3 f.cd W hlen.symm (hil.keep hW) (fun i hi => (hok i hi).1)
    have e : idxP (fun i => !rightS i) f.cd 0 = -1 := by
      rcases idxP_spec (fun i => !rightS i) f.cd 0 with ⟨_, h2, _⟩ | ⟨k, x, h1, h2, _⟩
      · exact h2
      · have := (hok x (List.mem_of_getElem? h1)).2.1
        rw [this] at h2
        cases h2
    rw [e] at this
    exact this
  have kon := fun W => outline_0 f.sg.res hr (some ⟨b3, o3, none⟩) n c3 hn0 hn W
  generalize hpl : placeS R = pl at kg
  generalize her : errS R = er at kg
  generalize f.sg.res = rs at kg kon ⊢
  have hfin : Hidden (goS f ⟨[], []⟩ (n + 1) (startS n) = some R ∧ placeS R = pl ∧ errS R = er) := ⟨hR, hpl, her⟩
  clear hR hpl her hok hil hcells hget hmem hI hF
  obtain ⟨V, hV⟩ : ∃ V, V = (w.alloc (.cells #[.slice none 0 0, ci rs, .slice none 0 0, .slice (some ⟨b3, o3, none⟩) n c3] 37 (0, 0))).alloc (.cells #[.slice none 0 0, .slice none 0 0] 41 (0, 0)) := ⟨_, rfl⟩
  have fV : Fr (fun _ => False) w V := by rw [hV]; exact (Fr.alloc _ _ _).same (Fr.alloc _ _ _)
  have b4 := box4 (show V.heap[w.heap.size]? = some (.cells #[.slice none 0 0, ci rs, .slice none 0 0, .slice (some ⟨b3, o3, none⟩) n c3] 37 (0, 0)) by rw [hV]; exact heap_alloc2_old _ _ _)
  have hb2 : V.heap[w.heap.size + 1]? = some (.cells #[.slice none 0 0, .slice none 0 0] 41 (0, 0)) := by rw [hV]; exact heap_alloc2_new _ _ _
  have d0 : V.cell? ⟨w.heap.size + 1, 0, none⟩ = some (.slice none 0 0) := cell_of_row _ _ 0 _ _ _ hb2
  have d1 : V.cell? ⟨w.heap.size + 1, 1, none⟩ = some (.slice none 0 0) := cell_of_row _ _ 1 _ _ _ hb2
  have b4H : Hidden _ := b4
  have d0H : Hidden (V.cell? ⟨w.heap.size + 1, 0, none⟩ = some (.slice none 0 0)) := d0
  have d1H : Hidden (V.cell? ⟨w.heap.size + 1, 1, none⟩ = some (.slice none 0 0)) := d1
  have fVH : Hidden (Fr (fun _ => False) w V) := fV
  have hVH : Hidden (V = _) := hV
  clear hV fV b4 hb2 d0 d1 hlen hn0 hn hc3 hc3m hps hloc hr
  go_enter Tryz.func13, Tryz.ntmps13
  go_upto_region 1 with fail
  rw [← (show V = _ from hVH)]
  clear hVH
  obtain ⟨c0, c1, c2, c3'⟩ := b4H
  have d0 : V.cell? ⟨w.heap.size + 1, 0, none⟩ = some (.slice none 0 0) := d0H
  have d1 : V.cell? ⟨w.heap.size + 1, 1, none⟩ = some (.slice none 0 0) := d1H
  go_wp2_with (first
    | (go_at_call 21; refine (kon _).mono ?_; rintro e w1 ⟨rfl, f1⟩
       replace c0 := f1.cellN c0
       replace c1 := f1.cellN c1
       replace c2 := f1.cellN c2
       replace c3' := f1.cellN c3'
       replace d0 := f1.cellN d0
       replace d1 := f1.cellN d1)
    | (go_at_call 24; refine (kb _ ((show Fr (fun _ => False) w V from fVH).same f1)).mono ?_; rintro e w2 ⟨rfl, f2⟩
       replace c0 := f2.cellN c0
       replace c1 := f2.cellN c1
       replace c2 := f2.cellN c2
       replace c3' := f2.cellN c3'
       replace d0 := f2.cellN d0
       replace d1 := f2.cellN d1)
    | (go_at_call 25; refine (kg _ (((show Fr (fun _ => False) w V from fVH).same f1).same f2)).mono ?_; rintro e w3 ⟨pv, rfl, f3⟩))
  go_ret3
  obtain ⟨h1, h2, h3⟩ := hfin
  exact ⟨pv, R, h1, by rw [h2, h3]; rfl, (((show Fr (fun _ => False) w V from fVH).same f1).same f2).same f3⟩
set_option maxRecDepth 20000 in
set_option maxHeartbeats 2000000 in
theorem verify_0 (f : Fu) (hps : f.sg.ps = []) (hloc : f.loc = []) (hr : f.sg.res = 0 ∨ valued f.sg.res = true) (b3 o3 n c3 : Nat) (hlen : f.cd.length = n) (hn0 : 0 < n) (hn : n ≤ 4096) (w : World) (hil : IL w (some ⟨b3, o3, none⟩) c3 f.cd) (hok : ∀ i ∈ f.cd, U64 i.b ∧ rightS i = true ∧ (i.op = 1 ∨ i.op = 11)) :
    Calls Tryz.prog 5 #[.agg #[.slice none 0 0, ci f.sg.res, .slice none 0 0, .slice (some ⟨b3, o3, none⟩) n c3], .agg #[.slice none 0 0, .slice none 0 0]] w fun e w' => ∃ R, goS f ⟨[], []⟩ (n + 1) (startS n) = some R ∧ e = .returned (.tuple #[ci (placeS R), ci (errS R)]) ∧ Fr (fun _ => False) w w' := by
  have kv := fun W (hW : Fr (fun _ => False) w W) => verified_0 f hps hloc hr b3 o3 n c3 hlen hn0 hn W (hil.keep hW) hok
  obtain ⟨rs, hrs⟩ : ∃ rs, rs = f.sg.res := ⟨_, rfl⟩
  rw [← hrs] at kv ⊢
  clear hps hloc hr hlen hn0 hn hil hok hrs
  go_enter Tryz.func5, Tryz.ntmps5
  go_wp2_with (first
    | (go_at_call 13; refine (kv _ ((Fr.alloc _ _ _).same (Fr.alloc _ _ _))).mono ?_; rintro e w1 ⟨pv, R, hR, rfl, f1⟩; have hRH : Hidden (goS f ⟨[], []⟩ (n + 1) (startS n) = some R) := hR; clear hR))
  go_ret2
  exact ⟨R, hRH, rfl, ((Fr.alloc _ _ _).same (Fr.alloc _ _ _)).same f1⟩
end Go.Proofs.YtnmcehpdiopaiaaGreatDoor.Cd

namespace Go.Proofs.YtnmcehpdiopaiaaGreatDoor.Cd
open Go.RowKit Ty
set_option linter.unusedSimpArgs false
set_option linter.unusedVariables false

theorem conv_bl {w : World} {ao : Option Addr} {cap : Nat} {l : Bs} (h : BL w ao cap l) : (convert 65 9 (.slice ao l.length cap)).run Tryz.prog w = .ok (ct l) w := by
  obtain ⟨h1, h2, h3, h4⟩ := h
  cases ao with
  | none =>
    have := h3 rfl
    subst this
    obtain rfl : l = [] := List.eq_nil_of_length_eq_zero (by omega)
    rw [show ([] : Bs).length = 0 from rfl, run_convert_bytes_string w 65 9 5 none 0 0 Tryz.underlying65 Tryz.underlying5 Tryz.underlying9]
    rfl
  | some a =>
    refine run_convert_bytes_back w 65 9 5 a cap l Tryz.underlying65 Tryz.underlying5 Tryz.underlying9 (fun j hj => ?_)
    rcases h4 with h4 | ⟨b, off, hb, h4⟩
    · rw [h4] at hj; simp at hj
    · cases hb
      have := h4 j l[j] (List.getElem?_eq_getElem hj)
      rw [show (⟨b, off, none⟩ : Addr).add j = ⟨b, off + j, none⟩ by simp [Addr.add]]
      exact this
set_option maxRecDepth 20000 in
theorem sameB_any (ao bo : Option Addr) (ca cb : Nat) (l m : Bs) (R : Bool) (w : World) (ha : BL w ao ca l) (hb : BL w bo cb m) (hR : Hidden (R = decide (l = m))) : Calls Tryz.prog 18 #[.slice ao l.length ca, .slice bo m.length cb] w fun e w' => e = .returned (.bool R) ∧ w' = w := by
  have k1 := conv_bl ha
  have k2 := conv_bl hb
  generalize l.length = n1 at k1 ⊢
  generalize m.length = n2 at k2 ⊢
  clear ha hb
  by_cases e : l = m
  · subst e
    have : R = true := by have := (show R = _ from hR); simpa using this
    subst this
    go_enter Tryz.func18, Tryz.ntmps18
    go_wp2
    go_ret
    exact ⟨ret_bl (by simp), rfl⟩
  · have : R = false := by have := (show R = _ from hR); rw [decide_eq_false e] at this; exact this
    subst this
    have eb : (l == m) = false := by simpa using e
    clear e
    go_enter Tryz.func18, Tryz.ntmps18
    go_wp2
    go_ret
    exact ⟨ret_bl (by simp_all), rfl⟩
def oneI : In := ⟨1, 0, 1, 1⟩
def fA : Fu := ⟨⟨[], 1⟩, [], [oneI, ⟨11, 0, 0, 0⟩]⟩
def fB : Fu := ⟨⟨[], 1⟩, [], [⟨11, 0, 0, 0⟩]⟩
theorem goA : ∃ L, goS fA ⟨[], []⟩ 3 (startS 2) = some (.ok L) := ⟨_, by rfl⟩
theorem goB : goS fB ⟨[], []⟩ 2 (startS 1) = some (.er 0 51) := by rfl
theorem encL : encA [oneI, ⟨10, 258, 0, 0⟩, ⟨11, 0, 0, 0⟩] = (0, [1, 1, 0, 0, 0, 0, 0, 0, 0, 1, 10, 1, 2, 11]) := by rfl
theorem textL : textS oneI = [112, 117, 115, 104, 32, 49] := by decide +kernel
end Go.Proofs.YtnmcehpdiopaiaaGreatDoor.Cd

namespace Go.Proofs.YtnmcehpdiopaiaaGreatDoor.Cd
open Go.RowKit Ty
set_option linter.unusedSimpArgs false
set_option linter.unusedVariables false

theorem IL_row {w : World} {g cap : Nat} {l : List In} {t : TypeId} (h : w.heap[g]? = some (.cells (l.flatMap inC).toArray t (0, 0))) (h1 : l.length ≤ cap) (h2 : cap ≤ maxLen) : IL w (some ⟨g, 0, none⟩) cap l := by
  refine ⟨h1, h2, (fun e => by cases e), Or.inr ⟨g, 0, rfl, fun i x hx j u hu => ?_⟩⟩
  rw [Nat.zero_add, cell_of_row _ _ _ _ _ _ h]
  simpa using flat_get l i x hx j u hu
theorem BL_row {w : World} {g cap : Nat} {l : Bs} {t : TypeId} (h : w.heap[g]? = some (.cells (byC l).toArray t (0, 0))) (h1 : l.length ≤ cap) (h2 : cap ≤ maxLen) : BL w (some ⟨g, 0, none⟩) cap l := by
  refine ⟨h1, h2, (fun e => by cases e), Or.inr ⟨g, 0, rfl, fun i x hx => ?_⟩⟩
  rw [Nat.zero_add, cell_of_row _ _ _ _ _ _ h]
  simp [byC, hx]
abbrev l3 : List In := [oneI, ⟨10, 258, 0, 0⟩, ⟨11, 0, 0, 0⟩]
abbrev bL : Bs := [1, 1, 0, 0, 0, 0, 0, 0, 0, 1, 10, 1, 2, 11]
theorem rightA : ∀ i ∈ fA.cd, U64 i.b ∧ rightS i = true ∧ (i.op = 1 ∨ i.op = 11) := by
  intro i hi
  simp only [fA, List.mem_cons, List.not_mem_nil, or_false] at hi
  rcases hi with rfl | rfl
  · exact ⟨⟨by decide, by decide⟩, rfl, Or.inl rfl⟩
  · exact ⟨⟨by decide, by decide⟩, rfl, Or.inr rfl⟩
theorem rightB : ∀ i ∈ fB.cd, U64 i.b ∧ rightS i = true ∧ (i.op = 1 ∨ i.op = 11) := by
  intro i hi
  simp only [fB, List.mem_cons, List.not_mem_nil, or_false] at hi
  subst hi
  exact ⟨⟨by decide, by decide⟩, rfl, Or.inr rfl⟩
theorem okL3 : ∀ i ∈ l3, U64 i.b := by
  intro i hi
  simp only [l3, List.mem_cons, List.not_mem_nil, or_false] at hi
  rcases hi with rfl | rfl | rfl <;> exact ⟨by decide, by decide⟩
theorem ver_A (g : Nat) (w : World) (h : w.heap[g]? = some (.cells #[ci 1, ci 0, ci 1, .int .u64 1, ci 11, ci 0, ci 0, .int .u64 0] 64 (0, 0))) :
    Calls Tryz.prog 5 #[.agg #[.slice none 0 0, ci 1, .slice none 0 0, .slice (some ⟨g, 0, none⟩) 2 2], .agg #[.slice none 0 0, .slice none 0 0]] w fun e w' => e = .returned (.tuple #[ci 0, ci 0]) ∧ Fr (fun _ => False) w w' := by
  have hil : IL w (some ⟨g, 0, none⟩) 2 fA.cd := IL_row (l := fA.cd) h (by decide) (by simp [maxLen])
  refine (verify_0 fA rfl rfl (Or.inr rfl) g 0 2 2 rfl (by decide) (by decide) w hil rightA).mono ?_
  rintro e w' ⟨R, hR, rfl, f⟩
  obtain ⟨L, hL⟩ := goA
  have := goS_one fA ⟨[], []⟩ hR hL
  subst this
  exact ⟨rfl, f⟩
theorem ver_B (g : Nat) (w : World) (h : w.heap[g]? = some (.cells #[ci 11, ci 0, ci 0, .int .u64 0] 64 (0, 0))) :
    Calls Tryz.prog 5 #[.agg #[.slice none 0 0, ci 1, .slice none 0 0, .slice (some ⟨g, 0, none⟩) 1 1], .agg #[.slice none 0 0, .slice none 0 0]] w fun e w' => e = .returned (.tuple #[ci 0, ci 51]) ∧ Fr (fun _ => False) w w' := by
  have hil : IL w (some ⟨g, 0, none⟩) 1 fB.cd := IL_row (l := fB.cd) h (by decide) (by simp [maxLen])
  refine (verify_0 fB rfl rfl (Or.inr rfl) g 0 1 1 rfl (by decide) (by decide) w hil rightB).mono ?_
  rintro e w' ⟨R, hR, rfl, f⟩
  have := goS_one fB ⟨[], []⟩ hR goB
  subst this
  exact ⟨rfl, f⟩
theorem enc_L (g : Nat) (w : World) (h : w.heap[g]? = some (.cells #[ci 1, ci 0, ci 1, .int .u64 1, ci 10, ci 258, ci 0, .int .u64 0, ci 11, ci 0, ci 0, .int .u64 0] 64 (0, 0))) :
    Calls Tryz.prog 17 #[.slice (some ⟨g, 0, none⟩) 3 3] w fun e w' => ∃ ao cap, e = .returned (.tuple #[.slice ao 14 cap, ci 0]) ∧ BL w' ao cap bL ∧ Fr (fun _ => False) w w' := by
  have hil : IL w (some ⟨g, 0, none⟩) 3 l3 := IL_row (l := l3) h (by decide) (by simp [maxLen])
  refine (encode_any (some ⟨g, 0, none⟩) 3 l3 w hil okL3).mono ?_
  rintro e w' ⟨v, rfl, hb, f⟩
  rw [show encA l3 = (0, bL) from encL] at hb
  obtain ⟨ao, cap, rfl, hbl⟩ := hb.bl
  exact ⟨ao, cap, by rw [show encA l3 = (0, bL) from encL]; rfl, hbl, f⟩
theorem text_L (w : World) (ht : F.Tab w) : Calls Tryz.prog 19 #[.agg #[ci 1, ci 0, ci 1, .int .u64 1]] w fun e w' => e = .returned (ct [112, 117, 115, 104, 32, 49]) ∧ Fr (fun _ => False) w w' := by
  have := text_any oneI ⟨by decide, by decide⟩ ⟨by decide, by decide⟩ (by decide +kernel) w ht
  rw [textL] at this
  exact this
set_option maxRecDepth 20000 in
set_option maxHeartbeats 2000000 in
theorem live_any (w : World) (ht : F.Tab w) : Calls Tryz.prog 9 #[] w fun e w' => e = .returned (.bool true) ∧ Fr (fun _ => False) w w' := by
  go_enter Tryz.func9, Tryz.ntmps9
  go_wp2_with fail
  go_at_call 17
  refine (enc_L _ _ (heap_alloc2_new _ _ _)).mono ?_
  rintro e w1 ⟨ao, cap, rfl, hbl, f1⟩
  have fw1 : Fr (fun _ => False) w w1 := ((Fr.alloc _ _ _).same (Fr.alloc _ _ _)).same f1
  obtain ⟨a0, a1, a2, a3⟩ := box4 (f1.heap (heap_alloc2_old _ _ _) (fun f => f))
  have hblH : Hidden (BL w1 ao cap bL) := hbl
  clear hbl f1
  go_wp2_with fail
  go_at_call 5
  refine (ver_A _ _ (alloc_new _ _)).mono ?_
  rintro e w2 ⟨rfl, f2⟩
  have f12 : Fr (fun _ => False) w1 w2 := (Fr.alloc _ _ _).same f2
  replace a0 := f12.cellN a0
  replace a1 := f12.cellN a1
  replace a2 := f12.cellN a2
  replace a3 := f12.cellN a3
  clear f2
  go_wp2_with fail
  go_at_call 5
  refine (ver_B _ _ (alloc_new _ _)).mono ?_
  rintro e w3 ⟨rfl, f3⟩
  have f23 : Fr (fun _ => False) w2 w3 := (Fr.alloc _ _ _).same f3
  replace a0 := f23.cellN a0
  replace a1 := f23.cellN a1
  replace a2 := f23.cellN a2
  replace a3 := f23.cellN a3
  clear f3
  have fw3 : Fr (fun _ => False) w w3 := (fw1.same f12).same f23
  obtain ⟨W4, hW4⟩ : ∃ W, W = w3.alloc (.cells #[.int .u8 1, .int .u8 1, .int .u8 0, .int .u8 0, .int .u8 0, .int .u8 0, .int .u8 0, .int .u8 0, .int .u8 0, .int .u8 1, .int .u8 10, .int .u8 1, .int .u8 2, .int .u8 11] 5 (0, 0)) := ⟨_, rfl⟩
  have f34 : Fr (fun _ => False) w3 W4 := by rw [hW4]; exact Fr.alloc _ _ _
  have ksb : Calls Tryz.prog 18 #[.slice ao 14 cap, .slice (some ⟨w3.heap.size, 0, none⟩) 14 14] W4 fun e w' => e = .returned (.bool true) ∧ w' = W4 :=
    sameB_any ao (some ⟨w3.heap.size, 0, none⟩) cap 14 bL bL true W4 ((show BL w1 ao cap bL from hblH).keep ((f12.same f23).same f34)) (BL_row (l := bL) (by rw [hW4]; exact alloc_new _ _) (by decide) (by simp [maxLen])) (by show _ = _; simp)
  have fw4 : Fr (fun _ => False) w W4 := fw3.same f34
  have fw4H : Hidden (Fr (fun _ => False) w W4) := fw4
  have kt := text_L W4 (tab_fr ht fw4)
  replace a0 := f34.cellN a0
  replace a1 := f34.cellN a1
  replace a2 := f34.cellN a2
  replace a3 := f34.cellN a3
  have hW4H : Hidden (W4 = _) := hW4
  clear fw1 f12 f23 fw3 f34 fw4 hblH ht hW4
  go_wp2_with (first
    | (go_at_call 18; rw [← (show W4 = _ from hW4H)]; refine ksb.mono ?_; rintro e w5 ⟨rfl, hw5⟩; subst hw5)
    | (go_at_call 19; refine kt.mono ?_; rintro e w6 ⟨rfl, f6⟩))
  go_ret
  exact ⟨rfl, (show Fr (fun _ => False) w _ from fw4H).same f6⟩
end Go.Proofs.YtnmcehpdiopaiaaGreatDoor.Cd
