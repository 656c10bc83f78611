/- Verify of functions without parameters and locals, in an empty program, whose code is push and return alone. -/
import Derived.Test.YtphpmaimgndjmaaDoorCdV2
import Derived.Test.YtphpmaimgndjmaaDoorCdZ
namespace Go.Proofs.YtphpmaimgndjmaaDoor.Cd
open Go.RowKit Ty
set_option linter.unusedSimpArgs false
set_option linter.unusedVariables false

theorem inl_nil (w : World) : InL w none 0 [] := ⟨by simp, by simp [maxLen], fun _ => rfl, Or.inl rfl⟩
set_option maxRecDepth 20000 in
set_option maxHeartbeats 2000000 in
theorem outline_0 (r : Int) (hr : r = 0 ∨ valued r = true) (a3 : Option Addr) (n c3 : Nat) (hn0 : 0 < n) (hn : n ≤ 4096) (w : World) :
    Calls Tryd.prog 26 #[.agg #[.slice none 0 0, ci r, .slice none 0 0, .slice a3 n c3], .agg #[.slice none 0 0, .slice none 0 0]] w fun e w' => e = .returned (ci 0) ∧ Fr (fun _ => False) w w' := by
  have ka : ∀ W, Calls Tryd.prog 37 #[.slice none 0 0] W fun e w' => e = .returned (.bool true) ∧ Fr (fun _ => False) W w' := fun W => allof_any none 0 0 [] W rfl (inl_nil W)
  have ksg : ∀ W, Calls Tryd.prog 38 #[.agg #[.slice none 0 0, ci r]] W fun e w' => e = .returned (.bool true) ∧ Fr (fun _ => False) W w' := fun W => by
    have := rsig_any ⟨[], r⟩ (.agg #[.slice none 0 0, ci r]) W ⟨none, 0, rfl, inl_nil W⟩
    have e : sgS ⟨[], r⟩ = true := by
      unfold sgS
      rcases hr with rfl | h
      · rfl
      · simp [h]
    rw [e] at this
    exact this
  have ke : ∀ W, Calls Tryd.prog 36 #[.slice none 0 0, .slice none 0 0] W fun e w' => e = .returned (.bool true) ∧ Fr (fun _ => False) W w' := fun W => (Tryd.slices_Equal_int_empty none none 0 0 0 W (by decide)).mono (fun e w' h => ⟨h.1, by rw [h.2]; exact Fr.refl _ _⟩)
  have h1 : decide (4096 < (n : Int)) = false := by simp; omega
  have h2 : ((n : Int) == 0) = false := by rw [beq_eq_false_iff_ne]; omega
  clear hn hr hn0
  go_enter Tryd.func26, Tryd.ntmps26
  go_upto_region 4 with fail
  obtain ⟨V, hV⟩ : ∃ V, V = ((w.alloc (.cells #[.slice none 0 0, ci r, .slice none 0 0, .slice a3 n c3] 35 (0, 0))).alloc (.cells #[.slice none 0 0, .slice none 0 0] 39 (0, 0))).alloc (.cells #[.slice none 0 0, ci r] 32 (0, 0)) := ⟨_, rfl⟩
  have fV : Fr (fun _ => False) w V := by rw [hV]; exact ((Fr.alloc _ _ _).same (Fr.alloc _ _ _)).same (Fr.alloc _ _ _)
  obtain ⟨c0, c1, c2, c3'⟩ := box4 (show V.heap[w.heap.size]? = some (.cells #[.slice none 0 0, ci r, .slice none 0 0, .slice a3 n c3] 35 (0, 0)) by rw [hV]; exact (Fr.alloc (fun _ => False) _ _).heap (heap_alloc2_old _ _ _) (fun f => f))
  have hb2 : V.heap[w.heap.size + 1]? = some (.cells #[.slice none 0 0, .slice none 0 0] 39 (0, 0)) := by rw [hV]; exact (Fr.alloc (fun _ => False) _ _).heap (heap_alloc2_new _ _ _) (fun f => f)
  have d0 : V.cell? ⟨w.heap.size + 1, 0, none⟩ = some (.slice none 0 0) := cell_of_row _ _ 0 _ _ _ hb2
  have d1 : V.cell? ⟨w.heap.size + 1, 1, none⟩ = some (.slice none 0 0) := cell_of_row _ _ 1 _ _ _ hb2
  have hb3 : V.heap[w.heap.size + 1 + 1]? = some (.cells #[.slice none 0 0, ci r] 32 (0, 0)) := by rw [hV]; exact alloc_at _ _ _ (by simp)
  have e0 : V.cell? ⟨w.heap.size + 1 + 1, 0, none⟩ = some (.slice none 0 0) := cell_of_row _ _ 0 _ _ _ hb3
  have e1 : V.cell? ⟨w.heap.size + 1 + 1, 1, none⟩ = some (ci r) := cell_of_row _ _ 1 _ _ _ hb3
  have fVH : Hidden (Fr (fun _ => False) w V) := fV
  rw [← hV]
  clear hV hb2 hb3 fV
  refine wp_region_grow (by kernel_rfl) (by kernel_rfl) ?_
  (repeat (first | (refine grow_op (v := ?_) ?_ ?_ ?_; rotate_left; (focus (first | exact wanted_none rfl | (go_simp; done))); (focus (intro w' hw'; have c2 := hw'.cellN c2; have c3' := hw'.cellN c3'; have e0 := hw'.cellN e0; (go_simp; first | with_reducible rfl | (go_at_call 36; refine calls_grow hw' ?_; first | (have q := ke w'; with_reducible exact q))))); (intro a' ha; simp only [Act.put, List.setIfInBounds_toArray, List.set_cons_zero, List.set_cons_succ] at ha; subst ha)) | (refine grow_no ?_ ?_; (focus (first | (go_simp; done) | rfl)); (intro a' ha; simp only [Act.put, List.setIfInBounds_toArray, List.set_cons_zero, List.set_cons_succ] at ha; subst ha)))); refine grow_nil ?_; intro w3 q2
  replace c2 := q2.cellN c2
  replace d0 := q2.cellN d0
  replace d1 := q2.cellN d1
  replace e0 := q2.cellN e0
  replace e1 := q2.cellN e1
  go_wp2_with (first
    | (go_at_call 37
       first
         | (have qq := f5; refine (ka _).mono ?_; rintro e w6 ⟨rfl, f6⟩
            replace d0 := f6.cellN d0)
         | (refine (ka _).mono ?_; rintro e w4 ⟨rfl, f4⟩
            replace d0 := f4.cellN d0
            replace d1 := f4.cellN d1
            replace e0 := f4.cellN e0
            replace e1 := f4.cellN e1))
    | (go_at_call 38; refine (ksg _).mono ?_; rintro e w5 ⟨rfl, f5⟩
       replace d0 := f5.cellN d0
       replace d1 := f5.cellN d1))
  go_loopg [72] 1 (fun k iv wr => iv = .int .i64 0 ∧ wr = w6)
  case atStart => exact ⟨rfl, rfl⟩
  case round =>
    obtain ⟨rfl, rfl⟩ := hrel
    go_wp2_with fail
    go_ret
    exact ⟨rfl, (((show Fr (fun _ => False) w V from fVH).same q2).same f4).same (f5.same f6)⟩
set_option maxRecDepth 20000 in
set_option maxHeartbeats 2000000 in
theorem verified_0 (f : Fu) (hps : f.sg.ps = []) (hloc : f.loc = []) (hr : f.sg.res = 0 ∨ valued f.sg.res = true) (b3 o3 n c3 : Nat) (hlen : f.cd.length = n) (hn0 : 0 < n) (hn : n ≤ 4096) (w : World) (hil : IL w (some ⟨b3, o3, none⟩) c3 f.cd) (hok : ∀ i ∈ f.cd, U64 i.b ∧ rightS i = true ∧ (i.op = 1 ∨ i.op = 11)) :
    Calls Tryd.prog 18 #[.agg #[.slice none 0 0, ci f.sg.res, .slice none 0 0, .slice (some ⟨b3, o3, none⟩) n c3], .agg #[.slice none 0 0, .slice none 0 0]] w fun e w' => ∃ pv R, goS f ⟨[], []⟩ (n + 1) (startS n) = some R ∧ e = .returned (.tuple #[pv, ci (placeS R), ci (errS R)]) ∧ Fr (fun _ => False) w w' := by
  have hc3 : n ≤ c3 := by rw [← hlen]; exact hil.1
  have hc3m : c3 ≤ 9223372036854775807 := by have := hil.2.1; simpa [maxLen] using this
  obtain ⟨R, hR⟩ := goS_all f ⟨[], []⟩ (n + 1) (startS n) (by have := notgone_le (startS n); simp [startS] at this ⊢; omega)
  have hcells := hil.2.2.2.resolve_left (by intro e; rw [e] at hlen; simp at hlen; omega)
  obtain ⟨bb, oo, hbb, hcells⟩ := hcells
  simp only [Option.some.injEq, Addr.mk.injEq, and_true] at hbb
  obtain ⟨rfl, rfl⟩ := hbb
  have hF : OkF f ⟨[], []⟩ := ⟨by rw [hloc]; intro x hx; simp at hx, by intro x hx; simp at hx, hr, by intro x hx; simp at hx⟩
  have hget : ∀ k : Nat, k < n → f.cd[k]? = some (f.cd.getD k default) := fun k hk => by
    rw [List.getD_eq_getElem?_getD, List.getElem?_eq_getElem (by omega)]
    rfl
  have hmem : ∀ k : Nat, k < n → f.cd.getD k default ∈ f.cd := fun k hk => List.mem_of_getElem? (hget k hk)
  have hI : ∀ k : Nat, k < f.cd.length → OkI (f.cd.getD k default) := fun k hk => right_okI (hok _ (hmem k (by omega))).2.1
  have kg : ∀ W, Fr (fun _ => False) w W → Calls Tryd.prog 29 #[.agg #[.slice none 0 0, ci f.sg.res, .slice none 0 0, .slice (some ⟨b3, o3, none⟩) n c3], .agg #[.slice none 0 0, .slice none 0 0]] W fun e w' => ∃ pv, e = .returned (.tuple #[pv, ci (placeS R), ci (errS R)]) ∧ Fr (fun _ => False) W w' := fun W hW => by
    refine (gone_w f ⟨[], []⟩ n c3 (some ⟨b3, o3, none⟩) (.slice none 0 0) (ci f.sg.res) (.slice none 0 0) (.slice none 0 0) (.slice none 0 0) R W hn hn0 hc3 hc3m hlen hR ?_ ?_ ?_).mono (fun e w' h => by obtain ⟨pv, h1, h2, _⟩ := h; exact ⟨pv, h1, h2⟩)
    · intro L L' k s hinv hk hrd
      exact ⟨by rw [(roundS_len hk hrd).1]; exact hinv.len, goS_ok hF hI (by rw [hinv.len, hlen]) hinv.ok hk hrd, round_over hinv.ov hk hrd, round_tz (hok _ (hmem k (by rw [← hinv.len]; exact (List.getElem?_eq_some_iff.1 hk).1))).2.1 (hinv.ov _ _ _ hk) hinv.tz hk hrd⟩
    · intro q gs ga W2 L k s hW2 hwk hinv hk
      have hkn : k < n := by rw [← hinv.len]; exact (List.getElem?_eq_some_iff.1 hk).1
      have hi := hok _ (hmem k hkn)
      have hcl : ∀ (j : Nat) (u : Value), (inC (f.cd.getD k default))[j]? = some u → W2.cell? ⟨b3, o3 + k * 4 + j, none⟩ = some u := fun j u hu => (hW.same hW2).cellN (hcells k _ (hget k hkn) j u hu)
      have hwk' : Wk W2 q gs ga n (.slice none 0 0) (ci f.sg.res) (.slice none f.loc.length 0) (.slice (some ⟨b3, o3, none⟩) n c3) (.slice none (⟨[], []⟩ : Fm).fns.length 0) (.slice none (⟨[], []⟩ : Fm).vars.length 0) L := by rw [hloc]; exact hwk
      rcases hi.2.2 with h1 | h1
      · exact kw_push f ⟨[], []⟩ q gs ga n k b3 o3 0 c3 0 0 (.slice none 0 0) none none none L s false _ W2 hwk' hk hn hc3 hc3m hlen hcl rfl hi.2.1 (hinv.ov _ _ _ hk) (hinv.ok _ _ _ hk) h1
      · exact kw_ret f ⟨[], []⟩ q gs ga n k b3 o3 0 c3 0 0 (.slice none 0 0) none none none L s false _ W2 hwk' hk hn hc3 hc3m hlen hcl rfl hi.2.1 (hinv.ov _ _ _ hk) (hinv.ok _ _ _ hk) h1 hr
    · intro k s hkn hos x hx
      unfold wayS at hx
      split at hx
      · simp at hx
      rename_i a b hst
      split at hx
      · simp at hx
      rename_i c1
      split at hx
      · simp at hx
      simp only [Bool.or_eq_true, not_or, Bool.not_eq_true] at c1
      have hkl : k < f.cd.length := by omega
      have ho := step_ok hF (hI k hkl) hos hst
      simp only [List.mem_append] at hx
      rcases hx with hx | hx
      · cases a with
        | none => simp at hx
        | some y =>
          simp at hx
          subst hx
          have := c1.1
          simp at this
          exact ⟨by rw [← hlen]; exact this, ho.1 _ rfl⟩
      · cases b with
        | none => simp at hx
        | some y =>
          simp at hx
          subst hx
          have := c1.2
          simp at this
          have h0 := (hI k hkl).n
          simp only [List.getD_eq_getElem?_getD] at h0 ⊢
          exact ⟨by rw [← hlen]; omega, ho.2 _ rfl⟩
  have kb : ∀ W, Fr (fun _ => False) w W → Calls Tryd.prog 28 #[.slice (some ⟨b3, o3, none⟩) n c3, .func (.func 27) #[] #[]] W fun e w' => e = .returned (ci (-1)) ∧ Fr (fun _ => False) W w' := fun W hW => by
    have := firstbad_any (some ⟨b3, o3, none⟩) n c3 f.cd W hlen.symm (hil.keep hW) (fun i hi => (hok i hi).1)
    have e : idxP (fun i => !rightS i) f.cd 0 = -1 := by
      rcases idxP_spec (fun i => !rightS i) f.cd 0 with ⟨_, h2, _⟩ | ⟨k, x, h1, h2, _⟩
      · exact h2
      · have := (hok x (List.mem_of_getElem? h1)).2.1
        rw [this] at h2
        cases h2
    rw [e] at this
    exact this
  have kon := fun W => outline_0 f.sg.res hr (some ⟨b3, o3, none⟩) n c3 hn0 hn W
  generalize hpl : placeS R = pl at kg
  generalize her : errS R = er at kg
  generalize f.sg.res = rs at kg kon ⊢
  have hfin : Hidden (goS f ⟨[], []⟩ (n + 1) (startS n) = some R ∧ placeS R = pl ∧ errS R = er) := ⟨hR, hpl, her⟩
  clear hR hpl her hok hil hcells hget hmem hI hF
  obtain ⟨V, hV⟩ : ∃ V, V = (w.alloc (.cells #[.slice none 0 0, ci rs, .slice none 0 0, .slice (some ⟨b3, o3, none⟩) n c3] 35 (0, 0))).alloc (.cells #[.slice none 0 0, .slice none 0 0] 39 (0, 0)) := ⟨_, rfl⟩
  have fV : Fr (fun _ => False) w V := by rw [hV]; exact (Fr.alloc _ _ _).same (Fr.alloc _ _ _)
  have b4 := box4 (show V.heap[w.heap.size]? = some (.cells #[.slice none 0 0, ci rs, .slice none 0 0, .slice (some ⟨b3, o3, none⟩) n c3] 35 (0, 0)) by rw [hV]; exact heap_alloc2_old _ _ _)
  have hb2 : V.heap[w.heap.size + 1]? = some (.cells #[.slice none 0 0, .slice none 0 0] 39 (0, 0)) := by rw [hV]; exact heap_alloc2_new _ _ _
  have d0 : V.cell? ⟨w.heap.size + 1, 0, none⟩ = some (.slice none 0 0) := cell_of_row _ _ 0 _ _ _ hb2
  have d1 : V.cell? ⟨w.heap.size + 1, 1, none⟩ = some (.slice none 0 0) := cell_of_row _ _ 1 _ _ _ hb2
  have b4H : Hidden _ := b4
  have d0H : Hidden (V.cell? ⟨w.heap.size + 1, 0, none⟩ = some (.slice none 0 0)) := d0
  have d1H : Hidden (V.cell? ⟨w.heap.size + 1, 1, none⟩ = some (.slice none 0 0)) := d1
  have fVH : Hidden (Fr (fun _ => False) w V) := fV
  have hVH : Hidden (V = _) := hV
  clear hV fV b4 hb2 d0 d1 hlen hn0 hn hc3 hc3m hps hloc hr
  go_enter Tryd.func18, Tryd.ntmps18
  go_upto_region 1 with fail
  rw [← (show V = _ from hVH)]
  clear hVH
  obtain ⟨c0, c1, c2, c3'⟩ := b4H
  have d0 : V.cell? ⟨w.heap.size + 1, 0, none⟩ = some (.slice none 0 0) := d0H
  have d1 : V.cell? ⟨w.heap.size + 1, 1, none⟩ = some (.slice none 0 0) := d1H
  go_wp2_with (first
    | (go_at_call 26; refine (kon _).mono ?_; rintro e w1 ⟨rfl, f1⟩
       replace c0 := f1.cellN c0
       replace c1 := f1.cellN c1
       replace c2 := f1.cellN c2
       replace c3' := f1.cellN c3'
       replace d0 := f1.cellN d0
       replace d1 := f1.cellN d1)
    | (go_at_call 28; refine (kb _ ((show Fr (fun _ => False) w V from fVH).same f1)).mono ?_; rintro e w2 ⟨rfl, f2⟩
       replace c0 := f2.cellN c0
       replace c1 := f2.cellN c1
       replace c2 := f2.cellN c2
       replace c3' := f2.cellN c3'
       replace d0 := f2.cellN d0
       replace d1 := f2.cellN d1)
    | (go_at_call 29; refine (kg _ (((show Fr (fun _ => False) w V from fVH).same f1).same f2)).mono ?_; rintro e w3 ⟨pv, rfl, f3⟩))
  go_ret3
  obtain ⟨h1, h2, h3⟩ := hfin
  exact ⟨pv, R, h1, by rw [h2, h3]; rfl, (((show Fr (fun _ => False) w V from fVH).same f1).same f2).same f3⟩
set_option maxRecDepth 20000 in
set_option maxHeartbeats 2000000 in
theorem verify_0 (f : Fu) (hps : f.sg.ps = []) (hloc : f.loc = []) (hr : f.sg.res = 0 ∨ valued f.sg.res = true) (b3 o3 n c3 : Nat) (hlen : f.cd.length = n) (hn0 : 0 < n) (hn : n ≤ 4096) (w : World) (hil : IL w (some ⟨b3, o3, none⟩) c3 f.cd) (hok : ∀ i ∈ f.cd, U64 i.b ∧ rightS i = true ∧ (i.op = 1 ∨ i.op = 11)) :
    Calls Tryd.prog 8 #[.agg #[.slice none 0 0, ci f.sg.res, .slice none 0 0, .slice (some ⟨b3, o3, none⟩) n c3], .agg #[.slice none 0 0, .slice none 0 0]] w fun e w' => ∃ R, goS f ⟨[], []⟩ (n + 1) (startS n) = some R ∧ e = .returned (.tuple #[ci (placeS R), ci (errS R)]) ∧ Fr (fun _ => False) w w' := by
  have kv := fun W (hW : Fr (fun _ => False) w W) => verified_0 f hps hloc hr b3 o3 n c3 hlen hn0 hn W (hil.keep hW) hok
  obtain ⟨rs, hrs⟩ : ∃ rs, rs = f.sg.res := ⟨_, rfl⟩
  rw [← hrs] at kv ⊢
  clear hps hloc hr hlen hn0 hn hil hok hrs
  go_enter Tryd.func8, Tryd.ntmps8
  go_wp2_with (first
    | (go_at_call 18; refine (kv _ ((Fr.alloc _ _ _).same (Fr.alloc _ _ _))).mono ?_; rintro e w1 ⟨pv, R, hR, rfl, f1⟩; have hRH : Hidden (goS f ⟨[], []⟩ (n + 1) (startS n) = some R) := hR; clear hR))
  go_ret2
  exact ⟨R, hRH, rfl, ((Fr.alloc _ _ _).same (Fr.alloc _ _ _)).same f1⟩
end Go.Proofs.YtphpmaimgndjmaaDoor.Cd
