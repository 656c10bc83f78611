/- Texts of ours, in one. -/
import Derived.Test.YtnmcehpdiopaiaaGreatDoorCdWAll
import Derived.Test.YtnmcehpdiopaiaaGreatDoorCdIn
import Derived.WalkMore
import Derived.Test.YtnmcehpdiopaiaaGreatDoorCdZ
import Derived.Test.YtnmcehpdiopaiaaGreatDoorCdFz
namespace Go.Proofs.YtnmcehpdiopaiaaGreatDoor.Cd
open Go.RowKit Ty
set_option linter.unusedSimpArgs false
set_option linter.unusedVariables false

/-- A function and the program around it, in memory. -/
structure Fi (w : World) (f : Fu) (p : Fm) (a0 a2 a3 a4 a5 : Option Addr) (c0 c2 c3 c4 c5 : Nat) : Prop where
  ps : InL w a0 c0 f.sg.ps
  loc : InL w a2 c2 f.loc
  cd : IL w a3 c3 f.cd
  fns : SgL w a4 c4 p.fns
  vars : InL w a5 c5 p.vars
  okI : ∀ i ∈ f.cd, OkIn i
  fps : ∀ g ∈ p.fns, g.ps.length ≤ 17592186044416
  tab : F.Tab w
theorem Fi.keep {w w' : World} {f : Fu} {p : Fm} {a0 a2 a3 a4 a5 : Option Addr} {c0 c2 c3 c4 c5 : Nat} (h : Fi w f p a0 a2 a3 a4 a5 c0 c2 c3 c4 c5) (fr : Fr (fun _ => False) w w') : Fi w' f p a0 a2 a3 a4 a5 c0 c2 c3 c4 c5 :=
  ⟨h.ps.keep fr, h.loc.keep fr, h.cd.keep fr, h.fns.keep fr, h.vars.keep fr, h.okI, h.fps, tab_fr h.tab fr⟩
theorem equal_ints (a2 a0 : Option Addr) (c2 c0 np nl : Nat) (l ps : List Int) (hl : l.length = nl) (hp : ps.length = np) (hle : np ≤ nl) (w : World) (h2 : InL w a2 c2 l) (h0 : InL w a0 c0 ps) :
    Calls Tryz.prog 33 #[.slice a2 np c2, .slice a0 np c0] w fun e w' => e = .returned (.bool (decide (l.take np = ps))) ∧ Fr (fun _ => False) w w' := by
  have hb0 := cap_le h0
  have hc0 : np ≤ c0 := by rw [← hp]; exact h0.1
  cases np with
  | zero =>
    have e : ps = [] := List.length_eq_zero_iff.1 hp
    subst e
    have := Tryz.slices_Equal_int_empty a2 a0 c2 0 c0 w (by decide)
    rw [List.take_zero, decide_eq_true rfl]
    exact this.mono (fun e w' h => ⟨h.1, by rw [h.2]; exact Fr.refl _ _⟩)
  | succ np =>
    obtain ⟨b2, o2, rfl, hc2⟩ := h2.2.2.2.resolve_left (by rintro rfl; simp at hl; omega)
    obtain ⟨b0, o0, rfl, hc0'⟩ := h0.2.2.2.resolve_left (by rintro rfl; simp at hp)
    have gd : ∀ (L : List Int) (j : Nat), j < L.length → L[j]? = some (L.getD j 0) := fun L j hj => by rw [List.getD_eq_getElem?_getD, List.getElem?_eq_getElem hj]; rfl
    have := Tryz.slices_Equal_int b2 o2 (np + 1) c2 b0 o0 (np + 1) c0 l ps w (by omega) (by omega) (by omega) (by omega) (fun j hj => hc2 j _ (gd l j hj)) (fun j hj => hc0' j _ (gd ps j hj))
    refine this.mono (fun e w' h => ⟨?_, by obtain ⟨_, q, rfl⟩ := h; exact drewN_fr (Fr.refl _ _) _⟩)
    rw [h.1]
    congr 2
    have e2 : ps.take (np + 1) = ps := List.take_of_length_le (by omega)
    rw [e2]
    by_cases he : l.take (np + 1) = ps
    · simp [he]
    · simp [he]
set_option maxRecDepth 20000 in
set_option maxHeartbeats 4000000 in
theorem outline_any (f : Fu) (p : Fm) (a0 a2 a3 a4 a5 : Option Addr) (c0' c2' c3' c4' c5' np nl n nf nv : Nat) (hnp : f.sg.ps.length = np) (hnl : f.loc.length = nl) (hn : f.cd.length = n) (hnf : p.fns.length = nf) (hnv : p.vars.length = nv) (w : World) (h : Fi w f p a0 a2 a3 a4 a5 c0' c2' c3' c4' c5') :
    Calls Tryz.prog 21 #[.agg #[.slice a0 np c0', ci f.sg.res, .slice a2 nl c2', .slice a3 n c3'], .agg #[.slice a4 nf c4', .slice a5 nv c5']] w fun e w' => e = .returned (ci (outS f p)) ∧ Fr (fun _ => False) w w' := by
  obtain ⟨ev, hev⟩ : ∃ b, b = decide (f.loc.take np = f.sg.ps) := ⟨_, rfl⟩
  obtain ⟨lv, hlv⟩ : ∃ b, b = f.loc.all valued := ⟨_, rfl⟩
  obtain ⟨sv, hsv⟩ : ∃ b, b = sgS f.sg := ⟨_, rfl⟩
  obtain ⟨vv, hvv⟩ : ∃ b, b = p.vars.all valued := ⟨_, rfl⟩
  have hO : Hidden (outS f p = if 8 < np ∨ 64 < nl ∨ 4096 < n then 3 else if n = 0 ∨ nl < np ∨ ev = false ∨ lv = false ∨ sv = false ∨ vv = false ∨ p.fns.all sgS = false then 51 else 0) := by
    show _ = _
    unfold outS
    rw [hnp, hnl, hn, ← hlv, ← hsv, ← hvv]
    have e1 : (f.cd = []) = (n = 0) := by rw [← hn]; exact propext List.length_eq_zero_iff.symm
    have e2 : (f.loc.take np ≠ f.sg.ps) = (ev = false) := by rw [hev]; simp
    have e3 : (f.cd = [] ∨ nl < np ∨ f.loc.take np ≠ f.sg.ps ∨ lv = false ∨ sv = false ∨ vv = false ∨ p.fns.all sgS = false) ↔ (n = 0 ∨ nl < np ∨ ev = false ∨ lv = false ∨ sv = false ∨ vv = false ∨ p.fns.all sgS = false) := by rw [e1, e2]
    simp only [e3]
  have kl : ∀ W, Fr (fun _ => False) w W → Calls Tryz.prog 34 #[.slice a2 nl c2'] W fun e w' => e = .returned (.bool lv) ∧ Fr (fun _ => False) W w' := fun W f1 => by rw [hlv]; exact allof_any a2 nl c2' f.loc W hnl.symm (h.loc.keep f1)
  have kvv : ∀ W, Fr (fun _ => False) w W → Calls Tryz.prog 34 #[.slice a5 nv c5'] W fun e w' => e = .returned (.bool vv) ∧ Fr (fun _ => False) W w' := fun W f1 => by rw [hvv]; exact allof_any a5 nv c5' p.vars W hnv.symm (h.vars.keep f1)
  have ksg : ∀ W, Fr (fun _ => False) w W → Calls Tryz.prog 35 #[.agg #[.slice a0 np c0', ci f.sg.res]] W fun e w' => e = .returned (.bool sv) ∧ Fr (fun _ => False) W w' := fun W f1 => by rw [hsv]; exact rsig_any f.sg _ W ⟨a0, c0', by rw [hnp], h.ps.keep f1⟩
  have ke : np ≤ nl → ∀ W, Fr (fun _ => False) w W → Calls Tryz.prog 33 #[.slice a2 np c2', .slice a0 np c0'] W fun e w' => e = .returned (.bool ev) ∧ Fr (fun _ => False) W w' := fun hle W f1 => by rw [hev]; exact equal_ints a2 a0 c2' c0' np nl f.loc f.sg.ps hnl hnp hle W (h.loc.keep f1) (h.ps.keep f1)
  have hfns : Hidden (SgL w a4 c4' p.fns) := h.fns
  have hnfH : Hidden (p.fns.length = nf) := hnf
  have hcf : nf ≤ c4' := by rw [← hnf]; exact h.fns.1
  have hcfm : c4' ≤ 9223372036854775807 := by have := h.fns.2.1; simpa [maxLen] using this
  have hcl : nl ≤ c2' := by rw [← hnl]; exact h.loc.1
  have hclm : c2' ≤ 9223372036854775807 := cap_le h.loc
  generalize f.sg.res = r at *
  generalize p.fns = fns at *
  generalize outS f p = O at hO ⊢
  have keN : nl = 0 → np = 0 → ∀ W (a' : Option Addr), Calls Tryz.prog 33 #[.slice a' 0 c2', .slice a0 0 c0'] W fun e w' => e = .returned (.bool ev) ∧ Fr (fun _ => False) W w' := fun h1 h2 W a' => by
    have := Tryz.slices_Equal_int_empty a' a0 c2' 0 c0' W (by decide)
    have e : ev = true := by
      rw [hev, h2]
      have : f.sg.ps = [] := List.length_eq_zero_iff.1 (by omega)
      rw [this]
      simp
    rw [e]
    exact this.mono (fun e w' h => ⟨h.1, by rw [h.2]; exact Fr.refl _ _⟩)
  have ha2 : nl ≠ 0 → ∃ b o, a2 = some ⟨b, o, none⟩ := fun h0 => by
    obtain ⟨b, o, e, _⟩ := h.loc.2.2.2.resolve_left (by intro e; rw [e] at hnl; simp at hnl; omega)
    exact ⟨b, o, e⟩
  clear h hev hlv hsv hvv
  by_cases hbig : 8 < np ∨ 64 < nl ∨ 4096 < n
  · have hO2 : Hidden (O = 3) := by have := (show O = _ from hO); rw [if_pos hbig] at this; exact this
    clear hO
    by_cases h1 : 8 < np
    · have b1 : decide (8 < (np : Int)) = true := by simp; omega
      clear hbig h1
      go_enter Tryz.func21, Tryz.ntmps21
      go_wp2_with fail
      go_ret
      rw [show O = 3 from hO2]
      exact ⟨rfl, ((Fr.alloc _ _ _).same (Fr.alloc _ _ _)).same (Fr.alloc _ _ _)⟩
    have b1 : decide (8 < (np : Int)) = false := by simp; omega
    by_cases h2 : 64 < nl
    · have b2 : decide (64 < (nl : Int)) = true := by simp; omega
      clear hbig h1 h2
      go_enter Tryz.func21, Tryz.ntmps21
      go_wp2_with fail
      go_ret
      rw [show O = 3 from hO2]
      exact ⟨rfl, ((Fr.alloc _ _ _).same (Fr.alloc _ _ _)).same (Fr.alloc _ _ _)⟩
    have b2 : decide (64 < (nl : Int)) = false := by simp; omega
    have b3 : decide (4096 < (n : Int)) = true := by simp; omega
    clear hbig h1 h2
    go_enter Tryz.func21, Tryz.ntmps21
    go_wp2_with fail
    go_ret
    rw [show O = 3 from hO2]
    exact ⟨rfl, ((Fr.alloc _ _ _).same (Fr.alloc _ _ _)).same (Fr.alloc _ _ _)⟩
  · have b1 : decide (8 < (np : Int)) = false := by simp; omega
    have b2 : decide (64 < (nl : Int)) = false := by simp; omega
    have b3 : decide (4096 < (n : Int)) = false := by simp; omega
    have hO2 : Hidden (O = if n = 0 ∨ nl < np ∨ ev = false ∨ lv = false ∨ sv = false ∨ vv = false ∨ fns.all sgS = false then 51 else 0) := by have := (show O = _ from hO); rw [if_neg hbig] at this; exact this
    clear hO hbig
    go_enter Tryz.func21, Tryz.ntmps21
    go_upto_region 4 with fail
    obtain ⟨V, hV⟩ : ∃ V, V = ((w.alloc (.cells #[.slice a0 np c0', ci r, .slice a2 nl c2', .slice a3 n c3'] 37 (0, 0))).alloc (.cells #[.slice a4 nf c4', .slice a5 nv c5'] 41 (0, 0))).alloc (.cells #[.slice a0 np c0', ci r] 34 (0, 0)) := ⟨_, rfl⟩
    have fV : Fr (fun _ => False) w V := by rw [hV]; exact ((Fr.alloc _ _ _).same (Fr.alloc _ _ _)).same (Fr.alloc _ _ _)
    obtain ⟨c0, c1, c2, c3⟩ := box4 (show V.heap[w.heap.size]? = some (.cells #[.slice a0 np c0', ci r, .slice a2 nl c2', .slice a3 n c3'] 37 (0, 0)) by rw [hV]; exact (Fr.alloc (fun _ => False) _ _).heap (heap_alloc2_old _ _ _) (fun f => f))
    have hb2 : V.heap[w.heap.size + 1]? = some (.cells #[.slice a4 nf c4', .slice a5 nv c5'] 41 (0, 0)) := by rw [hV]; exact (Fr.alloc (fun _ => False) _ _).heap (heap_alloc2_new _ _ _) (fun f => f)
    have d0 : V.cell? ⟨w.heap.size + 1, 0, none⟩ = some (.slice a4 nf c4') := cell_of_row _ _ 0 _ _ _ hb2
    have d1 : V.cell? ⟨w.heap.size + 1, 1, none⟩ = some (.slice a5 nv c5') := cell_of_row _ _ 1 _ _ _ hb2
    have hb3 : V.heap[w.heap.size + 1 + 1]? = some (.cells #[.slice a0 np c0', ci r] 34 (0, 0)) := by rw [hV]; exact alloc_at _ _ _ (by simp)
    have e0 : V.cell? ⟨w.heap.size + 1 + 1, 0, none⟩ = some (.slice a0 np c0') := cell_of_row _ _ 0 _ _ _ hb3
    have e1 : V.cell? ⟨w.heap.size + 1 + 1, 1, none⟩ = some (ci r) := cell_of_row _ _ 1 _ _ _ hb3
    have fVH : Hidden (Fr (fun _ => False) w V) := fV
    rw [← hV]
    have keV : np ≤ nl → ∀ W, Fr (fun _ => False) V W → _ := fun hh W hW => ke hh W (fV.same hW)
    clear hV hb2 hb3 fV ke b1 b2 b3
    generalize w.heap.size = G at *
    go_cut [27] (fun c wx => c = .bool (decide (n = 0 ∨ nl < np ∨ ev = false)) ∧ Fr (fun _ => False) V wx)
    case first =>
      refine wp_region_grow (by kernel_rfl) (by kernel_rfl) ?_
      by_cases hn0 : n = 0
      · subst hn0
        (repeat (first | (refine grow_op (v := ?_) ?_ ?_ ?_; rotate_left; (focus (first | exact wanted_none rfl | (go_simp; done))); (focus (intro w' hw'; have c0 := hw'.cellN c0; have c1 := hw'.cellN c1; have c2 := hw'.cellN c2; have c3 := hw'.cellN c3; have e0 := hw'.cellN e0; have e1 := hw'.cellN e1; (go_simp; with_reducible rfl))); (intro a' ha; simp only [Act.put, List.setIfInBounds_toArray, List.set_cons_zero, List.set_cons_succ] at ha; subst ha)) | (refine grow_no ?_ ?_; (focus (first | (go_simp; done) | rfl)); (intro a' ha; simp only [Act.put, List.setIfInBounds_toArray, List.set_cons_zero, List.set_cons_succ] at ha; subst ha)))); refine grow_nil ?_; intro w3 k3
        go_wp2_with fail
        go_meet
        exact ⟨by simp, k3⟩
      have bn : ((n : Int) == 0) = false := by rw [beq_eq_false_iff_ne]; omega
      by_cases hlt : nl < np
      · have bl : decide ((nl : Int) < (np : Int)) = true := by simp; omega
        have bl2 : decide (nl < np) = true := by simp; omega
        (repeat (first | (refine grow_op (v := ?_) ?_ ?_ ?_; rotate_left; (focus (first | exact wanted_none rfl | (go_simp; done))); (focus (intro w' hw'; have c0 := hw'.cellN c0; have c1 := hw'.cellN c1; have c2 := hw'.cellN c2; have c3 := hw'.cellN c3; have e0 := hw'.cellN e0; have e1 := hw'.cellN e1; (go_simp; with_reducible rfl))); (intro a' ha; simp only [Act.put, List.setIfInBounds_toArray, List.set_cons_zero, List.set_cons_succ] at ha; subst ha)) | (refine grow_no ?_ ?_; (focus (first | (go_simp; done) | rfl)); (intro a' ha; simp only [Act.put, List.setIfInBounds_toArray, List.set_cons_zero, List.set_cons_succ] at ha; subst ha)))); refine grow_nil ?_; intro w3 k3
        go_wp2_with fail
        go_meet
        exact ⟨by simp [hlt], k3⟩
      have bl : decide ((nl : Int) < (np : Int)) = false := by simp; omega
      have bl2 : decide (nl < np) = false := by simp; omega
      have hfin : Hidden (decide (n = 0 ∨ nl < np ∨ ev = false) = !ev) := by show _ = _; simp [hn0, hlt]
      by_cases hz : nl = 0
      · have hz2 : np = 0 := by omega
        have keN2 := keN hz hz2
        subst hz
        subst hz2
        clear keN keV hn0 hlt
        have hnn : (0 : Int) ≤ (c2' : Int) := by omega
        rcases a2 with _ | ⟨b, o, sl⟩
        · (repeat (first | (refine grow_op (v := ?_) ?_ ?_ ?_; rotate_left; (focus (first | exact wanted_none rfl | (go_simp; done))); (focus (intro w' hw'; have c0 := hw'.cellN c0; have c1 := hw'.cellN c1; have c2 := hw'.cellN c2; have c3 := hw'.cellN c3; have e0 := hw'.cellN e0; have e1 := hw'.cellN e1; (go_simp; first | with_reducible rfl | (go_at_call 33; refine calls_grow hw' ?_; first | (have q := keN2 w' none; with_reducible exact q))))); (intro a' ha; simp only [Act.put, List.setIfInBounds_toArray, List.set_cons_zero, List.set_cons_succ] at ha; subst ha)) | (refine grow_no ?_ ?_; (focus (first | (go_simp; done) | rfl)); (intro a' ha; simp only [Act.put, List.setIfInBounds_toArray, List.set_cons_zero, List.set_cons_succ] at ha; subst ha)))); refine grow_nil ?_; intro w3 k3
          go_wp2_with fail
          go_meet
          exact ⟨congrArg Value.bool (show _ = _ from hfin).symm, k3⟩
        · (repeat (first | (refine grow_op (v := ?_) ?_ ?_ ?_; rotate_left; (focus (first | exact wanted_none rfl | (go_simp; done))); (focus (intro w' hw'; have c0 := hw'.cellN c0; have c1 := hw'.cellN c1; have c2 := hw'.cellN c2; have c3 := hw'.cellN c3; have e0 := hw'.cellN e0; have e1 := hw'.cellN e1; (go_simp; first | with_reducible rfl | (go_at_call 33; refine calls_grow hw' ?_; first | (have q := keN2 w' (some ⟨b, o, sl⟩); with_reducible exact q))))); (intro a' ha; simp only [Act.put, List.setIfInBounds_toArray, List.set_cons_zero, List.set_cons_succ] at ha; subst ha)) | (refine grow_no ?_ ?_; (focus (first | (go_simp; done) | rfl)); (intro a' ha; simp only [Act.put, List.setIfInBounds_toArray, List.set_cons_zero, List.set_cons_succ] at ha; subst ha)))); refine grow_nil ?_; intro w3 k3
          go_wp2_with fail
          go_meet
          exact ⟨congrArg Value.bool (show _ = _ from hfin).symm, k3⟩
      · obtain ⟨b, o, rfl⟩ := ha2 hz
        have keV2 := keV (by omega)
        have hnn : (np : Int) ≤ (c2' : Int) := by omega
        clear keN keV hn0 hlt hz
        (repeat (first | (refine grow_op (v := ?_) ?_ ?_ ?_; rotate_left; (focus (first | exact wanted_none rfl | (go_simp; done))); (focus (intro w' hw'; have c0 := hw'.cellN c0; have c1 := hw'.cellN c1; have c2 := hw'.cellN c2; have c3 := hw'.cellN c3; have e0 := hw'.cellN e0; have e1 := hw'.cellN e1; (go_simp; first | with_reducible rfl | (go_at_call 33; refine calls_grow hw' ?_; first | (have q := keV2 w' hw'; with_reducible exact q))))); (intro a' ha; simp only [Act.put, List.setIfInBounds_toArray, List.set_cons_zero, List.set_cons_succ] at ha; subst ha)) | (refine grow_no ?_ ?_; (focus (first | (go_simp; done) | rfl)); (intro a' ha; simp only [Act.put, List.setIfInBounds_toArray, List.set_cons_zero, List.set_cons_succ] at ha; subst ha)))); refine grow_nil ?_; intro w3 k3
        go_wp2_with fail
        go_meet
        exact ⟨congrArg Value.bool (show _ = _ from hfin).symm, k3⟩
    case rest =>
      obtain ⟨rfl, fc⟩ := hcut
      by_cases hbad : n = 0 ∨ nl < np ∨ ev = false
      · rw [decide_eq_true hbad]
        have hO3 : Hidden (O = 51) := by
          have := (show O = _ from hO2)
          rw [if_pos (by rcases hbad with e | e | e; exact Or.inl e; exact Or.inr (Or.inl e); exact Or.inr (Or.inr (Or.inl e)))] at this
          exact this
        clear hbad hO2
        go_wp2_with fail
        go_ret
        rw [show O = 51 from hO3]
        exact ⟨rfl, (show Fr (fun _ => False) w V from fVH).same fc⟩
      · rw [decide_eq_false hbad]
        have hO3 : Hidden (O = if lv = false ∨ sv = false ∨ vv = false ∨ fns.all sgS = false then 51 else 0) := by
          have := (show O = _ from hO2)
          rw [this]
          congr 1
          simp only [not_or] at hbad
          apply propext
          constructor
          · rintro (e | e | e | e)
            · exact absurd e hbad.1
            · exact absurd e hbad.2.1
            · exact absurd e hbad.2.2
            · exact e
          · intro e; exact Or.inr (Or.inr (Or.inr e))
        replace c0 := fc.cellN c0
        replace c1 := fc.cellN c1
        replace c2 := fc.cellN c2
        replace c3 := fc.cellN c3
        replace d0 := fc.cellN d0
        replace d1 := fc.cellN d1
        replace e0 := fc.cellN e0
        replace e1 := fc.cellN e1
        have fwc : Hidden (Fr (fun _ => False) w wc) := (show Fr (fun _ => False) w V from fVH).same fc
        clear hbad hO2 keV keN ha2 fc
        have klc : ∀ W, Fr (fun _ => False) wc W → _ := fun W hW => kl W ((show Fr (fun _ => False) w wc from fwc).same hW)
        have ksc : ∀ W, Fr (fun _ => False) wc W → _ := fun W hW => ksg W ((show Fr (fun _ => False) w wc from fwc).same hW)
        have kvc : ∀ W, Fr (fun _ => False) wc W → _ := fun W hW => kvv W ((show Fr (fun _ => False) w wc from fwc).same hW)
        clear kl ksg kvv
        cases lv
        · have hO51 : Hidden (O = 51) := by
            have := (show O = _ from hO3)
            rw [if_pos (Or.inl rfl)] at this
            exact this
          clear hO3
          go_wp2_with (first
            | (go_at_call 34; refine (klc _ (Fr.refl _ _)).mono ?_; rintro e w4 ⟨rfl, f4⟩))
          go_ret
          rw [show O = 51 from hO51]
          exact ⟨rfl, (show Fr (fun _ => False) w wc from fwc).same f4⟩
        cases sv
        · have hO51 : Hidden (O = 51) := by
            have := (show O = _ from hO3)
            rw [if_pos (Or.inr (Or.inl rfl))] at this
            exact this
          clear hO3
          go_wp2_with (first
            | (go_at_call 34; refine (klc _ (Fr.refl _ _)).mono ?_; rintro e w4 ⟨rfl, f4⟩
               replace e0 := f4.cellN e0
               replace e1 := f4.cellN e1)
            | (go_at_call 35; refine (ksc _ f4).mono ?_; rintro e w5 ⟨rfl, f5⟩))
          go_ret
          rw [show O = 51 from hO51]
          exact ⟨rfl, ((show Fr (fun _ => False) w wc from fwc).same f4).same f5⟩
        cases vv
        · have hO51 : Hidden (O = 51) := by
            have := (show O = _ from hO3)
            rw [if_pos (Or.inr (Or.inr (Or.inl rfl)))] at this
            exact this
          clear hO3
          go_wp2_with (first
            | (go_at_call 34
               first
                 | (have qq := f5; refine (kvc _ (Fr.same f4 f5)).mono ?_; rintro e w6 ⟨rfl, f6⟩)
                 | (refine (klc _ (Fr.refl _ _)).mono ?_; rintro e w4 ⟨rfl, f4⟩
                    replace d1 := f4.cellN d1
                    replace e0 := f4.cellN e0
                    replace e1 := f4.cellN e1))
            | (go_at_call 35; refine (ksc _ f4).mono ?_; rintro e w5 ⟨rfl, f5⟩
               replace d1 := f5.cellN d1))
          go_ret
          rw [show O = 51 from hO51]
          exact ⟨rfl, (((show Fr (fun _ => False) w wc from fwc).same f4).same f5).same f6⟩
        have hO4 : Hidden (O = if fns.all sgS = false then 51 else 0) := by
          have := (show O = _ from hO3)
          rw [this]
          congr 1
          simp
        clear hO3
        go_wp2_with (first
          | (go_at_call 34
             first
               | (have qq := f5; refine (kvc _ (Fr.same f4 f5)).mono ?_; rintro e w6 ⟨rfl, f6⟩
                  replace d0 := f6.cellN d0)
               | (refine (klc _ (Fr.refl _ _)).mono ?_; rintro e w4 ⟨rfl, f4⟩
                  replace d0 := f4.cellN d0
                  replace d1 := f4.cellN d1
                  replace e0 := f4.cellN e0
                  replace e1 := f4.cellN e1))
          | (go_at_call 35; refine (ksc _ f4).mono ?_; rintro e w5 ⟨rfl, f5⟩
             replace d0 := f5.cellN d0
             replace d1 := f5.cellN d1))
        have fw6 : Hidden (Fr (fun _ => False) w w6) := (((show Fr (fun _ => False) w wc from fwc).same f4).same f5).same f6
        clear klc ksc kvc f4 f5 f6 c0 c1 c2 c3 d0 d1 e0 e1 fwc fVH
        go_loopg [72] nf (fun k iv wr => ∃ j : Nat, iv = .int .i64 (j : Int) ∧ j ≤ nf ∧ k = nf - j ∧ (fns.take j).all sgS = true ∧ Fr (fun _ => False) w wr)
        case atStart => exact ⟨0, rfl, by omega, rfl, by simp, fw6⟩
        case round =>
          obtain ⟨j, rfl, hj, hk, hall, hfr⟩ := hrel
          have hkH : Hidden (gk = nf - j) := hk
          have hallH : Hidden ((fns.take j).all sgS = true) := hall
          have hfrH : Hidden (Fr (fun _ => False) w wr) := hfr
          clear hk hall
          by_cases hjl : j < nf
          · have hjl2 : (j : Int) < (nf : Int) := by omega
            obtain ⟨x, hx⟩ : ∃ x, fns[j]? = some x := ⟨_, List.getElem?_eq_getElem (by have : fns.length = nf := hnfH; omega)⟩
            obtain ⟨b, off, rfl, hcs⟩ := (show SgL w a4 c4' fns from hfns).2.2.2.resolve_left (by rintro rfl; simp at hx)
            obtain ⟨ap, cp, hI, q0, q1⟩ := hcs j x hx
            replace q0 := hfr.cellN q0
            replace q1 := hfr.cellN q1
            have hIr := hI.keep hfr
            have hnext : Hidden ((fns.take (j + 1)).all sgS = ((fns.take j).all sgS && sgS x)) := by show _ = _; rw [List.take_add_one, hx]; simp
            have hmem : Hidden (x ∈ fns) := List.mem_of_getElem? hx
            have kr : ∀ W, Fr (fun _ => False) wr W → Calls Tryz.prog 35 #[.agg #[.slice ap x.ps.length cp, ci x.res]] W fun e w' => e = .returned (.bool (sgS x)) ∧ Fr (fun _ => False) W w' := fun W hW => rsig_any x _ W ⟨ap, cp, rfl, hIr.keep hW⟩
            obtain ⟨m, hm⟩ : ∃ m, m = x.ps.length := ⟨_, rfl⟩
            obtain ⟨xr, hxr⟩ : ∃ z, z = x.res := ⟨_, rfl⟩
            rw [← hm] at q0 kr
            rw [← hxr] at q1 kr
            cases hsx : sgS x
            · rw [hsx] at kr
              have hO5 : Hidden (O = 51) := by
                have := (show O = _ from hO4)
                rw [if_pos] at this
                · exact this
                · rw [Bool.eq_false_iff]
                  intro e
                  have := List.all_eq_true.1 e x hmem
                  rw [hsx] at this
                  cases this
              clear hx hcs hI hIr hfr hm hxr hsx hO4
              go_wp2_with (first
                | (go_at_call 35; refine (kr _ (Fr.alloc _ _ _)).mono ?_; rintro e w7 ⟨rfl, f7⟩))
              go_ret
              rw [show O = 51 from hO5]
              exact ⟨rfl, ((show Fr (fun _ => False) w wr from hfrH).same (Fr.alloc _ _ _)).same f7⟩
            · rw [hsx] at kr
              have hnext2 : Hidden ((fns.take (j + 1)).all sgS = true) := by show _ = _; rw [show (fns.take (j + 1)).all sgS = _ from hnext, show (fns.take j).all sgS = true from hallH, hsx]; rfl
              clear hx hcs hI hIr hfr hm hxr hsx hnext
              go_wp2_with (first
                | (go_at_call 35; refine (kr _ (Fr.alloc _ _ _)).mono ?_; rintro e w7 ⟨rfl, f7⟩))
              go_roundg (nf - (j + 1))
              case measure => have : gk = nf - j := hkH; omega
              case rel => exact ⟨j + 1, by go_num, by omega, rfl, hnext2, ((show Fr (fun _ => False) w wr from hfrH).same (Fr.alloc _ _ _)).same f7⟩
          · obtain rfl : j = nf := by omega
            have hO5 : Hidden (O = 0) := by
              have h1 : fns.length = j := hnfH
              have h2 : (fns.take j).all sgS = true := hallH
              rw [List.take_of_length_le (by omega)] at h2
              have h3 := (show O = _ from hO4)
              rw [h2, if_neg (by decide)] at h3
              exact h3
            clear hfr hjl
            go_wp2_with fail
            go_ret
            rw [show O = 0 from hO5]
            exact ⟨rfl, hfrH⟩
end Go.Proofs.YtnmcehpdiopaiaaGreatDoor.Cd

namespace Go.Proofs.YtnmcehpdiopaiaaGreatDoor.Cd
open Go.RowKit Ty
set_option linter.unusedSimpArgs false
set_option linter.unusedVariables false

variable {w : World} {f : Fu} {p : Fm} {q gs ga n k b3 o3 c2 c3 c4 c5 : Nat} {v0 : Value} {a2 a4 a5 : Option Addr} {L : Cs} {s : Sp} {g : Bool}
theorem wyT_way (K : Nat) (t b : Int) (hn : f.cd.length = n) (hkn : k < n) (hi : f.cd.getD k default = ⟨15, (K : Int), t, b⟩) (hov : s.tr.length ≤ 32) (hsl : s.st.length ≤ 512) :
    wyT k n (decide (K < n)) K s = ((wayS f p k s).1, (wayS f p k s).2.map fun x => ((x.1 : Int), x.2)) := by
  have est : stepS f p (f.cd.getD k default) s = some (some ⟨s.st, s.tr ++ [((K : Int), s.st)]⟩, some ⟨s.st ++ [1], s.tr⟩) := by rw [hi]; simp [stepS]
  have o1 : anyO (some ⟨s.st, s.tr ++ [((K : Int), s.st)]⟩) = decide (s.tr.length = 32) := by
    show over _ = _
    unfold over
    simp
    rw [Bool.eq_iff_iff]
    simp
    omega
  have o2 : anyO (some ⟨s.st ++ [1], s.tr⟩) = decide (s.st.length = 512) := by
    show over _ = _
    unfold over
    simp
    rw [Bool.eq_iff_iff]
    simp
    omega
  unfold wayS wyT
  rw [est, hi, hn]
  simp only [o1, o2, Option.isSome_some, Bool.true_and]
  by_cases h1 : K < n
  · have e1 : decide (K < n) = true := by simpa using h1
    have e2 : decide ((n : Int) ≤ (K : Int)) = false := by simp; omega
    rw [e1, e2]
    by_cases h2 : k + 1 = n
    · have e3 : decide (n ≤ k + 1) = true := by simp; omega
      rw [if_pos (Or.inr h2), e3]
      rfl
    · have e4 : decide (n ≤ k + 1) = false := by simp; omega
      rw [if_neg (by rintro (e | e); cases e; exact h2 e), e4]
      by_cases h3 : s.tr.length = 32 ∨ s.st.length = 512
      · rw [if_pos h3]
        have : (decide (s.tr.length = 32) || decide (s.st.length = 512)) = true := by simpa using h3
        simp [this]
      · rw [if_neg h3]
        have : (decide (s.tr.length = 32) || decide (s.st.length = 512)) = false := by
          rw [Bool.or_eq_false_iff]
          constructor
          · simp; intro e; exact h3 (Or.inl e)
          · simp; intro e; exact h3 (Or.inr e)
        simp [this]
  · have e1 : decide (K < n) = false := by simpa using h1
    have e2 : decide ((n : Int) ≤ (K : Int)) = true := by simp; omega
    rw [e1, e2, if_pos (Or.inl rfl)]
    simp
theorem wyU_way (N t b : Int) (hn : f.cd.length = n) (hkn : k < n) (hi : f.cd.getD k default = ⟨16, N, t, b⟩) (hov : s.tr.length ≤ 32) (hsl : s.st.length ≤ 512) :
    wyU k n s = ((wayS f p k s).1, (wayS f p k s).2.map fun x => ((x.1 : Int), x.2)) := by
  have est : stepS f p (f.cd.getD k default) s = if s.tr = [] then none else some (some ⟨s.st, s.tr.dropLast⟩, none) := by rw [hi]; simp [stepS]
  unfold wayS wyU
  rw [est]
  by_cases h0 : s.tr = []
  · rw [if_pos h0, if_pos (Or.inr (by rw [h0]; rfl))]
    rfl
  · rw [if_neg h0, hn]
    have h0' : s.tr.length ≠ 0 := fun e => h0 (List.length_eq_zero_iff.1 e)
    have o1 : anyO (some ⟨s.st, s.tr.dropLast⟩) = false := by
      show over _ = _
      unfold over
      simp
      omega
    simp only [o1]
    by_cases h2 : k + 1 = n
    · have e3 : decide (n ≤ k + 1) = true := by simp; omega
      rw [if_pos (Or.inl h2), e3]
      rfl
    · have e3 : decide (n ≤ k + 1) = false := by simp; omega
      rw [if_neg (by rintro (e | e); exact h2 e; exact h0' e), e3]
      rfl
theorem ct_lens (c : Ct w f p q gs ga n k b3 o3 c2 c3 c4 c5 v0 a2 a4 a5 L s g) : k < n ∧ s.st.length ≤ 512 ∧ s.tr.length ≤ 32 := ⟨by rw [← c.wk.len]; exact (List.getElem?_eq_some_iff.1 c.at').1, over_len c.ov⟩
theorem tz_len {s : Sp} (h : Tz s) (hl : s.tr.length ≤ 32) : (encTr s.tr).length ≤ 1000000 := by have := encTr_len s.tr h; omega
theorem kw_15 (c : Ct w f p q gs ga n k b3 o3 c2 c3 c4 c5 v0 a2 a4 a5 L s g) (hz : Tz s) (N t b : Int) (hi : f.cd.getD k default = ⟨15, N, t, b⟩) : KW w f p q k s := by
  obtain ⟨K, rfl⟩ := n_nat c hi
  obtain ⟨h1, h2, h3⟩ := ct_lens c
  have hN := right_n c.right
  rw [hi] at hN
  have hcell := c.cell
  rw [hi] at hcell
  have hs := site_of c
  have kk := ways_t q gs ga n k b3 o3 c3 v0 (ci f.sg.res) (.slice a2 f.loc.length c2) (.slice a4 p.fns.length c4) (.slice a5 p.vars.length c5) L s g K t b (byR 15) (lo 15) (Cd.hi 15) (taR 15) (puR 15) (nmR 15) (decide (K < n)) w c.wk c.at' (by have := c.n1; omega) c.le c.le2
    (hcell 0 _ rfl) (hcell 1 _ rfl) (hcell 2 _ rfl) (hcell 3 _ rfl) h3 h2 (by unfold D.I64; simp only [] at hN; omega) (tz_len hz h3) c.tab
    (fun W => row_is 15 W)
    (fun W hW => by
      have := has_any q v0 f.sg.res a2 (some ⟨b3, o3, none⟩) a4 a5 f.loc.length n p.fns.length p.vars.length c2 c3 c4 c5 15 K t b 4 (by decide) W (hs.keep hW)
      rw [has_4] at this
      exact this)
    (fun _ W hW => by
      have := behind_told q 15 K t b (byR 15) (lo 15) (Cd.hi 15) (nuR 15) (taR 15) (puR 15) (trR 15) (nmR 15) (enR 15) s.st [] [] c.ok.st vd_nil vd_nil (by omega) (by simp) (by decide) (by decide) (by decide) W (fun W' _ => tell_none q 15 K t b _ (by decide) W') (fun W' _ => tell_none q 15 K t b _ (by decide) W')
      rw [behT_some (tk_nil _), List.append_nil] at this
      exact this)
  rw [wyT_way K t b c.len h1 hi h3 h2] at kk
  exact kk
theorem kw_16 (c : Ct w f p q gs ga n k b3 o3 c2 c3 c4 c5 v0 a2 a4 a5 L s g) (hz : Tz s) (N t b : Int) (hi : f.cd.getD k default = ⟨16, N, t, b⟩) : KW w f p q k s := by
  obtain ⟨h1, h2, h3⟩ := ct_lens c
  have hcell := c.cell
  rw [hi] at hcell
  have hs := site_of c
  have kk := ways_u q gs ga n k b3 o3 c3 v0 (ci f.sg.res) (.slice a2 f.loc.length c2) (.slice a4 p.fns.length c4) (.slice a5 p.vars.length c5) L s g N t b (byR 16) (lo 16) (Cd.hi 16) (taR 16) (puR 16) (nmR 16) w c.wk c.at' (by have := c.n1; omega) c.le c.le2
    (hcell 0 _ rfl) (hcell 1 _ rfl) (hcell 2 _ rfl) (hcell 3 _ rfl) h3 h2 (tz_len hz h3) c.ok
    (fun W => row_is 16 W)
    (fun W hW => has_any q v0 f.sg.res a2 (some ⟨b3, o3, none⟩) a4 a5 f.loc.length n p.fns.length p.vars.length c2 c3 c4 c5 16 N t b 0 (by decide) W (hs.keep hW))
    (fun W hW => by
      have := behind_told q 16 N t b (byR 16) (lo 16) (Cd.hi 16) (nuR 16) (taR 16) (puR 16) (trR 16) (nmR 16) (enR 16) s.st [] [] c.ok.st vd_nil vd_nil (by omega) (by simp) (by decide) (by decide) (by decide) W (fun W' _ => tell_none q 16 N t b _ (by decide) W') (fun W' _ => tell_none q 16 N t b _ (by decide) W')
      rw [behT_some (tk_nil _), List.append_nil] at this
      exact this)
  rw [wyU_way (p := p) N t b c.len h1 hi h3 h2] at kk
  exact kk
/-- Where every instruction leads. -/
theorem kw_all (c : Ct w f p q gs ga n k b3 o3 c2 c3 c4 c5 v0 a2 a4 a5 L s g) (hz : Tz s) (hps : ∀ g ∈ p.fns, g.ps.length ≤ 17592186044416) : KW w f p q k s := by
  obtain ⟨i, hi⟩ : ∃ i, f.cd.getD k default = i := ⟨_, rfl⟩
  have hr := right_parts c.right
  rw [hi] at hr
  obtain ⟨op, N, t, b⟩ := i
  have hk : 1 ≤ op ∧ op ≤ 17 := by simpa [known] using hr.1
  have hcell := c.cell
  have hr1 := c.right
  rw [hi] at hcell hr1
  have : op = 1 ∨ op = 2 ∨ op = 3 ∨ op = 4 ∨ op = 5 ∨ op = 6 ∨ op = 7 ∨ op = 8 ∨ op = 9 ∨ op = 10 ∨ op = 11 ∨ op = 12 ∨ op = 13 ∨ op = 14 ∨ op = 15 ∨ op = 16 ∨ op = 17 := by omega
  rcases this with rfl | rfl | rfl | rfl | rfl | rfl | rfl | rfl | rfl | rfl | rfl | rfl | rfl | rfl | rfl | rfl | rfl
  · exact kw_push f p q gs ga n k b3 o3 c2 c3 c4 c5 v0 a2 a4 a5 L s g _ w c.wk c.at' c.n1 c.le c.le2 c.len hcell hi hr1 c.ov c.ok rfl
  · exact kw_2 c N t b hi
  · exact kw_3 c N t b hi
  · exact kw_4 c N t b hi
  · exact kw_5 c N t b hi
  · exact kw_6 c N t b hi
  · exact kw_7 c N t b hi
  · exact kw_8 c N t b hi
  · exact kw_9 c N t b hi
  · exact kw_10 c hps N t b hi
  · exact kw_ret f p q gs ga n k b3 o3 c2 c3 c4 c5 v0 a2 a4 a5 L s g _ w c.wk c.at' c.n1 c.le c.le2 c.len hcell hi hr1 c.ov c.ok rfl c.okF.res
  · exact kw_12 c 12 N t b (Or.inl rfl) hi
  · exact kw_13 c N t b hi
  · exact kw_14 c N t b hi
  · exact kw_15 c hz N t b hi
  · exact kw_16 c hz N t b hi
  · exact kw_12 c 17 N t b (Or.inr rfl) hi
end Go.Proofs.YtnmcehpdiopaiaaGreatDoor.Cd

namespace Go.Proofs.YtnmcehpdiopaiaaGreatDoor.Cd
open Go.RowKit Ty
set_option linter.unusedSimpArgs false
set_option linter.unusedVariables false

/-- The first instruction that is not right. -/
def badI (f : Fu) : Int := idxP (fun i => !rightS i) f.cd 0
def runS (f : Fu) (p : Fm) : Rs := (goS f p (f.cd.length + 1) (startS f.cd.length)).getD (.er 0 0)
/-- The place and the error. -/
def verS (f : Fu) (p : Fm) : Int × Int := if outS f p ≠ 0 then (0, outS f p) else if 0 ≤ badI f then (badI f, 51) else (placeS (runS f p), errS (runS f p))
def okR : Rs → Option Cs
  | .ok L => some L
  | .er _ _ => none
/-- The shapes, where the function is right. -/
def finS (f : Fu) (p : Fm) : Option Cs := if outS f p ≠ 0 then none else if 0 ≤ badI f then none else okR (runS f p)
theorem run_some (f : Fu) (p : Fm) : goS f p (f.cd.length + 1) (startS f.cd.length) = some (runS f p) := by
  obtain ⟨R, hR⟩ := goS_all f p (f.cd.length + 1) (startS f.cd.length) (by have := notgone_le (startS f.cd.length); simp [startS] at this ⊢; omega)
  unfold runS
  rw [hR]
  rfl
theorem out_ok {f : Fu} {p : Fm} (h : outS f p = 0) : f.sg.ps.length ≤ 8 ∧ f.loc.length ≤ 64 ∧ f.cd.length ≤ 4096 ∧ f.cd ≠ [] ∧ OkF f p := by
  unfold outS at h
  split at h
  · cases h
  rename_i h1
  split at h
  · cases h
  rename_i h2
  simp only [not_or, Bool.not_eq_false, Nat.not_lt, ne_eq, Decidable.not_not] at h1 h2
  obtain ⟨a1, a2, a3, a4, a5, a6, a7⟩ := h2
  have sg_ok : ∀ g : Sg, sgS g = true → Vd g.ps ∧ (g.res = 0 ∨ valued g.res = true) := by
    intro g hg
    unfold sgS at hg
    simp only [Bool.and_eq_true, Bool.or_eq_true, beq_iff_eq] at hg
    exact ⟨Vd.all hg.1, hg.2⟩
  exact ⟨h1.1, h1.2.1, h1.2.2, a1, ⟨Vd.all a4, Vd.all a6, (sg_ok _ a5).2, fun g hg => sg_ok g (List.all_eq_true.1 a7 g hg)⟩⟩
theorem bad_no {f : Fu} (h : ¬ 0 ≤ badI f) : ∀ i ∈ f.cd, rightS i = true := by
  intro i hi
  rcases idxP_spec (fun i => !rightS i) f.cd 0 with ⟨h1, _, _⟩ | ⟨k, x, h1, h2, h3, _⟩
  · have := h1 i hi
    simpa using this
  · exfalso
    apply h
    unfold badI
    rw [h3]
    omega
set_option maxRecDepth 20000 in
set_option maxHeartbeats 2000000 in
theorem gone_any (f : Fu) (p : Fm) (a0 a2 a3 a4 a5 : Option Addr) (c0 c2 c3 c4 c5 : Nat) (w : World) (h : Fi w f p a0 a2 a3 a4 a5 c0 c2 c3 c4 c5) (ho : outS f p = 0) (hb : ¬ 0 ≤ badI f) :
    Calls Tryz.prog 25 #[.agg #[.slice a0 f.sg.ps.length c0, ci f.sg.res, .slice a2 f.loc.length c2, .slice a3 f.cd.length c3], .agg #[.slice a4 p.fns.length c4, .slice a5 p.vars.length c5]] w fun e w' => ∃ pv, e = .returned (.tuple #[pv, ci (placeS (runS f p)), ci (errS (runS f p))]) ∧ Fr (fun _ => False) w w' ∧ ∀ L', runS f p = .ok L' → ∃ q gs ga, pv = .pointer (some ⟨q, 0, none⟩) ∧ Wk w' q gs ga f.cd.length (.slice a0 f.sg.ps.length c0) (ci f.sg.res) (.slice a2 f.loc.length c2) (.slice a3 f.cd.length c3) (.slice a4 p.fns.length c4) (.slice a5 p.vars.length c5) L' := by
  obtain ⟨h1, h2, h3, h4, hF⟩ := out_ok ho
  have hright := bad_no hb
  have hn0 : 0 < f.cd.length := by cases hc : f.cd with | nil => exact absurd hc h4 | cons x r => simp
  obtain ⟨b3, o3, rfl, hcells⟩ := h.cd.2.2.2.resolve_left h4
  have hc3 := h.cd.1
  have hc3m : c3 ≤ 9223372036854775807 := by have := h.cd.2.1; simpa [maxLen] using this
  have hget : ∀ k : Nat, k < f.cd.length → f.cd[k]? = some (f.cd.getD k default) := fun k hk => by
    rw [List.getD_eq_getElem?_getD, List.getElem?_eq_getElem hk]
    rfl
  have hmem : ∀ k : Nat, k < f.cd.length → f.cd.getD k default ∈ f.cd := fun k hk => List.mem_of_getElem? (hget k hk)
  have hI : ∀ k : Nat, k < f.cd.length → OkI (f.cd.getD k default) := fun k hk => right_okI (hright _ (hmem k hk))
  refine gone_w f p f.cd.length c3 (some ⟨b3, o3, none⟩) (.slice a0 f.sg.ps.length c0) (ci f.sg.res) (.slice a2 f.loc.length c2) (.slice a4 p.fns.length c4) (.slice a5 p.vars.length c5) (runS f p) w h3 hn0 hc3 hc3m rfl (run_some f p) ?_ ?_ ?_
  · intro L L' k s hinv hk hrd
    have hkn : k < f.cd.length := by rw [← hinv.len]; exact (List.getElem?_eq_some_iff.1 hk).1
    exact ⟨by rw [(roundS_len hk hrd).1]; exact hinv.len, goS_ok hF hI hinv.len hinv.ok hk hrd, round_over hinv.ov hk hrd, round_tz (hright _ (hmem k hkn)) (hinv.ov _ _ _ hk) hinv.tz hk hrd⟩
  · intro q gs ga W2 L k s hW2 hwk hinv hk
    have hkn : k < f.cd.length := by rw [← hinv.len]; exact (List.getElem?_eq_some_iff.1 hk).1
    exact kw_all (L := L) (g := false) ⟨hwk, hk, h3, hc3, hc3m, rfl, fun j u hu => hW2.cellN (hcells k _ (hget k hkn) j u hu), hright _ (hmem k hkn), hinv.ov _ _ _ hk, hinv.ok _ _ _ hk, hF, h.loc.keep hW2, h.vars.keep hW2, h.fns.keep hW2, tab_fr h.tab hW2⟩ (hinv.tz _ _ _ hk) h.fps
  · intro k s hkn hos x hx
    unfold wayS at hx
    split at hx
    · simp at hx
    rename_i a b hst
    split at hx
    · simp at hx
    rename_i c1
    split at hx
    · simp at hx
    simp only [Bool.or_eq_true, not_or, Bool.not_eq_true] at c1
    have ho := step_ok hF (hI k hkn) hos hst
    simp only [List.mem_append] at hx
    rcases hx with hx | hx
    · cases a with
      | none => simp at hx
      | some y =>
        simp at hx
        subst hx
        have := c1.1
        simp at this
        exact ⟨this, ho.1 _ rfl⟩
    · cases b with
      | none => simp at hx
      | some y =>
        simp at hx
        subst hx
        have := c1.2
        simp at this
        have h0 := (hI k hkn).n
        simp only [List.getD_eq_getElem?_getD] at h0 ⊢
        exact ⟨by omega, ho.2 _ rfl⟩
set_option maxRecDepth 20000 in
set_option maxHeartbeats 2000000 in
theorem verified_any (f : Fu) (p : Fm) (a0 a2 a3 a4 a5 : Option Addr) (c0 c2 c3 c4 c5 np nl n nf nv : Nat) (hnp : f.sg.ps.length = np) (hnl : f.loc.length = nl) (hn : f.cd.length = n) (hnf : p.fns.length = nf) (hnv : p.vars.length = nv) (w : World) (h : Fi w f p a0 a2 a3 a4 a5 c0 c2 c3 c4 c5) :
    Calls Tryz.prog 13 #[.agg #[.slice a0 np c0, ci f.sg.res, .slice a2 nl c2, .slice a3 n c3], .agg #[.slice a4 nf c4, .slice a5 nv c5]] w fun e w' => ∃ pv, e = .returned (.tuple #[pv, ci (verS f p).1, ci (verS f p).2]) ∧ Fr (fun _ => False) w w' ∧ ∀ L', finS f p = some L' → ∃ q gs ga, pv = .pointer (some ⟨q, 0, none⟩) ∧ Wk w' q gs ga n (.slice a0 np c0) (ci f.sg.res) (.slice a2 nl c2) (.slice a3 n c3) (.slice a4 nf c4) (.slice a5 nv c5) L' := by
  have kon := fun W (hW : Fr (fun _ => False) w W) => outline_any f p a0 a2 a3 a4 a5 c0 c2 c3 c4 c5 np nl n nf nv hnp hnl hn hnf hnv W (h.keep hW)
  have kb : ∀ W, Fr (fun _ => False) w W → Calls Tryz.prog 24 #[.slice a3 n c3, .func (.func 22) #[] #[]] W fun e w' => e = .returned (ci (badI f)) ∧ Fr (fun _ => False) W w' := fun W hW => firstbad_any a3 n c3 f.cd W hn.symm (h.cd.keep hW) (fun i hi => (h.okI i hi).b)
  have kg : outS f p = 0 → ¬ 0 ≤ badI f → ∀ W, Fr (fun _ => False) w W → _ := fun h1 h2 W hW => gone_any f p a0 a2 a3 a4 a5 c0 c2 c3 c4 c5 W (h.keep hW) h1 h2
  rw [hnp, hnl, hn, hnf, hnv] at kg
  have hv : Hidden (verS f p = if outS f p ≠ 0 then (0, outS f p) else if 0 ≤ badI f then (badI f, 51) else (placeS (runS f p), errS (runS f p))) := rfl
  have hf : Hidden (finS f p = if outS f p ≠ 0 then none else if 0 ≤ badI f then none else okR (runS f p)) := rfl
  clear h hnp hnl hn hnf hnv
  generalize f.sg.res = rs at *
  generalize verS f p = VR at hv ⊢
  generalize finS f p = FR at hf ⊢
  generalize outS f p = O at *
  generalize badI f = B at *
  generalize runS f p = R at *
  obtain ⟨V, hV⟩ : ∃ V, V = (w.alloc (.cells #[.slice a0 np c0, ci rs, .slice a2 nl c2, .slice a3 n c3] 37 (0, 0))).alloc (.cells #[.slice a4 nf c4, .slice a5 nv c5] 41 (0, 0)) := ⟨_, rfl⟩
  have fV : Fr (fun _ => False) w V := by rw [hV]; exact (Fr.alloc _ _ _).same (Fr.alloc _ _ _)
  have b4 := box4 (show V.heap[w.heap.size]? = some (.cells #[.slice a0 np c0, ci rs, .slice a2 nl c2, .slice a3 n c3] 37 (0, 0)) by rw [hV]; exact heap_alloc2_old _ _ _)
  have hb2 : V.heap[w.heap.size + 1]? = some (.cells #[.slice a4 nf c4, .slice a5 nv c5] 41 (0, 0)) := by rw [hV]; exact heap_alloc2_new _ _ _
  have d0 : V.cell? ⟨w.heap.size + 1, 0, none⟩ = some (.slice a4 nf c4) := cell_of_row _ _ 0 _ _ _ hb2
  have d1 : V.cell? ⟨w.heap.size + 1, 1, none⟩ = some (.slice a5 nv c5) := cell_of_row _ _ 1 _ _ _ hb2
  have b4H : Hidden _ := b4
  have d0H : Hidden (V.cell? ⟨w.heap.size + 1, 0, none⟩ = some (.slice a4 nf c4)) := d0
  have d1H : Hidden (V.cell? ⟨w.heap.size + 1, 1, none⟩ = some (.slice a5 nv c5)) := d1
  have fVH : Hidden (Fr (fun _ => False) w V) := fV
  have hVH : Hidden (V = _) := hV
  clear hV fV b4 hb2 d0 d1
  by_cases hO : O = 0
  · subst hO
    by_cases hB : 0 ≤ B
    · have hBb : decide (0 ≤ B) = true := by simpa using hB
      have hv2 : Hidden (VR = (B, 51)) := by have := (show VR = _ from hv); rw [if_neg (by simp), if_pos hB] at this; exact this
      have hf2 : Hidden (FR = none) := by have := (show FR = _ from hf); rw [if_neg (by simp), if_pos hB] at this; exact this
      clear hv hf kg hB
      go_enter Tryz.func13, Tryz.ntmps13
      go_upto_region 1 with fail
      rw [← (show V = _ from hVH)]
      clear hVH
      obtain ⟨e0, e1, e2, e3⟩ := b4H
      have d0 : V.cell? ⟨w.heap.size + 1, 0, none⟩ = some (.slice a4 nf c4) := d0H
      have d1 : V.cell? ⟨w.heap.size + 1, 1, none⟩ = some (.slice a5 nv c5) := d1H
      go_wp2_with (first
        | (go_at_call 21; refine (kon _ fVH).mono ?_; rintro e w1 ⟨rfl, f1⟩
           replace e3 := f1.cellN e3)
        | (go_at_call 24; refine (kb _ ((show Fr (fun _ => False) w V from fVH).same f1)).mono ?_; rintro e w2 ⟨rfl, f2⟩))
      go_ret3
      exact ⟨_, by rw [show VR = _ from hv2]; rfl, ((show Fr (fun _ => False) w V from fVH).same f1).same f2, fun L' e => by rw [show FR = none from hf2] at e; cases e⟩
    · have hBb : decide (0 ≤ B) = false := by simpa using hB
      have kg2 := kg rfl hB
      have hv2 : Hidden (VR = (placeS R, errS R)) := by have := (show VR = _ from hv); rw [if_neg (by simp), if_neg hB] at this; exact this
      have hf2 : Hidden (FR = okR R) := by have := (show FR = _ from hf); rw [if_neg (by simp), if_neg hB] at this; exact this
      clear hv hf kg hB
      generalize hpl : placeS R = pl at kg2 hv2
      generalize her : errS R = er at kg2 hv2
      go_enter Tryz.func13, Tryz.ntmps13
      go_upto_region 1 with fail
      rw [← (show V = _ from hVH)]
      clear hVH hpl her
      obtain ⟨e0, e1, e2, e3⟩ := b4H
      have d0 : V.cell? ⟨w.heap.size + 1, 0, none⟩ = some (.slice a4 nf c4) := d0H
      have d1 : V.cell? ⟨w.heap.size + 1, 1, none⟩ = some (.slice a5 nv c5) := d1H
      go_wp2_with (first
        | (go_at_call 21; refine (kon _ fVH).mono ?_; rintro e w1 ⟨rfl, f1⟩
           replace e0 := f1.cellN e0
           replace e1 := f1.cellN e1
           replace e2 := f1.cellN e2
           replace e3 := f1.cellN e3
           replace d0 := f1.cellN d0
           replace d1 := f1.cellN d1)
        | (go_at_call 24; refine (kb _ ((show Fr (fun _ => False) w V from fVH).same f1)).mono ?_; rintro e w2 ⟨rfl, f2⟩
           replace e0 := f2.cellN e0
           replace e1 := f2.cellN e1
           replace e2 := f2.cellN e2
           replace e3 := f2.cellN e3
           replace d0 := f2.cellN d0
           replace d1 := f2.cellN d1)
        | (go_at_call 25; refine (kg2 _ (((show Fr (fun _ => False) w V from fVH).same f1).same f2)).mono ?_; rintro e w3 ⟨pv, rfl, f3, hL⟩
           have hLH : Hidden _ := hL
           clear hL))
      go_ret3
      refine ⟨pv, by rw [show VR = _ from hv2]; rfl, (((show Fr (fun _ => False) w V from fVH).same f1).same f2).same f3, fun L' e => ?_⟩
      rw [show FR = _ from hf2] at e
      cases R with
      | ok L => cases e; exact hLH _ rfl
      | er _ _ => cases e
  · have hOb : (O == 0) = false := by simpa using hO
    have hOc : (O != 0) = true := by simpa using hO
    have hv2 : Hidden (VR = (0, O)) := by have := (show VR = _ from hv); rw [if_pos hO] at this; exact this
    have hf2 : Hidden (FR = none) := by have := (show FR = _ from hf); rw [if_pos hO] at this; exact this
    clear hv hf kg hO
    go_enter Tryz.func13, Tryz.ntmps13
    go_upto_region 1 with fail
    rw [← (show V = _ from hVH)]
    clear hVH
    obtain ⟨e0, e1, e2, e3⟩ := b4H
    have d0 : V.cell? ⟨w.heap.size + 1, 0, none⟩ = some (.slice a4 nf c4) := d0H
    have d1 : V.cell? ⟨w.heap.size + 1, 1, none⟩ = some (.slice a5 nv c5) := d1H
    go_wp2_with (first
      | (go_at_call 21; refine (kon _ fVH).mono ?_; rintro e w1 ⟨rfl, f1⟩))
    go_ret3
    exact ⟨_, by rw [show VR = _ from hv2]; rfl, (show Fr (fun _ => False) w V from fVH).same f1, fun L' e => by rw [show FR = none from hf2] at e; cases e⟩
set_option maxRecDepth 20000 in
set_option maxHeartbeats 1000000 in
theorem verify_any (f : Fu) (p : Fm) (a0 a2 a3 a4 a5 : Option Addr) (c0 c2 c3 c4 c5 np nl n nf nv : Nat) (hnp : f.sg.ps.length = np) (hnl : f.loc.length = nl) (hn : f.cd.length = n) (hnf : p.fns.length = nf) (hnv : p.vars.length = nv) (w : World) (h : Fi w f p a0 a2 a3 a4 a5 c0 c2 c3 c4 c5) :
    Calls Tryz.prog 5 #[.agg #[.slice a0 np c0, ci f.sg.res, .slice a2 nl c2, .slice a3 n c3], .agg #[.slice a4 nf c4, .slice a5 nv c5]] w fun e w' => e = .returned (.tuple #[ci (verS f p).1, ci (verS f p).2]) ∧ Fr (fun _ => False) w w' := by
  have kv : ∀ W, Fr (fun _ => False) w W → Calls Tryz.prog 13 #[.agg #[.slice a0 np c0, ci f.sg.res, .slice a2 nl c2, .slice a3 n c3], .agg #[.slice a4 nf c4, .slice a5 nv c5]] W fun e w' => ∃ pv, e = .returned (.tuple #[pv, ci (verS f p).1, ci (verS f p).2]) ∧ Fr (fun _ => False) W w' := fun W hW => (verified_any f p a0 a2 a3 a4 a5 c0 c2 c3 c4 c5 np nl n nf nv hnp hnl hn hnf hnv W (h.keep hW)).mono (fun e w' g => by obtain ⟨pv, g1, g2, _⟩ := g; exact ⟨pv, g1, g2⟩)
  clear h hnp hnl hn hnf hnv
  generalize f.sg.res = rs at *
  generalize verS f p = VR at *
  go_enter Tryz.func5, Tryz.ntmps5
  go_wp2_with (first
    | (go_at_call 13; refine (kv _ ((Fr.alloc _ _ _).same (Fr.alloc _ _ _))).mono ?_; rintro e w1 ⟨pv, rfl, f1⟩))
  go_ret2
  exact ⟨rfl, ((Fr.alloc _ _ _).same (Fr.alloc _ _ _)).same f1⟩
end Go.Proofs.YtnmcehpdiopaiaaGreatDoor.Cd

namespace Go.Proofs.YtnmcehpdiopaiaaGreatDoor.Cd
open Go.RowKit Ty
set_option linter.unusedSimpArgs false
set_option linter.unusedVariables false

/-- A row of ints of the call's own. -/
abbrev IR (w : World) (B : Nat) (v : Value) (l : List Int) : Prop := w.ownsRow B 3 1 v l.length (l.map ci)
theorem info_ii : (Tryz.prog.info? 3).map (fun i => (i.zero, i.size, i.bytes)) = some (some (.int .i64 0), 1, 8) := by kernel_rfl
theorem wpl_int {w : World} {ops : Array Oper} {rest : List Oper} {o : Oper} {a : Act} {Q : Exit → Act → World → Prop} (hgd : o.guard = none) (s x : Operand)
    (ho : o.op = .call { callee := .builtin .append, args := #[s, x], argTypes := #[22, 22] }) (B : Nat) (v : Value) (l : List Int) (c : Int) (g : Nat)
    (hs : a.eval s = v) (hr : IR w B v l) (hx : a.eval x = .slice (some ⟨g, 0, none⟩) 1 1) (hc : w.cell? ⟨g, 0, none⟩ = some (ci c)) (hl : l.length ≤ 100000) (hB : B ≤ w.heap.size)
    (h : ∀ v' w', IR w' B v' (l ++ [c]) → Ap w w' v v' → wpList Tryz.prog ops Q rest (a.put o.dst v') w') : wpList Tryz.prog ops Q (o :: rest) a w := by
  refine wpl_append hgd s x 22 3 _ 1 8 Tryz.underlying22 info_ii rfl (by decide) ho B v l.length (l.map ci) ⟨g, 0, none⟩ 1 1 [ci c] hs hr hx rfl ?_ ?_ ?_ ?_ hB ?_
  · intro j u hu
    rw [Addr.add_lit, Nat.zero_add]
    cases j with
    | zero => simp at hu; subst hu; exact hc
    | succ j => simp at hu
  · intro u hu
    simp only [List.mem_cons, List.not_mem_nil, or_false] at hu
    rw [hu]; rfl
  · simp only [maxLen]; omega
  · omega
  · intro v' w' h1 h2 h3
    refine h v' w' ?_ (Ap.of h2 h3)
    show w'.ownsRow B _ 1 v' (l ++ [c]).length ((l ++ [c]).map ci)
    rw [List.map_append, show (l ++ [c]).length = l.length + 1 by rw [List.length_append]; rfl]
    simpa using h1
set_option maxRecDepth 20000 in
set_option maxHeartbeats 2000000 in
theorem typesOf_any (l : List Int) (hv : Vd l) (hl : l.length ≤ 1000) (w : World) :
    Calls Tryz.prog 20 #[ct (encSt l)] w fun e w' => ∃ v, e = .returned v ∧ IR w' w.heap.size v l ∧ Fr (fun _ => False) w w' := by
  obtain ⟨n, hn⟩ : ∃ n, n = l.length := ⟨_, rfl⟩
  have hel : (encSt l).length = n := by rw [hn]; simp [encSt]
  have hls := str_len (encSt l)
  rw [hel] at hls
  have hidx : ∀ (j : Nat) (x : Int), l[j]? = some x → ∀ W : World, (Instr.index 9 (.string ⟨(encSt l).toArray⟩) (.int .i64 (j : Int))).run Tryz.prog W = .ok (.int .u8 x) W := fun j x hx W => by
    have := str_index (encSt l) j (encB x) (by unfold encSt; rw [List.getElem?_map, hx]; rfl) W
    rw [(encB_val (hv x (List.mem_of_getElem? hx))).1] at this
    exact this
  have hidxH : Hidden _ := hidx
  have hvH : Hidden (Vd l) := hv
  have hnH : Hidden (n = l.length) := hn
  have hln : n ≤ 1000 := by omega
  have helH : Hidden ((encSt l).length = n) := hel
  generalize encSt l = S at hidxH helH ⊢
  clear hidx hv hn hel hl hls
  go_enter Tryz.func20, Tryz.ntmps20
  go_wp2_with fail
  go_loopg [3, 4, 7] n (fun k v _ iv wr => ∃ j : Nat, iv = .int .i64 (j : Int) ∧ j ≤ n ∧ k = n - j ∧ IR wr w.heap.size v (l.take j) ∧ Fr (fun _ => False) w wr)
  case atStart => exact ⟨0, rfl, by omega, rfl, own_nil _ _ _ _, Fr.refl _ _⟩
  case round =>
    obtain ⟨j, rfl, hj, hk, hO, hf⟩ := hrel
    have hkH : Hidden (gk = n - j) := hk
    have hOH : Hidden (IR wr w.heap.size u3 (l.take j)) := hO
    have hfH : Hidden (Fr (fun _ => False) w wr) := hf
    have hszH : Hidden (w.heap.size ≤ wr.heap.size) := hf.size
    clear hk hO hf
    by_cases hjl : j < n
    · obtain ⟨x, hx⟩ : ∃ x, l[j]? = some x := ⟨_, List.getElem?_eq_getElem (by have : n = l.length := hnH; omega)⟩
      have hrun := (show ∀ (j : Nat) (x : Int), l[j]? = some x → _ from hidxH) j x hx
      have hxv := (show Vd l from hvH) x (List.mem_of_getElem? hx)
      have hw : IntKind.i64.wrap x = x := by rcases (valued_iff x).1 hxv with rfl | rfl | rfl <;> decide
      have htk : Hidden (l.take (j + 1) = l.take j ++ [x]) := by show _ = _; rw [List.take_add_one, hx]; rfl
      have hjs : j < List.length S := by have : List.length S = n := helH; omega
      have hjn2 : (j : Int) < (List.length S : Int) := by omega
      clear hx hxv
      go_wp2_with (first
        | (at_builtin
           refine wpl_int rfl _ _ rfl w.heap.size u3 (l.take j) x wr.heap.size rfl ?e0 rfl ?e1 ?e2 ?e3 ?_
           case e0 => exact own_keep (show IR wr w.heap.size u3 (l.take j) from hOH) (Fr.alloc (fun _ => False) _ _) (fun _ _ f => f)
           case e1 => exact cell_of_row _ _ 0 _ _ _ (alloc_new _ _)
           case e2 => rw [List.length_take]; omega
           case e3 => have : w.heap.size ≤ wr.heap.size := hszH; simp; omega
           intro v5 w5 hr5 a5
           have hr5H : Hidden (IR w5 w.heap.size v5 (l.take j ++ [x])) := hr5
           have f5H : Hidden (Fr (fun _ => False) w w5) := (show Fr (fun _ => False) w wr from hfH).over ((Fr.alloc (fun k => u3.ownBlock = some k) _ _).same a5.fr) (fun k e => ((own_block (show IR wr w.heap.size u3 (l.take j) from hOH)) k e).1)
           clear hr5 a5))
      go_roundg (n - (j + 1))
      case measure => have : gk = n - j := hkH; omega
      case rel => exact ⟨j + 1, by go_num, by omega, rfl, by rw [show l.take (j + 1) = _ from htk]; exact hr5H, f5H⟩
    · obtain rfl : j = n := by omega
      have e : l.take j = l := by rw [show j = l.length from hnH, List.take_length]
      have hfin : Hidden (IR wr w.heap.size u3 l) := by have := (show IR wr w.heap.size u3 (l.take j) from hOH); rw [e] at this; exact this
      have hjs : ¬ j < List.length S := by have : List.length S = j := helH; omega
      have hjn2 : decide (j < List.length S) = false := by simpa using hjs
      clear hjl e
      go_wp2_with fail
      go_ret
      exact ⟨_, rfl, hfin, hfH⟩
/-- The shape at a place, if it was come to. -/
def atS (o : Option Cs) (k : Nat) : Option Sp := o.bind fun L => (L[k]?).bind fun c => c.map fun x => x.2
/-- What Shape answers. -/
def shpS (f : Fu) (p : Fm) (a : Int) : Option Sp := if (verS f p).2 ≠ 0 ∨ a < 0 ∨ (f.cd.length : Int) ≤ a then none else atS (finS f p) a.toNat
end Go.Proofs.YtnmcehpdiopaiaaGreatDoor.Cd

namespace Go.Proofs.YtnmcehpdiopaiaaGreatDoor.Cd
open Go.RowKit Ty
set_option linter.unusedSimpArgs false
set_option linter.unusedVariables false

theorem own_low {w : World} {B B' : Nat} {e : TypeId} {size : Nat} {v : Value} {n : Nat} {cells : List Value} (h : w.ownsRow B e size v n cells) (hb : B' ≤ B) : w.ownsRow B' e size v n cells := by
  refine ⟨h.1, ?_⟩
  rcases h.2 with h0 | ⟨g, cap, cur, rfl, hb2, hg, rest⟩
  · exact Or.inl h0
  · exact Or.inr ⟨g, cap, cur, rfl, Nat.le_trans hb hb2, hg, rest⟩
def shL : Option Sp → List Int
  | none => []
  | some s => s.st
def shN : Option Sp → Int
  | none => 0
  | some s => s.tr.length
def shB (o : Option Sp) : Bool := o.isSome
theorem round_err {f : Fu} {p : Fm} {L : Cs} {k : Nat} {s : Sp} {e : Int} (h : roundS f p L k s = .error e) : e = 51 ∨ e = 3 ∨ e = 22 := by
  unfold roundS at h
  split at h
  · cases h; exact Or.inl rfl
  split at h
  · cases h; exact Or.inl rfl
  split at h
  · cases h; exact Or.inr (Or.inl rfl)
  split at h
  · cases h; exact Or.inr (Or.inr rfl)
  split at h
  · cases h; exact Or.inr (Or.inr rfl)
  · cases h
theorem goS_err {f : Fu} {p : Fm} : ∀ {j : Nat} {L : Cs} {k : Nat} {e : Int}, goS f p j L = some (.er k e) → e = 51 ∨ e = 3 ∨ e = 22
  | 0, L, k, e, h => by cases h
  | j + 1, L, k, e, h => by
    unfold goS at h
    cases hl : leastS L with
    | none => rw [hl] at h; cases h
    | some x =>
      obtain ⟨k', s⟩ := x
      rw [hl] at h
      simp only [] at h
      cases hr : roundS f p L k' s with
      | error e' =>
        rw [hr] at h
        cases h
        exact round_err hr
      | ok L' =>
        rw [hr] at h
        exact goS_err (j := j) h
theorem run_err {f : Fu} {p : Fm} {k : Nat} {e : Int} (h : runS f p = .er k e) : e = 51 ∨ e = 3 ∨ e = 22 := by
  have := run_some f p
  rw [h] at this
  exact goS_err this
theorem ver_fin {f : Fu} {p : Fm} (h : (verS f p).2 = 0) : ∃ L, finS f p = some L ∧ runS f p = .ok L ∧ outS f p = 0 ∧ ¬ 0 ≤ badI f ∧ (verS f p).1 = 0 := by
  by_cases ho : outS f p = 0
  · have ho' : ¬ outS f p ≠ 0 := by simpa using ho
    by_cases hb : 0 ≤ badI f
    · unfold verS at h
      rw [if_neg ho', if_pos hb] at h
      cases h
    · have hv : verS f p = (placeS (runS f p), errS (runS f p)) := by unfold verS; rw [if_neg ho', if_neg hb]
      have hf : finS f p = okR (runS f p) := by unfold finS; rw [if_neg ho', if_neg hb]
      rw [hv] at h ⊢
      rw [hf]
      cases hr : runS f p with
      | ok L => exact ⟨L, rfl, rfl, ho, hb, rfl⟩
      | er k e =>
        exfalso
        rw [hr] at h
        have h : e = 0 := h
        rcases run_err hr with e2 | e2 | e2 <;> omega
  · unfold verS at h
    rw [if_pos ho] at h
    exact absurd h ho
/-- All shapes that are found are such as may be. -/
theorem goS_inv {f : Fu} {p : Fm} (hF : OkF f p) (hr : ∀ k : Nat, k < f.cd.length → rightS (f.cd.getD k default) = true) : ∀ {j : Nat} {L R : Cs}, InvL f.cd.length L → goS f p j L = some (.ok R) → InvL f.cd.length R
  | 0, L, R, _, h => by cases h
  | j + 1, L, R, hinv, h => by
    unfold goS at h
    cases e : leastS L with
    | none =>
      rw [e] at h
      cases h
      exact hinv
    | some x =>
      obtain ⟨k, s⟩ := x
      rw [e] at h
      simp only [] at h
      cases e2 : roundS f p L k s with
      | error e => rw [e2] at h; cases h
      | ok L' =>
        rw [e2] at h
        have hk := (leastS_at e).1
        have hkn : k < f.cd.length := by rw [← hinv.len]; exact (List.getElem?_eq_some_iff.1 hk).1
        exact goS_inv hF hr (j := j) ⟨by rw [(roundS_len hk e2).1]; exact hinv.len, goS_ok hF (fun k hk => right_okI (hr k hk)) hinv.len hinv.ok hk e2, round_over hinv.ov hk e2, round_tz (hr k hkn) (hinv.ov _ _ _ hk) hinv.tz hk e2⟩ h
theorem start_inv (n : Nat) : InvL n (startS n) := by
  have key : ∀ (j : Nat) g x, (startS n)[j]? = some (some (g, x)) → x = ⟨[], []⟩ := by
    intro j g x hx
    unfold startS at hx
    rw [List.getElem?_set] at hx
    split at hx
    · split at hx
      · cases hx; rfl
      · cases hx
    · rw [List.getElem?_replicate] at hx
      split at hx <;> cases hx
  refine ⟨by simp [startS], fun j g x hx => ?_, fun j g x hx => ?_, fun j g x hx => ?_⟩
  · rw [key j g x hx]; exact ⟨fun t ht => by simp at ht, fun t ht => by simp at ht⟩
  · rw [key j g x hx]; rfl
  · rw [key j g x hx]; exact fun t ht => by simp at ht
theorem fin_inv {f : Fu} {p : Fm} {L : Cs} (hr : runS f p = .ok L) (ho : outS f p = 0) (hb : ¬ 0 ≤ badI f) : InvL f.cd.length L := by
  obtain ⟨_, _, _, _, hF⟩ := out_ok ho
  have hright := bad_no hb
  have := run_some f p
  rw [hr] at this
  refine goS_inv hF (fun k hk => hright _ ?_) (start_inv _) this
  rw [List.getD_eq_getElem?_getD, List.getElem?_eq_getElem hk]
  exact List.getElem_mem hk
set_option maxRecDepth 20000 in
set_option maxHeartbeats 4000000 in
theorem shape_any (f : Fu) (p : Fm) (a0 a2 a3 a4 a5 : Option Addr) (c0 c2 c3 c4 c5 np nl n nf nv : Nat) (hnp : f.sg.ps.length = np) (hnl : f.loc.length = nl) (hn : f.cd.length = n) (hnf : p.fns.length = nf) (hnv : p.vars.length = nv) (at' : Int) (w : World) (h : Fi w f p a0 a2 a3 a4 a5 c0 c2 c3 c4 c5) :
    Calls Tryz.prog 10 #[.agg #[.slice a0 np c0, ci f.sg.res, .slice a2 nl c2, .slice a3 n c3], .agg #[.slice a4 nf c4, .slice a5 nv c5], ci at'] w fun e w' => ∃ v, e = .returned (.tuple #[v, ci (shN (shpS f p at')), .bool (shB (shpS f p at'))]) ∧ IR w' w.heap.size v (shL (shpS f p at')) ∧ Fr (fun _ => False) w w' := by
  have kv : ∀ W, Fr (fun _ => False) w W → _ := fun W hW => verified_any f p a0 a2 a3 a4 a5 c0 c2 c3 c4 c5 np nl n nf nv hnp hnl hn hnf hnv W (h.keep hW)
  have hx : Hidden (shpS f p at' = if (verS f p).2 ≠ 0 ∨ at' < 0 ∨ (n : Int) ≤ at' then none else atS (finS f p) at'.toNat) := by show _ = _; unfold shpS; rw [hn]
  have hfin : (verS f p).2 = 0 → ∃ L, finS f p = some L ∧ InvL n L := fun hz => by
    obtain ⟨L, h1, h2, h3, h4, _⟩ := ver_fin (f := f) (p := p) hz
    exact ⟨L, h1, by rw [← hn]; exact fin_inv h2 h3 h4⟩
  obtain ⟨V, hV⟩ : ∃ V, V = (w.alloc (.cells #[.slice a0 np c0, ci f.sg.res, .slice a2 nl c2, .slice a3 n c3] 37 (0, 0))).alloc (.cells #[.slice a4 nf c4, .slice a5 nv c5] 41 (0, 0)) := ⟨_, rfl⟩
  have fV : Fr (fun _ => False) w V := by rw [hV]; exact (Fr.alloc _ _ _).same (Fr.alloc _ _ _)
  have kvV := kv V fV
  have bb := box4 (show V.heap[w.heap.size]? = some (.cells #[.slice a0 np c0, ci f.sg.res, .slice a2 nl c2, .slice a3 n c3] 37 (0, 0)) by rw [hV]; exact heap_alloc2_old _ _ _)
  have hb2 : V.heap[w.heap.size + 1]? = some (.cells #[.slice a4 nf c4, .slice a5 nv c5] 41 (0, 0)) := by rw [hV]; exact heap_alloc2_new _ _ _
  have d0 : V.cell? ⟨w.heap.size + 1, 0, none⟩ = some (.slice a4 nf c4) := cell_of_row _ _ 0 _ _ _ hb2
  have d1 : V.cell? ⟨w.heap.size + 1, 1, none⟩ = some (.slice a5 nv c5) := cell_of_row _ _ 1 _ _ _ hb2
  have bbH : Hidden _ := bb
  have d0H : Hidden (V.cell? ⟨w.heap.size + 1, 0, none⟩ = some (.slice a4 nf c4)) := d0
  have d1H : Hidden (V.cell? ⟨w.heap.size + 1, 1, none⟩ = some (.slice a5 nv c5)) := d1
  have fVH : Hidden (Fr (fun _ => False) w V) := fV
  have hVH : Hidden (V = _) := hV
  have hfinH : Hidden ((verS f p).2 = 0 → ∃ L, finS f p = some L ∧ InvL n L) := hfin
  clear hV fV kv h hnp hnl hn hnf hnv bb hb2 d0 d1 hfin
  generalize f.sg.res = rs at *
  generalize shpS f p at' = X at hx ⊢
  generalize verS f p = VR at *
  generalize finS f p = FR at *
  obtain ⟨vr1, vr2⟩ := VR
  simp only [] at kvV hx hfinH
  by_cases hv : vr2 = 0
  · obtain ⟨L, hFR, hinv⟩ := (show vr2 = 0 → _ from hfinH) hv
    subst hv
    by_cases h0 : at' < 0
    · have hX : Hidden (X = none) := by have := (show X = _ from hx); rw [if_pos (Or.inr (Or.inl h0))] at this; exact this
      have h0b : decide (at' < 0) = true := by simpa using h0
      clear hx hfinH hFR hinv h0
      go_enter Tryz.func10, Tryz.ntmps10
      go_upto_region 1 with fail
      rw [← (show V = _ from hVH)]
      clear hVH
      obtain ⟨b0, b1, b2, b3⟩ := bbH
      have d0 : V.cell? ⟨w.heap.size + 1, 0, none⟩ = some (.slice a4 nf c4) := d0H
      have d1 : V.cell? ⟨w.heap.size + 1, 1, none⟩ = some (.slice a5 nv c5) := d1H
      go_wp2_with (first
        | (go_at_call 13; refine kvV.mono ?_; rintro e w1 ⟨pv, rfl, f1, hL⟩
           clear hL
           replace b3 := f1.cellN b3))
      go_ret3
      rw [show X = none from hX]
      exact ⟨.slice none 0 0, rfl, own_nil _ _ _ _, (show Fr (fun _ => False) w V from fVH).same f1⟩
    have h0b : decide (at' < 0) = false := by simpa using h0
    obtain ⟨k, rfl⟩ : ∃ k : Nat, at' = k := ⟨at'.toNat, by omega⟩
    by_cases h1 : n ≤ k
    · have hX : Hidden (X = none) := by have := (show X = _ from hx); rw [if_pos (Or.inr (Or.inr (by omega)))] at this; exact this
      have h1b : decide ((n : Int) ≤ (k : Int)) = true := by simp; omega
      have h1c : decide (n ≤ k) = true := by simp; omega
      clear hx hfinH hFR hinv h0
      go_enter Tryz.func10, Tryz.ntmps10
      go_upto_region 1 with fail
      rw [← (show V = _ from hVH)]
      clear hVH
      obtain ⟨b0, b1, b2, b3⟩ := bbH
      have d0 : V.cell? ⟨w.heap.size + 1, 0, none⟩ = some (.slice a4 nf c4) := d0H
      have d1 : V.cell? ⟨w.heap.size + 1, 1, none⟩ = some (.slice a5 nv c5) := d1H
      go_wp2_with (first
        | (go_at_call 13; refine kvV.mono ?_; rintro e w1 ⟨pv, rfl, f1, hL⟩
           clear hL
           replace b3 := f1.cellN b3))
      go_ret3
      rw [show X = none from hX]
      exact ⟨.slice none 0 0, rfl, own_nil _ _ _ _, (show Fr (fun _ => False) w V from fVH).same f1⟩
    have h1b : decide ((n : Int) ≤ (k : Int)) = false := by simp; omega
    have h1c : decide (n ≤ k) = false := by simp; omega
    have hkn : k < n := by omega
    have hXL : Hidden (X = atS (some L) k) := by have := (show X = _ from hx); rw [if_neg (by rintro (e | e | e); exact e rfl; omega; omega), hFR, Int.toNat_natCast] at this; exact this
    obtain ⟨c, hc⟩ : ∃ c, L[k]? = some c := ⟨_, List.getElem?_eq_getElem (by rw [hinv.len]; exact hkn)⟩
    have hcH : Hidden (L[k]? = some c) := hc
    have hinvH : Hidden (InvL n L) := hinv
    have hFRH : Hidden (FR = some L) := hFR
    clear hx hfinH hFR hinv h0 h1 hc
    go_enter Tryz.func10, Tryz.ntmps10
    go_upto_region 1 with fail
    rw [← (show V = _ from hVH)]
    clear hVH
    obtain ⟨b0, b1, b2, b3⟩ := bbH
    have d0 : V.cell? ⟨w.heap.size + 1, 0, none⟩ = some (.slice a4 nf c4) := d0H
    have d1 : V.cell? ⟨w.heap.size + 1, 1, none⟩ = some (.slice a5 nv c5) := d1H
    go_upto_region 2 with (first
      | (go_at_call 13; refine kvV.mono ?_; rintro e w1 ⟨pv, rfl, f1, hL⟩
         replace b3 := f1.cellN b3
         obtain ⟨q, gs, ga, rfl, hwk⟩ := hL L hFRH))
    clear hL
    obtain ⟨_, _, _, _, _, _, b6, b7⟩ := box8 hwk.box
    have cz := st_at hwk.st (show L[k]? = some c from hcH)
    obtain ⟨y0, y1, y2⟩ := ah_at hwk.ah (show L[k]? = some c from hcH)
    have fw1 : Hidden (Fr (fun _ => False) w w1) := (show Fr (fun _ => False) w V from fVH).same f1
    have hkz : (k : Int) < (n : Int) := by omega
    clear hwk f1
    cases c with
    | none =>
      have hX : Hidden (X = none) := by have := (show X = _ from hXL); rw [this]; unfold atS; rw [Option.bind_some, show L[k]? = _ from hcH]; rfl
      simp only [stN] at cz
      go_wp2_with fail
      go_ret3
      rw [show X = none from hX]
      exact ⟨.slice none 0 0, rfl, own_nil _ _ _ _, fw1⟩
    | some z =>
      obtain ⟨g, s⟩ := z
      have hX : Hidden (X = some s) := by have := (show X = _ from hXL); rw [this]; unfold atS; rw [Option.bind_some, show L[k]? = _ from hcH]; rfl
      have hos := (show InvL n L from hinvH).ok _ _ _ (show L[k]? = _ from hcH)
      have hov := over_len ((show InvL n L from hinvH).ov _ _ _ (show L[k]? = _ from hcH))
      have kt := fun W => typesOf_any s.st hos.st (by omega) W
      simp only [shO] at y0 y1 y2
      obtain ⟨zz, hzz, hz0⟩ : ∃ zz : Int, stN (some (g, s)) = zz ∧ (zz == 0) = false := by cases g; exact ⟨1, rfl, rfl⟩; exact ⟨2, rfl, rfl⟩
      rw [hzz] at cz
      generalize encSt s.st = S at kt y0
      obtain ⟨m, hm⟩ : ∃ m, m = s.tr.length := ⟨_, rfl⟩
      rw [← hm] at y2
      have hmH : Hidden (m = s.tr.length) := hm
      clear hzz hm hos hov
      go_upto_region 4 with fail
      have hsz1 : Hidden (w.heap.size ≤ w1.heap.size) := (show Fr (fun _ => False) w w1 from fw1).size
      go_region_held3 (fun w' => w'.cell? ⟨q, 7, none⟩ = some (.slice (some ⟨ga, 0, none⟩) n n) ∧ w'.cell? ⟨ga, k * 3, none⟩ = some (ct S) ∧ w'.cell? ⟨ga, k * 3 + 2, none⟩ = some (ci (m : Int))) (first | (refine ⟨by with_reducible assumption, by with_reducible assumption, by with_reducible assumption⟩) | go_keep) (first
        | (go_at_call 20; refine (kt _).mono ?_; rintro e w2 ⟨v, rfl, hr, f2⟩; have g2 : Fr (fun _ => False) w1 w2 := (by first | exact f2 | exact (Fr.drew _ _).same f2); have q7 := g2.cellN b7; have p0 := g2.cellN y0; have p2 := g2.cellN y2; have hrH : Hidden (IR w2 w.heap.size v s.st) := (own_low hr (by first | exact hsz1 | exact Nat.le_trans (show w.heap.size ≤ w1.heap.size from hsz1) (Nat.le_refl _))); have g2H : Hidden (Fr (fun _ => False) w1 w2) := g2; clear hr f2 g2))
      all_goals
        go_wp2_with fail
        go_ret3
        rw [show X = some s from hX]
        exact ⟨v, by rw [show m = s.tr.length from hmH]; rfl, hrH, (show Fr (fun _ => False) w w1 from fw1).same g2H⟩
  · have hX : Hidden (X = none) := by have := (show X = _ from hx); rw [if_pos (Or.inl hv)] at this; exact this
    have hvb : (vr2 == 0) = false := by simpa using hv
    have hvc : (vr2 != 0) = true := by simpa using hv
    clear hx hfinH hv
    go_enter Tryz.func10, Tryz.ntmps10
    go_upto_region 1 with fail
    rw [← (show V = _ from hVH)]
    clear hVH
    obtain ⟨b0, b1, b2, b3⟩ := bbH
    have d0 : V.cell? ⟨w.heap.size + 1, 0, none⟩ = some (.slice a4 nf c4) := d0H
    have d1 : V.cell? ⟨w.heap.size + 1, 1, none⟩ = some (.slice a5 nv c5) := d1H
    go_wp2_with (first
      | (go_at_call 13; refine kvV.mono ?_; rintro e w1 ⟨pv, rfl, f1, hL⟩
         clear hL
         replace b3 := f1.cellN b3))
    go_ret3
    rw [show X = none from hX]
    exact ⟨.slice none 0 0, rfl, own_nil _ _ _ _, (show Fr (fun _ => False) w V from fVH).same f1⟩
end Go.Proofs.YtnmcehpdiopaiaaGreatDoor.Cd
