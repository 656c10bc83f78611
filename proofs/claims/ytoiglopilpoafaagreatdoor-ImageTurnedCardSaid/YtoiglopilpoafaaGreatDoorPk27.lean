/- Texts of ours, in one. -/
import Derived.Test.YtoiglopilpoafaaGreatDoorPk22
import Derived.Test.YtoiglopilpoafaaGreatDoorPk26
import Derived.WalkMore
import Derived.Test.YtoiglopilpoafaaGreatDoorCdWd
import Derived.Test.YtoiglopilpoafaaGreatDoorPk24
import Derived.Test.YtoiglopilpoafaaGreatDoorCdZ
namespace Go.Proofs.YtoiglopilpoafaaGreatDoor.Cd
open Go.RowKit Ty
set_option linter.unusedSimpArgs false
set_option linter.unusedVariables false

/-- A function and the program around it, in memory. -/
structure Fi (w : World) (f : Fu) (p : Fm) (a0 a2 a3 a4 a5 : Option Addr) (c0 c2 c3 c4 c5 : Nat) : Prop where
  ps : InL w a0 c0 f.sg.ps
  loc : InL w a2 c2 f.loc
  cd : IL w a3 c3 f.cd
  fns : SgL w a4 c4 p.fns
  vars : InL w a5 c5 p.vars
  okI : ∀ i ∈ f.cd, OkIn i
  fps : ∀ g ∈ p.fns, g.ps.length ≤ 17592186044416
  tab : F.Tab w
theorem Fi.keep {w w' : World} {f : Fu} {p : Fm} {a0 a2 a3 a4 a5 : Option Addr} {c0 c2 c3 c4 c5 : Nat} (h : Fi w f p a0 a2 a3 a4 a5 c0 c2 c3 c4 c5) (fr : Fr (fun _ => False) w w') : Fi w' f p a0 a2 a3 a4 a5 c0 c2 c3 c4 c5 :=
  ⟨h.ps.keep fr, h.loc.keep fr, h.cd.keep fr, h.fns.keep fr, h.vars.keep fr, h.okI, h.fps, tab_fr h.tab fr⟩
theorem equal_ints (a2 a0 : Option Addr) (c2 c0 np nl : Nat) (l ps : List Int) (hl : l.length = nl) (hp : ps.length = np) (hle : np ≤ nl) (w : World) (h2 : InL w a2 c2 l) (h0 : InL w a0 c0 ps) :
    Calls Tryz.prog 42 #[.slice a2 np c2, .slice a0 np c0] w fun e w' => e = .returned (.bool (decide (l.take np = ps))) ∧ Fr (fun _ => False) w w' := by
  have hb0 := cap_le h0
  have hc0 : np ≤ c0 := by rw [← hp]; exact h0.1
  cases np with
  | zero =>
    have e : ps = [] := List.length_eq_zero_iff.1 hp
    subst e
    have := Tryz.slices_Equal_int_empty a2 a0 c2 0 c0 w (by decide)
    rw [List.take_zero, decide_eq_true rfl]
    exact this.mono (fun e w' h => ⟨h.1, by rw [h.2]; exact Fr.refl _ _⟩)
  | succ np =>
    obtain ⟨b2, o2, rfl, hc2⟩ := h2.2.2.2.resolve_left (by rintro rfl; simp at hl; omega)
    obtain ⟨b0, o0, rfl, hc0'⟩ := h0.2.2.2.resolve_left (by rintro rfl; simp at hp)
    have gd : ∀ (L : List Int) (j : Nat), j < L.length → L[j]? = some (L.getD j 0) := fun L j hj => by rw [List.getD_eq_getElem?_getD, List.getElem?_eq_getElem hj]; rfl
    have := Tryz.slices_Equal_int b2 o2 (np + 1) c2 b0 o0 (np + 1) c0 l ps w (by omega) (by omega) (by omega) (by omega) (fun j hj => hc2 j _ (gd l j hj)) (fun j hj => hc0' j _ (gd ps j hj))
    refine this.mono (fun e w' h => ⟨?_, by obtain ⟨_, q, rfl⟩ := h; exact drewN_fr (Fr.refl _ _) _⟩)
    rw [h.1]
    congr 2
    have e2 : ps.take (np + 1) = ps := List.take_of_length_le (by omega)
    rw [e2]
    by_cases he : l.take (np + 1) = ps
    · simp [he]
    · simp [he]
set_option maxRecDepth 20000 in
set_option maxHeartbeats 4000000 in
theorem outline_any (f : Fu) (p : Fm) (a0 a2 a3 a4 a5 : Option Addr) (c0' c2' c3' c4' c5' np nl n nf nv : Nat) (hnp : f.sg.ps.length = np) (hnl : f.loc.length = nl) (hn : f.cd.length = n) (hnf : p.fns.length = nf) (hnv : p.vars.length = nv) (w : World) (h : Fi w f p a0 a2 a3 a4 a5 c0' c2' c3' c4' c5') :
    Calls Tryz.prog 51 #[.agg #[.slice a0 np c0', ci f.sg.res, .slice a2 nl c2', .slice a3 n c3'], .agg #[.slice a4 nf c4', .slice a5 nv c5']] w fun e w' => e = .returned (ci (outS f p)) ∧ Fr (fun _ => False) w w' := by
  obtain ⟨ev, hev⟩ : ∃ b, b = decide (f.loc.take np = f.sg.ps) := ⟨_, rfl⟩
  obtain ⟨lv, hlv⟩ : ∃ b, b = f.loc.all valued := ⟨_, rfl⟩
  obtain ⟨sv, hsv⟩ : ∃ b, b = sgS f.sg := ⟨_, rfl⟩
  obtain ⟨vv, hvv⟩ : ∃ b, b = p.vars.all valued := ⟨_, rfl⟩
  have hO : Hidden (outS f p = if 8 < np ∨ 64 < nl ∨ 4096 < n then 3 else if n = 0 ∨ nl < np ∨ ev = false ∨ lv = false ∨ sv = false ∨ vv = false ∨ p.fns.all sgS = false then 51 else 0) := by
    show _ = _
    unfold outS
    rw [hnp, hnl, hn, ← hlv, ← hsv, ← hvv]
    have e1 : (f.cd = []) = (n = 0) := by rw [← hn]; exact propext List.length_eq_zero_iff.symm
    have e2 : (f.loc.take np ≠ f.sg.ps) = (ev = false) := by rw [hev]; simp
    have e3 : (f.cd = [] ∨ nl < np ∨ f.loc.take np ≠ f.sg.ps ∨ lv = false ∨ sv = false ∨ vv = false ∨ p.fns.all sgS = false) ↔ (n = 0 ∨ nl < np ∨ ev = false ∨ lv = false ∨ sv = false ∨ vv = false ∨ p.fns.all sgS = false) := by rw [e1, e2]
    simp only [e3]
  have kl : ∀ W, Fr (fun _ => False) w W → Calls Tryz.prog 69 #[.slice a2 nl c2'] W fun e w' => e = .returned (.bool lv) ∧ Fr (fun _ => False) W w' := fun W f1 => by rw [hlv]; exact allof_any a2 nl c2' f.loc W hnl.symm (h.loc.keep f1)
  have kvv : ∀ W, Fr (fun _ => False) w W → Calls Tryz.prog 69 #[.slice a5 nv c5'] W fun e w' => e = .returned (.bool vv) ∧ Fr (fun _ => False) W w' := fun W f1 => by rw [hvv]; exact allof_any a5 nv c5' p.vars W hnv.symm (h.vars.keep f1)
  have ksg : ∀ W, Fr (fun _ => False) w W → Calls Tryz.prog 70 #[.agg #[.slice a0 np c0', ci f.sg.res]] W fun e w' => e = .returned (.bool sv) ∧ Fr (fun _ => False) W w' := fun W f1 => by rw [hsv]; exact rsig_any f.sg _ W ⟨a0, c0', by rw [hnp], h.ps.keep f1⟩
  have ke : np ≤ nl → ∀ W, Fr (fun _ => False) w W → Calls Tryz.prog 42 #[.slice a2 np c2', .slice a0 np c0'] W fun e w' => e = .returned (.bool ev) ∧ Fr (fun _ => False) W w' := fun hle W f1 => by rw [hev]; exact equal_ints a2 a0 c2' c0' np nl f.loc f.sg.ps hnl hnp hle W (h.loc.keep f1) (h.ps.keep f1)
  have hfns : Hidden (SgL w a4 c4' p.fns) := h.fns
  have hnfH : Hidden (p.fns.length = nf) := hnf
  have hcf : nf ≤ c4' := by rw [← hnf]; exact h.fns.1
  have hcfm : c4' ≤ 9223372036854775807 := by have := h.fns.2.1; simpa [maxLen] using this
  have hcl : nl ≤ c2' := by rw [← hnl]; exact h.loc.1
  have hclm : c2' ≤ 9223372036854775807 := cap_le h.loc
  generalize f.sg.res = r at *
  generalize p.fns = fns at *
  generalize outS f p = O at hO ⊢
  have keN : nl = 0 → np = 0 → ∀ W (a' : Option Addr), Calls Tryz.prog 42 #[.slice a' 0 c2', .slice a0 0 c0'] W fun e w' => e = .returned (.bool ev) ∧ Fr (fun _ => False) W w' := fun h1 h2 W a' => by
    have := Tryz.slices_Equal_int_empty a' a0 c2' 0 c0' W (by decide)
    have e : ev = true := by
      rw [hev, h2]
      have : f.sg.ps = [] := List.length_eq_zero_iff.1 (by omega)
      rw [this]
      simp
    rw [e]
    exact this.mono (fun e w' h => ⟨h.1, by rw [h.2]; exact Fr.refl _ _⟩)
  have ha2 : nl ≠ 0 → ∃ b o, a2 = some ⟨b, o, none⟩ := fun h0 => by
    obtain ⟨b, o, e, _⟩ := h.loc.2.2.2.resolve_left (by intro e; rw [e] at hnl; simp at hnl; omega)
    exact ⟨b, o, e⟩
  clear h hev hlv hsv hvv
  by_cases hbig : 8 < np ∨ 64 < nl ∨ 4096 < n
  · have hO2 : Hidden (O = 3) := by have := (show O = _ from hO); rw [if_pos hbig] at this; exact this
    clear hO
    by_cases h1 : 8 < np
    · have b1 : decide (8 < (np : Int)) = true := by simp; omega
      clear hbig h1
      go_enter Tryz.func51, Tryz.ntmps51
      go_wp2_with fail
      go_ret
      rw [show O = 3 from hO2]
      exact ⟨rfl, ((Fr.alloc _ _ _).same (Fr.alloc _ _ _)).same (Fr.alloc _ _ _)⟩
    have b1 : decide (8 < (np : Int)) = false := by simp; omega
    by_cases h2 : 64 < nl
    · have b2 : decide (64 < (nl : Int)) = true := by simp; omega
      clear hbig h1 h2
      go_enter Tryz.func51, Tryz.ntmps51
      go_wp2_with fail
      go_ret
      rw [show O = 3 from hO2]
      exact ⟨rfl, ((Fr.alloc _ _ _).same (Fr.alloc _ _ _)).same (Fr.alloc _ _ _)⟩
    have b2 : decide (64 < (nl : Int)) = false := by simp; omega
    have b3 : decide (4096 < (n : Int)) = true := by simp; omega
    clear hbig h1 h2
    go_enter Tryz.func51, Tryz.ntmps51
    go_wp2_with fail
    go_ret
    rw [show O = 3 from hO2]
    exact ⟨rfl, ((Fr.alloc _ _ _).same (Fr.alloc _ _ _)).same (Fr.alloc _ _ _)⟩
  · have b1 : decide (8 < (np : Int)) = false := by simp; omega
    have b2 : decide (64 < (nl : Int)) = false := by simp; omega
    have b3 : decide (4096 < (n : Int)) = false := by simp; omega
    have hO2 : Hidden (O = if n = 0 ∨ nl < np ∨ ev = false ∨ lv = false ∨ sv = false ∨ vv = false ∨ fns.all sgS = false then 51 else 0) := by have := (show O = _ from hO); rw [if_neg hbig] at this; exact this
    clear hO hbig
    go_enter Tryz.func51, Tryz.ntmps51
    go_upto_region 4 with fail
    obtain ⟨V, hV⟩ : ∃ V, V = ((w.alloc (.cells #[.slice a0 np c0', ci r, .slice a2 nl c2', .slice a3 n c3'] 46 (0, 0))).alloc (.cells #[.slice a4 nf c4', .slice a5 nv c5'] 64 (0, 0))).alloc (.cells #[.slice a0 np c0', ci r] 43 (0, 0)) := ⟨_, rfl⟩
    have fV : Fr (fun _ => False) w V := by rw [hV]; exact ((Fr.alloc _ _ _).same (Fr.alloc _ _ _)).same (Fr.alloc _ _ _)
    obtain ⟨c0, c1, c2, c3⟩ := box4 (show V.heap[w.heap.size]? = some (.cells #[.slice a0 np c0', ci r, .slice a2 nl c2', .slice a3 n c3'] 46 (0, 0)) by rw [hV]; exact (Fr.alloc (fun _ => False) _ _).heap (heap_alloc2_old _ _ _) (fun f => f))
    have hb2 : V.heap[w.heap.size + 1]? = some (.cells #[.slice a4 nf c4', .slice a5 nv c5'] 64 (0, 0)) := by rw [hV]; exact (Fr.alloc (fun _ => False) _ _).heap (heap_alloc2_new _ _ _) (fun f => f)
    have d0 : V.cell? ⟨w.heap.size + 1, 0, none⟩ = some (.slice a4 nf c4') := cell_of_row _ _ 0 _ _ _ hb2
    have d1 : V.cell? ⟨w.heap.size + 1, 1, none⟩ = some (.slice a5 nv c5') := cell_of_row _ _ 1 _ _ _ hb2
    have hb3 : V.heap[w.heap.size + 1 + 1]? = some (.cells #[.slice a0 np c0', ci r] 43 (0, 0)) := by rw [hV]; exact alloc_at _ _ _ (by simp)
    have e0 : V.cell? ⟨w.heap.size + 1 + 1, 0, none⟩ = some (.slice a0 np c0') := cell_of_row _ _ 0 _ _ _ hb3
    have e1 : V.cell? ⟨w.heap.size + 1 + 1, 1, none⟩ = some (ci r) := cell_of_row _ _ 1 _ _ _ hb3
    have fVH : Hidden (Fr (fun _ => False) w V) := fV
    rw [← hV]
    have keV : np ≤ nl → ∀ W, Fr (fun _ => False) V W → _ := fun hh W hW => ke hh W (fV.same hW)
    clear hV hb2 hb3 fV ke b1 b2 b3
    generalize w.heap.size = G at *
    go_cut [27] (fun c wx => c = .bool (decide (n = 0 ∨ nl < np ∨ ev = false)) ∧ Fr (fun _ => False) V wx)
    case first =>
      refine wp_region_grow (by kernel_rfl) (by kernel_rfl) ?_
      by_cases hn0 : n = 0
      · subst hn0
        (repeat (first | (refine grow_op (v := ?_) ?_ ?_ ?_; rotate_left; (focus (first | exact wanted_none rfl | (go_simp; done))); (focus (intro w' hw'; have c0 := hw'.cellN c0; have c1 := hw'.cellN c1; have c2 := hw'.cellN c2; have c3 := hw'.cellN c3; have e0 := hw'.cellN e0; have e1 := hw'.cellN e1; (go_simp; with_reducible rfl))); (intro a' ha; simp only [Act.put, List.setIfInBounds_toArray, List.set_cons_zero, List.set_cons_succ] at ha; subst ha)) | (refine grow_no ?_ ?_; (focus (first | (go_simp; done) | rfl)); (intro a' ha; simp only [Act.put, List.setIfInBounds_toArray, List.set_cons_zero, List.set_cons_succ] at ha; subst ha)))); refine grow_nil ?_; intro w3 k3
        go_wp2_with fail
        go_meet
        exact ⟨by simp, k3⟩
      have bn : ((n : Int) == 0) = false := by rw [beq_eq_false_iff_ne]; omega
      by_cases hlt : nl < np
      · have bl : decide ((nl : Int) < (np : Int)) = true := by simp; omega
        have bl2 : decide (nl < np) = true := by simp; omega
        (repeat (first | (refine grow_op (v := ?_) ?_ ?_ ?_; rotate_left; (focus (first | exact wanted_none rfl | (go_simp; done))); (focus (intro w' hw'; have c0 := hw'.cellN c0; have c1 := hw'.cellN c1; have c2 := hw'.cellN c2; have c3 := hw'.cellN c3; have e0 := hw'.cellN e0; have e1 := hw'.cellN e1; (go_simp; with_reducible rfl))); (intro a' ha; simp only [Act.put, List.setIfInBounds_toArray, List.set_cons_zero, List.set_cons_succ] at ha; subst ha)) | (refine grow_no ?_ ?_; (focus (first | (go_simp; done) | rfl)); (intro a' ha; simp only [Act.put, List.setIfInBounds_toArray, List.set_cons_zero, List.set_cons_succ] at ha; subst ha)))); refine grow_nil ?_; intro w3 k3
        go_wp2_with fail
        go_meet
        exact ⟨by simp [hlt], k3⟩
      have bl : decide ((nl : Int) < (np : Int)) = false := by simp; omega
      have bl2 : decide (nl < np) = false := by simp; omega
      have hfin : Hidden (decide (n = 0 ∨ nl < np ∨ ev = false) = !ev) := by show _ = _; simp [hn0, hlt]
      by_cases hz : nl = 0
      · have hz2 : np = 0 := by omega
        have keN2 := keN hz hz2
        subst hz
        subst hz2
        clear keN keV hn0 hlt
        have hnn : (0 : Int) ≤ (c2' : Int) := by omega
        rcases a2 with _ | ⟨b, o, sl⟩
        · (repeat (first | (refine grow_op (v := ?_) ?_ ?_ ?_; rotate_left; (focus (first | exact wanted_none rfl | (go_simp; done))); (focus (intro w' hw'; have c0 := hw'.cellN c0; have c1 := hw'.cellN c1; have c2 := hw'.cellN c2; have c3 := hw'.cellN c3; have e0 := hw'.cellN e0; have e1 := hw'.cellN e1; (go_simp; first | with_reducible rfl | (go_at_call 42; refine calls_grow hw' ?_; first | (have q := keN2 w' none; with_reducible exact q))))); (intro a' ha; simp only [Act.put, List.setIfInBounds_toArray, List.set_cons_zero, List.set_cons_succ] at ha; subst ha)) | (refine grow_no ?_ ?_; (focus (first | (go_simp; done) | rfl)); (intro a' ha; simp only [Act.put, List.setIfInBounds_toArray, List.set_cons_zero, List.set_cons_succ] at ha; subst ha)))); refine grow_nil ?_; intro w3 k3
          go_wp2_with fail
          go_meet
          exact ⟨congrArg Value.bool (show _ = _ from hfin).symm, k3⟩
        · (repeat (first | (refine grow_op (v := ?_) ?_ ?_ ?_; rotate_left; (focus (first | exact wanted_none rfl | (go_simp; done))); (focus (intro w' hw'; have c0 := hw'.cellN c0; have c1 := hw'.cellN c1; have c2 := hw'.cellN c2; have c3 := hw'.cellN c3; have e0 := hw'.cellN e0; have e1 := hw'.cellN e1; (go_simp; first | with_reducible rfl | (go_at_call 42; refine calls_grow hw' ?_; first | (have q := keN2 w' (some ⟨b, o, sl⟩); with_reducible exact q))))); (intro a' ha; simp only [Act.put, List.setIfInBounds_toArray, List.set_cons_zero, List.set_cons_succ] at ha; subst ha)) | (refine grow_no ?_ ?_; (focus (first | (go_simp; done) | rfl)); (intro a' ha; simp only [Act.put, List.setIfInBounds_toArray, List.set_cons_zero, List.set_cons_succ] at ha; subst ha)))); refine grow_nil ?_; intro w3 k3
          go_wp2_with fail
          go_meet
          exact ⟨congrArg Value.bool (show _ = _ from hfin).symm, k3⟩
      · obtain ⟨b, o, rfl⟩ := ha2 hz
        have keV2 := keV (by omega)
        have hnn : (np : Int) ≤ (c2' : Int) := by omega
        clear keN keV hn0 hlt hz
        (repeat (first | (refine grow_op (v := ?_) ?_ ?_ ?_; rotate_left; (focus (first | exact wanted_none rfl | (go_simp; done))); (focus (intro w' hw'; have c0 := hw'.cellN c0; have c1 := hw'.cellN c1; have c2 := hw'.cellN c2; have c3 := hw'.cellN c3; have e0 := hw'.cellN e0; have e1 := hw'.cellN e1; (go_simp; first | with_reducible rfl | (go_at_call 42; refine calls_grow hw' ?_; first | (have q := keV2 w' hw'; with_reducible exact q))))); (intro a' ha; simp only [Act.put, List.setIfInBounds_toArray, List.set_cons_zero, List.set_cons_succ] at ha; subst ha)) | (refine grow_no ?_ ?_; (focus (first | (go_simp; done) | rfl)); (intro a' ha; simp only [Act.put, List.setIfInBounds_toArray, List.set_cons_zero, List.set_cons_succ] at ha; subst ha)))); refine grow_nil ?_; intro w3 k3
        go_wp2_with fail
        go_meet
        exact ⟨congrArg Value.bool (show _ = _ from hfin).symm, k3⟩
    case rest =>
      obtain ⟨rfl, fc⟩ := hcut
      by_cases hbad : n = 0 ∨ nl < np ∨ ev = false
      · rw [decide_eq_true hbad]
        have hO3 : Hidden (O = 51) := by
          have := (show O = _ from hO2)
          rw [if_pos (by rcases hbad with e | e | e; exact Or.inl e; exact Or.inr (Or.inl e); exact Or.inr (Or.inr (Or.inl e)))] at this
          exact this
        clear hbad hO2
        go_wp2_with fail
        go_ret
        rw [show O = 51 from hO3]
        exact ⟨rfl, (show Fr (fun _ => False) w V from fVH).same fc⟩
      · rw [decide_eq_false hbad]
        have hO3 : Hidden (O = if lv = false ∨ sv = false ∨ vv = false ∨ fns.all sgS = false then 51 else 0) := by
          have := (show O = _ from hO2)
          rw [this]
          congr 1
          simp only [not_or] at hbad
          apply propext
          constructor
          · rintro (e | e | e | e)
            · exact absurd e hbad.1
            · exact absurd e hbad.2.1
            · exact absurd e hbad.2.2
            · exact e
          · intro e; exact Or.inr (Or.inr (Or.inr e))
        replace c0 := fc.cellN c0
        replace c1 := fc.cellN c1
        replace c2 := fc.cellN c2
        replace c3 := fc.cellN c3
        replace d0 := fc.cellN d0
        replace d1 := fc.cellN d1
        replace e0 := fc.cellN e0
        replace e1 := fc.cellN e1
        have fwc : Hidden (Fr (fun _ => False) w wc) := (show Fr (fun _ => False) w V from fVH).same fc
        clear hbad hO2 keV keN ha2 fc
        have klc : ∀ W, Fr (fun _ => False) wc W → _ := fun W hW => kl W ((show Fr (fun _ => False) w wc from fwc).same hW)
        have ksc : ∀ W, Fr (fun _ => False) wc W → _ := fun W hW => ksg W ((show Fr (fun _ => False) w wc from fwc).same hW)
        have kvc : ∀ W, Fr (fun _ => False) wc W → _ := fun W hW => kvv W ((show Fr (fun _ => False) w wc from fwc).same hW)
        clear kl ksg kvv
        cases lv
        · have hO51 : Hidden (O = 51) := by
            have := (show O = _ from hO3)
            rw [if_pos (Or.inl rfl)] at this
            exact this
          clear hO3
          go_wp2_with (first
            | (go_at_call 69; refine (klc _ (Fr.refl _ _)).mono ?_; rintro e w4 ⟨rfl, f4⟩))
          go_ret
          rw [show O = 51 from hO51]
          exact ⟨rfl, (show Fr (fun _ => False) w wc from fwc).same f4⟩
        cases sv
        · have hO51 : Hidden (O = 51) := by
            have := (show O = _ from hO3)
            rw [if_pos (Or.inr (Or.inl rfl))] at this
            exact this
          clear hO3
          go_wp2_with (first
            | (go_at_call 69; refine (klc _ (Fr.refl _ _)).mono ?_; rintro e w4 ⟨rfl, f4⟩
               replace e0 := f4.cellN e0
               replace e1 := f4.cellN e1)
            | (go_at_call 70; refine (ksc _ f4).mono ?_; rintro e w5 ⟨rfl, f5⟩))
          go_ret
          rw [show O = 51 from hO51]
          exact ⟨rfl, ((show Fr (fun _ => False) w wc from fwc).same f4).same f5⟩
        cases vv
        · have hO51 : Hidden (O = 51) := by
            have := (show O = _ from hO3)
            rw [if_pos (Or.inr (Or.inr (Or.inl rfl)))] at this
            exact this
          clear hO3
          go_wp2_with (first
            | (go_at_call 69
               first
                 | (have qq := f5; refine (kvc _ (Fr.same f4 f5)).mono ?_; rintro e w6 ⟨rfl, f6⟩)
                 | (refine (klc _ (Fr.refl _ _)).mono ?_; rintro e w4 ⟨rfl, f4⟩
                    replace d1 := f4.cellN d1
                    replace e0 := f4.cellN e0
                    replace e1 := f4.cellN e1))
            | (go_at_call 70; refine (ksc _ f4).mono ?_; rintro e w5 ⟨rfl, f5⟩
               replace d1 := f5.cellN d1))
          go_ret
          rw [show O = 51 from hO51]
          exact ⟨rfl, (((show Fr (fun _ => False) w wc from fwc).same f4).same f5).same f6⟩
        have hO4 : Hidden (O = if fns.all sgS = false then 51 else 0) := by
          have := (show O = _ from hO3)
          rw [this]
          congr 1
          simp
        clear hO3
        go_wp2_with (first
          | (go_at_call 69
             first
               | (have qq := f5; refine (kvc _ (Fr.same f4 f5)).mono ?_; rintro e w6 ⟨rfl, f6⟩
                  replace d0 := f6.cellN d0)
               | (refine (klc _ (Fr.refl _ _)).mono ?_; rintro e w4 ⟨rfl, f4⟩
                  replace d0 := f4.cellN d0
                  replace d1 := f4.cellN d1
                  replace e0 := f4.cellN e0
                  replace e1 := f4.cellN e1))
          | (go_at_call 70; refine (ksc _ f4).mono ?_; rintro e w5 ⟨rfl, f5⟩
             replace d0 := f5.cellN d0
             replace d1 := f5.cellN d1))
        have fw6 : Hidden (Fr (fun _ => False) w w6) := (((show Fr (fun _ => False) w wc from fwc).same f4).same f5).same f6
        clear klc ksc kvc f4 f5 f6 c0 c1 c2 c3 d0 d1 e0 e1 fwc fVH
        go_loopg [72] nf (fun k iv wr => ∃ j : Nat, iv = .int .i64 (j : Int) ∧ j ≤ nf ∧ k = nf - j ∧ (fns.take j).all sgS = true ∧ Fr (fun _ => False) w wr)
        case atStart => exact ⟨0, rfl, by omega, rfl, by simp, fw6⟩
        case round =>
          obtain ⟨j, rfl, hj, hk, hall, hfr⟩ := hrel
          have hkH : Hidden (gk = nf - j) := hk
          have hallH : Hidden ((fns.take j).all sgS = true) := hall
          have hfrH : Hidden (Fr (fun _ => False) w wr) := hfr
          clear hk hall
          by_cases hjl : j < nf
          · have hjl2 : (j : Int) < (nf : Int) := by omega
            obtain ⟨x, hx⟩ : ∃ x, fns[j]? = some x := ⟨_, List.getElem?_eq_getElem (by have : fns.length = nf := hnfH; omega)⟩
            obtain ⟨b, off, rfl, hcs⟩ := (show SgL w a4 c4' fns from hfns).2.2.2.resolve_left (by rintro rfl; simp at hx)
            obtain ⟨ap, cp, hI, q0, q1⟩ := hcs j x hx
            replace q0 := hfr.cellN q0
            replace q1 := hfr.cellN q1
            have hIr := hI.keep hfr
            have hnext : Hidden ((fns.take (j + 1)).all sgS = ((fns.take j).all sgS && sgS x)) := by show _ = _; rw [List.take_add_one, hx]; simp
            have hmem : Hidden (x ∈ fns) := List.mem_of_getElem? hx
            have kr : ∀ W, Fr (fun _ => False) wr W → Calls Tryz.prog 70 #[.agg #[.slice ap x.ps.length cp, ci x.res]] W fun e w' => e = .returned (.bool (sgS x)) ∧ Fr (fun _ => False) W w' := fun W hW => rsig_any x _ W ⟨ap, cp, rfl, hIr.keep hW⟩
            obtain ⟨m, hm⟩ : ∃ m, m = x.ps.length := ⟨_, rfl⟩
            obtain ⟨xr, hxr⟩ : ∃ z, z = x.res := ⟨_, rfl⟩
            rw [← hm] at q0 kr
            rw [← hxr] at q1 kr
            cases hsx : sgS x
            · rw [hsx] at kr
              have hO5 : Hidden (O = 51) := by
                have := (show O = _ from hO4)
                rw [if_pos] at this
                · exact this
                · rw [Bool.eq_false_iff]
                  intro e
                  have := List.all_eq_true.1 e x hmem
                  rw [hsx] at this
                  cases this
              clear hx hcs hI hIr hfr hm hxr hsx hO4
              go_wp2_with (first
                | (go_at_call 70; refine (kr _ (Fr.alloc _ _ _)).mono ?_; rintro e w7 ⟨rfl, f7⟩))
              go_ret
              rw [show O = 51 from hO5]
              exact ⟨rfl, ((show Fr (fun _ => False) w wr from hfrH).same (Fr.alloc _ _ _)).same f7⟩
            · rw [hsx] at kr
              have hnext2 : Hidden ((fns.take (j + 1)).all sgS = true) := by show _ = _; rw [show (fns.take (j + 1)).all sgS = _ from hnext, show (fns.take j).all sgS = true from hallH, hsx]; rfl
              clear hx hcs hI hIr hfr hm hxr hsx hnext
              go_wp2_with (first
                | (go_at_call 70; refine (kr _ (Fr.alloc _ _ _)).mono ?_; rintro e w7 ⟨rfl, f7⟩))
              go_roundg (nf - (j + 1))
              case measure => have : gk = nf - j := hkH; omega
              case rel => exact ⟨j + 1, by go_num, by omega, rfl, hnext2, ((show Fr (fun _ => False) w wr from hfrH).same (Fr.alloc _ _ _)).same f7⟩
          · obtain rfl : j = nf := by omega
            have hO5 : Hidden (O = 0) := by
              have h1 : fns.length = j := hnfH
              have h2 : (fns.take j).all sgS = true := hallH
              rw [List.take_of_length_le (by omega)] at h2
              have h3 := (show O = _ from hO4)
              rw [h2, if_neg (by decide)] at h3
              exact h3
            clear hfr hjl
            go_wp2_with fail
            go_ret
            rw [show O = 0 from hO5]
            exact ⟨rfl, hfrH⟩
end Go.Proofs.YtoiglopilpoafaaGreatDoor.Cd

namespace Go.Proofs.YtoiglopilpoafaaGreatDoor.Cd
open Go.RowKit Ty
set_option linter.unusedSimpArgs false
set_option linter.unusedVariables false

variable {w : World} {f : Fu} {p : Fm} {q gs ga n k b3 o3 c2 c3 c4 c5 : Nat} {v0 : Value} {a2 a4 a5 : Option Addr} {L : Cs} {s : Sp} {g : Bool}
theorem wyT_way (K : Nat) (t b : Int) (hn : f.cd.length = n) (hkn : k < n) (hi : f.cd.getD k default = ⟨15, (K : Int), t, b⟩) (hov : s.tr.length ≤ 32) (hsl : s.st.length ≤ 512) :
    wyT k n (decide (K < n)) K s = ((wayS f p k s).1, (wayS f p k s).2.map fun x => ((x.1 : Int), x.2)) := by
  have est : stepS f p (f.cd.getD k default) s = some (some ⟨s.st, s.tr ++ [((K : Int), s.st)]⟩, some ⟨s.st ++ [1], s.tr⟩) := by rw [hi]; simp [stepS]
  have o1 : anyO (some ⟨s.st, s.tr ++ [((K : Int), s.st)]⟩) = decide (s.tr.length = 32) := by
    show over _ = _
    unfold over
    simp
    rw [Bool.eq_iff_iff]
    simp
    omega
  have o2 : anyO (some ⟨s.st ++ [1], s.tr⟩) = decide (s.st.length = 512) := by
    show over _ = _
    unfold over
    simp
    rw [Bool.eq_iff_iff]
    simp
    omega
  unfold wayS wyT
  rw [est, hi, hn]
  simp only [o1, o2, Option.isSome_some, Bool.true_and]
  by_cases h1 : K < n
  · have e1 : decide (K < n) = true := by simpa using h1
    have e2 : decide ((n : Int) ≤ (K : Int)) = false := by simp; omega
    rw [e1, e2]
    by_cases h2 : k + 1 = n
    · have e3 : decide (n ≤ k + 1) = true := by simp; omega
      rw [if_pos (Or.inr h2), e3]
      rfl
    · have e4 : decide (n ≤ k + 1) = false := by simp; omega
      rw [if_neg (by rintro (e | e); cases e; exact h2 e), e4]
      by_cases h3 : s.tr.length = 32 ∨ s.st.length = 512
      · rw [if_pos h3]
        have : (decide (s.tr.length = 32) || decide (s.st.length = 512)) = true := by simpa using h3
        simp [this]
      · rw [if_neg h3]
        have : (decide (s.tr.length = 32) || decide (s.st.length = 512)) = false := by
          rw [Bool.or_eq_false_iff]
          constructor
          · simp; intro e; exact h3 (Or.inl e)
          · simp; intro e; exact h3 (Or.inr e)
        simp [this]
  · have e1 : decide (K < n) = false := by simpa using h1
    have e2 : decide ((n : Int) ≤ (K : Int)) = true := by simp; omega
    rw [e1, e2, if_pos (Or.inl rfl)]
    simp
theorem wyU_way (N t b : Int) (hn : f.cd.length = n) (hkn : k < n) (hi : f.cd.getD k default = ⟨16, N, t, b⟩) (hov : s.tr.length ≤ 32) (hsl : s.st.length ≤ 512) :
    wyU k n s = ((wayS f p k s).1, (wayS f p k s).2.map fun x => ((x.1 : Int), x.2)) := by
  have est : stepS f p (f.cd.getD k default) s = if s.tr = [] then none else some (some ⟨s.st, s.tr.dropLast⟩, none) := by rw [hi]; simp [stepS]
  unfold wayS wyU
  rw [est]
  by_cases h0 : s.tr = []
  · rw [if_pos h0, if_pos (Or.inr (by rw [h0]; rfl))]
    rfl
  · rw [if_neg h0, hn]
    have h0' : s.tr.length ≠ 0 := fun e => h0 (List.length_eq_zero_iff.1 e)
    have o1 : anyO (some ⟨s.st, s.tr.dropLast⟩) = false := by
      show over _ = _
      unfold over
      simp
      omega
    simp only [o1]
    by_cases h2 : k + 1 = n
    · have e3 : decide (n ≤ k + 1) = true := by simp; omega
      rw [if_pos (Or.inl h2), e3]
      rfl
    · have e3 : decide (n ≤ k + 1) = false := by simp; omega
      rw [if_neg (by rintro (e | e); exact h2 e; exact h0' e), e3]
      rfl
theorem ct_lens (c : Ct w f p q gs ga n k b3 o3 c2 c3 c4 c5 v0 a2 a4 a5 L s g) : k < n ∧ s.st.length ≤ 512 ∧ s.tr.length ≤ 32 := ⟨by rw [← c.wk.len]; exact (List.getElem?_eq_some_iff.1 c.at').1, over_len c.ov⟩
theorem tz_len {s : Sp} (h : Tz s) (hl : s.tr.length ≤ 32) : (encTr s.tr).length ≤ 1000000 := by have := encTr_len s.tr h; omega
theorem kw_15 (c : Ct w f p q gs ga n k b3 o3 c2 c3 c4 c5 v0 a2 a4 a5 L s g) (hz : Tz s) (N t b : Int) (hi : f.cd.getD k default = ⟨15, N, t, b⟩) : KW w f p q k s := by
  obtain ⟨K, rfl⟩ := n_nat c hi
  obtain ⟨h1, h2, h3⟩ := ct_lens c
  have hN := right_n c.right
  rw [hi] at hN
  have hcell := c.cell
  rw [hi] at hcell
  have hs := site_of c
  have kk := ways_t q gs ga n k b3 o3 c3 v0 (ci f.sg.res) (.slice a2 f.loc.length c2) (.slice a4 p.fns.length c4) (.slice a5 p.vars.length c5) L s g K t b (byR 15) (lo 15) (Cd.hi 15) (taR 15) (puR 15) (nmR 15) (decide (K < n)) w c.wk c.at' (by have := c.n1; omega) c.le c.le2
    (hcell 0 _ rfl) (hcell 1 _ rfl) (hcell 2 _ rfl) (hcell 3 _ rfl) h3 h2 (by unfold D.I64; simp only [] at hN; omega) (tz_len hz h3) c.tab
    (fun W => row_is 15 W)
    (fun W hW => by
      have := has_any q v0 f.sg.res a2 (some ⟨b3, o3, none⟩) a4 a5 f.loc.length n p.fns.length p.vars.length c2 c3 c4 c5 15 K t b 4 (by decide) W (hs.keep hW)
      rw [has_4] at this
      exact this)
    (fun _ W hW => by
      have := behind_told q 15 K t b (byR 15) (lo 15) (Cd.hi 15) (nuR 15) (taR 15) (puR 15) (trR 15) (nmR 15) (enR 15) s.st [] [] c.ok.st vd_nil vd_nil (by omega) (by simp) (by decide) (by decide) (by decide) W (fun W' _ => tell_none q 15 K t b _ (by decide) W') (fun W' _ => tell_none q 15 K t b _ (by decide) W')
      rw [behT_some (tk_nil _), List.append_nil] at this
      exact this)
  rw [wyT_way K t b c.len h1 hi h3 h2] at kk
  exact kk
theorem kw_16 (c : Ct w f p q gs ga n k b3 o3 c2 c3 c4 c5 v0 a2 a4 a5 L s g) (hz : Tz s) (N t b : Int) (hi : f.cd.getD k default = ⟨16, N, t, b⟩) : KW w f p q k s := by
  obtain ⟨h1, h2, h3⟩ := ct_lens c
  have hcell := c.cell
  rw [hi] at hcell
  have hs := site_of c
  have kk := ways_u q gs ga n k b3 o3 c3 v0 (ci f.sg.res) (.slice a2 f.loc.length c2) (.slice a4 p.fns.length c4) (.slice a5 p.vars.length c5) L s g N t b (byR 16) (lo 16) (Cd.hi 16) (taR 16) (puR 16) (nmR 16) w c.wk c.at' (by have := c.n1; omega) c.le c.le2
    (hcell 0 _ rfl) (hcell 1 _ rfl) (hcell 2 _ rfl) (hcell 3 _ rfl) h3 h2 (tz_len hz h3) c.ok
    (fun W => row_is 16 W)
    (fun W hW => has_any q v0 f.sg.res a2 (some ⟨b3, o3, none⟩) a4 a5 f.loc.length n p.fns.length p.vars.length c2 c3 c4 c5 16 N t b 0 (by decide) W (hs.keep hW))
    (fun W hW => by
      have := behind_told q 16 N t b (byR 16) (lo 16) (Cd.hi 16) (nuR 16) (taR 16) (puR 16) (trR 16) (nmR 16) (enR 16) s.st [] [] c.ok.st vd_nil vd_nil (by omega) (by simp) (by decide) (by decide) (by decide) W (fun W' _ => tell_none q 16 N t b _ (by decide) W') (fun W' _ => tell_none q 16 N t b _ (by decide) W')
      rw [behT_some (tk_nil _), List.append_nil] at this
      exact this)
  rw [wyU_way (p := p) N t b c.len h1 hi h3 h2] at kk
  exact kk
/-- Where every instruction leads. -/
theorem kw_all (c : Ct w f p q gs ga n k b3 o3 c2 c3 c4 c5 v0 a2 a4 a5 L s g) (hz : Tz s) (hps : ∀ g ∈ p.fns, g.ps.length ≤ 17592186044416) : KW w f p q k s := by
  obtain ⟨i, hi⟩ : ∃ i, f.cd.getD k default = i := ⟨_, rfl⟩
  have hr := right_parts c.right
  rw [hi] at hr
  obtain ⟨op, N, t, b⟩ := i
  have hk : 1 ≤ op ∧ op ≤ 17 := by simpa [known] using hr.1
  have hcell := c.cell
  have hr1 := c.right
  rw [hi] at hcell hr1
  have : op = 1 ∨ op = 2 ∨ op = 3 ∨ op = 4 ∨ op = 5 ∨ op = 6 ∨ op = 7 ∨ op = 8 ∨ op = 9 ∨ op = 10 ∨ op = 11 ∨ op = 12 ∨ op = 13 ∨ op = 14 ∨ op = 15 ∨ op = 16 ∨ op = 17 := by omega
  rcases this with rfl | rfl | rfl | rfl | rfl | rfl | rfl | rfl | rfl | rfl | rfl | rfl | rfl | rfl | rfl | rfl | rfl
  · exact kw_push f p q gs ga n k b3 o3 c2 c3 c4 c5 v0 a2 a4 a5 L s g _ w c.wk c.at' c.n1 c.le c.le2 c.len hcell hi hr1 c.ov c.ok rfl
  · exact kw_2 c N t b hi
  · exact kw_3 c N t b hi
  · exact kw_4 c N t b hi
  · exact kw_5 c N t b hi
  · exact kw_6 c N t b hi
  · exact kw_7 c N t b hi
  · exact kw_8 c N t b hi
  · exact kw_9 c N t b hi
  · exact kw_10 c hps N t b hi
  · exact kw_ret f p q gs ga n k b3 o3 c2 c3 c4 c5 v0 a2 a4 a5 L s g _ w c.wk c.at' c.n1 c.le c.le2 c.len hcell hi hr1 c.ov c.ok rfl c.okF.res
  · exact kw_12 c 12 N t b (Or.inl rfl) hi
  · exact kw_13 c N t b hi
  · exact kw_14 c N t b hi
  · exact kw_15 c hz N t b hi
  · exact kw_16 c hz N t b hi
  · exact kw_12 c 17 N t b (Or.inr rfl) hi
end Go.Proofs.YtoiglopilpoafaaGreatDoor.Cd
