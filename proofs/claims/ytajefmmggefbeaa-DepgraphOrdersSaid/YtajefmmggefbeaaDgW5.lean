/- The document's Order, Levels. -/
import Derived.Test.YtajefmmggefbeaaDgW4
namespace Go.Proofs.Ytajefmmggefbeaa.Dg
open Go.RowKit Go.Sort
set_option linter.unusedSimpArgs false
set_option linter.unusedVariables false

theorem missV_shape (r : Option (Str × Str)) : ∃ a b : Str, missV r = .tuple #[ct a, ct b, .bool r.isSome] := by
  cases r with
  | none => exact ⟨[], [], rfl⟩
  | some x => exact ⟨x.1, x.2, rfl⟩
set_option maxRecDepth 20000 in
set_option maxHeartbeats 2000000 in
theorem rorder_err (p : Value) (g : Gr) (w : World) (h : Rg w p g) (he : ordE g ≠ 0) :
    Calls Try.prog 21 #[p] w fun e w' => e = .returned (.tuple #[.slice none 0 0, .int .i64 (ordE g)]) ∧ Fr (fun _ => False) w w' := by
  have hH : Hidden (Rg w p g) := h
  have km := rmissing_any p g w h
  obtain ⟨ma, mb, hm⟩ := missV_shape (missS g)
  rw [hm] at km
  obtain ⟨B, _, _, hp, _⟩ := h.cell
  subst hp
  cases hs : (missS g).isSome
  · rw [hs] at km
    have he1 : ordE g = 32 ∧ ringS g ≠ [] := by
      unfold ordE at he ⊢
      rw [hs] at he ⊢
      simp only [Bool.false_eq_true, if_false] at he ⊢
      by_cases hr : ringS g = []
      · rw [if_pos hr] at he; exact absurd rfl he
      · exact ⟨if_neg hr, hr⟩
    rw [he1.1]
    have hrl : Hidden (0 < (ringS g).length) := List.length_pos_iff.2 he1.2
    clear h he hm hs he1
    go_enter Try.func21, Try.ntmps21
    go_wp2_with fail
    refine km.mono ?_
    rintro e w1 ⟨rfl, f1⟩
    have f1H : Hidden (Fr (fun _ => False) w w1) := f1
    have kr := rring_any _ g w1 ((show Rg w _ g from hH).later f1)
    clear km f1
    go_wp2_with fail
    refine kr.mono ?_
    rintro e w2 ⟨⟨ao, cap, rfl, t⟩, f2⟩
    have f2H : Hidden (Fr (fun _ => False) w w2) := Fr.same f1H f2
    have hlt : 0 < (ringS g).length := hrl
    clear kr t f2
    generalize (ringS g).length = n at *
    have hz : (0 : Int) < (n : Int) := by omega
    go_wp2
    go_ret2
    exact ⟨rfl, f2H⟩
  · rw [hs] at km
    have he1 : ordE g = 31 := by unfold ordE; rw [hs]; rfl
    rw [he1]
    clear h he hm hs he1
    go_enter Try.func21, Try.ntmps21
    go_wp2_with fail
    refine km.mono ?_
    rintro e w1 ⟨rfl, f1⟩
    have f1H : Hidden (Fr (fun _ => False) w w1) := f1
    clear km f1
    go_wp2
    go_ret2
    exact ⟨rfl, f1H⟩
theorem ord_parts {g : Gr} (h : ordE g = 0) : missS g = none ∧ ringS g = [] := by
  unfold ordE at h
  split at h
  · cases h
  · rename_i hm
    split at h
    · rename_i hr
      refine ⟨?_, hr⟩
      cases hq : missS g with
      | none => rfl
      | some x => rw [hq] at hm; simp at hm
    · cases h
/-- The document's order, while it is made. -/
structure OAt (g : Gr) (R out : List Str) : Prop where
  at_ : OrdAt g out R
  nodup : out.Nodup
  sub : ∀ x ∈ out, x ∈ g.ks
theorem OAt.len {g : Gr} (hg : g.WF) {R out : List Str} (h : OAt g R out) : (leftS g out).length + out.length = g.ks.length := left_lt h.nodup h.sub hg
theorem OAt.snoc {g : Gr} (hg : g.WF) {R out : List Str} (h : OAt g R out) {k : Nat} {x : Str} (hk : g.ks[k]? = some x) (hx : x ∉ out ∧ okIn g out x = true) (hb : ∀ i y, i < k → g.ks[i]? = some y → ¬ (y ∉ out ∧ okIn g out y = true)) : OAt g R (out ++ [x]) := by
  refine ⟨h.at_.step hg (next_find hk hx hb), ?_, fun y hy => ?_⟩
  · rw [List.nodup_append]
    refine ⟨h.nodup, by simp, fun a ha b hb e => ?_⟩
    simp at hb; subst hb e; exact hx.1 ha
  · rcases List.mem_append.1 hy with hy | hy
    · exact h.sub y hy
    · simp at hy; subst hy; exact List.mem_of_getElem? hk
set_option maxRecDepth 20000 in
set_option maxHeartbeats 4000000 in
theorem rorder_ok (p : Value) (g : Gr) (w : World) (h : Rg w p g) (he : ordE g = 0) (R : List Str) (hR : orderS g = some R) :
    Calls Try.prog 21 #[p] w fun e w' => (∃ ao cap, e = .returned (.tuple #[.slice ao R.length cap, .int .i64 0]) ∧ To w' w.heap.size (.slice ao R.length cap) R) ∧ Fr (fun _ => False) w w' := by
  have hH : Hidden (Rg w p g) := h
  have km := rmissing_any p g w h
  have hcm : Hidden (Calm g) := calm_of h.wf he
  obtain ⟨hms, hrs⟩ := ord_parts he
  rw [hms] at km
  simp only [missV] at km
  obtain ⟨B, ao, cap, rfl, cB, hrow⟩ := h.cell
  have hsm := h.small
  have hrowH : Hidden (RL w ao cap g) := hrow
  have hc1 := hrow.1
  have hc2 := hrow.2.1
  have hst : Hidden (OAt g R []) := ⟨OrdAt.start hR, by simp, by simp⟩
  have hrsH : Hidden (ringS g = []) := hrs
  clear h he hR hms hrs hrow
  go_enter Try.func21, Try.ntmps21
  go_wp2_with fail
  refine km.mono ?_
  rintro e w1 ⟨rfl, f1⟩
  have f1H : Hidden (Fr (fun _ => False) w w1) := f1
  have kr := rring_any _ g w1 ((show Rg w _ g from hH).later f1)
  rw [(show ringS g = [] from hrsH)] at kr
  clear km f1
  go_wp2_with fail
  refine kr.mono ?_
  rintro e w2 ⟨⟨ao2, cap2, rfl, t2⟩, f2⟩
  have f2H : Hidden (Fr (fun _ => False) w w2) := Fr.same f1H f2
  have cB2 := (show Fr (fun _ => False) w w2 from f2H).cellN cB
  clear kr t2 f2 f1H
  simp only [List.length_nil]
  go_wp2_with fail
  go_loopg [7] g.ks.length (fun q ov wr => ∃ out : List Str, q = g.ks.length - out.length ∧ OAt g R out ∧ To wr w.heap.size ov out ∧ Fr (fun _ => False) w wr)
  case atStart => exact ⟨[], by simp, hst, To.nil _ _, f2H⟩
  case round =>
    obtain ⟨out, hq, ho, hto, hf⟩ := hrel
    have hqH : Hidden (gk = g.ks.length - out.length) := hq
    have hoH : Hidden (OAt g R out) := ho
    have htoH : Hidden (To wr w.heap.size u7 out) := hto
    have hfH : Hidden (Fr (fun _ => False) w wr) := hf
    have hol := ho.len (show Rg w _ g from hH).wf
    have cBr := hf.cellN cB
    obtain ⟨aoo, capo, hu, o1, o2⟩ := hto.shape
    subst hu
    clear hq hst cB2
    by_cases hlt : out.length < g.ks.length
    · obtain ⟨k0, x0, hk0, hx0, hok0⟩ := (show Calm g from hcm).there_next (out := out) (fun e => by rw [e] at hol; simp at hol; omega)
      have hk0l := (List.getElem?_eq_some_iff.1 hk0).1
      have hk0H : Hidden (g.ks[k0]? = some x0 ∧ x0 ∉ out ∧ okIn g out x0 = true) := ⟨hk0, hx0, hok0⟩
      clear ho hto hf hol hk0 hx0 hok0
      go_wp2_with fail
      obtain ⟨V, hV⟩ : ∃ V, V = wr := ⟨wr, rfl⟩
      subst hV
      obtain ⟨gko, hgko⟩ : ∃ gko, gko = gk := ⟨gk, rfl⟩
      subst hgko
      clear cBr
      go_loopg [8] k0 (fun q iv wr' => ∃ k : Nat, iv = .int .i64 (k : Int) ∧ k ≤ k0 ∧ q = k0 - k ∧ (∀ i y, i < k → g.ks[i]? = some y → ¬ (y ∉ out ∧ okIn g out y = true)) ∧ Fr (fun _ => False) V wr')
      case atStart => exact ⟨0, rfl, by omega, by omega, fun i y hi => absurd hi (by omega), Fr.refl _ _⟩
      case round =>
        obtain ⟨k, rfl, hkk, hq5, hbf, hf5⟩ := hrel
        have hqH5 : Hidden (gk = k0 - k) := hq5
        have hbfH : Hidden (∀ i y, i < k → g.ks[i]? = some y → ¬ (y ∉ out ∧ okIn g out y = true)) := hbf
        have hfH5 : Hidden (Fr (fun _ => False) V wr) := hf5
        have fw : Hidden (Fr (fun _ => False) w wr) := Fr.same hfH hf5
        have cBw := (show Fr (fun _ => False) w wr from fw).cellN cB
        obtain ⟨x, hx⟩ : ∃ x, g.ks[k]? = some x := ⟨g.ks[k]'(by omega), List.getElem?_eq_getElem (by omega)⟩
        have hxH : Hidden (g.ks[k]? = some x) := hx
        obtain ⟨b, off, aoi, capi, e1, c1, c2, ct3⟩ := RL.at ((show RL w ao cap g from hrowH).later fw) hx
        subst e1
        have tor : To wr w.heap.size (.slice aoo out.length capo) out := To.later htoH hf5
        have himx := (show Rg w _ g from hH).ims x
        have hkl : k < g.ks.length := by omega
        have cont : Hidden (¬ (x ∉ out ∧ okIn g out x = true) → k < k0 ∧ ∀ i y, i < k + 1 → g.ks[i]? = some y → ¬ (y ∉ out ∧ okIn g out y = true)) := by
          intro hn
          refine ⟨?_, fun i y hi hy => ?_⟩
          · rcases Nat.lt_or_ge k k0 with q | q
            · exact q
            · obtain rfl : k = k0 := by omega
              have h0 := (show g.ks[k]? = some x0 ∧ x0 ∉ out ∧ okIn g out x0 = true from hk0H)
              have e0 : x = x0 := Option.some.inj (hx.symm.trans h0.1)
              subst e0
              exact absurd h0.2 hn
          · rcases Nat.lt_or_ge i k with q | q
            · exact (show ∀ i y, i < k → g.ks[i]? = some y → ¬ (y ∉ out ∧ okIn g out y = true) from hbfH) i y q hy
            · obtain rfl : i = k := by omega
              have e0 : x = y := Option.some.inj (hx.symm.trans hy)
              subst e0
              exact hn
        by_cases hin : x ∈ out
        · have kh := rhas_any _ out x true (by simp [hin]) wr tor.tn.tl
          have hc3 := (show ¬ _ → _ from cont) (fun h => h.1 hin)
          obtain ⟨hkn, hb2⟩ := hc3
          have hb2H : Hidden (∀ i y, i < k + 1 → g.ks[i]? = some y → ¬ (y ∉ out ∧ okIn g out y = true)) := hb2
          clear hq5 hbf hf5 hx ct3 tor hin cont hb2
          go_wp2_with (go_at_call 36; refine kh.mono ?_; rintro e w4 ⟨rfl, hw4⟩; replace hw4 := hw4.symm; subst hw4)
          go_roundg (k0 - (k + 1))
          case measure => have := (show gk = k0 - k from hqH5); omega
          case rel => exact ⟨k + 1, by go_num, by omega, rfl, hb2H, hfH5⟩
        · have kh := rhas_any _ out x false (by simp [hin]) wr tor.tn.tl
          have kw := fun r hr => rwithin_any _ _ (g.im x) out wr ct3 tor.tn.tl (by omega) (fun y hy => (show Rg w _ g from hH).okI hy) r hr
          cases hok : okIn g out x
          · have kw := kw false hok
            have hc3 := (show ¬ _ → _ from cont) (fun h => by rw [hok] at h; cases h.2)
            obtain ⟨hkn, hb2⟩ := hc3
            have hb2H : Hidden (∀ i y, i < k + 1 → g.ks[i]? = some y → ¬ (y ∉ out ∧ okIn g out y = true)) := hb2
            clear hq5 hbf hf5 hx ct3 tor hin cont hb2 hok
            go_wp2_with (first
              | (go_at_call 36; refine kh.mono ?_; rintro e w4 ⟨rfl, hw4⟩; replace hw4 := hw4.symm; subst hw4)
              | (go_at_call 49; refine kw.mono ?_; rintro e w5 ⟨rfl, f5⟩))
            go_roundg (k0 - (k + 1))
            case measure => have := (show gk = k0 - k from hqH5); omega
            case rel => exact ⟨k + 1, by go_num, by omega, rfl, hb2H, Fr.same hfH5 f5⟩
          · have kw := kw true hok
            have ho2 : Hidden (OAt g R (out ++ [x])) := (show OAt g R out from hoH).snoc (show Rg w _ g from hH).wf hx ⟨hin, hok⟩ hbfH
            clear hq5 hbf hf5 hx ct3 tor hin cont hok
            go_wp2_with (first
              | (go_at_call 36; refine kh.mono ?_; rintro e w4 ⟨rfl, hw4⟩; replace hw4 := hw4.symm; subst hw4)
              | (go_at_call 49; refine kw.mono ?_; rintro e w5 ⟨rfl, f5⟩; have d1 := f5.cellN c1; have dB := f5.cellN cBw; have f5H : Hidden (Fr (fun _ => False) V w5) := Fr.same hfH5 f5; have t5 : Hidden (To w5 w.heap.size (.slice aoo out.length capo) out) := To.later htoH f5H; clear f5 c1 cBw c2)
              | (at_builtin; refine wpList_app rfl _ _ rfl w.heap.size _ _ out [x] rfl (To.keep t5 (Fr.alloc (fun _ => False) _ _) (fun _ _ f => f)) rfl (Tl.one _ x) (Nat.le_trans (show Fr (fun _ => False) w w5 from Fr.same hfH f5H).size (by simp)) (by simp only [List.length_cons, List.length_nil]; omega) ?_; intro v8 w8 t8 f8 _))
            go_roundg (g.ks.length - (out ++ [x]).length)
            case measure => have := (show gko = g.ks.length - out.length from hqH); rw [List.length_append, List.length_singleton]; omega
            case rel =>
              refine ⟨out ++ [x], rfl, ho2, t8, ?_⟩
              refine ((show Fr (fun _ => False) w w5 from Fr.same hfH f5H).same (Fr.alloc _ _ _)).over f8 fun k hk => ?_
              exact ((show To w5 w.heap.size _ _ from t5).own k hk).1
    · have e0 : leftS g out = [] := List.eq_nil_of_length_eq_zero (by omega)
      have e1 : Hidden (out = R) := ho.at_.end e0
      clear ho hto hf hol e0
      go_wp2
      go_ret2
      rw [← (show out = R from e1)]
      exact ⟨⟨aoo, capo, rfl, htoH⟩, hfH⟩
end Go.Proofs.Ytajefmmggefbeaa.Dg
