/- The program's instructions and the document's: the law's sameCode. -/
import Derived.Test.YtmkacbpeaggcpaaGreatDoorCdMn
import Derived.Test.YtmkacbpeaggcpaaGreatDoorTrG
import Derived.Test.YtmkacbpeaggcpaaGreatDoorTyAll
namespace Go.Proofs.YtmkacbpeaggcpaaGreatDoor.Cd
open Go.RowKit Ty
set_option linter.unusedSimpArgs false
set_option linter.unusedVariables false

theorem take_one {α : Type} {l : List α} {j : Nat} {x : α} (h : l[j]? = some x) : l.take (j + 1) = l.take j ++ [x] := by
  rw [List.take_add_one, h]; rfl
theorem ne_of_at {la lb : List In} {j : Nat} {x y : In} (hx : la[j]? = some x) (hy : lb[j]? = some y) (h : x ≠ y) : la ≠ lb := by
  rintro rfl
  rw [hx] at hy
  exact h (Option.some.inj hy)
set_option maxRecDepth 20000 in
set_option maxHeartbeats 4000000 in
theorem sameCode_any (ao bo : Option Addr) (na nb ca cb : Nat) (la lb : List In) (hna : la.length = na) (hnb : lb.length = nb) (R : Bool) (hR : Hidden (R = decide (la = lb))) (w : World) (ha : IL w ao ca la) (hb : IL w bo cb lb) :
    Calls Tryz.prog 12 #[.slice ao na ca, .slice bo nb cb] w fun e w' => e = .returned (.bool R) ∧ Fr (fun _ => False) w w' := by
  have haH : Hidden (IL w ao ca la) := ha
  have hbH : Hidden (IL w bo cb lb) := hb
  have naH : Hidden (la.length = na) := hna
  have nbH : Hidden (lb.length = nb) := hnb
  have a1 : na ≤ ca := by rw [← hna]; exact ha.1
  have b1 : nb ≤ cb := by rw [← hnb]; exact hb.1
  have a2 : ca ≤ 9223372036854775807 := by have := ha.2.1; simpa [maxLen] using this
  have b2 : cb ≤ 9223372036854775807 := by have := hb.2.1; simpa [maxLen] using this
  clear ha hb hna hnb
  by_cases hl : na = nb
  · subst hl
    go_enter Tryz.func12, Tryz.ntmps12
    go_wp2_with fail
    go_loopg [5] na (fun k iv wr => ∃ j : Nat, iv = .int .i64 (j : Int) ∧ j ≤ na ∧ k = na - j ∧ la.take j = lb.take j ∧ Fr (fun _ => False) w wr)
    case atStart => exact ⟨0, rfl, by omega, rfl, by simp, Fr.refl _ _⟩
    case round =>
      obtain ⟨j, rfl, hj, hk, heq, hf⟩ := hrel
      have hkH : Hidden (gk = na - j) := hk
      have heqH : Hidden (la.take j = lb.take j) := heq
      have hfH : Hidden (Fr (fun _ => False) w wr) := hf
      clear hk heq
      by_cases hjl : j < na
      · obtain ⟨x, hx⟩ : ∃ x, la[j]? = some x := ⟨_, List.getElem?_eq_getElem (by have : la.length = na := naH; omega)⟩
        obtain ⟨y, hy⟩ : ∃ y, lb[j]? = some y := ⟨_, List.getElem?_eq_getElem (by have : lb.length = na := nbH; omega)⟩
        obtain ⟨ba, ofa, rfl, cca⟩ := (show IL w ao ca la from haH).2.2.2.resolve_left (by rintro rfl; simp at hx)
        obtain ⟨bb', ofb, rfl, ccb⟩ := (show IL w bo cb lb from hbH).2.2.2.resolve_left (by rintro rfl; simp at hy)
        obtain ⟨c0, c1, c2, c3⟩ := IL.at' (cap := ca) (fun i x hx j u hu => hf.cellN (cca i x hx j u hu)) hx
        obtain ⟨d0, d1, d2, d3⟩ := IL.at' (cap := cb) (fun i x hx j u hu => hf.cellN (ccb i x hx j u hu)) hy
        have hxH : Hidden (la[j]? = some x) := hx
        have hyH : Hidden (lb[j]? = some y) := hy
        have hne : Hidden (x ≠ y → R = false) := fun h => by rw [show R = _ from hR]; simpa using ne_of_at hx hy h
        clear cca ccb hx hy hf
        obtain ⟨xo, xn, xt, xb⟩ := x
        obtain ⟨yo, yn, yt, yb⟩ := y
        simp only [] at c0 c1 c2 c3 d0 d1 d2 d3
        have kS := fun W => rsamev_any xt xb yt yb W
        by_cases h1 : xo = yo
        · subst h1
          by_cases h2 : xn = yn
          · subst h2
            by_cases h3 : xt = yt ∧ xb = yb
            · obtain ⟨rfl, rfl⟩ := h3
              simp only [and_self, decide_true] at kS
              go_wp2_with fail
              refine wp_region_grow (by kernel_rfl) (by kernel_rfl) ?_
              (repeat (first | (refine grow_op (v := ?_) ?_ ?_ ?_; rotate_left; (focus (first | exact wanted_none rfl | (go_simp; done))); (focus (intro w' hw'; have c0 := hw'.cellN c0; have c1 := hw'.cellN c1; have c2 := hw'.cellN c2; have c3 := hw'.cellN c3; have d0 := hw'.cellN d0; have d1 := hw'.cellN d1; have d2 := hw'.cellN d2; have d3 := hw'.cellN d3; (go_simp; first | with_reducible rfl | (go_at_call 31; refine calls_grow hw' ?_; first | (have q := kS w'; with_reducible exact q))))); (intro a' ha; simp only [Act.put, List.setIfInBounds_toArray, List.set_cons_zero, List.set_cons_succ] at ha; subst ha)) | (refine grow_no ?_ ?_; (focus (first | (go_simp; done) | rfl)); (intro a' ha; simp only [Act.put, List.setIfInBounds_toArray, List.set_cons_zero, List.set_cons_succ] at ha; subst ha)))); refine grow_nil ?_; intro w7 q7
              go_wp2_with fail
              go_roundg (na - (j + 1))
              case measure => have : gk = na - j := hkH; omega
              case rel => exact ⟨j + 1, by go_num, by omega, rfl, by rw [take_one (show la[j]? = _ from hxH), take_one (show lb[j]? = _ from hyH), show la.take j = lb.take j from heqH], (show Fr _ w wr from hfH).same q7⟩
            · have hd : decide (xt = yt ∧ xb = yb) = false := by simpa using h3
              rw [hd] at kS
              have hRf : R = false := (show _ → _ from hne) (by rintro h; cases h; exact h3 ⟨rfl, rfl⟩)
              clear h3 hd
              go_wp2_with fail
              refine wp_region_grow (by kernel_rfl) (by kernel_rfl) ?_
              (repeat (first | (refine grow_op (v := ?_) ?_ ?_ ?_; rotate_left; (focus (first | exact wanted_none rfl | (go_simp; done))); (focus (intro w' hw'; have c0 := hw'.cellN c0; have c1 := hw'.cellN c1; have c2 := hw'.cellN c2; have c3 := hw'.cellN c3; have d0 := hw'.cellN d0; have d1 := hw'.cellN d1; have d2 := hw'.cellN d2; have d3 := hw'.cellN d3; (go_simp; first | with_reducible rfl | (go_at_call 31; refine calls_grow hw' ?_; first | (have q := kS w'; with_reducible exact q))))); (intro a' ha; simp only [Act.put, List.setIfInBounds_toArray, List.set_cons_zero, List.set_cons_succ] at ha; subst ha)) | (refine grow_no ?_ ?_; (focus (first | (go_simp; done) | rfl)); (intro a' ha; simp only [Act.put, List.setIfInBounds_toArray, List.set_cons_zero, List.set_cons_succ] at ha; subst ha)))); refine grow_nil ?_; intro w7 q7
              go_wp2_with fail
              go_ret
              exact ⟨by rw [hRf]; rfl, (show Fr _ w wr from hfH).same q7⟩
          · have hd : (xn != yn) = true := by simpa using h2
            have hRf : R = false := (show _ → _ from hne) (by rintro h; cases h; exact h2 rfl)
            clear h2
            go_wp2_with fail
            refine wp_region_grow (by kernel_rfl) (by kernel_rfl) ?_
            (repeat (first | (refine grow_op (v := ?_) ?_ ?_ ?_; rotate_left; (focus (first | exact wanted_none rfl | (go_simp; done))); (focus (intro w' hw'; have c0 := hw'.cellN c0; have c1 := hw'.cellN c1; have c2 := hw'.cellN c2; have c3 := hw'.cellN c3; have d0 := hw'.cellN d0; have d1 := hw'.cellN d1; have d2 := hw'.cellN d2; have d3 := hw'.cellN d3; (go_simp; with_reducible rfl))); (intro a' ha; simp only [Act.put, List.setIfInBounds_toArray, List.set_cons_zero, List.set_cons_succ] at ha; subst ha)) | (refine grow_no ?_ ?_; (focus (first | (go_simp; done) | rfl)); (intro a' ha; simp only [Act.put, List.setIfInBounds_toArray, List.set_cons_zero, List.set_cons_succ] at ha; subst ha)))); refine grow_nil ?_; intro w7 q7
            go_wp2_with fail
            go_ret
            exact ⟨by rw [hRf]; rfl, (show Fr _ w wr from hfH).same q7⟩
        · have hd : (xo != yo) = true := by simpa using h1
          have hRf : R = false := (show _ → _ from hne) (by rintro h; cases h; exact h1 rfl)
          clear h1
          go_wp2_with fail
          refine wp_region_grow (by kernel_rfl) (by kernel_rfl) ?_
          (repeat (first | (refine grow_op (v := ?_) ?_ ?_ ?_; rotate_left; (focus (first | exact wanted_none rfl | (go_simp; done))); (focus (intro w' hw'; have c0 := hw'.cellN c0; have c1 := hw'.cellN c1; have c2 := hw'.cellN c2; have c3 := hw'.cellN c3; have d0 := hw'.cellN d0; have d1 := hw'.cellN d1; have d2 := hw'.cellN d2; have d3 := hw'.cellN d3; (go_simp; with_reducible rfl))); (intro a' ha; simp only [Act.put, List.setIfInBounds_toArray, List.set_cons_zero, List.set_cons_succ] at ha; subst ha)) | (refine grow_no ?_ ?_; (focus (first | (go_simp; done) | rfl)); (intro a' ha; simp only [Act.put, List.setIfInBounds_toArray, List.set_cons_zero, List.set_cons_succ] at ha; subst ha)))); refine grow_nil ?_; intro w7 q7
          go_wp2_with fail
          go_ret
          exact ⟨by rw [hRf]; rfl, (show Fr _ w wr from hfH).same q7⟩
      · obtain rfl : j = na := by omega
        have hRt : R = true := by
          have h1 : la.length = j := naH
          have h2 : lb.length = j := nbH
          have h3 : la.take j = lb.take j := heqH
          rw [show R = _ from hR]
          rw [← h1, List.take_length, h1, ← h2, List.take_length] at h3
          simpa using h3
        clear hjl hf
        go_wp2_with fail
        go_ret
        exact ⟨by rw [hRt]; rfl, hfH⟩
  · have hd : ((na : Int) != (nb : Int)) = true := by simpa using (fun h : (na : Int) = (nb : Int) => hl (by omega))
    have hRf : R = false := by
      rw [show R = _ from hR]
      simp only [decide_eq_false_iff_not]
      rintro rfl
      exact hl ((show la.length = na from naH).symm.trans nbH)
    clear hl
    go_enter Tryz.func12, Tryz.ntmps12
    go_wp2_with fail
    go_ret
    exact ⟨by rw [hRf]; rfl, Fr.refl _ _⟩
end Go.Proofs.YtmkacbpeaggcpaaGreatDoor.Cd
