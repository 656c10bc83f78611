/- alike: two rows of ints. -/
import Derived.Test.YtphpmaimgndjmaaDoorCdFm
import Derived.Test.YtphpmaimgndjmaaDoorCdSi
import Derived.Deep.RegionHeld3
namespace Go.Proofs.YtphpmaimgndjmaaDoor.Cd
open Go.RowKit Ty
set_option linter.unusedSimpArgs false
set_option linter.unusedVariables false

theorem take_eq_snoc {l r : List Int} {j : Nat} {x y : Int} (h : l.take j = r.take j) (hx : l[j]? = some x) (hy : r[j]? = some y) (e : x = y) : l.take (j + 1) = r.take (j + 1) := by
  rw [List.take_add_one, List.take_add_one, h, hx, hy, e]
set_option maxRecDepth 20000 in
set_option maxHeartbeats 2000000 in
theorem alike_any (a b : Option Addr) (n m ca cb : Nat) (l r : List Int) (hl : l.length = n) (hr : r.length = m) (w : World) (h1 : InL w a ca l) (h2 : InL w b cb r) (hn : n ≤ 100000000) (hm : m ≤ 100000000) :
    Calls Tryd.prog 11 #[.slice a n ca, .slice b m cb] w fun e w' => e = .returned (.bool (decide (l = r))) ∧ Fr (fun _ => False) w w' := by
  obtain ⟨R, hR⟩ : ∃ R, R = decide (l = r) := ⟨_, rfl⟩
  rw [← hR]
  have hRH : Hidden (R = decide (l = r)) := hR
  have h1H : Hidden (InL w a ca l) := h1
  have h2H : Hidden (InL w b cb r) := h2
  have hlH : Hidden (l.length = n) := hl
  have hrH : Hidden (r.length = m) := hr
  have ha1 : n ≤ ca := by rw [← hl]; exact h1.1
  have hb1 : m ≤ cb := by rw [← hr]; exact h2.1
  have ha2 : ca ≤ 9223372036854775807 := by have := h1.2.1; simpa [maxLen] using this
  have hb2 : cb ≤ 9223372036854775807 := by have := h2.2.1; simpa [maxLen] using this
  by_cases he : n = m
  · subst he
    have hb : ((n : Int) != (n : Int)) = false := by simp
    clear hR h1 h2 hl hr
    go_enter Tryd.func11, Tryd.ntmps11
    go_wp2_with fail
    go_loopg [5] n (fun k iv wr => ∃ j : Nat, iv = .int .i64 (j : Int) ∧ j ≤ n ∧ k = n - j ∧ l.take j = r.take j ∧ Fr (fun _ => False) w wr)
    case atStart => exact ⟨0, rfl, by omega, rfl, by simp, Fr.refl _ _⟩
    case round =>
      obtain ⟨j, rfl, hj, hk, ht, hf⟩ := hrel
      have hkH : Hidden (gk = n - j) := hk
      have htH : Hidden (l.take j = r.take j) := ht
      have hfH : Hidden (Fr (fun _ => False) w wr) := hf
      clear hk ht
      by_cases hjl : j < n
      · obtain ⟨x, hx⟩ : ∃ x, l[j]? = some x := ⟨_, List.getElem?_eq_getElem (by have : l.length = n := hlH; omega)⟩
        obtain ⟨y, hy⟩ : ∃ y, r[j]? = some y := ⟨_, List.getElem?_eq_getElem (by have : r.length = n := hrH; omega)⟩
        obtain ⟨b1, o1, rfl, hc1⟩ := (show InL w a ca l from h1H).2.2.2.resolve_left (by rintro rfl; simp at hx)
        obtain ⟨b2, o2, rfl, hc2⟩ := (show InL w b cb r from h2H).2.2.2.resolve_left (by rintro rfl; simp at hy)
        have q1 := hf.cellN (hc1 j x hx)
        have q2 := hf.cellN (hc2 j y hy)
        have hxH : Hidden (l[j]? = some x) := hx
        have hyH : Hidden (r[j]? = some y) := hy
        have hjn2 : (j : Int) < (n : Int) := by omega
        clear hc1 hc2 hx hy hf
        by_cases e : x = y
        · have eb : (x != y) = false := by simp [e]
          have hnx : Hidden (l.take (j + 1) = r.take (j + 1)) := take_eq_snoc htH hxH hyH e
          clear e
          go_wp2_with fail
          go_region_held3 (fun w' => w'.cell? ⟨b1, o1 + j, none⟩ = some (ci x) ∧ w'.cell? ⟨b2, o2 + j, none⟩ = some (ci y)) (first | (refine ⟨by with_reducible assumption, by with_reducible assumption⟩) | go_keep) (fail)
          all_goals
            go_wp2_with fail
            go_roundg (n - (j + 1))
            case measure => have : gk = n - j := hkH; omega
            case rel => exact ⟨j + 1, by go_num, by omega, rfl, hnx, (show Fr (fun _ => False) w wr from hfH).same (Fr.drew _ _)⟩
        · have eb : (x != y) = true := by simp [e]
          have hRf : Hidden (R = false) := by
            show _ = _
            rw [show R = _ from hRH, decide_eq_false]
            intro h
            rw [h] at hxH
            have h3 : some x = some y := (show r[j]? = some x from hxH).symm.trans hyH
            exact e (Option.some.inj h3)
          clear e
          go_wp2_with fail
          go_region_held3 (fun w' => w'.cell? ⟨b1, o1 + j, none⟩ = some (ci x) ∧ w'.cell? ⟨b2, o2 + j, none⟩ = some (ci y)) (first | (refine ⟨by with_reducible assumption, by with_reducible assumption⟩) | go_keep) (fail)
          all_goals
            go_wp2_with fail
            go_ret
            rw [show R = false from hRf]
            exact ⟨rfl, (show Fr (fun _ => False) w wr from hfH).same (Fr.drew _ _)⟩
      · obtain rfl : j = n := by omega
        have hRt : Hidden (R = true) := by
          have h3 : l.take j = r.take j := htH
          rw [List.take_of_length_le (by have : l.length = j := hlH; omega), List.take_of_length_le (by have : r.length = j := hrH; omega)] at h3
          show _ = _
          rw [show R = _ from hRH, decide_eq_true h3]
        have hjn2 : decide ((j : Int) < (j : Int)) = false := by simp
        clear hjl
        go_wp2_with fail
        go_ret
        rw [show R = true from hRt]
        exact ⟨rfl, hfH⟩
  · have hb : ((n : Int) != (m : Int)) = true := by simp; omega
    have hRf : Hidden (R = false) := by
      show _ = _
      rw [show R = _ from hRH, decide_eq_false]
      intro h
      rw [h] at hlH
      have h3 : n = m := (show r.length = n from hlH).symm.trans hrH
      exact he h3
    clear hR h1 h2 hl hr he
    go_enter Tryd.func11, Tryd.ntmps11
    go_wp2_with fail
    go_ret
    rw [show R = false from hRf]
    exact ⟨rfl, Fr.refl _ _⟩
/-- What makes a function of the law's own one that Verify takes. -/
theorem fi_of {w : World} {B : Nat} {v v' : Value} {f : Fu} {p : Fm} (h : FnO w B v f) (h' : FmO w B v' p) (hok : ∀ i ∈ f.cd, OkIn i) (hps : ∀ g ∈ p.fns, g.ps.length ≤ 17592186044416) (ht : F.Tab w) :
    ∃ a0 a2 a3 a4 a5 c0 c2 c3 c4 c5, v = .agg #[.slice a0 f.sg.ps.length c0, ci f.sg.res, .slice a2 f.loc.length c2, .slice a3 f.cd.length c3] ∧ v' = .agg #[.slice a4 p.fns.length c4, .slice a5 p.vars.length c5] ∧ Fi w f p a0 a2 a3 a4 a5 c0 c2 c3 c4 c5 := by
  obtain ⟨vp, vl, vc, rfl, h1, h2, h3⟩ := h
  obtain ⟨v4, v5, rfl, h4, h5⟩ := h'
  obtain ⟨a0, c0, rfl, i0⟩ := h1.inl
  obtain ⟨a2, c2, rfl, i2⟩ := h2.inl
  obtain ⟨a3, c3, rfl, i3⟩ := h3.il
  obtain ⟨a4, c4, rfl, i4⟩ := h4.sgl
  obtain ⟨a5, c5, rfl, i5⟩ := h5.inl
  exact ⟨a0, a2, a3, a4, a5, c0, c2, c3, c4, c5, rfl, rfl, ⟨i0, i2, i3, i4, i5, hok, hps, ht⟩⟩
end Go.Proofs.YtphpmaimgndjmaaDoor.Cd
