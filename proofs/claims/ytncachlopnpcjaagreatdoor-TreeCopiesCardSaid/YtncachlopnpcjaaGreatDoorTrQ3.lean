/- slices.Equal of texts and of parameters. -/
import Derived.Test.YtncachlopnpcjaaGreatDoorTrQ2
import Derived.Deep.QuietTactic
import Derived.BigQuiet
namespace Go.Proofs.YtncachlopnpcjaaGreatDoor
open Go.RowKit Te
set_option linter.unusedSimpArgs false
set_option linter.unusedVariables false

theorem drewN_q {S : Nat → Prop} {w w' : World} (h : Fr S w w') (n : Nat) : Fr S w (w'.drewN n) := ⟨h.os, h.output, h.size, h.block⟩
theorem drop_eq {α : Type} [DecidableEq α] {l l2 : List α} {i : Nat} {x y : α} (hx : l[i]? = some x) (hy : l2[i]? = some y) : decide (l.drop i = l2.drop i) = (decide (x = y) && decide (l.drop (i + 1) = l2.drop (i + 1))) := by
  rw [drop_at hx, drop_at hy, Bool.eq_iff_iff]
  simp
set_option maxRecDepth 20000 in
set_option maxHeartbeats 4000000 in
theorem eqS_any (l l2 : List Bs) (ao ao2 : Option Addr) (cap cap2 : Nat) (w : World) (e1 : SvL w ao cap l) (e2 : SvL w ao2 cap2 l2) (R : Bool) (hR : Hidden (decide (l = l2) = R)) :
    Calls Tryz.prog 14 #[.slice ao l.length cap, .slice ao2 l2.length cap2] w fun e w' => e = .returned (.bool R) ∧ Fr (fun _ => False) w w' := by
  have n1 : l.length ≤ 9223372036854775807 := by have := e1.1; have := e1.2.1; unfold maxLen at this; omega
  have n2 : l2.length ≤ 9223372036854775807 := by have := e2.1; have := e2.2.1; unfold maxLen at this; omega
  have m1 := e1.1
  have m2 := e2.1
  by_cases hlen : l.length = l2.length
  · have hne : ((l.length : Int) != (l2.length : Int)) = false := by simp [hlen]
    have hlenH : Hidden (l.length = l2.length) := hlen
    clear hlen
    go_enter Tryz.func14, Tryz.ntmps14
    go_wp2_with fail
    go_loopg [13] l.length (fun g iv wr => ∃ (i : Nat), iv = ci (i : Int) ∧ i ≤ l.length ∧ R = decide (l.drop i = l2.drop i) ∧ g = l.length - i ∧ Fr (fun _ => False) w wr)
    case atStart => exact ⟨0, rfl, by omega, (show _ = R from hR).symm, rfl, Fr.refl _ _⟩
    case round =>
      obtain ⟨i, rfl, hi, hdk, hgk, hfr⟩ := hrel
      have hgkH : Hidden (gk = l.length - i) := hgk
      have hdkH : Hidden (R = decide (l.drop i = l2.drop i)) := hdk
      clear hgk hdk hR
      by_cases hil : i < l.length
      · have hil2 : i < l2.length := by have : l.length = l2.length := hlenH; omega
        obtain ⟨x, hx⟩ : ∃ x, l[i]? = some x := ⟨l[i], List.getElem?_eq_getElem hil⟩
        obtain ⟨y, hy⟩ : ∃ y, l2[i]? = some y := ⟨l2[i], List.getElem?_eq_getElem hil2⟩
        rcases e1.2.2 with h0 | ⟨b, off, rfl, hc⟩
        · rw [h0] at hil; simp at hil
        rcases e2.2.2 with h0 | ⟨b', off', rfl, hc'⟩
        · rw [h0] at hil2; simp at hil2
        have d0 := hfr.cellN (hc i x hx)
        have c0 := hfr.cellN (hc' i y hy)
        have hdk2 : Hidden (R = (decide (x = y) && decide (l.drop (i + 1) = l2.drop (i + 1)))) := by
          show R = _
          rw [show R = _ from hdkH]
          exact drop_eq hx hy
        by_cases hxy : x = y
        · subst hxy
          have hdk3 : Hidden (R = decide (l.drop (i + 1) = l2.drop (i + 1))) := by
            show R = _
            rw [show R = _ from hdk2]
            simp
          clear hdkH hdk2 hx hy hc hc'
          go_wp2_with fail
          go_quiet (fail)
          go_wp2_with fail
          go_roundg (l.length - (i + 1))
          case measure =>
            have : gk = l.length - i := hgkH
            omega
          case rel => exact ⟨i + 1, by go_num, by omega, hdk3, rfl, drewN_q hfr _⟩
        · have hres : Hidden (false = R) := by
            rw [show R = _ from hdk2]
            simp [Hidden, hxy]
          have t1 : (x == y) = false := by simp [hxy]
          have t2 : (x != y) = true := by simp [hxy]
          clear hdkH hdk2 hx hy hc hc'
          go_wp2_with fail
          go_quiet (fail)
          go_wp2_with fail
          go_ret
          exact ⟨ret_b hres, drewN_q hfr _⟩
      · obtain rfl : i = l.length := by omega
        have hres : Hidden (true = R) := by
          show true = R
          rw [show R = _ from hdkH, List.drop_length, List.drop_of_length_le (by have : l.length = l2.length := hlenH; omega)]
          rfl
        clear hdkH
        go_wp2_with fail
        go_ret
        exact ⟨ret_b hres, hfr⟩
  · have hne : ((l.length : Int) != (l2.length : Int)) = true := by rw [bne_iff_ne]; omega
    have hres : Hidden (false = R) := by
      rw [← (show _ = R from hR)]
      show false = decide (l = l2)
      symm
      simp only [decide_eq_false_iff_not]
      intro hc
      exact hlen (by rw [hc])
    clear hlen
    go_enter Tryz.func14, Tryz.ntmps14
    go_wp2_with fail
    go_ret
    exact ⟨ret_b hres, Fr.refl _ _⟩
set_option maxRecDepth 20000 in
set_option maxHeartbeats 4000000 in
theorem eqP_any (l l2 : List Pa) (ao ao2 : Option Addr) (cap cap2 : Nat) (w : World) (e1 : PaL w ao cap l) (e2 : PaL w ao2 cap2 l2) (R : Bool) (hR : Hidden (decide (l = l2) = R)) :
    Calls Tryz.prog 28 #[.slice ao l.length cap, .slice ao2 l2.length cap2] w fun e w' => e = .returned (.bool R) ∧ Fr (fun _ => False) w w' := by
  have n1 : l.length ≤ 9223372036854775807 := by have := e1.1; have := e1.2.1; unfold maxLen at this; omega
  have n2 : l2.length ≤ 9223372036854775807 := by have := e2.1; have := e2.2.1; unfold maxLen at this; omega
  have m1 := e1.1
  have m2 := e2.1
  by_cases hlen : l.length = l2.length
  · have hne : ((l.length : Int) != (l2.length : Int)) = false := by simp [hlen]
    have hlenH : Hidden (l.length = l2.length) := hlen
    clear hlen
    go_enter Tryz.func28, Tryz.ntmps28
    go_wp2_with fail
    go_loopg [13] l.length (fun g iv wr => ∃ (i : Nat), iv = ci (i : Int) ∧ i ≤ l.length ∧ R = decide (l.drop i = l2.drop i) ∧ g = l.length - i ∧ Fr (fun _ => False) w wr)
    case atStart => exact ⟨0, rfl, by omega, (show _ = R from hR).symm, rfl, Fr.refl _ _⟩
    case round =>
      obtain ⟨i, rfl, hi, hdk, hgk, hfr⟩ := hrel
      have hgkH : Hidden (gk = l.length - i) := hgk
      have hdkH : Hidden (R = decide (l.drop i = l2.drop i)) := hdk
      clear hgk hdk hR
      by_cases hil : i < l.length
      · have hil2 : i < l2.length := by have : l.length = l2.length := hlenH; omega
        obtain ⟨x, hx⟩ : ∃ x, l[i]? = some x := ⟨l[i], List.getElem?_eq_getElem hil⟩
        obtain ⟨y, hy⟩ : ∃ y, l2[i]? = some y := ⟨l2[i], List.getElem?_eq_getElem hil2⟩
        rcases e1.2.2 with h0 | ⟨b, off, rfl, hc⟩
        · rw [h0] at hil; simp at hil
        rcases e2.2.2 with h0 | ⟨b', off', rfl, hc'⟩
        · rw [h0] at hil2; simp at hil2
        have d0 := hfr.cellN (hc i x hx 0 _ rfl)
        have d1 := hfr.cellN (hc i x hx 1 _ rfl)
        have c0 := hfr.cellN (hc' i y hy 0 _ rfl)
        have c1 := hfr.cellN (hc' i y hy 1 _ rfl)
        simp only [Nat.add_zero] at d0 c0
        have hdk2 : Hidden (R = (decide (x = y) && decide (l.drop (i + 1) = l2.drop (i + 1)))) := by
          show R = _
          rw [show R = _ from hdkH]
          exact drop_eq hx hy
        by_cases hxy : x = y
        · subst hxy
          have hdk3 : Hidden (R = decide (l.drop (i + 1) = l2.drop (i + 1))) := by
            show R = _
            rw [show R = _ from hdk2]
            simp
          clear hdkH hdk2 hx hy hc hc'
          go_wp2_with fail
          go_quiet (fail)
          go_wp2_with fail
          go_roundg (l.length - (i + 1))
          case measure =>
            have : gk = l.length - i := hgkH
            omega
          case rel => exact ⟨i + 1, by go_num, by omega, hdk3, rfl, drewN_q hfr _⟩
        · have hres : Hidden (false = R) := by
            rw [show R = _ from hdk2]
            simp [Hidden, hxy]
          have t1 : (x == y) = false := by simp [hxy]
          have t2 : (x != y) = true := by simp [hxy]
          clear hdkH hdk2 hx hy hc hc'
          obtain ⟨n1', t1'⟩ := x
          obtain ⟨n2', t2'⟩ := y
          clear t1 t2
          by_cases hn : n1' = n2'
          · subst hn
            have t3 : (t1' == t2') = false := by
              rw [beq_eq_false_iff_ne]
              rintro rfl
              exact hxy rfl
            have t4 : ¬ t1' = t2' := by simpa using t3
            clear hxy
            go_wp2_with fail
            go_quiet (fail)
            go_wp2_with fail
            go_ret
            exact ⟨ret_b hres, drewN_q hfr _⟩
          have t3 : (n1' == n2') = false := by rw [beq_eq_false_iff_ne]; exact hn
          clear hxy
          go_wp2_with fail
          go_quiet (fail)
          go_wp2_with fail
          go_ret
          exact ⟨ret_b hres, drewN_q hfr _⟩
      · obtain rfl : i = l.length := by omega
        have hres : Hidden (true = R) := by
          show true = R
          rw [show R = _ from hdkH, List.drop_length, List.drop_of_length_le (by have : l.length = l2.length := hlenH; omega)]
          rfl
        clear hdkH
        go_wp2_with fail
        go_ret
        exact ⟨ret_b hres, hfr⟩
  · have hne : ((l.length : Int) != (l2.length : Int)) = true := by rw [bne_iff_ne]; omega
    have hres : Hidden (false = R) := by
      rw [← (show _ = R from hR)]
      show false = decide (l = l2)
      symm
      simp only [decide_eq_false_iff_not]
      intro hc
      exact hlen (by rw [hc])
    clear hlen
    go_enter Tryz.func28, Tryz.ntmps28
    go_wp2_with fail
    go_ret
    exact ⟨ret_b hres, Fr.refl _ _⟩
end Go.Proofs.YtncachlopnpcjaaGreatDoor
