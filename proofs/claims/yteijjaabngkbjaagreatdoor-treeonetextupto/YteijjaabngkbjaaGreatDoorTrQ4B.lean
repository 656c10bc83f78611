/- TrQ2 TrQ3 TrQ4 -/
import Derived.Test.YteijjaabngkbjaaGreatDoorTrQB
import Derived.Deep.QuietTactic
import Derived.BigQuiet
namespace Go.Proofs.YteijjaabngkbjaaGreatDoor
open Go.RowKit Te
set_option linter.unusedSimpArgs false
set_option linter.unusedVariables false
def SameB (k : Sts) : Prop := ∀ (k2 : Sts) (ao ao2 : Option Addr) (cap cap2 : Nat) (w : World), StL w ao cap k → StL w ao2 cap2 k2 →
  Calls Tryz.prog 56 #[.slice ao k.len cap, .slice ao2 k2.len cap2, .func (.func 57) #[] #[]] w fun e w' => e = .returned (.bool (decide (k = k2))) ∧ Fr (fun _ => False) w w'
def SameT (h : SH) (e : Exs) (b l : Sts) : Prop := ∀ (h2 : SH) (e2 : Exs) (b2 l2 : Sts) (ao1 ao2 ao3 ao1' ao2' ao3' : Option Addr) (cap1 cap2 cap3 cap1' cap2' cap3' : Nat) (w : World), ExL w ao1 cap1 e → StL w ao2 cap2 b → StL w ao3 cap3 l → ExL w ao1' cap1' e2 → StL w ao2' cap2' b2 → StL w ao3' cap3' l2 →
  Calls Tryz.prog 57 #[stV h (.slice ao1 e.len cap1) (.slice ao2 b.len cap2) (.slice ao3 l.len cap3), stV h2 (.slice ao1' e2.len cap1') (.slice ao2' b2.len cap2') (.slice ao3' l2.len cap3')] w fun ee w' => ee = .returned (.bool (decide (h = h2 ∧ e = e2 ∧ b = b2 ∧ l = l2))) ∧ Fr (fun _ => False) w w'
set_option maxRecDepth 20000 in
set_option maxHeartbeats 4000000 in
theorem sameT_step (h : SH) (e : Exs) (b l : Sts) (kb : SameB b) (kl : SameB l) : SameT h e b l := by
  intro h2 e2 b2 l2 ao1 ao2 ao3 ao1' ao2' ao3' cap1 cap2 cap3 cap1' cap2' cap3' w p1 p2 p3 q1 q2 q3
  by_cases hh : h = h2
  · subst hh
    have f0 : Fr (fun _ => False) w ((w.alloc (.cells #[ci h.kind, ct h.name, .slice ao1 e.len cap1, .slice ao2 b.len cap2, .slice ao3 l.len cap3] 91)).alloc (.cells #[ci h.kind, ct h.name, .slice ao1' e2.len cap1', .slice ao2' b2.len cap2', .slice ao3' l2.len cap3'] 91)) := (Fr.alloc _ _ _).same (Fr.alloc _ _ _)
    have x1 : Hidden (((w.alloc (.cells #[ci h.kind, ct h.name, .slice ao1 e.len cap1, .slice ao2 b.len cap2, .slice ao3 l.len cap3] 91)).alloc (.cells #[ci h.kind, ct h.name, .slice ao1' e2.len cap1', .slice ao2' b2.len cap2', .slice ao3' l2.len cap3'] 91)).heap[w.heap.size]? = some (.cells #[ci h.kind, ct h.name, .slice ao1 e.len cap1, .slice ao2 b.len cap2, .slice ao3 l.len cap3] 91 (0, 0))) := (Fr.alloc (fun _ => False) _ _).heap (alloc_new _ _) (fun f => f)
    have x2 : Hidden (((w.alloc (.cells #[ci h.kind, ct h.name, .slice ao1 e.len cap1, .slice ao2 b.len cap2, .slice ao3 l.len cap3] 91)).alloc (.cells #[ci h.kind, ct h.name, .slice ao1' e2.len cap1', .slice ao2' b2.len cap2', .slice ao3' l2.len cap3'] 91)).heap[w.heap.size + 1]? = some (.cells #[ci h.kind, ct h.name, .slice ao1' e2.len cap1', .slice ao2' b2.len cap2', .slice ao3' l2.len cap3'] 91 (0, 0))) := (congrArg _ (by simp)).trans (alloc_new _ _)
    have ke := sameL_any e e2 ao1 ao1' cap1 cap1' _ (p1.keep f0) (q1.keep f0)
    unfold SameB at kb kl
    rw [show decide (h = h ∧ e = e2 ∧ b = b2 ∧ l = l2) = (decide (e = e2) && (decide (b = b2) && decide (l = l2))) by rw [Bool.eq_iff_iff]; simp]
    have kb2 := fun (w1 : World) (f : Fr (fun _ => False) w w1) => kb b2 ao2 ao2' cap2 cap2' w1 (p2.keep f) (q2.keep f)
    have kl2 := fun (w1 : World) (f : Fr (fun _ => False) w w1) => kl l2 ao3 ao3' cap3 cap3' w1 (p3.keep f) (q3.keep f)
    generalize decide (e = e2) = re at ke
    generalize decide (b = b2) = rb at kb2
    generalize decide (l = l2) = rl at kl2
    clear kb kl
    cases re
    · go_enter Tryz.func57, Tryz.ntmps57
      go_wp2_with fail
      go_at_call 54
      refine ke.mono ?_
      rintro ee w1 ⟨rfl, f1⟩
      go_wp2_with fail
      go_ret
      exact ⟨rfl, f0.same f1⟩
    · cases rb
      · go_enter Tryz.func57, Tryz.ntmps57
        go_wp2_with fail
        go_at_call 54
        refine ke.mono ?_
        rintro ee w1 ⟨rfl, f1⟩
        obtain ⟨c0, c1, c2, c3, c4⟩ := st_box (f1.heap x1 (fun f => f))
        obtain ⟨d0, d1, d2, d3, d4⟩ := st_box (f1.heap x2 (fun f => f))
        go_wp2_with fail
        go_at_call 56
        refine (kb2 _ (f0.same f1)).mono ?_
        rintro ee w2 ⟨rfl, f2⟩
        go_wp2_with fail
        go_ret
        exact ⟨rfl, (f0.same f1).same f2⟩
      · go_enter Tryz.func57, Tryz.ntmps57
        go_wp2_with fail
        go_at_call 54
        refine ke.mono ?_
        rintro ee w1 ⟨rfl, f1⟩
        have y1 := f1.heap x1 (fun f => f)
        have y2 := f1.heap x2 (fun f => f)
        obtain ⟨c0, c1, c2, c3, c4⟩ := st_box y1
        obtain ⟨d0, d1, d2, d3, d4⟩ := st_box y2
        go_wp2_with fail
        go_at_call 56
        refine (kb2 _ (f0.same f1)).mono ?_
        rintro ee w2 ⟨rfl, f2⟩
        obtain ⟨c0, c1, c2, c3, c4⟩ := st_box (f2.heap y1 (fun f => f))
        obtain ⟨d0, d1, d2, d3, d4⟩ := st_box (f2.heap y2 (fun f => f))
        go_wp2_with fail
        go_at_call 56
        refine (kl2 _ ((f0.same f1).same f2)).mono ?_
        rintro ee w3 ⟨rfl, f3⟩
        go_wp2_with fail
        go_ret
        refine ⟨?_, ((f0.same f1).same f2).same f3⟩
        cases rl <;> rfl
  · have hhH : Hidden (¬ (h.kind = h2.kind ∧ h.name = h2.name)) := by
      intro hc
      apply hh
      obtain ⟨k1, n1⟩ := h
      obtain ⟨k2, n2⟩ := h2
      obtain ⟨rfl, rfl⟩ := hc
      rfl
    rw [show decide (h = h2 ∧ e = e2 ∧ b = b2 ∧ l = l2) = false by simp only [decide_eq_false_iff_not]; exact fun hc => hh hc.1]
    clear hh kb kl
    obtain ⟨kind, name⟩ := h
    obtain ⟨kind2, name2⟩ := h2
    go_enter Tryz.func57, Tryz.ntmps57
    go_wp2_with fail
    all_goals (first
      | (go_ret
         exact ⟨rfl, (Fr.alloc _ _ _).same (Fr.alloc _ _ _)⟩)
      | (exfalso
         apply (show ¬ _ from hhH)
         try simp only [Bool.and_eq_true, beq_iff_eq] at *
         simp [*]
         done))
set_option maxRecDepth 20000 in
set_option maxHeartbeats 4000000 in
theorem sameB_step (k : Sts) (ih : ∀ k' : Sts, k'.size < k.size → SameB k') : SameB k := by
  intro k2 ao ao2 cap cap2 w e1 e2
  have r1 := e1.rest
  have r2 := e2.rest
  have l1 : k.len ≤ 9223372036854775807 := by have := e1.1; have := e1.2.1; unfold maxLen at this; omega
  have l2 : k2.len ≤ 9223372036854775807 := by have := e2.1; have := e2.2.1; unfold maxLen at this; omega
  have m1 := e1.1
  have m2 := e2.1
  obtain ⟨R, hR⟩ : ∃ R, decide (k = k2) = R := ⟨_, rfl⟩
  rw [hR]
  have hRH : Hidden (decide (k = k2) = R) := hR
  clear hR
  by_cases hlen : k.len = k2.len
  · have hne : ((k.len : Int) != (k2.len : Int)) = false := by simp [hlen]
    have hlenH : Hidden (k.len = k2.len) := hlen
    clear hlen
    go_enter Tryz.func56, Tryz.ntmps56
    go_wp2_with fail
    go_loopg [17] k.len (fun g iv wr => ∃ (i : Nat) (r q : Sts), iv = ci (i : Int) ∧ i + r.len = k.len ∧ i + q.len = k2.len ∧ r.size ≤ k.size ∧ StR w ao i r ∧ StR w ao2 i q ∧ R = decide (r = q) ∧ g = r.len ∧ Fr (fun _ => False) w wr)
    case atStart => exact ⟨0, k, k2, rfl, by omega, by omega, Nat.le_refl _, r1, r2, (show _ = R from hRH).symm, rfl, Fr.refl _ _⟩
    case round =>
      obtain ⟨i, r, q, rfl, hl1, hl2, hsize, hrow, hrow2, hdk, hgk, hfr⟩ := hrel
      have hgkH : Hidden (gk = r.len) := hgk
      have hdkH : Hidden (R = decide (r = q)) := hdk
      have hl1H : Hidden (i + r.len = k.len) := hl1
      have hl2H : Hidden (i + q.len = k2.len) := hl2
      clear hgk hdk hl1 hl2 r1 r2
      cases r with
      | nil =>
        have hi : i = k.len := hl1H
        have hq : q.len = 0 := by have : i + q.len = k2.len := hl2H; have : k.len = k2.len := hlenH; omega
        have hq0 : q = .nil := by
          cases q with
          | nil => rfl
          | cons _ _ _ _ _ => simp [Sts.len] at hq
        have hres : Hidden (true = R) := by rw [show R = _ from hdkH, hq0]; rfl
        clear hq hq0 hrow2 hrow
        subst hi
        go_wp2_with fail
        go_ret
        exact ⟨ret_b hres, hfr⟩
      | cons h' e' b' l' r' =>
        cases q with
        | nil =>
          exfalso
          have a1 : i + (r'.len + 1) = k.len := hl1H
          have a2 : i + 0 = k2.len := hl2H
          have a3 : k.len = k2.len := hlenH
          omega
        | cons h'' e'' b'' l'' r'' =>
          have hil : i < k.len := by have : i + (r'.len + 1) = k.len := hl1H; omega
          have hil2 : i < k2.len := by have : i + (r''.len + 1) = k2.len := hl2H; omega
          obtain ⟨b, off, a1, p1, a2, p2, a3, p3, rfl, hL1, hL2, hL3, hn1, d0, d1, d2, d3, d4⟩ := hrow.next
          obtain ⟨bb, off', a1', p1', a2', p2', a3', p3', rfl, hM1, hM2, hM3, hn2, c0, c1, c2, c3, c4⟩ := hrow2.next
          have d0 := hfr.cellN d0
          have d1 := hfr.cellN d1
          have d2 := hfr.cellN d2
          have d3 := hfr.cellN d3
          have d4 := hfr.cellN d4
          have fa := Fr.alloc (fun _ => False) wr (.cells #[ci h'.kind, ct h'.name, .slice a1 e'.len p1, .slice a2 b'.len p2, .slice a3 l'.len p3] 91)
          have ff := hfr.same fa
          have c0 := ff.cellN c0
          have c1 := ff.cellN c1
          have c2 := ff.cellN c2
          have c3 := ff.cellN c3
          have c4 := ff.cellN c4
          have fb := Fr.alloc (fun _ => False) (wr.alloc (.cells #[ci h'.kind, ct h'.name, .slice a1 e'.len p1, .slice a2 b'.len p2, .slice a3 l'.len p3] 91)) (.cells #[ci h''.kind, ct h''.name, .slice a1' e''.len p1', .slice a2' b''.len p2', .slice a3' l''.len p3'] 91)
          obtain ⟨x0, x1, x2, x3, x4⟩ := st_box (fb.heap (alloc_new wr (.cells #[ci h'.kind, ct h'.name, .slice a1 e'.len p1, .slice a2 b'.len p2, .slice a3 l'.len p3] 91)) (fun f => f))
          have f2 := ff.same fb
          simp only [Sts.size] at hsize
          have ke := sameT_step h' e' b' l' (ih b' (by omega)) (ih l' (by omega)) h'' e'' b'' l'' a1 a2 a3 a1' a2' a3' p1 p2 p3 p1' p2' p3' _ (hL1.keep f2) (hL2.keep f2) (hL3.keep f2) (hM1.keep f2) (hM2.keep f2) (hM3.keep f2)
          have hdk2 : Hidden (R = (decide (h' = h'' ∧ e' = e'' ∧ b' = b'' ∧ l' = l'') && decide (r' = r''))) := by
            show R = _
            rw [show R = _ from hdkH, Bool.eq_iff_iff]
            simp [and_assoc]
          generalize decide (h' = h'' ∧ e' = e'' ∧ b' = b'' ∧ l' = l'') = sb at ke hdk2
          cases sb
          · have hres : Hidden (false = R) := (show R = false from hdk2).symm
            clear hdkH hdk2
            go_wp2_with fail
            go_at_call 57
            refine ke.mono ?_
            rintro e w3 ⟨rfl, f3⟩
            go_wp2_with fail
            go_ret
            exact ⟨ret_b hres, f2.same f3⟩
          · clear hdkH
            go_wp2_with fail
            go_at_call 57
            refine ke.mono ?_
            rintro e w3 ⟨rfl, f3⟩
            go_wp2_with fail
            go_roundg r'.len
            case measure =>
              have : gk = r'.len + 1 := hgkH
              omega
            case rel =>
              refine ⟨i + 1, r', r'', by go_num, ?_, ?_, by omega, hn1, hn2, hdk2, rfl, f2.same f3⟩
              · have : i + (r'.len + 1) = k.len := hl1H
                omega
              · have : i + (r''.len + 1) = k2.len := hl2H
                omega
  · have hne : ((k.len : Int) != (k2.len : Int)) = true := by rw [bne_iff_ne]; omega
    have hres : Hidden (false = R) := by
      rw [← (show _ = R from hRH)]
      show false = decide (k = k2)
      symm
      simp only [decide_eq_false_iff_not]
      intro hc
      exact hlen (by rw [hc])
    clear hlen
    go_enter Tryz.func56, Tryz.ntmps56
    go_wp2_with fail
    go_ret
    exact ⟨ret_b hres, Fr.refl _ _⟩
theorem sameB_any (k : Sts) : SameB k := by
  have : ∀ (n : Nat) (k : Sts), k.size < n → SameB k := by
    intro n
    induction n with
    | zero => intro k hk; omega
    | succ n ih => intro k hk; exact sameB_step k (fun k' hk' => ih k' (by omega))
  exact this (k.size + 1) k (by omega)
end Go.Proofs.YteijjaabngkbjaaGreatDoor
namespace Go.Proofs.YteijjaabngkbjaaGreatDoor
open Go.RowKit Te
set_option linter.unusedSimpArgs false
set_option linter.unusedVariables false
theorem drewN_q {S : Nat → Prop} {w w' : World} (h : Fr S w w') (n : Nat) : Fr S w (w'.drewN n) := ⟨h.os, h.output, h.size, h.block⟩
theorem drop_eq {α : Type} [DecidableEq α] {l l2 : List α} {i : Nat} {x y : α} (hx : l[i]? = some x) (hy : l2[i]? = some y) : decide (l.drop i = l2.drop i) = (decide (x = y) && decide (l.drop (i + 1) = l2.drop (i + 1))) := by
  rw [drop_at hx, drop_at hy, Bool.eq_iff_iff]
  simp
set_option maxRecDepth 20000 in
set_option maxHeartbeats 4000000 in
theorem eqS_any (l l2 : List Bs) (ao ao2 : Option Addr) (cap cap2 : Nat) (w : World) (e1 : SvL w ao cap l) (e2 : SvL w ao2 cap2 l2) (R : Bool) (hR : Hidden (decide (l = l2) = R)) :
    Calls Tryz.prog 28 #[.slice ao l.length cap, .slice ao2 l2.length cap2] w fun e w' => e = .returned (.bool R) ∧ Fr (fun _ => False) w w' := by
  have n1 : l.length ≤ 9223372036854775807 := by have := e1.1; have := e1.2.1; unfold maxLen at this; omega
  have n2 : l2.length ≤ 9223372036854775807 := by have := e2.1; have := e2.2.1; unfold maxLen at this; omega
  have m1 := e1.1
  have m2 := e2.1
  by_cases hlen : l.length = l2.length
  · have hne : ((l.length : Int) != (l2.length : Int)) = false := by simp [hlen]
    have hlenH : Hidden (l.length = l2.length) := hlen
    clear hlen
    go_enter Tryz.func28, Tryz.ntmps28
    go_wp2_with fail
    go_loopg [13] l.length (fun g iv wr => ∃ (i : Nat), iv = ci (i : Int) ∧ i ≤ l.length ∧ R = decide (l.drop i = l2.drop i) ∧ g = l.length - i ∧ Fr (fun _ => False) w wr)
    case atStart => exact ⟨0, rfl, by omega, (show _ = R from hR).symm, rfl, Fr.refl _ _⟩
    case round =>
      obtain ⟨i, rfl, hi, hdk, hgk, hfr⟩ := hrel
      have hgkH : Hidden (gk = l.length - i) := hgk
      have hdkH : Hidden (R = decide (l.drop i = l2.drop i)) := hdk
      clear hgk hdk hR
      by_cases hil : i < l.length
      · have hil2 : i < l2.length := by have : l.length = l2.length := hlenH; omega
        obtain ⟨x, hx⟩ : ∃ x, l[i]? = some x := ⟨l[i], List.getElem?_eq_getElem hil⟩
        obtain ⟨y, hy⟩ : ∃ y, l2[i]? = some y := ⟨l2[i], List.getElem?_eq_getElem hil2⟩
        rcases e1.2.2 with h0 | ⟨b, off, rfl, hc⟩
        · rw [h0] at hil; simp at hil
        rcases e2.2.2 with h0 | ⟨b', off', rfl, hc'⟩
        · rw [h0] at hil2; simp at hil2
        have d0 := hfr.cellN (hc i x hx)
        have c0 := hfr.cellN (hc' i y hy)
        have hdk2 : Hidden (R = (decide (x = y) && decide (l.drop (i + 1) = l2.drop (i + 1)))) := by
          show R = _
          rw [show R = _ from hdkH]
          exact drop_eq hx hy
        by_cases hxy : x = y
        · subst hxy
          have hdk3 : Hidden (R = decide (l.drop (i + 1) = l2.drop (i + 1))) := by
            show R = _
            rw [show R = _ from hdk2]
            simp
          clear hdkH hdk2 hx hy hc hc'
          go_wp2_with fail
          go_quiet (fail)
          go_wp2_with fail
          go_roundg (l.length - (i + 1))
          case measure =>
            have : gk = l.length - i := hgkH
            omega
          case rel => exact ⟨i + 1, by go_num, by omega, hdk3, rfl, drewN_q hfr _⟩
        · have hres : Hidden (false = R) := by
            rw [show R = _ from hdk2]
            simp [Hidden, hxy]
          have t1 : (x == y) = false := by simp [hxy]
          have t2 : (x != y) = true := by simp [hxy]
          clear hdkH hdk2 hx hy hc hc'
          go_wp2_with fail
          go_quiet (fail)
          go_wp2_with fail
          go_ret
          exact ⟨ret_b hres, drewN_q hfr _⟩
      · obtain rfl : i = l.length := by omega
        have hres : Hidden (true = R) := by
          show true = R
          rw [show R = _ from hdkH, List.drop_length, List.drop_of_length_le (by have : l.length = l2.length := hlenH; omega)]
          rfl
        clear hdkH
        go_wp2_with fail
        go_ret
        exact ⟨ret_b hres, hfr⟩
  · have hne : ((l.length : Int) != (l2.length : Int)) = true := by rw [bne_iff_ne]; omega
    have hres : Hidden (false = R) := by
      rw [← (show _ = R from hR)]
      show false = decide (l = l2)
      symm
      simp only [decide_eq_false_iff_not]
      intro hc
      exact hlen (by rw [hc])
    clear hlen
    go_enter Tryz.func28, Tryz.ntmps28
    go_wp2_with fail
    go_ret
    exact ⟨ret_b hres, Fr.refl _ _⟩
set_option maxRecDepth 20000 in
set_option maxHeartbeats 4000000 in
theorem eqP_any (l l2 : List Pa) (ao ao2 : Option Addr) (cap cap2 : Nat) (w : World) (e1 : PaL w ao cap l) (e2 : PaL w ao2 cap2 l2) (R : Bool) (hR : Hidden (decide (l = l2) = R)) :
    Calls Tryz.prog 53 #[.slice ao l.length cap, .slice ao2 l2.length cap2] w fun e w' => e = .returned (.bool R) ∧ Fr (fun _ => False) w w' := by
  have n1 : l.length ≤ 9223372036854775807 := by have := e1.1; have := e1.2.1; unfold maxLen at this; omega
  have n2 : l2.length ≤ 9223372036854775807 := by have := e2.1; have := e2.2.1; unfold maxLen at this; omega
  have m1 := e1.1
  have m2 := e2.1
  by_cases hlen : l.length = l2.length
  · have hne : ((l.length : Int) != (l2.length : Int)) = false := by simp [hlen]
    have hlenH : Hidden (l.length = l2.length) := hlen
    clear hlen
    go_enter Tryz.func53, Tryz.ntmps53
    go_wp2_with fail
    go_loopg [13] l.length (fun g iv wr => ∃ (i : Nat), iv = ci (i : Int) ∧ i ≤ l.length ∧ R = decide (l.drop i = l2.drop i) ∧ g = l.length - i ∧ Fr (fun _ => False) w wr)
    case atStart => exact ⟨0, rfl, by omega, (show _ = R from hR).symm, rfl, Fr.refl _ _⟩
    case round =>
      obtain ⟨i, rfl, hi, hdk, hgk, hfr⟩ := hrel
      have hgkH : Hidden (gk = l.length - i) := hgk
      have hdkH : Hidden (R = decide (l.drop i = l2.drop i)) := hdk
      clear hgk hdk hR
      by_cases hil : i < l.length
      · have hil2 : i < l2.length := by have : l.length = l2.length := hlenH; omega
        obtain ⟨x, hx⟩ : ∃ x, l[i]? = some x := ⟨l[i], List.getElem?_eq_getElem hil⟩
        obtain ⟨y, hy⟩ : ∃ y, l2[i]? = some y := ⟨l2[i], List.getElem?_eq_getElem hil2⟩
        rcases e1.2.2 with h0 | ⟨b, off, rfl, hc⟩
        · rw [h0] at hil; simp at hil
        rcases e2.2.2 with h0 | ⟨b', off', rfl, hc'⟩
        · rw [h0] at hil2; simp at hil2
        have d0 := hfr.cellN (hc i x hx 0 _ rfl)
        have d1 := hfr.cellN (hc i x hx 1 _ rfl)
        have c0 := hfr.cellN (hc' i y hy 0 _ rfl)
        have c1 := hfr.cellN (hc' i y hy 1 _ rfl)
        simp only [Nat.add_zero] at d0 c0
        have hdk2 : Hidden (R = (decide (x = y) && decide (l.drop (i + 1) = l2.drop (i + 1)))) := by
          show R = _
          rw [show R = _ from hdkH]
          exact drop_eq hx hy
        by_cases hxy : x = y
        · subst hxy
          have hdk3 : Hidden (R = decide (l.drop (i + 1) = l2.drop (i + 1))) := by
            show R = _
            rw [show R = _ from hdk2]
            simp
          clear hdkH hdk2 hx hy hc hc'
          go_wp2_with fail
          go_quiet (fail)
          go_wp2_with fail
          go_roundg (l.length - (i + 1))
          case measure =>
            have : gk = l.length - i := hgkH
            omega
          case rel => exact ⟨i + 1, by go_num, by omega, hdk3, rfl, drewN_q hfr _⟩
        · have hres : Hidden (false = R) := by
            rw [show R = _ from hdk2]
            simp [Hidden, hxy]
          have t1 : (x == y) = false := by simp [hxy]
          have t2 : (x != y) = true := by simp [hxy]
          clear hdkH hdk2 hx hy hc hc'
          obtain ⟨n1', t1'⟩ := x
          obtain ⟨n2', t2'⟩ := y
          clear t1 t2
          by_cases hn : n1' = n2'
          · subst hn
            have t3 : (t1' == t2') = false := by
              rw [beq_eq_false_iff_ne]
              rintro rfl
              exact hxy rfl
            have t4 : ¬ t1' = t2' := by simpa using t3
            clear hxy
            go_wp2_with fail
            go_quiet (fail)
            go_wp2_with fail
            go_ret
            exact ⟨ret_b hres, drewN_q hfr _⟩
          have t3 : (n1' == n2') = false := by rw [beq_eq_false_iff_ne]; exact hn
          clear hxy
          go_wp2_with fail
          go_quiet (fail)
          go_wp2_with fail
          go_ret
          exact ⟨ret_b hres, drewN_q hfr _⟩
      · obtain rfl : i = l.length := by omega
        have hres : Hidden (true = R) := by
          show true = R
          rw [show R = _ from hdkH, List.drop_length, List.drop_of_length_le (by have : l.length = l2.length := hlenH; omega)]
          rfl
        clear hdkH
        go_wp2_with fail
        go_ret
        exact ⟨ret_b hres, hfr⟩
  · have hne : ((l.length : Int) != (l2.length : Int)) = true := by rw [bne_iff_ne]; omega
    have hres : Hidden (false = R) := by
      rw [← (show _ = R from hR)]
      show false = decide (l = l2)
      symm
      simp only [decide_eq_false_iff_not]
      intro hc
      exact hlen (by rw [hc])
    clear hlen
    go_enter Tryz.func53, Tryz.ntmps53
    go_wp2_with fail
    go_ret
    exact ⟨ret_b hres, Fr.refl _ _⟩
end Go.Proofs.YteijjaabngkbjaaGreatDoor
namespace Go.Proofs.YteijjaabngkbjaaGreatDoor
open Go.RowKit Te
set_option linter.unusedSimpArgs false
set_option linter.unusedVariables false
set_option maxRecDepth 20000 in
set_option maxHeartbeats 4000000 in
theorem sameD_any (d d2 : De) (pv ev bv pv2 ev2 bv2 : Value) (w : World) (h1 : DeI w d pv ev bv) (h2 : DeI w d2 pv2 ev2 bv2) :
    Calls Tryz.prog 30 #[deV d pv ev bv, deV d2 pv2 ev2 bv2] w fun ee w' => ee = .returned (.bool (decide (d = d2))) ∧ Fr (fun _ => False) w w' := by
  obtain ⟨ao1, cap1, ao2, cap2, ao3, cap3, rfl, rfl, rfl, p1, p2, p3⟩ := h1
  obtain ⟨ao1', cap1', ao2', cap2', ao3', cap3', rfl, rfl, rfl, q1, q2, q3⟩ := h2
  obtain ⟨kind, ex, name, type, params, e, body⟩ := d
  obtain ⟨kind2, ex2, name2, type2, params2, e2, body2⟩ := d2
  simp only at p1 p2 p3 q1 q2 q3
  by_cases hh : kind = kind2 ∧ ex = ex2 ∧ name = name2 ∧ type = type2
  · obtain ⟨rfl, rfl, rfl, rfl⟩ := hh
    have f0 : Fr (fun _ => False) w ((w.alloc (.cells #[ci kind, .bool ex, ct name, ci type, .slice ao1 params.length cap1, .slice ao2 e.len cap2, .slice ao3 body.len cap3] 51)).alloc (.cells #[ci kind, .bool ex, ct name, ci type, .slice ao1' params2.length cap1', .slice ao2' e2.len cap2', .slice ao3' body2.len cap3'] 51)) := (Fr.alloc _ _ _).same (Fr.alloc _ _ _)
    have x1 : Hidden (((w.alloc (.cells #[ci kind, .bool ex, ct name, ci type, .slice ao1 params.length cap1, .slice ao2 e.len cap2, .slice ao3 body.len cap3] 51)).alloc (.cells #[ci kind, .bool ex, ct name, ci type, .slice ao1' params2.length cap1', .slice ao2' e2.len cap2', .slice ao3' body2.len cap3'] 51)).heap[w.heap.size]? = some (.cells #[ci kind, .bool ex, ct name, ci type, .slice ao1 params.length cap1, .slice ao2 e.len cap2, .slice ao3 body.len cap3] 51 (0, 0))) := (Fr.alloc (fun _ => False) _ _).heap (alloc_new _ _) (fun f => f)
    have x2 : Hidden (((w.alloc (.cells #[ci kind, .bool ex, ct name, ci type, .slice ao1 params.length cap1, .slice ao2 e.len cap2, .slice ao3 body.len cap3] 51)).alloc (.cells #[ci kind, .bool ex, ct name, ci type, .slice ao1' params2.length cap1', .slice ao2' e2.len cap2', .slice ao3' body2.len cap3'] 51)).heap[w.heap.size + 1]? = some (.cells #[ci kind, .bool ex, ct name, ci type, .slice ao1' params2.length cap1', .slice ao2' e2.len cap2', .slice ao3' body2.len cap3'] 51 (0, 0))) := (congrArg _ (by simp)).trans (alloc_new _ _)
    have kp := eqP_any params params2 ao1 ao1' cap1 cap1' _ (p1.keep f0) (q1.keep f0) _ rfl
    have ke2 := fun (w1 : World) (f : Fr (fun _ => False) w w1) => sameL_any e e2 ao2 ao2' cap2 cap2' w1 (p2.keep f) (q2.keep f)
    have kb2 := fun (w1 : World) (f : Fr (fun _ => False) w w1) => sameB_any body body2 ao3 ao3' cap3 cap3' w1 (p3.keep f) (q3.keep f)
    rw [show decide ((⟨kind, ex, name, type, params, e, body⟩ : De) = ⟨kind, ex, name, type, params2, e2, body2⟩) = (decide (params = params2) && (decide (e = e2) && decide (body = body2))) by rw [Bool.eq_iff_iff]; simp]
    generalize decide (params = params2) = rp at kp
    generalize decide (e = e2) = re at ke2
    generalize decide (body = body2) = rb at kb2
    cases rp
    · go_enter Tryz.func30, Tryz.ntmps30
      go_wp2_with fail
      go_at_call 53
      refine (kp).mono ?_
      rintro ee w1 ⟨rfl, f1⟩
      go_wp2_with fail
      go_ret
      refine ⟨?_, (f0).same f1⟩
      first | rfl | (cases rb <;> rfl)
    · cases re
      · go_enter Tryz.func30, Tryz.ntmps30
        go_wp2_with fail
        go_at_call 53
        refine (kp).mono ?_
        rintro ee w1 ⟨rfl, f1⟩
        have y01 := f1.heap x1 (fun f => f)
        have y02 := f1.heap x2 (fun f => f)
        obtain ⟨c0, c1, c2, c3, c4, c5, c6⟩ := ex_box y01
        obtain ⟨d0, d1, d2, d3, d4, d5, d6⟩ := ex_box y02
        go_wp2_with fail
        go_at_call 54
        refine (ke2 _ (f0.same f1)).mono ?_
        rintro ee w2 ⟨rfl, f2⟩
        go_wp2_with fail
        go_ret
        refine ⟨?_, ((f0).same f1).same f2⟩
        first | rfl | (cases rb <;> rfl)
      · go_enter Tryz.func30, Tryz.ntmps30
        go_wp2_with fail
        go_at_call 53
        refine (kp).mono ?_
        rintro ee w1 ⟨rfl, f1⟩
        have y01 := f1.heap x1 (fun f => f)
        have y02 := f1.heap x2 (fun f => f)
        obtain ⟨c0, c1, c2, c3, c4, c5, c6⟩ := ex_box y01
        obtain ⟨d0, d1, d2, d3, d4, d5, d6⟩ := ex_box y02
        go_wp2_with fail
        go_at_call 54
        refine (ke2 _ (f0.same f1)).mono ?_
        rintro ee w2 ⟨rfl, f2⟩
        have y11 := f2.heap y01 (fun f => f)
        have y12 := f2.heap y02 (fun f => f)
        obtain ⟨c0, c1, c2, c3, c4, c5, c6⟩ := ex_box y11
        obtain ⟨d0, d1, d2, d3, d4, d5, d6⟩ := ex_box y12
        go_wp2_with fail
        go_at_call 56
        refine (kb2 _ ((f0.same f1).same f2)).mono ?_
        rintro ee w3 ⟨rfl, f3⟩
        go_wp2_with fail
        go_ret
        refine ⟨?_, (((f0).same f1).same f2).same f3⟩
        first | rfl | (cases rb <;> rfl)
  · rw [show decide ((⟨kind, ex, name, type, params, e, body⟩ : De) = ⟨kind2, ex2, name2, type2, params2, e2, body2⟩) = false by
      simp only [decide_eq_false_iff_not, De.mk.injEq]
      exact fun hc => hh ⟨hc.1, hc.2.1, hc.2.2.1, hc.2.2.2.1⟩]
    have hhH : Hidden (¬ (kind = kind2 ∧ ex = ex2 ∧ name = name2 ∧ type = type2)) := hh
    clear hh
    go_enter Tryz.func30, Tryz.ntmps30
    go_wp2_with fail
    all_goals (first
      | (go_ret
         exact ⟨rfl, (Fr.alloc _ _ _).same (Fr.alloc _ _ _)⟩)
      | (exfalso
         apply (show ¬ _ from hhH)
         try simp only [Bool.and_eq_true, beq_iff_eq] at *
         simp [*]
         done))
set_option maxRecDepth 20000 in
set_option maxHeartbeats 4000000 in
theorem sameDs_any (l l2 : List De) (ao ao2 : Option Addr) (cap cap2 : Nat) (w : World) (e1 : DeL w ao cap l) (e2 : DeL w ao2 cap2 l2) (R : Bool) (hR : Hidden (decide (l = l2) = R)) :
    Calls Tryz.prog 29 #[.slice ao l.length cap, .slice ao2 l2.length cap2, .func (.func 30) #[] #[]] w fun e w' => e = .returned (.bool R) ∧ Fr (fun _ => False) w w' := by
  have n1 : l.length ≤ 9223372036854775807 := by have := e1.1; have := e1.2.1; unfold maxLen at this; omega
  have n2 : l2.length ≤ 9223372036854775807 := by have := e2.1; have := e2.2.1; unfold maxLen at this; omega
  have m1 := e1.1
  have m2 := e2.1
  by_cases hlen : l.length = l2.length
  · have hne : ((l.length : Int) != (l2.length : Int)) = false := by simp [hlen]
    have hlenH : Hidden (l.length = l2.length) := hlen
    clear hlen
    go_enter Tryz.func29, Tryz.ntmps29
    go_wp2_with fail
    go_loopg [17] l.length (fun g iv wr => ∃ (i : Nat), iv = ci (i : Int) ∧ i ≤ l.length ∧ R = decide (l.drop i = l2.drop i) ∧ g = l.length - i ∧ Fr (fun _ => False) w wr)
    case atStart => exact ⟨0, rfl, by omega, (show _ = R from hR).symm, rfl, Fr.refl _ _⟩
    case round =>
      obtain ⟨i, rfl, hi, hdk, hgk, hfr⟩ := hrel
      have hgkH : Hidden (gk = l.length - i) := hgk
      have hdkH : Hidden (R = decide (l.drop i = l2.drop i)) := hdk
      clear hgk hdk hR
      by_cases hil : i < l.length
      · have hil2 : i < l2.length := by have : l.length = l2.length := hlenH; omega
        obtain ⟨x, hx⟩ : ∃ x, l[i]? = some x := ⟨l[i], List.getElem?_eq_getElem hil⟩
        obtain ⟨y, hy⟩ : ∃ y, l2[i]? = some y := ⟨l2[i], List.getElem?_eq_getElem hil2⟩
        rcases e1.2.2 with h0 | ⟨b, off, rfl, hc⟩
        · rw [h0] at hil; simp at hil
        rcases e2.2.2 with h0 | ⟨b', off', rfl, hc'⟩
        · rw [h0] at hil2; simp at hil2
        obtain ⟨pv, ev, bv, hI, hcc⟩ := hc i x hx
        obtain ⟨pv', ev', bv', hI', hcc'⟩ := hc' i y hy
        have d0 := hfr.cellN (hcc 0 _ rfl)
        have d1 := hfr.cellN (hcc 1 _ rfl)
        have d2 := hfr.cellN (hcc 2 _ rfl)
        have d3 := hfr.cellN (hcc 3 _ rfl)
        have d4 := hfr.cellN (hcc 4 _ rfl)
        have d5 := hfr.cellN (hcc 5 _ rfl)
        have d6 := hfr.cellN (hcc 6 _ rfl)
        have fa := Fr.alloc (fun _ => False) wr (.cells #[ci x.kind, .bool x.ex, ct x.name, ci x.type, pv, ev, bv] 51)
        have ff := hfr.same fa
        have c0 := ff.cellN (hcc' 0 _ rfl)
        have c1 := ff.cellN (hcc' 1 _ rfl)
        have c2 := ff.cellN (hcc' 2 _ rfl)
        have c3 := ff.cellN (hcc' 3 _ rfl)
        have c4 := ff.cellN (hcc' 4 _ rfl)
        have c5 := ff.cellN (hcc' 5 _ rfl)
        have c6 := ff.cellN (hcc' 6 _ rfl)
        simp only [Nat.add_zero] at d0 c0
        have fb := Fr.alloc (fun _ => False) (wr.alloc (.cells #[ci x.kind, .bool x.ex, ct x.name, ci x.type, pv, ev, bv] 51)) (.cells #[ci y.kind, .bool y.ex, ct y.name, ci y.type, pv', ev', bv'] 51)
        obtain ⟨x0, x1, x2, x3, x4, x5, x6⟩ := ex_box (fb.heap (alloc_new wr (.cells #[ci x.kind, .bool x.ex, ct x.name, ci x.type, pv, ev, bv] 51)) (fun f => f))
        have f2 := ff.same fb
        have ke := sameD_any x y pv ev bv pv' ev' bv' _ (hI.keep f2) (hI'.keep f2)
        obtain ⟨_, _, _, _, _, _, rfl, rfl, rfl, _⟩ := hI
        obtain ⟨_, _, _, _, _, _, rfl, rfl, rfl, _⟩ := hI'
        have hdk2 : Hidden (R = (decide (x = y) && decide (l.drop (i + 1) = l2.drop (i + 1)))) := by
          show R = _
          rw [show R = _ from hdkH]
          exact drop_eq hx hy
        generalize decide (x = y) = sb at ke hdk2
        clear hdkH hx hy hc hc' hcc hcc'
        cases sb
        · have hres : Hidden (false = R) := (show R = false from hdk2).symm
          clear hdk2
          go_wp2_with fail
          go_at_call 30
          refine ke.mono ?_
          rintro e w3 ⟨rfl, f3⟩
          go_wp2_with fail
          go_ret
          exact ⟨ret_b hres, f2.same f3⟩
        · go_wp2_with fail
          go_at_call 30
          refine ke.mono ?_
          rintro e w3 ⟨rfl, f3⟩
          go_wp2_with fail
          go_roundg (l.length - (i + 1))
          case measure =>
            have : gk = l.length - i := hgkH
            omega
          case rel => exact ⟨i + 1, by go_num, by omega, hdk2, rfl, f2.same f3⟩
      · obtain rfl : i = l.length := by omega
        have hres : Hidden (true = R) := by
          show true = R
          rw [show R = _ from hdkH, List.drop_length, List.drop_of_length_le (by have : l.length = l2.length := hlenH; omega)]
          rfl
        clear hdkH
        go_wp2_with fail
        go_ret
        exact ⟨ret_b hres, hfr⟩
  · have hne : ((l.length : Int) != (l2.length : Int)) = true := by rw [bne_iff_ne]; omega
    have hres : Hidden (false = R) := by
      rw [← (show _ = R from hR)]
      show false = decide (l = l2)
      symm
      simp only [decide_eq_false_iff_not]
      intro hc
      exact hlen (by rw [hc])
    clear hlen
    go_enter Tryz.func29, Tryz.ntmps29
    go_wp2_with fail
    go_ret
    exact ⟨ret_b hres, Fr.refl _ _⟩
abbrev moB (m : Mo) (v1 v2 : Value) : Obj := .cells #[ct m.name, v1, v2] 25 (0, 0)
set_option maxRecDepth 20000 in
set_option maxHeartbeats 4000000 in
theorem same_any (m m2 : Mo) (v v2 : Value) (w : World) (hv : MoI w m v) (hv2 : MoI w m2 v2) :
    Calls Tryz.prog 12 #[v, v2] w fun e w' => e = .returned (.bool (decide (m = m2))) ∧ Fr (fun _ => False) w w' := by
  obtain ⟨ao, cap, aod, capd, rfl, s1, d1⟩ := hv
  obtain ⟨ao', cap', aod', capd', rfl, s2, d2⟩ := hv2
  obtain ⟨name, imports, decls⟩ := m
  obtain ⟨name2, imports2, decls2⟩ := m2
  simp only at s1 d1 s2 d2
  by_cases hn : name = name2
  · subst hn
    have f0 : Fr (fun _ => False) w ((w.alloc (moB ⟨name, imports, decls⟩ (.slice ao imports.length cap) (.slice aod decls.length capd))).alloc (moB ⟨name, imports2, decls2⟩ (.slice ao' imports2.length cap') (.slice aod' decls2.length capd'))) := (Fr.alloc _ _ _).same (Fr.alloc _ _ _)
    have x1 : Hidden (((w.alloc (moB ⟨name, imports, decls⟩ (.slice ao imports.length cap) (.slice aod decls.length capd))).alloc (moB ⟨name, imports2, decls2⟩ (.slice ao' imports2.length cap') (.slice aod' decls2.length capd'))).heap[w.heap.size]? = some (moB ⟨name, imports, decls⟩ (.slice ao imports.length cap) (.slice aod decls.length capd))) := (Fr.alloc (fun _ => False) _ _).heap (alloc_new _ _) (fun f => f)
    have x2 : Hidden (((w.alloc (moB ⟨name, imports, decls⟩ (.slice ao imports.length cap) (.slice aod decls.length capd))).alloc (moB ⟨name, imports2, decls2⟩ (.slice ao' imports2.length cap') (.slice aod' decls2.length capd'))).heap[w.heap.size + 1]? = some (moB ⟨name, imports2, decls2⟩ (.slice ao' imports2.length cap') (.slice aod' decls2.length capd'))) := (congrArg _ (by simp)).trans (alloc_new _ _)
    have kp := eqS_any imports imports2 ao ao' cap cap' _ (s1.keep f0) (s2.keep f0) _ rfl
    have kd := fun (w1 : World) (f : Fr (fun _ => False) w w1) => sameDs_any decls decls2 aod aod' capd capd' w1 (d1.keep f) (d2.keep f) _ rfl
    rw [show decide ((⟨name, imports, decls⟩ : Mo) = ⟨name, imports2, decls2⟩) = (decide (imports = imports2) && decide (decls = decls2)) by rw [Bool.eq_iff_iff]; simp]
    generalize decide (imports = imports2) = rp at kp
    generalize decide (decls = decls2) = rd at kd
    cases rp
    · go_enter Tryz.func12, Tryz.ntmps12
      go_wp2_with fail
      go_at_call 28
      refine kp.mono ?_
      rintro ee w1 ⟨rfl, f1⟩
      go_wp2_with fail
      go_ret
      exact ⟨rfl, f0.same f1⟩
    · go_enter Tryz.func12, Tryz.ntmps12
      go_wp2_with fail
      go_at_call 28
      refine kp.mono ?_
      rintro ee w1 ⟨rfl, f1⟩
      have c2 : w1.cell? ⟨w.heap.size, 2, none⟩ = some (.slice aod decls.length capd) := cell_of_row _ _ 2 _ _ _ (f1.heap x1 (fun f => f))
      have c5 : w1.cell? ⟨w.heap.size + 1, 2, none⟩ = some (.slice aod' decls2.length capd') := cell_of_row _ _ 2 _ _ _ (f1.heap x2 (fun f => f))
      go_wp2_with fail
      go_at_call 29
      refine (kd _ (f0.same f1)).mono ?_
      rintro ee w2 ⟨rfl, f2⟩
      go_wp2_with fail
      go_ret
      refine ⟨?_, (f0.same f1).same f2⟩
      cases rd <;> rfl
  · have t1 : (name == name2) = false := by rw [beq_eq_false_iff_ne]; exact hn
    rw [show decide ((⟨name, imports, decls⟩ : Mo) = ⟨name2, imports2, decls2⟩) = false by simp [hn]]
    go_enter Tryz.func12, Tryz.ntmps12
    go_wp2_with fail
    go_ret
    exact ⟨rfl, (Fr.alloc _ _ _).same (Fr.alloc _ _ _)⟩
end Go.Proofs.YteijjaabngkbjaaGreatDoor
