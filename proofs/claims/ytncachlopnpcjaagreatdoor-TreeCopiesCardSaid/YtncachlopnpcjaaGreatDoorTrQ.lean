/- The program's Same of expressions. -/
import Derived.Test.YtncachlopnpcjaaGreatDoorTrD
namespace Go.Proofs.YtncachlopnpcjaaGreatDoor
open Go.RowKit Te
set_option linter.unusedSimpArgs false
set_option linter.unusedVariables false

def SameL (k : Exs) : Prop := ∀ (k2 : Exs) (ao ao2 : Option Addr) (cap cap2 : Nat) (w : World), ExL w ao cap k → ExL w ao2 cap2 k2 →
  Calls Tryz.prog 29 #[.slice ao k.len cap, .slice ao2 k2.len cap2, .func (.func 30) #[] #[]] w fun e w' => e = .returned (.bool (decide (k = k2))) ∧ Fr (fun _ => False) w w'
def SameX (h : EH) (k : Exs) : Prop := ∀ (h2 : EH) (k2 : Exs) (ao ao2 : Option Addr) (cap cap2 : Nat) (w : World), ExL w ao cap k → ExL w ao2 cap2 k2 →
  Calls Tryz.prog 30 #[exV h (.slice ao k.len cap), exV h2 (.slice ao2 k2.len cap2)] w fun e w' => e = .returned (.bool (decide (h = h2 ∧ k = k2))) ∧ Fr (fun _ => False) w w'
theorem ret_b {x y : Bool} (h : x = y) : Ending.returned (.bool x) = .returned (.bool y) := by rw [h]
set_option maxRecDepth 20000 in
set_option maxHeartbeats 4000000 in
theorem sameX_step (h : EH) (k : Exs) (hL : SameL k) : SameX h k := by
  intro h2 k2 ao ao2 cap cap2 w e1 e2
  by_cases hh : h = h2
  · subst hh
    obtain ⟨kind, op, mod, name, vt, vb⟩ := h
    have f0 : Fr (fun _ => False) w ((w.alloc (.cells #[ci kind, ci op, ct mod, ct name, ci vt, .int .u64 vb, .slice ao k.len cap] 39)).alloc (.cells #[ci kind, ci op, ct mod, ct name, ci vt, .int .u64 vb, .slice ao2 k2.len cap2] 39)) := (Fr.alloc _ _ _).same (Fr.alloc _ _ _)
    have kq := hL k2 ao ao2 cap cap2 _ (e1.keep f0) (e2.keep f0)
    rw [show decide ((⟨kind, op, mod, name, vt, vb⟩ : EH) = ⟨kind, op, mod, name, vt, vb⟩ ∧ k = k2) = decide (k = k2) by simp]
    generalize decide (k = k2) = r at kq
    go_enter Tryz.func30, Tryz.ntmps30
    go_wp2_with (go_at_call 29; refine kq.mono ?_; rintro e w1 ⟨rfl, f1⟩)
    go_ret
    exact ⟨rfl, f0.same f1⟩
  · obtain ⟨kind, op, mod, name, vt, vb⟩ := h
    obtain ⟨kind2, op2, mod2, name2, vt2, vb2⟩ := h2
    have hhH : Hidden (¬ (kind = kind2 ∧ op = op2 ∧ mod = mod2 ∧ name = name2 ∧ vt = vt2 ∧ vb = vb2)) := by
      intro hc
      apply hh
      obtain ⟨rfl, rfl, rfl, rfl, rfl, rfl⟩ := hc
      rfl
    rw [show decide ((⟨kind, op, mod, name, vt, vb⟩ : EH) = ⟨kind2, op2, mod2, name2, vt2, vb2⟩ ∧ k = k2) = false by simp only [decide_eq_false_iff_not]; exact fun hc => hh hc.1]
    clear hh
    go_enter Tryz.func30, Tryz.ntmps30
    go_wp2_with fail
    all_goals (first
      | (go_ret
         exact ⟨rfl, (Fr.alloc _ _ _).same (Fr.alloc _ _ _)⟩)
      | (exfalso
         apply (show ¬ _ from hhH)
         try simp only [Bool.and_eq_true, beq_iff_eq] at *
         simp [*]
         done))
set_option maxRecDepth 20000 in
set_option maxHeartbeats 4000000 in
theorem sameL_step (k : Exs) (ih : ∀ h' k', k'.size < k.size → SameX h' k') : SameL k := by
  intro k2 ao ao2 cap cap2 w e1 e2
  have r1 := e1.rest
  have r2 := e2.rest
  have l1 : k.len ≤ 9223372036854775807 := by have := e1.1; have := e1.2.1; unfold maxLen at this; omega
  have l2 : k2.len ≤ 9223372036854775807 := by have := e2.1; have := e2.2.1; unfold maxLen at this; omega
  have m1 := e1.1
  have m2 := e2.1
  obtain ⟨R, hR⟩ : ∃ R, decide (k = k2) = R := ⟨_, rfl⟩
  rw [hR]
  have hRH : Hidden (decide (k = k2) = R) := hR
  clear hR
  by_cases hlen : k.len = k2.len
  · have hne : ((k.len : Int) != (k2.len : Int)) = false := by simp [hlen]
    have hlenH : Hidden (k.len = k2.len) := hlen
    clear hlen
    go_enter Tryz.func29, Tryz.ntmps29
    go_wp2_with fail
    go_loopg [17] k.len (fun g iv wr => ∃ (i : Nat) (r q : Exs), iv = ci (i : Int) ∧ i + r.len = k.len ∧ i + q.len = k2.len ∧ r.size ≤ k.size ∧ ExR w ao i r ∧ ExR w ao2 i q ∧ R = decide (r = q) ∧ g = r.len ∧ Fr (fun _ => False) w wr)
    case atStart => exact ⟨0, k, k2, rfl, by omega, by omega, Nat.le_refl _, r1, r2, (show _ = R from hRH).symm, rfl, Fr.refl _ _⟩
    case round =>
      obtain ⟨i, r, q, rfl, hl1, hl2, hsize, hrow, hrow2, hdk, hgk, hfr⟩ := hrel
      have hgkH : Hidden (gk = r.len) := hgk
      have hdkH : Hidden (R = decide (r = q)) := hdk
      have hl1H : Hidden (i + r.len = k.len) := hl1
      have hl2H : Hidden (i + q.len = k2.len) := hl2
      clear hgk hdk hl1 hl2 r1 r2
      cases r with
      | nil =>
        have hi : i = k.len := hl1H
        have hq : q.len = 0 := by have : i + q.len = k2.len := hl2H; have : k.len = k2.len := hlenH; omega
        have hq0 : q = .nil := by
          cases q with
          | nil => rfl
          | cons _ _ _ => simp [Exs.len] at hq
        have hres : Hidden (true = R) := by rw [show R = _ from hdkH, hq0]; rfl
        clear hq hq0 hrow2 hrow
        subst hi
        go_wp2_with fail
        go_ret
        exact ⟨ret_b hres, hfr⟩
      | cons h' k' r' =>
        cases q with
        | nil =>
          exfalso
          have a1 : i + (r'.len + 1) = k.len := hl1H
          have a2 : i + 0 = k2.len := hl2H
          have a3 : k.len = k2.len := hlenH
          omega
        | cons h'' k'' r'' =>
          have hil : i < k.len := by have : i + (r'.len + 1) = k.len := hl1H; omega
          have hil2 : i < k2.len := by have : i + (r''.len + 1) = k2.len := hl2H; omega
          obtain ⟨b, off, ao', cap', rfl, hL, hn1, d0, d1, d2, d3, d4, d5, d6⟩ := hrow.next
          obtain ⟨b', off', ao'', cap'', rfl, hL2, hn2, c0, c1, c2, c3, c4, c5, c6⟩ := hrow2.next
          have d0 := hfr.cellN d0
          have d1 := hfr.cellN d1
          have d2 := hfr.cellN d2
          have d3 := hfr.cellN d3
          have d4 := hfr.cellN d4
          have d5 := hfr.cellN d5
          have d6 := hfr.cellN d6
          have fa := Fr.alloc (fun _ => False) wr (.cells #[ci h'.kind, ci h'.op, ct h'.mod, ct h'.name, ci h'.vt, .int .u64 h'.vb, .slice ao' k'.len cap'] 39)
          have ff := hfr.same fa
          have c0 := ff.cellN c0
          have c1 := ff.cellN c1
          have c2 := ff.cellN c2
          have c3 := ff.cellN c3
          have c4 := ff.cellN c4
          have c5 := ff.cellN c5
          have c6 := ff.cellN c6
          have fb := Fr.alloc (fun _ => False) (wr.alloc (.cells #[ci h'.kind, ci h'.op, ct h'.mod, ct h'.name, ci h'.vt, .int .u64 h'.vb, .slice ao' k'.len cap'] 39)) (.cells #[ci h''.kind, ci h''.op, ct h''.mod, ct h''.name, ci h''.vt, .int .u64 h''.vb, .slice ao'' k''.len cap''] 39)
          obtain ⟨x0, x1, x2, x3, x4, x5, x6⟩ := ex_box (fb.heap (alloc_new wr (.cells #[ci h'.kind, ci h'.op, ct h'.mod, ct h'.name, ci h'.vt, .int .u64 h'.vb, .slice ao' k'.len cap'] 39)) (fun f => f))
          have f2 := ff.same fb
          simp only [Exs.size] at hsize
          have ke := ih h' k' (by omega) h'' k'' ao' ao'' cap' cap'' _ (hL.keep f2) (hL2.keep f2)
          have hdk2 : Hidden (R = (decide (h' = h'' ∧ k' = k'') && decide (r' = r''))) := by
            show R = _
            rw [show R = _ from hdkH, Bool.eq_iff_iff]
            simp [and_assoc]
          generalize decide (h' = h'' ∧ k' = k'') = sb at ke hdk2
          cases sb
          · have hres : Hidden (false = R) := (show R = false from hdk2).symm
            clear hdkH hdk2
            go_wp2_with fail
            go_at_call 30
            refine ke.mono ?_
            rintro e w3 ⟨rfl, f3⟩
            go_wp2_with fail
            go_ret
            exact ⟨ret_b hres, f2.same f3⟩
          · clear hdkH
            go_wp2_with fail
            go_at_call 30
            refine ke.mono ?_
            rintro e w3 ⟨rfl, f3⟩
            go_wp2_with fail
            go_roundg r'.len
            case measure =>
              have : gk = r'.len + 1 := hgkH
              omega
            case rel =>
              refine ⟨i + 1, r', r'', by go_num, ?_, ?_, by omega, hn1, hn2, hdk2, rfl, f2.same f3⟩
              · have : i + (r'.len + 1) = k.len := hl1H
                omega
              · have : i + (r''.len + 1) = k2.len := hl2H
                omega
  · have hne : ((k.len : Int) != (k2.len : Int)) = true := by rw [bne_iff_ne]; omega
    have hres : Hidden (false = R) := by
      rw [← (show _ = R from hRH)]
      show false = decide (k = k2)
      symm
      simp only [decide_eq_false_iff_not]
      intro hc
      exact hlen (by rw [hc])
    clear hlen
    go_enter Tryz.func29, Tryz.ntmps29
    go_wp2_with fail
    go_ret
    exact ⟨ret_b hres, Fr.refl _ _⟩
theorem sameL_any (k : Exs) : SameL k := by
  have : ∀ (n : Nat) (k : Exs), k.size < n → SameL k := by
    intro n
    induction n with
    | zero => intro k hk; omega
    | succ n ih => intro k hk; exact sameL_step k (fun h' k' hk' => sameX_step h' k' (ih k' (by omega)))
  exact this (k.size + 1) k (by omega)
theorem sameX_any (h : EH) (k : Exs) : SameX h k := sameX_step h k (sameL_any k)
end Go.Proofs.YtncachlopnpcjaaGreatDoor
