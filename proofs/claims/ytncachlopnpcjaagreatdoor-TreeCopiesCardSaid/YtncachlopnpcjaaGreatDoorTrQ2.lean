/- The program's Same of statements. -/
import Derived.Test.YtncachlopnpcjaaGreatDoorTrQ
namespace Go.Proofs.YtncachlopnpcjaaGreatDoor
open Go.RowKit Te
set_option linter.unusedSimpArgs false
set_option linter.unusedVariables false

def SameB (k : Sts) : Prop := ∀ (k2 : Sts) (ao ao2 : Option Addr) (cap cap2 : Nat) (w : World), StL w ao cap k → StL w ao2 cap2 k2 →
  Calls Tryz.prog 31 #[.slice ao k.len cap, .slice ao2 k2.len cap2, .func (.func 32) #[] #[]] w fun e w' => e = .returned (.bool (decide (k = k2))) ∧ Fr (fun _ => False) w w'
def SameT (h : SH) (e : Exs) (b l : Sts) : Prop := ∀ (h2 : SH) (e2 : Exs) (b2 l2 : Sts) (ao1 ao2 ao3 ao1' ao2' ao3' : Option Addr) (cap1 cap2 cap3 cap1' cap2' cap3' : Nat) (w : World), ExL w ao1 cap1 e → StL w ao2 cap2 b → StL w ao3 cap3 l → ExL w ao1' cap1' e2 → StL w ao2' cap2' b2 → StL w ao3' cap3' l2 →
  Calls Tryz.prog 32 #[stV h (.slice ao1 e.len cap1) (.slice ao2 b.len cap2) (.slice ao3 l.len cap3), stV h2 (.slice ao1' e2.len cap1') (.slice ao2' b2.len cap2') (.slice ao3' l2.len cap3')] w fun ee w' => ee = .returned (.bool (decide (h = h2 ∧ e = e2 ∧ b = b2 ∧ l = l2))) ∧ Fr (fun _ => False) w w'
set_option maxRecDepth 20000 in
set_option maxHeartbeats 4000000 in
theorem sameT_step (h : SH) (e : Exs) (b l : Sts) (kb : SameB b) (kl : SameB l) : SameT h e b l := by
  intro h2 e2 b2 l2 ao1 ao2 ao3 ao1' ao2' ao3' cap1 cap2 cap3 cap1' cap2' cap3' w p1 p2 p3 q1 q2 q3
  by_cases hh : h = h2
  · subst hh
    have f0 : Fr (fun _ => False) w ((w.alloc (.cells #[ci h.kind, ct h.name, .slice ao1 e.len cap1, .slice ao2 b.len cap2, .slice ao3 l.len cap3] 67)).alloc (.cells #[ci h.kind, ct h.name, .slice ao1' e2.len cap1', .slice ao2' b2.len cap2', .slice ao3' l2.len cap3'] 67)) := (Fr.alloc _ _ _).same (Fr.alloc _ _ _)
    have x1 : Hidden (((w.alloc (.cells #[ci h.kind, ct h.name, .slice ao1 e.len cap1, .slice ao2 b.len cap2, .slice ao3 l.len cap3] 67)).alloc (.cells #[ci h.kind, ct h.name, .slice ao1' e2.len cap1', .slice ao2' b2.len cap2', .slice ao3' l2.len cap3'] 67)).heap[w.heap.size]? = some (.cells #[ci h.kind, ct h.name, .slice ao1 e.len cap1, .slice ao2 b.len cap2, .slice ao3 l.len cap3] 67 (0, 0))) := (Fr.alloc (fun _ => False) _ _).heap (alloc_new _ _) (fun f => f)
    have x2 : Hidden (((w.alloc (.cells #[ci h.kind, ct h.name, .slice ao1 e.len cap1, .slice ao2 b.len cap2, .slice ao3 l.len cap3] 67)).alloc (.cells #[ci h.kind, ct h.name, .slice ao1' e2.len cap1', .slice ao2' b2.len cap2', .slice ao3' l2.len cap3'] 67)).heap[w.heap.size + 1]? = some (.cells #[ci h.kind, ct h.name, .slice ao1' e2.len cap1', .slice ao2' b2.len cap2', .slice ao3' l2.len cap3'] 67 (0, 0))) := (congrArg _ (by simp)).trans (alloc_new _ _)
    have ke := sameL_any e e2 ao1 ao1' cap1 cap1' _ (p1.keep f0) (q1.keep f0)
    unfold SameB at kb kl
    rw [show decide (h = h ∧ e = e2 ∧ b = b2 ∧ l = l2) = (decide (e = e2) && (decide (b = b2) && decide (l = l2))) by rw [Bool.eq_iff_iff]; simp]
    have kb2 := fun (w1 : World) (f : Fr (fun _ => False) w w1) => kb b2 ao2 ao2' cap2 cap2' w1 (p2.keep f) (q2.keep f)
    have kl2 := fun (w1 : World) (f : Fr (fun _ => False) w w1) => kl l2 ao3 ao3' cap3 cap3' w1 (p3.keep f) (q3.keep f)
    generalize decide (e = e2) = re at ke
    generalize decide (b = b2) = rb at kb2
    generalize decide (l = l2) = rl at kl2
    clear kb kl
    cases re
    · go_enter Tryz.func32, Tryz.ntmps32
      go_wp2_with fail
      go_at_call 29
      refine ke.mono ?_
      rintro ee w1 ⟨rfl, f1⟩
      go_wp2_with fail
      go_ret
      exact ⟨rfl, f0.same f1⟩
    · cases rb
      · go_enter Tryz.func32, Tryz.ntmps32
        go_wp2_with fail
        go_at_call 29
        refine ke.mono ?_
        rintro ee w1 ⟨rfl, f1⟩
        obtain ⟨c0, c1, c2, c3, c4⟩ := st_box (f1.heap x1 (fun f => f))
        obtain ⟨d0, d1, d2, d3, d4⟩ := st_box (f1.heap x2 (fun f => f))
        go_wp2_with fail
        go_at_call 31
        refine (kb2 _ (f0.same f1)).mono ?_
        rintro ee w2 ⟨rfl, f2⟩
        go_wp2_with fail
        go_ret
        exact ⟨rfl, (f0.same f1).same f2⟩
      · go_enter Tryz.func32, Tryz.ntmps32
        go_wp2_with fail
        go_at_call 29
        refine ke.mono ?_
        rintro ee w1 ⟨rfl, f1⟩
        have y1 := f1.heap x1 (fun f => f)
        have y2 := f1.heap x2 (fun f => f)
        obtain ⟨c0, c1, c2, c3, c4⟩ := st_box y1
        obtain ⟨d0, d1, d2, d3, d4⟩ := st_box y2
        go_wp2_with fail
        go_at_call 31
        refine (kb2 _ (f0.same f1)).mono ?_
        rintro ee w2 ⟨rfl, f2⟩
        obtain ⟨c0, c1, c2, c3, c4⟩ := st_box (f2.heap y1 (fun f => f))
        obtain ⟨d0, d1, d2, d3, d4⟩ := st_box (f2.heap y2 (fun f => f))
        go_wp2_with fail
        go_at_call 31
        refine (kl2 _ ((f0.same f1).same f2)).mono ?_
        rintro ee w3 ⟨rfl, f3⟩
        go_wp2_with fail
        go_ret
        refine ⟨?_, ((f0.same f1).same f2).same f3⟩
        cases rl <;> rfl
  · have hhH : Hidden (¬ (h.kind = h2.kind ∧ h.name = h2.name)) := by
      intro hc
      apply hh
      obtain ⟨k1, n1⟩ := h
      obtain ⟨k2, n2⟩ := h2
      obtain ⟨rfl, rfl⟩ := hc
      rfl
    rw [show decide (h = h2 ∧ e = e2 ∧ b = b2 ∧ l = l2) = false by simp only [decide_eq_false_iff_not]; exact fun hc => hh hc.1]
    clear hh kb kl
    obtain ⟨kind, name⟩ := h
    obtain ⟨kind2, name2⟩ := h2
    go_enter Tryz.func32, Tryz.ntmps32
    go_wp2_with fail
    all_goals (first
      | (go_ret
         exact ⟨rfl, (Fr.alloc _ _ _).same (Fr.alloc _ _ _)⟩)
      | (exfalso
         apply (show ¬ _ from hhH)
         try simp only [Bool.and_eq_true, beq_iff_eq] at *
         simp [*]
         done))
set_option maxRecDepth 20000 in
set_option maxHeartbeats 4000000 in
theorem sameB_step (k : Sts) (ih : ∀ k' : Sts, k'.size < k.size → SameB k') : SameB k := by
  intro k2 ao ao2 cap cap2 w e1 e2
  have r1 := e1.rest
  have r2 := e2.rest
  have l1 : k.len ≤ 9223372036854775807 := by have := e1.1; have := e1.2.1; unfold maxLen at this; omega
  have l2 : k2.len ≤ 9223372036854775807 := by have := e2.1; have := e2.2.1; unfold maxLen at this; omega
  have m1 := e1.1
  have m2 := e2.1
  obtain ⟨R, hR⟩ : ∃ R, decide (k = k2) = R := ⟨_, rfl⟩
  rw [hR]
  have hRH : Hidden (decide (k = k2) = R) := hR
  clear hR
  by_cases hlen : k.len = k2.len
  · have hne : ((k.len : Int) != (k2.len : Int)) = false := by simp [hlen]
    have hlenH : Hidden (k.len = k2.len) := hlen
    clear hlen
    go_enter Tryz.func31, Tryz.ntmps31
    go_wp2_with fail
    go_loopg [17] k.len (fun g iv wr => ∃ (i : Nat) (r q : Sts), iv = ci (i : Int) ∧ i + r.len = k.len ∧ i + q.len = k2.len ∧ r.size ≤ k.size ∧ StR w ao i r ∧ StR w ao2 i q ∧ R = decide (r = q) ∧ g = r.len ∧ Fr (fun _ => False) w wr)
    case atStart => exact ⟨0, k, k2, rfl, by omega, by omega, Nat.le_refl _, r1, r2, (show _ = R from hRH).symm, rfl, Fr.refl _ _⟩
    case round =>
      obtain ⟨i, r, q, rfl, hl1, hl2, hsize, hrow, hrow2, hdk, hgk, hfr⟩ := hrel
      have hgkH : Hidden (gk = r.len) := hgk
      have hdkH : Hidden (R = decide (r = q)) := hdk
      have hl1H : Hidden (i + r.len = k.len) := hl1
      have hl2H : Hidden (i + q.len = k2.len) := hl2
      clear hgk hdk hl1 hl2 r1 r2
      cases r with
      | nil =>
        have hi : i = k.len := hl1H
        have hq : q.len = 0 := by have : i + q.len = k2.len := hl2H; have : k.len = k2.len := hlenH; omega
        have hq0 : q = .nil := by
          cases q with
          | nil => rfl
          | cons _ _ _ _ _ => simp [Sts.len] at hq
        have hres : Hidden (true = R) := by rw [show R = _ from hdkH, hq0]; rfl
        clear hq hq0 hrow2 hrow
        subst hi
        go_wp2_with fail
        go_ret
        exact ⟨ret_b hres, hfr⟩
      | cons h' e' b' l' r' =>
        cases q with
        | nil =>
          exfalso
          have a1 : i + (r'.len + 1) = k.len := hl1H
          have a2 : i + 0 = k2.len := hl2H
          have a3 : k.len = k2.len := hlenH
          omega
        | cons h'' e'' b'' l'' r'' =>
          have hil : i < k.len := by have : i + (r'.len + 1) = k.len := hl1H; omega
          have hil2 : i < k2.len := by have : i + (r''.len + 1) = k2.len := hl2H; omega
          obtain ⟨b, off, a1, p1, a2, p2, a3, p3, rfl, hL1, hL2, hL3, hn1, d0, d1, d2, d3, d4⟩ := hrow.next
          obtain ⟨bb, off', a1', p1', a2', p2', a3', p3', rfl, hM1, hM2, hM3, hn2, c0, c1, c2, c3, c4⟩ := hrow2.next
          have d0 := hfr.cellN d0
          have d1 := hfr.cellN d1
          have d2 := hfr.cellN d2
          have d3 := hfr.cellN d3
          have d4 := hfr.cellN d4
          have fa := Fr.alloc (fun _ => False) wr (.cells #[ci h'.kind, ct h'.name, .slice a1 e'.len p1, .slice a2 b'.len p2, .slice a3 l'.len p3] 67)
          have ff := hfr.same fa
          have c0 := ff.cellN c0
          have c1 := ff.cellN c1
          have c2 := ff.cellN c2
          have c3 := ff.cellN c3
          have c4 := ff.cellN c4
          have fb := Fr.alloc (fun _ => False) (wr.alloc (.cells #[ci h'.kind, ct h'.name, .slice a1 e'.len p1, .slice a2 b'.len p2, .slice a3 l'.len p3] 67)) (.cells #[ci h''.kind, ct h''.name, .slice a1' e''.len p1', .slice a2' b''.len p2', .slice a3' l''.len p3'] 67)
          obtain ⟨x0, x1, x2, x3, x4⟩ := st_box (fb.heap (alloc_new wr (.cells #[ci h'.kind, ct h'.name, .slice a1 e'.len p1, .slice a2 b'.len p2, .slice a3 l'.len p3] 67)) (fun f => f))
          have f2 := ff.same fb
          simp only [Sts.size] at hsize
          have ke := sameT_step h' e' b' l' (ih b' (by omega)) (ih l' (by omega)) h'' e'' b'' l'' a1 a2 a3 a1' a2' a3' p1 p2 p3 p1' p2' p3' _ (hL1.keep f2) (hL2.keep f2) (hL3.keep f2) (hM1.keep f2) (hM2.keep f2) (hM3.keep f2)
          have hdk2 : Hidden (R = (decide (h' = h'' ∧ e' = e'' ∧ b' = b'' ∧ l' = l'') && decide (r' = r''))) := by
            show R = _
            rw [show R = _ from hdkH, Bool.eq_iff_iff]
            simp [and_assoc]
          generalize decide (h' = h'' ∧ e' = e'' ∧ b' = b'' ∧ l' = l'') = sb at ke hdk2
          cases sb
          · have hres : Hidden (false = R) := (show R = false from hdk2).symm
            clear hdkH hdk2
            go_wp2_with fail
            go_at_call 32
            refine ke.mono ?_
            rintro e w3 ⟨rfl, f3⟩
            go_wp2_with fail
            go_ret
            exact ⟨ret_b hres, f2.same f3⟩
          · clear hdkH
            go_wp2_with fail
            go_at_call 32
            refine ke.mono ?_
            rintro e w3 ⟨rfl, f3⟩
            go_wp2_with fail
            go_roundg r'.len
            case measure =>
              have : gk = r'.len + 1 := hgkH
              omega
            case rel =>
              refine ⟨i + 1, r', r'', by go_num, ?_, ?_, by omega, hn1, hn2, hdk2, rfl, f2.same f3⟩
              · have : i + (r'.len + 1) = k.len := hl1H
                omega
              · have : i + (r''.len + 1) = k2.len := hl2H
                omega
  · have hne : ((k.len : Int) != (k2.len : Int)) = true := by rw [bne_iff_ne]; omega
    have hres : Hidden (false = R) := by
      rw [← (show _ = R from hRH)]
      show false = decide (k = k2)
      symm
      simp only [decide_eq_false_iff_not]
      intro hc
      exact hlen (by rw [hc])
    clear hlen
    go_enter Tryz.func31, Tryz.ntmps31
    go_wp2_with fail
    go_ret
    exact ⟨ret_b hres, Fr.refl _ _⟩
theorem sameB_any (k : Sts) : SameB k := by
  have : ∀ (n : Nat) (k : Sts), k.size < n → SameB k := by
    intro n
    induction n with
    | zero => intro k hk; omega
    | succ n ih => intro k hk; exact sameB_step k (fun k' hk' => ih k' (by omega))
  exact this (k.size + 1) k (by omega)
end Go.Proofs.YtncachlopnpcjaaGreatDoor
