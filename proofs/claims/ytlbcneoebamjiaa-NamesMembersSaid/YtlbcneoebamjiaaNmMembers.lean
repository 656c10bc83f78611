/- NamesMembers walked. -/
import Derived.Test.YtlbcneoebamjiaaNmLive
import Derived.Test.YtlbcneoebamjiaaNmBin
import Derived.Deep.QuietTactic
import Derived.BigQuiet
namespace Go.Proofs.Ytlbcneoebamjiaa
open Go.RowKit Go.Sort
set_option linter.unusedSimpArgs false
set_option linter.unusedVariables false

theorem Tl.at {w : World} {ao : Option Addr} {n cap : Nat} {l : List Str} (h : Tl w (.slice ao n cap) l) : l = [] ∨ ∃ b off, ao = some ⟨b, off, none⟩ ∧ ∀ (i : Nat) (x : Str), l[i]? = some x → w.cell? ⟨b, off + i, none⟩ = some (encStr x) := by
  obtain ⟨ao', cap', e, _, _, _, h4⟩ := h
  cases e
  exact h4

theorem Fr.drewN (S : Nat → Prop) (w : World) (n : Nat) : Fr S w (w.drewN n) := ⟨rfl, rfl, Nat.le_refl _, fun _ _ _ => rfl⟩
theorem cmpS_lt {x y : Str} (h : x < y) : cmpS x y = -1 := by unfold cmpS; rw [if_pos h]

set_option maxHeartbeats 4000000 in
set_option maxRecDepth 20000 in
theorem namesMembers.walk (v : Value) (l : List Str) (s : Str) (w : World) (hv : Tl w v l) (hl : l.length * 16 ≤ 140737488355328) (_ : ∀ s ∈ l, s.length ≤ 9223372036854775807) (_ : s.length ≤ 140737488351232) :
    Calls Try.prog 8 #[v, .string ⟨s.toArray⟩] w fun e w' => e = .returned (.bool true) ∧ Fr (fun _ => False) w w' := by
  have kl := live_any
  have hss := setS_ss l
  have hmem : ∀ x, x ∈ setS l ↔ x ∈ l := fun x => mem_setS
  have ksl := setS_len l
  have kset := fun w h => set_any v l w h hl
  obtain ⟨S, hS⟩ : ∃ S, setS l = S := ⟨_, rfl⟩
  rw [hS] at hss hmem ksl kset
  clear hS
  have hssH : Hidden (SS S) := hss
  have hmH : Hidden (∀ x, x ∈ S ↔ x ∈ l) := hmem
  obtain ⟨ao, cap, rfl, a1, a2, a3, a4⟩ := id hv
  have hvH : Hidden (Tl w (.slice ao l.length cap) l) := hv
  obtain ⟨n, hn⟩ : ∃ n, l.length = n := ⟨_, rfl⟩
  have hnH : Hidden (l.length = n) := hn
  rw [hn] at hvH a1 kset ⊢
  clear a3 a4 hv hl hn hss hmem ksl
  go_enter Try.func8, Try.ntmps8
  go_wp2_with fail
  refine (kl _).mono ?_
  rintro e w1 ⟨rfl, f1⟩
  go_wp2_with fail
  refine (kset w1 ((show Tl w _ l from hvH).later f1)).mono ?_
  rintro e w2 ⟨v2, rfl, t2, f2⟩
  have g2 : Hidden (Fr (fun _ => False) w w2) := f1.same f2
  obtain ⟨so, sc, rfl, s1, s2, s3, s4⟩ := id t2.tl
  have hsH : Hidden (Tl w2 (.slice so S.length sc) S) := t2.tl
  obtain ⟨m, hm⟩ : ∃ m, S.length = m := ⟨_, rfl⟩
  have hmmH : Hidden (S.length = m) := hm
  rw [hm] at hsH s1 ⊢
  clear f1 f2 t2 s3 s4 hm kl kset
  go_wp2_with fail
  go_loopg [6] m (fun k iv wr => ∃ j : Nat, iv = .int .i64 (j : Int) ∧ 1 ≤ j ∧ j ≤ m + 1 ∧ k = m + 1 - j ∧ Fr (fun _ => False) w2 wr)
  case atStart => exact ⟨1, rfl, by omega, by omega, by omega, Fr.refl _ _⟩
  case round =>
    obtain ⟨j, rfl, hj1, hj, hk, hf⟩ := hrel
    have hkH : Hidden (gk = m + 1 - j) := hk
    have hfH : Hidden (Fr (fun _ => False) w2 wr) := hf
    clear hk
    by_cases hjl : j < m
    · have hmm : S.length = m := hmmH
      obtain ⟨x, hx⟩ : ∃ x, S[j - 1]? = some x := ⟨S[j - 1], List.getElem?_eq_getElem (by omega)⟩
      obtain ⟨y, hy⟩ : ∃ y, S[j]? = some y := ⟨S[j], List.getElem?_eq_getElem (by omega)⟩
      rcases ((show Tl w2 _ S from hsH).later hf).at with h0 | ⟨b, off, rfl, hc⟩
      · rw [h0] at hx; simp at hx
      have c1 := hc (j - 1) x hx
      have c2 := hc j y hy
      have kc := cmp_any x y (-1) (cmpS_lt ((show SS S from hssH).get hx hy (by omega)))
      clear hc hx hy hmm hf
      have i1 : (0 : Int) ≤ (j : Int) - 1 := by omega
      have i2 : (j : Int) - 1 < (m : Int) := by omega
      have i3 : (j : Int) < (m : Int) := by omega
      go_wp2_with fail
      go_quiet ((go_at_call 29; exact Calls.quiet_of_same (kc _)))
      go_wp2_with fail
      go_roundg (m + 1 - (j + 1))
      case measure => have := (show gk = m + 1 - j from hkH); omega
      case rel => exact ⟨j + 1, by go_num, by omega, by omega, rfl, hfH.same (Fr.drewN _ _ _)⟩
    · clear hf
      go_wp2_with fail
      obtain ⟨V, hV⟩ : ∃ V, V = wr := ⟨wr, rfl⟩
      have fV : Hidden (Fr (fun _ => False) w2 V) := by rw [hV]; exact hfH
      rw [← hV]
      clear hfH hkH hjl hj hj1 hV
      go_loopg [7] m (fun k iv wx => ∃ i : Nat, iv = .int .i64 (i : Int) ∧ i ≤ m ∧ k = m - i ∧ wx = V)
      case atStart => exact ⟨0, rfl, by omega, rfl, rfl⟩
      case round =>
        obtain ⟨i, rfl, hi, hk, rfl⟩ := hrel
        have hkH : Hidden (gk = m - i) := hk
        clear hk
        by_cases hil : i < m
        · have hmm : S.length = m := hmmH
          obtain ⟨x, hx⟩ : ∃ x, S[i]? = some x := ⟨S[i], List.getElem?_eq_getElem (by omega)⟩
          rcases ((show Tl w2 _ S from hsH).later (show Fr (fun _ => False) w2 wr from fV)).at with h0 | ⟨b, off, rfl, hc⟩
          · rw [h0] at hx; simp at hx
          have c1 := hc i x hx
          have hin : x ∈ l := ((show ∀ x, x ∈ S ↔ x ∈ l from hmH) x).1 (List.mem_of_getElem? hx)
          obtain ⟨q, hq⟩ : ∃ q : Int, findS l x = (q, true) := by
            rcases findS_spec l x with ⟨h, _, _⟩ | ⟨k, _, e, _⟩
            · exact absurd hin h
            · exact ⟨_, e⟩
          have kf := find_any _ l x _ hq wr ((show Tl w _ l from hvH).later ((show Fr (fun _ => False) w w2 from g2).same fV))
          simp only at kf
          clear hc hx hmm hin hq
          go_wp2_with (go_at_call 17; refine kf.mono ?_; rintro e w4 ⟨rfl, rfl⟩)
          go_roundg (m - (i + 1))
          case measure => have := (show gk = m - i from hkH); omega
          case rel => exact ⟨i + 1, by go_num, by omega, rfl, rfl⟩
        · go_wp2_with fail
          obtain ⟨V, hV⟩ : ∃ V, V = wr := ⟨wr, rfl⟩
          have fV : Hidden (Fr (fun _ => False) w2 V) := by rw [hV]; exact fV
          rw [← hV]
          clear hkH hil hi hV
          go_loopg [10] n (fun k iv wx => ∃ i : Nat, iv = .int .i64 (i : Int) ∧ i ≤ n ∧ k = n - i ∧ Fr (fun _ => False) V wx)
          case atStart => exact ⟨0, rfl, by omega, rfl, Fr.refl _ _⟩
          case round =>
            obtain ⟨i, rfl, hi, hk, hf⟩ := hrel
            have hkH : Hidden (gk = n - i) := hk
            have hfH : Hidden (Fr (fun _ => False) V wr) := hf
            have hS : Tl wr _ S := (show Tl w2 _ S from hsH).later ((show Fr (fun _ => False) w2 V from fV).same hf)
            have hL : Tl wr _ l := (show Tl w _ l from hvH).later (((show Fr (fun _ => False) w w2 from g2).same fV).same hf)
            clear hk hf
            by_cases hil : i < n
            · have hnn : l.length = n := hnH
              obtain ⟨x, hx⟩ : ∃ x, l[i]? = some x := ⟨l[i], List.getElem?_eq_getElem (by omega)⟩
              have hin : x ∈ S := ((show ∀ x, x ∈ S ↔ x ∈ l from hmH) x).2 (List.mem_of_getElem? hx)
              obtain ⟨q, hq1, hq2⟩ : ∃ q : Nat, S[q]? = some x ∧ findS S x = ((q : Int), true) := by
                rcases findS_spec S x with ⟨h, _, _⟩ | ⟨k, e1, e2, _⟩
                · exact absurd hin h
                · exact ⟨k, e1, e2⟩
              have hqm : q < m := by
                have := (List.getElem?_eq_some_iff.1 hq1).1
                have hmm : S.length = m := hmmH
                omega
              have kf := find_any _ S x _ hq2 wr hS
              simp only at kf
              rcases hL.at with h0 | ⟨b, off, rfl, hc⟩
              · rw [h0] at hx; simp at hx
              rcases hS.at with h0 | ⟨b', off', rfl, hc'⟩
              · rw [h0] at hq1; simp at hq1
              have c1 := hc i x hx
              have c2 := hc' q x hq1
              clear hc hc' hx hnn hin hq1 hq2 hS hL
              have i1 : (q : Int) < (m : Int) := by omega
              have i2 : (i : Int) < (n : Int) := by omega
              go_wp2_with (go_at_call 17; refine kf.mono ?_; rintro e w4 ⟨rfl, rfl⟩)
              go_quiet (fail)
              go_wp2_with fail
              go_roundg (n - (i + 1))
              case measure => have := (show gk = n - i from hkH); omega
              case rel => exact ⟨i + 1, by go_num, by omega, rfl, hfH.same (Fr.drewN _ _ _)⟩
            · have k1 := find_any _ l s _ rfl wr hL
              have k2 := find_any _ S s _ rfl wr hS
              have e1 := findS_mem l s
              have e2 := findS_mem S s
              have e3 : decide (s ∈ S) = decide (s ∈ l) := by
                rw [Bool.eq_iff_iff, decide_eq_true_eq, decide_eq_true_eq]
                exact (show ∀ x, x ∈ S ↔ x ∈ l from hmH) s
              rw [e1] at k1
              rw [e2, e3] at k2
              generalize decide (s ∈ l) = r at k1 k2
              generalize (findS l s).1 = q1 at k1
              generalize (findS S s).1 = q2 at k2
              clear e1 e2 e3 hS hL
              go_wp2_with fail
              refine k1.mono ?_
              rintro e w5 ⟨rfl, rfl⟩
              go_wp2_with fail
              refine k2.mono ?_
              rintro e w6 ⟨rfl, rfl⟩
              go_wp2_with fail
              go_ret
              exact ⟨by simp, ((show Fr (fun _ => False) w w2 from g2).same fV).same hfH⟩
end Go.Proofs.Ytlbcneoebamjiaa
