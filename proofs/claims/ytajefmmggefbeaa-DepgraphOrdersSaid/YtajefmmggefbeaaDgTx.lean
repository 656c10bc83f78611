/- Texts, at, slices.Contains. -/
import Derived.Test.YtajefmmggefbeaaNmRight
namespace Go.Proofs.Ytajefmmggefbeaa
open Go.RowKit Go.Sort
set_option linter.unusedSimpArgs false
set_option linter.unusedVariables false

set_option maxHeartbeats 800000 in
theorem texts3_walk (ao bo : Option Addr) (na nb ca cb : Nat) (la lb : List Str) (r : Bool) (w : World) (hna : Hidden (la.length = na)) (hnb : Hidden (lb.length = nb)) (h1 : na ≤ ca) (h2 : nb ≤ cb) (h3 : ca ≤ 9223372036854775807) (h4 : cb ≤ 9223372036854775807)
    (ha : Hidden (la = [] ∨ ∃ b off, ao = some ⟨b, off, none⟩ ∧ ∀ (i : Nat) (x : Str), la[i]? = some x → w.cell? ⟨b, off + i, none⟩ = some (encStr x)))
    (hb : Hidden (lb = [] ∨ ∃ b off, bo = some ⟨b, off, none⟩ ∧ ∀ (i : Nat) (x : Str), lb[i]? = some x → w.cell? ⟨b, off + i, none⟩ = some (encStr x))) (hr : Hidden (decide (la = lb) = r)) :
    Calls Try.prog 8 #[.slice ao na ca, .slice bo nb cb] w fun e w' => e = .returned (.bool r) ∧ Fr (fun _ => False) w w' := by
  by_cases hn : na = nb
  · subst hn
    go_enter Try.func8, Try.ntmps8
    go_wp2
    go_loopg [5] na (fun k iv wr => ∃ j : Nat, iv = .int .i64 (j : Int) ∧ j ≤ na ∧ k = na - j ∧ Fr (fun _ => False) w wr ∧ la.take j = lb.take j)
    case atStart => exact ⟨0, rfl, by omega, rfl, Fr.refl _ _, rfl⟩
    case round =>
      obtain ⟨j, rfl, hj, hk, hf, hsame⟩ := hrel
      have hkH : Hidden (gk = na - j) := hk
      have hfH : Hidden (Fr (fun _ => False) w wr) := hf
      have hsH : Hidden (la.take j = lb.take j) := hsame
      have hna' : la.length = na := hna
      have hnb' : lb.length = na := hnb
      clear hk hsame
      by_cases hjl : j < na
      · obtain ⟨x, hx⟩ : ∃ x, la[j]? = some x := ⟨la[j], List.getElem?_eq_getElem (by omega)⟩
        obtain ⟨y, hy⟩ : ∃ y, lb[j]? = some y := ⟨lb[j], List.getElem?_eq_getElem (by omega)⟩
        rcases (show la = [] ∨ _ from ha) with h0 | ⟨ba, oa, rfl, hca⟩
        · rw [h0] at hx; simp at hx
        rcases (show lb = [] ∨ _ from hb) with h0 | ⟨bb, ob, rfl, hcb⟩
        · rw [h0] at hy; simp at hy
        have c1 := hf.cell (hca j x hx) (fun f => f)
        have c2 := hf.cell (hcb j y hy) (fun f => f)
        have hxH : Hidden (la[j]? = some x) := hx
        have hyH : Hidden (lb[j]? = some y) := hy
        clear hf hca hcb hna' hnb' hx hy
        by_cases hxy : x = y
        · subst hxy
          go_wp2
          go_region
          go_wp2
          go_roundg (na - (j + 1))
          case measure => have := (show gk = na - j from hkH); omega
          case rel =>
            refine ⟨j + 1, by go_num, by omega, rfl, hfH.same (Fr.drew _ _), ?_⟩
            rw [List.take_add_one, List.take_add_one, show la[j]? = some x from hxH, show lb[j]? = some x from hyH, show la.take j = lb.take j from hsH]
        · have hne : (x == y) = false := beq_eq_false_iff_ne.2 hxy
          have hxyH : Hidden (x ≠ y) := hxy
          clear hxy
          go_wp2
          go_region
          go_wp2
          go_ret
          refine ⟨?_, hfH.same (Fr.drew _ _)⟩
          have hne2 : la ≠ lb := fun e => by
            have h1 : la[j]? = some x := hxH
            rw [e, show lb[j]? = some y from hyH] at h1
            exact (show x ≠ y from hxyH) (Option.some.inj h1).symm
          rw [← (show decide (la = lb) = r from hr), decide_eq_false hne2]
          rfl
      · obtain rfl : j = na := by omega
        clear hf
        go_wp2
        go_ret
        refine ⟨?_, hfH⟩
        have this : la.take j = lb.take j := hsH
        rw [List.take_of_length_le (by omega), List.take_of_length_le (by omega)] at this
        rw [← (show decide (la = lb) = r from hr), decide_eq_true this]
        rfl
  · have hn' : ((na : Int) == (nb : Int)) = false := by simp; omega
    go_enter Try.func8, Try.ntmps8
    go_wp2
    go_ret
    refine ⟨?_, Fr.refl _ _⟩
    have e1 : la.length = na := hna
    have e2 : lb.length = nb := hnb
    have hne2 : la ≠ lb := fun e => hn (by rw [← e1, ← e2, e])
    rw [← (show decide (la = lb) = r from hr), decide_eq_false hne2]
    rfl

theorem texts3_is (a b : Value) (la lb : List Str) (w : World) (ha : Tl w a la) (hb : Tl w b lb) (r : Bool) (hr : decide (la = lb) = r) :
    Calls Try.prog 8 #[a, b] w fun e w' => e = .returned (.bool r) ∧ Fr (fun _ => False) w w' := by
  obtain ⟨ao, ca, rfl, a1, a2, a3, a4⟩ := ha
  obtain ⟨bo, cb, rfl, b1, b2, b3, b4⟩ := hb
  exact texts3_walk ao bo _ _ ca cb la lb r w rfl rfl a1 b1 a2 b2 a4 b4 hr

/-- slices.Contains. -/
theorem index_any (v : Value) (l : List Str) (s : Str) (w : World) (h : Tl w v l) (R : Int) (hR : idxGo s l 0 = R) :
    Calls Try.prog 63 #[v, .string ⟨s.toArray⟩] w fun e w' => e = .returned (.int .i64 R) ∧ w' = w := by
  obtain ⟨ao, cap, rfl, h1, h2, h3, h4⟩ := h
  exact index_walk ao _ cap l s R w rfl h1 h2 h4 hR
theorem contains_any (v : Value) (l : List Str) (s : Str) (w : World) (h : Tl w v l) (r : Bool) (hr : decide (s ∈ l) = r) :
    Calls Try.prog 68 #[v, .string ⟨s.toArray⟩] w fun e w' => e = .returned (.bool r) ∧ w' = w := by
  have ki := index_any v l s w h _ rfl
  obtain ⟨ao, cap, rfl, h1, h2, h3, h4⟩ := h
  subst hr
  obtain ⟨R, hR⟩ : ∃ R, idxGo s l 0 = R := ⟨_, rfl⟩
  have hd : decide (s ∈ l) = decide (0 ≤ R) := by
    rcases findS_spec l s with ⟨a1, _, a3⟩ | ⟨k, a1, _, a3⟩
    · rw [← hR, a3]; simp [a1]
    · rw [← hR, a3, decide_eq_true (List.mem_of_getElem? a1)]; simp
  rw [hR] at ki
  rw [hd]
  obtain ⟨n, hn⟩ : ∃ n, l.length = n := ⟨_, rfl⟩
  rw [hn] at ki h1 ⊢
  clear h3 h4 hn hd hR
  go_enter Try.func68, Try.ntmps68
  go_wp2_with (go_at_call 63; refine ki.mono ?_; rintro e w1 ⟨rfl, rfl⟩)
  go_ret
  exact ⟨rfl, rfl⟩
end Go.Proofs.Ytajefmmggefbeaa
