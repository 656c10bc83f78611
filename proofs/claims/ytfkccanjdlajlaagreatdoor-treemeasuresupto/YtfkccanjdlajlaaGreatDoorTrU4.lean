/- The document's Uses: expressions. -/
import Derived.Test.YtfkccanjdlajlaaGreatDoorTrU3
namespace Go.Proofs.YtfkccanjdlajlaaGreatDoor.X
open Go.RowKit Te
set_option linter.unusedSimpArgs false
set_option linter.unusedVariables false

theorem putGo_len (s : Bs) : ∀ (r out : List Bs) (done : Bool), (U.putGo s r out done).length ≤ out.length + r.length + (if done then 0 else 1)
  | [], out, done => by cases done <;> simp [U.putGo]
  | x :: r, out, done => by
    unfold U.putGo
    split
    · have := putGo_len s r (out ++ [x]) true; simp at this ⊢; omega
    · split
      · rename_i _ h; have := putGo_len s r (out ++ [s] ++ [x]) true; simp [h.2] at this ⊢; omega
      · have := putGo_len s r (out ++ [x]) done; simp at this ⊢; omega
theorem putGo_in (s : Bs) : ∀ (r out : List Bs) (done : Bool) (y : Bs), y ∈ U.putGo s r out done → y ∈ out ∨ y ∈ r ∨ y = s
  | [], out, done, y, h => by cases done <;> simp [U.putGo] at h <;> simp [h]
  | x :: r, out, done, y, h => by
    unfold U.putGo at h
    split at h
    · rcases putGo_in s r _ _ y h with h | h | h
      · simp at h; rcases h with h | h <;> simp [h]
      · simp [h]
      · simp [h]
    · split at h
      · rcases putGo_in s r _ _ y h with h | h | h
        · simp at h; rcases h with h | h | h <;> simp [h]
        · simp [h]
        · simp [h]
      · rcases putGo_in s r _ _ y h with h | h | h
        · simp at h; rcases h with h | h <;> simp [h]
        · simp [h]
        · simp [h]
/-- A list of texts, and those that are still to come. -/
def Fit (l b : List Bs) : Prop := l.length + b.length ≤ 1099511627776 ∧ (∀ x ∈ l, x.length ≤ 9223372036854775807) ∧ (∀ x ∈ b, x.length ≤ 9223372036854775807)
theorem fit_put {l b : List Bs} {s : Bs} (h : Fit l (s :: b)) : Fit (U.putS l s) b := by
  obtain ⟨h1, h2, h3⟩ := h
  refine ⟨?_, ?_, fun x hx => h3 x (by simp [hx])⟩
  · have := putGo_len s l [] false
    unfold U.putS
    simp at this h1
    omega
  · intro x hx
    rcases putGo_in s l [] false x hx with h | h | h
    · simp at h
    · exact h2 x h
    · rw [h]; exact h3 s (by simp)
theorem fit_app : ∀ {b l c : List Bs}, Fit l (b ++ c) → Fit l b ∧ Fit (b.foldl U.putS l) c
  | [], l, c, h => ⟨⟨by have := h.1; simp at this ⊢; omega, h.2.1, by simp⟩, h⟩
  | s :: b, l, c, h => by
    refine ⟨⟨by have := h.1; simp at this ⊢; omega, h.2.1, fun x hx => h.2.2 x (by simp at hx ⊢; rcases hx with h | h <;> simp [h])⟩, ?_⟩
    exact (fit_app (b := b) (fit_put h)).2
def UsE (k : Exs) : Prop := ∀ (ao : Option Addr) (cap : Nat) (w : World) (v : Value) (l : List Bs), ExL w ao cap k → U.Tl w v l → Fit l (usE k) →
  Calls Tryz.prog 52 #[v, .slice ao k.len cap] w fun e w' => ∃ v', e = .returned v' ∧ U.Tl w' v' ((usE k).foldl U.putS l) ∧ Fr (fun _ => False) w w'
set_option maxRecDepth 20000 in
set_option maxHeartbeats 4000000 in
theorem usE_step (k : Exs) (ih : ∀ k' : Exs, k'.size < k.size → UsE k') : UsE k := by
  intro ao cap w v l hk ht hb
  have hrest := hk.rest
  obtain ⟨hcap, hmax, _⟩ := hk
  have hlen : k.len ≤ 9223372036854775807 := by unfold maxLen at hmax; omega
  obtain ⟨R, hR⟩ : ∃ R, (usE k).foldl U.putS l = R := ⟨_, rfl⟩
  rw [hR]
  obtain ⟨vao, vcap, rfl, _⟩ := id ht
  go_enter Tryz.func52, Tryz.ntmps52
  go_wp2_with fail
  go_loopg [0, 5] k.len (fun g mv iv wr => ∃ (i : Nat) (r : Exs) (l1 : List Bs), iv = ci (i : Int) ∧ i + r.len = k.len ∧ r.size ≤ k.size ∧ ExR w ao i r ∧ U.Tl wr mv l1 ∧ (usE r).foldl U.putS l1 = R ∧ Fit l1 (usE r) ∧ g = r.len ∧ Fr (fun _ => False) w wr)
  case atStart => exact ⟨0, k, l, rfl, by omega, Nat.le_refl _, hrest, ht, hR, hb, rfl, Fr.refl _ _⟩
  case round =>
    obtain ⟨i, r, l1, rfl, hlen2, hsize, hrow, hto, hdk, hfit, hgk, hfr⟩ := hrel
    have hgkH : Hidden (gk = r.len) := hgk
    have hdkH : Hidden ((usE r).foldl U.putS l1 = R) := hdk
    have hlenH : Hidden (i + r.len = k.len) := hlen2
    clear hgk hdk hlen2 hrest hR hb
    cases r with
    | nil =>
      have hi : i = k.len := hlenH
      subst hi
      obtain rfl : l1 = R := hdkH
      go_wp2_with fail
      go_ret
      exact ⟨_, rfl, hto, hfr⟩
    | cons h' k' r' =>
      have hil : i < k.len := by have : i + (r'.len + 1) = k.len := hlenH; omega
      obtain ⟨b, off, ao', cap', rfl, hL, hrow2, d0, d1, d2, d3, d4, d5, d6⟩ := hrow.next
      have d0 := hfr.cellN d0
      have d1 := hfr.cellN d1
      have d2 := hfr.cellN d2
      have d3 := hfr.cellN d3
      have d4 := hfr.cellN d4
      have d5 := hfr.cellN d5
      have d6 := hfr.cellN d6
      simp only [Exs.size] at hsize
      have ke := ih k' (by omega)
      unfold UsE at ke
      by_cases hk35 : h'.kind = 3 ∨ h'.kind = 5
      · have hd2 : Hidden ((usE r').foldl U.putS ((usE k').foldl U.putS (U.putS l1 h'.mod)) = R) := by
          have h0 : ((if h'.kind = 3 ∨ h'.kind = 5 then [h'.mod] else []) ++ usE k' ++ usE r').foldl U.putS l1 = R := hdkH
          rw [if_pos hk35, List.foldl_append, List.foldl_append] at h0
          exact h0
        have hft : Fit l1 ([h'.mod] ++ (usE k' ++ usE r')) := by
          have h0 : Fit l1 ((if h'.kind = 3 ∨ h'.kind = 5 then [h'.mod] else []) ++ usE k' ++ usE r') := hfit
          rw [if_pos hk35, List.append_assoc] at h0
          exact h0
        have hft1 := (fit_app hft).1
        have hft2 : Fit (U.putS l1 h'.mod) (usE k' ++ usE r') := (fit_app hft).2
        have hft3 := fit_app hft2
        have kp := U.rput_any _ l1 h'.mod wr hto (by have := hft1.1; simp at this; omega) (hft1.2.2 _ (by simp)) hft1.2.1
        have hk3 : ((h'.kind == 3) = true) ∨ ((h'.kind == 3) = false ∧ (h'.kind == 5) = true) := by
          rcases hk35 with h | h <;> simp [h]
        clear hdkH hk35 hfit hft
        rcases hk3 with t1 | ⟨t1, t2⟩
        all_goals
          go_wp2_with fail
          go_at_call 90
          refine kp.mono ?_
          rintro e w2 ⟨v2, rfl, to2, f2⟩
          have f2 := u_fr f2
          have d0 := f2.cellN d0
          have d1 := f2.cellN d1
          have d2 := f2.cellN d2
          have d3 := f2.cellN d3
          have d4 := f2.cellN d4
          have d5 := f2.cellN d5
          have d6 := f2.cellN d6
          have kc := ke ao' cap' w2 v2 _ (hL.keep (hfr.same f2)) to2.tn.tl hft3.1
          go_wp2_with fail
          go_at_call 52
          refine kc.mono ?_
          rintro e w3 ⟨v3, rfl, to3, f3⟩
          go_wp2_with fail
          go_roundg r'.len
          case measure =>
            have : gk = r'.len + 1 := hgkH
            omega
          case rel =>
            refine ⟨i + 1, r', _, by go_num, ?_, by omega, hrow2, to3, hd2, hft3.2, rfl, (hfr.same f2).same f3⟩
            have : i + (r'.len + 1) = k.len := hlenH
            omega
      · have t1 : (h'.kind == 3) = false := by simp only [beq_eq_false_iff_ne, ne_eq]; exact fun h => hk35 (Or.inl h)
        have t2 : (h'.kind == 5) = false := by simp only [beq_eq_false_iff_ne, ne_eq]; exact fun h => hk35 (Or.inr h)
        have hd2 : Hidden ((usE r').foldl U.putS ((usE k').foldl U.putS l1) = R) := by
          have h0 : ((if h'.kind = 3 ∨ h'.kind = 5 then [h'.mod] else []) ++ usE k' ++ usE r').foldl U.putS l1 = R := hdkH
          rw [if_neg hk35, List.nil_append, List.foldl_append] at h0
          exact h0
        have hft : Fit l1 (usE k' ++ usE r') := by
          have h0 : Fit l1 ((if h'.kind = 3 ∨ h'.kind = 5 then [h'.mod] else []) ++ usE k' ++ usE r') := hfit
          rw [if_neg hk35, List.nil_append] at h0
          exact h0
        have hft3 := fit_app hft
        have kc := ke ao' cap' wr _ _ (hL.keep hfr) hto hft3.1
        clear hdkH hk35 hfit hft
        go_wp2_with fail
        go_at_call 52
        refine kc.mono ?_
        rintro e w3 ⟨v3, rfl, to3, f3⟩
        go_wp2_with fail
        go_roundg r'.len
        case measure =>
          have : gk = r'.len + 1 := hgkH
          omega
        case rel =>
          refine ⟨i + 1, r', _, by go_num, ?_, by omega, hrow2, to3, hd2, hft3.2, rfl, hfr.same f3⟩
          have : i + (r'.len + 1) = k.len := hlenH
          omega
theorem usE_any (k : Exs) : UsE k := by
  have : ∀ (n : Nat) (k : Exs), k.size < n → UsE k := by
    intro n
    induction n with
    | zero => intro k hk; omega
    | succ n ih => intro k hk; exact usE_step k (fun k' hk' => ih k' (by omega))
  exact this (k.size + 1) k (by omega)
end Go.Proofs.YtfkccanjdlajlaaGreatDoor.X
