/- The document's Right. -/
import Derived.Test.YtajefmmggefbeaaNmRight
namespace Go.Proofs.Ytajefmmggefbeaa
open Go.RowKit Go.Sort
set_option linter.unusedSimpArgs false
set_option linter.unusedVariables false

def ld (c : UInt8) : Bool := letB c.toNat || digB c.toNat
theorem speltGo_all : ∀ (r : Str) (i : Nat), speltGo r (i + 1) = r.all ld
  | [], _ => rfl
  | c :: r, i => by
    rw [speltGo, speltGo_all r (i + 1), List.all_cons]
    rfl
theorem spelt_cons (s : Str) (c : UInt8) (h : s[0]? = some c) : speltS s = (letB c.toNat && s.all ld) := by
  cases s with
  | nil => simp at h
  | cons d r =>
    have : d = c := by simpa using h
    subst this
    show (speltGo (d :: r) 0 && !(d :: r).isEmpty) = _
    rw [speltGo, speltGo_all, List.all_cons]
    show ((letB d.toNat || (0 != 0 && digB d.toNat)) && r.all ld && true) = (letB d.toNat && ((letB d.toNat || digB d.toNat) && r.all ld))
    cases letB d.toNat <;> simp
theorem spelt_nil : speltS [] = false := rfl

set_option maxHeartbeats 800000 in
theorem rright_walk (s : Str) (c0 : UInt8) (h0 : Hidden (s[0]? = some c0)) (hlet : letB c0.toNat = true) (v : Bool) (hv : Hidden (s.all ld = v)) (rs : Bool) (hrs : Hidden (decide (s ∈ wordsL) = rs)) (hl : s.length ≤ 9223372036854775807) (w : World) (r : Int)
    (hr : Hidden (r = if v = true then (if 32 < s.length then 3 else if rs = true then 12 else 0) else 12)) :
    Calls Try.prog 58 #[.string ⟨s.toArray⟩] w fun e w' => e = .returned (.int .i64 r) ∧ Fr (fun _ => False) w w' := by
  have hx0 : ∀ w, (Instr.index 9 (.string ⟨s.toArray⟩) (.int .i64 0)).run Try.prog w = .ok (.int .u8 (c0.toNat : Int)) w := str_index s 0 c0 h0
  have kl0 := rletter_any c0.toNat _ hlet
  have hne : ((s.length : Int) == 0) = false := by
    cases s with
    | nil => cases (show ([] : Str)[0]? = some c0 from h0)
    | cons a b => simp; omega
  have kr := rreserved_any s _ hrs
  obtain ⟨m0, hm0⟩ : ∃ m, c0.toNat = m := ⟨_, rfl⟩
  rw [hm0] at hx0 kl0
  clear hlet hm0
  have hs := str_len s
  go_enter Try.func58, Try.ntmps58
  go_wp2_with (go_at_call 73; refine (kl0 _).mono ?_; rintro e w1 ⟨rfl, rfl⟩)
  go_loopg [3] s.length (fun k iv wr => ∃ j : Nat, iv = .int .i64 (j : Int) ∧ j ≤ s.length ∧ k = s.length - j ∧ wr = w1 ∧ (s.drop j).all ld = v)
  case atStart => exact ⟨0, rfl, by omega, rfl, rfl, hv⟩
  case round =>
    obtain ⟨j, rfl, hj, hk, rfl, hf⟩ := hrel
    have hkH : Hidden (gk = s.length - j) := hk
    clear hk hv hx0 kl0 hne
    by_cases hjl : j < s.length
    · obtain ⟨c, hc⟩ : ∃ c, s[j]? = some c := ⟨s[j], List.getElem?_eq_getElem hjl⟩
      rw [drop_at hc, List.all_cons] at hf
      have hx := str_index s j c hc
      have kl := rletter_any c.toNat _ rfl
      have kd := rdigit_any c.toNat _ rfl
      unfold ld at hf
      obtain ⟨m, hm⟩ : ∃ m, c.toNat = m := ⟨_, rfl⟩
      rw [hm] at hx kl kd hf
      clear hm hc
      cases hlt : letB m
      · rw [hlt] at kl hf
        clear hlt
        cases hdg : digB m
        · rw [hdg] at kd hf
          simp only [Bool.false_or, Bool.false_and] at hf
          subst hf
          have hrr : Hidden (r = 12) := show r = 12 by have := (show r = _ from hr); simpa using this
          clear hdg
          go_wp2_with (first | (go_at_call 73; refine (kl _).mono ?_; rintro e w' ⟨rfl, rfl⟩) | (go_at_call 74; refine (kd _).mono ?_; rintro e w' ⟨rfl, rfl⟩))
          go_ret
          exact ⟨by rw [show r = 12 from hrr]; rfl, Fr.refl _ _⟩
        · rw [hdg] at kd hf
          simp only [Bool.false_or, Bool.true_and] at hf
          have hfH : Hidden ((s.drop (j + 1)).all ld = v) := hf
          clear hdg hf
          go_wp2_with (first | (go_at_call 73; refine (kl _).mono ?_; rintro e w' ⟨rfl, rfl⟩) | (go_at_call 74; refine (kd _).mono ?_; rintro e w' ⟨rfl, rfl⟩))
          go_roundg (s.length - (j + 1))
          case measure => have := (show gk = s.length - j from hkH); omega
          case rel => exact ⟨j + 1, by go_num, by omega, rfl, rfl, hfH⟩
      · rw [hlt] at kl hf
        simp only [Bool.true_or, Bool.true_and] at hf
        have hfH : Hidden ((s.drop (j + 1)).all ld = v) := hf
        clear hlt hf
        go_wp2_with (first | (go_at_call 73; refine (kl _).mono ?_; rintro e w' ⟨rfl, rfl⟩) | (go_at_call 74; refine (kd _).mono ?_; rintro e w' ⟨rfl, rfl⟩))
        go_roundg (s.length - (j + 1))
        case measure => have := (show gk = s.length - j from hkH); omega
        case rel => exact ⟨j + 1, by go_num, by omega, rfl, rfl, hfH⟩
    · obtain rfl : j = s.length := by omega
      rw [List.drop_length] at hf
      obtain rfl : true = v := hf
      by_cases h32 : 32 < s.length
      · have hrr : Hidden (r = 3) := show r = 3 by have := (show r = _ from hr); simpa [h32] using this
        go_wp2_with (go_at_call 75; refine (kr _).mono ?_; rintro e w' ⟨rfl, hf⟩)
        go_ret
        exact ⟨by rw [show r = 3 from hrr]; rfl, Fr.refl _ _⟩
      · cases rs with
        | true =>
          have hrr : Hidden (r = 12) := show r = 12 by have := (show r = _ from hr); simpa [h32] using this
          go_wp2_with (go_at_call 75; refine (kr _).mono ?_; rintro e w' ⟨rfl, hf⟩)
          go_ret
          exact ⟨by rw [show r = 12 from hrr]; rfl, hf⟩
        | false =>
          have hrr : Hidden (r = 0) := show r = 0 by have := (show r = _ from hr); simpa [h32] using this
          go_wp2_with (go_at_call 75; refine (kr _).mono ?_; rintro e w' ⟨rfl, hf⟩)
          go_ret
          exact ⟨by rw [show r = 0 from hrr]; rfl, hf⟩

theorem rright_any (s : Str) (r : Int) (hr : rightS s = r) (hl : s.length ≤ 9223372036854775807) (w : World) :
    Calls Try.prog 58 #[.string ⟨s.toArray⟩] w fun e w' => e = .returned (.int .i64 r) ∧ Fr (fun _ => False) w w' := by
  by_cases hn : s = []
  · subst hn
    obtain rfl : 12 = r := hr
    go_enter Try.func58, Try.ntmps58
    go_wp2
    go_ret
    exact ⟨rfl, Fr.refl _ _⟩
  · obtain ⟨c, hc⟩ : ∃ c, s[0]? = some c := by
      cases s with
      | nil => exact absurd rfl hn
      | cons a b => exact ⟨a, rfl⟩
    have hsp := spelt_cons s c hc
    unfold rightS at hr
    rw [hsp] at hr
    cases hlet : letB c.toNat
    · rw [hlet] at hr
      simp only [Bool.false_and, Bool.false_eq_true, if_false] at hr
      subst hr
      have hx0 : ∀ w, (Instr.index 9 (.string ⟨s.toArray⟩) (.int .i64 0)).run Try.prog w = .ok (.int .u8 (c.toNat : Int)) w := str_index s 0 c hc
      have kl0 := rletter_any c.toNat _ hlet
      have hne : ((s.length : Int) == 0) = false := by
        cases s with
        | nil => exact absurd rfl hn
        | cons a b => simp; omega
      have hs := str_len s
      obtain ⟨m0, hm0⟩ : ∃ m, c.toNat = m := ⟨_, rfl⟩
      rw [hm0] at hx0 kl0
      clear hlet hm0 hc hsp hn
      go_enter Try.func58, Try.ntmps58
      go_wp2_with (go_at_call 73; refine (kl0 _).mono ?_; rintro e w' ⟨rfl, rfl⟩)
      go_ret
      exact ⟨rfl, Fr.refl _ _⟩
    · rw [hlet, Bool.true_and] at hr
      refine rright_walk s c hc hlet _ rfl _ rfl hl w r ?_
      show r = _
      rw [← hr]
      simp only [decide_eq_true_eq]
end Go.Proofs.Ytajefmmggefbeaa
