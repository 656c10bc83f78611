/- The document's small functions: letters, digits, gaps, marks, numbers. -/
import Derived.Test.YteijjaabngkbjaaGreatDoorLxCov
namespace Go.Proofs.YteijjaabngkbjaaGreatDoor
open Go.RowKit Lx
set_option linter.unusedSimpArgs false
set_option linter.unusedVariables false

def ltrN (n : Nat) : Bool := (decide (97 ≤ n) && decide (n ≤ 122)) || (decide (65 ≤ n) && decide (n ≤ 90)) || decide (n = 95)
def dgtN (n : Nat) : Bool := decide (48 ≤ n) && decide (n ≤ 57)
theorem rletter_walk (n : Nat) (r : Bool) (hr : Hidden (ltrN n = r)) (w : World) :
    Calls Tryz.prog 93 #[.int .u8 (n : Int)] w fun e w' => e = .returned (.bool r) ∧ w' = w := by
  go_enter Tryz.func93, Tryz.ntmps93
  go_wp2
  all_goals (go_ret; refine ⟨?_, rfl⟩; rw [← (show _ = r from hr)]; clear hr; refine ret_bool ?_; simp [ltrN]; try omega)
theorem rdigit_walk (n : Nat) (r : Bool) (hr : Hidden (dgtN n = r)) (w : World) :
    Calls Tryz.prog 94 #[.int .u8 (n : Int)] w fun e w' => e = .returned (.bool r) ∧ w' = w := by
  go_enter Tryz.func94, Tryz.ntmps94
  go_wp2
  all_goals (go_ret; refine ⟨?_, rfl⟩; rw [← (show _ = r from hr)]; clear hr; refine ret_bool ?_; simp [dgtN]; try omega)
def hxN (n : Nat) : Bool := dgtN n || ((decide (97 ≤ n) && decide (n ≤ 102)) || n == 46 || n == 112 || n == 43 || n == 45)
theorem rhex_walk (n : Nat) (r : Bool) (hr : Hidden (hxN n = r)) (w : World) :
    Calls Tryz.prog 141 #[.int .u8 (n : Int)] w fun e w' => e = .returned (.bool r) ∧ w' = w := by
  have kd := rdigit_walk n _ rfl
  cases hd : dgtN n
  · rw [hd] at kd
    have hdH : Hidden (dgtN n = false) := hd
    clear hd
    go_enter Tryz.func141, Tryz.ntmps141
    go_wp2_with (go_at_call 94; refine (kd _).mono ?_; rintro e w' ⟨rfl, rfl⟩)
    all_goals (go_ret; refine ⟨?_, rfl⟩; rw [← (show _ = r from hr)]; clear hr; refine ret_bool ?_; rw [hxN, show dgtN n = false from hdH]; simp only [Bool.false_or, Bool.or_eq_true, Bool.and_eq_true, decide_eq_true_eq, beq_iff_eq, true_iff, Bool.false_eq_true, false_iff]; (try simp only [beq_iff_eq, beq_eq_false_iff_ne, ne_eq] at *); omega)
  · rw [hd] at kd
    have hrr : r = true := by rw [← (show _ = r from hr), hxN, hd]; rfl
    subst hrr
    clear hd hr
    go_enter Tryz.func141, Tryz.ntmps141
    go_wp2_with (go_at_call 94; refine (kd _).mono ?_; rintro e w' ⟨rfl, rfl⟩)
    go_ret
    exact ⟨rfl, rfl⟩
theorem class_nat (c : UInt8) : ltrN c.toNat = ltr c ∧ dgtN c.toNat = dgt c ∧ hxN c.toNat = hxB c := by
  have h : ∀ k < 256, ltrN k = ltr (UInt8.ofNat k) ∧ dgtN k = dgt (UInt8.ofNat k) ∧ hxN k = hxB (UInt8.ofNat k) := by decide +kernel
  have := h c.toNat c.toNat_lt
  simpa using this

theorem bl_no {c : UInt8} (h : blB c = false) : ((c.toNat : Int) == 32) = false ∧ ((c.toNat : Int) == 9) = false ∧ ((c.toNat : Int) == 10) = false ∧ ((c.toNat : Int) == 13) = false := by
  simp only [blB, Bool.or_eq_false_iff, beq_eq_false_iff_ne] at h
  obtain ⟨⟨⟨h1, h2⟩, h3⟩, h4⟩ := h
  exact ⟨byte_ne (n := 32) (by decide) h1, byte_ne (n := 9) (by decide) h2, byte_ne (n := 10) (by decide) h3, byte_ne (n := 13) (by decide) h4⟩

set_option maxHeartbeats 1000000 in
theorem skip_walk (l : By) (i R : Nat) (hi : i ≤ l.length) (hl : l.length ≤ 9223372036854775800) (hR : Hidden (i + gap (l.drop i) = R)) (w : World) :
    Calls Tryz.prog 45 #[.string ⟨l.toArray⟩, .int .i64 (i : Int)] w fun e w' => e = .returned (.int .i64 (R : Int)) ∧ w' = w := by
  have hs := str_len l
  go_enter Tryz.func45, Tryz.ntmps45
  go_wp2
  go_loopg [1] (l.length - i) (fun k iv wr => ∃ j : Nat, iv = .int .i64 (j : Int) ∧ j ≤ l.length ∧ j + gap (l.drop j) = R ∧ k = l.length - j ∧ wr = w)
  case atStart => exact ⟨i, rfl, hi, hR, rfl, rfl⟩
  case round =>
    obtain ⟨j, rfl, hj, hf, hgk, rfl⟩ := hrel
    have hgkH : Hidden (gk = l.length - j) := hgk
    clear hgk hR hi
    by_cases hjl : j < l.length
    · obtain ⟨c, hc⟩ : ∃ c, l[j]? = some c := ⟨l[j], List.getElem?_eq_getElem hjl⟩
      have hx := str_index l j c hc
      cases hb : blB c
      · obtain ⟨b1, b2, b3, b4⟩ := bl_no hb
        by_cases hn : c = 47 ∧ l[j + 1]? = some 47
        · obtain ⟨rfl, hc2⟩ := hn
          have hx2 := index_succ l j 47 hc2
          have hj2 : j + 1 < l.length := (List.getElem?_eq_some_iff.1 hc2).1
          obtain ⟨n, hr, hle, hg⟩ := gap_remark l j hc hc2
          rw [hg] at hf
          have hfH : Hidden (n + 1 + gap (l.drop (j + (n + 1))) + j = R) := by show _ = _; omega
          have hrH : Hidden (j + run (fun c => c != 10) (l.drop j) = j + (n + 1)) := by show _ = _; rw [hr]
          have hleH : Hidden (j + (n + 1) ≤ l.length) := hle
          clear hf hr hle hg hc hc2 hb
          obtain ⟨V, rfl⟩ : ∃ V, V = wr := ⟨wr, rfl⟩
          obtain ⟨G, hG⟩ : ∃ G, G = gk := ⟨gk, rfl⟩
          rw [← hG] at hgkH
          go_wp2
          go_loopg [1] (l.length - j) (fun k iv wr => ∃ m : Nat, iv = .int .i64 (m : Int) ∧ j ≤ m ∧ m ≤ l.length ∧ m + run (fun c => c != 10) (l.drop m) = j + (n + 1) ∧ k = l.length - m ∧ wr = V)
          case atStart => exact ⟨j, rfl, by omega, by omega, hrH, rfl, rfl⟩
          case round =>
            obtain ⟨m, rfl, hjm, hml, hrm, hk2, rfl⟩ := hrel
            have hk2H : Hidden (gk = l.length - m) := hk2
            clear hk2 hrH
            by_cases hm2 : m < l.length
            · obtain ⟨d, hd⟩ : ∃ d, l[m]? = some d := ⟨l[m], List.getElem?_eq_getElem hm2⟩
              have hxm := str_index l m d hd
              rw [run_step _ l m d hd] at hrm
              by_cases h10 : d = 10
              · subst h10
                simp only [bne_self_eq_false, Bool.false_eq_true, if_false] at hrm
                have hmH : Hidden (m = j + (n + 1)) := by show _ = _; omega
                clear hrm hd
                go_wp2
                go_roundg (l.length - m)
                case measure =>
                  have : G = l.length - j := hgkH
                  have : m = j + (n + 1) := hmH
                  omega
                case rel =>
                  have h1 : m = j + (n + 1) := hmH
                  have h2 : n + 1 + gap (l.drop (j + (n + 1))) + j = R := hfH
                  rw [← h1] at h2
                  exact ⟨m, rfl, by omega, by omega, rfl, rfl⟩
              · have h11 : ((d.toNat : Int) != 10) = true := by rw [bne, nl_no' h10]; rfl
                rw [if_pos (by simpa using h10)] at hrm
                have hrmH : Hidden (m + 1 + run (fun c => c != 10) (l.drop (m + 1)) = j + (n + 1)) := by show _ = _; omega
                clear hrm hd h10
                go_wp2
                go_roundg (l.length - (m + 1))
                case measure =>
                  have : gk = l.length - m := hk2H
                  omega
                case rel => exact ⟨m + 1, by go_num, by omega, by omega, hrmH, rfl, rfl⟩
            · obtain rfl : m = l.length := by omega
              rw [List.drop_length, run_nil] at hrm
              have hmH : Hidden (l.length = j + (n + 1)) := by show _ = _; omega
              clear hrm
              go_wp2
              go_roundg (l.length - l.length)
              case measure =>
                have : G = l.length - j := hgkH
                omega
              case rel =>
                have h1 : l.length = j + (n + 1) := hmH
                have h2 : n + 1 + gap (l.drop (j + (n + 1))) + j = R := hfH
                rw [← h1] at h2
                exact ⟨l.length, rfl, by omega, by omega, rfl, rfl⟩
        · have hgn := gap_none l j c hc hb hn
          rw [hgn] at hf
          have hfH : Hidden (j = R) := by show _ = _; omega
          clear hf hgn hb
          by_cases h47 : c = 47
          · subst h47
            by_cases hjn : j + 1 < l.length
            · obtain ⟨d, hd⟩ : ∃ d, l[j + 1]? = some d := ⟨l[j + 1], List.getElem?_eq_getElem hjn⟩
              have hx2 := index_succ l j d hd
              have hdn : ((d.toNat : Int) == 47) = false := byte_ne (n := 47) (by decide) (fun e => hn ⟨rfl, by rw [hd, e]; rfl⟩)
              clear hn hd hc
              go_wp2
              go_ret
              rw [← show j = R from hfH]
              exact ⟨rfl, rfl⟩
            · have hjn2 : decide ((j : Int) + 1 < (l.length : Int)) = false := decide_eq_false (by omega)
              clear hn hc
              go_wp2
              go_ret
              rw [← show j = R from hfH]
              exact ⟨rfl, rfl⟩
          · have h48 : ((c.toNat : Int) == 47) = false := byte_ne (n := 47) (by decide) h47
            clear hn h47 hc
            go_wp2
            go_ret
            rw [← show j = R from hfH]
            exact ⟨rfl, rfl⟩
      · have hg := gap_blank l j c hc hb
        rw [hg] at hf
        have hfH : Hidden (j + 1 + gap (l.drop (j + 1)) = R) := by show _ = _; omega
        simp only [blB, Bool.or_eq_true, beq_iff_eq] at hb
        clear hf hg hc
        rcases hb with ((rfl | rfl) | rfl) | rfl
        all_goals
          go_wp2
          go_roundg (l.length - (j + 1))
          case measure =>
            have : gk = l.length - j := hgkH
            omega
          case rel => exact ⟨j + 1, by go_num, by omega, hfH, rfl, rfl⟩
    · obtain rfl : j = l.length := by omega
      rw [List.drop_length] at hf
      have hfH : Hidden (l.length = R) := by show _ = _; simp only [gap, gapM] at hf; omega
      clear hf
      go_wp2
      go_ret
      rw [← show l.length = R from hfH]
      exact ⟨rfl, rfl⟩
end Go.Proofs.YteijjaabngkbjaaGreatDoor
