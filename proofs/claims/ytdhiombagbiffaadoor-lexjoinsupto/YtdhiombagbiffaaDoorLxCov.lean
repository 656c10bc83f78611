/- The law LexCovers: each token is the text at its place. -/
import Derived.Test.YtdhiombagbiffaaDoorLxLive
import Derived.Deep.QuietTactic
import Derived.BigQuiet
namespace Go.Proofs.YtdhiombagbiffaaDoor
open Go.RowKit Lx
set_option linter.unusedSimpArgs false
set_option linter.unusedVariables false

theorem nl_no' {c : UInt8} (h : c ≠ 10) : ((c.toNat : Int) == 10) = false := by
  rw [beq_eq_false_iff_ne]
  intro e
  exact h (UInt8.toNat_inj.1 (by simpa using (by omega : c.toNat = 10)))
theorem lblank_walk (n : Nat) (r : Bool) (hr : Hidden ((n == 32 || n == 9 || n == 10 || n == 13) = r)) (w : World) :
    Calls Tryd.prog 30 #[.int .u8 (n : Int)] w fun e w' => e = .returned (.bool r) ∧ w' = w := by
  go_enter Tryd.func30, Tryd.ntmps30
  go_wp2
  all_goals (go_ret; refine ⟨?_, rfl⟩; rw [← (show _ = r from hr)]; clear hr; refine ret_bool ?_; (try simp only [beq_iff_eq, beq_eq_false_iff_ne, ne_eq] at *); simp only [Bool.or_eq_true, beq_iff_eq, true_iff, Bool.false_eq_true, false_iff]; omega)
theorem byte_ne {c : UInt8} {n : Nat} (hn : n < 256) (h : c ≠ UInt8.ofNat n) : ((c.toNat : Int) == (n : Int)) = false := by
  rw [beq_eq_false_iff_ne]
  intro e
  exact h (UInt8.toNat_inj.1 (by rw [UInt8.toNat_ofNat']; omega))
theorem index_succ (l : By) (j : Nat) (c : UInt8) (h : l[j + 1]? = some c) (w : World) : (Instr.index 9 (.string ⟨l.toArray⟩) (.int .i64 ((j : Int) + 1))).run Tryd.prog w = .ok (.int .u8 (c.toNat : Int)) w := by
  have := str_index l (j + 1) c h w
  rw [show ((j + 1 : Nat) : Int) = (j : Int) + 1 by omega] at this
  exact this

theorem empty_walk (l : By) (hl : l.length ≤ 9223372036854775800) (he : Hidden (gap l = l.length)) (w : World) :
    Calls Tryd.prog 20 #[.string ⟨l.toArray⟩] w fun e w' => e = .returned (.bool true) ∧ w' = w := by
  have hs := str_len l
  go_enter Tryd.func20, Tryd.ntmps20
  go_wp2
  go_loopg [3] (l.length + 1) (fun k iv wr => ∃ j : Nat, iv = .int .i64 (j : Int) ∧ j ≤ l.length + 1 ∧ gap (l.drop j) = l.length - j ∧ k = l.length + 1 - j ∧ wr = w)
  case atStart => exact ⟨0, rfl, by omega, by rw [List.drop_zero]; exact he, rfl, rfl⟩
  case round =>
    obtain ⟨j, rfl, hj, hf, hgk, rfl⟩ := hrel
    have hgkH : Hidden (gk = l.length + 1 - j) := hgk
    clear hgk he
    by_cases hjl : j < l.length
    · obtain ⟨c, hc⟩ : ∃ c, l[j]? = some c := ⟨l[j], List.getElem?_eq_getElem hjl⟩
      have hx := str_index l j c hc
      have kb := lblank_walk c.toNat _ rfl
      rw [bl_nat] at kb
      cases hb : blB c
      · have hre : c = 47 ∧ l[j + 1]? = some 47 := by
          apply Decidable.byContradiction
          intro hn
          have := gap_none l j c hc hb hn
          omega
        obtain ⟨rfl, hc2⟩ := hre
        have hx2 := index_succ l j 47 hc2
        have hj2 : j + 1 < l.length := (List.getElem?_eq_some_iff.1 hc2).1
        obtain ⟨n, hr, hle, hg⟩ := gap_remark l j hc hc2
        rw [hg] at hf
        have hfH : Hidden (n + 1 + gap (l.drop (j + (n + 1))) = l.length - j) := hf
        have hrH : Hidden (j + run (fun c => c != 10) (l.drop j) = j + (n + 1)) := by show _ = _; rw [hr]
        have hleH : Hidden (j + (n + 1) ≤ l.length) := hle
        clear hf hr hle hg hc hc2 hb
        obtain ⟨V, rfl⟩ : ∃ V, V = wr := ⟨wr, rfl⟩
        obtain ⟨G, hG⟩ : ∃ G, G = gk := ⟨gk, rfl⟩
        rw [← hG] at hgkH
        go_wp2
        go_loopg [3] (l.length - j) (fun k iv wr => ∃ m : Nat, iv = .int .i64 (m : Int) ∧ j ≤ m ∧ m ≤ l.length ∧ m + run (fun c => c != 10) (l.drop m) = j + (n + 1) ∧ k = l.length - m ∧ wr = V)
        case atStart => exact ⟨j, rfl, by omega, by omega, hrH, rfl, rfl⟩
        case round =>
          obtain ⟨m, rfl, hjm, hml, hrm, hk2, rfl⟩ := hrel
          have hk2H : Hidden (gk = l.length - m) := hk2
          clear hk2 hrH
          by_cases hm2 : m < l.length
          · obtain ⟨d, hd⟩ : ∃ d, l[m]? = some d := ⟨l[m], List.getElem?_eq_getElem hm2⟩
            have hxm := str_index l m d hd
            rw [run_step _ l m d hd] at hrm
            by_cases h10 : d = 10
            · subst h10
              simp only [bne_self_eq_false, Bool.false_eq_true, if_false] at hrm
              have hmH : Hidden (m = j + (n + 1)) := by show _ = _; omega
              have hbl := gap_blank l m 10 hd (by decide)
              have hblH : Hidden (gap (l.drop m) = 1 + gap (l.drop (m + 1))) := hbl
              clear hrm hd hbl
              go_wp2
              go_roundg (l.length + 1 - (m + 1))
              case measure =>
                have : G = l.length + 1 - j := hgkH
                have : m = j + (n + 1) := hmH
                omega
              case rel =>
                have h1 : m = j + (n + 1) := hmH
                have h2 : n + 1 + gap (l.drop (j + (n + 1))) = l.length - j := hfH
                rw [← h1] at h2
                have h3 : gap (l.drop m) = 1 + gap (l.drop (m + 1)) := hblH
                exact ⟨m + 1, by go_num, by omega, by omega, rfl, rfl⟩
            · have h11 : ((d.toNat : Int) != 10) = true := by rw [bne, nl_no' h10]; rfl
              rw [if_pos (by simpa using h10)] at hrm
              have hrmH : Hidden (m + 1 + run (fun c => c != 10) (l.drop (m + 1)) = j + (n + 1)) := by show _ = _; omega
              clear hrm hd h10
              go_wp2
              go_roundg (l.length - (m + 1))
              case measure =>
                have : gk = l.length - m := hk2H
                omega
              case rel => exact ⟨m + 1, by go_num, by omega, by omega, hrmH, rfl, rfl⟩
          · obtain rfl : m = l.length := by omega
            rw [List.drop_length, run_nil] at hrm
            have hmH : Hidden (l.length = j + (n + 1)) := by show _ = _; omega
            clear hrm
            go_wp2
            go_roundg (l.length + 1 - (l.length + 1))
            case measure =>
              have : G = l.length + 1 - j := hgkH
              omega
            case rel =>
              exact ⟨l.length + 1, by go_num, by omega, by rw [List.drop_eq_nil_of_le (by omega)]; simp [gap, gapM], rfl, rfl⟩
      · rw [hb] at kb
        have hne : ((c.toNat : Int) == 47) = false := byte_ne (c := c) (n := 47) (by decide) (blank_no hb).2.2.2.1
        have hg := gap_blank l j c hc hb
        rw [hg] at hf
        have hfH : Hidden (1 + gap (l.drop (j + 1)) = l.length - j) := hf
        clear hf hg hc hb
        go_wp2_with (first
            | (go_at_call 30; refine (kb _).mono ?_; rintro e w' ⟨rfl, rfl⟩))
        go_roundg (l.length + 1 - (j + 1))
        case measure =>
          have : gk = l.length + 1 - j := hgkH
          omega
        case rel =>
          have h2 : 1 + gap (l.drop (j + 1)) = l.length - j := hfH
          exact ⟨j + 1, by go_num, by omega, by omega, rfl, rfl⟩
    · have hjl2 : l.length ≤ j := by omega
      clear hf
      go_wp2
      go_ret
      exact ⟨rfl, rfl⟩
end Go.Proofs.YtdhiombagbiffaaDoor
