/- The document's Split. -/
import Derived.Test.YtlbcneoebamjiaaNmSplit2
import Derived.Test.YtlbcneoebamjiaaNmRight2
namespace Go.Proofs.Ytlbcneoebamjiaa
open Go.RowKit Go.Sort
set_option linter.unusedSimpArgs false
set_option linter.unusedVariables false

set_option maxHeartbeats 1000000 in
theorem rsplit_walk (s m n : Str) (D : Nat) (rm rn : Int) (hD : Hidden (dotS s = D)) (hl : s.length ≤ 9223372036854775807) (hm : Hidden (D < s.length → s.take D = m)) (hn : Hidden (D < s.length → s.drop (D + 1) = n))
    (km : ∀ w, Calls Try.prog 13 #[.string ⟨m.toArray⟩] w fun e w' => e = .returned (.int .i64 rm) ∧ Fr (fun _ => False) w w') (kn : ∀ w, Calls Try.prog 13 #[.string ⟨n.toArray⟩] w fun e w' => e = .returned (.int .i64 rn) ∧ Fr (fun _ => False) w w')
    (R : Str × Str × Int) (hR : Hidden (R = if D < s.length then (if rm ≠ 0 then ([], [], rm) else if rn ≠ 0 then ([], [], rn) else (m, n, 0)) else ([], [], 12))) (w : World) :
    Calls Try.prog 28 #[.string ⟨s.toArray⟩] w fun e w' => e = .returned (.tuple #[.string ⟨R.1.toArray⟩, .string ⟨R.2.1.toArray⟩, .int .i64 R.2.2]) ∧ Fr (fun _ => False) w w' := by
  have hs := str_len s
  go_enter Try.func28, Try.ntmps28
  go_wp2
  go_loopg [5] s.length (fun k iv wr => ∃ j : Nat, iv = .int .i64 (j : Int) ∧ j ≤ s.length ∧ k = s.length - j ∧ wr = w ∧ j + dotS (s.drop j) = D)
  case atStart => exact ⟨0, rfl, by omega, rfl, rfl, by simpa using (show dotS s = D from hD)⟩
  case round =>
    obtain ⟨j, rfl, hj, hk, rfl, hf⟩ := hrel
    have hkH : Hidden (gk = s.length - j) := hk
    clear hk hD
    by_cases hjl : j < s.length
    · obtain ⟨c, hc⟩ : ∃ c, s[j]? = some c := ⟨s[j], List.getElem?_eq_getElem hjl⟩
      rw [drop_at hc, dotS] at hf
      have hx := str_index s j c hc
      obtain ⟨M, hM⟩ : ∃ M, c.toNat = M := ⟨_, rfl⟩
      rw [hM] at hx
      by_cases h46 : c = 46
      · subst h46
        rw [if_pos rfl, Nat.add_zero] at hf
        subst hf
        obtain rfl : 46 = M := hM
        have em := (show j < s.length → s.take j = m from hm) hjl
        have en := (show j < s.length → s.drop (j + 1) = n from hn) hjl
        have s1 := slice_to s j (by omega) hl
        have s2 := slice_from s (j + 1) (by omega) hl
        rw [show ((j + 1 : Nat) : Int) = (j : Int) + 1 by omega] at s2
        rw [em] at s1
        rw [en] at s2
        have hRH : Hidden (R = if rm ≠ 0 then ([], [], rm) else if rn ≠ 0 then ([], [], rn) else (m, n, 0)) := by
          have := (show R = _ from hR)
          rw [if_pos hjl] at this
          exact this
        have hne : ((j : Int) == (s.length : Int)) = false := by simp; omega
        clear hm hn em en hc hR
        by_cases h1 : rm = 0
        · subst h1
          by_cases h2 : rn = 0
          · subst h2
            have hRR : Hidden (R = (m, n, 0)) := show R = (m, n, 0) by have := (show R = _ from hRH); simpa using this
            clear hRH
            go_wp2_with fail
            refine (km _).mono ?_
            rintro e w1 ⟨rfl, hf1⟩
            go_wp2_with fail
            refine (kn _).mono ?_
            rintro e w2 ⟨rfl, hf2⟩
            go_wp2_with fail
            go_region
            go_wp2
            go_ret3
            exact ⟨by rw [show R = (m, n, 0) from hRR]; rfl, (hf1.same hf2).same (Fr.drew _ _)⟩
          · have h2' : (rn == 0) = false := by simp [h2]
            have hRR : Hidden (R = ([], [], rn)) := show R = ([], [], rn) by have := (show R = _ from hRH); simpa [h2] using this
            clear hRH h2
            go_wp2_with fail
            refine (km _).mono ?_
            rintro e w1 ⟨rfl, hf1⟩
            go_wp2_with fail
            refine (kn _).mono ?_
            rintro e w2 ⟨rfl, hf2⟩
            go_wp2_with fail
            go_ret3
            exact ⟨by rw [show R = ([], [], rn) from hRR]; rfl, hf1.same hf2⟩
        · have h1' : (rm == 0) = false := by simp [h1]
          have hRR : Hidden (R = ([], [], rm)) := show R = ([], [], rm) by have := (show R = _ from hRH); simpa [h1] using this
          clear hRH h1
          go_wp2_with fail
          refine (km _).mono ?_
          rintro e w1 ⟨rfl, hf1⟩
          go_wp2_with fail
          go_ret3
          exact ⟨by rw [show R = ([], [], rm) from hRR]; rfl, hf1⟩
      · rw [if_neg h46] at hf
        have hne : ((M : Int) == 46) = false := by
          rw [← hM]
          simp only [beq_eq_false_iff_ne, ne_eq]
          intro e
          apply h46
          apply UInt8.toNat_inj.1
          show c.toNat = 46
          omega
        have hfH : Hidden (j + 1 + dotS (s.drop (j + 1)) = D) := by show _ = D; omega
        clear hf h46 hM hc
        go_wp2
        go_roundg (s.length - (j + 1))
        case measure => have := (show gk = s.length - j from hkH); omega
        case rel => exact ⟨j + 1, by go_num, by omega, rfl, rfl, hfH⟩
    · obtain rfl : j = s.length := by omega
      rw [List.drop_length] at hf
      have hRR : Hidden (R = ([], [], 12)) := show R = ([], [], 12) by
        have := (show R = _ from hR)
        rw [if_neg (by simp only [dotS] at hf; omega)] at this
        exact this
      clear hf hR hm hn
      go_wp2
      go_ret3
      exact ⟨by rw [show R = ([], [], 12) from hRR]; rfl, Fr.refl _ _⟩
theorem rsplit_any (s : Str) (R : Str × Str × Int) (hR : splitS s = R) (hl : s.length ≤ 9223372036854775807) (w : World) :
    Calls Try.prog 28 #[.string ⟨s.toArray⟩] w fun e w' => e = .returned (.tuple #[.string ⟨R.1.toArray⟩, .string ⟨R.2.1.toArray⟩, .int .i64 R.2.2]) ∧ Fr (fun _ => False) w w' := by
  have hle := dotS_le s
  refine rsplit_walk s (s.take (dotS s)) (s.drop (dotS s + 1)) (dotS s) _ _ rfl hl (fun _ => rfl) (fun _ => rfl) (rright_any _ _ rfl (by rw [List.length_take]; omega)) (rright_any _ _ rfl (by rw [List.length_drop]; omega)) R ?_ w
  exact hR.symm
end Go.Proofs.Ytlbcneoebamjiaa
