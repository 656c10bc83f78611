/- Names of types. -/
import Derived.Test.YtddkmefpfhdliaaDoorTyM
import Derived.Test.YtddkmefpfhdliaaDoorTrG
namespace Go.Proofs.YtddkmefpfhdliaaDoor.Ty
open Go.RowKit
set_option linter.unusedSimpArgs false
set_option linter.unusedVariables false

theorem ofv_any (t : Int) (w : World) : Calls Tryd.prog 58 #[ci t] w fun e w' => e = .returned (.bool (valued t)) ∧ w' = w := by
  go_enter Tryd.func58, Tryd.ntmps58
  go_wp2
  all_goals
    go_ret
    refine ⟨ret_bl ?_, rfl⟩
    rw [Bool.eq_iff_iff, valued_iff]
    try simp only [decide_eq_true_eq, decide_eq_false_iff_not, beq_iff_eq, beq_eq_false_iff_ne, ne_eq, Bool.false_eq_true, iff_false, false_iff, true_iff, not_or] at *
    omega
theorem rvalued_any (t : Int) (w : World) : Calls Tryd.prog 37 #[ci t] w fun e w' => e = .returned (.bool (valued t)) ∧ w' = w := by
  go_enter Tryd.func37, Tryd.ntmps37
  go_wp2
  all_goals (go_ret; refine ⟨ret_bl ?_, rfl⟩; simp [valued, *])
theorem name_any (t : Int) (w : World) : Calls Tryd.prog 10 #[ci t] w fun e w' => e = .returned (ct (nameS t)) ∧ w' = w := by
  unfold nameS
  by_cases h1 : t = 1
  · subst h1
    go_enter Tryd.func10, Tryd.ntmps10
    go_wp2
    go_ret
    exact ⟨rfl, rfl⟩
  by_cases h2 : t = 2
  · subst h2
    go_enter Tryd.func10, Tryd.ntmps10
    go_wp2
    go_ret
    exact ⟨rfl, rfl⟩
  by_cases h3 : t = 3
  · subst h3
    go_enter Tryd.func10, Tryd.ntmps10
    go_wp2
    go_ret
    exact ⟨rfl, rfl⟩
  rw [if_neg h1, if_neg h2, if_neg h3]
  have b1 : (t == 1) = false := by simp [h1]
  have b2 : (t == 2) = false := by simp [h2]
  have b3 : (t == 3) = false := by simp [h3]
  clear h1 h2 h3
  go_enter Tryd.func10, Tryd.ntmps10
  go_wp2
  go_ret
  exact ⟨rfl, rfl⟩
theorem rname_any (t : Int) (w : World) : Calls Tryd.prog 11 #[ci t] w fun e w' => e = .returned (ct (nameS t)) ∧ w' = w := by
  unfold nameS
  by_cases h1 : t = 1
  · subst h1
    go_enter Tryd.func11, Tryd.ntmps11
    go_wp2
    go_ret
    exact ⟨rfl, rfl⟩
  by_cases h2 : t = 2
  · subst h2
    go_enter Tryd.func11, Tryd.ntmps11
    go_wp2
    go_ret
    exact ⟨rfl, rfl⟩
  by_cases h3 : t = 3
  · subst h3
    go_enter Tryd.func11, Tryd.ntmps11
    go_wp2
    go_ret
    exact ⟨rfl, rfl⟩
  rw [if_neg h1, if_neg h2, if_neg h3]
  have b1 : (t == 1) = false := by simp [h1]
  have b2 : (t == 2) = false := by simp [h2]
  have b3 : (t == 3) = false := by simp [h3]
  clear h1 h2 h3
  go_enter Tryd.func11, Tryd.ntmps11
  go_wp2
  go_ret
  exact ⟨rfl, rfl⟩
theorem findS_at {s : Bs} {t : Int} (h1 : 1 ≤ t) (h3 : t ≤ 3) (hn : ∀ u, 1 ≤ u → u < t → nameS u ≠ s) (he : nameS t = s) : findS s = (t, true) := by
  have : t = 1 ∨ t = 2 ∨ t = 3 := by omega
  subst he
  rcases this with rfl | rfl | rfl <;> rfl
theorem findS_no {s : Bs} (hn : ∀ u : Int, 1 ≤ u → u < 4 → nameS u ≠ s) : findS s = (0, false) := by
  have a1 := hn 1 (by omega) (by omega)
  have a2 := hn 2 (by omega) (by omega)
  have a3 := hn 3 (by omega) (by omega)
  simp only [nameS] at a1 a2 a3
  unfold findS
  rw [if_neg (fun e => a1 (by rw [e]; rfl)), if_neg (fun e => a2 (by rw [e]; rfl)), if_neg (fun e => a3 (by rw [e]; rfl))]
theorem find_any (s : Bs) (w : World) : Calls Tryd.prog 8 #[ct s] w fun e w' => e = .returned (.tuple #[ci (findS s).1, .bool (findS s).2]) ∧ w' = w := by
  obtain ⟨R, hR⟩ : ∃ R, findS s = R := ⟨_, rfl⟩
  have hRH : Hidden (findS s = R) := hR
  rw [hR]
  clear hR
  go_enter Tryd.func8, Tryd.ntmps8
  go_wp2
  go_loopg [4] 3 (fun k iv wr => ∃ t : Int, iv = ci t ∧ 1 ≤ t ∧ t ≤ 4 ∧ k = (4 - t).toNat ∧ wr = w ∧ ∀ u, 1 ≤ u → u < t → nameS u ≠ s)
  case atStart => exact ⟨1, rfl, by omega, by omega, by omega, rfl, fun u h1 h2 => absurd h2 (by omega)⟩
  case round =>
    obtain ⟨t, rfl, h1, h4, hk, rfl, hn⟩ := hrel
    have hkH : Hidden (gk = (4 - t).toNat) := hk
    have hnH : Hidden (∀ u, 1 ≤ u → u < t → nameS u ≠ s) := hn
    clear hk hn
    by_cases h3 : t ≤ 3
    · have kn := fun w => name_any t w
      by_cases he : nameS t = s
      · have hres : Hidden (R = (t, true)) := (show findS s = R from hRH).symm.trans (findS_at h1 h3 hnH he)
        rw [he] at kn
        have hb : (s == s) = true := by simp
        clear he
        go_wp2_with (go_at_call 10; refine (kn _).mono ?_; rintro e w' ⟨rfl, rfl⟩)
        go_ret2
        rw [show R = (t, true) from hres]
        exact ⟨rfl, rfl⟩
      · have heH : Hidden (nameS t ≠ s) := he
        obtain ⟨n, hn⟩ : ∃ n, nameS t = n := ⟨_, rfl⟩
        rw [hn] at kn he
        have hb : (n == s) = false := by simpa using he
        have hw : IntKind.i64.wrap (t + 1) = t + 1 := by rw [IntKind.wrap_i64]; omega
        clear he hn
        go_wp2_with (go_at_call 10; refine (kn _).mono ?_; rintro e w' ⟨rfl, rfl⟩)
        go_roundg ((4 - (t + 1)).toNat)
        case measure => have := (show gk = (4 - t).toNat from hkH); omega
        case rel =>
          refine ⟨t + 1, by rfl, by omega, by omega, rfl, rfl, fun u h1 h2 => ?_⟩
          by_cases hu : u = t
          · rw [hu]; exact heH
          · exact hnH u h1 (by omega)
    · obtain rfl : t = 4 := by omega
      have hres : Hidden (R = (0, false)) := (show findS s = R from hRH).symm.trans (findS_no hnH)
      go_wp2
      go_ret2
      rw [show R = (0, false) from hres]
      exact ⟨rfl, rfl⟩
theorem rfind_any (s : Bs) (w : World) : Calls Tryd.prog 9 #[ct s] w fun e w' => e = .returned (.tuple #[ci (findS s).1, .bool (findS s).2]) ∧ w' = w := by
  obtain ⟨R, hR⟩ : ∃ R, findS s = R := ⟨_, rfl⟩
  have hRH : Hidden (findS s = R) := hR
  rw [hR]
  clear hR
  go_enter Tryd.func9, Tryd.ntmps9
  go_wp2
  go_loopg [4] 3 (fun k iv wr => ∃ t : Int, iv = ci t ∧ 1 ≤ t ∧ t ≤ 4 ∧ k = (4 - t).toNat ∧ wr = w ∧ ∀ u, 1 ≤ u → u < t → nameS u ≠ s)
  case atStart => exact ⟨1, rfl, by omega, by omega, by omega, rfl, fun u h1 h2 => absurd h2 (by omega)⟩
  case round =>
    obtain ⟨t, rfl, h1, h4, hk, rfl, hn⟩ := hrel
    have hkH : Hidden (gk = (4 - t).toNat) := hk
    have hnH : Hidden (∀ u, 1 ≤ u → u < t → nameS u ≠ s) := hn
    clear hk hn
    by_cases h3 : t ≤ 3
    · have kn := fun w => rname_any t w
      by_cases he : nameS t = s
      · have hres : Hidden (R = (t, true)) := (show findS s = R from hRH).symm.trans (findS_at h1 h3 hnH he)
        rw [he] at kn
        have hb : (s == s) = true := by simp
        clear he
        go_wp2_with (go_at_call 11; refine (kn _).mono ?_; rintro e w' ⟨rfl, rfl⟩)
        go_ret2
        rw [show R = (t, true) from hres]
        exact ⟨rfl, rfl⟩
      · have heH : Hidden (nameS t ≠ s) := he
        obtain ⟨n, hn⟩ : ∃ n, nameS t = n := ⟨_, rfl⟩
        rw [hn] at kn he
        have hb : (n == s) = false := by simpa using he
        have hw : IntKind.i64.wrap (t + 1) = t + 1 := by rw [IntKind.wrap_i64]; omega
        clear he hn
        go_wp2_with (go_at_call 11; refine (kn _).mono ?_; rintro e w' ⟨rfl, rfl⟩)
        go_roundg ((4 - (t + 1)).toNat)
        case measure => have := (show gk = (4 - t).toNat from hkH); omega
        case rel =>
          refine ⟨t + 1, by rfl, by omega, by omega, rfl, rfl, fun u h1 h2 => ?_⟩
          by_cases hu : u = t
          · rw [hu]; exact heH
          · exact hnH u h1 (by omega)
    · obtain rfl : t = 4 := by omega
      have hres : Hidden (R = (0, false)) := (show findS s = R from hRH).symm.trans (findS_no hnH)
      go_wp2
      go_ret2
      rw [show R = (0, false) from hres]
      exact ⟨rfl, rfl⟩
end Go.Proofs.YtddkmefpfhdliaaDoor.Ty
