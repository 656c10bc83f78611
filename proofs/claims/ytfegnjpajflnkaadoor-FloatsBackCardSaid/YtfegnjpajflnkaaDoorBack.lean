/- FloatsBack walked: a text is read as what it was written of; turned twice it is as it was. -/
import Derived.Test.YtfegnjpajflnkaaDoorTrip
namespace Go.Proofs.YtfegnjpajflnkaaDoor
open Go.RowKit Fl
set_option linter.unusedSimpArgs false
set_option linter.unusedVariables false

theorem neg_neg (a : Int) (ha : U a) : negS (negS a) = canonS a := by
  obtain ⟨h0, h1⟩ := ha
  cases h : nan a
  · have h' := h
    simp only [nan, decide_eq_false_iff_not] at h'
    rw [canon_self a h]
    have e : negS a = if 9223372036854775808 ≤ a then a - 9223372036854775808 else a + 9223372036854775808 := by simp [negS, h]
    have hn : nan (negS a) = false := by
      rw [e]
      simp only [nan, decide_eq_false_iff_not]
      split <;> omega
    have e2 : negS (negS a) = if 9223372036854775808 ≤ negS a then negS a - 9223372036854775808 else negS a + 9223372036854775808 := by
      rw [negS, hn]
      simp
    rw [e2, e]
    repeat' split
    all_goals omega
  · have e : negS a = 9221120237041090561 := by simp [negS, h]
    rw [e, show canonS a = 9221120237041090561 by simp [canonS, h]]
    decide
theorem canon_canon (a : Int) (ha : U a) : canonS (canonS a) = canonS a := by
  cases h : nan a
  · rw [canon_self a h, canon_self a h]
  · rw [show canonS a = 9221120237041090561 by simp [canonS, h]]
    decide
theorem cmp_canon_self (a : Int) (ha : U a) : cmpS a (canonS a) = 0 := by
  have hc := canon_U a ha
  rw [cmp_rk a _ ha hc]
  have : rk (canonS a) = rk a := by
    cases h : nan a
    · rw [canon_self a h]
    · rw [show canonS a = 9221120237041090561 by simp [canonS, h], rk_nan a h]
      decide
  rw [this]
  simp
theorem class_nan_eq (a : Int) (ha : U a) : (classS a == 1) = (canonS a == 9221120237041090561) := by
  have hcn := class_nan a
  cases h : nan a
  · have hc : ¬ classS a = 1 := by rw [hcn, h]; simp
    have h' := h
    simp only [nan, decide_eq_false_iff_not] at h'
    rw [canon_self a h]
    have e1 : (classS a == 1) = false := by simpa using hc
    have e2 : (a == 9221120237041090561) = false := by simp; omega
    rw [e1, e2]
  · have hc := hcn.2 h
    rw [hc, show canonS a = 9221120237041090561 by simp [canonS, h]]
    rfl

theorem textS_len (a : Int) (ha : U a) : (textS a).length ≤ 9223372036854775807 := by
  have hb := parts_bounds a ha
  have := sizeL_len (classS a) (partM a).toNat (partE a) hb.1 hb.2.1 hb.2.2
  unfold textS
  cases partN a <;> simp <;> omega

theorem neg_is (a v : Int) (h : negS a = v) (ha : U a) (w : World) :
    Calls Tryd.prog 17 #[.int .u64 a] w fun e w' => e = .returned (.int .u64 v) ∧ w = w' := h ▸ neg_any a ha w

theorem back_walk (a C G L : Int) (T : List UInt8) (q : Bool) (ha : U a) (hC : U C) (hG : U G) (k1 : ∀ w, Tab w → Calls Tryd.prog 21 #[.int .u64 a] w fun r w' => r = .returned (.string ⟨T.toArray⟩) ∧ Kb w w')
    (k2 : ∀ w, Tab w → Calls Tryd.prog 40 #[.string ⟨T.toArray⟩] w fun r w' => r = .returned (.tuple #[.int .u64 C, .int .i64 0]) ∧ Kb w w')
    (h1 : canonS a = C) (h2 : canonS C = C) (h3 : negS a = G) (h4 : negS G = C) (h5 : cmpS a C = 0) (h6 : classS a = L) (h7 : (L == 1) = q) (h8 : (C == 9221120237041090561) = q) (w : World) (ht : Tab w) :
    Calls Tryd.prog 8 #[.int .u64 a] w fun e w' => e = .returned (.bool true) ∧ Kb w w' := by
  go_enter Tryd.func8, Tryd.ntmps8
  go_wp2_with (first
    | (go_at_call 21; refine (k1 _ ht).mono ?_; rintro e w' ⟨rfl, g1⟩; have ht1 := tab_kb ht g1)
    | (go_at_call 40; refine (k2 _ ht1).mono ?_; rintro e w' ⟨rfl, g2⟩)
    | (go_at_call 13; refine (canon_is _ _ (by with_reducible assumption) (by with_reducible assumption) _).mono ?_; rintro e w' ⟨rfl, rfl⟩)
    | (go_at_call 17; refine (neg_is _ _ (by with_reducible assumption) (by with_reducible assumption) _).mono ?_; rintro e w' ⟨rfl, rfl⟩)
    | (go_at_call 38; refine (compare_is _ _ _ (by with_reducible assumption) (by with_reducible assumption) (by with_reducible assumption) _).mono ?_; rintro e w' ⟨rfl, rfl⟩)
    | (go_at_call 15; refine (class_is _ _ (by with_reducible assumption) (by with_reducible assumption) _).mono ?_; rintro e w' ⟨rfl, rfl⟩)
    | (go_at_call 23; refine (alive_any _).mono ?_; rintro e w' ⟨rfl, g3⟩))
  go_ret
  exact ⟨rfl, g1.trans (g2.trans (Kb.of_grown g3))⟩

theorem floatsBack.walk (a : Int) (w0 : (Lit.int .u64 a).wf = true) (w : World) (ht : Tab w) :
    Calls Tryd.prog 8 #[.int .u64 a] w fun e w' => e = .returned (.bool true) ∧ Kb w w' := by
  have ha := wf_U w0
  exact back_walk a _ _ _ _ _ ha (canon_U a ha) (neg_U a ha) (fun w h => text_any a ha w h) (fun w h => parse_any _ _ _ (parse_text a ha) (textS_len a ha) w h) rfl (canon_canon a ha) rfl (neg_neg a ha) (cmp_canon_self a ha) rfl (class_nan_eq a ha) rfl w ht
end Go.Proofs.YtfegnjpajflnkaaDoor
