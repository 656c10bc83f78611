/- What the document reckons: the same. -/
import Derived.Test.YtmkfbppjbojdmaaGreatIzA
namespace Go.Proofs.YtmkfbppjbojdmaaGreat.Z
open Go.RowKit
set_option linter.unusedSimpArgs false
set_option linter.unusedVariables false
set_option maxRecDepth 20000

theorem radd_any (a b : Int) (ha : I64 a) (hb : I64 b) (w : World) :
    Calls Tryz.prog 71 #[.int .i64 a, .int .i64 b] w fun e w' => e = .returned (.tuple #[.int .i64 (fitV (a + b)), .int .i64 (fitE (a + b))]) ∧ w = w' := by
  have fi := @fitV_in (a + b)
  have fo := @fitV_out (a + b)
  unfold I64 at fi fo
  obtain ⟨a0, a1⟩ := ha
  obtain ⟨b0, b1⟩ := hb
  by_cases c1 : 0 < b
  · by_cases c2 : 9223372036854775807 - b < a
    · rw [(fo (by omega)).1, (fo (by omega)).2]
      clear fi fo
      go_enter Tryz.func71, Tryz.ntmps71
      go_wp2
      go_ret2
      exact ⟨rfl, rfl⟩
    · rw [(fi (by omega)).1, (fi (by omega)).2]
      clear fi fo
      have c3 : ¬ b < 0 := by omega
      have c4 : -9223372036854775808 ≤ a + b := by omega
      have c5 : a + b ≤ 9223372036854775807 := by omega
      go_enter Tryz.func71, Tryz.ntmps71
      go_wp2
      go_ret2
      exact ⟨rfl, rfl⟩
  · by_cases c3 : b < 0
    · by_cases c2 : a < -9223372036854775808 - b
      · rw [(fo (by omega)).1, (fo (by omega)).2]
        clear fi fo
        go_enter Tryz.func71, Tryz.ntmps71
        go_wp2
        go_ret2
        exact ⟨rfl, rfl⟩
      · rw [(fi (by omega)).1, (fi (by omega)).2]
        clear fi fo
        have c4 : -9223372036854775808 ≤ a + b := by omega
        have c5 : a + b ≤ 9223372036854775807 := by omega
        go_enter Tryz.func71, Tryz.ntmps71
        go_wp2
        go_ret2
        exact ⟨rfl, rfl⟩
    · rw [(fi (by omega)).1, (fi (by omega)).2]
      clear fi fo
      have c4 : -9223372036854775808 ≤ a + b := by omega
      have c5 : a + b ≤ 9223372036854775807 := by omega
      go_enter Tryz.func71, Tryz.ntmps71
      go_wp2
      go_ret2
      exact ⟨rfl, rfl⟩
theorem rsub_any (a b : Int) (ha : I64 a) (hb : I64 b) (w : World) :
    Calls Tryz.prog 47 #[.int .i64 a, .int .i64 b] w fun e w' => e = .returned (.tuple #[.int .i64 (fitV (a - b)), .int .i64 (fitE (a - b))]) ∧ w = w' := by
  have fi := @fitV_in (a - b)
  have fo := @fitV_out (a - b)
  unfold I64 at fi fo
  obtain ⟨a0, a1⟩ := ha
  obtain ⟨b0, b1⟩ := hb
  by_cases c1 : b < 0
  · by_cases c2 : 9223372036854775807 + b < a
    · rw [(fo (by omega)).1, (fo (by omega)).2]
      clear fi fo
      go_enter Tryz.func47, Tryz.ntmps47
      go_wp2
      go_ret2
      exact ⟨rfl, rfl⟩
    · rw [(fi (by omega)).1, (fi (by omega)).2]
      clear fi fo
      have c3 : ¬ 0 < b := by omega
      have c4 : -9223372036854775808 ≤ a - b := by omega
      have c5 : a - b ≤ 9223372036854775807 := by omega
      go_enter Tryz.func47, Tryz.ntmps47
      go_wp2
      go_ret2
      exact ⟨rfl, rfl⟩
  · by_cases c3 : 0 < b
    · by_cases c2 : a < -9223372036854775808 + b
      · rw [(fo (by omega)).1, (fo (by omega)).2]
        clear fi fo
        go_enter Tryz.func47, Tryz.ntmps47
        go_wp2
        go_ret2
        exact ⟨rfl, rfl⟩
      · rw [(fi (by omega)).1, (fi (by omega)).2]
        clear fi fo
        have c4 : -9223372036854775808 ≤ a - b := by omega
        have c5 : a - b ≤ 9223372036854775807 := by omega
        go_enter Tryz.func47, Tryz.ntmps47
        go_wp2
        go_ret2
        exact ⟨rfl, rfl⟩
    · rw [(fi (by omega)).1, (fi (by omega)).2]
      clear fi fo
      have c4 : -9223372036854775808 ≤ a - b := by omega
      have c5 : a - b ≤ 9223372036854775807 := by omega
      go_enter Tryz.func47, Tryz.ntmps47
      go_wp2
      go_ret2
      exact ⟨rfl, rfl⟩
theorem rneg_any (a : Int) (ha : I64 a) (w : World) :
    Calls Tryz.prog 21 #[.int .i64 a] w fun e w' => e = .returned (.tuple #[.int .i64 (fitV (-a)), .int .i64 (fitE (-a))]) ∧ w = w' := by
  have k := rsub_any 0 a ⟨by omega, by omega⟩ ha
  rw [Int.zero_sub] at k
  clear ha
  generalize fitV (-a) = V at *
  generalize fitE (-a) = E at *
  go_enter Tryz.func21, Tryz.ntmps21
  go_wp2_with (go_at_call 47; refine (k _).mono ?_; rintro e w' ⟨rfl, rfl⟩)
  go_ret2
  exact ⟨rfl, rfl⟩
theorem rmul_any (a b : Int) (ha : I64 a) (hb : I64 b) (w : World) :
    Calls Tryz.prog 72 #[.int .i64 a, .int .i64 b] w fun e w' => e = .returned (.tuple #[.int .i64 (fitV (a * b)), .int .i64 (fitE (a * b))]) ∧ w = w' := by
  have fi := @fitV_in (a * b)
  have fo := @fitV_out (a * b)
  by_cases z1 : a = 0
  · subst z1
    rw [Int.zero_mul] at fi ⊢
    rw [(fi ⟨by omega, by omega⟩).1, (fi ⟨by omega, by omega⟩).2]
    clear fi fo ha hb
    go_enter Tryz.func72, Tryz.ntmps72
    go_wp2
    go_ret2
    exact ⟨rfl, rfl⟩
  have z1' : (a == 0) = false := by simpa using z1
  by_cases z2 : b = 0
  · have z2' : (b == 0) = true := by simpa using z2
    rw [z2, Int.mul_zero] at fi ⊢
    rw [(fi ⟨by omega, by omega⟩).1, (fi ⟨by omega, by omega⟩).2]
    clear fi fo ha hb z2'
    go_enter Tryz.func72, Tryz.ntmps72
    go_wp2
    go_ret2
    exact ⟨rfl, rfl⟩
  have z2' : (b == 0) = false := by simpa using z2
  have hbk := mul_back a b ha hb z2
  obtain ⟨a0, a1⟩ := ha
  obtain ⟨b0, b1⟩ := hb
  by_cases m1 : a = -1 ∧ b = -9223372036854775808
  · have hn : ¬ I64 (a * b) := by rw [m1.1, m1.2]; unfold I64; omega
    rw [(fo hn).1, (fo hn).2]
    clear fi fo hbk hn
    have m1' : (a == -1) = true := by simpa using m1.1
    have m2' : (b == -9223372036854775808) = true := by simpa using m1.2
    clear m1
    go_enter Tryz.func72, Tryz.ntmps72
    go_wp2
    go_ret2
    exact ⟨rfl, rfl⟩
  by_cases m2 : b = -1 ∧ a = -9223372036854775808
  · have hn : ¬ I64 (a * b) := by rw [m2.1, m2.2]; unfold I64; omega
    rw [(fo hn).1, (fo hn).2]
    clear fi fo hbk hn
    have m1' : (b == -1) = true := by simpa using m2.1
    have m2' : (a == -9223372036854775808) = true := by simpa using m2.2
    have m3' : (a == -1) = false := by rw [m2.2]; rfl
    clear m2 m1
    go_enter Tryz.func72, Tryz.ntmps72
    go_wp2
    go_ret2
    exact ⟨rfl, rfl⟩
  have hb2 := hbk m2
  clear hbk
  obtain ⟨P, hP⟩ : ∃ P, wrap64 (a * b) = P := ⟨_, rfl⟩
  have hPI : I64 P := by obtain ⟨_, _, h⟩ := wrap64_far (a * b); rw [← hP]; exact h
  have hq : wrap64 (P.tdiv b) = P.tdiv b := by
    refine wrap64_I (tdiv_I P b hPI z2 ?_)
    rintro ⟨h1, h2⟩
    rw [h2, show a * -1 = -a by omega] at hP
    have ha' : a ≠ -9223372036854775808 := fun h => m2 ⟨h2, h⟩
    rw [wrap64_I (show I64 (-a) from ⟨by omega, by omega⟩)] at hP
    omega
  rw [hP] at hb2
  obtain ⟨Q, hQ⟩ : ∃ Q, wrap64 (P.tdiv b) = Q := ⟨_, rfl⟩
  rw [← hq, hQ] at hb2
  have hv : I64 (a * b) → P = a * b := fun h => by rw [← hP]; exact wrap64_I h
  clear hq hPI z1
  have key : ∀ V E : Int, ((Q != a) = false ∧ V = P ∧ E = 0 ∨ (Q != a) = true ∧ V = 0 ∧ E = 80) →
      Calls Tryz.prog 72 #[.int .i64 a, .int .i64 b] w fun e w' => e = .returned (.tuple #[.int .i64 V, .int .i64 E]) ∧ w = w' := by
    intro V E h
    clear fi fo hb2 hv
    have n1 : (a == -1) = true ∧ (b == -9223372036854775808) = false ∨ (a == -1) = false := by
      cases h : (a == -1)
      · exact Or.inr rfl
      · refine Or.inl ⟨rfl, ?_⟩
        simp only [beq_eq_false_iff_ne, ne_eq]
        exact fun h' => m1 ⟨by simpa using h, h'⟩
    have n2 : (b == -1) = true ∧ (a == -9223372036854775808) = false ∨ (b == -1) = false := by
      cases h : (b == -1)
      · exact Or.inr rfl
      · refine Or.inl ⟨rfl, ?_⟩
        simp only [beq_eq_false_iff_ne, ne_eq]
        exact fun h' => m2 ⟨by simpa using h, h'⟩
    clear m1 m2
    rcases h with ⟨ht, rfl, rfl⟩ | ⟨ht, rfl, rfl⟩
    all_goals
      rcases n1 with ⟨n1, n1'⟩ | n1
      all_goals
        rcases n2 with ⟨n2, n2'⟩ | n2
        all_goals
          go_enter Tryz.func72, Tryz.ntmps72
          go_wp2
          go_ret2
          first | exact ⟨rfl, rfl⟩ | exact ⟨ret2 hP rfl, rfl⟩
  refine key _ _ ?_
  by_cases hf : I64 (a * b)
  · rw [(fi hf).1, (fi hf).2, hv hf]
    refine Or.inl ⟨?_, rfl, rfl⟩
    simp only [bne_eq_false_iff_eq]
    exact hb2.2 hf
  · rw [(fo hf).1, (fo hf).2]
    refine Or.inr ⟨?_, rfl, rfl⟩
    simp only [bne_iff_ne, ne_eq]
    exact fun h => hf (hb2.1 h)
theorem rdiv_any (a b : Int) (ha : I64 a) (hb : I64 b) (w : World) :
    Calls Tryz.prog 73 #[.int .i64 a, .int .i64 b] w fun e w' => e = .returned (.tuple #[.int .i64 (divV a b), .int .i64 (divE a b)]) ∧ w = w' := by
  have hI := tdiv_I a b ha
  obtain ⟨a0, a1⟩ := ha
  obtain ⟨b0, b1⟩ := hb
  unfold divV divE
  by_cases c1 : b = 0
  · subst c1
    simp only [if_true]
    clear hI
    go_enter Tryz.func73, Tryz.ntmps73
    go_wp2
    go_ret2
    exact ⟨rfl, rfl⟩
  rw [if_neg c1, if_neg c1]
  have c1' : (b == 0) = false := by simpa using c1
  by_cases c2 : a = -9223372036854775808
  · have c2' : (a == -9223372036854775808) = true := by simpa using c2
    by_cases c3 : b = -1
    · rw [if_pos ⟨c2, c3⟩, if_pos ⟨c2, c3⟩]
      have c3' : (b == -1) = true := by simpa using c3
      clear hI c2 c3
      go_enter Tryz.func73, Tryz.ntmps73
      go_wp2
      go_ret2
      exact ⟨rfl, rfl⟩
    · rw [if_neg (fun h => c3 h.2), if_neg (fun h => c3 h.2)]
      have c3' : (b == -1) = false := by simpa using c3
      have hw := wrap64_I (hI c1 (fun h => c3 h.2))
      clear hI c2 c3
      go_enter Tryz.func73, Tryz.ntmps73
      go_wp2
      go_ret2
      exact ⟨ret2 hw rfl, rfl⟩
  · rw [if_neg (fun h => c2 h.1), if_neg (fun h => c2 h.1)]
    have c2' : (a == -9223372036854775808) = false := by simpa using c2
    have hw := wrap64_I (hI c1 (fun h => c2 h.1))
    clear hI
    go_enter Tryz.func73, Tryz.ntmps73
    go_wp2
    go_ret2
    exact ⟨ret2 hw rfl, rfl⟩
theorem rrem_any (a b : Int) (ha : I64 a) (hb : I64 b) (w : World) :
    Calls Tryz.prog 74 #[.int .i64 a, .int .i64 b] w fun e w' => e = .returned (.tuple #[.int .i64 (remV a b), .int .i64 (remE b)]) ∧ w = w' := by
  obtain ⟨a0, a1⟩ := ha
  obtain ⟨b0, b1⟩ := hb
  unfold remV remE
  by_cases c1 : b = 0
  · subst c1
    simp only [if_true]
    go_enter Tryz.func74, Tryz.ntmps74
    go_wp2
    go_ret2
    exact ⟨rfl, rfl⟩
  rw [if_neg c1, if_neg c1]
  have c1' : (b == 0) = false := by simpa using c1
  by_cases c2 : b = -1
  · have hz : a.tmod b = 0 := by rw [c2]; exact tmod_m1 a
    rw [hz]
    have c2' : (b == -1) = true := by simpa using c2
    clear c2 hz
    go_enter Tryz.func74, Tryz.ntmps74
    go_wp2
    go_ret2
    exact ⟨rfl, rfl⟩
  have c2' : (b == -1) = false := by simpa using c2
  go_enter Tryz.func74, Tryz.ntmps74
  go_wp2
  go_ret2
  exact ⟨rfl, rfl⟩
end Go.Proofs.YtmkfbppjbojdmaaGreat.Z
