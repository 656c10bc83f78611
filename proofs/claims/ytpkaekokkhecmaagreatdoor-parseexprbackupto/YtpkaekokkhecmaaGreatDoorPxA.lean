/- Names, words and literals' texts are read as they should: what PsH asks. -/
import Derived.Test.YtpkaekokkhecmaaGreatDoorPwO
import Derived.Test.YtpkaekokkhecmaaGreatDoorPsI
import Derived.Test.YtpkaekokkhecmaaGreatDoorTrTAll
import Derived.Test.YtpkaekokkhecmaaGreatDoorTrLAll
namespace Go.Proofs.YtpkaekokkhecmaaGreatDoor.F
open Fl
set_option linter.unusedSimpArgs false
set_option linter.unusedVariables false
theorem hexdig_hx (d : Nat) (h : d < 16) : Lx.hxB (hexdig d) = true := by
  have : d = 0 ∨ d = 1 ∨ d = 2 ∨ d = 3 ∨ d = 4 ∨ d = 5 ∨ d = 6 ∨ d = 7 ∨ d = 8 ∨ d = 9 ∨ d = 10 ∨ d = 11 ∨ d = 12 ∨ d = 13 ∨ d = 14 ∨ d = 15 := by omega
  rcases this with rfl | rfl | rfl | rfl | rfl | rfl | rfl | rfl | rfl | rfl | rfl | rfl | rfl | rfl | rfl | rfl <;> decide
theorem hexF_hx (k : Nat) : ∀ f, f < 4503599627370496 → ∀ x ∈ hexF k f, Lx.hxB x = true := by
  induction k with
  | zero => intro f _ x hx; simp [hexF] at hx
  | succ k ih =>
    intro f hf x hx
    unfold hexF at hx
    split at hx
    · simp at hx
    · rcases List.mem_cons.1 hx with rfl | hx
      · exact hexdig_hx _ (by omega)
      · exact ih _ (by omega) x hx
theorem fracL_hx (F : Nat) (hF : F < 4503599627370496) : ∀ x ∈ fracL F, Lx.hxB x = true := by
  intro x hx
  unfold fracL at hx
  split at hx
  · simp at hx
  · rcases List.mem_cons.1 hx with rfl | hx
    · decide
    · exact hexF_hx 13 F hF x hx
theorem dec_dgt (n : Nat) : ∀ x ∈ Lib.decDigits n, Lx.dgt x = true := by
  have h := (D.dec_facts n).1
  rw [List.all_eq_true] at h
  exact h
theorem dgt_hx {x : UInt8} (h : Lx.dgt x = true) : Lx.hxB x = true := by simp [Lx.hxB, h]
theorem expL_hx (e : Int) : ∀ x ∈ expL e, Lx.hxB x = true := by
  intro x hx
  unfold expL at hx
  split at hx
  · rcases List.mem_cons.1 hx with rfl | hx
    · decide
    · exact dgt_hx (dec_dgt _ x hx)
  · rcases List.mem_cons.1 hx with rfl | hx
    · decide
    · exact dgt_hx (dec_dgt _ x hx)
theorem text_hex (a : Int) (h0 : 0 ≤ a) (h1 : a < 9223372036854775808) (hc : canonS a = a) (n1 : a ≠ 9218868437227405312) (n2 : a ≠ 9221120237041090561) : ∃ z, textS a = 48 :: 120 :: z ∧ ∀ c ∈ z, Lx.hxB c = true := by
  have hp : partN a = false := by
    unfold partN
    split
    · rfl
    · exact decide_eq_false (by omega)
  have hn : nan a = false := by
    cases h : nan a
    · rfl
    · simp [canonS, h] at hc; exact absurd hc.symm n2
  have ht : textS a = sizeL (classS a) (partM a).toNat (partE a) := by simp [textS, hp]
  have hm : a % 9223372036854775808 = a := by omega
  rw [ht]
  rcases class_cases a with e | e | e | e | e
  · have := (class_nan a).1 e; rw [hn] at this; cases this
  · exfalso
    unfold classS at e
    rw [hm] at e
    revert e
    repeat' split
    all_goals omega
  · rw [e]
    exact ⟨[48, 112, 43, 48], rfl, by decide⟩
  all_goals
    have hg : classS a = 4 ∨ classS a = 5 := by omega
    rw [sizeL_great a hg]
    refine ⟨49 :: (fracL (nrm (partM a).toNat % 4503599627370496) ++ 112 :: expL (partE a - shf (partM a).toNat + 52)), rfl, ?_⟩
    intro c hc
    rcases List.mem_cons.1 hc with rfl | hc
    · decide
    · rcases List.mem_append.1 hc with hc | hc
      · exact fracL_hx _ (Nat.mod_lt _ (by decide)) c hc
      · rcases List.mem_cons.1 hc with rfl | hc
        · decide
        · exact expL_hx _ c hc
end Go.Proofs.YtpkaekokkhecmaaGreatDoor.F
namespace Go.Proofs.YtpkaekokkhecmaaGreatDoor
open Go.RowKit Lx Te
set_option linter.unusedSimpArgs false
set_option linter.unusedVariables false
theorem dec_0 : Go.Lib.decDigits 0 = [48] := by unfold Go.Lib.decDigits; simp
theorem nat_dec (v : Int) (h0 : 0 ≤ v) (h1 : v ≤ 9223372036854775807) : I.natS (Go.Lib.itoa v) = (v, 0, 0) := by
  obtain ⟨a1, a2, a3, a4⟩ := D.dec_facts v.toNat
  have e : Go.Lib.itoa v = Go.Lib.decDigits v.toNat := by unfold Go.Lib.itoa; rw [if_neg (by omega)]
  rw [e]
  have hr : I.runD (Go.Lib.decDigits v.toNat) = (Go.Lib.decDigits v.toNat).length := (I.runD_all _).2 a1
  have hv : I.numD (Go.Lib.decDigits v.toNat) = v.toNat := a2
  unfold I.natS I.amtS
  rw [if_neg (by omega), if_neg (by omega), if_neg, if_neg (by omega), hv]
  · simp; omega
  · rintro ⟨g1, g2⟩
    by_cases g : 1 ≤ v.toNat
    · obtain ⟨c, r, e1, e2, _⟩ := a4 g
      rw [e1] at g2
      simp at g2
      exact e2 g2
    · have : v.toNat = 0 := by omega
      rw [this, dec_0] at g1
      exact absurd g1 (by decide)
theorem noughts_dec (n : Nat) : noughts (Go.Lib.decDigits n) = Go.Lib.decDigits n := by
  obtain ⟨_, _, _, a4⟩ := D.dec_facts n
  by_cases g : 1 ≤ n
  · obtain ⟨c, r, e1, e2, _⟩ := a4 g
    rw [e1]
    cases r with
    | nil => rfl
    | cons d r => rw [noughts, if_neg e2]
  · have : n = 0 := by omega
    subst this
    rw [dec_0]
    rfl
theorem rn_nm (x : Bs) (h : rnS x = 0) : (∃ c r, x = c :: r ∧ ltr c = true) ∧ (∀ c ∈ x, nmB c = true) ∧ x ∉ wordsL ∧ valS 1 x = (0, 0, 0) := by
  unfold rnS N.rightS at h
  split at h
  · rename_i hs
    split at h
    · cases h
    · rename_i hl
      split at h
      · cases h
      · rename_i hw
        cases x with
        | nil => simp [N.speltS] at hs
        | cons c r =>
          rw [N.spelt_cons (c :: r) c rfl, Bool.and_eq_true] at hs
          have hc : ltr c = true := by
            have := hs.1
            simp only [N.letB, ltr, Bool.or_eq_true, Bool.and_eq_true, decide_eq_true_eq, beq_iff_eq] at this ⊢
            exact this
          refine ⟨⟨c, r, rfl, hc⟩, ?_, hw, ?_⟩
          · intro d hd
            have := (List.all_eq_true.1 hs.2) d hd
            simp only [N.ld, N.letB, N.digB, nmB, dgt, ltr, Bool.or_eq_true, Bool.and_eq_true, decide_eq_true_eq, beq_iff_eq] at this ⊢
            exact this.symm
          · unfold valS
            rw [if_pos rfl, if_neg hl]
  · cases h
theorem tx_int (vb : Int) (h0 : 0 ≤ vb) : txS 1 vb = Go.Lib.decDigits vb.toNat := by
  unfold txS
  rw [if_pos rfl]
  unfold Go.Lib.itoa
  rw [if_neg (by omega)]
theorem tx_flo (vb : Int) : txS 2 vb = F.textS vb := by
  unfold txS
  rw [if_neg (by decide), if_pos rfl]
theorem lawI (vb : Int) (h0 : 0 ≤ vb) : ∃ c r, txS 1 vb = c :: r ∧ dgt c = true := by
  rw [tx_int vb h0]
  have h := F.dec_dgt vb.toNat
  have h3 := (D.dec_facts vb.toNat).2.2.1
  cases e : Go.Lib.decDigits vb.toNat with
  | nil => rw [e] at h3; simp at h3
  | cons c r => exact ⟨c, r, rfl, h c (by rw [e]; simp)⟩
theorem lawT : Pz.LawT rnS cnS txS wordsL valS where
  nm := rn_nm
  wd := fun x => rfl
  mrk := fun x => rfl
  int := fun vb h0 h1 => by
    have h3 := (D.dec_facts vb.toNat).2.2.1
    refine ⟨?_, ?_, ?_⟩
    · rw [tx_int vb h0]; intro e; rw [e] at h3; simp at h3
    · rw [tx_int vb h0]; exact F.dec_dgt _
    · have hn := nat_dec vb h0 (by omega)
      have e : Go.Lib.itoa vb = Go.Lib.decDigits vb.toNat := by unfold Go.Lib.itoa; rw [if_neg (by omega)]
      rw [e] at hn
      rw [tx_int vb h0]
      unfold valS
      rw [if_neg (by decide), if_pos rfl, noughts_dec, hn]
      rfl
  flo := fun vb h0 hl n1 n2 => by
    simp only [litOk] at hl
    rw [if_neg (by decide), if_pos trivial] at hl
    simp only [Bool.and_eq_true, decide_eq_true_eq] at hl
    obtain ⟨z, e, hz⟩ := F.text_hex vb h0 hl.1 hl.2 n1 n2
    have hp := F.parse_text vb ⟨h0, by omega⟩
    refine ⟨z, by rw [tx_flo, e], hz, ?_⟩
    rw [tx_flo]
    unfold valS
    rw [if_neg (by decide), if_neg (by decide), if_pos rfl, if_pos (by rw [e]; rfl), hp, if_pos rfl]
    simp only [Prod.mk.injEq, true_and, and_true]
    exact hl.2
  inf := by rw [tx_flo]; decide +kernel
  nan := by rw [tx_flo]; decide +kernel
  fal := rfl
  tru := rfl
  wi := by decide
  wn := by decide
  wf := by decide
  wt := by decide
  wI := by decide
  wF := by decide
  wp := by decide
end Go.Proofs.YtpkaekokkhecmaaGreatDoor
