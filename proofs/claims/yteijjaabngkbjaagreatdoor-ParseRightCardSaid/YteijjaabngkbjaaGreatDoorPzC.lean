/- What is right can be held by the machine's numbers. -/
import Derived.Test.YteijjaabngkbjaaGreatDoorPzB
namespace Go.Proofs.YteijjaabngkbjaaGreatDoor
open Go.RowKit Lx Te
set_option linter.unusedSimpArgs false
set_option linter.unusedVariables false

theorem okN_r {x : Bs} (h : rnS x = 0) : OkN x := by have := rn_len h; unfold OkN; omega
theorem okN_0 {x : Bs} (h : x = []) : OkN x := by subst h; unfold OkN; simp
theorem lit_r {vt vb : Int} (h : litOk cnS vt vb = true) : (vt = 1 ∨ vt = 2 ∨ vt = 3) ∧ vb < 9223372036854775808 := by
  unfold litOk at h
  split at h
  · exact ⟨by omega, by simpa using h⟩
  · split at h
    · rw [Bool.and_eq_true] at h; exact ⟨by omega, by simpa using h.1⟩
    · split at h
      · have : vb ≤ 1 := by simpa using h
        exact ⟨by omega, by omega⟩
      · cases h
theorem okE_of {h : EH} {n : Nat} (he : errH rnS cnS h n = 0) (h0 : 0 ≤ h.vb) : OkE h := by
  unfold errH at he
  obtain ⟨e1, e2⟩ := Pz.orE_0 he
  obtain ⟨e2, _⟩ := Pz.orE_0 e2
  have hf := Pz.ifx (c := fitsE cnS h n = true) e1 (by decide)
  unfold fitsE at hf
  unfold nameE at e2
  by_cases k1 : h.kind = 1
  · rw [if_pos k1, Bool.and_eq_true, decide_eq_true_eq] at hf
    obtain ⟨a1, a2, a3, a4, _⟩ := hf
    have := lit_r a1
    exact ⟨⟨by omega, by omega⟩, ⟨by omega, by omega⟩, ⟨by omega, by omega⟩, h0, by omega, okN_0 a3, okN_0 a4⟩
  rw [if_neg k1] at hf
  by_cases k2 : h.kind = 2
  · rw [if_pos k2, decide_eq_true_eq] at hf
    rw [if_pos (Or.inl k2)] at e2
    exact ⟨⟨by omega, by omega⟩, ⟨by omega, by omega⟩, ⟨by omega, by omega⟩, h0, by omega, okN_0 hf.2.1, okN_r e2⟩
  rw [if_neg k2] at hf
  by_cases k3 : h.kind = 3
  · rw [if_pos k3, decide_eq_true_eq] at hf
    rw [if_neg (by omega), if_pos (Or.inl k3)] at e2
    obtain ⟨a, b⟩ := Pz.orE_0 e2
    exact ⟨⟨by omega, by omega⟩, ⟨by omega, by omega⟩, ⟨by omega, by omega⟩, h0, by omega, okN_r a, okN_r b⟩
  rw [if_neg k3] at hf
  by_cases k4 : h.kind = 4
  · rw [if_pos k4, decide_eq_true_eq] at hf
    rw [if_pos (Or.inr k4)] at e2
    exact ⟨⟨by omega, by omega⟩, ⟨by omega, by omega⟩, ⟨by omega, by omega⟩, h0, by omega, okN_0 hf.2.1, okN_r e2⟩
  rw [if_neg k4] at hf
  by_cases k5 : h.kind = 5
  · rw [if_pos k5, decide_eq_true_eq] at hf
    rw [if_neg (by omega), if_pos (Or.inr k5)] at e2
    obtain ⟨a, b⟩ := Pz.orE_0 e2
    exact ⟨⟨by omega, by omega⟩, ⟨by omega, by omega⟩, ⟨by omega, by omega⟩, h0, by omega, okN_r a, okN_r b⟩
  rw [if_neg k5] at hf
  by_cases k6 : h.kind = 6
  · rw [if_pos k6, decide_eq_true_eq] at hf
    obtain ⟨a1, a2, a3, a4, a5, a6, a7⟩ := hf
    exact ⟨⟨by omega, by omega⟩, ⟨by omega, by omega⟩, ⟨by omega, by omega⟩, h0, by omega, okN_0 a4, okN_0 a5⟩
  rw [if_neg k6] at hf
  by_cases k7 : h.kind = 7
  · rw [if_pos k7, decide_eq_true_eq] at hf
    obtain ⟨a1, a2, a3, a4, a5, a6, a7⟩ := hf
    exact ⟨⟨by omega, by omega⟩, ⟨by omega, by omega⟩, ⟨by omega, by omega⟩, h0, by omega, okN_0 a4, okN_0 a5⟩
  rw [if_neg k7] at hf
  by_cases k8 : h.kind = 8
  · rw [if_pos k8, decide_eq_true_eq] at hf
    obtain ⟨a1, a2, a3, a4, a5, a6⟩ := hf
    exact ⟨⟨by omega, by omega⟩, ⟨by omega, by omega⟩, ⟨by omega, by omega⟩, h0, by omega, okN_0 a2, okN_0 a3⟩
  rw [if_neg k8] at hf
  cases hf
theorem okX_of : ∀ (k : Exs), errL rnS cnS k = 0 → Pz.NnX k → OkX k
  | .nil, _, _ => trivial
  | .cons h k r, he, hn => by
    obtain ⟨hh, hr⟩ := Pz.RX_kid he
    exact ⟨okE_of hh.1 hn.1, okX_of k hh.2 hn.2.1, okX_of r hr hn.2.2⟩
theorem okS_of : ∀ (k : Sts), errS rnS cnS k = 0 → Pz.NnS k → OkS k
  | .nil, _, _ => trivial
  | .cons h e b l r, he, ⟨n1, n2, n3, n4⟩ => by
    rw [errS] at he
    obtain ⟨a1, a2⟩ := Pz.orE_0 he
    obtain ⟨a3, a4⟩ := Pz.orE_0 a1
    obtain ⟨a5, a6⟩ := Pz.orE_0 a4
    obtain ⟨a7, a8⟩ := Pz.orE_0 a6
    have hh : I64 h.kind ∧ OkN h.name := by
      unfold errSH at a3
      obtain ⟨q1, q2⟩ := Pz.orE_0 a3
      have hf := Pz.ifx (c := fitsS h e b.len l.len = true) q1 (by decide)
      unfold nameS at q2
      unfold fitsS at hf
      by_cases k12 : h.kind = 1 ∨ h.kind = 2
      · rw [if_pos (by omega)] at q2
        exact ⟨⟨by omega, by omega⟩, okN_r q2⟩
      rw [if_neg k12] at hf
      by_cases k3 : h.kind = 3
      · rw [if_pos k3, decide_eq_true_eq] at hf
        exact ⟨⟨by omega, by omega⟩, okN_0 hf.2⟩
      rw [if_neg k3] at hf
      by_cases k4 : h.kind = 4
      · rw [if_pos k4, decide_eq_true_eq] at hf
        exact ⟨⟨by omega, by omega⟩, okN_0 hf.2.1⟩
      rw [if_neg k4] at hf
      by_cases k5 : h.kind = 5
      · rw [if_pos k5, decide_eq_true_eq] at hf
        exact ⟨⟨by omega, by omega⟩, okN_0 hf.2.1⟩
      rw [if_neg k5] at hf
      by_cases k67 : h.kind = 6 ∨ h.kind = 7
      · rw [if_pos k67, decide_eq_true_eq] at hf
        exact ⟨⟨by omega, by omega⟩, okN_0 hf.2.1⟩
      rw [if_neg k67] at hf
      by_cases k8 : h.kind = 8
      · rw [if_pos (by omega)] at q2
        exact ⟨⟨by omega, by omega⟩, okN_r q2⟩
      rw [if_neg k8] at hf
      by_cases k9 : h.kind = 9
      · rw [if_pos k9, decide_eq_true_eq] at hf
        exact ⟨⟨by omega, by omega⟩, okN_0 hf.2.2.1⟩
      rw [if_neg k9] at hf
      cases hf
    exact ⟨hh.1, hh.2, okX_of e a5 n1, okS_of b a7 n2, okS_of l a8 n3, okS_of r a2 n4⟩
theorem okD_of {d : De} (he : errD rnS cnS d = 0) (hn : Pz.NnD d) : OkD d := by
  unfold errD at he
  obtain ⟨a1, a2⟩ := Pz.orE_0 he
  obtain ⟨a3, a4⟩ := Pz.orE_0 a2
  obtain ⟨a5, a6⟩ := Pz.orE_0 a4
  obtain ⟨a7, a8⟩ := Pz.orE_0 a6
  obtain ⟨a9, b1⟩ := Pz.orE_0 a8
  obtain ⟨b2, b3⟩ := Pz.orE_0 b1
  have hf := Pz.ifx (c := fitsD d = true) a3 (by decide)
  have hh : I64 d.kind ∧ I64 d.type := by
    unfold fitsD at hf
    by_cases k1 : d.kind = 1
    · rw [if_pos k1, Bool.and_eq_true] at hf
      have := isTy_c hf.1
      exact ⟨⟨by omega, by omega⟩, ⟨by omega, by omega⟩⟩
    rw [if_neg k1] at hf
    by_cases k2 : d.kind = 2
    · rw [if_pos k2, Bool.and_eq_true, Bool.and_eq_true] at hf
      have := isTy_c hf.1.2
      exact ⟨⟨by omega, by omega⟩, ⟨by omega, by omega⟩⟩
    rw [if_neg k2] at hf
    by_cases k3 : d.kind = 3
    · rw [if_pos k3, Bool.and_eq_true, Bool.or_eq_true] at hf
      have : d.type = 0 ∨ d.type = 1 ∨ d.type = 2 ∨ d.type = 3 := by
        rcases hf.1 with h | h
        · exact Or.inl (by simpa using h)
        · exact isTy_c h
      exact ⟨⟨by omega, by omega⟩, ⟨by omega, by omega⟩⟩
    rw [if_neg k3] at hf
    cases hf
  refine ⟨hh.1, hh.2, okN_r a5, fun p hp => ?_, okX_of _ b2 hn.1, okS_of _ b3 hn.2⟩
  have := Pz.errP_of _ a9 p hp
  have h2 := isTy_c this.2
  exact ⟨okN_r this.1, ⟨by omega, by omega⟩⟩
theorem errI_mem : ∀ (l : List Bs), errI rnS l = 0 → ∀ x ∈ l, rnS x = 0
  | [], _, x, hx => by simp at hx
  | y :: r, h, x, hx => by
    obtain ⟨h1, h2⟩ := Pz.orE_0 h
    rcases List.mem_cons.1 hx with rfl | hx
    · exact h1
    · exact errI_mem r h2 x hx
theorem okM_of {m : Mo} (he : errM rnS cnS m = 0) (hn : ∀ d ∈ m.decls, Pz.NnD d) : OkM m := by
  have hd := errM_decls he
  unfold errM at he
  obtain ⟨a1, a2⟩ := Pz.orE_0 he
  obtain ⟨_, a4⟩ := Pz.orE_0 a2
  obtain ⟨a5, _⟩ := Pz.orE_0 a4
  exact ⟨okN_r a1, fun x hx => okN_r (errI_mem _ a5 x hx), fun d hdm => okD_of (hd d hdm) (hn d hdm)⟩
/-- What is read of a text is right, and not too great. -/
theorem read_right {l : By} {ts : List Tok} {m : Mo} (h1 : lexS wordsL valS l = (ts, 0, 0)) (h2 : Pz.parT ts l.length = some (some m, 0, 0)) (h3 : ts.length ≤ 1024) :
    errM rnS cnS m = 0 ∧ (∀ d ∈ m.decls, Pz.NnD d) ∧ OkM m ∧ m.imports.length + Pz.fDs m.decls ≤ 10000000 := by
  obtain ⟨a, b⟩ := Pz.parT_right (rn := rnS) (cn := cnS) (by decide) (by decide) ts l.length m 0 0 (tok_r h1) h2
  have := Pz.parT_sz ts l.length m 0 0 h2
  exact ⟨a, b, okM_of a b, by omega⟩
end Go.Proofs.YteijjaabngkbjaaGreatDoor
