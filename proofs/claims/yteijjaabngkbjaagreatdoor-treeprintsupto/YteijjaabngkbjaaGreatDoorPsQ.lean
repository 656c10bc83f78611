/- Plain: a module's text has no error but that it is too long. -/
import Derived.Test.YteijjaabngkbjaaGreatDoorPsP
namespace Go.Proofs.YteijjaabngkbjaaGreatDoor
set_option linter.unusedSimpArgs false
set_option linter.unusedVariables false
namespace Pz
open Lx Te

section
variable {words : List By} {V : Nat → By → Int × Int × Int}
theorem toks_big {p : Nat} {u : By} {ts : List Tok} (h : Toks words V p u ts) : ∀ (f : Nat) (acc : List Tok), u.length < f → acc.length ≤ 1024 → 1024 < acc.length + ts.length → (lexU words V f p acc u).2.2 = 3 := by
  induction h with
  | done p => intro f acc _ h1 h2; simp at h2; omega
  | more p x r k ty b ts hk h0 hg hv h ih =>
    intro f acc hf ha hb
    obtain ⟨f, rfl⟩ : ∃ x, f = x + 1 := ⟨f - 1, by omega⟩
    have hl : x.length ≠ 0 := by intro e; exact h0 (List.eq_nil_of_length_eq_zero e)
    have hgl := gap_le r false
    unfold lexU
    simp only [hk, hl, List.take_left, List.drop_left, hv, if_false, ne_eq, not_true_eq_false]
    rw [if_neg (by simp [h0])]
    by_cases h1 : acc.length = 1024
    · rw [if_pos h1]
    · rw [if_neg h1]
      exact ih f (acc ++ [⟨k, x, ty, b, p⟩]) (by rw [List.length_drop]; simp only [List.length_append] at hf; omega) (by simp only [List.length_append, List.length_cons, List.length_nil]; omega) (by simp only [List.length_append, List.length_cons, List.length_nil] at hb ⊢; omega)
theorem rd_err {s : By} {T : List Co} (h : Rd words V s T) : (lexS words V s).2.2 = 0 ∨ (lexS words V s).2.2 = 3 := by
  by_cases hl : 4096 < s.length
  · right
    unfold lexS
    rw [if_pos hl]
  · obtain ⟨ts, h1, h2⟩ := h (gap s)
    by_cases ht : 1024 < ts.length
    · right
      unfold lexS
      rw [if_neg hl]
      exact toks_big h1 _ _ (by rw [List.length_drop]; omega) (by simp) (by simpa using ht)
    · left
      rw [lexS_of_toks words V s ts (by omega) (by omega) h1]
end
section
variable {rn : Bs → Int} {cn : Int → Int} {tx : Int → Int → Bs} {words : List By} {V : Nat → By → Int × Int × Int} (L : LawT rn cn tx words V) (hw : ∀ x ∈ kws, x ∈ words)
include L hw
/-- Right modules with one text are one. -/
theorem mod_one (hi : ∀ vb, 0 ≤ vb → ∃ c r, tx 1 vb = c :: r ∧ dgt c = true) (m m' : Mo) (he : errM rn cn m = 0) (hN : ∀ d ∈ m.decls, NnD d) (he' : errM rn cn m' = 0) (hN' : ∀ d ∈ m'.decls, NnD d) (h : moT tx m = moT tx m') : m = m' := by
  have h1 := rd_mo L hw m he hN
  have h2 := rd_mo L hw m' he' hN'
  rw [h] at h1
  obtain ⟨ts, a1, a2⟩ := h1 0
  obtain ⟨ts', b1, b2⟩ := h2 0
  have e := toks_det a1 _ b1
  subst e
  have c1 := parT_back (L.law hi) (fun x hx e => (L.nm x hx).2.2.1 (by rw [e]; exact hw _ (by decide))) m he hN ts a2 0
  have c2 := parT_back (L.law hi) (fun x hx e => (L.nm x hx).2.2.1 (by rw [e]; exact hw _ (by decide))) m' he' hN' ts b2 0
  rw [c1] at c2
  simpa using c2
end
end Pz
end Go.Proofs.YteijjaabngkbjaaGreatDoor
