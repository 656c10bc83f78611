/- Plain: an expression's text is read back. -/
import Derived.Test.YtpkaekokkhecmaaGreatDoorPsH
import Derived.Test.YtpkaekokkhecmaaGreatDoorPsT
namespace Go.Proofs.YtpkaekokkhecmaaGreatDoor
set_option linter.unusedSimpArgs false
set_option linter.unusedVariables false
namespace Pz
open Lx Te

theorem toks_det {words : List By} {V : Nat → By → Int × Int × Int} {p : Nat} {u : By} {ts : List Tok} (h : Toks words V p u ts) : ∀ ts', Toks words V p u ts' → ts = ts' := by
  induction h with
  | done p => intro ts' h'; exact (toks_nil words V h').symm
  | more p x r k ty b ts hk h0 hg hv h ih =>
    intro ts' h'
    generalize hu : x ++ r = u at h'
    cases h' with
    | done => simp [h0] at hu
    | more _ x' r' k' ty' b' ts' hk' h0' hg' hv' h' =>
      rw [hu, hk'] at hk
      obtain ⟨rfl, hl⟩ := Prod.mk.inj hk
      obtain ⟨rfl, rfl⟩ := List.append_inj hu hl.symm
      rw [hv] at hv'
      simp only [Prod.mk.injEq, and_true] at hv'
      rw [hv'.1, hv'.2, ih _ h']
/-- The tokens that Lex finds are those. -/
theorem rd_lex {words : List By} {V : Nat → By → Int × Int × Int} {s : By} {T : List Co} (h : Rd words V s T) {ts : List Tok} {q : Nat} (hl : lexS words V s = (ts, q, 0)) : ts.map Tok.core = T := by
  rcases toks_of_lexS words V s ts q 0 hl with ⟨_, _, _, _, h1⟩ | ⟨h1, _⟩
  · obtain ⟨ts', h2, h3⟩ := h (gap s)
    rw [toks_det h1 _ h2]
    exact h3
  · exact absurd rfl h1
section
variable {rn : Bs → Int} {cn : Int → Int} {tx : Int → Int → Bs} {words : List By} {V : Nat → By → Int × Int × Int}
theorem LawT.law (L : LawT rn cn tx words V) (hi : ∀ vb, 0 ≤ vb → ∃ c r, tx 1 vb = c :: r ∧ dgt c = true) : Law rn cn tx where
  nm := fun x h => (L.nm x h).1
  int := hi
  flo := fun vb h0 hl h1 h2 => by
    obtain ⟨z, e, _⟩ := L.flo vb h0 hl h1 h2
    exact ⟨48, 120 :: z, e, by decide⟩
theorem expr_of_al {a b : List Tok} {f : Nat} {e : Ex} {t : Tok} (h : Al a b) (hb : expr f false 0 b = some (.ok e [t])) : ∃ t', expr f false 0 a = some (.ok e [t']) := by
  have h2 := expr_al f false 0 a b h
  rw [hb] at h2
  generalize expr f false 0 a = x at h2
  match x, h2 with
  | some (.ok e' ts), h3 =>
    obtain ⟨h1, h3⟩ := h3
    subst h1
    rcases Al.two h3 with ⟨_, h⟩ | ⟨t1, t2, r, r', rfl, h4, _, _, _, _, hr⟩
    · cases h
    · cases h4
      rcases hr.two with ⟨rfl, _⟩ | ⟨_, _, _, _, _, h5, _⟩
      · exact ⟨t1, rfl⟩
      · cases h5
/-- P703, of an expression. -/
theorem xprT_back (L : LawT rn cn tx words V) (hi : ∀ vb, 0 ≤ vb → ∃ c r, tx 1 vb = c :: r ∧ dgt c = true) (h : EH) (k : Exs) (hX : errX rn cn h k = 0) (h0 : 0 ≤ h.vb) (hN : NnX k) (ts : List Tok) (q : Nat) (hl : lexS words V (Te.bare tx h k) = (ts, q, 0)) (n : Nat) :
    xprT ts n = some (some (h, k), 0, 0) := by
  unfold errX at hX
  obtain ⟨hD, hX⟩ := orE_0 hX
  have hD : dX h k 1 0 ≤ 32 := by
    by_cases e : 32 < dX h k 1 0
    · rw [if_pos e] at hD; omega
    · omega
  have hR : RX rn cn h k := orE_0 hX
  have hrd := (g_expr L h k hR h0 hN [] [] End.nil Rd.nil).1
  rw [List.append_nil, List.append_nil] at hrd
  have hts := rd_lex hrd hl
  have hal : Al (ts ++ [endT n]) (kB tx h k ++ [endT n]) := by
    simp only [Al, List.map_append, hts]
  have hlen : ts.length = (kB tx h k).length := by have := congrArg List.length hts; simpa using this
  have hb := expr_back (L.law hi) h k hR h0 hN (ts.length + 2) 0 [endT n] (by simp [hlen]) (by omega) (by simpa using hD) ⟨endT n, [], rfl, by simp [endT], by simp [endT], by simp only [endT]; decide⟩
  obtain ⟨t', ha⟩ := expr_of_al hal hb
  unfold xprT
  rw [ha]
  rfl
end
end Pz
end Go.Proofs.YtpkaekokkhecmaaGreatDoor
