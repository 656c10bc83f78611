/- Plain: the tokens of a text that ends ahead of one of them. -/
import Derived.Test.YteijjaabngkbjaaGreatDoorLxAll
namespace Go.Proofs.YteijjaabngkbjaaGreatDoor
set_option linter.unusedSimpArgs false
set_option linter.unusedVariables false
namespace Lx
variable (words : List By) (V : Nat → By → Int × Int × Int)

theorem take_get {r : By} {n i : Nat} {c : UInt8} (h : (r.take n)[i]? = some c) : r[i]? = some c := by
  rw [List.getElem?_take] at h
  split at h
  · exact h
  · cases h
theorem Cut.take (r : By) (n : Nat) : Cut r (r.take n) := fun c h hc => ⟨take_get h, fun d hd hdb => take_get hd⟩
theorem toks_pos {p : Nat} {u : By} {ts : List Tok} (h : Toks words V p u ts) (h0 : ts ≠ []) : u ≠ [] := by
  cases h with
  | done => exact absurd rfl h0
  | more _ x r k ty b ts hk hx hg hv h =>
    intro e
    exact hx (List.append_eq_nil_iff.1 e).1
theorem toks_cut {p : Nat} {u : By} {ts : List Tok} (h : Toks words V p u ts) : ∀ (i : Nat) (w : Tok), ts[i]? = some w → ∃ j, w.p = p + j ∧ j ≤ u.length ∧ Toks words V p (u.take j) (ts.take i) := by
  induction h with
  | done p => intro i w h; simp at h
  | more p x r k ty b ts hk hx hg hv h ih =>
    intro i w hi
    cases i with
    | zero =>
      have : w = ⟨k, x, ty, b, p⟩ := by simpa using hi.symm
      subst this
      exact ⟨0, rfl, Nat.zero_le _, by simpa using Toks.done p⟩
    | succ i =>
      have hi' : ts[i]? = some w := by simpa using hi
      obtain ⟨j, e1, e2, e3⟩ := ih i w hi'
      have hne : ts ≠ [] := by intro e; rw [e] at hi'; simp at hi'
      have hd := toks_pos words V h hne
      have hgl : gap r < r.length := by
        rcases Nat.lt_or_ge (gap r) r.length with h | h
        · exact h
        · exact absurd (List.drop_eq_nil_of_le h) hd
      have hr' : r.take (gap r + j) = r.take (gap r) ++ (r.drop (gap r)).take j := by rw [List.take_add]
      have hgap : gap (r.take (gap r + j)) = gap r := by
        rw [hr']
        have e := gap_ahead ((r.drop (gap r)).take j) r false hgl
        rw [gap_first words V e3] at e
        exact e
      rw [List.length_drop] at e2
      refine ⟨x.length + gap r + j, by omega, by rw [List.length_append]; omega, ?_⟩
      have ht : (x ++ r).take (x.length + gap r + j) = x ++ r.take (gap r + j) := by
        rw [List.take_append, List.take_of_length_le (by omega)]
        congr 2
        omega
      rw [ht, List.take_succ_cons]
      refine Toks.more p x _ k ty b _ (kind_cut words x r _ k hx hk (Cut.take r _)) hx (gap_cut x r _ hx hg (Cut.take r _)) hv ?_
      rw [hgap]
      have : (r.take (gap r + j)).drop (gap r) = (r.drop (gap r)).take j := by rw [List.drop_take]; congr 1; omega
      rw [this]
      exact e3
/-- A text that ends ahead of one of its tokens has the tokens ahead of it. -/
theorem lexS_cut (s : By) (ts : List Tok) (q : Nat) (h : lexS words V s = (ts, q, 0)) (i : Nat) (w : Tok) (hi : ts[i]? = some w) : w.p ≤ s.length ∧ lexS words V (s.take w.p) = (ts.take i, 0, 0) := by
  rcases toks_of_lexS words V s ts q 0 h with ⟨_, _, h1, h2, h3⟩ | ⟨h1, _⟩
  · obtain ⟨j, e1, e2, e3⟩ := toks_cut words V h3 i w hi
    have hne : ts ≠ [] := by intro e; rw [e] at hi; simp at hi
    have hd := toks_pos words V h3 hne
    have hgl : gap s < s.length := by
      rcases Nat.lt_or_ge (gap s) s.length with h | h
      · exact h
      · exact absurd (List.drop_eq_nil_of_le h) hd
    rw [List.length_drop] at e2
    have hs' : s.take (gap s + j) = s.take (gap s) ++ (s.drop (gap s)).take j := by rw [List.take_add]
    have hgap : gap (s.take (gap s + j)) = gap s := by
      rw [hs']
      have e := gap_ahead ((s.drop (gap s)).take j) s false hgl
      rw [gap_first words V e3] at e
      exact e
    refine ⟨by omega, ?_⟩
    rw [e1]
    refine lexS_of_toks words V _ _ ?_ ?_ ?_
    · rw [List.length_take]; omega
    · rw [List.length_take]; omega
    · rw [hgap]
      have : (s.take (gap s + j)).drop (gap s) = (s.drop (gap s)).take j := by rw [List.drop_take]; congr 1; omega
      rw [this]
      exact e3
  · exact absurd rfl h1
/-- What each token is. -/
theorem toks_all {p : Nat} {u : By} {ts : List Tok} (h : Toks words V p u ts) : ∀ t ∈ ts, ∃ r, kindLen words (t.x ++ r) = (t.k, t.x.length) ∧ t.x ≠ [] ∧ V t.k t.x = (t.ty, t.b, 0) := by
  induction h with
  | done p => intro t h; simp at h
  | more p x r k ty b ts hk hx hg hv h ih =>
    intro t ht
    rcases List.mem_cons.1 ht with rfl | ht
    · exact ⟨r, hk, hx, hv⟩
    · exact ih t ht
end Lx
end Go.Proofs.YteijjaabngkbjaaGreatDoor
