/- Plain: the tokens of a text that was joined, or had blanks put in. -/
import Derived.Test.YtfkccanjdlajlabGreatDoorLxS2
namespace Go.Proofs.YtfkccanjdlajlabGreatDoor
set_option linter.unusedSimpArgs false
set_option linter.unusedVariables false
namespace Lx
variable (words : List By) (V : Nat → By → Int × Int × Int)

def Tok.core (t : Tok) : Nat × By × Int × Int := (t.k, t.x, t.ty, t.b)
theorem toks_nil {p : Nat} {l : List Tok} (h : Toks words V p [] l) : l = [] := by
  generalize hu : ([] : By) = u at h
  cases h with
  | done => rfl
  | more p x r k ty b ts hk h0 hg hv h => exact absurd hu.symm (by simp [h0])
theorem kind_cons (c : UInt8) (r : By) : kindLen words (c :: r) = if dgt c = true then numLen (c :: r) else if ltr c = true then (if (c :: r).take (run nmB (c :: r)) ∈ words then 2 else 1, run nmB (c :: r)) else (5, mkLen (c :: r)) := by rw [kindLen]
theorem mk_le (l : By) : mkLen l ≤ l.length := by
  match l with
  | [] => simp [mkLen]
  | [a] => simp only [mkLen]; split <;> simp
  | a :: b :: r => simp only [mkLen]; repeat' split
                   all_goals simp
theorem kind_le (u : By) : (kindLen words u).2 ≤ u.length := by
  cases u with
  | nil => simp [kindLen]
  | cons c r =>
    rw [kind_cons]
    split
    · unfold numLen
      split
      · rename_i e
        have h := run_le hxB ((c :: r).drop 2)
        have hl := congrArg List.length e
        simp only [List.length_take, List.length_cons, List.length_nil, List.length_drop] at hl h
        simp only [List.length_cons]
        omega
      · split
        · rename_i e
          have h := run_le dgt ((c :: r).drop (run dgt (c :: r) + 1))
          have h3 : run dgt (c :: r) < (c :: r).length := by
            apply Decidable.byContradiction
            intro hn
            rw [List.getElem?_eq_none (by omega)] at e
            simp at e
          simp only [List.length_drop] at h
          simp only []
          omega
        · exact run_le _ _
    · split
      · exact run_le _ _
      · exact mk_le _

theorem lexU_toks (f : Nat) : ∀ (p : Nat) (acc : List Tok) (u : By) (ts : List Tok) (q : Nat) (e : Int), u.length < f → gap u = 0 → acc.length ≤ 1024 → lexU words V f p acc u = (ts, q, e) →
    (e = 0 ∧ q = 0 ∧ ts.length ≤ 1024 ∧ ∃ ts', ts = acc ++ ts' ∧ Toks words V p u ts') ∨ (e ≠ 0 ∧ ts = [] ∧ q ≤ p + u.length) := by
  induction f with
  | zero => intro p acc u ts q e h; omega
  | succ f ih =>
    intro p acc u ts q e hf hg ha h
    unfold lexU at h
    split at h
    · rename_i hu
      subst hu
      cases h
      exact Or.inl ⟨rfl, rfl, ha, [], by simp, .done p⟩
    · rename_i hu
      split at h
      · cases h
        exact Or.inr ⟨by decide, rfl, by omega⟩
      · rename_i hn
        split at h
        · rename_i hv
          cases h
          exact Or.inr ⟨hv, rfl, by omega⟩
        · rename_i hv
          split at h
          · cases h
            exact Or.inr ⟨by decide, rfl, by omega⟩
          · rename_i hc
            have hle := kind_le words u
            have hgl : gap (u.drop (kindLen words u).2) ≤ (u.drop (kindLen words u).2).length := gap_le (u.drop (kindLen words u).2) false
            rw [List.length_drop] at hgl
            have hlen : ((u.drop (kindLen words u).2).drop (gap (u.drop (kindLen words u).2))).length < f := by
              rw [List.length_drop, List.length_drop]; omega
            have hx : u = u.take (kindLen words u).2 ++ u.drop (kindLen words u).2 := (List.take_append_drop _ u).symm
            have hxl : (u.take (kindLen words u).2).length = (kindLen words u).2 := by rw [List.length_take]; omega
            rcases ih _ _ _ _ _ _ hlen (gap_drop _ false) (by simp; omega) h with ⟨h1, h2, h3, ts', h4, h5⟩ | ⟨h1, h2, h3⟩
            · refine Or.inl ⟨h1, h2, h3, ⟨(kindLen words u).1, u.take (kindLen words u).2, (V (kindLen words u).1 (u.take (kindLen words u).2)).1, (V (kindLen words u).1 (u.take (kindLen words u).2)).2.1, p⟩ :: ts', by rw [h4]; simp, ?_⟩
              have := Toks.more (words := words) (V := V) p (u.take (kindLen words u).2) (u.drop (kindLen words u).2) (kindLen words u).1 _ _ ts' (by rw [← hx, hxl]) (by intro e; rw [e] at hxl; simp at hxl; omega) (by rw [← hx]; exact hg)
                (show _ = ((V (kindLen words u).1 (u.take (kindLen words u).2)).1, (V (kindLen words u).1 (u.take (kindLen words u).2)).2.1, 0) by
                  have hz : (V (kindLen words u).1 (u.take (kindLen words u).2)).2.2 = 0 := by simpa using hv
                  rw [← hz]) (by rw [hxl]; exact h5)
              rw [← hx] at this
              exact this
            · refine Or.inr ⟨h1, h2, ?_⟩
              rw [List.length_drop, List.length_drop] at h3
              omega
theorem toks_lexU {p : Nat} {u : By} {ts : List Tok} (h : Toks words V p u ts) : ∀ (f : Nat) (acc : List Tok), u.length < f → acc.length + ts.length ≤ 1024 → lexU words V f p acc u = (acc ++ ts, 0, 0) := by
  induction h with
  | done p =>
    intro f acc hf ha
    obtain ⟨f, rfl⟩ : ∃ g, f = g + 1 := ⟨f - 1, by omega⟩
    simp [lexU]
  | more p x r k ty b ts hk h0 hg hv h ih =>
    intro f acc hf ha
    obtain ⟨f, rfl⟩ : ∃ g, f = g + 1 := ⟨f - 1, by omega⟩
    have hl : x.length ≠ 0 := by intro e; exact h0 (List.eq_nil_of_length_eq_zero e)
    have hgl := gap_le r false
    have := ih f (acc ++ [⟨k, x, ty, b, p⟩]) (by rw [List.length_drop]; simp only [List.length_append] at hf; omega) (by simp only [List.length_append, List.length_cons, List.length_nil] at ha ⊢; omega)
    unfold lexU
    simp only [hk, hl, List.take_left, List.drop_left, hv, if_false, ne_eq, not_true_eq_false]
    rw [if_neg (by simp [h0]), if_neg (by simp only [List.length_cons] at ha; omega), this]
    simp
theorem toks_shift {p : Nat} {u : By} {ts : List Tok} (h : Toks words V p u ts) : ∀ q, ∃ ts', Toks words V q u ts' ∧ ts'.map Tok.core = ts.map Tok.core := by
  induction h with
  | done p => intro q; exact ⟨[], .done q, rfl⟩
  | more p x r k ty b ts hk h0 hg hv h ih =>
    intro q
    obtain ⟨ts', h1, h2⟩ := ih (q + x.length + gap r)
    exact ⟨_, .more q x r k ty b ts' hk h0 hg hv h1, by simp [h2, Tok.core]⟩
theorem lexS_of_toks (s : By) (ts : List Tok) (hl : s.length ≤ 4096) (hc : ts.length ≤ 1024) (h : Toks words V (gap s) (s.drop (gap s)) ts) : lexS words V s = (ts, 0, 0) := by
  unfold lexS
  rw [if_neg (by omega), toks_lexU words V h _ _ (by rw [List.length_drop]; omega) (by simpa using hc)]
  simp
theorem toks_of_lexS (s : By) (ts : List Tok) (q : Nat) (e : Int) (h : lexS words V s = (ts, q, e)) :
    (e = 0 ∧ q = 0 ∧ ts.length ≤ 1024 ∧ s.length ≤ 4096 ∧ Toks words V (gap s) (s.drop (gap s)) ts) ∨ (e ≠ 0 ∧ ts = [] ∧ q ≤ s.length) := by
  unfold lexS at h
  split at h
  · cases h
    exact Or.inr ⟨by decide, rfl, by omega⟩
  · rename_i hl
    have hg : gap s ≤ s.length := gap_le s false
    rcases lexU_toks words V _ _ _ _ _ _ _ (by rw [List.length_drop]; omega) (gap_drop s false) (by simp) h with ⟨h1, h2, h3, ts', h4, h5⟩ | ⟨h1, h2, h3⟩
    · simp only [List.nil_append] at h4
      subst h4
      exact Or.inl ⟨h1, h2, h3, by omega, h5⟩
    · rw [List.length_drop] at h3
      refine Or.inr ⟨h1, h2, ?_⟩
      simp only [gap] at h3 hg
      omega

/- joined -/
def joinS : List Tok → By
  | [] => []
  | [t] => t.x
  | t :: t' :: ts => t.x ++ 32 :: joinS (t' :: ts)
theorem join_core : ∀ (l l' : List Tok), l.map Tok.core = l'.map Tok.core → joinS l = joinS l'
  | [], [], _ => rfl
  | [], _ :: _, h => by simp at h
  | _ :: _, [], h => by simp at h
  | [a], [b], h => by simp [Tok.core] at h; simp [joinS, h]
  | [a], b :: b' :: l', h => by simp at h
  | a :: a' :: l, [b], h => by simp at h
  | a :: a' :: l, b :: b' :: l', h => by
    have h2 := join_core (a' :: l) (b' :: l') (by simp only [List.map_cons, List.cons.injEq] at h ⊢; exact h.2)
    have h1 : a.x = b.x := by simp [Tok.core] at h; exact h.1.2.1
    simp [joinS, h1, h2]
theorem toks_join {p : Nat} {u : By} {ts : List Tok} (h : Toks words V p u ts) : gap (joinS ts) = 0 ∧ ∀ q, ∃ ts', Toks words V q (joinS ts) ts' ∧ ts'.map Tok.core = ts.map Tok.core := by
  induction h with
  | done p => exact ⟨rfl, fun q => ⟨[], .done q, rfl⟩⟩
  | more p x r k ty b ts hk h0 hg hv h ih =>
    cases ts with
    | nil =>
      have e : joinS [⟨k, x, ty, b, p⟩] = x ++ [] := by simp [joinS]
      rw [e]
      refine ⟨gap_cut x r [] h0 hg (Cut.nil r), fun q => ⟨_, .more q x [] k ty b [] (kind_cut words x r [] k h0 hk (Cut.nil r)) h0 (gap_cut x r [] h0 hg (Cut.nil r)) hv (.done _), rfl⟩⟩
    | cons t ts =>
      have e : joinS (⟨k, x, ty, b, p⟩ :: t :: ts) = x ++ 32 :: joinS (t :: ts) := rfl
      rw [e]
      have hc : Cut r (32 :: joinS (t :: ts)) := Cut.blank r 32 _ (by decide)
      refine ⟨gap_cut x r _ h0 hg hc, fun q => ?_⟩
      have hgj : gap (32 :: joinS (t :: ts)) = 1 := by
        show gapM false (32 :: joinS (t :: ts)) = 1
        rw [gapM_false, if_pos (by decide)]
        have := ih.1
        simp only [gap] at this
        omega
      obtain ⟨ts', h1, h2⟩ := ih.2 (q + x.length + gap (32 :: joinS (t :: ts)))
      refine ⟨_, .more q x (32 :: joinS (t :: ts)) k ty b ts' (kind_cut words x r _ k h0 hk hc) h0 (gap_cut x r _ h0 hg hc) hv (by rw [hgj] at h1 ⊢; exact h1), ?_⟩
      rw [List.map_cons, h2]
      rfl

/- blanks behind all -/
theorem toks_end (E : By) (hE : ∀ m, gapM m E = E.length) (hb : ∃ c E', E = c :: E' ∧ blB c = true) {p : Nat} {u : By} {ts : List Tok} (h : Toks words V p u ts) : u ≠ [] → Toks words V p (u ++ E) ts := by
  induction h with
  | done p => intro h; exact absurd rfl h
  | more p x r k ty b ts hk h0 hg hv h ih =>
    intro _
    have hc : Cut r (r ++ E) := by
      obtain ⟨c, E', rfl, hb⟩ := hb
      have := Cut.put r [] E' c hb
      rw [List.append_nil] at this
      exact this
    rw [List.append_assoc]
    refine .more p x (r ++ E) k ty b ts (kind_cut words x r _ k h0 hk hc) h0 (gap_cut x r _ h0 hg hc) hv ?_
    show Toks words V (p + x.length + gapM false (r ++ E)) ((r ++ E).drop (gapM false (r ++ E))) ts
    rw [gap_end E hE hb r false]
    have hgl := gap_le r false
    by_cases e : gapM false r = r.length
    · rw [if_pos e, ← List.length_append, List.drop_length]
      have : r.drop (gap r) = [] := by show r.drop (gapM false r) = []; rw [e, List.drop_length]
      rw [this] at h
      rw [toks_nil words V h]
      exact .done _
    · rw [if_neg e, List.drop_append_of_le_length hgl]
      exact ih (by intro hh; have := congrArg List.length hh; rw [List.length_drop] at this; simp only [gap, List.length_nil] at this; omega)

theorem gap_first {p : Nat} {u : By} {ts : List Tok} (h : Toks words V p u ts) : gap u = 0 := by
  cases h with
  | done => rfl
  | more p x r k ty b ts hk h0 hg hv h => exact hg
theorem toks_put (P E : By) (b0 : UInt8) (P' : By) (hP0 : P = b0 :: P') (hb0 : blB b0 = true) (hP : ∀ z, gap (P ++ z) = P.length + gap z) (hE : ∀ m, gapM m E = E.length) (hb : ∃ c E', E = c :: E' ∧ blB c = true)
    {p : Nat} {u : By} {ts : List Tok} (h : Toks words V p u ts) : ∀ (i : Nat) (t : Tok), ts[i]? = some t → ∃ d, t.p = p + d ∧ d < u.length ∧ ∀ q, ∃ ts', Toks words V q ((u.take d ++ (P ++ (u.drop d ++ E))).drop (gap (u.take d ++ (P ++ (u.drop d ++ E))))) ts' ∧ ts'.map Tok.core = ts.map Tok.core := by
  induction h with
  | done p => intro i t h; simp at h
  | more p x r k ty b ts hk h0 hg hv h ih =>
    intro i t hi
    have hl : x.length ≠ 0 := by intro e; exact h0 (List.eq_nil_of_length_eq_zero e)
    cases i with
    | zero =>
      have : (⟨k, x, ty, b, p⟩ : Tok) = t := by simpa using hi
      subst this
      refine ⟨0, rfl, by rw [List.length_append]; omega, fun q => ?_⟩
      have hall := toks_end words V E hE hb (Toks.more p x r k ty b ts hk h0 hg hv h) (by simp [h0])
      have hge : gap (x ++ r ++ E) = 0 := gap_first words V hall
      rw [List.take_zero, List.drop_zero, List.nil_append, hP, hge, Nat.add_zero, List.drop_left]
      exact toks_shift words V hall q
    | succ i =>
      have hi' : ts[i]? = some t := by simpa using hi
      obtain ⟨d, hd1, hd2, hd3⟩ := ih i t hi'
      have hgl : gapM false r < r.length := by
        rw [List.length_drop] at hd2
        simp only [gap] at hd2
        omega
      refine ⟨x.length + gap r + d, by rw [hd1]; omega, by rw [List.length_drop] at hd2; rw [List.length_append]; omega, fun q => ?_⟩
      have ez : (x ++ r).take (x.length + gap r + d) ++ (P ++ ((x ++ r).drop (x.length + gap r + d) ++ E)) = x ++ (r.take (gapM false r) ++ ((r.drop (gap r)).take d ++ (P ++ ((r.drop (gap r)).drop d ++ E)))) := by
        have e1 : (x ++ r).take (x.length + gap r + d) = x ++ (r.take (gapM false r) ++ (r.drop (gap r)).take d) := by
          rw [show x.length + gap r + d = x.length + (gap r + d) by omega, List.take_length_add_append, List.take_add]
        have e2 : (x ++ r).drop (x.length + gap r + d) = (r.drop (gap r)).drop d := by
          rw [show x.length + gap r + d = x.length + (gap r + d) by omega, List.drop_length_add_append, List.drop_drop]
        rw [e1, e2]
        simp only [List.append_assoc]
      rw [ez]
      obtain ⟨z', hz'⟩ : ∃ z', z' = (r.drop (gap r)).take d ++ (P ++ ((r.drop (gap r)).drop d ++ E)) := ⟨_, rfl⟩
      rw [← hz'] at hd3 ⊢
      have hc : Cut r (r.take (gapM false r) ++ z') := by
        have := Cut.put (r.take (gapM false r) ++ (r.drop (gap r)).take d) ((r.drop (gap r)).drop d) (P' ++ ((r.drop (gap r)).drop d ++ E)) b0 hb0
        rw [List.append_assoc, List.append_assoc, List.take_append_drop, List.take_append_drop] at this
        rw [hz', hP0]
        exact this
      have hg0 : gap (x ++ (r.take (gapM false r) ++ z')) = 0 := gap_cut x r _ h0 hg hc
      rw [hg0, List.drop_zero]
      have hgr : gap (r.take (gapM false r) ++ z') = gapM false r + gap z' := gap_ahead z' r false hgl
      obtain ⟨ts', h1, h2⟩ := hd3 (q + x.length + gap (r.take (gapM false r) ++ z'))
      refine ⟨_, .more q x (r.take (gapM false r) ++ z') k ty b ts' (kind_cut words x r _ k h0 hk hc) h0 hg0 hv ?_, by rw [List.map_cons, h2]; rfl⟩
      have ed : (r.take (gapM false r) ++ z').drop (gap (r.take (gapM false r) ++ z')) = z'.drop (gap z') := by
        have hlt : (r.take (gapM false r)).length = gapM false r := by rw [List.length_take]; omega
        rw [hgr]
        conv => lhs; rw [← hlt]
        rw [show (r.take (gapM false r)).length = gapM false r from hlt]
        conv => lhs; arg 1; rw [← hlt]
        rw [List.drop_length_add_append]
      rw [ed]
      exact h1
end Lx
end Go.Proofs.YtfkccanjdlajlabGreatDoor
