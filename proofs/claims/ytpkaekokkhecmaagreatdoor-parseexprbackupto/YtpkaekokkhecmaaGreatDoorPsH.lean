/- Plain: the tokens of an expression's text (2). -/
import Derived.Test.YtpkaekokkhecmaaGreatDoorPsG
namespace Go.Proofs.YtpkaekokkhecmaaGreatDoor
set_option linter.unusedSimpArgs false
set_option linter.unusedVariables false
namespace Pz
open Lx Te

/-- What is asked of names, words, marks and literals' texts. -/
structure LawT (rn : Bs → Int) (cn : Int → Int) (tx : Int → Int → Bs) (words : List By) (V : Nat → By → Int × Int × Int) : Prop where
  nm : ∀ x, rn x = 0 → (∃ c r, x = c :: r ∧ ltr c = true) ∧ (∀ c ∈ x, nmB c = true) ∧ x ∉ words ∧ V 1 x = (0, 0, 0)
  wd : ∀ x, V 2 x = (0, 0, 0)
  mrk : ∀ x, V 5 x = (0, 0, 0)
  int : ∀ vb, 0 ≤ vb → vb < 9223372036854775808 → tx 1 vb ≠ [] ∧ (∀ c ∈ tx 1 vb, dgt c = true) ∧ V 3 (tx 1 vb) = (1, vb, 0)
  flo : ∀ vb, 0 ≤ vb → litOk cn 2 vb = true → vb ≠ 9218868437227405312 → vb ≠ 9221120237041090561 → ∃ z, tx 2 vb = 48 :: 120 :: z ∧ (∀ c ∈ z, hxB c = true) ∧ V 4 (tx 2 vb) = (2, vb, 0)
  inf : tx 2 9218868437227405312 = [105, 110, 102]
  nan : tx 2 9221120237041090561 = [110, 97, 110]
  fal : tx 3 0 = [102, 97, 108, 115, 101]
  tru : tx 3 1 = [116, 114, 117, 101]
  wi : [105, 110, 102] ∈ words
  wn : [110, 97, 110] ∈ words
  wf : [102, 97, 108, 115, 101] ∈ words
  wt : [116, 114, 117, 101] ∈ words
  wI : [105, 110, 116] ∈ words
  wF : [102, 108, 111, 97, 116] ∈ words
  wp : [105, 110, 112, 117, 116] ∈ words
section
variable {rn : Bs → Int} {cn : Int → Int} {tx : Int → Int → Bs} {words : List By} {V : Nat → By → Int × Int × Int} (L : LawT rn cn tx words V)
include L
/-- Tokens, and no '=' at the beginning. -/
def Gd (words : List By) (V : Nat → By → Int × Int × Int) (u : By) (T : List Co) : Prop := Rd words V u T ∧ u[0]? ≠ some 61
omit L in
theorem Gd.blank {u : By} {T : List Co} (h : Rd words V u T) : Gd words V (32 :: u) T := ⟨h.blank (by decide), by simp⟩
theorem g_name {x r : By} {T : List Co} (hx : rn x = 0) (hr : StN r) (h : Rd words V r T) : Gd words V (x ++ r) ((1, x, 0, 0) :: T) := by
  obtain ⟨h1, h2, h3, h4⟩ := L.nm x hx
  refine ⟨Rd.word h1 h2 hr 1 (by rw [if_neg h3]) h4 h, ?_⟩
  obtain ⟨c, r', rfl, hc⟩ := h1
  intro e
  simp at e
  exact (ltr_f hc).2.2.2 e
theorem g_word {x r : By} {T : List Co} (hw : x ∈ words) (h1 : ∃ c r, x = c :: r ∧ ltr c = true) (h2 : x.all nmB = true) (hr : StN r) (h : Rd words V r T) : Gd words V (x ++ r) ((2, x, 0, 0) :: T) := by
  refine ⟨Rd.word h1 (by simpa using h2) hr 2 (by rw [if_pos hw]) (L.wd x) h, ?_⟩
  obtain ⟨c, r', rfl, hc⟩ := h1
  intro e
  simp at e
  exact (ltr_f hc).2.2.2 e
/-- A literal. -/
theorem g_lit (vt vb : Int) (h0 : 0 ≤ vb) (hl : litOk cn vt vb = true) {r : By} {T : List Co} (hr : End r) (h : Rd words V r T) : Gd words V (tx vt vb ++ r) ((tL tx vt vb).core :: T) := by
  unfold tL
  by_cases v1 : vt = 1
  · subst v1
    simp only [litOk, if_true, decide_eq_true_eq] at hl
    obtain ⟨a1, a2, a3⟩ := L.int vb h0 hl
    rw [if_pos rfl]
    refine ⟨Rd.digits a1 a2 hr a3 h, ?_⟩
    cases e : tx 1 vb with
    | nil => exact absurd e a1
    | cons c r' => intro e'; simp at e'; exact (dgt_f (a2 c (by simp [e]))).2.2 e'
  · rw [if_neg v1]
    by_cases v2 : vt = 2
    · subst v2
      rw [if_pos rfl]
      by_cases e1 : vb = 9218868437227405312
      · subst e1
        rw [if_pos rfl, L.inf]
        exact g_word L L.wi ⟨105, [110, 102], rfl, by decide⟩ (by decide) hr.st h
      · rw [if_neg e1]
        by_cases e2 : vb = 9221120237041090561
        · subst e2
          rw [if_pos rfl, L.nan]
          exact g_word L L.wn ⟨110, [97, 110], rfl, by decide⟩ (by decide) hr.st h
        · rw [if_neg e2]
          obtain ⟨z, a1, a2, a3⟩ := L.flo vb h0 hl e1 e2
          show Gd words V _ ((4, tx 2 vb, 2, vb) :: T)
          rw [a1] at a3 ⊢
          exact ⟨Rd.hex a2 hr a3 h, by simp⟩
    · rw [if_neg v2]
      simp only [litOk, if_neg v1, if_neg v2] at hl
      by_cases v3 : vt = 3
      · subst v3
        simp only [if_true, decide_eq_true_eq] at hl
        by_cases b0 : vb = 0
        · subst b0
          rw [if_pos rfl, L.fal]
          exact g_word L L.wf ⟨102, [97, 108, 115, 101], rfl, by decide⟩ (by decide) hr.st h
        · obtain rfl : vb = 1 := by omega
          rw [if_neg (by decide), L.tru]
          exact g_word L L.wt ⟨116, [114, 117, 101], rfl, by decide⟩ (by decide) hr.st h
      · simp [v3] at hl
/-- A mark behind which anything may stand. -/
theorem g_mark {a : UInt8} {r : By} {T : List Co} (ha : a = 40 ∨ a = 41 ∨ a = 44 ∨ a = 46 ∨ a = 59 ∨ a = 58 ∨ a = 123 ∨ a = 125 ∨ a = 45) (h : Rd words V r T) : Gd words V (a :: r) ((5, [a], 0, 0) :: T) := by
  refine ⟨Rd.mark ?_ ?_ ?_ (L.mrk _) h, ?_⟩
  · rcases ha with rfl | rfl | rfl | rfl | rfl | rfl | rfl | rfl | rfl <;> decide
  · intro b _
    rcases ha with rfl | rfl | rfl | rfl | rfl | rfl | rfl | rfl | rfl <;> simp [Lx.two]
  · rcases ha with rfl | rfl | rfl | rfl | rfl | rfl | rfl | rfl | rfl <;> exact gap0 (by decide) (by decide)
  · rcases ha with rfl | rfl | rfl | rfl | rfl | rfl | rfl | rfl | rfl <;> simp
theorem g_not {r : By} {T : List Co} (h : Gd words V r T) : Gd words V (33 :: r) ((5, [33], 0, 0) :: T) := by
  refine ⟨Rd.mark (by decide) ?_ (gap0 (by decide) (by decide)) (L.mrk _) h.1, by simp⟩
  intro b hb
  by_cases e : b = 61
  · subst e; exact absurd hb h.2
  · simp [Lx.two, e]
/-- What stands between two. -/
theorem g_sep (p : EH) (hp : p.kind = 7 → 1 ≤ p.op ∧ p.op ≤ 13) {r : By} {T : List Co} (h : Rd words V r T) : Gd words V (sep p ++ r) ((kSe p).map Tok.core ++ T) := by
  unfold sep kSe
  have hb : Rd words V (32 :: r) T := h.blank (by decide)
  have h1 : ∀ a : UInt8, Lx.one a = true → (∀ b, b = 32 → Lx.two a b = false) → a ≠ 32 → Gd words V (32 :: a :: 32 :: r) ((5, [a], 0, 0) :: T) := fun a ha h2 h3 => Gd.blank (Rd.mark ha (fun b hb' => by simp at hb'; exact h2 b hb'.symm) (by
      rw [gap, gapM_false, if_neg, if_neg]
      · rintro ⟨_, e⟩; simp at e
      · intro e; simp only [Lx.one, Bool.or_eq_true, beq_iff_eq] at ha
        rcases ha with (((((((((((((((h | h) | h) | h) | h) | h) | h) | h) | h) | h) | h) | h) | h) | h) | h) | h) | h <;> (subst h; revert e; decide)) (L.mrk _) hb)
  have h2 : ∀ a b : UInt8, Lx.two a b = true → Gd words V (32 :: a :: b :: 32 :: r) ((5, [a, b], 0, 0) :: T) := fun a b ha => Gd.blank (Rd.mark2 ha (L.mrk _) hb)
  by_cases hk : p.kind = 7
  · rw [if_pos hk, if_pos hk]
    obtain ⟨o1, o2⟩ := hp hk
    have ho : p.op = 1 ∨ p.op = 2 ∨ p.op = 3 ∨ p.op = 4 ∨ p.op = 5 ∨ p.op = 6 ∨ p.op = 7 ∨ p.op = 8 ∨ p.op = 9 ∨ p.op = 10 ∨ p.op = 11 ∨ p.op = 12 ∨ p.op = 13 := by omega
    rcases ho with e | e | e | e | e | e | e | e | e | e | e | e | e <;> rw [e]
    · exact h1 43 (by decide) (fun b e => by subst e; decide) (by decide)
    · exact h1 45 (by decide) (fun b e => by subst e; decide) (by decide)
    · exact h1 42 (by decide) (fun b e => by subst e; decide) (by decide)
    · exact h1 47 (by decide) (fun b e => by subst e; decide) (by decide)
    · exact h1 37 (by decide) (fun b e => by subst e; decide) (by decide)
    · exact h2 61 61 (by decide)
    · exact h2 33 61 (by decide)
    · exact h1 60 (by decide) (fun b e => by subst e; decide) (by decide)
    · exact h2 60 61 (by decide)
    · exact h1 62 (by decide) (fun b e => by subst e; decide) (by decide)
    · exact h2 62 61 (by decide)
    · exact h2 38 38 (by decide)
    · exact h2 124 124 (by decide)
  · rw [if_neg hk, if_neg hk]
    exact g_mark L (by decide) hb
omit L in
theorem ite_head {p : Prop} [Decidable p] {a b : By} (ha : ∃ z, a = 32 :: z) (hb : ∃ z, b = 32 :: z) : ∃ z, (if p then a else b) = 32 :: z := by
  by_cases h : p
  · rw [if_pos h]; exact ha
  · rw [if_neg h]; exact hb
omit L in
theorem mark_head (op : Int) : ∃ z, Te.mark op = 32 :: z := by
  unfold Te.mark
  repeat (first | exact ⟨_, rfl⟩ | refine ite_head ⟨_, rfl⟩ ?_)
omit L in
theorem sep_end (p : EH) (r : By) : End (sep p ++ r) := by
  unfold sep
  split
  · obtain ⟨z, e⟩ := mark_head p.op
    rw [e]
    exact End.cons (by decide)
  · exact End.cons (by decide)
/-- An expression, its Kids' given. -/
theorem g_bare (h : EH) (k : Exs) (hR : RX rn cn h k) (h0 : 0 ≤ h.vb) (IH : ∀ (rest : By) (T : List Co), End rest → Rd words V rest T → Gd words V (txK tx h true k ++ rest) ((kK tx h true k).map Tok.core ++ T))
    (rest : By) (T : List Co) (hE : End rest) (hT : Rd words V rest T) : Gd words V (Te.bare tx h k ++ rest) ((kB tx h k).map Tok.core ++ T) := by
  obtain ⟨e1, e2⟩ := hR
  unfold errH at e1
  obtain ⟨hfit, e1⟩ := orE_0 e1
  obtain ⟨hnm, _⟩ := orE_0 e1
  have hfit : fitsE cn h k.len = true := by
    by_cases e : fitsE cn h k.len = true
    · exact e
    · rw [if_neg e] at hfit; omega
  have hK : h.kind = 1 ∨ h.kind = 2 ∨ h.kind = 3 ∨ h.kind = 4 ∨ h.kind = 5 ∨ h.kind = 6 ∨ h.kind = 7 ∨ h.kind = 8 := by
    unfold fitsE at hfit
    repeat' split at hfit
    all_goals first | omega | cases hfit
  unfold Te.bare kB
  rw [List.append_assoc, List.append_assoc, List.map_append, List.map_append, List.append_assoc, List.append_assoc]
  rcases hK with e | e | e | e | e | e | e | e
  · have hk : k = .nil := len0 (by simp [fitsE, e] at hfit; exact hfit.2.2.2.2)
    have hl : litOk cn h.vt h.vb = true := by simp [fitsE, e] at hfit; exact hfit.1
    subst hk
    simp only [pre, post, kP, kPo, e, txK, kK]
    exact g_lit L h.vt h.vb h0 hl hE hT
  · have hk : k = .nil := len0 (by simp [fitsE, e] at hfit; exact hfit.2.2.2.2)
    have hn : rn h.name = 0 := by simpa [nameE, e] using hnm
    subst hk
    simp only [pre, post, kP, kPo, e, txK, kK]
    exact g_name L hn hE.st hT
  · have hk : k = .nil := len0 (by simp [fitsE, e] at hfit; exact hfit.2.2.2)
    have hm : orE (rn h.mod) (rn h.name) = 0 := by simpa [nameE, e] using hnm
    obtain ⟨m1, m2⟩ := orE_0 hm
    subst hk
    simp only [pre, post, kP, kPo, e, txK, kK]
    have := g_name L m1 (StN.cons (by decide)) (g_mark L (a := 46) (by decide) (g_name L m2 hE.st hT).1).1
    simpa [tN, tM, Tok.core] using this
  · have hn : rn h.name = 0 := by simpa [nameE, e] using hnm
    have := g_name L hn (StN.cons (by decide)) (g_mark L (a := 40) (by decide) (IH (41 :: rest) _ (End.cons (by decide)) (g_mark L (a := 41) (by decide) hT).1).1).1
    simpa [pre, post, kP, kPo, e, tN, tM, Tok.core] using this
  · have hm : orE (rn h.mod) (rn h.name) = 0 := by simpa [nameE, e] using hnm
    obtain ⟨m1, m2⟩ := orE_0 hm
    have := g_name L m1 (StN.cons (by decide)) (g_mark L (a := 46) (by decide) (g_name L m2 (StN.cons (by decide)) (g_mark L (a := 40) (by decide) (IH (41 :: rest) _ (End.cons (by decide)) (g_mark L (a := 41) (by decide) hT).1).1).1).1).1
    simpa [pre, post, kP, kPo, e, tN, tM, Tok.core] using this
  · have ho : h.op = 1 ∨ h.op = 2 ∨ h.op = 3 ∨ h.op = 4 := by
      simp [fitsE, e] at hfit; omega
    rcases ho with o | o | o | o
    · have := g_mark L (a := 45) (by decide) (IH rest T hE hT).1
      simpa [pre, post, kP, kPo, e, o, tM, Tok.core] using this
    · have := g_not L (IH rest T hE hT)
      simpa [pre, post, kP, kPo, e, o, tM, Tok.core] using this
    · have := g_word L L.wI ⟨105, [110, 116], rfl, by decide⟩ (by decide) (StN.cons (by decide)) (g_mark L (a := 40) (by decide) (IH (41 :: rest) _ (End.cons (by decide)) (g_mark L (a := 41) (by decide) hT).1).1).1
      simpa [pre, post, kP, kPo, e, o, tM, tW, Tok.core] using this
    · have := g_word L L.wF ⟨102, [108, 111, 97, 116], rfl, by decide⟩ (by decide) (StN.cons (by decide)) (g_mark L (a := 40) (by decide) (IH (41 :: rest) _ (End.cons (by decide)) (g_mark L (a := 41) (by decide) hT).1).1).1
      simpa [pre, post, kP, kPo, e, o, tM, tW, Tok.core] using this
  · have := IH rest T hE hT
    simpa [pre, post, kP, kPo, e] using this
  · have hk : k = .nil := len0 (by simp [fitsE, e] at hfit; exact hfit.2.2.2.2.2)
    subst hk
    have := g_word L L.wp ⟨105, [110, 112, 117, 116], rfl, by decide⟩ (by decide) hE.st hT
    simpa [pre, post, kP, kPo, e, txK, kK, tW, Tok.core] using this
/-- In parentheses, if so. -/
theorem g_par (b : Bool) (x : By) (X : List Tok) (IH : ∀ (rest : By) (T : List Co), End rest → Rd words V rest T → Gd words V (x ++ rest) (X.map Tok.core ++ T)) (rest : By) (T : List Co) (hE : End rest) (hT : Rd words V rest T) :
    Gd words V (par b x ++ rest) ((kPar b X).map Tok.core ++ T) := by
  cases b with
  | false => exact IH rest T hE hT
  | true =>
    have := g_mark L (a := 40) (by decide) (IH (41 :: rest) _ (End.cons (by decide)) (g_mark L (a := 41) (by decide) hT).1).1
    simpa [par, kPar, tM, Tok.core] using this
theorem g_kids : ∀ (k : Exs) (p : EH) (first : Bool) (hp : p.kind = 7 → 1 ≤ p.op ∧ p.op ≤ 13) (hk : errL rn cn k = 0) (hN : NnX k) (rest : By) (T : List Co), End rest → Rd words V rest T → Gd words V (txK tx p first k ++ rest) ((kK tx p first k).map Tok.core ++ T)
  | .nil, p, first, hp, hk, hN, rest, T, hE, hT => by simpa [txK, kK] using (show Gd words V rest T from ⟨hT, hE.no⟩)
  | .cons h k r, p, first, hp, hk, hN, rest, T, hE, hT => by
    obtain ⟨hR, hr⟩ := RX_kid hk
    obtain ⟨n0, n1, n2⟩ := hN
    have hq : h.kind = 7 → 1 ≤ h.op ∧ h.op ≤ 13 := by
      intro e
      have h1 := hR.1
      unfold errH at h1
      have h2 := (orE_0 h1).1
      by_cases hf : fitsE cn h k.len = true
      · simp [fitsE, e] at hf; omega
      · rw [if_neg hf] at h2; omega
    have i1 := g_kids k h true hq hR.2 n1
    have i2 := g_kids r p false hp hr n2 rest T hE hT
    have i3 := g_par L (decide (level h < kidL p first)) (Te.bare tx h k) (kB tx h k) (g_bare L h k hR n0 i1) (txK tx p false r ++ rest) _ (by
      cases r with
      | nil => simpa [txK] using hE
      | cons h' k' r' => simp only [txK, List.append_assoc]; exact sep_end p _) i2.1
    rw [txK, kK]
    cases first with
    | true => simpa [Te.bare, kB, List.append_assoc] using i3
    | false =>
      have i4 := g_sep L p hp i3.1
      simpa [Te.bare, kB, List.append_assoc] using i4
/-- An expression's text. -/
theorem g_expr (h : EH) (k : Exs) (hR : RX rn cn h k) (h0 : 0 ≤ h.vb) (hN : NnX k) (rest : By) (T : List Co) (hE : End rest) (hT : Rd words V rest T) : Gd words V (Te.bare tx h k ++ rest) ((kB tx h k).map Tok.core ++ T) := by
  refine g_bare L h k hR h0 ?_ rest T hE hT
  have hq : h.kind = 7 → 1 ≤ h.op ∧ h.op ≤ 13 := by
    intro e
    have h1 := hR.1
    unfold errH at h1
    have h2 := (orE_0 h1).1
    by_cases hf : fitsE cn h k.len = true
    · simp [fitsE, e] at hf; omega
    · rw [if_neg hf] at h2; omega
  exact g_kids L k h true hq hR.2 hN
end
end Pz
end Go.Proofs.YtpkaekokkhecmaaGreatDoor
