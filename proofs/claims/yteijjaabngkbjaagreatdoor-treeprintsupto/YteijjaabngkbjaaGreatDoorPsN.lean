/- Plain: modules are read back. -/
import Derived.Test.YteijjaabngkbjaaGreatDoorPsM
import Derived.Test.YteijjaabngkbjaaGreatDoorPsT
namespace Go.Proofs.YteijjaabngkbjaaGreatDoor
set_option linter.unusedSimpArgs false
set_option linter.unusedVariables false
namespace Pz
open Lx Te

section
variable {rn : Bs → Int} {cn : Int → Int} {tx : Int → Int → Bs} (L : Law rn cn tx) (hEl : ∀ x, rn x = 0 → x ≠ [101, 108, 115, 101])
/-- What is right in a declaration. -/
theorem errD_of {d : De} (h : errD rn cn d = 0) : dD d ≤ 32 ∧ fitsD d = true ∧ rn d.name = 0 ∧ d.params.length ≤ 8 ∧ errP rn d.params = 0 ∧ errL rn cn d.e = 0 ∧ errS rn cn d.body = 0 := by
  unfold errD at h
  obtain ⟨h1, h⟩ := orE_0 h
  obtain ⟨h2, h⟩ := orE_0 h
  obtain ⟨h3, h⟩ := orE_0 h
  obtain ⟨h4, h⟩ := orE_0 h
  obtain ⟨h5, h⟩ := orE_0 h
  obtain ⟨h6, h7⟩ := orE_0 h
  refine ⟨?_, ?_, h3, ?_, h5, h6, h7⟩
  · by_cases e : 32 < dD d
    · rw [if_pos e] at h1; omega
    · omega
  · by_cases e : fitsD d = true
    · exact e
    · rw [if_neg e] at h2; omega
  · by_cases e : 8 < d.params.length
    · rw [if_pos e] at h4; omega
    · omega
theorem dD_of {d : De} (h : dD d ≤ 32) : dL d.e 0 0 ≤ 32 ∧ (d.kind = 3 → dS d.body 1 1 ≤ 32) := by
  unfold dD at h
  refine ⟨?_, ?_⟩
  · split at h <;> omega
  · intro e
    rw [if_pos (Or.inl e)] at h
    omega
include L hEl
theorem dcl_ok (d : De) (he : errD rn cn d = 0) (hN : NnD d) (g : Nat) (rest : List Tok) (hg : (kDe tx d ++ rest).length < g) : dcl (E0 g) (B0 g) g false (kDe tx d ++ rest) = some (.ok d rest) := by
  obtain ⟨h1, h2, h3, h4, h5, h6, h7⟩ := errD_of he
  obtain ⟨d1, d2⟩ := dD_of h1
  have hK : d.kind = 1 ∨ d.kind = 2 ∨ d.kind = 3 := by
    unfold fitsD at h2
    repeat' split at h2
    all_goals first | omega | cases h2
  rcases hK with e | e | e
  · simp [fitsD, e] at h2
    obtain ⟨t1, t2, t3, t4⟩ := h2
    have hh := holder_ok L d 1 e (by simpa using t3) (len0S t4) t1 t2 h6 hN.1 d1 g rest
    rw [kDe, if_pos e] at hg ⊢
    cases hx : d.ex with
    | true =>
      rw [hx] at hh hg
      simp only [kEx, if_true, List.cons_append, List.nil_append, List.length_cons] at hg ⊢
      rw [dcl, if_pos (by rfl), if_neg (by decide), dcl2, if_pos (by rfl), if_neg (by decide), hh (by omega)]
    | false =>
      rw [hx] at hh hg
      simp only [kEx, Bool.false_eq_true, if_false, List.cons_append, List.nil_append, List.length_cons] at hg ⊢
      rw [dcl, if_neg (by decide), dcl2, if_pos (by rfl), if_neg (by decide), hh (by omega)]
  · simp [fitsD, e] at h2
    obtain ⟨⟨t0, t1⟩, t2, t3, t4⟩ := h2
    have hh := holder_ok L d 2 e (by simpa using t3) (len0S t4) t1 t2 h6 hN.1 d1 g rest
    rw [kDe, if_neg (by omega), if_pos e] at hg ⊢
    rw [t0] at hh
    simp only [List.cons_append, List.length_cons] at hg ⊢
    rw [dcl, if_neg (by decide), dcl2, if_neg (by decide), if_pos ⟨rfl, by rfl⟩, if_neg (by decide), hh (by omega)]
  · simp [fitsD, e] at h2
    obtain ⟨t1, t2⟩ := h2
    have hh := fnc_ok L hEl d e (len0 t2) t1 (errP_of d.params h5) h4 h7 hN.2 (d2 e) g rest
    rw [kDe, if_neg (by omega), if_neg (by omega)] at hg ⊢
    cases hx : d.ex with
    | true =>
      rw [hx] at hh hg
      simp only [kEx, if_true, List.cons_append, List.nil_append, List.length_cons] at hg ⊢
      rw [dcl, if_pos (by rfl), if_neg (by decide), dcl2, if_neg (by decide), if_neg (by rintro ⟨h, _⟩; cases h), if_pos (by rfl), if_neg (by decide), hh (by omega)]
    | false =>
      rw [hx] at hh hg
      simp only [kEx, Bool.false_eq_true, if_false, List.cons_append, List.nil_append, List.length_cons] at hg ⊢
      rw [dcl, if_neg (by decide), dcl2, if_neg (by decide), if_neg (by rintro ⟨_, h⟩; revert h; decide), if_pos (by rfl), if_neg (by decide), hh (by omega)]
omit L hEl in
theorem kDe_head (d : De) : ∃ a b r, kDe tx d = a :: b :: r ∧ a.x ≠ [105, 109, 112, 111, 114, 116] := by
  unfold kDe
  by_cases e : d.kind = 1
  · rw [if_pos e]
    cases d.ex
    · exact ⟨_, _, _, rfl, by decide⟩
    · exact ⟨_, _, _, rfl, by decide⟩
  · rw [if_neg e]
    by_cases e2 : d.kind = 2
    · rw [if_pos e2]
      exact ⟨_, _, _, rfl, by decide⟩
    · rw [if_neg e2]
      cases d.ex
      · exact ⟨_, _, _, rfl, by decide⟩
      · exact ⟨_, _, _, rfl, by decide⟩
theorem dcls_ok : ∀ (ds : List De) (g f : Nat) (acc : List De) (t : Tok), errDs rn cn ds = 0 → (∀ d ∈ ds, NnD d) → acc.length + ds.length ≤ 64 → ds.length < f → (ds.flatMap (kDe tx) ++ [t]).length < g → dcls (E0 g) (B0 g) g f acc (ds.flatMap (kDe tx) ++ [t]) = some (.ok (acc ++ ds) [t])
  | [], g, f, acc, t, _, _, _, hf, _ => by
    obtain ⟨f, rfl⟩ : ∃ x, f = x + 1 := ⟨f - 1, by simp at hf; omega⟩
    rw [List.flatMap_nil, List.nil_append, dcls, List.append_nil]
  | d :: ds, g, f, acc, t, he, hN, hl, hf, hg => by
    obtain ⟨f, rfl⟩ : ∃ x, f = x + 1 := ⟨f - 1, by simp at hf; omega⟩
    rw [errDs] at he
    obtain ⟨h1, h2⟩ := orE_0 he
    simp only [List.length_cons] at hl hf
    have hfl : (acc.length == 64) = false := by simp; omega
    rw [List.flatMap_cons, List.append_assoc] at hg ⊢
    have hd := dcl_ok L hEl d h1 (hN d (by simp)) g (ds.flatMap (kDe tx) ++ [t]) hg
    have hr := dcls_ok ds g f (acc ++ [d]) t h2 (fun x hx => hN x (by simp [hx])) (by simp only [List.length_append, List.length_cons, List.length_nil]; omega) (by omega) (by simp only [List.length_append, List.length_cons] at hg ⊢; omega)
    obtain ⟨a, b, r, e, _⟩ := kDe_head (tx := tx) d
    rw [e, List.cons_append, List.cons_append] at hd ⊢
    rw [dcls, hfl, hd, bd_ok, hr]
    simp
omit L hEl in
theorem imps_ok : ∀ (is : List Bs) (f : Nat) (acc : List Bs) (t : Tok) (rest : List Tok), t.x ≠ [105, 109, 112, 111, 114, 116] → acc.length + is.length ≤ 16 → is.length < f → imps f acc (is.flatMap kIm ++ t :: rest) = some (.ok (acc ++ is) (t :: rest))
  | [], f, acc, t, rest, ht, _, hf => by
    obtain ⟨f, rfl⟩ : ∃ x, f = x + 1 := ⟨f - 1, by simp at hf; omega⟩
    rw [List.flatMap_nil, List.nil_append, imps, if_neg ht, List.append_nil]
  | x :: is, f, acc, t, rest, ht, hl, hf => by
    obtain ⟨f, rfl⟩ : ∃ x, f = x + 1 := ⟨f - 1, by simp at hf; omega⟩
    simp only [List.length_cons] at hl hf
    have hfl : (acc.length == 16) = false := by simp; omega
    have hr := imps_ok is f (acc ++ [x]) t rest ht (by simp only [List.length_append, List.length_cons, List.length_nil]; omega) (by omega)
    rw [List.flatMap_cons, List.append_assoc, kIm, List.cons_append, List.cons_append, List.cons_append, List.nil_append, imps, if_pos (by rfl), hfl, imp1, must_y (by rfl), bd_ok, name_y, bd_ok, must_y (by rfl), bd_ok, bd_ok, hr]
    simp
theorem mdl_back (m : Mo) (he : errM rn cn m = 0) (hN : ∀ d ∈ m.decls, NnD d) (n g : Nat) (hg : (kMo tx m).length + 1 < g) : mdl g (kMo tx m ++ [endT n]) = some (.ok m [endT n]) := by
  unfold errM at he
  obtain ⟨h1, he⟩ := orE_0 he
  obtain ⟨h2, he⟩ := orE_0 he
  obtain ⟨h3, he⟩ := orE_0 he
  obtain ⟨h4, h5⟩ := orE_0 he
  have h2 : m.imports.length ≤ 16 := by
    by_cases e : 16 < m.imports.length
    · rw [if_pos e] at h2; omega
    · omega
  have h4 : m.decls.length ≤ 64 := by
    by_cases e : 64 < m.decls.length
    · rw [if_pos e] at h4; omega
    · omega
  have hT : kMo tx m ++ [endT n] = tW [109, 111, 100, 117, 108, 101] :: tN m.name :: tM [59] :: (m.imports.flatMap kIm ++ (m.decls.flatMap (kDe tx) ++ [endT n])) := by simp [kMo]
  have hlen : (kMo tx m).length = 3 + (m.imports.flatMap kIm).length + (m.decls.flatMap (kDe tx)).length := by simp [kMo]; omega
  have hi : m.imports.length ≤ (m.imports.flatMap kIm).length := by
    clear h3 h2 hT hlen
    induction m.imports with
    | nil => simp
    | cons x l ih => simp only [List.flatMap_cons, List.length_append, List.length_cons, kIm, List.length_nil]; omega
  have hdl : m.decls.length ≤ (m.decls.flatMap (kDe tx)).length := by
    clear h5 h4 hT hlen hN
    induction m.decls with
    | nil => simp
    | cons d l ih =>
      obtain ⟨a, b, r, e, _⟩ := kDe_head (tx := tx) d
      simp only [List.flatMap_cons, List.length_append, List.length_cons, e]
      omega
  have hds := dcls_ok L hEl m.decls g g [] (endT n) h5 hN (by simpa using h4) (by omega) (by simp only [List.length_append, List.length_cons, List.length_nil]; omega)
  obtain ⟨t, r, e1, e2⟩ : ∃ t r, m.decls.flatMap (kDe tx) ++ [endT n] = t :: r ∧ t.x ≠ [105, 109, 112, 111, 114, 116] := by
    cases m.decls with
    | nil => exact ⟨endT n, [], rfl, by simp [endT]⟩
    | cons d l =>
      obtain ⟨a, b, r, e, e'⟩ := kDe_head (tx := tx) d
      exact ⟨a, b :: (r ++ (l.flatMap (kDe tx) ++ [endT n])), by simp [e], e'⟩
  rw [hT, mdl, must_y (by rfl), bd_ok, name_y, bd_ok, must_y (by rfl), bd_ok, e1, imps_ok m.imports g [] t r e2 (by simpa using h2) (by omega), bd_ok, ← e1, hds, bd_ok]
  simp
/-- P703, of a module. -/
theorem parT_back (m : Mo) (he : errM rn cn m = 0) (hN : ∀ d ∈ m.decls, NnD d) (ts : List Tok) (hts : ts.map Tok.core = (kMo tx m).map Tok.core) (n : Nat) : parT ts n = some (some m, 0, 0) := by
  have hlen : ts.length = (kMo tx m).length := by have := congrArg List.length hts; simpa using this
  have h0 : parT (kMo tx m) n = some (some m, 0, 0) := by
    unfold parT
    rw [mdl_back L hEl m he hN n _ (by omega)]
    rfl
  obtain ⟨p', h1⟩ := parT_al (show Al (kMo tx m) ts from hts.symm) n n (some m) 0 0 h0
  have hp : p' = 0 := by
    unfold parT at h1
    generalize mdl (ts.length + 2) (ts ++ [endT n]) = x at h1
    match x, h1 with
    | some (.ok a [t]), h1 => simp only [whole, Option.some.injEq, Prod.mk.injEq] at h1; omega
  rw [h1, hp]
end
end Pz
end Go.Proofs.YteijjaabngkbjaaGreatDoor
