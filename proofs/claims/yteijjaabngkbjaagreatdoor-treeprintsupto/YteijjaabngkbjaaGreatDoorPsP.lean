/- Plain: the tokens of a module's text (2); a module's text is read back. -/
import Derived.Test.YteijjaabngkbjaaGreatDoorPsO
namespace Go.Proofs.YteijjaabngkbjaaGreatDoor
set_option linter.unusedSimpArgs false
set_option linter.unusedVariables false
namespace Pz
open Lx Te

section
variable {rn : Bs → Int} {cn : Int → Int} {tx : Int → Int → Bs} {words : List By} {V : Nat → By → Int × Int × Int} (L : LawT rn cn tx words V) (hw : ∀ x ∈ kws, x ∈ words)
include L hw
theorem rd_ty {t : Int} (ht : t = 0 ∨ isTy t = true) {u : By} {T : List Co} (hu : StN u) (h : Rd words V u T) : Rd words V (tyT t ++ u) ((kTy t).map Tok.core ++ T) ∧ StN (tyT t ++ u) := by
  have ht : t = 0 ∨ t = 1 ∨ t = 2 ∨ t = 3 := by
    rcases ht with rfl | ht
    · exact Or.inl rfl
    · exact Or.inr (isTy_c ht)
  rcases ht with rfl | rfl | rfl | rfl
  · exact ⟨h, hu⟩
  · exact ⟨(g_mark L (a := 58) (by decide) ((rd_w2 L hw [105, 110, 116] (by decide) hu h).blank (c := 32) (by decide))).1, StN.cons (by decide)⟩
  · exact ⟨(g_mark L (a := 58) (by decide) ((rd_w2 L hw [102, 108, 111, 97, 116] (by decide) hu h).blank (c := 32) (by decide))).1, StN.cons (by decide)⟩
  · exact ⟨(g_mark L (a := 58) (by decide) ((rd_w2 L hw [98, 111, 111, 108] (by decide) hu h).blank (c := 32) (by decide))).1, StN.cons (by decide)⟩
theorem rd_p1 (p : Pa) (h1 : rn p.name = 0) (h2 : isTy p.type = true) {u : By} {T : List Co} (hu : StN u) (h : Rd words V u T) : Rd words V (p.name ++ tyT p.type ++ u) ((kP1 p).map Tok.core ++ T) := by
  have i1 := rd_ty L hw (Or.inr h2) hu h
  have := (g_name L h1 i1.2 i1.1).1
  simpa [kP1, tN, Tok.core, List.append_assoc] using this
theorem rd_pa : ∀ (ps : List Pa) (hp : ∀ p ∈ ps, rn p.name = 0 ∧ isTy p.type = true) {u : By} {T : List Co} (hu : StN u) (h : Rd words V u T), Rd words V (paT ps ++ u) ((kPa ps).map Tok.core ++ T)
  | [], _, u, T, hu, h => h
  | [p], hp, u, T, hu, h => by
    have := rd_p1 L hw p (hp p (by simp)).1 (hp p (by simp)).2 hu h
    simpa [paT, kPa] using this
  | p :: q :: r, hp, u, T, hu, h => by
    have i1 := rd_pa (q :: r) (fun x hx => hp x (by simp at hx ⊢; right; exact hx)) hu h
    have i2 := (g_mark L (a := 44) (by decide) (i1.blank (c := 32) (by decide))).1
    have := rd_p1 L hw p (hp p (by simp)).1 (hp p (by simp)).2 (StN.cons (by decide)) i2
    simpa [paT, kPa, tM, Tok.core, List.append_assoc] using this
theorem rd_ex (b : Bool) {u : By} {T : List Co} (h : Rd words V u T) : Rd words V (exT b ++ u) ((kEx b).map Tok.core ++ T) := by
  cases b
  · exact h
  · exact rd_w L hw [101, 120, 112, 111, 114, 116] (by decide) h
theorem rd_ho (d : De) (h1 : isTy d.type = true) (h2 : d.e.len = 1) (h3 : rn d.name = 0) (hE : errL rn cn d.e = 0) (hN : NnX d.e) {u : By} {T : List Co} (h : Rd words V u T) : Rd words V (d.name ++ tyT d.type ++ [32, 61, 32] ++ txF tx d.e ++ [59, 10] ++ u) ((kHo tx d).map Tok.core ++ T) := by
  obtain ⟨kind', ex, nm, ty, ps, e, body⟩ := d
  simp only at h1 h2 h3 hE hN ⊢
  obtain ⟨x, k, rfl⟩ := one_of h2
  have i1 := rd_eq L (rd_f L x k hE hN (End.cons (by decide)) (rd_end L h))
  have i2 := rd_ty L hw (Or.inr h1) (StN.cons (by decide)) i1
  have := (g_name L h3 i2.2 i2.1).1
  simpa [kHo, tM, tN, Tok.core, List.append_assoc] using this
theorem rd_de (d : De) (he : errD rn cn d = 0) (hN : NnD d) {u : By} {T : List Co} (h : Rd words V u T) : Rd words V (deT tx d ++ u) ((kDe tx d).map Tok.core ++ T) := by
  obtain ⟨h1, h2, h3, h4, h5, h6, h7⟩ := errD_of he
  have hK : d.kind = 1 ∨ d.kind = 2 ∨ d.kind = 3 := by
    unfold fitsD at h2
    repeat' split at h2
    all_goals first | omega | cases h2
  rcases hK with e | e | e
  · simp [fitsD, e] at h2
    obtain ⟨t1, t2, t3, t4⟩ := h2
    have := rd_ex L hw d.ex (rd_w L hw [99, 111, 110, 115, 116] (by decide) (rd_ho L hw d t1 t2 h3 h6 hN.1 h))
    simpa [deT, kDe, e, tW, Tok.core, List.append_assoc] using this
  · simp [fitsD, e] at h2
    obtain ⟨⟨t0, t1⟩, t2, t3, t4⟩ := h2
    have := rd_w L hw [118, 97, 114] (by decide) (rd_ho L hw d t1 t2 h3 h6 hN.1 h)
    simpa [deT, kDe, e, tW, Tok.core, List.append_assoc] using this
  · simp [fitsD, e] at h2
    obtain ⟨t1, t2⟩ := h2
    have i1 := rd_st L hw d.body 1 _ _ h7 hN.2 (rd_br L (Or.inr rfl) h)
    have i2 := (rd_br L (Or.inl rfl) i1).blank (c := 32) (by decide)
    have i3 := rd_ty L hw t1 (StN.cons (by decide)) i2
    have i4 := rd_pa L hw d.params (errP_of d.params h5) (StN.cons (by decide)) (g_mark L (a := 41) (by decide) i3.1).1
    have i5 := (g_name L h3 (StN.cons (by decide)) (g_mark L (a := 40) (by decide) i4).1).1
    have := rd_ex L hw d.ex (rd_w L hw [102, 110] (by decide) i5)
    simpa [deT, kDe, kFn, e, tW, tM, tN, Tok.core, List.append_assoc] using this
theorem rd_des : ∀ (ds : List De), errDs rn cn ds = 0 → (∀ d ∈ ds, NnD d) → Rd words V (ds.flatMap (deT tx)) ((ds.flatMap (kDe tx)).map Tok.core)
  | [], _, _ => Rd.nil
  | d :: ds, he, hN => by
    rw [errDs] at he
    obtain ⟨h1, h2⟩ := orE_0 he
    have := rd_de L hw d h1 (hN d (by simp)) (rd_des ds h2 (fun x hx => hN x (by simp [hx])))
    simpa using this
theorem rd_im : ∀ (is : List Bs), errI rn is = 0 → ∀ {u : By} {T : List Co}, Rd words V u T → Rd words V (is.flatMap (fun x => [105, 109, 112, 111, 114, 116, 32] ++ x ++ [59, 10]) ++ u) ((is.flatMap kIm).map Tok.core ++ T)
  | [], _, u, T, h => h
  | x :: is, he, u, T, h => by
    rw [errI] at he
    obtain ⟨h1, h2⟩ := orE_0 he
    have := rd_w L hw [105, 109, 112, 111, 114, 116] (by decide) (g_name L h1 (StN.cons (by decide)) (rd_end L (rd_im is h2 h))).1
    simpa [kIm, tW, tM, tN, Tok.core, List.append_assoc] using this
/-- A module's text. -/
theorem rd_mo (m : Mo) (he : errM rn cn m = 0) (hN : ∀ d ∈ m.decls, NnD d) : Rd words V (moT tx m) ((kMo tx m).map Tok.core) := by
  unfold errM at he
  obtain ⟨h1, he⟩ := orE_0 he
  obtain ⟨h2, he⟩ := orE_0 he
  obtain ⟨h3, he⟩ := orE_0 he
  obtain ⟨h4, h5⟩ := orE_0 he
  have := rd_w L hw [109, 111, 100, 117, 108, 101] (by decide) (g_name L h1 (StN.cons (by decide)) (rd_end L (rd_im L hw m.imports h3 (rd_des L hw m.decls h5 hN)))).1
  simpa [moT, kMo, tW, tM, tN, Tok.core, List.append_assoc] using this
/-- P703, of a module's text. -/
theorem mod_back (hi : ∀ vb, 0 ≤ vb → ∃ c r, tx 1 vb = c :: r ∧ dgt c = true) (m : Mo) (he : errM rn cn m = 0) (hN : ∀ d ∈ m.decls, NnD d) (ts : List Tok) (q : Nat) (hl : lexS words V (moT tx m) = (ts, q, 0)) (n : Nat) : parT ts n = some (some m, 0, 0) :=
  parT_back (L.law hi) (fun x hx e => (L.nm x hx).2.2.1 (by rw [e]; exact hw _ (by decide))) m he hN ts (rd_lex (rd_mo L hw m he hN) hl) n
end
end Pz
end Go.Proofs.YteijjaabngkbjaaGreatDoor
