/- Plain: the tokens of a module's text. -/
import Derived.Test.YteijjaabngkbjaaGreatDoorPsN
import Derived.Test.YteijjaabngkbjaaGreatDoorPsI
namespace Go.Proofs.YteijjaabngkbjaaGreatDoor
set_option linter.unusedSimpArgs false
set_option linter.unusedVariables false
namespace Pz
open Lx Te

def kws : List Bs := [[108, 101, 116], [105, 102], [101, 108, 115, 101], [119, 104, 105, 108, 101], [114, 101, 116, 117, 114, 110], [115, 104, 111, 119], [102, 97, 105, 108], [116, 114, 121], [99, 97, 116, 99, 104], [99, 111, 110, 115, 116], [118, 97, 114], [102, 110], [101, 120, 112, 111, 114, 116], [105, 109, 112, 111, 114, 116], [109, 111, 100, 117, 108, 101], [105, 110, 116], [102, 108, 111, 97, 116], [98, 111, 111, 108]]
section
variable {rn : Bs → Int} {cn : Int → Int} {tx : Int → Int → Bs} {words : List By} {V : Nat → By → Int × Int × Int} (L : LawT rn cn tx words V) (hw : ∀ x ∈ kws, x ∈ words)
theorem rd_pad {u : By} {T : List Co} (h : Rd words V u T) : ∀ n, Rd words V (pad n ++ u) T
  | 0 => by simpa [pad] using h
  | n + 1 => by
    have := ((rd_pad h n).blank (c := 32) (by decide)).blank (c := 32) (by decide)
    simpa [pad, List.replicate_succ] using this
include L
theorem rd_eq {u : By} {T : List Co} (h : Rd words V u T) : Rd words V (32 :: 61 :: 32 :: u) ((5, [61], 0, 0) :: T) :=
  (Rd.mark (by decide) (fun b hb => by simp at hb; subst hb; decide) (gap0 (by decide) (by decide)) (L.mrk _) (h.blank (by decide))).blank (by decide)
theorem rd_end {u : By} {T : List Co} (h : Rd words V u T) : Rd words V (59 :: 10 :: u) ((5, [59], 0, 0) :: T) := (g_mark L (by decide) (h.blank (by decide))).1
/-- A brace, and a row's end. -/
theorem rd_br {a : UInt8} (ha : a = 123 ∨ a = 125) {u : By} {T : List Co} (h : Rd words V u T) : Rd words V (a :: 10 :: u) ((5, [a], 0, 0) :: T) := (g_mark L (by rcases ha with rfl | rfl <;> decide) (h.blank (by decide))).1
include hw
/-- A word, and a blank. -/
theorem rd_w (x : Bs) (hx : x ∈ kws) {u : By} {T : List Co} (h : Rd words V u T) : Rd words V (x ++ 32 :: u) ((2, x, 0, 0) :: T) := by
  have h1 : (∃ c r, x = c :: r ∧ ltr c = true) ∧ x.all nmB = true := by
    simp only [kws, List.mem_cons, List.not_mem_nil, or_false] at hx
    rcases hx with rfl | rfl | rfl | rfl | rfl | rfl | rfl | rfl | rfl | rfl | rfl | rfl | rfl | rfl | rfl | rfl | rfl | rfl <;> exact ⟨⟨_, _, rfl, by decide⟩, by decide⟩
  exact (g_word L (hw x hx) h1.1 h1.2 (StN.cons (by decide)) (h.blank (by decide))).1
/-- A word, and what ends it. -/
theorem rd_w2 (x : Bs) (hx : x ∈ kws) {u : By} {T : List Co} (hu : StN u) (h : Rd words V u T) : Rd words V (x ++ u) ((2, x, 0, 0) :: T) := by
  have h1 : (∃ c r, x = c :: r ∧ ltr c = true) ∧ x.all nmB = true := by
    simp only [kws, List.mem_cons, List.not_mem_nil, or_false] at hx
    rcases hx with rfl | rfl | rfl | rfl | rfl | rfl | rfl | rfl | rfl | rfl | rfl | rfl | rfl | rfl | rfl | rfl | rfl | rfl <;> exact ⟨⟨_, _, rfl, by decide⟩, by decide⟩
  exact (g_word L (hw x hx) h1.1 h1.2 hu h).1
omit hw in
theorem rd_f (x : EH) (k : Exs) (hE : errL rn cn (.cons x k .nil) = 0) (hN : NnX (.cons x k .nil)) {u : By} {T : List Co} (hu : End u) (h : Rd words V u T) : Rd words V (txF tx (.cons x k .nil) ++ u) ((kF tx (.cons x k .nil)).map Tok.core ++ T) :=
  (g_expr L x k (RX_kid hE).1 hN.1 hN.2.1 u T hu h).1
theorem rd_st : ∀ (s : Sts) (n : Nat) (rest : By) (T : List Co), errS rn cn s = 0 → NnS s → Rd words V rest T → Rd words V (stT tx s n ++ rest) ((kSt tx s).map Tok.core ++ T) := by
  intro s
  induction s with
  | nil => intro n rest T _ _ h; simpa [stT, kSt] using h
  | cons h e b l r ihb ihl ihr =>
    intro n rest T he hN hT
    rw [errS] at he
    obtain ⟨h1, h2⟩ := orE_0 he
    obtain ⟨hH, h3⟩ := orE_0 h1
    obtain ⟨hE, h4⟩ := orE_0 h3
    obtain ⟨hb, hl⟩ := orE_0 h4
    obtain ⟨n1, n2, n3, n4⟩ := hN
    have hr := ihr n rest T h2 n4 hT
    unfold errSH at hH
    obtain ⟨hfit, hnm⟩ := orE_0 hH
    have hfit : fitsS h e b.len l.len = true := by
      by_cases e' : fitsS h e b.len l.len = true
      · exact e'
      · rw [if_neg e'] at hfit; omega
    obtain ⟨kind, nm⟩ := h
    have hK : kind = 1 ∨ kind = 2 ∨ kind = 3 ∨ kind = 4 ∨ kind = 5 ∨ kind = 6 ∨ kind = 7 ∨ kind = 8 ∨ kind = 9 := by
      unfold fitsS at hfit
      simp only at hfit
      repeat' split at hfit
      all_goals first | omega | cases hfit
    rcases hK with rfl | rfl | rfl | rfl | rfl | rfl | rfl | rfl | rfl
    · simp [fitsS] at hfit
      obtain ⟨x, k, rfl⟩ := one_of hfit.1
      have hn : rn nm = 0 := by simpa [nameS] using hnm
      have := rd_pad (rd_w L hw [108, 101, 116] (by decide) (g_name L hn (StN.cons (by decide)) (rd_eq L (rd_f L x k hE n1 (End.cons (by decide)) (rd_end L hr)))).1) n
      simpa [stT, kSt, tW, tM, tN, Tok.core, List.append_assoc] using this
    · simp [fitsS] at hfit
      obtain ⟨x, k, rfl⟩ := one_of hfit.1
      have hn : rn nm = 0 := by simpa [nameS] using hnm
      have := rd_pad (g_name L hn (StN.cons (by decide)) (rd_eq L (rd_f L x k hE n1 (End.cons (by decide)) (rd_end L hr)))).1 n
      simpa [stT, kSt, tW, tM, tN, Tok.core, List.append_assoc] using this
    · simp [fitsS] at hfit
      obtain ⟨x, k, rfl⟩ := one_of hfit.1
      by_cases hl0 : 0 < l.len
      · have i1 := rd_pad (rd_br L (Or.inr rfl) hr) n
        have i2 := ihl (n + 1) _ _ hl n3 i1
        have i3 := rd_pad (g_mark L (a := 125) (by decide) ((rd_w L hw [101, 108, 115, 101] (by decide) (rd_br L (Or.inl rfl) i2)).blank (c := 32) (by decide))).1 n
        have i4 := ihb (n + 1) _ _ hb n2 i3
        have := rd_pad (rd_w L hw [105, 102] (by decide) (rd_f L x k hE n1 (End.cons (by decide)) ((rd_br L (Or.inl rfl) i4).blank (c := 32) (by decide)))) n
        simpa [stT, kSt, hl0, tW, tM, tN, Tok.core, List.append_assoc] using this
      · have i3 := rd_pad (rd_br L (Or.inr rfl) hr) n
        have i4 := ihb (n + 1) _ _ hb n2 i3
        have := rd_pad (rd_w L hw [105, 102] (by decide) (rd_f L x k hE n1 (End.cons (by decide)) ((rd_br L (Or.inl rfl) i4).blank (c := 32) (by decide)))) n
        simpa [stT, kSt, hl0, tW, tM, tN, Tok.core, List.append_assoc] using this
    · simp [fitsS] at hfit
      obtain ⟨x, k, rfl⟩ := one_of hfit.1
      have i3 := rd_pad (rd_br L (Or.inr rfl) hr) n
      have i4 := ihb (n + 1) _ _ hb n2 i3
      have := rd_pad (rd_w L hw [119, 104, 105, 108, 101] (by decide) (rd_f L x k hE n1 (End.cons (by decide)) ((rd_br L (Or.inl rfl) i4).blank (c := 32) (by decide)))) n
      simpa [stT, kSt, tW, tM, tN, Tok.core, List.append_assoc] using this
    · simp [fitsS] at hfit
      cases e with
      | nil =>
        have := rd_pad (rd_w2 L hw [114, 101, 116, 117, 114, 110] (by decide) (StN.cons (by decide)) (rd_end L hr)) n
        simpa [stT, kSt, kF, Exs.len, tW, tM, tN, Tok.core, List.append_assoc] using this
      | cons x k r0 =>
        obtain ⟨_, _, e1⟩ := one_of (e := .cons x k r0) (by have := hfit.1; simp [Exs.len] at this ⊢; omega)
        cases e1
        have := rd_pad (rd_w L hw [114, 101, 116, 117, 114, 110] (by decide) (rd_f L x k hE n1 (End.cons (by decide)) (rd_end L hr))) n
        simpa [stT, kSt, Exs.len, tW, tM, tN, Tok.core, List.append_assoc] using this
    · simp [fitsS] at hfit
      obtain ⟨x, k, rfl⟩ := one_of hfit.1
      have := rd_pad (rd_w L hw [115, 104, 111, 119] (by decide) (rd_f L x k hE n1 (End.cons (by decide)) (rd_end L hr))) n
      simpa [stT, kSt, tW, tM, tN, Tok.core, List.append_assoc] using this
    · simp [fitsS] at hfit
      obtain ⟨x, k, rfl⟩ := one_of hfit.1
      have := rd_pad (rd_w L hw [102, 97, 105, 108] (by decide) (rd_f L x k hE n1 (End.cons (by decide)) (rd_end L hr))) n
      simpa [stT, kSt, tW, tM, tN, Tok.core, List.append_assoc] using this
    · simp [fitsS] at hfit
      have hn : rn nm = 0 := by simpa [nameS] using hnm
      have i1 := rd_pad (rd_br L (Or.inr rfl) hr) n
      have i2 := ihl (n + 1) _ _ hl n3 i1
      have i3 := rd_pad (g_mark L (a := 125) (by decide) ((rd_w L hw [99, 97, 116, 99, 104] (by decide) (g_name L hn (StN.cons (by decide)) ((rd_br L (Or.inl rfl) i2).blank (c := 32) (by decide))).1).blank (c := 32) (by decide))).1 n
      have i4 := ihb (n + 1) _ _ hb n2 i3
      have := rd_pad (rd_w L hw [116, 114, 121] (by decide) (rd_br L (Or.inl rfl) i4)) n
      simpa [stT, kSt, tW, tM, tN, Tok.core, List.append_assoc] using this
    · simp [fitsS] at hfit
      obtain ⟨x, k, rfl⟩ := one_of hfit.1
      have := rd_pad (rd_f L x k hE n1 (End.cons (by decide)) (rd_end L hr)) n
      simpa [stT, kSt, tW, tM, tN, Tok.core, List.append_assoc] using this
end
end Pz
end Go.Proofs.YteijjaabngkbjaaGreatDoor
