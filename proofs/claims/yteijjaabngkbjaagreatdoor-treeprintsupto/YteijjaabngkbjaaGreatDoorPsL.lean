/- Plain: blocks are read back. -/
import Derived.Test.YteijjaabngkbjaaGreatDoorPsK
namespace Go.Proofs.YteijjaabngkbjaaGreatDoor
set_option linter.unusedSimpArgs false
set_option linter.unusedVariables false
namespace Pz
open Lx Te

section
variable {rn : Bs → Int} {cn : Int → Int} {tx : Int → Int → Bs} (L : Law rn cn tx) (hEl : ∀ x, rn x = 0 → x ≠ [101, 108, 115, 101])
/-- Statements up to a block's end. -/
def StOk (rn : Bs → Int) (cn : Int → Int) (tx : Int → Int → Bs) (g : Nat) (s : Sts) : Prop := ∀ (f d g' : Nat) (acc : Sts) (a' : Int) (rest : List Tok), errS rn cn s = 0 → NnS s → (kSt tx s ++ tM [125] :: rest).length < g → (kSt tx s ++ tM [125] :: rest).length ≤ g' → (kSt tx s).length ≤ f → d ≤ 32 → dS s (d : Int) a' ≤ 32 →
  sts (stm (E0 g) (C0 g) (blk (E0 g) (C0 g) g f) d) g' acc (kSt tx s ++ tM [125] :: rest) = some (.ok (acc.app s) (tM [125] :: rest))
theorem blk_back (g : Nat) (s : Sts) (h : StOk rn cn tx g s) (f d : Nat) (rest : List Tok) (he : errS rn cn s = 0) (hN : NnS s) (hg : (tM [123] :: (kSt tx s ++ tM [125] :: rest)).length < g) (hf : (kSt tx s).length < f) (hd : d ≤ 32) (hD : dS s ((d : Int) + 1) ((d : Int) + 1) ≤ 32) :
    blk (E0 g) (C0 g) g f d (tM [123] :: (kSt tx s ++ tM [125] :: rest)) = some (.ok s rest) := by
  obtain ⟨f, rfl⟩ : ∃ x, f = x + 1 := ⟨f - 1, by omega⟩
  have h1 := dS_acc s ((d : Int) + 1) ((d : Int) + 1)
  simp only [List.length_cons] at hg
  have hs := h f (d + 1) g .nil ((d : Int) + 1) rest he hN (by omega) (by omega) (by omega) (by omega) (by simpa using hD)
  rw [blk, opn, if_pos (by rfl), if_neg (by omega), if_neg (by decide), bd_ok, hs, bd_ok, must_y (by rfl), bd_ok]
  rfl
include L hEl
theorem st_head (s : Sts) (he : errS rn cn s = 0) (hN : NnS s) (g d : Nat) (hg : (kSt tx s ++ [tM [125]]).length + 1 < g) : ∀ rest, ∃ t r, kSt tx s ++ tM [125] :: rest = t :: r ∧ t.x ≠ [101, 108, 115, 101] ∧ (s = .nil ∨ t.x ≠ [125]) := by
  intro rest
  cases s with
  | nil => exact ⟨tM [125], rest, rfl, by decide, Or.inl rfl⟩
  | cons h e b l r =>
    rw [errS] at he
    obtain ⟨h1, _⟩ := orE_0 he
    obtain ⟨h2, h3⟩ := orE_0 h1
    obtain ⟨h4, _⟩ := orE_0 h3
    obtain ⟨u, r', e1, e2⟩ := one_head L h e b l h2 h4 hN.1
    refine ⟨u, r' ++ (kSt tx r ++ tM [125] :: rest), by rw [kSt_cons, e1]; simp, ?_, Or.inr ?_⟩
    · rcases e2 with ⟨n, rfl, hn⟩ | e2
      · exact hEl n hn
      · exact e2.1
    · rcases e2 with ⟨n, rfl, hn⟩ | e2
      · obtain ⟨c, r'', e3, hc⟩ := L.nm n hn
        intro e4
        simp only [tN] at e4
        rw [e3] at e4
        cases e4
        revert hc; decide
      · exact e2.2
theorem sts_back (g : Nat) : ∀ (s : Sts), StOk rn cn tx g s := by
  intro s
  induction s with
  | nil =>
    intro f d g' acc a' rest _ _ _ hg' _ _ _
    obtain ⟨g', rfl⟩ : ∃ x, g' = x + 1 := ⟨g' - 1, by simp only [List.length_append, List.length_cons] at hg'; omega⟩
    rw [kSt, List.nil_append, sts, if_pos (by rfl), Sts.app_nil]
  | cons h e b l r ihb ihl ihr =>
    intro f d g' acc a' rest he hN hg hg' hf hd hD
    have he0 := he
    rw [errS] at he
    obtain ⟨h1, h2⟩ := orE_0 he
    obtain ⟨hH, h3⟩ := orE_0 h1
    obtain ⟨hE, h4⟩ := orE_0 h3
    obtain ⟨hb, hl⟩ := orE_0 h4
    obtain ⟨n1, n2, n3, n4⟩ := hN
    obtain ⟨d1, d2, d3, acc', d4⟩ := dS_cons (by omega) (by omega) hD
    obtain ⟨u, ru, e1, e2⟩ := one_head L h e b l hH hE n1
    have hlen : 0 < (kOne tx h e b l).length := by rw [e1]; simp
    have hbl := one_len (rn := rn) (tx := tx) h e b l
    rw [kSt_cons] at hg hg' hf ⊢
    simp only [List.length_append] at hf
    have hl0 : (kOne tx h e b l ++ kSt tx r ++ tM [125] :: rest).length = (kOne tx h e b l).length + (kSt tx r).length + (rest.length + 1) := by simp only [List.length_append, List.length_cons]
    rw [hl0] at hg hg'
    obtain ⟨t, r', e3, e4, _⟩ := st_head L hEl r h2 n4 (((kSt tx r ++ [tM [125]]).length + 1) + 1) d (by omega) rest
    have e3l : (kSt tx r).length + (rest.length + 1) = r'.length + 1 := by have := congrArg List.length e3; simp only [List.length_append, List.length_cons] at this; exact this
    have hs := stm_back L h e b l g d (blk (E0 g) (C0 g) g f) t r' e4 hH hE n1 hd d1 (by simp only [List.length_append, List.length_cons]; omega)
      (fun hB r0 hr0 => blk_back g b ihb f d r0 hb n2 hr0 (by have := hbl.1 hB; omega) hd (d2 (Or.inl hB)))
      (fun hL r0 hr0 => blk_back g l ihl f d r0 hl n3 hr0 (by have := hbl.2 hL hH; omega) hd (d3 hL))
    have hr := ihr f d (g' - 1) (acc.app (.cons h e b l .nil)) acc' rest h2 n4 (by simp only [List.length_append, List.length_cons]; omega) (by simp only [List.length_append, List.length_cons]; omega) (by omega) hd d4
    obtain ⟨g', rfl⟩ : ∃ x, g' = x + 1 := ⟨g' - 1, by omega⟩
    rw [Nat.add_sub_cancel] at hr
    have hu : u.x ≠ [125] := by
      rcases e2 with ⟨n, rfl, hn⟩ | e2
      · obtain ⟨c, r'', e3, hc⟩ := L.nm n hn
        intro e4
        simp only [tN] at e4
        rw [e3] at e4
        cases e4
        revert hc; decide
      · exact e2.2
    rw [e1, List.cons_append] at hs
    rw [List.append_assoc, e3, e1, List.cons_append, sts, if_neg hu, hs.1, bd_ok, ← e3, hr, Sts.app_assoc]
    rfl
end
end Pz
end Go.Proofs.YteijjaabngkbjaaGreatDoor
