/- The law LexBlanks. -/
import Derived.Test.YtdhiombagbiffaaDoorLxBl3
namespace Go.Proofs.YtdhiombagbiffaaDoor
open Go.RowKit Lx
set_option linter.unusedSimpArgs false
set_option linter.unusedVariables false

theorem place_le (l : By) (ts : List Tok) (i : Nat) (t : Tok) (h : Toks wordsL valS (gap l) (l.drop (gap l)) ts) (hi : ts[i]? = some t) : t.p ≤ l.length := by
  have hE1 : ∀ m : Bool, gapM m [32] = ([32] : By).length := by intro m; cases m <;> decide
  obtain ⟨d, hd1, hd2, _⟩ := toks_put wordsL valS [32] [32] 32 [] rfl (by decide) (fun z => put_gap 0 [] (by simp) z) hE1 ⟨32, [], rfl, by decide⟩ h i t hi
  rw [List.length_drop] at hd2
  simp only [gap] at hd1 hd2
  omega
theorem lexBlanks.walk (l : By) (which what : Int) (m : By) (w : World) (hl : l.length ≤ 140737488351232) (w1 : (Lit.int .i64 which).wf = true) (w2 : (Lit.int .i64 what).wf = true) (hm : m.length ≤ 140737488351232) (htab : F.Tab w) :
    Calls Tryd.prog 8 #[.string ⟨l.toArray⟩, .int .i64 which, .int .i64 what, .string ⟨m.toArray⟩] w fun e w' => e = .returned (.bool true) ∧ Fr (fun _ => False) w w' := by
  obtain ⟨ts, q, er, hR⟩ : ∃ ts q er, lexS wordsL valS l = (ts, q, er) := ⟨_, _, _, rfl⟩
  rcases toks_of_lexS wordsL valS l ts q er hR with ⟨rfl, rfl, h1, h2, h3⟩ | ⟨h1, rfl, h2⟩
  · by_cases hw : which < 0 ∨ (¬ which < 0 ∧ (ts.length : Int) ≤ which)
    · exact blanks_out l m which what ts h2 h1 hw hR w htab
    · obtain ⟨i, rfl⟩ : ∃ i : Nat, which = (i : Int) := ⟨which.toNat, by omega⟩
      have hi : i < ts.length := by omega
      obtain ⟨t, ht⟩ : ∃ t, ts[i]? = some t := ⟨ts[i], List.getElem?_eq_getElem hi⟩
      have hp : t.p ≤ l.length := place_le l ts i t h3 ht
      exact blanks_main l m what ts i t h2 hm h1 hi ht hp hR (fun hno hlen => (blanks_math l m what ts i t hno h3 h1 ht hlen).2) w htab
  · exact blanks_bad l m which what q er hl h1 hR w htab
end Go.Proofs.YtdhiombagbiffaaDoor
