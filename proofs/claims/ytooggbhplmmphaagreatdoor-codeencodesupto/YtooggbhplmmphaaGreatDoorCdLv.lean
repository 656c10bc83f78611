/- live: what must come at any rate. -/
import Derived.Test.YtooggbhplmmphaaGreatDoorCdVe
import Derived.Test.YtooggbhplmmphaaGreatDoorCdO
import Derived.Test.YtooggbhplmmphaaGreatDoorCdTx2
import Derived.Test.YtooggbhplmmphaaGreatDoorCdH
namespace Go.Proofs.YtooggbhplmmphaaGreatDoor.Cd
open Go.RowKit Ty
set_option linter.unusedSimpArgs false
set_option linter.unusedVariables false

theorem conv_bl {w : World} {ao : Option Addr} {cap : Nat} {l : Bs} (h : BL w ao cap l) : (convert 25 9 (.slice ao l.length cap)).run Tryz.prog w = .ok (ct l) w := by
  obtain ⟨h1, h2, h3, h4⟩ := h
  cases ao with
  | none =>
    have := h3 rfl
    subst this
    obtain rfl : l = [] := List.eq_nil_of_length_eq_zero (by omega)
    rw [show ([] : Bs).length = 0 from rfl, run_convert_bytes_string w 25 9 5 none 0 0 Tryz.underlying25 Tryz.underlying5 Tryz.underlying9]
    rfl
  | some a =>
    refine run_convert_bytes_back w 25 9 5 a cap l Tryz.underlying25 Tryz.underlying5 Tryz.underlying9 (fun j hj => ?_)
    rcases h4 with h4 | ⟨b, off, hb, h4⟩
    · rw [h4] at hj; simp at hj
    · cases hb
      have := h4 j l[j] (List.getElem?_eq_getElem hj)
      rw [show (⟨b, off, none⟩ : Addr).add j = ⟨b, off + j, none⟩ by simp [Addr.add]]
      exact this
set_option maxRecDepth 20000 in
theorem sameB_any (ao bo : Option Addr) (ca cb : Nat) (l m : Bs) (R : Bool) (w : World) (ha : BL w ao ca l) (hb : BL w bo cb m) (hR : Hidden (R = decide (l = m))) : Calls Tryz.prog 7 #[.slice ao l.length ca, .slice bo m.length cb] w fun e w' => e = .returned (.bool R) ∧ w' = w := by
  have k1 := conv_bl ha
  have k2 := conv_bl hb
  generalize l.length = n1 at k1 ⊢
  generalize m.length = n2 at k2 ⊢
  clear ha hb
  by_cases e : l = m
  · subst e
    have : R = true := by have := (show R = _ from hR); simpa using this
    subst this
    go_enter Tryz.func7, Tryz.ntmps7
    go_wp2
    go_ret
    exact ⟨ret_bl (by simp), rfl⟩
  · have : R = false := by have := (show R = _ from hR); rw [decide_eq_false e] at this; exact this
    subst this
    have eb : (l == m) = false := by simpa using e
    clear e
    go_enter Tryz.func7, Tryz.ntmps7
    go_wp2
    go_ret
    exact ⟨ret_bl (by simp_all), rfl⟩
def oneI : In := ⟨1, 0, 1, 1⟩
def fA : Fu := ⟨⟨[], 1⟩, [], [oneI, ⟨11, 0, 0, 0⟩]⟩
def fB : Fu := ⟨⟨[], 1⟩, [], [⟨11, 0, 0, 0⟩]⟩
theorem goA : ∃ L, goS fA ⟨[], []⟩ 3 (startS 2) = some (.ok L) := ⟨_, by rfl⟩
theorem goB : goS fB ⟨[], []⟩ 2 (startS 1) = some (.er 0 51) := by rfl
theorem encL : encA [oneI, ⟨10, 258, 0, 0⟩, ⟨11, 0, 0, 0⟩] = (0, [1, 1, 0, 0, 0, 0, 0, 0, 0, 1, 10, 1, 2, 11]) := by rfl
theorem textL : textS oneI = [112, 117, 115, 104, 32, 49] := by decide +kernel
end Go.Proofs.YtooggbhplmmphaaGreatDoor.Cd
