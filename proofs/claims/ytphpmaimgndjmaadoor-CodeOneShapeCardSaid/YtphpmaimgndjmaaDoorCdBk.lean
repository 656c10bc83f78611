/- CodeBack, walked. -/
import Derived.Test.YtphpmaimgndjmaaDoorCdDe
import Derived.Test.YtphpmaimgndjmaaDoorCdSc
import Derived.Test.YtphpmaimgndjmaaDoorCdLAll
import Derived.Test.YtphpmaimgndjmaaDoorCdIn
namespace Go.Proofs.YtphpmaimgndjmaaDoor.Cd
open Go.RowKit Ty
set_option linter.unusedSimpArgs false
set_option linter.unusedVariables false

theorem dec_ok {b : Bs} (h : (decS b).1 = 0) : b = encS (decS b).2 ∧ (∀ i ∈ (decS b).2, rightS i = true ∧ U64 i.b) ∧ (decS b).2.length ≤ 4096 := by
  obtain ⟨l, h1, h2, h3, h4⟩ := decGo_ok (b.length + 1) [] b (decS b).2 (by omega) (by unfold decS at h ⊢; exact Prod.ext h rfl) (by simp)
  rw [List.nil_append] at h1
  rw [h1]
  rw [h1] at h4
  exact ⟨h2, h3, h4⟩
theorem dec_err {b : Bs} (h : (decS b).1 ≠ 0) : (decS b).2 = [] := decGo_err (b.length + 1) [] b (by omega) h
theorem enc_ok {l : List In} (h : (encA l).1 = 0) : encA l = (0, encS l) ∧ (∀ i ∈ l, rightS i = true) ∧ l.length ≤ 4096 := by
  unfold encA at h ⊢
  by_cases h1 : 4096 < l.length
  · rw [if_pos h1] at h; simp at h
  · rw [if_neg h1] at h ⊢
    by_cases h2 : l.all rightS = true
    · rw [if_pos h2] at h ⊢
      exact ⟨rfl, List.all_eq_true.1 h2, by omega⟩
    · rw [if_neg h2] at h; simp at h
theorem enc_err {l : List In} (h : (encA l).1 ≠ 0) : (encA l).2 = [] := by
  unfold encA at h ⊢
  by_cases h1 : 4096 < l.length
  · rw [if_pos h1]
  · rw [if_neg h1] at h ⊢
    by_cases h2 : l.all rightS = true
    · rw [if_pos h2] at h; simp at h
    · rw [if_neg h2]
theorem enc_of (ao : Option Addr) (l : List In) (hok : ∀ i ∈ l, U64 i.b) (cap : Nat) (w : World) (h : IL w ao cap l) :
    Calls Tryd.prog 13 #[.slice ao l.length cap] w fun e w' => ∃ yo cy, e = .returned (.tuple #[.slice yo (encA l).2.length cy, ci (encA l).1]) ∧ BL w' yo cy (encA l).2 ∧ Fr (fun _ => False) w w' := by
  refine (encode_any ao cap l w h hok).mono ?_
  rintro e w' ⟨v, rfl, hb, f⟩
  obtain ⟨yo, cy, rfl, hbl⟩ := hb.bl
  exact ⟨yo, cy, rfl, hbl, f⟩
theorem size_le10 (op : Int) : sizeS op ≤ 10 := by
  have h := wd_le op
  unfold sizeS
  by_cases h1 : known op = true
  · rw [if_pos h1]
    by_cases h2 : op = 1
    · rw [if_pos h2]; omega
    · rw [if_neg h2]; omega
  · rw [if_neg h1]; omega
theorem back_plain {l : List In} (h : (encA l).1 = 0) (hb : ∀ i ∈ l, U64 i.b) : decS (encS l) = (0, l) := by
  obtain ⟨h1, h2, h3⟩ := enc_ok h
  have := decGo_enc l ((encS l).length + 1) [] (fun i hi => ⟨h2 i hi, hb i hi⟩) (by omega) (by simpa using h3)
  simpa [decS] using this
theorem sizes_snoc {l : List In} {j : Nat} {x : In} (hx : l[j]? = some x) (hr : rightS x = true) : ((encS (l.take (j + 1))).length : Int) = ((encS (l.take j)).length : Int) + sizeS x.op := by
  rw [take_one hx, encS_snoc, List.length_append, ← encI_len (right_parts hr).1]
  omega
end Go.Proofs.YtphpmaimgndjmaaDoor.Cd
namespace Go.Proofs.YtphpmaimgndjmaaDoor.codeBack
open Go.RowKit Ty Cd
end Go.Proofs.YtphpmaimgndjmaaDoor.codeBack
