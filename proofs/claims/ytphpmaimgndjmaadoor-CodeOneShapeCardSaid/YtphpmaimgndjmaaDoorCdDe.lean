/- The program's Decode. -/
import Derived.Test.YtphpmaimgndjmaaDoorCdFi
import Derived.Test.YtphpmaimgndjmaaDoorCdNAll
import Derived.Test.YtphpmaimgndjmaaDoorCdU
namespace Go.Proofs.YtphpmaimgndjmaaDoor.Cd
open Go.RowKit Ty
set_option linter.unusedSimpArgs false
set_option linter.unusedVariables false

theorem fst_facts {c : UInt8} {r : Bs} (h : fstO c r = true) : (fstI c r).op = (c.toNat : Int) ∧ rightS (fstI c r) = true ∧ U64 (fstI c r).b ∧ ∃ z : Nat, (z : Int) = sizeS (c.toNat : Int) ∧ 1 ≤ z ∧ z ≤ (c :: r).length := by
  unfold fstO at h
  rw [Bool.and_eq_true] at h
  have hI : fstI c r = rawI (c :: r) := by unfold fstI; rw [h.1, if_pos rfl]
  have hB := h.1
  unfold fstB at hB
  simp only [Bool.not_eq_true', decide_eq_false_iff_not, not_or] at hB
  have h0 : 0 ≤ sizeS (c.toNat : Int) := by unfold sizeS; repeat' split; all_goals omega
  refine ⟨?_, by rw [hI]; exact h.2, ?_, (sizeS (c.toNat : Int)).toNat, by omega, by omega, by omega⟩
  · rw [hI]
    unfold rawI
    simp only []
    split
    · rename_i h1; rw [h1]; rfl
    · rfl
  · rw [hI]
    unfold rawI
    simp only []
    split
    · have := numGo_lt ((r.drop 1).take 8) 0
      rw [List.length_take] at this
      have h2 : 256 ^ (min 8 (r.drop 1).length) ≤ 256 ^ 8 := Nat.pow_le_pow_right (by decide) (by omega)
      constructor <;> (show _; simp only []; omega)
    · exact ⟨Int.le_refl 0, by show (0 : Int) < 18446744073709551616; decide⟩
theorem BL.off {w : World} {b off cap : Nat} {l : Bs} (k : Nat) (h : BL w (some ⟨b, off, none⟩) cap l) (hk : k ≤ l.length) : BL w (some ⟨b, off + k, none⟩) (cap - k) (l.drop k) := by
  obtain ⟨h1, h2, h3, h4⟩ := h
  refine ⟨by rw [List.length_drop]; omega, by omega, (fun e => by cases e), ?_⟩
  rcases h4 with rfl | ⟨b', off', e, h4⟩
  · left; simp
  · right
    cases e
    refine ⟨b, off + k, rfl, fun i c hc => ?_⟩
    rw [List.getElem?_drop] at hc
    have := h4 _ _ hc
    rw [show off + k + i = off + (k + i) by omega]
    exact this
theorem BL.end' {w : World} {b off cap : Nat} {l : Bs} (h : BL w (some ⟨b, off, none⟩) cap l) : BL w (some ⟨b, off, none⟩) 0 (l.drop cap) := by
  have hl : l.drop cap = [] := List.drop_eq_nil_of_le h.1
  rw [hl]
  exact ⟨Nat.zero_le _, Nat.zero_le _, (fun e => by cases e), Or.inl rfl⟩
theorem info_inz : (Tryd.prog.info? 50).map (fun i => (i.zero, i.size, i.bytes)) = some (some (.agg #[.int .i64 0, .int .i64 0, .int .i64 0, .int .u64 0]), 4, 32) := info_in
theorem decGo_step {j : Nat} {acc : List In} {c : UInt8} {r : Bs} (hj : 0 < j) : decGo j acc (c :: r) = if fstO c r then (if acc.length = 4096 then (3, []) else decGo (j - 1) (acc ++ [fstI c r]) ((c :: r).drop (sizeS (c.toNat : Int)).toNat)) else (51, []) := by
  obtain ⟨j, rfl⟩ : ∃ k, j = k + 1 := ⟨j - 1, by omega⟩
  rw [decGo, firstS_eq]
  by_cases h : fstO c r = true
  · rw [if_pos h, if_pos h]; rfl
  · rw [if_neg h, if_neg h]
end Go.Proofs.YtphpmaimgndjmaaDoor.Cd
