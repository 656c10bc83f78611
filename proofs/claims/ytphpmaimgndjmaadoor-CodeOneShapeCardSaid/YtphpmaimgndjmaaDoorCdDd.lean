/- Plain: of a function that is right, an instruction that is never come to may be any other right one. Of a function that is right, each place that can be come to fits. -/
import Derived.Test.YtphpmaimgndjmaaDoorCdSi
namespace Go.Proofs.YtphpmaimgndjmaaDoor.Cd
open Go.RowKit Ty
set_option linter.unusedSimpArgs false
set_option linter.unusedVariables false

theorem out_set (f : Fu) (p : Fm) (a : Nat) (i : In) : outS { f with cd := f.cd.set a i } p = outS f p := by
  have e : (f.cd.set a i = []) = (f.cd = []) := by
    apply propext
    rw [← List.length_eq_zero_iff, ← List.length_eq_zero_iff, List.length_set]
  unfold outS
  simp only [List.length_set, e]
theorem all_right {f : Fu} (h : ∀ i ∈ f.cd, rightS i = true) : ¬ 0 ≤ badI f := by
  unfold badI
  rcases idxP_spec (fun i => !rightS i) f.cd 0 with ⟨_, h2, _⟩ | ⟨k, x, h1, h2, _⟩
  · rw [h2]; decide
  · have := h x (List.mem_of_getElem? h1)
    simp [this] at h2
theorem at_none {L : Cs} {k : Nat} (hk : k < L.length) (h : atS (some L) k = none) : L[k]? = some none := by
  obtain ⟨c, hc⟩ : ∃ c, L[k]? = some c := ⟨_, List.getElem?_eq_getElem hk⟩
  unfold atS at h
  rw [Option.bind_some, hc, Option.bind_some] at h
  cases c with
  | none => exact hc
  | some z => cases h
theorem at_some {L : Cs} {k : Nat} {s : Sp} (h : atS (some L) k = some s) : ∃ g, L[k]? = some (some (g, s)) := by
  unfold atS at h
  rw [Option.bind_some] at h
  cases hc : L[k]? with
  | none => rw [hc] at h; cases h
  | some c =>
    rw [hc, Option.bind_some] at h
    cases c with
    | none => cases h
    | some z =>
      obtain ⟨g, s'⟩ := z
      cases h
      exact ⟨g, rfl⟩
theorem dead_plain {f : Fu} {p : Fm} {a : Nat} {i : In} (hv : (verS f p).2 = 0) (ha : a < f.cd.length) (hs : shpS f p a = none) (hi : rightS i = true) :
    verS { f with cd := f.cd.set a i } p = (0, 0) ∧ ∀ n : Int, shpS { f with cd := f.cd.set a i } p n = shpS f p n := by
  obtain ⟨L, hfin, hrun, hout, hbad, _⟩ := ver_fin hv
  have hinv := fin_inv hrun hout hbad
  have hL : L[a]? = some none := by
    unfold shpS at hs
    rw [if_neg (by rintro (e | e | e); exact e hv; omega; omega), hfin, Int.toNat_natCast] at hs
    exact at_none (by rw [hinv.len]; exact ha) hs
  have hlen : (f.cd.set a i).length = f.cd.length := List.length_set
  have hgo := run_some f p
  rw [hrun] at hgo
  have hgo' := goS_dead (f := f) (f' := { f with cd := f.cd.set a i }) hL rfl rfl hlen (fun k hk => by
    show (f.cd.set a i).getD k default = f.cd.getD k default
    rw [List.getD_eq_getElem?_getD, List.getD_eq_getElem?_getD, List.getElem?_set_ne (fun e => hk e.symm)]) hgo
  have hrun' : runS { f with cd := f.cd.set a i } p = .ok L := by
    unfold runS
    simp only [hlen]
    rw [hgo']
    rfl
  have hout' : outS { f with cd := f.cd.set a i } p = 0 := by rw [out_set]; exact hout
  have hbad' : ¬ 0 ≤ badI { f with cd := f.cd.set a i } := all_right (fun x hx => by
    rcases List.mem_or_eq_of_mem_set hx with h | h
    · exact bad_no hbad x h
    · rw [h]; exact hi)
  have hver' : verS { f with cd := f.cd.set a i } p = (0, 0) := by
    unfold verS
    rw [if_neg (by simpa using hout'), if_neg hbad', hrun']
    rfl
  have hfin' : finS { f with cd := f.cd.set a i } p = some L := by
    unfold finS
    rw [if_neg (by simpa using hout'), if_neg hbad', hrun']
    rfl
  refine ⟨hver', fun n => ?_⟩
  have e1 : (verS f p).2 = 0 := hv
  unfold shpS
  rw [hver', hfin', e1, hfin]
  simp only [hlen]
/-- P1402's plain side: each place that is come to fits. -/
theorem fits_plain {f : Fu} {p : Fm} {L : Cs} (hrun : runS f p = .ok L) : ∀ (k : Nat) g s, L[k]? = some (some (g, s)) → Fits f p L k s := by
  have hgo := run_some f p
  rw [hrun] at hgo
  refine (goS_fits hgo ?_).2
  intro k s hk
  unfold startS at hk
  rw [List.getElem?_set] at hk
  split at hk
  · split at hk
    · cases hk
    · cases hk
  · rw [List.getElem?_replicate] at hk
    split at hk <;> cases hk
end Go.Proofs.YtphpmaimgndjmaaDoor.Cd
