/- iface.Extract: in plain words, and its bounds. -/
import Derived.Test.YtpjahcncknccdaaGreatIcF
import Derived.Test.YtpjahcncknccdaaGreatTrLAll
namespace Go.Proofs.YtpjahcncknccdaaGreat.Fo.Ic
open Go.RowKit Te
set_option linter.unusedSimpArgs false
set_option linter.unusedVariables false

/-- The place and the error. -/
def exP (m : Mo) (l : List Ty.Fc) : Int × Int :=
  if errM rnS cnS m ≠ 0 then (0, errM rnS cnS m) else match impS l m.imports with
  | none => (0, 31)
  | some g => ((decS (farS g) m.decls).2.2.1, (decS (farS g) m.decls).2.2.2)
/-- The interface. -/
def IsF (m : Mo) (l : List Ty.Fc) (f : Ty.Fc) : Prop :=
  ((exP m l).2 ≠ 0 ∧ f = ⟨[], []⟩) ∨ ((exP m l).2 = 0 ∧ f.name = m.name ∧ errM rnS cnS m = 0 ∧ ∃ g, impS l m.imports = some g ∧ (decS (farS g) m.decls).2.2.2 = 0 ∧ f.items.Perm (itemsS m.decls (decS (farS g) m.decls).1) ∧ f.items.Pairwise (fun x y => ¬ y.name < x.name))
theorem impGo_spec (l : List Ty.Fc) : ∀ (imps done : List Bs) (acc g : List Ty.Fc), impGo l imps done acc = some g → (∀ f ∈ acc, f ∈ l ∧ Ty.rightF f = 0) → g.length ≤ acc.length + imps.length ∧ ∀ f ∈ g, f ∈ l ∧ Ty.rightF f = 0
  | [], done, acc, g, h, ha => by
    have : acc = g := by simpa [impGo] using h
    subst this
    exact ⟨by simp, ha⟩
  | n :: r, done, acc, g, h, ha => by
    unfold impGo at h
    split at h
    · have := impGo_spec l r _ _ _ h ha
      exact ⟨by simp; omega, this.2⟩
    · split at h
      · cases h
      · rename_i f hf
        split at h
        · cases h
        · rename_i hr
          have hmem : f ∈ l := List.mem_of_find?_eq_some hf
          have := impGo_spec l r _ _ _ h (fun x hx => by
            rcases List.mem_append.1 hx with hx | hx
            · exact ha x hx
            · rw [List.mem_singleton.1 hx]; exact ⟨hmem, by simpa using hr⟩)
          exact ⟨by simp at this ⊢; omega, this.2⟩
theorem impS_spec {l : List Ty.Fc} {imps : List Bs} {g : List Ty.Fc} (h : impS l imps = some g) : g.length ≤ imps.length ∧ ∀ f ∈ g, f ∈ l ∧ Ty.rightF f = 0 := by
  have := impGo_spec l imps [] [] g h (by simp)
  simpa using this
theorem rightF_len {f : Ty.Fc} (h : Ty.rightF f = 0) : f.items.length ≤ 64 := by
  unfold Ty.rightF at h
  split at h
  · rename_i h1; exact absurd h h1
  · split at h
    · cases h
    · omega
theorem allI_le : ∀ (g : List Ty.Fc), (∀ f ∈ g, f.items.length ≤ 64) → allI g ≤ g.length * 64
  | [], _ => by simp [allI]
  | f :: g, h => by
    have h1 := h f (by simp)
    have h2 := allI_le g (fun x hx => h x (by simp [hx]))
    unfold allI at *
    simp only [List.map_cons, List.sum_cons, List.length_cons] at *
    omega
theorem farS_b (g : List Ty.Fc) (h : ∀ f ∈ g, ∀ i ∈ f.items, Ty.OkI i) : ∀ c ∈ farS g, U64 c.b := by
  intro c hc
  unfold farS at hc
  obtain ⟨f, hf, hc⟩ := List.mem_flatMap.1 hc
  unfold farI at hc
  obtain ⟨i, hi, rfl⟩ := List.mem_map.1 hc
  exact (h f hf i (List.mem_filter.1 hi).1).bits
/-- Right modules are small. -/
theorem errM_small {m : Mo} (h : errM rnS cnS m = 0) : m.imports.length ≤ 16 ∧ m.decls.length ≤ 64 ∧ ∀ d ∈ m.decls, errD rnS cnS d = 0 := by
  unfold errM at h
  rw [orE_zero, orE_zero, orE_zero, orE_zero] at h
  obtain ⟨_, h1, _, h2, h3⟩ := h
  refine ⟨?_, ?_, ?_⟩
  · split at h1
    · cases h1
    · omega
  · split at h2
    · cases h2
    · omega
  · have : ∀ (l : List De), errDs rnS cnS l = 0 → ∀ d ∈ l, errD rnS cnS d = 0 := by
      intro l
      induction l with
      | nil => simp
      | cons x l ih =>
        intro h d hd
        rw [errDs, orE_zero] at h
        rcases List.mem_cons.1 hd with rfl | hd
        · exact h.1
        · exact ih h.2 d hd
    exact this _ h3
theorem errD_params {d : De} (h : errD rnS cnS d = 0) : d.params.length ≤ 8 := by
  unfold errD at h
  rw [orE_zero, orE_zero, orE_zero, orE_zero] at h
  have := h.2.2.2.1
  split at this
  · cases this
  · omega
theorem decGo_cnt (far : List Con) : ∀ (l : List De) (i : Nat) (seen : List Bs) (cs vs : List Con), (decGo far l i seen cs vs).2.2.2 = 0 → (decGo far l i seen cs vs).1.length = cs.length + cntC l
  | [], i, seen, cs, vs, h => by simp [decGo, cntC]
  | d :: r, i, seen, cs, vs, h => by
    unfold decGo at h ⊢
    by_cases h1 : d.name ∈ seen
    · rw [if_pos h1] at h; cases h
    rw [if_neg h1] at h ⊢
    by_cases h2 : d.kind ≠ 1 ∧ d.kind ≠ 2
    · rw [if_pos h2] at h ⊢
      rw [decGo_cnt far r _ _ _ _ h]
      have : cntC (d :: r) = cntC r := by unfold cntC; rw [List.filter_cons, if_neg (by simpa using h2.1)]
      rw [this]
    rw [if_neg h2] at h ⊢
    by_cases h3 : (valAt d (cs.reverse ++ far)).2 ≠ 0
    · rw [if_pos h3] at h; exact absurd h h3
    rw [if_neg h3] at h ⊢
    by_cases h4 : d.kind = 2
    · rw [if_pos h4] at h ⊢
      rw [decGo_cnt far r _ _ _ _ h]
      have : cntC (d :: r) = cntC r := by unfold cntC; rw [List.filter_cons, if_neg (by simp [h4])]
      rw [this]
    · rw [if_neg h4] at h ⊢
      rw [decGo_cnt far r _ _ _ _ h]
      have : cntC (d :: r) = cntC r + 1 := by unfold cntC; rw [List.filter_cons, if_pos (by have : d.kind = 1 := by omega
                                                                                            simp [this])]; simp
      rw [this, List.length_append, List.length_singleton]
      omega
theorem decGo_zero (far : List Con) : ∀ (l : List De) (i : Nat) (seen : List Bs) (cs vs : List Con), (decGo far l i seen cs vs).2.2.2 = 0 → (decGo far l i seen cs vs).2.2.1 = 0
  | [], i, seen, cs, vs, h => by simp [decGo]
  | d :: r, i, seen, cs, vs, h => by
    unfold decGo at h ⊢
    by_cases h1 : d.name ∈ seen
    · rw [if_pos h1] at h; cases h
    rw [if_neg h1] at h ⊢
    by_cases h2 : d.kind ≠ 1 ∧ d.kind ≠ 2
    · rw [if_pos h2] at h ⊢
      exact decGo_zero far r _ _ _ _ h
    rw [if_neg h2] at h ⊢
    by_cases h3 : (valAt d (cs.reverse ++ far)).2 ≠ 0
    · rw [if_pos h3] at h; exact absurd h h3
    rw [if_neg h3] at h ⊢
    by_cases h4 : d.kind = 2
    · rw [if_pos h4] at h ⊢
      exact decGo_zero far r _ _ _ _ h
    · rw [if_neg h4] at h ⊢
      exact decGo_zero far r _ _ _ _ h
theorem decS_cnt {far : List Con} {l : List De} (h : (decS far l).2.2.2 = 0) : (decS far l).1.length = cntC l := by
  have := decGo_cnt far l 0 [] [] [] h
  simpa [decS] using this
/-- A row of interfaces, read. -/
theorem row_fcl {W w : World} {B : Nat} {v : Value} {l : List Ty.Fc} (h : Rw.Row (RF W) 24 2 w B v l) (hf : Fr FN W w) : ∃ ao cap, v = .slice ao l.length cap ∧ l.length ≤ cap ∧ cap ≤ maxLen ∧ (l = [] ∨ ∃ b off, ao = some ⟨b, off, none⟩ ∧ ∀ (i : Nat) (x : Ty.Fc), l[i]? = some x → LayF w b (off + i * 2) x) := by
  obtain ⟨cells, h1, h2⟩ := h
  obtain ⟨ao, cap, e, hnc, hcm, hnn, hl, hh⟩ := own_slice h1 (by decide)
  refine ⟨ao, cap, e, hnc, hcm, ?_⟩
  rcases hh with h0 | ⟨g, rfl, hB, hg, hc⟩
  · exact Or.inl (List.eq_nil_of_length_eq_zero h0)
  · refine Or.inr ⟨g, 0, rfl, fun i x hx => ?_⟩
    obtain ⟨c, r1, r2, r3⟩ := h2.get hx
    obtain ⟨ai, ic, q1, rfl⟩ := r1
    exact ⟨ai, ic, q1.keep hf, by rw [Nat.zero_add]; exact hc _ _ (r3 0 _ rfl), by rw [Nat.zero_add]; exact hc _ _ (r3 1 _ rfl)⟩
theorem results_cell_tmp2 {fn : Func} {p u x : Tmp} {ty : TypeId} (h : fn.results = #[.cell p ty, .tmp u, .tmp x]) (tmps : Array Value) (P : Program) (w : World) :
    (results fn tmps).run P w = ((asAddr (tmps.getD p undef)).run P w).andThen fun a w₁ => ((loadVar ty a).run P w₁).andThen fun v w₂ => .ok (.tuple #[v, tmps.getD u undef, tmps.getD x undef]) w₂ := by
  simp only [results, h]
  simp [Sem.run_bind, Result.andThen]
theorem post_cell3 {fn : Func} {R : Ending → World → Prop} {a : Act} {w : World} {p u x : Tmp} {ty : TypeId} (h : fn.results = #[.cell p ty, .tmp u, .tmp x]) (hd : a.defers = []) (g : Nat) (cs : Array Value)
    (hp : a.tmps.getD p undef = .pointer (some ⟨g, 0, none⟩)) (hl : (loadVar ty ⟨g, 0, none⟩).run Tryz.prog w = .ok (.agg cs) w)
    (hR : R (.returned (.tuple #[.agg cs, a.tmps.getD u undef, a.tmps.getD x undef])) w) : bodyPost Tryz.prog fn R .ret a w := by
  refine ⟨hd, _, ?_, hR⟩
  rw [results_cell_tmp2 h, hp]
  simp [asAddr, hl, Result.andThen]
end Go.Proofs.YtpjahcncknccdaaGreat.Fo.Ic
