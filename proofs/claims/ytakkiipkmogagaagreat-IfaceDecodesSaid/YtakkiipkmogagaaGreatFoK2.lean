/- Rows of constants: append of many; constants that nothing names. -/
import Derived.Test.YtakkiipkmogagaaGreatFoK
import Derived.Test.YtakkiipkmogagaaGreatTyAll
namespace Go.Proofs.YtakkiipkmogagaaGreat.Fo
open Go.RowKit Te
set_option linter.unusedSimpArgs false
set_option linter.unusedVariables false

theorem chunks_one : ∀ (l : List Con) (cs : List Value), Rw.Chunks RC 4 l cs → ∀ u ∈ cs, u.oneCell' = true
  | [], cs, h, u, hu => by
    obtain rfl : cs = [] := h
    simp at hu
  | c :: l, cs, ⟨d, rest, e, _, h2, h3⟩, u, hu => by
    subst e
    have h2 : d = coC c := h2
    subst h2
    rcases List.mem_append.1 hu with hu | hu
    · exact coC_one c u hu
    · exact chunks_one l rest h3 u hu
/-- append of many constants to a row of the call's own. -/
theorem wpl_rows {w : World} {ops : Array Oper} {rest : List Oper} {o : Oper} {a : Act} {Q : Exit → Act → World → Prop} (hgd : o.guard = none) (s x : Operand)
    (ho : o.op = .call { callee := .builtin .append, args := #[s, x], argTypes := #[93, 93] }) (B : Nat) (v : Value) (l ys : List Con) (vy : Value) (B2 : Nat)
    (hs : a.eval s = v) (hr : CoW w B v l) (hx : a.eval x = vy) (hy : CoW w B2 vy ys)
    (hm : l.length + ys.length ≤ maxLen) (hb : (l.length + ys.length) * 48 ≤ 140737488355328) (hB : B ≤ w.heap.size)
    (h : ∀ v' w', CoW w' B v' (l ++ ys) → Fr (fun b => v.ownBlock = some b) w w' → (v'.ownBlock = v.ownBlock ∨ v'.ownBlock = some w.heap.size) → wpList Tryz.prog ops Q rest (a.put o.dst v') w') : wpList Tryz.prog ops Q (o :: rest) a w := by
  obtain ⟨cells, hr1, hr2⟩ := hr
  obtain ⟨cy, hy1, hy2⟩ := hy
  rcases hy1.2 with ⟨hv, h0⟩ | ⟨g, cap, cur, hv, _, hg, hnc, hcm, hcs, ht⟩
  · obtain rfl : ys = [] := List.eq_nil_of_length_eq_zero h0
    subst hv
    refine wpList_plain hgd fun K hK => ?_
    obtain ⟨i, hi⟩ := Option.isSome_iff_exists.1 (show (Tryz.prog.info? 137).isSome = true by kernel_rfl)
    have hrun := run_append_owned_none (P := Tryz.prog) (w := w) B 93 o.type 137 i 4 Tryz.underlying93 hi v l.length cells hr1
    unfold Oper.wp
    simp [execOp, ho, resolve, invoke, builtin, hs, hx, hrun, Result.andThen]
    exact hK _ _ (h v w ⟨cells, by rw [List.append_nil]; exact hr1, by rw [List.append_nil]; exact hr2⟩ (Fr.refl _ _) (Or.inl rfl))
  · subst hv
    refine wpl_append hgd s x 93 137 _ 4 48 Tryz.underlying93 info_con rfl (by decide) ho B v l.length cells ⟨g, 0, none⟩ ys.length cap cy hs hr1 hx hy2.len ?_ (chunks_one ys cy hy2) hm hb hB ?_
    · intro j u hu
      rw [Addr.add_lit, Nat.zero_add, cell_of_row w g j cur _ (0, 0) hg]
      rw [← ht, List.getElem?_take] at hu
      split at hu
      · simpa using hu
      · cases hu
    · intro v' w' h1 h2 h3
      exact h v' w' ⟨cells ++ cy, by rw [List.length_append]; exact h1, hr2.app hy2⟩ h2 h3
def exC (c : Con) : Con := ⟨57 :: c.mod, c.name, c.t, c.b⟩
theorem nine_no (x : Bs) : N.rightS (57 :: x) ≠ 0 := by
  have h0 : N.okAt 0 57 = false := by decide
  have : N.speltS (57 :: x) = false := by simp [N.speltS, N.speltGo, h0]
  unfold N.rightS
  rw [this, if_neg (by decide)]
  decide
theorem findC_more (l more : List Con) (m n : Bs) (h : ∀ c ∈ more, c.mod ≠ m) : findC (l ++ more) m n = findC l m n := by
  induction l with
  | nil =>
    rw [List.nil_append]
    induction more with
    | nil => rfl
    | cons c r ih =>
      show findC (c :: r) m n = _
      unfold findC
      rw [if_neg (fun e => h c (by simp) e.1)]
      have := ih (fun c hc => h c (by simp [hc]))
      rw [this]
      unfold findC
      rfl
  | cons c r ih =>
    show findC (c :: (r ++ more)) m n = _
    unfold findC
    rw [ih]
theorem evN_more (l more : List Con) (h : EH) (n : Nat) (ks : List Ev) (hm : ∀ c ∈ more, ∃ x, c.mod = 57 :: x) (he : errH rnS cnS h n = 0) : evN (l ++ more) h ks = evN l h ks := by
  unfold evN
  by_cases hk : h.kind = 2 ∨ h.kind = 3
  · rw [if_pos hk, if_pos hk]
    refine findC_more l more _ _ fun c hc e => ?_
    obtain ⟨x, hx⟩ := hm c hc
    rw [hx] at e
    have h1 := orE0 (show orE (if fitsE cnS h n then 0 else 1) _ = 0 from he)
    rcases hk with hk | hk
    · have hf : fitsE cnS h n = true := by
        by_cases hf : fitsE cnS h n = true
        · exact hf
        · rw [if_neg hf] at h1; exact absurd h1.1 (by decide)
      unfold fitsE at hf
      rw [if_neg (by omega), if_pos hk] at hf
      have := (of_decide_eq_true hf).2.1
      rw [this] at e
      cases e
    · have h2 := (orE0 h1.2).1
      unfold nameE at h2
      rw [if_neg (by omega), if_pos (Or.inl hk)] at h2
      have h3 := (orE0 h2).1
      rw [← e] at h3
      exact nine_no x h3
  · rw [if_neg hk, if_neg hk]
theorem evF_more (l more : List Con) (hm : ∀ c ∈ more, ∃ x, c.mod = 57 :: x) : ∀ (k : Exs), errL rnS cnS k = 0 → evF (l ++ more) k = evF l k
  | .nil, _ => rfl
  | .cons h k r, he => by
    have he2 := orE0 (show orE (orE (errH rnS cnS h k.len) (errL rnS cnS k)) (errL rnS cnS r) = 0 from he)
    have he3 := orE0 he2.1
    rw [evF, evF, evF_more l more hm k he3.2, evF_more l more hm r he2.2, evN_more l more h k.len _ hm he3.1]
theorem evalS_more (l more : List Con) (hm : ∀ c ∈ more, ∃ x, c.mod = 57 :: x) (h : EH) (k : Exs) : evalS (l ++ more) h k = evalS l h k := by
  unfold evalS
  by_cases he : errX rnS cnS h k = 0
  · rw [if_pos he, if_pos he]
    have he2 := orE0 (orE0 (show orE _ _ = 0 from he)).2
    have : evX (l ++ more) h k = evX l h k := by
      unfold evX
      rw [evF_more l more hm k he2.2, evN_more l more h k.len _ hm he2.1]
    rw [this]
  · rw [if_neg he, if_neg he]
end Go.Proofs.YtakkiipkmogagaaGreat.Fo
