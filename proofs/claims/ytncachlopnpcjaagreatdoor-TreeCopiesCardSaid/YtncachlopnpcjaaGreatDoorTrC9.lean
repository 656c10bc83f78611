/- append to nil of a row that is read: parameters, texts (for TreeCopies). -/
import Derived.Test.YtncachlopnpcjaaGreatDoorTrC8
import Derived.Deep.Upon
namespace Go.Proofs.YtncachlopnpcjaaGreatDoor.Sl
open Go.RowKit Te
set_option linter.unusedSimpArgs false
set_option linter.unusedVariables false

theorem wpl_clone {w : World} {ops : Array Oper} {rest : List Oper} {o : Oper} {a : Act} {Q : Exit → Act → World → Prop} (hgd : o.guard = none) (s x : Operand) (ty e : TypeId) (z : Value) (size bytes : Nat)
    (hty : Tryz.prog.underlying ty = some (.slice e)) (hinfo : (Tryz.prog.info? e).map (fun i => (i.zero, i.size, i.bytes)) = some (some z, size, bytes)) (hzs : z.cells.size = size) (hsz : 0 < size)
    (ho : o.op = .call { callee := .builtin .append, args := #[s, x], argTypes := #[ty, ty] }) (hs : a.eval s = .slice none 0 0) (ao : Option Addr) (n cap : Nat) (news : List Value) (hx : a.eval x = .slice ao n cap) (hl : news.length = n * size) (hsrc : n = 0 ∨ ∃ ad, ao = some ad ∧ ∀ (j : Nat) (u : Value), news[j]? = some u → w.cell? (ad.add j) = some u) (h1 : ∀ u ∈ news, u.oneCell' = true)
    (hm : n ≤ maxLen) (hb : n * bytes ≤ 140737488355328) (h : ∀ v' w', w'.ownsRow w.heap.size e size v' n news → Fr (fun _ => False) w w' → wpList Tryz.prog ops Q rest (a.put o.dst v') w') : wpList Tryz.prog ops Q (o :: rest) a w := by
  cases ao with
  | none =>
    have h0 : n = 0 := by
      rcases hsrc with h0 | ⟨ad, e, _⟩
      · exact h0
      · cases e
    subst h0
    have hn : news = [] := List.eq_nil_of_length_eq_zero (by omega)
    subst hn
    refine wpList_plain hgd fun K hK => ?_
    cases hi : Tryz.prog.info? e with
    | none => rw [hi] at hinfo; cases hinfo
    | some i =>
      have hr := run_append_nothing (P := Tryz.prog) w ty ty o.type e i hty hi none 0 0 (Nat.le_refl _) (.slice none 0 cap) (Src.ofNil w hty cap)
      unfold Oper.wp
      simp only [execOp, ho, resolve, invoke, builtin, Sem.run_bind, Sem.run_pure, Result.andThen_ok, List.map_toArray, List.map_cons, List.map_nil, hs, hx, hr]
      exact hK _ _ (h _ _ ⟨by simp, Or.inl ⟨rfl, rfl⟩⟩ (Fr.refl _ _))
  | some ad =>
    have hc : ∀ (j : Nat) (u : Value), news[j]? = some u → w.cell? (ad.add j) = some u := by
      rcases hsrc with h0 | ⟨ad', e, hc⟩
      · subst h0
        have hn : news = [] := List.eq_nil_of_length_eq_zero (by omega)
        subst hn
        intro j u hu
        simp at hu
      · cases e
        exact hc
    refine wpl_append hgd s x ty e z size bytes hty hinfo hzs hsz ho w.heap.size (.slice none 0 0) 0 [] ad n cap news hs ⟨by simp, Or.inl ⟨rfl, rfl⟩⟩ hx hl hc h1 (by omega) (by rw [Nat.zero_add]; exact hb) (Nat.le_refl _) ?_
    intro v' w' h2 h3 _
    rw [Nat.zero_add, List.nil_append] at h2
    exact h v' w' h2 (h3.mono (fun k _ e => by cases e))
/-- What such a row holds, in every world that agrees with this one from lo on. -/
theorem own_open {lo : Nat} {ty : TypeId} {size n : Nat} {W : World} {v : Value} {cs : List Value} (h : W.ownsRow lo ty size v n cs) : ∃ ao cap, v = .slice ao n cap ∧ n ≤ cap ∧ cap ≤ maxLen ∧ Within lo W.heap.size W (fun u => n = 0 ∨ ∃ g, ao = some ⟨g, 0, none⟩ ∧ RwB u lo W.heap.size g ty (n * size) ∧ ∀ (j : Nat) (y : Value), cs[j]? = some y → u.cell? ⟨g, j, none⟩ = some y) := by
  obtain ⟨h1, h2⟩ := h
  rcases h2 with ⟨rfl, h0⟩ | ⟨g, cap, cur, rfl, hB, hg, hnc, hcm, hcs, ht⟩
  · exact ⟨none, 0, by rw [h0], by omega, by decide, fun u _ => Or.inl h0⟩
  · refine ⟨_, cap, rfl, hnc, hcm, fun u hu => Or.inr ⟨g, rfl, ?_, fun j y hj => ?_⟩⟩
    · have hlt := (Array.getElem?_eq_some_iff.1 hg).1
      refine ⟨hB, hlt, cur, (hu g hB hlt).trans hg, ?_⟩
      rw [hcs]
      exact Nat.mul_le_mul_right _ hnc
    · have hlt := (Array.getElem?_eq_some_iff.1 hg).1
      rw [cell_of_row u g _ cur ty (0, 0) ((hu g hB hlt).trans hg)]
      rw [← ht, List.getElem?_take] at hj
      split at hj
      · simpa using hj
      · cases hj
/- Parameters. -/
def paCs (l : List Pa) : List Value := l.flatMap paC
theorem paCs_len (l : List Pa) : (paCs l).length = l.length * 2 := by
  induction l with
  | nil => rfl
  | cons p l ih =>
    show (paC p ++ paCs l).length = _
    rw [List.length_append, ih]
    simp [paC]
    omega
theorem paCs_get : ∀ (l : List Pa) (i j : Nat) (p : Pa) (x : Value), l[i]? = some p → (paC p)[j]? = some x → (paCs l)[i * 2 + j]? = some x
  | [], i, j, p, x, h, _ => by simp at h
  | q :: l, 0, j, p, x, h, hx => by
    obtain rfl : q = p := by simpa using h
    show (paC q ++ paCs l)[0 * 2 + j]? = some x
    rw [Nat.zero_mul, Nat.zero_add, List.getElem?_append_left (List.getElem?_eq_some_iff.1 hx).1]
    exact hx
  | q :: l, i + 1, j, p, x, h, hx => by
    show (paC q ++ paCs l)[(i + 1) * 2 + j]? = some x
    rw [List.getElem?_append_right (by simp [paC]; omega), show (i + 1) * 2 + j - (paC q).length = i * 2 + j by simp [paC]; omega]
    exact paCs_get l i j p x (by simpa using h) hx
theorem paCs_one (l : List Pa) : ∀ u ∈ paCs l, u.oneCell' = true := by
  intro u hu
  obtain ⟨p, _, hp⟩ := List.mem_flatMap.1 hu
  simp only [paC, List.mem_cons, List.not_mem_nil, or_false] at hp
  rcases hp with rfl | rfl <;> rfl
theorem pa_src {w : World} {ao : Option Addr} {cap : Nat} {l : List Pa} (h : PaL w ao cap l) : l.length = 0 ∨ ∃ ad, ao = some ad ∧ ∀ (j : Nat) (u : Value), (paCs l)[j]? = some u → w.cell? (ad.add j) = some u := by
  rcases h.2.2 with h0 | ⟨b, off, rfl, hc⟩
  · exact Or.inl (by rw [h0]; rfl)
  · refine Or.inr ⟨_, rfl, fun j u hj => ?_⟩
    rw [Addr.add_lit]
    have hjl := (List.getElem?_eq_some_iff.1 hj).1
    rw [paCs_len] at hjl
    have hi : j / 2 < l.length := by omega
    have hp : l[j / 2]? = some l[j / 2] := List.getElem?_eq_getElem hi
    have hm : j % 2 < (paC l[j / 2]).length := by simp [paC]; omega
    have hx : (paC l[j / 2])[j % 2]? = some (paC l[j / 2])[j % 2] := List.getElem?_eq_getElem hm
    have h1 := paCs_get l _ _ _ _ hp hx
    rw [show j / 2 * 2 + j % 2 = j by omega, hj] at h1
    injection h1 with h1
    have h2 := hc _ _ hp _ _ hx
    rw [← h1, show off + j / 2 * 2 + j % 2 = off + j by omega] at h2
    exact h2
theorem pa_row {lo : Nat} {W : World} {v : Value} {l : List Pa} (h : W.ownsRow lo 53 2 v l.length (paCs l)) : ∃ ao cap, v = .slice ao l.length cap ∧ Within lo W.heap.size W (fun u => PaL u ao cap l ∧ ShP u lo W.heap.size ao cap l) := by
  obtain ⟨ao, cap, h1, h2, h3, h4⟩ := own_open h
  refine ⟨ao, cap, h1, fun u hu => ?_⟩
  rcases h4 u hu with h0 | ⟨g, rfl, hb, hc⟩
  · have hl : l = [] := List.eq_nil_of_length_eq_zero h0
    exact ⟨⟨h2, h3, Or.inl hl⟩, ⟨h2, h3, Or.inl hl⟩⟩
  · exact ⟨⟨h2, h3, Or.inr ⟨g, 0, rfl, fun i p hp j x hx => by rw [Nat.zero_add]; exact hc _ _ (paCs_get l i j p x hp hx)⟩⟩, ⟨h2, h3, Or.inr ⟨g, rfl, hb⟩⟩⟩
/- Texts. -/
theorem sv_src {w : World} {ao : Option Addr} {cap : Nat} {l : List Bs} (h : SvL w ao cap l) : l.length = 0 ∨ ∃ ad, ao = some ad ∧ ∀ (j : Nat) (u : Value), (l.map ct)[j]? = some u → w.cell? (ad.add j) = some u := by
  rcases h.2.2 with h0 | ⟨b, off, rfl, hc⟩
  · exact Or.inl (by rw [h0]; rfl)
  · refine Or.inr ⟨_, rfl, fun j u hj => ?_⟩
    rw [Addr.add_lit]
    rw [List.getElem?_map] at hj
    cases hx : l[j]? with
    | none => rw [hx] at hj; cases hj
    | some x =>
      rw [hx] at hj
      injection hj with hj
      rw [← hj]
      exact hc j x hx
theorem sv_row {lo : Nat} {W : World} {v : Value} {l : List Bs} (h : W.ownsRow lo 9 1 v l.length (l.map ct)) : ∃ ao cap, v = .slice ao l.length cap ∧ Within lo W.heap.size W (fun u => SvL u ao cap l ∧ (l.length ≤ cap ∧ cap ≤ maxLen ∧ (l = [] ∨ ∃ b, ao = some ⟨b, 0, none⟩ ∧ RwB u lo W.heap.size b 9 l.length))) := by
  obtain ⟨ao, cap, h1, h2, h3, h4⟩ := own_open h
  refine ⟨ao, cap, h1, fun u hu => ?_⟩
  rcases h4 u hu with h0 | ⟨g, rfl, hb, hc⟩
  · have hl : l = [] := List.eq_nil_of_length_eq_zero h0
    exact ⟨⟨h2, h3, Or.inl hl⟩, ⟨h2, h3, Or.inl hl⟩⟩
  · rw [Nat.mul_one] at hb
    exact ⟨⟨h2, h3, Or.inr ⟨g, 0, rfl, fun i x hx => by rw [Nat.zero_add]; exact hc i _ (by rw [List.getElem?_map, hx]; rfl)⟩⟩, ⟨h2, h3, Or.inr ⟨g, rfl, hb⟩⟩⟩
end Go.Proofs.YtncachlopnpcjaaGreatDoor.Sl
