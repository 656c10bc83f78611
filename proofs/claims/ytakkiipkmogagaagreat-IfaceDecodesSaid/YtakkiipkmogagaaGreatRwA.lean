/- Rows of the call's own, whatever their elements are: append of any number of elements. -/
import Derived.Test.YtakkiipkmogagaaGreatTrM
import Derived.Maps.AppendAt
import Derived.Laws.AppendOwnNone
import Derived.Deep.RegionHeld3
namespace Go.Proofs.YtakkiipkmogagaaGreat.Rw
open Go.RowKit Te
set_option linter.unusedSimpArgs false
set_option linter.unusedVariables false

/-- Cells of elements one behind the other. -/
def Chunks {α : Type} (R : α → List Value → Prop) (size : Nat) : List α → List Value → Prop
  | [], cs => cs = []
  | x :: l, cs => ∃ c rest, cs = c ++ rest ∧ c.length = size ∧ R x c ∧ Chunks R size l rest
theorem Chunks.app {α : Type} {R : α → List Value → Prop} {size : Nat} : ∀ {l l' : List α} {cs cs' : List Value}, Chunks R size l cs → Chunks R size l' cs' → Chunks R size (l ++ l') (cs ++ cs')
  | [], l', cs, cs', h, h' => by
    obtain rfl : cs = [] := h
    exact h'
  | y :: l, l', cs, cs', ⟨d, rest, e, h1, h2, h3⟩, h' => by
    subst e
    exact ⟨d, rest ++ cs', by simp, h1, h2, Chunks.app h3 h'⟩
theorem Chunks.len {α : Type} {R : α → List Value → Prop} {size : Nat} : ∀ {l : List α} {cs : List Value}, Chunks R size l cs → cs.length = l.length * size
  | [], cs, h => by
    obtain rfl : cs = [] := h
    simp
  | y :: l, cs, ⟨d, rest, e, h1, h2, h3⟩ => by
    subst e
    have := Chunks.len h3
    rw [List.length_append, List.length_cons, this, h1, Nat.succ_mul]
    omega
theorem Chunks.get {α : Type} {R : α → List Value → Prop} {size : Nat} : ∀ {l : List α} {cs : List Value} (_ : Chunks R size l cs) {i : Nat} {x : α} (_ : l[i]? = some x), ∃ c, R x c ∧ c.length = size ∧ ∀ j u, c[j]? = some u → cs[i * size + j]? = some u
  | [], cs, h, i, x, hi => by simp at hi
  | y :: l, cs, ⟨d, rest, e, h1, h2, h3⟩, i, x, hi => by
    subst e
    cases i with
    | zero =>
      obtain rfl : y = x := by simpa using hi
      refine ⟨d, h2, h1, fun j u hj => ?_⟩
      rw [Nat.zero_mul, Nat.zero_add, List.getElem?_append_left (List.getElem?_eq_some_iff.1 hj).1]
      exact hj
    | succ i =>
      obtain ⟨c, h4, h5, h6⟩ := Chunks.get h3 (i := i) (by simpa using hi)
      refine ⟨c, h4, h5, fun j u hj => ?_⟩
      rw [List.getElem?_append_right (by rw [h1, Nat.succ_mul]; omega), h1, show (i + 1) * size + j - size = i * size + j by rw [Nat.succ_mul]; omega]
      exact h6 j u hj
/-- A row of the call's own, which lies from B on. -/
def Row {α : Type} (R : α → List Value → Prop) (e : TypeId) (size : Nat) (w : World) (B : Nat) (v : Value) (l : List α) : Prop := ∃ cells, w.ownsRow B e size v l.length cells ∧ Chunks R size l cells
theorem Row.low {α : Type} {R : α → List Value → Prop} {e : TypeId} {size : Nat} {w : World} {B : Nat} {v : Value} {l : List α} (h : Row R e size w B v l) : ∀ k, v.ownBlock = some k → B ≤ k ∧ k < w.heap.size := by
  obtain ⟨cells, h1, h2⟩ := h
  exact World.ownsRow.lt h1
theorem Row.keep {α : Type} {R : α → List Value → Prop} {e : TypeId} {size : Nat} {S : Nat → Prop} {w w' : World} {B : Nat} {v : Value} {l : List α} (h : Row R e size w B v l) (hf : Fr S w w') (hS : ∀ k, v.ownBlock = some k → ¬ S k) : Row R e size w' B v l := by
  obtain ⟨cells, ⟨h1, h2⟩, h3⟩ := h
  refine ⟨cells, ⟨h1, ?_⟩, h3⟩
  rcases h2 with h0 | ⟨g, cap, cur, rfl, hb, hg, hr⟩
  · exact Or.inl h0
  · exact Or.inr ⟨g, cap, cur, rfl, hb, hf.heap hg (hS g rfl), hr⟩
/-- An empty row that was just laid. -/
theorem Row.new {α : Type} (R : α → List Value → Prop) (e : TypeId) (size : Nat) (w : World) (B g : Nat) (hB : B ≤ g) (hg : w.heap[g]? = some (.cells #[] e (0, 0))) : Row R e size w B (.slice (some ⟨g, 0, none⟩) 0 0) [] :=
  ⟨[], ⟨by simp, Or.inr ⟨g, 0, #[], rfl, hB, hg, Nat.le_refl _, by decide, by simp, by simp⟩⟩, rfl⟩
theorem Row.slice {α : Type} {R : α → List Value → Prop} {e : TypeId} {size : Nat} {w : World} {B : Nat} {v : Value} {l : List α} (h : Row R e size w B v l) : ∃ ao cap, v = .slice ao l.length cap ∧ l.length ≤ cap ∧ cap ≤ maxLen ∧
    (l = [] ∨ ∃ g, ao = some ⟨g, 0, none⟩ ∧ ∀ (i : Nat) (x : α), l[i]? = some x → ∃ c, R x c ∧ c.length = size ∧ ∀ (j : Nat) (u : Value), c[j]? = some u → w.cell? ⟨g, i * size + j, none⟩ = some u) := by
  obtain ⟨cells, h1, h2⟩ := h
  rcases h1.2 with ⟨rfl, h0⟩ | ⟨g, cap, cur, rfl, hb, hg, hnc, hcm, hcs, ht⟩
  · exact ⟨none, 0, by rw [h0], by omega, by decide, Or.inl (List.eq_nil_of_length_eq_zero h0)⟩
  · refine ⟨_, cap, rfl, hnc, hcm, Or.inr ⟨g, rfl, fun i x hi => ?_⟩⟩
    obtain ⟨c, h3, h4, h5⟩ := h2.get hi
    refine ⟨c, h3, h4, fun j u hj => ?_⟩
    have h6 := h5 j u hj
    rw [cell_of_row w g _ cur e (0, 0) hg]
    rw [← ht, List.getElem?_take] at h6
    split at h6
    · simpa using h6
    · cases h6
/-- append of elements, as a step of a region whose order is drawn. -/
theorem step_rows {α : Type} {R : α → List Value → Prop} {w : World} {ops : Array Oper} {o : Oper} {a : Act} {K : Act → World → Prop} {Q : Exit → Act → World → Prop} {E : Prop} (hgd : o.guard = none) (s x : Operand) (ty e : TypeId) (z : Value) (size bytes : Nat)
    (hty : Tryz.prog.underlying ty = some (.slice e)) (hinfo : (Tryz.prog.info? e).map (fun i => (i.zero, i.size, i.bytes)) = some (some z, size, bytes)) (hzs : z.cells.size = size) (hsz : 0 < size)
    (ho : o.op = .call { callee := .builtin .append, args := #[s, x], argTypes := #[ty, ty] }) (B : Nat) (v : Value) (l ys : List α) (news : List Value) (ad : Addr) (m c : Nat)
    (hs : a.eval s = v) (hr : Row R e size w B v l) (hx : a.eval x = .slice (some ad) m c) (hm : m = ys.length) (hch : Chunks R size ys news) (hc : ∀ (j : Nat) (u : Value), news[j]? = some u → w.cell? (ad.add j) = some u) (h1 : ∀ u ∈ news, u.oneCell' = true)
    (hn : l.length + ys.length ≤ maxLen) (hb : (l.length + ys.length) * bytes ≤ 140737488355328) (hB : B ≤ w.heap.size)
    (h : ∀ v' w', Row R e size w' B v' (l ++ ys) → Fr (fun k => v.ownBlock = some k) w w' → (v'.ownBlock = v.ownBlock ∨ v'.ownBlock = some w.heap.size) → K (a.put o.dst v') w') : if Region.wanted o (yielded ops a.tmps) = true then Oper.wp Tryz.prog o a w K Q else E := by
  have hw : Region.wanted o (yielded ops a.tmps) = true := by simp [Region.wanted, hgd]
  rw [if_pos hw]
  subst hm
  obtain ⟨cells, hr1, hr2⟩ := hr
  cases hi : Tryz.prog.info? e with
  | none => rw [hi] at hinfo; cases hinfo
  | some i =>
    rw [hi] at hinfo
    simp only [Option.map_some, Option.some.injEq, Prod.mk.injEq] at hinfo
    obtain ⟨v', w', hr, h2, h3, _, h5⟩ := run_append_own_at (P := Tryz.prog) w B ty o.type e i z size bytes hty hi hinfo.1 hinfo.2.1 hinfo.2.2 hzs hsz v l.length cells hr1 ad ys.length c news hch.len hc h1 hn hb hB
    have hk := h v' w' ⟨cells ++ news, by rw [List.length_append]; exact h2, hr2.app hch⟩ ((Fr.grown h3).mono (fun k _ hk => hk.symm)) h5
    unfold Oper.wp execOp
    simp only [ho, resolve, invoke, builtin, Sem.run_bind, Sem.run_pure, Result.andThen_ok, List.map_toArray, List.map_cons, List.map_nil, hs, hx, hr]
    exact hk
/-- append of nothing. -/
theorem step_none {α : Type} {R : α → List Value → Prop} {w : World} {ops : Array Oper} {o : Oper} {a : Act} {K : Act → World → Prop} {Q : Exit → Act → World → Prop} {E : Prop} (hgd : o.guard = none) (s x : Operand) (ty e : TypeId) (size : Nat)
    (hty : Tryz.prog.underlying ty = some (.slice e)) (hinfo : (Tryz.prog.info? e).isSome = true)
    (ho : o.op = .call { callee := .builtin .append, args := #[s, x], argTypes := #[ty, ty] }) (B : Nat) (v : Value) (l : List α)
    (hs : a.eval s = v) (hr : Row R e size w B v l) (hx : a.eval x = .slice none 0 0) (h : K (a.put o.dst v) w) : if Region.wanted o (yielded ops a.tmps) = true then Oper.wp Tryz.prog o a w K Q else E := by
  have hw : Region.wanted o (yielded ops a.tmps) = true := by simp [Region.wanted, hgd]
  rw [if_pos hw]
  obtain ⟨cells, hr1, hr2⟩ := hr
  obtain ⟨i, hi⟩ := Option.isSome_iff_exists.1 hinfo
  have hrun := run_append_owned_none (P := Tryz.prog) (w := w) B ty o.type e i size hty hi v l.length cells hr1
  unfold Oper.wp
  simp [execOp, ho, resolve, invoke, builtin, hs, hx, hrun, Result.andThen]
  exact h
/- Declarations that lie in a world. -/
def RD (W : World) (d : De) (c : List Value) : Prop := ∃ pv ev bv, DeI W d pv ev bv ∧ c = deC d pv ev bv
theorem chunks_de (W : World) (b : Nat) : ∀ (l : List De) (off : Nat), (∀ (i : Nat) (d : De), l[i]? = some d → ∃ pv ev bv, DeI W d pv ev bv ∧ ∀ (j : Nat) (x : Value), (deC d pv ev bv)[j]? = some x → W.cell? ⟨b, off + i * 7 + j, none⟩ = some x) →
    ∃ cs, Chunks (RD W) 7 l cs ∧ (∀ (j : Nat) (u : Value), cs[j]? = some u → W.cell? ⟨b, off + j, none⟩ = some u) ∧ ∀ u ∈ cs, u.oneCell' = true
  | [], off, _ => ⟨[], rfl, fun j u h => by simp at h, fun u h => by simp at h⟩
  | d :: l, off, h => by
    obtain ⟨pv, ev, bv, hI, hc⟩ := h 0 d rfl
    obtain ⟨cs, h1, h2, h3⟩ := chunks_de W b l (off + 7) (fun i d' hd => by
      obtain ⟨pv, ev, bv, hI, hc⟩ := h (i + 1) d' (by simpa using hd)
      refine ⟨pv, ev, bv, hI, fun j x hx => ?_⟩
      have := hc j x hx
      rw [show off + 7 + i * 7 + j = off + (i + 1) * 7 + j by omega]
      exact this)
    have hl : (deC d pv ev bv).length = 7 := rfl
    refine ⟨deC d pv ev bv ++ cs, ⟨_, _, rfl, rfl, ⟨pv, ev, bv, hI, rfl⟩, h1⟩, fun j u hj => ?_, fun u hu => ?_⟩
    · by_cases hj7 : j < 7
      · rw [List.getElem?_append_left (by rw [hl]; exact hj7)] at hj
        have := hc j u hj
        simpa using this
      · rw [List.getElem?_append_right (by rw [hl]; omega), hl] at hj
        have := h2 (j - 7) u hj
        rw [show off + 7 + (j - 7) = off + j by omega] at this
        exact this
    · rcases List.mem_append.1 hu with hu | hu
      · obtain ⟨ao1, cap1, ao2, cap2, ao3, cap3, rfl, rfl, rfl, _⟩ := hI
        simp only [deC, List.mem_cons, List.not_mem_nil, or_false] at hu
        rcases hu with rfl | rfl | rfl | rfl | rfl | rfl | rfl <;> rfl
      · exact h3 u hu
theorem Row.deL {W w : World} {B : Nat} {v : Value} {l : List De} (h : Row (RD W) 59 7 w B v l) (hf : Fr (fun _ => False) W w) : ∃ ao cap, v = .slice ao l.length cap ∧ DeL w ao cap l := by
  obtain ⟨ao, cap, h1, h2, h3, h4⟩ := h.slice
  refine ⟨ao, cap, h1, h2, h3, ?_⟩
  rcases h4 with h4 | ⟨g, rfl, hc⟩
  · exact Or.inl h4
  · refine Or.inr ⟨g, 0, rfl, fun i d hd => ?_⟩
    obtain ⟨c, ⟨pv, ev, bv, hI, rfl⟩, _, h6⟩ := hc i d hd
    exact ⟨pv, ev, bv, hI.keep hf, fun j x hx => by rw [Nat.zero_add]; exact h6 j x hx⟩
theorem info_de : (Tryz.prog.info? 59).map (fun i => (i.zero, i.size, i.bytes)) = some (some (.agg #[.int .i64 0, .bool false, .string ⟨#[]⟩, .int .i64 0, .slice none 0 0, .slice none 0 0, .slice none 0 0]), 7, 112) := by kernel_rfl
end Go.Proofs.YtakkiipkmogagaaGreat.Rw
