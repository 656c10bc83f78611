/- Rows of the call's own that grow by one, whatever their elements are. -/
import Derived.Test.YtpkaekokkhecmaaGreatDoorPwB
import Derived.Maps.AppendAt
namespace Go.Proofs.YtpkaekokkhecmaaGreatDoor
open Go.RowKit Lx Te
set_option linter.unusedSimpArgs false
set_option linter.unusedVariables false

/-- Cells of elements one behind the other. -/
def Chunks {α : Type} (R : World → α → List Value → Prop) (size : Nat) (w : World) : List α → List Value → Prop
  | [], cs => cs = []
  | x :: l, cs => ∃ c rest, cs = c ++ rest ∧ c.length = size ∧ R w x c ∧ Chunks R size w l rest
theorem Chunks.snoc {α : Type} {R : World → α → List Value → Prop} {size : Nat} {w : World} : ∀ {l : List α} {cs : List Value} (_ : Chunks R size w l cs) {x : α} {c : List Value} (_ : c.length = size) (_ : R w x c), Chunks R size w (l ++ [x]) (cs ++ c)
  | [], cs, h, x, c, hc, hr => by
    obtain rfl : cs = [] := h
    exact ⟨c, [], by simp, hc, hr, rfl⟩
  | y :: l, cs, ⟨d, rest, e, h1, h2, h3⟩, x, c, hc, hr => by
    subst e
    exact ⟨d, rest ++ c, by simp, h1, h2, Chunks.snoc h3 hc hr⟩
theorem Chunks.get {α : Type} {R : World → α → List Value → Prop} {size : Nat} {w : World} : ∀ {l : List α} {cs : List Value} (_ : Chunks R size w l cs) {i : Nat} {x : α} (_ : l[i]? = some x), ∃ c, R w x c ∧ c.length = size ∧ ∀ j u, c[j]? = some u → cs[i * size + j]? = some u
  | [], cs, h, i, x, hi => by simp at hi
  | y :: l, cs, ⟨d, rest, e, h1, h2, h3⟩, i, x, hi => by
    subst e
    cases i with
    | zero =>
      obtain rfl : y = x := by simpa using hi
      refine ⟨d, h2, h1, fun j u hj => ?_⟩
      rw [Nat.zero_mul, Nat.zero_add, List.getElem?_append_left (List.getElem?_eq_some_iff.1 hj).1]
      exact hj
    | succ i =>
      obtain ⟨c, h4, h5, h6⟩ := Chunks.get h3 (i := i) (by simpa using hi)
      refine ⟨c, h4, h5, fun j u hj => ?_⟩
      rw [List.getElem?_append_right (by rw [h1, Nat.succ_mul]; omega), h1, show (i + 1) * size + j - size = i * size + j by rw [Nat.succ_mul]; omega]
      exact h6 j u hj
/-- A row of the call's own, which lies from B on. -/
def Row {α : Type} (R : World → α → List Value → Prop) (e : TypeId) (size : Nat) (w : World) (B : Nat) (v : Value) (l : List α) : Prop :=
  ∃ cells, w.ownsRow B e size v l.length cells ∧ ∀ w', Fr (fun k => k < B ∨ v.ownBlock = some k) w w' → Chunks R size w' l cells
theorem Row.nil {α : Type} (R : World → α → List Value → Prop) (e : TypeId) (size : Nat) (w : World) (B : Nat) : Row R e size w B (.slice none 0 0) [] :=
  ⟨[], World.ownsRow_nil w B e size, fun _ _ => rfl⟩
theorem own_keep {S : Nat → Prop} {w w' : World} {B : Nat} {e : TypeId} {size : Nat} {v : Value} {n : Nat} {xs : List Value} (h : w.ownsRow B e size v n xs) (hf : Fr S w w') (hS : ∀ k, v.ownBlock = some k → ¬ S k) : w'.ownsRow B e size v n xs := by
  obtain ⟨h1, h2⟩ := h
  refine ⟨h1, ?_⟩
  rcases h2 with h0 | ⟨g, cap, cur, rfl, hb, hg, hr⟩
  · exact Or.inl h0
  · exact Or.inr ⟨g, cap, cur, rfl, hb, hf.heap hg (hS g rfl), hr⟩
/-- What is written lies ahead of it. -/
theorem Row.keep {α : Type} {R : World → α → List Value → Prop} {e : TypeId} {size : Nat} {S : Nat → Prop} {w w' : World} {B : Nat} {v : Value} {l : List α} (h : Row R e size w B v l) (hf : Fr S w w') (hS : ∀ k, S k → k < B) : Row R e size w' B v l := by
  obtain ⟨cells, h1, h2⟩ := h
  refine ⟨cells, own_keep h1 hf (fun k hk hs => ?_), fun w'' hf' => h2 w'' ((hf.mono (fun k _ hk => Or.inl (hS k hk))).same hf')⟩
  have := (World.ownsRow.lt h1 k hk).1
  have := hS k hs
  omega
theorem Row.own {α : Type} {R : World → α → List Value → Prop} {e : TypeId} {size : Nat} {w : World} {B : Nat} {v : Value} {l : List α} (h : Row R e size w B v l) : ∀ k, v.ownBlock = some k → B ≤ k ∧ k < w.heap.size := by
  obtain ⟨cells, h1, h2⟩ := h
  exact World.ownsRow.lt h1
theorem Row.shape {α : Type} {R : World → α → List Value → Prop} {e : TypeId} {size : Nat} {w : World} {B : Nat} {v : Value} {l : List α} (h : Row R e size w B v l) : ∃ ao cap, v = .slice ao l.length cap ∧ l.length ≤ cap ∧ cap ≤ maxLen := by
  obtain ⟨cells, h1, h2⟩ := h
  rcases h1.2 with ⟨rfl, h0⟩ | ⟨g, cap, cur, rfl, hb, hg, hnc, hcm, _⟩
  · exact ⟨none, 0, by rw [h0], by omega, by decide⟩
  · exact ⟨_, cap, rfl, hnc, hcm⟩
/-- append of one element. -/
theorem wpList_row {α : Type} {R : World → α → List Value → Prop} {w : World} {ops : Array Oper} {rest : List Oper} {o : Oper} {a : Act} {Q : Exit → Act → World → Prop} (hgd : o.guard = none) (s x : Operand) (ty e : TypeId) (z : Value) (size bytes : Nat)
    (hty : Tryz.prog.underlying ty = some (.slice e)) (hinfo : (Tryz.prog.info? e).map (fun i => (i.zero, i.size, i.bytes)) = some (some z, size, bytes)) (hzs : z.cells.size = size) (hsz : 0 < size)
    (ho : o.op = .call { callee := .builtin .append, args := #[s, x], argTypes := #[ty, ty] }) (B : Nat) (v : Value) (l : List α) (y : α) (news : List Value) (ad : Addr) (c : Nat)
    (hs : a.eval s = v) (hr : Row R e size w B v l) (hx : a.eval x = .slice (some ad) 1 c) (hl : news.length = size) (hc : ∀ (j : Nat) (u : Value), news[j]? = some u → w.cell? (ad.add j) = some u) (h1 : ∀ u ∈ news, u.oneCell' = true)
    (hR : ∀ w', Fr (fun k => k < B ∨ v.ownBlock = some k) w w' → R w' y news)
    (hn : l.length ≤ 4000) (hb : bytes ≤ 1000) (hB : B ≤ w.heap.size)
    (h : ∀ v' w', Row R e size w' B v' (l ++ [y]) → Fr (fun k => v.ownBlock = some k) w w' → wpList Tryz.prog ops Q rest (a.put o.dst v') w') : wpList Tryz.prog ops Q (o :: rest) a w := by
  obtain ⟨cells, hr1, hr2⟩ := hr
  cases hi : Tryz.prog.info? e with
  | none => rw [hi] at hinfo; cases hinfo
  | some i =>
    rw [hi] at hinfo
    simp only [Option.map_some, Option.some.injEq, Prod.mk.injEq] at hinfo
    have hbb : (l.length + 1) * bytes ≤ 140737488355328 := Nat.le_trans (Nat.mul_le_mul (show l.length + 1 ≤ 4001 by omega) hb) (by decide)
    refine wpList_append_own_at w hgd s x ty ho B e i z size bytes hty hi hinfo.1 hinfo.2.1 hinfo.2.2 hzs hsz v l.length cells hs hr1 ad 1 c news hx (by omega) hc h1 (by simp only [maxLen]; omega) hbb hB ?_
    intro v' w' h2 h3 _ h5
    refine h v' w' ⟨cells ++ news, by rw [List.length_append]; exact h2, fun w'' hf => ?_⟩ ((Fr.grown h3).mono (fun k _ hk => hk.symm))
    have hF : Fr (fun k => k < B ∨ v.ownBlock = some k) w w'' := by
      refine ((Fr.grown h3).mono (fun k _ hk => Or.inr hk.symm)).trans hf (fun k hk hs => ?_)
      rcases hs with hs | hs
      · exact Or.inl hs
      · rcases h5 with h5 | h5
        · exact Or.inr (h5 ▸ hs)
        · rw [h5] at hs
          simp only [Option.some.injEq] at hs
          omega
    exact (hr2 w'' hF).snoc hl (hR w'' hF)
/-- Elements that a slice holds. -/
def Held {α : Type} (R : World → α → List Value → Prop) (size : Nat) (w : World) (ao : Option Addr) (cap : Nat) (l : List α) : Prop :=
  l.length ≤ cap ∧ cap ≤ maxLen ∧ (l = [] ∨ ∃ b off, ao = some ⟨b, off, none⟩ ∧ ∀ (i : Nat) (x : α), l[i]? = some x → ∃ c, R w x c ∧ c.length = size ∧ ∀ (j : Nat) (u : Value), c[j]? = some u → w.cell? ⟨b, off + i * size + j, none⟩ = some u)
theorem Row.held {α : Type} {R : World → α → List Value → Prop} {e : TypeId} {size : Nat} {w : World} {B : Nat} {v : Value} {l : List α} (h : Row R e size w B v l) : ∃ ao cap, v = .slice ao l.length cap ∧ Nw B w (fun w => Held R size w ao cap l) := by
  obtain ⟨cells, h1, h2⟩ := h
  rcases h1.2 with ⟨rfl, h0⟩ | ⟨g, cap, cur, rfl, hb, hg, hnc, hcm, hcs, ht⟩
  · exact ⟨none, 0, by rw [h0], fun w' _ => ⟨by omega, by decide, Or.inl (List.eq_nil_of_length_eq_zero h0)⟩⟩
  · refine ⟨some ⟨g, 0, none⟩, cap, rfl, fun w' hf => ⟨hnc, hcm, Or.inr ⟨g, 0, rfl, fun i x hi => ?_⟩⟩⟩
    have hch := h2 w' (hf.mono (fun k _ hk => Or.inl hk))
    obtain ⟨c, h3, h4, h5⟩ := hch.get hi
    refine ⟨c, h3, h4, fun j u hj => ?_⟩
    have h6 := h5 j u hj
    rw [Nat.zero_add, cell_of_row w' g _ cur e (0, 0) (hf.heap hg (by omega))]
    rw [← ht, List.getElem?_take] at h6
    split at h6
    · simpa using h6
    · cases h6

/- Expressions. -/
def Te.Exs.list : Exs → List (EH × Exs)
  | .nil => []
  | .cons h k r => (h, k) :: r.list
theorem Te.Exs.list_len : ∀ k : Exs, k.list.length = k.len
  | .nil => rfl
  | .cons _ _ r => by simp only [Exs.list, List.length_cons, Exs.len, Exs.list_len r]
theorem Te.Exs.list_app : ∀ k r : Exs, (k.app r).list = k.list ++ r.list
  | .nil, _ => rfl
  | .cons _ _ r, y => by simp only [Exs.app, Exs.list, Exs.list_app r y, List.cons_append]
def RE (w : World) (x : EH × Exs) (c : List Value) : Prop := ∃ ao cap, c = exC x.1 (.slice ao x.2.len cap) ∧ ExL w ao cap x.2
theorem exA_of (w : World) (b : Nat) : ∀ (k : Exs) (off : Nat), (∀ (i : Nat) (x : EH × Exs), k.list[i]? = some x → ∃ c, RE w x c ∧ c.length = 7 ∧ ∀ (j : Nat) (u : Value), c[j]? = some u → w.cell? ⟨b, off + i * 7 + j, none⟩ = some u) → ExA w k b off
  | .nil, _, _ => trivial
  | .cons h k r, off, H => by
    obtain ⟨c, ⟨ao, cap, rfl, hk⟩, _, hc⟩ := H 0 (h, k) rfl
    refine ⟨⟨ao, cap, fun j x hx => by have := hc j x hx; simpa using this, hk.1, hk.2.1, hk.2.2⟩, exA_of w b r (off + 7) (fun i x hx => ?_)⟩
    obtain ⟨c, h1, h2, h3⟩ := H (i + 1) x hx
    exact ⟨c, h1, h2, fun j u hu => by rw [show off + 7 + i * 7 + j = off + (i + 1) * 7 + j by omega]; exact h3 j u hu⟩
theorem exL_of {w : World} {ao : Option Addr} {cap : Nat} {k : Exs} (h : Held RE 7 w ao cap k.list) : ExL w ao cap k := by
  obtain ⟨h1, h2, h3⟩ := h
  refine ⟨by rw [← Exs.list_len]; exact h1, h2, ?_⟩
  rcases h3 with h3 | ⟨b, off, rfl, h3⟩
  · left; rw [← Exs.list_len, h3]; rfl
  · exact Or.inr ⟨b, off, rfl, exA_of w b k off h3⟩
/- Statements. -/
def Te.Sts.list : Sts → List (SH × Exs × Sts × Sts)
  | .nil => []
  | .cons h e b l r => (h, e, b, l) :: r.list
theorem Te.Sts.list_len : ∀ k : Sts, k.list.length = k.len
  | .nil => rfl
  | .cons _ _ _ _ r => by simp only [Sts.list, List.length_cons, Sts.len, Sts.list_len r]
theorem Te.Sts.list_app : ∀ k r : Sts, (k.app r).list = k.list ++ r.list
  | .nil, _ => rfl
  | .cons _ _ _ _ r, y => by simp only [Sts.app, Sts.list, Sts.list_app r y, List.cons_append]
def RS (w : World) (x : SH × Exs × Sts × Sts) (c : List Value) : Prop := ∃ ao1 cap1 ao2 cap2 ao3 cap3, c = stC x.1 (.slice ao1 x.2.1.len cap1) (.slice ao2 x.2.2.1.len cap2) (.slice ao3 x.2.2.2.len cap3) ∧ ExL w ao1 cap1 x.2.1 ∧ StL w ao2 cap2 x.2.2.1 ∧ StL w ao3 cap3 x.2.2.2
theorem stA_of (w : World) (b : Nat) : ∀ (k : Sts) (off : Nat), (∀ (i : Nat) (x : SH × Exs × Sts × Sts), k.list[i]? = some x → ∃ c, RS w x c ∧ c.length = 5 ∧ ∀ (j : Nat) (u : Value), c[j]? = some u → w.cell? ⟨b, off + i * 5 + j, none⟩ = some u) → StA w k b off
  | .nil, _, _ => trivial
  | .cons h e bo el r, off, H => by
    obtain ⟨c, ⟨ao1, cap1, ao2, cap2, ao3, cap3, rfl, h1, h2, h3⟩, _, hc⟩ := H 0 (h, e, bo, el) rfl
    refine ⟨⟨ao1, cap1, ao2, cap2, ao3, cap3, fun j x hx => by have := hc j x hx; simpa using this, h1, h2, h3⟩, stA_of w b r (off + 5) (fun i x hx => ?_)⟩
    obtain ⟨c, h1, h2, h3⟩ := H (i + 1) x hx
    exact ⟨c, h1, h2, fun j u hu => by rw [show off + 5 + i * 5 + j = off + (i + 1) * 5 + j by omega]; exact h3 j u hu⟩
theorem stL_of {w : World} {ao : Option Addr} {cap : Nat} {k : Sts} (h : Held RS 5 w ao cap k.list) : StL w ao cap k := by
  obtain ⟨h1, h2, h3⟩ := h
  refine ⟨by rw [← Sts.list_len]; exact h1, h2, ?_⟩
  rcases h3 with h3 | ⟨b, off, rfl, h3⟩
  · left; rw [← Sts.list_len, h3]; rfl
  · exact Or.inr ⟨b, off, rfl, stA_of w b k off h3⟩
/- Parameters, declarations, texts. -/
def RP (w : World) (x : Pa) (c : List Value) : Prop := c = paC x
def RD (w : World) (x : De) (c : List Value) : Prop := ∃ pv ev bv, c = deC x pv ev bv ∧ DeI w x pv ev bv
def RT (w : World) (x : Bs) (c : List Value) : Prop := c = [ct x]
theorem paL_of {w : World} {ao : Option Addr} {cap : Nat} {l : List Pa} (h : Held RP 2 w ao cap l) : PaL w ao cap l := by
  obtain ⟨h1, h2, h3⟩ := h
  refine ⟨h1, h2, ?_⟩
  rcases h3 with h3 | ⟨b, off, rfl, h3⟩
  · exact Or.inl h3
  · refine Or.inr ⟨b, off, rfl, fun i p hp j x hx => ?_⟩
    obtain ⟨c, h4, _, h5⟩ := h3 i p hp
    obtain rfl : c = paC p := h4
    exact h5 j x hx
theorem deL_of {w : World} {ao : Option Addr} {cap : Nat} {l : List De} (h : Held RD 7 w ao cap l) : DeL w ao cap l := by
  obtain ⟨h1, h2, h3⟩ := h
  refine ⟨h1, h2, ?_⟩
  rcases h3 with h3 | ⟨b, off, rfl, h3⟩
  · exact Or.inl h3
  · refine Or.inr ⟨b, off, rfl, fun i p hp => ?_⟩
    obtain ⟨c, ⟨pv, ev, bv, rfl, h4⟩, _, h5⟩ := h3 i p hp
    exact ⟨pv, ev, bv, h4, fun j x hx => h5 j x hx⟩
theorem svL_of {w : World} {ao : Option Addr} {cap : Nat} {l : List Bs} (h : Held RT 1 w ao cap l) : SvL w ao cap l := by
  obtain ⟨h1, h2, h3⟩ := h
  refine ⟨h1, h2, ?_⟩
  rcases h3 with h3 | ⟨b, off, rfl, h3⟩
  · exact Or.inl h3
  · refine Or.inr ⟨b, off, rfl, fun i x hx => ?_⟩
    obtain ⟨c, h4, _, h5⟩ := h3 i x hx
    obtain rfl : c = [ct x] := h4
    have := h5 0 _ rfl
    simpa using this
end Go.Proofs.YtpkaekokkhecmaaGreatDoor
