/- The law's steps, whatever the instruction; append of ints where a guard stands ahead. -/
import Derived.Test.YtphpmaimgndjmaaDoorCdSt
import Derived.Test.YtphpmaimgndjmaaDoorCdAl
namespace Go.Proofs.YtphpmaimgndjmaaDoor.Cd
open Go.RowKit Ty
set_option linter.unusedSimpArgs false
set_option linter.unusedVariables false

theorem steps_any (f : Fu) (p : Fm) (a0 a2 a3 a4 a5 : Option Addr) (c0 c2 c3 c4 c5 : Nat) (i : In) (s : Sp) (a b : Option Sp) (so : Option Addr) (sc : Nat) (w : World) (hF : Fi w f p a0 a2 a3 a4 a5 c0 c2 c3 c4 c5) (hI : InL w so sc s.st) (hl : s.st.length ≤ 100000) (L : Law f p i s a b) (hr : rightS i = true) :
    Calls Tryd.prog 10 #[inV i, .agg (fnV f a0 a2 a3 c0 c2 c3), .agg (fmV p a4 a5 c4 c5), .slice so s.st.length sc] w fun e w' => ∃ v, e = .returned (.tuple #[ci (tkN p i : Int), v, .bool (onT i.op)]) ∧ PutR w' v (puT f p i s.st) ∧ Fr (fun _ => False) w w' := by
  have hk := (right_parts hr).1
  have hk' : 1 ≤ i.op ∧ i.op ≤ 17 := by unfold known at hk; exact of_decide_eq_true hk
  have hn0 := (right_okI hr).1
  obtain ⟨op, n, t, bb⟩ := i
  simp only [] at hk' hn0 ⊢
  obtain ⟨k, rfl⟩ : ∃ k : Nat, n = k := ⟨n.toNat, by omega⟩
  have hop : op = 1 ∨ op = 2 ∨ op = 3 ∨ op = 4 ∨ op = 5 ∨ op = 6 ∨ op = 7 ∨ op = 8 ∨ op = 9 ∨ op = 10 ∨ op = 11 ∨ op = 12 ∨ op = 13 ∨ op = 14 ∨ op = 15 ∨ op = 16 ∨ op = 17 := by omega
  rcases hop with rfl | rfl | rfl | rfl | rfl | rfl | rfl | rfl | rfl | rfl | rfl | rfl | rfl | rfl | rfl | rfl | rfl
  · rw [show tkN p ⟨1, (k : Int), t, bb⟩ = 0 by simp [tkN], show puT f p ⟨1, (k : Int), t, bb⟩ s.st = [t] by simp [puT]]
    exact steps_1 f p a0 a2 a3 a4 a5 c0 c2 c3 c4 c5 k t bb so _ sc w
  · obtain ⟨x, hx⟩ := L.i2 rfl
    simp only [Int.toNat_natCast] at hx
    rw [show tkN p ⟨2, (k : Int), t, bb⟩ = 0 by simp [tkN], show puT f p ⟨2, (k : Int), t, bb⟩ s.st = [x] by simp [puT, hx]]
    exact steps_2 f p a0 a2 a3 a4 a5 c0 c2 c3 c4 c5 k t bb so _ sc w x hF.loc hx
  · rw [show tkN p ⟨3, (k : Int), t, bb⟩ = 1 by simp [tkN], show puT f p ⟨3, (k : Int), t, bb⟩ s.st = [] by simp [puT]]
    exact steps_3 f p a0 a2 a3 a4 a5 c0 c2 c3 c4 c5 k t bb so _ sc w
  · obtain ⟨x, hx⟩ := L.i4 rfl
    simp only [Int.toNat_natCast] at hx
    rw [show tkN p ⟨4, (k : Int), t, bb⟩ = 0 by simp [tkN], show puT f p ⟨4, (k : Int), t, bb⟩ s.st = [x] by simp [puT, hx]]
    exact steps_4 f p a0 a2 a3 a4 a5 c0 c2 c3 c4 c5 k t bb so _ sc w x hF.vars hx
  · rw [show tkN p ⟨5, (k : Int), t, bb⟩ = 1 by simp [tkN], show puT f p ⟨5, (k : Int), t, bb⟩ s.st = [] by simp [puT]]
    exact steps_5 f p a0 a2 a3 a4 a5 c0 c2 c3 c4 c5 k t bb so _ sc w
  · obtain ⟨r, x, hx⟩ := L.i6 rfl
    have e1 : s.st.getD (s.st.length - 1) 0 = x := by rw [hx]; simp
    rw [show tkN p ⟨6, (k : Int), t, bb⟩ = 1 by simp [tkN], show puT f p ⟨6, (k : Int), t, bb⟩ s.st = [(unS k (s.st.getD (s.st.length - 1) 0)).1] by simp [puT], e1]
    exact steps_6 f p a0 a2 a3 a4 a5 c0 c2 c3 c4 c5 k t bb so _ sc w s.st x r.length hI (by rw [hx]; simp) rfl (by rw [hx]; simp) hl
  · obtain ⟨r, u, x, hx⟩ := L.i7 rfl
    have e1 : s.st.getD (s.st.length - 1) 0 = x := by rw [hx]; simp
    have e2 : s.st.getD (s.st.length - 2) 0 = u := by rw [hx]; simp
    rw [show tkN p ⟨7, (k : Int), t, bb⟩ = 2 by simp [tkN], show puT f p ⟨7, (k : Int), t, bb⟩ s.st = [(binS k (s.st.getD (s.st.length - 2) 0) (s.st.getD (s.st.length - 1) 0)).1] by simp [puT], e1, e2]
    exact steps_7 f p a0 a2 a3 a4 a5 c0 c2 c3 c4 c5 k t bb so _ sc w s.st x u r.length hI (by rw [hx]; simp) (by rw [hx]; simp) rfl (by rw [hx]; simp) hl
  · rw [show tkN p ⟨8, (k : Int), t, bb⟩ = 0 by simp [tkN], show puT f p ⟨8, (k : Int), t, bb⟩ s.st = [] by simp [puT]]
    exact steps_8 f p a0 a2 a3 a4 a5 c0 c2 c3 c4 c5 k t bb so _ sc w
  · rw [show tkN p ⟨9, (k : Int), t, bb⟩ = 0 by simp [tkN], show puT f p ⟨9, (k : Int), t, bb⟩ s.st = [] by simp [puT]]
    exact steps_9 f p a0 a2 a3 a4 a5 c0 c2 c3 c4 c5 k t bb so _ sc w
  · obtain ⟨g, hg⟩ := L.i10 rfl
    simp only [Int.toNat_natCast] at hg
    by_cases h0 : g.res = 0
    · rw [show tkN p ⟨10, (k : Int), t, bb⟩ = g.ps.length by simp [tkN, hg], show puT f p ⟨10, (k : Int), t, bb⟩ s.st = [] by simp [puT, hg, h0]]
      exact steps_10 f p a0 a2 a3 a4 a5 c0 c2 c3 c4 c5 k t bb so _ sc w g hF.fns hg h0
    · rw [show tkN p ⟨10, (k : Int), t, bb⟩ = g.ps.length by simp [tkN, hg], show puT f p ⟨10, (k : Int), t, bb⟩ s.st = [g.res] by simp [puT, hg, h0]]
      exact steps_10r f p a0 a2 a3 a4 a5 c0 c2 c3 c4 c5 k t bb so _ sc w g hF.fns hg h0
  · rw [show tkN p ⟨11, (k : Int), t, bb⟩ = 0 by simp [tkN], show puT f p ⟨11, (k : Int), t, bb⟩ s.st = [] by simp [puT]]
    exact steps_11 f p a0 a2 a3 a4 a5 c0 c2 c3 c4 c5 k t bb so _ sc w
  · rw [show tkN p ⟨12, (k : Int), t, bb⟩ = 1 by simp [tkN], show puT f p ⟨12, (k : Int), t, bb⟩ s.st = [] by simp [puT]]
    exact steps_12 f p a0 a2 a3 a4 a5 c0 c2 c3 c4 c5 k t bb so _ sc w
  · rw [show tkN p ⟨13, (k : Int), t, bb⟩ = 0 by simp [tkN], show puT f p ⟨13, (k : Int), t, bb⟩ s.st = [] by simp [puT]]
    exact steps_13 f p a0 a2 a3 a4 a5 c0 c2 c3 c4 c5 k t bb so _ sc w
  · rw [show tkN p ⟨14, (k : Int), t, bb⟩ = 0 by simp [tkN], show puT f p ⟨14, (k : Int), t, bb⟩ s.st = [1] by simp [puT]]
    exact steps_14 f p a0 a2 a3 a4 a5 c0 c2 c3 c4 c5 k t bb so _ sc w
  · rw [show tkN p ⟨15, (k : Int), t, bb⟩ = 0 by simp [tkN], show puT f p ⟨15, (k : Int), t, bb⟩ s.st = [] by simp [puT]]
    exact steps_15 f p a0 a2 a3 a4 a5 c0 c2 c3 c4 c5 k t bb so _ sc w
  · rw [show tkN p ⟨16, (k : Int), t, bb⟩ = 0 by simp [tkN], show puT f p ⟨16, (k : Int), t, bb⟩ s.st = [] by simp [puT]]
    exact steps_16 f p a0 a2 a3 a4 a5 c0 c2 c3 c4 c5 k t bb so _ sc w
  · rw [show tkN p ⟨17, (k : Int), t, bb⟩ = 1 by simp [tkN], show puT f p ⟨17, (k : Int), t, bb⟩ s.st = [] by simp [puT]]
    exact steps_17 f p a0 a2 a3 a4 a5 c0 c2 c3 c4 c5 k t bb so _ sc w
theorem wpl_want {P : Program} {ops : Array Oper} {rest : List Oper} {o : Oper} {a : Act} {w : World} {Q : Exit → Act → World → Prop} (hw : Region.wanted o (yielded ops a.tmps) = true)
    (h : ∀ K : Act → World → Prop, (∀ a w, wpList P ops Q rest a w → K a w) → o.wp P a w K Q) : wpList P ops Q (o :: rest) a w :=
  wpList_step fun K hK => by rw [if_pos hw]; exact h K hK
/-- append of a row of ints to an empty one, made just now. -/
theorem wplG_ints {w : World} {ops : Array Oper} {rest : List Oper} {o : Oper} {a : Act} {Q : Exit → Act → World → Prop} (hw : Region.wanted o (yielded ops a.tmps) = true) (s x : Operand)
    (ho : o.op = .call { callee := .builtin .append, args := #[s, x], argTypes := #[22, 22] }) (B g : Nat) (ao : Option Addr) (n cap : Nat) (l : List Int)
    (hs : a.eval s = .slice (some ⟨g, 0, none⟩) 0 0) (hx : a.eval x = .slice ao n cap) (hg : w.heap[g]? = some (.cells #[] 3 (0, 0))) (hB : B ≤ g) (hB2 : B ≤ w.heap.size) (hl : l.length = n) (hI : InL w ao cap l) (hn : n ≤ 17592186044416)
    (h : ∀ v' w', IO w' B v' l → Fr (fun _ => False) w w' → wpList Tryd.prog ops Q rest (a.put o.dst v') w') : wpList Tryd.prog ops Q (o :: rest) a w := by
  refine wpl_want hw fun K hK => ?_
  obtain ⟨v', w', hrun, h2, h3⟩ := app_ints (w := w) B o.type g ao n cap l hg hB hB2 hl hI hn
  unfold Oper.wp
  simp only [execOp, ho, resolve, invoke, builtin, Sem.run_bind, Sem.run_pure, Result.andThen_ok, List.map_toArray, List.map_cons, List.map_nil, hs, hx, hrun]
  exact hK _ _ (h v' w' h2 h3)
/-- append of what is put. -/
theorem wplG_put {w : World} {ops : Array Oper} {rest : List Oper} {o : Oper} {a : Act} {Q : Exit → Act → World → Prop} (hw : Region.wanted o (yielded ops a.tmps) = true) (s x : Operand)
    (ho : o.op = .call { callee := .builtin .append, args := #[s, x], argTypes := #[22, 22] }) (B : Nat) (v pv : Value) (l put : List Int)
    (hs : a.eval s = v) (hr : IO w B v l) (hx : a.eval x = pv) (hp : PutR w pv put) (hl : l.length ≤ 100000) (hB : B ≤ w.heap.size)
    (h : ∀ v' w', IO w' B v' (l ++ put) → Fr (fun b => v.ownBlock = some b) w w' → wpList Tryd.prog ops Q rest (a.put o.dst v') w') : wpList Tryd.prog ops Q (o :: rest) a w := by
  refine wpl_want hw fun K hK => ?_
  obtain ⟨i, hi, hz⟩ := Option.map_eq_some_iff.1 info_i
  simp only [Prod.mk.injEq] at hz
  rcases hp with ⟨rfl, rfl⟩ | ⟨g, c, rfl, rfl, hc⟩
  · have hrun := run_append_owned_none (P := Tryd.prog) (w := w) B 22 o.type 3 i 1 Tryd.underlying22 hi v l.length (l.map ci) hr
    unfold Oper.wp
    simp only [execOp, ho, resolve, invoke, builtin, Sem.run_bind, Sem.run_pure, Result.andThen_ok, List.map_toArray, List.map_cons, List.map_nil, hs, hx, hrun]
    exact hK _ _ (h v w (by rw [List.append_nil]; exact hr) (Fr.refl _ _))
  · obtain ⟨v', w', hrun, h2, h3, _, h5⟩ := run_append_own_at (P := Tryd.prog) w B 22 o.type 3 i (.int .i64 0) 1 8 Tryd.underlying22 hi hz.1 hz.2.1 hz.2.2 rfl (by decide) v l.length (l.map ci) hr ⟨g, 0, none⟩ 1 1 [ci c] rfl (fun j u hu => by
      rw [Addr.add_lit, Nat.zero_add]
      cases j with
      | zero => simp at hu; subst hu; exact hc
      | succ j => simp at hu) (fun u hu => by
      simp only [List.mem_cons, List.not_mem_nil, or_false] at hu
      rw [hu]; rfl) (by simp only [maxLen]; omega) (by omega) hB
    unfold Oper.wp
    simp only [execOp, ho, resolve, invoke, builtin, Sem.run_bind, Sem.run_pure, Result.andThen_ok, List.map_toArray, List.map_cons, List.map_nil, hs, hx, hrun]
    refine hK _ _ (h v' w' ?_ ((Fr.grown h3).mono fun k _ e => e.symm))
    show w'.ownsRow B _ 1 v' (l ++ [c]).length ((l ++ [c]).map ci)
    rw [List.map_append, show (l ++ [c]).length = l.length + 1 by rw [List.length_append]; rfl]
    simpa using h2
theorem InL.take {w : World} {ao : Option Addr} {cap : Nat} {l : List Int} (h : InL w ao cap l) (m : Nat) : InL w ao cap (l.take m) := by
  obtain ⟨h1, h2, h3, h4⟩ := h
  refine ⟨Nat.le_trans (by rw [List.length_take]; omega) h1, h2, h3, ?_⟩
  rcases h4 with rfl | ⟨b, off, rfl, h4⟩
  · exact Or.inl (by simp)
  · refine Or.inr ⟨b, off, rfl, fun i x hx => ?_⟩
    rw [List.getElem?_take] at hx
    split at hx
    · exact h4 i x hx
    · cases hx
end Go.Proofs.YtphpmaimgndjmaaDoor.Cd
