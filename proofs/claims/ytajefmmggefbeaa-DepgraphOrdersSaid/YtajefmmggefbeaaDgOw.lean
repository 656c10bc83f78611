/- own: the law's copy of its nodes. -/
import Derived.Test.YtajefmmggefbeaaDgX
import Derived.Maps.AppendAt
import Derived.Laws.AppendOwnNone
namespace Go.Proofs.Ytajefmmggefbeaa.Dg.Rw
open Go.RowKit
set_option linter.unusedSimpArgs false
set_option linter.unusedVariables false

/-- Cells of elements one behind the other. -/
def Chunks {α : Type} (R : α → List Value → Prop) (size : Nat) : List α → List Value → Prop
  | [], cs => cs = []
  | x :: l, cs => ∃ c rest, cs = c ++ rest ∧ c.length = size ∧ R x c ∧ Chunks R size l rest
theorem Chunks.app {α : Type} {R : α → List Value → Prop} {size : Nat} : ∀ {l l' : List α} {cs cs' : List Value}, Chunks R size l cs → Chunks R size l' cs' → Chunks R size (l ++ l') (cs ++ cs')
  | [], l', cs, cs', h, h' => by
    obtain rfl : cs = [] := h
    exact h'
  | y :: l, l', cs, cs', ⟨d, rest, e, h1, h2, h3⟩, h' => by
    subst e
    exact ⟨d, rest ++ cs', by simp, h1, h2, Chunks.app h3 h'⟩
theorem Chunks.len {α : Type} {R : α → List Value → Prop} {size : Nat} : ∀ {l : List α} {cs : List Value}, Chunks R size l cs → cs.length = l.length * size
  | [], cs, h => by
    obtain rfl : cs = [] := h
    simp
  | y :: l, cs, ⟨d, rest, e, h1, h2, h3⟩ => by
    subst e
    have := Chunks.len h3
    rw [List.length_append, List.length_cons, this, h1, Nat.succ_mul]
    omega
theorem Chunks.get {α : Type} {R : α → List Value → Prop} {size : Nat} : ∀ {l : List α} {cs : List Value} (_ : Chunks R size l cs) {i : Nat} {x : α} (_ : l[i]? = some x), ∃ c, R x c ∧ c.length = size ∧ ∀ j u, c[j]? = some u → cs[i * size + j]? = some u
  | [], cs, h, i, x, hi => by simp at hi
  | y :: l, cs, ⟨d, rest, e, h1, h2, h3⟩, i, x, hi => by
    subst e
    cases i with
    | zero =>
      obtain rfl : y = x := by simpa using hi
      refine ⟨d, h2, h1, fun j u hj => ?_⟩
      rw [Nat.zero_mul, Nat.zero_add, List.getElem?_append_left (List.getElem?_eq_some_iff.1 hj).1]
      exact hj
    | succ i =>
      obtain ⟨c, h4, h5, h6⟩ := Chunks.get h3 (i := i) (by simpa using hi)
      refine ⟨c, h4, h5, fun j u hj => ?_⟩
      rw [List.getElem?_append_right (by rw [h1, Nat.succ_mul]; omega), h1, show (i + 1) * size + j - size = i * size + j by rw [Nat.succ_mul]; omega]
      exact h6 j u hj
/-- A row of the call's own, which lies from B on. -/
def Row {α : Type} (R : α → List Value → Prop) (e : TypeId) (size : Nat) (w : World) (B : Nat) (v : Value) (l : List α) : Prop := ∃ cells, w.ownsRow B e size v l.length cells ∧ Chunks R size l cells
theorem Row.low {α : Type} {R : α → List Value → Prop} {e : TypeId} {size : Nat} {w : World} {B : Nat} {v : Value} {l : List α} (h : Row R e size w B v l) : ∀ k, v.ownBlock = some k → B ≤ k ∧ k < w.heap.size := by
  obtain ⟨cells, h1, h2⟩ := h
  exact World.ownsRow.lt h1
theorem Row.keep {α : Type} {R : α → List Value → Prop} {e : TypeId} {size : Nat} {S : Nat → Prop} {w w' : World} {B : Nat} {v : Value} {l : List α} (h : Row R e size w B v l) (hf : Fr S w w') (hS : ∀ k, v.ownBlock = some k → ¬ S k) : Row R e size w' B v l := by
  obtain ⟨cells, ⟨h1, h2⟩, h3⟩ := h
  refine ⟨cells, ⟨h1, ?_⟩, h3⟩
  rcases h2 with h0 | ⟨g, cap, cur, rfl, hb, hg, hr⟩
  · exact Or.inl h0
  · exact Or.inr ⟨g, cap, cur, rfl, hb, hf.heap hg (hS g rfl), hr⟩
/-- An empty row that was just laid. -/
theorem Row.new {α : Type} (R : α → List Value → Prop) (e : TypeId) (size : Nat) (w : World) (B g : Nat) (hB : B ≤ g) (hg : w.heap[g]? = some (.cells #[] e (0, 0))) : Row R e size w B (.slice (some ⟨g, 0, none⟩) 0 0) [] :=
  ⟨[], ⟨by simp, Or.inr ⟨g, 0, #[], rfl, hB, hg, Nat.le_refl _, by decide, by simp, by simp⟩⟩, rfl⟩
theorem Row.slice {α : Type} {R : α → List Value → Prop} {e : TypeId} {size : Nat} {w : World} {B : Nat} {v : Value} {l : List α} (h : Row R e size w B v l) : ∃ ao cap, v = .slice ao l.length cap ∧ l.length ≤ cap ∧ cap ≤ maxLen ∧
    (l = [] ∨ ∃ g, ao = some ⟨g, 0, none⟩ ∧ ∀ (i : Nat) (x : α), l[i]? = some x → ∃ c, R x c ∧ c.length = size ∧ ∀ (j : Nat) (u : Value), c[j]? = some u → w.cell? ⟨g, i * size + j, none⟩ = some u) := by
  obtain ⟨cells, h1, h2⟩ := h
  rcases h1.2 with ⟨rfl, h0⟩ | ⟨g, cap, cur, rfl, hb, hg, hnc, hcm, hcs, ht⟩
  · exact ⟨none, 0, by rw [h0], by omega, by decide, Or.inl (List.eq_nil_of_length_eq_zero h0)⟩
  · refine ⟨_, cap, rfl, hnc, hcm, Or.inr ⟨g, rfl, fun i x hi => ?_⟩⟩
    obtain ⟨c, h3, h4, h5⟩ := h2.get hi
    refine ⟨c, h3, h4, fun j u hj => ?_⟩
    have h6 := h5 j u hj
    rw [cell_of_row w g _ cur e (0, 0) hg]
    rw [← ht, List.getElem?_take] at h6
    split at h6
    · simpa using h6
    · cases h6
/-- append of elements, as a step of a region whose order is drawn. -/
theorem step_rows {α : Type} {R : α → List Value → Prop} {w : World} {ops : Array Oper} {o : Oper} {a : Act} {K : Act → World → Prop} {Q : Exit → Act → World → Prop} {E : Prop} (hgd : o.guard = none) (s x : Operand) (ty e : TypeId) (z : Value) (size bytes : Nat)
    (hty : Try.prog.underlying ty = some (.slice e)) (hinfo : (Try.prog.info? e).map (fun i => (i.zero, i.size, i.bytes)) = some (some z, size, bytes)) (hzs : z.cells.size = size) (hsz : 0 < size)
    (ho : o.op = .call { callee := .builtin .append, args := #[s, x], argTypes := #[ty, ty] }) (B : Nat) (v : Value) (l ys : List α) (news : List Value) (ad : Addr) (m c : Nat)
    (hs : a.eval s = v) (hr : Row R e size w B v l) (hx : a.eval x = .slice (some ad) m c) (hm : m = ys.length) (hch : Chunks R size ys news) (hc : ∀ (j : Nat) (u : Value), news[j]? = some u → w.cell? (ad.add j) = some u) (h1 : ∀ u ∈ news, u.oneCell' = true)
    (hn : l.length + ys.length ≤ maxLen) (hb : (l.length + ys.length) * bytes ≤ 140737488355328) (hB : B ≤ w.heap.size)
    (h : ∀ v' w', Row R e size w' B v' (l ++ ys) → Fr (fun k => v.ownBlock = some k) w w' → (v'.ownBlock = v.ownBlock ∨ v'.ownBlock = some w.heap.size) → K (a.put o.dst v') w') : if Region.wanted o (yielded ops a.tmps) = true then Oper.wp Try.prog o a w K Q else E := by
  have hw : Region.wanted o (yielded ops a.tmps) = true := by simp [Region.wanted, hgd]
  rw [if_pos hw]
  subst hm
  obtain ⟨cells, hr1, hr2⟩ := hr
  cases hi : Try.prog.info? e with
  | none => rw [hi] at hinfo; cases hinfo
  | some i =>
    rw [hi] at hinfo
    simp only [Option.map_some, Option.some.injEq, Prod.mk.injEq] at hinfo
    obtain ⟨v', w', hr, h2, h3, _, h5⟩ := run_append_own_at (P := Try.prog) w B ty o.type e i z size bytes hty hi hinfo.1 hinfo.2.1 hinfo.2.2 hzs hsz v l.length cells hr1 ad ys.length c news hch.len hc h1 hn hb hB
    have hk := h v' w' ⟨cells ++ news, by rw [List.length_append]; exact h2, hr2.app hch⟩ ((Fr.grown h3).mono (fun k _ hk => hk.symm)) h5
    unfold Oper.wp execOp
    simp only [ho, resolve, invoke, builtin, Sem.run_bind, Sem.run_pure, Result.andThen_ok, List.map_toArray, List.map_cons, List.map_nil, hs, hx, hr]
    exact hk
end Go.Proofs.Ytajefmmggefbeaa.Dg.Rw
namespace Go.Proofs.Ytajefmmggefbeaa.Dg
open Go.RowKit Go.Sort
set_option linter.unusedSimpArgs false
set_option linter.unusedVariables false
/-- append to a list of the call's own, in a region that draws its order. -/
theorem step_app {w : World} {ops : Array Oper} {o : Oper} {a : Act} {K : Act → World → Prop} {Q : Exit → Act → World → Prop} {E : Prop} (hgd : o.guard = none) (s x : Operand)
    (ho : o.op = .call { callee := .builtin .append, args := #[s, x], argTypes := #[23, 23] }) (B : Nat) (v xv : Value) (l add : List Str)
    (hs : a.eval s = v) (hv : To w B v l) (hx : a.eval x = xv) (hxs : Tl w xv add) (hB : B ≤ w.heap.size) (hb : (l.length + add.length) * 16 ≤ 140737488355328)
    (h : ∀ v' w', To w' B v' (l ++ add) → Fr (fun k => v.ownBlock = some k) w w' → (v'.ownBlock = v.ownBlock ∨ v'.ownBlock = some w.heap.size) → K (a.put o.dst v') w') : if Region.wanted o (yielded ops a.tmps) = true then Oper.wp Try.prog o a w K Q else E := by
  have hw : Region.wanted o (yielded ops a.tmps) = true := by simp [Region.wanted, hgd]
  rw [if_pos hw]
  obtain ⟨v', w', hr, h2, h3, h4⟩ := run_app w B v xv l add o.type hv hxs hB hb
  unfold Oper.wp execOp
  simp only [ho, resolve, invoke, builtin, Sem.run_bind, Sem.run_pure, Result.andThen_ok, List.map_toArray, List.map_cons, List.map_nil, hs, hx, hr]
  exact h v' w' h2 h3 h4
theorem Try.info_nd : (Try.prog.info? 50).map (fun i => (i.zero, i.size, i.bytes)) = some (some (.agg #[.string ⟨#[]⟩, .slice none 0 0]), 2, 40) := by kernel_rfl
/-- A node's cells. -/
def RN (n : Str × Value) (c : List Value) : Prop := c = [ct n.1, n.2] ∧ n.2.oneCell' = true
abbrev RowN (w : World) (B : Nat) (v : Value) (xs : List (Str × Value)) : Prop := Rw.Row RN 50 2 w B v xs
/-- What own has made of the first nodes. -/
structure OwN (w : World) (B : Nat) (v : Value) (xs : List (Str × Value)) (nl : List Nd) : Prop where
  row : RowN w B v xs
  len : xs.length = nl.length
  each : ∀ (i : Nat) (x : Str × Value) (n : Nd), xs[i]? = some x → nl[i]? = some n → x.1 = n.1 ∧ To w B x.2 n.2 ∧ ∀ k, x.2.ownBlock = some k → v.ownBlock ≠ some k
theorem OwN.keep {S : Nat → Prop} {w w' : World} {B : Nat} {v : Value} {xs : List (Str × Value)} {nl : List Nd} (h : OwN w B v xs nl) (hf : Fr S w w') (hS : ∀ k, B ≤ k → k < w.heap.size → ¬ S k) : OwN w' B v xs nl :=
  ⟨h.row.keep hf (fun k hk => hS k (h.row.low k hk).1 (h.row.low k hk).2), h.len, fun i x n hx hn => ⟨(h.each i x n hx hn).1, (h.each i x n hx hn).2.1.keep hf (fun k hk => hS k ((h.each i x n hx hn).2.1.own k hk).1 ((h.each i x n hx hn).2.1.own k hk).2), (h.each i x n hx hn).2.2⟩⟩
theorem OwN.nl {w : World} {B : Nat} {v : Value} {xs : List (Str × Value)} {nl : List Nd} (h : OwN w B v xs nl) : NL w v nl := by
  obtain ⟨ao, cap, rfl, h1, h2, h3⟩ := h.row.slice
  refine ⟨ao, cap, by rw [h.len], by rw [← h.len]; exact h1, by unfold maxLen at h2; omega, ?_⟩
  rcases h3 with h3 | ⟨g, rfl, hc⟩
  · left
    subst h3
    exact List.eq_nil_of_length_eq_zero h.len.symm
  · refine Or.inr ⟨g, 0, rfl, fun i n hn => ?_⟩
    obtain ⟨x, hx⟩ : ∃ x, xs[i]? = some x := ⟨xs[i]'(by have := (List.getElem?_eq_some_iff.1 hn).1; have := h.len; omega), List.getElem?_eq_getElem _⟩
    obtain ⟨k1, k2, _⟩ := h.each i x n hx hn
    obtain ⟨c, ⟨rfl, _⟩, _, hcc⟩ := hc i x hx
    refine ⟨x.2, ?_, ?_, k2.tn.tl⟩
    · have := hcc 0 _ rfl
      rw [k1] at this
      simpa using this
    · have := hcc 1 _ rfl
      simpa using this
/-- One node more. -/
theorem OwN.snoc {w w' : World} {B : Nat} {v v' : Value} {xs : List (Str × Value)} {nl : List Nd} {s : Str} {y : Value} {imps : List Str} (h : OwN w B v xs nl) (hf : Fr (fun k => v.ownBlock = some k) w w') (hrow : RowN w' B v' (xs ++ [(s, y)])) (ho : v'.ownBlock = v.ownBlock ∨ v'.ownBlock = some w.heap.size) (hy : To w B y imps) (hyv : ∀ k, y.ownBlock = some k → v.ownBlock ≠ some k) : OwN w' B v' (xs ++ [(s, y)]) (nl ++ [(s, imps)]) := by
  have hnb : ∀ k, k < w.heap.size → v.ownBlock ≠ some k → v'.ownBlock ≠ some k := by
    intro k hk hne e
    rcases ho with o | o
    · exact hne (by rw [← o]; exact e)
    · rw [o] at e; have := Option.some.inj e; omega
  refine ⟨hrow, by simp [h.len], fun i x n hx hn => ?_⟩
  by_cases hil : i < xs.length
  · rw [List.getElem?_append_left hil] at hx
    rw [List.getElem?_append_left (by have := h.len; omega)] at hn
    obtain ⟨k1, k2, k3⟩ := h.each i x n hx hn
    exact ⟨k1, k2.keep hf k3, fun k hk => hnb k (k2.own k hk).2 (k3 k hk)⟩
  · have e : i = xs.length := by
      have := (List.getElem?_eq_some_iff.1 hx).1
      simp at this; omega
    subst e
    rw [List.getElem?_append_right (Nat.le_refl _), Nat.sub_self] at hx
    rw [h.len, List.getElem?_append_right (Nat.le_refl _), Nat.sub_self] at hn
    simp at hx hn
    subst hx hn
    exact ⟨rfl, hy.keep hf hyv, fun k hk => hnb k (hy.own k hk).2 (hyv k hk)⟩
theorem chunkN (s : Str) (y : Value) (h : y.oneCell' = true) : Rw.Chunks RN 2 [(s, y)] [ct s, y] := ⟨[ct s, y], [], by simp, rfl, ⟨rfl, h⟩, rfl⟩
set_option maxRecDepth 20000 in
set_option maxHeartbeats 8000000 in
theorem own_any (ao : Option Addr) (cap : Nat) (nl : List Nd) (w : World) (h : NL w (.slice ao nl.length cap) nl) (hb : nl.length * 40 ≤ 140737488355328) (hb2 : ∀ n ∈ nl, n.2.length * 16 ≤ 140737488355328) :
    Calls Try.prog 26 #[.slice ao nl.length cap] w fun e w' => ∃ (ao' : Option Addr) (cap' : Nat) (xs : List (Str × Value)), e = .returned (.slice ao' nl.length cap') ∧ OwN w' w.heap.size (.slice ao' nl.length cap') xs nl ∧ Fr (fun _ => False) w w' := by
  have hH : Hidden (NL w (.slice ao nl.length cap) nl) := h
  have hbH : Hidden (nl.length * 40 ≤ 140737488355328) := hb
  have hb2H : Hidden (∀ n ∈ nl, n.2.length * 16 ≤ 140737488355328) := hb2
  have hcap : nl.length ≤ cap ∧ cap ≤ 9223372036854775807 := by obtain ⟨_, _, e, q1, q2, _⟩ := h; cases e; exact ⟨q1, q2⟩
  obtain ⟨hc1, hc2⟩ := hcap
  clear h hb hb2
  go_enter Try.func26, Try.ntmps26
  go_wp2_with fail
  go_loopg [3, 4] nl.length (fun k ov iv wr => ∃ (j : Nat) (xs : List (Str × Value)), iv = .int .i64 (j : Int) ∧ j ≤ nl.length ∧ k = nl.length - j ∧ OwN wr w.heap.size ov xs (nl.take j) ∧ Fr (fun _ => False) w wr)
  case atStart => exact ⟨0, [], rfl, by omega, rfl, ⟨⟨[], ⟨by simp, Or.inl ⟨rfl, rfl⟩⟩, rfl⟩, rfl, fun i x n hx => by simp at hx⟩, Fr.refl _ _⟩
  case round =>
    obtain ⟨j, xs, rfl, hj, hk, hO, hf⟩ := hrel
    have hkH : Hidden (gk = nl.length - j) := hk
    have hOH : Hidden (OwN wr w.heap.size u3 xs (nl.take j)) := hO
    have hfH : Hidden (Fr (fun _ => False) w wr) := hf
    have hxl : Hidden (xs.length = j) := by show _ = _; rw [hO.len, List.length_take]; omega
    obtain ⟨aoo, capo, hov, o1, o2, _⟩ := hO.row.slice
    subst hov
    clear hk hO
    by_cases hjl : j < nl.length
    · obtain ⟨⟨s, imps⟩, hn⟩ : ∃ n, nl[j]? = some n := ⟨nl[j], List.getElem?_eq_getElem hjl⟩
      obtain ⟨b, off, aoi, capi, rfl, c1, c2, htl⟩ := NL.at (NL.later hH hf) hn
      simp only at c1 c2 htl
      have htlH : Hidden (Tl wr (.slice aoi imps.length capi) imps) := htl
      have himp : Hidden (imps.length * 16 ≤ 140737488355328) := (show ∀ n ∈ nl, n.2.length * 16 ≤ 140737488355328 from hb2H) _ (List.mem_of_getElem? hn)
      have htk : Hidden (nl.take (j + 1) = nl.take j ++ [(s, imps)]) := by show _ = _; rw [List.take_add_one, hn]; rfl
      have hbl : Hidden (b < w.heap.size) := by
        obtain ⟨bq, oq, _, _, eq, cq, _⟩ := NL.at hH hn
        simp only [Option.some.injEq, Addr.mk.injEq, and_true] at eq
        rw [eq.1]
        exact World.block_lt_of_cell? w _ cq
      clear hn htl hf
      go_wp2_with fail
      have hsz : Hidden (w.heap.size ≤ wr.heap.size) := (show Fr (fun _ => False) w wr from hfH).size
      have hlow : Hidden (∀ k, (Value.slice aoo xs.length capo).ownBlock = some k → w.heap.size ≤ k ∧ k < wr.heap.size) := (show OwN wr w.heap.size _ xs (nl.take j) from hOH).row.low
      have hb5 : (([] : List Str).length + imps.length) * 16 ≤ 140737488355328 := by have : imps.length * 16 ≤ 140737488355328 := himp; simp; omega
      go_region_held3 (fun w' => w'.cell? ⟨b, off + j * 2, none⟩ = some (ct s) ∧ w'.cell? ⟨b, off + j * 2 + 1, none⟩ = some (.slice aoi imps.length capi)) (first | (refine ⟨by with_reducible assumption, by with_reducible assumption⟩) | go_keep) (first
        | (have tk := t5H
           refine Rw.step_rows (R := RN) rfl _ _ 43 50 (.agg #[.string ⟨#[]⟩, .slice none 0 0]) 2 40 Try.underlying43 Try.info_nd rfl (by decide) rfl w.heap.size (.slice aoo xs.length capo) xs [(s, .slice ao5 imps.length cap5)] [ct s, .slice ao5 imps.length cap5] ⟨w5.heap.size, 0, none⟩ 1 1 rfl ?_ rfl rfl (chunkN s _ rfl) ?_ ?_ ?_ ?_ ?_ ?_
           · exact Rw.Row.keep (show RowN w5 w.heap.size _ xs from row5H) (Fr.alloc (fun _ => False) _ _) (fun _ _ f => f)
           · intro i u hu
             rw [Addr.add_lit, Nat.zero_add, cell_of_row _ _ _ _ _ _ (alloc_new w5 _)]
             rcases i with _ | _ | i
             · simp at hu; subst hu; rfl
             · simp at hu; subst hu; rfl
             · simp at hu
           · intro u hu
             simp at hu
             rcases hu with rfl | rfl <;> rfl
           · have h1 : xs.length = j := hxl
             have h2 : nl.length * 40 ≤ 140737488355328 := hbH
             simp [maxLen]; omega
           · have h1 : xs.length = j := hxl
             have h2 : nl.length * 40 ≤ 140737488355328 := hbH
             simp; omega
           · have h1 : w.heap.size ≤ w5.heap.size := hsz5
             simp; omega
           intro v6 w6 r6 f6 o6
           have hb' : b < w.heap.size := hbl
           have nb : ¬ (Value.slice aoo xs.length capo).ownBlock = some b := fun e => by have := ((show ∀ k, _ → w.heap.size ≤ k ∧ k < wr.heap.size from hlow) b e).1; omega
           have e0 := f6.cell ((Fr.alloc (fun _ => False) w5 (.cells #[ct s, .slice ao5 imps.length cap5] 50)).cellN d0) nb
           have e1 := f6.cell ((Fr.alloc (fun _ => False) w5 (.cells #[ct s, .slice ao5 imps.length cap5] 50)).cellN d1) nb
           have r6H : Hidden (RowN w6 w.heap.size v6 (xs ++ [(s, .slice ao5 imps.length cap5)])) := r6
           have f6H : Hidden (Fr (fun k => (Value.slice aoo xs.length capo).ownBlock = some k) (w5.alloc (.cells #[ct s, .slice ao5 imps.length cap5] 50)) w6) := f6
           have o6H : Hidden (v6.ownBlock = (Value.slice aoo xs.length capo).ownBlock ∨ v6.ownBlock = some (w5.alloc (.cells #[ct s, .slice ao5 imps.length cap5] 50)).heap.size) := o6
           clear r6 f6 o6 nb hb')
        | (first
             | refine step_app rfl _ _ rfl w.heap.size (.slice (some ⟨wr.heap.size, 0, none⟩) 0 0) _ [] imps rfl (To.later (To.empty wr w.heap.size hsz) (Fr.drew _ _)) rfl (Tl.later htlH ((Fr.alloc _ _ _).same (Fr.drew _ _))) (Nat.le_trans hsz (by simp)) hb5 ?_
             | refine step_app rfl _ _ rfl w.heap.size (.slice (some ⟨wr.heap.size, 0, none⟩) 0 0) _ [] imps rfl (To.empty wr w.heap.size hsz) rfl (Tl.later htlH (Fr.alloc _ _ _)) (Nat.le_trans hsz (by simp)) hb5 ?_
             | refine step_app rfl _ _ rfl w.heap.size (.slice (some ⟨wr.heap.size, 0, none⟩) 0 0) _ [] imps rfl (To.empty wr.drew w.heap.size hsz) rfl (Tl.later htlH ((Fr.drew _ _).same (Fr.alloc _ _ _))) (Nat.le_trans hsz (by simp)) hb5 ?_
           intro v5 w5 t5 f5 o5
           rw [List.nil_append] at t5
           obtain ⟨ao5, cap5, hv5, _, _⟩ := t5.shape
           subst hv5
           have g5 : Fr (fun k => k = wr.heap.size) wr w5 := by
             have hk : ∀ k, (Value.slice (some (⟨wr.heap.size, 0, none⟩ : Addr)) 0 0).ownBlock = some k → k = wr.heap.size := fun k hk => by
               have : wr.heap.size = k := by simpa [Value.ownBlock] using hk
               exact this.symm
             first
               | exact (((Fr.alloc (fun k => k = wr.heap.size) wr _).same (Fr.drew _ _)).same (f5.mono fun k _ e => hk k e))
               | exact ((Fr.alloc (fun k => k = wr.heap.size) wr _).same (f5.mono fun k _ e => hk k e))
               | exact (((Fr.drew (fun k => k = wr.heap.size) wr).same (Fr.alloc _ _ _)).same (f5.mono fun k _ e => hk k e))
           have hb' : b < w.heap.size := hbl
           have hsz' : w.heap.size ≤ wr.heap.size := hsz
           have d0 := g5.cell c1 (fun e => by have h1 : b = wr.heap.size := e; omega)
           have d1 := g5.cell c2 (fun e => by have h1 : b = wr.heap.size := e; omega)
           have t5H : Hidden (To w5 w.heap.size (.slice ao5 imps.length cap5) imps) := t5
           have g5H : Hidden (Fr (fun k => k = wr.heap.size) wr w5) := g5
           have own5 : OwN w5 w.heap.size (.slice aoo xs.length capo) xs (nl.take j) := (show OwN wr w.heap.size _ xs (nl.take j) from hOH).keep g5 (fun k h1 h2 e => by omega)
           have own5H : Hidden (OwN w5 w.heap.size (.slice aoo xs.length capo) xs (nl.take j)) := own5
           have row5H : Hidden (RowN w5 w.heap.size (.slice aoo xs.length capo) xs) := own5.row
           have hsz5 : Hidden (w.heap.size ≤ w5.heap.size) := Nat.le_trans hsz' g5.size
           have o5H : Hidden ((Value.slice ao5 imps.length cap5).ownBlock = some wr.heap.size ∨ ∃ k, (Value.slice ao5 imps.length cap5).ownBlock = some k ∧ wr.heap.size ≤ k) := by
             rcases o5 with o | o
             · exact Or.inl o
             · refine Or.inr ⟨_, o, ?_⟩
               simp
           clear t5 f5 o5 g5 own5 hb' hsz'))
      go_wp2
      go_roundg (nl.length - (j + 1))
      case measure => have := (show gk = nl.length - j from hkH); omega
      case rel =>
        have fa := Fr.alloc (fun _ => False) w5 (.cells #[ct s, .slice ao5 imps.length cap5] 50)
        refine ⟨j + 1, xs ++ [(s, .slice ao5 imps.length cap5)], by go_num, by omega, rfl, ?_, ?_⟩
        · rw [(show nl.take (j + 1) = _ from htk)]
          refine OwN.snoc ((show OwN w5 w.heap.size _ xs (nl.take j) from own5H).keep fa (fun _ _ _ f => f)) f6H r6H o6H (To.later t5H fa) (fun k hk e => ?_)
          have h1 := ((show ∀ k, _ → w.heap.size ≤ k ∧ k < wr.heap.size from hlow) k e).2
          rcases (show _ ∨ _ from o5H) with o | ⟨k', o, h2⟩
          · rw [o] at hk; have := Option.some.inj hk; omega
          · rw [o] at hk; have := Option.some.inj hk; omega
        · have a1 : Fr (fun _ => False) w w5 := Fr.over hfH g5H (fun k hk => by have : w.heap.size ≤ wr.heap.size := hsz; omega)
          exact (a1.same fa).over f6H (fun k hk => ((show ∀ k, _ → w.heap.size ≤ k ∧ k < wr.heap.size from hlow) k hk).1)
    · obtain rfl : j = nl.length := by omega
      have hO2 : Hidden (OwN wr w.heap.size (.slice aoo xs.length capo) xs nl) := by
        have := (show OwN wr w.heap.size (.slice aoo xs.length capo) xs (nl.take nl.length) from hOH)
        rw [List.take_length] at this
        exact this
      have hxl' : xs.length = nl.length := hxl
      clear hf
      rw [hxl'] at hO2 ⊢
      go_wp2
      go_ret
      exact ⟨aoo, capo, xs, rfl, hO2, hfH⟩
end Go.Proofs.Ytajefmmggefbeaa.Dg
