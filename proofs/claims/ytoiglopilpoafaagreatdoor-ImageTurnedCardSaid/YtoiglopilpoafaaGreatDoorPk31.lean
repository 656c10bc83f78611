/- Texts of ours, in one. -/
import Derived.Test.YtoiglopilpoafaaGreatDoorPk30
import Derived.Test.YtoiglopilpoafaaGreatDoorPk20
import Derived.Test.YtoiglopilpoafaaGreatDoorPk28
import Derived.Maps.AppendAt
import Derived.Deep.DeepCutAuto
namespace Go.Proofs.YtoiglopilpoafaaGreatDoor.Cd
open Go.RowKit Ty
set_option linter.unusedSimpArgs false
set_option linter.unusedVariables false

/-- A row of ints of the call's own. -/
abbrev OwI (w : World) (B : Nat) (v : Value) (l : List Int) : Prop := w.ownsRow B 3 1 v l.length (l.map ci)
theorem OwI.keepN {w w' : World} {B : Nat} {v : Value} {l : List Int} (h : OwI w B v l) (f : Fr (fun _ => False) w w') : OwI w' B v l := own_keep h f (fun _ _ f => f)
theorem OwI.inl {w : World} {B : Nat} {v : Value} {l : List Int} (h : OwI w B v l) : ∃ ao cap, v = .slice ao l.length cap ∧ InL w ao cap l := by
  obtain ⟨ao, cap, rfl, h1, h2, h3, _, h4⟩ := own_slice h (by decide)
  refine ⟨ao, cap, rfl, h1, h2, h3, ?_⟩
  rcases h4 with h4 | ⟨g, rfl, _, _, h4⟩
  · exact Or.inl (List.length_eq_zero_iff.1 h4)
  · refine Or.inr ⟨g, 0, rfl, fun i x hx => ?_⟩
    rw [Nat.zero_add]
    exact h4 i (ci x) (by rw [List.getElem?_map, hx]; rfl)
theorem info_i : (Tryz.prog.info? 3).map (fun i => (i.zero, i.size, i.bytes)) = some (some (.int .i64 0), 1, 8) := by kernel_rfl
theorem own_lower {w : World} {B B' : Nat} {e : TypeId} {size : Nat} {v : Value} {n : Nat} {cells : List Value} (h : w.ownsRow B e size v n cells) (hb : B' ≤ B) : w.ownsRow B' e size v n cells := by
  refine ⟨h.1, ?_⟩
  rcases h.2 with h0 | ⟨g, cap, cur, rfl, hb2, hg, rest⟩
  · exact Or.inl h0
  · exact Or.inr ⟨g, cap, cur, rfl, Nat.le_trans hb hb2, hg, rest⟩
/-- append of a row of ints to an empty one, made just now. -/
theorem app_ints {w : World} (B : Nat) (ty : TypeId) (g : Nat) (ao : Option Addr) (n cap : Nat) (l : List Int) (hg : w.heap[g]? = some (.cells #[] 3 (0, 0))) (hB : B ≤ g) (hB2 : B ≤ w.heap.size) (hl : l.length = n) (hI : InL w ao cap l) (hn : n ≤ 17592186044416) :
    ∃ v' w', (Builtin.append_ #[41, 41] ty #[.slice (some ⟨g, 0, none⟩) 0 0, .slice ao n cap]).run Tryz.prog w = .ok v' w' ∧ OwI w' B v' l ∧ Fr (fun _ => False) w w' := by
  obtain ⟨i, hi, hz⟩ := Option.map_eq_some_iff.1 info_i
  simp only [Prod.mk.injEq] at hz
  have hown : w.ownsRow B 3 1 (.slice (some ⟨g, 0, none⟩) 0 0) 0 [] := ⟨by simp, Or.inr ⟨g, 0, #[], rfl, hB, hg, Nat.le_refl _, by decide, by simp, by simp⟩⟩
  by_cases h0 : l = []
  · subst h0
    have hn0 : n = 0 := by simpa using hl.symm
    subst hn0
    cases ao with
    | none =>
      have hc := hI.2.2.1 rfl
      subst hc
      have hrun := run_append_owned_none (P := Tryz.prog) (w := w) B 41 ty 3 i 1 Tryz.underlying41 hi _ 0 [] hown
      exact ⟨_, w, hrun, hown, Fr.refl _ _⟩
    | some ad =>
      have hr := run_append_room (P := Tryz.prog) w 41 ty 3 i Tryz.underlying41 hi g 0 0 #[] hg ad 0 cap [] (by simp) (by simp) (by simp) (by omega) (by simp)
      simp only [Nat.zero_mul, List.take_nil, List.append_nil, Array.toList_empty, List.drop_nil, List.length_nil, Nat.add_zero] at hr
      have hg2 : (w.setRow g [].toArray).heap[g]? = some (.cells #[] 3 (0, 0)) := setRow_heap w g #[] _ _ _ hg
      refine ⟨_, _, hr, ⟨by simp, Or.inr ⟨g, 0, #[], rfl, hB, hg2, Nat.le_refl _, by decide, by simp, by simp⟩⟩, ⟨rfl, rfl, by simp, fun k _ _ => ?_⟩⟩
      by_cases hk : k = g
      · subst hk; rw [hg2, hg]
      · exact setRow_other w g k _ hk
  · obtain ⟨b, off, rfl, hc⟩ := hI.2.2.2.resolve_left h0
    have hpos : 0 < n := by rw [← hl]; exact List.length_pos_iff.2 h0
    have hr := run_append_grow (P := Tryz.prog) w 41 ty 3 i (.int .i64 0) Tryz.underlying41 hi hz.1 ⟨g, 0, none⟩ 0 0 [] (by simp) (by simp) ⟨b, off, none⟩ n cap (l.map ci) (by rw [hz.2.1, List.length_map]; omega) (fun j u hu => by
      rw [List.getElem?_map] at hu
      cases hx : l[j]? with
      | none => rw [hx] at hu; cases hu
      | some x =>
        rw [hx] at hu
        obtain rfl := Option.some.inj hu
        rw [Addr.add_lit]
        exact hc j x hx) (by omega) (by omega) (by rw [hz.2.2]; exact growslice_fits (by omega) (by omega))
    have hge := grownCap_ge w (0 + n) 0 3
    have hcm2 : grownCap w (0 + n) 0 3 ≤ maxLen := grownCap_le_maxLen w (0 + n) 0 3 (by unfold maxLen; omega)
    refine ⟨_, _, hr, ⟨by simp, Or.inr ⟨w.heap.size, _, _, by rw [Nat.zero_add, hl], hB2, alloc_new w.drew _, by omega, hcm2, ?_, ?_⟩⟩, (Fr.drew _ _).same (Fr.alloc _ _ _)⟩
    · have hz1 : (Value.int IntKind.i64 0).cells.size = 1 := rfl
      simp only [Array.size_append, List.size_toArray, size_zeroCells, hz1, List.length_map, List.length_nil]
      omega
    · simp only [Array.toList_append, List.append_assoc, List.nil_append]
      rw [List.take_append_of_le_length (by simp)]
      exact List.take_of_length_le (by simp)
theorem step_ints {w : World} {ops : Array Oper} {o : Oper} {a : Act} {K : Act → World → Prop} {Q : Exit → Act → World → Prop} {E : Prop} (hgd : o.guard = none) (s x : Operand)
    (ho : o.op = .call { callee := .builtin .append, args := #[s, x], argTypes := #[41, 41] }) (B g : Nat) (ao : Option Addr) (n cap : Nat) (l : List Int)
    (hs : a.eval s = .slice (some ⟨g, 0, none⟩) 0 0) (hx : a.eval x = .slice ao n cap) (hg : w.heap[g]? = some (.cells #[] 3 (0, 0))) (hB : B ≤ g) (hB2 : B ≤ w.heap.size) (hl : l.length = n) (hI : InL w ao cap l) (hn : n ≤ 17592186044416)
    (h : ∀ v' w', OwI w' B v' l → Fr (fun _ => False) w w' → K (a.put o.dst v') w') : if Region.wanted o (yielded ops a.tmps) = true then Oper.wp Tryz.prog o a w K Q else E := by
  have hw : Region.wanted o (yielded ops a.tmps) = true := by simp [Region.wanted, hgd]
  rw [if_pos hw]
  obtain ⟨v', w', hrun, h2, h3⟩ := app_ints (w := w) B o.type g ao n cap l hg hB hB2 hl hI hn
  unfold Oper.wp
  simp only [execOp, ho, resolve, invoke, builtin, Sem.run_bind, Sem.run_pure, Result.andThen_ok, List.map_toArray, List.map_cons, List.map_nil, hs, hx, hrun]
  exact h v' w' h2 h3
theorem box2 {w : World} {b : Nat} {x0 x1 : Value} {t : TypeId} (hb : w.heap[b]? = some (.cells #[x0, x1] t (0, 0))) : w.cell? ⟨b, 0, none⟩ = some x0 ∧ w.cell? ⟨b, 1, none⟩ = some x1 := ⟨cell_of_row _ _ 0 _ _ _ hb, cell_of_row _ _ 1 _ _ _ hb⟩
theorem two_put {w : World} {g : Nat} {x0 x1 : Value} {t : TypeId} (h : w.heap[g]? = some (.cells #[x0, x1] t (0, 0))) (v0 v1 : Value) :
    ((w.setCell ⟨g, 0, none⟩ v0).setCell ⟨g, 1, none⟩ v1).heap[g]? = some (.cells #[v0, v1] t (0, 0)) := by
  have h0 : (w.setCell ⟨g, 0, none⟩ v0).heap[g]? = some (.cells #[v0, x1] t (0, 0)) := heap_setCell_same _ g 0 _ t v0 h
  exact heap_setCell_same _ g 1 _ t v1 h0
theorem four_put {w : World} {g : Nat} {x0 x1 x2 x3 : Value} {t : TypeId} (h : w.heap[g]? = some (.cells #[x0, x1, x2, x3] t (0, 0))) (v0 v1 v2 v3 : Value) :
    ((((w.setCell ⟨g, 0, none⟩ v0).setCell ⟨g, 1, none⟩ v1).setCell ⟨g, 2, none⟩ v2).setCell ⟨g, 3, none⟩ v3).heap[g]? = some (.cells #[v0, v1, v2, v3] t (0, 0)) := by
  have h0 : (w.setCell ⟨g, 0, none⟩ v0).heap[g]? = some (.cells #[v0, x1, x2, x3] t (0, 0)) := heap_setCell_same _ g 0 _ t v0 h
  have h1 : ((w.setCell ⟨g, 0, none⟩ v0).setCell ⟨g, 1, none⟩ v1).heap[g]? = some (.cells #[v0, v1, x2, x3] t (0, 0)) := heap_setCell_same _ g 1 _ t v1 h0
  have h2 : (((w.setCell ⟨g, 0, none⟩ v0).setCell ⟨g, 1, none⟩ v1).setCell ⟨g, 2, none⟩ v2).heap[g]? = some (.cells #[v0, v1, v2, x3] t (0, 0)) := heap_setCell_same _ g 2 _ t v2 h1
  exact heap_setCell_same _ g 3 _ t v3 h2
theorem four_fr (w : World) (g : Nat) (v0 v1 v2 v3 : Value) : Fr (fun k => k = g) w ((((w.setCell ⟨g, 0, none⟩ v0).setCell ⟨g, 1, none⟩ v1).setCell ⟨g, 2, none⟩ v2).setCell ⟨g, 3, none⟩ v3) :=
  (((Fr.setCell w ⟨g, 0, none⟩ v0).same (Fr.setCell _ ⟨g, 1, none⟩ v1)).same (Fr.setCell _ ⟨g, 2, none⟩ v2)).same (Fr.setCell _ ⟨g, 3, none⟩ v3)
/-- A function of the law's own. -/
def FnO (w : World) (B : Nat) (v : Value) (f : Fu) : Prop := ∃ vp vl vc, v = .agg #[vp, ci f.sg.res, vl, vc] ∧ OwI w B vp f.sg.ps ∧ OwI w B vl f.loc ∧ IW w B 69 vc f.cd
theorem own_other {w : World} {B k : Nat} {e : TypeId} {size : Nat} {v : Value} {n : Nat} {cells : List Value} (h : w.ownsRow B e size v n cells) (hB : ∀ j, k = j → j < B) : v.ownBlock ≠ some k := fun e2 => by
  have := (own_block h k e2).1
  have := hB k rfl
  omega
theorem fn_end {f : Fu} {G : Nat} {w V X : World} {vp vl vc : Value} {rs : Int} (hG : w.heap.size = G) (hsz : G + 2 ≤ V.heap.size) (fV : Fr (fun _ => False) w V) (gX : Fr (fun _ => False) V X)
    (hb1 : V.heap[G + 1]? = some (.cells #[.slice none 0 0, ci 0, .slice none 0 0, .slice none 0 0] 46 (0, 0))) (hp : OwI X V.heap.size vp f.sg.ps) (hl : OwI X V.heap.size vl f.loc) (hm : IW X V.heap.size 69 vc f.cd) (hrs : rs = f.sg.res) :
    ((((X.setCell ⟨G + 1, 0, none⟩ vp).setCell ⟨G + 1, 1, none⟩ (ci rs)).setCell ⟨G + 1, 2, none⟩ vl).setCell ⟨G + 1, 3, none⟩ vc).heap[G + 1]? = some (.cells #[vp, ci rs, vl, vc] 46 (0, 0)) ∧
      FnO ((((X.setCell ⟨G + 1, 0, none⟩ vp).setCell ⟨G + 1, 1, none⟩ (ci rs)).setCell ⟨G + 1, 2, none⟩ vl).setCell ⟨G + 1, 3, none⟩ vc) w.heap.size (.agg #[vp, ci rs, vl, vc]) f ∧
      Fr (fun _ => False) w ((((X.setCell ⟨G + 1, 0, none⟩ vp).setCell ⟨G + 1, 1, none⟩ (ci rs)).setCell ⟨G + 1, 2, none⟩ vl).setCell ⟨G + 1, 3, none⟩ vc) := by
  have f4 := four_fr X (G + 1) vp (ci rs) vl vc
  have kp : ∀ {e : TypeId} {size : Nat} {v : Value} {n : Nat} {cells : List Value}, X.ownsRow V.heap.size e size v n cells → ((((X.setCell ⟨G + 1, 0, none⟩ vp).setCell ⟨G + 1, 1, none⟩ (ci rs)).setCell ⟨G + 1, 2, none⟩ vl).setCell ⟨G + 1, 3, none⟩ vc).ownsRow w.heap.size e size v n cells := by
    intro e size v n cells h
    exact own_lower (own_keep h f4 (fun k e2 e3 => by have := (own_block h k e2).1; omega)) (by omega)
  refine ⟨four_put (gX.heap hb1 (fun f => f)) _ _ _ _, ⟨vp, vl, vc, by rw [hrs], kp hp, kp hl, kp hm⟩, (fV.same gX).over f4 (fun k e => by omega)⟩
end Go.Proofs.YtoiglopilpoafaaGreatDoor.Cd

namespace Go.Proofs.YtoiglopilpoafaaGreatDoor.Im
open Go.RowKit Ty Cd
set_option linter.unusedSimpArgs false
set_option linter.unusedVariables false

/-- Cells of elements one behind the other. -/
def Chunks {α : Type} (R : World → α → List Value → Prop) (size : Nat) (w : World) : List α → List Value → Prop
  | [], cs => cs = []
  | x :: l, cs => ∃ c rest, cs = c ++ rest ∧ c.length = size ∧ R w x c ∧ Chunks R size w l rest
theorem Chunks.snoc {α : Type} {R : World → α → List Value → Prop} {size : Nat} {w : World} : ∀ {l : List α} {cs : List Value} (_ : Chunks R size w l cs) {x : α} {c : List Value} (_ : c.length = size) (_ : R w x c), Chunks R size w (l ++ [x]) (cs ++ c)
  | [], cs, h, x, c, hc, hr => by
    obtain rfl : cs = [] := h
    exact ⟨c, [], by simp, hc, hr, rfl⟩
  | y :: l, cs, ⟨d, rest, e, h1, h2, h3⟩, x, c, hc, hr => by
    subst e
    exact ⟨d, rest ++ c, by simp, h1, h2, Chunks.snoc h3 hc hr⟩
theorem Chunks.get {α : Type} {R : World → α → List Value → Prop} {size : Nat} {w : World} : ∀ {l : List α} {cs : List Value} (_ : Chunks R size w l cs) {i : Nat} {x : α} (_ : l[i]? = some x), ∃ c, R w x c ∧ c.length = size ∧ ∀ j u, c[j]? = some u → cs[i * size + j]? = some u
  | [], cs, h, i, x, hi => by simp at hi
  | y :: l, cs, ⟨d, rest, e, h1, h2, h3⟩, i, x, hi => by
    subst e
    cases i with
    | zero =>
      obtain rfl : y = x := by simpa using hi
      refine ⟨d, h2, h1, fun j u hj => ?_⟩
      rw [Nat.zero_mul, Nat.zero_add, List.getElem?_append_left (List.getElem?_eq_some_iff.1 hj).1]
      exact hj
    | succ i =>
      obtain ⟨c, h4, h5, h6⟩ := Chunks.get h3 (i := i) (by simpa using hi)
      refine ⟨c, h4, h5, fun j u hj => ?_⟩
      rw [List.getElem?_append_right (by rw [h1, Nat.succ_mul]; omega), h1, show (i + 1) * size + j - size = i * size + j by rw [Nat.succ_mul]; omega]
      exact h6 j u hj
/-- A row of the call's own, which lies from B on. -/
def Row {α : Type} (R : World → α → List Value → Prop) (e : TypeId) (size : Nat) (w : World) (B : Nat) (v : Value) (l : List α) : Prop :=
  ∃ cells, w.ownsRow B e size v l.length cells ∧ ∀ w', Fr (fun k => k < B ∨ v.ownBlock = some k) w w' → Chunks R size w' l cells
theorem Row.nil {α : Type} (R : World → α → List Value → Prop) (e : TypeId) (size : Nat) (w : World) (B : Nat) : Row R e size w B (.slice none 0 0) [] :=
  ⟨[], World.ownsRow_nil w B e size, fun _ _ => rfl⟩
/-- What is written lies ahead of it. -/
theorem Row.keep {α : Type} {R : World → α → List Value → Prop} {e : TypeId} {size : Nat} {S : Nat → Prop} {w w' : World} {B : Nat} {v : Value} {l : List α} (h : Row R e size w B v l) (hf : Fr S w w') (hS : ∀ k, S k → k < B) : Row R e size w' B v l := by
  obtain ⟨cells, h1, h2⟩ := h
  refine ⟨cells, own_keep h1 hf (fun k hk hs => ?_), fun w'' hf' => h2 w'' ((hf.mono (fun k _ hk => Or.inl (hS k hk))).same hf')⟩
  have := (World.ownsRow.lt h1 k hk).1
  have := hS k hs
  omega
theorem Row.own {α : Type} {R : World → α → List Value → Prop} {e : TypeId} {size : Nat} {w : World} {B : Nat} {v : Value} {l : List α} (h : Row R e size w B v l) : ∀ k, v.ownBlock = some k → B ≤ k ∧ k < w.heap.size := by
  obtain ⟨cells, h1, h2⟩ := h
  exact World.ownsRow.lt h1
theorem Row.shape {α : Type} {R : World → α → List Value → Prop} {e : TypeId} {size : Nat} {w : World} {B : Nat} {v : Value} {l : List α} (h : Row R e size w B v l) : ∃ ao cap, v = .slice ao l.length cap ∧ l.length ≤ cap ∧ cap ≤ maxLen := by
  obtain ⟨cells, h1, h2⟩ := h
  rcases h1.2 with ⟨rfl, h0⟩ | ⟨g, cap, cur, rfl, hb, hg, hnc, hcm, _⟩
  · exact ⟨none, 0, by rw [h0], by omega, by decide⟩
  · exact ⟨_, cap, rfl, hnc, hcm⟩
/-- append of one element. -/
theorem wpList_row {α : Type} {R : World → α → List Value → Prop} {w : World} {ops : Array Oper} {rest : List Oper} {o : Oper} {a : Act} {Q : Exit → Act → World → Prop} (hgd : o.guard = none) (s x : Operand) (ty e : TypeId) (z : Value) (size bytes : Nat)
    (hty : Tryz.prog.underlying ty = some (.slice e)) (hinfo : (Tryz.prog.info? e).map (fun i => (i.zero, i.size, i.bytes)) = some (some z, size, bytes)) (hzs : z.cells.size = size) (hsz : 0 < size)
    (ho : o.op = .call { callee := .builtin .append, args := #[s, x], argTypes := #[ty, ty] }) (B : Nat) (v : Value) (l : List α) (y : α) (news : List Value) (ad : Addr) (c : Nat)
    (hs : a.eval s = v) (hr : Row R e size w B v l) (hx : a.eval x = .slice (some ad) 1 c) (hl : news.length = size) (hc : ∀ (j : Nat) (u : Value), news[j]? = some u → w.cell? (ad.add j) = some u) (h1 : ∀ u ∈ news, u.oneCell' = true)
    (hR : ∀ w', Fr (fun k => k < B ∨ v.ownBlock = some k) w w' → R w' y news)
    (hn : l.length ≤ 1000000) (hb : bytes ≤ 1000) (hB : B ≤ w.heap.size)
    (h : ∀ v' w', Row R e size w' B v' (l ++ [y]) → Fr (fun k => v.ownBlock = some k) w w' → wpList Tryz.prog ops Q rest (a.put o.dst v') w') : wpList Tryz.prog ops Q (o :: rest) a w := by
  obtain ⟨cells, hr1, hr2⟩ := hr
  cases hi : Tryz.prog.info? e with
  | none => rw [hi] at hinfo; cases hinfo
  | some i =>
    rw [hi] at hinfo
    simp only [Option.map_some, Option.some.injEq, Prod.mk.injEq] at hinfo
    have hbb : (l.length + 1) * bytes ≤ 140737488355328 := Nat.le_trans (Nat.mul_le_mul (show l.length + 1 ≤ 1000001 by omega) hb) (by decide)
    refine wpList_append_own_at w hgd s x ty ho B e i z size bytes hty hi hinfo.1 hinfo.2.1 hinfo.2.2 hzs hsz v l.length cells hs hr1 ad 1 c news hx (by omega) hc h1 (by simp only [maxLen]; omega) hbb hB ?_
    intro v' w' h2 h3 _ h5
    refine h v' w' ⟨cells ++ news, by rw [List.length_append]; exact h2, fun w'' hf => ?_⟩ ((Fr.grown h3).mono (fun k _ hk => hk.symm))
    have hF : Fr (fun k => k < B ∨ v.ownBlock = some k) w w'' := by
      refine ((Fr.grown h3).mono (fun k _ hk => Or.inr hk.symm)).trans hf (fun k hk hs => ?_)
      rcases hs with hs | hs
      · exact Or.inl hs
      · rcases h5 with h5 | h5
        · exact Or.inr (h5 ▸ hs)
        · rw [h5] at hs
          simp only [Option.some.injEq] at hs
          omega
    exact (hr2 w'' hF).snoc hl (hR w'' hF)
/-- Elements that a slice holds. -/
def Held {α : Type} (R : World → α → List Value → Prop) (size : Nat) (w : World) (ao : Option Addr) (cap : Nat) (l : List α) : Prop :=
  l.length ≤ cap ∧ cap ≤ maxLen ∧ (l = [] ∨ ∃ b off, ao = some ⟨b, off, none⟩ ∧ ∀ (i : Nat) (x : α), l[i]? = some x → ∃ c, R w x c ∧ c.length = size ∧ ∀ (j : Nat) (u : Value), c[j]? = some u → w.cell? ⟨b, off + i * size + j, none⟩ = some u)
theorem Row.held {α : Type} {R : World → α → List Value → Prop} {e : TypeId} {size : Nat} {w : World} {B : Nat} {v : Value} {l : List α} (h : Row R e size w B v l) : ∃ ao cap, v = .slice ao l.length cap ∧ (ao = none → cap = 0) ∧ Held R size w ao cap l := by
  obtain ⟨cells, h1, h2⟩ := h
  rcases h1.2 with ⟨rfl, h0⟩ | ⟨g, cap, cur, rfl, hb, hg, hnc, hcm, hcs, ht⟩
  · exact ⟨none, 0, by rw [h0], fun _ => rfl, by omega, by decide, Or.inl (List.eq_nil_of_length_eq_zero h0)⟩
  · refine ⟨some ⟨g, 0, none⟩, cap, rfl, (fun e => by cases e), hnc, hcm, Or.inr ⟨g, 0, rfl, fun i x hi => ?_⟩⟩
    have hch := h2 w (Fr.refl _ _)
    obtain ⟨c, h3, h4, h5⟩ := hch.get hi
    refine ⟨c, h3, h4, fun j u hj => ?_⟩
    have h6 := h5 j u hj
    rw [Nat.zero_add, cell_of_row w g _ cur e (0, 0) hg]
    rw [← ht, List.getElem?_take] at h6
    split at h6
    · simpa using h6
    · cases h6

theorem Row.lower {α : Type} {R : World → α → List Value → Prop} {e : TypeId} {size : Nat} {w : World} {B B' : Nat} {v : Value} {l : List α} (h : Row R e size w B v l) (hb : B' ≤ B) : Row R e size w B' v l := by
  obtain ⟨cells, h1, h2⟩ := h
  exact ⟨cells, own_lower h1 hb, fun w' hf => h2 w' (hf.mono (fun k _ hk => hk.elim (fun h => Or.inl (by omega)) Or.inr))⟩
theorem own_inl {w : World} {B c : Nat} {a : Option Addr} {l : List Int} (h : OwI w B (.slice a l.length c) l) : InL w a c l := by
  obtain ⟨ao, cap, e, h2⟩ := h.inl
  simp only [Value.slice.injEq] at e
  obtain ⟨rfl, _, rfl⟩ := e
  exact h2
theorem own_il {w : World} {B c : Nat} {a : Option Addr} {l : List In} (h : IW w B 69 (.slice a l.length c) l) : IL w a c l := by
  obtain ⟨ao, cap, e, h2⟩ := h.il
  simp only [Value.slice.injEq] at e
  obtain ⟨rfl, _, rfl⟩ := e
  exact h2
/-- Values. -/
def RV (_ : World) (v : Int × Int) (c : List Value) : Prop := c = valC v
/-- Ints. -/
def RI (_ : World) (x : Int) (c : List Value) : Prop := c = [ci x]
/-- Functions. -/
def RF (w : World) (f : Fu) (c : List Value) : Prop := ∃ x, c = fnC f x ∧ FnP w f x
theorem Row.vl {w : World} {B : Nat} {v : Value} {l : List (Int × Int)} (h : Row RV 59 2 w B v l) : ∃ ao cap, v = .slice ao l.length cap ∧ VL w ao cap l := by
  obtain ⟨ao, cap, e, h0, h1, h2, h3⟩ := h.held
  refine ⟨ao, cap, e, h1, h2, h0, ?_⟩
  rcases h3 with h3 | ⟨b, off, rfl, h3⟩
  · exact Or.inl h3
  · refine Or.inr ⟨b, off, rfl, fun i v hv => ?_⟩
    obtain ⟨c, rfl, _, hc⟩ := h3 i v hv
    exact ⟨by have := hc 0 _ rfl; simpa using this, hc 1 _ rfl⟩
theorem Row.fl {w : World} {B : Nat} {v : Value} {l : List Fu} (h : Row RF 46 4 w B v l) : ∃ ao cap, v = .slice ao l.length cap ∧ FL w ao cap l := by
  obtain ⟨ao, cap, e, h0, h1, h2, h3⟩ := h.held
  refine ⟨ao, cap, e, h1, h2, h0, ?_⟩
  rcases h3 with h3 | ⟨b, off, rfl, h3⟩
  · exact Or.inl h3
  · refine Or.inr ⟨b, off, rfl, fun i f hf => ?_⟩
    obtain ⟨c, ⟨x, rfl, hx⟩, _, hc⟩ := h3 i f hf
    exact ⟨x, hx, hc⟩
theorem Row.owi {w : World} {B : Nat} {v : Value} {l : List Int} (h : Row RI 3 1 w B v l) : OwI w B v l := by
  obtain ⟨cells, h1, h2⟩ := h
  have e : ∀ (l : List Int) (cells : List Value), Chunks RI 1 w l cells → cells = l.map ci := by
    intro l
    induction l with
    | nil => intro cells h; exact h
    | cons x l ih =>
      rintro cells ⟨c, rest, e1, e2, e3, e4⟩
      have e3 : c = [ci x] := e3
      rw [e1, e3, ih rest e4]
      rfl
  have := e l cells (h2 w (Fr.refl _ _))
  subst this
  exact h1
/-- How much is left. -/
def szL : Lf → Nat
  | none => 0
  | some r => r.length + 1
theorem rdB_sz (r : Bs) : szL (rdB (some r)).2 < szL (some r) := by
  cases r <;> simp [rdB, szL]
theorem rdB_le (s : Lf) : szL (rdB s).2 ≤ szL s := by
  cases s with
  | none => exact Nat.le_refl _
  | some r => exact Nat.le_of_lt (rdB_sz r)
theorem rdN_le (k : Nat) (s : Lf) : szL (rdN k s).2 ≤ szL s := by
  cases s with
  | none => exact Nat.le_refl _
  | some r =>
    unfold rdN
    simp only []
    split
    · simp [szL]
    · simp [szL]
theorem rdI_le (s : Lf) : szL (rdI s).2 ≤ szL s := by
  unfold rdI
  split
  · exact rdN_le 4 s
  · simp [szL]
theorem rdR_le (m : Nat) (s : Lf) : szL (rdR m s).2 ≤ szL s := by
  have h := rdI_le s
  unfold rdR
  cases hr : (rdI s).2 with
  | none => simp [szL]
  | some r =>
    rw [hr] at h
    simp only []
    split
    · simp only [szL, List.length_drop] at h ⊢; omega
    · simp [szL]
theorem rdMany_le {α : Type} {take : Lf → α × Lf} (ht : ∀ s, szL (take s).2 ≤ szL s) : ∀ (n : Nat) (s : Lf), szL (rdMany take n s).2 ≤ szL s
  | 0, s => Nat.le_refl _
  | n + 1, none => Nat.le_refl _
  | n + 1, some r => Nat.le_trans (rdMany_le ht n _) (ht _)
theorem rdY_le (s : Lf) : szL (rdY s).2 ≤ szL s := rdB_le s
theorem rdY_sz (r : Bs) : szL (rdY (some r)).2 < szL (some r) := rdB_sz r
theorem rdT_le (s : Lf) : szL (rdT s).2 ≤ szL s := Nat.le_trans (rdMany_le rdY_le _ _) (rdB_le s)
theorem rdT_sz (r : Bs) : szL (rdT (some r)).2 < szL (some r) := Nat.lt_of_le_of_lt (rdMany_le rdY_le _ _) (rdB_sz r)
theorem rdV_sz (r : Bs) : szL (rdV (some r)).2 < szL (some r) := Nat.lt_of_le_of_lt (rdN_le 8 _) (rdB_sz r)
theorem rdV_le (s : Lf) : szL (rdV s).2 ≤ szL s := Nat.le_trans (rdN_le 8 _) (rdB_le s)
theorem rdF_sz (r : Bs) : szL (rdF (some r)).2 < szL (some r) := Nat.lt_of_le_of_lt (Nat.le_trans (rdR_le _ _) (Nat.le_trans (rdT_le _) (rdY_le _))) (rdT_sz r)
theorem rdF_le (s : Lf) : szL (rdF s).2 ≤ szL s := Nat.le_trans (rdR_le _ _) (Nat.le_trans (rdT_le _) (Nat.le_trans (rdY_le _) (rdT_le s)))
theorem rdMany_cut {α : Type} {take : Lf → α × Lf} {k : Nat} {r : Bs} : rdMany take (k + 1) (some r) = ((take (some r)).1 :: (rdMany take k (take (some r)).2).1, (rdMany take k (take (some r)).2).2) := rfl
end Go.Proofs.YtoiglopilpoafaaGreatDoor.Im

namespace Go.Proofs.YtoiglopilpoafaaGreatDoor.Cd
open Go.RowKit Ty
set_option linter.unusedSimpArgs false
set_option linter.unusedVariables false

theorem own_types {w : World} {B B' k : Nat} {e e' : TypeId} {size size' : Nat} {v v' : Value} {n n' : Nat} {cells cells' : List Value} (h : w.ownsRow B e size v n cells) (h' : w.ownsRow B' e' size' v' n' cells') (ht : e ≠ e') (h1 : v.ownBlock = some k) : ¬ v'.ownBlock = some k := by
  intro h2
  rcases h.2 with ⟨rfl, _⟩ | ⟨g, cap, cur, rfl, hb, hg, _⟩
  · cases h1
  rcases h'.2 with ⟨rfl, _⟩ | ⟨g', cap', cur', rfl, hb', hg', _⟩
  · cases h2
  have e1 : g = k := by simpa [Value.ownBlock] using h1
  have e2 : g' = k := by simpa [Value.ownBlock] using h2
  subst e1
  subst e2
  rw [hg] at hg'
  simp only [Option.some.injEq, Obj.cells.injEq] at hg'
  exact ht hg'.2.1
theorem own_notrow {w : World} {B b : Nat} {e t : TypeId} {size : Nat} {v : Value} {n : Nat} {cells : List Value} {cs : Array Value} (h : w.ownsRow B e size v n cells) (hb : w.heap[b]? = some (.cells cs t (0, 0))) (ht : e ≠ t) : ¬ v.ownBlock = some b := by
  intro h1
  rcases h.2 with ⟨rfl, _⟩ | ⟨g, cap, cur, rfl, _, hg, _⟩
  · cases h1
  have e1 : g = b := by simpa [Value.ownBlock] using h1
  subst e1
  rw [hg] at hb
  simp only [Option.some.injEq, Obj.cells.injEq] at hb
  exact ht hb.2.1
theorem int_fr : (3 : TypeId) ≠ 64 := by decide
theorem sig_ne : (3 : TypeId) ≠ 43 := by decide
theorem int_ins : (3 : TypeId) ≠ 69 := by decide
def sgC (z : Sg × (Option Addr × Nat)) : List Value := [.slice z.2.1 z.1.ps.length z.2.2, ci z.1.res]
/-- A row of signatures of the call's own. -/
def FsR (w : World) (B : Nat) (v : Value) (l : List Sg) : Prop := ∃ xs : List (Option Addr × Nat), xs.length = l.length ∧ w.ownsRow B 43 2 v l.length ((l.zip xs).flatMap sgC) ∧ ∀ (i : Nat) (s : Sg) (x : Option Addr × Nat), l[i]? = some s → xs[i]? = some x → OwI w B (.slice x.1 s.ps.length x.2) s.ps
theorem FsR.keepN {w w' : World} {B : Nat} {v : Value} {l : List Sg} (h : FsR w B v l) (f : Fr (fun _ => False) w w') : FsR w' B v l := by
  obtain ⟨xs, h1, h2, h3⟩ := h
  exact ⟨xs, h1, own_keep h2 f (fun _ _ f => f), fun i s x hs hx => (h3 i s x hs hx).keepN f⟩
theorem FsR.lower {w : World} {B B' : Nat} {v : Value} {l : List Sg} (h : FsR w B v l) (hb : B' ≤ B) : FsR w B' v l := by
  obtain ⟨xs, h1, h2, h3⟩ := h
  exact ⟨xs, h1, own_lower h2 hb, fun i s x hs hx => own_lower (h3 i s x hs hx) hb⟩
theorem sg_get : ∀ (l : List Sg) (xs : List (Option Addr × Nat)) (i : Nat) (s : Sg) (x : Option Addr × Nat), l[i]? = some s → xs[i]? = some x → ((l.zip xs).flatMap sgC)[i * 2]? = some (.slice x.1 s.ps.length x.2) ∧ ((l.zip xs).flatMap sgC)[i * 2 + 1]? = some (ci s.res)
  | [], xs, i, s, x, h, _ => by simp at h
  | a :: l, [], i, s, x, _, h => by simp at h
  | a :: l, b :: xs, 0, s, x, h1, h2 => by
    simp at h1 h2
    subst h1
    subst h2
    exact ⟨rfl, rfl⟩
  | a :: l, b :: xs, i + 1, s, x, h1, h2 => by
    have ih := sg_get l xs i s x (by simpa using h1) (by simpa using h2)
    rw [List.zip_cons_cons, List.flatMap_cons]
    have hl : (sgC (a, b)).length = 2 := rfl
    rw [List.getElem?_append_right (by omega), List.getElem?_append_right (by omega), hl, show (i + 1) * 2 - 2 = i * 2 by omega, show (i + 1) * 2 + 1 - 2 = i * 2 + 1 by omega]
    exact ih
theorem FsR.sgl {w : World} {B : Nat} {v : Value} {l : List Sg} (h : FsR w B v l) : ∃ ao cap, v = .slice ao l.length cap ∧ SgL w ao cap l := by
  obtain ⟨xs, h1, h2, h3⟩ := h
  obtain ⟨ao, cap, rfl, a1, a2, a3, _, a4⟩ := own_slice h2 (by decide)
  refine ⟨ao, cap, rfl, a1, a2, a3, ?_⟩
  rcases a4 with a4 | ⟨g, rfl, _, _, a4⟩
  · exact Or.inl (List.length_eq_zero_iff.1 a4)
  · refine Or.inr ⟨g, 0, rfl, fun i s hs => ?_⟩
    have hi : i < l.length := (List.getElem?_eq_some_iff.1 hs).1
    obtain ⟨x, hx⟩ : ∃ x, xs[i]? = some x := ⟨_, List.getElem?_eq_getElem (by omega)⟩
    obtain ⟨ap, cp, hv, hI⟩ := (h3 i s x hs hx).inl
    obtain ⟨g0, g1⟩ := sg_get l xs i s x hs hx
    simp only [Value.slice.injEq] at hv
    obtain ⟨e1, _, e2⟩ := hv
    rw [Nat.zero_add]
    refine ⟨x.1, x.2, by rw [e1, e2]; exact hI, a4 _ _ g0, a4 _ _ g1⟩
theorem info_sg : (Tryz.prog.info? 43).map (fun i => (i.zero, i.size, i.bytes)) = some (some (.agg #[.slice none 0 0, .int .i64 0]), 2, 32) := by kernel_rfl
theorem FsR.snoc {w w' : World} {B : Nat} {v v' : Value} {l : List Sg} {s : Sg} {x : Option Addr × Nat} {xs : List (Option Addr × Nat)} (h1 : xs.length = l.length) (h2 : w.ownsRow B 43 2 v l.length ((l.zip xs).flatMap sgC))
    (h3 : ∀ (i : Nat) (s : Sg) (x : Option Addr × Nat), l[i]? = some s → xs[i]? = some x → OwI w B (.slice x.1 s.ps.length x.2) s.ps) (hp : OwI w B (.slice x.1 s.ps.length x.2) s.ps) (f : Fr (fun k => v.ownBlock = some k) w w')
    (hr : w'.ownsRow B 43 2 v' (l.length + 1) ((l.zip xs).flatMap sgC ++ sgC (s, x))) : FsR w' B v' (l ++ [s]) := by
  refine ⟨xs ++ [x], by simp [h1], ?_, fun i s' x' hs hx => ?_⟩
  · rw [List.length_append, List.zip_append h1.symm, List.flatMap_append]
    simpa using hr
  · have keep : ∀ {u : Value} {q : List Int}, OwI w B u q → OwI w' B u q := fun hu => own_keep hu f (fun k e e2 => own_types hu h2 sig_ne e e2)
    by_cases hi : i < l.length
    · rw [List.getElem?_append_left hi] at hs
      rw [List.getElem?_append_left (by omega)] at hx
      exact keep (h3 i s' x' hs hx)
    · rw [List.getElem?_append_right (by omega)] at hs
      rw [List.getElem?_append_right (by omega)] at hx
      have e0 : i - l.length = 0 := by
        have := (List.getElem?_eq_some_iff.1 hs).1
        simp at this
        omega
      rw [e0] at hs
      rw [h1, e0] at hx
      simp at hs hx
      subst hs
      subst hx
      exact keep hp
theorem own_keepB {w w' : World} {B b : Nat} {e : TypeId} {size : Nat} {v : Value} {n : Nat} {cells : List Value} (h : w.ownsRow B e size v n cells) (f : Fr (fun k => k = b) w w') (hb : b < B) : w'.ownsRow B e size v n cells :=
  own_keep h f (fun k e2 e3 => by have := (own_block h k e2).1; omega)
theorem FsR.keepB {w w' : World} {B b : Nat} {v : Value} {l : List Sg} (h : FsR w B v l) (f : Fr (fun k => k = b) w w') (hb : b < B) : FsR w' B v l := by
  obtain ⟨xs, h1, h2, h3⟩ := h
  exact ⟨xs, h1, own_keepB h2 f hb, fun i s x hs hx => own_keepB (h3 i s x hs hx) f hb⟩
theorem wpl_ints {w : World} {ops : Array Oper} {rest : List Oper} {o : Oper} {a : Act} {Q : Exit → Act → World → Prop} (hgd : o.guard = none) (s x : Operand)
    (ho : o.op = .call { callee := .builtin .append, args := #[s, x], argTypes := #[41, 41] }) (B g : Nat) (ao : Option Addr) (n cap : Nat) (l : List Int)
    (hs : a.eval s = .slice (some ⟨g, 0, none⟩) 0 0) (hx : a.eval x = .slice ao n cap) (hg : w.heap[g]? = some (.cells #[] 3 (0, 0))) (hB : B ≤ g) (hB2 : B ≤ w.heap.size) (hl : l.length = n) (hI : InL w ao cap l) (hn : n ≤ 17592186044416)
    (h : ∀ v' w', OwI w' B v' l → Fr (fun _ => False) w w' → wpList Tryz.prog ops Q rest (a.put o.dst v') w') : wpList Tryz.prog ops Q (o :: rest) a w := by
  refine wpList_plain hgd fun K hK => ?_
  obtain ⟨v', w', hrun, h2, h3⟩ := app_ints (w := w) B o.type g ao n cap l hg hB hB2 hl hI hn
  unfold Oper.wp
  simp only [execOp, ho, resolve, invoke, builtin, Sem.run_bind, Sem.run_pure, Result.andThen_ok, List.map_toArray, List.map_cons, List.map_nil, hs, hx, hrun]
  exact hK _ _ (h v' w' h2 h3)
/-- A program of the law's own. -/
def FmO (w : World) (B : Nat) (v : Value) (p : Fm) : Prop := ∃ v4 v5, v = .agg #[v4, v5] ∧ FsR w B v4 p.fns ∧ OwI w B v5 p.vars
end Go.Proofs.YtoiglopilpoafaaGreatDoor.Cd
