/- Texts of ours, in one. -/
import Derived.Test.YtnmcehpdiopaiaaGreatDoorNxA
import Derived.Test.YtnmcehpdiopaiaaGreatDoorFxA
import Derived.Test.YtnmcehpdiopaiaaGreatDoorNyA
import Derived.Test.YtnmcehpdiopaiaaGreatDoorIyA
import Derived.Deep.DeepCutAuto
import Derived.Laws.Tables
import Derived.Great.Walk
import Derived.Maps.AppendAt
import Derived.Laws.AppendOwnNone
import Derived.Test.YtnmcehpdiopaiaaGreatDoorTrG
import Derived.Deep.QuietTactic
import Derived.BigQuiet
import Derived.Laws.ResultCell
namespace Go.Proofs.YtnmcehpdiopaiaaGreatDoor.Ty
open Go.RowKit
set_option linter.unusedSimpArgs false
set_option linter.unusedVariables false

abbrev Bs := List UInt8
abbrev ct (l : Bs) : Value := .string ⟨l.toArray⟩
abbrev ci (z : Int) : Value := .int .i64 z
def I64 (z : Int) : Prop := -9223372036854775808 ≤ z ∧ z ≤ 9223372036854775807
def OkN (l : Bs) : Prop := l.length ≤ 9223372036854775807
def U64 (z : Int) : Prop := 0 ≤ z ∧ z < 18446744073709551616
/-- An item. -/
structure It where
  kind : Int
  name : Bs
  typ : Int
  bits : Int
  params : List Int
deriving DecidableEq
/-- An interface. -/
structure Fc where
  name : Bs
  items : List It
deriving DecidableEq
instance : Inhabited It := ⟨⟨0, [], 0, 0, []⟩⟩
def valued (t : Int) : Bool := t == 1 || t == 2 || t == 3
def nameS (t : Int) : Bs := if t = 1 then [105, 110, 116] else if t = 2 then [102, 108, 111, 97, 116] else if t = 3 then [98, 111, 111, 108] else []
def findS (s : Bs) : Int × Bool := if s = [105, 110, 116] then (1, true) else if s = [102, 108, 111, 97, 116] then (2, true) else if s = [98, 111, 111, 108] then (3, true) else (0, false)
def truthS (b : Int) : Bs := if b = 0 then [102, 97, 108, 115, 101] else [116, 114, 117, 101]
def unS (op t : Int) : Int × Int :=
  if op = 1 then (if t = 1 then (1, 0) else if t = 2 then (2, 0) else (0, 22))
  else if op = 2 then (if t = 3 then (3, 0) else (0, 22))
  else if op = 3 then (if t = 2 then (1, 0) else (0, 22))
  else if op = 4 then (if t = 1 then (2, 0) else (0, 22)) else (0, 1)
/-- What an operator of two makes of two of the type a, by four numbers. -/
def rowB (op : Int) : Int × Int × Int :=
  if op ≤ 4 then (1, 2, 0) else if op = 5 then (1, 0, 0) else if op ≤ 7 then (3, 3, 3) else if op ≤ 11 then (3, 3, 0) else (0, 0, 3)
def takenS (x1 x2 x3 t : Int) : Int × Int :=
  if t = 1 then (if x1 = 0 then (0, 22) else (x1, 0)) else if t = 2 then (if x2 = 0 then (0, 22) else (x2, 0)) else if t = 3 then (if x3 = 0 then (0, 22) else (x3, 0)) else (0, 22)
def binS (op a b : Int) : Int × Int :=
  if op < 1 ∨ 13 < op then (0, 1) else if a ≠ b then (0, 22) else takenS (rowB op).1 (rowB op).2.1 (rowB op).2.2 a
def fitsFn (i : It) : Bool := (i.typ == 0 || valued i.typ) && i.bits == 0 && i.params.all valued
def joinS (sep : Bs) : List Bs → Bs
  | [] => []
  | [a] => a
  | a :: b :: r => a ++ sep ++ joinS sep (b :: r)
def paramsS (l : List Int) : Bs := joinS [44, 32] (l.map nameS)
def resultS (t : Int) : Bs := if nameS t = [] then [] else [58, 32] ++ nameS t
structure OkI (i : It) : Prop where
  kind : I64 i.kind
  name : OkN i.name
  typ : I64 i.typ
  bits : U64 i.bits
  params : ∀ p ∈ i.params, I64 p
  len : i.params.length ≤ 9223372036854775807

theorem valued_iff (t : Int) : valued t = true ↔ (t = 1 ∨ t = 2 ∨ t = 3) := by simp [valued, or_assoc]
theorem nameS_val {t : Int} (h : valued t = false) : nameS t = [] := by
  have : ¬ (t = 1 ∨ t = 2 ∨ t = 3) := fun h' => by rw [(valued_iff t).2 h'] at h; cases h
  unfold nameS
  rw [if_neg (fun e => this (Or.inl e)), if_neg (fun e => this (Or.inr (Or.inl e))), if_neg (fun e => this (Or.inr (Or.inr e)))]
end Go.Proofs.YtnmcehpdiopaiaaGreatDoor.Ty

namespace Go.Proofs.YtnmcehpdiopaiaaGreatDoor.Ty
open Go.RowKit
set_option linter.unusedSimpArgs false
set_option linter.unusedVariables false

/-- A row of ints. -/
def InL (w : World) (ao : Option Addr) (cap : Nat) (l : List Int) : Prop :=
  l.length ≤ cap ∧ cap ≤ maxLen ∧ (ao = none → cap = 0) ∧ (l = [] ∨ ∃ b off, ao = some ⟨b, off, none⟩ ∧ ∀ (i : Nat) (x : Int), l[i]? = some x → w.cell? ⟨b, off + i, none⟩ = some (ci x))
def itC (i : It) (pv : Value) : List Value := [ci i.kind, ct i.name, ci i.typ, .int .u64 i.bits, pv]
abbrev itV (i : It) (pv : Value) : Value := .agg #[ci i.kind, ct i.name, ci i.typ, .int .u64 i.bits, pv]
/-- An item. -/
def ItI (w : World) (i : It) (v : Value) : Prop := ∃ ao cap, v = itV i (.slice ao i.params.length cap) ∧ InL w ao cap i.params
/-- A row of items. -/
def ItL (w : World) (ao : Option Addr) (cap : Nat) (l : List It) : Prop :=
  l.length ≤ cap ∧ cap ≤ maxLen ∧ (ao = none → cap = 0) ∧ (l = [] ∨ ∃ b off, ao = some ⟨b, off, none⟩ ∧ ∀ (i : Nat) (x : It), l[i]? = some x →
    ∃ ap cp, InL w ap cp x.params ∧ ∀ (j : Nat) (u : Value), (itC x (.slice ap x.params.length cp))[j]? = some u → w.cell? ⟨b, off + i * 5 + j, none⟩ = some u)
/-- An interface. -/
def FcI (w : World) (f : Fc) (v : Value) : Prop := ∃ ao cap, v = .agg #[ct f.name, .slice ao f.items.length cap] ∧ ItL w ao cap f.items

theorem InL.keep {w w' : World} {ao : Option Addr} {cap : Nat} {l : List Int} (h : InL w ao cap l) (hf : Fr (fun _ => False) w w') : InL w' ao cap l := by
  obtain ⟨h1, h2, h3, h4⟩ := h
  refine ⟨h1, h2, h3, ?_⟩
  rcases h4 with h4 | ⟨b, off, rfl, h4⟩
  · exact Or.inl h4
  · exact Or.inr ⟨b, off, rfl, fun i x hx => hf.cellN (h4 i x hx)⟩
theorem ItI.keep {w w' : World} {i : It} {v : Value} (h : ItI w i v) (hf : Fr (fun _ => False) w w') : ItI w' i v := by
  obtain ⟨ao, cap, h1, h2⟩ := h
  exact ⟨ao, cap, h1, h2.keep hf⟩
theorem ItL.keep {w w' : World} {ao : Option Addr} {cap : Nat} {l : List It} (h : ItL w ao cap l) (hf : Fr (fun _ => False) w w') : ItL w' ao cap l := by
  obtain ⟨h1, h2, h3, h4⟩ := h
  refine ⟨h1, h2, h3, ?_⟩
  rcases h4 with h4 | ⟨b, off, rfl, h4⟩
  · exact Or.inl h4
  · refine Or.inr ⟨b, off, rfl, fun i x hx => ?_⟩
    obtain ⟨ap, cp, a1, a2⟩ := h4 i x hx
    exact ⟨ap, cp, a1.keep hf, fun j u hu => hf.cellN (a2 j u hu)⟩
theorem FcI.keep {w w' : World} {f : Fc} {v : Value} (h : FcI w f v) (hf : Fr (fun _ => False) w w') : FcI w' f v := by
  obtain ⟨ao, cap, h1, h2⟩ := h
  exact ⟨ao, cap, h1, h2.keep hf⟩
theorem fr_of_kept {w w' : World} (h : w.keptBut w' (fun _ => False)) (hs : w.heap.size ≤ w'.heap.size) : Fr (fun _ => False) w w' := by
  refine ⟨h.1, h.2.1, hs, fun k hk _ => ?_⟩
  have := h.2.2 k hk
  cases e1 : w.heap[k]? with
  | none => rw [e1] at this; cases e2 : w'.heap[k]? <;> rw [e2] at this <;> simp_all
  | some o =>
    rw [e1] at this
    cases e2 : w'.heap[k]? with
    | none => rw [e2] at this; cases o <;> simp_all
    | some o' =>
      rw [e2] at this
      cases o with
      | cells c t fr =>
        cases o' with
        | cells c' t' fr' =>
          simp only at this
          obtain ⟨rfl, rfl, _, hc⟩ := this
          have e : c' = c := by
            apply Array.ext_getElem?
            intro j
            exact hc j (fun h => h)
          rw [e]
        | _ => simp_all
      | map es clock =>
        cases o' with
        | map es' clock' =>
          simp only [false_or] at this
          rw [this.1, this.2]
        | _ => simp_all
      | _ => simp_all
theorem drewN_fr {S : Nat → Prop} {w w' : World} (h : Fr S w w') (n : Nat) : Fr S w (w'.drewN n) := ⟨h.os, h.output, h.size, h.block⟩
theorem ret_bl {x y : Bool} (h : x = y) : Ending.returned (.bool x) = .returned (.bool y) := by rw [h]
theorem ret_ci {x y : Int} (h : x = y) : Ending.returned (ci x) = .returned (ci y) := by rw [h]
theorem ret_ct {x y : Bs} (h : x = y) : Ending.returned (ct x) = .returned (ct y) := by rw [h]
theorem box5 {w : World} {b : Nat} {x0 x1 x2 x3 x4 : Value} {t : TypeId} (hb : w.heap[b]? = some (.cells #[x0, x1, x2, x3, x4] t (0, 0))) :
    w.cell? ⟨b, 0, none⟩ = some x0 ∧ w.cell? ⟨b, 1, none⟩ = some x1 ∧ w.cell? ⟨b, 2, none⟩ = some x2 ∧ w.cell? ⟨b, 3, none⟩ = some x3 ∧ w.cell? ⟨b, 4, none⟩ = some x4 := by
  exact ⟨cell_of_row _ _ 0 _ _ _ hb, cell_of_row _ _ 1 _ _ _ hb, cell_of_row _ _ 2 _ _ _ hb, cell_of_row _ _ 3 _ _ _ hb, cell_of_row _ _ 4 _ _ _ hb⟩
theorem box2 {w : World} {b : Nat} {x0 x1 : Value} {t : TypeId} (hb : w.heap[b]? = some (.cells #[x0, x1] t (0, 0))) :
    w.cell? ⟨b, 0, none⟩ = some x0 ∧ w.cell? ⟨b, 1, none⟩ = some x1 := by
  exact ⟨cell_of_row _ _ 0 _ _ _ hb, cell_of_row _ _ 1 _ _ _ hb⟩
end Go.Proofs.YtnmcehpdiopaiaaGreatDoor.Ty

namespace Go.Proofs.YtnmcehpdiopaiaaGreatDoor.Ty
open Go.RowKit
set_option linter.unusedSimpArgs false
set_option linter.unusedVariables false

def rightV (t b : Int) : Bool := if t = 1 then true else if t = 2 then F.Fl.canonS b == b else if t = 3 then decide (b ≤ 1) else false
def showS (t b : Int) : Bs := if t = 1 then Lib.itoa (wrap64 b) else if t = 2 then F.textS b else if t = 3 then truthS b else []
def fitsConst (i : It) : Bool := rightV i.typ i.bits && decide (i.params.length = 0)
/-- The first thing that is wrong with an item. -/
def rightI (i : It) : Int :=
  if i.kind ≠ 1 ∧ i.kind ≠ 3 then 1 else if N.rightS i.name ≠ 0 then N.rightS i.name else if 8 < i.params.length then 3
  else if i.kind = 1 then (if fitsConst i then 0 else 1) else (if fitsFn i then 0 else 1)
/-- An item's text. -/
def textI (i : It) : Bs :=
  if i.kind = 1 then [99, 111, 110, 115, 116, 32] ++ i.name ++ [58, 32] ++ nameS i.typ ++ [32, 61, 32] ++ showS i.typ i.bits
  else if i.kind = 3 then [102, 110, 32] ++ i.name ++ [40] ++ paramsS i.params ++ [41] ++ resultS i.typ else []
theorem tab_fr {w w' : World} (h : F.Tab w) (hf : Fr (fun _ => False) w w') : F.Tab w' := F.tab_kb h ⟨hf.kept, hf.size⟩
theorem kb_fr {w w' : World} (h : F.Kb w w') : Fr (fun _ => False) w w' := fr_of_kept h.1 h.2
theorem kb_frD {w w' : World} (h : D.Kb w w') : Fr (fun _ => False) w w' := fr_of_kept h.1 h.2
end Go.Proofs.YtnmcehpdiopaiaaGreatDoor.Ty

namespace Go.Proofs.YtnmcehpdiopaiaaGreatDoor
open Go.RowKit Go.Great
set_option linter.unusedSimpArgs false
set_option linter.unusedVariables false
theorem wpl_build {P : Program} {ops : Array Oper} {rest : List Oper} {o : Oper} {a : Act} {w : World} {Q : Exit → Act → World → Prop} (hg : o.guard = none) (t : TypeId) (parts : Array (Nat × Operand)) (ho : o.op = .build t parts)
    (cells : Array Value) (hf : P.built t (parts.map fun (i, x) => (i, a.eval x)).toList = some cells)
    (h : ∀ a', a' = a.put o.dst (.agg cells) → wpList P ops Q rest a' w) : wpList P ops Q (o :: rest) a w := by
  refine wpList_build hg t parts ho (by rw [hf]; rfl) ?_
  rw [hf]
  exact h _ rfl
theorem alloc_setRow (w : World) (old cs : Array Value) (t : TypeId) : (w.alloc (.cells old t (0, 0))).setRow w.heap.size cs = w.alloc (.cells cs t (0, 0)) := by
  unfold World.setRow World.alloc
  congr 1
  apply Array.ext
  · simp
  · intro i h1 h2
    simp only [Array.getElem_modify, Array.getElem_push]
    split <;> rename_i h
    · subst h
      simp
    · have hlt : i < w.heap.size := by simp at h2; omega
      rw [dif_pos hlt, dif_pos hlt]
theorem wpl_alloc {P : Program} {ops : Array Oper} {rest : List Oper} {o : Oper} {a : Act} {w : World} {Q : Exit → Act → World → Prop} (hg : o.guard = none) (v : Value) (ob : Obj) (hrun : (execOp a.eval o).run P w = .ok (.value v) (w.alloc ob))
    (h : ∀ a', a' = a.put o.dst v → wpList P ops Q rest a' (w.alloc ob)) : wpList P ops Q (o :: rest) a w :=
  wpList_allocTo hg o.dst rfl v ob hrun (h _ rfl)
theorem wpl_store {P : Program} {ops : Array Oper} {rest : List Oper} {o : Oper} {a : Act} {w : World} {Q : Exit → Act → World → Prop} (hgd : o.guard = none) (ty : TypeId) (x y : Operand) (ho : o.op = .store ty x y)
    (cells old : Array Value) (t : TypeId) (hx : a.eval x = .pointer (some ⟨w.heap.size, 0, none⟩)) (hy : a.eval y = .agg cells) (hi : (P.info? ty).map (·.size) = some cells.size)
    (hold : old.size = cells.size) (h1 : cells.all (·.oneCell') = true)
    (h : ∀ a', a' = a.put o.dst undef → wpList P ops Q rest a' (w.alloc (.cells cells t (0, 0)))) : wpList P ops Q (o :: rest) a (w.alloc (.cells old t (0, 0))) := by
  refine wpList_store_row hgd ty x y ho w.heap.size cells hx hy t old (alloc_new _ _) hi hold h1 ?_
  rw [alloc_setRow]
  exact h _ rfl
theorem wpl_load {P : Program} {ops : Array Oper} {rest : List Oper} {o : Oper} {a : Act} {w : World} {Q : Exit → Act → World → Prop} (hgd : o.guard = none) (ty : TypeId) (x : Operand) (ho : o.op = .load ty x)
    (g : Nat) (cs : Array Value) (t : TypeId) (d : TypeDesc) (hx : a.eval x = .pointer (some ⟨g, 0, none⟩)) (hg : w.heap[g]? = some (.cells cs t (0, 0)))
    (hu : P.underlying ty = some d) (hd : (match d with | .struct _ | .array _ _ => true | _ => false) = true) (hi : (P.info? ty).map (·.size) = some cs.size)
    (h : ∀ a', a' = a.put o.dst (.agg cs) → wpList P ops Q rest a' w) : wpList P ops Q (o :: rest) a w :=
  wpList_load_row hgd ty x ho g hx t cs (0, 0) d hg hu hd hi (h _ rfl)
/-- append of some elements to a row of the call's own. -/
theorem wpl_append {w : World} {ops : Array Oper} {rest : List Oper} {o : Oper} {a : Act} {Q : Exit → Act → World → Prop} (hgd : o.guard = none) (s x : Operand) (ty e : TypeId) (z : Value) (size bytes : Nat)
    (hty : Tryz.prog.underlying ty = some (.slice e)) (hinfo : (Tryz.prog.info? e).map (fun i => (i.zero, i.size, i.bytes)) = some (some z, size, bytes)) (hzs : z.cells.size = size) (hsz : 0 < size)
    (ho : o.op = .call { callee := .builtin .append, args := #[s, x], argTypes := #[ty, ty] }) (B : Nat) (v : Value) (n : Nat) (cells : List Value) (ad : Addr) (k c : Nat) (news : List Value)
    (hs : a.eval s = v) (hr : w.ownsRow B e size v n cells) (hx : a.eval x = .slice (some ad) k c) (hl : news.length = k * size) (hc : ∀ (j : Nat) (u : Value), news[j]? = some u → w.cell? (ad.add j) = some u) (h1 : ∀ u ∈ news, u.oneCell' = true)
    (hm : n + k ≤ maxLen) (hb : (n + k) * bytes ≤ 140737488355328) (hB : B ≤ w.heap.size)
    (h : ∀ v' w', w'.ownsRow B e size v' (n + k) (cells ++ news) → Fr (fun b => v.ownBlock = some b) w w' → (v'.ownBlock = v.ownBlock ∨ v'.ownBlock = some w.heap.size) → wpList Tryz.prog ops Q rest (a.put o.dst v') w') : wpList Tryz.prog ops Q (o :: rest) a w := by
  refine wpList_plain hgd fun K hK => ?_
  cases hi : Tryz.prog.info? e with
  | none => rw [hi] at hinfo; cases hinfo
  | some i =>
    rw [hi] at hinfo
    simp only [Option.map_some, Option.some.injEq, Prod.mk.injEq] at hinfo
    obtain ⟨v', w', hrun, h2, h3, _, h5⟩ := run_append_own_at (P := Tryz.prog) w B ty o.type e i z size bytes hty hi hinfo.1 hinfo.2.1 hinfo.2.2 hzs hsz v n cells hr ad k c news hl hc h1 hm hb hB
    unfold Oper.wp
    simp only [execOp, ho, resolve, invoke, builtin, Sem.run_bind, Sem.run_pure, Result.andThen_ok, List.map_toArray, List.map_cons, List.map_nil, hs, hx, hrun]
    exact hK _ _ (h v' w' h2 ((Fr.grown h3).mono fun k _ e => e.symm) h5)
theorem own_nil (w : World) (B : Nat) (e : TypeId) (size : Nat) : w.ownsRow B e size (.slice none 0 0) 0 [] := ⟨by simp, Or.inl ⟨rfl, rfl⟩⟩
theorem own_block {w : World} {B : Nat} {e : TypeId} {size : Nat} {v : Value} {n : Nat} {cells : List Value} (h : w.ownsRow B e size v n cells) : ∀ k, v.ownBlock = some k → B ≤ k ∧ k < w.heap.size := by
  intro k hk
  rcases h.2 with ⟨rfl, _⟩ | ⟨g, cap, cur, rfl, hb, hg, rest⟩
  · cases hk
  · have : g = k := by simpa [Value.ownBlock] using hk
    subst this
    exact ⟨hb, lt_of_heap hg⟩
theorem own_keep {S : Nat → Prop} {w w' : World} {B : Nat} {e : TypeId} {size : Nat} {v : Value} {n : Nat} {cells : List Value} (h : w.ownsRow B e size v n cells) (hf : Fr S w w') (hn : ∀ k, v.ownBlock = some k → ¬ S k) : w'.ownsRow B e size v n cells := by
  refine ⟨h.1, ?_⟩
  rcases h.2 with h0 | ⟨g, cap, cur, rfl, hb, hg, rest⟩
  · exact Or.inl h0
  · exact Or.inr ⟨g, cap, cur, rfl, hb, hf.heap hg (hn g rfl), rest⟩
/-- What such a row's slice is, and what its cells hold. -/
theorem own_slice {w : World} {B : Nat} {e : TypeId} {size : Nat} {v : Value} {n : Nat} {cells : List Value} (h : w.ownsRow B e size v n cells) (hs : 0 < size) :
    ∃ ao cap, v = .slice ao n cap ∧ n ≤ cap ∧ cap ≤ maxLen ∧ (ao = none → cap = 0) ∧ cells.length = n * size ∧ (n = 0 ∨ ∃ g, ao = some ⟨g, 0, none⟩ ∧ B ≤ g ∧ g < w.heap.size ∧ ∀ (j : Nat) (u : Value), cells[j]? = some u → w.cell? ⟨g, j, none⟩ = some u) := by
  obtain ⟨hl, hh⟩ := h
  rcases hh with ⟨rfl, rfl⟩ | ⟨g, cap, cur, rfl, hb, hg, hnc, hcm, hcs, ht⟩
  · exact ⟨none, 0, rfl, by omega, by simp [maxLen], fun _ => rfl, hl, Or.inl rfl⟩
  · refine ⟨some ⟨g, 0, none⟩, cap, rfl, hnc, hcm, (fun h => by cases h), hl, Or.inr ⟨g, rfl, hb, lt_of_heap hg, fun j u hu => ?_⟩⟩
    rw [cell_of_row w g j cur e (0, 0) hg]
    rw [← ht, List.getElem?_take] at hu
    split at hu
    · simpa using hu
    · cases hu
end Go.Proofs.YtnmcehpdiopaiaaGreatDoor

namespace Go.Proofs.YtnmcehpdiopaiaaGreatDoor.Ty
open Go.RowKit
set_option linter.unusedSimpArgs false
set_option linter.unusedVariables false

theorem ofv_any (t : Int) (w : World) : Calls Tryz.prog 118 #[ci t] w fun e w' => e = .returned (.bool (valued t)) ∧ w' = w := by
  go_enter Tryz.func118, Tryz.ntmps118
  go_wp2
  all_goals
    go_ret
    refine ⟨ret_bl ?_, rfl⟩
    rw [Bool.eq_iff_iff, valued_iff]
    try simp only [decide_eq_true_eq, decide_eq_false_iff_not, beq_iff_eq, beq_eq_false_iff_ne, ne_eq, Bool.false_eq_true, iff_false, false_iff, true_iff, not_or] at *
    omega
theorem rvalued_any (t : Int) (w : World) : Calls Tryz.prog 65 #[ci t] w fun e w' => e = .returned (.bool (valued t)) ∧ w' = w := by
  go_enter Tryz.func65, Tryz.ntmps65
  go_wp2
  all_goals (go_ret; refine ⟨ret_bl ?_, rfl⟩; simp [valued, *])
theorem findS_at {s : Bs} {t : Int} (h1 : 1 ≤ t) (h3 : t ≤ 3) (hn : ∀ u, 1 ≤ u → u < t → nameS u ≠ s) (he : nameS t = s) : findS s = (t, true) := by
  have : t = 1 ∨ t = 2 ∨ t = 3 := by omega
  subst he
  rcases this with rfl | rfl | rfl <;> rfl
theorem findS_no {s : Bs} (hn : ∀ u : Int, 1 ≤ u → u < 4 → nameS u ≠ s) : findS s = (0, false) := by
  have a1 := hn 1 (by omega) (by omega)
  have a2 := hn 2 (by omega) (by omega)
  have a3 := hn 3 (by omega) (by omega)
  simp only [nameS] at a1 a2 a3
  unfold findS
  rw [if_neg (fun e => a1 (by rw [e]; rfl)), if_neg (fun e => a2 (by rw [e]; rfl)), if_neg (fun e => a3 (by rw [e]; rfl))]
end Go.Proofs.YtnmcehpdiopaiaaGreatDoor.Ty

namespace Go.Proofs.YtnmcehpdiopaiaaGreatDoor.Ty
open Go.RowKit
set_option linter.unusedSimpArgs false
set_option linter.unusedVariables false


theorem shl12 (a : Int) : IntKind.u64.wrap (a * 4096) = a % 4503599627370496 * 4096 := by rw [IntKind.wrap_u64]; omega
theorem rcanon_any (a : Int) (ha : F.Fl.U a) (w : World) :
    Calls Tryz.prog 79 #[.int .u64 a] w fun e w' => e = .returned (.int .u64 (F.Fl.canonS a)) ∧ w = w' := by
  have k3 := F.and_exp (a / 4503599627370496) ⟨by obtain ⟨_, _⟩ := ha; omega, by obtain ⟨_, _⟩ := ha; omega⟩
  have k4 := shl12 a
  obtain ⟨h0, h1⟩ := ha
  go_enter Tryz.func79, Tryz.ntmps79
  go_wp2
  all_goals
    go_ret
    refine ⟨congrArg (fun z => Ending.returned (.int .u64 z)) ?_, rfl⟩
    try simp only [bne_iff_ne, beq_iff_eq, bne_eq_false_iff_eq, beq_eq_false_iff_ne, ne_eq] at *
    unfold F.Fl.canonS F.Fl.nan
    simp only [decide_eq_true_eq]
    split
    all_goals omega
set_option maxRecDepth 20000 in
theorem rightv_any (t b : Int) (hb : U64 b) (w : World) :
    Calls Tryz.prog 36 #[.agg #[ci t, .int .u64 b]] w fun e w' => e = .returned (.bool (rightV t b)) ∧ Fr (fun _ => False) w w' := by
  have kc := fun w => (F.canon_any b ⟨hb.1, hb.2⟩ w).mono (fun e w' h => (⟨h.1, h.2.symm⟩ : _ ∧ w' = w))
  unfold rightV
  by_cases h1 : t = 1
  · subst h1
    go_enter Tryz.func36, Tryz.ntmps36
    go_wp2
    go_ret
    exact ⟨rfl, Fr.alloc _ _ _⟩
  by_cases h2 : t = 2
  · subst h2
    go_enter Tryz.func36, Tryz.ntmps36
    go_wp2_with fail
    go_quiet ((go_at_call 57; exact Calls.quiet_of_same (kc _)))
    go_wp2_with fail
    go_ret
    exact ⟨rfl, drewN_fr (Fr.alloc _ _ _) _⟩
  by_cases h3 : t = 3
  · subst h3
    go_enter Tryz.func36, Tryz.ntmps36
    go_wp2
    go_ret
    exact ⟨rfl, Fr.alloc _ _ _⟩
  rw [if_neg h1, if_neg h2, if_neg h3]
  have b1 : (t == 1) = false := by simp [h1]
  have b2 : (t == 2) = false := by simp [h2]
  have b3 : (t == 3) = false := by simp [h3]
  clear h1 h2 h3
  go_enter Tryz.func36, Tryz.ntmps36
  go_wp2
  go_ret
  exact ⟨rfl, Fr.alloc _ _ _⟩
set_option maxRecDepth 20000 in
theorem rrightv_any (t b : Int) (hb : U64 b) (w : World) :
    Calls Tryz.prog 66 #[.agg #[ci t, .int .u64 b]] w fun e w' => e = .returned (.bool (rightV t b)) ∧ Fr (fun _ => False) w w' := by
  have kc := fun w => (rcanon_any b ⟨hb.1, hb.2⟩ w).mono (fun e w' h => (⟨h.1, h.2.symm⟩ : _ ∧ w' = w))
  unfold rightV
  by_cases h1 : t = 1
  · subst h1
    go_enter Tryz.func66, Tryz.ntmps66
    go_wp2
    go_ret
    exact ⟨rfl, Fr.alloc _ _ _⟩
  by_cases h2 : t = 2
  · subst h2
    go_enter Tryz.func66, Tryz.ntmps66
    go_wp2_with fail
    go_quiet ((go_at_call 79; exact Calls.quiet_of_same (kc _)))
    go_wp2_with fail
    go_ret
    exact ⟨rfl, drewN_fr (Fr.alloc _ _ _) _⟩
  by_cases h3 : t = 3
  · subst h3
    go_enter Tryz.func66, Tryz.ntmps66
    go_wp2
    go_ret
    exact ⟨rfl, Fr.alloc _ _ _⟩
  rw [if_neg h1, if_neg h2, if_neg h3]
  have b1 : (t == 1) = false := by simp [h1]
  have b2 : (t == 2) = false := by simp [h2]
  have b3 : (t == 3) = false := by simp [h3]
  clear h1 h2 h3
  go_enter Tryz.func66, Tryz.ntmps66
  go_wp2
  go_ret
  exact ⟨rfl, Fr.alloc _ _ _⟩
theorem truth_any (b : Int) (w : World) : Calls Tryz.prog 69 #[.int .u64 b] w fun e w' => e = .returned (ct (truthS b)) ∧ w' = w := by
  unfold truthS
  by_cases h : b = 0
  · subst h
    go_enter Tryz.func69, Tryz.ntmps69
    go_wp2
    go_ret
    exact ⟨rfl, rfl⟩
  · rw [if_neg h]
    have hb : (b == 0) = false := by simp [h]
    clear h
    go_enter Tryz.func69, Tryz.ntmps69
    go_wp2
    go_ret
    exact ⟨rfl, rfl⟩
theorem wrap_I (b : Int) : D.I64 (wrap64 b) := by unfold D.I64 wrap64; omega
set_option maxRecDepth 20000 in
theorem show_any (t b : Int) (hb : U64 b) (w : World) (ht : F.Tab w) :
    Calls Tryz.prog 52 #[.agg #[ci t, .int .u64 b]] w fun e w' => e = .returned (ct (showS t b)) ∧ Fr (fun _ => False) w w' := by
  have f0 := Fr.alloc (fun _ => False) w (.cells #[ci t, .int .u64 b] 62)
  unfold showS
  by_cases h1 : t = 1
  · subst h1
    have kd := fun w => D.dec_any (wrap64 b) (wrap_I b) w
    rw [if_pos rfl]
    generalize Lib.itoa (wrap64 b) = l at kd ⊢
    go_enter Tryz.func52, Tryz.ntmps52
    go_wp2_with (go_at_call 53; refine (kd _ (tab_fr ht f0)).mono ?_; rintro e w1 ⟨rfl, g1⟩)
    go_ret
    exact ⟨rfl, f0.same (kb_frD g1)⟩
  by_cases h2 : t = 2
  · subst h2
    have kx := fun w => F.text_any b ⟨hb.1, hb.2⟩ w
    rw [if_neg (by decide), if_pos rfl]
    generalize F.textS b = l at kx ⊢
    go_enter Tryz.func52, Tryz.ntmps52
    go_wp2_with (go_at_call 68; refine (kx _ (tab_fr ht f0)).mono ?_; rintro e w1 ⟨rfl, g1⟩)
    go_ret
    exact ⟨rfl, f0.same (kb_fr g1)⟩
  by_cases h3 : t = 3
  · subst h3
    rw [if_neg (by decide), if_neg (by decide), if_pos rfl]
    have kt := fun w => truth_any b w
    generalize truthS b = l at kt ⊢
    go_enter Tryz.func52, Tryz.ntmps52
    go_wp2_with (go_at_call 69; refine (kt _).mono ?_; rintro e w1 ⟨rfl, rfl⟩)
    go_ret
    exact ⟨rfl, f0⟩
  rw [if_neg h1, if_neg h2, if_neg h3]
  have b1 : (t == 1) = false := by simp [h1]
  have b2 : (t == 2) = false := by simp [h2]
  have b3 : (t == 3) = false := by simp [h3]
  clear h1 h2 h3
  go_enter Tryz.func52, Tryz.ntmps52
  go_wp2
  go_ret
  exact ⟨rfl, f0⟩
/-- The result of a function that lies in memory. -/
theorem post_one {fn : Func} {R : Ending → World → Prop} {a : Act} {w : World} {p : Tmp} {ty : TypeId} (h : fn.results = #[.cell p ty]) (hd : a.defers = []) (g : Nat) (cs : Array Value) (t : TypeId) (d : TypeDesc)
    (hp : a.tmps.getD p undef = .pointer (some ⟨g, 0, none⟩)) (hg : w.heap[g]? = some (.cells cs t (0, 0)))
    (hu : Tryz.prog.underlying ty = some d) (hdd : (match d with | .struct _ | .array _ _ => true | _ => false) = true) (hi : (Tryz.prog.info? ty).map (·.size) = some cs.size)
    (hR : R (.returned (.agg cs)) w) : bodyPost Tryz.prog fn R .ret a w :=
  ⟨hd, _, results_cell_row h _ _ g t cs (0, 0) d hp hg hu (by cases d <;> first | rfl | exact hdd) hi, hR⟩
theorem alloc_at (w : World) (o : Obj) (k : Nat) (h : k = w.heap.size) : (w.alloc o).heap[k]? = some o := by rw [h]; exact alloc_new _ _
end Go.Proofs.YtnmcehpdiopaiaaGreatDoor.Ty

namespace Go.Proofs.YtnmcehpdiopaiaaGreatDoor.Ty
open Go.RowKit
set_option linter.unusedSimpArgs false
set_option linter.unusedVariables false

set_option maxRecDepth 20000 in
theorem taken_any (x0 x1 x2 x3 t : Int) (w : World) :
    Calls Tryz.prog 114 #[.agg #[ci x0, ci x1, ci x2, ci x3], ci t] w fun e w' => e = .returned (.tuple #[ci (takenS x1 x2 x3 t).1, ci (takenS x1 x2 x3 t).2]) ∧ Fr (fun _ => False) w w' := by
  have kv := ofv_any t
  unfold takenS
  by_cases h1 : t = 1
  · subst h1
    rw [show valued 1 = true from rfl] at kv
    by_cases hx : x1 = 0
    · subst hx
      go_enter Tryz.func114, Tryz.ntmps114
      go_wp2_with (go_at_call 118; refine (kv _).mono ?_; rintro e w' ⟨rfl, rfl⟩)
      go_ret2
      exact ⟨rfl, Fr.alloc _ _ _⟩
    · have hb : (x1 == 0) = false := by simpa using hx
      have hxH : Hidden (x1 ≠ 0) := hx
      clear hx
      go_enter Tryz.func114, Tryz.ntmps114
      go_wp2_with (go_at_call 118; refine (kv _).mono ?_; rintro e w' ⟨rfl, rfl⟩)
      go_ret2
      refine ⟨?_, Fr.alloc _ _ _⟩
      simp [show x1 ≠ 0 from hxH]
  by_cases h2 : t = 2
  · subst h2
    rw [show valued 2 = true from rfl] at kv
    by_cases hx : x2 = 0
    · subst hx
      go_enter Tryz.func114, Tryz.ntmps114
      go_wp2_with (go_at_call 118; refine (kv _).mono ?_; rintro e w' ⟨rfl, rfl⟩)
      go_ret2
      exact ⟨rfl, Fr.alloc _ _ _⟩
    · have hb : (x2 == 0) = false := by simpa using hx
      have hxH : Hidden (x2 ≠ 0) := hx
      clear hx
      go_enter Tryz.func114, Tryz.ntmps114
      go_wp2_with (go_at_call 118; refine (kv _).mono ?_; rintro e w' ⟨rfl, rfl⟩)
      go_ret2
      refine ⟨?_, Fr.alloc _ _ _⟩
      simp [show x2 ≠ 0 from hxH]
  by_cases h3 : t = 3
  · subst h3
    rw [show valued 3 = true from rfl] at kv
    by_cases hx : x3 = 0
    · subst hx
      go_enter Tryz.func114, Tryz.ntmps114
      go_wp2_with (go_at_call 118; refine (kv _).mono ?_; rintro e w' ⟨rfl, rfl⟩)
      go_ret2
      exact ⟨rfl, Fr.alloc _ _ _⟩
    · have hb : (x3 == 0) = false := by simpa using hx
      have hxH : Hidden (x3 ≠ 0) := hx
      clear hx
      go_enter Tryz.func114, Tryz.ntmps114
      go_wp2_with (go_at_call 118; refine (kv _).mono ?_; rintro e w' ⟨rfl, rfl⟩)
      go_ret2
      refine ⟨?_, Fr.alloc _ _ _⟩
      simp [show x3 ≠ 0 from hxH]
  have hv : valued t = false := by
    rw [← Bool.not_eq_true, valued_iff]
    omega
  rw [hv] at kv
  rw [if_neg h1, if_neg h2, if_neg h3]
  clear h1 h2 h3 hv
  go_enter Tryz.func114, Tryz.ntmps114
  go_wp2_with (go_at_call 118; refine (kv _).mono ?_; rintro e w' ⟨rfl, rfl⟩)
  go_ret2
  exact ⟨rfl, Fr.alloc _ _ _⟩
set_option maxRecDepth 20000 in
set_option maxHeartbeats 1000000 in
theorem unary_1 (t : Int) (w : World) : Calls Tryz.prog 104 #[ci 1, ci t] w fun e w' => e = .returned (.tuple #[ci (takenS 1 2 0 t).1, ci (takenS 1 2 0 t).2]) ∧ Fr (fun _ => False) w w' := by
  have kt := fun w => taken_any 0 1 2 0 t w
  generalize takenS 1 2 0 t = R at kt ⊢
  go_enter Tryz.func104, Tryz.ntmps104
  go_upto_region 1 with fail
  apply wp_region_lit
  refine wpl_build rfl _ _ rfl #[ci 0, ci 1, ci 2, ci 0] (by kernel_rfl) ?_
  intro a' ha; simp only [Act.put, List.setIfInBounds_toArray, List.set_cons_zero, List.set_cons_succ] at ha; subst ha
  refine wpl_build rfl _ _ rfl #[ci 0, ci 0, ci 0, ci 3] (by kernel_rfl) ?_
  intro a' ha; simp only [Act.put, List.setIfInBounds_toArray, List.set_cons_zero, List.set_cons_succ] at ha; subst ha
  refine wpl_build rfl _ _ rfl #[ci 0, ci 0, ci 1, ci 0] (by kernel_rfl) ?_
  intro a' ha; simp only [Act.put, List.setIfInBounds_toArray, List.set_cons_zero, List.set_cons_succ] at ha; subst ha
  refine wpl_build rfl _ _ rfl #[ci 0, ci 2, ci 0, ci 0] (by kernel_rfl) ?_
  intro a' ha; simp only [Act.put, List.setIfInBounds_toArray, List.set_cons_zero, List.set_cons_succ] at ha; subst ha
  refine wpl_build rfl _ _ rfl #[ci 0, ci 0, ci 0, ci 0, ci 0, ci 1, ci 2, ci 0, ci 0, ci 0, ci 0, ci 3, ci 0, ci 0, ci 1, ci 0, ci 0, ci 2, ci 0, ci 0] (by kernel_rfl) ?_
  intro a' ha; simp only [Act.put, List.setIfInBounds_toArray, List.set_cons_zero, List.set_cons_succ] at ha; subst ha
  refine wpl_alloc rfl (.pointer (some ⟨w.heap.size, 0, none⟩)) (.cells #[ci 0, ci 0, ci 0, ci 0, ci 0, ci 0, ci 0, ci 0, ci 0, ci 0, ci 0, ci 0, ci 0, ci 0, ci 0, ci 0, ci 0, ci 0, ci 0, ci 0] 173 (0, 0)) (by kernel_rfl) ?_
  intro a' ha; simp only [Act.put, List.setIfInBounds_toArray, List.set_cons_zero, List.set_cons_succ] at ha; subst ha
  refine wpl_store rfl _ _ _ rfl #[ci 0, ci 0, ci 0, ci 0, ci 0, ci 1, ci 2, ci 0, ci 0, ci 0, ci 0, ci 3, ci 0, ci 0, ci 1, ci 0, ci 0, ci 2, ci 0, ci 0] #[ci 0, ci 0, ci 0, ci 0, ci 0, ci 0, ci 0, ci 0, ci 0, ci 0, ci 0, ci 0, ci 0, ci 0, ci 0, ci 0, ci 0, ci 0, ci 0, ci 0] _ rfl rfl (by kernel_rfl) rfl (by kernel_rfl) ?_
  intro a' ha; simp only [Act.put, List.setIfInBounds_toArray, List.set_cons_zero, List.set_cons_succ] at ha; subst ha
  go_wp2_with (go_at_call 114; refine (kt _).mono ?_; rintro e w1 ⟨rfl, f1⟩)
  go_ret2
  exact ⟨rfl, (Fr.alloc _ _ _).same f1⟩
set_option maxRecDepth 20000 in
set_option maxHeartbeats 1000000 in
theorem unary_2 (t : Int) (w : World) : Calls Tryz.prog 104 #[ci 2, ci t] w fun e w' => e = .returned (.tuple #[ci (takenS 0 0 3 t).1, ci (takenS 0 0 3 t).2]) ∧ Fr (fun _ => False) w w' := by
  have kt := fun w => taken_any 0 0 0 3 t w
  generalize takenS 0 0 3 t = R at kt ⊢
  go_enter Tryz.func104, Tryz.ntmps104
  go_upto_region 1 with fail
  apply wp_region_lit
  refine wpl_build rfl _ _ rfl #[ci 0, ci 1, ci 2, ci 0] (by kernel_rfl) ?_
  intro a' ha; simp only [Act.put, List.setIfInBounds_toArray, List.set_cons_zero, List.set_cons_succ] at ha; subst ha
  refine wpl_build rfl _ _ rfl #[ci 0, ci 0, ci 0, ci 3] (by kernel_rfl) ?_
  intro a' ha; simp only [Act.put, List.setIfInBounds_toArray, List.set_cons_zero, List.set_cons_succ] at ha; subst ha
  refine wpl_build rfl _ _ rfl #[ci 0, ci 0, ci 1, ci 0] (by kernel_rfl) ?_
  intro a' ha; simp only [Act.put, List.setIfInBounds_toArray, List.set_cons_zero, List.set_cons_succ] at ha; subst ha
  refine wpl_build rfl _ _ rfl #[ci 0, ci 2, ci 0, ci 0] (by kernel_rfl) ?_
  intro a' ha; simp only [Act.put, List.setIfInBounds_toArray, List.set_cons_zero, List.set_cons_succ] at ha; subst ha
  refine wpl_build rfl _ _ rfl #[ci 0, ci 0, ci 0, ci 0, ci 0, ci 1, ci 2, ci 0, ci 0, ci 0, ci 0, ci 3, ci 0, ci 0, ci 1, ci 0, ci 0, ci 2, ci 0, ci 0] (by kernel_rfl) ?_
  intro a' ha; simp only [Act.put, List.setIfInBounds_toArray, List.set_cons_zero, List.set_cons_succ] at ha; subst ha
  refine wpl_alloc rfl (.pointer (some ⟨w.heap.size, 0, none⟩)) (.cells #[ci 0, ci 0, ci 0, ci 0, ci 0, ci 0, ci 0, ci 0, ci 0, ci 0, ci 0, ci 0, ci 0, ci 0, ci 0, ci 0, ci 0, ci 0, ci 0, ci 0] 173 (0, 0)) (by kernel_rfl) ?_
  intro a' ha; simp only [Act.put, List.setIfInBounds_toArray, List.set_cons_zero, List.set_cons_succ] at ha; subst ha
  refine wpl_store rfl _ _ _ rfl #[ci 0, ci 0, ci 0, ci 0, ci 0, ci 1, ci 2, ci 0, ci 0, ci 0, ci 0, ci 3, ci 0, ci 0, ci 1, ci 0, ci 0, ci 2, ci 0, ci 0] #[ci 0, ci 0, ci 0, ci 0, ci 0, ci 0, ci 0, ci 0, ci 0, ci 0, ci 0, ci 0, ci 0, ci 0, ci 0, ci 0, ci 0, ci 0, ci 0, ci 0] _ rfl rfl (by kernel_rfl) rfl (by kernel_rfl) ?_
  intro a' ha; simp only [Act.put, List.setIfInBounds_toArray, List.set_cons_zero, List.set_cons_succ] at ha; subst ha
  go_wp2_with (go_at_call 114; refine (kt _).mono ?_; rintro e w1 ⟨rfl, f1⟩)
  go_ret2
  exact ⟨rfl, (Fr.alloc _ _ _).same f1⟩
set_option maxRecDepth 20000 in
set_option maxHeartbeats 1000000 in
theorem unary_3 (t : Int) (w : World) : Calls Tryz.prog 104 #[ci 3, ci t] w fun e w' => e = .returned (.tuple #[ci (takenS 0 1 0 t).1, ci (takenS 0 1 0 t).2]) ∧ Fr (fun _ => False) w w' := by
  have kt := fun w => taken_any 0 0 1 0 t w
  generalize takenS 0 1 0 t = R at kt ⊢
  go_enter Tryz.func104, Tryz.ntmps104
  go_upto_region 1 with fail
  apply wp_region_lit
  refine wpl_build rfl _ _ rfl #[ci 0, ci 1, ci 2, ci 0] (by kernel_rfl) ?_
  intro a' ha; simp only [Act.put, List.setIfInBounds_toArray, List.set_cons_zero, List.set_cons_succ] at ha; subst ha
  refine wpl_build rfl _ _ rfl #[ci 0, ci 0, ci 0, ci 3] (by kernel_rfl) ?_
  intro a' ha; simp only [Act.put, List.setIfInBounds_toArray, List.set_cons_zero, List.set_cons_succ] at ha; subst ha
  refine wpl_build rfl _ _ rfl #[ci 0, ci 0, ci 1, ci 0] (by kernel_rfl) ?_
  intro a' ha; simp only [Act.put, List.setIfInBounds_toArray, List.set_cons_zero, List.set_cons_succ] at ha; subst ha
  refine wpl_build rfl _ _ rfl #[ci 0, ci 2, ci 0, ci 0] (by kernel_rfl) ?_
  intro a' ha; simp only [Act.put, List.setIfInBounds_toArray, List.set_cons_zero, List.set_cons_succ] at ha; subst ha
  refine wpl_build rfl _ _ rfl #[ci 0, ci 0, ci 0, ci 0, ci 0, ci 1, ci 2, ci 0, ci 0, ci 0, ci 0, ci 3, ci 0, ci 0, ci 1, ci 0, ci 0, ci 2, ci 0, ci 0] (by kernel_rfl) ?_
  intro a' ha; simp only [Act.put, List.setIfInBounds_toArray, List.set_cons_zero, List.set_cons_succ] at ha; subst ha
  refine wpl_alloc rfl (.pointer (some ⟨w.heap.size, 0, none⟩)) (.cells #[ci 0, ci 0, ci 0, ci 0, ci 0, ci 0, ci 0, ci 0, ci 0, ci 0, ci 0, ci 0, ci 0, ci 0, ci 0, ci 0, ci 0, ci 0, ci 0, ci 0] 173 (0, 0)) (by kernel_rfl) ?_
  intro a' ha; simp only [Act.put, List.setIfInBounds_toArray, List.set_cons_zero, List.set_cons_succ] at ha; subst ha
  refine wpl_store rfl _ _ _ rfl #[ci 0, ci 0, ci 0, ci 0, ci 0, ci 1, ci 2, ci 0, ci 0, ci 0, ci 0, ci 3, ci 0, ci 0, ci 1, ci 0, ci 0, ci 2, ci 0, ci 0] #[ci 0, ci 0, ci 0, ci 0, ci 0, ci 0, ci 0, ci 0, ci 0, ci 0, ci 0, ci 0, ci 0, ci 0, ci 0, ci 0, ci 0, ci 0, ci 0, ci 0] _ rfl rfl (by kernel_rfl) rfl (by kernel_rfl) ?_
  intro a' ha; simp only [Act.put, List.setIfInBounds_toArray, List.set_cons_zero, List.set_cons_succ] at ha; subst ha
  go_wp2_with (go_at_call 114; refine (kt _).mono ?_; rintro e w1 ⟨rfl, f1⟩)
  go_ret2
  exact ⟨rfl, (Fr.alloc _ _ _).same f1⟩
set_option maxRecDepth 20000 in
set_option maxHeartbeats 1000000 in
theorem unary_4 (t : Int) (w : World) : Calls Tryz.prog 104 #[ci 4, ci t] w fun e w' => e = .returned (.tuple #[ci (takenS 2 0 0 t).1, ci (takenS 2 0 0 t).2]) ∧ Fr (fun _ => False) w w' := by
  have kt := fun w => taken_any 0 2 0 0 t w
  generalize takenS 2 0 0 t = R at kt ⊢
  go_enter Tryz.func104, Tryz.ntmps104
  go_upto_region 1 with fail
  apply wp_region_lit
  refine wpl_build rfl _ _ rfl #[ci 0, ci 1, ci 2, ci 0] (by kernel_rfl) ?_
  intro a' ha; simp only [Act.put, List.setIfInBounds_toArray, List.set_cons_zero, List.set_cons_succ] at ha; subst ha
  refine wpl_build rfl _ _ rfl #[ci 0, ci 0, ci 0, ci 3] (by kernel_rfl) ?_
  intro a' ha; simp only [Act.put, List.setIfInBounds_toArray, List.set_cons_zero, List.set_cons_succ] at ha; subst ha
  refine wpl_build rfl _ _ rfl #[ci 0, ci 0, ci 1, ci 0] (by kernel_rfl) ?_
  intro a' ha; simp only [Act.put, List.setIfInBounds_toArray, List.set_cons_zero, List.set_cons_succ] at ha; subst ha
  refine wpl_build rfl _ _ rfl #[ci 0, ci 2, ci 0, ci 0] (by kernel_rfl) ?_
  intro a' ha; simp only [Act.put, List.setIfInBounds_toArray, List.set_cons_zero, List.set_cons_succ] at ha; subst ha
  refine wpl_build rfl _ _ rfl #[ci 0, ci 0, ci 0, ci 0, ci 0, ci 1, ci 2, ci 0, ci 0, ci 0, ci 0, ci 3, ci 0, ci 0, ci 1, ci 0, ci 0, ci 2, ci 0, ci 0] (by kernel_rfl) ?_
  intro a' ha; simp only [Act.put, List.setIfInBounds_toArray, List.set_cons_zero, List.set_cons_succ] at ha; subst ha
  refine wpl_alloc rfl (.pointer (some ⟨w.heap.size, 0, none⟩)) (.cells #[ci 0, ci 0, ci 0, ci 0, ci 0, ci 0, ci 0, ci 0, ci 0, ci 0, ci 0, ci 0, ci 0, ci 0, ci 0, ci 0, ci 0, ci 0, ci 0, ci 0] 173 (0, 0)) (by kernel_rfl) ?_
  intro a' ha; simp only [Act.put, List.setIfInBounds_toArray, List.set_cons_zero, List.set_cons_succ] at ha; subst ha
  refine wpl_store rfl _ _ _ rfl #[ci 0, ci 0, ci 0, ci 0, ci 0, ci 1, ci 2, ci 0, ci 0, ci 0, ci 0, ci 3, ci 0, ci 0, ci 1, ci 0, ci 0, ci 2, ci 0, ci 0] #[ci 0, ci 0, ci 0, ci 0, ci 0, ci 0, ci 0, ci 0, ci 0, ci 0, ci 0, ci 0, ci 0, ci 0, ci 0, ci 0, ci 0, ci 0, ci 0, ci 0] _ rfl rfl (by kernel_rfl) rfl (by kernel_rfl) ?_
  intro a' ha; simp only [Act.put, List.setIfInBounds_toArray, List.set_cons_zero, List.set_cons_succ] at ha; subst ha
  go_wp2_with (go_at_call 114; refine (kt _).mono ?_; rintro e w1 ⟨rfl, f1⟩)
  go_ret2
  exact ⟨rfl, (Fr.alloc _ _ _).same f1⟩
set_option maxRecDepth 20000 in
set_option maxHeartbeats 1000000 in
theorem unary_no (op t : Int) (hop : op < 1 ∨ 5 ≤ op) (w : World) : Calls Tryz.prog 104 #[ci op, ci t] w fun e w' => e = .returned (.tuple #[ci 0, ci 1]) ∧ Fr (fun _ => False) w w' := by
  have hd : (decide (op < 1) = true) ∨ (decide (op < 1) = false ∧ decide ((5 : Int) ≤ op) = true) := by simp; omega
  clear hop
  go_enter Tryz.func104, Tryz.ntmps104
  go_upto_region 1 with fail
  apply wp_region_lit
  refine wpl_build rfl _ _ rfl #[ci 0, ci 1, ci 2, ci 0] (by kernel_rfl) ?_
  intro a' ha; simp only [Act.put, List.setIfInBounds_toArray, List.set_cons_zero, List.set_cons_succ] at ha; subst ha
  refine wpl_build rfl _ _ rfl #[ci 0, ci 0, ci 0, ci 3] (by kernel_rfl) ?_
  intro a' ha; simp only [Act.put, List.setIfInBounds_toArray, List.set_cons_zero, List.set_cons_succ] at ha; subst ha
  refine wpl_build rfl _ _ rfl #[ci 0, ci 0, ci 1, ci 0] (by kernel_rfl) ?_
  intro a' ha; simp only [Act.put, List.setIfInBounds_toArray, List.set_cons_zero, List.set_cons_succ] at ha; subst ha
  refine wpl_build rfl _ _ rfl #[ci 0, ci 2, ci 0, ci 0] (by kernel_rfl) ?_
  intro a' ha; simp only [Act.put, List.setIfInBounds_toArray, List.set_cons_zero, List.set_cons_succ] at ha; subst ha
  refine wpl_build rfl _ _ rfl #[ci 0, ci 0, ci 0, ci 0, ci 0, ci 1, ci 2, ci 0, ci 0, ci 0, ci 0, ci 3, ci 0, ci 0, ci 1, ci 0, ci 0, ci 2, ci 0, ci 0] (by kernel_rfl) ?_
  intro a' ha; simp only [Act.put, List.setIfInBounds_toArray, List.set_cons_zero, List.set_cons_succ] at ha; subst ha
  refine wpl_alloc rfl (.pointer (some ⟨w.heap.size, 0, none⟩)) (.cells #[ci 0, ci 0, ci 0, ci 0, ci 0, ci 0, ci 0, ci 0, ci 0, ci 0, ci 0, ci 0, ci 0, ci 0, ci 0, ci 0, ci 0, ci 0, ci 0, ci 0] 173 (0, 0)) (by kernel_rfl) ?_
  intro a' ha; simp only [Act.put, List.setIfInBounds_toArray, List.set_cons_zero, List.set_cons_succ] at ha; subst ha
  refine wpl_store rfl _ _ _ rfl #[ci 0, ci 0, ci 0, ci 0, ci 0, ci 1, ci 2, ci 0, ci 0, ci 0, ci 0, ci 3, ci 0, ci 0, ci 1, ci 0, ci 0, ci 2, ci 0, ci 0] #[ci 0, ci 0, ci 0, ci 0, ci 0, ci 0, ci 0, ci 0, ci 0, ci 0, ci 0, ci 0, ci 0, ci 0, ci 0, ci 0, ci 0, ci 0, ci 0, ci 0] _ rfl rfl (by kernel_rfl) rfl (by kernel_rfl) ?_
  intro a' ha; simp only [Act.put, List.setIfInBounds_toArray, List.set_cons_zero, List.set_cons_succ] at ha; subst ha
  rcases hd with hd | ⟨hd, hd2⟩
  · go_wp2
    go_ret2
    exact ⟨rfl, Fr.alloc _ _ _⟩
  · go_wp2
    go_ret2
    exact ⟨rfl, Fr.alloc _ _ _⟩
theorem unary_any (op t : Int) (w : World) : Calls Tryz.prog 104 #[ci op, ci t] w fun e w' => e = .returned (.tuple #[ci (unS op t).1, ci (unS op t).2]) ∧ Fr (fun _ => False) w w' := by
  by_cases h1 : op = 1
  · subst h1
    have e : unS 1 t = takenS 1 2 0 t := by
      unfold unS takenS
      by_cases t1 : t = 1
      · subst t1; rfl
      by_cases t2 : t = 2
      · subst t2; rfl
      by_cases t3 : t = 3
      · subst t3; rfl
      simp [t1, t2, t3]
    rw [e]
    exact unary_1 t w
  by_cases h2 : op = 2
  · subst h2
    have e : unS 2 t = takenS 0 0 3 t := by
      unfold unS takenS
      by_cases t1 : t = 1
      · subst t1; rfl
      by_cases t2 : t = 2
      · subst t2; rfl
      by_cases t3 : t = 3
      · subst t3; rfl
      simp [t1, t2, t3]
    rw [e]
    exact unary_2 t w
  by_cases h3 : op = 3
  · subst h3
    have e : unS 3 t = takenS 0 1 0 t := by
      unfold unS takenS
      by_cases t1 : t = 1
      · subst t1; rfl
      by_cases t2 : t = 2
      · subst t2; rfl
      by_cases t3 : t = 3
      · subst t3; rfl
      simp [t1, t2, t3]
    rw [e]
    exact unary_3 t w
  by_cases h4 : op = 4
  · subst h4
    have e : unS 4 t = takenS 2 0 0 t := by
      unfold unS takenS
      by_cases t1 : t = 1
      · subst t1; rfl
      by_cases t2 : t = 2
      · subst t2; rfl
      by_cases t3 : t = 3
      · subst t3; rfl
      simp [t1, t2, t3]
    rw [e]
    exact unary_4 t w
  have e : unS op t = (0, 1) := by unfold unS; rw [if_neg h1, if_neg h2, if_neg h3, if_neg h4]
  rw [e]
  exact unary_no op t (by omega) w
set_option maxRecDepth 20000 in
set_option maxHeartbeats 4000000 in
theorem binary_any (op a b : Int) (w : World) : Calls Tryz.prog 105 #[ci op, ci a, ci b] w fun e w' => e = .returned (.tuple #[ci (binS op a b).1, ci (binS op a b).2]) ∧ Fr (fun _ => False) w w' := by
  obtain ⟨R, hR⟩ : ∃ R, binS op a b = R := ⟨_, rfl⟩
  rw [hR]
  replace hR : Hidden (binS op a b = R) := hR
  go_enter Tryz.func105, Tryz.ntmps105
  go_upto_region 1 with fail
  apply wp_region_lit
  refine wpl_build rfl _ _ rfl #[ci 0, ci 1, ci 2, ci 0] (by kernel_rfl) ?_
  intro a' ha; simp only [Act.put, List.setIfInBounds_toArray, List.set_cons_zero, List.set_cons_succ] at ha; subst ha
  refine wpl_alloc rfl (.pointer (some ⟨w.heap.size, 0, none⟩)) (.cells #[ci 0, ci 0, ci 0, ci 0] 172 (0, 0)) (by kernel_rfl) ?_
  intro a' ha; simp only [Act.put, List.setIfInBounds_toArray, List.set_cons_zero, List.set_cons_succ] at ha; subst ha
  refine wpl_store rfl _ _ _ rfl #[ci 0, ci 1, ci 2, ci 0] #[ci 0, ci 0, ci 0, ci 0] _ rfl rfl (by kernel_rfl) rfl (by kernel_rfl) ?_
  intro a' ha; simp only [Act.put, List.setIfInBounds_toArray, List.set_cons_zero, List.set_cons_succ] at ha; subst ha
  obtain ⟨W1, hW1⟩ : ∃ W, W = w.alloc (.cells #[ci 0, ci 1, ci 2, ci 0] 172 (0, 0)) := ⟨_, rfl⟩
  rw [← hW1]
  have b1 : Hidden (W1.heap[w.heap.size]? = some (.cells #[ci 0, ci 1, ci 2, ci 0] 172 (0, 0))) := by rw [hW1]; exact alloc_new _ _
  have s1 : Fr (fun _ => False) w W1 := by rw [hW1]; exact Fr.alloc _ _ _
  clear hW1
  go_upto_region 2 with fail
  apply wp_region_lit
  refine wpl_build rfl _ _ rfl #[ci 0, ci 3, ci 3, ci 3] (by kernel_rfl) ?_
  intro a' ha; simp only [Act.put, List.setIfInBounds_toArray, List.set_cons_zero, List.set_cons_succ] at ha; subst ha
  refine wpl_alloc rfl (.pointer (some ⟨W1.heap.size, 0, none⟩)) (.cells #[ci 0, ci 0, ci 0, ci 0] 172 (0, 0)) (by kernel_rfl) ?_
  intro a' ha; simp only [Act.put, List.setIfInBounds_toArray, List.set_cons_zero, List.set_cons_succ] at ha; subst ha
  refine wpl_store rfl _ _ _ rfl #[ci 0, ci 3, ci 3, ci 3] #[ci 0, ci 0, ci 0, ci 0] _ rfl rfl (by kernel_rfl) rfl (by kernel_rfl) ?_
  intro a' ha; simp only [Act.put, List.setIfInBounds_toArray, List.set_cons_zero, List.set_cons_succ] at ha; subst ha
  obtain ⟨W2, hW2⟩ : ∃ W, W = W1.alloc (.cells #[ci 0, ci 3, ci 3, ci 3] 172 (0, 0)) := ⟨_, rfl⟩
  rw [← hW2]
  have b2 : Hidden (W2.heap[W1.heap.size]? = some (.cells #[ci 0, ci 3, ci 3, ci 3] 172 (0, 0))) := by rw [hW2]; exact alloc_new _ _
  have s2 : Fr (fun _ => False) W1 W2 := by rw [hW2]; exact Fr.alloc _ _ _
  replace b1 : Hidden (W2.heap[w.heap.size]? = some (.cells #[ci 0, ci 1, ci 2, ci 0] 172 (0, 0))) := s2.heap b1 (fun f => f)
  clear hW2
  go_upto_region 3 with fail
  apply wp_region_lit
  refine wpl_build rfl _ _ rfl #[ci 0, ci 3, ci 3, ci 0] (by kernel_rfl) ?_
  intro a' ha; simp only [Act.put, List.setIfInBounds_toArray, List.set_cons_zero, List.set_cons_succ] at ha; subst ha
  refine wpl_alloc rfl (.pointer (some ⟨W2.heap.size, 0, none⟩)) (.cells #[ci 0, ci 0, ci 0, ci 0] 172 (0, 0)) (by kernel_rfl) ?_
  intro a' ha; simp only [Act.put, List.setIfInBounds_toArray, List.set_cons_zero, List.set_cons_succ] at ha; subst ha
  refine wpl_store rfl _ _ _ rfl #[ci 0, ci 3, ci 3, ci 0] #[ci 0, ci 0, ci 0, ci 0] _ rfl rfl (by kernel_rfl) rfl (by kernel_rfl) ?_
  intro a' ha; simp only [Act.put, List.setIfInBounds_toArray, List.set_cons_zero, List.set_cons_succ] at ha; subst ha
  obtain ⟨W3, hW3⟩ : ∃ W, W = W2.alloc (.cells #[ci 0, ci 3, ci 3, ci 0] 172 (0, 0)) := ⟨_, rfl⟩
  rw [← hW3]
  have b3 : Hidden (W3.heap[W2.heap.size]? = some (.cells #[ci 0, ci 3, ci 3, ci 0] 172 (0, 0))) := by rw [hW3]; exact alloc_new _ _
  have s3 : Fr (fun _ => False) W2 W3 := by rw [hW3]; exact Fr.alloc _ _ _
  replace b1 : Hidden (W3.heap[w.heap.size]? = some (.cells #[ci 0, ci 1, ci 2, ci 0] 172 (0, 0))) := s3.heap b1 (fun f => f)
  replace b2 : Hidden (W3.heap[W1.heap.size]? = some (.cells #[ci 0, ci 3, ci 3, ci 3] 172 (0, 0))) := s3.heap b2 (fun f => f)
  clear hW3
  go_upto_region 4 with fail
  apply wp_region_lit
  refine wpl_build rfl _ _ rfl #[ci 0, ci 0, ci 0, ci 3] (by kernel_rfl) ?_
  intro a' ha; simp only [Act.put, List.setIfInBounds_toArray, List.set_cons_zero, List.set_cons_succ] at ha; subst ha
  refine wpl_alloc rfl (.pointer (some ⟨W3.heap.size, 0, none⟩)) (.cells #[ci 0, ci 0, ci 0, ci 0] 172 (0, 0)) (by kernel_rfl) ?_
  intro a' ha; simp only [Act.put, List.setIfInBounds_toArray, List.set_cons_zero, List.set_cons_succ] at ha; subst ha
  refine wpl_store rfl _ _ _ rfl #[ci 0, ci 0, ci 0, ci 3] #[ci 0, ci 0, ci 0, ci 0] _ rfl rfl (by kernel_rfl) rfl (by kernel_rfl) ?_
  intro a' ha; simp only [Act.put, List.setIfInBounds_toArray, List.set_cons_zero, List.set_cons_succ] at ha; subst ha
  obtain ⟨W4, hW4⟩ : ∃ W, W = W3.alloc (.cells #[ci 0, ci 0, ci 0, ci 3] 172 (0, 0)) := ⟨_, rfl⟩
  rw [← hW4]
  have b4 : Hidden (W4.heap[W3.heap.size]? = some (.cells #[ci 0, ci 0, ci 0, ci 3] 172 (0, 0))) := by rw [hW4]; exact alloc_new _ _
  have s4 : Fr (fun _ => False) W3 W4 := by rw [hW4]; exact Fr.alloc _ _ _
  replace b1 : Hidden (W4.heap[w.heap.size]? = some (.cells #[ci 0, ci 1, ci 2, ci 0] 172 (0, 0))) := s4.heap b1 (fun f => f)
  replace b2 : Hidden (W4.heap[W1.heap.size]? = some (.cells #[ci 0, ci 3, ci 3, ci 3] 172 (0, 0))) := s4.heap b2 (fun f => f)
  replace b3 : Hidden (W4.heap[W2.heap.size]? = some (.cells #[ci 0, ci 3, ci 3, ci 0] 172 (0, 0))) := s4.heap b3 (fun f => f)
  clear hW4
  go_upto_region 5 with fail
  apply wp_region_lit
  refine wpl_load rfl _ _ rfl w.heap.size #[ci 0, ci 1, ci 2, ci 0] _ _ rfl b1 Tryz.underlying172 rfl (by kernel_rfl) ?_
  intro a' ha; simp only [Act.put, List.setIfInBounds_toArray, List.set_cons_zero, List.set_cons_succ] at ha; subst ha
  refine wpl_load rfl _ _ rfl w.heap.size #[ci 0, ci 1, ci 2, ci 0] _ _ rfl b1 Tryz.underlying172 rfl (by kernel_rfl) ?_
  intro a' ha; simp only [Act.put, List.setIfInBounds_toArray, List.set_cons_zero, List.set_cons_succ] at ha; subst ha
  refine wpl_load rfl _ _ rfl w.heap.size #[ci 0, ci 1, ci 2, ci 0] _ _ rfl b1 Tryz.underlying172 rfl (by kernel_rfl) ?_
  intro a' ha; simp only [Act.put, List.setIfInBounds_toArray, List.set_cons_zero, List.set_cons_succ] at ha; subst ha
  refine wpl_load rfl _ _ rfl w.heap.size #[ci 0, ci 1, ci 2, ci 0] _ _ rfl b1 Tryz.underlying172 rfl (by kernel_rfl) ?_
  intro a' ha; simp only [Act.put, List.setIfInBounds_toArray, List.set_cons_zero, List.set_cons_succ] at ha; subst ha
  refine wpl_build rfl _ _ rfl #[ci 0, ci 1, ci 0, ci 0] (by kernel_rfl) ?_
  intro a' ha; simp only [Act.put, List.setIfInBounds_toArray, List.set_cons_zero, List.set_cons_succ] at ha; subst ha
  refine wpl_load rfl _ _ rfl W1.heap.size #[ci 0, ci 3, ci 3, ci 3] _ _ rfl b2 Tryz.underlying172 rfl (by kernel_rfl) ?_
  intro a' ha; simp only [Act.put, List.setIfInBounds_toArray, List.set_cons_zero, List.set_cons_succ] at ha; subst ha
  refine wpl_load rfl _ _ rfl W1.heap.size #[ci 0, ci 3, ci 3, ci 3] _ _ rfl b2 Tryz.underlying172 rfl (by kernel_rfl) ?_
  intro a' ha; simp only [Act.put, List.setIfInBounds_toArray, List.set_cons_zero, List.set_cons_succ] at ha; subst ha
  refine wpl_load rfl _ _ rfl W2.heap.size #[ci 0, ci 3, ci 3, ci 0] _ _ rfl b3 Tryz.underlying172 rfl (by kernel_rfl) ?_
  intro a' ha; simp only [Act.put, List.setIfInBounds_toArray, List.set_cons_zero, List.set_cons_succ] at ha; subst ha
  refine wpl_load rfl _ _ rfl W2.heap.size #[ci 0, ci 3, ci 3, ci 0] _ _ rfl b3 Tryz.underlying172 rfl (by kernel_rfl) ?_
  intro a' ha; simp only [Act.put, List.setIfInBounds_toArray, List.set_cons_zero, List.set_cons_succ] at ha; subst ha
  refine wpl_load rfl _ _ rfl W2.heap.size #[ci 0, ci 3, ci 3, ci 0] _ _ rfl b3 Tryz.underlying172 rfl (by kernel_rfl) ?_
  intro a' ha; simp only [Act.put, List.setIfInBounds_toArray, List.set_cons_zero, List.set_cons_succ] at ha; subst ha
  refine wpl_load rfl _ _ rfl W2.heap.size #[ci 0, ci 3, ci 3, ci 0] _ _ rfl b3 Tryz.underlying172 rfl (by kernel_rfl) ?_
  intro a' ha; simp only [Act.put, List.setIfInBounds_toArray, List.set_cons_zero, List.set_cons_succ] at ha; subst ha
  refine wpl_load rfl _ _ rfl W3.heap.size #[ci 0, ci 0, ci 0, ci 3] _ _ rfl b4 Tryz.underlying172 rfl (by kernel_rfl) ?_
  intro a' ha; simp only [Act.put, List.setIfInBounds_toArray, List.set_cons_zero, List.set_cons_succ] at ha; subst ha
  refine wpl_load rfl _ _ rfl W3.heap.size #[ci 0, ci 0, ci 0, ci 3] _ _ rfl b4 Tryz.underlying172 rfl (by kernel_rfl) ?_
  intro a' ha; simp only [Act.put, List.setIfInBounds_toArray, List.set_cons_zero, List.set_cons_succ] at ha; subst ha
  refine wpl_build rfl _ _ rfl #[ci 0, ci 0, ci 0, ci 0, ci 0, ci 1, ci 2, ci 0, ci 0, ci 1, ci 2, ci 0, ci 0, ci 1, ci 2, ci 0, ci 0, ci 1, ci 2, ci 0, ci 0, ci 1, ci 0, ci 0, ci 0, ci 3, ci 3, ci 3, ci 0, ci 3, ci 3, ci 3, ci 0, ci 3, ci 3, ci 0, ci 0, ci 3, ci 3, ci 0, ci 0, ci 3, ci 3, ci 0, ci 0, ci 3, ci 3, ci 0, ci 0, ci 0, ci 0, ci 3, ci 0, ci 0, ci 0, ci 3] (by kernel_rfl) ?_
  intro a' ha; simp only [Act.put, List.setIfInBounds_toArray, List.set_cons_zero, List.set_cons_succ] at ha; subst ha
  refine wpl_alloc rfl (.pointer (some ⟨W4.heap.size, 0, none⟩)) (.cells #[ci 0, ci 0, ci 0, ci 0, ci 0, ci 0, ci 0, ci 0, ci 0, ci 0, ci 0, ci 0, ci 0, ci 0, ci 0, ci 0, ci 0, ci 0, ci 0, ci 0, ci 0, ci 0, ci 0, ci 0, ci 0, ci 0, ci 0, ci 0, ci 0, ci 0, ci 0, ci 0, ci 0, ci 0, ci 0, ci 0, ci 0, ci 0, ci 0, ci 0, ci 0, ci 0, ci 0, ci 0, ci 0, ci 0, ci 0, ci 0, ci 0, ci 0, ci 0, ci 0, ci 0, ci 0, ci 0, ci 0] 175 (0, 0)) (by kernel_rfl) ?_
  intro a' ha; simp only [Act.put, List.setIfInBounds_toArray, List.set_cons_zero, List.set_cons_succ] at ha; subst ha
  refine wpl_store rfl _ _ _ rfl #[ci 0, ci 0, ci 0, ci 0, ci 0, ci 1, ci 2, ci 0, ci 0, ci 1, ci 2, ci 0, ci 0, ci 1, ci 2, ci 0, ci 0, ci 1, ci 2, ci 0, ci 0, ci 1, ci 0, ci 0, ci 0, ci 3, ci 3, ci 3, ci 0, ci 3, ci 3, ci 3, ci 0, ci 3, ci 3, ci 0, ci 0, ci 3, ci 3, ci 0, ci 0, ci 3, ci 3, ci 0, ci 0, ci 3, ci 3, ci 0, ci 0, ci 0, ci 0, ci 3, ci 0, ci 0, ci 0, ci 3] #[ci 0, ci 0, ci 0, ci 0, ci 0, ci 0, ci 0, ci 0, ci 0, ci 0, ci 0, ci 0, ci 0, ci 0, ci 0, ci 0, ci 0, ci 0, ci 0, ci 0, ci 0, ci 0, ci 0, ci 0, ci 0, ci 0, ci 0, ci 0, ci 0, ci 0, ci 0, ci 0, ci 0, ci 0, ci 0, ci 0, ci 0, ci 0, ci 0, ci 0, ci 0, ci 0, ci 0, ci 0, ci 0, ci 0, ci 0, ci 0, ci 0, ci 0, ci 0, ci 0, ci 0, ci 0, ci 0, ci 0] _ rfl rfl (by kernel_rfl) rfl (by kernel_rfl) ?_
  intro a' ha; simp only [Act.put, List.setIfInBounds_toArray, List.set_cons_zero, List.set_cons_succ] at ha; subst ha
  obtain ⟨W5, hW5⟩ : ∃ W, W = W4.alloc (.cells #[ci 0, ci 0, ci 0, ci 0, ci 0, ci 1, ci 2, ci 0, ci 0, ci 1, ci 2, ci 0, ci 0, ci 1, ci 2, ci 0, ci 0, ci 1, ci 2, ci 0, ci 0, ci 1, ci 0, ci 0, ci 0, ci 3, ci 3, ci 3, ci 0, ci 3, ci 3, ci 3, ci 0, ci 3, ci 3, ci 0, ci 0, ci 3, ci 3, ci 0, ci 0, ci 3, ci 3, ci 0, ci 0, ci 3, ci 3, ci 0, ci 0, ci 0, ci 0, ci 3, ci 0, ci 0, ci 0, ci 3] 175 (0, 0)) := ⟨_, rfl⟩
  rw [← hW5]
  have b5 : Hidden (W5.heap[W4.heap.size]? = some (.cells #[ci 0, ci 0, ci 0, ci 0, ci 0, ci 1, ci 2, ci 0, ci 0, ci 1, ci 2, ci 0, ci 0, ci 1, ci 2, ci 0, ci 0, ci 1, ci 2, ci 0, ci 0, ci 1, ci 0, ci 0, ci 0, ci 3, ci 3, ci 3, ci 0, ci 3, ci 3, ci 3, ci 0, ci 3, ci 3, ci 0, ci 0, ci 3, ci 3, ci 0, ci 0, ci 3, ci 3, ci 0, ci 0, ci 3, ci 3, ci 0, ci 0, ci 0, ci 0, ci 3, ci 0, ci 0, ci 0, ci 3] 175 (0, 0))) := by rw [hW5]; exact alloc_new _ _
  have s5 : Fr (fun _ => False) W4 W5 := by rw [hW5]; exact Fr.alloc _ _ _
  have sA : Hidden (Fr (fun _ => False) w W5) := (((s1.same s2).same s3).same s4).same s5
  clear hW5 s1 s2 s3 s4 s5 b1 b2 b3 b4
  by_cases hop : op < 1 ∨ 13 < op
  · obtain rfl : (0, 1) = R := by rw [← (show binS op a b = R from hR)]; unfold binS; rw [if_pos hop]
    have hd : (decide (op < 1) = true) ∨ (decide (op < 1) = false ∧ decide ((14 : Int) ≤ op) = true) := by simp; omega
    clear hop hR
    rcases hd with hd | ⟨hd, hd2⟩
    · go_wp2
      go_ret2
      exact ⟨rfl, sA⟩
    · go_wp2
      go_ret2
      exact ⟨rfl, sA⟩
  · by_cases hab : a = b
    · subst hab
      replace hR : takenS (rowB op).1 (rowB op).2.1 (rowB op).2.2 a = R := by rw [← (show binS op a a = R from hR)]; unfold binS; rw [if_neg hop, if_neg (by simp)]
      have hne : (a != a) = false := by simp
      have hc : op = 1 ∨ op = 2 ∨ op = 3 ∨ op = 4 ∨ op = 5 ∨ op = 6 ∨ op = 7 ∨ op = 8 ∨ op = 9 ∨ op = 10 ∨ op = 11 ∨ op = 12 ∨ op = 13 := by omega
      clear hop
      rcases hc with rfl | rfl | rfl | rfl | rfl | rfl | rfl | rfl | rfl | rfl | rfl | rfl | rfl
      · have kt := fun w => taken_any 0 1 2 0 a w
        rw [show takenS (rowB 1).1 (rowB 1).2.1 (rowB 1).2.2 a = takenS 1 2 0 a from rfl] at hR
        rw [hR] at kt
        have c0 : W5.cell? ⟨W4.heap.size, 4, none⟩ = some (ci 0) := cell_of_row _ _ 4 _ _ _ b5
        have c1 : W5.cell? ⟨W4.heap.size, 5, none⟩ = some (ci 1) := cell_of_row _ _ 5 _ _ _ b5
        have c2 : W5.cell? ⟨W4.heap.size, 6, none⟩ = some (ci 2) := cell_of_row _ _ 6 _ _ _ b5
        have c3 : W5.cell? ⟨W4.heap.size, 7, none⟩ = some (ci 0) := cell_of_row _ _ 7 _ _ _ b5
        clear hR
        go_wp2_with (go_at_call 114; refine (kt _).mono ?_; rintro e w1 ⟨rfl, f1⟩)
        go_ret2
        exact ⟨rfl, sA.same f1⟩
      · have kt := fun w => taken_any 0 1 2 0 a w
        rw [show takenS (rowB 2).1 (rowB 2).2.1 (rowB 2).2.2 a = takenS 1 2 0 a from rfl] at hR
        rw [hR] at kt
        have c0 : W5.cell? ⟨W4.heap.size, 8, none⟩ = some (ci 0) := cell_of_row _ _ 8 _ _ _ b5
        have c1 : W5.cell? ⟨W4.heap.size, 9, none⟩ = some (ci 1) := cell_of_row _ _ 9 _ _ _ b5
        have c2 : W5.cell? ⟨W4.heap.size, 10, none⟩ = some (ci 2) := cell_of_row _ _ 10 _ _ _ b5
        have c3 : W5.cell? ⟨W4.heap.size, 11, none⟩ = some (ci 0) := cell_of_row _ _ 11 _ _ _ b5
        clear hR
        go_wp2_with (go_at_call 114; refine (kt _).mono ?_; rintro e w1 ⟨rfl, f1⟩)
        go_ret2
        exact ⟨rfl, sA.same f1⟩
      · have kt := fun w => taken_any 0 1 2 0 a w
        rw [show takenS (rowB 3).1 (rowB 3).2.1 (rowB 3).2.2 a = takenS 1 2 0 a from rfl] at hR
        rw [hR] at kt
        have c0 : W5.cell? ⟨W4.heap.size, 12, none⟩ = some (ci 0) := cell_of_row _ _ 12 _ _ _ b5
        have c1 : W5.cell? ⟨W4.heap.size, 13, none⟩ = some (ci 1) := cell_of_row _ _ 13 _ _ _ b5
        have c2 : W5.cell? ⟨W4.heap.size, 14, none⟩ = some (ci 2) := cell_of_row _ _ 14 _ _ _ b5
        have c3 : W5.cell? ⟨W4.heap.size, 15, none⟩ = some (ci 0) := cell_of_row _ _ 15 _ _ _ b5
        clear hR
        go_wp2_with (go_at_call 114; refine (kt _).mono ?_; rintro e w1 ⟨rfl, f1⟩)
        go_ret2
        exact ⟨rfl, sA.same f1⟩
      · have kt := fun w => taken_any 0 1 2 0 a w
        rw [show takenS (rowB 4).1 (rowB 4).2.1 (rowB 4).2.2 a = takenS 1 2 0 a from rfl] at hR
        rw [hR] at kt
        have c0 : W5.cell? ⟨W4.heap.size, 16, none⟩ = some (ci 0) := cell_of_row _ _ 16 _ _ _ b5
        have c1 : W5.cell? ⟨W4.heap.size, 17, none⟩ = some (ci 1) := cell_of_row _ _ 17 _ _ _ b5
        have c2 : W5.cell? ⟨W4.heap.size, 18, none⟩ = some (ci 2) := cell_of_row _ _ 18 _ _ _ b5
        have c3 : W5.cell? ⟨W4.heap.size, 19, none⟩ = some (ci 0) := cell_of_row _ _ 19 _ _ _ b5
        clear hR
        go_wp2_with (go_at_call 114; refine (kt _).mono ?_; rintro e w1 ⟨rfl, f1⟩)
        go_ret2
        exact ⟨rfl, sA.same f1⟩
      · have kt := fun w => taken_any 0 1 0 0 a w
        rw [show takenS (rowB 5).1 (rowB 5).2.1 (rowB 5).2.2 a = takenS 1 0 0 a from rfl] at hR
        rw [hR] at kt
        have c0 : W5.cell? ⟨W4.heap.size, 20, none⟩ = some (ci 0) := cell_of_row _ _ 20 _ _ _ b5
        have c1 : W5.cell? ⟨W4.heap.size, 21, none⟩ = some (ci 1) := cell_of_row _ _ 21 _ _ _ b5
        have c2 : W5.cell? ⟨W4.heap.size, 22, none⟩ = some (ci 0) := cell_of_row _ _ 22 _ _ _ b5
        have c3 : W5.cell? ⟨W4.heap.size, 23, none⟩ = some (ci 0) := cell_of_row _ _ 23 _ _ _ b5
        clear hR
        go_wp2_with (go_at_call 114; refine (kt _).mono ?_; rintro e w1 ⟨rfl, f1⟩)
        go_ret2
        exact ⟨rfl, sA.same f1⟩
      · have kt := fun w => taken_any 0 3 3 3 a w
        rw [show takenS (rowB 6).1 (rowB 6).2.1 (rowB 6).2.2 a = takenS 3 3 3 a from rfl] at hR
        rw [hR] at kt
        have c0 : W5.cell? ⟨W4.heap.size, 24, none⟩ = some (ci 0) := cell_of_row _ _ 24 _ _ _ b5
        have c1 : W5.cell? ⟨W4.heap.size, 25, none⟩ = some (ci 3) := cell_of_row _ _ 25 _ _ _ b5
        have c2 : W5.cell? ⟨W4.heap.size, 26, none⟩ = some (ci 3) := cell_of_row _ _ 26 _ _ _ b5
        have c3 : W5.cell? ⟨W4.heap.size, 27, none⟩ = some (ci 3) := cell_of_row _ _ 27 _ _ _ b5
        clear hR
        go_wp2_with (go_at_call 114; refine (kt _).mono ?_; rintro e w1 ⟨rfl, f1⟩)
        go_ret2
        exact ⟨rfl, sA.same f1⟩
      · have kt := fun w => taken_any 0 3 3 3 a w
        rw [show takenS (rowB 7).1 (rowB 7).2.1 (rowB 7).2.2 a = takenS 3 3 3 a from rfl] at hR
        rw [hR] at kt
        have c0 : W5.cell? ⟨W4.heap.size, 28, none⟩ = some (ci 0) := cell_of_row _ _ 28 _ _ _ b5
        have c1 : W5.cell? ⟨W4.heap.size, 29, none⟩ = some (ci 3) := cell_of_row _ _ 29 _ _ _ b5
        have c2 : W5.cell? ⟨W4.heap.size, 30, none⟩ = some (ci 3) := cell_of_row _ _ 30 _ _ _ b5
        have c3 : W5.cell? ⟨W4.heap.size, 31, none⟩ = some (ci 3) := cell_of_row _ _ 31 _ _ _ b5
        clear hR
        go_wp2_with (go_at_call 114; refine (kt _).mono ?_; rintro e w1 ⟨rfl, f1⟩)
        go_ret2
        exact ⟨rfl, sA.same f1⟩
      · have kt := fun w => taken_any 0 3 3 0 a w
        rw [show takenS (rowB 8).1 (rowB 8).2.1 (rowB 8).2.2 a = takenS 3 3 0 a from rfl] at hR
        rw [hR] at kt
        have c0 : W5.cell? ⟨W4.heap.size, 32, none⟩ = some (ci 0) := cell_of_row _ _ 32 _ _ _ b5
        have c1 : W5.cell? ⟨W4.heap.size, 33, none⟩ = some (ci 3) := cell_of_row _ _ 33 _ _ _ b5
        have c2 : W5.cell? ⟨W4.heap.size, 34, none⟩ = some (ci 3) := cell_of_row _ _ 34 _ _ _ b5
        have c3 : W5.cell? ⟨W4.heap.size, 35, none⟩ = some (ci 0) := cell_of_row _ _ 35 _ _ _ b5
        clear hR
        go_wp2_with (go_at_call 114; refine (kt _).mono ?_; rintro e w1 ⟨rfl, f1⟩)
        go_ret2
        exact ⟨rfl, sA.same f1⟩
      · have kt := fun w => taken_any 0 3 3 0 a w
        rw [show takenS (rowB 9).1 (rowB 9).2.1 (rowB 9).2.2 a = takenS 3 3 0 a from rfl] at hR
        rw [hR] at kt
        have c0 : W5.cell? ⟨W4.heap.size, 36, none⟩ = some (ci 0) := cell_of_row _ _ 36 _ _ _ b5
        have c1 : W5.cell? ⟨W4.heap.size, 37, none⟩ = some (ci 3) := cell_of_row _ _ 37 _ _ _ b5
        have c2 : W5.cell? ⟨W4.heap.size, 38, none⟩ = some (ci 3) := cell_of_row _ _ 38 _ _ _ b5
        have c3 : W5.cell? ⟨W4.heap.size, 39, none⟩ = some (ci 0) := cell_of_row _ _ 39 _ _ _ b5
        clear hR
        go_wp2_with (go_at_call 114; refine (kt _).mono ?_; rintro e w1 ⟨rfl, f1⟩)
        go_ret2
        exact ⟨rfl, sA.same f1⟩
      · have kt := fun w => taken_any 0 3 3 0 a w
        rw [show takenS (rowB 10).1 (rowB 10).2.1 (rowB 10).2.2 a = takenS 3 3 0 a from rfl] at hR
        rw [hR] at kt
        have c0 : W5.cell? ⟨W4.heap.size, 40, none⟩ = some (ci 0) := cell_of_row _ _ 40 _ _ _ b5
        have c1 : W5.cell? ⟨W4.heap.size, 41, none⟩ = some (ci 3) := cell_of_row _ _ 41 _ _ _ b5
        have c2 : W5.cell? ⟨W4.heap.size, 42, none⟩ = some (ci 3) := cell_of_row _ _ 42 _ _ _ b5
        have c3 : W5.cell? ⟨W4.heap.size, 43, none⟩ = some (ci 0) := cell_of_row _ _ 43 _ _ _ b5
        clear hR
        go_wp2_with (go_at_call 114; refine (kt _).mono ?_; rintro e w1 ⟨rfl, f1⟩)
        go_ret2
        exact ⟨rfl, sA.same f1⟩
      · have kt := fun w => taken_any 0 3 3 0 a w
        rw [show takenS (rowB 11).1 (rowB 11).2.1 (rowB 11).2.2 a = takenS 3 3 0 a from rfl] at hR
        rw [hR] at kt
        have c0 : W5.cell? ⟨W4.heap.size, 44, none⟩ = some (ci 0) := cell_of_row _ _ 44 _ _ _ b5
        have c1 : W5.cell? ⟨W4.heap.size, 45, none⟩ = some (ci 3) := cell_of_row _ _ 45 _ _ _ b5
        have c2 : W5.cell? ⟨W4.heap.size, 46, none⟩ = some (ci 3) := cell_of_row _ _ 46 _ _ _ b5
        have c3 : W5.cell? ⟨W4.heap.size, 47, none⟩ = some (ci 0) := cell_of_row _ _ 47 _ _ _ b5
        clear hR
        go_wp2_with (go_at_call 114; refine (kt _).mono ?_; rintro e w1 ⟨rfl, f1⟩)
        go_ret2
        exact ⟨rfl, sA.same f1⟩
      · have kt := fun w => taken_any 0 0 0 3 a w
        rw [show takenS (rowB 12).1 (rowB 12).2.1 (rowB 12).2.2 a = takenS 0 0 3 a from rfl] at hR
        rw [hR] at kt
        have c0 : W5.cell? ⟨W4.heap.size, 48, none⟩ = some (ci 0) := cell_of_row _ _ 48 _ _ _ b5
        have c1 : W5.cell? ⟨W4.heap.size, 49, none⟩ = some (ci 0) := cell_of_row _ _ 49 _ _ _ b5
        have c2 : W5.cell? ⟨W4.heap.size, 50, none⟩ = some (ci 0) := cell_of_row _ _ 50 _ _ _ b5
        have c3 : W5.cell? ⟨W4.heap.size, 51, none⟩ = some (ci 3) := cell_of_row _ _ 51 _ _ _ b5
        clear hR
        go_wp2_with (go_at_call 114; refine (kt _).mono ?_; rintro e w1 ⟨rfl, f1⟩)
        go_ret2
        exact ⟨rfl, sA.same f1⟩
      · have kt := fun w => taken_any 0 0 0 3 a w
        rw [show takenS (rowB 13).1 (rowB 13).2.1 (rowB 13).2.2 a = takenS 0 0 3 a from rfl] at hR
        rw [hR] at kt
        have c0 : W5.cell? ⟨W4.heap.size, 52, none⟩ = some (ci 0) := cell_of_row _ _ 52 _ _ _ b5
        have c1 : W5.cell? ⟨W4.heap.size, 53, none⟩ = some (ci 0) := cell_of_row _ _ 53 _ _ _ b5
        have c2 : W5.cell? ⟨W4.heap.size, 54, none⟩ = some (ci 0) := cell_of_row _ _ 54 _ _ _ b5
        have c3 : W5.cell? ⟨W4.heap.size, 55, none⟩ = some (ci 3) := cell_of_row _ _ 55 _ _ _ b5
        clear hR
        go_wp2_with (go_at_call 114; refine (kt _).mono ?_; rintro e w1 ⟨rfl, f1⟩)
        go_ret2
        exact ⟨rfl, sA.same f1⟩
    · obtain rfl : (0, 22) = R := by rw [← (show binS op a b = R from hR)]; unfold binS; rw [if_neg hop, if_pos hab]
      have hne : (a != b) = true := by simpa using hab
      have hd : decide (op < 1) = false := by simp; omega
      have hge : decide ((14 : Int) ≤ op) = false := by simp; omega
      clear hab hop hR
      go_wp2
      go_ret2
      exact ⟨rfl, sA⟩
end Go.Proofs.YtnmcehpdiopaiaaGreatDoor.Ty
