/- TrS NxA TrM TrD NyA Shelf IyA -/
import Derived.KernelRfl
import Derived.WalkKit
import Derived.Test.YteijjaabngkbjaaGreatDoorRows
import Derived.WalkSpells
import Derived.WalkLawsBesides
import Derived.ProofKit
import Derived.RowKit3
import Derived.Laws.AppendOwn
import Derived.Laws.AppendOwnNone
import Derived.Maps.AppendAt
import Derived.Laws.Rows
import Derived.OwnWalk
import Derived.Deep.LoopGhost
import Derived.Deep.DeepCutAuto
import Derived.Lib.SlicesCompact
import Derived.Sort.EncStr
import Derived.Deep.RegionWith
import Derived.Sort.Walk0
import Derived.Shelf.SlSorted.Search
import Derived.Shelf.Strings.Builder1
import Derived.Shelf.Small.Bits
import Derived.Shelf.Small.Strs
import Derived.Shelf.Small.Wraps
import Derived.Shelf.Strconv.Itoa0
import Derived.Shelf.Strconv.Itoa1
import Derived.Shelf.LaysM
import Derived.Shelf.Strconv.Itoa2
import Derived.Shelf.Strconv.Itoa3
import Derived.Shelf.Strconv.Itoa4
import Derived.Shelf.Strings.Search1
import Derived.Shelf.Strings.Search2
import Derived.Shelf.Strings.Prefix
import Derived.Shelf.Bits.Mul64
import Derived.Test.YteijjaabngkbjaaGreatDoorProg
import Derived.Lib.ItoaMem
import Derived.Laws.Externs
import Derived.Laws.BitsAllLaws
import Derived.Shelf.Spec.BitsCarry
import Derived.Laws.RangeAny
import Derived.Lib.IndexBytes
import Derived.Laws.IdiomStrings
import Derived.Lib.SmallJoins
namespace Go.Proofs.YteijjaabngkbjaaGreatDoor
set_option linter.unusedSimpArgs false
set_option linter.unusedVariables false
namespace Te
open Go.RowKit (wrap64)
abbrev Bs := List UInt8
structure EH where
  kind : Int
  op : Int
  mod : Bs
  name : Bs
  vt : Int
  vb : Int
  deriving DecidableEq
inductive Exs where
  | nil : Exs
  | cons (h : EH) (kids rest : Exs) : Exs
  deriving DecidableEq
structure SH where
  kind : Int
  name : Bs
  deriving DecidableEq
inductive Sts where
  | nil : Sts
  | cons (h : SH) (e : Exs) (body els rest : Sts) : Sts
  deriving DecidableEq
structure Pa where
  name : Bs
  type : Int
  deriving DecidableEq
structure De where
  kind : Int
  ex : Bool
  name : Bs
  type : Int
  params : List Pa
  e : Exs
  body : Sts
  deriving DecidableEq
structure Mo where
  name : Bs
  imports : List Bs
  decls : List De
  deriving DecidableEq
def Exs.len : Exs → Nat
  | .nil => 0
  | .cons _ _ r => r.len + 1
def Sts.len : Sts → Nat
  | .nil => 0
  | .cons _ _ _ _ r => r.len + 1
def Exs.size : Exs → Nat
  | .nil => 0
  | .cons _ k r => k.size + r.size + 1
def Sts.size : Sts → Nat
  | .nil => 0
  | .cons _ e b l r => e.size + b.size + l.size + r.size + 1
def Exs.kind0 : Exs → Int
  | .nil => 0
  | .cons h _ _ => h.kind
def lv2 (op : Int) : Int :=
  if op = 13 then 1 else if op = 12 then 2 else if 6 ≤ op ∧ op ≤ 11 then 3 else if op = 1 ∨ op = 2 then 4 else if 3 ≤ op ∧ op ≤ 5 then 5 else 7
def level (h : EH) : Int := if h.kind = 6 then (if h.op = 1 ∨ h.op = 2 then 6 else 7) else if h.kind = 7 then lv2 h.op else 7
def side (own : Int) (first : Bool) : Int := if own = 7 then 1 else if first = false ∨ own = 3 then own + 1 else own
def kidL (h : EH) (first : Bool) : Int := if h.kind = 6 then (if h.op = 1 ∨ h.op = 2 then 6 else 1) else if h.kind = 7 then side (lv2 h.op) first else 1
def kidD (h : EH) : Int := if h.kind = 4 ∨ h.kind = 5 then 1 else if h.kind = 6 then (if h.op = 1 ∨ h.op = 2 ∨ h.op = 3 ∨ h.op = 4 then 1 else 0) else 0
def inAt (h : EH) (least at_ : Int) : Int := if level h < least then wrap64 (at_ + 1) else at_
def dK (p : EH) : Exs → Bool → Int → Int → Int
  | .nil, _, _, acc => acc
  | .cons h k r, first, a, acc => dK p r false a (max acc (dK h k true (inAt h (kidL p first) (wrap64 (a + kidD p))) (inAt h (kidL p first) (wrap64 (a + kidD p)))))
def dX (h : EH) (k : Exs) (least a : Int) : Int := dK h k true (inAt h least a) (inAt h least a)
def dL : Exs → Int → Int → Int
  | .nil, _, acc => acc
  | .cons h k r, a, acc => dL r a (max acc (dX h k 1 a))
def hasBody (k : Int) : Bool := k == 3 || k == 4 || k == 8
def dS : Sts → Int → Int → Int
  | .nil, _, acc => acc
  | .cons h e b l r, a, acc =>
    let x1 := dL e a a
    let x2 := if hasBody h.kind || decide (0 < b.len) then max x1 (dS b (wrap64 (a + 1)) (wrap64 (a + 1))) else x1
    let x3 := if h.kind = 8 ∨ 0 < l.len then max x2 (dS l (wrap64 (a + 1)) (wrap64 (a + 1))) else x2
    dS r a (max acc x3)
def dD (d : De) : Int := if d.kind = 3 ∨ 0 < d.body.len then max (dL d.e 0 0) (dS d.body 1 1) else dL d.e 0 0
def orE (a b : Int) : Int := if a = 0 then b else a
section
variable (rn : Bs → Int) (cn : Int → Int)
def litOk (vt vb : Int) : Bool :=
  if vt = 1 then decide (vb < 9223372036854775808) else if vt = 2 then decide (vb < 9223372036854775808) && decide (cn vb = vb) else if vt = 3 then decide (vb ≤ 1) else false
def fitsE (h : EH) (n : Nat) : Bool :=
  if h.kind = 1 then litOk cn h.vt h.vb && decide (h.op = 0 ∧ h.mod = [] ∧ h.name = [] ∧ n = 0)
  else if h.kind = 2 then decide (h.op = 0 ∧ h.mod = [] ∧ h.vt = 0 ∧ h.vb = 0 ∧ n = 0)
  else if h.kind = 3 then decide (h.op = 0 ∧ h.vt = 0 ∧ h.vb = 0 ∧ n = 0)
  else if h.kind = 4 then decide (h.op = 0 ∧ h.mod = [] ∧ h.vt = 0 ∧ h.vb = 0)
  else if h.kind = 5 then decide (h.op = 0 ∧ h.vt = 0 ∧ h.vb = 0)
  else if h.kind = 6 then decide (1 ≤ h.op ∧ h.op ≤ 4 ∧ n = 1 ∧ h.mod = [] ∧ h.name = [] ∧ h.vt = 0 ∧ h.vb = 0)
  else if h.kind = 7 then decide (1 ≤ h.op ∧ h.op ≤ 13 ∧ n = 2 ∧ h.mod = [] ∧ h.name = [] ∧ h.vt = 0 ∧ h.vb = 0)
  else if h.kind = 8 then decide (h.op = 0 ∧ h.mod = [] ∧ h.name = [] ∧ h.vt = 0 ∧ h.vb = 0 ∧ n = 0)
  else false
def nameE (h : EH) : Int := if h.kind = 2 ∨ h.kind = 4 then rn h.name else if h.kind = 3 ∨ h.kind = 5 then orE (rn h.mod) (rn h.name) else 0
def errH (h : EH) (n : Nat) : Int := orE (if fitsE cn h n then 0 else 1) (orE (nameE rn h) (if 8 < n then 3 else 0))
def errL : Exs → Int
  | .nil => 0
  | .cons h k r => orE (orE (errH rn cn h k.len) (errL k)) (errL r)
def fitsS (h : SH) (e : Exs) (nb nl : Nat) : Bool :=
  if h.kind = 1 ∨ h.kind = 2 then decide (e.len = 1 ∧ nb = 0 ∧ nl = 0)
  else if h.kind = 3 then decide (e.len = 1 ∧ h.name = [])
  else if h.kind = 4 then decide (e.len = 1 ∧ h.name = [] ∧ nl = 0)
  else if h.kind = 5 then decide (e.len ≤ 1 ∧ h.name = [] ∧ nb = 0 ∧ nl = 0)
  else if h.kind = 6 ∨ h.kind = 7 then decide (e.len = 1 ∧ h.name = [] ∧ nb = 0 ∧ nl = 0)
  else if h.kind = 8 then decide (e.len = 0)
  else if h.kind = 9 then decide (e.len = 1 ∧ (e.kind0 = 4 ∨ e.kind0 = 5) ∧ h.name = [] ∧ nb = 0 ∧ nl = 0)
  else false
def nameS (h : SH) : Int := if h.kind = 1 ∨ h.kind = 2 ∨ h.kind = 8 then rn h.name else 0
def errSH (h : SH) (e : Exs) (nb nl : Nat) : Int := orE (if fitsS h e nb nl then 0 else 1) (nameS rn h)
def errS : Sts → Int
  | .nil => 0
  | .cons h e b l r => orE (orE (errSH rn h e b.len l.len) (orE (errL rn cn e) (orE (errS b) (errS l)))) (errS r)
def isTy (t : Int) : Bool := t == 1 || t == 2 || t == 3
def fitsD (d : De) : Bool :=
  if d.kind = 1 then isTy d.type && decide (d.e.len = 1 ∧ d.params.length = 0 ∧ d.body.len = 0)
  else if d.kind = 2 then !d.ex && isTy d.type && decide (d.e.len = 1 ∧ d.params.length = 0 ∧ d.body.len = 0)
  else if d.kind = 3 then (d.type == 0 || isTy d.type) && decide (d.e.len = 0)
  else false
def errP : List Pa → Int
  | [] => 0
  | p :: r => orE (orE (rn p.name) (if isTy p.type then 0 else 1)) (errP r)
def errD (d : De) : Int :=
  orE (if 32 < dD d then 13 else 0) (orE (if fitsD d then 0 else 1) (orE (rn d.name) (orE (if 8 < d.params.length then 3 else 0) (orE (errP rn d.params) (orE (errL rn cn d.e) (errS rn cn d.body))))))
def errI : List Bs → Int
  | [] => 0
  | x :: r => orE (rn x) (errI r)
def errDs : List De → Int
  | [] => 0
  | d :: r => orE (errD rn cn d) (errDs r)
def errM (m : Mo) : Int := orE (rn m.name) (orE (if 16 < m.imports.length then 3 else 0) (orE (errI rn m.imports) (orE (if 64 < m.decls.length then 3 else 0) (errDs rn cn m.decls))))
end
section
variable (tx : Int → Int → Bs)
def mark (op : Int) : Bs :=
  if op = 1 then [32, 43, 32] else if op = 2 then [32, 45, 32] else if op = 3 then [32, 42, 32] else if op = 4 then [32, 47, 32] else if op = 5 then [32, 37, 32]
  else if op = 6 then [32, 61, 61, 32] else if op = 7 then [32, 33, 61, 32] else if op = 8 then [32, 60, 32] else if op = 9 then [32, 60, 61, 32]
  else if op = 10 then [32, 62, 32] else if op = 11 then [32, 62, 61, 32] else if op = 12 then [32, 38, 38, 32] else [32, 124, 124, 32]
def sep (h : EH) : Bs := if h.kind = 7 then mark h.op else [44, 32]
def pre (h : EH) : Bs :=
  if h.kind = 1 then tx h.vt h.vb else if h.kind = 2 then h.name else if h.kind = 3 then h.mod ++ 46 :: h.name
  else if h.kind = 4 then h.name ++ [40] else if h.kind = 5 then (h.mod ++ 46 :: h.name) ++ [40]
  else if h.kind = 6 then (if h.op = 1 then [45] else if h.op = 2 then [33] else if h.op = 3 then [105, 110, 116, 40] else [102, 108, 111, 97, 116, 40])
  else if h.kind = 7 then [] else [105, 110, 112, 117, 116]
def post (h : EH) : Bs := if h.kind = 4 ∨ h.kind = 5 then [41] else if h.kind = 6 ∧ ¬ (h.op = 1 ∨ h.op = 2) then [41] else []
def par (b : Bool) (l : Bs) : Bs := if b then 40 :: l ++ [41] else l
def txK (p : EH) : Bool → Exs → Bs
  | _, .nil => []
  | first, .cons h k r => (if first then [] else sep p) ++ par (decide (level h < kidL p first)) (pre tx h ++ txK h true k ++ post h) ++ txK p false r
def bare (h : EH) (k : Exs) : Bs := pre tx h ++ txK tx h true k ++ post h
end
def ndD (d : De) : Nat := 1 + d.params.length + d.e.size + d.body.size
end Te
end Go.Proofs.YteijjaabngkbjaaGreatDoor
namespace Go.Proofs.YteijjaabngkbjaaGreatDoor
open Go.RowKit
set_option linter.unusedSimpArgs false
set_option linter.unusedVariables false
def Hidden (p : Prop) : Prop := p
theorem alloc_old (w : World) (o : Obj) (k : Nat) (h : k < w.heap.size) : (w.alloc o).heap[k]? = w.heap[k]? := by
  show (w.heap.push o)[k]? = _
  rw [Array.getElem?_push_lt h]
  exact (Array.getElem?_eq_getElem h).symm
theorem alloc_new (w : World) (o : Obj) : (w.alloc o).heap[w.heap.size]? = some o := by
  show (w.heap.push o)[w.heap.size]? = _
  simp
structure Fr (S : Nat → Prop) (w w' : World) : Prop where
  os : w'.os = w.os
  output : w'.output = w.output
  size : w.heap.size ≤ w'.heap.size
  block : ∀ k, k < w.heap.size → ¬ S k → w'.heap[k]? = w.heap[k]?
theorem Fr.refl (S : Nat → Prop) (w : World) : Fr S w w := ⟨rfl, rfl, Nat.le_refl _, fun _ _ _ => rfl⟩
theorem Fr.trans {S T : Nat → Prop} {a b c : World} (h : Fr S a b) (g : Fr T b c) (hT : ∀ k, k < a.heap.size → T k → S k) : Fr S a c :=
  ⟨g.os.trans h.os, g.output.trans h.output, Nat.le_trans h.size g.size, fun k hk hn =>
    (g.block k (Nat.lt_of_lt_of_le hk h.size) (fun t => hn (hT k hk t))).trans (h.block k hk hn)⟩
theorem Fr.same {S : Nat → Prop} {a b c : World} (h : Fr S a b) (g : Fr S b c) : Fr S a c := h.trans g (fun _ _ t => t)
theorem Fr.mono {S T : Nat → Prop} {a b : World} (h : Fr S a b) (hT : ∀ k, k < a.heap.size → S k → T k) : Fr T a b :=
  ⟨h.os, h.output, h.size, fun k hk hn => h.block k hk (fun t => hn (hT k hk t))⟩
theorem Fr.alloc (S : Nat → Prop) (w : World) (o : Obj) : Fr S w (w.alloc o) := ⟨rfl, rfl, by simp, fun k hk _ => alloc_old w o k hk⟩
theorem Fr.drew (S : Nat → Prop) (w : World) : Fr S w w.drew := ⟨rfl, rfl, Nat.le_refl _, fun _ _ _ => rfl⟩
theorem Fr.grown {w w' : World} {row : Option Nat} (h : w.grownBy w' row) : Fr (fun k => some k = row) w w' := ⟨h.os, h.output, h.size, fun k hk hn => h.block k hk hn⟩
theorem Fr.setCell (w : World) (a : Addr) (v : Value) : Fr (fun k => k = a.block) w (w.setCell a v) :=
  ⟨rfl, rfl, by simp, fun k _ hn => heap_setCell_other w a k v hn⟩
theorem Fr.kept {w w' : World} (h : Fr (fun _ => False) w w') : w.keptBut w' (fun _ => False) :=
  ⟨h.os, h.output, fun i hi => by
    rw [h.block i hi (fun f => f)]
    cases w.heap[i]? with
    | none => rfl
    | some o => cases o <;> simp⟩
theorem Fr.cell {S : Nat → Prop} {w w' : World} (h : Fr S w w') {a : Addr} {v : Value} (hc : w.cell? a = some v) (hn : ¬ S a.block) : w'.cell? a = some v :=
  (World.cell?_of_block (h.block a.block (World.block_lt_of_cell? w a hc) hn)).trans hc
theorem lt_of_heap {w : World} {k : Nat} {o : Obj} (h : w.heap[k]? = some o) : k < w.heap.size := (Array.getElem?_eq_some_iff.1 h).1
theorem Fr.heap {S : Nat → Prop} {w w' : World} (h : Fr S w w') {k : Nat} {o : Obj} (hc : w.heap[k]? = some o) (hn : ¬ S k) : w'.heap[k]? = some o :=
  (h.block k (lt_of_heap hc) hn).trans hc
def Sl (w : World) (v : Value) (xs : List Value) : Prop :=
  ∃ ao cap, v = .slice ao xs.length cap ∧ xs.length ≤ cap ∧ cap ≤ maxLen ∧ (ao = none → cap = 0) ∧
    (xs = [] ∨ ∃ b off, ao = some ⟨b, off, none⟩ ∧ ∀ (i : Nat) (x : Value), xs[i]? = some x → w.cell? ⟨b, off + i, none⟩ = some x)
theorem Sl.nil (w : World) : Sl w (.slice none 0 0) [] := ⟨none, 0, rfl, by simp, by simp, fun _ => rfl, Or.inl rfl⟩
theorem Sl.keep {S : Nat → Prop} {w w' : World} {v : Value} {xs : List Value} (h : Sl w v xs) (hf : Fr S w w') (hn : ∀ k, v.ownBlock = some k → ¬ S k) : Sl w' v xs := by
  obtain ⟨ao, cap, rfl, h1, h2, h3, h4⟩ := h
  refine ⟨ao, cap, rfl, h1, h2, h3, ?_⟩
  rcases h4 with rfl | ⟨b, off, rfl, hc⟩
  · exact Or.inl rfl
  · exact Or.inr ⟨b, off, rfl, fun i x hx => hf.cell (hc i x hx) (hn b rfl)⟩
theorem Fr.over {S T : Nat → Prop} {a b c : World} (h : Fr S a b) (g : Fr T b c) (hT : ∀ k, T k → a.heap.size ≤ k) : Fr S a c :=
  h.trans g (fun k hk t => absurd (hT k t) (by omega))
theorem Fr.cellN {w w' : World} (h : Fr (fun _ => False) w w') {a : Addr} {v : Value} (hc : w.cell? a = some v) : w'.cell? a = some v := h.cell hc (fun f => f)
end Go.Proofs.YteijjaabngkbjaaGreatDoor
namespace Go.Proofs.YteijjaabngkbjaaGreatDoor
set_option linter.unusedSimpArgs false
set_option linter.unusedVariables false
abbrev Str := List UInt8
def SS (l : List Str) : Prop := l.Pairwise (· < ·)
theorem SS.ext : ∀ {a b : List Str}, SS a → SS b → (∀ x, x ∈ a ↔ x ∈ b) → a = b
  | [], [], _, _, _ => rfl
  | [], y :: b, _, _, h => absurd ((h y).2 (by simp)) (by simp)
  | x :: a, [], _, _, h => absurd ((h x).1 (by simp)) (by simp)
  | x :: a, y :: b, ha, hb, h => by
    obtain ⟨ha1, ha2⟩ := List.pairwise_cons.1 ha
    obtain ⟨hb1, hb2⟩ := List.pairwise_cons.1 hb
    have e : x = y := by
      rcases List.mem_cons.1 ((h x).1 (by simp)) with e | hx
      · exact e
      · rcases List.mem_cons.1 ((h y).2 (by simp)) with e | hy
        · exact e.symm
        · exact absurd (Std.lt_trans (ha1 y hy) (hb1 x hx)) Std.lt_irrefl
    subst e
    have ht : a = b := SS.ext ha2 hb2 fun z => by
      constructor
      · intro hz
        rcases List.mem_cons.1 ((h z).1 (by simp [hz])) with e | hz'
        · subst e; exact absurd (ha1 z hz) Std.lt_irrefl
        · exact hz'
      · intro hz
        rcases List.mem_cons.1 ((h z).2 (by simp [hz])) with e | hz'
        · subst e; exact absurd (hb1 z hz) Std.lt_irrefl
        · exact hz'
    rw [ht]
end Go.Proofs.YteijjaabngkbjaaGreatDoor
namespace Go.Proofs.YteijjaabngkbjaaGreatDoor
open Go.RowKit Go.Sort
set_option linter.unusedSimpArgs false
set_option linter.unusedVariables false
def Tl (w : World) (v : Value) (l : List Str) : Prop :=
  ∃ ao cap, v = .slice ao l.length cap ∧ l.length ≤ cap ∧ cap ≤ 9223372036854775807 ∧ (ao = none → cap = 0) ∧
    (l = [] ∨ ∃ b off, ao = some ⟨b, off, none⟩ ∧ ∀ (i : Nat) (x : Str), l[i]? = some x → w.cell? ⟨b, off + i, none⟩ = some (encStr x))
def Tn (w : World) (B : Nat) (v : Value) (l : List Str) : Prop :=
  ∃ ao cap, v = .slice ao l.length cap ∧ l.length ≤ cap ∧ cap ≤ 9223372036854775807 ∧ (ao = none → cap = 0) ∧
    (l = [] ∨ ∃ b off, ao = some ⟨b, off, none⟩ ∧ B ≤ b ∧ b < w.heap.size ∧ Holds encStr w b off l.toArray)
theorem Tn.tl {w : World} {B : Nat} {v : Value} {l : List Str} (h : Tn w B v l) : Tl w v l := by
  obtain ⟨ao, cap, rfl, h1, h2, h3, h4⟩ := h
  refine ⟨ao, cap, rfl, h1, h2, h3, ?_⟩
  rcases h4 with h4 | ⟨b, off, rfl, hB, hb, hH⟩
  · exact Or.inl h4
  · refine Or.inr ⟨b, off, rfl, fun i x hx => ?_⟩
    obtain ⟨hi, e⟩ := List.getElem?_eq_some_iff.1 hx
    have := (hH i (by simpa using hi)).1
    rw [this, getElem!_pos _ i (by simpa using hi)]
    simp [e]
theorem Tl.keep {S : Nat → Prop} {w w' : World} {v : Value} {l : List Str} (h : Tl w v l) (hf : Fr S w w') (hn : ∀ k, v.ownBlock = some k → ¬ S k) : Tl w' v l := by
  obtain ⟨ao, cap, rfl, h1, h2, h3, h4⟩ := h
  refine ⟨ao, cap, rfl, h1, h2, h3, ?_⟩
  rcases h4 with rfl | ⟨b, off, rfl, hc⟩
  · exact Or.inl rfl
  · exact Or.inr ⟨b, off, rfl, fun i x hx => hf.cell (hc i x hx) (hn b rfl)⟩
theorem Tn.keep {S : Nat → Prop} {w w' : World} {B : Nat} {v : Value} {l : List Str} (h : Tn w B v l) (hf : Fr S w w') (hn : ∀ k, v.ownBlock = some k → ¬ S k) : Tn w' B v l := by
  obtain ⟨ao, cap, rfl, h1, h2, h3, h4⟩ := h
  refine ⟨ao, cap, rfl, h1, h2, h3, ?_⟩
  rcases h4 with rfl | ⟨b, off, rfl, hB, hb, hH⟩
  · exact Or.inl rfl
  · refine Or.inr ⟨b, off, rfl, hB, Nat.lt_of_lt_of_le hb hf.size, fun j hj => ?_⟩
    have e := hf.block b hb (hn b rfl)
    rw [World.cell?_of_block (a := ⟨b, off + j, none⟩) e, World.frozen?_of_block (a := ⟨b, off + j, none⟩) e]
    exact hH j hj
theorem Tl.nil (w : World) : Tl w (.slice none 0 0) [] := ⟨none, 0, rfl, by simp, by simp, fun _ => rfl, Or.inl rfl⟩
end Go.Proofs.YteijjaabngkbjaaGreatDoor
namespace Go.Proofs.YteijjaabngkbjaaGreatDoor
open Go.RowKit Go.Sort
set_option linter.unusedSimpArgs false
set_option linter.unusedVariables false
end Go.Proofs.YteijjaabngkbjaaGreatDoor
namespace Go.Proofs.YteijjaabngkbjaaGreatDoor
open Go.RowKit Go.Sort
set_option linter.unusedSimpArgs false
set_option linter.unusedVariables false
theorem str_len (t : List UInt8) : ((⟨t.toArray⟩ : ByteArray).size : Int) = (t.length : Int) := by simp [ByteArray.size]
theorem str_index (l : List UInt8) (k : Nat) (c : UInt8) (h : l[k]? = some c) (w : World) :
    (Instr.index 9 (.string ⟨l.toArray⟩) (.int .i64 (k : Int))).run Tryz.prog w = .ok (.int .u8 (c.toNat : Int)) w := by
  obtain ⟨hk, hc⟩ := List.getElem?_eq_some_iff.1 h
  have hs : k < (⟨l.toArray⟩ : ByteArray).size := by simpa [ByteArray.size] using hk
  rw [run_index_string _ _ _ _ _ Tryz.underlying9, dif_pos ⟨by omega, by omega⟩]
  have e : (⟨l.toArray⟩ : ByteArray)[k]'hs = c := by
    show l.toArray[k] = c
    simpa using hc
  simp only [Int.toNat_natCast]
  rw [e]
theorem drop_at {α : Type} {l : List α} {j : Nat} {c : α} (h : l[j]? = some c) : l.drop j = c :: l.drop (j + 1) := by
  obtain ⟨hj, rfl⟩ := List.getElem?_eq_some_iff.1 h
  exact List.drop_eq_getElem_cons hj
theorem frozen_of_row {w : World} {g : Nat} {cur : Array Value} {e : TypeId} (h : w.heap[g]? = some (.cells cur e (0, 0))) (j : Nat) : w.frozen? ⟨g, j, none⟩ = false := by simp [World.frozen?, h]
def wordsL : List Str := [[98, 111, 111, 108], [99, 97, 116, 99, 104], [99, 111, 110, 115, 116], [101, 108, 115, 101], [101, 120, 112, 111, 114, 116], [102, 97, 105, 108], [102, 97, 108, 115, 101], [102, 108, 111, 97, 116], [102, 110], [105, 102], [105, 109, 112, 111, 114, 116], [105, 110, 102], [105, 110, 112, 117, 116], [105, 110, 116], [108, 101, 116], [109, 111, 100, 117, 108, 101], [110, 97, 110], [114, 101, 116, 117, 114, 110], [115, 104, 111, 119], [116, 114, 117, 101], [116, 114, 121], [118, 97, 114], [119, 104, 105, 108, 101]]
theorem Tn.words (w : World) : Tn (w.alloc (.cells (wordsL.map encStr).toArray 9)) w.heap.size (.slice (some ⟨w.heap.size, 0, none⟩) 23 23) wordsL := by
  refine ⟨_, 23, rfl, by decide, by omega, (fun h => by cases h), Or.inr ⟨w.heap.size, 0, rfl, Nat.le_refl _, by simp, fun j hj => ?_⟩⟩
  have hb := alloc_new w (.cells (wordsL.map encStr).toArray 9)
  have hj' : j < wordsL.length := by simpa using hj
  constructor
  · rw [Nat.zero_add, cell_of_row _ _ _ _ _ _ hb, getElem!_pos _ j hj]
    simp [hj']
  · exact frozen_of_row hb _
set_option maxRecDepth 20000 in
set_option maxHeartbeats 1000000 in
theorem reserved_in (s : Str) (h : s ∈ wordsL) (w : World) :
    Calls Tryz.prog 120 #[.string ⟨s.toArray⟩] w fun e w' => e = .returned (.bool true) ∧ w' = w := by
  simp only [wordsL, List.mem_cons, List.not_mem_nil, or_false] at h
  rcases h with rfl | rfl | rfl | rfl | rfl | rfl | rfl | rfl | rfl | rfl | rfl | rfl | rfl | rfl | rfl | rfl | rfl | rfl | rfl | rfl | rfl | rfl | rfl
  all_goals
    go_enter Tryz.func120, Tryz.ntmps120
    go_wp2
    go_ret
    exact ⟨rfl, rfl⟩
set_option maxRecDepth 20000 in
set_option maxHeartbeats 1000000 in
theorem reserved_out (s : Str) (h : s ∉ wordsL) (w : World) :
    Calls Tryz.prog 120 #[.string ⟨s.toArray⟩] w fun e w' => e = .returned (.bool false) ∧ w' = w := by
  have h0 : (s == [98, 111, 111, 108]) = false := beq_eq_false_iff_ne.2 (fun e => h (e ▸ (by decide)))
  have h1 : (s == [99, 97, 116, 99, 104]) = false := beq_eq_false_iff_ne.2 (fun e => h (e ▸ (by decide)))
  have h2 : (s == [99, 111, 110, 115, 116]) = false := beq_eq_false_iff_ne.2 (fun e => h (e ▸ (by decide)))
  have h3 : (s == [101, 108, 115, 101]) = false := beq_eq_false_iff_ne.2 (fun e => h (e ▸ (by decide)))
  have h4 : (s == [101, 120, 112, 111, 114, 116]) = false := beq_eq_false_iff_ne.2 (fun e => h (e ▸ (by decide)))
  have h5 : (s == [102, 97, 105, 108]) = false := beq_eq_false_iff_ne.2 (fun e => h (e ▸ (by decide)))
  have h6 : (s == [102, 97, 108, 115, 101]) = false := beq_eq_false_iff_ne.2 (fun e => h (e ▸ (by decide)))
  have h7 : (s == [102, 108, 111, 97, 116]) = false := beq_eq_false_iff_ne.2 (fun e => h (e ▸ (by decide)))
  have h8 : (s == [102, 110]) = false := beq_eq_false_iff_ne.2 (fun e => h (e ▸ (by decide)))
  have h9 : (s == [105, 102]) = false := beq_eq_false_iff_ne.2 (fun e => h (e ▸ (by decide)))
  have h10 : (s == [105, 109, 112, 111, 114, 116]) = false := beq_eq_false_iff_ne.2 (fun e => h (e ▸ (by decide)))
  have h11 : (s == [105, 110, 102]) = false := beq_eq_false_iff_ne.2 (fun e => h (e ▸ (by decide)))
  have h12 : (s == [105, 110, 112, 117, 116]) = false := beq_eq_false_iff_ne.2 (fun e => h (e ▸ (by decide)))
  have h13 : (s == [105, 110, 116]) = false := beq_eq_false_iff_ne.2 (fun e => h (e ▸ (by decide)))
  have h14 : (s == [108, 101, 116]) = false := beq_eq_false_iff_ne.2 (fun e => h (e ▸ (by decide)))
  have h15 : (s == [109, 111, 100, 117, 108, 101]) = false := beq_eq_false_iff_ne.2 (fun e => h (e ▸ (by decide)))
  have h16 : (s == [110, 97, 110]) = false := beq_eq_false_iff_ne.2 (fun e => h (e ▸ (by decide)))
  have h17 : (s == [114, 101, 116, 117, 114, 110]) = false := beq_eq_false_iff_ne.2 (fun e => h (e ▸ (by decide)))
  have h18 : (s == [115, 104, 111, 119]) = false := beq_eq_false_iff_ne.2 (fun e => h (e ▸ (by decide)))
  have h19 : (s == [116, 114, 117, 101]) = false := beq_eq_false_iff_ne.2 (fun e => h (e ▸ (by decide)))
  have h20 : (s == [116, 114, 121]) = false := beq_eq_false_iff_ne.2 (fun e => h (e ▸ (by decide)))
  have h21 : (s == [118, 97, 114]) = false := beq_eq_false_iff_ne.2 (fun e => h (e ▸ (by decide)))
  have h22 : (s == [119, 104, 105, 108, 101]) = false := beq_eq_false_iff_ne.2 (fun e => h (e ▸ (by decide)))
  clear h
  go_enter Tryz.func120, Tryz.ntmps120
  go_wp2
  go_ret
  exact ⟨rfl, rfl⟩
theorem reserved_any (s : Str) (r : Bool) (hr : decide (s ∈ wordsL) = r) (w : World) :
    Calls Tryz.prog 120 #[.string ⟨s.toArray⟩] w fun e w' => e = .returned (.bool r) ∧ w' = w := by
  subst hr
  by_cases h : s ∈ wordsL
  · rw [decide_eq_true h]; exact reserved_in s h w
  · rw [decide_eq_false h]; exact reserved_out s h w
end Go.Proofs.YteijjaabngkbjaaGreatDoor
namespace Go.Proofs.YteijjaabngkbjaaGreatDoor
open Go.RowKit Go.Sort
set_option linter.unusedSimpArgs false
set_option linter.unusedVariables false
end Go.Proofs.YteijjaabngkbjaaGreatDoor
namespace Go.Proofs.YteijjaabngkbjaaGreatDoor
open Go.RowKit Te
set_option linter.unusedSimpArgs false
set_option linter.unusedVariables false
abbrev ct (l : List UInt8) : Value := .string ⟨l.toArray⟩
abbrev ci (z : Int) : Value := .int .i64 z
def exC (h : EH) (kv : Value) : List Value := [ci h.kind, ci h.op, ct h.mod, ct h.name, ci h.vt, .int .u64 h.vb, kv]
abbrev exV (h : EH) (kv : Value) : Value := .agg #[ci h.kind, ci h.op, ct h.mod, ct h.name, ci h.vt, .int .u64 h.vb, kv]
def ExA (w : World) : Exs → Nat → Nat → Prop
  | .nil, _, _ => True
  | .cons h k r, b, off => (∃ ao cap, (∀ (j : Nat) (x : Value), (exC h (.slice ao k.len cap))[j]? = some x → w.cell? ⟨b, off + j, none⟩ = some x) ∧ k.len ≤ cap ∧ cap ≤ maxLen ∧
      (k.len = 0 ∨ ∃ b' off', ao = some ⟨b', off', none⟩ ∧ ExA w k b' off')) ∧ ExA w r b (off + 7)
def ExL (w : World) (ao : Option Addr) (cap : Nat) (k : Exs) : Prop :=
  k.len ≤ cap ∧ cap ≤ maxLen ∧ (k.len = 0 ∨ ∃ b off, ao = some ⟨b, off, none⟩ ∧ ExA w k b off)
def stC (h : SH) (ev bv lv : Value) : List Value := [ci h.kind, ct h.name, ev, bv, lv]
def StA (w : World) : Sts → Nat → Nat → Prop
  | .nil, _, _ => True
  | .cons h e bo el r, b, off => (∃ ao1 cap1 ao2 cap2 ao3 cap3, (∀ (j : Nat) (x : Value), (stC h (.slice ao1 e.len cap1) (.slice ao2 bo.len cap2) (.slice ao3 el.len cap3))[j]? = some x → w.cell? ⟨b, off + j, none⟩ = some x) ∧
      ExL w ao1 cap1 e ∧ (bo.len ≤ cap2 ∧ cap2 ≤ maxLen ∧ (bo.len = 0 ∨ ∃ b' off', ao2 = some ⟨b', off', none⟩ ∧ StA w bo b' off')) ∧
      (el.len ≤ cap3 ∧ cap3 ≤ maxLen ∧ (el.len = 0 ∨ ∃ b' off', ao3 = some ⟨b', off', none⟩ ∧ StA w el b' off'))) ∧ StA w r b (off + 5)
def StL (w : World) (ao : Option Addr) (cap : Nat) (k : Sts) : Prop :=
  k.len ≤ cap ∧ cap ≤ maxLen ∧ (k.len = 0 ∨ ∃ b off, ao = some ⟨b, off, none⟩ ∧ StA w k b off)
def paC (p : Pa) : List Value := [ct p.name, ci p.type]
def PaL (w : World) (ao : Option Addr) (cap : Nat) (l : List Pa) : Prop :=
  l.length ≤ cap ∧ cap ≤ maxLen ∧ (l = [] ∨ ∃ b off, ao = some ⟨b, off, none⟩ ∧ ∀ (i : Nat) (p : Pa), l[i]? = some p → ∀ (j : Nat) (x : Value), (paC p)[j]? = some x → w.cell? ⟨b, off + i * 2 + j, none⟩ = some x)
def DeI (w : World) (d : De) (pv ev bv : Value) : Prop :=
  ∃ ao1 cap1 ao2 cap2 ao3 cap3, pv = .slice ao1 d.params.length cap1 ∧ ev = .slice ao2 d.e.len cap2 ∧ bv = .slice ao3 d.body.len cap3 ∧ PaL w ao1 cap1 d.params ∧ ExL w ao2 cap2 d.e ∧ StL w ao3 cap3 d.body
def deC (d : De) (pv ev bv : Value) : List Value := [ci d.kind, .bool d.ex, ct d.name, ci d.type, pv, ev, bv]
def DeL (w : World) (ao : Option Addr) (cap : Nat) (l : List De) : Prop :=
  l.length ≤ cap ∧ cap ≤ maxLen ∧ (l = [] ∨ ∃ b off, ao = some ⟨b, off, none⟩ ∧ ∀ (i : Nat) (d : De), l[i]? = some d → ∃ pv ev bv, DeI w d pv ev bv ∧ ∀ (j : Nat) (x : Value), (deC d pv ev bv)[j]? = some x → w.cell? ⟨b, off + i * 7 + j, none⟩ = some x)
def SvL (w : World) (ao : Option Addr) (cap : Nat) (l : List Bs) : Prop :=
  l.length ≤ cap ∧ cap ≤ maxLen ∧ (l = [] ∨ ∃ b off, ao = some ⟨b, off, none⟩ ∧ ∀ (i : Nat) (x : Bs), l[i]? = some x → w.cell? ⟨b, off + i, none⟩ = some (ct x))
abbrev moV (m : Mo) (ao : Option Addr) (cap : Nat) (ao' : Option Addr) (cap' : Nat) : Value := .agg #[ct m.name, .slice ao m.imports.length cap, .slice ao' m.decls.length cap']
def MoI (w : World) (m : Mo) (v : Value) : Prop := ∃ ao cap ao' cap', v = moV m ao cap ao' cap' ∧ SvL w ao cap m.imports ∧ DeL w ao' cap' m.decls
def ExI (w : World) (h : EH) (k : Exs) (v : Value) : Prop := ∃ ao cap, v = exV h (.slice ao k.len cap) ∧ ExL w ao cap k
theorem ExA.keep {w w' : World} (hf : Fr (fun _ => False) w w') : ∀ (k : Exs) (b off : Nat), ExA w k b off → ExA w' k b off
  | .nil, _, _, _ => trivial
  | .cons h k r, b, off, ⟨⟨ao, cap, h1, h2, h3, h4⟩, h5⟩ => by
    refine ⟨⟨ao, cap, fun j x hx => hf.cellN (h1 j x hx), h2, h3, ?_⟩, ExA.keep hf r b _ h5⟩
    rcases h4 with h4 | ⟨b', off', rfl, h4⟩
    · exact Or.inl h4
    · exact Or.inr ⟨b', off', rfl, ExA.keep hf k b' off' h4⟩
theorem ExL.keep {w w' : World} {ao : Option Addr} {cap : Nat} {k : Exs} (h : ExL w ao cap k) (hf : Fr (fun _ => False) w w') : ExL w' ao cap k := by
  obtain ⟨h1, h2, h3⟩ := h
  refine ⟨h1, h2, ?_⟩
  rcases h3 with h3 | ⟨b, off, rfl, h3⟩
  · exact Or.inl h3
  · exact Or.inr ⟨b, off, rfl, ExA.keep hf k b off h3⟩
theorem StA.keep {w w' : World} (hf : Fr (fun _ => False) w w') : ∀ (k : Sts) (b off : Nat), StA w k b off → StA w' k b off
  | .nil, _, _, _ => trivial
  | .cons h e bo el r, b, off, ⟨⟨ao1, cap1, ao2, cap2, ao3, cap3, h1, h2, ⟨h3, h4, h5⟩, ⟨h6, h7, h8⟩⟩, h9⟩ => by
    refine ⟨⟨ao1, cap1, ao2, cap2, ao3, cap3, fun j x hx => hf.cellN (h1 j x hx), h2.keep hf, ⟨h3, h4, ?_⟩, ⟨h6, h7, ?_⟩⟩, StA.keep hf r b _ h9⟩
    · rcases h5 with h5 | ⟨b', off', rfl, h5⟩
      · exact Or.inl h5
      · exact Or.inr ⟨b', off', rfl, StA.keep hf bo b' off' h5⟩
    · rcases h8 with h8 | ⟨b', off', rfl, h8⟩
      · exact Or.inl h8
      · exact Or.inr ⟨b', off', rfl, StA.keep hf el b' off' h8⟩
theorem StL.keep {w w' : World} {ao : Option Addr} {cap : Nat} {k : Sts} (h : StL w ao cap k) (hf : Fr (fun _ => False) w w') : StL w' ao cap k := by
  obtain ⟨h1, h2, h3⟩ := h
  refine ⟨h1, h2, ?_⟩
  rcases h3 with h3 | ⟨b, off, rfl, h3⟩
  · exact Or.inl h3
  · exact Or.inr ⟨b, off, rfl, StA.keep hf k b off h3⟩
theorem PaL.keep {w w' : World} {ao : Option Addr} {cap : Nat} {l : List Pa} (h : PaL w ao cap l) (hf : Fr (fun _ => False) w w') : PaL w' ao cap l := by
  obtain ⟨h1, h2, h3⟩ := h
  refine ⟨h1, h2, ?_⟩
  rcases h3 with h3 | ⟨b, off, rfl, h3⟩
  · exact Or.inl h3
  · exact Or.inr ⟨b, off, rfl, fun i p hp j x hx => hf.cellN (h3 i p hp j x hx)⟩
theorem DeI.keep {w w' : World} {d : De} {pv ev bv : Value} (h : DeI w d pv ev bv) (hf : Fr (fun _ => False) w w') : DeI w' d pv ev bv := by
  obtain ⟨ao1, cap1, ao2, cap2, ao3, cap3, h1, h2, h3, h4, h5, h6⟩ := h
  exact ⟨ao1, cap1, ao2, cap2, ao3, cap3, h1, h2, h3, h4.keep hf, h5.keep hf, h6.keep hf⟩
theorem DeL.keep {w w' : World} {ao : Option Addr} {cap : Nat} {l : List De} (h : DeL w ao cap l) (hf : Fr (fun _ => False) w w') : DeL w' ao cap l := by
  obtain ⟨h1, h2, h3⟩ := h
  refine ⟨h1, h2, ?_⟩
  rcases h3 with h3 | ⟨b, off, rfl, h3⟩
  · exact Or.inl h3
  · refine Or.inr ⟨b, off, rfl, fun i d hd => ?_⟩
    obtain ⟨pv, ev, bv, hi, hc⟩ := h3 i d hd
    exact ⟨pv, ev, bv, hi.keep hf, fun j x hx => hf.cellN (hc j x hx)⟩
theorem SvL.keep {w w' : World} {ao : Option Addr} {cap : Nat} {l : List Bs} (h : SvL w ao cap l) (hf : Fr (fun _ => False) w w') : SvL w' ao cap l := by
  obtain ⟨h1, h2, h3⟩ := h
  refine ⟨h1, h2, ?_⟩
  rcases h3 with h3 | ⟨b, off, rfl, h3⟩
  · exact Or.inl h3
  · exact Or.inr ⟨b, off, rfl, fun i x hx => hf.cellN (h3 i x hx)⟩
theorem MoI.keep {w w' : World} {m : Mo} {v : Value} (h : MoI w m v) (hf : Fr (fun _ => False) w w') : MoI w' m v := by
  obtain ⟨ao, cap, ao', cap', h1, h2, h3⟩ := h
  exact ⟨ao, cap, ao', cap', h1, h2.keep hf, h3.keep hf⟩
theorem ExI.keep {w w' : World} {h : EH} {k : Exs} {v : Value} (hh : ExI w h k v) (hf : Fr (fun _ => False) w w') : ExI w' h k v := by
  obtain ⟨ao, cap, h1, h2⟩ := hh
  exact ⟨ao, cap, h1, h2.keep hf⟩
def I64 (z : Int) : Prop := -9223372036854775808 ≤ z ∧ z ≤ 9223372036854775807
def OkN (l : Bs) : Prop := l.length ≤ 9223372036854775807
structure OkE (h : EH) : Prop where
  kind : I64 h.kind
  op : I64 h.op
  vt : I64 h.vt
  vb0 : 0 ≤ h.vb
  vb1 : h.vb < 18446744073709551616
  mod : OkN h.mod
  name : OkN h.name
def OkX : Exs → Prop
  | .nil => True
  | .cons h k r => OkE h ∧ OkX k ∧ OkX r
def OkS : Sts → Prop
  | .nil => True
  | .cons h e b l r => I64 h.kind ∧ OkN h.name ∧ OkX e ∧ OkS b ∧ OkS l ∧ OkS r
structure OkD (d : De) : Prop where
  kind : I64 d.kind
  type : I64 d.type
  name : OkN d.name
  params : ∀ p ∈ d.params, OkN p.name ∧ I64 p.type
  e : OkX d.e
  body : OkS d.body
structure OkM (m : Mo) : Prop where
  name : OkN m.name
  imports : ∀ x ∈ m.imports, OkN x
  decls : ∀ d ∈ m.decls, OkD d
end Go.Proofs.YteijjaabngkbjaaGreatDoor
namespace Go.Proofs.YteijjaabngkbjaaGreatDoor
open Go.RowKit Te
set_option linter.unusedSimpArgs false
set_option linter.unusedVariables false
theorem ex_row {w : World} {h : EH} {k r : Exs} {b off : Nat} (hA : ExA w (.cons h k r) b off) :
    ∃ ao cap, ExL w ao cap k ∧ ExA w r b (off + 7) ∧ w.cell? ⟨b, off, none⟩ = some (ci h.kind) ∧ w.cell? ⟨b, off + 1, none⟩ = some (ci h.op) ∧ w.cell? ⟨b, off + 2, none⟩ = some (ct h.mod) ∧ w.cell? ⟨b, off + 3, none⟩ = some (ct h.name) ∧
      w.cell? ⟨b, off + 4, none⟩ = some (ci h.vt) ∧ w.cell? ⟨b, off + 5, none⟩ = some (.int .u64 h.vb) ∧ w.cell? ⟨b, off + 6, none⟩ = some (.slice ao k.len cap) := by
  obtain ⟨⟨ao, cap, h1, h2, h3, h4⟩, h5⟩ := hA
  exact ⟨ao, cap, ⟨h2, h3, h4⟩, h5, h1 0 _ rfl, h1 1 _ rfl, h1 2 _ rfl, h1 3 _ rfl, h1 4 _ rfl, h1 5 _ rfl, h1 6 _ rfl⟩
theorem st_row {w : World} {h : SH} {e : Exs} {bo el r : Sts} {b off : Nat} (hA : StA w (.cons h e bo el r) b off) :
    ∃ ao1 cap1 ao2 cap2 ao3 cap3, ExL w ao1 cap1 e ∧ StL w ao2 cap2 bo ∧ StL w ao3 cap3 el ∧ StA w r b (off + 5) ∧ w.cell? ⟨b, off, none⟩ = some (ci h.kind) ∧ w.cell? ⟨b, off + 1, none⟩ = some (ct h.name) ∧ w.cell? ⟨b, off + 2, none⟩ = some (.slice ao1 e.len cap1) ∧
      w.cell? ⟨b, off + 3, none⟩ = some (.slice ao2 bo.len cap2) ∧ w.cell? ⟨b, off + 4, none⟩ = some (.slice ao3 el.len cap3) := by
  obtain ⟨⟨ao1, cap1, ao2, cap2, ao3, cap3, h1, h2, h3, h4⟩, h5⟩ := hA
  exact ⟨ao1, cap1, ao2, cap2, ao3, cap3, h2, h3, h4, h5, h1 0 _ rfl, h1 1 _ rfl, h1 2 _ rfl, h1 3 _ rfl, h1 4 _ rfl⟩
def ExR (w : World) (ao : Option Addr) (i : Nat) (r : Exs) : Prop := r.len = 0 ∨ ∃ b off, ao = some ⟨b, off, none⟩ ∧ ExA w r b (off + i * 7)
def StR (w : World) (ao : Option Addr) (i : Nat) (r : Sts) : Prop := r.len = 0 ∨ ∃ b off, ao = some ⟨b, off, none⟩ ∧ StA w r b (off + i * 5)
theorem ExL.rest {w : World} {ao : Option Addr} {cap : Nat} {k : Exs} (h : ExL w ao cap k) : ExR w ao 0 k := by
  rcases h.2.2 with h | ⟨b, off, h1, h2⟩
  · exact Or.inl h
  · exact Or.inr ⟨b, off, h1, by simpa using h2⟩
theorem StL.rest {w : World} {ao : Option Addr} {cap : Nat} {k : Sts} (h : StL w ao cap k) : StR w ao 0 k := by
  rcases h.2.2 with h | ⟨b, off, h1, h2⟩
  · exact Or.inl h
  · exact Or.inr ⟨b, off, h1, by simpa using h2⟩
theorem ExR.next {w : World} {ao : Option Addr} {i : Nat} {h : EH} {k r : Exs} (hR : ExR w ao i (.cons h k r)) :
    ∃ b off ao' cap', ao = some ⟨b, off, none⟩ ∧ ExL w ao' cap' k ∧ ExR w ao (i + 1) r ∧ w.cell? ⟨b, off + i * 7, none⟩ = some (ci h.kind) ∧ w.cell? ⟨b, off + i * 7 + 1, none⟩ = some (ci h.op) ∧ w.cell? ⟨b, off + i * 7 + 2, none⟩ = some (ct h.mod) ∧ w.cell? ⟨b, off + i * 7 + 3, none⟩ = some (ct h.name) ∧
      w.cell? ⟨b, off + i * 7 + 4, none⟩ = some (ci h.vt) ∧ w.cell? ⟨b, off + i * 7 + 5, none⟩ = some (.int .u64 h.vb) ∧ w.cell? ⟨b, off + i * 7 + 6, none⟩ = some (.slice ao' k.len cap') := by
  rcases hR with h | ⟨b, off, h1, h2⟩
  · simp [Exs.len] at h
  · obtain ⟨ao', cap', h3, h4, h5⟩ := ex_row h2
    exact ⟨b, off, ao', cap', h1, h3, Or.inr ⟨b, off, h1, by rw [show off + (i + 1) * 7 = off + i * 7 + 7 by omega]; exact h4⟩, h5⟩
theorem StR.next {w : World} {ao : Option Addr} {i : Nat} {h : SH} {e : Exs} {bo el r : Sts} (hR : StR w ao i (.cons h e bo el r)) :
    ∃ b off ao1 cap1 ao2 cap2 ao3 cap3, ao = some ⟨b, off, none⟩ ∧ ExL w ao1 cap1 e ∧ StL w ao2 cap2 bo ∧ StL w ao3 cap3 el ∧ StR w ao (i + 1) r ∧ w.cell? ⟨b, off + i * 5, none⟩ = some (ci h.kind) ∧ w.cell? ⟨b, off + i * 5 + 1, none⟩ = some (ct h.name) ∧ w.cell? ⟨b, off + i * 5 + 2, none⟩ = some (.slice ao1 e.len cap1) ∧
      w.cell? ⟨b, off + i * 5 + 3, none⟩ = some (.slice ao2 bo.len cap2) ∧ w.cell? ⟨b, off + i * 5 + 4, none⟩ = some (.slice ao3 el.len cap3) := by
  rcases hR with h | ⟨b, off, h1, h2⟩
  · simp [Sts.len] at h
  · obtain ⟨ao1, cap1, ao2, cap2, ao3, cap3, h3, h4, h5, h6, h7⟩ := st_row h2
    exact ⟨b, off, ao1, cap1, ao2, cap2, ao3, cap3, h1, h3, h4, h5, Or.inr ⟨b, off, h1, by rw [show off + (i + 1) * 5 = off + i * 5 + 5 by omega]; exact h6⟩, h7⟩
end Go.Proofs.YteijjaabngkbjaaGreatDoor
namespace Go.Proofs.YteijjaabngkbjaaGreatDoor.N
open Go.RowKit
set_option linter.unusedSimpArgs false
set_option linter.unusedVariables false
def Hidden (p : Prop) : Prop := p
theorem alloc_old (w : World) (o : Obj) (k : Nat) (h : k < w.heap.size) : (w.alloc o).heap[k]? = w.heap[k]? := by
  show (w.heap.push o)[k]? = _
  rw [Array.getElem?_push_lt h]
  exact (Array.getElem?_eq_getElem h).symm
theorem alloc_new (w : World) (o : Obj) : (w.alloc o).heap[w.heap.size]? = some o := by
  show (w.heap.push o)[w.heap.size]? = _
  simp
structure Fr (S : Nat → Prop) (w w' : World) : Prop where
  os : w'.os = w.os
  output : w'.output = w.output
  size : w.heap.size ≤ w'.heap.size
  block : ∀ k, k < w.heap.size → ¬ S k → w'.heap[k]? = w.heap[k]?
theorem Fr.refl (S : Nat → Prop) (w : World) : Fr S w w := ⟨rfl, rfl, Nat.le_refl _, fun _ _ _ => rfl⟩
theorem Fr.trans {S T : Nat → Prop} {a b c : World} (h : Fr S a b) (g : Fr T b c) (hT : ∀ k, k < a.heap.size → T k → S k) : Fr S a c :=
  ⟨g.os.trans h.os, g.output.trans h.output, Nat.le_trans h.size g.size, fun k hk hn =>
    (g.block k (Nat.lt_of_lt_of_le hk h.size) (fun t => hn (hT k hk t))).trans (h.block k hk hn)⟩
theorem Fr.mono {S T : Nat → Prop} {a b : World} (h : Fr S a b) (hT : ∀ k, k < a.heap.size → S k → T k) : Fr T a b :=
  ⟨h.os, h.output, h.size, fun k hk hn => h.block k hk (fun t => hn (hT k hk t))⟩
theorem Fr.alloc (S : Nat → Prop) (w : World) (o : Obj) : Fr S w (w.alloc o) := ⟨rfl, rfl, by simp, fun k hk _ => alloc_old w o k hk⟩
theorem Fr.kept {w w' : World} (h : Fr (fun _ => False) w w') : w.keptBut w' (fun _ => False) :=
  ⟨h.os, h.output, fun i hi => by
    rw [h.block i hi (fun f => f)]
    cases w.heap[i]? with
    | none => rfl
    | some o => cases o <;> simp⟩
theorem Fr.cell {S : Nat → Prop} {w w' : World} (h : Fr S w w') {a : Addr} {v : Value} (hc : w.cell? a = some v) (hn : ¬ S a.block) : w'.cell? a = some v :=
  (World.cell?_of_block (h.block a.block (World.block_lt_of_cell? w a hc) hn)).trans hc
theorem lt_of_heap {w : World} {k : Nat} {o : Obj} (h : w.heap[k]? = some o) : k < w.heap.size := (Array.getElem?_eq_some_iff.1 h).1
theorem Fr.heap {S : Nat → Prop} {w w' : World} (h : Fr S w w') {k : Nat} {o : Obj} (hc : w.heap[k]? = some o) (hn : ¬ S k) : w'.heap[k]? = some o :=
  (h.block k (lt_of_heap hc) hn).trans hc
def Sl (w : World) (v : Value) (xs : List Value) : Prop :=
  ∃ ao cap, v = .slice ao xs.length cap ∧ xs.length ≤ cap ∧ cap ≤ maxLen ∧ (ao = none → cap = 0) ∧
    (xs = [] ∨ ∃ b off, ao = some ⟨b, off, none⟩ ∧ ∀ (i : Nat) (x : Value), xs[i]? = some x → w.cell? ⟨b, off + i, none⟩ = some x)
theorem Sl.nil (w : World) : Sl w (.slice none 0 0) [] := ⟨none, 0, rfl, by simp, by simp, fun _ => rfl, Or.inl rfl⟩
end Go.Proofs.YteijjaabngkbjaaGreatDoor.N
namespace Go.Proofs.YteijjaabngkbjaaGreatDoor.N
set_option linter.unusedSimpArgs false
set_option linter.unusedVariables false
abbrev Str := List UInt8
end Go.Proofs.YteijjaabngkbjaaGreatDoor.N
namespace Go.Proofs.YteijjaabngkbjaaGreatDoor.N
open Go.RowKit Go.Sort
set_option linter.unusedSimpArgs false
set_option linter.unusedVariables false
def Tl (w : World) (v : Value) (l : List Str) : Prop :=
  ∃ ao cap, v = .slice ao l.length cap ∧ l.length ≤ cap ∧ cap ≤ 9223372036854775807 ∧ (ao = none → cap = 0) ∧
    (l = [] ∨ ∃ b off, ao = some ⟨b, off, none⟩ ∧ ∀ (i : Nat) (x : Str), l[i]? = some x → w.cell? ⟨b, off + i, none⟩ = some (encStr x))
def Tn (w : World) (B : Nat) (v : Value) (l : List Str) : Prop :=
  ∃ ao cap, v = .slice ao l.length cap ∧ l.length ≤ cap ∧ cap ≤ 9223372036854775807 ∧ (ao = none → cap = 0) ∧
    (l = [] ∨ ∃ b off, ao = some ⟨b, off, none⟩ ∧ B ≤ b ∧ b < w.heap.size ∧ Holds encStr w b off l.toArray)
theorem Tn.tl {w : World} {B : Nat} {v : Value} {l : List Str} (h : Tn w B v l) : Tl w v l := by
  obtain ⟨ao, cap, rfl, h1, h2, h3, h4⟩ := h
  refine ⟨ao, cap, rfl, h1, h2, h3, ?_⟩
  rcases h4 with h4 | ⟨b, off, rfl, hB, hb, hH⟩
  · exact Or.inl h4
  · refine Or.inr ⟨b, off, rfl, fun i x hx => ?_⟩
    obtain ⟨hi, e⟩ := List.getElem?_eq_some_iff.1 hx
    have := (hH i (by simpa using hi)).1
    rw [this, getElem!_pos _ i (by simpa using hi)]
    simp [e]
theorem Tl.nil (w : World) : Tl w (.slice none 0 0) [] := ⟨none, 0, rfl, by simp, by simp, fun _ => rfl, Or.inl rfl⟩
end Go.Proofs.YteijjaabngkbjaaGreatDoor.N
namespace Go.Proofs.YteijjaabngkbjaaGreatDoor.N
open Go.RowKit Go.Sort
set_option linter.unusedSimpArgs false
set_option linter.unusedVariables false
def letB (n : Nat) : Bool := (decide (97 ≤ n) && decide (n ≤ 122)) || (decide (65 ≤ n) && decide (n ≤ 90)) || n == 95
def digB (n : Nat) : Bool := decide (48 ≤ n) && decide (n ≤ 57)
theorem ret_bool {a b : Bool} (h : a = true ↔ b = true) : Ending.returned (.bool a) = .returned (.bool b) := by rw [Bool.eq_iff_iff.2 h]
end Go.Proofs.YteijjaabngkbjaaGreatDoor.N
namespace Go.Proofs.YteijjaabngkbjaaGreatDoor.N
open Go.RowKit Go.Sort
set_option linter.unusedSimpArgs false
set_option linter.unusedVariables false
theorem str_len (t : List UInt8) : ((⟨t.toArray⟩ : ByteArray).size : Int) = (t.length : Int) := by simp [ByteArray.size]
theorem str_index (l : List UInt8) (k : Nat) (c : UInt8) (h : l[k]? = some c) (w : World) :
    (Instr.index 9 (.string ⟨l.toArray⟩) (.int .i64 (k : Int))).run Tryz.prog w = .ok (.int .u8 (c.toNat : Int)) w := by
  obtain ⟨hk, hc⟩ := List.getElem?_eq_some_iff.1 h
  have hs : k < (⟨l.toArray⟩ : ByteArray).size := by simpa [ByteArray.size] using hk
  rw [run_index_string _ _ _ _ _ Tryz.underlying9, dif_pos ⟨by omega, by omega⟩]
  have e : (⟨l.toArray⟩ : ByteArray)[k]'hs = c := by
    show l.toArray[k] = c
    simpa using hc
  simp only [Int.toNat_natCast]
  rw [e]
theorem drop_at {α : Type} {l : List α} {j : Nat} {c : α} (h : l[j]? = some c) : l.drop j = c :: l.drop (j + 1) := by
  obtain ⟨hj, rfl⟩ := List.getElem?_eq_some_iff.1 h
  exact List.drop_eq_getElem_cons hj
theorem frozen_of_row {w : World} {g : Nat} {cur : Array Value} {e : TypeId} (h : w.heap[g]? = some (.cells cur e (0, 0))) (j : Nat) : w.frozen? ⟨g, j, none⟩ = false := by simp [World.frozen?, h]
def wordsL : List Str := [[98, 111, 111, 108], [99, 97, 116, 99, 104], [99, 111, 110, 115, 116], [101, 108, 115, 101], [101, 120, 112, 111, 114, 116], [102, 97, 105, 108], [102, 97, 108, 115, 101], [102, 108, 111, 97, 116], [102, 110], [105, 102], [105, 109, 112, 111, 114, 116], [105, 110, 102], [105, 110, 112, 117, 116], [105, 110, 116], [108, 101, 116], [109, 111, 100, 117, 108, 101], [110, 97, 110], [114, 101, 116, 117, 114, 110], [115, 104, 111, 119], [116, 114, 117, 101], [116, 114, 121], [118, 97, 114], [119, 104, 105, 108, 101]]
theorem Tn.words (w : World) : Tn (w.alloc (.cells (wordsL.map encStr).toArray 9)) w.heap.size (.slice (some ⟨w.heap.size, 0, none⟩) 23 23) wordsL := by
  refine ⟨_, 23, rfl, by decide, by omega, (fun h => by cases h), Or.inr ⟨w.heap.size, 0, rfl, Nat.le_refl _, by simp, fun j hj => ?_⟩⟩
  have hb := alloc_new w (.cells (wordsL.map encStr).toArray 9)
  have hj' : j < wordsL.length := by simpa using hj
  constructor
  · rw [Nat.zero_add, cell_of_row _ _ _ _ _ _ hb, getElem!_pos _ j hj]
    simp [hj']
  · exact frozen_of_row hb _
def okAt (i : Nat) (c : UInt8) : Bool := letB c.toNat || (i != 0 && digB c.toNat)
def speltGo : List UInt8 → Nat → Bool
  | [], _ => true
  | c :: r, i => okAt i c && speltGo r (i + 1)
def speltS (s : Str) : Bool := speltGo s 0 && !s.isEmpty
set_option maxRecDepth 20000 in
set_option maxHeartbeats 1000000 in
theorem reserved_in (s : Str) (h : s ∈ wordsL) (w : World) :
    Calls Tryz.prog 120 #[.string ⟨s.toArray⟩] w fun e w' => e = .returned (.bool true) ∧ w' = w := by
  simp only [wordsL, List.mem_cons, List.not_mem_nil, or_false] at h
  rcases h with rfl | rfl | rfl | rfl | rfl | rfl | rfl | rfl | rfl | rfl | rfl | rfl | rfl | rfl | rfl | rfl | rfl | rfl | rfl | rfl | rfl | rfl | rfl
  all_goals
    go_enter Tryz.func120, Tryz.ntmps120
    go_wp2
    go_ret
    exact ⟨rfl, rfl⟩
set_option maxRecDepth 20000 in
set_option maxHeartbeats 1000000 in
theorem reserved_out (s : Str) (h : s ∉ wordsL) (w : World) :
    Calls Tryz.prog 120 #[.string ⟨s.toArray⟩] w fun e w' => e = .returned (.bool false) ∧ w' = w := by
  have h0 : (s == [98, 111, 111, 108]) = false := beq_eq_false_iff_ne.2 (fun e => h (e ▸ (by decide)))
  have h1 : (s == [99, 97, 116, 99, 104]) = false := beq_eq_false_iff_ne.2 (fun e => h (e ▸ (by decide)))
  have h2 : (s == [99, 111, 110, 115, 116]) = false := beq_eq_false_iff_ne.2 (fun e => h (e ▸ (by decide)))
  have h3 : (s == [101, 108, 115, 101]) = false := beq_eq_false_iff_ne.2 (fun e => h (e ▸ (by decide)))
  have h4 : (s == [101, 120, 112, 111, 114, 116]) = false := beq_eq_false_iff_ne.2 (fun e => h (e ▸ (by decide)))
  have h5 : (s == [102, 97, 105, 108]) = false := beq_eq_false_iff_ne.2 (fun e => h (e ▸ (by decide)))
  have h6 : (s == [102, 97, 108, 115, 101]) = false := beq_eq_false_iff_ne.2 (fun e => h (e ▸ (by decide)))
  have h7 : (s == [102, 108, 111, 97, 116]) = false := beq_eq_false_iff_ne.2 (fun e => h (e ▸ (by decide)))
  have h8 : (s == [102, 110]) = false := beq_eq_false_iff_ne.2 (fun e => h (e ▸ (by decide)))
  have h9 : (s == [105, 102]) = false := beq_eq_false_iff_ne.2 (fun e => h (e ▸ (by decide)))
  have h10 : (s == [105, 109, 112, 111, 114, 116]) = false := beq_eq_false_iff_ne.2 (fun e => h (e ▸ (by decide)))
  have h11 : (s == [105, 110, 102]) = false := beq_eq_false_iff_ne.2 (fun e => h (e ▸ (by decide)))
  have h12 : (s == [105, 110, 112, 117, 116]) = false := beq_eq_false_iff_ne.2 (fun e => h (e ▸ (by decide)))
  have h13 : (s == [105, 110, 116]) = false := beq_eq_false_iff_ne.2 (fun e => h (e ▸ (by decide)))
  have h14 : (s == [108, 101, 116]) = false := beq_eq_false_iff_ne.2 (fun e => h (e ▸ (by decide)))
  have h15 : (s == [109, 111, 100, 117, 108, 101]) = false := beq_eq_false_iff_ne.2 (fun e => h (e ▸ (by decide)))
  have h16 : (s == [110, 97, 110]) = false := beq_eq_false_iff_ne.2 (fun e => h (e ▸ (by decide)))
  have h17 : (s == [114, 101, 116, 117, 114, 110]) = false := beq_eq_false_iff_ne.2 (fun e => h (e ▸ (by decide)))
  have h18 : (s == [115, 104, 111, 119]) = false := beq_eq_false_iff_ne.2 (fun e => h (e ▸ (by decide)))
  have h19 : (s == [116, 114, 117, 101]) = false := beq_eq_false_iff_ne.2 (fun e => h (e ▸ (by decide)))
  have h20 : (s == [116, 114, 121]) = false := beq_eq_false_iff_ne.2 (fun e => h (e ▸ (by decide)))
  have h21 : (s == [118, 97, 114]) = false := beq_eq_false_iff_ne.2 (fun e => h (e ▸ (by decide)))
  have h22 : (s == [119, 104, 105, 108, 101]) = false := beq_eq_false_iff_ne.2 (fun e => h (e ▸ (by decide)))
  clear h
  go_enter Tryz.func120, Tryz.ntmps120
  go_wp2
  go_ret
  exact ⟨rfl, rfl⟩
theorem reserved_any (s : Str) (r : Bool) (hr : decide (s ∈ wordsL) = r) (w : World) :
    Calls Tryz.prog 120 #[.string ⟨s.toArray⟩] w fun e w' => e = .returned (.bool r) ∧ w' = w := by
  subst hr
  by_cases h : s ∈ wordsL
  · rw [decide_eq_true h]; exact reserved_in s h w
  · rw [decide_eq_false h]; exact reserved_out s h w
end Go.Proofs.YteijjaabngkbjaaGreatDoor.N
namespace Go.Proofs.YteijjaabngkbjaaGreatDoor.N
open Go.RowKit Go.Sort
set_option linter.unusedSimpArgs false
set_option linter.unusedVariables false
def rightS (s : Str) : Int := if speltS s = true then (if 32 < s.length then 3 else if s ∈ wordsL then 12 else 0) else 12
end Go.Proofs.YteijjaabngkbjaaGreatDoor.N
namespace Go.Proofs.YteijjaabngkbjaaGreatDoor.N
open Go.RowKit Go.Sort
set_option linter.unusedSimpArgs false
set_option linter.unusedVariables false
def ld (c : UInt8) : Bool := letB c.toNat || digB c.toNat
theorem speltGo_all : ∀ (r : Str) (i : Nat), speltGo r (i + 1) = r.all ld
  | [], _ => rfl
  | c :: r, i => by
    rw [speltGo, speltGo_all r (i + 1), List.all_cons]
    rfl
theorem spelt_cons (s : Str) (c : UInt8) (h : s[0]? = some c) : speltS s = (letB c.toNat && s.all ld) := by
  cases s with
  | nil => simp at h
  | cons d r =>
    have : d = c := by simpa using h
    subst this
    show (speltGo (d :: r) 0 && !(d :: r).isEmpty) = _
    rw [speltGo, speltGo_all, List.all_cons]
    show ((letB d.toNat || (0 != 0 && digB d.toNat)) && r.all ld && true) = (letB d.toNat && ((letB d.toNat || digB d.toNat) && r.all ld))
    cases letB d.toNat <;> simp
end Go.Proofs.YteijjaabngkbjaaGreatDoor.N
namespace Go.Proofs.YteijjaabngkbjaaGreatDoor.N
open Go.RowKit Go.Sort
set_option linter.unusedSimpArgs false
set_option linter.unusedVariables false
end Go.Proofs.YteijjaabngkbjaaGreatDoor.N
namespace Go.Proofs
open Go.Shelf
def Tryz.lays134_ren : Go.Shelf.Ren := ⟨fun | 134 => 236 | 129 => 247 | n => n, fun | 53 => 38 | 3 => 3 | 4 => 4 | 46 => 220 | 5 => 5 | 9 => 9 | n => n, fun | n => n⟩
theorem Tryz.lays134 : Go.Proofs.Lays.n134 Tryz.prog Tryz.lays134_ren := {
  mixed := by kernel_rfl
  f129 := Tryz.func247.trans (congrArg some (by kernel_rfl))
  f134 := Tryz.func236.trans (congrArg some (by kernel_rfl))
  t3 := Tryz.underlying3
  a3 := Tryz.isAgg3
  z3 := Tryz.sizeOf3
  v3 := Tryz.zeroValue3
  t4 := Tryz.underlying4
  a4 := Tryz.isAgg4
  z4 := Tryz.sizeOf4
  v4 := Tryz.zeroValue4
  t5 := Tryz.underlying5
  a5 := Tryz.isAgg5
  z5 := Tryz.sizeOf5
  v5 := Tryz.zeroValue5
  t9 := Tryz.underlying9
  a9 := Tryz.isAgg9
  z9 := Tryz.sizeOf9
  v9 := Tryz.zeroValue9
  t46 := Tryz.underlying220
  a46 := Tryz.isAgg220
  z46 := Tryz.sizeOf220
  v46 := Tryz.zeroValue220
  t53 := Tryz.underlying38
  a53 := Tryz.isAgg38
  z53 := Tryz.sizeOf38
  v53 := Tryz.zeroValue38 }
theorem Tryz.bits_LeadingZeros64 (x : Int) (w : World) (h0 : 0 ≤ x) (h1 : x ≤ 18446744073709551615) :
    Calls Tryz.prog 236 #[.int .u64 x] w fun e w' => e = .returned (.int .i64 (64 - (Lib.bitLen x.toNat : Int))) ∧ w' = w := Any.bits_LeadingZeros64 Tryz.lays134 x w h0 h1
def Tryz.lays137_ren : Go.Shelf.Ren := ⟨fun | 137 => 235 | 217 => 243 | 266 => 252 | n => n, fun | 9 => 9 | 5 => 5 | 3 => 3 | n => n, fun | n => n⟩
theorem Tryz.lays137 : Go.Proofs.Lays.n137 Tryz.prog Tryz.lays137_ren := {
  mixed := by kernel_rfl
  f137 := Tryz.func235.trans (congrArg some (by kernel_rfl))
  f217 := Tryz.func243.trans (congrArg some (by kernel_rfl))
  f266 := Tryz.func252.trans (congrArg some (by kernel_rfl))
  t3 := Tryz.underlying3
  a3 := Tryz.isAgg3
  z3 := Tryz.sizeOf3
  v3 := Tryz.zeroValue3
  t5 := Tryz.underlying5
  a5 := Tryz.isAgg5
  z5 := Tryz.sizeOf5
  v5 := Tryz.zeroValue5
  t9 := Tryz.underlying9
  a9 := Tryz.isAgg9
  z9 := Tryz.sizeOf9
  v9 := Tryz.zeroValue9 }
open Go.RowKit in
theorem Tryz.strings_IndexByte (s : ByteArray) (c : Int) (w : World) :
    Calls Tryz.prog 235 #[.string s, .int .u8 c] w fun e w' => e = .returned (.int .i64 (Lib.indexByte s.data.toList c.toNat.toUInt8)) ∧ w' = w := Any.strings_IndexByte Tryz.lays137 s c w
def Tryz.lays103_ren : Go.Shelf.Ren := ⟨fun | 103 => 165 | 210 => 204 | 206 => 116 | n => n, fun | 9 => 9 | 4 => 4 | 24 => 190 | 3 => 3 | n => n, fun | n => n⟩
theorem Tryz.lays103 : Go.Proofs.Lays.n103 Tryz.prog Tryz.lays103_ren := {
  mixed := by kernel_rfl
  f103 := Tryz.func165.trans (congrArg some (by kernel_rfl))
  f206 := Tryz.func116.trans (congrArg some (by kernel_rfl))
  f210 := Tryz.func204.trans (congrArg some (by kernel_rfl))
  t3 := Tryz.underlying3
  a3 := Tryz.isAgg3
  z3 := Tryz.sizeOf3
  v3 := Tryz.zeroValue3
  t4 := Tryz.underlying4
  a4 := Tryz.isAgg4
  z4 := Tryz.sizeOf4
  v4 := Tryz.zeroValue4
  t9 := Tryz.underlying9
  a9 := Tryz.isAgg9
  z9 := Tryz.sizeOf9
  v9 := Tryz.zeroValue9
  t24 := Tryz.underlying190
  a24 := Tryz.isAgg190
  z24 := Tryz.sizeOf190
  v24 := Tryz.zeroValue190 }
open Go.RowKit in
theorem Tryz.strings_CutPrefix (s p : ByteArray) (w : World) :
    Calls Tryz.prog 165 #[.string s, .string p] w fun e w' => e = .returned (.tuple #[.string ⟨(Lib.trimPrefix s.data.toList p.data.toList).toArray⟩, .bool (Lib.hasPrefix s.data.toList p.data.toList)]) ∧ w' = w := Any.strings_CutPrefix Tryz.lays103 s p w
def Tryz.laysM171_ren : Go.Shelf.Ren := ⟨fun | 171 => 248 | 243 => 254 | 246 => 250 | 283 => 255 | 284 => 256 | 285 => 257 | 286 => 258 | 129 => 247 | 317 => 260 | 318 => 261 | 319 => 262 | 320 => 263 | 337 => 264 | 338 => 265 | n => n, fun | 3 => 3 | 9 => 9 | 2 => 2 | 4 => 4 | 171 => 239 | 0 => 0 | 53 => 38 | 37 => 46 | 5 => 5 | 173 => 241 | 212 => 245 | 51 => 236 | 20 => 20 | 213 => 246 | 46 => 220 | 232 => 249 | 233 => 250 | n => n, fun | 17 => 2 | 18 => 3 | 19 => 4 | n => n⟩
theorem Tryz.laysM171 : Go.Proofs.LaysM.n171 Tryz.prog Tryz.laysM171_ren := {
  mixed := by kernel_rfl
  f129 := Tryz.func247.trans (congrArg some (by kernel_rfl))
  f171 := Tryz.func248.trans (congrArg some (by kernel_rfl))
  f243 := Tryz.func254.trans (congrArg some (by kernel_rfl))
  f246 := Tryz.func250.trans (congrArg some (by kernel_rfl))
  f283 := Tryz.func255.trans (congrArg some (by kernel_rfl))
  f284 := Tryz.func256.trans (congrArg some (by kernel_rfl))
  f285 := Tryz.func257.trans (congrArg some (by kernel_rfl))
  f286 := Tryz.func258.trans (congrArg some (by kernel_rfl))
  f317 := Tryz.func260.trans (congrArg some (by kernel_rfl))
  f318 := Tryz.func261.trans (congrArg some (by kernel_rfl))
  f319 := Tryz.func262.trans (congrArg some (by kernel_rfl))
  f320 := Tryz.func263.trans (congrArg some (by kernel_rfl))
  f337 := Tryz.func264.trans (congrArg some (by kernel_rfl))
  f338 := Tryz.func265.trans (congrArg some (by kernel_rfl))
  t0 := Tryz.underlying0
  a0 := Tryz.isAgg0
  z0 := Tryz.sizeOf0
  v0 := Tryz.zeroValue0
  t2 := Tryz.underlying2
  a2 := Tryz.isAgg2
  z2 := Tryz.sizeOf2
  v2 := Tryz.zeroValue2
  t3 := Tryz.underlying3
  a3 := Tryz.isAgg3
  z3 := Tryz.sizeOf3
  v3 := Tryz.zeroValue3
  t4 := Tryz.underlying4
  a4 := Tryz.isAgg4
  z4 := Tryz.sizeOf4
  v4 := Tryz.zeroValue4
  t5 := Tryz.underlying5
  a5 := Tryz.isAgg5
  z5 := Tryz.sizeOf5
  v5 := Tryz.zeroValue5
  t9 := Tryz.underlying9
  a9 := Tryz.isAgg9
  z9 := Tryz.sizeOf9
  v9 := Tryz.zeroValue9
  t20 := Tryz.underlying20
  a20 := Tryz.isAgg20
  z20 := Tryz.sizeOf20
  v20 := Tryz.zeroValue20
  t37 := Tryz.underlying46
  a37 := Tryz.isAgg46
  z37 := Tryz.sizeOf46
  v37 := Tryz.zeroValue46
  t46 := Tryz.underlying220
  a46 := Tryz.isAgg220
  z46 := Tryz.sizeOf220
  v46 := Tryz.zeroValue220
  t51 := Tryz.underlying236
  a51 := Tryz.isAgg236
  z51 := Tryz.sizeOf236
  v51 := Tryz.zeroValue236
  t53 := Tryz.underlying38
  a53 := Tryz.isAgg38
  z53 := Tryz.sizeOf38
  v53 := Tryz.zeroValue38
  t171 := Tryz.underlying239
  a171 := Tryz.isAgg239
  z171 := Tryz.sizeOf239
  v171 := Tryz.zeroValue239
  t173 := Tryz.underlying241
  a173 := Tryz.isAgg241
  z173 := Tryz.sizeOf241
  v173 := Tryz.zeroValue241
  t212 := Tryz.underlying245
  a212 := Tryz.isAgg245
  z212 := Tryz.sizeOf245
  v212 := Tryz.zeroValue245
  t213 := Tryz.underlying246
  a213 := Tryz.isAgg246
  z213 := Tryz.sizeOf246
  t232 := Tryz.underlying249
  a232 := Tryz.isAgg249
  z232 := Tryz.sizeOf249
  v232 := Tryz.zeroValue249
  t233 := Tryz.underlying250
  a233 := Tryz.isAgg250
  z233 := Tryz.sizeOf250
  v233 := Tryz.zeroValue250
  g17 := by kernel_rfl
  g18 := by kernel_rfl
  g19 := by kernel_rfl
  i0 := by kernel_rfl
  i2 := by kernel_rfl
  i3 := by kernel_rfl
  i4 := by kernel_rfl
  i5 := by kernel_rfl
  i9 := by kernel_rfl
  i20 := by kernel_rfl
  i37 := by kernel_rfl
  i46 := by kernel_rfl
  i51 := by kernel_rfl
  i53 := by kernel_rfl
  i171 := by kernel_rfl
  i173 := by kernel_rfl
  i212 := by kernel_rfl
  i232 := by kernel_rfl
  i233 := by kernel_rfl
  m17 := by kernel_rfl
  m18 := by kernel_rfl
  m19 := by kernel_rfl }
open Go.RowKit Go.Sort Go.Lib in
theorem Tryz.strconv_Itoa (n : Int) (h0 : -9223372036854775808 ≤ n) (h1 : n ≤ 9223372036854775807) (w : World) (htab : Lib.TabIs Tryz.prog w "internal/strconv.uint64pow10" .u64 Lib.pow10Tab) :
    Calls Tryz.prog 248 #[.int .i64 n] w fun e w' => e = .returned (.string ⟨(Lib.itoa n).toArray⟩) ∧ ∃ k os, w' = grow (w.drewN k) os := Any.strconv_Itoa Tryz.laysM171 n h0 h1 w htab
def Tryz.lays219_ren : Go.Shelf.Ren := ⟨fun | 219 => 234 | 217 => 243 | 225 => 244 | 224 => 245 | 267 => 246 | 266 => 252 | 314 => 253 | n => n, fun | 9 => 9 | 3 => 3 | 4 => 4 | 5 => 5 | 46 => 220 | 146 => 237 | 51 => 236 | n => n, fun | 1 => 1 | n => n⟩
theorem Tryz.lays219 : Go.Proofs.Lays.n219 Tryz.prog Tryz.lays219_ren := {
  mixed := by kernel_rfl
  f217 := Tryz.func243.trans (congrArg some (by kernel_rfl))
  f219 := Tryz.func234.trans (congrArg some (by kernel_rfl))
  f224 := Tryz.func245.trans (congrArg some (by kernel_rfl))
  f225 := Tryz.func244.trans (congrArg some (by kernel_rfl))
  f266 := Tryz.func252.trans (congrArg some (by kernel_rfl))
  f267 := Tryz.func246.trans (congrArg some (by kernel_rfl))
  f314 := Tryz.func253.trans (congrArg some (by kernel_rfl))
  t3 := Tryz.underlying3
  a3 := Tryz.isAgg3
  z3 := Tryz.sizeOf3
  v3 := Tryz.zeroValue3
  t4 := Tryz.underlying4
  a4 := Tryz.isAgg4
  z4 := Tryz.sizeOf4
  v4 := Tryz.zeroValue4
  t5 := Tryz.underlying5
  a5 := Tryz.isAgg5
  z5 := Tryz.sizeOf5
  v5 := Tryz.zeroValue5
  t9 := Tryz.underlying9
  a9 := Tryz.isAgg9
  z9 := Tryz.sizeOf9
  v9 := Tryz.zeroValue9
  t46 := Tryz.underlying220
  a46 := Tryz.isAgg220
  z46 := Tryz.sizeOf220
  v46 := Tryz.zeroValue220
  t51 := Tryz.underlying236
  a51 := Tryz.isAgg236
  z51 := Tryz.sizeOf236
  v51 := Tryz.zeroValue236
  t146 := Tryz.underlying237
  a146 := Tryz.isAgg237
  z146 := Tryz.sizeOf237
  v146 := Tryz.zeroValue237
  g1 := by kernel_rfl }
open Go.RowKit Go.Lib in
theorem Tryz.stringslite_Index_one (s : ByteArray) (c : UInt8) (w : World) :
    Calls Tryz.prog 234 #[.string s, .string ⟨#[c]⟩] w fun e w' => e = .returned (.int .i64 (Lib.indexByte s.data.toList c)) ∧ w' = w := Any.stringslite_Index_one Tryz.lays219 s c w
def Tryz.lays99_ren : Go.Shelf.Ren := ⟨fun | 99 => 74 | 206 => 116 | n => n, fun | 9 => 9 | 4 => 4 | 3 => 3 | n => n, fun | n => n⟩
theorem Tryz.lays99 : Go.Proofs.Lays.n99 Tryz.prog Tryz.lays99_ren := {
  mixed := by kernel_rfl
  f99 := Tryz.func74.trans (congrArg some (by kernel_rfl))
  f206 := Tryz.func116.trans (congrArg some (by kernel_rfl))
  t3 := Tryz.underlying3
  a3 := Tryz.isAgg3
  z3 := Tryz.sizeOf3
  v3 := Tryz.zeroValue3
  t4 := Tryz.underlying4
  a4 := Tryz.isAgg4
  z4 := Tryz.sizeOf4
  v4 := Tryz.zeroValue4
  t9 := Tryz.underlying9
  a9 := Tryz.isAgg9
  z9 := Tryz.sizeOf9
  v9 := Tryz.zeroValue9 }
open Go.RowKit Go.Lib in
theorem Tryz.strings_HasPrefix (s p : ByteArray) (w : World) :
    Calls Tryz.prog 74 #[.string s, .string p] w fun e w' => e = .returned (.bool (Lib.hasPrefix s.data.toList p.data.toList)) ∧ w' = w := Any.strings_HasPrefix Tryz.lays99 s p w
def Tryz.lays264_ren : Go.Shelf.Ren := ⟨fun | 264 => 232 | n => n, fun | 53 => 38 | 46 => 220 | n => n, fun | n => n⟩
theorem Tryz.lays264 : Go.Proofs.Lays.n264 Tryz.prog Tryz.lays264_ren := {
  mixed := by kernel_rfl
  f264 := Tryz.func232.trans (congrArg some (by kernel_rfl))
  t46 := Tryz.underlying220
  a46 := Tryz.isAgg220
  z46 := Tryz.sizeOf220
  v46 := Tryz.zeroValue220
  t53 := Tryz.underlying38
  a53 := Tryz.isAgg38
  z53 := Tryz.sizeOf38
  v53 := Tryz.zeroValue38 }
open Go.RowKit Go.Lib in
theorem Tryz.bits_Mul64 (x y : Nat) (hx : x < 18446744073709551616) (hy : y < 18446744073709551616) (w : World) :
    Calls Tryz.prog 232 #[.int .u64 x, .int .u64 y] w fun e w' => e = .returned (.tuple #[.int .u64 ((x * y / 18446744073709551616 : Nat) : Int), .int .u64 ((x * y % 18446744073709551616 : Nat) : Int)]) ∧ w' = w := Any.bits_Mul64 Tryz.lays264 x y hx hy w
end Go.Proofs
namespace Go.Proofs.YteijjaabngkbjaaGreatDoor.D
set_option linter.unusedSimpArgs false
set_option linter.unusedVariables false
def isd (c : UInt8) : Bool := decide (48 ≤ c.toNat) && decide (c.toNat ≤ 57)
def stepD (m : Nat) (c : UInt8) : Nat := m * 10 + (c.toNat - 48)
def numD (l : List UInt8) : Nat := l.foldl stepD 0
theorem numD_snoc (l : List UInt8) (c : UInt8) : numD (l ++ [c]) = numD l * 10 + (c.toNat - 48) := by
  unfold numD
  rw [List.foldl_append]
  rfl
theorem ofNat_toNat (d : Nat) (h : d < 10) : (UInt8.ofNat (48 + d)).toNat = d + 48 := by
  rw [UInt8.toNat_ofNat']
  omega
end Go.Proofs.YteijjaabngkbjaaGreatDoor.D
namespace Go.Proofs.YteijjaabngkbjaaGreatDoor.D
set_option linter.unusedSimpArgs false
set_option linter.unusedVariables false
def I64 (a : Int) : Prop := -9223372036854775808 ≤ a ∧ a ≤ 9223372036854775807
end Go.Proofs.YteijjaabngkbjaaGreatDoor.D
namespace Go.Proofs.YteijjaabngkbjaaGreatDoor.D
open Go.RowKit
set_option linter.unusedSimpArgs false
set_option linter.unusedVariables false
end Go.Proofs.YteijjaabngkbjaaGreatDoor.D
namespace Go.Proofs.YteijjaabngkbjaaGreatDoor.D
open Go.RowKit
set_option linter.unusedSimpArgs false
set_option linter.unusedVariables false
theorem wrap64_I {z : Int} (h : I64 z) : wrap64 z = z := by
  obtain ⟨_, _⟩ := h
  unfold wrap64
  omega
end Go.Proofs.YteijjaabngkbjaaGreatDoor.D
namespace Go.Proofs.YteijjaabngkbjaaGreatDoor.D
open Go.RowKit
set_option linter.unusedSimpArgs false
set_option linter.unusedVariables false
end Go.Proofs.YteijjaabngkbjaaGreatDoor.D
namespace Go.Proofs.YteijjaabngkbjaaGreatDoor.D
open Go.RowKit
set_option linter.unusedSimpArgs false
set_option linter.unusedVariables false
def Kb (w w' : World) : Prop := w.keptBut w' (fun _ => False) ∧ w.heap.size ≤ w'.heap.size
theorem Kb.refl (w : World) : Kb w w := ⟨World.keptBut_refl _ _, Nat.le_refl _⟩
theorem Kb.trans {a b c : World} (h : Kb a b) (g : Kb b c) : Kb a c := ⟨World.keptBut_trans h.1 g.1, Nat.le_trans h.2 g.2⟩
theorem Kb.of_grown {a b : World} (h : Grown a b) : Kb a b := ⟨h.1, h.2.2⟩
def Tab (w : World) : Prop := Lib.TabIs Tryz.prog w "internal/strconv.uint64pow10" .u64 Lib.pow10Tab
theorem kb_grow (w : World) (k : Nat) (os : Array Obj) : Kb w (Sort.grow (w.drewN k) os) := by
  refine ⟨⟨rfl, rfl, fun i hi => ?_⟩, by simp [Sort.grow, World.drewN]⟩
  have e : (Sort.grow (w.drewN k) os).heap[i]? = w.heap[i]? := by
    show (w.heap ++ os)[i]? = _
    rw [Array.getElem?_append_left hi]
  rw [e]
  cases w.heap[i]? with
  | none => rfl
  | some o => cases o <;> simp
end Go.Proofs.YteijjaabngkbjaaGreatDoor.D
namespace Go.Proofs.YteijjaabngkbjaaGreatDoor.D
open Go.RowKit
set_option linter.unusedSimpArgs false
set_option linter.unusedVariables false
end Go.Proofs.YteijjaabngkbjaaGreatDoor.D
namespace Go.Proofs.YteijjaabngkbjaaGreatDoor.D
open Go.RowKit
set_option linter.unusedSimpArgs false
set_option linter.unusedVariables false
end Go.Proofs.YteijjaabngkbjaaGreatDoor.D
namespace Go.Proofs.YteijjaabngkbjaaGreatDoor.D
open Go.RowKit
set_option linter.unusedSimpArgs false
set_option linter.unusedVariables false
end Go.Proofs.YteijjaabngkbjaaGreatDoor.D
namespace Go.Proofs.YteijjaabngkbjaaGreatDoor.D
open Go.RowKit
set_option linter.unusedSimpArgs false
set_option linter.unusedVariables false
theorem conv_back (w : World) (a : Addr) (n cap : Nat) (l : List UInt8) (hn : l.length = n) (hc : ∀ j (hj : j < l.length), w.cell? (a.add j) = some (.int .u8 (l[j].toNat : Int))) :
    (convert 46 9 (.slice (some a) n cap)).run Tryz.prog w = .ok (.string ⟨l.toArray⟩) w := by
  subst hn
  exact run_convert_bytes_back w 46 9 5 a cap l Tryz.underlying46 Tryz.underlying5 Tryz.underlying9 hc
end Go.Proofs.YteijjaabngkbjaaGreatDoor.D
