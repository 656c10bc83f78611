/- Texts of ours, in one. -/
import Derived.Test.YtoiglopilpoafaaGreatDoorRows
import Derived.WalkKit
import Derived.WalkSpells
import Derived.WalkLawsBesides
import Derived.ProofKit
import Derived.RowKit3
import Derived.Laws.AppendOwn
import Derived.Laws.AppendOwnNone
import Derived.Maps.AppendAt
import Derived.Laws.Rows
import Derived.OwnWalk
import Derived.Deep.LoopGhost
import Derived.Deep.DeepCutAuto
import Derived.Lib.SlicesCompact
import Derived.Sort.EncStr
import Derived.Deep.RegionWith
import Derived.Sort.Walk0
import Derived.Shelf.SlSorted.Search
import Derived.Shelf.Strconv.Itoa0
import Derived.Shelf.Strconv.Itoa1
import Derived.Shelf.LaysM
import Derived.Shelf.Strconv.Itoa2
import Derived.Shelf.Strconv.Itoa3
import Derived.Shelf.Strconv.Itoa4
import Derived.Shelf.Strings.LastIndex
import Derived.Shelf.Strings.Prefix
import Derived.Shelf.Bytes.SlIndexAt
import Derived.Shelf.Bytes.Small
import Derived.Shelf.Bytes.IndexByte
import Derived.Test.YtoiglopilpoafaaGreatDoorProg
import Derived.Test.YtoiglopilpoafaaGreatDoorPk6
import Derived.Lib.ItoaMem
import Derived.Laws.Externs
import Derived.Laws.BitsAllLaws
import Derived.Shelf.Spec.BitsCarry
import Derived.Laws.RangeAny
import Derived.Lib.IndexBytes
import Derived.Laws.IdiomStrings
import Derived.Lib.SmallJoins
import Derived.Test.YtoiglopilpoafaaGreatDoorFxA
namespace Go.Proofs.YtoiglopilpoafaaGreatDoor.N
open Go.RowKit
set_option linter.unusedSimpArgs false
set_option linter.unusedVariables false

/-- A fact kept from the walk. -/
def Hidden (p : Prop) : Prop := p
theorem alloc_old (w : World) (o : Obj) (k : Nat) (h : k < w.heap.size) : (w.alloc o).heap[k]? = w.heap[k]? := by
  show (w.heap.push o)[k]? = _
  rw [Array.getElem?_push_lt h]
  exact (Array.getElem?_eq_getElem h).symm
theorem alloc_new (w : World) (o : Obj) : (w.alloc o).heap[w.heap.size]? = some o := by
  show (w.heap.push o)[w.heap.size]? = _
  simp

/-- All blocks that were there, but for some, are as they were. -/
structure Fr (S : Nat → Prop) (w w' : World) : Prop where
  os : w'.os = w.os
  output : w'.output = w.output
  size : w.heap.size ≤ w'.heap.size
  block : ∀ k, k < w.heap.size → ¬ S k → w'.heap[k]? = w.heap[k]?

theorem Fr.refl (S : Nat → Prop) (w : World) : Fr S w w := ⟨rfl, rfl, Nat.le_refl _, fun _ _ _ => rfl⟩
theorem Fr.trans {S T : Nat → Prop} {a b c : World} (h : Fr S a b) (g : Fr T b c) (hT : ∀ k, k < a.heap.size → T k → S k) : Fr S a c :=
  ⟨g.os.trans h.os, g.output.trans h.output, Nat.le_trans h.size g.size, fun k hk hn =>
    (g.block k (Nat.lt_of_lt_of_le hk h.size) (fun t => hn (hT k hk t))).trans (h.block k hk hn)⟩
theorem Fr.mono {S T : Nat → Prop} {a b : World} (h : Fr S a b) (hT : ∀ k, k < a.heap.size → S k → T k) : Fr T a b :=
  ⟨h.os, h.output, h.size, fun k hk hn => h.block k hk (fun t => hn (hT k hk t))⟩
theorem Fr.alloc (S : Nat → Prop) (w : World) (o : Obj) : Fr S w (w.alloc o) := ⟨rfl, rfl, by simp, fun k hk _ => alloc_old w o k hk⟩
theorem Fr.kept {w w' : World} (h : Fr (fun _ => False) w w') : w.keptBut w' (fun _ => False) :=
  ⟨h.os, h.output, fun i hi => by
    rw [h.block i hi (fun f => f)]
    cases w.heap[i]? with
    | none => rfl
    | some o => cases o <;> simp⟩
theorem Fr.cell {S : Nat → Prop} {w w' : World} (h : Fr S w w') {a : Addr} {v : Value} (hc : w.cell? a = some v) (hn : ¬ S a.block) : w'.cell? a = some v :=
  (World.cell?_of_block (h.block a.block (World.block_lt_of_cell? w a hc) hn)).trans hc
theorem lt_of_heap {w : World} {k : Nat} {o : Obj} (h : w.heap[k]? = some o) : k < w.heap.size := (Array.getElem?_eq_some_iff.1 h).1
theorem Fr.heap {S : Nat → Prop} {w w' : World} (h : Fr S w w') {k : Nat} {o : Obj} (hc : w.heap[k]? = some o) (hn : ¬ S k) : w'.heap[k]? = some o :=
  (h.block k (lt_of_heap hc) hn).trans hc

/-- A slice of one-cell elements, and what they hold. -/
def Sl (w : World) (v : Value) (xs : List Value) : Prop :=
  ∃ ao cap, v = .slice ao xs.length cap ∧ xs.length ≤ cap ∧ cap ≤ maxLen ∧ (ao = none → cap = 0) ∧
    (xs = [] ∨ ∃ b off, ao = some ⟨b, off, none⟩ ∧ ∀ (i : Nat) (x : Value), xs[i]? = some x → w.cell? ⟨b, off + i, none⟩ = some x)

theorem Sl.nil (w : World) : Sl w (.slice none 0 0) [] := ⟨none, 0, rfl, by simp, by simp, fun _ => rfl, Or.inl rfl⟩
end Go.Proofs.YtoiglopilpoafaaGreatDoor.N

namespace Go.Proofs.YtoiglopilpoafaaGreatDoor.N
set_option linter.unusedSimpArgs false
set_option linter.unusedVariables false

abbrev Str := List UInt8
end Go.Proofs.YtoiglopilpoafaaGreatDoor.N

namespace Go.Proofs.YtoiglopilpoafaaGreatDoor.N
open Go.RowKit Go.Sort
set_option linter.unusedSimpArgs false
set_option linter.unusedVariables false

/-- A list of texts that can be read at v. -/
def Tl (w : World) (v : Value) (l : List Str) : Prop :=
  ∃ ao cap, v = .slice ao l.length cap ∧ l.length ≤ cap ∧ cap ≤ 9223372036854775807 ∧ (ao = none → cap = 0) ∧
    (l = [] ∨ ∃ b off, ao = some ⟨b, off, none⟩ ∧ ∀ (i : Nat) (x : Str), l[i]? = some x → w.cell? ⟨b, off + i, none⟩ = some (encStr x))
/-- A list of texts in memory of the call's own, which may be written. -/
def Tn (w : World) (B : Nat) (v : Value) (l : List Str) : Prop :=
  ∃ ao cap, v = .slice ao l.length cap ∧ l.length ≤ cap ∧ cap ≤ 9223372036854775807 ∧ (ao = none → cap = 0) ∧
    (l = [] ∨ ∃ b off, ao = some ⟨b, off, none⟩ ∧ B ≤ b ∧ b < w.heap.size ∧ Holds encStr w b off l.toArray)

theorem Tn.tl {w : World} {B : Nat} {v : Value} {l : List Str} (h : Tn w B v l) : Tl w v l := by
  obtain ⟨ao, cap, rfl, h1, h2, h3, h4⟩ := h
  refine ⟨ao, cap, rfl, h1, h2, h3, ?_⟩
  rcases h4 with h4 | ⟨b, off, rfl, hB, hb, hH⟩
  · exact Or.inl h4
  · refine Or.inr ⟨b, off, rfl, fun i x hx => ?_⟩
    obtain ⟨hi, e⟩ := List.getElem?_eq_some_iff.1 hx
    have := (hH i (by simpa using hi)).1
    rw [this, getElem!_pos _ i (by simpa using hi)]
    simp [e]
/-- What lies in memory from ahead is apart from what is new. -/
theorem Tl.nil (w : World) : Tl w (.slice none 0 0) [] := ⟨none, 0, rfl, by simp, by simp, fun _ => rfl, Or.inl rfl⟩
end Go.Proofs.YtoiglopilpoafaaGreatDoor.N

namespace Go.Proofs.YtoiglopilpoafaaGreatDoor.N
open Go.RowKit Go.Sort
set_option linter.unusedSimpArgs false
set_option linter.unusedVariables false

def letB (n : Nat) : Bool := (decide (97 ≤ n) && decide (n ≤ 122)) || (decide (65 ≤ n) && decide (n ≤ 90)) || n == 95
def digB (n : Nat) : Bool := decide (48 ≤ n) && decide (n ≤ 57)

theorem ret_bool {a b : Bool} (h : a = true ↔ b = true) : Ending.returned (.bool a) = .returned (.bool b) := by rw [Bool.eq_iff_iff.2 h]

end Go.Proofs.YtoiglopilpoafaaGreatDoor.N

namespace Go.Proofs.YtoiglopilpoafaaGreatDoor.N
open Go.RowKit Go.Sort
set_option linter.unusedSimpArgs false
set_option linter.unusedVariables false

theorem str_len (t : List UInt8) : ((⟨t.toArray⟩ : ByteArray).size : Int) = (t.length : Int) := by simp [ByteArray.size]
theorem str_index (l : List UInt8) (k : Nat) (c : UInt8) (h : l[k]? = some c) (w : World) :
    (Instr.index 9 (.string ⟨l.toArray⟩) (.int .i64 (k : Int))).run Tryz.prog w = .ok (.int .u8 (c.toNat : Int)) w := by
  obtain ⟨hk, hc⟩ := List.getElem?_eq_some_iff.1 h
  have hs : k < (⟨l.toArray⟩ : ByteArray).size := by simpa [ByteArray.size] using hk
  rw [run_index_string _ _ _ _ _ Tryz.underlying9, dif_pos ⟨by omega, by omega⟩]
  have e : (⟨l.toArray⟩ : ByteArray)[k]'hs = c := by
    show l.toArray[k] = c
    simpa using hc
  simp only [Int.toNat_natCast]
  rw [e]
theorem drop_at {α : Type} {l : List α} {j : Nat} {c : α} (h : l[j]? = some c) : l.drop j = c :: l.drop (j + 1) := by
  obtain ⟨hj, rfl⟩ := List.getElem?_eq_some_iff.1 h
  exact List.drop_eq_getElem_cons hj

theorem frozen_of_row {w : World} {g : Nat} {cur : Array Value} {e : TypeId} (h : w.heap[g]? = some (.cells cur e (0, 0))) (j : Nat) : w.frozen? ⟨g, j, none⟩ = false := by simp [World.frozen?, h]

/-- The reserved words. -/
def wordsL : List Str := [[98, 111, 111, 108], [99, 97, 116, 99, 104], [99, 111, 110, 115, 116], [101, 108, 115, 101], [101, 120, 112, 111, 114, 116], [102, 97, 105, 108], [102, 97, 108, 115, 101], [102, 108, 111, 97, 116], [102, 110], [105, 102], [105, 109, 112, 111, 114, 116], [105, 110, 102], [105, 110, 112, 117, 116], [105, 110, 116], [108, 101, 116], [109, 111, 100, 117, 108, 101], [110, 97, 110], [114, 101, 116, 117, 114, 110], [115, 104, 111, 119], [116, 114, 117, 101], [116, 114, 121], [118, 97, 114], [119, 104, 105, 108, 101]]

theorem Tn.words (w : World) : Tn (w.alloc (.cells (wordsL.map encStr).toArray 9)) w.heap.size (.slice (some ⟨w.heap.size, 0, none⟩) 23 23) wordsL := by
  refine ⟨_, 23, rfl, by decide, by omega, (fun h => by cases h), Or.inr ⟨w.heap.size, 0, rfl, Nat.le_refl _, by simp, fun j hj => ?_⟩⟩
  have hb := alloc_new w (.cells (wordsL.map encStr).toArray 9)
  have hj' : j < wordsL.length := by simpa using hj
  constructor
  · rw [Nat.zero_add, cell_of_row _ _ _ _ _ _ hb, getElem!_pos _ j hj]
    simp [hj']
  · exact frozen_of_row hb _

def okAt (i : Nat) (c : UInt8) : Bool := letB c.toNat || (i != 0 && digB c.toNat)
def speltGo : List UInt8 → Nat → Bool
  | [], _ => true
  | c :: r, i => okAt i c && speltGo r (i + 1)
def speltS (s : Str) : Bool := speltGo s 0 && !s.isEmpty

end Go.Proofs.YtoiglopilpoafaaGreatDoor.N

namespace Go.Proofs.YtoiglopilpoafaaGreatDoor.N
open Go.RowKit Go.Sort
set_option linter.unusedSimpArgs false
set_option linter.unusedVariables false

/-- The least place of s, from a place on. -/
def idxGo (s : Str) : List Str → Nat → Int
  | [], _ => -1
  | x :: r, i => if x = s then (i : Int) else idxGo s r (i + 1)
def findGo (s : Str) : List Str → Nat → Int × Bool
  | [], _ => (0, false)
  | x :: r, i => if x = s then ((i : Int), true) else findGo s r (i + 1)
def findS (l : List Str) (s : Str) : Int × Bool := findGo s l 0
theorem findGo_spec (s : Str) : ∀ (l : List Str) (i : Nat), (s ∉ l ∧ findGo s l i = (0, false) ∧ idxGo s l i = -1) ∨ ∃ k : Nat, l[k]? = some s ∧ findGo s l i = (((i + k : Nat) : Int), true) ∧ idxGo s l i = ((i + k : Nat) : Int)
  | [], i => Or.inl ⟨by simp, rfl, rfl⟩
  | x :: r, i => by
    unfold findGo idxGo
    by_cases h : x = s
    · rw [if_pos h, if_pos h]
      exact Or.inr ⟨0, by simp [h], by simp, by simp⟩
    · rw [if_neg h, if_neg h]
      rcases findGo_spec s r (i + 1) with ⟨h1, h2, h3⟩ | ⟨k, h1, h2, h3⟩
      · exact Or.inl ⟨by simp [h1, Ne.symm h], h2, h3⟩
      · exact Or.inr ⟨k + 1, by simpa using h1, by rw [h2]; congr 2; omega, by rw [h3]; congr 1; omega⟩
theorem findS_spec (l : List Str) (s : Str) : (s ∉ l ∧ findS l s = (0, false) ∧ idxGo s l 0 = -1) ∨ ∃ k : Nat, l[k]? = some s ∧ findS l s = ((k : Int), true) ∧ idxGo s l 0 = (k : Int) := by
  have := findGo_spec s l 0
  simp only [Nat.zero_add] at this
  exact this
theorem findS_mem (l : List Str) (s : Str) : (findS l s).2 = decide (s ∈ l) := by
  rcases findS_spec l s with ⟨h1, h2, _⟩ | ⟨k, h1, h2, _⟩
  · rw [h2]; simp [h1]
  · rw [h2, decide_eq_true (List.mem_of_getElem? h1)]

/-- What Right answers. -/
def rightS (s : Str) : Int := if speltS s = true then (if 32 < s.length then 3 else if s ∈ wordsL then 12 else 0) else 12

end Go.Proofs.YtoiglopilpoafaaGreatDoor.N

namespace Go.Proofs.YtoiglopilpoafaaGreatDoor.N
open Go.RowKit Go.Sort
set_option linter.unusedSimpArgs false
set_option linter.unusedVariables false

def ld (c : UInt8) : Bool := letB c.toNat || digB c.toNat
theorem speltGo_all : ∀ (r : Str) (i : Nat), speltGo r (i + 1) = r.all ld
  | [], _ => rfl
  | c :: r, i => by
    rw [speltGo, speltGo_all r (i + 1), List.all_cons]
    rfl
theorem spelt_cons (s : Str) (c : UInt8) (h : s[0]? = some c) : speltS s = (letB c.toNat && s.all ld) := by
  cases s with
  | nil => simp at h
  | cons d r =>
    have : d = c := by simpa using h
    subst this
    show (speltGo (d :: r) 0 && !(d :: r).isEmpty) = _
    rw [speltGo, speltGo_all, List.all_cons]
    show ((letB d.toNat || (0 != 0 && digB d.toNat)) && r.all ld && true) = (letB d.toNat && ((letB d.toNat || digB d.toNat) && r.all ld))
    cases letB d.toNat <;> simp
end Go.Proofs.YtoiglopilpoafaaGreatDoor.N

namespace Go.Proofs.YtoiglopilpoafaaGreatDoor.N
open Go.RowKit Go.Sort
set_option linter.unusedSimpArgs false
set_option linter.unusedVariables false

theorem append_str (a b : Str) : (⟨a.toArray⟩ : ByteArray) ++ ⟨b.toArray⟩ = ⟨(a ++ b).toArray⟩ := by
  rw [ByteArray.mk_append_mk]
end Go.Proofs.YtoiglopilpoafaaGreatDoor.N

namespace Go.Proofs
open Go.Shelf
def Tryz.laysM173_ren : Go.Shelf.Ren := ⟨fun | 173 => 115 | 246 => 124 | 283 => 127 | 284 => 128 | 285 => 129 | 286 => 130 | 129 => 133 | 317 => 132 | 318 => 134 | 319 => 135 | 320 => 136 | 337 => 137 | 338 => 138 | n => n, fun | 2 => 2 | 3 => 3 | 9 => 9 | 4 => 4 | 171 => 199 | 0 => 0 | 53 => 57 | 37 => 30 | 5 => 5 | 173 => 202 | 212 => 205 | 51 => 70 | 20 => 20 | 213 => 206 | 46 => 89 | 232 => 209 | 233 => 210 | n => n, fun | 17 => 2 | 18 => 3 | 19 => 4 | n => n⟩
theorem Tryz.laysM173 : Go.Proofs.LaysM.n173 Tryz.prog Tryz.laysM173_ren := {
  mixed := by kernel_rfl
  f129 := Tryz.func133.trans (congrArg some (by kernel_rfl))
  f173 := Tryz.func115.trans (congrArg some (by kernel_rfl))
  f246 := Tryz.func124.trans (congrArg some (by kernel_rfl))
  f283 := Tryz.func127.trans (congrArg some (by kernel_rfl))
  f284 := Tryz.func128.trans (congrArg some (by kernel_rfl))
  f285 := Tryz.func129.trans (congrArg some (by kernel_rfl))
  f286 := Tryz.func130.trans (congrArg some (by kernel_rfl))
  f317 := Tryz.func132.trans (congrArg some (by kernel_rfl))
  f318 := Tryz.func134.trans (congrArg some (by kernel_rfl))
  f319 := Tryz.func135.trans (congrArg some (by kernel_rfl))
  f320 := Tryz.func136.trans (congrArg some (by kernel_rfl))
  f337 := Tryz.func137.trans (congrArg some (by kernel_rfl))
  f338 := Tryz.func138.trans (congrArg some (by kernel_rfl))
  t0 := Tryz.underlying0
  a0 := Tryz.isAgg0
  z0 := Tryz.sizeOf0
  v0 := Tryz.zeroValue0
  t2 := Tryz.underlying2
  a2 := Tryz.isAgg2
  z2 := Tryz.sizeOf2
  v2 := Tryz.zeroValue2
  t3 := Tryz.underlying3
  a3 := Tryz.isAgg3
  z3 := Tryz.sizeOf3
  v3 := Tryz.zeroValue3
  t4 := Tryz.underlying4
  a4 := Tryz.isAgg4
  z4 := Tryz.sizeOf4
  v4 := Tryz.zeroValue4
  t5 := Tryz.underlying5
  a5 := Tryz.isAgg5
  z5 := Tryz.sizeOf5
  v5 := Tryz.zeroValue5
  t9 := Tryz.underlying9
  a9 := Tryz.isAgg9
  z9 := Tryz.sizeOf9
  v9 := Tryz.zeroValue9
  t20 := Tryz.underlying20
  a20 := Tryz.isAgg20
  z20 := Tryz.sizeOf20
  v20 := Tryz.zeroValue20
  t37 := Tryz.underlying30
  a37 := Tryz.isAgg30
  z37 := Tryz.sizeOf30
  v37 := Tryz.zeroValue30
  t46 := Tryz.underlying89
  a46 := Tryz.isAgg89
  z46 := Tryz.sizeOf89
  v46 := Tryz.zeroValue89
  t51 := Tryz.underlying70
  a51 := Tryz.isAgg70
  z51 := Tryz.sizeOf70
  v51 := Tryz.zeroValue70
  t53 := Tryz.underlying57
  a53 := Tryz.isAgg57
  z53 := Tryz.sizeOf57
  v53 := Tryz.zeroValue57
  t171 := Tryz.underlying199
  a171 := Tryz.isAgg199
  z171 := Tryz.sizeOf199
  v171 := Tryz.zeroValue199
  t173 := Tryz.underlying202
  a173 := Tryz.isAgg202
  z173 := Tryz.sizeOf202
  v173 := Tryz.zeroValue202
  t212 := Tryz.underlying205
  a212 := Tryz.isAgg205
  z212 := Tryz.sizeOf205
  v212 := Tryz.zeroValue205
  t213 := Tryz.underlying206
  a213 := Tryz.isAgg206
  z213 := Tryz.sizeOf206
  t232 := Tryz.underlying209
  a232 := Tryz.isAgg209
  z232 := Tryz.sizeOf209
  v232 := Tryz.zeroValue209
  t233 := Tryz.underlying210
  a233 := Tryz.isAgg210
  z233 := Tryz.sizeOf210
  v233 := Tryz.zeroValue210
  g17 := by kernel_rfl
  g18 := by kernel_rfl
  g19 := by kernel_rfl
  i0 := by kernel_rfl
  i2 := by kernel_rfl
  i3 := by kernel_rfl
  i4 := by kernel_rfl
  i5 := by kernel_rfl
  i9 := by kernel_rfl
  i20 := by kernel_rfl
  i37 := by kernel_rfl
  i46 := by kernel_rfl
  i51 := by kernel_rfl
  i53 := by kernel_rfl
  i171 := by kernel_rfl
  i173 := by kernel_rfl
  i212 := by kernel_rfl
  i232 := by kernel_rfl
  i233 := by kernel_rfl
  m17 := by kernel_rfl
  m18 := by kernel_rfl
  m19 := by kernel_rfl }
open Go.RowKit Go.Sort Go.Lib in
theorem Tryz.strconv_FormatInt_10 (n : Int) (h0 : -9223372036854775808 ≤ n) (h1 : n ≤ 9223372036854775807) (w : World) (htab : Lib.TabIs Tryz.prog w "internal/strconv.uint64pow10" .u64 Lib.pow10Tab) :
    Calls Tryz.prog 115 #[.int .i64 n, .int .i64 10] w fun e w' => e = .returned (.string ⟨(Lib.itoa n).toArray⟩) ∧ ∃ k os, w' = grow (w.drewN k) os := Any.strconv_FormatInt_10 Tryz.laysM173 n h0 h1 w htab
end Go.Proofs

namespace Go.Proofs.YtoiglopilpoafaaGreatDoor.D
set_option linter.unusedSimpArgs false
set_option linter.unusedVariables false

/-- A decimal digit. -/
def isd (c : UInt8) : Bool := decide (48 ≤ c.toNat) && decide (c.toNat ≤ 57)
def stepD (m : Nat) (c : UInt8) : Nat := m * 10 + (c.toNat - 48)
/-- What digits mean. -/
def numD (l : List UInt8) : Nat := l.foldl stepD 0
theorem numD_snoc (l : List UInt8) (c : UInt8) : numD (l ++ [c]) = numD l * 10 + (c.toNat - 48) := by
  unfold numD
  rw [List.foldl_append]
  rfl

theorem ofNat_toNat (d : Nat) (h : d < 10) : (UInt8.ofNat (48 + d)).toNat = d + 48 := by
  rw [UInt8.toNat_ofNat']
  omega
theorem isd_ofNat (d : Nat) (h : d < 10) : isd (UInt8.ofNat (48 + d)) = true := by
  unfold isd
  rw [ofNat_toNat d h]
  simp
  omega

open Go.Lib in
theorem dec_facts : ∀ n : Nat, (decDigits n).all isd = true ∧ numD (decDigits n) = n ∧ 0 < (decDigits n).length ∧ (1 ≤ n → ∃ c r, decDigits n = c :: r ∧ c ≠ 48 ∧ isd c = true) := by
  intro n
  induction n using Nat.strongRecOn with
  | ind n ih =>
    by_cases h : n < 10
    · have e : decDigits n = [UInt8.ofNat (48 + n)] := by rw [decDigits, dif_pos h]
      rw [e]
      refine ⟨by simp only [List.all_cons, isd_ofNat n h, List.all_nil, Bool.and_self], ?_, by simp, fun h1 => ⟨_, _, rfl, ?_, isd_ofNat n h⟩⟩
      · simp only [numD, List.foldl_cons, List.foldl_nil, stepD, ofNat_toNat n h]
        omega
      · intro hc
        have := congrArg UInt8.toNat hc
        rw [ofNat_toNat n h] at this
        have h48 : (48 : UInt8).toNat = 48 := rfl
        omega
    · have e : decDigits n = decDigits (n / 10) ++ [UInt8.ofNat (48 + n % 10)] := by rw [decDigits, dif_neg h]
      obtain ⟨i1, i2, i3, i4⟩ := ih (n / 10) (by omega)
      have hd : n % 10 < 10 := by omega
      rw [e]
      refine ⟨by simp only [List.all_append, i1, List.all_cons, isd_ofNat _ hd, List.all_nil, Bool.and_self], ?_, by simp, fun h1 => ?_⟩
      · rw [numD_snoc, i2, ofNat_toNat _ hd]
        omega
      · obtain ⟨c, r, hc, h48, hcd⟩ := i4 (by omega)
        exact ⟨c, r ++ [UInt8.ofNat (48 + n % 10)], by rw [hc]; rfl, h48, hcd⟩
end Go.Proofs.YtoiglopilpoafaaGreatDoor.D

namespace Go.Proofs.YtoiglopilpoafaaGreatDoor.D
set_option linter.unusedSimpArgs false
set_option linter.unusedVariables false

/-- A whole number of 64 bits. -/
def I64 (a : Int) : Prop := -9223372036854775808 ≤ a ∧ a ≤ 9223372036854775807
end Go.Proofs.YtoiglopilpoafaaGreatDoor.D

namespace Go.Proofs.YtoiglopilpoafaaGreatDoor.D
open Go.RowKit
set_option linter.unusedSimpArgs false
set_option linter.unusedVariables false
end Go.Proofs.YtoiglopilpoafaaGreatDoor.D

namespace Go.Proofs.YtoiglopilpoafaaGreatDoor.D
open Go.RowKit
set_option linter.unusedSimpArgs false
set_option linter.unusedVariables false

theorem wrap64_I {z : Int} (h : I64 z) : wrap64 z = z := by
  obtain ⟨_, _⟩ := h
  unfold wrap64
  omega
theorem tmod_lt (a b : Int) (hb : b ≠ 0) : (a.tmod b).natAbs < b.natAbs := by
  rw [Int.natAbs_tmod]
  exact Nat.mod_lt _ (by omega)
theorem tmod_sign (a b : Int) : (0 ≤ a → 0 ≤ a.tmod b) ∧ (a ≤ 0 → a.tmod b ≤ 0) := by
  constructor
  · intro h; exact Int.tmod_nonneg b h
  · intro h
    have := Int.tmod_nonneg b (show 0 ≤ -a by omega)
    rw [Int.neg_tmod] at this
    omega
end Go.Proofs.YtoiglopilpoafaaGreatDoor.D

namespace Go.Proofs.YtoiglopilpoafaaGreatDoor.D
open Go.RowKit
set_option linter.unusedSimpArgs false
set_option linter.unusedVariables false
end Go.Proofs.YtoiglopilpoafaaGreatDoor.D

namespace Go.Proofs.YtoiglopilpoafaaGreatDoor.D
open Go.RowKit
set_option linter.unusedSimpArgs false
set_option linter.unusedVariables false

/-- What was there is as it was. -/
def Kb (w w' : World) : Prop := w.keptBut w' (fun _ => False) ∧ w.heap.size ≤ w'.heap.size
theorem Kb.refl (w : World) : Kb w w := ⟨World.keptBut_refl _ _, Nat.le_refl _⟩
theorem Kb.trans {a b c : World} (h : Kb a b) (g : Kb b c) : Kb a c := ⟨World.keptBut_trans h.1 g.1, Nat.le_trans h.2 g.2⟩
theorem Kb.of_grown {a b : World} (h : Grown a b) : Kb a b := ⟨h.1, h.2.2⟩
/-- The library's table of powers of ten reads as laid. -/
def Tab (w : World) : Prop := Lib.TabIs Tryz.prog w "internal/strconv.uint64pow10" .u64 Lib.pow10Tab

theorem kb_grow (w : World) (k : Nat) (os : Array Obj) : Kb w (Sort.grow (w.drewN k) os) := by
  refine ⟨⟨rfl, rfl, fun i hi => ?_⟩, by simp [Sort.grow, World.drewN]⟩
  have e : (Sort.grow (w.drewN k) os).heap[i]? = w.heap[i]? := by
    show (w.heap ++ os)[i]? = _
    rw [Array.getElem?_append_left hi]
  rw [e]
  cases w.heap[i]? with
  | none => rfl
  | some o => cases o <;> simp
theorem dec_any (v : Int) (hv : I64 v) (w : World) (ht : Tab w) :
    Calls Tryz.prog 108 #[.int .i64 v] w fun r w' => r = .returned (.string ⟨(Lib.itoa v).toArray⟩) ∧ Kb w w' := by
  have hi := Tryz.strconv_FormatInt_10 v hv.1 hv.2 w ht
  generalize Lib.itoa v = l at *
  go_enter Tryz.func108, Tryz.ntmps108
  go_wp2_with (go_at_call 115; refine hi.mono ?_; rintro e w' ⟨rfl, k, os, rfl⟩)
  go_ret
  exact ⟨rfl, kb_grow _ _ _⟩
end Go.Proofs.YtoiglopilpoafaaGreatDoor.D

namespace Go.Proofs.YtoiglopilpoafaaGreatDoor.D
open Go.RowKit
set_option linter.unusedSimpArgs false
set_option linter.unusedVariables false
end Go.Proofs.YtoiglopilpoafaaGreatDoor.D

namespace Go.Proofs.YtoiglopilpoafaaGreatDoor.D
open Go.RowKit
set_option linter.unusedSimpArgs false
set_option linter.unusedVariables false
end Go.Proofs.YtoiglopilpoafaaGreatDoor.D

namespace Go.Proofs.YtoiglopilpoafaaGreatDoor.D
open Go.RowKit
set_option linter.unusedSimpArgs false
set_option linter.unusedVariables false
end Go.Proofs.YtoiglopilpoafaaGreatDoor.D

namespace Go.Proofs.YtoiglopilpoafaaGreatDoor.D
open Go.RowKit
set_option linter.unusedSimpArgs false
set_option linter.unusedVariables false

theorem conv_back (w : World) (a : Addr) (n cap : Nat) (l : List UInt8) (hn : l.length = n) (hc : ∀ j (hj : j < l.length), w.cell? (a.add j) = some (.int .u8 (l[j].toNat : Int))) :
    (convert 30 9 (.slice (some a) n cap)).run Tryz.prog w = .ok (.string ⟨l.toArray⟩) w := by
  subst hn
  exact run_convert_bytes_back w 30 9 5 a cap l Tryz.underlying30 Tryz.underlying5 Tryz.underlying9 hc
theorem conv_one (W : World) (a : Addr) (c : Int) (h0 : 0 ≤ c) (h1 : c < 256) (hc : W.cell? a = some (.int .u8 c)) :
    (convert 30 9 (.slice (some a) 1 1)).run Tryz.prog W = .ok (.string ⟨#[UInt8.ofNat c.toNat]⟩) W := by
  refine conv_back W a 1 1 [UInt8.ofNat c.toNat] rfl ?_
  intro j hj
  obtain rfl : j = 0 := by simp at hj; omega
  have e : ((UInt8.ofNat c.toNat).toNat : Int) = c := by
    rw [UInt8.toNat_ofNat']
    omega
  simp only [List.getElem_cons_zero, e]
  simpa [Addr.add] using hc

theorem itoa_step (v D Q : Int) (h0 : 0 ≤ D) (h9 : D ≤ 9) (hQ : Q ≠ 0) (h : (0 ≤ v ∧ v = Q * 10 + D) ∨ (v < 0 ∧ v = Q * 10 - D ∧ Q < 0)) : Lib.itoa v = Lib.itoa Q ++ [UInt8.ofNat (48 + D).toNat] := by
  rcases h with ⟨h1, h2⟩ | ⟨h1, h2, h3⟩
  · unfold Lib.itoa
    rw [if_neg (by omega), if_neg (by omega), Lib.decDigits, dif_neg (by omega), show v.toNat / 10 = Q.toNat by omega, show 48 + v.toNat % 10 = (48 + D).toNat by omega]
  · unfold Lib.itoa
    rw [if_pos h1, if_pos h3, Lib.decDigits, dif_neg (by omega), show v.natAbs / 10 = Q.natAbs by omega, show 48 + v.natAbs % 10 = (48 + D).toNat by omega]
    rfl
theorem itoa_len (v : Int) (hv : I64 v) : (Lib.itoa v).length ≤ 100 ∧ (Lib.itoa v).isEmpty = false := by
  have key : ∀ (k n : Nat), n < 10 ^ (k + 1) → (Lib.decDigits n).length ≤ k + 1 := by
    intro k
    induction k with
    | zero => intro n h; rw [Lib.decDigits, dif_pos (by omega)]; simp
    | succ k ih =>
      intro n h
      rw [Lib.decDigits]
      split
      · simp
      · have := ih (n / 10) (by rw [Nat.pow_succ] at h; omega)
        simp
        omega
  obtain ⟨h0, h1⟩ := hv
  have h2 : (9223372036854775808 : Nat) < 10 ^ (19 + 1) := by decide
  have k1 := key 19 v.natAbs (by omega)
  have k2 := key 19 v.toNat (by omega)
  have d1 := (dec_facts v.toNat).2.2.1
  unfold Lib.itoa
  split
  · exact ⟨by simp; omega, rfl⟩
  · refine ⟨by omega, ?_⟩
    cases hc : Lib.decDigits v.toNat with
    | nil => rw [hc] at d1; simp at d1
    | cons => rfl

end Go.Proofs.YtoiglopilpoafaaGreatDoor.D

namespace Go.Proofs.YtoiglopilpoafaaGreatDoor.Ty
open Go.RowKit
set_option linter.unusedSimpArgs false
set_option linter.unusedVariables false

def rightV (t b : Int) : Bool := if t = 1 then true else if t = 2 then F.Fl.canonS b == b else if t = 3 then decide (b ≤ 1) else false
def showS (t b : Int) : Bs := if t = 1 then Lib.itoa (wrap64 b) else if t = 2 then F.textS b else if t = 3 then truthS b else []
def fitsConst (i : It) : Bool := rightV i.typ i.bits && decide (i.params.length = 0)
/-- The first thing that is wrong with an item. -/
def rightI (i : It) : Int :=
  if i.kind ≠ 1 ∧ i.kind ≠ 3 then 1 else if N.rightS i.name ≠ 0 then N.rightS i.name else if 8 < i.params.length then 3
  else if i.kind = 1 then (if fitsConst i then 0 else 1) else (if fitsFn i then 0 else 1)
/-- An item's text. -/
def textI (i : It) : Bs :=
  if i.kind = 1 then [99, 111, 110, 115, 116, 32] ++ i.name ++ [58, 32] ++ nameS i.typ ++ [32, 61, 32] ++ showS i.typ i.bits
  else if i.kind = 3 then [102, 110, 32] ++ i.name ++ [40] ++ paramsS i.params ++ [41] ++ resultS i.typ else []
theorem tab_fr {w w' : World} (h : F.Tab w) (hf : Fr (fun _ => False) w w') : F.Tab w' := F.tab_kb h ⟨hf.kept, hf.size⟩
theorem kb_fr {w w' : World} (h : F.Kb w w') : Fr (fun _ => False) w w' := fr_of_kept h.1 h.2
theorem kb_frD {w w' : World} (h : D.Kb w w') : Fr (fun _ => False) w w' := fr_of_kept h.1 h.2
end Go.Proofs.YtoiglopilpoafaaGreatDoor.Ty
