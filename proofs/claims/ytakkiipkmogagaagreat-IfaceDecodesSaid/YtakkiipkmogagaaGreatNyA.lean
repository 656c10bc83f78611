/- Texts NyNmMem, NyNmSet, NyNmTx, NyNmLet, NyNmName, NyNmRight, NyNmRight2, NyNmCmp. -/
import Derived.Test.YtakkiipkmogagaaGreatRows
import Derived.WalkKit
import Derived.WalkSpells
import Derived.WalkLawsBesides
import Derived.ProofKit
import Derived.RowKit3
import Derived.Laws.AppendOwn
import Derived.Laws.AppendOwnNone
import Derived.Maps.AppendAt
import Derived.Laws.Rows
import Derived.OwnWalk
import Derived.Deep.LoopGhost
import Derived.Deep.DeepCutAuto
import Derived.Lib.SlicesCompact
import Derived.Sort.EncStr
import Derived.Deep.RegionWith
import Derived.Sort.Walk0
import Derived.Shelf.SlSorted.Search
namespace Go.Proofs.YtakkiipkmogagaaGreat.N
open Go.RowKit
set_option linter.unusedSimpArgs false
set_option linter.unusedVariables false

/-- A fact kept from the walk. -/
def Hidden (p : Prop) : Prop := p
theorem alloc_old (w : World) (o : Obj) (k : Nat) (h : k < w.heap.size) : (w.alloc o).heap[k]? = w.heap[k]? := by
  show (w.heap.push o)[k]? = _
  rw [Array.getElem?_push_lt h]
  exact (Array.getElem?_eq_getElem h).symm
theorem alloc_new (w : World) (o : Obj) : (w.alloc o).heap[w.heap.size]? = some o := by
  show (w.heap.push o)[w.heap.size]? = _
  simp

/-- All blocks that were there, but for some, are as they were. -/
structure Fr (S : Nat → Prop) (w w' : World) : Prop where
  os : w'.os = w.os
  output : w'.output = w.output
  size : w.heap.size ≤ w'.heap.size
  block : ∀ k, k < w.heap.size → ¬ S k → w'.heap[k]? = w.heap[k]?

theorem Fr.refl (S : Nat → Prop) (w : World) : Fr S w w := ⟨rfl, rfl, Nat.le_refl _, fun _ _ _ => rfl⟩
theorem Fr.trans {S T : Nat → Prop} {a b c : World} (h : Fr S a b) (g : Fr T b c) (hT : ∀ k, k < a.heap.size → T k → S k) : Fr S a c :=
  ⟨g.os.trans h.os, g.output.trans h.output, Nat.le_trans h.size g.size, fun k hk hn =>
    (g.block k (Nat.lt_of_lt_of_le hk h.size) (fun t => hn (hT k hk t))).trans (h.block k hk hn)⟩
theorem Fr.mono {S T : Nat → Prop} {a b : World} (h : Fr S a b) (hT : ∀ k, k < a.heap.size → S k → T k) : Fr T a b :=
  ⟨h.os, h.output, h.size, fun k hk hn => h.block k hk (fun t => hn (hT k hk t))⟩
theorem Fr.alloc (S : Nat → Prop) (w : World) (o : Obj) : Fr S w (w.alloc o) := ⟨rfl, rfl, by simp, fun k hk _ => alloc_old w o k hk⟩
theorem Fr.kept {w w' : World} (h : Fr (fun _ => False) w w') : w.keptBut w' (fun _ => False) :=
  ⟨h.os, h.output, fun i hi => by
    rw [h.block i hi (fun f => f)]
    cases w.heap[i]? with
    | none => rfl
    | some o => cases o <;> simp⟩
theorem Fr.cell {S : Nat → Prop} {w w' : World} (h : Fr S w w') {a : Addr} {v : Value} (hc : w.cell? a = some v) (hn : ¬ S a.block) : w'.cell? a = some v :=
  (World.cell?_of_block (h.block a.block (World.block_lt_of_cell? w a hc) hn)).trans hc
theorem lt_of_heap {w : World} {k : Nat} {o : Obj} (h : w.heap[k]? = some o) : k < w.heap.size := (Array.getElem?_eq_some_iff.1 h).1
theorem Fr.heap {S : Nat → Prop} {w w' : World} (h : Fr S w w') {k : Nat} {o : Obj} (hc : w.heap[k]? = some o) (hn : ¬ S k) : w'.heap[k]? = some o :=
  (h.block k (lt_of_heap hc) hn).trans hc

/-- A slice of one-cell elements, and what they hold. -/
def Sl (w : World) (v : Value) (xs : List Value) : Prop :=
  ∃ ao cap, v = .slice ao xs.length cap ∧ xs.length ≤ cap ∧ cap ≤ maxLen ∧ (ao = none → cap = 0) ∧
    (xs = [] ∨ ∃ b off, ao = some ⟨b, off, none⟩ ∧ ∀ (i : Nat) (x : Value), xs[i]? = some x → w.cell? ⟨b, off + i, none⟩ = some x)

theorem Sl.nil (w : World) : Sl w (.slice none 0 0) [] := ⟨none, 0, rfl, by simp, by simp, fun _ => rfl, Or.inl rfl⟩
end Go.Proofs.YtakkiipkmogagaaGreat.N

namespace Go.Proofs.YtakkiipkmogagaaGreat.N
set_option linter.unusedSimpArgs false
set_option linter.unusedVariables false

abbrev Str := List UInt8
end Go.Proofs.YtakkiipkmogagaaGreat.N

namespace Go.Proofs.YtakkiipkmogagaaGreat.N
open Go.RowKit Go.Sort
set_option linter.unusedSimpArgs false
set_option linter.unusedVariables false

/-- A list of texts that can be read at v. -/
def Tl (w : World) (v : Value) (l : List Str) : Prop :=
  ∃ ao cap, v = .slice ao l.length cap ∧ l.length ≤ cap ∧ cap ≤ 9223372036854775807 ∧ (ao = none → cap = 0) ∧
    (l = [] ∨ ∃ b off, ao = some ⟨b, off, none⟩ ∧ ∀ (i : Nat) (x : Str), l[i]? = some x → w.cell? ⟨b, off + i, none⟩ = some (encStr x))
/-- A list of texts in memory of the call's own, which may be written. -/
def Tn (w : World) (B : Nat) (v : Value) (l : List Str) : Prop :=
  ∃ ao cap, v = .slice ao l.length cap ∧ l.length ≤ cap ∧ cap ≤ 9223372036854775807 ∧ (ao = none → cap = 0) ∧
    (l = [] ∨ ∃ b off, ao = some ⟨b, off, none⟩ ∧ B ≤ b ∧ b < w.heap.size ∧ Holds encStr w b off l.toArray)

theorem Tn.tl {w : World} {B : Nat} {v : Value} {l : List Str} (h : Tn w B v l) : Tl w v l := by
  obtain ⟨ao, cap, rfl, h1, h2, h3, h4⟩ := h
  refine ⟨ao, cap, rfl, h1, h2, h3, ?_⟩
  rcases h4 with h4 | ⟨b, off, rfl, hB, hb, hH⟩
  · exact Or.inl h4
  · refine Or.inr ⟨b, off, rfl, fun i x hx => ?_⟩
    obtain ⟨hi, e⟩ := List.getElem?_eq_some_iff.1 hx
    have := (hH i (by simpa using hi)).1
    rw [this, getElem!_pos _ i (by simpa using hi)]
    simp [e]
/-- What lies in memory from ahead is apart from what is new. -/
theorem Tl.nil (w : World) : Tl w (.slice none 0 0) [] := ⟨none, 0, rfl, by simp, by simp, fun _ => rfl, Or.inl rfl⟩
end Go.Proofs.YtakkiipkmogagaaGreat.N

namespace Go.Proofs.YtakkiipkmogagaaGreat.N
open Go.RowKit Go.Sort
set_option linter.unusedSimpArgs false
set_option linter.unusedVariables false

def letB (n : Nat) : Bool := (decide (97 ≤ n) && decide (n ≤ 122)) || (decide (65 ≤ n) && decide (n ≤ 90)) || n == 95
def digB (n : Nat) : Bool := decide (48 ≤ n) && decide (n ≤ 57)

theorem ret_bool {a b : Bool} (h : a = true ↔ b = true) : Ending.returned (.bool a) = .returned (.bool b) := by rw [Bool.eq_iff_iff.2 h]

theorem letter_any (n : Nat) (r : Bool) (hr : Hidden (letB n = r)) (w : World) :
    Calls Tryz.prog 98 #[.int .u8 (n : Int)] w fun e w' => e = .returned (.bool r) ∧ w' = w := by
  go_enter Tryz.func98, Tryz.ntmps98
  go_wp2
  all_goals (go_ret; refine ⟨?_, rfl⟩; rw [← (show letB n = r from hr)]; clear hr; refine ret_bool ?_; simp [letB]; try omega)
theorem digit_any (n : Nat) (r : Bool) (hr : Hidden (digB n = r)) (w : World) :
    Calls Tryz.prog 99 #[.int .u8 (n : Int)] w fun e w' => e = .returned (.bool r) ∧ w' = w := by
  go_enter Tryz.func99, Tryz.ntmps99
  go_wp2
  all_goals (go_ret; refine ⟨?_, rfl⟩; rw [← (show digB n = r from hr)]; clear hr; refine ret_bool ?_; simp [digB]; try omega)
theorem rletter_any (n : Nat) (r : Bool) (hr : Hidden (letB n = r)) (w : World) :
    Calls Tryz.prog 69 #[.int .u8 (n : Int)] w fun e w' => e = .returned (.bool r) ∧ w' = w := by
  go_enter Tryz.func69, Tryz.ntmps69
  go_wp2
  all_goals (go_ret; refine ⟨?_, rfl⟩; rw [← (show letB n = r from hr)]; clear hr; refine ret_bool ?_; simp [letB]; try omega)
theorem rdigit_any (n : Nat) (r : Bool) (hr : Hidden (digB n = r)) (w : World) :
    Calls Tryz.prog 70 #[.int .u8 (n : Int)] w fun e w' => e = .returned (.bool r) ∧ w' = w := by
  go_enter Tryz.func70, Tryz.ntmps70
  go_wp2
  all_goals (go_ret; refine ⟨?_, rfl⟩; rw [← (show digB n = r from hr)]; clear hr; refine ret_bool ?_; simp [digB]; try omega)
end Go.Proofs.YtakkiipkmogagaaGreat.N

namespace Go.Proofs.YtakkiipkmogagaaGreat.N
open Go.RowKit Go.Sort
set_option linter.unusedSimpArgs false
set_option linter.unusedVariables false

theorem str_len (t : List UInt8) : ((⟨t.toArray⟩ : ByteArray).size : Int) = (t.length : Int) := by simp [ByteArray.size]
theorem str_index (l : List UInt8) (k : Nat) (c : UInt8) (h : l[k]? = some c) (w : World) :
    (Instr.index 9 (.string ⟨l.toArray⟩) (.int .i64 (k : Int))).run Tryz.prog w = .ok (.int .u8 (c.toNat : Int)) w := by
  obtain ⟨hk, hc⟩ := List.getElem?_eq_some_iff.1 h
  have hs : k < (⟨l.toArray⟩ : ByteArray).size := by simpa [ByteArray.size] using hk
  rw [run_index_string _ _ _ _ _ Tryz.underlying9, dif_pos ⟨by omega, by omega⟩]
  have e : (⟨l.toArray⟩ : ByteArray)[k]'hs = c := by
    show l.toArray[k] = c
    simpa using hc
  simp only [Int.toNat_natCast]
  rw [e]
theorem drop_at {α : Type} {l : List α} {j : Nat} {c : α} (h : l[j]? = some c) : l.drop j = c :: l.drop (j + 1) := by
  obtain ⟨hj, rfl⟩ := List.getElem?_eq_some_iff.1 h
  exact List.drop_eq_getElem_cons hj

theorem frozen_of_row {w : World} {g : Nat} {cur : Array Value} {e : TypeId} (h : w.heap[g]? = some (.cells cur e (0, 0))) (j : Nat) : w.frozen? ⟨g, j, none⟩ = false := by simp [World.frozen?, h]

/-- The reserved words. -/
def wordsL : List Str := [[98, 111, 111, 108], [99, 97, 116, 99, 104], [99, 111, 110, 115, 116], [101, 108, 115, 101], [101, 120, 112, 111, 114, 116], [102, 97, 105, 108], [102, 97, 108, 115, 101], [102, 108, 111, 97, 116], [102, 110], [105, 102], [105, 109, 112, 111, 114, 116], [105, 110, 102], [105, 110, 112, 117, 116], [105, 110, 116], [108, 101, 116], [109, 111, 100, 117, 108, 101], [110, 97, 110], [114, 101, 116, 117, 114, 110], [115, 104, 111, 119], [116, 114, 117, 101], [116, 114, 121], [118, 97, 114], [119, 104, 105, 108, 101]]

theorem rwords_any (w : World) :
    Calls Tryz.prog 107 #[] w fun e w' => e = .returned (.slice (some ⟨w.heap.size, 0, none⟩) 23 23) ∧ w' = w.alloc (.cells (wordsL.map encStr).toArray 9) := by
  go_enter Tryz.func107, Tryz.ntmps107
  go_wp2
  go_ret
  exact ⟨rfl, rfl⟩
theorem Tn.words (w : World) : Tn (w.alloc (.cells (wordsL.map encStr).toArray 9)) w.heap.size (.slice (some ⟨w.heap.size, 0, none⟩) 23 23) wordsL := by
  refine ⟨_, 23, rfl, by decide, by omega, (fun h => by cases h), Or.inr ⟨w.heap.size, 0, rfl, Nat.le_refl _, by simp, fun j hj => ?_⟩⟩
  have hb := alloc_new w (.cells (wordsL.map encStr).toArray 9)
  have hj' : j < wordsL.length := by simpa using hj
  constructor
  · rw [Nat.zero_add, cell_of_row _ _ _ _ _ _ hb, getElem!_pos _ j hj]
    simp [hj']
  · exact frozen_of_row hb _

def okAt (i : Nat) (c : UInt8) : Bool := letB c.toNat || (i != 0 && digB c.toNat)
def speltGo : List UInt8 → Nat → Bool
  | [], _ => true
  | c :: r, i => okAt i c && speltGo r (i + 1)
def speltS (s : Str) : Bool := speltGo s 0 && !s.isEmpty

set_option maxHeartbeats 400000 in
theorem spelt_walk (l : Str) (v : Bool) (hl : l.length ≤ 9223372036854775807) (hv : Hidden (speltGo l 0 = v)) (w : World) :
    Calls Tryz.prog 64 #[.string ⟨l.toArray⟩] w fun e w' => e = .returned (.bool (v && !l.isEmpty)) ∧ w' = w := by
  have hs := str_len l
  go_enter Tryz.func64, Tryz.ntmps64
  go_wp2
  go_loopg [6] l.length (fun k iv wr => ∃ j : Nat, iv = .int .i64 (j : Int) ∧ j ≤ l.length ∧ speltGo (l.drop j) j = v ∧ k = l.length - j ∧ wr = w)
  case atStart => exact ⟨0, rfl, by omega, hv, rfl, rfl⟩
  case round =>
    obtain ⟨j, rfl, hj, hf, hgk, rfl⟩ := hrel
    have hgkH : Hidden (gk = l.length - j) := hgk
    clear hgk
    by_cases hjl : j < l.length
    · obtain ⟨c, hc⟩ : ∃ c, l[j]? = some c := ⟨l[j], List.getElem?_eq_getElem hjl⟩
      rw [drop_at hc, speltGo] at hf
      have hx := str_index l j c hc
      have kl := letter_any c.toNat _ rfl
      have kd := digit_any c.toNat _ rfl
      have hno : l.isEmpty = false := by cases l with
        | nil => simp at hc
        | cons a b => rfl
      unfold okAt at hf
      obtain ⟨m, hm⟩ : ∃ m, c.toNat = m := ⟨_, rfl⟩
      rw [hm] at hx kl kd hf
      clear hm hc hv
      cases hlt : letB m
      · rw [hlt] at kl hf
        clear hlt
        cases hdg : digB m
        · rw [hdg] at kd hf
          simp only [Bool.false_or, Bool.and_false, Bool.false_and] at hf
          subst hf
          clear hdg
          by_cases h0 : j = 0
          · have h0' : ((j : Int) == 0) = true := by simp [h0]
            clear h0
            go_wp2_with (first | (go_at_call 98; refine (kl _).mono ?_; rintro e w' ⟨rfl, rfl⟩) | (go_at_call 99; refine (kd _).mono ?_; rintro e w' ⟨rfl, rfl⟩))
            go_ret
            exact ⟨rfl, rfl⟩
          · have h0' : ((j : Int) == 0) = false := by simp; omega
            go_wp2_with (first | (go_at_call 98; refine (kl _).mono ?_; rintro e w' ⟨rfl, rfl⟩) | (go_at_call 99; refine (kd _).mono ?_; rintro e w' ⟨rfl, rfl⟩))
            go_ret
            exact ⟨rfl, rfl⟩
        · rw [hdg] at kd hf
          simp only [Bool.false_or, Bool.and_true] at hf
          clear hdg
          by_cases h0 : j = 0
          · have h0' : ((j : Int) == 0) = true := by simp [h0]
            have h00 : (j != 0) = false := by simp [h0]
            rw [h00, Bool.false_and] at hf
            subst hf
            clear h0 h00
            go_wp2_with (first | (go_at_call 98; refine (kl _).mono ?_; rintro e w' ⟨rfl, rfl⟩) | (go_at_call 99; refine (kd _).mono ?_; rintro e w' ⟨rfl, rfl⟩))
            go_ret
            exact ⟨rfl, rfl⟩
          · have h0' : ((j : Int) == 0) = false := by simp; omega
            have h00 : (j != 0) = true := by simp [h0]
            rw [h00, Bool.true_and] at hf
            have hfH : Hidden (speltGo (l.drop (j + 1)) (j + 1) = v) := hf
            clear hf h00
            go_wp2_with (first | (go_at_call 98; refine (kl _).mono ?_; rintro e w' ⟨rfl, rfl⟩) | (go_at_call 99; refine (kd _).mono ?_; rintro e w' ⟨rfl, rfl⟩))
            go_roundg (l.length - (j + 1))
            case measure =>
              have : gk = l.length - j := hgkH
              omega
            case rel => exact ⟨j + 1, by go_num, by omega, hfH, rfl, rfl⟩
      · rw [hlt] at kl hf
        simp only [Bool.true_or, Bool.true_and] at hf
        have hfH : Hidden (speltGo (l.drop (j + 1)) (j + 1) = v) := hf
        clear hf hlt
        go_wp2_with (first | (go_at_call 98; refine (kl _).mono ?_; rintro e w' ⟨rfl, rfl⟩) | (go_at_call 99; refine (kd _).mono ?_; rintro e w' ⟨rfl, rfl⟩))
        go_roundg (l.length - (j + 1))
        case measure =>
          have : gk = l.length - j := hgkH
          omega
        case rel => exact ⟨j + 1, by go_num, by omega, hfH, rfl, rfl⟩
    · obtain rfl : j = l.length := by omega
      rw [List.drop_length] at hf
      obtain rfl : true = v := hf
      clear hv
      go_wp2
      go_ret
      refine ⟨?_, rfl⟩
      cases l with
      | nil => rfl
      | cons a b => rfl
theorem spelt_any (l : Str) (v : Bool) (hv : speltS l = v) (hl : l.length ≤ 9223372036854775807) (w : World) :
    Calls Tryz.prog 64 #[.string ⟨l.toArray⟩] w fun e w' => e = .returned (.bool v) ∧ w' = w := hv ▸ spelt_walk l _ hl rfl w

set_option maxRecDepth 20000 in
set_option maxHeartbeats 1000000 in
theorem reserved_in (s : Str) (h : s ∈ wordsL) (w : World) :
    Calls Tryz.prog 65 #[.string ⟨s.toArray⟩] w fun e w' => e = .returned (.bool true) ∧ w' = w := by
  simp only [wordsL, List.mem_cons, List.not_mem_nil, or_false] at h
  rcases h with rfl | rfl | rfl | rfl | rfl | rfl | rfl | rfl | rfl | rfl | rfl | rfl | rfl | rfl | rfl | rfl | rfl | rfl | rfl | rfl | rfl | rfl | rfl
  all_goals
    go_enter Tryz.func65, Tryz.ntmps65
    go_wp2
    go_ret
    exact ⟨rfl, rfl⟩

set_option maxRecDepth 20000 in
set_option maxHeartbeats 1000000 in
theorem reserved_out (s : Str) (h : s ∉ wordsL) (w : World) :
    Calls Tryz.prog 65 #[.string ⟨s.toArray⟩] w fun e w' => e = .returned (.bool false) ∧ w' = w := by
  have h0 : (s == [98, 111, 111, 108]) = false := beq_eq_false_iff_ne.2 (fun e => h (e ▸ (by decide)))
  have h1 : (s == [99, 97, 116, 99, 104]) = false := beq_eq_false_iff_ne.2 (fun e => h (e ▸ (by decide)))
  have h2 : (s == [99, 111, 110, 115, 116]) = false := beq_eq_false_iff_ne.2 (fun e => h (e ▸ (by decide)))
  have h3 : (s == [101, 108, 115, 101]) = false := beq_eq_false_iff_ne.2 (fun e => h (e ▸ (by decide)))
  have h4 : (s == [101, 120, 112, 111, 114, 116]) = false := beq_eq_false_iff_ne.2 (fun e => h (e ▸ (by decide)))
  have h5 : (s == [102, 97, 105, 108]) = false := beq_eq_false_iff_ne.2 (fun e => h (e ▸ (by decide)))
  have h6 : (s == [102, 97, 108, 115, 101]) = false := beq_eq_false_iff_ne.2 (fun e => h (e ▸ (by decide)))
  have h7 : (s == [102, 108, 111, 97, 116]) = false := beq_eq_false_iff_ne.2 (fun e => h (e ▸ (by decide)))
  have h8 : (s == [102, 110]) = false := beq_eq_false_iff_ne.2 (fun e => h (e ▸ (by decide)))
  have h9 : (s == [105, 102]) = false := beq_eq_false_iff_ne.2 (fun e => h (e ▸ (by decide)))
  have h10 : (s == [105, 109, 112, 111, 114, 116]) = false := beq_eq_false_iff_ne.2 (fun e => h (e ▸ (by decide)))
  have h11 : (s == [105, 110, 102]) = false := beq_eq_false_iff_ne.2 (fun e => h (e ▸ (by decide)))
  have h12 : (s == [105, 110, 112, 117, 116]) = false := beq_eq_false_iff_ne.2 (fun e => h (e ▸ (by decide)))
  have h13 : (s == [105, 110, 116]) = false := beq_eq_false_iff_ne.2 (fun e => h (e ▸ (by decide)))
  have h14 : (s == [108, 101, 116]) = false := beq_eq_false_iff_ne.2 (fun e => h (e ▸ (by decide)))
  have h15 : (s == [109, 111, 100, 117, 108, 101]) = false := beq_eq_false_iff_ne.2 (fun e => h (e ▸ (by decide)))
  have h16 : (s == [110, 97, 110]) = false := beq_eq_false_iff_ne.2 (fun e => h (e ▸ (by decide)))
  have h17 : (s == [114, 101, 116, 117, 114, 110]) = false := beq_eq_false_iff_ne.2 (fun e => h (e ▸ (by decide)))
  have h18 : (s == [115, 104, 111, 119]) = false := beq_eq_false_iff_ne.2 (fun e => h (e ▸ (by decide)))
  have h19 : (s == [116, 114, 117, 101]) = false := beq_eq_false_iff_ne.2 (fun e => h (e ▸ (by decide)))
  have h20 : (s == [116, 114, 121]) = false := beq_eq_false_iff_ne.2 (fun e => h (e ▸ (by decide)))
  have h21 : (s == [118, 97, 114]) = false := beq_eq_false_iff_ne.2 (fun e => h (e ▸ (by decide)))
  have h22 : (s == [119, 104, 105, 108, 101]) = false := beq_eq_false_iff_ne.2 (fun e => h (e ▸ (by decide)))
  clear h
  go_enter Tryz.func65, Tryz.ntmps65
  go_wp2
  go_ret
  exact ⟨rfl, rfl⟩
theorem reserved_any (s : Str) (r : Bool) (hr : decide (s ∈ wordsL) = r) (w : World) :
    Calls Tryz.prog 65 #[.string ⟨s.toArray⟩] w fun e w' => e = .returned (.bool r) ∧ w' = w := by
  subst hr
  by_cases h : s ∈ wordsL
  · rw [decide_eq_true h]; exact reserved_in s h w
  · rw [decide_eq_false h]; exact reserved_out s h w
end Go.Proofs.YtakkiipkmogagaaGreat.N

namespace Go.Proofs.YtakkiipkmogagaaGreat.N
open Go.RowKit Go.Sort
set_option linter.unusedSimpArgs false
set_option linter.unusedVariables false

/-- The least place of s, from a place on. -/
def idxGo (s : Str) : List Str → Nat → Int
  | [], _ => -1
  | x :: r, i => if x = s then (i : Int) else idxGo s r (i + 1)
def findGo (s : Str) : List Str → Nat → Int × Bool
  | [], _ => (0, false)
  | x :: r, i => if x = s then ((i : Int), true) else findGo s r (i + 1)
def findS (l : List Str) (s : Str) : Int × Bool := findGo s l 0
theorem findGo_spec (s : Str) : ∀ (l : List Str) (i : Nat), (s ∉ l ∧ findGo s l i = (0, false) ∧ idxGo s l i = -1) ∨ ∃ k : Nat, l[k]? = some s ∧ findGo s l i = (((i + k : Nat) : Int), true) ∧ idxGo s l i = ((i + k : Nat) : Int)
  | [], i => Or.inl ⟨by simp, rfl, rfl⟩
  | x :: r, i => by
    unfold findGo idxGo
    by_cases h : x = s
    · rw [if_pos h, if_pos h]
      exact Or.inr ⟨0, by simp [h], by simp, by simp⟩
    · rw [if_neg h, if_neg h]
      rcases findGo_spec s r (i + 1) with ⟨h1, h2, h3⟩ | ⟨k, h1, h2, h3⟩
      · exact Or.inl ⟨by simp [h1, Ne.symm h], h2, h3⟩
      · exact Or.inr ⟨k + 1, by simpa using h1, by rw [h2]; congr 2; omega, by rw [h3]; congr 1; omega⟩
theorem findS_spec (l : List Str) (s : Str) : (s ∉ l ∧ findS l s = (0, false) ∧ idxGo s l 0 = -1) ∨ ∃ k : Nat, l[k]? = some s ∧ findS l s = ((k : Int), true) ∧ idxGo s l 0 = (k : Int) := by
  have := findGo_spec s l 0
  simp only [Nat.zero_add] at this
  exact this
theorem findS_mem (l : List Str) (s : Str) : (findS l s).2 = decide (s ∈ l) := by
  rcases findS_spec l s with ⟨h1, h2, _⟩ | ⟨k, h1, h2, _⟩
  · rw [h2]; simp [h1]
  · rw [h2, decide_eq_true (List.mem_of_getElem? h1)]

set_option maxHeartbeats 400000 in
theorem rfind_walk (ao : Option Addr) (n cap : Nat) (l : List Str) (s : Str) (R : Int × Bool) (w : World) (hn : Hidden (l.length = n)) (h1 : n ≤ cap) (h2 : cap ≤ 9223372036854775807)
    (ha : Hidden (l = [] ∨ ∃ b off, ao = some ⟨b, off, none⟩ ∧ ∀ (i : Nat) (x : Str), l[i]? = some x → w.cell? ⟨b, off + i, none⟩ = some (encStr x))) (hR : Hidden (findGo s l 0 = R)) :
    Calls Tryz.prog 106 #[.slice ao n cap, .string ⟨s.toArray⟩] w fun e w' => e = .returned (.tuple #[.int .i64 R.1, .bool R.2]) ∧ w' = w := by
  go_enter Tryz.func106, Tryz.ntmps106
  go_wp2
  go_loopg [6] n (fun k iv wr => ∃ j : Nat, iv = .int .i64 (j : Int) ∧ j ≤ n ∧ k = n - j ∧ wr = w ∧ findGo s (l.drop j) j = R)
  case atStart => exact ⟨0, rfl, by omega, rfl, rfl, hR⟩
  case round =>
    obtain ⟨j, rfl, hj, hk, rfl, hf⟩ := hrel
    have hkH : Hidden (gk = n - j) := hk
    have hn' : l.length = n := hn
    clear hk hR
    by_cases hjl : j < n
    · obtain ⟨x, hx⟩ : ∃ x, l[j]? = some x := ⟨l[j], List.getElem?_eq_getElem (by omega)⟩
      rcases (show l = [] ∨ _ from ha) with h0 | ⟨b, o, rfl, hc⟩
      · rw [h0] at hx; simp at hx
      have c1 := hc j x hx
      rw [drop_at hx, findGo] at hf
      clear hc hn' hx
      by_cases hxs : x = s
      · subst hxs
        rw [if_pos rfl] at hf
        subst hf
        go_wp2
        go_ret2
        exact ⟨rfl, rfl⟩
      · rw [if_neg hxs] at hf
        have hne : (x == s) = false := beq_eq_false_iff_ne.2 hxs
        have hfH : Hidden (findGo s (l.drop (j + 1)) (j + 1) = R) := hf
        clear hf hxs
        go_wp2
        go_roundg (n - (j + 1))
        case measure => have := (show gk = n - j from hkH); omega
        case rel => exact ⟨j + 1, by go_num, by omega, rfl, rfl, hfH⟩
    · obtain rfl : j = n := by omega
      rw [List.drop_eq_nil_of_le (by omega)] at hf
      obtain rfl : (0, false) = R := hf
      clear hn'
      go_wp2
      go_ret2
      exact ⟨rfl, rfl⟩
theorem rfind_any (v : Value) (l : List Str) (s : Str) (R : Int × Bool) (hR : findS l s = R) (w : World) (h : Tl w v l) :
    Calls Tryz.prog 106 #[v, .string ⟨s.toArray⟩] w fun e w' => e = .returned (.tuple #[.int .i64 R.1, .bool R.2]) ∧ w' = w := by
  obtain ⟨ao, cap, rfl, h1, h2, h3, h4⟩ := h
  exact rfind_walk ao _ cap l s R w rfl h1 h2 h4 hR
theorem rreserved_any (s : Str) (r : Bool) (hr : decide (s ∈ wordsL) = r) (w : World) :
    Calls Tryz.prog 71 #[.string ⟨s.toArray⟩] w fun e w' => e = .returned (.bool r) ∧ Fr (fun _ => False) w w' := by
  have kf := rfind_any _ wordsL s _ rfl _ (Tn.words w).tl
  rw [← hr, ← findS_mem]
  go_enter Tryz.func71, Tryz.ntmps71
  go_wp2_with (first
    | (go_at_call 107; refine (rwords_any _).mono ?_; rintro e w' ⟨rfl, rfl⟩)
    | (go_at_call 106; refine kf.mono ?_; rintro e w' ⟨rfl, rfl⟩))
  go_ret
  exact ⟨rfl, Fr.alloc _ _ _⟩
/-- What Right answers. -/
def rightS (s : Str) : Int := if speltS s = true then (if 32 < s.length then 3 else if s ∈ wordsL then 12 else 0) else 12

theorem right_any (s : Str) (r : Int) (hr : rightS s = r) (hl : s.length ≤ 9223372036854775807) (w : World) :
    Calls Tryz.prog 32 #[.string ⟨s.toArray⟩] w fun e w' => e = .returned (.int .i64 r) ∧ w' = w := by
  have ks := spelt_any s _ rfl hl
  have hs := str_len s
  unfold rightS at hr
  cases hsp : speltS s
  · rw [hsp] at ks hr
    simp only [Bool.false_eq_true, if_false] at hr
    subst hr
    clear hsp
    go_enter Tryz.func32, Tryz.ntmps32
    go_wp2_with (go_at_call 64; refine (ks _).mono ?_; rintro e w' ⟨rfl, rfl⟩)
    go_ret
    exact ⟨rfl, rfl⟩
  · rw [hsp] at ks hr
    rw [if_pos rfl] at hr
    clear hsp
    by_cases h32 : 32 < s.length
    · rw [if_pos h32] at hr
      subst hr
      go_enter Tryz.func32, Tryz.ntmps32
      go_wp2_with (go_at_call 64; refine (ks _).mono ?_; rintro e w' ⟨rfl, rfl⟩)
      go_ret
      exact ⟨rfl, rfl⟩
    · rw [if_neg h32] at hr
      have kr := reserved_any s _ rfl
      by_cases hw : s ∈ wordsL
      · rw [if_pos hw] at hr
        rw [decide_eq_true hw] at kr
        subst hr
        clear hw
        go_enter Tryz.func32, Tryz.ntmps32
        go_wp2_with (first | (go_at_call 64; refine (ks _).mono ?_; rintro e w' ⟨rfl, rfl⟩) | (go_at_call 65; refine (kr _).mono ?_; rintro e w' ⟨rfl, rfl⟩))
        go_ret
        exact ⟨rfl, rfl⟩
      · rw [if_neg hw] at hr
        rw [decide_eq_false hw] at kr
        subst hr
        clear hw
        go_enter Tryz.func32, Tryz.ntmps32
        go_wp2_with (first | (go_at_call 64; refine (ks _).mono ?_; rintro e w' ⟨rfl, rfl⟩) | (go_at_call 65; refine (kr _).mono ?_; rintro e w' ⟨rfl, rfl⟩))
        go_ret
        exact ⟨rfl, rfl⟩
end Go.Proofs.YtakkiipkmogagaaGreat.N

namespace Go.Proofs.YtakkiipkmogagaaGreat.N
open Go.RowKit Go.Sort
set_option linter.unusedSimpArgs false
set_option linter.unusedVariables false

def ld (c : UInt8) : Bool := letB c.toNat || digB c.toNat
theorem speltGo_all : ∀ (r : Str) (i : Nat), speltGo r (i + 1) = r.all ld
  | [], _ => rfl
  | c :: r, i => by
    rw [speltGo, speltGo_all r (i + 1), List.all_cons]
    rfl
theorem spelt_cons (s : Str) (c : UInt8) (h : s[0]? = some c) : speltS s = (letB c.toNat && s.all ld) := by
  cases s with
  | nil => simp at h
  | cons d r =>
    have : d = c := by simpa using h
    subst this
    show (speltGo (d :: r) 0 && !(d :: r).isEmpty) = _
    rw [speltGo, speltGo_all, List.all_cons]
    show ((letB d.toNat || (0 != 0 && digB d.toNat)) && r.all ld && true) = (letB d.toNat && ((letB d.toNat || digB d.toNat) && r.all ld))
    cases letB d.toNat <;> simp
set_option maxHeartbeats 800000 in
theorem rright_walk (s : Str) (c0 : UInt8) (h0 : Hidden (s[0]? = some c0)) (hlet : letB c0.toNat = true) (v : Bool) (hv : Hidden (s.all ld = v)) (rs : Bool) (hrs : Hidden (decide (s ∈ wordsL) = rs)) (hl : s.length ≤ 9223372036854775807) (w : World) (r : Int)
    (hr : Hidden (r = if v = true then (if 32 < s.length then 3 else if rs = true then 12 else 0) else 12)) :
    Calls Tryz.prog 43 #[.string ⟨s.toArray⟩] w fun e w' => e = .returned (.int .i64 r) ∧ Fr (fun _ => False) w w' := by
  have hx0 : ∀ w, (Instr.index 9 (.string ⟨s.toArray⟩) (.int .i64 0)).run Tryz.prog w = .ok (.int .u8 (c0.toNat : Int)) w := str_index s 0 c0 h0
  have kl0 := rletter_any c0.toNat _ hlet
  have hne : ((s.length : Int) == 0) = false := by
    cases s with
    | nil => cases (show ([] : Str)[0]? = some c0 from h0)
    | cons a b => simp; omega
  have kr := rreserved_any s _ hrs
  obtain ⟨m0, hm0⟩ : ∃ m, c0.toNat = m := ⟨_, rfl⟩
  rw [hm0] at hx0 kl0
  clear hlet hm0
  have hs := str_len s
  go_enter Tryz.func43, Tryz.ntmps43
  go_wp2_with (go_at_call 69; refine (kl0 _).mono ?_; rintro e w1 ⟨rfl, rfl⟩)
  go_loopg [3] s.length (fun k iv wr => ∃ j : Nat, iv = .int .i64 (j : Int) ∧ j ≤ s.length ∧ k = s.length - j ∧ wr = w1 ∧ (s.drop j).all ld = v)
  case atStart => exact ⟨0, rfl, by omega, rfl, rfl, hv⟩
  case round =>
    obtain ⟨j, rfl, hj, hk, rfl, hf⟩ := hrel
    have hkH : Hidden (gk = s.length - j) := hk
    clear hk hv hx0 kl0 hne
    by_cases hjl : j < s.length
    · obtain ⟨c, hc⟩ : ∃ c, s[j]? = some c := ⟨s[j], List.getElem?_eq_getElem hjl⟩
      rw [drop_at hc, List.all_cons] at hf
      have hx := str_index s j c hc
      have kl := rletter_any c.toNat _ rfl
      have kd := rdigit_any c.toNat _ rfl
      unfold ld at hf
      obtain ⟨m, hm⟩ : ∃ m, c.toNat = m := ⟨_, rfl⟩
      rw [hm] at hx kl kd hf
      clear hm hc
      cases hlt : letB m
      · rw [hlt] at kl hf
        clear hlt
        cases hdg : digB m
        · rw [hdg] at kd hf
          simp only [Bool.false_or, Bool.false_and] at hf
          subst hf
          have hrr : Hidden (r = 12) := show r = 12 by have := (show r = _ from hr); simpa using this
          clear hdg
          go_wp2_with (first | (go_at_call 69; refine (kl _).mono ?_; rintro e w' ⟨rfl, rfl⟩) | (go_at_call 70; refine (kd _).mono ?_; rintro e w' ⟨rfl, rfl⟩))
          go_ret
          exact ⟨by rw [show r = 12 from hrr]; rfl, Fr.refl _ _⟩
        · rw [hdg] at kd hf
          simp only [Bool.false_or, Bool.true_and] at hf
          have hfH : Hidden ((s.drop (j + 1)).all ld = v) := hf
          clear hdg hf
          go_wp2_with (first | (go_at_call 69; refine (kl _).mono ?_; rintro e w' ⟨rfl, rfl⟩) | (go_at_call 70; refine (kd _).mono ?_; rintro e w' ⟨rfl, rfl⟩))
          go_roundg (s.length - (j + 1))
          case measure => have := (show gk = s.length - j from hkH); omega
          case rel => exact ⟨j + 1, by go_num, by omega, rfl, rfl, hfH⟩
      · rw [hlt] at kl hf
        simp only [Bool.true_or, Bool.true_and] at hf
        have hfH : Hidden ((s.drop (j + 1)).all ld = v) := hf
        clear hlt hf
        go_wp2_with (first | (go_at_call 69; refine (kl _).mono ?_; rintro e w' ⟨rfl, rfl⟩) | (go_at_call 70; refine (kd _).mono ?_; rintro e w' ⟨rfl, rfl⟩))
        go_roundg (s.length - (j + 1))
        case measure => have := (show gk = s.length - j from hkH); omega
        case rel => exact ⟨j + 1, by go_num, by omega, rfl, rfl, hfH⟩
    · obtain rfl : j = s.length := by omega
      rw [List.drop_length] at hf
      obtain rfl : true = v := hf
      by_cases h32 : 32 < s.length
      · have hrr : Hidden (r = 3) := show r = 3 by have := (show r = _ from hr); simpa [h32] using this
        go_wp2_with (go_at_call 71; refine (kr _).mono ?_; rintro e w' ⟨rfl, hf⟩)
        go_ret
        exact ⟨by rw [show r = 3 from hrr]; rfl, Fr.refl _ _⟩
      · cases rs with
        | true =>
          have hrr : Hidden (r = 12) := show r = 12 by have := (show r = _ from hr); simpa [h32] using this
          go_wp2_with (go_at_call 71; refine (kr _).mono ?_; rintro e w' ⟨rfl, hf⟩)
          go_ret
          exact ⟨by rw [show r = 12 from hrr]; rfl, hf⟩
        | false =>
          have hrr : Hidden (r = 0) := show r = 0 by have := (show r = _ from hr); simpa [h32] using this
          go_wp2_with (go_at_call 71; refine (kr _).mono ?_; rintro e w' ⟨rfl, hf⟩)
          go_ret
          exact ⟨by rw [show r = 0 from hrr]; rfl, hf⟩

theorem rright_any (s : Str) (r : Int) (hr : rightS s = r) (hl : s.length ≤ 9223372036854775807) (w : World) :
    Calls Tryz.prog 43 #[.string ⟨s.toArray⟩] w fun e w' => e = .returned (.int .i64 r) ∧ Fr (fun _ => False) w w' := by
  by_cases hn : s = []
  · subst hn
    obtain rfl : 12 = r := hr
    go_enter Tryz.func43, Tryz.ntmps43
    go_wp2
    go_ret
    exact ⟨rfl, Fr.refl _ _⟩
  · obtain ⟨c, hc⟩ : ∃ c, s[0]? = some c := by
      cases s with
      | nil => exact absurd rfl hn
      | cons a b => exact ⟨a, rfl⟩
    have hsp := spelt_cons s c hc
    unfold rightS at hr
    rw [hsp] at hr
    cases hlet : letB c.toNat
    · rw [hlet] at hr
      simp only [Bool.false_and, Bool.false_eq_true, if_false] at hr
      subst hr
      have hx0 : ∀ w, (Instr.index 9 (.string ⟨s.toArray⟩) (.int .i64 0)).run Tryz.prog w = .ok (.int .u8 (c.toNat : Int)) w := str_index s 0 c hc
      have kl0 := rletter_any c.toNat _ hlet
      have hne : ((s.length : Int) == 0) = false := by
        cases s with
        | nil => exact absurd rfl hn
        | cons a b => simp; omega
      have hs := str_len s
      obtain ⟨m0, hm0⟩ : ∃ m, c.toNat = m := ⟨_, rfl⟩
      rw [hm0] at hx0 kl0
      clear hlet hm0 hc hsp hn
      go_enter Tryz.func43, Tryz.ntmps43
      go_wp2_with (go_at_call 69; refine (kl0 _).mono ?_; rintro e w' ⟨rfl, rfl⟩)
      go_ret
      exact ⟨rfl, Fr.refl _ _⟩
    · rw [hlet, Bool.true_and] at hr
      refine rright_walk s c hc hlet _ rfl _ rfl hl w r ?_
      show r = _
      rw [← hr]
      simp only [decide_eq_true_eq]
end Go.Proofs.YtakkiipkmogagaaGreat.N

namespace Go.Proofs.YtakkiipkmogagaaGreat.N
open Go.RowKit Go.Sort
set_option linter.unusedSimpArgs false
set_option linter.unusedVariables false

theorem append_str (a b : Str) : (⟨a.toArray⟩ : ByteArray) ++ ⟨b.toArray⟩ = ⟨(a ++ b).toArray⟩ := by
  rw [ByteArray.mk_append_mk]
end Go.Proofs.YtakkiipkmogagaaGreat.N
