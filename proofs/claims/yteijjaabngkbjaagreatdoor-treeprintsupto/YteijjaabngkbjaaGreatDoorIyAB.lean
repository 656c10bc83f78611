/- NyA Shelf Shelf2 IyA -/
import Derived.Test.YteijjaabngkbjaaGreatDoorRows
import Derived.WalkKit
import Derived.WalkSpells
import Derived.WalkLawsBesides
import Derived.ProofKit
import Derived.RowKit3
import Derived.Laws.AppendOwn
import Derived.Laws.AppendOwnNone
import Derived.Maps.AppendAt
import Derived.Laws.Rows
import Derived.OwnWalk
import Derived.Deep.LoopGhost
import Derived.Deep.DeepCutAuto
import Derived.Lib.SlicesCompact
import Derived.Sort.EncStr
import Derived.Deep.RegionWith
import Derived.Sort.Walk0
import Derived.Shelf.SlSorted.Search
import Derived.Shelf.Strings.Builder1
import Derived.Shelf.Small.Bits
import Derived.Shelf.Small.Strs
import Derived.Shelf.Small.Wraps
import Derived.Shelf.Strconv.Itoa0
import Derived.Shelf.Strconv.Itoa1
import Derived.Shelf.LaysM
import Derived.Shelf.Strconv.Itoa2
import Derived.Shelf.Strconv.Itoa3
import Derived.Shelf.Strconv.Itoa4
import Derived.Shelf.Strings.Search1
import Derived.Shelf.Strings.Search2
import Derived.Shelf.Strings.Prefix
import Derived.Shelf.Bits.Mul64
import Derived.Test.YteijjaabngkbjaaGreatDoorProg
import Derived.Lib.ItoaMem
import Derived.Laws.Externs
import Derived.Laws.BitsAllLaws
import Derived.Shelf.Spec.BitsCarry
import Derived.Laws.RangeAny
import Derived.Lib.IndexBytes
import Derived.Laws.IdiomStrings
import Derived.Lib.SmallJoins
namespace Go.Proofs.YteijjaabngkbjaaGreatDoor.N
open Go.RowKit
set_option linter.unusedSimpArgs false
set_option linter.unusedVariables false
def Hidden (p : Prop) : Prop := p
theorem alloc_old (w : World) (o : Obj) (k : Nat) (h : k < w.heap.size) : (w.alloc o).heap[k]? = w.heap[k]? := by
  show (w.heap.push o)[k]? = _
  rw [Array.getElem?_push_lt h]
  exact (Array.getElem?_eq_getElem h).symm
theorem alloc_new (w : World) (o : Obj) : (w.alloc o).heap[w.heap.size]? = some o := by
  show (w.heap.push o)[w.heap.size]? = _
  simp
structure Fr (S : Nat → Prop) (w w' : World) : Prop where
  os : w'.os = w.os
  output : w'.output = w.output
  size : w.heap.size ≤ w'.heap.size
  block : ∀ k, k < w.heap.size → ¬ S k → w'.heap[k]? = w.heap[k]?
theorem Fr.refl (S : Nat → Prop) (w : World) : Fr S w w := ⟨rfl, rfl, Nat.le_refl _, fun _ _ _ => rfl⟩
theorem Fr.trans {S T : Nat → Prop} {a b c : World} (h : Fr S a b) (g : Fr T b c) (hT : ∀ k, k < a.heap.size → T k → S k) : Fr S a c :=
  ⟨g.os.trans h.os, g.output.trans h.output, Nat.le_trans h.size g.size, fun k hk hn =>
    (g.block k (Nat.lt_of_lt_of_le hk h.size) (fun t => hn (hT k hk t))).trans (h.block k hk hn)⟩
theorem Fr.mono {S T : Nat → Prop} {a b : World} (h : Fr S a b) (hT : ∀ k, k < a.heap.size → S k → T k) : Fr T a b :=
  ⟨h.os, h.output, h.size, fun k hk hn => h.block k hk (fun t => hn (hT k hk t))⟩
theorem Fr.alloc (S : Nat → Prop) (w : World) (o : Obj) : Fr S w (w.alloc o) := ⟨rfl, rfl, by simp, fun k hk _ => alloc_old w o k hk⟩
theorem Fr.kept {w w' : World} (h : Fr (fun _ => False) w w') : w.keptBut w' (fun _ => False) :=
  ⟨h.os, h.output, fun i hi => by
    rw [h.block i hi (fun f => f)]
    cases w.heap[i]? with
    | none => rfl
    | some o => cases o <;> simp⟩
theorem Fr.cell {S : Nat → Prop} {w w' : World} (h : Fr S w w') {a : Addr} {v : Value} (hc : w.cell? a = some v) (hn : ¬ S a.block) : w'.cell? a = some v :=
  (World.cell?_of_block (h.block a.block (World.block_lt_of_cell? w a hc) hn)).trans hc
theorem lt_of_heap {w : World} {k : Nat} {o : Obj} (h : w.heap[k]? = some o) : k < w.heap.size := (Array.getElem?_eq_some_iff.1 h).1
theorem Fr.heap {S : Nat → Prop} {w w' : World} (h : Fr S w w') {k : Nat} {o : Obj} (hc : w.heap[k]? = some o) (hn : ¬ S k) : w'.heap[k]? = some o :=
  (h.block k (lt_of_heap hc) hn).trans hc
def Sl (w : World) (v : Value) (xs : List Value) : Prop :=
  ∃ ao cap, v = .slice ao xs.length cap ∧ xs.length ≤ cap ∧ cap ≤ maxLen ∧ (ao = none → cap = 0) ∧
    (xs = [] ∨ ∃ b off, ao = some ⟨b, off, none⟩ ∧ ∀ (i : Nat) (x : Value), xs[i]? = some x → w.cell? ⟨b, off + i, none⟩ = some x)
theorem Sl.nil (w : World) : Sl w (.slice none 0 0) [] := ⟨none, 0, rfl, by simp, by simp, fun _ => rfl, Or.inl rfl⟩
end Go.Proofs.YteijjaabngkbjaaGreatDoor.N
namespace Go.Proofs.YteijjaabngkbjaaGreatDoor.N
set_option linter.unusedSimpArgs false
set_option linter.unusedVariables false
abbrev Str := List UInt8
end Go.Proofs.YteijjaabngkbjaaGreatDoor.N
namespace Go.Proofs.YteijjaabngkbjaaGreatDoor.N
open Go.RowKit Go.Sort
set_option linter.unusedSimpArgs false
set_option linter.unusedVariables false
def Tl (w : World) (v : Value) (l : List Str) : Prop :=
  ∃ ao cap, v = .slice ao l.length cap ∧ l.length ≤ cap ∧ cap ≤ 9223372036854775807 ∧ (ao = none → cap = 0) ∧
    (l = [] ∨ ∃ b off, ao = some ⟨b, off, none⟩ ∧ ∀ (i : Nat) (x : Str), l[i]? = some x → w.cell? ⟨b, off + i, none⟩ = some (encStr x))
def Tn (w : World) (B : Nat) (v : Value) (l : List Str) : Prop :=
  ∃ ao cap, v = .slice ao l.length cap ∧ l.length ≤ cap ∧ cap ≤ 9223372036854775807 ∧ (ao = none → cap = 0) ∧
    (l = [] ∨ ∃ b off, ao = some ⟨b, off, none⟩ ∧ B ≤ b ∧ b < w.heap.size ∧ Holds encStr w b off l.toArray)
theorem Tn.tl {w : World} {B : Nat} {v : Value} {l : List Str} (h : Tn w B v l) : Tl w v l := by
  obtain ⟨ao, cap, rfl, h1, h2, h3, h4⟩ := h
  refine ⟨ao, cap, rfl, h1, h2, h3, ?_⟩
  rcases h4 with h4 | ⟨b, off, rfl, hB, hb, hH⟩
  · exact Or.inl h4
  · refine Or.inr ⟨b, off, rfl, fun i x hx => ?_⟩
    obtain ⟨hi, e⟩ := List.getElem?_eq_some_iff.1 hx
    have := (hH i (by simpa using hi)).1
    rw [this, getElem!_pos _ i (by simpa using hi)]
    simp [e]
theorem Tl.nil (w : World) : Tl w (.slice none 0 0) [] := ⟨none, 0, rfl, by simp, by simp, fun _ => rfl, Or.inl rfl⟩
end Go.Proofs.YteijjaabngkbjaaGreatDoor.N
namespace Go.Proofs.YteijjaabngkbjaaGreatDoor.N
open Go.RowKit Go.Sort
set_option linter.unusedSimpArgs false
set_option linter.unusedVariables false
def letB (n : Nat) : Bool := (decide (97 ≤ n) && decide (n ≤ 122)) || (decide (65 ≤ n) && decide (n ≤ 90)) || n == 95
def digB (n : Nat) : Bool := decide (48 ≤ n) && decide (n ≤ 57)
theorem ret_bool {a b : Bool} (h : a = true ↔ b = true) : Ending.returned (.bool a) = .returned (.bool b) := by rw [Bool.eq_iff_iff.2 h]
theorem letter_any (n : Nat) (r : Bool) (hr : Hidden (letB n = r)) (w : World) :
    Calls Tryz.prog 189 #[.int .u8 (n : Int)] w fun e w' => e = .returned (.bool r) ∧ w' = w := by
  go_enter Tryz.func189, Tryz.ntmps189
  go_wp2
  all_goals (go_ret; refine ⟨?_, rfl⟩; rw [← (show letB n = r from hr)]; clear hr; refine ret_bool ?_; simp [letB]; try omega)
theorem digit_any (n : Nat) (r : Bool) (hr : Hidden (digB n = r)) (w : World) :
    Calls Tryz.prog 190 #[.int .u8 (n : Int)] w fun e w' => e = .returned (.bool r) ∧ w' = w := by
  go_enter Tryz.func190, Tryz.ntmps190
  go_wp2
  all_goals (go_ret; refine ⟨?_, rfl⟩; rw [← (show digB n = r from hr)]; clear hr; refine ret_bool ?_; simp [digB]; try omega)
theorem rletter_any (n : Nat) (r : Bool) (hr : Hidden (letB n = r)) (w : World) :
    Calls Tryz.prog 83 #[.int .u8 (n : Int)] w fun e w' => e = .returned (.bool r) ∧ w' = w := by
  go_enter Tryz.func83, Tryz.ntmps83
  go_wp2
  all_goals (go_ret; refine ⟨?_, rfl⟩; rw [← (show letB n = r from hr)]; clear hr; refine ret_bool ?_; simp [letB]; try omega)
theorem rdigit_any (n : Nat) (r : Bool) (hr : Hidden (digB n = r)) (w : World) :
    Calls Tryz.prog 84 #[.int .u8 (n : Int)] w fun e w' => e = .returned (.bool r) ∧ w' = w := by
  go_enter Tryz.func84, Tryz.ntmps84
  go_wp2
  all_goals (go_ret; refine ⟨?_, rfl⟩; rw [← (show digB n = r from hr)]; clear hr; refine ret_bool ?_; simp [digB]; try omega)
end Go.Proofs.YteijjaabngkbjaaGreatDoor.N
namespace Go.Proofs.YteijjaabngkbjaaGreatDoor.N
open Go.RowKit Go.Sort
set_option linter.unusedSimpArgs false
set_option linter.unusedVariables false
theorem str_len (t : List UInt8) : ((⟨t.toArray⟩ : ByteArray).size : Int) = (t.length : Int) := by simp [ByteArray.size]
theorem str_index (l : List UInt8) (k : Nat) (c : UInt8) (h : l[k]? = some c) (w : World) :
    (Instr.index 9 (.string ⟨l.toArray⟩) (.int .i64 (k : Int))).run Tryz.prog w = .ok (.int .u8 (c.toNat : Int)) w := by
  obtain ⟨hk, hc⟩ := List.getElem?_eq_some_iff.1 h
  have hs : k < (⟨l.toArray⟩ : ByteArray).size := by simpa [ByteArray.size] using hk
  rw [run_index_string _ _ _ _ _ Tryz.underlying9, dif_pos ⟨by omega, by omega⟩]
  have e : (⟨l.toArray⟩ : ByteArray)[k]'hs = c := by
    show l.toArray[k] = c
    simpa using hc
  simp only [Int.toNat_natCast]
  rw [e]
theorem drop_at {α : Type} {l : List α} {j : Nat} {c : α} (h : l[j]? = some c) : l.drop j = c :: l.drop (j + 1) := by
  obtain ⟨hj, rfl⟩ := List.getElem?_eq_some_iff.1 h
  exact List.drop_eq_getElem_cons hj
theorem frozen_of_row {w : World} {g : Nat} {cur : Array Value} {e : TypeId} (h : w.heap[g]? = some (.cells cur e (0, 0))) (j : Nat) : w.frozen? ⟨g, j, none⟩ = false := by simp [World.frozen?, h]
def wordsL : List Str := [[98, 111, 111, 108], [99, 97, 116, 99, 104], [99, 111, 110, 115, 116], [101, 108, 115, 101], [101, 120, 112, 111, 114, 116], [102, 97, 105, 108], [102, 97, 108, 115, 101], [102, 108, 111, 97, 116], [102, 110], [105, 102], [105, 109, 112, 111, 114, 116], [105, 110, 102], [105, 110, 112, 117, 116], [105, 110, 116], [108, 101, 116], [109, 111, 100, 117, 108, 101], [110, 97, 110], [114, 101, 116, 117, 114, 110], [115, 104, 111, 119], [116, 114, 117, 101], [116, 114, 121], [118, 97, 114], [119, 104, 105, 108, 101]]
theorem rwords_any (w : World) :
    Calls Tryz.prog 131 #[] w fun e w' => e = .returned (.slice (some ⟨w.heap.size, 0, none⟩) 23 23) ∧ w' = w.alloc (.cells (wordsL.map encStr).toArray 9) := by
  go_enter Tryz.func131, Tryz.ntmps131
  go_wp2
  go_ret
  exact ⟨rfl, rfl⟩
theorem Tn.words (w : World) : Tn (w.alloc (.cells (wordsL.map encStr).toArray 9)) w.heap.size (.slice (some ⟨w.heap.size, 0, none⟩) 23 23) wordsL := by
  refine ⟨_, 23, rfl, by decide, by omega, (fun h => by cases h), Or.inr ⟨w.heap.size, 0, rfl, Nat.le_refl _, by simp, fun j hj => ?_⟩⟩
  have hb := alloc_new w (.cells (wordsL.map encStr).toArray 9)
  have hj' : j < wordsL.length := by simpa using hj
  constructor
  · rw [Nat.zero_add, cell_of_row _ _ _ _ _ _ hb, getElem!_pos _ j hj]
    simp [hj']
  · exact frozen_of_row hb _
def okAt (i : Nat) (c : UInt8) : Bool := letB c.toNat || (i != 0 && digB c.toNat)
def speltGo : List UInt8 → Nat → Bool
  | [], _ => true
  | c :: r, i => okAt i c && speltGo r (i + 1)
def speltS (s : Str) : Bool := speltGo s 0 && !s.isEmpty
set_option maxHeartbeats 400000 in
theorem spelt_walk (l : Str) (v : Bool) (hl : l.length ≤ 9223372036854775807) (hv : Hidden (speltGo l 0 = v)) (w : World) :
    Calls Tryz.prog 149 #[.string ⟨l.toArray⟩] w fun e w' => e = .returned (.bool (v && !l.isEmpty)) ∧ w' = w := by
  have hs := str_len l
  go_enter Tryz.func149, Tryz.ntmps149
  go_wp2
  go_loopg [6] l.length (fun k iv wr => ∃ j : Nat, iv = .int .i64 (j : Int) ∧ j ≤ l.length ∧ speltGo (l.drop j) j = v ∧ k = l.length - j ∧ wr = w)
  case atStart => exact ⟨0, rfl, by omega, hv, rfl, rfl⟩
  case round =>
    obtain ⟨j, rfl, hj, hf, hgk, rfl⟩ := hrel
    have hgkH : Hidden (gk = l.length - j) := hgk
    clear hgk
    by_cases hjl : j < l.length
    · obtain ⟨c, hc⟩ : ∃ c, l[j]? = some c := ⟨l[j], List.getElem?_eq_getElem hjl⟩
      rw [drop_at hc, speltGo] at hf
      have hx := str_index l j c hc
      have kl := letter_any c.toNat _ rfl
      have kd := digit_any c.toNat _ rfl
      have hno : l.isEmpty = false := by cases l with
        | nil => simp at hc
        | cons a b => rfl
      unfold okAt at hf
      obtain ⟨m, hm⟩ : ∃ m, c.toNat = m := ⟨_, rfl⟩
      rw [hm] at hx kl kd hf
      clear hm hc hv
      cases hlt : letB m
      · rw [hlt] at kl hf
        clear hlt
        cases hdg : digB m
        · rw [hdg] at kd hf
          simp only [Bool.false_or, Bool.and_false, Bool.false_and] at hf
          subst hf
          clear hdg
          by_cases h0 : j = 0
          · have h0' : ((j : Int) == 0) = true := by simp [h0]
            clear h0
            go_wp2_with (first | (go_at_call 189; refine (kl _).mono ?_; rintro e w' ⟨rfl, rfl⟩) | (go_at_call 190; refine (kd _).mono ?_; rintro e w' ⟨rfl, rfl⟩))
            go_ret
            exact ⟨rfl, rfl⟩
          · have h0' : ((j : Int) == 0) = false := by simp; omega
            go_wp2_with (first | (go_at_call 189; refine (kl _).mono ?_; rintro e w' ⟨rfl, rfl⟩) | (go_at_call 190; refine (kd _).mono ?_; rintro e w' ⟨rfl, rfl⟩))
            go_ret
            exact ⟨rfl, rfl⟩
        · rw [hdg] at kd hf
          simp only [Bool.false_or, Bool.and_true] at hf
          clear hdg
          by_cases h0 : j = 0
          · have h0' : ((j : Int) == 0) = true := by simp [h0]
            have h00 : (j != 0) = false := by simp [h0]
            rw [h00, Bool.false_and] at hf
            subst hf
            clear h0 h00
            go_wp2_with (first | (go_at_call 189; refine (kl _).mono ?_; rintro e w' ⟨rfl, rfl⟩) | (go_at_call 190; refine (kd _).mono ?_; rintro e w' ⟨rfl, rfl⟩))
            go_ret
            exact ⟨rfl, rfl⟩
          · have h0' : ((j : Int) == 0) = false := by simp; omega
            have h00 : (j != 0) = true := by simp [h0]
            rw [h00, Bool.true_and] at hf
            have hfH : Hidden (speltGo (l.drop (j + 1)) (j + 1) = v) := hf
            clear hf h00
            go_wp2_with (first | (go_at_call 189; refine (kl _).mono ?_; rintro e w' ⟨rfl, rfl⟩) | (go_at_call 190; refine (kd _).mono ?_; rintro e w' ⟨rfl, rfl⟩))
            go_roundg (l.length - (j + 1))
            case measure =>
              have : gk = l.length - j := hgkH
              omega
            case rel => exact ⟨j + 1, by go_num, by omega, hfH, rfl, rfl⟩
      · rw [hlt] at kl hf
        simp only [Bool.true_or, Bool.true_and] at hf
        have hfH : Hidden (speltGo (l.drop (j + 1)) (j + 1) = v) := hf
        clear hf hlt
        go_wp2_with (first | (go_at_call 189; refine (kl _).mono ?_; rintro e w' ⟨rfl, rfl⟩) | (go_at_call 190; refine (kd _).mono ?_; rintro e w' ⟨rfl, rfl⟩))
        go_roundg (l.length - (j + 1))
        case measure =>
          have : gk = l.length - j := hgkH
          omega
        case rel => exact ⟨j + 1, by go_num, by omega, hfH, rfl, rfl⟩
    · obtain rfl : j = l.length := by omega
      rw [List.drop_length] at hf
      obtain rfl : true = v := hf
      clear hv
      go_wp2
      go_ret
      refine ⟨?_, rfl⟩
      cases l with
      | nil => rfl
      | cons a b => rfl
theorem spelt_any (l : Str) (v : Bool) (hv : speltS l = v) (hl : l.length ≤ 9223372036854775807) (w : World) :
    Calls Tryz.prog 149 #[.string ⟨l.toArray⟩] w fun e w' => e = .returned (.bool v) ∧ w' = w := hv ▸ spelt_walk l _ hl rfl w
set_option maxRecDepth 20000 in
set_option maxHeartbeats 1000000 in
theorem reserved_in (s : Str) (h : s ∈ wordsL) (w : World) :
    Calls Tryz.prog 120 #[.string ⟨s.toArray⟩] w fun e w' => e = .returned (.bool true) ∧ w' = w := by
  simp only [wordsL, List.mem_cons, List.not_mem_nil, or_false] at h
  rcases h with rfl | rfl | rfl | rfl | rfl | rfl | rfl | rfl | rfl | rfl | rfl | rfl | rfl | rfl | rfl | rfl | rfl | rfl | rfl | rfl | rfl | rfl | rfl
  all_goals
    go_enter Tryz.func120, Tryz.ntmps120
    go_wp2
    go_ret
    exact ⟨rfl, rfl⟩
set_option maxRecDepth 20000 in
set_option maxHeartbeats 1000000 in
theorem reserved_out (s : Str) (h : s ∉ wordsL) (w : World) :
    Calls Tryz.prog 120 #[.string ⟨s.toArray⟩] w fun e w' => e = .returned (.bool false) ∧ w' = w := by
  have h0 : (s == [98, 111, 111, 108]) = false := beq_eq_false_iff_ne.2 (fun e => h (e ▸ (by decide)))
  have h1 : (s == [99, 97, 116, 99, 104]) = false := beq_eq_false_iff_ne.2 (fun e => h (e ▸ (by decide)))
  have h2 : (s == [99, 111, 110, 115, 116]) = false := beq_eq_false_iff_ne.2 (fun e => h (e ▸ (by decide)))
  have h3 : (s == [101, 108, 115, 101]) = false := beq_eq_false_iff_ne.2 (fun e => h (e ▸ (by decide)))
  have h4 : (s == [101, 120, 112, 111, 114, 116]) = false := beq_eq_false_iff_ne.2 (fun e => h (e ▸ (by decide)))
  have h5 : (s == [102, 97, 105, 108]) = false := beq_eq_false_iff_ne.2 (fun e => h (e ▸ (by decide)))
  have h6 : (s == [102, 97, 108, 115, 101]) = false := beq_eq_false_iff_ne.2 (fun e => h (e ▸ (by decide)))
  have h7 : (s == [102, 108, 111, 97, 116]) = false := beq_eq_false_iff_ne.2 (fun e => h (e ▸ (by decide)))
  have h8 : (s == [102, 110]) = false := beq_eq_false_iff_ne.2 (fun e => h (e ▸ (by decide)))
  have h9 : (s == [105, 102]) = false := beq_eq_false_iff_ne.2 (fun e => h (e ▸ (by decide)))
  have h10 : (s == [105, 109, 112, 111, 114, 116]) = false := beq_eq_false_iff_ne.2 (fun e => h (e ▸ (by decide)))
  have h11 : (s == [105, 110, 102]) = false := beq_eq_false_iff_ne.2 (fun e => h (e ▸ (by decide)))
  have h12 : (s == [105, 110, 112, 117, 116]) = false := beq_eq_false_iff_ne.2 (fun e => h (e ▸ (by decide)))
  have h13 : (s == [105, 110, 116]) = false := beq_eq_false_iff_ne.2 (fun e => h (e ▸ (by decide)))
  have h14 : (s == [108, 101, 116]) = false := beq_eq_false_iff_ne.2 (fun e => h (e ▸ (by decide)))
  have h15 : (s == [109, 111, 100, 117, 108, 101]) = false := beq_eq_false_iff_ne.2 (fun e => h (e ▸ (by decide)))
  have h16 : (s == [110, 97, 110]) = false := beq_eq_false_iff_ne.2 (fun e => h (e ▸ (by decide)))
  have h17 : (s == [114, 101, 116, 117, 114, 110]) = false := beq_eq_false_iff_ne.2 (fun e => h (e ▸ (by decide)))
  have h18 : (s == [115, 104, 111, 119]) = false := beq_eq_false_iff_ne.2 (fun e => h (e ▸ (by decide)))
  have h19 : (s == [116, 114, 117, 101]) = false := beq_eq_false_iff_ne.2 (fun e => h (e ▸ (by decide)))
  have h20 : (s == [116, 114, 121]) = false := beq_eq_false_iff_ne.2 (fun e => h (e ▸ (by decide)))
  have h21 : (s == [118, 97, 114]) = false := beq_eq_false_iff_ne.2 (fun e => h (e ▸ (by decide)))
  have h22 : (s == [119, 104, 105, 108, 101]) = false := beq_eq_false_iff_ne.2 (fun e => h (e ▸ (by decide)))
  clear h
  go_enter Tryz.func120, Tryz.ntmps120
  go_wp2
  go_ret
  exact ⟨rfl, rfl⟩
theorem reserved_any (s : Str) (r : Bool) (hr : decide (s ∈ wordsL) = r) (w : World) :
    Calls Tryz.prog 120 #[.string ⟨s.toArray⟩] w fun e w' => e = .returned (.bool r) ∧ w' = w := by
  subst hr
  by_cases h : s ∈ wordsL
  · rw [decide_eq_true h]; exact reserved_in s h w
  · rw [decide_eq_false h]; exact reserved_out s h w
end Go.Proofs.YteijjaabngkbjaaGreatDoor.N
namespace Go.Proofs.YteijjaabngkbjaaGreatDoor.N
open Go.RowKit Go.Sort
set_option linter.unusedSimpArgs false
set_option linter.unusedVariables false
def idxGo (s : Str) : List Str → Nat → Int
  | [], _ => -1
  | x :: r, i => if x = s then (i : Int) else idxGo s r (i + 1)
def findGo (s : Str) : List Str → Nat → Int × Bool
  | [], _ => (0, false)
  | x :: r, i => if x = s then ((i : Int), true) else findGo s r (i + 1)
def findS (l : List Str) (s : Str) : Int × Bool := findGo s l 0
theorem findGo_spec (s : Str) : ∀ (l : List Str) (i : Nat), (s ∉ l ∧ findGo s l i = (0, false) ∧ idxGo s l i = -1) ∨ ∃ k : Nat, l[k]? = some s ∧ findGo s l i = (((i + k : Nat) : Int), true) ∧ idxGo s l i = ((i + k : Nat) : Int)
  | [], i => Or.inl ⟨by simp, rfl, rfl⟩
  | x :: r, i => by
    unfold findGo idxGo
    by_cases h : x = s
    · rw [if_pos h, if_pos h]
      exact Or.inr ⟨0, by simp [h], by simp, by simp⟩
    · rw [if_neg h, if_neg h]
      rcases findGo_spec s r (i + 1) with ⟨h1, h2, h3⟩ | ⟨k, h1, h2, h3⟩
      · exact Or.inl ⟨by simp [h1, Ne.symm h], h2, h3⟩
      · exact Or.inr ⟨k + 1, by simpa using h1, by rw [h2]; congr 2; omega, by rw [h3]; congr 1; omega⟩
theorem findS_spec (l : List Str) (s : Str) : (s ∉ l ∧ findS l s = (0, false) ∧ idxGo s l 0 = -1) ∨ ∃ k : Nat, l[k]? = some s ∧ findS l s = ((k : Int), true) ∧ idxGo s l 0 = (k : Int) := by
  have := findGo_spec s l 0
  simp only [Nat.zero_add] at this
  exact this
theorem findS_mem (l : List Str) (s : Str) : (findS l s).2 = decide (s ∈ l) := by
  rcases findS_spec l s with ⟨h1, h2, _⟩ | ⟨k, h1, h2, _⟩
  · rw [h2]; simp [h1]
  · rw [h2, decide_eq_true (List.mem_of_getElem? h1)]
set_option maxHeartbeats 400000 in
theorem rfind_walk (ao : Option Addr) (n cap : Nat) (l : List Str) (s : Str) (R : Int × Bool) (w : World) (hn : Hidden (l.length = n)) (h1 : n ≤ cap) (h2 : cap ≤ 9223372036854775807)
    (ha : Hidden (l = [] ∨ ∃ b off, ao = some ⟨b, off, none⟩ ∧ ∀ (i : Nat) (x : Str), l[i]? = some x → w.cell? ⟨b, off + i, none⟩ = some (encStr x))) (hR : Hidden (findGo s l 0 = R)) :
    Calls Tryz.prog 130 #[.slice ao n cap, .string ⟨s.toArray⟩] w fun e w' => e = .returned (.tuple #[.int .i64 R.1, .bool R.2]) ∧ w' = w := by
  go_enter Tryz.func130, Tryz.ntmps130
  go_wp2
  go_loopg [6] n (fun k iv wr => ∃ j : Nat, iv = .int .i64 (j : Int) ∧ j ≤ n ∧ k = n - j ∧ wr = w ∧ findGo s (l.drop j) j = R)
  case atStart => exact ⟨0, rfl, by omega, rfl, rfl, hR⟩
  case round =>
    obtain ⟨j, rfl, hj, hk, rfl, hf⟩ := hrel
    have hkH : Hidden (gk = n - j) := hk
    have hn' : l.length = n := hn
    clear hk hR
    by_cases hjl : j < n
    · obtain ⟨x, hx⟩ : ∃ x, l[j]? = some x := ⟨l[j], List.getElem?_eq_getElem (by omega)⟩
      rcases (show l = [] ∨ _ from ha) with h0 | ⟨b, o, rfl, hc⟩
      · rw [h0] at hx; simp at hx
      have c1 := hc j x hx
      rw [drop_at hx, findGo] at hf
      clear hc hn' hx
      by_cases hxs : x = s
      · subst hxs
        rw [if_pos rfl] at hf
        subst hf
        go_wp2
        go_ret2
        exact ⟨rfl, rfl⟩
      · rw [if_neg hxs] at hf
        have hne : (x == s) = false := beq_eq_false_iff_ne.2 hxs
        have hfH : Hidden (findGo s (l.drop (j + 1)) (j + 1) = R) := hf
        clear hf hxs
        go_wp2
        go_roundg (n - (j + 1))
        case measure => have := (show gk = n - j from hkH); omega
        case rel => exact ⟨j + 1, by go_num, by omega, rfl, rfl, hfH⟩
    · obtain rfl : j = n := by omega
      rw [List.drop_eq_nil_of_le (by omega)] at hf
      obtain rfl : (0, false) = R := hf
      clear hn'
      go_wp2
      go_ret2
      exact ⟨rfl, rfl⟩
theorem rfind_any (v : Value) (l : List Str) (s : Str) (R : Int × Bool) (hR : findS l s = R) (w : World) (h : Tl w v l) :
    Calls Tryz.prog 130 #[v, .string ⟨s.toArray⟩] w fun e w' => e = .returned (.tuple #[.int .i64 R.1, .bool R.2]) ∧ w' = w := by
  obtain ⟨ao, cap, rfl, h1, h2, h3, h4⟩ := h
  exact rfind_walk ao _ cap l s R w rfl h1 h2 h4 hR
theorem rreserved_any (s : Str) (r : Bool) (hr : decide (s ∈ wordsL) = r) (w : World) :
    Calls Tryz.prog 85 #[.string ⟨s.toArray⟩] w fun e w' => e = .returned (.bool r) ∧ Fr (fun _ => False) w w' := by
  have kf := rfind_any _ wordsL s _ rfl _ (Tn.words w).tl
  rw [← hr, ← findS_mem]
  go_enter Tryz.func85, Tryz.ntmps85
  go_wp2_with (first
    | (go_at_call 131; refine (rwords_any _).mono ?_; rintro e w' ⟨rfl, rfl⟩)
    | (go_at_call 130; refine kf.mono ?_; rintro e w' ⟨rfl, rfl⟩))
  go_ret
  exact ⟨rfl, Fr.alloc _ _ _⟩
def rightS (s : Str) : Int := if speltS s = true then (if 32 < s.length then 3 else if s ∈ wordsL then 12 else 0) else 12
theorem right_any (s : Str) (r : Int) (hr : rightS s = r) (hl : s.length ≤ 9223372036854775807) (w : World) :
    Calls Tryz.prog 101 #[.string ⟨s.toArray⟩] w fun e w' => e = .returned (.int .i64 r) ∧ w' = w := by
  have ks := spelt_any s _ rfl hl
  have hs := str_len s
  unfold rightS at hr
  cases hsp : speltS s
  · rw [hsp] at ks hr
    simp only [Bool.false_eq_true, if_false] at hr
    subst hr
    clear hsp
    go_enter Tryz.func101, Tryz.ntmps101
    go_wp2_with (go_at_call 149; refine (ks _).mono ?_; rintro e w' ⟨rfl, rfl⟩)
    go_ret
    exact ⟨rfl, rfl⟩
  · rw [hsp] at ks hr
    rw [if_pos rfl] at hr
    clear hsp
    by_cases h32 : 32 < s.length
    · rw [if_pos h32] at hr
      subst hr
      go_enter Tryz.func101, Tryz.ntmps101
      go_wp2_with (go_at_call 149; refine (ks _).mono ?_; rintro e w' ⟨rfl, rfl⟩)
      go_ret
      exact ⟨rfl, rfl⟩
    · rw [if_neg h32] at hr
      have kr := reserved_any s _ rfl
      by_cases hw : s ∈ wordsL
      · rw [if_pos hw] at hr
        rw [decide_eq_true hw] at kr
        subst hr
        clear hw
        go_enter Tryz.func101, Tryz.ntmps101
        go_wp2_with (first | (go_at_call 149; refine (ks _).mono ?_; rintro e w' ⟨rfl, rfl⟩) | (go_at_call 120; refine (kr _).mono ?_; rintro e w' ⟨rfl, rfl⟩))
        go_ret
        exact ⟨rfl, rfl⟩
      · rw [if_neg hw] at hr
        rw [decide_eq_false hw] at kr
        subst hr
        clear hw
        go_enter Tryz.func101, Tryz.ntmps101
        go_wp2_with (first | (go_at_call 149; refine (ks _).mono ?_; rintro e w' ⟨rfl, rfl⟩) | (go_at_call 120; refine (kr _).mono ?_; rintro e w' ⟨rfl, rfl⟩))
        go_ret
        exact ⟨rfl, rfl⟩
end Go.Proofs.YteijjaabngkbjaaGreatDoor.N
namespace Go.Proofs.YteijjaabngkbjaaGreatDoor.N
open Go.RowKit Go.Sort
set_option linter.unusedSimpArgs false
set_option linter.unusedVariables false
def ld (c : UInt8) : Bool := letB c.toNat || digB c.toNat
theorem speltGo_all : ∀ (r : Str) (i : Nat), speltGo r (i + 1) = r.all ld
  | [], _ => rfl
  | c :: r, i => by
    rw [speltGo, speltGo_all r (i + 1), List.all_cons]
    rfl
theorem spelt_cons (s : Str) (c : UInt8) (h : s[0]? = some c) : speltS s = (letB c.toNat && s.all ld) := by
  cases s with
  | nil => simp at h
  | cons d r =>
    have : d = c := by simpa using h
    subst this
    show (speltGo (d :: r) 0 && !(d :: r).isEmpty) = _
    rw [speltGo, speltGo_all, List.all_cons]
    show ((letB d.toNat || (0 != 0 && digB d.toNat)) && r.all ld && true) = (letB d.toNat && ((letB d.toNat || digB d.toNat) && r.all ld))
    cases letB d.toNat <;> simp
set_option maxHeartbeats 800000 in
theorem rright_walk (s : Str) (c0 : UInt8) (h0 : Hidden (s[0]? = some c0)) (hlet : letB c0.toNat = true) (v : Bool) (hv : Hidden (s.all ld = v)) (rs : Bool) (hrs : Hidden (decide (s ∈ wordsL) = rs)) (hl : s.length ≤ 9223372036854775807) (w : World) (r : Int)
    (hr : Hidden (r = if v = true then (if 32 < s.length then 3 else if rs = true then 12 else 0) else 12)) :
    Calls Tryz.prog 40 #[.string ⟨s.toArray⟩] w fun e w' => e = .returned (.int .i64 r) ∧ Fr (fun _ => False) w w' := by
  have hx0 : ∀ w, (Instr.index 9 (.string ⟨s.toArray⟩) (.int .i64 0)).run Tryz.prog w = .ok (.int .u8 (c0.toNat : Int)) w := str_index s 0 c0 h0
  have kl0 := rletter_any c0.toNat _ hlet
  have hne : ((s.length : Int) == 0) = false := by
    cases s with
    | nil => cases (show ([] : Str)[0]? = some c0 from h0)
    | cons a b => simp; omega
  have kr := rreserved_any s _ hrs
  obtain ⟨m0, hm0⟩ : ∃ m, c0.toNat = m := ⟨_, rfl⟩
  rw [hm0] at hx0 kl0
  clear hlet hm0
  have hs := str_len s
  go_enter Tryz.func40, Tryz.ntmps40
  go_wp2_with (go_at_call 83; refine (kl0 _).mono ?_; rintro e w1 ⟨rfl, rfl⟩)
  go_loopg [3] s.length (fun k iv wr => ∃ j : Nat, iv = .int .i64 (j : Int) ∧ j ≤ s.length ∧ k = s.length - j ∧ wr = w1 ∧ (s.drop j).all ld = v)
  case atStart => exact ⟨0, rfl, by omega, rfl, rfl, hv⟩
  case round =>
    obtain ⟨j, rfl, hj, hk, rfl, hf⟩ := hrel
    have hkH : Hidden (gk = s.length - j) := hk
    clear hk hv hx0 kl0 hne
    by_cases hjl : j < s.length
    · obtain ⟨c, hc⟩ : ∃ c, s[j]? = some c := ⟨s[j], List.getElem?_eq_getElem hjl⟩
      rw [drop_at hc, List.all_cons] at hf
      have hx := str_index s j c hc
      have kl := rletter_any c.toNat _ rfl
      have kd := rdigit_any c.toNat _ rfl
      unfold ld at hf
      obtain ⟨m, hm⟩ : ∃ m, c.toNat = m := ⟨_, rfl⟩
      rw [hm] at hx kl kd hf
      clear hm hc
      cases hlt : letB m
      · rw [hlt] at kl hf
        clear hlt
        cases hdg : digB m
        · rw [hdg] at kd hf
          simp only [Bool.false_or, Bool.false_and] at hf
          subst hf
          have hrr : Hidden (r = 12) := show r = 12 by have := (show r = _ from hr); simpa using this
          clear hdg
          go_wp2_with (first | (go_at_call 83; refine (kl _).mono ?_; rintro e w' ⟨rfl, rfl⟩) | (go_at_call 84; refine (kd _).mono ?_; rintro e w' ⟨rfl, rfl⟩))
          go_ret
          exact ⟨by rw [show r = 12 from hrr]; rfl, Fr.refl _ _⟩
        · rw [hdg] at kd hf
          simp only [Bool.false_or, Bool.true_and] at hf
          have hfH : Hidden ((s.drop (j + 1)).all ld = v) := hf
          clear hdg hf
          go_wp2_with (first | (go_at_call 83; refine (kl _).mono ?_; rintro e w' ⟨rfl, rfl⟩) | (go_at_call 84; refine (kd _).mono ?_; rintro e w' ⟨rfl, rfl⟩))
          go_roundg (s.length - (j + 1))
          case measure => have := (show gk = s.length - j from hkH); omega
          case rel => exact ⟨j + 1, by go_num, by omega, rfl, rfl, hfH⟩
      · rw [hlt] at kl hf
        simp only [Bool.true_or, Bool.true_and] at hf
        have hfH : Hidden ((s.drop (j + 1)).all ld = v) := hf
        clear hlt hf
        go_wp2_with (first | (go_at_call 83; refine (kl _).mono ?_; rintro e w' ⟨rfl, rfl⟩) | (go_at_call 84; refine (kd _).mono ?_; rintro e w' ⟨rfl, rfl⟩))
        go_roundg (s.length - (j + 1))
        case measure => have := (show gk = s.length - j from hkH); omega
        case rel => exact ⟨j + 1, by go_num, by omega, rfl, rfl, hfH⟩
    · obtain rfl : j = s.length := by omega
      rw [List.drop_length] at hf
      obtain rfl : true = v := hf
      by_cases h32 : 32 < s.length
      · have hrr : Hidden (r = 3) := show r = 3 by have := (show r = _ from hr); simpa [h32] using this
        go_wp2_with (go_at_call 85; refine (kr _).mono ?_; rintro e w' ⟨rfl, hf⟩)
        go_ret
        exact ⟨by rw [show r = 3 from hrr]; rfl, Fr.refl _ _⟩
      · cases rs with
        | true =>
          have hrr : Hidden (r = 12) := show r = 12 by have := (show r = _ from hr); simpa [h32] using this
          go_wp2_with (go_at_call 85; refine (kr _).mono ?_; rintro e w' ⟨rfl, hf⟩)
          go_ret
          exact ⟨by rw [show r = 12 from hrr]; rfl, hf⟩
        | false =>
          have hrr : Hidden (r = 0) := show r = 0 by have := (show r = _ from hr); simpa [h32] using this
          go_wp2_with (go_at_call 85; refine (kr _).mono ?_; rintro e w' ⟨rfl, hf⟩)
          go_ret
          exact ⟨by rw [show r = 0 from hrr]; rfl, hf⟩
theorem rright_any (s : Str) (r : Int) (hr : rightS s = r) (hl : s.length ≤ 9223372036854775807) (w : World) :
    Calls Tryz.prog 40 #[.string ⟨s.toArray⟩] w fun e w' => e = .returned (.int .i64 r) ∧ Fr (fun _ => False) w w' := by
  by_cases hn : s = []
  · subst hn
    obtain rfl : 12 = r := hr
    go_enter Tryz.func40, Tryz.ntmps40
    go_wp2
    go_ret
    exact ⟨rfl, Fr.refl _ _⟩
  · obtain ⟨c, hc⟩ : ∃ c, s[0]? = some c := by
      cases s with
      | nil => exact absurd rfl hn
      | cons a b => exact ⟨a, rfl⟩
    have hsp := spelt_cons s c hc
    unfold rightS at hr
    rw [hsp] at hr
    cases hlet : letB c.toNat
    · rw [hlet] at hr
      simp only [Bool.false_and, Bool.false_eq_true, if_false] at hr
      subst hr
      have hx0 : ∀ w, (Instr.index 9 (.string ⟨s.toArray⟩) (.int .i64 0)).run Tryz.prog w = .ok (.int .u8 (c.toNat : Int)) w := str_index s 0 c hc
      have kl0 := rletter_any c.toNat _ hlet
      have hne : ((s.length : Int) == 0) = false := by
        cases s with
        | nil => exact absurd rfl hn
        | cons a b => simp; omega
      have hs := str_len s
      obtain ⟨m0, hm0⟩ : ∃ m, c.toNat = m := ⟨_, rfl⟩
      rw [hm0] at hx0 kl0
      clear hlet hm0 hc hsp hn
      go_enter Tryz.func40, Tryz.ntmps40
      go_wp2_with (go_at_call 83; refine (kl0 _).mono ?_; rintro e w' ⟨rfl, rfl⟩)
      go_ret
      exact ⟨rfl, Fr.refl _ _⟩
    · rw [hlet, Bool.true_and] at hr
      refine rright_walk s c hc hlet _ rfl _ rfl hl w r ?_
      show r = _
      rw [← hr]
      simp only [decide_eq_true_eq]
end Go.Proofs.YteijjaabngkbjaaGreatDoor.N
namespace Go.Proofs.YteijjaabngkbjaaGreatDoor.N
open Go.RowKit Go.Sort
set_option linter.unusedSimpArgs false
set_option linter.unusedVariables false
theorem append_str (a b : Str) : (⟨a.toArray⟩ : ByteArray) ++ ⟨b.toArray⟩ = ⟨(a ++ b).toArray⟩ := by
  rw [ByteArray.mk_append_mk]
theorem far_any (a b : Str) (h : a.length + b.length + 1 ≤ 9223372036854775807) (w : World) :
    Calls Tryz.prog 184 #[.string ⟨a.toArray⟩, .string ⟨b.toArray⟩] w fun e w' => e = .returned (.string ⟨(a ++ 46 :: b).toArray⟩) ∧ w' = w := by
  have h1 : ∀ w, (Op.stringOp .add ⟨a.toArray⟩ ⟨#[46]⟩).run Tryz.prog w = .ok (.string ⟨(a ++ [46]).toArray⟩) w := fun w => by
    rw [run_string_add_sum w _ _ (by simp [ByteArray.size]; omega)]
    exact congrArg (fun x => Result.ok (Value.string x) w) (append_str a [46])
  have h2 : ∀ w, (Op.stringOp .add ⟨(a ++ [46]).toArray⟩ ⟨b.toArray⟩).run Tryz.prog w = .ok (.string ⟨(a ++ 46 :: b).toArray⟩) w := fun w => by
    rw [run_string_add_sum w _ _ (by simp [ByteArray.size]; omega), append_str]
    simp
  go_enter Tryz.func184, Tryz.ntmps184
  go_wp2
  go_ret
  exact ⟨rfl, rfl⟩
end Go.Proofs.YteijjaabngkbjaaGreatDoor.N
namespace Go.Proofs
open Go.Shelf
def Tryz.lays169_ren : Go.Shelf.Ren := ⟨fun | 169 => 39 | n => n, fun | 70 => 76 | 9 => 9 | 0 => 0 | 72 => 78 | 37 => 46 | 127 => 133 | 3 => 3 | 5 => 5 | n => n, fun | n => n⟩
theorem Tryz.lays169 : Go.Proofs.Lays.n169 Tryz.prog Tryz.lays169_ren := {
  mixed := by kernel_rfl
  f169 := Tryz.func39.trans (congrArg some (by kernel_rfl))
  t0 := Tryz.underlying0
  a0 := Tryz.isAgg0
  z0 := Tryz.sizeOf0
  v0 := Tryz.zeroValue0
  t3 := Tryz.underlying3
  a3 := Tryz.isAgg3
  z3 := Tryz.sizeOf3
  v3 := Tryz.zeroValue3
  t9 := Tryz.underlying9
  a9 := Tryz.isAgg9
  z9 := Tryz.sizeOf9
  v9 := Tryz.zeroValue9
  t37 := Tryz.underlying46
  a37 := Tryz.isAgg46
  z37 := Tryz.sizeOf46
  v37 := Tryz.zeroValue46
  t70 := Tryz.underlying76
  a70 := Tryz.isAgg76
  z70 := Tryz.sizeOf76
  v70 := Tryz.zeroValue76
  t72 := Tryz.underlying78
  a72 := Tryz.isAgg78
  z72 := Tryz.sizeOf78
  v72 := Tryz.zeroValue78
  t127 := Tryz.underlying133
  a127 := Tryz.isAgg133
  z127 := Tryz.sizeOf133
  v127 := Tryz.zeroValue133 }
theorem Tryz.Builder_Extra_169 : Builder.Extra Tryz.prog Tryz.lays169_ren := {
  sizeBuilder := by kernel_rfl
  liesBuilder := by kernel_rfl
  t5 := Tryz.underlying5
  a5 := Tryz.isAgg5
  z5 := Tryz.sizeOf5
  v5 := Tryz.zeroValue5
  infoByte := by kernel_rfl
  cellsByte := by kernel_rfl
  sizeByte := by kernel_rfl
  neB5 := by decide }
open Go.RowKit in
theorem Tryz.Builder_String_any (B b : Nat) (l : List UInt8) (w : World) (h : Lib.IsBuilder 78 5 B b (Lib.byteCells l) w) (hBw : B ≤ w.heap.size) :
    Calls Tryz.prog 39 #[.pointer (some ⟨b, 0, none⟩)] w fun e w' => e = .returned (.string ⟨l.toArray⟩) ∧ Below B w w' := Any.Builder_String_any Tryz.lays169 Tryz.Builder_Extra_169 B b l w h hBw
def Tryz.lays134_ren : Go.Shelf.Ren := ⟨fun | 134 => 236 | 129 => 247 | n => n, fun | 53 => 38 | 3 => 3 | 4 => 4 | 46 => 220 | 5 => 5 | 9 => 9 | n => n, fun | n => n⟩
theorem Tryz.lays134 : Go.Proofs.Lays.n134 Tryz.prog Tryz.lays134_ren := {
  mixed := by kernel_rfl
  f129 := Tryz.func247.trans (congrArg some (by kernel_rfl))
  f134 := Tryz.func236.trans (congrArg some (by kernel_rfl))
  t3 := Tryz.underlying3
  a3 := Tryz.isAgg3
  z3 := Tryz.sizeOf3
  v3 := Tryz.zeroValue3
  t4 := Tryz.underlying4
  a4 := Tryz.isAgg4
  z4 := Tryz.sizeOf4
  v4 := Tryz.zeroValue4
  t5 := Tryz.underlying5
  a5 := Tryz.isAgg5
  z5 := Tryz.sizeOf5
  v5 := Tryz.zeroValue5
  t9 := Tryz.underlying9
  a9 := Tryz.isAgg9
  z9 := Tryz.sizeOf9
  v9 := Tryz.zeroValue9
  t46 := Tryz.underlying220
  a46 := Tryz.isAgg220
  z46 := Tryz.sizeOf220
  v46 := Tryz.zeroValue220
  t53 := Tryz.underlying38
  a53 := Tryz.isAgg38
  z53 := Tryz.sizeOf38
  v53 := Tryz.zeroValue38 }
theorem Tryz.bits_LeadingZeros64 (x : Int) (w : World) (h0 : 0 ≤ x) (h1 : x ≤ 18446744073709551615) :
    Calls Tryz.prog 236 #[.int .u64 x] w fun e w' => e = .returned (.int .i64 (64 - (Lib.bitLen x.toNat : Int))) ∧ w' = w := Any.bits_LeadingZeros64 Tryz.lays134 x w h0 h1
def Tryz.lays137_ren : Go.Shelf.Ren := ⟨fun | 137 => 235 | 217 => 243 | 266 => 252 | n => n, fun | 9 => 9 | 5 => 5 | 3 => 3 | n => n, fun | n => n⟩
theorem Tryz.lays137 : Go.Proofs.Lays.n137 Tryz.prog Tryz.lays137_ren := {
  mixed := by kernel_rfl
  f137 := Tryz.func235.trans (congrArg some (by kernel_rfl))
  f217 := Tryz.func243.trans (congrArg some (by kernel_rfl))
  f266 := Tryz.func252.trans (congrArg some (by kernel_rfl))
  t3 := Tryz.underlying3
  a3 := Tryz.isAgg3
  z3 := Tryz.sizeOf3
  v3 := Tryz.zeroValue3
  t5 := Tryz.underlying5
  a5 := Tryz.isAgg5
  z5 := Tryz.sizeOf5
  v5 := Tryz.zeroValue5
  t9 := Tryz.underlying9
  a9 := Tryz.isAgg9
  z9 := Tryz.sizeOf9
  v9 := Tryz.zeroValue9 }
open Go.RowKit in
theorem Tryz.strings_IndexByte (s : ByteArray) (c : Int) (w : World) :
    Calls Tryz.prog 235 #[.string s, .int .u8 c] w fun e w' => e = .returned (.int .i64 (Lib.indexByte s.data.toList c.toNat.toUInt8)) ∧ w' = w := Any.strings_IndexByte Tryz.lays137 s c w
def Tryz.lays103_ren : Go.Shelf.Ren := ⟨fun | 103 => 165 | 210 => 204 | 206 => 116 | n => n, fun | 9 => 9 | 4 => 4 | 24 => 190 | 3 => 3 | n => n, fun | n => n⟩
theorem Tryz.lays103 : Go.Proofs.Lays.n103 Tryz.prog Tryz.lays103_ren := {
  mixed := by kernel_rfl
  f103 := Tryz.func165.trans (congrArg some (by kernel_rfl))
  f206 := Tryz.func116.trans (congrArg some (by kernel_rfl))
  f210 := Tryz.func204.trans (congrArg some (by kernel_rfl))
  t3 := Tryz.underlying3
  a3 := Tryz.isAgg3
  z3 := Tryz.sizeOf3
  v3 := Tryz.zeroValue3
  t4 := Tryz.underlying4
  a4 := Tryz.isAgg4
  z4 := Tryz.sizeOf4
  v4 := Tryz.zeroValue4
  t9 := Tryz.underlying9
  a9 := Tryz.isAgg9
  z9 := Tryz.sizeOf9
  v9 := Tryz.zeroValue9
  t24 := Tryz.underlying190
  a24 := Tryz.isAgg190
  z24 := Tryz.sizeOf190
  v24 := Tryz.zeroValue190 }
open Go.RowKit in
theorem Tryz.strings_CutPrefix (s p : ByteArray) (w : World) :
    Calls Tryz.prog 165 #[.string s, .string p] w fun e w' => e = .returned (.tuple #[.string ⟨(Lib.trimPrefix s.data.toList p.data.toList).toArray⟩, .bool (Lib.hasPrefix s.data.toList p.data.toList)]) ∧ w' = w := Any.strings_CutPrefix Tryz.lays103 s p w
def Tryz.laysM171_ren : Go.Shelf.Ren := ⟨fun | 171 => 248 | 243 => 254 | 246 => 250 | 283 => 255 | 284 => 256 | 285 => 257 | 286 => 258 | 129 => 247 | 317 => 260 | 318 => 261 | 319 => 262 | 320 => 263 | 337 => 264 | 338 => 265 | n => n, fun | 3 => 3 | 9 => 9 | 2 => 2 | 4 => 4 | 171 => 239 | 0 => 0 | 53 => 38 | 37 => 46 | 5 => 5 | 173 => 241 | 212 => 245 | 51 => 236 | 20 => 20 | 213 => 246 | 46 => 220 | 232 => 249 | 233 => 250 | n => n, fun | 17 => 2 | 18 => 3 | 19 => 4 | n => n⟩
theorem Tryz.laysM171 : Go.Proofs.LaysM.n171 Tryz.prog Tryz.laysM171_ren := {
  mixed := by kernel_rfl
  f129 := Tryz.func247.trans (congrArg some (by kernel_rfl))
  f171 := Tryz.func248.trans (congrArg some (by kernel_rfl))
  f243 := Tryz.func254.trans (congrArg some (by kernel_rfl))
  f246 := Tryz.func250.trans (congrArg some (by kernel_rfl))
  f283 := Tryz.func255.trans (congrArg some (by kernel_rfl))
  f284 := Tryz.func256.trans (congrArg some (by kernel_rfl))
  f285 := Tryz.func257.trans (congrArg some (by kernel_rfl))
  f286 := Tryz.func258.trans (congrArg some (by kernel_rfl))
  f317 := Tryz.func260.trans (congrArg some (by kernel_rfl))
  f318 := Tryz.func261.trans (congrArg some (by kernel_rfl))
  f319 := Tryz.func262.trans (congrArg some (by kernel_rfl))
  f320 := Tryz.func263.trans (congrArg some (by kernel_rfl))
  f337 := Tryz.func264.trans (congrArg some (by kernel_rfl))
  f338 := Tryz.func265.trans (congrArg some (by kernel_rfl))
  t0 := Tryz.underlying0
  a0 := Tryz.isAgg0
  z0 := Tryz.sizeOf0
  v0 := Tryz.zeroValue0
  t2 := Tryz.underlying2
  a2 := Tryz.isAgg2
  z2 := Tryz.sizeOf2
  v2 := Tryz.zeroValue2
  t3 := Tryz.underlying3
  a3 := Tryz.isAgg3
  z3 := Tryz.sizeOf3
  v3 := Tryz.zeroValue3
  t4 := Tryz.underlying4
  a4 := Tryz.isAgg4
  z4 := Tryz.sizeOf4
  v4 := Tryz.zeroValue4
  t5 := Tryz.underlying5
  a5 := Tryz.isAgg5
  z5 := Tryz.sizeOf5
  v5 := Tryz.zeroValue5
  t9 := Tryz.underlying9
  a9 := Tryz.isAgg9
  z9 := Tryz.sizeOf9
  v9 := Tryz.zeroValue9
  t20 := Tryz.underlying20
  a20 := Tryz.isAgg20
  z20 := Tryz.sizeOf20
  v20 := Tryz.zeroValue20
  t37 := Tryz.underlying46
  a37 := Tryz.isAgg46
  z37 := Tryz.sizeOf46
  v37 := Tryz.zeroValue46
  t46 := Tryz.underlying220
  a46 := Tryz.isAgg220
  z46 := Tryz.sizeOf220
  v46 := Tryz.zeroValue220
  t51 := Tryz.underlying236
  a51 := Tryz.isAgg236
  z51 := Tryz.sizeOf236
  v51 := Tryz.zeroValue236
  t53 := Tryz.underlying38
  a53 := Tryz.isAgg38
  z53 := Tryz.sizeOf38
  v53 := Tryz.zeroValue38
  t171 := Tryz.underlying239
  a171 := Tryz.isAgg239
  z171 := Tryz.sizeOf239
  v171 := Tryz.zeroValue239
  t173 := Tryz.underlying241
  a173 := Tryz.isAgg241
  z173 := Tryz.sizeOf241
  v173 := Tryz.zeroValue241
  t212 := Tryz.underlying245
  a212 := Tryz.isAgg245
  z212 := Tryz.sizeOf245
  v212 := Tryz.zeroValue245
  t213 := Tryz.underlying246
  a213 := Tryz.isAgg246
  z213 := Tryz.sizeOf246
  t232 := Tryz.underlying249
  a232 := Tryz.isAgg249
  z232 := Tryz.sizeOf249
  v232 := Tryz.zeroValue249
  t233 := Tryz.underlying250
  a233 := Tryz.isAgg250
  z233 := Tryz.sizeOf250
  v233 := Tryz.zeroValue250
  g17 := by kernel_rfl
  g18 := by kernel_rfl
  g19 := by kernel_rfl
  i0 := by kernel_rfl
  i2 := by kernel_rfl
  i3 := by kernel_rfl
  i4 := by kernel_rfl
  i5 := by kernel_rfl
  i9 := by kernel_rfl
  i20 := by kernel_rfl
  i37 := by kernel_rfl
  i46 := by kernel_rfl
  i51 := by kernel_rfl
  i53 := by kernel_rfl
  i171 := by kernel_rfl
  i173 := by kernel_rfl
  i212 := by kernel_rfl
  i232 := by kernel_rfl
  i233 := by kernel_rfl
  m17 := by kernel_rfl
  m18 := by kernel_rfl
  m19 := by kernel_rfl }
open Go.RowKit Go.Sort Go.Lib in
theorem Tryz.strconv_Itoa (n : Int) (h0 : -9223372036854775808 ≤ n) (h1 : n ≤ 9223372036854775807) (w : World) (htab : Lib.TabIs Tryz.prog w "internal/strconv.uint64pow10" .u64 Lib.pow10Tab) :
    Calls Tryz.prog 248 #[.int .i64 n] w fun e w' => e = .returned (.string ⟨(Lib.itoa n).toArray⟩) ∧ ∃ k os, w' = grow (w.drewN k) os := Any.strconv_Itoa Tryz.laysM171 n h0 h1 w htab
def Tryz.lays219_ren : Go.Shelf.Ren := ⟨fun | 219 => 234 | 217 => 243 | 225 => 244 | 224 => 245 | 267 => 246 | 266 => 252 | 314 => 253 | n => n, fun | 9 => 9 | 3 => 3 | 4 => 4 | 5 => 5 | 46 => 220 | 146 => 237 | 51 => 236 | n => n, fun | 1 => 1 | n => n⟩
theorem Tryz.lays219 : Go.Proofs.Lays.n219 Tryz.prog Tryz.lays219_ren := {
  mixed := by kernel_rfl
  f217 := Tryz.func243.trans (congrArg some (by kernel_rfl))
  f219 := Tryz.func234.trans (congrArg some (by kernel_rfl))
  f224 := Tryz.func245.trans (congrArg some (by kernel_rfl))
  f225 := Tryz.func244.trans (congrArg some (by kernel_rfl))
  f266 := Tryz.func252.trans (congrArg some (by kernel_rfl))
  f267 := Tryz.func246.trans (congrArg some (by kernel_rfl))
  f314 := Tryz.func253.trans (congrArg some (by kernel_rfl))
  t3 := Tryz.underlying3
  a3 := Tryz.isAgg3
  z3 := Tryz.sizeOf3
  v3 := Tryz.zeroValue3
  t4 := Tryz.underlying4
  a4 := Tryz.isAgg4
  z4 := Tryz.sizeOf4
  v4 := Tryz.zeroValue4
  t5 := Tryz.underlying5
  a5 := Tryz.isAgg5
  z5 := Tryz.sizeOf5
  v5 := Tryz.zeroValue5
  t9 := Tryz.underlying9
  a9 := Tryz.isAgg9
  z9 := Tryz.sizeOf9
  v9 := Tryz.zeroValue9
  t46 := Tryz.underlying220
  a46 := Tryz.isAgg220
  z46 := Tryz.sizeOf220
  v46 := Tryz.zeroValue220
  t51 := Tryz.underlying236
  a51 := Tryz.isAgg236
  z51 := Tryz.sizeOf236
  v51 := Tryz.zeroValue236
  t146 := Tryz.underlying237
  a146 := Tryz.isAgg237
  z146 := Tryz.sizeOf237
  v146 := Tryz.zeroValue237
  g1 := by kernel_rfl }
open Go.RowKit Go.Lib in
theorem Tryz.stringslite_Index_one (s : ByteArray) (c : UInt8) (w : World) :
    Calls Tryz.prog 234 #[.string s, .string ⟨#[c]⟩] w fun e w' => e = .returned (.int .i64 (Lib.indexByte s.data.toList c)) ∧ w' = w := Any.stringslite_Index_one Tryz.lays219 s c w
def Tryz.lays99_ren : Go.Shelf.Ren := ⟨fun | 99 => 74 | 206 => 116 | n => n, fun | 9 => 9 | 4 => 4 | 3 => 3 | n => n, fun | n => n⟩
theorem Tryz.lays99 : Go.Proofs.Lays.n99 Tryz.prog Tryz.lays99_ren := {
  mixed := by kernel_rfl
  f99 := Tryz.func74.trans (congrArg some (by kernel_rfl))
  f206 := Tryz.func116.trans (congrArg some (by kernel_rfl))
  t3 := Tryz.underlying3
  a3 := Tryz.isAgg3
  z3 := Tryz.sizeOf3
  v3 := Tryz.zeroValue3
  t4 := Tryz.underlying4
  a4 := Tryz.isAgg4
  z4 := Tryz.sizeOf4
  v4 := Tryz.zeroValue4
  t9 := Tryz.underlying9
  a9 := Tryz.isAgg9
  z9 := Tryz.sizeOf9
  v9 := Tryz.zeroValue9 }
open Go.RowKit Go.Lib in
theorem Tryz.strings_HasPrefix (s p : ByteArray) (w : World) :
    Calls Tryz.prog 74 #[.string s, .string p] w fun e w' => e = .returned (.bool (Lib.hasPrefix s.data.toList p.data.toList)) ∧ w' = w := Any.strings_HasPrefix Tryz.lays99 s p w
def Tryz.lays264_ren : Go.Shelf.Ren := ⟨fun | 264 => 232 | n => n, fun | 53 => 38 | 46 => 220 | n => n, fun | n => n⟩
theorem Tryz.lays264 : Go.Proofs.Lays.n264 Tryz.prog Tryz.lays264_ren := {
  mixed := by kernel_rfl
  f264 := Tryz.func232.trans (congrArg some (by kernel_rfl))
  t46 := Tryz.underlying220
  a46 := Tryz.isAgg220
  z46 := Tryz.sizeOf220
  v46 := Tryz.zeroValue220
  t53 := Tryz.underlying38
  a53 := Tryz.isAgg38
  z53 := Tryz.sizeOf38
  v53 := Tryz.zeroValue38 }
open Go.RowKit Go.Lib in
theorem Tryz.bits_Mul64 (x y : Nat) (hx : x < 18446744073709551616) (hy : y < 18446744073709551616) (w : World) :
    Calls Tryz.prog 232 #[.int .u64 x, .int .u64 y] w fun e w' => e = .returned (.tuple #[.int .u64 ((x * y / 18446744073709551616 : Nat) : Int), .int .u64 ((x * y % 18446744073709551616 : Nat) : Int)]) ∧ w' = w := Any.bits_Mul64 Tryz.lays264 x y hx hy w
end Go.Proofs
namespace Go.Proofs
open Go.Shelf
def Tryz.laysM173_ren : Go.Shelf.Ren := ⟨fun | 173 => 241 | 246 => 250 | 283 => 255 | 284 => 256 | 285 => 257 | 286 => 258 | 129 => 247 | 317 => 260 | 318 => 261 | 319 => 262 | 320 => 263 | 337 => 264 | 338 => 265 | n => n, fun | 2 => 2 | 3 => 3 | 9 => 9 | 4 => 4 | 171 => 239 | 0 => 0 | 53 => 38 | 37 => 46 | 5 => 5 | 173 => 241 | 212 => 245 | 51 => 236 | 20 => 20 | 213 => 246 | 46 => 220 | 232 => 249 | 233 => 250 | n => n, fun | 17 => 2 | 18 => 3 | 19 => 4 | n => n⟩
theorem Tryz.laysM173 : Go.Proofs.LaysM.n173 Tryz.prog Tryz.laysM173_ren := {
  mixed := by kernel_rfl
  f129 := Tryz.func247.trans (congrArg some (by kernel_rfl))
  f173 := Tryz.func241.trans (congrArg some (by kernel_rfl))
  f246 := Tryz.func250.trans (congrArg some (by kernel_rfl))
  f283 := Tryz.func255.trans (congrArg some (by kernel_rfl))
  f284 := Tryz.func256.trans (congrArg some (by kernel_rfl))
  f285 := Tryz.func257.trans (congrArg some (by kernel_rfl))
  f286 := Tryz.func258.trans (congrArg some (by kernel_rfl))
  f317 := Tryz.func260.trans (congrArg some (by kernel_rfl))
  f318 := Tryz.func261.trans (congrArg some (by kernel_rfl))
  f319 := Tryz.func262.trans (congrArg some (by kernel_rfl))
  f320 := Tryz.func263.trans (congrArg some (by kernel_rfl))
  f337 := Tryz.func264.trans (congrArg some (by kernel_rfl))
  f338 := Tryz.func265.trans (congrArg some (by kernel_rfl))
  t0 := Tryz.underlying0
  a0 := Tryz.isAgg0
  z0 := Tryz.sizeOf0
  v0 := Tryz.zeroValue0
  t2 := Tryz.underlying2
  a2 := Tryz.isAgg2
  z2 := Tryz.sizeOf2
  v2 := Tryz.zeroValue2
  t3 := Tryz.underlying3
  a3 := Tryz.isAgg3
  z3 := Tryz.sizeOf3
  v3 := Tryz.zeroValue3
  t4 := Tryz.underlying4
  a4 := Tryz.isAgg4
  z4 := Tryz.sizeOf4
  v4 := Tryz.zeroValue4
  t5 := Tryz.underlying5
  a5 := Tryz.isAgg5
  z5 := Tryz.sizeOf5
  v5 := Tryz.zeroValue5
  t9 := Tryz.underlying9
  a9 := Tryz.isAgg9
  z9 := Tryz.sizeOf9
  v9 := Tryz.zeroValue9
  t20 := Tryz.underlying20
  a20 := Tryz.isAgg20
  z20 := Tryz.sizeOf20
  v20 := Tryz.zeroValue20
  t37 := Tryz.underlying46
  a37 := Tryz.isAgg46
  z37 := Tryz.sizeOf46
  v37 := Tryz.zeroValue46
  t46 := Tryz.underlying220
  a46 := Tryz.isAgg220
  z46 := Tryz.sizeOf220
  v46 := Tryz.zeroValue220
  t51 := Tryz.underlying236
  a51 := Tryz.isAgg236
  z51 := Tryz.sizeOf236
  v51 := Tryz.zeroValue236
  t53 := Tryz.underlying38
  a53 := Tryz.isAgg38
  z53 := Tryz.sizeOf38
  v53 := Tryz.zeroValue38
  t171 := Tryz.underlying239
  a171 := Tryz.isAgg239
  z171 := Tryz.sizeOf239
  v171 := Tryz.zeroValue239
  t173 := Tryz.underlying241
  a173 := Tryz.isAgg241
  z173 := Tryz.sizeOf241
  v173 := Tryz.zeroValue241
  t212 := Tryz.underlying245
  a212 := Tryz.isAgg245
  z212 := Tryz.sizeOf245
  v212 := Tryz.zeroValue245
  t213 := Tryz.underlying246
  a213 := Tryz.isAgg246
  z213 := Tryz.sizeOf246
  t232 := Tryz.underlying249
  a232 := Tryz.isAgg249
  z232 := Tryz.sizeOf249
  v232 := Tryz.zeroValue249
  t233 := Tryz.underlying250
  a233 := Tryz.isAgg250
  z233 := Tryz.sizeOf250
  v233 := Tryz.zeroValue250
  g17 := by kernel_rfl
  g18 := by kernel_rfl
  g19 := by kernel_rfl
  i0 := by kernel_rfl
  i2 := by kernel_rfl
  i3 := by kernel_rfl
  i4 := by kernel_rfl
  i5 := by kernel_rfl
  i9 := by kernel_rfl
  i20 := by kernel_rfl
  i37 := by kernel_rfl
  i46 := by kernel_rfl
  i51 := by kernel_rfl
  i53 := by kernel_rfl
  i171 := by kernel_rfl
  i173 := by kernel_rfl
  i212 := by kernel_rfl
  i232 := by kernel_rfl
  i233 := by kernel_rfl
  m17 := by kernel_rfl
  m18 := by kernel_rfl
  m19 := by kernel_rfl }
open Go.RowKit Go.Sort Go.Lib in
theorem Tryz.strconv_FormatInt_10 (n : Int) (h0 : -9223372036854775808 ≤ n) (h1 : n ≤ 9223372036854775807) (w : World) (htab : Lib.TabIs Tryz.prog w "internal/strconv.uint64pow10" .u64 Lib.pow10Tab) :
    Calls Tryz.prog 241 #[.int .i64 n, .int .i64 10] w fun e w' => e = .returned (.string ⟨(Lib.itoa n).toArray⟩) ∧ ∃ k os, w' = grow (w.drewN k) os := Any.strconv_FormatInt_10 Tryz.laysM173 n h0 h1 w htab
end Go.Proofs
namespace Go.Proofs.YteijjaabngkbjaaGreatDoor.D
set_option linter.unusedSimpArgs false
set_option linter.unusedVariables false
def isd (c : UInt8) : Bool := decide (48 ≤ c.toNat) && decide (c.toNat ≤ 57)
def stepD (m : Nat) (c : UInt8) : Nat := m * 10 + (c.toNat - 48)
def numD (l : List UInt8) : Nat := l.foldl stepD 0
theorem numD_snoc (l : List UInt8) (c : UInt8) : numD (l ++ [c]) = numD l * 10 + (c.toNat - 48) := by
  unfold numD
  rw [List.foldl_append]
  rfl
theorem ofNat_toNat (d : Nat) (h : d < 10) : (UInt8.ofNat (48 + d)).toNat = d + 48 := by
  rw [UInt8.toNat_ofNat']
  omega
theorem isd_ofNat (d : Nat) (h : d < 10) : isd (UInt8.ofNat (48 + d)) = true := by
  unfold isd
  rw [ofNat_toNat d h]
  simp
  omega
open Go.Lib in
theorem dec_facts : ∀ n : Nat, (decDigits n).all isd = true ∧ numD (decDigits n) = n ∧ 0 < (decDigits n).length ∧ (1 ≤ n → ∃ c r, decDigits n = c :: r ∧ c ≠ 48 ∧ isd c = true) := by
  intro n
  induction n using Nat.strongRecOn with
  | ind n ih =>
    by_cases h : n < 10
    · have e : decDigits n = [UInt8.ofNat (48 + n)] := by rw [decDigits, dif_pos h]
      rw [e]
      refine ⟨by simp only [List.all_cons, isd_ofNat n h, List.all_nil, Bool.and_self], ?_, by simp, fun h1 => ⟨_, _, rfl, ?_, isd_ofNat n h⟩⟩
      · simp only [numD, List.foldl_cons, List.foldl_nil, stepD, ofNat_toNat n h]
        omega
      · intro hc
        have := congrArg UInt8.toNat hc
        rw [ofNat_toNat n h] at this
        have h48 : (48 : UInt8).toNat = 48 := rfl
        omega
    · have e : decDigits n = decDigits (n / 10) ++ [UInt8.ofNat (48 + n % 10)] := by rw [decDigits, dif_neg h]
      obtain ⟨i1, i2, i3, i4⟩ := ih (n / 10) (by omega)
      have hd : n % 10 < 10 := by omega
      rw [e]
      refine ⟨by simp only [List.all_append, i1, List.all_cons, isd_ofNat _ hd, List.all_nil, Bool.and_self], ?_, by simp, fun h1 => ?_⟩
      · rw [numD_snoc, i2, ofNat_toNat _ hd]
        omega
      · obtain ⟨c, r, hc, h48, hcd⟩ := i4 (by omega)
        exact ⟨c, r ++ [UInt8.ofNat (48 + n % 10)], by rw [hc]; rfl, h48, hcd⟩
end Go.Proofs.YteijjaabngkbjaaGreatDoor.D
namespace Go.Proofs.YteijjaabngkbjaaGreatDoor.D
set_option linter.unusedSimpArgs false
set_option linter.unusedVariables false
def I64 (a : Int) : Prop := -9223372036854775808 ≤ a ∧ a ≤ 9223372036854775807
end Go.Proofs.YteijjaabngkbjaaGreatDoor.D
namespace Go.Proofs.YteijjaabngkbjaaGreatDoor.D
open Go.RowKit
set_option linter.unusedSimpArgs false
set_option linter.unusedVariables false
end Go.Proofs.YteijjaabngkbjaaGreatDoor.D
namespace Go.Proofs.YteijjaabngkbjaaGreatDoor.D
open Go.RowKit
set_option linter.unusedSimpArgs false
set_option linter.unusedVariables false
theorem wrap64_I {z : Int} (h : I64 z) : wrap64 z = z := by
  obtain ⟨_, _⟩ := h
  unfold wrap64
  omega
theorem tmod_lt (a b : Int) (hb : b ≠ 0) : (a.tmod b).natAbs < b.natAbs := by
  rw [Int.natAbs_tmod]
  exact Nat.mod_lt _ (by omega)
theorem tmod_sign (a b : Int) : (0 ≤ a → 0 ≤ a.tmod b) ∧ (a ≤ 0 → a.tmod b ≤ 0) := by
  constructor
  · intro h; exact Int.tmod_nonneg b h
  · intro h
    have := Int.tmod_nonneg b (show 0 ≤ -a by omega)
    rw [Int.neg_tmod] at this
    omega
end Go.Proofs.YteijjaabngkbjaaGreatDoor.D
namespace Go.Proofs.YteijjaabngkbjaaGreatDoor.D
open Go.RowKit
set_option linter.unusedSimpArgs false
set_option linter.unusedVariables false
end Go.Proofs.YteijjaabngkbjaaGreatDoor.D
namespace Go.Proofs.YteijjaabngkbjaaGreatDoor.D
open Go.RowKit
set_option linter.unusedSimpArgs false
set_option linter.unusedVariables false
def Kb (w w' : World) : Prop := w.keptBut w' (fun _ => False) ∧ w.heap.size ≤ w'.heap.size
theorem Kb.refl (w : World) : Kb w w := ⟨World.keptBut_refl _ _, Nat.le_refl _⟩
theorem Kb.trans {a b c : World} (h : Kb a b) (g : Kb b c) : Kb a c := ⟨World.keptBut_trans h.1 g.1, Nat.le_trans h.2 g.2⟩
theorem Kb.of_grown {a b : World} (h : Grown a b) : Kb a b := ⟨h.1, h.2.2⟩
def Tab (w : World) : Prop := Lib.TabIs Tryz.prog w "internal/strconv.uint64pow10" .u64 Lib.pow10Tab
theorem kb_grow (w : World) (k : Nat) (os : Array Obj) : Kb w (Sort.grow (w.drewN k) os) := by
  refine ⟨⟨rfl, rfl, fun i hi => ?_⟩, by simp [Sort.grow, World.drewN]⟩
  have e : (Sort.grow (w.drewN k) os).heap[i]? = w.heap[i]? := by
    show (w.heap ++ os)[i]? = _
    rw [Array.getElem?_append_left hi]
  rw [e]
  cases w.heap[i]? with
  | none => rfl
  | some o => cases o <;> simp
theorem dec_any (v : Int) (hv : I64 v) (w : World) (ht : Tab w) :
    Calls Tryz.prog 218 #[.int .i64 v] w fun r w' => r = .returned (.string ⟨(Lib.itoa v).toArray⟩) ∧ Kb w w' := by
  have hi := Tryz.strconv_FormatInt_10 v hv.1 hv.2 w ht
  generalize Lib.itoa v = l at *
  go_enter Tryz.func218, Tryz.ntmps218
  go_wp2_with (go_at_call 241; refine hi.mono ?_; rintro e w' ⟨rfl, k, os, rfl⟩)
  go_ret
  exact ⟨rfl, kb_grow _ _ _⟩
end Go.Proofs.YteijjaabngkbjaaGreatDoor.D
namespace Go.Proofs.YteijjaabngkbjaaGreatDoor.D
open Go.RowKit
set_option linter.unusedSimpArgs false
set_option linter.unusedVariables false
end Go.Proofs.YteijjaabngkbjaaGreatDoor.D
namespace Go.Proofs.YteijjaabngkbjaaGreatDoor.D
open Go.RowKit
set_option linter.unusedSimpArgs false
set_option linter.unusedVariables false
end Go.Proofs.YteijjaabngkbjaaGreatDoor.D
namespace Go.Proofs.YteijjaabngkbjaaGreatDoor.D
open Go.RowKit
set_option linter.unusedSimpArgs false
set_option linter.unusedVariables false
end Go.Proofs.YteijjaabngkbjaaGreatDoor.D
namespace Go.Proofs.YteijjaabngkbjaaGreatDoor.D
open Go.RowKit
set_option linter.unusedSimpArgs false
set_option linter.unusedVariables false
theorem conv_back (w : World) (a : Addr) (n cap : Nat) (l : List UInt8) (hn : l.length = n) (hc : ∀ j (hj : j < l.length), w.cell? (a.add j) = some (.int .u8 (l[j].toNat : Int))) :
    (convert 46 9 (.slice (some a) n cap)).run Tryz.prog w = .ok (.string ⟨l.toArray⟩) w := by
  subst hn
  exact run_convert_bytes_back w 46 9 5 a cap l Tryz.underlying46 Tryz.underlying5 Tryz.underlying9 hc
theorem conv_one (W : World) (a : Addr) (c : Int) (h0 : 0 ≤ c) (h1 : c < 256) (hc : W.cell? a = some (.int .u8 c)) :
    (convert 46 9 (.slice (some a) 1 1)).run Tryz.prog W = .ok (.string ⟨#[UInt8.ofNat c.toNat]⟩) W := by
  refine conv_back W a 1 1 [UInt8.ofNat c.toNat] rfl ?_
  intro j hj
  obtain rfl : j = 0 := by simp at hj; omega
  have e : ((UInt8.ofNat c.toNat).toNat : Int) = c := by
    rw [UInt8.toNat_ofNat']
    omega
  simp only [List.getElem_cons_zero, e]
  simpa [Addr.add] using hc
theorem itoa_step (v D Q : Int) (h0 : 0 ≤ D) (h9 : D ≤ 9) (hQ : Q ≠ 0) (h : (0 ≤ v ∧ v = Q * 10 + D) ∨ (v < 0 ∧ v = Q * 10 - D ∧ Q < 0)) : Lib.itoa v = Lib.itoa Q ++ [UInt8.ofNat (48 + D).toNat] := by
  rcases h with ⟨h1, h2⟩ | ⟨h1, h2, h3⟩
  · unfold Lib.itoa
    rw [if_neg (by omega), if_neg (by omega), Lib.decDigits, dif_neg (by omega), show v.toNat / 10 = Q.toNat by omega, show 48 + v.toNat % 10 = (48 + D).toNat by omega]
  · unfold Lib.itoa
    rw [if_pos h1, if_pos h3, Lib.decDigits, dif_neg (by omega), show v.natAbs / 10 = Q.natAbs by omega, show 48 + v.natAbs % 10 = (48 + D).toNat by omega]
    rfl
theorem itoa_len (v : Int) (hv : I64 v) : (Lib.itoa v).length ≤ 100 ∧ (Lib.itoa v).isEmpty = false := by
  have key : ∀ (k n : Nat), n < 10 ^ (k + 1) → (Lib.decDigits n).length ≤ k + 1 := by
    intro k
    induction k with
    | zero => intro n h; rw [Lib.decDigits, dif_pos (by omega)]; simp
    | succ k ih =>
      intro n h
      rw [Lib.decDigits]
      split
      · simp
      · have := ih (n / 10) (by rw [Nat.pow_succ] at h; omega)
        simp
        omega
  obtain ⟨h0, h1⟩ := hv
  have h2 : (9223372036854775808 : Nat) < 10 ^ (19 + 1) := by decide
  have k1 := key 19 v.natAbs (by omega)
  have k2 := key 19 v.toNat (by omega)
  have d1 := (dec_facts v.toNat).2.2.1
  unfold Lib.itoa
  split
  · exact ⟨by simp; omega, rfl⟩
  · refine ⟨by omega, ?_⟩
    cases hc : Lib.decDigits v.toNat with
    | nil => rw [hc] at d1; simp at d1
    | cons => rfl
set_option maxHeartbeats 1000000 in
theorem rdec_any : ∀ (n : Nat) (v : Int), v.natAbs = n → I64 v → ∀ w : World,
    Calls Tryz.prog 175 #[.int .i64 v] w fun e w' => e = .returned (.string ⟨(Lib.itoa v).toArray⟩) ∧ Kb w w' := by
  intro n
  induction n using Nat.strongRecOn with
  | _ n ih =>
    intro v hn hv w
    have hI := hv
    obtain ⟨v0, v1⟩ := hv
    have hcv : ∀ (D : Int), 0 ≤ D → D ≤ 9 → ∀ W : World, (convert 46 9 (.slice (some ⟨W.heap.size, 0, none⟩) 1 1)).run Tryz.prog (W.alloc (.cells #[.int .u8 (48 + D)] 5)) = .ok (.string ⟨#[UInt8.ofNat (48 + D).toNat]⟩) (W.alloc (.cells #[.int .u8 (48 + D)] 5)) :=
      fun D h0 h1 W => conv_one (W.alloc (.cells #[.int .u8 (48 + D)] 5)) ⟨W.heap.size, 0, none⟩ _ (by omega) (by omega) (by simp)
    by_cases c : v < 0
    · obtain ⟨D, hD⟩ : ∃ D, v.tmod 10 = -D := ⟨-(v.tmod 10), by omega⟩
      obtain ⟨Q, hQ⟩ : ∃ Q, v.tdiv 10 = Q := ⟨_, rfl⟩
      have hm := Int.mul_tdiv_add_tmod v 10
      have hlt := tmod_lt v 10 (by omega)
      have hsg := (tmod_sign v 10).2 (by omega)
      rw [hD] at hm hlt hsg
      rw [hQ] at hm
      have D0 : 0 ≤ D := by omega
      have D9 : D ≤ 9 := by omega
      have hcD := hcv D D0 D9
      by_cases hq0 : Q = 0
      · subst hq0
        have e : Lib.itoa v = [45] ++ [UInt8.ofNat (48 + D).toNat] := by
          unfold Lib.itoa
          rw [if_pos c, Lib.decDigits, dif_pos (by omega), show v.natAbs = D.toNat by omega, show (48 + D).toNat = 48 + D.toNat by omega]
          rfl
        rw [e]
        clear e ih hn hcv hm hlt hsg hI
        have hcat := fun W : World => run_string_add_lists (P := Tryz.prog) W [45] [UInt8.ofNat (48 + D).toNat] (by simp) (by simp)
        generalize UInt8.ofNat (48 + D).toNat = x at *
        go_enter Tryz.func175, Tryz.ntmps175
        go_wp2
        go_ret
        exact ⟨rfl, Kb.of_grown (Grown.alloc (Grown.refl _) _ _)⟩
      · have hQI : I64 Q := ⟨by omega, by omega⟩
        have ih' := ih Q.natAbs (by omega) Q rfl hQI
        have e := itoa_step v D Q D0 D9 hq0 (Or.inr ⟨c, by omega, by omega⟩)
        obtain ⟨hl, hne⟩ := itoa_len Q hQI
        have hcat := fun W : World => run_string_add_lists (P := Tryz.prog) W (Lib.itoa Q) [UInt8.ofNat (48 + D).toNat] (by omega) (by simp)
        rw [← e] at hcat
        have hw : wrap64 Q = Q := wrap64_I hQI
        have hq' : (Q != 0) = true := by simpa using hq0
        obtain ⟨Q0, Q1⟩ := hQI
        clear e ih hn hcv hm hlt hsg hI
        generalize UInt8.ofNat (48 + D).toNat = x at *
        generalize Lib.itoa Q = ds at *
        generalize Lib.itoa v = vs at *
        go_enter Tryz.func175, Tryz.ntmps175
        go_wp2_with (go_at_call 175; refine (ih' _).mono ?_; rintro e w' ⟨rfl, g⟩)
        go_ret
        exact ⟨rfl, g.trans (Kb.of_grown (Grown.alloc (Grown.refl _) _ _))⟩
    · obtain ⟨D, hD⟩ : ∃ D, v % 10 = D := ⟨_, rfl⟩
      obtain ⟨Q, hQ⟩ : ∃ Q, v / 10 = Q := ⟨_, rfl⟩
      have hvn : 0 ≤ v := by omega
      have D0 : 0 ≤ D := by omega
      have D9 : D ≤ 9 := by omega
      have hcD := hcv D D0 D9
      by_cases hq0 : Q = 0
      · subst hq0
        have e : Lib.itoa v = [] ++ [UInt8.ofNat (48 + D).toNat] := by
          unfold Lib.itoa
          rw [if_neg c, Lib.decDigits, dif_pos (by omega), show v.toNat = D.toNat by omega, show (48 + D).toNat = 48 + D.toNat by omega]
          rfl
        rw [e]
        clear e ih hn hcv hI
        have hcat := fun W : World => run_string_add_lists (P := Tryz.prog) W [] [UInt8.ofNat (48 + D).toNat] (by simp) (by simp)
        generalize UInt8.ofNat (48 + D).toNat = x at *
        go_enter Tryz.func175, Tryz.ntmps175
        go_wp2
        go_ret
        exact ⟨rfl, Kb.of_grown (Grown.alloc (Grown.refl _) _ _)⟩
      · have hQI : I64 Q := ⟨by omega, by omega⟩
        have ih' := ih Q.natAbs (by omega) Q rfl hQI
        have e := itoa_step v D Q D0 D9 hq0 (Or.inl ⟨by omega, by omega⟩)
        obtain ⟨hl, hne⟩ := itoa_len Q hQI
        have hcat := fun W : World => run_string_add_lists (P := Tryz.prog) W (Lib.itoa Q) [UInt8.ofNat (48 + D).toNat] (by omega) (by simp)
        rw [← e] at hcat
        have hq' : (Q != 0) = true := by simpa using hq0
        obtain ⟨Q0, Q1⟩ := hQI
        clear e ih hn hcv hI
        generalize UInt8.ofNat (48 + D).toNat = x at *
        generalize Lib.itoa Q = ds at *
        generalize Lib.itoa v = vs at *
        go_enter Tryz.func175, Tryz.ntmps175
        go_wp2_with (go_at_call 175; refine (ih' _).mono ?_; rintro e w' ⟨rfl, g⟩)
        go_ret
        exact ⟨rfl, g.trans (Kb.of_grown (Grown.alloc (Grown.refl _) _ _))⟩
end Go.Proofs.YteijjaabngkbjaaGreatDoor.D
