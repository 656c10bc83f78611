/- Names: what is spelt right, the reserved words, Right, and the document's. -/
import Derived.Test.YtajefmmggefbeaaNmLet
namespace Go.Proofs.Ytajefmmggefbeaa
open Go.RowKit Go.Sort
set_option linter.unusedSimpArgs false
set_option linter.unusedVariables false

theorem str_len (t : List UInt8) : ((⟨t.toArray⟩ : ByteArray).size : Int) = (t.length : Int) := by simp [ByteArray.size]
theorem str_index (l : List UInt8) (k : Nat) (c : UInt8) (h : l[k]? = some c) (w : World) :
    (Instr.index 9 (.string ⟨l.toArray⟩) (.int .i64 (k : Int))).run Try.prog w = .ok (.int .u8 (c.toNat : Int)) w := by
  obtain ⟨hk, hc⟩ := List.getElem?_eq_some_iff.1 h
  have hs : k < (⟨l.toArray⟩ : ByteArray).size := by simpa [ByteArray.size] using hk
  rw [run_index_string _ _ _ _ _ Try.underlying9, dif_pos ⟨by omega, by omega⟩]
  have e : (⟨l.toArray⟩ : ByteArray)[k]'hs = c := by
    show l.toArray[k] = c
    simpa using hc
  simp only [Int.toNat_natCast]
  rw [e]
theorem drop_at {α : Type} {l : List α} {j : Nat} {c : α} (h : l[j]? = some c) : l.drop j = c :: l.drop (j + 1) := by
  obtain ⟨hj, rfl⟩ := List.getElem?_eq_some_iff.1 h
  exact List.drop_eq_getElem_cons hj

theorem frozen_of_row {w : World} {g : Nat} {cur : Array Value} {e : TypeId} (h : w.heap[g]? = some (.cells cur e (0, 0))) (j : Nat) : w.frozen? ⟨g, j, none⟩ = false := by simp [World.frozen?, h]

/-- The reserved words. -/
def wordsL : List Str := [[98, 111, 111, 108], [99, 97, 116, 99, 104], [99, 111, 110, 115, 116], [101, 108, 115, 101], [101, 120, 112, 111, 114, 116], [102, 97, 105, 108], [102, 97, 108, 115, 101], [102, 108, 111, 97, 116], [102, 110], [105, 102], [105, 109, 112, 111, 114, 116], [105, 110, 102], [105, 110, 112, 117, 116], [105, 110, 116], [108, 101, 116], [109, 111, 100, 117, 108, 101], [110, 97, 110], [114, 101, 116, 117, 114, 110], [115, 104, 111, 119], [116, 114, 117, 101], [116, 114, 121], [118, 97, 114], [119, 104, 105, 108, 101]]

theorem rwords_any (w : World) :
    Calls Try.prog 83 #[] w fun e w' => e = .returned (.slice (some ⟨w.heap.size, 0, none⟩) 23 23) ∧ w' = w.alloc (.cells (wordsL.map encStr).toArray 9) := by
  go_enter Try.func83, Try.ntmps83
  go_wp2
  go_ret
  exact ⟨rfl, rfl⟩
theorem Tn.words (w : World) : Tn (w.alloc (.cells (wordsL.map encStr).toArray 9)) w.heap.size (.slice (some ⟨w.heap.size, 0, none⟩) 23 23) wordsL := by
  refine ⟨_, 23, rfl, by decide, by omega, (fun h => by cases h), Or.inr ⟨w.heap.size, 0, rfl, Nat.le_refl _, by simp, fun j hj => ?_⟩⟩
  have hb := alloc_new w (.cells (wordsL.map encStr).toArray 9)
  have hj' : j < wordsL.length := by simpa using hj
  constructor
  · rw [Nat.zero_add, cell_of_row _ _ _ _ _ _ hb, getElem!_pos _ j hj]
    simp [hj']
  · exact frozen_of_row hb _

def okAt (i : Nat) (c : UInt8) : Bool := letB c.toNat || (i != 0 && digB c.toNat)
def speltGo : List UInt8 → Nat → Bool
  | [], _ => true
  | c :: r, i => okAt i c && speltGo r (i + 1)
def speltS (s : Str) : Bool := speltGo s 0 && !s.isEmpty

set_option maxHeartbeats 400000 in
theorem spelt_walk (l : Str) (v : Bool) (hl : l.length ≤ 9223372036854775807) (hv : Hidden (speltGo l 0 = v)) (w : World) :
    Calls Try.prog 95 #[.string ⟨l.toArray⟩] w fun e w' => e = .returned (.bool (v && !l.isEmpty)) ∧ w' = w := by
  have hs := str_len l
  go_enter Try.func95, Try.ntmps95
  go_wp2
  go_loopg [6] l.length (fun k iv wr => ∃ j : Nat, iv = .int .i64 (j : Int) ∧ j ≤ l.length ∧ speltGo (l.drop j) j = v ∧ k = l.length - j ∧ wr = w)
  case atStart => exact ⟨0, rfl, by omega, hv, rfl, rfl⟩
  case round =>
    obtain ⟨j, rfl, hj, hf, hgk, rfl⟩ := hrel
    have hgkH : Hidden (gk = l.length - j) := hgk
    clear hgk
    by_cases hjl : j < l.length
    · obtain ⟨c, hc⟩ : ∃ c, l[j]? = some c := ⟨l[j], List.getElem?_eq_getElem hjl⟩
      rw [drop_at hc, speltGo] at hf
      have hx := str_index l j c hc
      have kl := letter_any c.toNat _ rfl
      have kd := digit_any c.toNat _ rfl
      have hno : l.isEmpty = false := by cases l with
        | nil => simp at hc
        | cons a b => rfl
      unfold okAt at hf
      obtain ⟨m, hm⟩ : ∃ m, c.toNat = m := ⟨_, rfl⟩
      rw [hm] at hx kl kd hf
      clear hm hc hv
      cases hlt : letB m
      · rw [hlt] at kl hf
        clear hlt
        cases hdg : digB m
        · rw [hdg] at kd hf
          simp only [Bool.false_or, Bool.and_false, Bool.false_and] at hf
          subst hf
          clear hdg
          by_cases h0 : j = 0
          · have h0' : ((j : Int) == 0) = true := by simp [h0]
            clear h0
            go_wp2_with (first | (go_at_call 103; refine (kl _).mono ?_; rintro e w' ⟨rfl, rfl⟩) | (go_at_call 104; refine (kd _).mono ?_; rintro e w' ⟨rfl, rfl⟩))
            go_ret
            exact ⟨rfl, rfl⟩
          · have h0' : ((j : Int) == 0) = false := by simp; omega
            go_wp2_with (first | (go_at_call 103; refine (kl _).mono ?_; rintro e w' ⟨rfl, rfl⟩) | (go_at_call 104; refine (kd _).mono ?_; rintro e w' ⟨rfl, rfl⟩))
            go_ret
            exact ⟨rfl, rfl⟩
        · rw [hdg] at kd hf
          simp only [Bool.false_or, Bool.and_true] at hf
          clear hdg
          by_cases h0 : j = 0
          · have h0' : ((j : Int) == 0) = true := by simp [h0]
            have h00 : (j != 0) = false := by simp [h0]
            rw [h00, Bool.false_and] at hf
            subst hf
            clear h0 h00
            go_wp2_with (first | (go_at_call 103; refine (kl _).mono ?_; rintro e w' ⟨rfl, rfl⟩) | (go_at_call 104; refine (kd _).mono ?_; rintro e w' ⟨rfl, rfl⟩))
            go_ret
            exact ⟨rfl, rfl⟩
          · have h0' : ((j : Int) == 0) = false := by simp; omega
            have h00 : (j != 0) = true := by simp [h0]
            rw [h00, Bool.true_and] at hf
            have hfH : Hidden (speltGo (l.drop (j + 1)) (j + 1) = v) := hf
            clear hf h00
            go_wp2_with (first | (go_at_call 103; refine (kl _).mono ?_; rintro e w' ⟨rfl, rfl⟩) | (go_at_call 104; refine (kd _).mono ?_; rintro e w' ⟨rfl, rfl⟩))
            go_roundg (l.length - (j + 1))
            case measure =>
              have : gk = l.length - j := hgkH
              omega
            case rel => exact ⟨j + 1, by go_num, by omega, hfH, rfl, rfl⟩
      · rw [hlt] at kl hf
        simp only [Bool.true_or, Bool.true_and] at hf
        have hfH : Hidden (speltGo (l.drop (j + 1)) (j + 1) = v) := hf
        clear hf hlt
        go_wp2_with (first | (go_at_call 103; refine (kl _).mono ?_; rintro e w' ⟨rfl, rfl⟩) | (go_at_call 104; refine (kd _).mono ?_; rintro e w' ⟨rfl, rfl⟩))
        go_roundg (l.length - (j + 1))
        case measure =>
          have : gk = l.length - j := hgkH
          omega
        case rel => exact ⟨j + 1, by go_num, by omega, hfH, rfl, rfl⟩
    · obtain rfl : j = l.length := by omega
      rw [List.drop_length] at hf
      obtain rfl : true = v := hf
      clear hv
      go_wp2
      go_ret
      refine ⟨?_, rfl⟩
      cases l with
      | nil => rfl
      | cons a b => rfl
theorem spelt_any (l : Str) (v : Bool) (hv : speltS l = v) (hl : l.length ≤ 9223372036854775807) (w : World) :
    Calls Try.prog 95 #[.string ⟨l.toArray⟩] w fun e w' => e = .returned (.bool v) ∧ w' = w := hv ▸ spelt_walk l _ hl rfl w

set_option maxRecDepth 20000 in
set_option maxHeartbeats 1000000 in
theorem reserved_in (s : Str) (h : s ∈ wordsL) (w : World) :
    Calls Try.prog 96 #[.string ⟨s.toArray⟩] w fun e w' => e = .returned (.bool true) ∧ w' = w := by
  simp only [wordsL, List.mem_cons, List.not_mem_nil, or_false] at h
  rcases h with rfl | rfl | rfl | rfl | rfl | rfl | rfl | rfl | rfl | rfl | rfl | rfl | rfl | rfl | rfl | rfl | rfl | rfl | rfl | rfl | rfl | rfl | rfl
  all_goals
    go_enter Try.func96, Try.ntmps96
    go_wp2
    go_ret
    exact ⟨rfl, rfl⟩

set_option maxRecDepth 20000 in
set_option maxHeartbeats 1000000 in
theorem reserved_out (s : Str) (h : s ∉ wordsL) (w : World) :
    Calls Try.prog 96 #[.string ⟨s.toArray⟩] w fun e w' => e = .returned (.bool false) ∧ w' = w := by
  have h0 : (s == [98, 111, 111, 108]) = false := beq_eq_false_iff_ne.2 (fun e => h (e ▸ (by decide)))
  have h1 : (s == [99, 97, 116, 99, 104]) = false := beq_eq_false_iff_ne.2 (fun e => h (e ▸ (by decide)))
  have h2 : (s == [99, 111, 110, 115, 116]) = false := beq_eq_false_iff_ne.2 (fun e => h (e ▸ (by decide)))
  have h3 : (s == [101, 108, 115, 101]) = false := beq_eq_false_iff_ne.2 (fun e => h (e ▸ (by decide)))
  have h4 : (s == [101, 120, 112, 111, 114, 116]) = false := beq_eq_false_iff_ne.2 (fun e => h (e ▸ (by decide)))
  have h5 : (s == [102, 97, 105, 108]) = false := beq_eq_false_iff_ne.2 (fun e => h (e ▸ (by decide)))
  have h6 : (s == [102, 97, 108, 115, 101]) = false := beq_eq_false_iff_ne.2 (fun e => h (e ▸ (by decide)))
  have h7 : (s == [102, 108, 111, 97, 116]) = false := beq_eq_false_iff_ne.2 (fun e => h (e ▸ (by decide)))
  have h8 : (s == [102, 110]) = false := beq_eq_false_iff_ne.2 (fun e => h (e ▸ (by decide)))
  have h9 : (s == [105, 102]) = false := beq_eq_false_iff_ne.2 (fun e => h (e ▸ (by decide)))
  have h10 : (s == [105, 109, 112, 111, 114, 116]) = false := beq_eq_false_iff_ne.2 (fun e => h (e ▸ (by decide)))
  have h11 : (s == [105, 110, 102]) = false := beq_eq_false_iff_ne.2 (fun e => h (e ▸ (by decide)))
  have h12 : (s == [105, 110, 112, 117, 116]) = false := beq_eq_false_iff_ne.2 (fun e => h (e ▸ (by decide)))
  have h13 : (s == [105, 110, 116]) = false := beq_eq_false_iff_ne.2 (fun e => h (e ▸ (by decide)))
  have h14 : (s == [108, 101, 116]) = false := beq_eq_false_iff_ne.2 (fun e => h (e ▸ (by decide)))
  have h15 : (s == [109, 111, 100, 117, 108, 101]) = false := beq_eq_false_iff_ne.2 (fun e => h (e ▸ (by decide)))
  have h16 : (s == [110, 97, 110]) = false := beq_eq_false_iff_ne.2 (fun e => h (e ▸ (by decide)))
  have h17 : (s == [114, 101, 116, 117, 114, 110]) = false := beq_eq_false_iff_ne.2 (fun e => h (e ▸ (by decide)))
  have h18 : (s == [115, 104, 111, 119]) = false := beq_eq_false_iff_ne.2 (fun e => h (e ▸ (by decide)))
  have h19 : (s == [116, 114, 117, 101]) = false := beq_eq_false_iff_ne.2 (fun e => h (e ▸ (by decide)))
  have h20 : (s == [116, 114, 121]) = false := beq_eq_false_iff_ne.2 (fun e => h (e ▸ (by decide)))
  have h21 : (s == [118, 97, 114]) = false := beq_eq_false_iff_ne.2 (fun e => h (e ▸ (by decide)))
  have h22 : (s == [119, 104, 105, 108, 101]) = false := beq_eq_false_iff_ne.2 (fun e => h (e ▸ (by decide)))
  clear h
  go_enter Try.func96, Try.ntmps96
  go_wp2
  go_ret
  exact ⟨rfl, rfl⟩
theorem reserved_any (s : Str) (r : Bool) (hr : decide (s ∈ wordsL) = r) (w : World) :
    Calls Try.prog 96 #[.string ⟨s.toArray⟩] w fun e w' => e = .returned (.bool r) ∧ w' = w := by
  subst hr
  by_cases h : s ∈ wordsL
  · rw [decide_eq_true h]; exact reserved_in s h w
  · rw [decide_eq_false h]; exact reserved_out s h w
end Go.Proofs.Ytajefmmggefbeaa
