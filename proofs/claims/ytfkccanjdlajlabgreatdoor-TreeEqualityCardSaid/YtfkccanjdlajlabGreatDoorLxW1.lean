/- The program's small functions: what a byte may stand in, runs of bytes, blanks. -/
import Derived.Test.YtfkccanjdlajlabGreatDoorNxA
import Derived.Test.YtfkccanjdlajlabGreatDoorLxS3
namespace Go.Proofs.YtfkccanjdlajlabGreatDoor
open Go.RowKit Lx
set_option linter.unusedSimpArgs false
set_option linter.unusedVariables false

def partsN (n : Nat) : Nat :=
  if 48 ≤ n ∧ n ≤ 57 then 7 else if (97 ≤ n ∧ n ≤ 102) ∨ n = 112 then 6 else if (97 ≤ n ∧ n ≤ 122) ∨ (65 ≤ n ∧ n ≤ 90) ∨ n = 95 then 4 else if n = 46 ∨ n = 43 ∨ n = 45 then 2 else 0
theorem parts_walk (n : Nat) (r : Nat) (hr : Hidden (partsN n = r)) (w : World) :
    Calls Tryz.prog 110 #[.int .u8 (n : Int)] w fun e w' => e = .returned (.int .i64 (r : Int)) ∧ w' = w := by
  go_enter Tryz.func110, Tryz.ntmps110
  go_wp2
  all_goals (go_ret; refine ⟨?_, rfl⟩; rw [← (show partsN n = r from hr)]; clear hr; congr 1)
  all_goals (unfold partsN; simp only [Value.int.injEq, true_and]; repeat' split)
  all_goals first | rfl | (exfalso; (try simp only [beq_iff_eq, beq_eq_false_iff_ne, ne_eq] at *); omega)
theorem ret_bool {a b : Bool} (h : a = true ↔ b = true) : Ending.returned (.bool a) = .returned (.bool b) := by rw [Bool.eq_iff_iff.2 h]
theorem blank_walk (n : Nat) (r : Bool) (hr : Hidden ((n == 32 || n == 9 || n == 10 || n == 13) = r)) (w : World) :
    Calls Tryz.prog 86 #[.int .u8 (n : Int)] w fun e w' => e = .returned (.bool r) ∧ w' = w := by
  go_enter Tryz.func86, Tryz.ntmps86
  go_wp2
  all_goals (go_ret; refine ⟨?_, rfl⟩; rw [← (show _ = r from hr)]; clear hr; refine ret_bool ?_; (try simp only [beq_iff_eq, beq_eq_false_iff_ne, ne_eq] at *); simp only [Bool.or_eq_true, beq_iff_eq, true_iff, Bool.false_eq_true, false_iff]; omega)

theorem parts_dgt (c : UInt8) : (bits BinOp.and IntKind.i64 (partsN c.toNat : Int) 1 != 0) = dgt c ∧ (bits BinOp.and IntKind.i64 (partsN c.toNat : Int) 2 != 0) = hxB c ∧ (bits BinOp.and IntKind.i64 (partsN c.toNat : Int) 4 != 0) = nmB c := by
  have h : ∀ k < 256, (bits BinOp.and IntKind.i64 (partsN k : Int) 1 != 0) = dgt (UInt8.ofNat k) ∧ (bits BinOp.and IntKind.i64 (partsN k : Int) 2 != 0) = hxB (UInt8.ofNat k) ∧ (bits BinOp.and IntKind.i64 (partsN k : Int) 4 != 0) = nmB (UInt8.ofNat k) := by decide +kernel
  have := h c.toNat c.toNat_lt
  simpa using this

theorem run_step (p : UInt8 → Bool) (l : By) (j : Nat) (c : UInt8) (h : l[j]? = some c) : run p (l.drop j) = if p c = true then run p (l.drop (j + 1)) + 1 else 0 := by
  rw [drop_at h, run_cons]
/-- runEnd, of a part m whose bytes are p. -/
theorem runEnd_walk (l : By) (i m R : Nat) (p : UInt8 → Bool) (hp : ∀ c, (bits BinOp.and IntKind.i64 (partsN c.toNat : Int) (m : Int) != 0) = p c) (hi : i ≤ l.length) (hl : l.length ≤ 9223372036854775806) (hR : Hidden (i + run p (l.drop i) = R)) (w : World) :
    Calls Tryz.prog 112 #[.string ⟨l.toArray⟩, .int .i64 (i : Int), .int .i64 (m : Int)] w fun e w' => e = .returned (.int .i64 (R : Int)) ∧ w' = w := by
  have hs := str_len l
  have hpH : Hidden (∀ c, (bits BinOp.and IntKind.i64 (partsN c.toNat : Int) (m : Int) != 0) = p c) := hp
  clear hp
  go_enter Tryz.func112, Tryz.ntmps112
  go_wp2
  go_loopg [1] (l.length - i) (fun k iv wr => ∃ j : Nat, iv = .int .i64 (j : Int) ∧ j ≤ l.length ∧ j + run p (l.drop j) = R ∧ k = l.length - j ∧ wr = w)
  case atStart => exact ⟨i, rfl, hi, hR, rfl, rfl⟩
  case round =>
    obtain ⟨j, rfl, hj, hf, hgk, rfl⟩ := hrel
    have hgkH : Hidden (gk = l.length - j) := hgk
    clear hgk hR hi
    by_cases hjl : j < l.length
    · obtain ⟨c, hc⟩ : ∃ c, l[j]? = some c := ⟨l[j], List.getElem?_eq_getElem hjl⟩
      rw [run_step p l j c hc] at hf
      have hx := str_index l j c hc
      have kp := parts_walk c.toNat _ rfl
      have hb := hpH c
      clear hc
      cases hpc : p c
      · rw [hpc] at hf hb
        simp only [Bool.false_eq_true, if_false] at hf
        have hfH : Hidden (j = R) := by show _ = _; omega
        clear hf hpc hpH
        go_wp2_with (go_at_call 110; refine (kp _).mono ?_; rintro e w' ⟨rfl, rfl⟩)
        go_ret
        rw [← show j = R from hfH]
        exact ⟨rfl, rfl⟩
      · rw [hpc] at hf hb
        simp only [if_true] at hf
        have hfH : Hidden (j + 1 + run p (l.drop (j + 1)) = R) := by show _ = _; omega
        clear hf hpc
        go_wp2_with (go_at_call 110; refine (kp _).mono ?_; rintro e w' ⟨rfl, rfl⟩)
        go_roundg (l.length - (j + 1))
        case measure =>
          have : gk = l.length - j := hgkH
          omega
        case rel => exact ⟨j + 1, by go_num, by omega, hfH, rfl, rfl⟩
    · obtain rfl : j = l.length := by omega
      rw [List.drop_length, run_nil] at hf
      have hfH : Hidden (l.length = R) := by show _ = _; omega
      clear hf
      go_wp2
      go_ret
      rw [← show l.length = R from hfH]
      exact ⟨rfl, rfl⟩
end Go.Proofs.YtfkccanjdlajlabGreatDoor
