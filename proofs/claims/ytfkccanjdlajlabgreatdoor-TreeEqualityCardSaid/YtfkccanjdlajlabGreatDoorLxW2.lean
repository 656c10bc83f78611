/- The program's gapEnd: blanks and remarks. -/
import Derived.Test.YtfkccanjdlajlabGreatDoorLxW1
import Derived.Test.YtfkccanjdlajlabGreatDoorShelf
namespace Go.Proofs.YtfkccanjdlajlabGreatDoor
open Go.RowKit Lx
set_option linter.unusedSimpArgs false
set_option linter.unusedVariables false

theorem slice_to (l : List UInt8) (i : Nat) (h : i ≤ l.length) (hl : l.length ≤ 9223372036854775807) (w : World) :
    (Instr.slice 9 (.string ⟨l.toArray⟩) none (some (.int .i64 (i : Int))) none).run Tryz.prog w = .ok (.string ⟨(l.take i).toArray⟩) w := by
  have hs : (⟨l.toArray⟩ : ByteArray).size = l.length := by simp [ByteArray.size]
  rw [run_slice_string_to_if _ _ _ _ _ Tryz.underlying9]
  have e : (⟨l.toArray⟩ : ByteArray).extract 0 i = ⟨(l.take i).toArray⟩ := by
    apply ByteArray.ext
    apply Array.ext'
    rw [Lib.extract_data]
    simp
  rw [if_pos (by rw [hs]; omega), Int.toNat_natCast, e]
theorem slice_from (l : List UInt8) (i : Nat) (h : i ≤ l.length) (hl : l.length ≤ 9223372036854775807) (w : World) :
    (Instr.slice 9 (.string ⟨l.toArray⟩) (some (.int .i64 (i : Int))) none none).run Tryz.prog w = .ok (.string ⟨(l.drop i).toArray⟩) w := by
  have hs : (⟨l.toArray⟩ : ByteArray).size = l.length := by simp [ByteArray.size]
  rw [run_slice_string_from_if _ _ _ _ _ Tryz.underlying9]
  have e : (⟨l.toArray⟩ : ByteArray).extract i (⟨l.toArray⟩ : ByteArray).size = ⟨(l.drop i).toArray⟩ := by
    apply ByteArray.ext
    apply Array.ext'
    rw [Lib.extract_to_end]
  rw [if_pos (by rw [hs]; omega), Int.toNat_natCast, e]

theorem remark_walk (l : By) (i R : Nat) (hi : i ≤ l.length) (hl : l.length ≤ 9223372036854775806) (hR : Hidden (i + run (fun c => c != 10) (l.drop i) = R)) (w : World) :
    Calls Tryz.prog 88 #[.string ⟨l.toArray⟩, .int .i64 (i : Int)] w fun e w' => e = .returned (.int .i64 (R : Int)) ∧ w' = w := by
  have hs := str_len l
  go_enter Tryz.func88, Tryz.ntmps88
  go_wp2
  go_loopg [1] (l.length - i) (fun k iv wr => ∃ j : Nat, iv = .int .i64 (j : Int) ∧ j ≤ l.length ∧ j + run (fun c => c != 10) (l.drop j) = R ∧ k = l.length - j ∧ wr = w)
  case atStart => exact ⟨i, rfl, hi, hR, rfl, rfl⟩
  case round =>
    obtain ⟨j, rfl, hj, hf, hgk, rfl⟩ := hrel
    have hgkH : Hidden (gk = l.length - j) := hgk
    clear hgk hR hi
    by_cases hjl : j < l.length
    · obtain ⟨c, hc⟩ : ∃ c, l[j]? = some c := ⟨l[j], List.getElem?_eq_getElem hjl⟩
      rw [run_step _ l j c hc] at hf
      have hx := str_index l j c hc
      clear hc
      by_cases hpc : c = 10
      · subst hpc
        simp only [bne_self_eq_false, Bool.false_eq_true, if_false] at hf
        have hfH : Hidden (j = R) := by show _ = _; omega
        clear hf
        go_wp2
        go_ret
        rw [← show j = R from hfH]
        exact ⟨rfl, rfl⟩
      · have hn : ((c.toNat : Int) != 10) = true := by
          simp only [bne_iff_ne, ne_eq]
          intro e
          exact hpc (UInt8.toNat_inj.1 (by simpa using (by omega : c.toNat = 10)))
        rw [if_pos (by simpa using hpc)] at hf
        have hfH : Hidden (j + 1 + run (fun c => c != 10) (l.drop (j + 1)) = R) := by show _ = _; omega
        clear hf hpc
        go_wp2
        go_roundg (l.length - (j + 1))
        case measure =>
          have : gk = l.length - j := hgkH
          omega
        case rel => exact ⟨j + 1, by go_num, by omega, hfH, rfl, rfl⟩
    · obtain rfl : j = l.length := by omega
      rw [List.drop_length, run_nil] at hf
      have hfH : Hidden (l.length = R) := by show _ = _; omega
      clear hf
      go_wp2
      go_ret
      rw [← show l.length = R from hfH]
      exact ⟨rfl, rfl⟩

/- plain -/
theorem gap_true (l : By) : gapM true l = run (fun c => c != 10) l + gap (l.drop (run (fun c => c != 10) l)) := by
  induction l with
  | nil => rfl
  | cons c r ih =>
    rw [gapM_true, run_cons]
    by_cases h : c = 10
    · subst h
      simp only [if_true, bne_self_eq_false, Bool.false_eq_true, if_false, List.drop_zero, Nat.zero_add]
      show _ = gapM false (10 :: r)
      rw [gapM_false, if_pos (by decide)]
    · rw [if_neg h, if_pos (by simpa using h), ih, List.drop_succ_cons]
      omega
theorem gap_remark (l : By) (j : Nat) (h0 : l[j]? = some 47) (h1 : l[j + 1]? = some 47) : ∃ n, run (fun c => c != 10) (l.drop j) = n + 1 ∧ j + (n + 1) ≤ l.length ∧ gap (l.drop j) = (n + 1) + gap (l.drop (j + (n + 1))) := by
  have e1 := drop_at h0
  have e2 : run (fun c => c != 10) (l.drop j) = run (fun c => c != 10) (l.drop (j + 1)) + 1 := by rw [run_step _ l j 47 h0, if_pos (by decide)]
  have hle := run_le (fun c => c != 10) (l.drop (j + 1))
  have hlt : j < l.length := (List.getElem?_eq_some_iff.1 h0).1
  rw [List.length_drop] at hle
  refine ⟨run (fun c => c != 10) (l.drop (j + 1)), e2, by omega, ?_⟩
  show gapM false (l.drop j) = _
  rw [e1, gapM_false, if_neg (by decide), if_pos ⟨rfl, by rw [drop_zero_get]; exact h1⟩, gap_true, List.drop_drop]
  rw [show j + 1 + run (fun c => c != 10) (l.drop (j + 1)) = j + (run (fun c => c != 10) (l.drop (j + 1)) + 1) by omega]
  omega
theorem gap_blank (l : By) (j : Nat) (c : UInt8) (h0 : l[j]? = some c) (hb : blB c = true) : gap (l.drop j) = 1 + gap (l.drop (j + 1)) := by
  show gapM false (l.drop j) = _
  rw [drop_at h0, gapM_false, if_pos hb]
theorem gap_none (l : By) (j : Nat) (c : UInt8) (h0 : l[j]? = some c) (hb : blB c = false) (hn : ¬ (c = 47 ∧ l[j + 1]? = some 47)) : gap (l.drop j) = 0 := by
  show gapM false (l.drop j) = _
  rw [drop_at h0, gapM_false, if_neg (by simp [hb]), if_neg (by rw [drop_zero_get]; exact hn)]
theorem pre2 (l : By) (a b : UInt8) (j : Nat) : Lib.hasPrefix (l.drop j) [a, b] = (l[j]? == some a && l[j + 1]? == some b) := by
  unfold Lib.hasPrefix
  cases h : l[j]? with
  | none =>
    rw [List.getElem?_eq_none_iff] at h
    rw [List.drop_eq_nil_of_le h]
    rfl
  | some c =>
    rw [drop_at h]
    cases h2 : l[j + 1]? with
    | none =>
      rw [List.getElem?_eq_none_iff] at h2
      rw [List.drop_eq_nil_of_le h2]
      simp [List.isPrefixOf]
    | some d =>
      rw [drop_at h2]
      rw [Bool.eq_iff_iff]
      simp only [List.isPrefixOf, Bool.and_true, Bool.and_eq_true, beq_iff_eq, Option.some.injEq]
      exact ⟨fun h => ⟨h.1.symm, h.2.symm⟩, fun h => ⟨h.1.symm, h.2.symm⟩⟩
theorem bl_nat (c : UInt8) : (c.toNat == 32 || c.toNat == 9 || c.toNat == 10 || c.toNat == 13) = blB c := by
  have h : ∀ k < 256, (k == 32 || k == 9 || k == 10 || k == 13) = blB (UInt8.ofNat k) := by decide +kernel
  have := h c.toNat c.toNat_lt
  simpa using this

theorem gapEnd_walk (l : By) (i R : Nat) (hi : i ≤ l.length) (hl : l.length ≤ 9223372036854775806) (hR : Hidden (i + gap (l.drop i) = R)) (w : World) :
    Calls Tryz.prog 67 #[.string ⟨l.toArray⟩, .int .i64 (i : Int)] w fun e w' => e = .returned (.int .i64 (R : Int)) ∧ w' = w := by
  have hs := str_len l
  go_enter Tryz.func67, Tryz.ntmps67
  go_wp2
  go_loopg [1] (l.length - i) (fun k iv wr => ∃ j : Nat, iv = .int .i64 (j : Int) ∧ j ≤ l.length ∧ j + gap (l.drop j) = R ∧ k = l.length - j ∧ wr = w)
  case atStart => exact ⟨i, rfl, hi, hR, rfl, rfl⟩
  case round =>
    obtain ⟨j, rfl, hj, hf, hgk, rfl⟩ := hrel
    have hgkH : Hidden (gk = l.length - j) := hgk
    clear hgk hR hi
    by_cases hjl : j < l.length
    · obtain ⟨c, hc⟩ : ∃ c, l[j]? = some c := ⟨l[j], List.getElem?_eq_getElem hjl⟩
      have hx := str_index l j c hc
      have kb := blank_walk c.toNat _ rfl
      rw [bl_nat] at kb
      have hsl := slice_from l j hj (by omega)
      have kh := Tryz.strings_HasPrefix ⟨(l.drop j).toArray⟩ ⟨#[47, 47]⟩
      simp only [] at kh
      rw [pre2] at kh
      cases hb : blB c
      · rw [hb] at kb
        by_cases hn : c = 47 ∧ l[j + 1]? = some 47
        · obtain ⟨rfl, hn2⟩ := hn
          rw [show (l[j]? == some 47 && l[j + 1]? == some 47) = true by rw [hc, hn2]; rfl] at kh
          obtain ⟨n, hr, hle, hg⟩ := gap_remark l j hc hn2
          have kr := remark_walk l j (j + (n + 1)) hj hl (by show _ = _; rw [hr])
          rw [hg] at hf
          have hfH : Hidden (j + (n + 1) + gap (l.drop (j + (n + 1))) = R) := by show _ = _; omega
          have hleH : Hidden (j + (n + 1) ≤ l.length) := hle
          clear hf hr hle hg hn2 hc hb
          go_wp2_with (first
            | (go_at_call 86; refine (kb _).mono ?_; rintro e w' ⟨rfl, rfl⟩)
            | (go_at_call 87; refine (kh _).mono ?_; rintro e w' ⟨rfl, rfl⟩)
            | (go_at_call 88; refine (kr _).mono ?_; rintro e w' ⟨rfl, rfl⟩))
          go_roundg (l.length - (j + (n + 1)))
          case measure =>
            have : gk = l.length - j := hgkH
            omega
          case rel => exact ⟨j + (n + 1), by go_num, hleH, hfH, rfl, rfl⟩
        · have hgn := gap_none l j c hc hb hn
          rw [show (l[j]? == some 47 && l[j + 1]? == some 47) = false by
            rw [hc, Bool.eq_false_iff]
            intro h
            simp only [Bool.and_eq_true, beq_iff_eq, Option.some.injEq] at h
            exact hn h] at kh
          rw [hgn] at hf
          have hfH : Hidden (j = R) := by show _ = _; omega
          clear hf hgn hn hc hb
          go_wp2_with (first
            | (go_at_call 86; refine (kb _).mono ?_; rintro e w' ⟨rfl, rfl⟩)
            | (go_at_call 87; refine (kh _).mono ?_; rintro e w' ⟨rfl, rfl⟩))
          go_ret
          rw [← show j = R from hfH]
          exact ⟨rfl, rfl⟩
      · rw [hb] at kb
        have hg := gap_blank l j c hc hb
        rw [hg] at hf
        have hfH : Hidden (j + 1 + gap (l.drop (j + 1)) = R) := by show _ = _; omega
        clear hf hg hc hb
        go_wp2_with (first
            | (go_at_call 86; refine (kb _).mono ?_; rintro e w' ⟨rfl, rfl⟩))
        go_roundg (l.length - (j + 1))
        case measure =>
          have : gk = l.length - j := hgkH
          omega
        case rel => exact ⟨j + 1, by go_num, by omega, hfH, rfl, rfl⟩
    · obtain rfl : j = l.length := by omega
      rw [List.drop_length] at hf
      have hfH : Hidden (l.length = R) := by show _ = _; simp only [gap, gapM] at hf; omega
      clear hf
      go_wp2
      go_ret
      rw [← show l.length = R from hfH]
      exact ⟨rfl, rfl⟩
end Go.Proofs.YtfkccanjdlajlabGreatDoor
