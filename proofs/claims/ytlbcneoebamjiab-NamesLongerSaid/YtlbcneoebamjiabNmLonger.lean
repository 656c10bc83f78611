/- NamesLonger walked. -/
import Derived.Test.YtlbcneoebamjiabNmLive
import Derived.Deep.RegionWith
namespace Go.Proofs.Ytlbcneoebamjiab
open Go.RowKit Go.Sort
set_option linter.unusedSimpArgs false
set_option linter.unusedVariables false

theorem speltGo_app : ∀ (s : Str) (c : UInt8) (i : Nat), speltGo (s ++ [c]) i = (speltGo s i && okAt (i + s.length) c)
  | [], c, i => by simp [speltGo]
  | d :: s, c, i => by
    rw [List.cons_append, speltGo, speltGo, speltGo_app s c (i + 1), Bool.and_assoc, show i + 1 + s.length = i + (d :: s).length by simp; omega]
theorem right_parts {s : Str} (h : rightS s = 0) : speltGo s 0 = true ∧ s ≠ [] ∧ s.length ≤ 32 := by
  unfold rightS at h
  by_cases hs : speltS s = true
  · rw [if_pos hs] at h
    by_cases hl : 32 < s.length
    · rw [if_pos hl] at h; cases h
    · unfold speltS at hs
      rw [Bool.and_eq_true] at hs
      exact ⟨hs.1, by have := hs.2; cases s <;> simp_all, by omega⟩
  · rw [if_neg hs] at h; cases h
theorem right_more {s : Str} (c : UInt8) (h : rightS s = 0) : rightS (s ++ [c]) = if (letB c.toNat || digB c.toNat) = true then (if s.length = 32 then 3 else if s ++ [c] ∈ wordsL then 12 else 0) else 12 := by
  obtain ⟨h1, h2, h3⟩ := right_parts h
  have hsp : speltS (s ++ [c]) = (letB c.toNat || digB c.toNat) := by
    unfold speltS
    rw [speltGo_app, h1, Nat.zero_add]
    have : s.length ≠ 0 := fun e => h2 (List.eq_nil_of_length_eq_zero e)
    have h4 : (s.length != 0) = true := by simp [this]
    have h5 : (s ++ [c]).isEmpty = false := by simp
    rw [h5]
    unfold okAt
    rw [h4]
    simp
  unfold rightS
  rw [hsp]
  by_cases hw : (letB c.toNat || digB c.toNat) = true
  · rw [if_pos hw, if_pos hw, List.length_append, List.length_singleton]
    by_cases h32 : s.length = 32
    · rw [if_pos (by omega), if_pos h32]
    · rw [if_neg (by omega), if_neg h32]
  · rw [if_neg hw, if_neg hw]
theorem right_kinds (s : Str) : rightS s = 0 ∨ rightS s = 12 ∨ rightS s = 3 := by
  unfold rightS
  split
  · split
    · exact Or.inr (Or.inr rfl)
    · split
      · exact Or.inr (Or.inl rfl)
      · exact Or.inl rfl
  · exact Or.inr (Or.inl rfl)
theorem byte_text (w : World) (c : UInt8) : (convert 27 9 (.slice (some ⟨w.heap.size, 0, none⟩) 1 1)).run Try.prog (w.alloc (.cells #[.int .u8 (c.toNat : Int)] 5)) = .ok (.string ⟨#[c]⟩) (w.alloc (.cells #[.int .u8 (c.toNat : Int)] 5)) := by
  refine run_convert_bytes_back _ 27 9 5 ⟨w.heap.size, 0, none⟩ 1 [c] Try.underlying27 Try.underlying5 Try.underlying9 (fun j hj => ?_)
  have hj0 : j = 0 := by simpa using hj
  subst hj0
  rw [Addr.add_lit, cell_of_row _ _ _ _ _ _ (alloc_new w _)]
  rfl

theorem longer_out (s : Str) (a : Int) (r : Int) (hr : Hidden (r = 12 ∨ r = 3)) (kr : ∀ w, Calls Try.prog 7 #[.string ⟨s.toArray⟩] w fun e w' => e = .returned (.int .i64 r) ∧ w' = w) (w : World) :
    Calls Try.prog 4 #[.string ⟨s.toArray⟩, .int .u8 a] w fun e w' => e = .returned (.bool true) ∧ Fr (fun _ => False) w w' := by
  have kl := live_any
  rcases (show r = 12 ∨ r = 3 from hr) with rfl | rfl
  all_goals
    go_enter Try.func4, Try.ntmps4
    go_wp2_with (first
      | (go_at_call 5; refine (kl _).mono ?_; rintro e w1 ⟨rfl, f1⟩)
      | (go_at_call 7; refine (kr _).mono ?_; rintro e w2 ⟨rfl, rfl⟩))
    go_ret
    exact ⟨rfl, f1⟩
theorem longer_0 (s : Str) (c : UInt8) (C : Nat) (hC : Hidden (c.toNat = C)) (w : World) (hl : s.length ≤ 32) (kr : ∀ w, Calls Try.prog 7 #[.string ⟨s.toArray⟩] w fun e w' => e = .returned (.int .i64 0) ∧ w' = w)
    (h1 : ∀ w, (Op.stringOp .add ⟨s.toArray⟩ ⟨#[c]⟩).run Try.prog w = .ok (.string ⟨(s ++ [c]).toArray⟩) w) (hb : ∀ w : World, (convert 27 9 (.slice (some ⟨w.heap.size, 0, none⟩) 1 1)).run Try.prog (w.alloc (.cells #[.int .u8 (C : Int)] 5)) = .ok (.string ⟨#[c]⟩) (w.alloc (.cells #[.int .u8 (C : Int)] 5)))
    (h2 : (0 : Int) ≤ (C : Int)) (h3 : (C : Int) ≤ 47) (kt : ∀ w, Calls Try.prog 7 #[.string ⟨(s ++ [c]).toArray⟩] w fun e w' => e = .returned (.int .i64 12) ∧ w' = w) :
    Calls Try.prog 4 #[.string ⟨s.toArray⟩, .int .u8 (C : Int)] w fun e w' => e = .returned (.bool true) ∧ Fr (fun _ => False) w w' := by
  have h95 : ((C : Int) == 95) = false := by simp; omega
  have kl := live_any
  have hs := str_len s
  obtain ⟨T, hT⟩ : ∃ T, s ++ [c] = T := ⟨_, rfl⟩
  rw [hT] at h1 kt
  clear hT
  go_enter Try.func4, Try.ntmps4
  go_wp2_with (first
    | (go_at_call 5; refine (kl _).mono ?_; rintro e w1 ⟨rfl, f1⟩; have hbw := hb w1)
    | fail)
  refine (kr _).mono ?_
  rintro e w2 ⟨rfl, rfl⟩
  go_wp2_with fail
  refine (kt _).mono ?_
  rintro e w3 ⟨rfl, rfl⟩
  go_wp2_with fail
  go_ret
  exact ⟨rfl, f1.same (Fr.alloc _ _ _)⟩
theorem longer_48_full (s : Str) (c : UInt8) (C : Nat) (hC : Hidden (c.toNat = C)) (w : World) (hl : s.length ≤ 32) (kr : ∀ w, Calls Try.prog 7 #[.string ⟨s.toArray⟩] w fun e w' => e = .returned (.int .i64 0) ∧ w' = w)
    (h1 : ∀ w, (Op.stringOp .add ⟨s.toArray⟩ ⟨#[c]⟩).run Try.prog w = .ok (.string ⟨(s ++ [c]).toArray⟩) w) (hb : ∀ w : World, (convert 27 9 (.slice (some ⟨w.heap.size, 0, none⟩) 1 1)).run Try.prog (w.alloc (.cells #[.int .u8 (C : Int)] 5)) = .ok (.string ⟨#[c]⟩) (w.alloc (.cells #[.int .u8 (C : Int)] 5)))
    (h2 : (48 : Int) ≤ (C : Int)) (h3 : (C : Int) ≤ 57) (h32 : s.length = 32) (kt : ∀ w, Calls Try.prog 7 #[.string ⟨(s ++ [c]).toArray⟩] w fun e w' => e = .returned (.int .i64 3) ∧ w' = w) :
    Calls Try.prog 4 #[.string ⟨s.toArray⟩, .int .u8 (C : Int)] w fun e w' => e = .returned (.bool true) ∧ Fr (fun _ => False) w w' := by
  have kl := live_any
  have hs := str_len s
  obtain ⟨T, hT⟩ : ∃ T, s ++ [c] = T := ⟨_, rfl⟩
  rw [hT] at h1 kt
  clear hT
  go_enter Try.func4, Try.ntmps4
  go_wp2_with (first
    | (go_at_call 5; refine (kl _).mono ?_; rintro e w1 ⟨rfl, f1⟩; have hbw := hb w1)
    | fail)
  refine (kr _).mono ?_
  rintro e w2 ⟨rfl, rfl⟩
  go_wp2_with fail
  refine (kt _).mono ?_
  rintro e w3 ⟨rfl, rfl⟩
  go_wp2_with fail
  go_ret
  exact ⟨rfl, f1.same (Fr.alloc _ _ _)⟩
theorem longer_48 (s : Str) (c : UInt8) (C : Nat) (hC : Hidden (c.toNat = C)) (w : World) (hl : s.length ≤ 32) (kr : ∀ w, Calls Try.prog 7 #[.string ⟨s.toArray⟩] w fun e w' => e = .returned (.int .i64 0) ∧ w' = w)
    (h1 : ∀ w, (Op.stringOp .add ⟨s.toArray⟩ ⟨#[c]⟩).run Try.prog w = .ok (.string ⟨(s ++ [c]).toArray⟩) w) (hb : ∀ w : World, (convert 27 9 (.slice (some ⟨w.heap.size, 0, none⟩) 1 1)).run Try.prog (w.alloc (.cells #[.int .u8 (C : Int)] 5)) = .ok (.string ⟨#[c]⟩) (w.alloc (.cells #[.int .u8 (C : Int)] 5)))
    (h2 : (48 : Int) ≤ (C : Int)) (h3 : (C : Int) ≤ 57) (h32 : ¬ s.length = 32) (b : Bool) (r : Int) (hr : Hidden (r = if b = true then 12 else 0)) (kt : ∀ w, Calls Try.prog 7 #[.string ⟨(s ++ [c]).toArray⟩] w fun e w' => e = .returned (.int .i64 r) ∧ w' = w) (kv : ∀ w, Calls Try.prog 8 #[.string ⟨(s ++ [c]).toArray⟩] w fun e w' => e = .returned (.bool b) ∧ w' = w) :
    Calls Try.prog 4 #[.string ⟨s.toArray⟩, .int .u8 (C : Int)] w fun e w' => e = .returned (.bool true) ∧ Fr (fun _ => False) w w' := by
  have h33 : ((s.length : Int) == 32) = false := by simp; omega
  cases b with
  | true =>
  obtain rfl : r = 12 := by have := (show r = _ from hr); simpa using this
  have kl := live_any
  have hs := str_len s
  obtain ⟨T, hT⟩ : ∃ T, s ++ [c] = T := ⟨_, rfl⟩
  rw [hT] at h1 kt kv
  clear hT
  go_enter Try.func4, Try.ntmps4
  go_wp2_with (first
    | (go_at_call 5; refine (kl _).mono ?_; rintro e w1 ⟨rfl, f1⟩; have hbw := hb w1)
    | fail)
  refine (kr _).mono ?_
  rintro e w2 ⟨rfl, rfl⟩
  go_wp2_with fail
  refine (kt _).mono ?_
  rintro e w3 ⟨rfl, rfl⟩
  go_wp2_with (go_at_call 8; refine (kv _).mono ?_; rintro e w4 ⟨rfl, rfl⟩)
  go_ret
  exact ⟨rfl, f1.same (Fr.alloc _ _ _)⟩
  | false =>
  obtain rfl : r = 0 := by have := (show r = _ from hr); simpa using this
  have kl := live_any
  have hs := str_len s
  obtain ⟨T, hT⟩ : ∃ T, s ++ [c] = T := ⟨_, rfl⟩
  rw [hT] at h1 kt kv
  clear hT
  go_enter Try.func4, Try.ntmps4
  go_wp2_with (first
    | (go_at_call 5; refine (kl _).mono ?_; rintro e w1 ⟨rfl, f1⟩; have hbw := hb w1)
    | fail)
  refine (kr _).mono ?_
  rintro e w2 ⟨rfl, rfl⟩
  go_wp2_with fail
  refine (kt _).mono ?_
  rintro e w3 ⟨rfl, rfl⟩
  go_wp2_with (go_at_call 8; refine (kv _).mono ?_; rintro e w4 ⟨rfl, rfl⟩)
  go_ret
  exact ⟨rfl, f1.same (Fr.alloc _ _ _)⟩
theorem longer_58 (s : Str) (c : UInt8) (C : Nat) (hC : Hidden (c.toNat = C)) (w : World) (hl : s.length ≤ 32) (kr : ∀ w, Calls Try.prog 7 #[.string ⟨s.toArray⟩] w fun e w' => e = .returned (.int .i64 0) ∧ w' = w)
    (h1 : ∀ w, (Op.stringOp .add ⟨s.toArray⟩ ⟨#[c]⟩).run Try.prog w = .ok (.string ⟨(s ++ [c]).toArray⟩) w) (hb : ∀ w : World, (convert 27 9 (.slice (some ⟨w.heap.size, 0, none⟩) 1 1)).run Try.prog (w.alloc (.cells #[.int .u8 (C : Int)] 5)) = .ok (.string ⟨#[c]⟩) (w.alloc (.cells #[.int .u8 (C : Int)] 5)))
    (h2 : (58 : Int) ≤ (C : Int)) (h3 : (C : Int) ≤ 64) (kt : ∀ w, Calls Try.prog 7 #[.string ⟨(s ++ [c]).toArray⟩] w fun e w' => e = .returned (.int .i64 12) ∧ w' = w) :
    Calls Try.prog 4 #[.string ⟨s.toArray⟩, .int .u8 (C : Int)] w fun e w' => e = .returned (.bool true) ∧ Fr (fun _ => False) w w' := by
  have h95 : ((C : Int) == 95) = false := by simp; omega
  have hd57 : decide ((C : Int) ≤ 57) = false := decide_eq_false (by omega)
  have kl := live_any
  have hs := str_len s
  obtain ⟨T, hT⟩ : ∃ T, s ++ [c] = T := ⟨_, rfl⟩
  rw [hT] at h1 kt
  clear hT
  go_enter Try.func4, Try.ntmps4
  go_wp2_with (first
    | (go_at_call 5; refine (kl _).mono ?_; rintro e w1 ⟨rfl, f1⟩; have hbw := hb w1)
    | fail)
  refine (kr _).mono ?_
  rintro e w2 ⟨rfl, rfl⟩
  go_wp2_with fail
  refine (kt _).mono ?_
  rintro e w3 ⟨rfl, rfl⟩
  go_wp2_with fail
  go_ret
  exact ⟨rfl, f1.same (Fr.alloc _ _ _)⟩
theorem longer_65_full (s : Str) (c : UInt8) (C : Nat) (hC : Hidden (c.toNat = C)) (w : World) (hl : s.length ≤ 32) (kr : ∀ w, Calls Try.prog 7 #[.string ⟨s.toArray⟩] w fun e w' => e = .returned (.int .i64 0) ∧ w' = w)
    (h1 : ∀ w, (Op.stringOp .add ⟨s.toArray⟩ ⟨#[c]⟩).run Try.prog w = .ok (.string ⟨(s ++ [c]).toArray⟩) w) (hb : ∀ w : World, (convert 27 9 (.slice (some ⟨w.heap.size, 0, none⟩) 1 1)).run Try.prog (w.alloc (.cells #[.int .u8 (C : Int)] 5)) = .ok (.string ⟨#[c]⟩) (w.alloc (.cells #[.int .u8 (C : Int)] 5)))
    (h2 : (65 : Int) ≤ (C : Int)) (h3 : (C : Int) ≤ 90) (h32 : s.length = 32) (kt : ∀ w, Calls Try.prog 7 #[.string ⟨(s ++ [c]).toArray⟩] w fun e w' => e = .returned (.int .i64 3) ∧ w' = w) :
    Calls Try.prog 4 #[.string ⟨s.toArray⟩, .int .u8 (C : Int)] w fun e w' => e = .returned (.bool true) ∧ Fr (fun _ => False) w w' := by
  have kl := live_any
  have hs := str_len s
  obtain ⟨T, hT⟩ : ∃ T, s ++ [c] = T := ⟨_, rfl⟩
  rw [hT] at h1 kt
  clear hT
  go_enter Try.func4, Try.ntmps4
  go_wp2_with (first
    | (go_at_call 5; refine (kl _).mono ?_; rintro e w1 ⟨rfl, f1⟩; have hbw := hb w1)
    | fail)
  refine (kr _).mono ?_
  rintro e w2 ⟨rfl, rfl⟩
  go_wp2_with fail
  refine (kt _).mono ?_
  rintro e w3 ⟨rfl, rfl⟩
  go_wp2_with fail
  go_ret
  exact ⟨rfl, f1.same (Fr.alloc _ _ _)⟩
theorem longer_65 (s : Str) (c : UInt8) (C : Nat) (hC : Hidden (c.toNat = C)) (w : World) (hl : s.length ≤ 32) (kr : ∀ w, Calls Try.prog 7 #[.string ⟨s.toArray⟩] w fun e w' => e = .returned (.int .i64 0) ∧ w' = w)
    (h1 : ∀ w, (Op.stringOp .add ⟨s.toArray⟩ ⟨#[c]⟩).run Try.prog w = .ok (.string ⟨(s ++ [c]).toArray⟩) w) (hb : ∀ w : World, (convert 27 9 (.slice (some ⟨w.heap.size, 0, none⟩) 1 1)).run Try.prog (w.alloc (.cells #[.int .u8 (C : Int)] 5)) = .ok (.string ⟨#[c]⟩) (w.alloc (.cells #[.int .u8 (C : Int)] 5)))
    (h2 : (65 : Int) ≤ (C : Int)) (h3 : (C : Int) ≤ 90) (h32 : ¬ s.length = 32) (b : Bool) (r : Int) (hr : Hidden (r = if b = true then 12 else 0)) (kt : ∀ w, Calls Try.prog 7 #[.string ⟨(s ++ [c]).toArray⟩] w fun e w' => e = .returned (.int .i64 r) ∧ w' = w) (kv : ∀ w, Calls Try.prog 8 #[.string ⟨(s ++ [c]).toArray⟩] w fun e w' => e = .returned (.bool b) ∧ w' = w) :
    Calls Try.prog 4 #[.string ⟨s.toArray⟩, .int .u8 (C : Int)] w fun e w' => e = .returned (.bool true) ∧ Fr (fun _ => False) w w' := by
  have h33 : ((s.length : Int) == 32) = false := by simp; omega
  cases b with
  | true =>
  obtain rfl : r = 12 := by have := (show r = _ from hr); simpa using this
  have kl := live_any
  have hs := str_len s
  obtain ⟨T, hT⟩ : ∃ T, s ++ [c] = T := ⟨_, rfl⟩
  rw [hT] at h1 kt kv
  clear hT
  go_enter Try.func4, Try.ntmps4
  go_wp2_with (first
    | (go_at_call 5; refine (kl _).mono ?_; rintro e w1 ⟨rfl, f1⟩; have hbw := hb w1)
    | fail)
  refine (kr _).mono ?_
  rintro e w2 ⟨rfl, rfl⟩
  go_wp2_with fail
  refine (kt _).mono ?_
  rintro e w3 ⟨rfl, rfl⟩
  go_wp2_with (go_at_call 8; refine (kv _).mono ?_; rintro e w4 ⟨rfl, rfl⟩)
  go_ret
  exact ⟨rfl, f1.same (Fr.alloc _ _ _)⟩
  | false =>
  obtain rfl : r = 0 := by have := (show r = _ from hr); simpa using this
  have kl := live_any
  have hs := str_len s
  obtain ⟨T, hT⟩ : ∃ T, s ++ [c] = T := ⟨_, rfl⟩
  rw [hT] at h1 kt kv
  clear hT
  go_enter Try.func4, Try.ntmps4
  go_wp2_with (first
    | (go_at_call 5; refine (kl _).mono ?_; rintro e w1 ⟨rfl, f1⟩; have hbw := hb w1)
    | fail)
  refine (kr _).mono ?_
  rintro e w2 ⟨rfl, rfl⟩
  go_wp2_with fail
  refine (kt _).mono ?_
  rintro e w3 ⟨rfl, rfl⟩
  go_wp2_with (go_at_call 8; refine (kv _).mono ?_; rintro e w4 ⟨rfl, rfl⟩)
  go_ret
  exact ⟨rfl, f1.same (Fr.alloc _ _ _)⟩
theorem longer_91 (s : Str) (c : UInt8) (C : Nat) (hC : Hidden (c.toNat = C)) (w : World) (hl : s.length ≤ 32) (kr : ∀ w, Calls Try.prog 7 #[.string ⟨s.toArray⟩] w fun e w' => e = .returned (.int .i64 0) ∧ w' = w)
    (h1 : ∀ w, (Op.stringOp .add ⟨s.toArray⟩ ⟨#[c]⟩).run Try.prog w = .ok (.string ⟨(s ++ [c]).toArray⟩) w) (hb : ∀ w : World, (convert 27 9 (.slice (some ⟨w.heap.size, 0, none⟩) 1 1)).run Try.prog (w.alloc (.cells #[.int .u8 (C : Int)] 5)) = .ok (.string ⟨#[c]⟩) (w.alloc (.cells #[.int .u8 (C : Int)] 5)))
    (h2 : (91 : Int) ≤ (C : Int)) (h3 : (C : Int) ≤ 94) (kt : ∀ w, Calls Try.prog 7 #[.string ⟨(s ++ [c]).toArray⟩] w fun e w' => e = .returned (.int .i64 12) ∧ w' = w) :
    Calls Try.prog 4 #[.string ⟨s.toArray⟩, .int .u8 (C : Int)] w fun e w' => e = .returned (.bool true) ∧ Fr (fun _ => False) w w' := by
  have h95 : ((C : Int) == 95) = false := by simp; omega
  have hd57 : decide ((C : Int) ≤ 57) = false := decide_eq_false (by omega)
  have hd90 : decide ((C : Int) ≤ 90) = false := decide_eq_false (by omega)
  have kl := live_any
  have hs := str_len s
  obtain ⟨T, hT⟩ : ∃ T, s ++ [c] = T := ⟨_, rfl⟩
  rw [hT] at h1 kt
  clear hT
  go_enter Try.func4, Try.ntmps4
  go_wp2_with (first
    | (go_at_call 5; refine (kl _).mono ?_; rintro e w1 ⟨rfl, f1⟩; have hbw := hb w1)
    | fail)
  refine (kr _).mono ?_
  rintro e w2 ⟨rfl, rfl⟩
  go_wp2_with fail
  refine (kt _).mono ?_
  rintro e w3 ⟨rfl, rfl⟩
  go_wp2_with fail
  go_ret
  exact ⟨rfl, f1.same (Fr.alloc _ _ _)⟩
theorem longer_95_full (s : Str) (c : UInt8) (C : Nat) (hC : Hidden (c.toNat = C)) (w : World) (hl : s.length ≤ 32) (kr : ∀ w, Calls Try.prog 7 #[.string ⟨s.toArray⟩] w fun e w' => e = .returned (.int .i64 0) ∧ w' = w)
    (h1 : ∀ w, (Op.stringOp .add ⟨s.toArray⟩ ⟨#[c]⟩).run Try.prog w = .ok (.string ⟨(s ++ [c]).toArray⟩) w) (hb : ∀ w : World, (convert 27 9 (.slice (some ⟨w.heap.size, 0, none⟩) 1 1)).run Try.prog (w.alloc (.cells #[.int .u8 (C : Int)] 5)) = .ok (.string ⟨#[c]⟩) (w.alloc (.cells #[.int .u8 (C : Int)] 5)))
    (h2 : (95 : Int) ≤ (C : Int)) (h3 : (C : Int) ≤ 95) (h32 : s.length = 32) (kt : ∀ w, Calls Try.prog 7 #[.string ⟨(s ++ [c]).toArray⟩] w fun e w' => e = .returned (.int .i64 3) ∧ w' = w) :
    Calls Try.prog 4 #[.string ⟨s.toArray⟩, .int .u8 (C : Int)] w fun e w' => e = .returned (.bool true) ∧ Fr (fun _ => False) w w' := by
  have kl := live_any
  have hs := str_len s
  obtain ⟨T, hT⟩ : ∃ T, s ++ [c] = T := ⟨_, rfl⟩
  rw [hT] at h1 kt
  clear hT
  go_enter Try.func4, Try.ntmps4
  go_wp2_with (first
    | (go_at_call 5; refine (kl _).mono ?_; rintro e w1 ⟨rfl, f1⟩; have hbw := hb w1)
    | fail)
  refine (kr _).mono ?_
  rintro e w2 ⟨rfl, rfl⟩
  go_wp2_with fail
  refine (kt _).mono ?_
  rintro e w3 ⟨rfl, rfl⟩
  go_wp2_with fail
  go_ret
  exact ⟨rfl, f1.same (Fr.alloc _ _ _)⟩
theorem longer_95 (s : Str) (c : UInt8) (C : Nat) (hC : Hidden (c.toNat = C)) (w : World) (hl : s.length ≤ 32) (kr : ∀ w, Calls Try.prog 7 #[.string ⟨s.toArray⟩] w fun e w' => e = .returned (.int .i64 0) ∧ w' = w)
    (h1 : ∀ w, (Op.stringOp .add ⟨s.toArray⟩ ⟨#[c]⟩).run Try.prog w = .ok (.string ⟨(s ++ [c]).toArray⟩) w) (hb : ∀ w : World, (convert 27 9 (.slice (some ⟨w.heap.size, 0, none⟩) 1 1)).run Try.prog (w.alloc (.cells #[.int .u8 (C : Int)] 5)) = .ok (.string ⟨#[c]⟩) (w.alloc (.cells #[.int .u8 (C : Int)] 5)))
    (h2 : (95 : Int) ≤ (C : Int)) (h3 : (C : Int) ≤ 95) (h32 : ¬ s.length = 32) (b : Bool) (r : Int) (hr : Hidden (r = if b = true then 12 else 0)) (kt : ∀ w, Calls Try.prog 7 #[.string ⟨(s ++ [c]).toArray⟩] w fun e w' => e = .returned (.int .i64 r) ∧ w' = w) (kv : ∀ w, Calls Try.prog 8 #[.string ⟨(s ++ [c]).toArray⟩] w fun e w' => e = .returned (.bool b) ∧ w' = w) :
    Calls Try.prog 4 #[.string ⟨s.toArray⟩, .int .u8 (C : Int)] w fun e w' => e = .returned (.bool true) ∧ Fr (fun _ => False) w w' := by
  have h33 : ((s.length : Int) == 32) = false := by simp; omega
  cases b with
  | true =>
  obtain rfl : r = 12 := by have := (show r = _ from hr); simpa using this
  have kl := live_any
  have hs := str_len s
  obtain ⟨T, hT⟩ : ∃ T, s ++ [c] = T := ⟨_, rfl⟩
  rw [hT] at h1 kt kv
  clear hT
  go_enter Try.func4, Try.ntmps4
  go_wp2_with (first
    | (go_at_call 5; refine (kl _).mono ?_; rintro e w1 ⟨rfl, f1⟩; have hbw := hb w1)
    | fail)
  refine (kr _).mono ?_
  rintro e w2 ⟨rfl, rfl⟩
  go_wp2_with fail
  refine (kt _).mono ?_
  rintro e w3 ⟨rfl, rfl⟩
  go_wp2_with (go_at_call 8; refine (kv _).mono ?_; rintro e w4 ⟨rfl, rfl⟩)
  go_ret
  exact ⟨rfl, f1.same (Fr.alloc _ _ _)⟩
  | false =>
  obtain rfl : r = 0 := by have := (show r = _ from hr); simpa using this
  have kl := live_any
  have hs := str_len s
  obtain ⟨T, hT⟩ : ∃ T, s ++ [c] = T := ⟨_, rfl⟩
  rw [hT] at h1 kt kv
  clear hT
  go_enter Try.func4, Try.ntmps4
  go_wp2_with (first
    | (go_at_call 5; refine (kl _).mono ?_; rintro e w1 ⟨rfl, f1⟩; have hbw := hb w1)
    | fail)
  refine (kr _).mono ?_
  rintro e w2 ⟨rfl, rfl⟩
  go_wp2_with fail
  refine (kt _).mono ?_
  rintro e w3 ⟨rfl, rfl⟩
  go_wp2_with (go_at_call 8; refine (kv _).mono ?_; rintro e w4 ⟨rfl, rfl⟩)
  go_ret
  exact ⟨rfl, f1.same (Fr.alloc _ _ _)⟩
theorem longer_96 (s : Str) (c : UInt8) (C : Nat) (hC : Hidden (c.toNat = C)) (w : World) (hl : s.length ≤ 32) (kr : ∀ w, Calls Try.prog 7 #[.string ⟨s.toArray⟩] w fun e w' => e = .returned (.int .i64 0) ∧ w' = w)
    (h1 : ∀ w, (Op.stringOp .add ⟨s.toArray⟩ ⟨#[c]⟩).run Try.prog w = .ok (.string ⟨(s ++ [c]).toArray⟩) w) (hb : ∀ w : World, (convert 27 9 (.slice (some ⟨w.heap.size, 0, none⟩) 1 1)).run Try.prog (w.alloc (.cells #[.int .u8 (C : Int)] 5)) = .ok (.string ⟨#[c]⟩) (w.alloc (.cells #[.int .u8 (C : Int)] 5)))
    (h2 : (96 : Int) ≤ (C : Int)) (h3 : (C : Int) ≤ 96) (kt : ∀ w, Calls Try.prog 7 #[.string ⟨(s ++ [c]).toArray⟩] w fun e w' => e = .returned (.int .i64 12) ∧ w' = w) :
    Calls Try.prog 4 #[.string ⟨s.toArray⟩, .int .u8 (C : Int)] w fun e w' => e = .returned (.bool true) ∧ Fr (fun _ => False) w w' := by
  have h95 : ((C : Int) == 95) = false := by simp; omega
  have hd57 : decide ((C : Int) ≤ 57) = false := decide_eq_false (by omega)
  have hd90 : decide ((C : Int) ≤ 90) = false := decide_eq_false (by omega)
  have kl := live_any
  have hs := str_len s
  obtain ⟨T, hT⟩ : ∃ T, s ++ [c] = T := ⟨_, rfl⟩
  rw [hT] at h1 kt
  clear hT
  go_enter Try.func4, Try.ntmps4
  go_wp2_with (first
    | (go_at_call 5; refine (kl _).mono ?_; rintro e w1 ⟨rfl, f1⟩; have hbw := hb w1)
    | fail)
  refine (kr _).mono ?_
  rintro e w2 ⟨rfl, rfl⟩
  go_wp2_with fail
  refine (kt _).mono ?_
  rintro e w3 ⟨rfl, rfl⟩
  go_wp2_with fail
  go_ret
  exact ⟨rfl, f1.same (Fr.alloc _ _ _)⟩
theorem longer_97_full (s : Str) (c : UInt8) (C : Nat) (hC : Hidden (c.toNat = C)) (w : World) (hl : s.length ≤ 32) (kr : ∀ w, Calls Try.prog 7 #[.string ⟨s.toArray⟩] w fun e w' => e = .returned (.int .i64 0) ∧ w' = w)
    (h1 : ∀ w, (Op.stringOp .add ⟨s.toArray⟩ ⟨#[c]⟩).run Try.prog w = .ok (.string ⟨(s ++ [c]).toArray⟩) w) (hb : ∀ w : World, (convert 27 9 (.slice (some ⟨w.heap.size, 0, none⟩) 1 1)).run Try.prog (w.alloc (.cells #[.int .u8 (C : Int)] 5)) = .ok (.string ⟨#[c]⟩) (w.alloc (.cells #[.int .u8 (C : Int)] 5)))
    (h2 : (97 : Int) ≤ (C : Int)) (h3 : (C : Int) ≤ 122) (h32 : s.length = 32) (kt : ∀ w, Calls Try.prog 7 #[.string ⟨(s ++ [c]).toArray⟩] w fun e w' => e = .returned (.int .i64 3) ∧ w' = w) :
    Calls Try.prog 4 #[.string ⟨s.toArray⟩, .int .u8 (C : Int)] w fun e w' => e = .returned (.bool true) ∧ Fr (fun _ => False) w w' := by
  have kl := live_any
  have hs := str_len s
  obtain ⟨T, hT⟩ : ∃ T, s ++ [c] = T := ⟨_, rfl⟩
  rw [hT] at h1 kt
  clear hT
  go_enter Try.func4, Try.ntmps4
  go_wp2_with (first
    | (go_at_call 5; refine (kl _).mono ?_; rintro e w1 ⟨rfl, f1⟩; have hbw := hb w1)
    | fail)
  refine (kr _).mono ?_
  rintro e w2 ⟨rfl, rfl⟩
  go_wp2_with fail
  refine (kt _).mono ?_
  rintro e w3 ⟨rfl, rfl⟩
  go_wp2_with fail
  go_ret
  exact ⟨rfl, f1.same (Fr.alloc _ _ _)⟩
theorem longer_97 (s : Str) (c : UInt8) (C : Nat) (hC : Hidden (c.toNat = C)) (w : World) (hl : s.length ≤ 32) (kr : ∀ w, Calls Try.prog 7 #[.string ⟨s.toArray⟩] w fun e w' => e = .returned (.int .i64 0) ∧ w' = w)
    (h1 : ∀ w, (Op.stringOp .add ⟨s.toArray⟩ ⟨#[c]⟩).run Try.prog w = .ok (.string ⟨(s ++ [c]).toArray⟩) w) (hb : ∀ w : World, (convert 27 9 (.slice (some ⟨w.heap.size, 0, none⟩) 1 1)).run Try.prog (w.alloc (.cells #[.int .u8 (C : Int)] 5)) = .ok (.string ⟨#[c]⟩) (w.alloc (.cells #[.int .u8 (C : Int)] 5)))
    (h2 : (97 : Int) ≤ (C : Int)) (h3 : (C : Int) ≤ 122) (h32 : ¬ s.length = 32) (b : Bool) (r : Int) (hr : Hidden (r = if b = true then 12 else 0)) (kt : ∀ w, Calls Try.prog 7 #[.string ⟨(s ++ [c]).toArray⟩] w fun e w' => e = .returned (.int .i64 r) ∧ w' = w) (kv : ∀ w, Calls Try.prog 8 #[.string ⟨(s ++ [c]).toArray⟩] w fun e w' => e = .returned (.bool b) ∧ w' = w) :
    Calls Try.prog 4 #[.string ⟨s.toArray⟩, .int .u8 (C : Int)] w fun e w' => e = .returned (.bool true) ∧ Fr (fun _ => False) w w' := by
  have h33 : ((s.length : Int) == 32) = false := by simp; omega
  cases b with
  | true =>
  obtain rfl : r = 12 := by have := (show r = _ from hr); simpa using this
  have kl := live_any
  have hs := str_len s
  obtain ⟨T, hT⟩ : ∃ T, s ++ [c] = T := ⟨_, rfl⟩
  rw [hT] at h1 kt kv
  clear hT
  go_enter Try.func4, Try.ntmps4
  go_wp2_with (first
    | (go_at_call 5; refine (kl _).mono ?_; rintro e w1 ⟨rfl, f1⟩; have hbw := hb w1)
    | fail)
  refine (kr _).mono ?_
  rintro e w2 ⟨rfl, rfl⟩
  go_wp2_with fail
  refine (kt _).mono ?_
  rintro e w3 ⟨rfl, rfl⟩
  go_wp2_with (go_at_call 8; refine (kv _).mono ?_; rintro e w4 ⟨rfl, rfl⟩)
  go_ret
  exact ⟨rfl, f1.same (Fr.alloc _ _ _)⟩
  | false =>
  obtain rfl : r = 0 := by have := (show r = _ from hr); simpa using this
  have kl := live_any
  have hs := str_len s
  obtain ⟨T, hT⟩ : ∃ T, s ++ [c] = T := ⟨_, rfl⟩
  rw [hT] at h1 kt kv
  clear hT
  go_enter Try.func4, Try.ntmps4
  go_wp2_with (first
    | (go_at_call 5; refine (kl _).mono ?_; rintro e w1 ⟨rfl, f1⟩; have hbw := hb w1)
    | fail)
  refine (kr _).mono ?_
  rintro e w2 ⟨rfl, rfl⟩
  go_wp2_with fail
  refine (kt _).mono ?_
  rintro e w3 ⟨rfl, rfl⟩
  go_wp2_with (go_at_call 8; refine (kv _).mono ?_; rintro e w4 ⟨rfl, rfl⟩)
  go_ret
  exact ⟨rfl, f1.same (Fr.alloc _ _ _)⟩
theorem longer_123 (s : Str) (c : UInt8) (C : Nat) (hC : Hidden (c.toNat = C)) (w : World) (hl : s.length ≤ 32) (kr : ∀ w, Calls Try.prog 7 #[.string ⟨s.toArray⟩] w fun e w' => e = .returned (.int .i64 0) ∧ w' = w)
    (h1 : ∀ w, (Op.stringOp .add ⟨s.toArray⟩ ⟨#[c]⟩).run Try.prog w = .ok (.string ⟨(s ++ [c]).toArray⟩) w) (hb : ∀ w : World, (convert 27 9 (.slice (some ⟨w.heap.size, 0, none⟩) 1 1)).run Try.prog (w.alloc (.cells #[.int .u8 (C : Int)] 5)) = .ok (.string ⟨#[c]⟩) (w.alloc (.cells #[.int .u8 (C : Int)] 5)))
    (h2 : (123 : Int) ≤ (C : Int)) (h3 : (C : Int) ≤ 255) (kt : ∀ w, Calls Try.prog 7 #[.string ⟨(s ++ [c]).toArray⟩] w fun e w' => e = .returned (.int .i64 12) ∧ w' = w) :
    Calls Try.prog 4 #[.string ⟨s.toArray⟩, .int .u8 (C : Int)] w fun e w' => e = .returned (.bool true) ∧ Fr (fun _ => False) w w' := by
  have h95 : ((C : Int) == 95) = false := by simp; omega
  have hd57 : decide ((C : Int) ≤ 57) = false := decide_eq_false (by omega)
  have hd90 : decide ((C : Int) ≤ 90) = false := decide_eq_false (by omega)
  have hd122 : decide ((C : Int) ≤ 122) = false := decide_eq_false (by omega)
  have kl := live_any
  have hs := str_len s
  obtain ⟨T, hT⟩ : ∃ T, s ++ [c] = T := ⟨_, rfl⟩
  rw [hT] at h1 kt
  clear hT
  go_enter Try.func4, Try.ntmps4
  go_wp2_with (first
    | (go_at_call 5; refine (kl _).mono ?_; rintro e w1 ⟨rfl, f1⟩; have hbw := hb w1)
    | fail)
  refine (kr _).mono ?_
  rintro e w2 ⟨rfl, rfl⟩
  go_wp2_with fail
  refine (kt _).mono ?_
  rintro e w3 ⟨rfl, rfl⟩
  go_wp2_with fail
  go_ret
  exact ⟨rfl, f1.same (Fr.alloc _ _ _)⟩

theorem wf_u8 {n : Int} (h : (Lit.int .u8 n).wf = true) : 0 ≤ n ∧ n ≤ 255 := by
  simpa [Lit.wf, IntKind.min, IntKind.max, IntKind.signed, IntKind.bits] using h

theorem namesLonger.walk (s : Str) (a : Int) (w : World) (hs : s.length ≤ 140737488351232) (ha : (Lit.int .u8 a).wf = true) :
    Calls Try.prog 4 #[.string ⟨s.toArray⟩, .int .u8 a] w fun e w' => e = .returned (.bool true) ∧ Fr (fun _ => False) w w' := by
  have kr := right_any s _ rfl (by omega)
  by_cases h0 : rightS s = 0
  · obtain ⟨C, rfl⟩ := Int.eq_ofNat_of_zero_le (wf_u8 ha).1
    have hC := (wf_u8 ha).2
    have hCn : C < 256 := by omega
    obtain ⟨c, hc⟩ : ∃ c : UInt8, c.toNat = C := ⟨UInt8.ofNat C, by simp; omega⟩
    have hl := (right_parts h0).2.2
    rw [h0] at kr
    have hm := right_more c h0
    have kt := right_any (s ++ [c]) _ rfl (by simp; omega)
    have kv := reserved_any (s ++ [c]) _ rfl
    have hbt : ∀ w : World, (convert 27 9 (.slice (some ⟨w.heap.size, 0, none⟩) 1 1)).run Try.prog (w.alloc (.cells #[.int .u8 (C : Int)] 5)) = .ok (.string ⟨#[c]⟩) (w.alloc (.cells #[.int .u8 (C : Int)] 5)) := fun w => hc ▸ byte_text w c
    have h1 : ∀ w, (Op.stringOp .add ⟨s.toArray⟩ ⟨#[c]⟩).run Try.prog w = .ok (.string ⟨(s ++ [c]).toArray⟩) w := fun w => by
      rw [run_string_add_sum w _ _ (by simp [ByteArray.size]; omega)]
      exact congrArg (fun x => Result.ok (Value.string x) w) (append_str s [c])
    rw [hc] at hm
    by_cases s0 : C ≤ 47
    · have hw : ¬ (letB C || digB C) = true := by simp [letB, digB]; omega
      rw [if_neg hw] at hm
      rw [hm] at kt
      exact longer_0 s c C hc w hl kr h1 hbt (by omega) (by omega) kt
    by_cases s48 : C ≤ 57
    · have hw : (letB C || digB C) = true := by simp [letB, digB]; omega
      rw [if_pos hw] at hm
      by_cases h32 : s.length = 32
      · rw [if_pos h32] at hm
        rw [hm] at kt
        exact longer_48_full s c C hc w hl kr h1 hbt (by omega) (by omega) h32 kt
      · rw [if_neg h32] at hm
        rw [hm] at kt
        exact longer_48 s c C hc w hl kr h1 hbt (by omega) (by omega) h32 _ _ (show _ = _ by simp only [decide_eq_true_eq]) kt kv
    by_cases s58 : C ≤ 64
    · have hw : ¬ (letB C || digB C) = true := by simp [letB, digB]; omega
      rw [if_neg hw] at hm
      rw [hm] at kt
      exact longer_58 s c C hc w hl kr h1 hbt (by omega) (by omega) kt
    by_cases s65 : C ≤ 90
    · have hw : (letB C || digB C) = true := by simp [letB, digB]; omega
      rw [if_pos hw] at hm
      by_cases h32 : s.length = 32
      · rw [if_pos h32] at hm
        rw [hm] at kt
        exact longer_65_full s c C hc w hl kr h1 hbt (by omega) (by omega) h32 kt
      · rw [if_neg h32] at hm
        rw [hm] at kt
        exact longer_65 s c C hc w hl kr h1 hbt (by omega) (by omega) h32 _ _ (show _ = _ by simp only [decide_eq_true_eq]) kt kv
    by_cases s91 : C ≤ 94
    · have hw : ¬ (letB C || digB C) = true := by simp [letB, digB]; omega
      rw [if_neg hw] at hm
      rw [hm] at kt
      exact longer_91 s c C hc w hl kr h1 hbt (by omega) (by omega) kt
    by_cases s95 : C ≤ 95
    · have hw : (letB C || digB C) = true := by simp [letB, digB]; omega
      rw [if_pos hw] at hm
      by_cases h32 : s.length = 32
      · rw [if_pos h32] at hm
        rw [hm] at kt
        exact longer_95_full s c C hc w hl kr h1 hbt (by omega) (by omega) h32 kt
      · rw [if_neg h32] at hm
        rw [hm] at kt
        exact longer_95 s c C hc w hl kr h1 hbt (by omega) (by omega) h32 _ _ (show _ = _ by simp only [decide_eq_true_eq]) kt kv
    by_cases s96 : C ≤ 96
    · have hw : ¬ (letB C || digB C) = true := by simp [letB, digB]; omega
      rw [if_neg hw] at hm
      rw [hm] at kt
      exact longer_96 s c C hc w hl kr h1 hbt (by omega) (by omega) kt
    by_cases s97 : C ≤ 122
    · have hw : (letB C || digB C) = true := by simp [letB, digB]; omega
      rw [if_pos hw] at hm
      by_cases h32 : s.length = 32
      · rw [if_pos h32] at hm
        rw [hm] at kt
        exact longer_97_full s c C hc w hl kr h1 hbt (by omega) (by omega) h32 kt
      · rw [if_neg h32] at hm
        rw [hm] at kt
        exact longer_97 s c C hc w hl kr h1 hbt (by omega) (by omega) h32 _ _ (show _ = _ by simp only [decide_eq_true_eq]) kt kv
    · have hw : ¬ (letB C || digB C) = true := by simp [letB, digB]; omega
      rw [if_neg hw] at hm
      rw [hm] at kt
      exact longer_123 s c C hc w hl kr h1 hbt (by omega) (by omega) kt
  · refine longer_out s a _ ?_ kr w
    rcases right_kinds s with h | h | h
    · exact absurd h h0
    · exact Or.inl h
    · exact Or.inr h
end Go.Proofs.Ytlbcneoebamjiab
