/- The law's 'back': a value that is there is read as it was written. -/
import Derived.Test.YtflemhekoffpoaaWiRd
import Derived.Test.YtflemhekoffpoaaWiWrite
import Derived.Deep.RegionHeld3
namespace Go.Proofs.Ytflemhekoffpoaa
open Go.RowKit
set_option linter.unusedSimpArgs false
set_option linter.unusedVariables false

/-- The block that a value is boxed in. -/
def opb (k : Int) (N : Nat) (s : List UInt8) (lv tv : Value) (mo lo : Int) : Obj := .cells #[.int .i64 k, .int .u64 (N : Int), .string ⟨s.toArray⟩, lv, tv, .int .i64 mo, .int .i64 lo] 32
theorem box_at {w w1 : World} {k : Int} {N : Nat} {s : List UInt8} {lv tv : Value} {mo lo : Int} {S : Nat → Prop} (hf : Fr S ((w.alloc (opb k N s lv tv mo lo)).drew) w1) (hS : ¬ S w.heap.size) :
    w1.cell? ⟨w.heap.size, 1, none⟩ = some (.int .u64 (N : Int)) ∧ w1.cell? ⟨w.heap.size, 2, none⟩ = some (.string ⟨s.toArray⟩) ∧ w1.cell? ⟨w.heap.size, 3, none⟩ = some lv ∧ w1.cell? ⟨w.heap.size, 4, none⟩ = some tv := by
  have h := hf.heap (show ((w.alloc (opb k N s lv tv mo lo)).drew).heap[w.heap.size]? = some (opb k N s lv tv mo lo) from alloc_new w _) hS
  refine ⟨?_, ?_, ?_, ?_⟩ <;> (rw [cell_of_row w1 w.heap.size _ _ _ _ h]; rfl)

theorem and_nat (N M : Nat) (b : Nat) (hM : M = 2 ^ b - 1) (hN : N < 18446744073709551616) (hb : M < 18446744073709551616) : bits .and .u64 (N : Int) (M : Int) = ((N % 2 ^ b : Nat) : Int) := by
  rw [bits_and_u64_nat N M hN hb, hM]
  congr 1
  exact Nat.and_two_pow_sub_one_eq_mod N b
theorem take_app {a b : List UInt8} {n : Nat} (h : a.length = n) : (a ++ b).take n = a := by rw [← h]; exact List.take_left
theorem drop_app {a b : List UInt8} {n : Nat} (h : a.length = n) : (a ++ b).drop n = b := by rw [← h]; exact List.drop_left

theorem par_if (N : Nat) : (if ((N : Int) % 2 == 1) = true then (1 : UInt8) else 0) = par N := by
  unfold par
  by_cases h : N % 2 = 1
  · rw [if_pos h, if_pos (by simp; omega)]
  · rw [if_neg h, if_neg (by simp; omega)]

/-- It was read: the law's answer, and what is left. -/
def Backed (q : Nat) (w : World) (more : List UInt8) (e : Ending) (w' : World) : Prop := e = .returned (.bool true) ∧ Rd w' q more 0 ∧ Fr (fun k => k = q) w w'

set_option maxHeartbeats 1000000 in
theorem back_1 (q : Nat) (lv tv : Value) (N : Nat) (s : List UInt8) (l : List Int) (t : List (List UInt8)) (mo lo : Int) (more : List UInt8) (w : World) (hr : Rd w q (opS ⟨1, N, s, l, t, mo, lo⟩ ++ more) 0) (hN : N < 18446744073709551616) (hs31 : s.length < 2147483648) (hl31 : l.length < 2147483648) (ht31 : t.length < 2147483648) (hts : ∀ x ∈ t, x.length < 2147483648)
    (hl : Sl w lv (l.map fun x => .int .i64 x)) (ht : Sl w tv (t.map sv)) (hlq : (l.map fun x => Value.int .i64 x) = [] ∨ ∀ k, lv.ownBlock = some k → ¬ k = q) (htq : t.map sv = [] ∨ ∀ k, tv.ownBlock = some k → ¬ k = q) :
    Calls Try.prog 21 #[rp q, opv 1 N s lv tv mo lo] w (Backed q w more) := by
  have eo : opS ⟨1, N, s, l, t, mo, lo⟩ = [UInt8.ofNat N] := by simp [opS]
  rw [eo] at hr
  have hq := hr.lt
  have hr1 : Rd ((w.alloc (opb 1 N s lv tv mo lo)).drew) q ([UInt8.ofNat N] ++ more) 0 := hr.later ((Fr.alloc _ w _).same (Fr.drew _ _))
  have bx : Hidden (∀ w1, Fr (fun k => k = q) ((w.alloc (opb 1 N s lv tv mo lo)).drew) w1 → _) := fun w1 hf => box_at hf (by show ¬ w.heap.size = q; omega)
  have hW : Hidden (∀ w1, Fr (fun k => k = q) ((w.alloc (opb 1 N s lv tv mo lo)).drew) w1 → Fr (fun k => k = q) w w1) := fun w1 hf => ((Fr.alloc _ w _).same (Fr.drew _ _)).same hf
  have kb := rd_Byte_in q _ more (Is (.int .u8 ((N : Int) % 256))) _ hr1 (fun w1 h => by have := takeByte_in q (UInt8.ofNat N) more w1 h; rw [show ((UInt8.ofNat N).toNat : Int) = (N : Int) % 256 by simp] at this; exact this)
  unfold Took Is at kb
  have hwr : IntKind.u8.wrap (N : Int) = (N : Int) % 256 := by rw [IntKind.wrap_u8]
  obtain ⟨a1, b1, c1, rfl⟩ := hl.shape
  obtain ⟨a2, b2, c2, rfl⟩ := ht.shape
  clear hr hr1 eo hl ht hlq htq
  unfold opv Backed
  unfold opb at *
  go_enter Try.func21, Try.ntmps21
  go_wp2_with fail
  go_region_held3 (fun w' => w'.cell? ⟨w.heap.size, 1, none⟩ = some (.int .u64 (N : Int))) (go_keep) (first | (go_at_call 42; refine kb.mono ?_; rintro e w1 ⟨⟨v, rfl, rfl⟩, h1, h2⟩; obtain ⟨d1, d2, d3, d4⟩ := bx w1 h2))
  all_goals
    go_wp2
    go_ret
    exact ⟨rfl, h1, hW _ h2⟩

set_option maxHeartbeats 1000000 in
theorem back_2 (q : Nat) (lv tv : Value) (N : Nat) (s : List UInt8) (l : List Int) (t : List (List UInt8)) (mo lo : Int) (more : List UInt8) (w : World) (hr : Rd w q (opS ⟨2, N, s, l, t, mo, lo⟩ ++ more) 0) (hN : N < 18446744073709551616) (hs31 : s.length < 2147483648) (hl31 : l.length < 2147483648) (ht31 : t.length < 2147483648) (hts : ∀ x ∈ t, x.length < 2147483648)
    (hl : Sl w lv (l.map fun x => .int .i64 x)) (ht : Sl w tv (t.map sv)) (hlq : (l.map fun x => Value.int .i64 x) = [] ∨ ∀ k, lv.ownBlock = some k → ¬ k = q) (htq : t.map sv = [] ∨ ∀ k, tv.ownBlock = some k → ¬ k = q) :
    Calls Try.prog 21 #[rp q, opv 2 N s lv tv mo lo] w (Backed q w more) := by
  have eo : opS ⟨2, N, s, l, t, mo, lo⟩ = [par N] := by simp [opS]
  rw [eo] at hr
  have hq := hr.lt
  have hr1 : Rd ((w.alloc (opb 2 N s lv tv mo lo)).drew) q ([par N] ++ more) 0 := hr.later ((Fr.alloc _ w _).same (Fr.drew _ _))
  have bx : Hidden (∀ w1, Fr (fun k => k = q) ((w.alloc (opb 2 N s lv tv mo lo)).drew) w1 → _) := fun w1 hf => box_at hf (by show ¬ w.heap.size = q; omega)
  have hW : Hidden (∀ w1, Fr (fun k => k = q) ((w.alloc (opb 2 N s lv tv mo lo)).drew) w1 → Fr (fun k => k = q) w w1) := fun w1 hf => ((Fr.alloc _ w _).same (Fr.drew _ _)).same hf
  have kb := rd_Bool_in q _ more (Is (.bool ((N : Int) % 2 == 1))) _ hr1 (fun w1 h => takeBool_in q _ more w1 (by rw [par_if]; exact h))
  unfold Took Is at kb
  have htm : (N : Int).tmod 2 = (N : Int) % 2 := Int.tmod_eq_emod_of_nonneg (by omega)
  obtain ⟨a1, b1, c1, rfl⟩ := hl.shape
  obtain ⟨a2, b2, c2, rfl⟩ := ht.shape
  clear hr hr1 eo hl ht hlq htq
  unfold opv Backed
  unfold opb at *
  go_enter Try.func21, Try.ntmps21
  go_wp2_with fail
  go_region_held3 (fun w' => w'.cell? ⟨w.heap.size, 1, none⟩ = some (.int .u64 (N : Int))) (go_keep) (first | (go_at_call 41; refine kb.mono ?_; rintro e w1 ⟨⟨v, rfl, rfl⟩, h1, h2⟩; obtain ⟨d1, d2, d3, d4⟩ := bx w1 h2))
  all_goals
    go_wp2
    go_ret
    exact ⟨rfl, h1, hW _ h2⟩

set_option maxHeartbeats 1000000 in
theorem back_3 (q : Nat) (lv tv : Value) (N : Nat) (s : List UInt8) (l : List Int) (t : List (List UInt8)) (mo lo : Int) (more : List UInt8) (w : World) (hr : Rd w q (opS ⟨3, N, s, l, t, mo, lo⟩ ++ more) 0) (hN : N < 18446744073709551616) (hs31 : s.length < 2147483648) (hl31 : l.length < 2147483648) (ht31 : t.length < 2147483648) (hts : ∀ x ∈ t, x.length < 2147483648)
    (hl : Sl w lv (l.map fun x => .int .i64 x)) (ht : Sl w tv (t.map sv)) (hlq : (l.map fun x => Value.int .i64 x) = [] ∨ ∀ k, lv.ownBlock = some k → ¬ k = q) (htq : t.map sv = [] ∨ ∀ k, tv.ownBlock = some k → ¬ k = q) :
    Calls Try.prog 21 #[rp q, opv 3 N s lv tv mo lo] w (Backed q w more) := by
  have eo : opS ⟨3, N, s, l, t, mo, lo⟩ = beS N 2 := by simp [opS]
  rw [eo] at hr
  have hq := hr.lt
  have hr1 : Rd ((w.alloc (opb 3 N s lv tv mo lo)).drew) q (beS N 2 ++ more) 0 := hr.later ((Fr.alloc _ w _).same (Fr.drew _ _))
  have bx : Hidden (∀ w1, Fr (fun k => k = q) ((w.alloc (opb 3 N s lv tv mo lo)).drew) w1 → _) := fun w1 hf => box_at hf (by show ¬ w.heap.size = q; omega)
  have hW : Hidden (∀ w1, Fr (fun k => k = q) ((w.alloc (opb 3 N s lv tv mo lo)).drew) w1 → Fr (fun k => k = q) w w1) := fun w1 hf => ((Fr.alloc _ w _).same (Fr.drew _ _)).same hf
  have kb := rd_Short_in q _ more (Is (.int .i64 ((N % 65536 : Nat) : Int))) _ hr1 (fun w1 h => by have := takeShort_in q _ w1 (by simp) h; rw [take_app (by simp), drop_app (by simp), num_be] at this; exact this)
  unfold Took Is at kb
  have hand := and_nat N 65535 16 (by decide) hN (by omega)
  obtain ⟨K, hK⟩ : ∃ K, N % 65536 = K := ⟨_, rfl⟩
  have hKb : K < 65536 := by omega
  rw [show N % 2 ^ 16 = K from hK, show ((65535 : Nat) : Int) = 65535 from rfl] at hand
  rw [hK] at kb
  have hwr : IntKind.i64.wrap (K : Int) = (K : Int) := by rw [IntKind.wrap_i64]; omega
  clear hK
  obtain ⟨a1, b1, c1, rfl⟩ := hl.shape
  obtain ⟨a2, b2, c2, rfl⟩ := ht.shape
  clear hr hr1 eo hl ht hlq htq
  unfold opv Backed
  unfold opb at *
  go_enter Try.func21, Try.ntmps21
  go_wp2_with fail
  go_region_held3 (fun w' => w'.cell? ⟨w.heap.size, 1, none⟩ = some (.int .u64 (N : Int))) (go_keep) (first | (go_at_call 45; refine kb.mono ?_; rintro e w1 ⟨⟨v, rfl, rfl⟩, h1, h2⟩; obtain ⟨d1, d2, d3, d4⟩ := bx w1 h2))
  all_goals
    go_wp2
    go_ret
    exact ⟨rfl, h1, hW _ h2⟩

set_option maxHeartbeats 1000000 in
theorem back_4 (q : Nat) (lv tv : Value) (N : Nat) (s : List UInt8) (l : List Int) (t : List (List UInt8)) (mo lo : Int) (more : List UInt8) (w : World) (hr : Rd w q (opS ⟨4, N, s, l, t, mo, lo⟩ ++ more) 0) (hN : N < 18446744073709551616) (hs31 : s.length < 2147483648) (hl31 : l.length < 2147483648) (ht31 : t.length < 2147483648) (hts : ∀ x ∈ t, x.length < 2147483648)
    (hl : Sl w lv (l.map fun x => .int .i64 x)) (ht : Sl w tv (t.map sv)) (hlq : (l.map fun x => Value.int .i64 x) = [] ∨ ∀ k, lv.ownBlock = some k → ¬ k = q) (htq : t.map sv = [] ∨ ∀ k, tv.ownBlock = some k → ¬ k = q) :
    Calls Try.prog 21 #[rp q, opv 4 N s lv tv mo lo] w (Backed q w more) := by
  have eo : opS ⟨4, N, s, l, t, mo, lo⟩ = beS (N % 2147483648) 4 := by simp [opS]
  rw [eo] at hr
  have hq := hr.lt
  have hr1 : Rd ((w.alloc (opb 4 N s lv tv mo lo)).drew) q (beS (N % 2147483648) 4 ++ more) 0 := hr.later ((Fr.alloc _ w _).same (Fr.drew _ _))
  have bx : Hidden (∀ w1, Fr (fun k => k = q) ((w.alloc (opb 4 N s lv tv mo lo)).drew) w1 → _) := fun w1 hf => box_at hf (by show ¬ w.heap.size = q; omega)
  have hW : Hidden (∀ w1, Fr (fun k => k = q) ((w.alloc (opb 4 N s lv tv mo lo)).drew) w1 → Fr (fun k => k = q) w w1) := fun w1 hf => ((Fr.alloc _ w _).same (Fr.drew _ _)).same hf
  have kb := rd_Int_in q _ more (Is (.int .i64 ((N % 2147483648 : Nat) : Int))) _ hr1 (fun w1 h => by have := takeInt_in q _ (N % 2147483648) w1 (by simp) (by show numS _ = _; rw [take_app (by simp), num_be]; omega) (by omega) h; rw [drop_app (by simp)] at this; exact this)
  unfold Took Is at kb
  have hand := and_nat N 2147483647 31 (by decide) hN (by omega)
  obtain ⟨K, hK⟩ : ∃ K, N % 2147483648 = K := ⟨_, rfl⟩
  have hKb : K < 2147483648 := by omega
  rw [show N % 2 ^ 31 = K from hK, show ((2147483647 : Nat) : Int) = 2147483647 from rfl] at hand
  rw [hK] at kb
  have hwr : IntKind.i64.wrap (K : Int) = (K : Int) := by rw [IntKind.wrap_i64]; omega
  clear hK
  obtain ⟨a1, b1, c1, rfl⟩ := hl.shape
  obtain ⟨a2, b2, c2, rfl⟩ := ht.shape
  clear hr hr1 eo hl ht hlq htq
  unfold opv Backed
  unfold opb at *
  go_enter Try.func21, Try.ntmps21
  go_wp2_with fail
  go_region_held3 (fun w' => w'.cell? ⟨w.heap.size, 1, none⟩ = some (.int .u64 (N : Int))) (go_keep) (first | (go_at_call 47; refine kb.mono ?_; rintro e w1 ⟨⟨v, rfl, rfl⟩, h1, h2⟩; obtain ⟨d1, d2, d3, d4⟩ := bx w1 h2))
  all_goals
    go_wp2
    go_ret
    exact ⟨rfl, h1, hW _ h2⟩

set_option maxHeartbeats 1000000 in
theorem back_5 (q : Nat) (lv tv : Value) (N : Nat) (s : List UInt8) (l : List Int) (t : List (List UInt8)) (mo lo : Int) (more : List UInt8) (w : World) (hr : Rd w q (opS ⟨5, N, s, l, t, mo, lo⟩ ++ more) 0) (hN : N < 18446744073709551616) (hs31 : s.length < 2147483648) (hl31 : l.length < 2147483648) (ht31 : t.length < 2147483648) (hts : ∀ x ∈ t, x.length < 2147483648)
    (hl : Sl w lv (l.map fun x => .int .i64 x)) (ht : Sl w tv (t.map sv)) (hlq : (l.map fun x => Value.int .i64 x) = [] ∨ ∀ k, lv.ownBlock = some k → ¬ k = q) (htq : t.map sv = [] ∨ ∀ k, tv.ownBlock = some k → ¬ k = q) :
    Calls Try.prog 21 #[rp q, opv 5 N s lv tv mo lo] w (Backed q w more) := by
  have eo : opS ⟨5, N, s, l, t, mo, lo⟩ = beS N 8 := by simp [opS]
  rw [eo] at hr
  have hq := hr.lt
  have hr1 : Rd ((w.alloc (opb 5 N s lv tv mo lo)).drew) q (beS N 8 ++ more) 0 := hr.later ((Fr.alloc _ w _).same (Fr.drew _ _))
  have bx : Hidden (∀ w1, Fr (fun k => k = q) ((w.alloc (opb 5 N s lv tv mo lo)).drew) w1 → _) := fun w1 hf => box_at hf (by show ¬ w.heap.size = q; omega)
  have hW : Hidden (∀ w1, Fr (fun k => k = q) ((w.alloc (opb 5 N s lv tv mo lo)).drew) w1 → Fr (fun k => k = q) w w1) := fun w1 hf => ((Fr.alloc _ w _).same (Fr.drew _ _)).same hf
  have kb := rd_Long_in q _ more (Is (.int .u64 (N : Int))) _ hr1 (fun w1 h => by have := takeLong_in q _ w1 (by simp) h; rw [take_app (by simp), drop_app (by simp), num_be, Nat.mod_eq_of_lt (by omega)] at this; exact this)
  unfold Took Is at kb
  obtain ⟨a1, b1, c1, rfl⟩ := hl.shape
  obtain ⟨a2, b2, c2, rfl⟩ := ht.shape
  clear hr hr1 eo hl ht hlq htq
  unfold opv Backed
  unfold opb at *
  go_enter Try.func21, Try.ntmps21
  go_wp2_with fail
  go_region_held3 (fun w' => w'.cell? ⟨w.heap.size, 1, none⟩ = some (.int .u64 (N : Int))) (go_keep) (first | (go_at_call 22; refine kb.mono ?_; rintro e w1 ⟨⟨v, rfl, rfl⟩, h1, h2⟩; obtain ⟨d1, d2, d3, d4⟩ := bx w1 h2))
  all_goals
    go_wp2
    go_ret
    exact ⟨rfl, h1, hW _ h2⟩

theorem text_took (q : Nat) (s more : List UInt8) (w : World) (hs : s.length < 2147483648) (hr : Rd w q (rawS s ++ more) 0) :
    Calls Try.prog 76 #[rp q, .int .i64 2147483647] w (Took q w (Is (.string ⟨s.toArray⟩)) more) := by
  have e4 : (rawS s ++ more).drop 4 = s ++ more := by rw [rawS, List.append_assoc]; exact drop_app (by simp)
  have := takeText_in q (rawS s ++ more) s.length 2147483647 w (by simp; omega) (by show numS _ = _; rw [rawS, List.append_assoc, take_app (by simp)]; exact num_len _ hs) hs (by omega) hr (by rw [e4]; simp)
  rw [e4, take_app rfl, drop_app rfl] at this
  exact this
theorem raw_took (q : Nat) (s more : List UInt8) (w : World) (hs : s.length < 2147483648) (hr : Rd w q (rawS s ++ more) 0) :
    Calls Try.prog 79 #[rp q, .int .i64 2147483647] w (Took q w (NewB s w.heap.size) more) := by
  have e4 : (rawS s ++ more).drop 4 = s ++ more := by rw [rawS, List.append_assoc]; exact drop_app (by simp)
  have := takeRaw_in q (rawS s ++ more) s.length 2147483647 w (by simp; omega) (by show numS _ = _; rw [rawS, List.append_assoc, take_app (by simp)]; exact num_len _ hs) hs (by omega) hr (by rw [e4]; simp)
  rw [e4, take_app rfl, drop_app rfl] at this
  exact this

set_option maxHeartbeats 1000000 in
theorem back_6 (q : Nat) (lv tv : Value) (N : Nat) (s : List UInt8) (l : List Int) (t : List (List UInt8)) (mo lo : Int) (more : List UInt8) (w : World) (hr : Rd w q (opS ⟨6, N, s, l, t, mo, lo⟩ ++ more) 0) (hN : N < 18446744073709551616) (hs31 : s.length < 2147483648) (hl31 : l.length < 2147483648) (ht31 : t.length < 2147483648) (hts : ∀ x ∈ t, x.length < 2147483648)
    (hl : Sl w lv (l.map fun x => .int .i64 x)) (ht : Sl w tv (t.map sv)) (hlq : (l.map fun x => Value.int .i64 x) = [] ∨ ∀ k, lv.ownBlock = some k → ¬ k = q) (htq : t.map sv = [] ∨ ∀ k, tv.ownBlock = some k → ¬ k = q) :
    Calls Try.prog 21 #[rp q, opv 6 N s lv tv mo lo] w (Backed q w more) := by
  have eo : opS ⟨6, N, s, l, t, mo, lo⟩ = rawS s := by simp [opS]
  rw [eo] at hr
  have hq := hr.lt
  have hr1 : Rd ((w.alloc (opb 6 N s lv tv mo lo)).drew) q (rawS s ++ more) 0 := hr.later ((Fr.alloc _ w _).same (Fr.drew _ _))
  have bx : Hidden (∀ w1, Fr (fun k => k = q) ((w.alloc (opb 6 N s lv tv mo lo)).drew) w1 → _) := fun w1 hf => box_at hf (by show ¬ w.heap.size = q; omega)
  have hW : Hidden (∀ w1, Fr (fun k => k = q) ((w.alloc (opb 6 N s lv tv mo lo)).drew) w1 → Fr (fun k => k = q) w w1) := fun w1 hf => ((Fr.alloc _ w _).same (Fr.drew _ _)).same hf
  have kb := rd_Text_in q _ more (Is (.string ⟨s.toArray⟩)) _ hr1 (fun w1 _ h => text_took q s more w1 hs31 h)
  unfold Took Is at kb
  obtain ⟨a1, b1, c1, rfl⟩ := hl.shape
  obtain ⟨a2, b2, c2, rfl⟩ := ht.shape
  clear hr hr1 eo hl ht hlq htq
  unfold opv Backed
  unfold opb at *
  go_enter Try.func21, Try.ntmps21
  go_wp2_with fail
  go_region_held3 (fun w' => w'.cell? ⟨w.heap.size, 2, none⟩ = some (.string ⟨s.toArray⟩)) (go_keep) (first | (go_at_call 50; refine kb.mono ?_; rintro e w1 ⟨⟨v, rfl, rfl⟩, h1, h2⟩; obtain ⟨d1, d2, d3, d4⟩ := bx w1 h2))
  all_goals
    go_wp2
    go_ret
    exact ⟨rfl, h1, hW _ h2⟩

set_option maxHeartbeats 1000000 in
theorem back_7 (q : Nat) (lv tv : Value) (N : Nat) (s : List UInt8) (l : List Int) (t : List (List UInt8)) (mo lo : Int) (more : List UInt8) (w : World) (hr : Rd w q (opS ⟨7, N, s, l, t, mo, lo⟩ ++ more) 0) (hN : N < 18446744073709551616) (hs31 : s.length < 2147483648) (hl31 : l.length < 2147483648) (ht31 : t.length < 2147483648) (hts : ∀ x ∈ t, x.length < 2147483648)
    (hl : Sl w lv (l.map fun x => .int .i64 x)) (ht : Sl w tv (t.map sv)) (hlq : (l.map fun x => Value.int .i64 x) = [] ∨ ∀ k, lv.ownBlock = some k → ¬ k = q) (htq : t.map sv = [] ∨ ∀ k, tv.ownBlock = some k → ¬ k = q) :
    Calls Try.prog 21 #[rp q, opv 7 N s lv tv mo lo] w (Backed q w more) := by
  have eo : opS ⟨7, N, s, l, t, mo, lo⟩ = rawS s := by simp [opS]
  rw [eo] at hr
  have hq := hr.lt
  have hr1 : Rd ((w.alloc (opb 7 N s lv tv mo lo)).drew) q (rawS s ++ more) 0 := hr.later ((Fr.alloc _ w _).same (Fr.drew _ _))
  have bx : Hidden (∀ w1, Fr (fun k => k = q) ((w.alloc (opb 7 N s lv tv mo lo)).drew) w1 → _) := fun w1 hf => box_at hf (by show ¬ w.heap.size = q; omega)
  have hW : Hidden (∀ w1, Fr (fun k => k = q) ((w.alloc (opb 7 N s lv tv mo lo)).drew) w1 → Fr (fun k => k = q) w w1) := fun w1 hf => ((Fr.alloc _ w _).same (Fr.drew _ _)).same hf
  have kb := rd_Raw_in q _ more (fun v w => Sl w v (bc s) ∧ ∃ a b c, v = .slice a b c) _ hr1 (fun w1 _ h => (raw_took q s more w1 hs31 h).mono (by rintro e w' ⟨⟨v, rfl, ao, cap, hv, ho⟩, h2⟩; exact ⟨⟨v, rfl, ho.1, _, _, _, hv⟩, h2⟩))
  unfold Took at kb
  obtain ⟨a1, b1, c1, rfl⟩ := hl.shape
  obtain ⟨a2, b2, c2, rfl⟩ := ht.shape
  clear hr hr1 eo hl ht hlq htq
  unfold opv Backed
  unfold opb at *
  go_enter Try.func21, Try.ntmps21
  go_wp2_with fail
  go_region_with (first | (go_at_call 52; refine kb.mono ?_; rintro e w1 ⟨⟨v, rfl, hv, xa, xb, xc, rfl⟩, h1, h2⟩; obtain ⟨d1, d2, d3, d4⟩ := bx w1 h2; have hstr := run_str w1 _ s hv))
  all_goals
    go_wp2
    go_ret
    exact ⟨rfl, h1, hW _ h2⟩

theorem ints_took (q : Nat) (l : List Int) (more : List UInt8) (w : World) (hl : l.length < 2147483648) (hr : Rd w q (intsS l ++ more) 0) :
    Calls Try.prog 83 #[rp q, .int .i64 2147483647, .func (.func 73) #[rp q] #[]] w (Took q w (NewL w.heap.size (l.map fun x : Int => Value.int .i64 ((u64 x % 2147483648 : Nat) : Int))) more) := by
  refine list_int_in w q l l.length rfl 2147483647 more (by rw [intsS, List.append_assoc] at hr; exact hr) hl (by omega) (fun x mr w1 _ _ h => ?_)
  have := takeInt_in q (i31 x ++ mr) (u64 x % 2147483648) w1 (by simp) (by show numS _ = _; rw [take_app (by simp)]; exact num_i31 x) (Nat.mod_lt _ (by omega)) h
  rw [drop_app (by simp)] at this
  exact this

set_option maxHeartbeats 1000000 in
theorem same_texts (a b : Value) (t : List (List UInt8)) (n : Nat) (hn : Hidden (t.length = n)) (hn31 : n ≤ 9223372036854775807) (w : World) (ha : Sl w a (t.map sv)) (hb : Sl w b (t.map sv)) :
    Calls Try.prog 57 #[a, b] w fun e w' => e = .returned (.bool true) ∧ Fr (fun _ => False) w w' := by
  have hH : Hidden (Sl w a (t.map sv) ∧ Sl w b (t.map sv)) := ⟨ha, hb⟩
  obtain ⟨ao, ac, rfl, a1, a2, a3, a4⟩ := ha
  obtain ⟨bo, bc', rfl, b1, b2, b3, b4⟩ := hb
  have hml : (t.map sv).length = n := by rw [List.length_map]; exact hn
  rw [hml] at *
  clear a3 a4 b3 b4 hml a1 a2 b1 b2
  go_enter Try.func57, Try.ntmps57
  go_wp2
  go_loopg [5] n (fun k iv wr => ∃ j : Nat, iv = .int .i64 (j : Int) ∧ j ≤ n ∧ k = n - j ∧ Fr (fun _ => False) w wr)
  case atStart => exact ⟨0, rfl, by omega, rfl, Fr.refl _ _⟩
  case round =>
    obtain ⟨j, rfl, hj, hk, hf⟩ := hrel
    have hkH : Hidden (gk = n - j ∧ Fr (fun _ => False) w wr) := ⟨hk, hf⟩
    by_cases hjl : j < n
    · obtain ⟨x, hx⟩ : ∃ x, t[j]? = some x := ⟨t[j]'(by rw [show t.length = n from hn]; exact hjl), List.getElem?_eq_getElem _⟩
      obtain ⟨ao', ac', e1, _, _, _, a4⟩ := hH.1.keep hf (fun _ _ f => f)
      obtain ⟨bo', bc2, e2, _, _, _, b4⟩ := hH.2.keep hf (fun _ _ f => f)
      simp only [Value.slice.injEq] at e1 e2
      obtain ⟨rfl, he1, rfl⟩ := e1
      obtain ⟨rfl, he2, rfl⟩ := e2
      clear he1 he2
      have hne : t.map sv ≠ [] := by intro h; have : t = [] := (by simpa using h); subst this; simp at hx
      rcases a4 with a4 | ⟨ba, oa, rfl, ca⟩
      · exact absurd a4 hne
      rcases b4 with b4 | ⟨bb, ob, rfl, cb⟩
      · exact absurd b4 hne
      have da : wr.cell? ⟨ba, oa + j, none⟩ = some (.string ⟨x.toArray⟩) := ca j _ (by rw [List.getElem?_map, hx]; rfl)
      have db : wr.cell? ⟨bb, ob + j, none⟩ = some (.string ⟨x.toArray⟩) := cb j _ (by rw [List.getElem?_map, hx]; rfl)
      clear hk hf hx ca cb hne
      go_wp2_with fail
      go_region_held3 (fun w' => w'.cell? ⟨ba, oa + j, none⟩ = some (.string ⟨x.toArray⟩) ∧ w'.cell? ⟨bb, ob + j, none⟩ = some (.string ⟨x.toArray⟩)) (go_keep) (fail)
      go_wp2
      go_roundg (n - (j + 1))
      case measure =>
        have : gk = n - j := hkH.1
        omega
      case rel => exact ⟨j + 1, by go_num, by omega, rfl, Fr.same hkH.2 (Fr.drew _ _)⟩
    · obtain rfl : j = n := by omega
      clear hk hf
      go_wp2
      go_ret
      exact ⟨rfl, hkH.2⟩

set_option maxHeartbeats 1000000 in
theorem back_8 (q : Nat) (lv tv : Value) (N : Nat) (s : List UInt8) (l : List Int) (t : List (List UInt8)) (mo lo : Int) (more : List UInt8) (w : World) (hr : Rd w q (opS ⟨8, N, s, l, t, mo, lo⟩ ++ more) 0) (hN : N < 18446744073709551616) (hs31 : s.length < 2147483648) (hl31 : l.length < 2147483648) (ht31 : t.length < 2147483648) (hts : ∀ x ∈ t, x.length < 2147483648)
    (hl : Sl w lv (l.map fun x => .int .i64 x)) (ht : Sl w tv (t.map sv)) (hlq : (l.map fun x => Value.int .i64 x) = [] ∨ ∀ k, lv.ownBlock = some k → ¬ k = q) (htq : t.map sv = [] ∨ ∀ k, tv.ownBlock = some k → ¬ k = q) :
    Calls Try.prog 21 #[rp q, opv 8 N s lv tv mo lo] w (Backed q w more) := by
  have eo : opS ⟨8, N, s, l, t, mo, lo⟩ = intsS l := by simp [opS]
  rw [eo] at hr
  have hq := hr.lt
  have hr1 : Rd ((w.alloc (opb 8 N s lv tv mo lo)).drew) q (intsS l ++ more) 0 := hr.later ((Fr.alloc _ w _).same (Fr.drew _ _))
  have bx : Hidden (∀ w1, Fr (fun k => k = q) ((w.alloc (opb 8 N s lv tv mo lo)).drew) w1 → _) := fun w1 hf => box_at hf (by show ¬ w.heap.size = q; omega)
  have hW : Hidden (∀ w1, Fr (fun k => k = q) ((w.alloc (opb 8 N s lv tv mo lo)).drew) w1 → Fr (fun k => k = q) w w1) := fun w1 hf => ((Fr.alloc _ w _).same (Fr.drew _ _)).same hf
  have hr0 : Rd (w.alloc (opb 8 N s lv tv mo lo)) q (intsS l ++ more) 0 := hr.later (Fr.alloc _ w _)
  have kb := rd_Ints_in q _ more (fun v w => Sl w v (l.map fun x : Int => Value.int .i64 ((u64 x % 2147483648 : Nat) : Int))) _ hr0 (fun w1 _ h => (ints_took q l more w1 hl31 h).mono (by rintro e w' ⟨⟨v, rfl, ao, cap, hv, _, _, ho, _⟩, h2⟩; exact ⟨⟨v, rfl, ho⟩, h2⟩))
  unfold Took at kb
  obtain ⟨n, hn⟩ : ∃ n, l.length = n := ⟨_, rfl⟩
  have hnH : Hidden (l.length = n) := hn
  have hn31 : n < 2147483648 := by omega
  have hshape : Hidden (∀ (v : Value) (w1 : World), Sl w1 v (l.map fun x : Int => Value.int .i64 ((u64 x % 2147483648 : Nat) : Int)) → ∃ ao cap, v = .slice ao n cap) := fun v w1 h => by
    obtain ⟨ao, cap, e, _⟩ := h
    rw [List.length_map, hn] at e
    exact ⟨_, _, e⟩
  have hlH : Hidden (Sl w lv (l.map fun x => .int .i64 x)) := hl
  have hlqH : Hidden ((l.map fun x => Value.int .i64 x) = [] ∨ ∀ k, lv.ownBlock = some k → ¬ k = q) := hlq
  have bx0 : Hidden (∀ w1, Fr (fun k => k = q) (w.alloc (opb 8 N s lv tv mo lo)) w1 → w1.cell? ⟨w.heap.size, 3, none⟩ = some lv) := fun w1 hf => by
    have h := hf.heap (alloc_new w _) (show ¬ w.heap.size = q by omega)
    rw [cell_of_row w1 w.heap.size 3 _ _ _ h]; rfl
  obtain ⟨ol, lc, e0⟩ : ∃ ol lc, lv = .slice ol n lc := by
    obtain ⟨ao, cap, e, _⟩ := hl
    rw [List.length_map, hn] at e
    exact ⟨_, _, e⟩
  subst e0
  obtain ⟨a2, b2, c2, rfl⟩ := ht.shape
  clear hr hr0 hr1 eo hl ht hn bx hW hlq htq
  unfold opv Backed
  unfold opb at *
  go_enter Try.func21, Try.ntmps21
  go_wp2_with (go_at_call 55; refine kb.mono ?_; rintro e w1 ⟨⟨v, rfl, hv⟩, h1, h2⟩; obtain ⟨vo, vc, rfl⟩ := hshape v w1 hv; have d3 := bx0 w1 h2)
  have hH : Hidden (Sl w1 (.slice vo n vc) (l.map fun x : Int => Value.int .i64 ((u64 x % 2147483648 : Nat) : Int)) ∧ Rd w1 q more 0 ∧ Fr (fun k => k = q) (w.alloc (.cells #[.int .i64 8, .int .u64 (N : Int), .string ⟨s.toArray⟩, .slice ol n lc, .slice a2 b2 c2, .int .i64 mo, .int .i64 lo] 32)) w1) := ⟨hv, h1, h2⟩
  have d3H : Hidden (w1.cell? ⟨w.heap.size, 3, none⟩ = some (.slice ol n lc)) := d3
  clear hv h1 h2 kb hshape bx0 d3
  go_loopg [7] n (fun k iv wr => ∃ j : Nat, iv = .int .i64 (j : Int) ∧ j ≤ n ∧ k = n - j ∧ Fr (fun _ => False) w1 wr)
  case atStart => exact ⟨0, rfl, by omega, rfl, Fr.refl _ _⟩
  case round =>
    obtain ⟨j, rfl, hj, hk, hf⟩ := hrel
    have hkH : Hidden (gk = n - j ∧ Fr (fun _ => False) w1 wr) := ⟨hk, hf⟩
    by_cases hjl : j < n
    · obtain ⟨x, hx⟩ : ∃ x, l[j]? = some x := ⟨l[j]'(by rw [show l.length = n from hnH]; exact hjl), List.getElem?_eq_getElem _⟩
      have hold : Sl wr (.slice ol n lc) (l.map fun x => .int .i64 x) := (show Sl w _ _ from hlH).keepA (Fr.trans (Fr.alloc (fun k => k = q) w _) (Fr.same hH.2.2 (hf.mono (fun _ _ f => f.elim))) (fun _ _ h => h)) hlqH
      obtain ⟨vo', vc', e1, _, _, _, a4⟩ := hH.1.keep hf (fun _ _ f => f)
      obtain ⟨lo', lc', e2, _, _, _, b4⟩ := hold
      simp only [Value.slice.injEq] at e1 e2
      obtain ⟨rfl, he1, rfl⟩ := e1
      obtain ⟨rfl, he2, rfl⟩ := e2
      clear he1 he2
      have hne : l ≠ [] := by intro h; subst h; simp at hx
      rcases a4 with a4 | ⟨ba, oa, rfl, ca⟩
      · exact absurd (by simpa using a4) hne
      rcases b4 with b4 | ⟨bb, ob, rfl, cb⟩
      · exact absurd (by simpa using b4) hne
      obtain ⟨K, hK⟩ : ∃ K, u64 x % 2147483648 = K := ⟨_, rfl⟩
      have hKb : K < 2147483648 := by rw [← hK]; exact Nat.mod_lt _ (by omega)
      have da : wr.cell? ⟨ba, oa + j, none⟩ = some (.int .i64 (K : Int)) := by rw [← hK]; exact ca j _ (by rw [List.getElem?_map, hx]; rfl)
      have db : wr.cell? ⟨bb, ob + j, none⟩ = some (.int .i64 x) := cb j _ (by rw [List.getElem?_map, hx]; rfl)
      have dc : wr.cell? ⟨w.heap.size, 3, none⟩ = some (.slice (some ⟨bb, ob, none⟩) n lc) := hf.cell (show w1.cell? _ = _ from d3H) (fun f => f)
      have hand := and31 x
      rw [hK] at hand
      have hwr : IntKind.i64.wrap (K : Int) = (K : Int) := by rw [IntKind.wrap_i64]; omega
      clear hk hf hx ca cb hne hK
      go_wp2_with fail
      go_region_held3 (fun w' => w'.cell? ⟨ba, oa + j, none⟩ = some (.int .i64 (K : Int)) ∧ w'.cell? ⟨bb, ob + j, none⟩ = some (.int .i64 x) ∧ w'.cell? ⟨w.heap.size, 3, none⟩ = some (.slice (some ⟨bb, ob, none⟩) n lc)) (go_keep) (fail)
      go_wp2
      go_roundg (n - (j + 1))
      case measure =>
        have : gk = n - j := hkH.1
        omega
      case rel => exact ⟨j + 1, by go_num, by omega, rfl, Fr.same hkH.2 (Fr.drew _ _)⟩
    · obtain rfl : j = n := by omega
      have hfin : Hidden (Rd wr q more 0 ∧ Fr (fun k => k = q) w wr) := ⟨hH.2.1.later hf, (Fr.alloc _ w _).same (Fr.same hH.2.2 (hf.mono (fun _ _ f => f.elim)))⟩
      clear hk hf
      go_wp2
      go_ret
      exact ⟨rfl, hfin⟩

theorem one_in (q b0 b3 : Nat) (A : Value → World → Prop) (rest' : List UInt8) (w : World) (h0 : w.cell? ⟨b0, 0, none⟩ = some (rp q)) (h3 : w.cell? ⟨b3, 0, none⟩ = some (.int .i64 2147483647)) (kt : Calls Try.prog 76 #[rp q, .int .i64 2147483647] w (Took q w A rest')) :
    Calls Try.prog 84 #[.pointer (some ⟨b0, 0, none⟩), .pointer (some ⟨b3, 0, none⟩)] w (Took q w A rest') := by
  unfold Took at *
  go_enter Try.func84, Try.ntmps84
  go_wp2_with (go_at_call 76; refine kt.mono ?_; rintro e w1 ⟨⟨v, rfl, hv⟩, h1, h2⟩)
  go_ret
  exact ⟨⟨_, rfl, hv⟩, h1, h2⟩
theorem texts_took (q b0 b3 : Nat) (t : List (List UInt8)) (more : List UInt8) (w : World) (ht : t.length < 2147483648) (hts : ∀ x ∈ t, x.length < 2147483648) (hr : Rd w q (textsS t ++ more) 0) (h0 : w.cell? ⟨b0, 0, none⟩ = some (rp q)) (h3 : w.cell? ⟨b3, 0, none⟩ = some (.int .i64 2147483647)) (hb0 : ¬ b0 = q) (hb3 : ¬ b3 = q) :
    Calls Try.prog 87 #[rp q, .int .i64 2147483647, .func (.func 84) #[] #[.pointer (some ⟨b0, 0, none⟩), .pointer (some ⟨b3, 0, none⟩)]] w (Took q w (NewL w.heap.size (t.map sv)) more) := by
  refine list_str_in w q _ _ t t.length rfl 2147483647 more (by rw [textsS, List.append_assoc] at hr; exact hr) ht (by omega) (fun x mr w1 hx hf h => ?_)
  exact one_in q b0 b3 (Is (sv x)) mr w1 (hf.cell h0 hb0) (hf.cell h3 hb3) (text_took q x mr w1 (hts x hx) h)

set_option maxHeartbeats 1000000 in
theorem back_9 (q : Nat) (lv tv : Value) (N : Nat) (s : List UInt8) (l : List Int) (t : List (List UInt8)) (mo lo : Int) (more : List UInt8) (w : World) (hr : Rd w q (opS ⟨9, N, s, l, t, mo, lo⟩ ++ more) 0) (hN : N < 18446744073709551616) (hs31 : s.length < 2147483648) (hl31 : l.length < 2147483648) (ht31 : t.length < 2147483648) (hts : ∀ x ∈ t, x.length < 2147483648)
    (hl : Sl w lv (l.map fun x => .int .i64 x)) (ht : Sl w tv (t.map sv)) (hlq : (l.map fun x => Value.int .i64 x) = [] ∨ ∀ k, lv.ownBlock = some k → ¬ k = q) (htq : t.map sv = [] ∨ ∀ k, tv.ownBlock = some k → ¬ k = q) :
    Calls Try.prog 21 #[rp q, opv 9 N s lv tv mo lo] w (Backed q w more) := by
  have eo : opS ⟨9, N, s, l, t, mo, lo⟩ = textsS t := by simp [opS]
  rw [eo] at hr
  have hq := hr.lt
  have hr1 : Rd ((w.alloc (opb 9 N s lv tv mo lo)).drew) q (textsS t ++ more) 0 := hr.later ((Fr.alloc _ w _).same (Fr.drew _ _))
  have bx : Hidden (∀ w1, Fr (fun k => k = q) ((w.alloc (opb 9 N s lv tv mo lo)).drew) w1 → _) := fun w1 hf => box_at hf (by show ¬ w.heap.size = q; omega)
  have hW : Hidden (∀ w1, Fr (fun k => k = q) ((w.alloc (opb 9 N s lv tv mo lo)).drew) w1 → Fr (fun k => k = q) w w1) := fun w1 hf => ((Fr.alloc _ w _).same (Fr.drew _ _)).same hf
  have kb := rd_Texts_in q _ more (fun v w => Sl w v (t.map sv)) _ hr1 (fun w1 hf h => (texts_took q _ _ t more w1 ht31 hts h (hf.cell (box1 (w := (w.alloc (opb 9 N s lv tv mo lo)).drew) rfl (by repeat (first | exact Fr.alloc _ _ _ | refine Fr.same ?_ (Fr.alloc _ _ _)))) (fun f => f)) (hf.cell (box1 (w := (((w.alloc (opb 9 N s lv tv mo lo)).drew).alloc _).alloc _) (by simp) (by repeat (first | exact Fr.alloc _ _ _ | refine Fr.same ?_ (Fr.alloc _ _ _)))) (fun f => f)) (by simp; omega) (by simp; omega)).mono (by rintro e w' ⟨⟨v, rfl, ao, cap, hv, _, _, ho, _⟩, h2⟩; exact ⟨⟨v, rfl, ho⟩, h2⟩))
  unfold Took at kb
  have hold : Hidden (∀ w1, Fr (fun k => k = q) ((w.alloc (opb 9 N s lv tv mo lo)).drew) w1 → Sl w1 tv (t.map sv)) := fun w1 hf => ht.keepA (hW w1 hf) htq
  have ks : Hidden (∀ (v : Value) (w1 : World), Sl w1 v (t.map sv) → Sl w1 tv (t.map sv) → Calls Try.prog 57 #[v, tv] w1 fun e w' => e = .returned (.bool true) ∧ Fr (fun _ => False) w1 w') := fun v w1 h1 h2 => same_texts v tv t t.length rfl (by omega) w1 h1 h2
  obtain ⟨a1, b1, c1, rfl⟩ := hl.shape
  obtain ⟨a2, b2, c2, rfl⟩ := ht.shape
  clear hr hr1 eo hl ht hlq htq
  unfold opv Backed
  unfold opb at *
  go_enter Try.func21, Try.ntmps21
  go_wp2_with fail
  go_region_held3 (fun w' => w'.cell? ⟨w.heap.size, 4, none⟩ = some (.slice a2 b2 c2)) (go_keep) (first
    | (go_at_call 58; refine kb.mono ?_; rintro e w1 ⟨⟨v, rfl, hv⟩, h1, h2⟩; obtain ⟨d1, d2, d3, d4⟩ := bx w1 h2)
    | (go_at_call 57; refine (ks _ _ hv (hold w1 h2)).mono ?_; rintro e w2 ⟨rfl, hf2⟩; have d5 := hf2.cell d4 (fun f => f); have h3 := h1.later hf2; have h4 : Hidden (Fr (fun k => k = q) w w2) := Fr.same (hW _ h2) (hf2.mono (fun _ _ f => f.elim))))
  all_goals
    go_wp2
    go_ret
    exact ⟨rfl, h3, h4⟩

set_option maxHeartbeats 800000 in
theorem back_0 (q : Nat) (lv tv : Value) (k : Int) (N : Nat) (s : List UInt8) (mo lo : Int) (w : World) (h1 : (k == 1) = false) (h2 : (k == 2) = false) (h3 : (k == 3) = false) (h4 : (k == 4) = false) (h5 : (k == 5) = false) (h6 : (k == 6) = false) (h7 : (k == 7) = false) (h8 : (k == 8) = false) (h9 : (k == 9) = false) (hl : ∃ a b c, lv = .slice a b c) (ht : ∃ a b c, tv = .slice a b c) :
    Calls Try.prog 21 #[rp q, opv k N s lv tv mo lo] w fun e w' => e = .returned (.bool true) ∧ Fr (fun _ => False) w w' := by
  obtain ⟨a1, b1, c1, rfl⟩ := hl
  obtain ⟨a2, b2, c2, rfl⟩ := ht
  unfold opv
  go_enter Try.func21, Try.ntmps21
  go_wp2
  go_ret
  exact ⟨rfl, Fr.alloc _ w _⟩

theorem back_any (q : Nat) (o : OpD) (v lv tv : Value) (more : List UInt8) (w : World) (ho : OpIs w v o lv tv) (hr : Rd w q (opS o ++ more) 0) (hs31 : o.s.length < 2147483648) (hl31 : o.l.length < 2147483648) (ht31 : o.t.length < 2147483648) (hts : ∀ x ∈ o.t, x.length < 2147483648) (hlq : (o.l.map fun x => Value.int .i64 x) = [] ∨ ∀ k, lv.ownBlock = some k → ¬ k = q) (htq : o.t.map sv = [] ∨ ∀ k, tv.ownBlock = some k → ¬ k = q) :
    Calls Try.prog 21 #[rp q, v] w (Backed q w more) := by
  obtain ⟨rfl, hl, ht, ok⟩ := ho
  obtain ⟨k, N, s, l, t, mo, lo⟩ := o
  by_cases e1 : k = 1
  · subst e1
    exact back_1 q lv tv N s l t mo lo more w hr ok.n hs31 hl31 ht31 hts hl ht hlq htq
  by_cases e2 : k = 2
  · subst e2
    exact back_2 q lv tv N s l t mo lo more w hr ok.n hs31 hl31 ht31 hts hl ht hlq htq
  by_cases e3 : k = 3
  · subst e3
    exact back_3 q lv tv N s l t mo lo more w hr ok.n hs31 hl31 ht31 hts hl ht hlq htq
  by_cases e4 : k = 4
  · subst e4
    exact back_4 q lv tv N s l t mo lo more w hr ok.n hs31 hl31 ht31 hts hl ht hlq htq
  by_cases e5 : k = 5
  · subst e5
    exact back_5 q lv tv N s l t mo lo more w hr ok.n hs31 hl31 ht31 hts hl ht hlq htq
  by_cases e6 : k = 6
  · subst e6
    exact back_6 q lv tv N s l t mo lo more w hr ok.n hs31 hl31 ht31 hts hl ht hlq htq
  by_cases e7 : k = 7
  · subst e7
    exact back_7 q lv tv N s l t mo lo more w hr ok.n hs31 hl31 ht31 hts hl ht hlq htq
  by_cases e8 : k = 8
  · subst e8
    exact back_8 q lv tv N s l t mo lo more w hr ok.n hs31 hl31 ht31 hts hl ht hlq htq
  by_cases e9 : k = 9
  · subst e9
    exact back_9 q lv tv N s l t mo lo more w hr ok.n hs31 hl31 ht31 hts hl ht hlq htq
  have e : opS ⟨k, N, s, l, t, mo, lo⟩ = [] := by simp [opS, *]
  rw [e, List.nil_append] at hr
  refine (back_0 q lv tv k N s mo lo w (by simpa using e1) (by simpa using e2) (by simpa using e3) (by simpa using e4) (by simpa using e5) (by simpa using e6) (by simpa using e7) (by simpa using e8) (by simpa using e9) hl.shape ht.shape).mono ?_
  rintro e w' ⟨rfl, hf⟩
  exact ⟨rfl, hr.later hf, hf.mono (fun _ _ f => f.elim)⟩
end Go.Proofs.Ytflemhekoffpoaa
