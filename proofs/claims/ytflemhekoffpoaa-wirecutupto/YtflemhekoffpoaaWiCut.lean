/- The law's 'back': a value that was cut fails with ErrEnds. -/
import Derived.Test.YtflemhekoffpoaaWiBack
import Derived.Test.YtflemhekoffpoaaWiListOut
import Derived.LoopN
namespace Go.Proofs.Ytflemhekoffpoaa
open Go.RowKit
set_option linter.unusedSimpArgs false
set_option linter.unusedVariables false

theorem cut_lt {D z a : List UInt8} (h : D ++ z = a) (hz : z ≠ []) : D.length < a.length := by
  have := congrArg List.length h
  have := List.length_pos_iff.2 hz
  simp at *
  omega
theorem cut_one {D z : List UInt8} {c : UInt8} (h : D ++ z = [c]) (hz : z ≠ []) : D = [] := by
  have := cut_lt h hz
  exact List.eq_nil_of_length_eq_zero (by simpa using this)
/-- Cut within how many, or behind it. -/
theorem cut_head {D z a R : List UInt8} (ha : a.length = 4) (h : D ++ z = a ++ R) (hz : z ≠ []) : D.length < 4 ∨ ∃ D', D = a ++ D' ∧ D' ++ z = R := by
  rcases cut_cases h hz with h1 | ⟨z', h1, h2⟩
  · exact Or.inr h1
  · left
    have := cut_lt h1 h2
    omega
theorem count_cut (q : Nat) (D : List UInt8) (w : World) (h : D.length < 4) (hr : Rd w q D 0) : Calls Try.prog 95 #[rp q, .int .i64 2147483647] w (Gave q w 40) :=
  takeCount_gave q 40 2147483647 w (takeInt_out q D w h hr)
theorem text_cut (q : Nat) (s D z : List UInt8) (w : World) (hs : s.length < 2147483648) (h : D ++ z = rawS s) (hz : z ≠ []) (hr : Rd w q D 0) :
    Calls Try.prog 76 #[rp q, .int .i64 2147483647] w (Gave q w 40) := by
  rcases cut_head (by simp) h hz with h4 | ⟨D', rfl, h5⟩
  · exact takeText_gave q 40 _ w (count_cut q D w h4 hr)
  · exact takeText_out q _ s.length 2147483647 w (by simp) (by show numS _ = _; rw [take_app (by simp)]; exact num_len _ hs) hs (by omega) hr (by rw [drop_app (by simp)]; exact cut_lt h5 hz)
theorem raw_cut (q : Nat) (s D z : List UInt8) (w : World) (hs : s.length < 2147483648) (h : D ++ z = rawS s) (hz : z ≠ []) (hr : Rd w q D 0) :
    Calls Try.prog 79 #[rp q, .int .i64 2147483647] w (Gave q w 40) := by
  rcases cut_head (by simp) h hz with h4 | ⟨D', rfl, h5⟩
  · exact takeRaw_gave q 40 _ w (count_cut q D w h4 hr)
  · exact takeRaw_out q _ s.length 2147483647 w (by simp) (by show numS _ = _; rw [take_app (by simp)]; exact num_len _ hs) hs (by omega) hr (by rw [drop_app (by simp)]; exact cut_lt h5 hz)
theorem list_int_gave (q : Nat) (c most : Int) (w : World) (kn : Calls Try.prog 95 #[rp q, .int .i64 most] w (Gave q w c)) :
    Calls Try.prog 83 #[rp q, .int .i64 most, .func (.func 73) #[rp q] #[]] w (Gave q w c) := by
  unfold Gave giveUp at *
  go_enter Try.func83, Try.ntmps83
  go_wp2_with (go_at_call 95; refine kn.mono ?_; rintro e w1 ⟨rfl, h1, h2⟩)
  exact ⟨rfl, rfl, h1, h2⟩
theorem list_str_gave (q : Nat) (p0 p1 : Value) (c most : Int) (w : World) (kn : Calls Try.prog 95 #[rp q, .int .i64 most] w (Gave q w c)) :
    Calls Try.prog 87 #[rp q, .int .i64 most, .func (.func 84) #[] #[p0, p1]] w (Gave q w c) := by
  unfold Gave giveUp at *
  go_enter Try.func87, Try.ntmps87
  go_wp2_with (go_at_call 95; refine kn.mono ?_; rintro e w1 ⟨rfl, h1, h2⟩)
  exact ⟨rfl, rfl, h1, h2⟩
theorem ints_cut (q : Nat) (l : List Int) (D z : List UInt8) (w : World) (hl : l.length < 2147483648) (h : D ++ z = intsS l) (hz : z ≠ []) (hr : Rd w q D 0) :
    Calls Try.prog 83 #[rp q, .int .i64 2147483647, .func (.func 73) #[rp q] #[]] w (Gave q w 40) := by
  rcases cut_head (by simp) h hz with h4 | ⟨D', rfl, h5⟩
  · exact list_int_gave q 40 _ w (count_cut q D w h4 hr)
  · refine list_int_out w q l l.length rfl 2147483647 D' z hz h5 hr hl (by omega) (fun x mr w1 _ _ h => ?_) (fun x D2 z2 w1 _ _ h1 h2 h3 => takeInt_out q D2 w1 (by have := cut_lt h1 h2; simpa using this) h3)
    have := takeInt_in q (i31 x ++ mr) (u64 x % 2147483648) w1 (by simp) (by show numS _ = _; rw [take_app (by simp)]; exact num_i31 x) (Nat.mod_lt _ (by omega)) h
    rw [drop_app (by simp)] at this
    exact this
theorem one_out (q b0 b3 : Nat) (c : Int) (w : World) (h0 : w.cell? ⟨b0, 0, none⟩ = some (rp q)) (h3 : w.cell? ⟨b3, 0, none⟩ = some (.int .i64 2147483647)) (kt : Calls Try.prog 76 #[rp q, .int .i64 2147483647] w (Gave q w c)) :
    Calls Try.prog 84 #[.pointer (some ⟨b0, 0, none⟩), .pointer (some ⟨b3, 0, none⟩)] w (Gave q w c) := by
  unfold Gave giveUp at *
  go_enter Try.func84, Try.ntmps84
  go_wp2_with (go_at_call 76; refine kt.mono ?_; rintro e w1 ⟨rfl, h1, h2⟩)
  exact ⟨rfl, rfl, h1, h2⟩
theorem texts_cut (q b0 b3 : Nat) (t : List (List UInt8)) (D z : List UInt8) (w : World) (ht : t.length < 2147483648) (hts : ∀ x ∈ t, x.length < 2147483648) (h : D ++ z = textsS t) (hz : z ≠ []) (hr : Rd w q D 0) (h0 : w.cell? ⟨b0, 0, none⟩ = some (rp q)) (h3 : w.cell? ⟨b3, 0, none⟩ = some (.int .i64 2147483647)) (hb0 : ¬ b0 = q) (hb3 : ¬ b3 = q) :
    Calls Try.prog 87 #[rp q, .int .i64 2147483647, .func (.func 84) #[] #[.pointer (some ⟨b0, 0, none⟩), .pointer (some ⟨b3, 0, none⟩)]] w (Gave q w 40) := by
  rcases cut_head (by simp) h hz with h4 | ⟨D', rfl, h5⟩
  · exact list_str_gave q _ _ 40 _ w (count_cut q D w h4 hr)
  · refine list_str_out w q _ _ t t.length rfl 2147483647 D' z hz h5 hr ht (by omega) (fun x mr w1 hx hf h => ?_) (fun x D2 z2 w1 hx hf h1 h2 h3' => ?_)
    · exact one_in q b0 b3 (Is (sv x)) mr w1 (hf.cell h0 hb0) (hf.cell h3 hb3) (text_took q x mr w1 (hts x hx) h)
    · exact one_out q b0 b3 40 w1 (hf.cell h0 hb0) (hf.cell h3 hb3) (text_cut q x D2 z2 w1 (hts x hx) h1 h2 h3')

theorem texts_nil_any (bo : Option Addr) (n bcap : Nat) (hn : n ≤ 9223372036854775807) (w : World) :
    Calls Try.prog 57 #[.slice none 0 0, .slice bo n bcap] w fun e w' => (∃ b, e = .returned (.bool b)) ∧ w = w' := by
  by_cases h0 : n = 0
  · subst h0
    go_enter Try.func57, Try.ntmps57
    go_wp2
    refine wp_loop_rounds 1 ?_
    rw [rounds_succ]
    go_wp2
    go_ret
    exact ⟨⟨_, rfl⟩, rfl⟩
  · have h1 : ((0 : Int) != (n : Int)) = true := by simp; omega
    have h2 : ((0 : Int) == (n : Int)) = false := by simp; omega
    go_enter Try.func57, Try.ntmps57
    go_wp2
    go_ret
    exact ⟨⟨_, rfl⟩, rfl⟩

/-- It failed: the law's answer is any; nothing is left, with ErrEnds. -/
def CutOff (q : Nat) (w : World) (e : Ending) (w' : World) : Prop := (∃ b, e = .returned (.bool b)) ∧ Rd w' q [] 40 ∧ Fr (fun k => k = q) w w'

set_option maxHeartbeats 1000000 in
theorem cut_1 (q : Nat) (lv tv : Value) (N : Nat) (s : List UInt8) (l : List Int) (t : List (List UInt8)) (mo lo : Int) (D z : List UInt8) (w : World) (hz : z ≠ []) (hD : D ++ z = opS ⟨1, N, s, l, t, mo, lo⟩) (hr : Rd w q D 0) (hs31 : s.length < 2147483648) (hl31 : l.length < 2147483648) (ht31 : t.length < 2147483648) (hts : ∀ x ∈ t, x.length < 2147483648)
    (hl : Sl w lv (l.map fun x => .int .i64 x)) (ht : Sl w tv (t.map sv)) :
    Calls Try.prog 21 #[rp q, opv 1 N s lv tv mo lo] w (CutOff q w) := by
  have eo : opS ⟨1, N, s, l, t, mo, lo⟩ = [UInt8.ofNat N] := by simp [opS]
  rw [eo] at hD
  have hq := hr.lt
  have hr1 : Rd ((w.alloc (opb 1 N s lv tv mo lo)).drew) q D 0 := hr.later ((Fr.alloc _ w _).same (Fr.drew _ _))
  have bx : Hidden (∀ w1, Fr (fun k => k = q) ((w.alloc (opb 1 N s lv tv mo lo)).drew) w1 → _) := fun w1 hf => box_at hf (by show ¬ w.heap.size = q; omega)
  have hW : Hidden (∀ w1, Fr (fun k => k = q) ((w.alloc (opb 1 N s lv tv mo lo)).drew) w1 → Fr (fun k => k = q) w w1) := fun w1 hf => ((Fr.alloc _ w _).same (Fr.drew _ _)).same hf
  have kb := rd_Byte_out q D 40 _ (by decide) hr1 (fun w1 h => takeByte_out q w1 (cut_one hD hz ▸ h))
  unfold Failed at kb
  obtain ⟨a1, b1, c1, rfl⟩ := hl.shape
  obtain ⟨a2, b2, c2, rfl⟩ := ht.shape
  clear hr hr1 eo hl ht hD hz
  unfold opv CutOff
  unfold opb at *
  go_enter Try.func21, Try.ntmps21
  go_wp2_with fail
  go_region_held3 (fun w' => w'.cell? ⟨w.heap.size, 1, none⟩ = some (.int .u64 (N : Int))) (go_keep) (first | (go_at_call 42; refine kb.mono ?_; rintro e w1 ⟨rfl, h1, h2⟩; obtain ⟨d1, d2, d3, d4⟩ := bx w1 h2))
  all_goals
    go_wp2
    go_ret
    exact ⟨⟨_, rfl⟩, h1, hW _ h2⟩

set_option maxHeartbeats 1000000 in
theorem cut_2 (q : Nat) (lv tv : Value) (N : Nat) (s : List UInt8) (l : List Int) (t : List (List UInt8)) (mo lo : Int) (D z : List UInt8) (w : World) (hz : z ≠ []) (hD : D ++ z = opS ⟨2, N, s, l, t, mo, lo⟩) (hr : Rd w q D 0) (hs31 : s.length < 2147483648) (hl31 : l.length < 2147483648) (ht31 : t.length < 2147483648) (hts : ∀ x ∈ t, x.length < 2147483648)
    (hl : Sl w lv (l.map fun x => .int .i64 x)) (ht : Sl w tv (t.map sv)) :
    Calls Try.prog 21 #[rp q, opv 2 N s lv tv mo lo] w (CutOff q w) := by
  have eo : opS ⟨2, N, s, l, t, mo, lo⟩ = [par N] := by simp [opS]
  rw [eo] at hD
  have hq := hr.lt
  have hr1 : Rd ((w.alloc (opb 2 N s lv tv mo lo)).drew) q D 0 := hr.later ((Fr.alloc _ w _).same (Fr.drew _ _))
  have bx : Hidden (∀ w1, Fr (fun k => k = q) ((w.alloc (opb 2 N s lv tv mo lo)).drew) w1 → _) := fun w1 hf => box_at hf (by show ¬ w.heap.size = q; omega)
  have hW : Hidden (∀ w1, Fr (fun k => k = q) ((w.alloc (opb 2 N s lv tv mo lo)).drew) w1 → Fr (fun k => k = q) w w1) := fun w1 hf => ((Fr.alloc _ w _).same (Fr.drew _ _)).same hf
  have kb := rd_Bool_out q D 40 _ (by decide) hr1 (fun w1 h => takeBool_out q w1 (cut_one hD hz ▸ h))
  unfold Failed at kb
  obtain ⟨a1, b1, c1, rfl⟩ := hl.shape
  obtain ⟨a2, b2, c2, rfl⟩ := ht.shape
  clear hr hr1 eo hl ht hD hz
  unfold opv CutOff
  unfold opb at *
  go_enter Try.func21, Try.ntmps21
  go_wp2_with fail
  go_region_held3 (fun w' => w'.cell? ⟨w.heap.size, 1, none⟩ = some (.int .u64 (N : Int))) (go_keep) (first | (go_at_call 41; refine kb.mono ?_; rintro e w1 ⟨rfl, h1, h2⟩; obtain ⟨d1, d2, d3, d4⟩ := bx w1 h2))
  all_goals
    go_wp2
    go_ret
    exact ⟨⟨_, rfl⟩, h1, hW _ h2⟩

set_option maxHeartbeats 1000000 in
theorem cut_3 (q : Nat) (lv tv : Value) (N : Nat) (s : List UInt8) (l : List Int) (t : List (List UInt8)) (mo lo : Int) (D z : List UInt8) (w : World) (hz : z ≠ []) (hD : D ++ z = opS ⟨3, N, s, l, t, mo, lo⟩) (hr : Rd w q D 0) (hs31 : s.length < 2147483648) (hl31 : l.length < 2147483648) (ht31 : t.length < 2147483648) (hts : ∀ x ∈ t, x.length < 2147483648)
    (hl : Sl w lv (l.map fun x => .int .i64 x)) (ht : Sl w tv (t.map sv)) :
    Calls Try.prog 21 #[rp q, opv 3 N s lv tv mo lo] w (CutOff q w) := by
  have eo : opS ⟨3, N, s, l, t, mo, lo⟩ = beS N 2 := by simp [opS]
  rw [eo] at hD
  have hq := hr.lt
  have hr1 : Rd ((w.alloc (opb 3 N s lv tv mo lo)).drew) q D 0 := hr.later ((Fr.alloc _ w _).same (Fr.drew _ _))
  have bx : Hidden (∀ w1, Fr (fun k => k = q) ((w.alloc (opb 3 N s lv tv mo lo)).drew) w1 → _) := fun w1 hf => box_at hf (by show ¬ w.heap.size = q; omega)
  have hW : Hidden (∀ w1, Fr (fun k => k = q) ((w.alloc (opb 3 N s lv tv mo lo)).drew) w1 → Fr (fun k => k = q) w w1) := fun w1 hf => ((Fr.alloc _ w _).same (Fr.drew _ _)).same hf
  have kb := rd_Short_out q D 40 _ (by decide) hr1 (fun w1 h => takeShort_out q D w1 (by have := cut_lt hD hz; simpa using this) h)
  unfold Failed at kb
  obtain ⟨a1, b1, c1, rfl⟩ := hl.shape
  obtain ⟨a2, b2, c2, rfl⟩ := ht.shape
  clear hr hr1 eo hl ht hD hz
  unfold opv CutOff
  unfold opb at *
  go_enter Try.func21, Try.ntmps21
  go_wp2_with fail
  go_region_held3 (fun w' => w'.cell? ⟨w.heap.size, 1, none⟩ = some (.int .u64 (N : Int))) (go_keep) (first | (go_at_call 45; refine kb.mono ?_; rintro e w1 ⟨rfl, h1, h2⟩; obtain ⟨d1, d2, d3, d4⟩ := bx w1 h2))
  all_goals
    go_wp2
    go_ret
    exact ⟨⟨_, rfl⟩, h1, hW _ h2⟩

set_option maxHeartbeats 1000000 in
theorem cut_4 (q : Nat) (lv tv : Value) (N : Nat) (s : List UInt8) (l : List Int) (t : List (List UInt8)) (mo lo : Int) (D z : List UInt8) (w : World) (hz : z ≠ []) (hD : D ++ z = opS ⟨4, N, s, l, t, mo, lo⟩) (hr : Rd w q D 0) (hs31 : s.length < 2147483648) (hl31 : l.length < 2147483648) (ht31 : t.length < 2147483648) (hts : ∀ x ∈ t, x.length < 2147483648)
    (hl : Sl w lv (l.map fun x => .int .i64 x)) (ht : Sl w tv (t.map sv)) :
    Calls Try.prog 21 #[rp q, opv 4 N s lv tv mo lo] w (CutOff q w) := by
  have eo : opS ⟨4, N, s, l, t, mo, lo⟩ = beS (N % 2147483648) 4 := by simp [opS]
  rw [eo] at hD
  have hq := hr.lt
  have hr1 : Rd ((w.alloc (opb 4 N s lv tv mo lo)).drew) q D 0 := hr.later ((Fr.alloc _ w _).same (Fr.drew _ _))
  have bx : Hidden (∀ w1, Fr (fun k => k = q) ((w.alloc (opb 4 N s lv tv mo lo)).drew) w1 → _) := fun w1 hf => box_at hf (by show ¬ w.heap.size = q; omega)
  have hW : Hidden (∀ w1, Fr (fun k => k = q) ((w.alloc (opb 4 N s lv tv mo lo)).drew) w1 → Fr (fun k => k = q) w w1) := fun w1 hf => ((Fr.alloc _ w _).same (Fr.drew _ _)).same hf
  have kb := rd_Int_out q D 40 _ (by decide) hr1 (fun w1 h => takeInt_out q D w1 (by have := cut_lt hD hz; simpa using this) h)
  unfold Failed at kb
  obtain ⟨a1, b1, c1, rfl⟩ := hl.shape
  obtain ⟨a2, b2, c2, rfl⟩ := ht.shape
  clear hr hr1 eo hl ht hD hz
  unfold opv CutOff
  unfold opb at *
  go_enter Try.func21, Try.ntmps21
  go_wp2_with fail
  go_region_held3 (fun w' => w'.cell? ⟨w.heap.size, 1, none⟩ = some (.int .u64 (N : Int))) (go_keep) (first | (go_at_call 47; refine kb.mono ?_; rintro e w1 ⟨rfl, h1, h2⟩; obtain ⟨d1, d2, d3, d4⟩ := bx w1 h2))
  all_goals
    go_wp2
    go_ret
    exact ⟨⟨_, rfl⟩, h1, hW _ h2⟩

set_option maxHeartbeats 1000000 in
theorem cut_5 (q : Nat) (lv tv : Value) (N : Nat) (s : List UInt8) (l : List Int) (t : List (List UInt8)) (mo lo : Int) (D z : List UInt8) (w : World) (hz : z ≠ []) (hD : D ++ z = opS ⟨5, N, s, l, t, mo, lo⟩) (hr : Rd w q D 0) (hs31 : s.length < 2147483648) (hl31 : l.length < 2147483648) (ht31 : t.length < 2147483648) (hts : ∀ x ∈ t, x.length < 2147483648)
    (hl : Sl w lv (l.map fun x => .int .i64 x)) (ht : Sl w tv (t.map sv)) :
    Calls Try.prog 21 #[rp q, opv 5 N s lv tv mo lo] w (CutOff q w) := by
  have eo : opS ⟨5, N, s, l, t, mo, lo⟩ = beS N 8 := by simp [opS]
  rw [eo] at hD
  have hq := hr.lt
  have hr1 : Rd ((w.alloc (opb 5 N s lv tv mo lo)).drew) q D 0 := hr.later ((Fr.alloc _ w _).same (Fr.drew _ _))
  have bx : Hidden (∀ w1, Fr (fun k => k = q) ((w.alloc (opb 5 N s lv tv mo lo)).drew) w1 → _) := fun w1 hf => box_at hf (by show ¬ w.heap.size = q; omega)
  have hW : Hidden (∀ w1, Fr (fun k => k = q) ((w.alloc (opb 5 N s lv tv mo lo)).drew) w1 → Fr (fun k => k = q) w w1) := fun w1 hf => ((Fr.alloc _ w _).same (Fr.drew _ _)).same hf
  have kb := rd_Long_out q D 40 _ (by decide) hr1 (fun w1 h => takeLong_out q D w1 (by have := cut_lt hD hz; simpa using this) h)
  unfold Failed at kb
  obtain ⟨a1, b1, c1, rfl⟩ := hl.shape
  obtain ⟨a2, b2, c2, rfl⟩ := ht.shape
  clear hr hr1 eo hl ht hD hz
  unfold opv CutOff
  unfold opb at *
  go_enter Try.func21, Try.ntmps21
  go_wp2_with fail
  go_region_held3 (fun w' => w'.cell? ⟨w.heap.size, 1, none⟩ = some (.int .u64 (N : Int))) (go_keep) (first | (go_at_call 22; refine kb.mono ?_; rintro e w1 ⟨rfl, h1, h2⟩; obtain ⟨d1, d2, d3, d4⟩ := bx w1 h2))
  all_goals
    go_wp2
    go_ret
    exact ⟨⟨_, rfl⟩, h1, hW _ h2⟩

set_option maxHeartbeats 1000000 in
theorem cut_6 (q : Nat) (lv tv : Value) (N : Nat) (s : List UInt8) (l : List Int) (t : List (List UInt8)) (mo lo : Int) (D z : List UInt8) (w : World) (hz : z ≠ []) (hD : D ++ z = opS ⟨6, N, s, l, t, mo, lo⟩) (hr : Rd w q D 0) (hs31 : s.length < 2147483648) (hl31 : l.length < 2147483648) (ht31 : t.length < 2147483648) (hts : ∀ x ∈ t, x.length < 2147483648)
    (hl : Sl w lv (l.map fun x => .int .i64 x)) (ht : Sl w tv (t.map sv)) :
    Calls Try.prog 21 #[rp q, opv 6 N s lv tv mo lo] w (CutOff q w) := by
  have eo : opS ⟨6, N, s, l, t, mo, lo⟩ = rawS s := by simp [opS]
  rw [eo] at hD
  have hq := hr.lt
  have hr1 : Rd ((w.alloc (opb 6 N s lv tv mo lo)).drew) q D 0 := hr.later ((Fr.alloc _ w _).same (Fr.drew _ _))
  have bx : Hidden (∀ w1, Fr (fun k => k = q) ((w.alloc (opb 6 N s lv tv mo lo)).drew) w1 → _) := fun w1 hf => box_at hf (by show ¬ w.heap.size = q; omega)
  have hW : Hidden (∀ w1, Fr (fun k => k = q) ((w.alloc (opb 6 N s lv tv mo lo)).drew) w1 → Fr (fun k => k = q) w w1) := fun w1 hf => ((Fr.alloc _ w _).same (Fr.drew _ _)).same hf
  have kb := rd_Text_out q D 40 _ (by decide) hr1 (fun w1 _ h => text_cut q s D z w1 hs31 hD hz h)
  unfold Failed at kb
  obtain ⟨a1, b1, c1, rfl⟩ := hl.shape
  obtain ⟨a2, b2, c2, rfl⟩ := ht.shape
  clear hr hr1 eo hl ht hD hz
  unfold opv CutOff
  unfold opb at *
  go_enter Try.func21, Try.ntmps21
  go_wp2_with fail
  go_region_held3 (fun w' => w'.cell? ⟨w.heap.size, 2, none⟩ = some (.string ⟨s.toArray⟩)) (go_keep) (first | (go_at_call 50; refine kb.mono ?_; rintro e w1 ⟨rfl, h1, h2⟩; obtain ⟨d1, d2, d3, d4⟩ := bx w1 h2))
  all_goals
    go_wp2
    go_ret
    exact ⟨⟨_, rfl⟩, h1, hW _ h2⟩

set_option maxHeartbeats 1000000 in
theorem cut_7 (q : Nat) (lv tv : Value) (N : Nat) (s : List UInt8) (l : List Int) (t : List (List UInt8)) (mo lo : Int) (D z : List UInt8) (w : World) (hz : z ≠ []) (hD : D ++ z = opS ⟨7, N, s, l, t, mo, lo⟩) (hr : Rd w q D 0) (hs31 : s.length < 2147483648) (hl31 : l.length < 2147483648) (ht31 : t.length < 2147483648) (hts : ∀ x ∈ t, x.length < 2147483648)
    (hl : Sl w lv (l.map fun x => .int .i64 x)) (ht : Sl w tv (t.map sv)) :
    Calls Try.prog 21 #[rp q, opv 7 N s lv tv mo lo] w (CutOff q w) := by
  have eo : opS ⟨7, N, s, l, t, mo, lo⟩ = rawS s := by simp [opS]
  rw [eo] at hD
  have hq := hr.lt
  have hr1 : Rd ((w.alloc (opb 7 N s lv tv mo lo)).drew) q D 0 := hr.later ((Fr.alloc _ w _).same (Fr.drew _ _))
  have bx : Hidden (∀ w1, Fr (fun k => k = q) ((w.alloc (opb 7 N s lv tv mo lo)).drew) w1 → _) := fun w1 hf => box_at hf (by show ¬ w.heap.size = q; omega)
  have hW : Hidden (∀ w1, Fr (fun k => k = q) ((w.alloc (opb 7 N s lv tv mo lo)).drew) w1 → Fr (fun k => k = q) w w1) := fun w1 hf => ((Fr.alloc _ w _).same (Fr.drew _ _)).same hf
  have kb := rd_Raw_out q D 40 _ (by decide) hr1 (fun w1 _ h => raw_cut q s D z w1 hs31 hD hz h)
  unfold Failed at kb
  have hstr := fun w => run_str w (.slice none 0 0) [] (Sl.nil w)
  obtain ⟨a1, b1, c1, rfl⟩ := hl.shape
  obtain ⟨a2, b2, c2, rfl⟩ := ht.shape
  clear hr hr1 eo hl ht hD hz
  unfold opv CutOff
  unfold opb at *
  go_enter Try.func21, Try.ntmps21
  go_wp2_with fail
  go_region_held3 (fun w' => w'.cell? ⟨w.heap.size, 2, none⟩ = some (.string ⟨s.toArray⟩)) (go_keep) (first | (go_at_call 52; refine kb.mono ?_; rintro e w1 ⟨rfl, h1, h2⟩; obtain ⟨d1, d2, d3, d4⟩ := bx w1 h2))
  all_goals
    go_wp2
    go_ret
    exact ⟨⟨_, rfl⟩, h1, hW _ h2⟩

set_option maxHeartbeats 1000000 in
theorem cut_8 (q : Nat) (lv tv : Value) (N : Nat) (s : List UInt8) (l : List Int) (t : List (List UInt8)) (mo lo : Int) (D z : List UInt8) (w : World) (hz : z ≠ []) (hD : D ++ z = opS ⟨8, N, s, l, t, mo, lo⟩) (hr : Rd w q D 0) (hs31 : s.length < 2147483648) (hl31 : l.length < 2147483648) (ht31 : t.length < 2147483648) (hts : ∀ x ∈ t, x.length < 2147483648)
    (hl : Sl w lv (l.map fun x => .int .i64 x)) (ht : Sl w tv (t.map sv)) :
    Calls Try.prog 21 #[rp q, opv 8 N s lv tv mo lo] w (CutOff q w) := by
  have eo : opS ⟨8, N, s, l, t, mo, lo⟩ = intsS l := by simp [opS]
  rw [eo] at hD
  have hq := hr.lt
  have hr1 : Rd ((w.alloc (opb 8 N s lv tv mo lo)).drew) q D 0 := hr.later ((Fr.alloc _ w _).same (Fr.drew _ _))
  have bx : Hidden (∀ w1, Fr (fun k => k = q) ((w.alloc (opb 8 N s lv tv mo lo)).drew) w1 → _) := fun w1 hf => box_at hf (by show ¬ w.heap.size = q; omega)
  have hW : Hidden (∀ w1, Fr (fun k => k = q) ((w.alloc (opb 8 N s lv tv mo lo)).drew) w1 → Fr (fun k => k = q) w w1) := fun w1 hf => ((Fr.alloc _ w _).same (Fr.drew _ _)).same hf
  have hr0 : Rd (w.alloc (opb 8 N s lv tv mo lo)) q D 0 := hr.later (Fr.alloc _ w _)
  have kb := rd_Ints_out q D 40 _ (by decide) hr0 (fun w1 _ h => ints_cut q l D z w1 hl31 hD hz h)
  unfold Failed at kb
  have bx0 : Hidden (∀ w1, Fr (fun k => k = q) (w.alloc (opb 8 N s lv tv mo lo)) w1 → w1.cell? ⟨w.heap.size, 3, none⟩ = some lv) := fun w1 hf => by
    have h := hf.heap (alloc_new w _) (show ¬ w.heap.size = q by omega)
    rw [cell_of_row w1 w.heap.size 3 _ _ _ h]; rfl
  obtain ⟨n, hn⟩ : ∃ n, l.length = n := ⟨_, rfl⟩
  have hn31 : n < 2147483648 := by omega
  obtain ⟨ol, lc, e0⟩ : ∃ ol lc, lv = .slice ol n lc := by
    obtain ⟨ao, cap, e, _⟩ := hl
    rw [List.length_map, hn] at e
    exact ⟨_, _, e⟩
  subst e0
  obtain ⟨a2, b2, c2, rfl⟩ := ht.shape
  clear hr hr0 hr1 eo hl ht hn bx hW hD hz hl31
  unfold opv CutOff
  unfold opb at *
  by_cases h0 : n = 0
  · subst h0
    go_enter Try.func21, Try.ntmps21
    go_wp2_with (go_at_call 55; refine kb.mono ?_; rintro e w1 ⟨rfl, h1, h2⟩; have d3 := bx0 w1 h2)
    refine wp_loop_rounds 1 ?_
    rw [rounds_succ]
    go_wp2
    go_ret
    exact ⟨⟨_, rfl⟩, h1, (Fr.alloc _ w _).same h2⟩
  · have g1 : ((0 : Int) != (n : Int)) = true := by simp; omega
    have g2 : ((0 : Int) == (n : Int)) = false := by simp; omega
    go_enter Try.func21, Try.ntmps21
    go_wp2_with (go_at_call 55; refine kb.mono ?_; rintro e w1 ⟨rfl, h1, h2⟩; have d3 := bx0 w1 h2)
    go_ret
    exact ⟨⟨_, rfl⟩, h1, (Fr.alloc _ w _).same h2⟩

set_option maxHeartbeats 1000000 in
theorem cut_9 (q : Nat) (lv tv : Value) (N : Nat) (s : List UInt8) (l : List Int) (t : List (List UInt8)) (mo lo : Int) (D z : List UInt8) (w : World) (hz : z ≠ []) (hD : D ++ z = opS ⟨9, N, s, l, t, mo, lo⟩) (hr : Rd w q D 0) (hs31 : s.length < 2147483648) (hl31 : l.length < 2147483648) (ht31 : t.length < 2147483648) (hts : ∀ x ∈ t, x.length < 2147483648)
    (hl : Sl w lv (l.map fun x => .int .i64 x)) (ht : Sl w tv (t.map sv)) :
    Calls Try.prog 21 #[rp q, opv 9 N s lv tv mo lo] w (CutOff q w) := by
  have eo : opS ⟨9, N, s, l, t, mo, lo⟩ = textsS t := by simp [opS]
  rw [eo] at hD
  have hq := hr.lt
  have hr1 : Rd ((w.alloc (opb 9 N s lv tv mo lo)).drew) q D 0 := hr.later ((Fr.alloc _ w _).same (Fr.drew _ _))
  have bx : Hidden (∀ w1, Fr (fun k => k = q) ((w.alloc (opb 9 N s lv tv mo lo)).drew) w1 → _) := fun w1 hf => box_at hf (by show ¬ w.heap.size = q; omega)
  have hW : Hidden (∀ w1, Fr (fun k => k = q) ((w.alloc (opb 9 N s lv tv mo lo)).drew) w1 → Fr (fun k => k = q) w w1) := fun w1 hf => ((Fr.alloc _ w _).same (Fr.drew _ _)).same hf
  have kb := rd_Texts_out q D 40 _ (by decide) hr1 (fun w1 hf h => texts_cut q _ _ t D z w1 ht31 hts hD hz h (hf.cell (box1 (w := (w.alloc (opb 9 N s lv tv mo lo)).drew) rfl (by repeat (first | exact Fr.alloc _ _ _ | refine Fr.same ?_ (Fr.alloc _ _ _)))) (fun f => f)) (hf.cell (box1 (w := (((w.alloc (opb 9 N s lv tv mo lo)).drew).alloc _).alloc _) (by simp) (by repeat (first | exact Fr.alloc _ _ _ | refine Fr.same ?_ (Fr.alloc _ _ _)))) (fun f => f)) (by simp; omega) (by simp; omega))
  unfold Failed at kb
  obtain ⟨n, hn⟩ : ∃ n, t.length = n := ⟨_, rfl⟩
  obtain ⟨a2, c2, e0⟩ : ∃ a2 c2, tv = .slice a2 n c2 := by
    obtain ⟨ao, cap, e, _⟩ := ht
    rw [List.length_map, hn] at e
    exact ⟨_, _, e⟩
  subst e0
  have ks := fun w => texts_nil_any a2 n c2 (by omega) w
  obtain ⟨a1, b1, c1, rfl⟩ := hl.shape
  clear hr hr1 eo hl ht hD hz hn hts
  unfold opv CutOff
  unfold opb at *
  go_enter Try.func21, Try.ntmps21
  go_wp2_with fail
  go_region_held3 (fun w' => w'.cell? ⟨w.heap.size, 4, none⟩ = some (.slice a2 n c2)) (go_keep) (first
    | (go_at_call 58; refine kb.mono ?_; rintro e w1 ⟨rfl, h1, h2⟩; obtain ⟨d1, d2, d3, d4⟩ := bx w1 h2)
    | (go_at_call 57; refine (ks _).mono ?_; rintro e w2 ⟨⟨bb, rfl⟩, rfl⟩))
  all_goals
    go_wp2
    go_ret
    exact ⟨⟨_, rfl⟩, h1, hW _ h2⟩

theorem cut_any (q : Nat) (o : OpD) (v lv tv : Value) (D z : List UInt8) (w : World) (ho : OpIs w v o lv tv) (hz : z ≠ []) (hD : D ++ z = opS o) (hr : Rd w q D 0) (hs31 : o.s.length < 2147483648) (hl31 : o.l.length < 2147483648) (ht31 : o.t.length < 2147483648) (hts : ∀ x ∈ o.t, x.length < 2147483648) :
    Calls Try.prog 21 #[rp q, v] w (CutOff q w) := by
  obtain ⟨rfl, hl, ht, ok⟩ := ho
  obtain ⟨k, N, s, l, t, mo, lo⟩ := o
  by_cases e1 : k = 1
  · subst e1
    exact cut_1 q lv tv N s l t mo lo D z w hz hD hr hs31 hl31 ht31 hts hl ht
  by_cases e2 : k = 2
  · subst e2
    exact cut_2 q lv tv N s l t mo lo D z w hz hD hr hs31 hl31 ht31 hts hl ht
  by_cases e3 : k = 3
  · subst e3
    exact cut_3 q lv tv N s l t mo lo D z w hz hD hr hs31 hl31 ht31 hts hl ht
  by_cases e4 : k = 4
  · subst e4
    exact cut_4 q lv tv N s l t mo lo D z w hz hD hr hs31 hl31 ht31 hts hl ht
  by_cases e5 : k = 5
  · subst e5
    exact cut_5 q lv tv N s l t mo lo D z w hz hD hr hs31 hl31 ht31 hts hl ht
  by_cases e6 : k = 6
  · subst e6
    exact cut_6 q lv tv N s l t mo lo D z w hz hD hr hs31 hl31 ht31 hts hl ht
  by_cases e7 : k = 7
  · subst e7
    exact cut_7 q lv tv N s l t mo lo D z w hz hD hr hs31 hl31 ht31 hts hl ht
  by_cases e8 : k = 8
  · subst e8
    exact cut_8 q lv tv N s l t mo lo D z w hz hD hr hs31 hl31 ht31 hts hl ht
  by_cases e9 : k = 9
  · subst e9
    exact cut_9 q lv tv N s l t mo lo D z w hz hD hr hs31 hl31 ht31 hts hl ht
  have e : opS ⟨k, N, s, l, t, mo, lo⟩ = [] := by simp [opS, *]
  rw [e] at hD
  exact absurd (show D = [] ∧ z = [] by simpa using hD).2 hz
end Go.Proofs.Ytflemhekoffpoaa
