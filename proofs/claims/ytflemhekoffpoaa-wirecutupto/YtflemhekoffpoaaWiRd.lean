/- The Reader's calls: what they answer of bytes that are there, and of bytes that end too early. -/
import Derived.Test.YtflemhekoffpoaaWiList
import Derived.Test.YtflemhekoffpoaaWiR5
import Derived.Laws.EntriesVeiled
namespace Go.Proofs.Ytflemhekoffpoaa
open Go.RowKit
set_option linter.unusedSimpArgs false
set_option linter.unusedVariables false

theorem mkfn (fn : Fn) (first cap : Array Value) (w : World) : (Instr.makeFunc fn first cap).run Try.prog w = .ok (.func fn first cap) w := rfl
theorem Rd.later {w w' : World} {q : Nat} {rest : List UInt8} {e : Int} (h : Rd w q rest e) (hf : Fr (fun _ => False) w w') : Rd w' q rest e :=
  h.keep hf (fun f => f) (fun _ _ _ _ f => f)
theorem box1 {w w' : World} {v : Value} {t : TypeId} {n : Nat} (hn : w.heap.size = n) (hf : Fr (fun _ => False) (w.alloc (.cells #[v] t)) w') : w'.cell? ⟨n, 0, none⟩ = some v := by
  subst hn
  have h := hf.heap (alloc_new w _) (fun f => f)
  rw [cell_of_row w' w.heap.size 0 _ _ _ h]
  rfl
/-- It failed. -/
def Failed (q : Nat) (w : World) (zero : Value) (c : Int) (e : Ending) (w' : World) : Prop := e = .returned zero ∧ Rd w' q [] c ∧ Fr (fun k => k = q) w w'
theorem Took.past {q : Nat} {w w1 w' : World} {A : Value → World → Prop} {rest : List UInt8} {e : Ending} (hf : Fr (fun _ => False) w w1) (h : Took q w1 A rest e w') : Took q w A rest e w' := ⟨h.1, h.2.1, (hf.mono (fun _ _ f => f.elim)).same h.2.2⟩
theorem Failed.past {q : Nat} {w w1 w' : World} {z : Value} {c : Int} {e : Ending} (hf : Fr (fun _ => False) w w1) (h : Failed q w1 z c e w') : Failed q w z c e w' := ⟨h.1, h.2.1, (hf.mono (fun _ _ f => f.elim)).same h.2.2⟩

theorem rd_Byte_in (q : Nat) (rest rest' : List UInt8) (A : Value → World → Prop) (w : World) (hr : Rd w q rest 0) (kt : ∀ w1, Rd w1 q rest 0 → Calls Try.prog 69 #[rp q] w1 (Took q w1 A rest')) :
    Calls Try.prog 42 #[rp q] w (Took q w A rest') := by
  have hmf := mkfn
  have kf := face_byte_ok q rest rest' A w hr (kt _ (hr.later (Fr.alloc _ w _)))
  unfold Took
  clear hr kt
  go_enter Try.func42, Try.ntmps42
  go_wp2_with (go_at_call 68; refine kf.mono ?_; rintro e w1 ⟨⟨v, rfl, hv⟩, h1, h2⟩)
  go_ret
  exact ⟨⟨_, rfl, hv⟩, h1, h2⟩
theorem rd_Byte_out (q : Nat) (rest : List UInt8) (c : Int) (w : World) (hc : (c == 0) = false) (hr : Rd w q rest 0) (kt : ∀ w1, Rd w1 q rest 0 → Calls Try.prog 69 #[rp q] w1 (Gave q w1 c)) :
    Calls Try.prog 42 #[rp q] w (Failed q w (.int .u8 0) c) := by
  have hmf := mkfn
  have kf := face_byte_err q rest c w hr hc (kt _ (hr.later (Fr.alloc _ w _)))
  unfold Failed
  clear hr kt
  go_enter Try.func42, Try.ntmps42
  go_wp2_with (go_at_call 68; refine kf.mono ?_; rintro e w1 ⟨rfl, h1, h2⟩)
  go_ret
  exact ⟨rfl, h1, h2⟩

theorem rd_Bool_in (q : Nat) (rest rest' : List UInt8) (A : Value → World → Prop) (w : World) (hr : Rd w q rest 0) (kt : ∀ w1, Rd w1 q rest 0 → Calls Try.prog 67 #[rp q] w1 (Took q w1 A rest')) :
    Calls Try.prog 41 #[rp q] w (Took q w A rest') := by
  have hmf := mkfn
  have kf := face_bool_ok q rest rest' A w hr (kt _ (hr.later (Fr.alloc _ w _)))
  unfold Took
  clear hr kt
  go_enter Try.func41, Try.ntmps41
  go_wp2_with (go_at_call 66; refine kf.mono ?_; rintro e w1 ⟨⟨v, rfl, hv⟩, h1, h2⟩)
  go_ret
  exact ⟨⟨_, rfl, hv⟩, h1, h2⟩
theorem rd_Bool_out (q : Nat) (rest : List UInt8) (c : Int) (w : World) (hc : (c == 0) = false) (hr : Rd w q rest 0) (kt : ∀ w1, Rd w1 q rest 0 → Calls Try.prog 67 #[rp q] w1 (Gave q w1 c)) :
    Calls Try.prog 41 #[rp q] w (Failed q w (.bool false) c) := by
  have hmf := mkfn
  have kf := face_bool_err q rest c w hr hc (kt _ (hr.later (Fr.alloc _ w _)))
  unfold Failed
  clear hr kt
  go_enter Try.func41, Try.ntmps41
  go_wp2_with (go_at_call 66; refine kf.mono ?_; rintro e w1 ⟨rfl, h1, h2⟩)
  go_ret
  exact ⟨rfl, h1, h2⟩

theorem rd_Short_in (q : Nat) (rest rest' : List UInt8) (A : Value → World → Prop) (w : World) (hr : Rd w q rest 0) (kt : ∀ w1, Rd w1 q rest 0 → Calls Try.prog 72 #[rp q] w1 (Took q w1 A rest')) :
    Calls Try.prog 45 #[rp q] w (Took q w A rest') := by
  have hmf := mkfn
  have kf := face_short_ok q rest rest' A w hr (kt _ (hr.later (Fr.alloc _ w _)))
  unfold Took
  clear hr kt
  go_enter Try.func45, Try.ntmps45
  go_wp2_with (go_at_call 71; refine kf.mono ?_; rintro e w1 ⟨⟨v, rfl, hv⟩, h1, h2⟩)
  go_ret
  exact ⟨⟨_, rfl, hv⟩, h1, h2⟩
theorem rd_Short_out (q : Nat) (rest : List UInt8) (c : Int) (w : World) (hc : (c == 0) = false) (hr : Rd w q rest 0) (kt : ∀ w1, Rd w1 q rest 0 → Calls Try.prog 72 #[rp q] w1 (Gave q w1 c)) :
    Calls Try.prog 45 #[rp q] w (Failed q w (.int .i64 0) c) := by
  have hmf := mkfn
  have kf := face_short_err q rest c w hr hc (kt _ (hr.later (Fr.alloc _ w _)))
  unfold Failed
  clear hr kt
  go_enter Try.func45, Try.ntmps45
  go_wp2_with (go_at_call 71; refine kf.mono ?_; rintro e w1 ⟨rfl, h1, h2⟩)
  go_ret
  exact ⟨rfl, h1, h2⟩

theorem rd_Int_in (q : Nat) (rest rest' : List UInt8) (A : Value → World → Prop) (w : World) (hr : Rd w q rest 0) (kt : ∀ w1, Rd w1 q rest 0 → Calls Try.prog 73 #[rp q] w1 (Took q w1 A rest')) :
    Calls Try.prog 47 #[rp q] w (Took q w A rest') := by
  have hmf := mkfn
  have kf := face_int_ok q rest rest' A w hr (kt _ (hr.later (Fr.alloc _ w _)))
  unfold Took
  clear hr kt
  go_enter Try.func47, Try.ntmps47
  go_wp2_with (go_at_call 71; refine kf.mono ?_; rintro e w1 ⟨⟨v, rfl, hv⟩, h1, h2⟩)
  go_ret
  exact ⟨⟨_, rfl, hv⟩, h1, h2⟩
theorem rd_Int_out (q : Nat) (rest : List UInt8) (c : Int) (w : World) (hc : (c == 0) = false) (hr : Rd w q rest 0) (kt : ∀ w1, Rd w1 q rest 0 → Calls Try.prog 73 #[rp q] w1 (Gave q w1 c)) :
    Calls Try.prog 47 #[rp q] w (Failed q w (.int .i64 0) c) := by
  have hmf := mkfn
  have kf := face_int_err q rest c w hr hc (kt _ (hr.later (Fr.alloc _ w _)))
  unfold Failed
  clear hr kt
  go_enter Try.func47, Try.ntmps47
  go_wp2_with (go_at_call 71; refine kf.mono ?_; rintro e w1 ⟨rfl, h1, h2⟩)
  go_ret
  exact ⟨rfl, h1, h2⟩

theorem rd_Long_in (q : Nat) (rest rest' : List UInt8) (A : Value → World → Prop) (w : World) (hr : Rd w q rest 0) (kt : ∀ w1, Rd w1 q rest 0 → Calls Try.prog 63 #[rp q] w1 (Took q w1 A rest')) :
    Calls Try.prog 22 #[rp q] w (Took q w A rest') := by
  have hmf := mkfn
  have kf := face_long_ok q rest rest' A w hr (kt _ (hr.later (Fr.alloc _ w _)))
  unfold Took
  clear hr kt
  go_enter Try.func22, Try.ntmps22
  go_wp2_with (go_at_call 62; refine kf.mono ?_; rintro e w1 ⟨⟨v, rfl, hv⟩, h1, h2⟩)
  go_ret
  exact ⟨⟨_, rfl, hv⟩, h1, h2⟩
theorem rd_Long_out (q : Nat) (rest : List UInt8) (c : Int) (w : World) (hc : (c == 0) = false) (hr : Rd w q rest 0) (kt : ∀ w1, Rd w1 q rest 0 → Calls Try.prog 63 #[rp q] w1 (Gave q w1 c)) :
    Calls Try.prog 22 #[rp q] w (Failed q w (.int .u64 0) c) := by
  have hmf := mkfn
  have kf := face_long_err q rest c w hr hc (kt _ (hr.later (Fr.alloc _ w _)))
  unfold Failed
  clear hr kt
  go_enter Try.func22, Try.ntmps22
  go_wp2_with (go_at_call 62; refine kf.mono ?_; rintro e w1 ⟨rfl, h1, h2⟩)
  go_ret
  exact ⟨rfl, h1, h2⟩

theorem clo_Text_in (q b0 b1 : Nat) (A : Value → World → Prop) (rest' : List UInt8) (w : World) (h0 : w.cell? ⟨b0, 0, none⟩ = some (rp q)) (h1 : w.cell? ⟨b1, 0, none⟩ = some (.int .i64 2147483647)) (kt : Calls Try.prog 76 #[rp q, .int .i64 2147483647] w (Took q w A rest')) :
    Calls Try.prog 75 #[.pointer (some ⟨b0, 0, none⟩), .pointer (some ⟨b1, 0, none⟩)] w (Took q w A rest') := by
  have hmf := mkfn
  unfold Took at *
  go_enter Try.func75, Try.ntmps75
  go_wp2_with (go_at_call 76; refine kt.mono ?_; rintro e w1 ⟨⟨v, rfl, hv⟩, h1', h2'⟩)
  go_ret
  exact ⟨⟨_, rfl, hv⟩, h1', h2'⟩

theorem clo_Text_out (q b0 b1 : Nat) (c : Int) (w : World) (h0 : w.cell? ⟨b0, 0, none⟩ = some (rp q)) (h1 : w.cell? ⟨b1, 0, none⟩ = some (.int .i64 2147483647)) (kt : Calls Try.prog 76 #[rp q, .int .i64 2147483647] w (Gave q w c)) :
    Calls Try.prog 75 #[.pointer (some ⟨b0, 0, none⟩), .pointer (some ⟨b1, 0, none⟩)] w (Gave q w c) := by
  have hmf := mkfn
  unfold Gave giveUp at *
  go_enter Try.func75, Try.ntmps75
  go_wp2_with (go_at_call 76; refine kt.mono ?_; rintro e w1 ⟨rfl, h1', h2'⟩)

  exact ⟨rfl, rfl, h1', h2'⟩

set_option maxHeartbeats 400000 in
theorem rd_Text_in (q : Nat) (rest rest' : List UInt8) (A : Value → World → Prop) (w : World) (hr : Rd w q rest 0) (kt : ∀ w1, Fr (fun _ => False) ((w.alloc (.cells #[rp q] 38)).alloc (.cells #[.int .i64 2147483647] 3)) w1 → Rd w1 q rest 0 → Calls Try.prog 76 #[rp q, .int .i64 2147483647] w1 (Took q w1 A rest')) :
    Calls Try.prog 50 #[rp q, .int .i64 2147483647] w (Took q w A rest') := by
  have hmf := mkfn
  obtain ⟨W2, hW2⟩ : ∃ W2, ((w.alloc (.cells #[rp q] 38)).alloc (.cells #[.int .i64 2147483647] 3)) = W2 := ⟨_, rfl⟩
  have hF : Fr (fun _ => False) w W2 := by rw [← hW2]; exact (Fr.alloc _ w _).same (Fr.alloc _ _ _)
  have kf := face_text_ok (.pointer (some ⟨w.heap.size, 0, none⟩)) (.pointer (some ⟨w.heap.size + 1, 0, none⟩)) q rest rest' A W2 (hr.later hF) (by
    refine clo_Text_in q w.heap.size (w.heap.size + 1) A rest' _ ?_ ?_ (kt _ (by rw [hW2]; exact Fr.alloc _ _ _) ((hr.later hF).later (Fr.alloc _ _ _)))
    all_goals
      rw [← hW2]
      first
        | exact box1 (w := w) rfl (by repeat (first | exact Fr.alloc _ _ _ | refine Fr.same ?_ (Fr.alloc _ _ _)))
        | exact box1 (w := w.alloc _) (by simp) (by repeat (first | exact Fr.alloc _ _ _ | refine Fr.same ?_ (Fr.alloc _ _ _)))
        | exact box1 (w := ((w.alloc _).alloc _).alloc _) (by simp) (by repeat (first | exact Fr.alloc _ _ _ | refine Fr.same ?_ (Fr.alloc _ _ _))))
  have hF2 : Hidden (Fr (fun _ => False) w W2) := hF
  rw [← hW2] at kf hF2
  unfold Took
  clear hr kt hW2 hF
  go_enter Try.func50, Try.ntmps50
  go_wp2_with (go_at_call 74; refine kf.mono ?_; rintro e w1 ⟨⟨v, rfl, hv⟩, h1, h2⟩)
  go_ret
  exact ⟨⟨_, rfl, hv⟩, h1, (Fr.mono (show Fr (fun _ => False) w _ from hF2) (fun _ _ f => f.elim)).same h2⟩

set_option maxHeartbeats 400000 in
theorem rd_Text_out (q : Nat) (rest : List UInt8) (c : Int) (w : World) (hc : (c == 0) = false) (hr : Rd w q rest 0) (kt : ∀ w1, Fr (fun _ => False) ((w.alloc (.cells #[rp q] 38)).alloc (.cells #[.int .i64 2147483647] 3)) w1 → Rd w1 q rest 0 → Calls Try.prog 76 #[rp q, .int .i64 2147483647] w1 (Gave q w1 c)) :
    Calls Try.prog 50 #[rp q, .int .i64 2147483647] w (Failed q w (.string ⟨#[]⟩) c) := by
  have hmf := mkfn
  obtain ⟨W2, hW2⟩ : ∃ W2, ((w.alloc (.cells #[rp q] 38)).alloc (.cells #[.int .i64 2147483647] 3)) = W2 := ⟨_, rfl⟩
  have hF : Fr (fun _ => False) w W2 := by rw [← hW2]; exact (Fr.alloc _ w _).same (Fr.alloc _ _ _)
  have kf := face_text_err (.pointer (some ⟨w.heap.size, 0, none⟩)) (.pointer (some ⟨w.heap.size + 1, 0, none⟩)) q rest c W2 (hr.later hF) hc (by
    refine clo_Text_out q w.heap.size (w.heap.size + 1) c _ ?_ ?_ (kt _ (by rw [hW2]; exact Fr.alloc _ _ _) ((hr.later hF).later (Fr.alloc _ _ _)))
    all_goals
      rw [← hW2]
      first
        | exact box1 (w := w) rfl (by repeat (first | exact Fr.alloc _ _ _ | refine Fr.same ?_ (Fr.alloc _ _ _)))
        | exact box1 (w := w.alloc _) (by simp) (by repeat (first | exact Fr.alloc _ _ _ | refine Fr.same ?_ (Fr.alloc _ _ _)))
        | exact box1 (w := ((w.alloc _).alloc _).alloc _) (by simp) (by repeat (first | exact Fr.alloc _ _ _ | refine Fr.same ?_ (Fr.alloc _ _ _))))
  have hF2 : Hidden (Fr (fun _ => False) w W2) := hF
  rw [← hW2] at kf hF2
  unfold Failed
  clear hr kt hW2 hF
  go_enter Try.func50, Try.ntmps50
  go_wp2_with (go_at_call 74; refine kf.mono ?_; rintro e w1 ⟨rfl, h1, h2⟩)
  go_ret
  exact ⟨rfl, h1, (Fr.mono (show Fr (fun _ => False) w _ from hF2) (fun _ _ f => f.elim)).same h2⟩

theorem clo_Raw_in (q b0 b1 : Nat) (A : Value → World → Prop) (rest' : List UInt8) (w : World) (h0 : w.cell? ⟨b0, 0, none⟩ = some (rp q)) (h1 : w.cell? ⟨b1, 0, none⟩ = some (.int .i64 2147483647)) (kt : Calls Try.prog 79 #[rp q, .int .i64 2147483647] w (Took q w A rest')) :
    Calls Try.prog 78 #[.pointer (some ⟨b0, 0, none⟩), .pointer (some ⟨b1, 0, none⟩)] w (Took q w A rest') := by
  have hmf := mkfn
  unfold Took at *
  go_enter Try.func78, Try.ntmps78
  go_wp2_with (go_at_call 79; refine kt.mono ?_; rintro e w1 ⟨⟨v, rfl, hv⟩, h1', h2'⟩)
  go_ret
  exact ⟨⟨_, rfl, hv⟩, h1', h2'⟩

theorem clo_Raw_out (q b0 b1 : Nat) (c : Int) (w : World) (h0 : w.cell? ⟨b0, 0, none⟩ = some (rp q)) (h1 : w.cell? ⟨b1, 0, none⟩ = some (.int .i64 2147483647)) (kt : Calls Try.prog 79 #[rp q, .int .i64 2147483647] w (Gave q w c)) :
    Calls Try.prog 78 #[.pointer (some ⟨b0, 0, none⟩), .pointer (some ⟨b1, 0, none⟩)] w (Gave q w c) := by
  have hmf := mkfn
  unfold Gave giveUp at *
  go_enter Try.func78, Try.ntmps78
  go_wp2_with (go_at_call 79; refine kt.mono ?_; rintro e w1 ⟨rfl, h1', h2'⟩)

  exact ⟨rfl, rfl, h1', h2'⟩

set_option maxHeartbeats 400000 in
theorem rd_Raw_in (q : Nat) (rest rest' : List UInt8) (A : Value → World → Prop) (w : World) (hr : Rd w q rest 0) (kt : ∀ w1, Fr (fun _ => False) ((w.alloc (.cells #[rp q] 38)).alloc (.cells #[.int .i64 2147483647] 3)) w1 → Rd w1 q rest 0 → Calls Try.prog 79 #[rp q, .int .i64 2147483647] w1 (Took q w1 A rest')) :
    Calls Try.prog 52 #[rp q, .int .i64 2147483647] w (Took q w A rest') := by
  have hmf := mkfn
  obtain ⟨W2, hW2⟩ : ∃ W2, ((w.alloc (.cells #[rp q] 38)).alloc (.cells #[.int .i64 2147483647] 3)) = W2 := ⟨_, rfl⟩
  have hF : Fr (fun _ => False) w W2 := by rw [← hW2]; exact (Fr.alloc _ w _).same (Fr.alloc _ _ _)
  have kf := face_raw_ok (.pointer (some ⟨w.heap.size, 0, none⟩)) (.pointer (some ⟨w.heap.size + 1, 0, none⟩)) q rest rest' A W2 (hr.later hF) (by
    refine clo_Raw_in q w.heap.size (w.heap.size + 1) A rest' _ ?_ ?_ (kt _ (by rw [hW2]; exact Fr.alloc _ _ _) ((hr.later hF).later (Fr.alloc _ _ _)))
    all_goals
      rw [← hW2]
      first
        | exact box1 (w := w) rfl (by repeat (first | exact Fr.alloc _ _ _ | refine Fr.same ?_ (Fr.alloc _ _ _)))
        | exact box1 (w := w.alloc _) (by simp) (by repeat (first | exact Fr.alloc _ _ _ | refine Fr.same ?_ (Fr.alloc _ _ _)))
        | exact box1 (w := ((w.alloc _).alloc _).alloc _) (by simp) (by repeat (first | exact Fr.alloc _ _ _ | refine Fr.same ?_ (Fr.alloc _ _ _))))
  have hF2 : Hidden (Fr (fun _ => False) w W2) := hF
  rw [← hW2] at kf hF2
  unfold Took
  clear hr kt hW2 hF
  go_enter Try.func52, Try.ntmps52
  go_wp2_with (go_at_call 77; refine kf.mono ?_; rintro e w1 ⟨⟨v, rfl, hv⟩, h1, h2⟩)
  go_ret
  exact ⟨⟨_, rfl, hv⟩, h1, (Fr.mono (show Fr (fun _ => False) w _ from hF2) (fun _ _ f => f.elim)).same h2⟩

set_option maxHeartbeats 400000 in
theorem rd_Raw_out (q : Nat) (rest : List UInt8) (c : Int) (w : World) (hc : (c == 0) = false) (hr : Rd w q rest 0) (kt : ∀ w1, Fr (fun _ => False) ((w.alloc (.cells #[rp q] 38)).alloc (.cells #[.int .i64 2147483647] 3)) w1 → Rd w1 q rest 0 → Calls Try.prog 79 #[rp q, .int .i64 2147483647] w1 (Gave q w1 c)) :
    Calls Try.prog 52 #[rp q, .int .i64 2147483647] w (Failed q w (.slice none 0 0) c) := by
  have hmf := mkfn
  obtain ⟨W2, hW2⟩ : ∃ W2, ((w.alloc (.cells #[rp q] 38)).alloc (.cells #[.int .i64 2147483647] 3)) = W2 := ⟨_, rfl⟩
  have hF : Fr (fun _ => False) w W2 := by rw [← hW2]; exact (Fr.alloc _ w _).same (Fr.alloc _ _ _)
  have kf := face_raw_err (.pointer (some ⟨w.heap.size, 0, none⟩)) (.pointer (some ⟨w.heap.size + 1, 0, none⟩)) q rest c W2 (hr.later hF) hc (by
    refine clo_Raw_out q w.heap.size (w.heap.size + 1) c _ ?_ ?_ (kt _ (by rw [hW2]; exact Fr.alloc _ _ _) ((hr.later hF).later (Fr.alloc _ _ _)))
    all_goals
      rw [← hW2]
      first
        | exact box1 (w := w) rfl (by repeat (first | exact Fr.alloc _ _ _ | refine Fr.same ?_ (Fr.alloc _ _ _)))
        | exact box1 (w := w.alloc _) (by simp) (by repeat (first | exact Fr.alloc _ _ _ | refine Fr.same ?_ (Fr.alloc _ _ _)))
        | exact box1 (w := ((w.alloc _).alloc _).alloc _) (by simp) (by repeat (first | exact Fr.alloc _ _ _ | refine Fr.same ?_ (Fr.alloc _ _ _))))
  have hF2 : Hidden (Fr (fun _ => False) w W2) := hF
  rw [← hW2] at kf hF2
  unfold Failed
  clear hr kt hW2 hF
  go_enter Try.func52, Try.ntmps52
  go_wp2_with (go_at_call 77; refine kf.mono ?_; rintro e w1 ⟨rfl, h1, h2⟩)
  go_ret
  exact ⟨rfl, h1, (Fr.mono (show Fr (fun _ => False) w _ from hF2) (fun _ _ f => f.elim)).same h2⟩

theorem clo_Ints_in (q b0 b1 : Nat) (A : Value → World → Prop) (rest' : List UInt8) (w : World) (h0 : w.cell? ⟨b0, 0, none⟩ = some (rp q)) (h1 : w.cell? ⟨b1, 0, none⟩ = some (.int .i64 2147483647)) (kt : Calls Try.prog 83 #[rp q, .int .i64 2147483647, .func (.func 73) #[rp q] #[]] w (Took q w A rest')) :
    Calls Try.prog 82 #[.pointer (some ⟨b0, 0, none⟩), .pointer (some ⟨b1, 0, none⟩)] w (Took q w A rest') := by
  have hmf := mkfn
  unfold Took at *
  go_enter Try.func82, Try.ntmps82
  go_wp2_with (go_at_call 83; refine kt.mono ?_; rintro e w1 ⟨⟨v, rfl, hv⟩, h1', h2'⟩)
  go_ret
  exact ⟨⟨_, rfl, hv⟩, h1', h2'⟩

theorem clo_Ints_out (q b0 b1 : Nat) (c : Int) (w : World) (h0 : w.cell? ⟨b0, 0, none⟩ = some (rp q)) (h1 : w.cell? ⟨b1, 0, none⟩ = some (.int .i64 2147483647)) (kt : Calls Try.prog 83 #[rp q, .int .i64 2147483647, .func (.func 73) #[rp q] #[]] w (Gave q w c)) :
    Calls Try.prog 82 #[.pointer (some ⟨b0, 0, none⟩), .pointer (some ⟨b1, 0, none⟩)] w (Gave q w c) := by
  have hmf := mkfn
  unfold Gave giveUp at *
  go_enter Try.func82, Try.ntmps82
  go_wp2_with (go_at_call 83; refine kt.mono ?_; rintro e w1 ⟨rfl, h1', h2'⟩)

  exact ⟨rfl, rfl, h1', h2'⟩

set_option maxHeartbeats 400000 in
theorem rd_Ints_in (q : Nat) (rest rest' : List UInt8) (A : Value → World → Prop) (w : World) (hr : Rd w q rest 0) (kt : ∀ w1, Fr (fun _ => False) ((w.alloc (.cells #[rp q] 38)).alloc (.cells #[.int .i64 2147483647] 3)) w1 → Rd w1 q rest 0 → Calls Try.prog 83 #[rp q, .int .i64 2147483647, .func (.func 73) #[rp q] #[]] w1 (Took q w1 A rest')) :
    Calls Try.prog 55 #[rp q, .int .i64 2147483647] w (Took q w A rest') := by
  have hmf := mkfn
  obtain ⟨W2, hW2⟩ : ∃ W2, ((w.alloc (.cells #[rp q] 38)).alloc (.cells #[.int .i64 2147483647] 3)) = W2 := ⟨_, rfl⟩
  have hF : Fr (fun _ => False) w W2 := by rw [← hW2]; exact (Fr.alloc _ w _).same (Fr.alloc _ _ _)
  have kf := face_ints_ok (.pointer (some ⟨w.heap.size, 0, none⟩)) (.pointer (some ⟨w.heap.size + 1, 0, none⟩)) q rest rest' A W2 (hr.later hF) (by
    refine clo_Ints_in q w.heap.size (w.heap.size + 1) A rest' _ ?_ ?_ (kt _ (by rw [hW2]; exact Fr.alloc _ _ _) ((hr.later hF).later (Fr.alloc _ _ _)))
    all_goals
      rw [← hW2]
      first
        | exact box1 (w := w) rfl (by repeat (first | exact Fr.alloc _ _ _ | refine Fr.same ?_ (Fr.alloc _ _ _)))
        | exact box1 (w := w.alloc _) (by simp) (by repeat (first | exact Fr.alloc _ _ _ | refine Fr.same ?_ (Fr.alloc _ _ _)))
        | exact box1 (w := ((w.alloc _).alloc _).alloc _) (by simp) (by repeat (first | exact Fr.alloc _ _ _ | refine Fr.same ?_ (Fr.alloc _ _ _))))
  have hF2 : Hidden (Fr (fun _ => False) w W2) := hF
  rw [← hW2] at kf hF2
  unfold Took
  clear hr kt hW2 hF
  go_enter Try.func55, Try.ntmps55
  go_wp2_with (go_at_call 81; refine kf.mono ?_; rintro e w1 ⟨⟨v, rfl, hv⟩, h1, h2⟩)
  go_ret
  exact ⟨⟨_, rfl, hv⟩, h1, (Fr.mono (show Fr (fun _ => False) w _ from hF2) (fun _ _ f => f.elim)).same h2⟩

set_option maxHeartbeats 400000 in
theorem rd_Ints_out (q : Nat) (rest : List UInt8) (c : Int) (w : World) (hc : (c == 0) = false) (hr : Rd w q rest 0) (kt : ∀ w1, Fr (fun _ => False) ((w.alloc (.cells #[rp q] 38)).alloc (.cells #[.int .i64 2147483647] 3)) w1 → Rd w1 q rest 0 → Calls Try.prog 83 #[rp q, .int .i64 2147483647, .func (.func 73) #[rp q] #[]] w1 (Gave q w1 c)) :
    Calls Try.prog 55 #[rp q, .int .i64 2147483647] w (Failed q w (.slice none 0 0) c) := by
  have hmf := mkfn
  obtain ⟨W2, hW2⟩ : ∃ W2, ((w.alloc (.cells #[rp q] 38)).alloc (.cells #[.int .i64 2147483647] 3)) = W2 := ⟨_, rfl⟩
  have hF : Fr (fun _ => False) w W2 := by rw [← hW2]; exact (Fr.alloc _ w _).same (Fr.alloc _ _ _)
  have kf := face_ints_err (.pointer (some ⟨w.heap.size, 0, none⟩)) (.pointer (some ⟨w.heap.size + 1, 0, none⟩)) q rest c W2 (hr.later hF) hc (by
    refine clo_Ints_out q w.heap.size (w.heap.size + 1) c _ ?_ ?_ (kt _ (by rw [hW2]; exact Fr.alloc _ _ _) ((hr.later hF).later (Fr.alloc _ _ _)))
    all_goals
      rw [← hW2]
      first
        | exact box1 (w := w) rfl (by repeat (first | exact Fr.alloc _ _ _ | refine Fr.same ?_ (Fr.alloc _ _ _)))
        | exact box1 (w := w.alloc _) (by simp) (by repeat (first | exact Fr.alloc _ _ _ | refine Fr.same ?_ (Fr.alloc _ _ _)))
        | exact box1 (w := ((w.alloc _).alloc _).alloc _) (by simp) (by repeat (first | exact Fr.alloc _ _ _ | refine Fr.same ?_ (Fr.alloc _ _ _))))
  have hF2 : Hidden (Fr (fun _ => False) w W2) := hF
  rw [← hW2] at kf hF2
  unfold Failed
  clear hr kt hW2 hF
  go_enter Try.func55, Try.ntmps55
  go_wp2_with (go_at_call 81; refine kf.mono ?_; rintro e w1 ⟨rfl, h1, h2⟩)
  go_ret
  exact ⟨rfl, h1, (Fr.mono (show Fr (fun _ => False) w _ from hF2) (fun _ _ f => f.elim)).same h2⟩

theorem clo_Texts_in (q b0 b1 b2 b3 : Nat) (A : Value → World → Prop) (rest' : List UInt8) (w : World) (h0 : w.cell? ⟨b0, 0, none⟩ = some (rp q)) (h1 : w.cell? ⟨b1, 0, none⟩ = some (.int .i64 2147483647)) (h2 : w.cell? ⟨b2, 0, none⟩ = some (.func (.func 84) #[] #[.pointer (some ⟨b0, 0, none⟩), .pointer (some ⟨b3, 0, none⟩)])) (kt : Calls Try.prog 87 #[rp q, .int .i64 2147483647, .func (.func 84) #[] #[.pointer (some ⟨b0, 0, none⟩), .pointer (some ⟨b3, 0, none⟩)]] w (Took q w A rest')) :
    Calls Try.prog 86 #[.pointer (some ⟨b0, 0, none⟩), .pointer (some ⟨b1, 0, none⟩), .pointer (some ⟨b2, 0, none⟩)] w (Took q w A rest') := by
  have hmf := mkfn
  unfold Took at *
  go_enter Try.func86, Try.ntmps86
  go_wp2_with (go_at_call 87; refine kt.mono ?_; rintro e w1 ⟨⟨v, rfl, hv⟩, h1', h2'⟩)
  go_ret
  exact ⟨⟨_, rfl, hv⟩, h1', h2'⟩

theorem clo_Texts_out (q b0 b1 b2 b3 : Nat) (c : Int) (w : World) (h0 : w.cell? ⟨b0, 0, none⟩ = some (rp q)) (h1 : w.cell? ⟨b1, 0, none⟩ = some (.int .i64 2147483647)) (h2 : w.cell? ⟨b2, 0, none⟩ = some (.func (.func 84) #[] #[.pointer (some ⟨b0, 0, none⟩), .pointer (some ⟨b3, 0, none⟩)])) (kt : Calls Try.prog 87 #[rp q, .int .i64 2147483647, .func (.func 84) #[] #[.pointer (some ⟨b0, 0, none⟩), .pointer (some ⟨b3, 0, none⟩)]] w (Gave q w c)) :
    Calls Try.prog 86 #[.pointer (some ⟨b0, 0, none⟩), .pointer (some ⟨b1, 0, none⟩), .pointer (some ⟨b2, 0, none⟩)] w (Gave q w c) := by
  have hmf := mkfn
  unfold Gave giveUp at *
  go_enter Try.func86, Try.ntmps86
  go_wp2_with (go_at_call 87; refine kt.mono ?_; rintro e w1 ⟨rfl, h1', h2'⟩)

  exact ⟨rfl, rfl, h1', h2'⟩

set_option maxHeartbeats 400000 in
theorem rd_Texts_in (q : Nat) (rest rest' : List UInt8) (A : Value → World → Prop) (w : World) (hr : Rd w q rest 0) (kt : ∀ w1, Fr (fun _ => False) ((((w.alloc (.cells #[rp q] 38)).alloc (.cells #[.int .i64 2147483647] 3)).alloc (.cells #[.int .i64 2147483647] 3)).alloc (.cells #[.func (.func 84) #[] #[.pointer (some ⟨w.heap.size, 0, none⟩), .pointer (some ⟨w.heap.size + 2, 0, none⟩)]] 85)) w1 → Rd w1 q rest 0 → Calls Try.prog 87 #[rp q, .int .i64 2147483647, .func (.func 84) #[] #[.pointer (some ⟨w.heap.size, 0, none⟩), .pointer (some ⟨w.heap.size + 2, 0, none⟩)]] w1 (Took q w1 A rest')) :
    Calls Try.prog 58 #[rp q, .int .i64 2147483647, .int .i64 2147483647] w (Took q w A rest') := by
  have hmf := mkfn
  obtain ⟨W2, hW2⟩ : ∃ W2, ((((w.alloc (.cells #[rp q] 38)).alloc (.cells #[.int .i64 2147483647] 3)).alloc (.cells #[.int .i64 2147483647] 3)).alloc (.cells #[.func (.func 84) #[] #[.pointer (some ⟨w.heap.size, 0, none⟩), .pointer (some ⟨w.heap.size + 2, 0, none⟩)]] 85)) = W2 := ⟨_, rfl⟩
  have hF : Fr (fun _ => False) w W2 := by rw [← hW2]; exact (((Fr.alloc _ w _).same (Fr.alloc _ _ _)).same (Fr.alloc _ _ _)).same (Fr.alloc _ _ _)
  have kf := face_texts_ok (.pointer (some ⟨w.heap.size, 0, none⟩)) (.pointer (some ⟨w.heap.size + 1, 0, none⟩)) (.pointer (some ⟨w.heap.size + 3, 0, none⟩)) q rest rest' A W2 (hr.later hF) (by
    refine clo_Texts_in q w.heap.size (w.heap.size + 1) (w.heap.size + 3) (w.heap.size + 2) A rest' _ ?_ ?_ ?_ (kt _ (by rw [hW2]; exact Fr.alloc _ _ _) ((hr.later hF).later (Fr.alloc _ _ _)))
    all_goals
      rw [← hW2]
      first
        | exact box1 (w := w) rfl (by repeat (first | exact Fr.alloc _ _ _ | refine Fr.same ?_ (Fr.alloc _ _ _)))
        | exact box1 (w := w.alloc _) (by simp) (by repeat (first | exact Fr.alloc _ _ _ | refine Fr.same ?_ (Fr.alloc _ _ _)))
        | exact box1 (w := ((w.alloc _).alloc _).alloc _) (by simp) (by repeat (first | exact Fr.alloc _ _ _ | refine Fr.same ?_ (Fr.alloc _ _ _))))
  have hF2 : Hidden (Fr (fun _ => False) w W2) := hF
  rw [← hW2] at kf hF2
  unfold Took
  clear hr kt hW2 hF
  go_enter Try.func58, Try.ntmps58
  go_wp2_with (go_at_call 85; refine kf.mono ?_; rintro e w1 ⟨⟨v, rfl, hv⟩, h1, h2⟩)
  go_ret
  exact ⟨⟨_, rfl, hv⟩, h1, (Fr.mono (show Fr (fun _ => False) w _ from hF2) (fun _ _ f => f.elim)).same h2⟩

set_option maxHeartbeats 400000 in
theorem rd_Texts_out (q : Nat) (rest : List UInt8) (c : Int) (w : World) (hc : (c == 0) = false) (hr : Rd w q rest 0) (kt : ∀ w1, Fr (fun _ => False) ((((w.alloc (.cells #[rp q] 38)).alloc (.cells #[.int .i64 2147483647] 3)).alloc (.cells #[.int .i64 2147483647] 3)).alloc (.cells #[.func (.func 84) #[] #[.pointer (some ⟨w.heap.size, 0, none⟩), .pointer (some ⟨w.heap.size + 2, 0, none⟩)]] 85)) w1 → Rd w1 q rest 0 → Calls Try.prog 87 #[rp q, .int .i64 2147483647, .func (.func 84) #[] #[.pointer (some ⟨w.heap.size, 0, none⟩), .pointer (some ⟨w.heap.size + 2, 0, none⟩)]] w1 (Gave q w1 c)) :
    Calls Try.prog 58 #[rp q, .int .i64 2147483647, .int .i64 2147483647] w (Failed q w (.slice none 0 0) c) := by
  have hmf := mkfn
  obtain ⟨W2, hW2⟩ : ∃ W2, ((((w.alloc (.cells #[rp q] 38)).alloc (.cells #[.int .i64 2147483647] 3)).alloc (.cells #[.int .i64 2147483647] 3)).alloc (.cells #[.func (.func 84) #[] #[.pointer (some ⟨w.heap.size, 0, none⟩), .pointer (some ⟨w.heap.size + 2, 0, none⟩)]] 85)) = W2 := ⟨_, rfl⟩
  have hF : Fr (fun _ => False) w W2 := by rw [← hW2]; exact (((Fr.alloc _ w _).same (Fr.alloc _ _ _)).same (Fr.alloc _ _ _)).same (Fr.alloc _ _ _)
  have kf := face_texts_err (.pointer (some ⟨w.heap.size, 0, none⟩)) (.pointer (some ⟨w.heap.size + 1, 0, none⟩)) (.pointer (some ⟨w.heap.size + 3, 0, none⟩)) q rest c W2 (hr.later hF) hc (by
    refine clo_Texts_out q w.heap.size (w.heap.size + 1) (w.heap.size + 3) (w.heap.size + 2) c _ ?_ ?_ ?_ (kt _ (by rw [hW2]; exact Fr.alloc _ _ _) ((hr.later hF).later (Fr.alloc _ _ _)))
    all_goals
      rw [← hW2]
      first
        | exact box1 (w := w) rfl (by repeat (first | exact Fr.alloc _ _ _ | refine Fr.same ?_ (Fr.alloc _ _ _)))
        | exact box1 (w := w.alloc _) (by simp) (by repeat (first | exact Fr.alloc _ _ _ | refine Fr.same ?_ (Fr.alloc _ _ _)))
        | exact box1 (w := ((w.alloc _).alloc _).alloc _) (by simp) (by repeat (first | exact Fr.alloc _ _ _ | refine Fr.same ?_ (Fr.alloc _ _ _))))
  have hF2 : Hidden (Fr (fun _ => False) w W2) := hF
  rw [← hW2] at kf hF2
  unfold Failed
  clear hr kt hW2 hF
  go_enter Try.func58, Try.ntmps58
  go_wp2_with (go_at_call 85; refine kf.mono ?_; rintro e w1 ⟨rfl, h1, h2⟩)
  go_ret
  exact ⟨rfl, h1, (Fr.mono (show Fr (fun _ => False) w _ from hF2) (fun _ _ f => f.elim)).same h2⟩
end Go.Proofs.Ytflemhekoffpoaa
