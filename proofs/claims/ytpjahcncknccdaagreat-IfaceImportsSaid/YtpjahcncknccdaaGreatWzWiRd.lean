/- The Reader's calls: what they answer of bytes that are there, and of bytes that end too early. -/
import Derived.Test.YtpjahcncknccdaaGreatWzWiList
import Derived.Test.YtpjahcncknccdaaGreatWzWiR5
import Derived.Laws.EntriesVeiled
namespace Go.Proofs.YtpjahcncknccdaaGreat.Wi
open Go.RowKit
set_option linter.unusedSimpArgs false
set_option linter.unusedVariables false
set_option maxRecDepth 20000

theorem mkfn (fn : Fn) (first cap : Array Value) (w : World) : (Instr.makeFunc fn first cap).run Tryz.prog w = .ok (.func fn first cap) w := rfl
theorem Rd.later {w w' : World} {q : Nat} {rest : List UInt8} {e : Int} (h : Rd w q rest e) (hf : Fr (fun _ => False) w w') : Rd w' q rest e :=
  h.keep hf (fun f => f) (fun _ _ _ _ f => f)
theorem box1 {w w' : World} {v : Value} {t : TypeId} {n : Nat} (hn : w.heap.size = n) (hf : Fr (fun _ => False) (w.alloc (.cells #[v] t)) w') : w'.cell? ⟨n, 0, none⟩ = some v := by
  subst hn
  have h := hf.heap (alloc_new w _) (fun f => f)
  rw [cell_of_row w' w.heap.size 0 _ _ _ h]
  rfl
/-- It failed. -/
def Failed (q : Nat) (w : World) (zero : Value) (c : Int) (e : Ending) (w' : World) : Prop := e = .returned zero ∧ Rd w' q [] c ∧ Fr (fun k => k = q) w w'
theorem Took.past {q : Nat} {w w1 w' : World} {A : Value → World → Prop} {rest : List UInt8} {e : Ending} (hf : Fr (fun _ => False) w w1) (h : Took q w1 A rest e w') : Took q w A rest e w' := ⟨h.1, h.2.1, (hf.mono (fun _ _ f => f.elim)).same h.2.2⟩
theorem Failed.past {q : Nat} {w w1 w' : World} {z : Value} {c : Int} {e : Ending} (hf : Fr (fun _ => False) w w1) (h : Failed q w1 z c e w') : Failed q w z c e w' := ⟨h.1, h.2.1, (hf.mono (fun _ _ f => f.elim)).same h.2.2⟩

theorem rd_Byte_in (q : Nat) (rest rest' : List UInt8) (A : Value → World → Prop) (w : World) (hr : Rd w q rest 0) (kt : ∀ w1, Rd w1 q rest 0 → Calls Tryz.prog 100 #[rp q] w1 (Took q w1 A rest')) :
    Calls Tryz.prog 84 #[rp q] w (Took q w A rest') := by
  have hmf := mkfn
  have kf := face_byte_ok q rest rest' A w hr (kt _ (hr.later (Fr.alloc _ w _)))
  unfold Took
  clear hr kt
  go_enter Tryz.func84, Tryz.ntmps84
  go_wp2_with (go_at_call 99; refine kf.mono ?_; rintro e w1 ⟨⟨v, rfl, hv⟩, h1, h2⟩)
  go_ret
  exact ⟨⟨_, rfl, hv⟩, h1, h2⟩
theorem rd_Byte_out (q : Nat) (rest : List UInt8) (c : Int) (w : World) (hc : (c == 0) = false) (hr : Rd w q rest 0) (kt : ∀ w1, Rd w1 q rest 0 → Calls Tryz.prog 100 #[rp q] w1 (Gave q w1 c)) :
    Calls Tryz.prog 84 #[rp q] w (Failed q w (.int .u8 0) c) := by
  have hmf := mkfn
  have kf := face_byte_err q rest c w hr hc (kt _ (hr.later (Fr.alloc _ w _)))
  unfold Failed
  clear hr kt
  go_enter Tryz.func84, Tryz.ntmps84
  go_wp2_with (go_at_call 99; refine kf.mono ?_; rintro e w1 ⟨rfl, h1, h2⟩)
  go_ret
  exact ⟨rfl, h1, h2⟩

theorem rd_Int_in (q : Nat) (rest rest' : List UInt8) (A : Value → World → Prop) (w : World) (hr : Rd w q rest 0) (kt : ∀ w1, Rd w1 q rest 0 → Calls Tryz.prog 83 #[rp q] w1 (Took q w1 A rest')) :
    Calls Tryz.prog 51 #[rp q] w (Took q w A rest') := by
  have hmf := mkfn
  have kf := face_int_ok q rest rest' A w hr (kt _ (hr.later (Fr.alloc _ w _)))
  unfold Took
  clear hr kt
  go_enter Tryz.func51, Tryz.ntmps51
  go_wp2_with (go_at_call 82; refine kf.mono ?_; rintro e w1 ⟨⟨v, rfl, hv⟩, h1, h2⟩)
  go_ret
  exact ⟨⟨_, rfl, hv⟩, h1, h2⟩
theorem rd_Int_out (q : Nat) (rest : List UInt8) (c : Int) (w : World) (hc : (c == 0) = false) (hr : Rd w q rest 0) (kt : ∀ w1, Rd w1 q rest 0 → Calls Tryz.prog 83 #[rp q] w1 (Gave q w1 c)) :
    Calls Tryz.prog 51 #[rp q] w (Failed q w (.int .i64 0) c) := by
  have hmf := mkfn
  have kf := face_int_err q rest c w hr hc (kt _ (hr.later (Fr.alloc _ w _)))
  unfold Failed
  clear hr kt
  go_enter Tryz.func51, Tryz.ntmps51
  go_wp2_with (go_at_call 82; refine kf.mono ?_; rintro e w1 ⟨rfl, h1, h2⟩)
  go_ret
  exact ⟨rfl, h1, h2⟩

theorem rd_Long_in (q : Nat) (rest rest' : List UInt8) (A : Value → World → Prop) (w : World) (hr : Rd w q rest 0) (kt : ∀ w1, Rd w1 q rest 0 → Calls Tryz.prog 102 #[rp q] w1 (Took q w1 A rest')) :
    Calls Tryz.prog 85 #[rp q] w (Took q w A rest') := by
  have hmf := mkfn
  have kf := face_long_ok q rest rest' A w hr (kt _ (hr.later (Fr.alloc _ w _)))
  unfold Took
  clear hr kt
  go_enter Tryz.func85, Tryz.ntmps85
  go_wp2_with (go_at_call 101; refine kf.mono ?_; rintro e w1 ⟨⟨v, rfl, hv⟩, h1, h2⟩)
  go_ret
  exact ⟨⟨_, rfl, hv⟩, h1, h2⟩
theorem rd_Long_out (q : Nat) (rest : List UInt8) (c : Int) (w : World) (hc : (c == 0) = false) (hr : Rd w q rest 0) (kt : ∀ w1, Rd w1 q rest 0 → Calls Tryz.prog 102 #[rp q] w1 (Gave q w1 c)) :
    Calls Tryz.prog 85 #[rp q] w (Failed q w (.int .u64 0) c) := by
  have hmf := mkfn
  have kf := face_long_err q rest c w hr hc (kt _ (hr.later (Fr.alloc _ w _)))
  unfold Failed
  clear hr kt
  go_enter Tryz.func85, Tryz.ntmps85
  go_wp2_with (go_at_call 101; refine kf.mono ?_; rintro e w1 ⟨rfl, h1, h2⟩)
  go_ret
  exact ⟨rfl, h1, h2⟩

theorem clo_Text_in (q b0 b1 : Nat) (A : Value → World → Prop) (rest' : List UInt8) (w : World) (h0 : w.cell? ⟨b0, 0, none⟩ = some (rp q)) (h1 : w.cell? ⟨b1, 0, none⟩ = some (.int .i64 32)) (kt : Calls Tryz.prog 50 #[rp q, .int .i64 32] w (Took q w A rest')) :
    Calls Tryz.prog 49 #[.pointer (some ⟨b0, 0, none⟩), .pointer (some ⟨b1, 0, none⟩)] w (Took q w A rest') := by
  have hmf := mkfn
  unfold Took at *
  go_enter Tryz.func49, Tryz.ntmps49
  go_wp2_with (go_at_call 50; refine kt.mono ?_; rintro e w1 ⟨⟨v, rfl, hv⟩, h1', h2'⟩)
  go_ret
  exact ⟨⟨_, rfl, hv⟩, h1', h2'⟩

theorem clo_Text_out (q b0 b1 : Nat) (c : Int) (w : World) (h0 : w.cell? ⟨b0, 0, none⟩ = some (rp q)) (h1 : w.cell? ⟨b1, 0, none⟩ = some (.int .i64 32)) (kt : Calls Tryz.prog 50 #[rp q, .int .i64 32] w (Gave q w c)) :
    Calls Tryz.prog 49 #[.pointer (some ⟨b0, 0, none⟩), .pointer (some ⟨b1, 0, none⟩)] w (Gave q w c) := by
  have hmf := mkfn
  unfold Gave giveUp at *
  go_enter Tryz.func49, Tryz.ntmps49
  go_wp2_with (go_at_call 50; refine kt.mono ?_; rintro e w1 ⟨rfl, h1', h2'⟩)

  exact ⟨rfl, rfl, h1', h2'⟩

set_option maxHeartbeats 400000 in
theorem rd_Text_in (q : Nat) (rest rest' : List UInt8) (A : Value → World → Prop) (w : World) (hr : Rd w q rest 0) (kt : ∀ w1, Fr (fun _ => False) ((w.alloc (.cells #[rp q] 70)).alloc (.cells #[.int .i64 32] 3)) w1 → Rd w1 q rest 0 → Calls Tryz.prog 50 #[rp q, .int .i64 32] w1 (Took q w1 A rest')) :
    Calls Tryz.prog 24 #[rp q, .int .i64 32] w (Took q w A rest') := by
  have hmf := mkfn
  obtain ⟨W2, hW2⟩ : ∃ W2, ((w.alloc (.cells #[rp q] 70)).alloc (.cells #[.int .i64 32] 3)) = W2 := ⟨_, rfl⟩
  have hF : Fr (fun _ => False) w W2 := by rw [← hW2]; exact (Fr.alloc _ w _).same (Fr.alloc _ _ _)
  have kf := face_text_ok (.pointer (some ⟨w.heap.size, 0, none⟩)) (.pointer (some ⟨w.heap.size + 1, 0, none⟩)) q rest rest' A W2 (hr.later hF) (by
    refine clo_Text_in q w.heap.size (w.heap.size + 1) A rest' _ ?_ ?_ (kt _ (by rw [hW2]; exact Fr.alloc _ _ _) ((hr.later hF).later (Fr.alloc _ _ _)))
    all_goals
      rw [← hW2]
      first
        | exact box1 (w := w) rfl (by repeat (first | exact Fr.alloc _ _ _ | refine Fr.same ?_ (Fr.alloc _ _ _)))
        | exact box1 (w := w.alloc _) (by simp) (by repeat (first | exact Fr.alloc _ _ _ | refine Fr.same ?_ (Fr.alloc _ _ _)))
        | exact box1 (w := ((w.alloc _).alloc _).alloc _) (by simp) (by repeat (first | exact Fr.alloc _ _ _ | refine Fr.same ?_ (Fr.alloc _ _ _))))
  have hF2 : Hidden (Fr (fun _ => False) w W2) := hF
  rw [← hW2] at kf hF2
  unfold Took
  clear hr kt hW2 hF
  go_enter Tryz.func24, Tryz.ntmps24
  go_wp2_with (go_at_call 48; refine kf.mono ?_; rintro e w1 ⟨⟨v, rfl, hv⟩, h1, h2⟩)
  go_ret
  exact ⟨⟨_, rfl, hv⟩, h1, (Fr.mono (show Fr (fun _ => False) w _ from hF2) (fun _ _ f => f.elim)).same h2⟩

set_option maxHeartbeats 400000 in
theorem rd_Text_out (q : Nat) (rest : List UInt8) (c : Int) (w : World) (hc : (c == 0) = false) (hr : Rd w q rest 0) (kt : ∀ w1, Fr (fun _ => False) ((w.alloc (.cells #[rp q] 70)).alloc (.cells #[.int .i64 32] 3)) w1 → Rd w1 q rest 0 → Calls Tryz.prog 50 #[rp q, .int .i64 32] w1 (Gave q w1 c)) :
    Calls Tryz.prog 24 #[rp q, .int .i64 32] w (Failed q w (.string ⟨#[]⟩) c) := by
  have hmf := mkfn
  obtain ⟨W2, hW2⟩ : ∃ W2, ((w.alloc (.cells #[rp q] 70)).alloc (.cells #[.int .i64 32] 3)) = W2 := ⟨_, rfl⟩
  have hF : Fr (fun _ => False) w W2 := by rw [← hW2]; exact (Fr.alloc _ w _).same (Fr.alloc _ _ _)
  have kf := face_text_err (.pointer (some ⟨w.heap.size, 0, none⟩)) (.pointer (some ⟨w.heap.size + 1, 0, none⟩)) q rest c W2 (hr.later hF) hc (by
    refine clo_Text_out q w.heap.size (w.heap.size + 1) c _ ?_ ?_ (kt _ (by rw [hW2]; exact Fr.alloc _ _ _) ((hr.later hF).later (Fr.alloc _ _ _)))
    all_goals
      rw [← hW2]
      first
        | exact box1 (w := w) rfl (by repeat (first | exact Fr.alloc _ _ _ | refine Fr.same ?_ (Fr.alloc _ _ _)))
        | exact box1 (w := w.alloc _) (by simp) (by repeat (first | exact Fr.alloc _ _ _ | refine Fr.same ?_ (Fr.alloc _ _ _)))
        | exact box1 (w := ((w.alloc _).alloc _).alloc _) (by simp) (by repeat (first | exact Fr.alloc _ _ _ | refine Fr.same ?_ (Fr.alloc _ _ _))))
  have hF2 : Hidden (Fr (fun _ => False) w W2) := hF
  rw [← hW2] at kf hF2
  unfold Failed
  clear hr kt hW2 hF
  go_enter Tryz.func24, Tryz.ntmps24
  go_wp2_with (go_at_call 48; refine kf.mono ?_; rintro e w1 ⟨rfl, h1, h2⟩)
  go_ret
  exact ⟨rfl, h1, (Fr.mono (show Fr (fun _ => False) w _ from hF2) (fun _ _ f => f.elim)).same h2⟩

theorem clo_Ints_in (q b0 b1 : Nat) (A : Value → World → Prop) (rest' : List UInt8) (w : World) (h0 : w.cell? ⟨b0, 0, none⟩ = some (rp q)) (h1 : w.cell? ⟨b1, 0, none⟩ = some (.int .i64 8)) (kt : Calls Tryz.prog 105 #[rp q, .int .i64 8, .func (.func 83) #[rp q] #[]] w (Took q w A rest')) :
    Calls Tryz.prog 104 #[.pointer (some ⟨b0, 0, none⟩), .pointer (some ⟨b1, 0, none⟩)] w (Took q w A rest') := by
  have hmf := mkfn
  unfold Took at *
  go_enter Tryz.func104, Tryz.ntmps104
  go_wp2_with (go_at_call 105; refine kt.mono ?_; rintro e w1 ⟨⟨v, rfl, hv⟩, h1', h2'⟩)
  go_ret
  exact ⟨⟨_, rfl, hv⟩, h1', h2'⟩

theorem clo_Ints_out (q b0 b1 : Nat) (c : Int) (w : World) (h0 : w.cell? ⟨b0, 0, none⟩ = some (rp q)) (h1 : w.cell? ⟨b1, 0, none⟩ = some (.int .i64 8)) (kt : Calls Tryz.prog 105 #[rp q, .int .i64 8, .func (.func 83) #[rp q] #[]] w (Gave q w c)) :
    Calls Tryz.prog 104 #[.pointer (some ⟨b0, 0, none⟩), .pointer (some ⟨b1, 0, none⟩)] w (Gave q w c) := by
  have hmf := mkfn
  unfold Gave giveUp at *
  go_enter Tryz.func104, Tryz.ntmps104
  go_wp2_with (go_at_call 105; refine kt.mono ?_; rintro e w1 ⟨rfl, h1', h2'⟩)

  exact ⟨rfl, rfl, h1', h2'⟩

set_option maxHeartbeats 400000 in
theorem rd_Ints_in (q : Nat) (rest rest' : List UInt8) (A : Value → World → Prop) (w : World) (hr : Rd w q rest 0) (kt : ∀ w1, Fr (fun _ => False) ((w.alloc (.cells #[rp q] 70)).alloc (.cells #[.int .i64 8] 3)) w1 → Rd w1 q rest 0 → Calls Tryz.prog 105 #[rp q, .int .i64 8, .func (.func 83) #[rp q] #[]] w1 (Took q w1 A rest')) :
    Calls Tryz.prog 86 #[rp q, .int .i64 8] w (Took q w A rest') := by
  have hmf := mkfn
  obtain ⟨W2, hW2⟩ : ∃ W2, ((w.alloc (.cells #[rp q] 70)).alloc (.cells #[.int .i64 8] 3)) = W2 := ⟨_, rfl⟩
  have hF : Fr (fun _ => False) w W2 := by rw [← hW2]; exact (Fr.alloc _ w _).same (Fr.alloc _ _ _)
  have kf := face_ints_ok (.pointer (some ⟨w.heap.size, 0, none⟩)) (.pointer (some ⟨w.heap.size + 1, 0, none⟩)) q rest rest' A W2 (hr.later hF) (by
    refine clo_Ints_in q w.heap.size (w.heap.size + 1) A rest' _ ?_ ?_ (kt _ (by rw [hW2]; exact Fr.alloc _ _ _) ((hr.later hF).later (Fr.alloc _ _ _)))
    all_goals
      rw [← hW2]
      first
        | exact box1 (w := w) rfl (by repeat (first | exact Fr.alloc _ _ _ | refine Fr.same ?_ (Fr.alloc _ _ _)))
        | exact box1 (w := w.alloc _) (by simp) (by repeat (first | exact Fr.alloc _ _ _ | refine Fr.same ?_ (Fr.alloc _ _ _)))
        | exact box1 (w := ((w.alloc _).alloc _).alloc _) (by simp) (by repeat (first | exact Fr.alloc _ _ _ | refine Fr.same ?_ (Fr.alloc _ _ _))))
  have hF2 : Hidden (Fr (fun _ => False) w W2) := hF
  rw [← hW2] at kf hF2
  unfold Took
  clear hr kt hW2 hF
  go_enter Tryz.func86, Tryz.ntmps86
  go_wp2_with (go_at_call 103; refine kf.mono ?_; rintro e w1 ⟨⟨v, rfl, hv⟩, h1, h2⟩)
  go_ret
  exact ⟨⟨_, rfl, hv⟩, h1, (Fr.mono (show Fr (fun _ => False) w _ from hF2) (fun _ _ f => f.elim)).same h2⟩

set_option maxHeartbeats 400000 in
theorem rd_Ints_out (q : Nat) (rest : List UInt8) (c : Int) (w : World) (hc : (c == 0) = false) (hr : Rd w q rest 0) (kt : ∀ w1, Fr (fun _ => False) ((w.alloc (.cells #[rp q] 70)).alloc (.cells #[.int .i64 8] 3)) w1 → Rd w1 q rest 0 → Calls Tryz.prog 105 #[rp q, .int .i64 8, .func (.func 83) #[rp q] #[]] w1 (Gave q w1 c)) :
    Calls Tryz.prog 86 #[rp q, .int .i64 8] w (Failed q w (.slice none 0 0) c) := by
  have hmf := mkfn
  obtain ⟨W2, hW2⟩ : ∃ W2, ((w.alloc (.cells #[rp q] 70)).alloc (.cells #[.int .i64 8] 3)) = W2 := ⟨_, rfl⟩
  have hF : Fr (fun _ => False) w W2 := by rw [← hW2]; exact (Fr.alloc _ w _).same (Fr.alloc _ _ _)
  have kf := face_ints_err (.pointer (some ⟨w.heap.size, 0, none⟩)) (.pointer (some ⟨w.heap.size + 1, 0, none⟩)) q rest c W2 (hr.later hF) hc (by
    refine clo_Ints_out q w.heap.size (w.heap.size + 1) c _ ?_ ?_ (kt _ (by rw [hW2]; exact Fr.alloc _ _ _) ((hr.later hF).later (Fr.alloc _ _ _)))
    all_goals
      rw [← hW2]
      first
        | exact box1 (w := w) rfl (by repeat (first | exact Fr.alloc _ _ _ | refine Fr.same ?_ (Fr.alloc _ _ _)))
        | exact box1 (w := w.alloc _) (by simp) (by repeat (first | exact Fr.alloc _ _ _ | refine Fr.same ?_ (Fr.alloc _ _ _)))
        | exact box1 (w := ((w.alloc _).alloc _).alloc _) (by simp) (by repeat (first | exact Fr.alloc _ _ _ | refine Fr.same ?_ (Fr.alloc _ _ _))))
  have hF2 : Hidden (Fr (fun _ => False) w W2) := hF
  rw [← hW2] at kf hF2
  unfold Failed
  clear hr kt hW2 hF
  go_enter Tryz.func86, Tryz.ntmps86
  go_wp2_with (go_at_call 103; refine kf.mono ?_; rintro e w1 ⟨rfl, h1, h2⟩)
  go_ret
  exact ⟨rfl, h1, (Fr.mono (show Fr (fun _ => False) w _ from hF2) (fun _ _ f => f.elim)).same h2⟩
end Go.Proofs.YtpjahcncknccdaaGreat.Wi
