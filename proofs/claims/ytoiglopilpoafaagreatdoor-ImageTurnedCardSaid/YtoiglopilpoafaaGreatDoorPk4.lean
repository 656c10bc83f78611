/- Texts of ours, in one. -/
import Derived.Test.YtoiglopilpoafaaGreatDoorPk3
import Derived.Laws.EntriesVeiled
namespace Go.Proofs.YtoiglopilpoafaaGreatDoor.Wi
open Go.RowKit
set_option linter.unusedSimpArgs false
set_option linter.unusedVariables false
set_option maxRecDepth 20000

set_option maxHeartbeats 400000 in
theorem catch_raw (b q : Nat) (rest : List UInt8) (c : Int) (w : World) (hb : w.cell? ⟨b, 0, none⟩ = some (rp q)) (hr : Rd w q rest 0) (hc : (c == 0) = false) :
    CallsD Tryz.prog 102 #[.pointer (some ⟨b, 0, none⟩)] (giving c false) w fun e u' w' =>
      e = .returned (.tuple #[]) ∧ u' = giving c true ∧ Rd w' q [] c ∧ Fr (fun k => k = q) w w' := by
  have kf := fun o : Obj => fail_first q rest c (w.alloc o) (hr.keep (Fr.alloc (fun _ => False) w o) (fun f => f) (fun _ _ _ _ f => f)) hc
  have hba : ∀ o : Obj, (w.alloc o).cell? ⟨b, 0, none⟩ = some (rp q) := fun o => (Fr.alloc (fun _ => False) w o).cell hb (fun f => f)
  have hta := assert_gave
  clear hr
  refine callsD_of_wpS Tryz.func102 rfl fun c₀ cs hu => ?_
  have e0 : (#[Value.pointer (some ⟨b, 0, none⟩)] ++ Array.replicate (Tryz.f102.ntmps - (#[Value.pointer (some ⟨b, 0, none⟩)] : Array Value).size) undef) = #[Value.pointer (some ⟨b, 0, none⟩), undef, undef, undef, undef, undef, undef, undef, undef, undef, undef, undef, undef, undef] := rfl
  rw [e0]
  clear e0
  apply wpS_seq
  apply wpS_region
  simp [wpOpsS, go_sem, recoverD, hu, Tryz.ntmps102, Exit.thenS, giving]
  refine wpS_of_wp ?_
  go_wp2_with (go_at_call 76; refine (kf _).mono ?_; rintro e w' ⟨rfl, h1, h2⟩)
  refine ⟨rfl, _, rfl, _, results_none rfl _ _ _, rfl, rfl, h1, (Fr.alloc _ w _).same h2⟩

set_option maxHeartbeats 400000 in
theorem idle_raw (b : Nat) (w : World) :
    CallsD Tryz.prog 102 #[.pointer (some ⟨b, 0, none⟩)] .returning w fun e u' w' => e = .returned (.tuple #[]) ∧ u' = .returning ∧ w' = w := by
  refine callsD_of_wpS Tryz.func102 rfl fun c₀ cs hu => ?_
  have e0 : (#[Value.pointer (some ⟨b, 0, none⟩)] ++ Array.replicate (Tryz.f102.ntmps - (#[Value.pointer (some ⟨b, 0, none⟩)] : Array Value).size) undef) = #[Value.pointer (some ⟨b, 0, none⟩), undef, undef, undef, undef, undef, undef, undef, undef, undef, undef, undef, undef, undef] := rfl
  rw [e0]
  clear e0
  apply wpS_seq
  apply wpS_region
  simp [wpOpsS, go_sem, recoverD, hu, Tryz.ntmps102, Exit.thenS]
  refine wpS_of_wp ?_
  go_wp2
  refine ⟨rfl, .returning, ?_, _, results_none rfl _ _ _, rfl, rfl, rfl⟩
  rw [← hu]

set_option maxHeartbeats 400000 in
theorem face_raw_ok (p0 p1 : Value) (q : Nat) (rest rest' : List UInt8) (A : Value → World → Prop) (w : World) (hr : Rd w q rest 0)
    (kt : Calls Tryz.prog 85 #[p0, p1] (w.alloc (.cells #[rp q] 95)) fun e w' => (∃ v, e = .returned v ∧ A v w') ∧ Rd w' q rest' 0 ∧ Fr (fun k => k = q) (w.alloc (.cells #[rp q] 95)) w') :
    Calls Tryz.prog 84 #[rp q, .func (.func 85) #[] #[p0, p1]] w fun e w' => (∃ v, e = .returned v ∧ A v w') ∧ Rd w' q rest' 0 ∧ Fr (fun k => k = q) w w' := by
  have hmf : ∀ (fn : Fn) (first cap : Array Value) (w : World), (Instr.makeFunc fn first cap).run Tryz.prog w = .ok (.func fn first cap) w := fun _ _ _ _ => rfl
  have ke := fun o : Obj => err_some q rest 0 (w.alloc o) (hr.keep (Fr.alloc (fun _ => False) w o) (fun f => f) (fun _ _ _ _ f => f))
  clear hr
  go_enter_defers Tryz.func84, Tryz.ntmps84
  go_wp2_with (first
    | (go_at_call 58; refine (ke _).mono ?_; rintro e w' ⟨rfl, rfl⟩)
    | (go_at_call 85; refine kt.mono ?_; rintro e w1 ⟨⟨v, rfl, hv⟩, h1, h2⟩))
  refine leaves_cons (f := 102) (args := #[.pointer (some ⟨w.heap.size, 0, none⟩)]) (by simp) (by simp [go_sem]) ?_
  refine (idle_raw w.heap.size _).mono ?_
  rintro e u' w'' ⟨rfl, rfl, rfl⟩
  exact ⟨_, results_tmp rfl _ _ _, ⟨v, rfl, hv⟩, h1, (Fr.alloc _ w _).same h2⟩

set_option maxHeartbeats 400000 in
theorem face_raw_err (p0 p1 : Value) (q : Nat) (rest : List UInt8) (c : Int) (w : World) (hr : Rd w q rest 0) (hc : (c == 0) = false)
    (kt : Calls Tryz.prog 85 #[p0, p1] (w.alloc (.cells #[rp q] 95)) fun e w' => e = giveUp c ∧ (∃ rest', Rd w' q rest' 0) ∧ Fr (fun k => k = q) (w.alloc (.cells #[rp q] 95)) w') :
    Calls Tryz.prog 84 #[rp q, .func (.func 85) #[] #[p0, p1]] w fun e w' => e = .returned (.slice none 0 0) ∧ Rd w' q [] c ∧ Fr (fun k => k = q) w w' := by
  have hmf : ∀ (fn : Fn) (first cap : Array Value) (w : World), (Instr.makeFunc fn first cap).run Tryz.prog w = .ok (.func fn first cap) w := fun _ _ _ _ => rfl
  have ke := fun o : Obj => err_some q rest 0 (w.alloc o) (hr.keep (Fr.alloc (fun _ => False) w o) (fun f => f) (fun _ _ _ _ f => f))
  have hq : q < w.heap.size := by obtain ⟨v, h, _⟩ := hr; exact lt_of_heap h
  clear hr
  unfold giveUp at kt
  go_enter_defers Tryz.func84, Tryz.ntmps84
  go_wp2_with (first
    | (go_at_call 58; refine (ke _).mono ?_; rintro e w' ⟨rfl, rfl⟩)
    | (go_at_call 85; refine kt.mono ?_; rintro e w1 ⟨rfl, ⟨rest', h1⟩, h2⟩))
  refine leaves_cons (f := 102) (args := #[.pointer (some ⟨w.heap.size, 0, none⟩)]) (by simp) (by simp [go_sem]) ?_
  have hb : w1.cell? ⟨w.heap.size, 0, none⟩ = some (rp q) := h2.cell (by simp) (by show ¬ w.heap.size = q; omega)
  refine (catch_raw w.heap.size q rest' c w1 hb h1 hc).mono ?_
  rintro e u' w'' ⟨rfl, rfl, h3, h4⟩
  simp [Leaves, settle, results, Tryz.results84, go_sem, giving]
  exact ⟨h3, (Fr.alloc _ w _).same (h2.same h4)⟩
end Go.Proofs.YtoiglopilpoafaaGreatDoor.Wi

namespace Go.Proofs.YtoiglopilpoafaaGreatDoor.Wi
open Go.RowKit
set_option linter.unusedSimpArgs false
set_option linter.unusedVariables false
set_option maxRecDepth 20000

theorem mkfn (fn : Fn) (first cap : Array Value) (w : World) : (Instr.makeFunc fn first cap).run Tryz.prog w = .ok (.func fn first cap) w := rfl
theorem Rd.later {w w' : World} {q : Nat} {rest : List UInt8} {e : Int} (h : Rd w q rest e) (hf : Fr (fun _ => False) w w') : Rd w' q rest e :=
  h.keep hf (fun f => f) (fun _ _ _ _ f => f)
theorem box1 {w w' : World} {v : Value} {t : TypeId} {n : Nat} (hn : w.heap.size = n) (hf : Fr (fun _ => False) (w.alloc (.cells #[v] t)) w') : w'.cell? ⟨n, 0, none⟩ = some v := by
  subst hn
  have h := hf.heap (alloc_new w _) (fun f => f)
  rw [cell_of_row w' w.heap.size 0 _ _ _ h]
  rfl
/-- It failed. -/
def Failed (q : Nat) (w : World) (zero : Value) (c : Int) (e : Ending) (w' : World) : Prop := e = .returned zero ∧ Rd w' q [] c ∧ Fr (fun k => k = q) w w'
theorem Took.past {q : Nat} {w w1 w' : World} {A : Value → World → Prop} {rest : List UInt8} {e : Ending} (hf : Fr (fun _ => False) w w1) (h : Took q w1 A rest e w') : Took q w A rest e w' := ⟨h.1, h.2.1, (hf.mono (fun _ _ f => f.elim)).same h.2.2⟩
theorem Failed.past {q : Nat} {w w1 w' : World} {z : Value} {c : Int} {e : Ending} (hf : Fr (fun _ => False) w w1) (h : Failed q w1 z c e w') : Failed q w z c e w' := ⟨h.1, h.2.1, (hf.mono (fun _ _ f => f.elim)).same h.2.2⟩

theorem rd_Byte_in (q : Nat) (rest rest' : List UInt8) (A : Value → World → Prop) (w : World) (hr : Rd w q rest 0) (kt : ∀ w1, Rd w1 q rest 0 → Calls Tryz.prog 57 #[rp q] w1 (Took q w1 A rest')) :
    Calls Tryz.prog 36 #[rp q] w (Took q w A rest') := by
  have hmf := mkfn
  have kf := face_byte_ok q rest rest' A w hr (kt _ (hr.later (Fr.alloc _ w _)))
  unfold Took
  clear hr kt
  go_enter Tryz.func36, Tryz.ntmps36
  go_wp2_with (go_at_call 56; refine kf.mono ?_; rintro e w1 ⟨⟨v, rfl, hv⟩, h1, h2⟩)
  go_ret
  exact ⟨⟨_, rfl, hv⟩, h1, h2⟩
theorem rd_Byte_out (q : Nat) (rest : List UInt8) (c : Int) (w : World) (hc : (c == 0) = false) (hr : Rd w q rest 0) (kt : ∀ w1, Rd w1 q rest 0 → Calls Tryz.prog 57 #[rp q] w1 (Gave q w1 c)) :
    Calls Tryz.prog 36 #[rp q] w (Failed q w (.int .u8 0) c) := by
  have hmf := mkfn
  have kf := face_byte_err q rest c w hr hc (kt _ (hr.later (Fr.alloc _ w _)))
  unfold Failed
  clear hr kt
  go_enter Tryz.func36, Tryz.ntmps36
  go_wp2_with (go_at_call 56; refine kf.mono ?_; rintro e w1 ⟨rfl, h1, h2⟩)
  go_ret
  exact ⟨rfl, h1, h2⟩

theorem rd_Int_in (q : Nat) (rest rest' : List UInt8) (A : Value → World → Prop) (w : World) (hr : Rd w q rest 0) (kt : ∀ w1, Rd w1 q rest 0 → Calls Tryz.prog 60 #[rp q] w1 (Took q w1 A rest')) :
    Calls Tryz.prog 38 #[rp q] w (Took q w A rest') := by
  have hmf := mkfn
  have kf := face_int_ok q rest rest' A w hr (kt _ (hr.later (Fr.alloc _ w _)))
  unfold Took
  clear hr kt
  go_enter Tryz.func38, Tryz.ntmps38
  go_wp2_with (go_at_call 59; refine kf.mono ?_; rintro e w1 ⟨⟨v, rfl, hv⟩, h1, h2⟩)
  go_ret
  exact ⟨⟨_, rfl, hv⟩, h1, h2⟩
theorem rd_Int_out (q : Nat) (rest : List UInt8) (c : Int) (w : World) (hc : (c == 0) = false) (hr : Rd w q rest 0) (kt : ∀ w1, Rd w1 q rest 0 → Calls Tryz.prog 60 #[rp q] w1 (Gave q w1 c)) :
    Calls Tryz.prog 38 #[rp q] w (Failed q w (.int .i64 0) c) := by
  have hmf := mkfn
  have kf := face_int_err q rest c w hr hc (kt _ (hr.later (Fr.alloc _ w _)))
  unfold Failed
  clear hr kt
  go_enter Tryz.func38, Tryz.ntmps38
  go_wp2_with (go_at_call 59; refine kf.mono ?_; rintro e w1 ⟨rfl, h1, h2⟩)
  go_ret
  exact ⟨rfl, h1, h2⟩

theorem rd_Long_in (q : Nat) (rest rest' : List UInt8) (A : Value → World → Prop) (w : World) (hr : Rd w q rest 0) (kt : ∀ w1, Rd w1 q rest 0 → Calls Tryz.prog 80 #[rp q] w1 (Took q w1 A rest')) :
    Calls Tryz.prog 62 #[rp q] w (Took q w A rest') := by
  have hmf := mkfn
  have kf := face_long_ok q rest rest' A w hr (kt _ (hr.later (Fr.alloc _ w _)))
  unfold Took
  clear hr kt
  go_enter Tryz.func62, Tryz.ntmps62
  go_wp2_with (go_at_call 79; refine kf.mono ?_; rintro e w1 ⟨⟨v, rfl, hv⟩, h1, h2⟩)
  go_ret
  exact ⟨⟨_, rfl, hv⟩, h1, h2⟩
theorem rd_Long_out (q : Nat) (rest : List UInt8) (c : Int) (w : World) (hc : (c == 0) = false) (hr : Rd w q rest 0) (kt : ∀ w1, Rd w1 q rest 0 → Calls Tryz.prog 80 #[rp q] w1 (Gave q w1 c)) :
    Calls Tryz.prog 62 #[rp q] w (Failed q w (.int .u64 0) c) := by
  have hmf := mkfn
  have kf := face_long_err q rest c w hr hc (kt _ (hr.later (Fr.alloc _ w _)))
  unfold Failed
  clear hr kt
  go_enter Tryz.func62, Tryz.ntmps62
  go_wp2_with (go_at_call 79; refine kf.mono ?_; rintro e w1 ⟨rfl, h1, h2⟩)
  go_ret
  exact ⟨rfl, h1, h2⟩

theorem clo_Raw_in (q b0 b1 : Nat) (A : Value → World → Prop) (rest' : List UInt8) (w : World) (h0 : w.cell? ⟨b0, 0, none⟩ = some (rp q)) (h1 : w.cell? ⟨b1, 0, none⟩ = some (.int .i64 65536)) (kt : Calls Tryz.prog 86 #[rp q, .int .i64 65536] w (Took q w A rest')) :
    Calls Tryz.prog 85 #[.pointer (some ⟨b0, 0, none⟩), .pointer (some ⟨b1, 0, none⟩)] w (Took q w A rest') := by
  have hmf := mkfn
  unfold Took at *
  go_enter Tryz.func85, Tryz.ntmps85
  go_wp2_with (go_at_call 86; refine kt.mono ?_; rintro e w1 ⟨⟨v, rfl, hv⟩, h1', h2'⟩)
  go_ret
  exact ⟨⟨_, rfl, hv⟩, h1', h2'⟩

theorem clo_Raw_out (q b0 b1 : Nat) (c : Int) (w : World) (h0 : w.cell? ⟨b0, 0, none⟩ = some (rp q)) (h1 : w.cell? ⟨b1, 0, none⟩ = some (.int .i64 65536)) (kt : Calls Tryz.prog 86 #[rp q, .int .i64 65536] w (Gave q w c)) :
    Calls Tryz.prog 85 #[.pointer (some ⟨b0, 0, none⟩), .pointer (some ⟨b1, 0, none⟩)] w (Gave q w c) := by
  have hmf := mkfn
  unfold Gave giveUp at *
  go_enter Tryz.func85, Tryz.ntmps85
  go_wp2_with (go_at_call 86; refine kt.mono ?_; rintro e w1 ⟨rfl, h1', h2'⟩)

  exact ⟨rfl, rfl, h1', h2'⟩

set_option maxHeartbeats 400000 in
theorem rd_Raw_in (q : Nat) (rest rest' : List UInt8) (A : Value → World → Prop) (w : World) (hr : Rd w q rest 0) (kt : ∀ w1, Fr (fun _ => False) ((w.alloc (.cells #[rp q] 95)).alloc (.cells #[.int .i64 65536] 3)) w1 → Rd w1 q rest 0 → Calls Tryz.prog 86 #[rp q, .int .i64 65536] w1 (Took q w1 A rest')) :
    Calls Tryz.prog 65 #[rp q, .int .i64 65536] w (Took q w A rest') := by
  have hmf := mkfn
  obtain ⟨W2, hW2⟩ : ∃ W2, ((w.alloc (.cells #[rp q] 95)).alloc (.cells #[.int .i64 65536] 3)) = W2 := ⟨_, rfl⟩
  have hF : Fr (fun _ => False) w W2 := by rw [← hW2]; exact (Fr.alloc _ w _).same (Fr.alloc _ _ _)
  have kf := face_raw_ok (.pointer (some ⟨w.heap.size, 0, none⟩)) (.pointer (some ⟨w.heap.size + 1, 0, none⟩)) q rest rest' A W2 (hr.later hF) (by
    refine clo_Raw_in q w.heap.size (w.heap.size + 1) A rest' _ ?_ ?_ (kt _ (by rw [hW2]; exact Fr.alloc _ _ _) ((hr.later hF).later (Fr.alloc _ _ _)))
    all_goals
      rw [← hW2]
      first
        | exact box1 (w := w) rfl (by repeat (first | exact Fr.alloc _ _ _ | refine Fr.same ?_ (Fr.alloc _ _ _)))
        | exact box1 (w := w.alloc _) (by simp) (by repeat (first | exact Fr.alloc _ _ _ | refine Fr.same ?_ (Fr.alloc _ _ _)))
        | exact box1 (w := ((w.alloc _).alloc _).alloc _) (by simp) (by repeat (first | exact Fr.alloc _ _ _ | refine Fr.same ?_ (Fr.alloc _ _ _))))
  have hF2 : Hidden (Fr (fun _ => False) w W2) := hF
  rw [← hW2] at kf hF2
  unfold Took
  clear hr kt hW2 hF
  go_enter Tryz.func65, Tryz.ntmps65
  go_wp2_with (go_at_call 84; refine kf.mono ?_; rintro e w1 ⟨⟨v, rfl, hv⟩, h1, h2⟩)
  go_ret
  exact ⟨⟨_, rfl, hv⟩, h1, (Fr.mono (show Fr (fun _ => False) w _ from hF2) (fun _ _ f => f.elim)).same h2⟩

set_option maxHeartbeats 400000 in
theorem rd_Raw_out (q : Nat) (rest : List UInt8) (c : Int) (w : World) (hc : (c == 0) = false) (hr : Rd w q rest 0) (kt : ∀ w1, Fr (fun _ => False) ((w.alloc (.cells #[rp q] 95)).alloc (.cells #[.int .i64 65536] 3)) w1 → Rd w1 q rest 0 → Calls Tryz.prog 86 #[rp q, .int .i64 65536] w1 (Gave q w1 c)) :
    Calls Tryz.prog 65 #[rp q, .int .i64 65536] w (Failed q w (.slice none 0 0) c) := by
  have hmf := mkfn
  obtain ⟨W2, hW2⟩ : ∃ W2, ((w.alloc (.cells #[rp q] 95)).alloc (.cells #[.int .i64 65536] 3)) = W2 := ⟨_, rfl⟩
  have hF : Fr (fun _ => False) w W2 := by rw [← hW2]; exact (Fr.alloc _ w _).same (Fr.alloc _ _ _)
  have kf := face_raw_err (.pointer (some ⟨w.heap.size, 0, none⟩)) (.pointer (some ⟨w.heap.size + 1, 0, none⟩)) q rest c W2 (hr.later hF) hc (by
    refine clo_Raw_out q w.heap.size (w.heap.size + 1) c _ ?_ ?_ (kt _ (by rw [hW2]; exact Fr.alloc _ _ _) ((hr.later hF).later (Fr.alloc _ _ _)))
    all_goals
      rw [← hW2]
      first
        | exact box1 (w := w) rfl (by repeat (first | exact Fr.alloc _ _ _ | refine Fr.same ?_ (Fr.alloc _ _ _)))
        | exact box1 (w := w.alloc _) (by simp) (by repeat (first | exact Fr.alloc _ _ _ | refine Fr.same ?_ (Fr.alloc _ _ _)))
        | exact box1 (w := ((w.alloc _).alloc _).alloc _) (by simp) (by repeat (first | exact Fr.alloc _ _ _ | refine Fr.same ?_ (Fr.alloc _ _ _))))
  have hF2 : Hidden (Fr (fun _ => False) w W2) := hF
  rw [← hW2] at kf hF2
  unfold Failed
  clear hr kt hW2 hF
  go_enter Tryz.func65, Tryz.ntmps65
  go_wp2_with (go_at_call 84; refine kf.mono ?_; rintro e w1 ⟨rfl, h1, h2⟩)
  go_ret
  exact ⟨rfl, h1, (Fr.mono (show Fr (fun _ => False) w _ from hF2) (fun _ _ f => f.elim)).same h2⟩
end Go.Proofs.YtoiglopilpoafaaGreatDoor.Wi

namespace Go.Proofs.YtoiglopilpoafaaGreatDoor.Wi
open Go.RowKit
set_option linter.unusedSimpArgs false
set_option linter.unusedVariables false
set_option maxRecDepth 20000

theorem face_byte_dead (pv fv : Value) (c : Int) (w : World) (hc : (c == 0) = false) (hp : ∃ a, pv = .pointer a) (hfv : ∃ x y z, fv = .func x y z)
    (ke : ∀ o : Obj, Calls Tryz.prog 58 #[pv] (w.alloc o) fun e w' => e = .returned (.int .i64 c) ∧ w.alloc o = w') :
    Calls Tryz.prog 56 #[pv, fv] w fun e w' => e = .returned (.int .u8 0) ∧ w' = w.alloc (.cells #[pv] 95) := by
  obtain ⟨a, rfl⟩ := hp
  obtain ⟨x, y, z, rfl⟩ := hfv
  go_enter_defers Tryz.func56, Tryz.ntmps56
  go_wp2_with (go_at_call 58; refine (ke _).mono ?_; rintro e w' ⟨rfl, rfl⟩)
  exact ⟨_, results_tmp rfl _ _ _, rfl, rfl⟩
theorem face_int_dead (pv fv : Value) (c : Int) (w : World) (hc : (c == 0) = false) (hp : ∃ a, pv = .pointer a) (hfv : ∃ x y z, fv = .func x y z)
    (ke : ∀ o : Obj, Calls Tryz.prog 58 #[pv] (w.alloc o) fun e w' => e = .returned (.int .i64 c) ∧ w.alloc o = w') :
    Calls Tryz.prog 59 #[pv, fv] w fun e w' => e = .returned (.int .i64 0) ∧ w' = w.alloc (.cells #[pv] 95) := by
  obtain ⟨a, rfl⟩ := hp
  obtain ⟨x, y, z, rfl⟩ := hfv
  go_enter_defers Tryz.func59, Tryz.ntmps59
  go_wp2_with (go_at_call 58; refine (ke _).mono ?_; rintro e w' ⟨rfl, rfl⟩)
  exact ⟨_, results_tmp rfl _ _ _, rfl, rfl⟩
theorem face_long_dead (pv fv : Value) (c : Int) (w : World) (hc : (c == 0) = false) (hp : ∃ a, pv = .pointer a) (hfv : ∃ x y z, fv = .func x y z)
    (ke : ∀ o : Obj, Calls Tryz.prog 58 #[pv] (w.alloc o) fun e w' => e = .returned (.int .i64 c) ∧ w.alloc o = w') :
    Calls Tryz.prog 79 #[pv, fv] w fun e w' => e = .returned (.int .u64 0) ∧ w' = w.alloc (.cells #[pv] 95) := by
  obtain ⟨a, rfl⟩ := hp
  obtain ⟨x, y, z, rfl⟩ := hfv
  go_enter_defers Tryz.func79, Tryz.ntmps79
  go_wp2_with (go_at_call 58; refine (ke _).mono ?_; rintro e w' ⟨rfl, rfl⟩)
  exact ⟨_, results_tmp rfl _ _ _, rfl, rfl⟩
theorem face_raw_dead (pv fv : Value) (c : Int) (w : World) (hc : (c == 0) = false) (hp : ∃ a, pv = .pointer a) (hfv : ∃ x y z, fv = .func x y z)
    (ke : ∀ o : Obj, Calls Tryz.prog 58 #[pv] (w.alloc o) fun e w' => e = .returned (.int .i64 c) ∧ w.alloc o = w') :
    Calls Tryz.prog 84 #[pv, fv] w fun e w' => e = .returned (.slice none 0 0) ∧ w' = w.alloc (.cells #[pv] 95) := by
  obtain ⟨a, rfl⟩ := hp
  obtain ⟨x, y, z, rfl⟩ := hfv
  go_enter_defers Tryz.func84, Tryz.ntmps84
  go_wp2_with (go_at_call 58; refine (ke _).mono ?_; rintro e w' ⟨rfl, rfl⟩)
  exact ⟨_, results_tmp rfl _ _ _, rfl, rfl⟩
theorem dead_Byte (q : Nat) (rest : List UInt8) (c : Int) (w : World) (hc : (c == 0) = false) (hr : Rd w q rest c) :
    Calls Tryz.prog 36 #[rp q] w fun e w' => e = .returned (.int .u8 0) ∧ Fr (fun _ => False) w w' := by
  have hmf := mkfn
  have kf := fun (fv : Value) (hfv : ∃ x y z, fv = .func x y z) => face_byte_dead (rp q) fv c w hc ⟨_, rfl⟩ hfv (fun o => err_some q rest c (w.alloc o) (hr.later (Fr.alloc _ w _)))
  clear hr
  go_enter Tryz.func36, Tryz.ntmps36
  go_wp2_with (go_at_call 56; refine (kf _ ⟨_, _, _, rfl⟩).mono ?_; rintro e w1 ⟨rfl, rfl⟩)
  go_ret
  exact ⟨rfl, Fr.alloc _ _ _⟩
theorem dead_Int (q : Nat) (rest : List UInt8) (c : Int) (w : World) (hc : (c == 0) = false) (hr : Rd w q rest c) :
    Calls Tryz.prog 38 #[rp q] w fun e w' => e = .returned (.int .i64 0) ∧ Fr (fun _ => False) w w' := by
  have hmf := mkfn
  have kf := fun (fv : Value) (hfv : ∃ x y z, fv = .func x y z) => face_int_dead (rp q) fv c w hc ⟨_, rfl⟩ hfv (fun o => err_some q rest c (w.alloc o) (hr.later (Fr.alloc _ w _)))
  clear hr
  go_enter Tryz.func38, Tryz.ntmps38
  go_wp2_with (go_at_call 59; refine (kf _ ⟨_, _, _, rfl⟩).mono ?_; rintro e w1 ⟨rfl, rfl⟩)
  go_ret
  exact ⟨rfl, Fr.alloc _ _ _⟩
theorem dead_Long (q : Nat) (rest : List UInt8) (c : Int) (w : World) (hc : (c == 0) = false) (hr : Rd w q rest c) :
    Calls Tryz.prog 62 #[rp q] w fun e w' => e = .returned (.int .u64 0) ∧ Fr (fun _ => False) w w' := by
  have hmf := mkfn
  have kf := fun (fv : Value) (hfv : ∃ x y z, fv = .func x y z) => face_long_dead (rp q) fv c w hc ⟨_, rfl⟩ hfv (fun o => err_some q rest c (w.alloc o) (hr.later (Fr.alloc _ w _)))
  clear hr
  go_enter Tryz.func62, Tryz.ntmps62
  go_wp2_with (go_at_call 79; refine (kf _ ⟨_, _, _, rfl⟩).mono ?_; rintro e w1 ⟨rfl, rfl⟩)
  go_ret
  exact ⟨rfl, Fr.alloc _ _ _⟩
theorem dead_Raw (q : Nat) (rest : List UInt8) (c : Int) (w : World) (hc : (c == 0) = false) (hr : Rd w q rest c) :
    Calls Tryz.prog 65 #[rp q, .int .i64 65536] w fun e w' => e = .returned (.slice none 0 0) ∧ Fr (fun _ => False) w w' := by
  have hmf := mkfn
  have kf := fun (fv : Value) (hfv : ∃ x y z, fv = .func x y z) => face_raw_dead (rp q) fv c ((w.alloc (.cells #[rp q] 95)).alloc (.cells #[.int .i64 65536] 3)) hc ⟨_, rfl⟩ hfv (fun o => err_some q rest c _ (((hr.later (Fr.alloc _ w _)).later (Fr.alloc _ _ _)).later (Fr.alloc _ _ _)))
  clear hr
  go_enter Tryz.func65, Tryz.ntmps65
  go_wp2_with (go_at_call 84; refine (kf _ ⟨_, _, _, rfl⟩).mono ?_; rintro e w1 ⟨rfl, rfl⟩)
  go_ret
  exact ⟨rfl, ((Fr.alloc _ _ _).same (Fr.alloc _ _ _)).same (Fr.alloc _ _ _)⟩
end Go.Proofs.YtoiglopilpoafaaGreatDoor.Wi
