/- The document's zero, literal, shaped. -/
import Derived.Test.YteijjaabngkbjaaGreatDoorTrLAll
namespace Go.Proofs.YteijjaabngkbjaaGreatDoor.X
open Go.RowKit Te
set_option linter.unusedSimpArgs false
set_option linter.unusedVariables false

theorem shl12 (a : Int) : IntKind.u64.wrap (a * 4096) = a % 4503599627370496 * 4096 := by rw [IntKind.wrap_u64]; omega
theorem rcanon_any (a : Int) (ha : F.Fl.U a) (w : World) :
    Calls Tryz.prog 214 #[.int .u64 a] w fun e w' => e = .returned (.int .u64 (F.Fl.canonS a)) ∧ w = w' := by
  have k3 := F.and_exp (a / 4503599627370496) ⟨by obtain ⟨_, _⟩ := ha; omega, by obtain ⟨_, _⟩ := ha; omega⟩
  have k4 := shl12 a
  obtain ⟨h0, h1⟩ := ha
  go_enter Tryz.func214, Tryz.ntmps214
  go_wp2
  all_goals
    go_ret
    refine ⟨congrArg (fun z => Ending.returned (.int .u64 z)) ?_, rfl⟩
    try simp only [bne_iff_ne, beq_iff_eq, bne_eq_false_iff_eq, beq_eq_false_iff_ne, ne_eq] at *
    unfold F.Fl.canonS F.Fl.nan
    simp only [decide_eq_true_eq]
    split
    all_goals omega
set_option maxRecDepth 20000 in
theorem lit_any (vt vb : Int) (hb0 : 0 ≤ vb) (hb1 : vb < 18446744073709551616) (r : Bool) (hr : Hidden (litOk F.Fl.canonS vt vb = r)) (w : World) :
    Calls Tryz.prog 174 #[.agg #[ci vt, .int .u64 vb]] w fun e w' => e = .returned (.bool r) ∧ Fr (fun _ => False) w w' := by
  have kc := fun w => (rcanon_any vb ⟨hb0, hb1⟩ w).mono (fun e w' h => (⟨h.1, h.2.symm⟩ : _ ∧ w' = w))
  by_cases h2 : (vt == 2) = true
  · have h1 : (vt == 1) = false := by simp only [beq_iff_eq] at *; simp [h2]
    have e2 : vt = 2 := by simpa using h2
    by_cases hlt : vb < 9223372036854775808
    · have t1 : decide (vb < 9223372036854775808) = true := by simpa using hlt
      have hr1 : Hidden (decide (F.Fl.canonS vb = vb) = r) := by rw [← (show _ = r from hr)]; simp [Hidden, litOk, e2, hlt]
      clear e2 hr
      go_enter Tryz.func174, Tryz.ntmps174
      go_wp2_with fail
      go_quiet ((go_at_call 214; exact Calls.quiet_of_same (kc _)))
      go_wp2_with fail
      go_ret
      refine ⟨ret_bl ?_, drewN_fr (Fr.alloc _ _ _) _⟩
      rw [← (show _ = r from hr1)]
      rfl
    · have t1 : decide (vb < 9223372036854775808) = false := by simpa using hlt
      have hr1 : Hidden (false = r) := by rw [← (show _ = r from hr)]; simp [Hidden, litOk, e2, hlt]
      clear e2 hr
      go_enter Tryz.func174, Tryz.ntmps174
      go_wp2_with fail
      go_quiet ((go_at_call 214; exact Calls.quiet_of_same (kc _)))
      go_wp2_with fail
      go_ret
      exact ⟨ret_bl hr1, drewN_fr (Fr.alloc _ _ _) _⟩
  · have h2' : (vt == 2) = false := by simpa using h2
    clear h2
    go_enter Tryz.func174, Tryz.ntmps174
    go_wp2_with fail
    all_goals (go_ret; refine ⟨ret_bl ?_, Fr.alloc _ _ _⟩; rw [← (show _ = r from hr)]; clear hr)
    all_goals (simp only [beq_iff_eq, beq_eq_false_iff_ne, ne_eq] at *; simp [litOk, *])
theorem valued_any (t : Int) (r : Bool) (hr : Hidden (isTy t = r)) (w : World) : Calls Tryz.prog 88 #[ci t] w fun e w' => e = .returned (.bool r) ∧ w' = w := by
  go_enter Tryz.func88, Tryz.ntmps88
  go_wp2
  all_goals (go_ret; refine ⟨ret_bl ?_, rfl⟩; rw [← (show _ = r from hr)]; clear hr)
  all_goals (simp [isTy, *])

set_option maxRecDepth 20000 in
theorem zero_any (vt vb : Int) (r : Bool) (hr : Hidden (decide (vt = 0 ∧ vb = 0) = r)) (w : World) :
    Calls Tryz.prog 173 #[.agg #[ci vt, .int .u64 vb]] w fun e w' => e = .returned (.bool r) ∧ Fr (fun _ => False) w w' := by
  go_enter Tryz.func173, Tryz.ntmps173
  go_wp2
  all_goals
    go_ret
    refine ⟨ret_bl ?_, Fr.alloc _ _ _⟩
    rw [← (show _ = r from hr)]
    clear hr
    first | (simp [*]; done) | (simp only [beq_iff_eq, beq_eq_false_iff_ne, ne_eq] at *; simp [*]; done) | (rw [Bool.eq_iff_iff]; simp [*]; done)
set_option maxRecDepth 20000 in
set_option maxHeartbeats 4000000 in
theorem shaped_1 (op vt vb : Int) (mod name : Bs) (k : Nat) (hb0 : 0 ≤ vb) (hb1 : vb < 18446744073709551616) (ao : Option Addr) (cap : Nat) (hcap : k ≤ cap) (hmax : cap ≤ 9223372036854775807) (r : Bool) (hr : Hidden (fitsE F.Fl.canonS ⟨1, op, mod, name, vt, vb⟩ k = r)) (w : World) :
    Calls Tryz.prog 134 #[exV ⟨1, op, mod, name, vt, vb⟩ (.slice ao k cap)] w fun e w' => e = .returned (.bool r) ∧ Fr (fun _ => False) w w' := by
  have kl := fun w => lit_any vt vb hb0 hb1 _ rfl w
  have hbx : Hidden ((w.alloc (.cells #[ci 1, ci op, ct mod, ct name, ci vt, .int .u64 vb, .slice ao k cap] 59)).heap[w.heap.size]? = some (.cells #[ci 1, ci op, ct mod, ct name, ci vt, .int .u64 vb, .slice ao k cap] 59 (0, 0))) := alloc_new _ _
  have hr2 : Hidden ((litOk F.Fl.canonS vt vb && decide (op = 0 ∧ mod = [] ∧ name = [] ∧ k = 0)) = r) := hr
  clear hr
  by_cases hall : op = 0 ∧ mod = [] ∧ name = [] ∧ k = 0
  · obtain ⟨rfl, rfl, rfl, rfl⟩ := hall
    have hr3 : Hidden (litOk F.Fl.canonS vt vb = r) := by rw [← (show _ = r from hr2)]; simp [Hidden]
    clear hr2
    generalize litOk F.Fl.canonS vt vb = lo at kl hr3
    go_enter Tryz.func134, Tryz.ntmps134
    go_wp2_with (go_at_call 174; refine (kl _).mono ?_; rintro e w1 ⟨rfl, f1⟩)
    go_ret
    exact ⟨ret_bl hr3, (Fr.alloc _ _ _).same f1⟩
  · have hr3 : Hidden (false = r) := by rw [← (show _ = r from hr2)]; simp [Hidden, hall]
    clear hr2
    have hallH : Hidden (¬ (op = 0 ∧ mod = [] ∧ name = [] ∧ k = 0)) := hall
    clear hall
    go_enter Tryz.func134, Tryz.ntmps134
    go_wp2_with fail
    all_goals (first
      | (go_ret
         exact ⟨ret_bl hr3, Fr.alloc _ _ _⟩)
      | (exfalso
         apply (show ¬ _ from hallH)
         try simp only [bne_iff_ne, bne_eq_false_iff_eq, beq_iff_eq, beq_eq_false_iff_ne, ne_eq] at *
         simp [*]
         done))
set_option maxRecDepth 20000 in
set_option maxHeartbeats 4000000 in
theorem shaped_2 (op vt vb : Int) (mod name : Bs) (k : Nat) (ao : Option Addr) (cap : Nat) (hcap : k ≤ cap) (hmax : cap ≤ 9223372036854775807) (r : Bool) (hr : Hidden (fitsE F.Fl.canonS ⟨2, op, mod, name, vt, vb⟩ k = r)) (w : World) :
    Calls Tryz.prog 134 #[exV ⟨2, op, mod, name, vt, vb⟩ (.slice ao k cap)] w fun e w' => e = .returned (.bool r) ∧ Fr (fun _ => False) w w' := by
  have kz := fun w => zero_any vt vb _ rfl w
  have hbx : Hidden ((w.alloc (.cells #[ci 2, ci op, ct mod, ct name, ci vt, .int .u64 vb, .slice ao k cap] 59)).heap[w.heap.size]? = some (.cells #[ci 2, ci op, ct mod, ct name, ci vt, .int .u64 vb, .slice ao k cap] 59 (0, 0))) := alloc_new _ _
  have hz : (decide (vt = 0 ∧ vb = 0) = true ∧ Hidden (vt = 0 ∧ vb = 0)) ∨ (decide (vt = 0 ∧ vb = 0) = false ∧ Hidden (¬ (vt = 0 ∧ vb = 0))) := by
    by_cases h : vt = 0 ∧ vb = 0
    · exact Or.inl ⟨decide_eq_true h, h⟩
    · exact Or.inr ⟨decide_eq_false h, h⟩
  rcases Classical.em (mod = []) with rfl | hm0
  all_goals rcases hz with ⟨e0, hz⟩ | ⟨e0, hz⟩
  all_goals
    rw [e0] at kz
    clear e0
    go_enter Tryz.func134, Tryz.ntmps134
    go_wp2_with (go_at_call 173; refine (kz _).mono ?_; rintro e w1 ⟨rfl, f1⟩; obtain ⟨c0, c1, c2, c3, c4, c5, c6⟩ := ex_box (f1.heap hbx (fun f => f)))
    all_goals
      go_ret
      refine ⟨ret_bl ?_, ?_⟩
      · rw [← (show _ = r from hr)]
        clear hr kz
        unfold Hidden at hz
        try (obtain ⟨hz1, hz2⟩ := hz)
        try simp only [bne_iff_ne, bne_eq_false_iff_eq, beq_iff_eq, beq_eq_false_iff_ne, ne_eq] at *
        first | (simp [fitsE, *]; done) | (simp [fitsE, *]; omega) | (rw [Bool.eq_iff_iff]; simp [fitsE, *]; done) | (rw [Bool.eq_iff_iff]; simp [fitsE, *]; omega)
      · first | exact Fr.alloc _ _ _ | exact (Fr.alloc _ _ _).same f1
set_option maxRecDepth 20000 in
set_option maxHeartbeats 4000000 in
theorem shaped_3 (op vt vb : Int) (mod name : Bs) (k : Nat) (ao : Option Addr) (cap : Nat) (hcap : k ≤ cap) (hmax : cap ≤ 9223372036854775807) (r : Bool) (hr : Hidden (fitsE F.Fl.canonS ⟨3, op, mod, name, vt, vb⟩ k = r)) (w : World) :
    Calls Tryz.prog 134 #[exV ⟨3, op, mod, name, vt, vb⟩ (.slice ao k cap)] w fun e w' => e = .returned (.bool r) ∧ Fr (fun _ => False) w w' := by
  have kz := fun w => zero_any vt vb _ rfl w
  have hbx : Hidden ((w.alloc (.cells #[ci 3, ci op, ct mod, ct name, ci vt, .int .u64 vb, .slice ao k cap] 59)).heap[w.heap.size]? = some (.cells #[ci 3, ci op, ct mod, ct name, ci vt, .int .u64 vb, .slice ao k cap] 59 (0, 0))) := alloc_new _ _
  have hz : (decide (vt = 0 ∧ vb = 0) = true ∧ Hidden (vt = 0 ∧ vb = 0)) ∨ (decide (vt = 0 ∧ vb = 0) = false ∧ Hidden (¬ (vt = 0 ∧ vb = 0))) := by
    by_cases h : vt = 0 ∧ vb = 0
    · exact Or.inl ⟨decide_eq_true h, h⟩
    · exact Or.inr ⟨decide_eq_false h, h⟩
  rcases hz with ⟨e0, hz⟩ | ⟨e0, hz⟩
  all_goals
    rw [e0] at kz
    clear e0
    go_enter Tryz.func134, Tryz.ntmps134
    go_wp2_with (go_at_call 173; refine (kz _).mono ?_; rintro e w1 ⟨rfl, f1⟩; obtain ⟨c0, c1, c2, c3, c4, c5, c6⟩ := ex_box (f1.heap hbx (fun f => f)))
    all_goals
      go_ret
      refine ⟨ret_bl ?_, ?_⟩
      · rw [← (show _ = r from hr)]
        clear hr kz
        unfold Hidden at hz
        try (obtain ⟨hz1, hz2⟩ := hz)
        try simp only [bne_iff_ne, bne_eq_false_iff_eq, beq_iff_eq, beq_eq_false_iff_ne, ne_eq] at *
        first | (simp [fitsE, *]; done) | (simp [fitsE, *]; omega) | (rw [Bool.eq_iff_iff]; simp [fitsE, *]; done) | (rw [Bool.eq_iff_iff]; simp [fitsE, *]; omega)
      · first | exact Fr.alloc _ _ _ | exact (Fr.alloc _ _ _).same f1
set_option maxRecDepth 20000 in
set_option maxHeartbeats 4000000 in
theorem shaped_4 (op vt vb : Int) (mod name : Bs) (k : Nat) (ao : Option Addr) (cap : Nat) (hcap : k ≤ cap) (hmax : cap ≤ 9223372036854775807) (r : Bool) (hr : Hidden (fitsE F.Fl.canonS ⟨4, op, mod, name, vt, vb⟩ k = r)) (w : World) :
    Calls Tryz.prog 134 #[exV ⟨4, op, mod, name, vt, vb⟩ (.slice ao k cap)] w fun e w' => e = .returned (.bool r) ∧ Fr (fun _ => False) w w' := by
  have kz := fun w => zero_any vt vb _ rfl w
  have hbx : Hidden ((w.alloc (.cells #[ci 4, ci op, ct mod, ct name, ci vt, .int .u64 vb, .slice ao k cap] 59)).heap[w.heap.size]? = some (.cells #[ci 4, ci op, ct mod, ct name, ci vt, .int .u64 vb, .slice ao k cap] 59 (0, 0))) := alloc_new _ _
  have hz : (decide (vt = 0 ∧ vb = 0) = true ∧ Hidden (vt = 0 ∧ vb = 0)) ∨ (decide (vt = 0 ∧ vb = 0) = false ∧ Hidden (¬ (vt = 0 ∧ vb = 0))) := by
    by_cases h : vt = 0 ∧ vb = 0
    · exact Or.inl ⟨decide_eq_true h, h⟩
    · exact Or.inr ⟨decide_eq_false h, h⟩
  rcases Classical.em (mod = []) with rfl | hm0
  all_goals rcases hz with ⟨e0, hz⟩ | ⟨e0, hz⟩
  all_goals
    rw [e0] at kz
    clear e0
    go_enter Tryz.func134, Tryz.ntmps134
    go_wp2_with (go_at_call 173; refine (kz _).mono ?_; rintro e w1 ⟨rfl, f1⟩; obtain ⟨c0, c1, c2, c3, c4, c5, c6⟩ := ex_box (f1.heap hbx (fun f => f)))
    all_goals
      go_ret
      refine ⟨ret_bl ?_, ?_⟩
      · rw [← (show _ = r from hr)]
        clear hr kz
        unfold Hidden at hz
        try (obtain ⟨hz1, hz2⟩ := hz)
        try simp only [bne_iff_ne, bne_eq_false_iff_eq, beq_iff_eq, beq_eq_false_iff_ne, ne_eq] at *
        first | (simp [fitsE, *]; done) | (simp [fitsE, *]; omega) | (rw [Bool.eq_iff_iff]; simp [fitsE, *]; done) | (rw [Bool.eq_iff_iff]; simp [fitsE, *]; omega)
      · first | exact Fr.alloc _ _ _ | exact (Fr.alloc _ _ _).same f1
set_option maxRecDepth 20000 in
set_option maxHeartbeats 4000000 in
theorem shaped_5 (op vt vb : Int) (mod name : Bs) (k : Nat) (ao : Option Addr) (cap : Nat) (hcap : k ≤ cap) (hmax : cap ≤ 9223372036854775807) (r : Bool) (hr : Hidden (fitsE F.Fl.canonS ⟨5, op, mod, name, vt, vb⟩ k = r)) (w : World) :
    Calls Tryz.prog 134 #[exV ⟨5, op, mod, name, vt, vb⟩ (.slice ao k cap)] w fun e w' => e = .returned (.bool r) ∧ Fr (fun _ => False) w w' := by
  have kz := fun w => zero_any vt vb _ rfl w
  have hbx : Hidden ((w.alloc (.cells #[ci 5, ci op, ct mod, ct name, ci vt, .int .u64 vb, .slice ao k cap] 59)).heap[w.heap.size]? = some (.cells #[ci 5, ci op, ct mod, ct name, ci vt, .int .u64 vb, .slice ao k cap] 59 (0, 0))) := alloc_new _ _
  have hz : (decide (vt = 0 ∧ vb = 0) = true ∧ Hidden (vt = 0 ∧ vb = 0)) ∨ (decide (vt = 0 ∧ vb = 0) = false ∧ Hidden (¬ (vt = 0 ∧ vb = 0))) := by
    by_cases h : vt = 0 ∧ vb = 0
    · exact Or.inl ⟨decide_eq_true h, h⟩
    · exact Or.inr ⟨decide_eq_false h, h⟩
  rcases hz with ⟨e0, hz⟩ | ⟨e0, hz⟩
  all_goals
    rw [e0] at kz
    clear e0
    go_enter Tryz.func134, Tryz.ntmps134
    go_wp2_with (go_at_call 173; refine (kz _).mono ?_; rintro e w1 ⟨rfl, f1⟩; obtain ⟨c0, c1, c2, c3, c4, c5, c6⟩ := ex_box (f1.heap hbx (fun f => f)))
    all_goals
      go_ret
      refine ⟨ret_bl ?_, ?_⟩
      · rw [← (show _ = r from hr)]
        clear hr kz
        unfold Hidden at hz
        try (obtain ⟨hz1, hz2⟩ := hz)
        try simp only [bne_iff_ne, bne_eq_false_iff_eq, beq_iff_eq, beq_eq_false_iff_ne, ne_eq] at *
        first | (simp [fitsE, *]; done) | (simp [fitsE, *]; omega) | (rw [Bool.eq_iff_iff]; simp [fitsE, *]; done) | (rw [Bool.eq_iff_iff]; simp [fitsE, *]; omega)
      · first | exact Fr.alloc _ _ _ | exact (Fr.alloc _ _ _).same f1
set_option maxRecDepth 20000 in
set_option maxHeartbeats 4000000 in
theorem shaped_6 (op vt vb : Int) (mod name : Bs) (k : Nat) (ao : Option Addr) (cap : Nat) (hcap : k ≤ cap) (hmax : cap ≤ 9223372036854775807) (r : Bool) (hr : Hidden (fitsE F.Fl.canonS ⟨6, op, mod, name, vt, vb⟩ k = r)) (w : World) :
    Calls Tryz.prog 134 #[exV ⟨6, op, mod, name, vt, vb⟩ (.slice ao k cap)] w fun e w' => e = .returned (.bool r) ∧ Fr (fun _ => False) w w' := by
  have kz := fun w => zero_any vt vb _ rfl w
  have hbx : Hidden ((w.alloc (.cells #[ci 6, ci op, ct mod, ct name, ci vt, .int .u64 vb, .slice ao k cap] 59)).heap[w.heap.size]? = some (.cells #[ci 6, ci op, ct mod, ct name, ci vt, .int .u64 vb, .slice ao k cap] 59 (0, 0))) := alloc_new _ _
  have hz : (decide (vt = 0 ∧ vb = 0) = true ∧ Hidden (vt = 0 ∧ vb = 0)) ∨ (decide (vt = 0 ∧ vb = 0) = false ∧ Hidden (¬ (vt = 0 ∧ vb = 0))) := by
    by_cases h : vt = 0 ∧ vb = 0
    · exact Or.inl ⟨decide_eq_true h, h⟩
    · exact Or.inr ⟨decide_eq_false h, h⟩
  rcases Classical.em (name = []) with rfl | hn0
  all_goals rcases Classical.em (mod = []) with rfl | hm0
  all_goals rcases hz with ⟨e0, hz⟩ | ⟨e0, hz⟩
  all_goals
    rw [e0] at kz
    clear e0
    go_enter Tryz.func134, Tryz.ntmps134
    go_wp2_with (go_at_call 173; refine (kz _).mono ?_; rintro e w1 ⟨rfl, f1⟩; obtain ⟨c0, c1, c2, c3, c4, c5, c6⟩ := ex_box (f1.heap hbx (fun f => f)))
    all_goals
      go_ret
      refine ⟨ret_bl ?_, ?_⟩
      · rw [← (show _ = r from hr)]
        clear hr kz
        unfold Hidden at hz
        try (obtain ⟨hz1, hz2⟩ := hz)
        try simp only [bne_iff_ne, bne_eq_false_iff_eq, beq_iff_eq, beq_eq_false_iff_ne, ne_eq] at *
        first | (simp [fitsE, *]; done) | (simp [fitsE, *]; omega) | (rw [Bool.eq_iff_iff]; simp [fitsE, *]; done) | (rw [Bool.eq_iff_iff]; simp [fitsE, *]; omega)
      · first | exact Fr.alloc _ _ _ | exact (Fr.alloc _ _ _).same f1
set_option maxRecDepth 20000 in
set_option maxHeartbeats 4000000 in
theorem shaped_7 (op vt vb : Int) (mod name : Bs) (k : Nat) (ao : Option Addr) (cap : Nat) (hcap : k ≤ cap) (hmax : cap ≤ 9223372036854775807) (r : Bool) (hr : Hidden (fitsE F.Fl.canonS ⟨7, op, mod, name, vt, vb⟩ k = r)) (w : World) :
    Calls Tryz.prog 134 #[exV ⟨7, op, mod, name, vt, vb⟩ (.slice ao k cap)] w fun e w' => e = .returned (.bool r) ∧ Fr (fun _ => False) w w' := by
  have kz := fun w => zero_any vt vb _ rfl w
  have hbx : Hidden ((w.alloc (.cells #[ci 7, ci op, ct mod, ct name, ci vt, .int .u64 vb, .slice ao k cap] 59)).heap[w.heap.size]? = some (.cells #[ci 7, ci op, ct mod, ct name, ci vt, .int .u64 vb, .slice ao k cap] 59 (0, 0))) := alloc_new _ _
  have hz : (decide (vt = 0 ∧ vb = 0) = true ∧ Hidden (vt = 0 ∧ vb = 0)) ∨ (decide (vt = 0 ∧ vb = 0) = false ∧ Hidden (¬ (vt = 0 ∧ vb = 0))) := by
    by_cases h : vt = 0 ∧ vb = 0
    · exact Or.inl ⟨decide_eq_true h, h⟩
    · exact Or.inr ⟨decide_eq_false h, h⟩
  rcases Classical.em (name = []) with rfl | hn0
  all_goals rcases Classical.em (mod = []) with rfl | hm0
  all_goals rcases hz with ⟨e0, hz⟩ | ⟨e0, hz⟩
  all_goals
    rw [e0] at kz
    clear e0
    go_enter Tryz.func134, Tryz.ntmps134
    go_wp2_with (go_at_call 173; refine (kz _).mono ?_; rintro e w1 ⟨rfl, f1⟩; obtain ⟨c0, c1, c2, c3, c4, c5, c6⟩ := ex_box (f1.heap hbx (fun f => f)))
    all_goals
      go_ret
      refine ⟨ret_bl ?_, ?_⟩
      · rw [← (show _ = r from hr)]
        clear hr kz
        unfold Hidden at hz
        try (obtain ⟨hz1, hz2⟩ := hz)
        try simp only [bne_iff_ne, bne_eq_false_iff_eq, beq_iff_eq, beq_eq_false_iff_ne, ne_eq] at *
        first | (simp [fitsE, *]; done) | (simp [fitsE, *]; omega) | (rw [Bool.eq_iff_iff]; simp [fitsE, *]; done) | (rw [Bool.eq_iff_iff]; simp [fitsE, *]; omega)
      · first | exact Fr.alloc _ _ _ | exact (Fr.alloc _ _ _).same f1
set_option maxRecDepth 20000 in
set_option maxHeartbeats 4000000 in
theorem shaped_8 (op vt vb : Int) (mod name : Bs) (k : Nat) (ao : Option Addr) (cap : Nat) (hcap : k ≤ cap) (hmax : cap ≤ 9223372036854775807) (r : Bool) (hr : Hidden (fitsE F.Fl.canonS ⟨8, op, mod, name, vt, vb⟩ k = r)) (w : World) :
    Calls Tryz.prog 134 #[exV ⟨8, op, mod, name, vt, vb⟩ (.slice ao k cap)] w fun e w' => e = .returned (.bool r) ∧ Fr (fun _ => False) w w' := by
  have kz := fun w => zero_any vt vb _ rfl w
  have hbx : Hidden ((w.alloc (.cells #[ci 8, ci op, ct mod, ct name, ci vt, .int .u64 vb, .slice ao k cap] 59)).heap[w.heap.size]? = some (.cells #[ci 8, ci op, ct mod, ct name, ci vt, .int .u64 vb, .slice ao k cap] 59 (0, 0))) := alloc_new _ _
  have hz : (decide (vt = 0 ∧ vb = 0) = true ∧ Hidden (vt = 0 ∧ vb = 0)) ∨ (decide (vt = 0 ∧ vb = 0) = false ∧ Hidden (¬ (vt = 0 ∧ vb = 0))) := by
    by_cases h : vt = 0 ∧ vb = 0
    · exact Or.inl ⟨decide_eq_true h, h⟩
    · exact Or.inr ⟨decide_eq_false h, h⟩
  rcases Classical.em (name = []) with rfl | hn0
  all_goals rcases Classical.em (mod = []) with rfl | hm0
  all_goals rcases hz with ⟨e0, hz⟩ | ⟨e0, hz⟩
  all_goals
    rw [e0] at kz
    clear e0
    go_enter Tryz.func134, Tryz.ntmps134
    go_wp2_with (go_at_call 173; refine (kz _).mono ?_; rintro e w1 ⟨rfl, f1⟩; obtain ⟨c0, c1, c2, c3, c4, c5, c6⟩ := ex_box (f1.heap hbx (fun f => f)))
    all_goals
      go_ret
      refine ⟨ret_bl ?_, ?_⟩
      · rw [← (show _ = r from hr)]
        clear hr kz
        unfold Hidden at hz
        try (obtain ⟨hz1, hz2⟩ := hz)
        try simp only [bne_iff_ne, bne_eq_false_iff_eq, beq_iff_eq, beq_eq_false_iff_ne, ne_eq] at *
        first | (simp [fitsE, *]; done) | (simp [fitsE, *]; omega) | (rw [Bool.eq_iff_iff]; simp [fitsE, *]; done) | (rw [Bool.eq_iff_iff]; simp [fitsE, *]; omega)
      · first | exact Fr.alloc _ _ _ | exact (Fr.alloc _ _ _).same f1
set_option maxRecDepth 20000 in
set_option maxHeartbeats 4000000 in
theorem shaped_no (kind op vt vb : Int) (mod name : Bs) (k : Nat) (hk : ¬ (1 ≤ kind ∧ kind ≤ 8)) (ao : Option Addr) (cap : Nat) (hcap : k ≤ cap) (hmax : cap ≤ 9223372036854775807) (r : Bool) (hr : Hidden (fitsE F.Fl.canonS ⟨kind, op, mod, name, vt, vb⟩ k = r)) (w : World) :
    Calls Tryz.prog 134 #[exV ⟨kind, op, mod, name, vt, vb⟩ (.slice ao k cap)] w fun e w' => e = .returned (.bool r) ∧ Fr (fun _ => False) w w' := by
  have n1 : (kind == 1) = false := by simp only [beq_eq_false_iff_ne, ne_eq]; omega
  have n2 : (kind == 2) = false := by simp only [beq_eq_false_iff_ne, ne_eq]; omega
  have n3 : (kind == 3) = false := by simp only [beq_eq_false_iff_ne, ne_eq]; omega
  have n4 : (kind == 4) = false := by simp only [beq_eq_false_iff_ne, ne_eq]; omega
  have n5 : (kind == 5) = false := by simp only [beq_eq_false_iff_ne, ne_eq]; omega
  have n6 : (kind == 6) = false := by simp only [beq_eq_false_iff_ne, ne_eq]; omega
  have n7 : (kind == 7) = false := by simp only [beq_eq_false_iff_ne, ne_eq]; omega
  have n8 : (kind == 8) = false := by simp only [beq_eq_false_iff_ne, ne_eq]; omega
  have p1 : (kind != 1) = true := by rw [bne, n1]; rfl
  have p6 : (kind != 6) = true := by rw [bne, n6]; rfl
  have p7 : (kind != 7) = true := by rw [bne, n7]; rfl
  have hr2 : Hidden (false = r) := by
    rw [← (show _ = r from hr)]
    simp only [beq_eq_false_iff_ne, ne_eq] at n1 n2 n3 n4 n5 n6 n7 n8
    simp [Hidden, fitsE, n1, n2, n3, n4, n5, n6, n7, n8]
  clear hr hk
  have kz := fun w => zero_any vt vb _ rfl w
  have hbx : Hidden ((w.alloc (.cells #[ci kind, ci op, ct mod, ct name, ci vt, .int .u64 vb, .slice ao k cap] 59)).heap[w.heap.size]? = some (.cells #[ci kind, ci op, ct mod, ct name, ci vt, .int .u64 vb, .slice ao k cap] 59 (0, 0))) := alloc_new _ _
  rcases Classical.em (name = []) with rfl | hn0
  all_goals rcases Classical.em (mod = []) with rfl | hm0
  all_goals cases e0 : decide (vt = 0 ∧ vb = 0)
  all_goals
    rw [e0] at kz
    clear e0
    go_enter Tryz.func134, Tryz.ntmps134
    go_wp2_with (go_at_call 173; refine (kz _).mono ?_; rintro e w1 ⟨rfl, f1⟩; obtain ⟨c0, c1, c2, c3, c4, c5, c6⟩ := ex_box (f1.heap hbx (fun f => f)))
    all_goals
      go_ret
      refine ⟨ret_bl hr2, ?_⟩
      first | exact Fr.alloc _ _ _ | exact (Fr.alloc _ _ _).same f1
theorem shaped_any (h : EH) (k : Nat) (hok : OkE h) (ao : Option Addr) (cap : Nat) (hcap : k ≤ cap) (hmax : cap ≤ 9223372036854775807) (r : Bool) (hr : fitsE F.Fl.canonS h k = r) (w : World) :
    Calls Tryz.prog 134 #[exV h (.slice ao k cap)] w fun e w' => e = .returned (.bool r) ∧ Fr (fun _ => False) w w' := by
  obtain ⟨kind, op, mod, name, vt, vb⟩ := h
  by_cases hk : 1 ≤ kind ∧ kind ≤ 8
  · obtain rfl | rfl | rfl | rfl | rfl | rfl | rfl | rfl : kind = 1 ∨ kind = 2 ∨ kind = 3 ∨ kind = 4 ∨ kind = 5 ∨ kind = 6 ∨ kind = 7 ∨ kind = 8 := by omega
    · exact shaped_1 op vt vb mod name k hok.vb0 hok.vb1 ao cap hcap hmax r hr w
    · exact shaped_2 op vt vb mod name k ao cap hcap hmax r hr w
    · exact shaped_3 op vt vb mod name k ao cap hcap hmax r hr w
    · exact shaped_4 op vt vb mod name k ao cap hcap hmax r hr w
    · exact shaped_5 op vt vb mod name k ao cap hcap hmax r hr w
    · exact shaped_6 op vt vb mod name k ao cap hcap hmax r hr w
    · exact shaped_7 op vt vb mod name k ao cap hcap hmax r hr w
    · exact shaped_8 op vt vb mod name k ao cap hcap hmax r hr w
  · exact shaped_no kind op vt vb mod name k hk ao cap hcap hmax r hr w
end Go.Proofs.YteijjaabngkbjaaGreatDoor.X
