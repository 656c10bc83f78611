/- What a site tells: told, taken, put, stackBehind. -/
import Derived.Test.YtphpmaimgndjmaaDoorCdK
import Derived.Test.YtphpmaimgndjmaaDoorCdH
namespace Go.Proofs.YtphpmaimgndjmaaDoor.Cd
open Go.RowKit Ty
set_option linter.unusedSimpArgs false
set_option linter.unusedVariables false

set_option maxRecDepth 20000 in
set_option maxHeartbeats 1000000 in
theorem told_int (q : Nat) (op N t b by' lo' hi' nu ta pu tr : Int) (nm : Bs) (en : Bool)  (w : World) : Calls Tryd.prog 79 #[.pointer (some ⟨q, 0, none⟩), .agg #[ci op, ci N, ci t, .int .u64 b], .agg #[ct nm, ci by', ci lo', ci hi', ci nu, ci ta, ci pu, ci tr, .bool en], ci 3] w fun e w' => e = .returned (ct (encSt (oneS 1))) ∧ Fr (fun _ => False) w w' := by
  have ks := fun W => single_any 1 (Or.inr (by decide)) W
  generalize encSt (oneS 1) = T at ks ⊢
  go_enter Tryd.func79, Tryd.ntmps79
  go_wp2_with (go_at_call 56; refine (ks _).mono ?_; rintro e w1 ⟨rfl, f1⟩)
  go_ret
  exact ⟨rfl, ((Fr.alloc _ _ _).same (Fr.alloc _ _ _)).same f1⟩
set_option maxRecDepth 20000 in
set_option maxHeartbeats 1000000 in
theorem told_bool (q : Nat) (op N t b by' lo' hi' nu ta pu tr : Int) (nm : Bs) (en : Bool)  (w : World) : Calls Tryd.prog 79 #[.pointer (some ⟨q, 0, none⟩), .agg #[ci op, ci N, ci t, .int .u64 b], .agg #[ct nm, ci by', ci lo', ci hi', ci nu, ci ta, ci pu, ci tr, .bool en], ci 4] w fun e w' => e = .returned (ct (encSt (oneS 3))) ∧ Fr (fun _ => False) w w' := by
  have ks := fun W => single_any 3 (Or.inr (by decide)) W
  generalize encSt (oneS 3) = T at ks ⊢
  go_enter Tryd.func79, Tryd.ntmps79
  go_wp2_with (go_at_call 56; refine (ks _).mono ?_; rintro e w1 ⟨rfl, f1⟩)
  go_ret
  exact ⟨rfl, ((Fr.alloc _ _ _).same (Fr.alloc _ _ _)).same f1⟩
set_option maxRecDepth 20000 in
set_option maxHeartbeats 1000000 in
theorem told_val (q : Nat) (op N t b by' lo' hi' nu ta pu tr : Int) (nm : Bs) (en : Bool) (ht : t = 0 ∨ valued t = true) (w : World) : Calls Tryd.prog 79 #[.pointer (some ⟨q, 0, none⟩), .agg #[ci op, ci N, ci t, .int .u64 b], .agg #[ct nm, ci by', ci lo', ci hi', ci nu, ci ta, ci pu, ci tr, .bool en], ci 5] w fun e w' => e = .returned (ct (encSt (oneS t))) ∧ Fr (fun _ => False) w w' := by
  have ks := fun W => single_any t ht W
  generalize encSt (oneS t) = T at ks ⊢
  go_enter Tryd.func79, Tryd.ntmps79
  go_wp2_with (go_at_call 56; refine (ks _).mono ?_; rintro e w1 ⟨rfl, f1⟩)
  go_ret
  exact ⟨rfl, ((Fr.alloc _ _ _).same (Fr.alloc _ _ _)).same f1⟩
set_option maxRecDepth 20000 in
set_option maxHeartbeats 1000000 in
theorem told_own (q : Nat) (op N t b by' lo' hi' nu ta pu tr : Int) (nm : Bs) (en : Bool) (r : Int) (hr : r = 0 ∨ valued r = true) (w : World) (hc : ∀ W, Fr (fun _ => False) w W → W.cell? ⟨q, 1, none⟩ = some (ci r)) : Calls Tryd.prog 79 #[.pointer (some ⟨q, 0, none⟩), .agg #[ci op, ci N, ci t, .int .u64 b], .agg #[ct nm, ci by', ci lo', ci hi', ci nu, ci ta, ci pu, ci tr, .bool en], ci 9] w fun e w' => e = .returned (ct (encSt (oneS r))) ∧ Fr (fun _ => False) w w' := by
  have ks := fun W => single_any r hr W
  generalize encSt (oneS r) = T at ks ⊢
  have c1 := hc ((w.alloc (.cells #[ci op, ci N, ci t, .int .u64 b] 50 (0, 0))).alloc (.cells #[ct nm, ci by', ci lo', ci hi', ci nu, ci ta, ci pu, ci tr, .bool en] 79 (0, 0))) ((Fr.alloc _ _ _).same (Fr.alloc _ _ _))
  clear hc hr
  go_enter Tryd.func79, Tryd.ntmps79
  go_wp2_with (go_at_call 56; refine (ks _).mono ?_; rintro e w1 ⟨rfl, f1⟩)
  go_ret
  exact ⟨rfl, ((Fr.alloc _ _ _).same (Fr.alloc _ _ _)).same f1⟩
set_option maxRecDepth 20000 in
set_option maxHeartbeats 1000000 in
theorem told_none (q : Nat) (op N t b by' lo' hi' nu ta pu tr : Int) (nm : Bs) (en : Bool) (k : Int) (hk : (k == 3) = false ∧ (k == 4) = false ∧ (k == 5) = false ∧ (k == 6) = false ∧ (k == 7) = false ∧ (k == 8) = false ∧ (k == 9) = false) (w : World) : Calls Tryd.prog 79 #[.pointer (some ⟨q, 0, none⟩), .agg #[ci op, ci N, ci t, .int .u64 b], .agg #[ct nm, ci by', ci lo', ci hi', ci nu, ci ta, ci pu, ci tr, .bool en], ci k] w fun e w' => e = .returned (ct ([])) ∧ Fr (fun _ => False) w w' := by
  obtain ⟨h3, h4, h5, h6, h7, h8, h9⟩ := hk
  go_enter Tryd.func79, Tryd.ntmps79
  go_wp2
  go_ret
  exact ⟨rfl, (Fr.alloc _ _ _).same (Fr.alloc _ _ _)⟩
/-- What is taken: from the top, or as it is told. -/
def takenT (ta : Int) (s T : Bs) : Bs × Bool := if ta = 1 then (if s.length < 1 then [] else s.drop (s.length - 1), decide (1 ≤ s.length)) else if ta = 2 then (if s.length < 2 then [] else s.drop (s.length - 2), decide (2 ≤ s.length)) else (T, Lib.hasSuffix s T)
set_option maxRecDepth 20000 in
set_option maxHeartbeats 1000000 in
theorem taken_any (q : Nat) (op N t b by' lo' hi' nu ta pu tr : Int) (nm : Bs) (en : Bool) (s T : Bs) (hs : s.length ≤ 100000) (w : World) (kt : ta ≠ 1 → ta ≠ 2 → ∀ W, Fr (fun _ => False) w W → Calls Tryd.prog 79 #[.pointer (some ⟨q, 0, none⟩), .agg #[ci op, ci N, ci t, .int .u64 b], .agg #[ct nm, ci by', ci lo', ci hi', ci nu, ci ta, ci pu, ci tr, .bool en], ci ta] W fun e w' => e = .returned (ct T) ∧ Fr (fun _ => False) W w') :
    Calls Tryd.prog 66 #[.pointer (some ⟨q, 0, none⟩), .agg #[ci op, ci N, ci t, .int .u64 b], .agg #[ct nm, ci by', ci lo', ci hi', ci nu, ci ta, ci pu, ci tr, .bool en], ct s] w fun e w' => e = .returned (.tuple #[ct (takenT ta s T).1, .bool (takenT ta s T).2]) ∧ Fr (fun _ => False) w w' := by
  by_cases h1 : ta = 1
  · subst h1
    have kp := fun W => top_any s 1 hs (by decide) W
    have e : takenT 1 s T = (if s.length < 1 then [] else s.drop (s.length - 1), decide (1 ≤ s.length)) := rfl
    rw [← e] at *
    have ke : ∀ W, Calls Tryd.prog 78 #[ct s, ci 1] W fun e w' => e = .returned (.tuple #[ct (takenT 1 s T).1, .bool (takenT 1 s T).2]) ∧ w' = W := kp
    generalize takenT 1 s T = R at ke ⊢
    clear kp e kt
    go_enter Tryd.func66, Tryd.ntmps66
    go_wp2_with (go_at_call 78; refine (ke _).mono ?_; rintro e w1 ⟨rfl, rfl⟩)
    go_ret2
    exact ⟨rfl, (Fr.alloc _ _ _).same (Fr.alloc _ _ _)⟩
  by_cases h2 : ta = 2
  · subst h2
    have kp := fun W => top_any s 2 hs (by decide) W
    have ke : ∀ W, Calls Tryd.prog 78 #[ct s, ci 2] W fun e w' => e = .returned (.tuple #[ct (takenT 2 s T).1, .bool (takenT 2 s T).2]) ∧ w' = W := kp
    generalize takenT 2 s T = R at ke ⊢
    clear kp kt h1
    go_enter Tryd.func66, Tryd.ntmps66
    go_wp2_with (go_at_call 78; refine (ke _).mono ?_; rintro e w1 ⟨rfl, rfl⟩)
    go_ret2
    exact ⟨rfl, (Fr.alloc _ _ _).same (Fr.alloc _ _ _)⟩
  · have e : takenT ta s T = (T, Lib.hasSuffix s T) := by unfold takenT; rw [if_neg h1, if_neg h2]
    have kh := fun W => Tryd.strings_HasSuffix ⟨s.toArray⟩ ⟨T.toArray⟩ W (by simp [ByteArray.size]; omega)
    have b1 : (ta == 1) = false := by simp [h1]
    have b2 : (ta == 2) = false := by simp [h2]
    rw [e]
    simp only [] at kh
    generalize Lib.hasSuffix s T = R at kh ⊢
    have ktV := kt h1 h2
    clear kt h1 h2 e
    go_enter Tryd.func66, Tryd.ntmps66
    go_wp2_with (first
      | (go_at_call 79; refine (ktV _ ((Fr.alloc _ _ _).same (Fr.alloc _ _ _))).mono ?_; rintro e w1 ⟨rfl, f1⟩)
      | (go_at_call 80; refine (kh _).mono ?_; rintro e w2 ⟨rfl, rfl⟩))
    go_ret2
    exact ⟨rfl, ((Fr.alloc _ _ _).same (Fr.alloc _ _ _)).same f1⟩
set_option maxRecDepth 20000 in
set_option maxHeartbeats 1000000 in
theorem put_told (q : Nat) (op N t b by' lo' hi' nu ta pu tr : Int) (nm : Bs) (en : Bool) (s T : Bs) (hpu : (pu == 10) = false) (w : World) (kt : ∀ W, Fr (fun _ => False) w W → Calls Tryd.prog 79 #[.pointer (some ⟨q, 0, none⟩), .agg #[ci op, ci N, ci t, .int .u64 b], .agg #[ct nm, ci by', ci lo', ci hi', ci nu, ci ta, ci pu, ci tr, .bool en], ci pu] W fun e w' => e = .returned (ct T) ∧ Fr (fun _ => False) W w') :
    Calls Tryd.prog 67 #[.pointer (some ⟨q, 0, none⟩), .agg #[ci op, ci N, ci t, .int .u64 b], .agg #[ct nm, ci by', ci lo', ci hi', ci nu, ci ta, ci pu, ci tr, .bool en], ct s] w fun e w' => e = .returned (.tuple #[ct T, .bool true]) ∧ Fr (fun _ => False) w w' := by
  have hpu2 : (pu != 10) = true := by simp [bne, hpu]
  go_enter Tryd.func67, Tryd.ntmps67
  go_wp2_with (first
    | (go_at_call 79; refine (kt _ ((Fr.alloc _ _ _).same (Fr.alloc _ _ _))).mono ?_; rintro e w1 ⟨rfl, f1⟩))
  go_ret2
  exact ⟨rfl, ((Fr.alloc _ _ _).same (Fr.alloc _ _ _)).same f1⟩
end Go.Proofs.YtphpmaimgndjmaaDoor.Cd
