/- Texts of ours, in one. -/
import Derived.Test.YtoiglopilpoafaaGreatDoorPk13
import Derived.Test.YtoiglopilpoafaaGreatDoorTyB2
import Derived.Laws.IdiomStrings
import Derived.Deep.QuietTactic
import Derived.BigQuiet
import Derived.Test.YtoiglopilpoafaaGreatDoorCdK
import Derived.Test.YtoiglopilpoafaaGreatDoorPk16
namespace Go.Proofs.YtoiglopilpoafaaGreatDoor.Cd
open Go.RowKit Ty
set_option linter.unusedSimpArgs false
set_option linter.unusedVariables false

/-- The stack of one value; of none the empty one. -/
def oneS (t : Int) : List Int := if t = 0 then [] else [t]
theorem conv_row {w : World} {g cap : Nat} {l : Bs} (hc : ∀ (j : Nat) (c : UInt8), l[j]? = some c → w.cell? ⟨g, j, none⟩ = some (.int .u8 (c.toNat : Int))) :
    (convert 30 9 (.slice (some ⟨g, 0, none⟩) l.length cap)).run Tryz.prog w = .ok (ct l) w :=
  run_convert_bytes_back w 30 9 5 ⟨g, 0, none⟩ cap l Tryz.underlying30 Tryz.underlying5 Tryz.underlying9 (fun j hj => by
    have := hc j l[j] (List.getElem?_eq_getElem hj)
    rw [show (⟨g, 0, none⟩ : Addr).add j = ⟨g, j, none⟩ by cases j <;> simp [Addr.add]]
    exact this)
set_option maxRecDepth 20000 in
theorem single_any (t : Int) (ht : t = 0 ∨ valued t = true) (w : World) : Calls Tryz.prog 97 #[ci t] w fun e w' => e = .returned (ct (encSt (oneS t))) ∧ Fr (fun _ => False) w w' := by
  by_cases h0 : t = 0
  · subst h0
    go_enter Tryz.func97, Tryz.ntmps97
    go_wp2
    go_ret
    exact ⟨rfl, Fr.refl _ _⟩
  · have hv := ht.resolve_left h0
    have hb : (t == 0) = false := by simp [h0]
    have he : encSt (oneS t) = [encB t] := by unfold oneS; rw [if_neg h0]; rfl
    have ev := (encB_val hv).1
    have hm : t % 256 = t := by rcases (valued_iff t).1 hv with rfl | rfl | rfl <;> decide
    rw [he]
    have hcv : (convert 30 9 (.slice (some ⟨w.heap.size, 0, none⟩) 1 1)).run Tryz.prog (w.alloc (.cells #[.int .u8 t] 5 (0, 0))) = .ok (ct [encB t]) (w.alloc (.cells #[.int .u8 t] 5 (0, 0))) := conv_row (l := [encB t]) (fun j c hc => by
      cases j with
      | zero =>
        simp only [List.getElem?_cons_zero, Option.some.injEq] at hc
        subst hc
        rw [ev]
        exact cell_of_row _ _ 0 _ _ _ (alloc_new _ _)
      | succ j => simp at hc)
    generalize encB t = c at hcv
    clear h0 ht hv ev
    go_enter Tryz.func97, Tryz.ntmps97
    go_wp2
    go_ret
    exact ⟨rfl, Fr.alloc _ _ _⟩
theorem ex_drop (s : Bs) (a : Nat) : (⟨s.toArray⟩ : ByteArray).extract a s.length = ⟨(s.drop a).toArray⟩ := by
  have hs : (⟨s.toArray⟩ : ByteArray).size = s.length := by simp [ByteArray.size]
  apply ByteArray.ext
  apply Array.ext'
  rw [← hs, Lib.extract_to_end]
theorem ex_take (s : Bs) (b : Nat) : (⟨s.toArray⟩ : ByteArray).extract 0 b = ⟨(s.take b).toArray⟩ := by
  apply ByteArray.ext
  apply Array.ext'
  rw [Lib.extract_data]
  simp
set_option maxRecDepth 20000 in
theorem top_any (s : Bs) (n : Nat) (hs : s.length ≤ 100000) (hn : n ≤ 2) (w : World) : Calls Tryz.prog 111 #[ct s, ci (n : Int)] w fun e w' => e = .returned (.tuple #[ct (if s.length < n then [] else s.drop (s.length - n)), .bool (decide (n ≤ s.length))]) ∧ w' = w := by
  have hsl := str_len s
  by_cases h : s.length < n
  · rw [if_pos h, decide_eq_false (by omega)]
    have hb : decide ((s.length : Int) < (n : Int)) = true := by simp; omega
    go_enter Tryz.func111, Tryz.ntmps111
    go_wp2
    go_ret2
    exact ⟨rfl, rfl⟩
  · rw [if_neg h, decide_eq_true (by omega)]
    have hb : decide ((s.length : Int) < (n : Int)) = false := by simp; omega
    go_enter Tryz.func111, Tryz.ntmps111
    go_wp2
    go_ret2
    refine ⟨?_, rfl⟩
    rw [ex_drop]
    rfl
set_option maxRecDepth 20000 in
set_option maxHeartbeats 1000000 in
theorem making_1 (op t : Int) (ht : valued t = true) (w : World) : Calls Tryz.prog 114 #[ci op, ct (encSt [t])] w fun e w' => e = .returned (.tuple #[ci (unS op t).1, ci (unS op t).2]) ∧ Fr (fun _ => False) w w' := by
  have ku := fun w => unary_any op t w
  have ev := (encB_val ht).1
  have e1 : encSt [t] = [encB t] := rfl
  have hi : ∀ w : World, (Instr.index 9 (.string ⟨[encB t].toArray⟩) (.int .i64 0)).run Tryz.prog w = .ok (.int .u8 t) w := fun w => by
    have := str_index [encB t] 0 (encB t) rfl w
    rw [ev] at this
    exact this
  have hw : IntKind.i64.wrap t = t := by rcases (valued_iff t).1 ht with rfl | rfl | rfl <;> decide
  have hl := str_len [encB t]
  rw [e1]
  generalize encB t = c at hi hl ⊢
  generalize unS op t = R at ku ⊢
  clear e1 ev ht
  go_enter Tryz.func114, Tryz.ntmps114
  go_wp2_with (go_at_call 122; refine (ku _).mono ?_; rintro e w1 ⟨rfl, f1⟩)
  go_ret2
  exact ⟨rfl, f1⟩
set_option maxRecDepth 20000 in
set_option maxHeartbeats 1000000 in
theorem making_2 (op t u : Int) (ht : valued t = true) (hu : valued u = true) (w : World) : Calls Tryz.prog 114 #[ci op, ct (encSt [t, u])] w fun e w' => e = .returned (.tuple #[ci (binS op t u).1, ci (binS op t u).2]) ∧ Fr (fun _ => False) w w' := by
  have ku := fun w => binary_any op t u w
  have ev := (encB_val ht).1
  have eu := (encB_val hu).1
  have e1 : encSt [t, u] = [encB t, encB u] := rfl
  have hi : ∀ w : World, (Instr.index 9 (.string ⟨[encB t, encB u].toArray⟩) (.int .i64 0)).run Tryz.prog w = .ok (.int .u8 t) w := fun w => by
    have := str_index [encB t, encB u] 0 (encB t) rfl w
    rw [ev] at this
    exact this
  have hi2 : ∀ w : World, (Instr.index 9 (.string ⟨[encB t, encB u].toArray⟩) (.int .i64 1)).run Tryz.prog w = .ok (.int .u8 u) w := fun w => by
    have := str_index [encB t, encB u] 1 (encB u) rfl w
    rw [eu] at this
    exact this
  have hw : IntKind.i64.wrap t = t := by rcases (valued_iff t).1 ht with rfl | rfl | rfl <;> decide
  have hw2 : IntKind.i64.wrap u = u := by rcases (valued_iff u).1 hu with rfl | rfl | rfl <;> decide
  have hl := str_len [encB t, encB u]
  rw [e1]
  generalize encB t = c at hi hi2 hl ⊢
  generalize encB u = d at hi hi2 hl ⊢
  generalize binS op t u = R at ku ⊢
  clear e1 ev eu ht hu
  go_enter Tryz.func114, Tryz.ntmps114
  go_wp2_with fail
  go_region_held3 (fun w' => True) (first | trivial | go_keep) (first
    | (go_at_call 123; refine (ku _).mono ?_; rintro e w1 ⟨rfl, f1⟩))
  all_goals
    go_wp2_with fail
    go_ret2
    exact ⟨rfl, (Fr.drew _ _).same f1⟩
end Go.Proofs.YtoiglopilpoafaaGreatDoor.Cd

namespace Go.Proofs.YtoiglopilpoafaaGreatDoor.Cd
open Go.RowKit Ty
set_option linter.unusedSimpArgs false
set_option linter.unusedVariables false

set_option maxRecDepth 20000 in
set_option maxHeartbeats 1000000 in
theorem told_int (q : Nat) (op N t b by' lo' hi' nu ta pu tr : Int) (nm : Bs) (en : Bool)  (w : World) : Calls Tryz.prog 112 #[.pointer (some ⟨q, 0, none⟩), .agg #[ci op, ci N, ci t, .int .u64 b], .agg #[ct nm, ci by', ci lo', ci hi', ci nu, ci ta, ci pu, ci tr, .bool en], ci 3] w fun e w' => e = .returned (ct (encSt (oneS 1))) ∧ Fr (fun _ => False) w w' := by
  have ks := fun W => single_any 1 (Or.inr (by decide)) W
  generalize encSt (oneS 1) = T at ks ⊢
  go_enter Tryz.func112, Tryz.ntmps112
  go_wp2_with (go_at_call 97; refine (ks _).mono ?_; rintro e w1 ⟨rfl, f1⟩)
  go_ret
  exact ⟨rfl, ((Fr.alloc _ _ _).same (Fr.alloc _ _ _)).same f1⟩
set_option maxRecDepth 20000 in
set_option maxHeartbeats 1000000 in
theorem told_bool (q : Nat) (op N t b by' lo' hi' nu ta pu tr : Int) (nm : Bs) (en : Bool)  (w : World) : Calls Tryz.prog 112 #[.pointer (some ⟨q, 0, none⟩), .agg #[ci op, ci N, ci t, .int .u64 b], .agg #[ct nm, ci by', ci lo', ci hi', ci nu, ci ta, ci pu, ci tr, .bool en], ci 4] w fun e w' => e = .returned (ct (encSt (oneS 3))) ∧ Fr (fun _ => False) w w' := by
  have ks := fun W => single_any 3 (Or.inr (by decide)) W
  generalize encSt (oneS 3) = T at ks ⊢
  go_enter Tryz.func112, Tryz.ntmps112
  go_wp2_with (go_at_call 97; refine (ks _).mono ?_; rintro e w1 ⟨rfl, f1⟩)
  go_ret
  exact ⟨rfl, ((Fr.alloc _ _ _).same (Fr.alloc _ _ _)).same f1⟩
set_option maxRecDepth 20000 in
set_option maxHeartbeats 1000000 in
theorem told_val (q : Nat) (op N t b by' lo' hi' nu ta pu tr : Int) (nm : Bs) (en : Bool) (ht : t = 0 ∨ valued t = true) (w : World) : Calls Tryz.prog 112 #[.pointer (some ⟨q, 0, none⟩), .agg #[ci op, ci N, ci t, .int .u64 b], .agg #[ct nm, ci by', ci lo', ci hi', ci nu, ci ta, ci pu, ci tr, .bool en], ci 5] w fun e w' => e = .returned (ct (encSt (oneS t))) ∧ Fr (fun _ => False) w w' := by
  have ks := fun W => single_any t ht W
  generalize encSt (oneS t) = T at ks ⊢
  go_enter Tryz.func112, Tryz.ntmps112
  go_wp2_with (go_at_call 97; refine (ks _).mono ?_; rintro e w1 ⟨rfl, f1⟩)
  go_ret
  exact ⟨rfl, ((Fr.alloc _ _ _).same (Fr.alloc _ _ _)).same f1⟩
set_option maxRecDepth 20000 in
set_option maxHeartbeats 1000000 in
theorem told_own (q : Nat) (op N t b by' lo' hi' nu ta pu tr : Int) (nm : Bs) (en : Bool) (r : Int) (hr : r = 0 ∨ valued r = true) (w : World) (hc : ∀ W, Fr (fun _ => False) w W → W.cell? ⟨q, 1, none⟩ = some (ci r)) : Calls Tryz.prog 112 #[.pointer (some ⟨q, 0, none⟩), .agg #[ci op, ci N, ci t, .int .u64 b], .agg #[ct nm, ci by', ci lo', ci hi', ci nu, ci ta, ci pu, ci tr, .bool en], ci 9] w fun e w' => e = .returned (ct (encSt (oneS r))) ∧ Fr (fun _ => False) w w' := by
  have ks := fun W => single_any r hr W
  generalize encSt (oneS r) = T at ks ⊢
  have c1 := hc ((w.alloc (.cells #[ci op, ci N, ci t, .int .u64 b] 69 (0, 0))).alloc (.cells #[ct nm, ci by', ci lo', ci hi', ci nu, ci ta, ci pu, ci tr, .bool en] 136 (0, 0))) ((Fr.alloc _ _ _).same (Fr.alloc _ _ _))
  clear hc hr
  go_enter Tryz.func112, Tryz.ntmps112
  go_wp2_with (go_at_call 97; refine (ks _).mono ?_; rintro e w1 ⟨rfl, f1⟩)
  go_ret
  exact ⟨rfl, ((Fr.alloc _ _ _).same (Fr.alloc _ _ _)).same f1⟩
set_option maxRecDepth 20000 in
set_option maxHeartbeats 1000000 in
theorem told_none (q : Nat) (op N t b by' lo' hi' nu ta pu tr : Int) (nm : Bs) (en : Bool) (k : Int) (hk : (k == 3) = false ∧ (k == 4) = false ∧ (k == 5) = false ∧ (k == 6) = false ∧ (k == 7) = false ∧ (k == 8) = false ∧ (k == 9) = false) (w : World) : Calls Tryz.prog 112 #[.pointer (some ⟨q, 0, none⟩), .agg #[ci op, ci N, ci t, .int .u64 b], .agg #[ct nm, ci by', ci lo', ci hi', ci nu, ci ta, ci pu, ci tr, .bool en], ci k] w fun e w' => e = .returned (ct ([])) ∧ Fr (fun _ => False) w w' := by
  obtain ⟨h3, h4, h5, h6, h7, h8, h9⟩ := hk
  go_enter Tryz.func112, Tryz.ntmps112
  go_wp2
  go_ret
  exact ⟨rfl, (Fr.alloc _ _ _).same (Fr.alloc _ _ _)⟩
/-- What is taken: from the top, or as it is told. -/
def takenT (ta : Int) (s T : Bs) : Bs × Bool := if ta = 1 then (if s.length < 1 then [] else s.drop (s.length - 1), decide (1 ≤ s.length)) else if ta = 2 then (if s.length < 2 then [] else s.drop (s.length - 2), decide (2 ≤ s.length)) else (T, Lib.hasSuffix s T)
set_option maxRecDepth 20000 in
set_option maxHeartbeats 1000000 in
theorem taken_any (q : Nat) (op N t b by' lo' hi' nu ta pu tr : Int) (nm : Bs) (en : Bool) (s T : Bs) (hs : s.length ≤ 100000) (w : World) (kt : ta ≠ 1 → ta ≠ 2 → ∀ W, Fr (fun _ => False) w W → Calls Tryz.prog 112 #[.pointer (some ⟨q, 0, none⟩), .agg #[ci op, ci N, ci t, .int .u64 b], .agg #[ct nm, ci by', ci lo', ci hi', ci nu, ci ta, ci pu, ci tr, .bool en], ci ta] W fun e w' => e = .returned (ct T) ∧ Fr (fun _ => False) W w') :
    Calls Tryz.prog 106 #[.pointer (some ⟨q, 0, none⟩), .agg #[ci op, ci N, ci t, .int .u64 b], .agg #[ct nm, ci by', ci lo', ci hi', ci nu, ci ta, ci pu, ci tr, .bool en], ct s] w fun e w' => e = .returned (.tuple #[ct (takenT ta s T).1, .bool (takenT ta s T).2]) ∧ Fr (fun _ => False) w w' := by
  by_cases h1 : ta = 1
  · subst h1
    have kp := fun W => top_any s 1 hs (by decide) W
    have e : takenT 1 s T = (if s.length < 1 then [] else s.drop (s.length - 1), decide (1 ≤ s.length)) := rfl
    rw [← e] at *
    have ke : ∀ W, Calls Tryz.prog 111 #[ct s, ci 1] W fun e w' => e = .returned (.tuple #[ct (takenT 1 s T).1, .bool (takenT 1 s T).2]) ∧ w' = W := kp
    generalize takenT 1 s T = R at ke ⊢
    clear kp e kt
    go_enter Tryz.func106, Tryz.ntmps106
    go_wp2_with (go_at_call 111; refine (ke _).mono ?_; rintro e w1 ⟨rfl, rfl⟩)
    go_ret2
    exact ⟨rfl, (Fr.alloc _ _ _).same (Fr.alloc _ _ _)⟩
  by_cases h2 : ta = 2
  · subst h2
    have kp := fun W => top_any s 2 hs (by decide) W
    have ke : ∀ W, Calls Tryz.prog 111 #[ct s, ci 2] W fun e w' => e = .returned (.tuple #[ct (takenT 2 s T).1, .bool (takenT 2 s T).2]) ∧ w' = W := kp
    generalize takenT 2 s T = R at ke ⊢
    clear kp kt h1
    go_enter Tryz.func106, Tryz.ntmps106
    go_wp2_with (go_at_call 111; refine (ke _).mono ?_; rintro e w1 ⟨rfl, rfl⟩)
    go_ret2
    exact ⟨rfl, (Fr.alloc _ _ _).same (Fr.alloc _ _ _)⟩
  · have e : takenT ta s T = (T, Lib.hasSuffix s T) := by unfold takenT; rw [if_neg h1, if_neg h2]
    have kh := fun W => Tryz.strings_HasSuffix ⟨s.toArray⟩ ⟨T.toArray⟩ W (by simp [ByteArray.size]; omega)
    have b1 : (ta == 1) = false := by simp [h1]
    have b2 : (ta == 2) = false := by simp [h2]
    rw [e]
    simp only [] at kh
    generalize Lib.hasSuffix s T = R at kh ⊢
    have ktV := kt h1 h2
    clear kt h1 h2 e
    go_enter Tryz.func106, Tryz.ntmps106
    go_wp2_with (first
      | (go_at_call 112; refine (ktV _ ((Fr.alloc _ _ _).same (Fr.alloc _ _ _))).mono ?_; rintro e w1 ⟨rfl, f1⟩)
      | (go_at_call 113; refine (kh _).mono ?_; rintro e w2 ⟨rfl, rfl⟩))
    go_ret2
    exact ⟨rfl, ((Fr.alloc _ _ _).same (Fr.alloc _ _ _)).same f1⟩
set_option maxRecDepth 20000 in
set_option maxHeartbeats 1000000 in
theorem put_told (q : Nat) (op N t b by' lo' hi' nu ta pu tr : Int) (nm : Bs) (en : Bool) (s T : Bs) (hpu : (pu == 10) = false) (w : World) (kt : ∀ W, Fr (fun _ => False) w W → Calls Tryz.prog 112 #[.pointer (some ⟨q, 0, none⟩), .agg #[ci op, ci N, ci t, .int .u64 b], .agg #[ct nm, ci by', ci lo', ci hi', ci nu, ci ta, ci pu, ci tr, .bool en], ci pu] W fun e w' => e = .returned (ct T) ∧ Fr (fun _ => False) W w') :
    Calls Tryz.prog 107 #[.pointer (some ⟨q, 0, none⟩), .agg #[ci op, ci N, ci t, .int .u64 b], .agg #[ct nm, ci by', ci lo', ci hi', ci nu, ci ta, ci pu, ci tr, .bool en], ct s] w fun e w' => e = .returned (.tuple #[ct T, .bool true]) ∧ Fr (fun _ => False) w w' := by
  have hpu2 : (pu != 10) = true := by simp [bne, hpu]
  go_enter Tryz.func107, Tryz.ntmps107
  go_wp2_with (first
    | (go_at_call 112; refine (kt _ ((Fr.alloc _ _ _).same (Fr.alloc _ _ _))).mono ?_; rintro e w1 ⟨rfl, f1⟩))
  go_ret2
  exact ⟨rfl, ((Fr.alloc _ _ _).same (Fr.alloc _ _ _)).same f1⟩
end Go.Proofs.YtoiglopilpoafaaGreatDoor.Cd

namespace Go.Proofs.YtoiglopilpoafaaGreatDoor.Cd
open Go.RowKit Ty
set_option linter.unusedSimpArgs false
set_option linter.unusedVariables false

set_option maxRecDepth 20000 in
set_option maxHeartbeats 1000000 in
theorem behind_no (q : Nat) (op N t b by' lo' hi' nu ta pu tr : Int) (nm : Bs) (en : Bool) (s X : Bs) (w : World) (kt : ∀ W, Fr (fun _ => False) w W → Calls Tryz.prog 106 #[.pointer (some ⟨q, 0, none⟩), .agg #[ci op, ci N, ci t, .int .u64 b], .agg #[ct nm, ci by', ci lo', ci hi', ci nu, ci ta, ci pu, ci tr, .bool en], ct s] W fun e w' => e = .returned (.tuple #[ct X, .bool false]) ∧ Fr (fun _ => False) W w') :
    Calls Tryz.prog 94 #[.pointer (some ⟨q, 0, none⟩), .agg #[ci op, ci N, ci t, .int .u64 b], .agg #[ct nm, ci by', ci lo', ci hi', ci nu, ci ta, ci pu, ci tr, .bool en], ct s] w fun e w' => e = .returned (.tuple #[ct [], .bool false]) ∧ Fr (fun _ => False) w w' := by
  go_enter Tryz.func94, Tryz.ntmps94
  go_wp2_with (first
    | (go_at_call 106; refine (kt _ ((Fr.alloc _ _ _).same (Fr.alloc _ _ _))).mono ?_; rintro e w1 ⟨rfl, f1⟩))
  go_ret2
  exact ⟨rfl, ((Fr.alloc _ _ _).same (Fr.alloc _ _ _)).same f1⟩
theorem row9 {w : World} {b : Nat} {x0 x1 x2 x3 x4 x5 x6 x7 x8 : Value} {t : TypeId} (hb : w.heap[b]? = some (.cells #[x0, x1, x2, x3, x4, x5, x6, x7, x8] t (0, 0))) :
    w.cell? ⟨b, 0, none⟩ = some x0 ∧ w.cell? ⟨b, 1, none⟩ = some x1 ∧ w.cell? ⟨b, 2, none⟩ = some x2 ∧ w.cell? ⟨b, 3, none⟩ = some x3 ∧ w.cell? ⟨b, 4, none⟩ = some x4 ∧ w.cell? ⟨b, 5, none⟩ = some x5 ∧ w.cell? ⟨b, 6, none⟩ = some x6 ∧ w.cell? ⟨b, 7, none⟩ = some x7 ∧ w.cell? ⟨b, 8, none⟩ = some x8 :=
  ⟨cell_of_row _ _ 0 _ _ _ hb, cell_of_row _ _ 1 _ _ _ hb, cell_of_row _ _ 2 _ _ _ hb, cell_of_row _ _ 3 _ _ _ hb, cell_of_row _ _ 4 _ _ _ hb, cell_of_row _ _ 5 _ _ _ hb, cell_of_row _ _ 6 _ _ _ hb, cell_of_row _ _ 7 _ _ _ hb, cell_of_row _ _ 8 _ _ _ hb⟩
theorem slice_head (l : Bs) (i : Nat) (h : i ≤ l.length) (hl : l.length ≤ 9223372036854775807) (w : World) :
    (Instr.slice 9 (.string ⟨l.toArray⟩) none (some (.int .i64 (i : Int))) none).run Tryz.prog w = .ok (.string ⟨(l.take i).toArray⟩) w := by
  have hs : (⟨l.toArray⟩ : ByteArray).size = l.length := by simp [ByteArray.size]
  rw [run_slice_string_to_if _ _ _ _ _ Tryz.underlying9]
  rw [if_pos (by rw [hs]; omega), Int.toNat_natCast, ex_take]
set_option maxRecDepth 20000 in
set_option maxHeartbeats 1000000 in
theorem behind_ok (q : Nat) (op N t b by' lo' hi' nu ta pu tr : Int) (nm : Bs) (en : Bool) (s X T : Bs) (fit : Bool) (hs : s.length ≤ 100000) (hX : X.length ≤ s.length) (hT : T.length ≤ 100000) (w : World) (kt : ∀ W, Fr (fun _ => False) w W → Calls Tryz.prog 106 #[.pointer (some ⟨q, 0, none⟩), .agg #[ci op, ci N, ci t, .int .u64 b], .agg #[ct nm, ci by', ci lo', ci hi', ci nu, ci ta, ci pu, ci tr, .bool en], ct s] W fun e w' => e = .returned (.tuple #[ct X, .bool true]) ∧ Fr (fun _ => False) W w')
    (kp : ∀ W, Fr (fun _ => False) w W → Calls Tryz.prog 107 #[.pointer (some ⟨q, 0, none⟩), .agg #[ci op, ci N, ci t, .int .u64 b], .agg #[ct nm, ci by', ci lo', ci hi', ci nu, ci ta, ci pu, ci tr, .bool en], ct X] W fun e w' => e = .returned (.tuple #[ct T, .bool fit]) ∧ Fr (fun _ => False) W w') :
    Calls Tryz.prog 94 #[.pointer (some ⟨q, 0, none⟩), .agg #[ci op, ci N, ci t, .int .u64 b], .agg #[ct nm, ci by', ci lo', ci hi', ci nu, ci ta, ci pu, ci tr, .bool en], ct s] w fun e w' => e = .returned (.tuple #[ct (s.take (s.length - X.length) ++ T), .bool fit]) ∧ Fr (fun _ => False) w w' := by
  obtain ⟨m, hm⟩ : ∃ m, m = s.length - X.length := ⟨_, rfl⟩
  have hls := str_len s
  have hlX := str_len X
  have hsl := fun W : World => slice_head s m (by omega) (by omega) W
  have hsub : IntKind.i64.wrap ((s.length : Int) - (X.length : Int)) = (m : Int) := by rw [IntKind.wrap_i64]; omega
  have hcat := fun W : World => run_string_add_lists (P := Tryz.prog) W (s.take m) T (by rw [List.length_take]; omega) (by omega)
  rw [← hm]
  generalize s.take m = H at hsl hcat ⊢
  clear hm
  obtain ⟨V, hV⟩ : ∃ V, V = (w.alloc (.cells #[ci op, ci N, ci t, .int .u64 b] 69 (0, 0))).alloc (.cells #[ct nm, ci by', ci lo', ci hi', ci nu, ci ta, ci pu, ci tr, .bool en] 136 (0, 0)) := ⟨_, rfl⟩
  have fV : Hidden (Fr (fun _ => False) w V) := by rw [hV]; exact (Fr.alloc _ _ _).same (Fr.alloc _ _ _)
  have b5 := box4 (show V.heap[w.heap.size]? = some (.cells #[ci op, ci N, ci t, .int .u64 b] 69 (0, 0)) by rw [hV]; exact heap_alloc2_old _ _ _)
  have b6 := row9 (show V.heap[w.heap.size + 1]? = some (.cells #[ct nm, ci by', ci lo', ci hi', ci nu, ci ta, ci pu, ci tr, .bool en] 136 (0, 0)) by rw [hV]; exact heap_alloc2_new _ _ _)
  have b5H : Hidden _ := b5
  have b6H : Hidden _ := b6
  have hVH : Hidden (V = _) := hV
  clear hV b5 b6
  go_enter Tryz.func94, Tryz.ntmps94
  go_upto_region 1 with fail
  rw [← (show V = _ from hVH)]
  clear hVH
  obtain ⟨c0, c1, c2, c3⟩ := b5H
  obtain ⟨e0, e1, e2, e3, e4, e5, e6, e7, e8⟩ := b6H
  go_wp2_with (first
    | (go_at_call 106; refine (kt _ fV).mono ?_; rintro e w1 ⟨rfl, f1⟩
       replace c0 := f1.cellN c0
       replace c1 := f1.cellN c1
       replace c2 := f1.cellN c2
       replace c3 := f1.cellN c3
       replace e0 := f1.cellN e0
       replace e1 := f1.cellN e1
       replace e2 := f1.cellN e2
       replace e3 := f1.cellN e3
       replace e4 := f1.cellN e4
       replace e5 := f1.cellN e5
       replace e6 := f1.cellN e6
       replace e7 := f1.cellN e7
       replace e8 := f1.cellN e8)
    | (go_at_call 107; refine (kp _ ((show Fr (fun _ => False) w V from fV).same f1)).mono ?_; rintro e w2 ⟨rfl, f2⟩))
  go_ret2
  exact ⟨rfl, ((show Fr (fun _ => False) w V from fV).same f1).same f2⟩
end Go.Proofs.YtoiglopilpoafaaGreatDoor.Cd

namespace Go.Proofs.YtoiglopilpoafaaGreatDoor.Cd
open Go.RowKit Ty
set_option linter.unusedSimpArgs false
set_option linter.unusedVariables false

theorem nuR_vals (op : Int) : nuR op = 0 ∨ nuR op = 1 ∨ nuR op = 2 ∨ nuR op = 3 ∨ nuR op = 4 := by
  unfold nuR
  by_cases h1 : op = 2 ∨ op = 3
  · rw [if_pos h1]; simp
  rw [if_neg h1]
  by_cases h2 : op = 4 ∨ op = 5
  · rw [if_pos h2]; simp
  rw [if_neg h2]
  by_cases h3 : op = 8 ∨ op = 9 ∨ op = 15
  · rw [if_pos h3]; simp
  rw [if_neg h3]
  by_cases h4 : op = 10
  · rw [if_pos h4]; simp
  rw [if_neg h4]; simp
abbrev rwV (op : Int) : Value := .agg #[ct (nmR op), ci (byR op), ci (lo op), ci (hi op), ci (nuR op), ci (taR op), ci (puR op), ci (trR op), .bool (enR op)]
theorem ways_of (f : Fu) (p : Fm) (q gs ga n k b3 o3 c2 c3 c4 c5 : Nat) (v0 : Value) (a2 a4 a5 : Option Addr) (L : Cs) (s : Sp) (g : Bool) (i : In) (st' : Bs) (T : List Int) (fit : Bool) (w : World)
    (h : Wk w q gs ga n v0 (ci f.sg.res) (.slice a2 f.loc.length c2) (.slice (some ⟨b3, o3, none⟩) n c3) (.slice a4 p.fns.length c4) (.slice a5 p.vars.length c5) L) (hk : L[k]? = some (some (g, s))) (hn : n ≤ 4096) (hc3 : n ≤ c3) (hc3m : c3 ≤ 9223372036854775807) (hlen : f.cd.length = n)
    (hcell : ∀ (j : Nat) (u : Value), (inC i)[j]? = some u → w.cell? ⟨b3, o3 + k * 4 + j, none⟩ = some u) (hi : f.cd.getD k default = i) (hr : rightS i = true) (h15 : i.op ≠ 15) (h16 : i.op ≠ 16) (hov : over s = false)
    (ks : hasS (nuR i.op) i.n f.loc.length n p.fns.length p.vars.length = true → ∀ W, Fr (fun _ => False) w W → Calls Tryz.prog 94 #[.pointer (some ⟨q, 0, none⟩), inV i, rwV i.op, ct (encSt s.st)] W fun e w' => e = .returned (.tuple #[ct st', .bool fit]) ∧ Fr (fun _ => False) W w')
    (hT : fit = true → st' = encSt T) (hTl : st'.length ≤ 1000000)
    (hst : stepS f p i s = if hasS (nuR i.op) i.n f.loc.length n p.fns.length p.vars.length = true ∧ fit = true then some ((if enR i.op then none else some ⟨T, s.tr⟩), (if nuR i.op = 4 then some ⟨T, s.tr⟩ else none)) else none)
    (hsm : enR i.op = true → nuR i.op ≠ 4 → T.length ≤ 512) :
    Calls Tryz.prog 73 #[.pointer (some ⟨q, 0, none⟩), ci (k : Int)] w fun e w' => ∃ v, e = .returned (.tuple #[v, ci (wayS f p k s).1]) ∧ Fr (fun _ => False) w w' ∧ Wy w' w.heap.size v ((wayS f p k s).2.map fun x => ((x.1 : Int), x.2)) := by
  have hp := right_parts hr
  have hkn : k < n := by rw [← h.len]; exact (List.getElem?_eq_some_iff.1 hk).1
  have hm : s.tr.length ≤ 32 := by
    unfold over at hov
    simp at hov
    exact hov.2
  have htr : trR i.op = 0 := by
    unfold trR
    rw [if_neg (by simpa using h15), if_neg (by simpa using h16)]
  have h0 : 0 ≤ i.n := Int.le_trans (lo_pos _) hp.2.2.1
  have hsi : Si w q v0 f.sg.res a2 (some ⟨b3, o3, none⟩) a4 a5 f.loc.length n p.fns.length p.vars.length c2 c3 c4 c5 := by
    obtain ⟨e0, e1, e2, e3, e4, e5, _, _⟩ := box8 h.box
    exact ⟨e0, e1, e2, e3, e4, e5⟩
  have key := wyR_way f p k n s (hasS (nuR i.op) i.n f.loc.length n p.fns.length p.vars.length) fit (enR i.op) (nuR i.op) i.n T hlen hkn (by rw [hi]) h0 hm (by rw [hi]; exact hst) (fun e => by rw [e]; rfl) hsm
  have kk := ways_w q gs ga n k b3 o3 c3 v0 (ci f.sg.res) (.slice a2 f.loc.length c2) (.slice a4 p.fns.length c4) (.slice a5 p.vars.length c5) L s st' T g i.op i.n i.t i.b (byR i.op) (lo i.op) (Cd.hi i.op) (nuR i.op) (taR i.op) (puR i.op) (trR i.op) (nmR i.op) (enR i.op) (hasS (nuR i.op) i.n f.loc.length n p.fns.length p.vars.length) fit w h hk (by omega) hc3 hc3m
    (hcell 0 _ rfl) (hcell 1 _ rfl) (hcell 2 _ rfl) (hcell 3 _ rfl) (by simpa using h15) (by simpa using h16) htr hm hT hTl
    (fun W => by have := row_is i.op W; rw [hp.1] at this; exact this)
    (fun W hW => has_any q v0 f.sg.res a2 (some ⟨b3, o3, none⟩) a4 a5 f.loc.length n p.fns.length p.vars.length c2 c3 c4 c5 i.op i.n i.t i.b (nuR i.op) (nuR_vals _) W (hsi.keep hW))
    ks
  rw [key] at kk
  exact kk
end Go.Proofs.YtoiglopilpoafaaGreatDoor.Cd
