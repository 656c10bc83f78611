/- Stacks as texts: single, stackOf, top, making. -/
import Derived.Test.YtphpmaimgndjmaaDoorCdNAll
import Derived.Test.YtphpmaimgndjmaaDoorTyAll
import Derived.Laws.IdiomStrings
import Derived.Deep.QuietTactic
import Derived.BigQuiet
namespace Go.Proofs.YtphpmaimgndjmaaDoor.Cd
open Go.RowKit Ty
set_option linter.unusedSimpArgs false
set_option linter.unusedVariables false

/-- The stack of one value; of none the empty one. -/
def oneS (t : Int) : List Int := if t = 0 then [] else [t]
theorem conv_row {w : World} {g cap : Nat} {l : Bs} (hc : ∀ (j : Nat) (c : UInt8), l[j]? = some c → w.cell? ⟨g, j, none⟩ = some (.int .u8 (c.toNat : Int))) :
    (convert 58 9 (.slice (some ⟨g, 0, none⟩) l.length cap)).run Tryd.prog w = .ok (ct l) w :=
  run_convert_bytes_back w 58 9 5 ⟨g, 0, none⟩ cap l Tryd.underlying58 Tryd.underlying5 Tryd.underlying9 (fun j hj => by
    have := hc j l[j] (List.getElem?_eq_getElem hj)
    rw [show (⟨g, 0, none⟩ : Addr).add j = ⟨g, j, none⟩ by cases j <;> simp [Addr.add]]
    exact this)
set_option maxRecDepth 20000 in
theorem single_any (t : Int) (ht : t = 0 ∨ valued t = true) (w : World) : Calls Tryd.prog 56 #[ci t] w fun e w' => e = .returned (ct (encSt (oneS t))) ∧ Fr (fun _ => False) w w' := by
  by_cases h0 : t = 0
  · subst h0
    go_enter Tryd.func56, Tryd.ntmps56
    go_wp2
    go_ret
    exact ⟨rfl, Fr.refl _ _⟩
  · have hv := ht.resolve_left h0
    have hb : (t == 0) = false := by simp [h0]
    have he : encSt (oneS t) = [encB t] := by unfold oneS; rw [if_neg h0]; rfl
    have ev := (encB_val hv).1
    have hm : t % 256 = t := by rcases (valued_iff t).1 hv with rfl | rfl | rfl <;> decide
    rw [he]
    have hcv : (convert 58 9 (.slice (some ⟨w.heap.size, 0, none⟩) 1 1)).run Tryd.prog (w.alloc (.cells #[.int .u8 t] 5 (0, 0))) = .ok (ct [encB t]) (w.alloc (.cells #[.int .u8 t] 5 (0, 0))) := conv_row (l := [encB t]) (fun j c hc => by
      cases j with
      | zero =>
        simp only [List.getElem?_cons_zero, Option.some.injEq] at hc
        subst hc
        rw [ev]
        exact cell_of_row _ _ 0 _ _ _ (alloc_new _ _)
      | succ j => simp at hc)
    generalize encB t = c at hcv
    clear h0 ht hv ev
    go_enter Tryd.func56, Tryd.ntmps56
    go_wp2
    go_ret
    exact ⟨rfl, Fr.alloc _ _ _⟩
theorem ex_drop (s : Bs) (a : Nat) : (⟨s.toArray⟩ : ByteArray).extract a s.length = ⟨(s.drop a).toArray⟩ := by
  have hs : (⟨s.toArray⟩ : ByteArray).size = s.length := by simp [ByteArray.size]
  apply ByteArray.ext
  apply Array.ext'
  rw [← hs, Lib.extract_to_end]
theorem ex_take (s : Bs) (b : Nat) : (⟨s.toArray⟩ : ByteArray).extract 0 b = ⟨(s.take b).toArray⟩ := by
  apply ByteArray.ext
  apply Array.ext'
  rw [Lib.extract_data]
  simp
set_option maxRecDepth 20000 in
theorem top_any (s : Bs) (n : Nat) (hs : s.length ≤ 100000) (hn : n ≤ 2) (w : World) : Calls Tryd.prog 78 #[ct s, ci (n : Int)] w fun e w' => e = .returned (.tuple #[ct (if s.length < n then [] else s.drop (s.length - n)), .bool (decide (n ≤ s.length))]) ∧ w' = w := by
  have hsl := str_len s
  by_cases h : s.length < n
  · rw [if_pos h, decide_eq_false (by omega)]
    have hb : decide ((s.length : Int) < (n : Int)) = true := by simp; omega
    go_enter Tryd.func78, Tryd.ntmps78
    go_wp2
    go_ret2
    exact ⟨rfl, rfl⟩
  · rw [if_neg h, decide_eq_true (by omega)]
    have hb : decide ((s.length : Int) < (n : Int)) = false := by simp; omega
    go_enter Tryd.func78, Tryd.ntmps78
    go_wp2
    go_ret2
    refine ⟨?_, rfl⟩
    rw [ex_drop]
    rfl
set_option maxRecDepth 20000 in
set_option maxHeartbeats 1000000 in
theorem making_1 (op t : Int) (ht : valued t = true) (w : World) : Calls Tryd.prog 81 #[ci op, ct (encSt [t])] w fun e w' => e = .returned (.tuple #[ci (unS op t).1, ci (unS op t).2]) ∧ Fr (fun _ => False) w w' := by
  have ku := fun w => unary_any op t w
  have ev := (encB_val ht).1
  have e1 : encSt [t] = [encB t] := rfl
  have hi : ∀ w : World, (Instr.index 9 (.string ⟨[encB t].toArray⟩) (.int .i64 0)).run Tryd.prog w = .ok (.int .u8 t) w := fun w => by
    have := str_index [encB t] 0 (encB t) rfl w
    rw [ev] at this
    exact this
  have hw : IntKind.i64.wrap t = t := by rcases (valued_iff t).1 ht with rfl | rfl | rfl <;> decide
  have hl := str_len [encB t]
  rw [e1]
  generalize encB t = c at hi hl ⊢
  generalize unS op t = R at ku ⊢
  clear e1 ev ht
  go_enter Tryd.func81, Tryd.ntmps81
  go_wp2_with (go_at_call 20; refine (ku _).mono ?_; rintro e w1 ⟨rfl, f1⟩)
  go_ret2
  exact ⟨rfl, f1⟩
set_option maxRecDepth 20000 in
set_option maxHeartbeats 1000000 in
theorem making_2 (op t u : Int) (ht : valued t = true) (hu : valued u = true) (w : World) : Calls Tryd.prog 81 #[ci op, ct (encSt [t, u])] w fun e w' => e = .returned (.tuple #[ci (binS op t u).1, ci (binS op t u).2]) ∧ Fr (fun _ => False) w w' := by
  have ku := fun w => binary_any op t u w
  have ev := (encB_val ht).1
  have eu := (encB_val hu).1
  have e1 : encSt [t, u] = [encB t, encB u] := rfl
  have hi : ∀ w : World, (Instr.index 9 (.string ⟨[encB t, encB u].toArray⟩) (.int .i64 0)).run Tryd.prog w = .ok (.int .u8 t) w := fun w => by
    have := str_index [encB t, encB u] 0 (encB t) rfl w
    rw [ev] at this
    exact this
  have hi2 : ∀ w : World, (Instr.index 9 (.string ⟨[encB t, encB u].toArray⟩) (.int .i64 1)).run Tryd.prog w = .ok (.int .u8 u) w := fun w => by
    have := str_index [encB t, encB u] 1 (encB u) rfl w
    rw [eu] at this
    exact this
  have hw : IntKind.i64.wrap t = t := by rcases (valued_iff t).1 ht with rfl | rfl | rfl <;> decide
  have hw2 : IntKind.i64.wrap u = u := by rcases (valued_iff u).1 hu with rfl | rfl | rfl <;> decide
  have hl := str_len [encB t, encB u]
  rw [e1]
  generalize encB t = c at hi hi2 hl ⊢
  generalize encB u = d at hi hi2 hl ⊢
  generalize binS op t u = R at ku ⊢
  clear e1 ev eu ht hu
  go_enter Tryd.func81, Tryd.ntmps81
  go_wp2_with fail
  go_region_held3 (fun w' => True) (first | trivial | go_keep) (first
    | (go_at_call 21; refine (ku _).mono ?_; rintro e w1 ⟨rfl, f1⟩))
  all_goals
    go_wp2_with fail
    go_ret2
    exact ⟨rfl, (Fr.drew _ _).same f1⟩
end Go.Proofs.YtphpmaimgndjmaaDoor.Cd
