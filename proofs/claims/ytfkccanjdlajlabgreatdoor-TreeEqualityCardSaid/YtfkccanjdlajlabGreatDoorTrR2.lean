/- RightExpr. -/
import Derived.Test.YtfkccanjdlajlabGreatDoorTrR
import Derived.Test.YtfkccanjdlajlabGreatDoorTrL2
namespace Go.Proofs.YtfkccanjdlajlabGreatDoor
open Go.RowKit Te
set_option linter.unusedSimpArgs false
set_option linter.unusedVariables false

abbrev exO (h : EH) (kv : Value) : Obj := .cells #[ci h.kind, ci h.op, ct h.mod, ct h.name, ci h.vt, .int .u64 h.vb, kv] 44 (0, 0)
set_option maxRecDepth 20000 in
set_option maxHeartbeats 4000000 in
theorem rx1_any (h : EH) (k : Exs) (ao : Option Addr) (cap : Nat) (q : Nat) (w : World) (ho : OkE h) (hx : OkX k) (hk : ExL w ao cap k) (hq : w.heap[q]? = some (exO h (.slice ao k.len cap))) :
    Calls Tryz.prog 56 #[.pointer (some ⟨q, 0, none⟩)] w fun e w' => e = lk (errX rnS cnS h k) ∧ Fr (fun _ => False) w w' := by
  obtain ⟨c0, c1, c2, c3, c4, c5, c6⟩ := ex_box hq
  have hqH : Hidden (w.heap[q]? = some (exO h (.slice ao k.len cap))) := hq
  have kd := depth_any h k 1 0 _ ao cap w rfl hk
  have kx := lookX_any h k
  unfold LookX at kx
  generalize hD : dX h k 1 0 = DD at kd
  clear hq
  unfold gUp at *
  by_cases hd : DD ≤ 32
  · have e1 : errX rnS cnS h k = orE (errH rnS cnS h k.len) (errL rnS cnS k) := by
      unfold errX
      rw [hD, if_neg (by omega)]
      rfl
    rw [e1]
    clear e1 hD
    generalize hE : orE (errH rnS cnS h k.len) (errL rnS cnS k) = E at kx
    clear hE
    by_cases h0 : E = 0
    · subst h0
      simp only [lk_0] at kx
      go_enter Tryz.func56, Tryz.ntmps56
      go_wp2_with fail
      go_at_call 58
      refine kd.mono ?_
      rintro e w1 ⟨rfl, f1⟩
      obtain ⟨d0, d1, d2, d3, d4, d5, d6⟩ := ex_box (f1.heap hqH (fun f => f))
      go_wp2_with fail
      go_at_call 57
      refine (must_yes _ (by first | rfl | (simp; omega)) 13 _).mono ?_
      rintro e w2 ⟨rfl, rfl⟩
      go_wp2_with fail
      go_at_call 59
      refine (kx ao cap _ ho hx (hk.keep f1)).mono ?_
      rintro e w3 ⟨rfl, f3⟩
      go_wp2_with fail
      go_end0
      exact ⟨rfl, f1.same f3⟩
    · simp only [lk_ne h0] at kx
      unfold gUp at kx
      go_enter Tryz.func56, Tryz.ntmps56
      go_wp2_with fail
      go_at_call 58
      refine kd.mono ?_
      rintro e w1 ⟨rfl, f1⟩
      obtain ⟨d0, d1, d2, d3, d4, d5, d6⟩ := ex_box (f1.heap hqH (fun f => f))
      go_wp2_with fail
      go_at_call 57
      refine (must_yes _ (by first | rfl | (simp; omega)) 13 _).mono ?_
      rintro e w2 ⟨rfl, rfl⟩
      go_wp2_with fail
      go_at_call 59
      refine (kx ao cap _ ho hx (hk.keep f1)).mono ?_
      rintro e w3 ⟨rfl, f3⟩
      go_wp2_with fail
      exact ⟨rfl, (lk_is ⟨rfl, h0⟩).symm, f1.same f3⟩
  · have e1 : errX rnS cnS h k = 13 := by
      unfold errX
      rw [hD, if_pos (by omega)]
      rfl
    rw [e1]
    clear e1 hD
    go_enter Tryz.func56, Tryz.ntmps56
    go_wp2_with fail
    go_at_call 58
    refine kd.mono ?_
    rintro e w1 ⟨rfl, f1⟩
    obtain ⟨d0, d1, d2, d3, d4, d5, d6⟩ := ex_box (f1.heap hqH (fun f => f))
    go_wp2_with fail
    go_at_call 57
    refine (must_not _ (by first | rfl | (simp; omega)) 13 _).mono ?_
    unfold gUp
    rintro e w2 ⟨rfl, rfl⟩
    go_wp2_with fail
    exact ⟨rfl, (lk_is ⟨rfl, by decide⟩).symm, f1⟩
set_option maxRecDepth 20000 in
theorem rightX_any (h : EH) (k : Exs) (v : Value) (w : World) (ho : OkE h) (hx : OkX k) (hv : ExI w h k v) :
    Calls Tryz.prog 33 #[v] w fun e w' => e = .returned (ci (errX rnS cnS h k)) ∧ Fr (fun _ => False) w w' := by
  obtain ⟨ao, cap, rfl, hk⟩ := hv
  have hmf : ∀ (fn : Fn) (first cap : Array Value) (w : World), (Instr.makeFunc fn first cap).run Tryz.prog w = .ok (.func fn first cap) w := fun _ _ _ _ => rfl
  have f0 := Fr.alloc (fun _ => False) w (exO h (.slice ao k.len cap))
  have hq : Hidden ((w.alloc (exO h (.slice ao k.len cap))).heap[w.heap.size]? = some (exO h (.slice ao k.len cap))) := alloc_new _ _
  have kf := fault_x ⟨w.heap.size, 0, none⟩ (errX rnS cnS h k) (w.alloc (exO h (.slice ao k.len cap))) (fun w0 f => rx1_any h k ao cap w.heap.size w0 ho hx (hk.keep (f0.same f)) (f.heap hq (fun f => f)))
  go_enter Tryz.func33, Tryz.ntmps33
  go_wp2_with fail
  go_at_call 35
  refine kf.mono ?_
  rintro e w1 ⟨rfl, f1⟩
  go_wp2_with fail
  go_ret
  exact ⟨rfl, f0.same f1⟩
end Go.Proofs.YtfkccanjdlajlabGreatDoor
