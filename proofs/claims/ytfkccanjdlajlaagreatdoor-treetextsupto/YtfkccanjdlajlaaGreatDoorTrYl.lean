/- The document's Text; the law TreeTexts. -/
import Derived.Test.YtfkccanjdlajlaaGreatDoorTrXr
import Derived.Test.YtfkccanjdlajlaaGreatDoorTrY
import Derived.Test.YtfkccanjdlajlaaGreatDoorTrB
namespace Go.Proofs.YtfkccanjdlajlaaGreatDoor
open Go.RowKit Te
set_option linter.unusedSimpArgs false
set_option linter.unusedVariables false

set_option maxRecDepth 20000 in
set_option maxHeartbeats 4000000 in
theorem X.text_x (h : EH) (k : Exs) (v : Value) (w : World) (ho : OkE h) (hx : OkX k) (hv : ExI w h k v) (E : Int) (T : Bs) (hE : Hidden (errX rnS cnS h k = E)) (hT : Hidden (bare txS h k = T)) (hl : E = 0 → T.length ≤ 140737488355328) :
    Calls Tryz.prog 28 #[v] w fun e w' => e = .returned (.tuple #[ct (if E = 0 then T else []), ci E]) ∧ Fr (fun _ => False) w w' := by
  have kr0 := fun (w1 : World) (f : Fr (fun _ => False) w w1) => X.right_x h k v w1 (hv.keep f) ho hx E hE
  obtain ⟨ao, cap, rfl, hk⟩ := hv
  have hbx : Hidden ((w.alloc (.cells #[ci h.kind, ci h.op, ct h.mod, ct h.name, ci h.vt, .int .u64 h.vb, .slice ao k.len cap] 31)).heap[w.heap.size]? = some (.cells #[ci h.kind, ci h.op, ct h.mod, ct h.name, ci h.vt, .int .u64 h.vb, .slice ao k.len cap] 31 (0, 0))) := alloc_new _ _
  have f0 : Fr (fun _ => False) w (w.alloc (.cells #[ci h.kind, ci h.op, ct h.mod, ct h.name, ci h.vt, .int .u64 h.vb, .slice ao k.len cap] 31)) := Fr.alloc _ _ _
  have kr := kr0 _ f0
  clear kr0
  by_cases h0 : E = 0
  · subst h0
    have he : errX rnS cnS h k = 0 := hE
    unfold errX at he
    rw [orE_zero, orE_zero] at he
    have ka := fun (w1 : World) (f : Fr (fun _ => False) w w1) => X.at_any h k 1 ao cap w1 T ho hx (sh_of_err he.2.1) (shL_of_err k he.2.2) (hk.keep f) ((txA_one h k).trans hT) (by have := hl rfl; omega)
    rw [if_pos rfl]
    clear he hE hT hl
    go_enter Tryz.func28, Tryz.ntmps28
    go_wp2_with fail
    go_at_call 12
    refine kr.mono ?_
    rintro e w1 ⟨rfl, f1⟩
    obtain ⟨c0, c1, c2, c3, c4, c5, c6⟩ := ex_box (f1.heap hbx (fun f => f))
    go_wp2_with fail
    go_at_call 65
    refine (ka _ (f0.same f1)).mono ?_
    rintro e w2 ⟨rfl, f2⟩
    go_wp2_with fail
    go_ret2
    exact ⟨rfl, (f0.same f1).same f2⟩
  · have hx0 : (E != 0) = true := by simpa using h0
    have hx1 : (E == 0) = false := by simpa using h0
    rw [if_neg h0]
    clear hE hT hl
    go_enter Tryz.func28, Tryz.ntmps28
    go_wp2_with fail
    go_at_call 12
    refine kr.mono ?_
    rintro e w1 ⟨rfl, f1⟩
    go_wp2_with fail
    go_ret2
    exact ⟨rfl, f0.same f1⟩
set_option maxRecDepth 20000 in
set_option maxHeartbeats 4000000 in
theorem treeTexts.walk (v : Value) (h : EH) (k : Exs) (w : World) (hv : ExI w h k v) (ho : OkE h) (hx : OkX k) (hl : h.mod.length + h.name.length + In.bkX k ≤ 1048576) (ht : F.Tab w) :
    Calls Tryz.prog 7 #[v] w fun e w' => e = .returned (.bool true) ∧ Fr (fun _ => False) w w' := by
  have hlen : errX rnS cnS h k = 0 → (bare txS h k).length ≤ 140737488355328 := fun he => by have := err_text h k ho hx (by omega) he; omega
  have k1 := fun (w1 : World) (f : Fr (fun _ => False) w w1) => text_x h k v w1 ho hx (hv.keep f) (tab_fr ht f) _ _ rfl rfl hlen
  have k2 := fun (w1 : World) (f : Fr (fun _ => False) w w1) => X.text_x h k v w1 ho hx (hv.keep f) _ _ rfl rfl hlen
  obtain ⟨ao, cap, rfl, hk⟩ := hv
  generalize errX rnS cnS h k = E at k1 k2
  generalize (if E = 0 then bare txS h k else []) = T at k1 k2
  have hbx : Hidden ((w.alloc (.cells #[ci h.kind, ci h.op, ct h.mod, ct h.name, ci h.vt, .int .u64 h.vb, .slice ao k.len cap] 31)).heap[w.heap.size]? = some (.cells #[ci h.kind, ci h.op, ct h.mod, ct h.name, ci h.vt, .int .u64 h.vb, .slice ao k.len cap] 31 (0, 0))) := alloc_new _ _
  have f0 : Fr (fun _ => False) w (w.alloc (.cells #[ci h.kind, ci h.op, ct h.mod, ct h.name, ci h.vt, .int .u64 h.vb, .slice ao k.len cap] 31)) := Fr.alloc _ _ _
  clear hlen
  go_enter Tryz.func7, Tryz.ntmps7
  go_wp2_with fail
  go_at_call 27
  refine (k1 _ f0).mono ?_
  rintro e w1 ⟨rfl, f1⟩
  have g1 := f0.same f1
  obtain ⟨c0, c1, c2, c3, c4, c5, c6⟩ := ex_box (f1.heap hbx (fun f => f))
  go_wp2_with fail
  go_at_call 28
  refine (k2 _ g1).mono ?_
  rintro e w2 ⟨rfl, f2⟩
  have g2 := g1.same f2
  go_wp2_with fail
  go_at_call 13
  refine (live_any _ (tab_fr ht g2)).mono ?_
  rintro e w3 ⟨rfl, f3⟩
  go_wp2_with fail
  go_ret
  exact ⟨rfl, g2.same f3⟩
end Go.Proofs.YtfkccanjdlajlaaGreatDoor
