/- The law's names (for FoldLifts). -/
import Derived.Test.YtbmaaaeipcopcaaFoL
namespace Go.Proofs.Ytbmaaaeipcopcaa.Fo
open Go.RowKit Te
set_option linter.unusedSimpArgs false
set_option linter.unusedVariables false

def NmX (n : Bs) (h : EH) (k : Exs) : Prop := ∀ (ao : Option Addr) (cap : Nat) (w : World), ExL w ao cap k →
  Calls Try.prog 5 #[exV h (.slice ao k.len cap), ct n] w fun e w' => e = .returned (.bool (namX n h k)) ∧ Fr FN w w'
def AllN (n : Bs) : Exs → Prop
  | .nil => True
  | .cons h k r => NmX n h k ∧ AllN n r
set_option maxRecDepth 20000 in
set_option maxHeartbeats 4000000 in
theorem nam_step (n : Bs) (h : EH) (k : Exs) (ih : AllN n k) : NmX n h k := by
  intro ao cap w hk
  have f0 := Fr.alloc FN w (exO h (.slice ao k.len cap))
  have hA : Hidden ((w.alloc (exO h (.slice ao k.len cap))).heap[w.heap.size]? = some (exO h (.slice ao k.len cap))) := alloc_new _ _
  obtain ⟨W0, hW0⟩ : ∃ W, W = w.alloc (exO h (.slice ao k.len cap)) := ⟨_, rfl⟩
  rw [← hW0] at f0 hA
  have hW0H : Hidden (W0 = _) := hW0
  have hrest := (hk.keep f0).rest
  obtain ⟨hcap, hmax, _⟩ := hk
  have hlen : k.len ≤ 9223372036854775807 := by unfold maxLen at hmax; omega
  have f0H : Hidden (Fr FN w W0) := f0
  have hun : namX n h k = (namL n k || h.name == n) := rfl
  have hunH : Hidden (namX n h k = (namL n k || h.name == n)) := hun
  clear hW0 f0 hun
  go_enter Try.func5, Try.ntmps5
  go_wp2_with fail
  rw [← (show W0 = _ from hW0H)]
  go_loopg [5] k.len (fun g iv wr => ∃ (i : Nat) (r : Exs), iv = ci (i : Int) ∧ i + r.len = k.len ∧ AllN n r ∧ ExR W0 ao i r ∧ namL n k = namL n r ∧ g = r.len ∧ Fr FN W0 wr)
  case atStart => exact ⟨0, k, rfl, by omega, ih, hrest, rfl, rfl, Fr.refl _ _⟩
  case round =>
    obtain ⟨i, r, rfl, hlen2, hih, hrow, hdk, hgk, hfr⟩ := hrel
    have hgkH : Hidden (gk = r.len) := hgk
    have hdkH : Hidden (namL n k = namL n r) := hdk
    have hlenH : Hidden (i + r.len = k.len) := hlen2
    obtain ⟨a0, a1, a2, a3, a4, a5, a6⟩ := ex_box (hfr.heap hA (fun f => f))
    clear hgk hdk hlen2 hrest ih
    cases r with
    | nil =>
      have hi : i = k.len := hlenH
      subst hi
      have hres : Hidden (namX n h k = (h.name == n)) := by rw [show namX n h k = _ from hunH, show namL n k = _ from hdkH]; simp [namL, Hidden]
      go_wp2_with fail
      go_ret
      exact ⟨by rw [show namX n h k = _ from hres]; first | rfl | simp, (show Fr FN w W0 from f0H).same hfr⟩
    | cons h' k' r' =>
      have hil : i < k.len := by have : i + (r'.len + 1) = k.len := hlenH; omega
      obtain ⟨b, off, ao', cap', rfl, hL, hrow2, d0, d1, d2, d3, d4, d5, d6⟩ := hrow.next
      have d0 := hfr.cellN d0
      have d1 := hfr.cellN d1
      have d2 := hfr.cellN d2
      have d3 := hfr.cellN d3
      have d4 := hfr.cellN d4
      have d5 := hfr.cellN d5
      have d6 := hfr.cellN d6
      have kc := hih.1 ao' cap' wr (hL.keep hfr)
      have hev : Hidden (namL n k = (namX n h' k' || namL n r')) := hdkH
      have hih2 := hih.2
      clear hih hdkH hL
      generalize namX n h' k' = E at kc hev
      cases E
      · have hev2 : Hidden (namL n k = namL n r') := by rw [show namL n k = _ from hev]; simp [Hidden]
        go_wp2_with fail
        go_at_call 5
        refine kc.mono ?_
        rintro e W3 ⟨rfl, f3⟩
        go_wp2_with fail
        go_roundg r'.len
        case measure =>
          have : gk = r'.len + 1 := hgkH
          omega
        case rel =>
          refine ⟨i + 1, r', by go_num, ?_, hih2, hrow2, hev2, rfl, hfr.same f3⟩
          have : i + (r'.len + 1) = k.len := hlenH
          omega
      · have hres : Hidden (namX n h k = true) := by rw [show namX n h k = _ from hunH, show namL n k = _ from hev]; simp [Hidden]
        go_wp2_with fail
        go_at_call 5
        refine kc.mono ?_
        rintro e W3 ⟨rfl, f3⟩
        go_wp2_with fail
        go_ret
        exact ⟨by rw [show namX n h k = _ from hres]; first | rfl | simp, (show Fr FN w W0 from f0H).same (hfr.same f3)⟩
theorem allN (n : Bs) : ∀ k : Exs, AllN n k
  | .nil => trivial
  | .cons h k r => ⟨nam_step n h k (allN n k), allN n r⟩
theorem names_any (n : Bs) (h : EH) (k : Exs) : NmX n h k := nam_step n h k (allN n k)
end Go.Proofs.Ytbmaaaeipcopcaa.Fo
