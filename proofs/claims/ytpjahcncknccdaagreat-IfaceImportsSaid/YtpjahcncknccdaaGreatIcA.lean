/- iface.paramTypes; a row of items. -/
import Derived.Test.YtpjahcncknccdaaGreatFoP
import Derived.Test.YtpjahcncknccdaaGreatTyH
namespace Go.Proofs.YtpjahcncknccdaaGreat.Fo.Ic
open Go.RowKit Te
set_option linter.unusedSimpArgs false
set_option linter.unusedVariables false

set_option maxRecDepth 20000 in
set_option maxHeartbeats 2000000 in
theorem ptypes_any (l : List Pa) (ao : Option Addr) (cap : Nat) (w : World) (h : PaL w ao cap l) (hl : l.length ≤ 17592186044416) :
    Calls Tryz.prog 66 #[.slice ao l.length cap] w fun e w' => ∃ v, e = .returned v ∧ w'.ownsRow w.heap.size 3 1 v l.length (l.map fun p => ci p.type) ∧ Fr FN w w' := by
  have m1 := h.1
  have m2 : cap ≤ 9223372036854775807 := by have := h.2.1; unfold maxLen at this; omega
  have hH : Hidden (PaL w ao cap l) := h
  have hlH : Hidden (l.length ≤ 17592186044416) := hl
  clear h hl
  go_enter Tryz.func66, Tryz.ntmps66
  go_wp2_with fail
  go_loopg [3, 8] l.length (fun g lv iv wr => ∃ (i : Nat), iv = ci (i : Int) ∧ i ≤ l.length ∧ g = l.length - i ∧ wr.ownsRow w.heap.size 3 1 lv i ((l.take i).map fun p => ci p.type) ∧ Fr FN w wr)
  case atStart => exact ⟨0, rfl, by omega, rfl, own_nil _ _ _ _, Fr.refl _ _⟩
  case round =>
    obtain ⟨i, rfl, hi, hgk, hrow, hfr⟩ := hrel
    obtain ⟨ao2, cap2, hv, _⟩ := own_slice hrow (by decide)
    subst hv
    have hgkH : Hidden (gk = l.length - i) := hgk
    have hrowH : Hidden (wr.ownsRow w.heap.size 3 1 (.slice ao2 i cap2) i ((l.take i).map fun p => ci p.type)) := hrow
    have hfrH : Hidden (Fr FN w wr) := hfr
    clear hgk hrow
    by_cases hil : i < l.length
    · obtain ⟨p, hp⟩ : ∃ p, l[i]? = some p := ⟨l[i], List.getElem?_eq_getElem hil⟩
      obtain ⟨b, off, rfl, d0, d1⟩ : ∃ b off, ao = some ⟨b, off, none⟩ ∧ w.cell? ⟨b, off + i * 2, none⟩ = some (ct p.name) ∧ w.cell? ⟨b, off + i * 2 + 1, none⟩ = some (ci p.type) := by
        rcases (show PaL w ao cap l from hH).2.2 with h0 | ⟨b, off, e, h0⟩
        · rw [h0] at hil; simp at hil
        · exact ⟨b, off, e, h0 i p hp 0 _ rfl, h0 i p hp 1 _ rfl⟩
      replace d0 := hfr.cellN d0
      replace d1 := hfr.cellN d1
      have hts : Hidden ((l.take (i + 1)).map (fun p => ci p.type) = (l.take i).map (fun p => ci p.type) ++ [ci p.type]) := by
        show _ = _
        rw [take_snoc hp, List.map_append]; rfl
      obtain ⟨W9, hW9⟩ : ∃ W, W = (wr.alloc (.cells #[ct p.name, ci p.type] 159)).alloc (.cells #[ci p.type] 3) := ⟨_, rfl⟩
      have f9 : Fr FN wr W9 := by rw [hW9]; exact (Fr.alloc _ _ _).same (Fr.alloc _ _ _)
      have hnew : Hidden (W9.heap[wr.heap.size + 1]? = some (.cells #[ci p.type] 3 (0, 0))) := by rw [hW9]; exact alloc_at _ _ _ (by simp)
      have hrow9 : Hidden (W9.ownsRow w.heap.size 3 1 (.slice ao2 i cap2) i ((l.take i).map fun p => ci p.type)) := own_keep hrowH f9 (fun _ _ f => f)
      have g9 : Hidden (Fr FN w W9) := hfr.same f9
      have hW9H : Hidden (W9 = _) := hW9
      clear hp hW9 hfr
      go_wp2_with (at_builtin; rw [← (show W9 = _ from hW9H)]; refine wpl_append rfl _ _ 57 3 _ 1 8 Tryz.underlying57 Ty.info_int rfl (by decide) rfl w.heap.size (.slice ao2 i cap2) i _ ⟨wr.heap.size + 1, 0, none⟩ 1 1 [ci p.type] rfl hrow9 rfl rfl ?_ ?_ ?_ ?_ ?_ ?_; (focus (intro j u hu; cases j with | zero => (cases hu; exact cell_of_row _ _ 0 _ _ _ hnew) | succ j => simp at hu)); (focus (intro u hu; rw [List.mem_singleton.1 hu]; rfl)); (focus (have : l.length ≤ 17592186044416 := hlH; simp only [maxLen]; omega)); (focus (have : l.length ≤ 17592186044416 := hlH; omega)); (focus (exact (show Fr FN w W9 from g9).size)); intro v4 w4 hr4 f4 _)
      have g4 : Fr FN w w4 := (show Fr FN w W9 from g9).over f4 (fun k hk => (own_block (show W9.ownsRow _ _ 1 _ _ _ from hrow9) k hk).1)
      rw [← (show _ = _ from hts)] at hr4
      go_roundg (l.length - (i + 1))
      case measure => have : gk = l.length - i := hgkH; omega
      case rel => exact ⟨i + 1, by go_num, by omega, rfl, hr4, g4⟩
    · obtain rfl : i = l.length := by omega
      go_wp2_with fail
      go_ret
      have h1 : wr.ownsRow _ _ 1 _ _ ((l.take l.length).map fun p => ci p.type) := hrowH
      rw [List.take_length] at h1
      exact ⟨_, rfl, h1, hfrH⟩
end Go.Proofs.YtpjahcncknccdaaGreat.Fo.Ic
