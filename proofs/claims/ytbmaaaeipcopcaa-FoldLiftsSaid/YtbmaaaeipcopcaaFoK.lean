/- Rows of constants of the call's own; Own. -/
import Derived.Test.YtbmaaaeipcopcaaFoG
import Derived.Test.YtbmaaaeipcopcaaRwA
namespace Go.Proofs.Ytbmaaaeipcopcaa.Fo
open Go.RowKit Te
set_option linter.unusedSimpArgs false
set_option linter.unusedVariables false

def RC (c : Con) (cs : List Value) : Prop := cs = coC c
/-- A row of constants of the call's own. -/
abbrev CoW (w : World) (B : Nat) (v : Value) (l : List Con) : Prop := Rw.Row RC 41 4 w B v l
theorem info_con : (Try.prog.info? 41).map (fun i => (i.zero, i.size, i.bytes)) = some (some (.agg #[.string ⟨#[]⟩, .string ⟨#[]⟩, .int .i64 0, .int .u64 0]), 4, 48) := by kernel_rfl
theorem CoW.col {w : World} {B : Nat} {v : Value} {l : List Con} (h : CoW w B v l) : ∃ ao cap, v = .slice ao l.length cap ∧ CoL w ao cap l := by
  obtain ⟨ao, cap, h1, h2, h3, h4⟩ := h.slice
  refine ⟨ao, cap, h1, h2, h3, ?_⟩
  rcases h4 with h4 | ⟨g, rfl, hc⟩
  · exact Or.inl h4
  · refine Or.inr ⟨g, 0, rfl, fun i x hx j u hu => ?_⟩
    obtain ⟨c, h5, _, h6⟩ := hc i x hx
    have h5 : c = coC x := h5
    subst h5
    rw [Nat.zero_add]
    exact h6 j u hu
theorem CoW.none (w : World) (B : Nat) : CoW w B (.slice none 0 0) [] := ⟨[], ⟨by simp, Or.inl ⟨rfl, rfl⟩⟩, rfl⟩
theorem CoW.keepN {w w' : World} {B : Nat} {v : Value} {l : List Con} (h : CoW w B v l) (hf : Fr FN w w') : CoW w' B v l := h.keep hf (fun _ _ f => f)
theorem chunk1 (c : Con) : Rw.Chunks RC 4 [c] (coC c) := ⟨coC c, [], by simp, rfl, rfl, rfl⟩
theorem coC_one (c : Con) : ∀ u ∈ coC c, u.oneCell' = true := by
  intro u hu
  simp only [coC, List.mem_cons, List.not_mem_nil, or_false] at hu
  rcases hu with rfl | rfl | rfl | rfl <;> rfl
theorem co_row {w : World} {g : Nat} {c : Con} {t : TypeId} (h : w.heap[g]? = some (.cells #[ct c.mod, ct c.name, ci c.t, .int .u64 c.b] t (0, 0))) : ∀ (j : Nat) (u : Value), (coC c)[j]? = some u → w.cell? ((⟨g, 0, none⟩ : Addr).add j) = some u := by
  intro j u hu
  rcases j with _ | _ | _ | _ | j
  · cases hu; exact cell_of_row _ _ 0 _ _ _ h
  · cases hu; exact cell_of_row _ _ 1 _ _ _ h
  · cases hu; exact cell_of_row _ _ 2 _ _ _ h
  · cases hu; exact cell_of_row _ _ 3 _ _ _ h
  · simp [coC] at hu
theorem take_snoc {α : Type} {l : List α} {i : Nat} {c : α} (h : l[i]? = some c) : l.take (i + 1) = l.take i ++ [c] := by
  rw [List.take_add_one, h]; rfl
set_option maxRecDepth 20000 in
set_option maxHeartbeats 4000000 in
theorem own_any (l : List Con) (ao : Option Addr) (cap : Nat) (w : World) (h : CoL w ao cap l) (hb : l.length * 48 ≤ 140737488355328) :
    Calls Try.prog 4 #[.slice ao l.length cap] w fun e w' => ∃ v, e = .returned v ∧ CoW w' w.heap.size v l ∧ Fr FN w w' := by
  have m1 := h.1
  have m2 : cap ≤ 9223372036854775807 := by have := h.2.1; unfold maxLen at this; omega
  have hH : Hidden (CoL w ao cap l) := h
  have hbH : Hidden (l.length * 48 ≤ 140737488355328) := hb
  clear h hb
  go_enter Try.func4, Try.ntmps4
  go_wp2_with fail
  go_loopg [3, 4] l.length (fun g lv iv wr => ∃ (i : Nat), iv = ci (i : Int) ∧ i ≤ l.length ∧ CoW wr w.heap.size lv (l.take i) ∧ g = l.length - i ∧ Fr FN w wr)
  case atStart => exact ⟨0, rfl, by omega, CoW.none _ _, rfl, Fr.refl _ _⟩
  case round =>
    obtain ⟨i, rfl, hi, hrow, hgk, hfr⟩ := hrel
    have hgkH : Hidden (gk = l.length - i) := hgk
    have htl : (l.take i).length = i := by rw [List.length_take]; omega
    obtain ⟨ao2, cap2, hv, hc1, hc2, _⟩ := hrow.slice
    rw [htl] at hv hc1
    subst hv
    have hc3 : cap2 ≤ 9223372036854775807 := by unfold maxLen at hc2; omega
    have hrowH : Hidden (CoW wr w.heap.size (.slice ao2 i cap2) (l.take i)) := hrow
    have hfrH : Hidden (Fr FN w wr) := hfr
    have hfz := hfr.size
    clear hgk hrow hc2
    by_cases hil : i < l.length
    · obtain ⟨c, ht⟩ : ∃ c, l[i]? = some c := ⟨l[i], List.getElem?_eq_getElem hil⟩
      obtain ⟨g, off, rfl, d0, d1, d2, d3⟩ := CoL.at (show CoL w _ cap l from hH) ht
      have hgw : g < w.heap.size := cell_lt d0
      replace d0 := hfr.cellN d0
      replace d1 := hfr.cellN d1
      replace d2 := hfr.cellN d2
      replace d3 := hfr.cellN d3
      have hgn : ¬ (Value.slice ao2 i cap2).ownBlock = some g := fun hh => by
        have h1 := ((show CoW wr w.heap.size (.slice ao2 i cap2) (l.take i) from hrowH).low g hh).1
        omega
      have hgnH : Hidden (¬ (Value.slice ao2 i cap2).ownBlock = some g) := hgn
      have hts : Hidden (l.take (i + 1) = l.take i ++ [c]) := take_snoc ht
      have htlH : Hidden ((l.take i).length = i) := htl
      clear ht hgn htl
      go_wp2_with fail
      go_region_held3 (fun w' => w'.cell? ⟨g, off + i * 4, none⟩ = some (ct c.mod) ∧ w'.cell? ⟨g, off + i * 4 + 1, none⟩ = some (ct c.name) ∧ w'.cell? ⟨g, off + i * 4 + 2, none⟩ = some (ci c.t) ∧ w'.cell? ⟨g, off + i * 4 + 3, none⟩ = some (.int .u64 c.b)) (first | (refine ⟨by with_reducible assumption, by with_reducible assumption, by with_reducible assumption, by with_reducible assumption⟩) | go_keep) (first
        | (refine Rw.step_rows (R := RC) rfl _ _ 30 41 (.agg #[.string ⟨#[]⟩, .string ⟨#[]⟩, .int .i64 0, .int .u64 0]) 4 48 Try.underlying30 info_con rfl (by decide) rfl w.heap.size (.slice ao2 i cap2) (l.take i) [c] (coC c) ⟨wr.heap.size, 0, none⟩ 1 1 rfl ?c0 rfl rfl (chunk1 c) ?c1 (coC_one c) ?c2 ?c3 ?c4 ?_
           case c0 => exact ((show CoW wr w.heap.size (.slice ao2 i cap2) (l.take i) from hrowH).keepN (Fr.alloc _ _ _)).keepN (Fr.drew _ _)
           case c1 => exact co_row (w := (wr.alloc _).drew) (alloc_new _ _)
           case c2 => rw [(show (l.take i).length = i from htlH)]; simp [maxLen]; have : l.length * 48 ≤ 140737488355328 := hbH; omega
           case c3 => rw [(show (l.take i).length = i from htlH)]; simp only [List.length_singleton]; have : l.length * 48 ≤ 140737488355328 := hbH; omega
           case c4 => simp; omega
           intro v2 W2 hrow2 f2 _
           have kp : ∀ (m : Nat) (u : Value), wr.cell? ⟨g, m, none⟩ = some u → W2.cell? ⟨g, m, none⟩ = some u := fun m u hu => f2.cell (((Fr.alloc FN wr _).same (Fr.drew _ _)).cellN hu) hgnH
           have q0 := kp _ _ d0
           have q1 := kp _ _ d1
           have q2 := kp _ _ d2
           have q3 := kp _ _ d3
           clear kp))
      go_wp2_with fail
      go_roundg (l.length - (i + 1))
      case measure => have : gk = l.length - i := hgkH; omega
      case rel =>
        refine ⟨i + 1, by go_num, by omega, ?_, rfl, ?_⟩
        · rw [(show l.take (i + 1) = _ from hts)]
          exact hrow2
        · refine (show Fr FN w wr from hfrH).over (((Fr.alloc FN wr _).same (Fr.drew _ _)).mono (fun _ _ f => f.elim) |>.same f2) (fun k hk => ?_)
          exact ((show CoW wr w.heap.size (.slice ao2 i cap2) (l.take i) from hrowH).low k hk).1
    · obtain rfl : i = l.length := by omega
      go_wp2_with fail
      go_ret
      refine ⟨_, rfl, ?_, hfrH⟩
      have := (show CoW wr w.heap.size (.slice ao2 l.length cap2) (l.take l.length) from hrowH)
      rw [List.take_length] at this
      exact this
end Go.Proofs.Ytbmaaaeipcopcaa.Fo
