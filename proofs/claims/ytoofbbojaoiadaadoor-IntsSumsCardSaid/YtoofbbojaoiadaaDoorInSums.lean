/- IntsSums walked: any numbers. -/
import Derived.Test.YtoofbbojaoiadaaDoorInSum
import Derived.Test.YtoofbbojaoiadaaDoorInRef
import Derived.Test.YtoofbbojaoiadaaDoorInLive
import Derived.OwnWalk
import Derived.WideShapes
import Derived.Below
import Derived.Laws.OwnMore
import Derived.Laws.AppendOwnNone
namespace Go.Proofs.YtoofbbojaoiadaaDoor
open Go.RowKit Go.WideShapes
set_option linter.unusedSimpArgs false
set_option linter.unusedVariables false

theorem radd_is (a b v e : Int) (ha : I64 a) (hb : I64 b) (hv : fitV (a + b) = v) (he : fitE (a + b) = e) (w : World) :
    Calls Tryd.prog 10 #[.int .i64 a, .int .i64 b] w fun e' w' => e' = .returned (.tuple #[.int .i64 v, .int .i64 e]) ∧ w = w' := hv ▸ he ▸ radd_any a b ha hb w

theorem rsum_empty (ao : Option Addr) (cap : Nat) (w : World) :
    Calls Tryd.prog 25 #[.slice ao 0 cap] w fun r w' => r = .returned (.tuple #[.int .i64 0, .int .i64 0, .int .i64 0]) ∧ w = w' := by
  go_enter Tryd.func25, Tryd.ntmps25
  go_wp2
  refine wp_loop_rounds 1 ?_
  rw [rounds_succ]
  go_wp2
  go_ret3
  exact ⟨rfl, rfl⟩

set_option maxHeartbeats 1000000 in
theorem rsum_walk (b off cap len : Nat) (l : List Int) (v p e : Int) (hlen : Hidden (l.length = len)) (hres : Hidden (sumS l 0 0 = (v, p, e))) (hl : len ≤ 9223372036854775807) (hI : Hidden (∀ x ∈ l, I64 x)) (w : World)
    (hc : Hidden (∀ (i : Nat) (x : Int), l[i]? = some x → w.cell? ⟨b, off + i, none⟩ = some (.int .i64 x))) :
    Calls Tryd.prog 25 #[.slice (some ⟨b, off, none⟩) len cap] w fun r w' => r = .returned (.tuple #[.int .i64 v, .int .i64 p, .int .i64 e]) ∧ w = w' := by
  go_enter Tryd.func25, Tryd.ntmps25
  go_wp2
  go_loop [5, 6] (fun sv iv => ∃ (j : Nat) (s : Int), sv = .int .i64 s ∧ iv = .int .i64 (j : Int) ∧ j ≤ len ∧ I64 s ∧ sumS (l.drop j) s j = (v, p, e)) (fun _ iv => len - (intOf iv).toNat)
  case atStart => exact ⟨0, 0, rfl, rfl, by omega, ⟨by omega, by omega⟩, hres⟩
  case round =>
    obtain ⟨j, s, rfl, rfl, hj, hs, hf⟩ := hrel
    have hlen' : l.length = len := hlen
    by_cases hjl : j < len
    · obtain ⟨x, hx⟩ : ∃ x, l[j]? = some x := ⟨l[j], List.getElem?_eq_getElem (by omega)⟩
      have hdr : l.drop j = x :: l.drop (j + 1) := by
        have := List.drop_eq_getElem_cons (show j < l.length by omega)
        rw [List.getElem?_eq_getElem (by omega)] at hx
        cases hx
        exact this
      have hcj := (show ∀ (i : Nat) (x : Int), l[i]? = some x → w.cell? ⟨b, off + i, none⟩ = some (.int .i64 x) from hc) j x hx
      have hxI : I64 x := (show ∀ x ∈ l, I64 x from hI) x (List.mem_of_getElem? hx)
      rw [hdr, sumS] at hf
      have hfi := @fitV_in (s + x)
      have hfo := @fitV_out (s + x)
      rw [← fit_iff] at hfi hfo
      clear hdr hx hlen'
      cases ht : fit (s + x)
      · rw [ht] at hf hfo
        simp only [Bool.false_eq_true, if_false] at hf
        have hfH : Hidden ((v, p, e) = (0, (j : Int), 80)) := hf.symm
        obtain ⟨k1, k2⟩ := hfo (by simp)
        have ka := radd_is s x 0 80 hs hxI k1 k2
        clear hf hfi hfo k1 k2 ht hs hxI
        go_wp2_with (go_at_call 10; refine (ka _).mono ?_; rintro e w' ⟨rfl, rfl⟩)
        go_ret3
        exact ⟨ret3 (show (v, p, e) = (0, (j : Int), 80) from hfH).symm, rfl⟩
      · rw [ht] at hf hfi
        simp only [if_true] at hf
        obtain ⟨k1, k2⟩ := hfi rfl
        have hn : Hidden (I64 (s + x)) := (fit_iff _).1 ht
        have ka := radd_is s x _ 0 hs hxI k1 k2
        obtain ⟨S, hS⟩ : ∃ S, s + x = S := ⟨_, rfl⟩
        rw [hS] at ka hf hn
        have hfH : Hidden (sumS (l.drop (j + 1)) S ((j : Int) + 1) = (v, p, e)) := hf
        clear hf hfi hfo k1 k2 ht hs hxI hS
        go_wp2_with (go_at_call 10; refine (ka _).mono ?_; rintro e w' ⟨rfl, rfl⟩)
        go_round
        case rel => exact ⟨j + 1, S, rfl, by go_num, by omega, hn, by rw [show ((j + 1 : Nat) : Int) = (j : Int) + 1 by omega]; exact hfH⟩
        case measure => simp [intOf]; omega
    · obtain rfl : j = len := by omega
      rw [← hlen', List.drop_length, sumS] at hf
      have hfH : Hidden ((v, p, e) = (s, 0, 0)) := hf.symm
      clear hf hlen' hs
      go_wp2
      go_ret3
      exact ⟨ret3 (show (v, p, e) = (s, 0, 0) from hfH).symm, rfl⟩

theorem Tryd.info_i64 : (Tryd.prog.info? 2).map (fun i => (i.zero, i.size, i.bytes)) = some (some (.int .i64 0), 1, 8) := by kernel_rfl

/-- The same cells, whatever was drawn. -/
def SameC (w w' : World) : Prop := (∀ a, w'.cell? a = w.cell? a) ∧ Kb w w'
theorem SameC.refl (w : World) : SameC w w := ⟨fun _ => rfl, Kb.refl w⟩
theorem SameC.drew {w w' : World} (h : SameC w w') : SameC w w'.drew := ⟨fun a => by rw [World.cell?_drew]; exact h.1 a, h.2.trans (Kb.drew _)⟩

theorem own_row (w w2 : World) (v' : Value) (len : Nat) (l : List Int) (hlen : l.length = len) (hown : w2.ownsRow w.heap.size 2 1 v' len (l.map fun x => .int .i64 x))
    (hg : (w.alloc (.cells #[] 2)).grownBy w2 (some w.heap.size)) (hne : ¬ v' = .slice none 0 0) :
    ∃ g cap2, v' = .slice (some ⟨g, 0, none⟩) len cap2 ∧ (∀ (i : Nat) (x : Int), l[i]? = some x → w2.cell? ⟨g, i, none⟩ = some (.int .i64 x)) ∧ Below w.heap.size w w2 := by
  have hB : Below w.heap.size w w2 := ((Below.refl _ _).alloc (Nat.le_refl _) _).grown hg (by simp) (fun k hk => by simp at hk; omega)
  rcases hown.2 with ⟨h, _⟩ | ⟨g, cap2, cur, hv, _⟩
  · exact absurd h hne
  subst hv
  refine ⟨g, cap2, rfl, fun i x hx => ?_, hB⟩
  obtain ⟨hi, _⟩ := List.getElem?_eq_some_iff.1 hx
  rw [hown.cellAt i (by omega), List.getElem?_map, hx]
  rfl

set_option maxRecDepth 20000 in
set_option maxHeartbeats 2000000 in
theorem sums_some (b off cap len : Nat) (l : List Int) (v p e : Int) (hlen : Hidden (l.length = len)) (hres : Hidden (sumS l 0 0 = (v, p, e))) (hb8 : len * 8 ≤ 140737488351232) (hI : Hidden (∀ x ∈ l, I64 x)) (w : World) (hbw : b < w.heap.size)
    (hc : Hidden (∀ (i : Nat) (x : Int), l[i]? = some x → w.cell? ⟨b, off + i, none⟩ = some (.int .i64 x))) (ht : Tab w) :
    Calls Tryd.prog 4 #[.slice (some ⟨b, off, none⟩) len cap] w fun e w' => e = .returned (.bool true) ∧ Kb w w' := by
  obtain ⟨i0, hi, hz0, hz1, hz2⟩ := info_parts Tryd.info_i64
  go_enter Tryd.func4, Tryd.ntmps4
  go_wp2_with (first
    | (at_builtin; refine wpList_append_own _ rfl _ _ 29 rfl w.heap.size 2 i0 (.int .i64 0) 1 8 Tryd.underlying29 hi hz0 hz1 hz2 rfl (by decide) _ 0 [] rfl ?c0 ⟨b, off, none⟩ len cap (l.map fun x => .int .i64 x) rfl ?c1 ?c2 ?c3 ?c4 ?c5 ?c6 ?_)
    | fail)
  case c0 => exact ⟨rfl, Or.inr ⟨w.heap.size, 0, #[], rfl, Nat.le_refl _, by show (w.heap.push _)[w.heap.size]? = _; simp, Nat.le_refl _, by unfold maxLen; omega, rfl, rfl⟩⟩
  case c1 => rw [List.length_map, Nat.mul_one]; exact hlen
  case c2 =>
    intro j u hu
    rw [List.getElem?_map] at hu
    obtain ⟨x, hx, rfl⟩ := Option.map_eq_some_iff.1 hu
    have := (show ∀ (i : Nat) (x : Int), l[i]? = some x → w.cell? ⟨b, off + i, none⟩ = some (.int .i64 x) from hc) j x hx
    have hB : Below w.heap.size w (w.alloc (.cells #[] 2)) := (Below.refl _ _).alloc (Nat.le_refl _) _
    rw [add_plain, hB.cell (by exact hbw)]
    exact this
  case c3 =>
    intro u hu
    obtain ⟨x, _, rfl⟩ := List.mem_map.1 hu
    rfl
  case c4 => unfold maxLen; omega
  case c5 => omega
  case c6 => simp
  intro v' w2 hown hg hne
  obtain ⟨g, cap2, rfl, hcells, hB⟩ := own_row w w2 v' len l hlen hown hg hne
  have hc2 : Hidden (∀ (i : Nat) (x : Int), l[i]? = some x → w2.cell? ⟨g, 0 + i, none⟩ = some (.int .i64 x)) := by
    intro i x hx
    rw [Nat.zero_add]
    exact hcells i x hx
  have hc3 : Hidden (∀ (i : Nat) (x : Int), l[i]? = some x → w2.cell? ⟨b, off + i, none⟩ = some (.int .i64 x)) := by
    intro i x hx
    rw [hB.cell (by exact hbw)]
    exact (show ∀ (i : Nat) (x : Int), l[i]? = some x → w.cell? ⟨b, off + i, none⟩ = some (.int .i64 x) from hc) i x hx
  have hK : Kb w w2 := Kb.of_below hB
  have ht2 := tab_kb ht hK
  have k1 := sum_walk g 0 cap2 len l v p e hlen hres (by omega) hI w2 hc2
  have k2 := rsum_walk b off cap len l v p e hlen hres (by omega) hI w2 hc3
  have hcellsH : Hidden (∀ (i : Nat) (x : Int), l[i]? = some x → w2.cell? ⟨g, i, none⟩ = some (.int .i64 x)) := hcells
  clear hown hg hne hB hcells hc hc2 hi hz0 hz1 hz2 hbw
  go_wp2_with (first
    | (go_at_call 24; refine k1.mono ?_; rintro e w' ⟨rfl, rfl⟩)
    | (go_at_call 25; refine k2.mono ?_; rintro e w' ⟨rfl, rfl⟩))
  go_loopg [10] len (fun k iv wr => ∃ n : Nat, iv = .int .i64 (n : Int) ∧ n ≤ len ∧ SameC w2 wr ∧ k = len - n)
  case atStart => exact ⟨0, rfl, by omega, SameC.refl _, rfl⟩
  case round =>
    obtain ⟨n, rfl, hn, hsm, hgk⟩ := hrel
    have hgkH : Hidden (gk = len - n) := hgk
    clear hgk k1 k2
    by_cases hnl : n < len
    · obtain ⟨x, hx⟩ : ∃ x, l[n]? = some x := ⟨l[n]'(by rw [show l.length = len from hlen]; exact hnl), List.getElem?_eq_getElem _⟩
      have d1 : wr.cell? ⟨g, n, none⟩ = some (.int .i64 x) := by rw [hsm.1]; exact (show ∀ (i : Nat) (x : Int), l[i]? = some x → w2.cell? ⟨g, i, none⟩ = some (.int .i64 x) from hcellsH) n x hx
      have d2 : wr.cell? ⟨b, off + n, none⟩ = some (.int .i64 x) := by rw [hsm.1]; exact (show ∀ (i : Nat) (x : Int), l[i]? = some x → w2.cell? ⟨b, off + i, none⟩ = some (.int .i64 x) from hc3) n x hx
      clear hx
      go_wp2
      go_region
      go_wp2
      go_roundg (len - (n + 1))
      case measure =>
        have : gk = len - n := hgkH
        omega
      case rel => exact ⟨n + 1, by go_num, by omega, by repeat (first | exact hsm | apply SameC.drew), rfl⟩
    · obtain rfl : n = len := by omega
      have kl := live_any wr (tab_kb ht2 hsm.2)
      go_wp2_with (go_at_call 23; refine kl.mono ?_; rintro e w' ⟨rfl, g5⟩)
      go_ret
      exact ⟨rfl, hK.trans (hsm.2.trans g5)⟩
end Go.Proofs.YtoofbbojaoiadaaDoor
