/- Texts of ours, in one. -/
import Derived.Test.YtphpmaimgndjmaaDoorCdVe
import Derived.Test.YtphpmaimgndjmaaDoorCdNAll
import Derived.Test.YtphpmaimgndjmaaDoorCdTxAll
import Derived.Test.YtphpmaimgndjmaaDoorCdH
namespace Go.Proofs.YtphpmaimgndjmaaDoor.Cd
open Go.RowKit Ty
set_option linter.unusedSimpArgs false
set_option linter.unusedVariables false

theorem conv_bl {w : World} {ao : Option Addr} {cap : Nat} {l : Bs} (h : BL w ao cap l) : (convert 58 9 (.slice ao l.length cap)).run Tryd.prog w = .ok (ct l) w := by
  obtain ⟨h1, h2, h3, h4⟩ := h
  cases ao with
  | none =>
    have := h3 rfl
    subst this
    obtain rfl : l = [] := List.eq_nil_of_length_eq_zero (by omega)
    rw [show ([] : Bs).length = 0 from rfl, run_convert_bytes_string w 58 9 5 none 0 0 Tryd.underlying58 Tryd.underlying5 Tryd.underlying9]
    rfl
  | some a =>
    refine run_convert_bytes_back w 58 9 5 a cap l Tryd.underlying58 Tryd.underlying5 Tryd.underlying9 (fun j hj => ?_)
    rcases h4 with h4 | ⟨b, off, hb, h4⟩
    · rw [h4] at hj; simp at hj
    · cases hb
      have := h4 j l[j] (List.getElem?_eq_getElem hj)
      rw [show (⟨b, off, none⟩ : Addr).add j = ⟨b, off + j, none⟩ by simp [Addr.add]]
      exact this
set_option maxRecDepth 20000 in
theorem sameB_any (ao bo : Option Addr) (ca cb : Nat) (l m : Bs) (R : Bool) (w : World) (ha : BL w ao ca l) (hb : BL w bo cb m) (hR : Hidden (R = decide (l = m))) : Calls Tryd.prog 14 #[.slice ao l.length ca, .slice bo m.length cb] w fun e w' => e = .returned (.bool R) ∧ w' = w := by
  have k1 := conv_bl ha
  have k2 := conv_bl hb
  generalize l.length = n1 at k1 ⊢
  generalize m.length = n2 at k2 ⊢
  clear ha hb
  by_cases e : l = m
  · subst e
    have : R = true := by have := (show R = _ from hR); simpa using this
    subst this
    go_enter Tryd.func14, Tryd.ntmps14
    go_wp2
    go_ret
    exact ⟨ret_bl (by simp), rfl⟩
  · have : R = false := by have := (show R = _ from hR); rw [decide_eq_false e] at this; exact this
    subst this
    have eb : (l == m) = false := by simpa using e
    clear e
    go_enter Tryd.func14, Tryd.ntmps14
    go_wp2
    go_ret
    exact ⟨ret_bl (by simp_all), rfl⟩
def oneI : In := ⟨1, 0, 1, 1⟩
def fA : Fu := ⟨⟨[], 1⟩, [], [oneI, ⟨11, 0, 0, 0⟩]⟩
def fB : Fu := ⟨⟨[], 1⟩, [], [⟨11, 0, 0, 0⟩]⟩
theorem goA : ∃ L, goS fA ⟨[], []⟩ 3 (startS 2) = some (.ok L) := ⟨_, by rfl⟩
theorem goB : goS fB ⟨[], []⟩ 2 (startS 1) = some (.er 0 51) := by rfl
theorem encL : encA [oneI, ⟨10, 258, 0, 0⟩, ⟨11, 0, 0, 0⟩] = (0, [1, 1, 0, 0, 0, 0, 0, 0, 0, 1, 10, 1, 2, 11]) := by rfl
theorem textL : textS oneI = [112, 117, 115, 104, 32, 49] := by decide +kernel
end Go.Proofs.YtphpmaimgndjmaaDoor.Cd

namespace Go.Proofs.YtphpmaimgndjmaaDoor.Cd
open Go.RowKit Ty
set_option linter.unusedSimpArgs false
set_option linter.unusedVariables false

theorem IL_row {w : World} {g cap : Nat} {l : List In} {t : TypeId} (h : w.heap[g]? = some (.cells (l.flatMap inC).toArray t (0, 0))) (h1 : l.length ≤ cap) (h2 : cap ≤ maxLen) : IL w (some ⟨g, 0, none⟩) cap l := by
  refine ⟨h1, h2, (fun e => by cases e), Or.inr ⟨g, 0, rfl, fun i x hx j u hu => ?_⟩⟩
  rw [Nat.zero_add, cell_of_row _ _ _ _ _ _ h]
  simpa using flat_get l i x hx j u hu
theorem BL_row {w : World} {g cap : Nat} {l : Bs} {t : TypeId} (h : w.heap[g]? = some (.cells (byC l).toArray t (0, 0))) (h1 : l.length ≤ cap) (h2 : cap ≤ maxLen) : BL w (some ⟨g, 0, none⟩) cap l := by
  refine ⟨h1, h2, (fun e => by cases e), Or.inr ⟨g, 0, rfl, fun i x hx => ?_⟩⟩
  rw [Nat.zero_add, cell_of_row _ _ _ _ _ _ h]
  simp [byC, hx]
abbrev l3 : List In := [oneI, ⟨10, 258, 0, 0⟩, ⟨11, 0, 0, 0⟩]
abbrev bL : Bs := [1, 1, 0, 0, 0, 0, 0, 0, 0, 1, 10, 1, 2, 11]
theorem rightA : ∀ i ∈ fA.cd, U64 i.b ∧ rightS i = true ∧ (i.op = 1 ∨ i.op = 11) := by
  intro i hi
  simp only [fA, List.mem_cons, List.not_mem_nil, or_false] at hi
  rcases hi with rfl | rfl
  · exact ⟨⟨by decide, by decide⟩, rfl, Or.inl rfl⟩
  · exact ⟨⟨by decide, by decide⟩, rfl, Or.inr rfl⟩
theorem rightB : ∀ i ∈ fB.cd, U64 i.b ∧ rightS i = true ∧ (i.op = 1 ∨ i.op = 11) := by
  intro i hi
  simp only [fB, List.mem_cons, List.not_mem_nil, or_false] at hi
  subst hi
  exact ⟨⟨by decide, by decide⟩, rfl, Or.inr rfl⟩
theorem okL3 : ∀ i ∈ l3, U64 i.b := by
  intro i hi
  simp only [l3, List.mem_cons, List.not_mem_nil, or_false] at hi
  rcases hi with rfl | rfl | rfl <;> exact ⟨by decide, by decide⟩
theorem ver_A (g : Nat) (w : World) (h : w.heap[g]? = some (.cells #[ci 1, ci 0, ci 1, .int .u64 1, ci 11, ci 0, ci 0, .int .u64 0] 50 (0, 0))) :
    Calls Tryd.prog 8 #[.agg #[.slice none 0 0, ci 1, .slice none 0 0, .slice (some ⟨g, 0, none⟩) 2 2], .agg #[.slice none 0 0, .slice none 0 0]] w fun e w' => e = .returned (.tuple #[ci 0, ci 0]) ∧ Fr (fun _ => False) w w' := by
  have hil : IL w (some ⟨g, 0, none⟩) 2 fA.cd := IL_row (l := fA.cd) h (by decide) (by simp [maxLen])
  refine (verify_0 fA rfl rfl (Or.inr rfl) g 0 2 2 rfl (by decide) (by decide) w hil rightA).mono ?_
  rintro e w' ⟨R, hR, rfl, f⟩
  obtain ⟨L, hL⟩ := goA
  have := goS_one fA ⟨[], []⟩ hR hL
  subst this
  exact ⟨rfl, f⟩
theorem ver_B (g : Nat) (w : World) (h : w.heap[g]? = some (.cells #[ci 11, ci 0, ci 0, .int .u64 0] 50 (0, 0))) :
    Calls Tryd.prog 8 #[.agg #[.slice none 0 0, ci 1, .slice none 0 0, .slice (some ⟨g, 0, none⟩) 1 1], .agg #[.slice none 0 0, .slice none 0 0]] w fun e w' => e = .returned (.tuple #[ci 0, ci 51]) ∧ Fr (fun _ => False) w w' := by
  have hil : IL w (some ⟨g, 0, none⟩) 1 fB.cd := IL_row (l := fB.cd) h (by decide) (by simp [maxLen])
  refine (verify_0 fB rfl rfl (Or.inr rfl) g 0 1 1 rfl (by decide) (by decide) w hil rightB).mono ?_
  rintro e w' ⟨R, hR, rfl, f⟩
  have := goS_one fB ⟨[], []⟩ hR goB
  subst this
  exact ⟨rfl, f⟩
theorem enc_L (g : Nat) (w : World) (h : w.heap[g]? = some (.cells #[ci 1, ci 0, ci 1, .int .u64 1, ci 10, ci 258, ci 0, .int .u64 0, ci 11, ci 0, ci 0, .int .u64 0] 50 (0, 0))) :
    Calls Tryd.prog 13 #[.slice (some ⟨g, 0, none⟩) 3 3] w fun e w' => ∃ ao cap, e = .returned (.tuple #[.slice ao 14 cap, ci 0]) ∧ BL w' ao cap bL ∧ Fr (fun _ => False) w w' := by
  have hil : IL w (some ⟨g, 0, none⟩) 3 l3 := IL_row (l := l3) h (by decide) (by simp [maxLen])
  refine (encode_any (some ⟨g, 0, none⟩) 3 l3 w hil okL3).mono ?_
  rintro e w' ⟨v, rfl, hb, f⟩
  rw [show encA l3 = (0, bL) from encL] at hb
  obtain ⟨ao, cap, rfl, hbl⟩ := hb.bl
  exact ⟨ao, cap, by rw [show encA l3 = (0, bL) from encL]; rfl, hbl, f⟩
theorem text_L (w : World) (ht : F.Tab w) : Calls Tryd.prog 15 #[.agg #[ci 1, ci 0, ci 1, .int .u64 1]] w fun e w' => e = .returned (ct [112, 117, 115, 104, 32, 49]) ∧ Fr (fun _ => False) w w' := by
  have := text_any oneI ⟨by decide, by decide⟩ ⟨by decide, by decide⟩ (by decide +kernel) w ht
  rw [textL] at this
  exact this
set_option maxRecDepth 20000 in
set_option maxHeartbeats 2000000 in
theorem live_any (w : World) (ht : F.Tab w) : Calls Tryd.prog 5 #[] w fun e w' => e = .returned (.bool true) ∧ Fr (fun _ => False) w w' := by
  go_enter Tryd.func5, Tryd.ntmps5
  go_wp2_with fail
  go_at_call 13
  refine (enc_L _ _ (heap_alloc2_new _ _ _)).mono ?_
  rintro e w1 ⟨ao, cap, rfl, hbl, f1⟩
  have fw1 : Fr (fun _ => False) w w1 := ((Fr.alloc _ _ _).same (Fr.alloc _ _ _)).same f1
  obtain ⟨a0, a1, a2, a3⟩ := box4 (f1.heap (heap_alloc2_old _ _ _) (fun f => f))
  have hblH : Hidden (BL w1 ao cap bL) := hbl
  clear hbl f1
  go_wp2_with fail
  go_at_call 8
  refine (ver_A _ _ (alloc_new _ _)).mono ?_
  rintro e w2 ⟨rfl, f2⟩
  have f12 : Fr (fun _ => False) w1 w2 := (Fr.alloc _ _ _).same f2
  replace a0 := f12.cellN a0
  replace a1 := f12.cellN a1
  replace a2 := f12.cellN a2
  replace a3 := f12.cellN a3
  clear f2
  go_wp2_with fail
  go_at_call 8
  refine (ver_B _ _ (alloc_new _ _)).mono ?_
  rintro e w3 ⟨rfl, f3⟩
  have f23 : Fr (fun _ => False) w2 w3 := (Fr.alloc _ _ _).same f3
  replace a0 := f23.cellN a0
  replace a1 := f23.cellN a1
  replace a2 := f23.cellN a2
  replace a3 := f23.cellN a3
  clear f3
  have fw3 : Fr (fun _ => False) w w3 := (fw1.same f12).same f23
  obtain ⟨W4, hW4⟩ : ∃ W, W = w3.alloc (.cells #[.int .u8 1, .int .u8 1, .int .u8 0, .int .u8 0, .int .u8 0, .int .u8 0, .int .u8 0, .int .u8 0, .int .u8 0, .int .u8 1, .int .u8 10, .int .u8 1, .int .u8 2, .int .u8 11] 5 (0, 0)) := ⟨_, rfl⟩
  have f34 : Fr (fun _ => False) w3 W4 := by rw [hW4]; exact Fr.alloc _ _ _
  have ksb : Calls Tryd.prog 14 #[.slice ao 14 cap, .slice (some ⟨w3.heap.size, 0, none⟩) 14 14] W4 fun e w' => e = .returned (.bool true) ∧ w' = W4 :=
    sameB_any ao (some ⟨w3.heap.size, 0, none⟩) cap 14 bL bL true W4 ((show BL w1 ao cap bL from hblH).keep ((f12.same f23).same f34)) (BL_row (l := bL) (by rw [hW4]; exact alloc_new _ _) (by decide) (by simp [maxLen])) (by show _ = _; simp)
  have fw4 : Fr (fun _ => False) w W4 := fw3.same f34
  have fw4H : Hidden (Fr (fun _ => False) w W4) := fw4
  have kt := text_L W4 (tab_fr ht fw4)
  replace a0 := f34.cellN a0
  replace a1 := f34.cellN a1
  replace a2 := f34.cellN a2
  replace a3 := f34.cellN a3
  have hW4H : Hidden (W4 = _) := hW4
  clear fw1 f12 f23 fw3 f34 fw4 hblH ht hW4
  go_wp2_with (first
    | (go_at_call 14; rw [← (show W4 = _ from hW4H)]; refine ksb.mono ?_; rintro e w5 ⟨rfl, hw5⟩; subst hw5)
    | (go_at_call 15; refine kt.mono ?_; rintro e w6 ⟨rfl, f6⟩))
  go_ret
  exact ⟨rfl, (show Fr (fun _ => False) w _ from fw4H).same f6⟩
end Go.Proofs.YtphpmaimgndjmaaDoor.Cd
