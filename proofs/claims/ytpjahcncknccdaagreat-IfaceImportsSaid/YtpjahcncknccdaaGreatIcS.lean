/- foundrylaw10.live. -/
import Derived.Test.YtpjahcncknccdaaGreatIcQ
import Derived.Test.YtpjahcncknccdaaGreatIcR
import Derived.Test.YtpjahcncknccdaaGreatIcP
namespace Go.Proofs.YtpjahcncknccdaaGreat.Fo.Ic
open Go.RowKit Te
set_option linter.unusedSimpArgs false
set_option linter.unusedVariables false
set_option maxRecDepth 20000

abbrev liH : EH := ⟨1, 0, [], [], 1, 1⟩
abbrev liD : De := ⟨1, true, [88], 1, [], .cons liH .nil .nil, .nil⟩
abbrev liM : Mo := ⟨[109], [], [liD]⟩
abbrev liF : Ty.Fc := ⟨[109], [⟨1, [88], 1, 1, []⟩]⟩
theorem li_exP : exP liM [] = (0, 0) := by decide +kernel
theorem li_items : itemsS liM.decls (decS (farS []) liM.decls).1 = liF.items := by decide +kernel
theorem li_right : Ty.rightF liF = 0 := by decide +kernel
theorem li_len : (encS liF).length = 28 := by decide +kernel
theorem li_isF {f : Ty.Fc} (h : IsF liM [] f) : f = liF := by
  rcases h with ⟨h1, _⟩ | ⟨_, h2, _, g, h4, _, h6, _⟩
  · rw [li_exP] at h1; exact absurd rfl h1
  · have hg : g = [] := by
      have : impS [] liM.imports = some [] := rfl
      rw [this] at h4
      simpa using h4.symm
    subst hg
    rw [li_items] at h6
    obtain ⟨n, i⟩ := f
    simp only at h2 h6
    rw [h2, List.perm_singleton.1 h6]
theorem li_okI : ∀ i ∈ liF.items, Ty.OkI i := by
  intro i hi
  simp only [List.mem_singleton] at hi
  subst hi
  exact ⟨⟨by decide, by decide⟩, by simp [Ty.OkN], ⟨by decide, by decide⟩, ⟨by decide, by decide⟩, by simp, by simp⟩
theorem li_ok : OkM liM := ⟨by simp [OkN], by simp, by
  intro d hd
  simp only [List.mem_singleton] at hd
  subst hd
  exact ⟨⟨by decide, by decide⟩, ⟨by decide, by decide⟩, by simp [OkN], by simp, ⟨⟨⟨by decide, by decide⟩, ⟨by decide, by decide⟩, ⟨by decide, by decide⟩, by decide, by decide, by simp [OkN], by simp [OkN]⟩, trivial, trivial⟩, trivial⟩⟩
theorem k42 (w : World) (a b c d : Obj) : ((((w.alloc a).alloc b).alloc c).alloc d).heap[w.heap.size + 1]? = some b := (alloc_old _ _ _ (by simp <;> omega)).trans ((alloc_old _ _ _ (by simp)).trans (alloc_at _ _ _ (by simp)))
theorem k43 (w : World) (a b c d : Obj) : ((((w.alloc a).alloc b).alloc c).alloc d).heap[w.heap.size + 1 + 1]? = some c := (alloc_old _ _ _ (by simp)).trans (alloc_at _ _ _ (by simp))
theorem li_mo (W : World) (e g : Nat) (h1 : W.heap[e]? = some (.cells #[ci 1, ci 0, .string ⟨#[]⟩, .string ⟨#[]⟩, ci 1, .int .u64 1, .slice none 0 0] 56 (0, 0)))
    (h2 : W.heap[g]? = some (.cells #[ci 1, .bool true, .string ⟨#[88]⟩, ci 1, .slice none 0 0, .slice (some ⟨e, 0, none⟩) 1 1, .slice none 0 0] 49 (0, 0))) : MoI W liM (.agg #[.string ⟨#[109]⟩, .slice none 0 0, .slice (some ⟨g, 0, none⟩) 1 1]) := by
  refine ⟨none, 0, some ⟨g, 0, none⟩, 1, rfl, ⟨by simp, by simp [maxLen], Or.inl rfl⟩, by simp, by simp [maxLen], Or.inr ⟨g, 0, rfl, fun i d hd => ?_⟩⟩
  match i, hd with
  | 0, hd =>
    obtain rfl : liD = d := by simpa using hd
    refine ⟨.slice none 0 0, .slice (some ⟨e, 0, none⟩) 1 1, .slice none 0 0, ⟨none, 0, some ⟨e, 0, none⟩, 1, none, 0, rfl, rfl, rfl, ⟨by simp, by simp [maxLen], Or.inl rfl⟩, ⟨by simp [Exs.len], by simp [maxLen], Or.inr ⟨e, 0, rfl, ⟨none, 0, fun j x hx => ?_, by simp [Exs.len], by simp [maxLen], Or.inl rfl⟩, trivial⟩⟩, by simp [Sts.len], by simp [maxLen], Or.inl rfl⟩, fun j x hx => ?_⟩
    · rw [Nat.zero_add, cell_of_row W e j _ _ (0, 0) h1]
      have hx' : [ci 1, ci 0, .string ⟨#[]⟩, .string ⟨#[]⟩, ci 1, .int .u64 1, .slice none 0 0][j]? = some x := hx
      simpa using hx'
    · rw [Nat.zero_mul, Nat.zero_add, cell_of_row W g j _ _ (0, 0) h2]
      have hx' : [ci 1, .bool true, .string ⟨#[88]⟩, ci 1, .slice none 0 0, .slice (some ⟨e, 0, none⟩) 1 1, .slice none 0 0][j]? = some x := hx
      simpa using hx'
theorem li_sz (w : World) (a b c d : Obj) : Fr FN w ((((w.alloc a).alloc b).alloc c).alloc d) := (((Fr.alloc _ _ _).same (Fr.alloc _ _ _)).same (Fr.alloc _ _ _)).same (Fr.alloc _ _ _)
set_option maxHeartbeats 2000000 in
theorem live_any (w : World) : Calls Tryz.prog 7 #[] w fun e w' => e = .returned (.bool true) ∧ Fr FN w w' := by
  have kX : ∀ (W : World) (v : Value), MoI W liM v → Calls Tryz.prog 13 #[v, .slice none 0 0] W fun e w' => ∃ fo fc, e = .returned (.tuple #[.agg #[ct [109], .slice fo 1 fc], ci 0, ci 0]) ∧ Ty.ItL w' fo fc liF.items ∧ Fr FN W w' := fun W v h => (extract_any liM v [] none 0 W li_ok h (by simp) (by simp [maxLen]) (Or.inl rfl) (by simp)).mono fun e w' ⟨fv, f, h1, h2, h3, h4⟩ => by
    have hf := li_isF h3
    subst hf
    obtain ⟨fo, fc, rfl, h5⟩ := h2
    rw [li_exP] at h1
    exact ⟨fo, fc, h1, h5, h4⟩
  have kE : ∀ (W : World) (fo : Option Addr) (fc : Nat), Ty.ItL W fo fc liF.items → Calls Tryz.prog 8 #[.agg #[ct [109], .slice fo 1 fc]] W fun e w' => ∃ ao cap, e = .returned (.tuple #[.slice ao 28 cap, ci 0]) ∧ Wi.Sl w' (.slice ao 28 cap) (Wi.bc (encS liF)) ∧ 28 ≤ cap ∧ cap ≤ 9223372036854775807 ∧ Fr FN W w' := fun W fo fc h => by
    have := encode_any liF (.agg #[ct [109], .slice fo 1 fc]) W ⟨fo, fc, rfl, h⟩ (by simp [Ty.OkN]) li_okI
    rw [li_right, if_pos rfl, li_len] at this
    refine this.mono fun e w' ⟨ao, cap, h1, h2, h3⟩ => ⟨ao, cap, h1, h2.1, ?_, ?_, h3⟩
    · obtain ⟨a, c, e, q⟩ := h2.1
      simp only [Value.slice.injEq, Wi.bc_length, li_len] at e q
      obtain ⟨_, _, rfl⟩ := e
      exact q.1
    · obtain ⟨a, c, e, q⟩ := h2.1
      simp only [Value.slice.injEq, Wi.bc_length, li_len] at e q
      obtain ⟨_, _, rfl⟩ := e
      have := q.2.1
      unfold maxLen at this
      omega
  have kD : ∀ (W : World) (v : Value), Wi.Sl W v (Wi.bc (encS liF)) → Calls Tryz.prog 10 #[v] W fun e w' => ∃ fo fc, e = .returned (.tuple #[.agg #[ct [109], .slice fo 1 fc], ci 0]) ∧ Ty.ItL w' fo fc liF.items ∧ Fr FN W w' := fun W v h => (decode_in liF v W li_right (by simp [Ty.OkN]) li_okI h).mono fun e w' ⟨fv, h1, ⟨fo, fc, h2, h3⟩, h4⟩ => ⟨fo, fc, by rw [h1, h2]; rfl, h3, h4⟩
  have kS : ∀ (W : World) (fo go : Option Addr) (fc gc : Nat), Ty.ItL W fo fc liF.items → Ty.ItL W go gc liF.items → Calls Tryz.prog 15 #[.agg #[ct [109], .slice fo 1 fc], .agg #[ct [109], .slice go 1 gc]] W fun e w' => e = .returned (.bool true) ∧ Fr FN W w' := fun W fo go fc gc h1 h2 => rsame_eq liF _ _ W ⟨fo, fc, rfl, h1⟩ ⟨go, gc, rfl, h2⟩
  go_enter Tryz.func7, Tryz.ntmps7
  go_wp2_with fail
  go_at_call 13
  refine Calls.mono (kX _ _ (li_mo _ _ _ (k42 _ _ _ _ _) (k43 _ _ _ _ _))) ?_
  rintro e w1 ⟨fo, fc, rfl, hit1, f1⟩
  have g1 : Fr FN w w1 := (li_sz _ _ _ _ _).same f1
  obtain ⟨b, off, ap, cp, rfl, _, d0, d1, d2, d3, d4⟩ := Ty.ItL.at hit1 (show liF.items[0]? = some ⟨1, [88], 1, 1, []⟩ from rfl)
  simp only [Nat.zero_mul, Nat.add_zero] at d0 d1 d2 d3 d4
  have hc1 : 1 ≤ fc := hit1.1
  have hc2 : fc ≤ 9223372036854775807 := by have := hit1.2.1; unfold maxLen at this; omega
  have fa := Fr.alloc FN w1 (.cells #[ct [109], .slice (some ⟨b, off, none⟩) 1 fc] 24)
  have e1 := fa.cellN d1
  have e3 := fa.cellN d3
  have hit2 := hit1.keep fa
  have bx := alloc_new w1 (.cells #[ct [109], .slice (some ⟨b, off, none⟩) 1 fc] 24)
  have g1H : Hidden (Fr FN w w1) := g1
  have hit2H : Hidden (Ty.ItL (w1.alloc (.cells #[ct [109], .slice (some ⟨b, off, none⟩) 1 fc] 24)) (some ⟨b, off, none⟩) fc liF.items) := hit2
  have faH : Hidden (Fr FN w1 (w1.alloc (.cells #[ct [109], .slice (some ⟨b, off, none⟩) 1 fc] 24))) := fa
  have bxH : Hidden ((w1.alloc (.cells #[ct [109], .slice (some ⟨b, off, none⟩) 1 fc] 24)).heap[w1.heap.size]? = some (.cells #[ct [109], .slice (some ⟨b, off, none⟩) 1 fc] 24 (0, 0))) := bx
  clear d0 d2 d4 d1 d3 hit1 hit2 f1 g1 fa bx
  go_wp2_with fail
  go_at_call 8
  refine Calls.mono (kE _ _ _ hit2H) ?_
  rintro e w2 ⟨ba, bc, rfl, sl2, hb1, hb2, f2⟩
  have kD2 := kD w2 _ sl2
  clear e1 e3 kE sl2
  go_wp2_with fail
  go_at_call 10
  refine Calls.mono kD2 ?_
  rintro e w3 ⟨go, gc, rfl, hit3, f3⟩
  have g3 : Fr FN (w1.alloc (.cells #[ct [109], .slice (some ⟨b, off, none⟩) 1 fc] 24)) w3 := f2.same f3
  have fb := Fr.alloc FN w3 (.cells #[ct [109], .slice go 1 gc] 24)
  have kS2 := kS _ _ _ _ _ ((show Ty.ItL _ _ fc _ from hit2H).keep (g3.same fb)) (hit3.keep fb)
  obtain ⟨x0, x1⟩ := Ty.box2 ((g3.same fb).heap (show (w1.alloc _).heap[w1.heap.size]? = _ from bxH) (fun f => f))
  have gF : Hidden (Fr FN w (w3.alloc (.cells #[ct [109], .slice go 1 gc] 24))) := (((show Fr FN w w1 from g1H).same (show Fr FN w1 _ from faH)).same g3).same fb
  clear kD kD2 kS hit3 f2 f3 g3 fb kX
  go_wp2_with fail
  go_at_call 15
  refine Calls.mono kS2 ?_
  rintro e w4 ⟨rfl, f4⟩
  go_wp2_with fail
  go_ret
  exact ⟨rfl, (show Fr FN w _ from gF).same f4⟩
end Go.Proofs.YtpjahcncknccdaaGreat.Fo.Ic
