/- Two nodes of a row exchanged, in memory. -/
import Derived.Test.YtdnghklfeldbpaaDgP
import Derived.Test.YtdnghklfeldbpaaDgOw
namespace Go.Proofs.Ytdnghklfeldbpaa.Dg
open Go.RowKit Go.Sort
set_option linter.unusedSimpArgs false
set_option linter.unusedVariables false
theorem some_set {w : World} {a b : Addr} {v : Value} (h : (w.cell? a).isSome = true) : ((w.setCell b v).cell? a).isSome = true := by
  by_cases e : b = a
  · subst e
    rw [World.cell?_setCell_same' w _ _ h]
    rfl
  · rw [World.cell?_setCell_other w b a v (fun q => e q)]
    exact h
theorem set_off {w : World} {G p q : Nat} {v : Value} (h : q ≠ p) : (w.setCell ⟨G, p, none⟩ v).cell? ⟨G, q, none⟩ = w.cell? ⟨G, q, none⟩ :=
  World.cell?_setCell_other w ⟨G, p, none⟩ ⟨G, q, none⟩ v (fun e => h (by have := congrArg Addr.off e; simpa using this.symm))
theorem shuf_nl {w1 wr : World} {B G T i k nn cap1 : Nat} {xs : List (Str × Value)} {nl : List Nd} {x y : Nd} {X : Obj} {vi vk tv : Value} {xk : Str × Value}
    (o : OwN w1 B (.slice (some ⟨G, 0, none⟩) nn cap1) xs nl) (hi : nl[i]? = some x) (hk : nl[k]? = some y) (hxk : xs[k]? = some xk) (hvk : vk = xk.2)
    (hf : Fr (fun _ => False) (((((w1.alloc X).setCell ⟨G, i * 2, none⟩ (ct y.1)).setCell ⟨G, i * 2 + 1, none⟩ vk).setCell ⟨G, k * 2, none⟩ (ct x.1)).setCell ⟨G, k * 2 + 1, none⟩ vi) wr)
    (ht : To wr T tv (turn x.2)) (hT : G < T) : NL (wr.setCell ⟨G, k * 2 + 1, none⟩ tv) (.slice (some ⟨G, 0, none⟩) nn cap1) (shuf nl i k x y) := by
  subst hvk
  have hil : i < nl.length := (List.getElem?_eq_some_iff.1 hi).1
  have hkl : k < nl.length := (List.getElem?_eq_some_iff.1 hk).1
  have hlx := o.len
  have fa : Fr (fun _ => False) w1 (w1.alloc X) := Fr.alloc _ _ _
  have fG : Fr (fun q => q = G) w1 (wr.setCell ⟨G, k * 2 + 1, none⟩ tv) := (((((Fr.alloc (fun q => q = G) w1 X).same (Fr.setCell _ ⟨G, i * 2, none⟩ _)).same (Fr.setCell _ ⟨G, i * 2 + 1, none⟩ _)).same (Fr.setCell _ ⟨G, k * 2, none⟩ _)).same (Fr.setCell _ ⟨G, k * 2 + 1, none⟩ _)).same ((hf.mono fun _ _ f => f.elim).same (Fr.setCell _ ⟨G, k * 2 + 1, none⟩ _))
  have hlen : (shuf nl i k x y).length = nl.length := by unfold shuf; simp
  obtain ⟨ao', cap', e, r1, r2, r3⟩ := o.row.slice
  simp only [Value.slice.injEq] at e
  obtain ⟨rfl, hn, rfl⟩ := e
  rcases r3 with r3 | ⟨G', e', hcell⟩
  · subst r3; simp at hlx; omega
  simp only [Option.some.injEq, Addr.mk.injEq, and_true] at e'
  subst e'
  have cellj : ∀ j, j < nl.length → ∃ n xj, nl[j]? = some n ∧ xs[j]? = some xj ∧ (w1.alloc X).cell? ⟨G, j * 2, none⟩ = some (ct n.1) ∧ (w1.alloc X).cell? ⟨G, j * 2 + 1, none⟩ = some xj.2 ∧ Tl (wr.setCell ⟨G, k * 2 + 1, none⟩ tv) xj.2 n.2 := by
    intro j hj
    have a1 : nl[j]? = some nl[j] := List.getElem?_eq_getElem hj
    have a2 : xs[j]? = some (xs[j]'(by omega)) := List.getElem?_eq_getElem _
    obtain ⟨e1, t1, h1⟩ := o.each j _ _ a2 a1
    obtain ⟨c, ⟨rfl, _⟩, _, hc⟩ := hcell j _ a2
    have c0 := hc 0 _ rfl
    have c1 := hc 1 _ rfl
    rw [Nat.add_zero, e1] at c0
    exact ⟨_, _, a1, a2, fa.cellN c0, fa.cellN c1, (t1.keep fG (fun q hq e => by rw [e] at hq; exact h1 G hq rfl)).tn.tl⟩
  have up : ∀ p, p ≠ k * 2 + 1 → ∀ v, ((((w1.alloc X).setCell ⟨G, i * 2, none⟩ (ct y.1)).setCell ⟨G, i * 2 + 1, none⟩ xk.2).setCell ⟨G, k * 2, none⟩ (ct x.1)).cell? ⟨G, p, none⟩ = some v → (wr.setCell ⟨G, k * 2 + 1, none⟩ tv).cell? ⟨G, p, none⟩ = some v := by
    intro p hp v hv
    rw [set_off hp]
    refine hf.cellN ?_
    rw [set_off hp]
    exact hv
  obtain ⟨nk, xk', n1, n2, n3, n4, n5⟩ := cellj k hkl
  obtain ⟨ni, xi', m1, m2, m3, m4, m5⟩ := cellj i hil
  obtain rfl : xk = xk' := Option.some.inj (hxk.symm.trans n2)
  obtain rfl : y = nk := Option.some.inj (hk.symm.trans n1)
  refine ⟨_, _, by rw [hlen, ← hlx, hn], by rw [hlen, ← hlx]; exact r1, by unfold maxLen at r2; omega, Or.inr ⟨G, 0, rfl, fun j n hj => ?_⟩⟩
  rw [Nat.zero_add]
  rw [shuf_get hi hk] at hj
  by_cases e1 : j = k
  · subst e1
    rw [if_pos rfl] at hj
    obtain rfl := Option.some.inj hj
    refine ⟨tv, up _ (by omega) _ (World.cell?_setCell_same' _ _ _ (some_set (some_set (by rw [n3]; rfl)))), ?_, (ht.keep (Fr.setCell wr ⟨G, j * 2 + 1, none⟩ tv) (fun q hq e => by have := (ht.own q hq).1; have e : q = G := e; omega)).tn.tl⟩
    refine World.cell?_setCell_same' _ _ _ ?_
    rw [hf.cellN (World.cell?_setCell_same' _ _ _ (some_set (some_set (some_set (by rw [n4]; rfl)))))]
    rfl
  · rw [if_neg e1] at hj
    by_cases e2 : j = i
    · subst e2
      rw [if_pos rfl] at hj
      obtain rfl := Option.some.inj hj
      refine ⟨xk.2, up _ (by omega) _ ?_, up _ (by omega) _ ?_, n5⟩
      · rw [set_off (by omega), set_off (by omega)]
        exact World.cell?_setCell_same' _ _ _ (by rw [m3]; rfl)
      · rw [set_off (by omega)]
        exact World.cell?_setCell_same' _ _ _ (some_set (by rw [m4]; rfl))
    · rw [if_neg e2] at hj
      have hjl : j < nl.length := (List.getElem?_eq_some_iff.1 hj).1
      obtain ⟨n', xj, p1, p2, p3, p4, p5⟩ := cellj j hjl
      obtain rfl : n' = n := Option.some.inj (p1.symm.trans hj)
      refine ⟨xj.2, up _ (by omega) _ ?_, up _ (by omega) _ ?_, p5⟩
      · rw [set_off (by omega), set_off (by omega), set_off (by omega)]; exact p3
      · rw [set_off (by omega), set_off (by omega), set_off (by omega)]; exact p4
end Go.Proofs.Ytdnghklfeldbpaa.Dg
