/- NamesOrders and NamesFar walked. -/
import Derived.Test.YtlbcneoebamjiaaNmLive
import Derived.Test.YtlbcneoebamjiaaNmSplit3
namespace Go.Proofs.Ytlbcneoebamjiaa
open Go.RowKit Go.Sort
set_option linter.unusedSimpArgs false
set_option linter.unusedVariables false

set_option maxHeartbeats 1000000 in
set_option maxRecDepth 20000 in
theorem namesOrders.walk (a b : Str) (w : World) (ha : a.length ≤ 140737488351232) (hb : b.length ≤ 140737488351232) :
    Calls Try.prog 5 #[.string ⟨a.toArray⟩, .string ⟨b.toArray⟩] w fun e w' => e = .returned (.bool true) ∧ Fr (fun _ => False) w w' := by
  have k1 := split_any a _ rfl (by omega)
  have k2 := rsplit_any a _ rfl (by omega)
  generalize splitS a = R at k1 k2
  obtain ⟨x, y, e⟩ := R
  simp only at k1 k2
  have k3 := cmp_any a b _ rfl
  have k4 := rcmp_any a b _ rfl (by omega) (by omega)
  generalize cmpS a b = c at k3 k4
  have k5 := far_any a b (by omega)
  have k6 := rfar_any a b (by omega)
  generalize a ++ 46 :: b = f at k5 k6
  have kl := live_any
  go_enter Try.func5, Try.ntmps5
  go_wp2_with (first
    | (go_at_call 27; refine (k1 _).mono ?_; rintro e w1 ⟨rfl, hf1⟩)
    | (go_at_call 28; refine (k2 _).mono ?_; rintro e w2 ⟨rfl, hf2⟩)
    | (go_at_call 29; refine (k3 _).mono ?_; rintro e w3 ⟨rfl, rfl⟩)
    | (go_at_call 30; refine (k4 _).mono ?_; rintro e w4 ⟨rfl, hf4⟩)
    | (go_at_call 31; refine (k5 _).mono ?_; rintro e w5 ⟨rfl, rfl⟩)
    | (go_at_call 32; refine (k6 _).mono ?_; rintro e w6 ⟨rfl, rfl⟩)
    | (go_at_call 16; refine (kl _).mono ?_; rintro e w7 ⟨rfl, hf7⟩))
  go_ret
  exact ⟨rfl, ((hf1.same hf2).same hf4).same hf7⟩

theorem speltGo_dot : ∀ (l : Str) (i : Nat), speltGo l i = true → dotS l = l.length
  | [], _, _ => rfl
  | c :: r, i, h => by
    rw [speltGo, Bool.and_eq_true] at h
    have hc : c ≠ 46 := fun e => by
      rw [e] at h
      have := h.1
      simp [okAt, letB, digB] at this
    rw [dotS, if_neg hc, speltGo_dot r (i + 1) h.2]
    rfl
theorem dotS_app : ∀ (a b : Str), dotS a = a.length → dotS (a ++ 46 :: b) = a.length
  | [], b, _ => by simp [dotS]
  | c :: r, b, h => by
    rw [dotS] at h
    by_cases hc : c = 46
    · rw [if_pos hc] at h; simp at h
    · rw [if_neg hc] at h
      rw [List.cons_append, dotS, if_neg hc, dotS_app r b (by simpa using h)]
      rfl
theorem right_spelt {a : Str} (h : rightS a = 0) : speltS a = true := by
  unfold rightS at h
  by_cases hs : speltS a = true
  · exact hs
  · rw [if_neg hs] at h; cases h
theorem split_far {a b : Str} (ha : rightS a = 0) (hb : rightS b = 0) : splitS (a ++ 46 :: b) = (a, b, 0) := by
  have hs := right_spelt ha
  unfold speltS at hs
  rw [Bool.and_eq_true] at hs
  have hd := dotS_app a b (speltGo_dot a 0 hs.1)
  unfold splitS
  rw [hd, if_pos (by simp)]
  have e1 : (a ++ 46 :: b).take a.length = a := by simp
  have e2 : (a ++ 46 :: b).drop (a.length + 1) = b := by
    rw [List.drop_append]
    simp
  rw [e1, e2, if_neg (by simp [ha]), if_neg (by simp [hb])]
theorem split_kind (s : Str) : (splitS s).2.2 = 0 ∨ ((splitS s).2.2 ≠ 0 ∧ (splitS s).1 = [] ∧ (splitS s).2.1 = []) := by
  unfold splitS
  split
  · split
    · rename_i h; exact Or.inr ⟨h, rfl, rfl⟩
    · split
      · rename_i h; exact Or.inr ⟨h, rfl, rfl⟩
      · exact Or.inl rfl
  · exact Or.inr ⟨by simp, rfl, rfl⟩

set_option maxHeartbeats 2000000 in
set_option maxRecDepth 20000 in
theorem namesFar.walk (a b c d : Str) (w : World) (ha : a.length ≤ 140737488351232) (hb : b.length ≤ 140737488351232) (hc : c.length ≤ 140737488351232) (hd : d.length ≤ 140737488351232) :
    Calls Try.prog 6 #[.string ⟨a.toArray⟩, .string ⟨b.toArray⟩, .string ⟨c.toArray⟩, .string ⟨d.toArray⟩] w fun e w' => e = .returned (.bool true) ∧ Fr (fun _ => False) w w' := by
  have ra := right_any a _ rfl (by omega)
  have rb := right_any b _ rfl (by omega)
  have rc := right_any c _ rfl (by omega)
  have rd := right_any d _ rfl (by omega)
  have kf := far_any a b (by omega)
  have kg := far_any c d (by omega)
  have ks := split_any (a ++ 46 :: b) _ rfl (by simp; omega)
  have kl := live_any
  have hkind := split_kind (a ++ 46 :: b)
  by_cases hboth : rightS a = 0 ∧ rightS b = 0
  · obtain ⟨h1, h2⟩ := hboth
    rw [h1] at ra
    rw [h2] at rb
    rw [split_far h1 h2] at ks
    simp only at ks
    have hinj : rightS c = 0 → rightS d = 0 → (a ++ 46 :: b == c ++ 46 :: d) = (a == c && b == d) := fun h3 h4 => by
      rw [Bool.eq_iff_iff]
      simp only [beq_iff_eq, Bool.and_eq_true]
      constructor
      · intro e
        have := split_far h1 h2
        rw [e, split_far h3 h4] at this
        simp only [Prod.mk.injEq] at this
        exact ⟨this.1.symm, this.2.1.symm⟩
      · rintro ⟨rfl, rfl⟩; rfl
    generalize rightS c = xc at rc hinj
    generalize rightS d = xd at rd hinj
    generalize a ++ 46 :: b = f at kf ks hinj
    generalize c ++ 46 :: d = g at kg hinj
    clear hkind h1 h2
    by_cases h3 : xc = 0
    · subst h3
      by_cases h4 : xd = 0
      · subst h4
        have hin := hinj rfl rfl
        clear hinj
        go_enter Try.func6, Try.ntmps6
        go_wp2_with (first | (go_at_call 16; refine (kl _).mono ?_; rintro e w1 ⟨rfl, hf1⟩) | fail)
        refine (ra _).mono ?_
        rintro e w2 ⟨rfl, rfl⟩
        go_wp2_with fail
        refine (rb _).mono ?_
        rintro e w3 ⟨rfl, rfl⟩
        go_wp2_with fail
        refine (kf _).mono ?_
        rintro e w4 ⟨rfl, rfl⟩
        go_wp2_with fail
        refine (ks _).mono ?_
        rintro e w5 ⟨rfl, hf5⟩
        go_wp2_with fail
        refine (rc _).mono ?_
        rintro e w6 ⟨rfl, rfl⟩
        go_wp2_with fail
        refine (rd _).mono ?_
        rintro e w7 ⟨rfl, rfl⟩
        go_wp2_with fail
        refine (kf _).mono ?_
        rintro e w8 ⟨rfl, rfl⟩
        go_wp2_with fail
        refine (kg _).mono ?_
        rintro e w9 ⟨rfl, rfl⟩
        cases hac : (a == c)
        · have hfg : (f == g) = false := by rw [hin, hac]; rfl
          clear hin
          go_wp2_with fail
          go_ret
          exact ⟨rfl, hf1.same hf5⟩
        · cases hbd : (b == d)
          · have hfg : (f == g) = false := by rw [hin, hac, hbd]; rfl
            clear hin
            go_wp2_with fail
            go_ret
            exact ⟨rfl, hf1.same hf5⟩
          · have hfg : (f == g) = true := by rw [hin, hac, hbd]; rfl
            clear hin
            go_wp2_with fail
            go_ret
            exact ⟨rfl, hf1.same hf5⟩
      · have h4' : (xd == 0) = false := by simp [h4]
        clear hinj h4
        go_enter Try.func6, Try.ntmps6
        go_wp2_with (first | (go_at_call 16; refine (kl _).mono ?_; rintro e w1 ⟨rfl, hf1⟩) | fail)
        refine (ra _).mono ?_
        rintro e w2 ⟨rfl, rfl⟩
        go_wp2_with fail
        refine (rb _).mono ?_
        rintro e w3 ⟨rfl, rfl⟩
        go_wp2_with fail
        refine (kf _).mono ?_
        rintro e w4 ⟨rfl, rfl⟩
        go_wp2_with fail
        refine (ks _).mono ?_
        rintro e w5 ⟨rfl, hf5⟩
        go_wp2_with fail
        refine (rc _).mono ?_
        rintro e w6 ⟨rfl, rfl⟩
        go_wp2_with fail
        refine (rd _).mono ?_
        rintro e w7 ⟨rfl, rfl⟩
        go_wp2_with fail
        go_ret
        exact ⟨rfl, hf1.same hf5⟩
    · have h3' : (xc == 0) = false := by simp [h3]
      have h3'' : (xc != 0) = true := by simp [h3]
      clear hinj h3
      go_enter Try.func6, Try.ntmps6
      go_wp2_with (first | (go_at_call 16; refine (kl _).mono ?_; rintro e w1 ⟨rfl, hf1⟩) | fail)
      refine (ra _).mono ?_
      rintro e w2 ⟨rfl, rfl⟩
      go_wp2_with fail
      refine (rb _).mono ?_
      rintro e w3 ⟨rfl, rfl⟩
      go_wp2_with fail
      refine (kf _).mono ?_
      rintro e w4 ⟨rfl, rfl⟩
      go_wp2_with fail
      refine (ks _).mono ?_
      rintro e w5 ⟨rfl, hf5⟩
      go_wp2_with fail
      refine (rc _).mono ?_
      rintro e w6 ⟨rfl, rfl⟩
      go_wp2_with fail
      go_ret
      exact ⟨rfl, hf1.same hf5⟩
  · generalize splitS (a ++ 46 :: b) = R at ks hkind
    obtain ⟨x, y, z⟩ := R
    simp only at ks hkind
    generalize a ++ 46 :: b = f at kf ks
    by_cases h1 : rightS a = 0
    · have h2 : rightS b ≠ 0 := fun h => hboth ⟨h1, h⟩
      rw [h1] at ra
      generalize rightS b = xb at rb h2
      have h2' : (xb == 0) = false := by simp [h2]
      clear hboth h2 h1
      rcases hkind with rfl | ⟨h3, rfl, rfl⟩
      · go_enter Try.func6, Try.ntmps6
        go_wp2_with (first | (go_at_call 16; refine (kl _).mono ?_; rintro e w1 ⟨rfl, hf1⟩) | fail)
        refine (ra _).mono ?_
        rintro e w2 ⟨rfl, rfl⟩
        go_wp2_with fail
        refine (rb _).mono ?_
        rintro e w3 ⟨rfl, rfl⟩
        go_wp2_with (first | (go_at_call 31; refine (kf _).mono ?_; rintro e w4 ⟨rfl, rfl⟩) | (go_at_call 27; refine (ks _).mono ?_; rintro e w5 ⟨rfl, hf5⟩))
        go_ret
        exact ⟨rfl, hf1.same hf5⟩
      · have h3' : (z == 0) = false := by simp [h3]
        clear h3
        go_enter Try.func6, Try.ntmps6
        go_wp2_with (first | (go_at_call 16; refine (kl _).mono ?_; rintro e w1 ⟨rfl, hf1⟩) | fail)
        refine (ra _).mono ?_
        rintro e w2 ⟨rfl, rfl⟩
        go_wp2_with fail
        refine (rb _).mono ?_
        rintro e w3 ⟨rfl, rfl⟩
        go_wp2_with (first | (go_at_call 31; refine (kf _).mono ?_; rintro e w4 ⟨rfl, rfl⟩) | (go_at_call 27; refine (ks _).mono ?_; rintro e w5 ⟨rfl, hf5⟩))
        go_ret
        exact ⟨rfl, hf1.same hf5⟩
    · generalize rightS a = xa at ra h1
      have h1' : (xa == 0) = false := by simp [h1]
      have h1'' : (xa != 0) = true := by simp [h1]
      clear hboth h1
      rcases hkind with rfl | ⟨h3, rfl, rfl⟩
      · go_enter Try.func6, Try.ntmps6
        go_wp2_with (first | (go_at_call 16; refine (kl _).mono ?_; rintro e w1 ⟨rfl, hf1⟩) | fail)
        refine (ra _).mono ?_
        rintro e w2 ⟨rfl, rfl⟩
        go_wp2_with (first | (go_at_call 31; refine (kf _).mono ?_; rintro e w4 ⟨rfl, rfl⟩) | (go_at_call 27; refine (ks _).mono ?_; rintro e w5 ⟨rfl, hf5⟩))
        go_ret
        exact ⟨rfl, hf1.same hf5⟩
      · have h3' : (z == 0) = false := by simp [h3]
        clear h3
        go_enter Try.func6, Try.ntmps6
        go_wp2_with (first | (go_at_call 16; refine (kl _).mono ?_; rintro e w1 ⟨rfl, hf1⟩) | fail)
        refine (ra _).mono ?_
        rintro e w2 ⟨rfl, rfl⟩
        go_wp2_with (first | (go_at_call 31; refine (kf _).mono ?_; rintro e w4 ⟨rfl, rfl⟩) | (go_at_call 27; refine (ks _).mono ?_; rintro e w5 ⟨rfl, hf5⟩))
        go_ret
        exact ⟨rfl, hf1.same hf5⟩
end Go.Proofs.Ytlbcneoebamjiaa
