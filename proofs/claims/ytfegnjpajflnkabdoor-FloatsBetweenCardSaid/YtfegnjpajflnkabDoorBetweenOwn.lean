/- FloatsBetween returns true for any three bit patterns, in whatever memory: Compare is an order, and nothing lies between a float and the Next one. -/
import Derived.Test.YtfegnjpajflnkabDoorRows
import Derived.Test.YtfegnjpajflnkabDoorTie
import Derived.Test.YtfegnjpajflnkabDoorCards
import Derived.Test.YtfegnjpajflnkabDoorBw
import Derived.WalkKit
import Derived.ProofKit
import Derived.OpenShut
import Derived.Handy
import Derived.Lay
import Derived.SevenTiedAt
namespace Go.Proofs.YtfegnjpajflnkabDoor.floatsBetween
open Go.ChangeShapes Go.WideShapes Go.ChangeAt Go.RowKit Fl
set_option linter.unusedVariables false
set_option linter.unusedSimpArgs false

theorem own : ownKnob Tryd.prog.godebug = none := by kernel_rfl

theorem walk (a b c : Int) (w0 : (Lit.int .u64 a).wf = true) (w1 : (Lit.int .u64 b).wf = true) (w2 : (Lit.int .u64 c).wf = true) (w : World) :
    Calls Tryd.prog 4 #[.int .u64 a, .int .u64 b, .int .u64 c] w fun e w' => e = .returned (.bool true) ∧ Grown w w' := by
  have ha := wf_U w0
  have hb := wf_U w1
  have hc := wf_U w2
  have hN := next_U a ha
  have xt := cmp_turn a b ha hb
  have tr := cmp_trans a b c ha hb hc
  by_cases c1 : classS a = 1
  · have l := less_nan a b (Or.inl c1)
    have hle : (lessS a b || eqS a b) = false := by rw [l.1, l.2]; rfl
    by_cases c2 : classS b = 1
    · have x : cmpS a b = 0 := by simp [cmpS, (class_nan a).1 c1, (class_nan b).1 c2]
      have xba : cmpS b a = 0 := by rw [xt, x]; rfl
      by_cases hY : cmpS b c ≤ 0
      · exact bw_A1y a b c _ _ _ _ _ _ _ 0 0 ha hb hc hN rfl rfl rfl rfl rfl rfl rfl x xba hY (tr (by omega) hY) (cmp_canon a b ha hb x) c1 c2 l.1 l.2 hle w
      · exact bw_A1n a b c _ _ _ _ _ _ _ 0 0 ha hb hc hN rfl rfl rfl rfl rfl rfl rfl x xba hY (cmp_canon a b ha hb x) c1 c2 l.1 l.2 hle w
    · have n2 : nan b = false := by have := class_nan b; cases e : nan b <;> simp_all
      have x : cmpS a b = 1 := by simp [cmpS, (class_nan a).1 c1, n2]
      exact bw_A2 a b c _ _ _ _ _ _ _ 0 _ ha hb hc hN rfl rfl rfl rfl rfl rfl rfl x (by rw [xt, x]) c1 rfl (by simpa using c2) l.1 l.2 hle w
  · have n1 : nan a = false := by have := class_nan a; cases e : nan a <;> simp_all
    have hV := cmp_next a ha c1
    by_cases c2 : classS b = 1
    · have l := less_nan a b (Or.inr c2)
      have hle : (lessS a b || eqS a b) = false := by rw [l.1, l.2]; rfl
      have x : cmpS a b = -1 := by simp [cmpS, n1, (class_nan b).1 c2]
      have xba : cmpS b a = 1 := by rw [xt, x]; rfl
      have hT := cmp_between a b ha hb x
      by_cases hY : cmpS b c ≤ 0
      · exact bw_A3y a b c _ _ _ _ _ _ _ _ 0 ha hb hc hN rfl rfl rfl rfl rfl rfl rfl x xba hY (tr (by omega) hY) rfl (by simpa using c1) (by simpa using c1) c2 hV hT l.1 l.2 hle w
      · exact bw_A3n a b c _ _ _ _ _ _ _ _ 0 ha hb hc hN rfl rfl rfl rfl rfl rfl rfl x xba hY rfl (by simpa using c1) (by simpa using c1) c2 hV hT l.1 l.2 hle w
    · rcases cmp_vals a b with x | x | x
      · have xba : cmpS b a = 1 := by rw [xt, x]; rfl
        have hT := cmp_between a b ha hb x
        by_cases hY : cmpS b c ≤ 0
        · by_cases z1 : classS a = 3
          · by_cases z2 : classS b = 3
            · exact bw_Xmyzz a b c _ _ _ _ _ _ _ 0 0 ha hb hc hN rfl rfl rfl rfl rfl rfl rfl x xba hY (tr (by omega) hY) hV hT z1 z2 (less_zeros a b ha hb ⟨z1, z2⟩).1 (less_zeros a b ha hb ⟨z1, z2⟩).2 w
            · have l := less_cmp a b ha hb c1 c2 (fun h => z2 h.2)
              exact bw_Xmyzo a b c _ _ _ _ _ _ _ 0 _ ha hb hc hN rfl rfl rfl rfl rfl rfl rfl x xba hY (tr (by omega) hY) hV hT z1 rfl (by simpa using c2) (by simpa using z2) (by rw [l.1, x]; rfl) (by rw [l.2, x]; rfl) w
          · have l := less_cmp a b ha hb c1 c2 (fun h => z1 h.1)
            exact bw_Xmyo a b c _ _ _ _ _ _ _ _ _ ha hb hc hN rfl rfl rfl rfl rfl rfl rfl x xba hY (tr (by omega) hY) hV hT rfl (by simpa using c1) (by simpa using c1) (by simpa using z1) rfl (by simpa using c2) (by rw [l.1, x]; rfl) (by rw [l.2, x]; rfl) w
        · by_cases z1 : classS a = 3
          · by_cases z2 : classS b = 3
            · exact bw_Xmnzz a b c _ _ _ _ _ _ _ 0 0 ha hb hc hN rfl rfl rfl rfl rfl rfl rfl x xba hY hV hT z1 z2 (less_zeros a b ha hb ⟨z1, z2⟩).1 (less_zeros a b ha hb ⟨z1, z2⟩).2 w
            · have l := less_cmp a b ha hb c1 c2 (fun h => z2 h.2)
              exact bw_Xmnzo a b c _ _ _ _ _ _ _ 0 _ ha hb hc hN rfl rfl rfl rfl rfl rfl rfl x xba hY hV hT z1 rfl (by simpa using c2) (by simpa using z2) (by rw [l.1, x]; rfl) (by rw [l.2, x]; rfl) w
          · have l := less_cmp a b ha hb c1 c2 (fun h => z1 h.1)
            exact bw_Xmno a b c _ _ _ _ _ _ _ _ _ ha hb hc hN rfl rfl rfl rfl rfl rfl rfl x xba hY hV hT rfl (by simpa using c1) (by simpa using c1) (by simpa using z1) rfl (by simpa using c2) (by rw [l.1, x]; rfl) (by rw [l.2, x]; rfl) w
      · have xba : cmpS b a = 0 := by rw [xt, x]; rfl
        have hk := cmp_canon a b ha hb x
        by_cases hY : cmpS b c ≤ 0
        · by_cases z1 : classS a = 3
          · by_cases z2 : classS b = 3
            · exact bw_Xeyzz a b c _ _ _ _ _ _ _ 0 0 ha hb hc hN rfl rfl rfl rfl rfl rfl rfl x xba hY (tr (by omega) hY) hV hk z1 z2 (less_zeros a b ha hb ⟨z1, z2⟩).1 (less_zeros a b ha hb ⟨z1, z2⟩).2 w
            · have l := less_cmp a b ha hb c1 c2 (fun h => z2 h.2)
              exact bw_Xeyzo a b c _ _ _ _ _ _ _ 0 _ ha hb hc hN rfl rfl rfl rfl rfl rfl rfl x xba hY (tr (by omega) hY) hV hk z1 rfl (by simpa using c2) (by simpa using z2) (by rw [l.1, x]; rfl) (by rw [l.2, x]; rfl) w
          · have l := less_cmp a b ha hb c1 c2 (fun h => z1 h.1)
            exact bw_Xeyo a b c _ _ _ _ _ _ _ _ _ ha hb hc hN rfl rfl rfl rfl rfl rfl rfl x xba hY (tr (by omega) hY) hV hk rfl (by simpa using c1) (by simpa using c1) (by simpa using z1) rfl (by simpa using c2) (by rw [l.1, x]; rfl) (by rw [l.2, x]; rfl) w
        · by_cases z1 : classS a = 3
          · by_cases z2 : classS b = 3
            · exact bw_Xenzz a b c _ _ _ _ _ _ _ 0 0 ha hb hc hN rfl rfl rfl rfl rfl rfl rfl x xba hY hV hk z1 z2 (less_zeros a b ha hb ⟨z1, z2⟩).1 (less_zeros a b ha hb ⟨z1, z2⟩).2 w
            · have l := less_cmp a b ha hb c1 c2 (fun h => z2 h.2)
              exact bw_Xenzo a b c _ _ _ _ _ _ _ 0 _ ha hb hc hN rfl rfl rfl rfl rfl rfl rfl x xba hY hV hk z1 rfl (by simpa using c2) (by simpa using z2) (by rw [l.1, x]; rfl) (by rw [l.2, x]; rfl) w
          · have l := less_cmp a b ha hb c1 c2 (fun h => z1 h.1)
            exact bw_Xeno a b c _ _ _ _ _ _ _ _ _ ha hb hc hN rfl rfl rfl rfl rfl rfl rfl x xba hY hV hk rfl (by simpa using c1) (by simpa using c1) (by simpa using z1) rfl (by simpa using c2) (by rw [l.1, x]; rfl) (by rw [l.2, x]; rfl) w
      · have xba : cmpS b a = -1 := by rw [xt, x]
        by_cases z1 : classS a = 3
        · by_cases z2 : classS b = 3
          · exact bw_Xpzz a b c _ _ _ _ _ _ _ 0 0 ha hb hc hN rfl rfl rfl rfl rfl rfl rfl x xba hV z1 z2 (less_zeros a b ha hb ⟨z1, z2⟩).1 (less_zeros a b ha hb ⟨z1, z2⟩).2 w
          · have l := less_cmp a b ha hb c1 c2 (fun h => z2 h.2)
            exact bw_Xpzo a b c _ _ _ _ _ _ _ 0 _ ha hb hc hN rfl rfl rfl rfl rfl rfl rfl x xba hV z1 rfl (by simpa using c2) (by simpa using z2) (by rw [l.1, x]; rfl) (by rw [l.2, x]; rfl) w
        · have l := less_cmp a b ha hb c1 c2 (fun h => z1 h.1)
          exact bw_Xpo a b c _ _ _ _ _ _ _ _ _ ha hb hc hN rfl rfl rfl rfl rfl rfl rfl x xba hV rfl (by simpa using c1) (by simpa using c1) (by simpa using z1) rfl (by simpa using c2) (by rw [l.1, x]; rfl) (by rw [l.2, x]; rfl) w

/-! ### THE ROW's STEP: WRITTEN OUT: LEAVE IT -/
set_option maxRecDepth 100000 in
theorem lifted (os : Os) (started : os.Started) (H : Type) (enc : TypeId × Value → H) :
    ReturnsInHanded {} Tryd.checked os 4 .any (fun w args => (Rows.floatsBetweenSpec.pre enc Tryd.prog Tryd.f4 [] false w args ∧ laidMetH Tryd.prog Rows.floatsBetweenRow.laid w) ∧ sizedMet enc Tryd.prog Tryd.f4 (OpenSpec.ofChange Rows.floatsBetweenSpec) false w args) (Rows.floatsBetweenSpec.post enc Tryd.prog Tryd.f4 false true false false) := by
  refine returnsInHanded_of_change_and (C := Tryd.checked) (X := fun w _ => laidMetH Tryd.prog Rows.floatsBetweenRow.laid w) (fun _ _ _ hh h => h.of_heap hh) own started (by kernel_rfl) Tryd.func4
    (ChangeSpec.witness_shaped (enc := enc) (C := Tryd.checked) (os := os) (X := fun w _ => laidMetH Tryd.prog Rows.floatsBetweenRow.laid w) false (World.laidAll Tryd.prog os Rows.floatsBetweenRow.laid) #[.int .u64 0, .int .u64 0, .int .u64 0] 8 (World.laidAll_os _ _ _)
      (World.shaped_of_ZipB (by kernel_rfl) (by kernel_rfl)) (by kernel_rfl) (by kernel_rfl) (by kernel_rfl)
      (by rw [MakeChecks.laidMetH_plain _ _ _ (by kernel_rfl)]; exact laidMet_laidAll _ (by kernel_rfl) (by kernel_rfl))) ?_
  intro W base args ds gs before hval0 hW hcnd _ _ _
  have hval : ∀ (j : Nat) t v, Tryd.f4.params[j]? = some t → args[j]? = some v → Value.okWide Tryd.prog W .any base t v := hval0
  have hW' := hW
  obtain ⟨p, q, hA0, hV, rfl, hfz, hnd⟩ := hW
  have hA : DataW.TrodAll enc Tryd.prog W 0 (fun _ => true) true Tryd.f4.params.toList args.toList ds p := hA0
  rw [Tryd.params4] at hA hval
  obtain ⟨v0, vs0, d0, ds0, p0, q0, hargs, rfl, rfl, h0, r0⟩ := trodAll_cons hA
  obtain ⟨v1, vs1, d1, ds1, p1, q1, rfl, rfl, rfl, h1, r1⟩ := trodAll_cons r0
  obtain ⟨v2, vs2, d2, ds2, p2, q2, rfl, rfl, rfl, h2, r2⟩ := trodAll_cons r1
  obtain ⟨rfl, rfl, rfl⟩ := trodAll_nil r2
  obtain rfl : args = #[v0, v1, v2] := by cases args; simp_all
  obtain ⟨rfl, rfl⟩ := trodVars_none hV
  obtain ⟨a0, rfl, rfl, rfl, w0⟩ := open_int Tryd.underlying22 (hval 0 22 v0 rfl rfl) h0
  obtain ⟨a1, rfl, rfl, rfl, w1⟩ := open_int Tryd.underlying22 (hval 1 22 v1 rfl rfl) h1
  obtain ⟨a2, rfl, rfl, rfl, w2⟩ := open_int Tryd.underlying22 (hval 2 22 v2 rfl rfl) h2
  clear hA0 hval0
  simp only [List.append_nil] at hW'
  refine (walk a0 a1 a2 w0 w1 w2 W).mono fun e W' ⟨he, hg⟩ => ?_
  subst he
  exact ⟨_, rfl, post_of_same (pa := []) (pv := []) hW' (fun _ _ _ => (trodAll_cons_mk (shut_bool Tryd.underlying4 _) trodAll_mk0)) (fun sp _ => (trodAll_cons_mk (shut_int Tryd.underlying22 w0) (trodAll_cons_mk (shut_int Tryd.underlying22 w1) (trodAll_cons_mk (shut_int Tryd.underlying22 w2) trodAll_mk0)))) (fun _ _ => rfl) rfl
    (hg.frame _) hg.2.1 (ok_one (by kernel_rfl) rfl (okWide_bool_mk Tryd.underlying4 _))⟩

theorem over : Rows.floatsBetweenRow.holds Tryd.pinned (OpenSpec.ofChange Rows.floatsBetweenSpec) :=
  OpenClaim.holds_of_wide 4 Tryd.f4 rfl rfl rfl rfl rfl rfl rfl ⟨rfl, rfl, rfl, rfl, rfl⟩ rfl rfl rfl rfl rfl (by kernel_rfl) Tryd.func4 (by kernel_rfl)
    (of_decide_eq_true (by kernel_rfl)) (by unfold Func.isWrapper; first | (rw [if_pos (by decide +kernel)]; kernel_rfl) | (rw [if_neg (by decide +kernel)]; exact ⟨rfl, rfl⟩))
    (fun os started H enc _ => lifted os started H enc)

theorem card_holds : Rows.FloatsBetweenCardSaid :=
  Claim7.holds_tied_plain_at .later [] [.data, .data, .data] true (true, "e2477a65d6e7096bd56a369304c6dd4b13ff389eac8e4d2eafa323443eeaf2d6") false over (fun _ h => by cases h) (by kernel_rfl) (fun _ h => by cases h) floatsBetween_row_tie rfl ⟨rfl, rfl⟩ (by kernel_rfl) rfl
    (fun f fn hf hfn => by
      obtain rfl : f = 4 := Option.some.inj ((show Tryd.prog.funcNamed "foundry/foundrylaw01.FloatsBetween" = some 4 by kernel_rfl).symm.trans hf) |>.symm
      obtain rfl : fn = Tryd.f4 := (Option.some.inj (Tryd.func4.symm.trans hfn)).symm
      exact ⟨by kernel_rfl, fun j t ht => by
        rw [Tryd.params4] at ht
        have hm : t ∈ [22, 22, 22] := by simpa using Array.mem_of_getElem? ht
        have hall : ([22, 22, 22].all fun u => !Tryd.prog.wantsStandIn u) = true := by kernel_rfl
        exact (show Tryd.prog.wantsStandIn t = false by simpa using List.all_eq_true.1 hall t hm)⟩)
    (by kernel_rfl)
#print axioms card_holds
end Go.Proofs.YtfegnjpajflnkabDoor.floatsBetween
namespace Go.Proofs.YtfegnjpajflnkabDoor
theorem floatsBetween_holds : Rows.FloatsBetweenCardSaid := floatsBetween.card_holds
end Go.Proofs.YtfegnjpajflnkabDoor
