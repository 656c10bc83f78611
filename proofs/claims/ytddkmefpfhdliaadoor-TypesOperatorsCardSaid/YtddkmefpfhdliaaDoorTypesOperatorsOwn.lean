/- TypesOperators returns true for every input, in whatever memory; each argument reads afterwards as it did; the listed tables of the library are tied to the program text. -/
import Derived.Test.YtddkmefpfhdliaaDoorRows
import Derived.Test.YtddkmefpfhdliaaDoorTie
import Derived.Test.YtddkmefpfhdliaaDoorCards
import Derived.Test.YtddkmefpfhdliaaDoorTyV3
import Derived.WalkKit
import Derived.ProofKit
import Derived.OpenShut
import Derived.Handy
import Derived.ChangeMaps5
import Derived.WideKeyArgs
import Derived.SizedLaws
import Derived.LaidSub
import Derived.Lib.LaidTab
import Derived.Lay
import Derived.SevenTiedAt
namespace Go.Proofs.YtddkmefpfhdliaaDoor.typesOperators
open Go.ChangeShapes Go.WideShapes Go.ChangeAt Go.RowKit Go.ChangeMaps
set_option linter.unusedVariables false
set_option linter.unusedSimpArgs false

theorem own : ownKnob Tryd.prog.godebug = none := by kernel_rfl
theorem laidOut : laidOutB Tryd.prog = true := by kernel_rfl
theorem same {W W' : World} (hf : Fr (fun _ => False) W W') {p : MemPlace} (hp : p.block < W.heap.size) : W.sameAt W' p := by
  cases p with
  | cell b off => exact World.cell?_of_block (a := ⟨b, off, none⟩) (hf.block b hp (fun f => f))
  | map b => exact hf.block b hp (fun f => f)

set_option maxRecDepth 100000 in
theorem lifted (os : Os) (started : os.Started) (H : Type) (enc : TypeId × Value → H) :
    ReturnsInHanded {} Tryd.checked os 6 .any (fun w args => (Rows.typesOperatorsSpec.pre enc Tryd.prog Tryd.f6 [] false w args ∧ laidMetH Tryd.prog Rows.typesOperatorsRow.laid w) ∧ sizedMet enc Tryd.prog Tryd.f6 (OpenSpec.ofChange Rows.typesOperatorsSpec) false w args) (Rows.typesOperatorsSpec.post enc Tryd.prog Tryd.f6 false true false false) := by
  refine returnsInHanded_of_change_and (C := Tryd.checked) (X := fun w _ => laidMetH Tryd.prog Rows.typesOperatorsRow.laid w) (fun _ _ _ hh h => h.of_heap hh) own started (by kernel_rfl) Tryd.func6
    (ChangeSpec.witness_shaped (enc := enc) (C := Tryd.checked) (os := os) (X := fun w _ => laidMetH Tryd.prog Rows.typesOperatorsRow.laid w) false (World.laidAll Tryd.prog os Rows.typesOperatorsRow.laid) #[.int .i64 0, .int .i64 0, .int .i64 0] 8 (World.laidAll_os _ _ _)
      (World.shaped_of_ZipB (by kernel_rfl) (by kernel_rfl)) (by kernel_rfl) (by kernel_rfl) (by kernel_rfl)
      (by rw [MakeChecks.laidMetH_plain _ _ _ (by kernel_rfl)]; exact laidMet_laidAll _ (by kernel_rfl) (by kernel_rfl))) ?_
  intro W base args ds gs before hval0 hW hcnd hsz0 hL _
  have hsz : (DataW.weightsEach Tryd.prog (Tryd.f6.params.toList ++ Rows.typesOperatorsSpec.plain.varTypes Tryd.prog) (ds ++ gs)).all (· ≤ reachBytes) = true := hsz0
  clear hsz0
  have hval : ∀ (j : Nat) t v, Tryd.f6.params[j]? = some t → args[j]? = some v → Value.okWide Tryd.prog W .any base t v := hval0
  have hW' := hW
  obtain ⟨p, q, hA0, hV, rfl, hfz, hnd⟩ := hW
  have hA : DataW.TrodAll enc Tryd.prog W 0 (fun _ => true) true Tryd.f6.params.toList args.toList ds p := hA0
  rw [Tryd.params6] at hA hval hsz
  obtain ⟨v0, vs0, d0, ds0, p0, q0, hargs, rfl, rfl, h0, r0⟩ := trodAll_cons hA
  obtain ⟨v1, vs1, d1, ds1, p1, q1, rfl, rfl, rfl, h1, r1⟩ := trodAll_cons r0
  obtain ⟨v2, vs2, d2, ds2, p2, q2, rfl, rfl, rfl, h2, r2⟩ := trodAll_cons r1
  obtain ⟨rfl, rfl, rfl⟩ := trodAll_nil r2
  obtain rfl : args = #[v0, v1, v2] := by cases args; simp_all
  obtain ⟨rfl, rfl⟩ := trodVars_none hV
  obtain ⟨a0, rfl, rfl, rfl, w0⟩ := open_int Tryd.underlying3 (hval 0 3 v0 rfl rfl) h0
  obtain ⟨a1, rfl, rfl, rfl, w1⟩ := open_int Tryd.underlying3 (hval 1 3 v1 rfl rfl) h1
  obtain ⟨a2, rfl, rfl, rfl, w2⟩ := open_int Tryd.underlying3 (hval 2 3 v2 rfl rfl) h2
  clear hA0 hval0
  simp only [List.append_nil] at hW'
  have ht : F.Tab W := by
    have hL2 : laidMet Tryd.prog Rows.typesOperatorsRow.laid W := by rw [MakeChecks.laidMetH_plain _ _ _ (by kernel_rfl)] at hL; exact hL
    have hL3 := hL2.filter (fun x => x.1 == "internal/strconv.uint64pow10")
    have e : Rows.typesOperatorsRow.laid.filter (fun x => x.1 == "internal/strconv.uint64pow10") = [("internal/strconv.uint64pow10", Lib.tabData .u64 Lib.pow10Tab)] := by kernel_rfl
    rw [e] at hL3
    exact Lib.tabIs_of_head (g := 1) (t := 99) (e := 22) (n := 20) (by kernel_rfl) (by kernel_rfl) Tryd.underlying99 Tryd.underlying22 (by kernel_rfl) (by kernel_rfl) hL3
  have hwalk := walk a0 a1 a2 W w0 w1 w2 ht
  refine hwalk.mono fun e W' ⟨he, hg⟩ => ?_
  subst he
  exact ⟨_, rfl, _, _, _, [], [] ++ ([] ++ ([] ++ ([]))), [], hW', (trodAll_cons_mk (shut_bool Tryd.underlying4 _) trodAll_mk0), (trodAll_cons_mk (shut_int Tryd.underlying3 w0) (trodAll_cons_mk (shut_int Tryd.underlying3 w1) (trodAll_cons_mk (shut_int Tryd.underlying3 w2) trodAll_mk0))), rfl, World.keptBut_mono (fun _ f => f.elim) hg.kept, fun h => by cases h⟩

theorem oa : Tryd.pinned.checked.prog.funcNamed Rows.typesOperatorsRow.func = some 6 := by kernel_rfl
theorem oe : (Rows.typesOperatorsRow.inPlace == Tryd.pinned.checked.prog.inPlace 6) = true := by kernel_rfl
theorem of_ : (Rows.typesOperatorsRow.unfollowed == Tryd.pinned.checked.prog.unfollowed 6) = true := by kernel_rfl
theorem og : (Rows.typesOperatorsRow.recurses == Tryd.pinned.checked.prog.recurses 6) = true := by kernel_rfl
theorem oh : (Rows.typesOperatorsRow.named == Tryd.pinned.checked.prog.varsNamed 6) = true := by kernel_rfl
theorem oi : laidOutB Tryd.pinned.checked.prog = true := by kernel_rfl
theorem ob : joinedFacts Tryd.pinned.checked.prog 6 Tryd.f6 Rows.typesOperatorsSpec Rows.typesOperatorsRow = true := by
  unfold joinedFacts
  rw [oe, of_, og, oh, oi]
  kernel_rfl
theorem oc : Func.isInstance Tryd.pinned.checked.prog Tryd.f6 Rows.typesOperatorsRow.origin Rows.typesOperatorsRow.targs := of_decide_eq_true (by kernel_rfl)
theorem od : Func.isWrapper Tryd.pinned.checked.prog Tryd.f6 Rows.typesOperatorsRow.wrapper Rows.typesOperatorsRow.mainSum := by unfold Func.isWrapper; first | (rw [if_pos (by decide +kernel)]; kernel_rfl) | (rw [if_neg (by decide +kernel)]; exact ⟨rfl, rfl⟩)
theorem over : Rows.typesOperatorsRow.holds Tryd.pinned (OpenSpec.ofChange Rows.typesOperatorsSpec) :=
  OpenClaim.holds_of_wide 6 Tryd.f6 rfl rfl rfl rfl rfl rfl rfl ⟨rfl, rfl, rfl, rfl, rfl⟩ rfl rfl rfl rfl rfl oa Tryd.func6 ob oc od
    (fun os started H enc _ => lifted os started H enc)
theorem ca : OpenClaim.wfByText (OpenSpec.ofChange Rows.typesOperatorsSpec) Rows.typesOperatorsRow = true := by kernel_rfl
theorem cb : Tryd.pinned.checked.prog.mainIs = some ((true, "a63a4d7b60dc1ac3ab436d108f20ea16d2e71ec61920f5ca424192880c97044f").fst, (true, "a63a4d7b60dc1ac3ab436d108f20ea16d2e71ec61920f5ca424192880c97044f").snd.toList) := by kernel_rfl
theorem cc : false = Rows.typesOperatorsRow.goesBy Tryd.pinned.checked.prog := by kernel_rfl
theorem cd : Tryd.prog.funcNamed "foundry/foundrylaw08.TypesOperators" = some 6 := by kernel_rfl
theorem ce : false = Tryd.pinned.checked.prog.looks [] := by kernel_rfl
theorem cf : ([3, 3, 3].all fun u => !Tryd.prog.wantsStandIn u) = true := by kernel_rfl
theorem card_holds : Rows.TypesOperatorsCardSaid :=
  Claim7.holds_tied_plain_at .later [] [.data, .data, .data] true (true, "a63a4d7b60dc1ac3ab436d108f20ea16d2e71ec61920f5ca424192880c97044f") false over (fun _ h => by cases h) ca (fun _ h => by cases h) typesOperators_row_tie rfl ⟨rfl, rfl⟩ cb rfl
    (fun f fn hf hfn => by
      obtain rfl : f = 6 := Option.some.inj (cd.symm.trans hf) |>.symm
      obtain rfl : fn = Tryd.f6 := (Option.some.inj (Tryd.func6.symm.trans hfn)).symm
      exact ⟨ce, fun j t ht => by
        rw [Tryd.params6] at ht
        have hm : t ∈ [3, 3, 3] := by simpa using Array.mem_of_getElem? ht
        have hall := cf
        exact (show Tryd.prog.wantsStandIn t = false by simpa using List.all_eq_true.1 hall t hm)⟩)
    cc
end Go.Proofs.YtddkmefpfhdliaaDoor.typesOperators
namespace Go.Proofs.YtddkmefpfhdliaaDoor
theorem typesOperators_holds : Rows.TypesOperatorsCardSaid := typesOperators.card_holds
#print axioms typesOperators_holds
end Go.Proofs.YtddkmefpfhdliaaDoor
