/- CodePatches returns true for every input, in whatever memory; each argument reads afterwards as it did; the listed tables of the library are tied to the program text. -/
import Derived.Test.YticpiaonkgomfaaDoorRows
import Derived.Test.YticpiaonkgomfaaDoorTie
import Derived.Test.YticpiaonkgomfaaDoorCards
import Derived.Test.YticpiaonkgomfaaDoorCdPAll
import Derived.Test.YticpiaonkgomfaaDoorCdIn
import Derived.WalkKit
import Derived.ProofKit
import Derived.OpenShut
import Derived.Handy
import Derived.ChangeMaps5
import Derived.WideKeyArgs
import Derived.SizedLaws
import Derived.LaidSub
import Derived.Lib.LaidTab
import Derived.Lay
import Derived.SevenTiedAt
namespace Go.Proofs.YticpiaonkgomfaaDoor.codePatches
open Go.ChangeShapes Go.WideShapes Go.ChangeAt Go.RowKit Go.ChangeMaps
set_option linter.unusedVariables false
set_option linter.unusedSimpArgs false

theorem own : ownKnob Tryd.prog.godebug = none := by kernel_rfl
theorem laidOut : laidOutB Tryd.prog = true := by kernel_rfl
theorem readable40 : Tryd.prog.readableRec 40 = true := by kernel_rfl
theorem known40 : 40 < Tryd.prog.types.size := of_decide_eq_true (by kernel_rfl)
theorem same {W W' : World} (hf : Fr (fun _ => False) W W') {p : MemPlace} (hp : p.block < W.heap.size) : W.sameAt W' p := by
  cases p with
  | cell b off => exact World.cell?_of_block (a := ⟨b, off, none⟩) (hf.block b hp (fun f => f))
  | map b => exact hf.block b hp (fun f => f)

set_option maxRecDepth 100000 in
theorem lifted (os : Os) (started : os.Started) (H : Type) (enc : TypeId × Value → H) :
    ReturnsInHanded {} Tryd.checked os 5 .any (fun w args => (Rows.codePatchesSpec.pre enc Tryd.prog Tryd.f5 [] false w args ∧ laidMetH Tryd.prog Rows.codePatchesRow.laid w) ∧ sizedMet enc Tryd.prog Tryd.f5 (OpenSpec.ofChange Rows.codePatchesSpec) false w args) (Rows.codePatchesSpec.post enc Tryd.prog Tryd.f5 false true false false) := by
  refine returnsInHanded_of_change_and (C := Tryd.checked) (X := fun w _ => laidMetH Tryd.prog Rows.codePatchesRow.laid w) (fun _ _ _ hh h => h.of_heap hh) own started (by kernel_rfl) Tryd.func5
    (ChangeSpec.witness_shaped (enc := enc) (C := Tryd.checked) (os := os) (X := fun w _ => laidMetH Tryd.prog Rows.codePatchesRow.laid w) false (World.laidAll Tryd.prog os Rows.codePatchesRow.laid) #[.slice none 0 0, .int .i64 0, .int .i64 0] 8 (World.laidAll_os _ _ _)
      (World.shaped_of_ZipB (by kernel_rfl) (by kernel_rfl)) (by kernel_rfl) (by kernel_rfl) (by kernel_rfl)
      (by rw [MakeChecks.laidMetH_plain _ _ _ (by kernel_rfl)]; exact laidMet_laidAll _ (by kernel_rfl) (by kernel_rfl))) ?_
  intro W base args ds gs before hval0 hW hcnd hsz0 hL _
  have hsz : (DataW.weightsEach Tryd.prog (Tryd.f5.params.toList ++ Rows.codePatchesSpec.plain.varTypes Tryd.prog) (ds ++ gs)).all (· ≤ reachBytes) = true := hsz0
  clear hsz0
  have hval : ∀ (j : Nat) t v, Tryd.f5.params[j]? = some t → args[j]? = some v → Value.okWide Tryd.prog W .any base t v := hval0
  have hW' := hW
  obtain ⟨p, q, hA0, hV, rfl, hfz, hnd⟩ := hW
  have hA : DataW.TrodAll enc Tryd.prog W 0 (fun _ => true) true Tryd.f5.params.toList args.toList ds p := hA0
  rw [Tryd.params5] at hA hval hsz
  obtain ⟨v0, vs0, d0, ds0, p0, q0, hargs, rfl, rfl, h0, r0⟩ := trodAll_cons hA
  obtain ⟨v1, vs1, d1, ds1, p1, q1, rfl, rfl, rfl, h1, r1⟩ := trodAll_cons r0
  obtain ⟨v2, vs2, d2, ds2, p2, q2, rfl, rfl, rfl, h2, r2⟩ := trodAll_cons r1
  obtain ⟨rfl, rfl, rfl⟩ := trodAll_nil r2
  obtain rfl : args = #[v0, v1, v2] := by cases args; simp_all
  obtain ⟨rfl, rfl⟩ := trodVars_none hV
  obtain ⟨a1, rfl, rfl, rfl, w1⟩ := open_int Tryd.underlying3 (hval 1 3 v1 rfl rfl) h1
  obtain ⟨a2, rfl, rfl, rfl, w2⟩ := open_int Tryd.underlying3 (hval 2 3 v2 rfl rfl) h2
  clear hA0 hval0
  simp only [List.append_nil] at hW'
  have hlt0 : ∀ x ∈ p0, x.block < W.heap.size := fun x hx => by simpa using hW'.lt x (by simp [hx])
  have back0 : ∀ W', Fr (fun _ => False) W W' → DataW.Trod enc Tryd.prog W' 0 (fun b => decide (b < W.heap.size)) true 40 v0 d0 p0 := fun W' hf => Go.WideElems.Trod_stays laidOut readable40 known40 h0 (fun x hx => same hf (hlt0 x hx)) (fun x hx => by simpa using hlt0 x hx)
  obtain ⟨fuel0, hf0⟩ := h0
  obtain ⟨go0, gn0, gc0, hgv0⟩ := okWide_slice Tryd.underlying40 (hval 0 40 v0 rfl rfl)
  obtain ⟨x0, hP0⟩ := Cd.inss_arg (by rw [hgv0]; rfl) hf0 (fun n hn => by have := List.all_eq_true.1 hsz n (DataW.weights_mem_each (j := 0) rfl rfl n hn); simpa using this)
  have ht : F.Tab W := by
    have hL2 : laidMet Tryd.prog Rows.codePatchesRow.laid W := by rw [MakeChecks.laidMetH_plain _ _ _ (by kernel_rfl)] at hL; exact hL
    have hL3 := hL2.filter (fun x => x.1 == "internal/strconv.uint64pow10")
    have e : Rows.codePatchesRow.laid.filter (fun x => x.1 == "internal/strconv.uint64pow10") = [("internal/strconv.uint64pow10", Lib.tabData .u64 Lib.pow10Tab)] := by kernel_rfl
    rw [e] at hL3
    exact Lib.tabIs_of_head (g := 1) (t := 133) (e := 22) (n := 20) (by kernel_rfl) (by kernel_rfl) Tryd.underlying133 Tryd.underlying22 (by kernel_rfl) (by kernel_rfl) hL3
  have hwalk := walk v0 x0 a1 a2 W hP0 w1 w2 ht
  refine hwalk.mono fun e W' ⟨he, hg⟩ => ?_
  subst he
  exact ⟨_, rfl, _, _, _, [], p0 ++ ([] ++ ([] ++ ([]))), [], hW', (trodAll_cons_mk (shut_bool Tryd.underlying4 _) trodAll_mk0), (trodAll_cons_mk (back0 _ hg) (trodAll_cons_mk (shut_int Tryd.underlying3 w1) (trodAll_cons_mk (shut_int Tryd.underlying3 w2) trodAll_mk0))), rfl, World.keptBut_mono (fun _ f => f.elim) hg.kept, fun h => by cases h⟩

theorem oa : Tryd.pinned.checked.prog.funcNamed Rows.codePatchesRow.func = some 5 := by kernel_rfl
theorem oe : (Rows.codePatchesRow.inPlace == Tryd.pinned.checked.prog.inPlace 5) = true := by kernel_rfl
theorem of_ : (Rows.codePatchesRow.unfollowed == Tryd.pinned.checked.prog.unfollowed 5) = true := by kernel_rfl
theorem og : (Rows.codePatchesRow.recurses == Tryd.pinned.checked.prog.recurses 5) = true := by kernel_rfl
theorem oh : (Rows.codePatchesRow.named == Tryd.pinned.checked.prog.varsNamed 5) = true := by kernel_rfl
theorem oi : laidOutB Tryd.pinned.checked.prog = true := by kernel_rfl
theorem ob : joinedFacts Tryd.pinned.checked.prog 5 Tryd.f5 Rows.codePatchesSpec Rows.codePatchesRow = true := by
  unfold joinedFacts
  rw [oe, of_, og, oh, oi]
  kernel_rfl
theorem oc : Func.isInstance Tryd.pinned.checked.prog Tryd.f5 Rows.codePatchesRow.origin Rows.codePatchesRow.targs := of_decide_eq_true (by kernel_rfl)
theorem od : Func.isWrapper Tryd.pinned.checked.prog Tryd.f5 Rows.codePatchesRow.wrapper Rows.codePatchesRow.mainSum := by unfold Func.isWrapper; first | (rw [if_pos (by decide +kernel)]; kernel_rfl) | (rw [if_neg (by decide +kernel)]; exact ⟨rfl, rfl⟩)
theorem over : Rows.codePatchesRow.holds Tryd.pinned (OpenSpec.ofChange Rows.codePatchesSpec) :=
  OpenClaim.holds_of_wide 5 Tryd.f5 rfl rfl rfl rfl rfl rfl rfl ⟨rfl, rfl, rfl, rfl, rfl⟩ rfl rfl rfl rfl rfl oa Tryd.func5 ob oc od
    (fun os started H enc _ => lifted os started H enc)
theorem ca : OpenClaim.wfByText (OpenSpec.ofChange Rows.codePatchesSpec) Rows.codePatchesRow = true := by kernel_rfl
theorem cb : Tryd.pinned.checked.prog.mainIs = some ((true, "886a6bb1e5aac9ce664727eb534f5f90b263ce7e6df9a9c47675a8d9300b3013").fst, (true, "886a6bb1e5aac9ce664727eb534f5f90b263ce7e6df9a9c47675a8d9300b3013").snd.toList) := by kernel_rfl
theorem cc : false = Rows.codePatchesRow.goesBy Tryd.pinned.checked.prog := by kernel_rfl
theorem cd : Tryd.prog.funcNamed "foundry/foundrylaw14.CodePatches" = some 5 := by kernel_rfl
theorem ce : false = Tryd.pinned.checked.prog.looks [] := by kernel_rfl
theorem cf : ([40, 3, 3].all fun u => !Tryd.prog.wantsStandIn u) = true := by kernel_rfl
theorem card_holds : Rows.CodePatchesCardSaid :=
  Claim7.holds_tied_plain_at .later [] [.data, .data, .data] true (true, "886a6bb1e5aac9ce664727eb534f5f90b263ce7e6df9a9c47675a8d9300b3013") false over (fun _ h => by cases h) ca (fun _ h => by cases h) codePatches_row_tie rfl ⟨rfl, rfl⟩ cb rfl
    (fun f fn hf hfn => by
      obtain rfl : f = 5 := Option.some.inj (cd.symm.trans hf) |>.symm
      obtain rfl : fn = Tryd.f5 := (Option.some.inj (Tryd.func5.symm.trans hfn)).symm
      exact ⟨ce, fun j t ht => by
        rw [Tryd.params5] at ht
        have hm : t ∈ [40, 3, 3] := by simpa using Array.mem_of_getElem? ht
        have hall := cf
        exact (show Tryd.prog.wantsStandIn t = false by simpa using List.all_eq_true.1 hall t hm)⟩)
    cc
end Go.Proofs.YticpiaonkgomfaaDoor.codePatches
namespace Go.Proofs.YticpiaonkgomfaaDoor
theorem codePatches_holds : Rows.CodePatchesCardSaid := codePatches.card_holds
#print axioms codePatches_holds
end Go.Proofs.YticpiaonkgomfaaDoor
