/- CodeShapes returns true for every input, in whatever memory; each argument reads afterwards as it did; the listed tables of the library are tied to the program text. -/
import Derived.Test.YtnmcehpdiopaiaaGreatDoorRows
import Derived.Test.YtnmcehpdiopaiaaGreatDoorTie
import Derived.Test.YtnmcehpdiopaiaaGreatDoorCards
import Derived.Test.YtnmcehpdiopaiaaGreatDoorCdVi
import Derived.Test.YtnmcehpdiopaiaaGreatDoorCdZzAll
import Derived.WalkKit
import Derived.ProofKit
import Derived.OpenShut
import Derived.Handy
import Derived.ChangeMaps5
import Derived.WideKeyArgs
import Derived.SizedLaws
import Derived.LaidSub
import Derived.Lib.LaidTab
import Derived.Lay
import Derived.SevenTiedAt
namespace Go.Proofs.YtnmcehpdiopaiaaGreatDoor.codeShapes
open Go.ChangeShapes Go.WideShapes Go.ChangeAt Go.RowKit Go.ChangeMaps
set_option linter.unusedVariables false
set_option linter.unusedSimpArgs false

theorem own : ownKnob Tryz.prog.godebug = none := by kernel_rfl
theorem laidOut : laidOutB Tryz.prog = true := by kernel_rfl
theorem readable27 : Tryz.prog.readableRec 27 = true := by kernel_rfl
theorem known27 : 27 < Tryz.prog.types.size := of_decide_eq_true (by kernel_rfl)
theorem readable30 : Tryz.prog.readableRec 30 = true := by kernel_rfl
theorem known30 : 30 < Tryz.prog.types.size := of_decide_eq_true (by kernel_rfl)
theorem same {W W' : World} (hf : Fr (fun _ => False) W W') {p : MemPlace} (hp : p.block < W.heap.size) : W.sameAt W' p := by
  cases p with
  | cell b off => exact World.cell?_of_block (a := ⟨b, off, none⟩) (hf.block b hp (fun f => f))
  | map b => exact hf.block b hp (fun f => f)

set_option maxRecDepth 100000 in
theorem lifted (os : Os) (started : os.Started) (H : Type) (enc : TypeId × Value → H) :
    ReturnsInHanded {} Tryz.checked os 4 .any (fun w args => (Rows.codeShapesSpec.pre enc Tryz.prog Tryz.f4 [] false w args ∧ laidMetH Tryz.prog Rows.codeShapesRow.laid w) ∧ sizedMet enc Tryz.prog Tryz.f4 (OpenSpec.ofChange Rows.codeShapesSpec) false w args) (Rows.codeShapesSpec.post enc Tryz.prog Tryz.f4 false true false false) := by
  refine returnsInHanded_of_change_and (C := Tryz.checked) (X := fun w _ => laidMetH Tryz.prog Rows.codeShapesRow.laid w) (fun _ _ _ hh h => h.of_heap hh) own started (by kernel_rfl) Tryz.func4
    (ChangeSpec.witness_shaped (enc := enc) (C := Tryz.checked) (os := os) (X := fun w _ => laidMetH Tryz.prog Rows.codeShapesRow.laid w) false (World.laidAll Tryz.prog os Rows.codeShapesRow.laid) #[.agg #[.slice none 0 0, .int .i64 0, .slice none 0 0, .slice none 0 0], .agg #[.slice none 0 0, .slice none 0 0], .int .i64 0] 8 (World.laidAll_os _ _ _)
      (World.shaped_of_ZipB (by kernel_rfl) (by kernel_rfl)) (by kernel_rfl) (by kernel_rfl) (by kernel_rfl)
      (by rw [MakeChecks.laidMetH_plain _ _ _ (by kernel_rfl)]; exact laidMet_laidAll _ (by kernel_rfl) (by kernel_rfl))) ?_
  intro W base args ds gs before hval0 hW hcnd hsz0 hL _
  have hsz : (DataW.weightsEach Tryz.prog (Tryz.f4.params.toList ++ Rows.codeShapesSpec.plain.varTypes Tryz.prog) (ds ++ gs)).all (· ≤ reachBytes) = true := hsz0
  clear hsz0
  have hval : ∀ (j : Nat) t v, Tryz.f4.params[j]? = some t → args[j]? = some v → Value.okWide Tryz.prog W .any base t v := hval0
  have hW' := hW
  obtain ⟨p, q, hA0, hV, rfl, hfz, hnd⟩ := hW
  have hA : DataW.TrodAll enc Tryz.prog W 0 (fun _ => true) true Tryz.f4.params.toList args.toList ds p := hA0
  rw [Tryz.params4] at hA hval hsz
  obtain ⟨v0, vs0, d0, ds0, p0, q0, hargs, rfl, rfl, h0, r0⟩ := trodAll_cons hA
  obtain ⟨v1, vs1, d1, ds1, p1, q1, rfl, rfl, rfl, h1, r1⟩ := trodAll_cons r0
  obtain ⟨v2, vs2, d2, ds2, p2, q2, rfl, rfl, rfl, h2, r2⟩ := trodAll_cons r1
  obtain ⟨rfl, rfl, rfl⟩ := trodAll_nil r2
  obtain rfl : args = #[v0, v1, v2] := by cases args; simp_all
  obtain ⟨rfl, rfl⟩ := trodVars_none hV
  obtain ⟨a2, rfl, rfl, rfl, w2⟩ := open_int Tryz.underlying3 (hval 2 3 v2 rfl rfl) h2
  clear hA0 hval0
  simp only [List.append_nil] at hW'
  have hlt0 : ∀ x ∈ p0, x.block < W.heap.size := fun x hx => by simpa using hW'.lt x (by simp [hx])
  have back0 : ∀ W', Fr (fun _ => False) W W' → DataW.Trod enc Tryz.prog W' 0 (fun b => decide (b < W.heap.size)) true 27 v0 d0 p0 := fun W' hf => Go.WideElems.Trod_stays laidOut readable27 known27 h0 (fun x hx => same hf (hlt0 x hx)) (fun x hx => by simpa using hlt0 x hx)
  obtain ⟨fuel0, hf0⟩ := h0
  have hlt1 : ∀ x ∈ p1, x.block < W.heap.size := fun x hx => by simpa using hW'.lt x (by simp [hx])
  have back1 : ∀ W', Fr (fun _ => False) W W' → DataW.Trod enc Tryz.prog W' 0 (fun b => decide (b < W.heap.size)) true 30 v1 d1 p1 := fun W' hf => Go.WideElems.Trod_stays laidOut readable30 known30 h1 (fun x hx => same hf (hlt1 x hx)) (fun x hx => by simpa using hlt1 x hx)
  obtain ⟨fuel1, hf1⟩ := h1
  obtain ⟨x0, hP0⟩ := Cd.fn_arg hf0 (fun n hn => by have := List.all_eq_true.1 hsz n (DataW.weights_mem_each (j := 0) rfl rfl n hn); simpa using this)
  obtain ⟨x1, hP1⟩ := Cd.frame_arg hf1 (fun n hn => by have := List.all_eq_true.1 hsz n (DataW.weights_mem_each (j := 1) rfl rfl n hn); simpa using this)
  have ht : F.Tab W := by
    have hL2 : laidMet Tryz.prog Rows.codeShapesRow.laid W := by rw [MakeChecks.laidMetH_plain _ _ _ (by kernel_rfl)] at hL; exact hL
    have hL3 := hL2.filter (fun x => x.1 == "internal/strconv.uint64pow10")
    have e : Rows.codeShapesRow.laid.filter (fun x => x.1 == "internal/strconv.uint64pow10") = [("internal/strconv.uint64pow10", Lib.tabData .u64 Lib.pow10Tab)] := by kernel_rfl
    rw [e] at hL3
    exact Lib.tabIs_of_head (g := 2) (t := 168) (e := 60) (n := 20) (by kernel_rfl) (by kernel_rfl) Tryz.underlying168 Tryz.underlying60 (by kernel_rfl) (by kernel_rfl) hL3
  have hwalk := walk v0 x0 v1 x1 a2 W hP0 hP1 w2 ht
  refine hwalk.mono fun e W' ⟨he, hg⟩ => ?_
  subst he
  exact ⟨_, rfl, _, _, _, [], p0 ++ (p1 ++ ([] ++ ([]))), [], hW', (trodAll_cons_mk (shut_bool Tryz.underlying4 _) trodAll_mk0), (trodAll_cons_mk (back0 _ hg) (trodAll_cons_mk (back1 _ hg) (trodAll_cons_mk (shut_int Tryz.underlying3 w2) trodAll_mk0))), rfl, World.keptBut_mono (fun _ f => f.elim) hg.kept, fun h => by cases h⟩

theorem oa : Tryz.pinned.checked.prog.funcNamed Rows.codeShapesRow.func = some 4 := by kernel_rfl
theorem oe : (Rows.codeShapesRow.inPlace == Tryz.pinned.checked.prog.inPlace 4) = true := by kernel_rfl
theorem of_ : (Rows.codeShapesRow.unfollowed == Tryz.pinned.checked.prog.unfollowed 4) = true := by kernel_rfl
theorem og : (Rows.codeShapesRow.recurses == Tryz.pinned.checked.prog.recurses 4) = true := by kernel_rfl
theorem oh : (Rows.codeShapesRow.named == Tryz.pinned.checked.prog.varsNamed 4) = true := by kernel_rfl
theorem oi : laidOutB Tryz.pinned.checked.prog = true := by kernel_rfl
theorem ob : joinedFacts Tryz.pinned.checked.prog 4 Tryz.f4 Rows.codeShapesSpec Rows.codeShapesRow = true := by
  unfold joinedFacts
  rw [oe, of_, og, oh, oi]
  kernel_rfl
theorem oc : Func.isInstance Tryz.pinned.checked.prog Tryz.f4 Rows.codeShapesRow.origin Rows.codeShapesRow.targs := of_decide_eq_true (by kernel_rfl)
theorem od : Func.isWrapper Tryz.pinned.checked.prog Tryz.f4 Rows.codeShapesRow.wrapper Rows.codeShapesRow.mainSum := by unfold Func.isWrapper; first | (rw [if_pos (by decide +kernel)]; kernel_rfl) | (rw [if_neg (by decide +kernel)]; exact ⟨rfl, rfl⟩)
theorem over : Rows.codeShapesRow.holds Tryz.pinned (OpenSpec.ofChange Rows.codeShapesSpec) :=
  OpenClaim.holds_of_wide 4 Tryz.f4 rfl rfl rfl rfl rfl rfl rfl ⟨rfl, rfl, rfl, rfl, rfl⟩ rfl rfl rfl rfl rfl oa Tryz.func4 ob oc od
    (fun os started H enc _ => lifted os started H enc)
theorem ca : OpenClaim.wfByText (OpenSpec.ofChange Rows.codeShapesSpec) Rows.codeShapesRow = true := by kernel_rfl
theorem cb : Tryz.pinned.checked.prog.mainIs = some ((true, "07ab01c6022e79c605bbbbfc673a1d9bf8f4cbcf3c7ad1fa32a45002ee91ad9b").fst, (true, "07ab01c6022e79c605bbbbfc673a1d9bf8f4cbcf3c7ad1fa32a45002ee91ad9b").snd.toList) := by kernel_rfl
theorem cc : false = Rows.codeShapesRow.goesBy Tryz.pinned.checked.prog := by kernel_rfl
theorem cd : Tryz.prog.funcNamed "foundry/foundrylaw14.CodeShapes" = some 4 := by kernel_rfl
theorem ce : false = Tryz.pinned.checked.prog.looks [] := by kernel_rfl
theorem cf : ([27, 30, 3].all fun u => !Tryz.prog.wantsStandIn u) = true := by kernel_rfl
theorem card_holds : Rows.CodeShapesCardSaid :=
  Claim7.holds_tied_plain_at .later [] [.data, .data, .data] true (true, "07ab01c6022e79c605bbbbfc673a1d9bf8f4cbcf3c7ad1fa32a45002ee91ad9b") false over (fun _ h => by cases h) ca (fun _ h => by cases h) codeShapes_row_tie rfl ⟨rfl, rfl⟩ cb rfl
    (fun f fn hf hfn => by
      obtain rfl : f = 4 := Option.some.inj (cd.symm.trans hf) |>.symm
      obtain rfl : fn = Tryz.f4 := (Option.some.inj (Tryz.func4.symm.trans hfn)).symm
      exact ⟨ce, fun j t ht => by
        rw [Tryz.params4] at ht
        have hm : t ∈ [27, 30, 3] := by simpa using Array.mem_of_getElem? ht
        have hall := cf
        exact (show Tryz.prog.wantsStandIn t = false by simpa using List.all_eq_true.1 hall t hm)⟩)
    cc
end Go.Proofs.YtnmcehpdiopaiaaGreatDoor.codeShapes
namespace Go.Proofs.YtnmcehpdiopaiaaGreatDoor
theorem codeShapes_holds : Rows.CodeShapesCardSaid := codeShapes.card_holds
#print axioms codeShapes_holds
end Go.Proofs.YtnmcehpdiopaiaaGreatDoor
