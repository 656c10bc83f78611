/- TypesItems returns true for every input where what it reads is of bulk at most 1048576, in whatever memory; each argument reads afterwards as it did; the listed tables of the library are tied to the program text. -/
import Derived.Test.YtddkmefpfhdliaaDoorRows
import Derived.Test.YtddkmefpfhdliaaDoorTie
import Derived.Test.YtddkmefpfhdliaaDoorCards
import Derived.Test.YtddkmefpfhdliaaDoorTyV4
import Derived.Test.YtddkmefpfhdliaaDoorTyIn
import Derived.WalkKit
import Derived.ProofKit
import Derived.OpenShut
import Derived.Handy
import Derived.ChangeMaps5
import Derived.WideKeyArgs
import Derived.SizedLaws
import Derived.LaidSub
import Derived.Lib.LaidTab
import Derived.Lay
import Derived.SevenTiedAt
import Derived.Deep.DeepHandedRow
namespace Go.Proofs.YtddkmefpfhdliaaDoor.typesItems
open Go.ChangeShapes Go.WideShapes Go.ChangeAt Go.RowKit Go.ChangeMaps
set_option linter.unusedVariables false
set_option linter.unusedSimpArgs false

theorem own : ownKnob Tryd.prog.godebug = none := by kernel_rfl
theorem laidOut : laidOutB Tryd.prog = true := by kernel_rfl
theorem readable40 : Tryd.prog.readableRec 40 = true := by kernel_rfl
theorem known40 : 40 < Tryd.prog.types.size := of_decide_eq_true (by kernel_rfl)
theorem same {W W' : World} (hf : Fr (fun _ => False) W W') {p : MemPlace} (hp : p.block < W.heap.size) : W.sameAt W' p := by
  cases p with
  | cell b off => exact World.cell?_of_block (a := ⟨b, off, none⟩) (hf.block b hp (fun f => f))
  | map b => exact hf.block b hp (fun f => f)

set_option maxRecDepth 100000 in
theorem lifted (os : Os) (started : os.Started) (H : Type) (enc : TypeId × Value → H) (F0 : Stop.Interp) :
    ReturnsInHanded {} Tryd.checked os 5 .any ((Rows.OpenSpec.upto Rows.typesItemsSpec).preRow enc Tryd.prog Tryd.f5 Rows.typesItemsUptoRow.domain false Rows.typesItemsUptoRow.laid) (((Rows.OpenSpec.upto Rows.typesItemsSpec).at F0).post enc Tryd.prog Tryd.f5 false true false false) := by
  have hx : DataW.whole enc Tryd.prog ((World.laidAll Tryd.prog os Rows.typesItemsUptoRow.laid).forCall (fun _ _ => 0) ⟨#[], #[.agg #[.int .i64 0, .string ⟨#[]⟩, .int .i64 0, .int .u64 0, .slice none 0 0], .agg #[.int .i64 0, .string ⟨#[]⟩, .int .i64 0, .int .u64 0, .slice none 0 0]], []⟩).memory Tryd.f5.params.toList Rows.typesItemsSpec.vars false #[.agg #[.int .i64 0, .string ⟨#[]⟩, .int .i64 0, .int .u64 0, .slice none 0 0], .agg #[.int .i64 0, .string ⟨#[]⟩, .int .i64 0, .int .u64 0, .slice none 0 0]].toList 8 = some ([.agg [.lit (.int .i64 0), .lit (.string []), .lit (.int .i64 0), .lit (.int .u64 0), .nil], .agg [.lit (.int .i64 0), .lit (.string []), .lit (.int .i64 0), .lit (.int .u64 0), .nil]], [], []) := by kernel_rfl
  refine returnsInHanded_of_row (C := Tryd.checked) (s := (Rows.OpenSpec.upto Rows.typesItemsSpec)) own started (by kernel_rfl) Tryd.func5
    (witness_row_at (enc := enc) (C := Tryd.checked) false (World.laidAll Tryd.prog os Rows.typesItemsUptoRow.laid) #[.agg #[.int .i64 0, .string ⟨#[]⟩, .int .i64 0, .int .u64 0, .slice none 0 0], .agg #[.int .i64 0, .string ⟨#[]⟩, .int .i64 0, .int .u64 0, .slice none 0 0]] (World.laidAll_os _ _ _) (by kernel_rfl) (by kernel_rfl) (by kernel_rfl)
      (OpenSpec.preRow_of_cond 8 hx (by kernel_rfl) (fun k hk => by cases hk; kernel_rfl) (by kernel_rfl) (laidMet_laidAll _ (by kernel_rfl) (by kernel_rfl)))) ?_
  intro W base args ds gs before hval0 hW _ hcond _ hL _ _
  have hbulk : Rows.uptoBulkAll (ds ++ gs) ≤ 1048576 := of_decide_eq_true (hcond _ rfl)
  clear hcond
  have hval : ∀ (j : Nat) t v, Tryd.f5.params[j]? = some t → args[j]? = some v → Value.okWide Tryd.prog W .any base t v := hval0
  have hW' := hW
  obtain ⟨p, q, hA0, hV, rfl, hfz, hnd⟩ := hW
  have hA : DataW.TrodAll enc Tryd.prog W 0 (fun _ => true) true Tryd.f5.params.toList args.toList ds p := hA0
  rw [Tryd.params5] at hA hval
  obtain ⟨v0, vs0, d0, ds0, p0, q0, hargs, rfl, rfl, h0, r0⟩ := trodAll_cons hA
  obtain ⟨v1, vs1, d1, ds1, p1, q1, rfl, rfl, rfl, h1, r1⟩ := trodAll_cons r0
  obtain ⟨rfl, rfl, rfl⟩ := trodAll_nil r1
  obtain rfl : args = #[v0, v1] := by cases args; simp_all
  obtain ⟨rfl, rfl⟩ := trodVars_none hV
  clear hA0 hval0
  simp only [List.append_nil] at hW'
  have hlt0 : ∀ x ∈ p0, x.block < W.heap.size := fun x hx => by simpa using hW'.lt x (by simp [hx])
  have back0 : ∀ W', Fr (fun _ => False) W W' → DataW.Trod enc Tryd.prog W' 0 (fun b => decide (b < W.heap.size)) true 40 v0 d0 p0 := fun W' hf => Go.WideElems.Trod_stays laidOut readable40 known40 h0 (fun x hx => same hf (hlt0 x hx)) (fun x hx => by simpa using hlt0 x hx)
  obtain ⟨fuel0, hf0⟩ := h0
  obtain ⟨it0, hm0, ok0, hb0⟩ := Ty.item_arg hf0
  have hlt1 : ∀ x ∈ p1, x.block < W.heap.size := fun x hx => by simpa using hW'.lt x (by simp [hx])
  have back1 : ∀ W', Fr (fun _ => False) W W' → DataW.Trod enc Tryd.prog W' 0 (fun b => decide (b < W.heap.size)) true 40 v1 d1 p1 := fun W' hf => Go.WideElems.Trod_stays laidOut readable40 known40 h1 (fun x hx => same hf (hlt1 x hx)) (fun x hx => by simpa using hlt1 x hx)
  obtain ⟨fuel1, hf1⟩ := h1
  obtain ⟨it1, hm1, ok1, hb1⟩ := Ty.item_arg hf1
  have hl0 : Ty.bkI it0 ≤ 1048576 := by
    simp only [List.append_nil, List.cons_append, List.nil_append, Rows.uptoBulkAll, Ty.bulk] at hbulk hb0
    omega
  have hl1 : Ty.bkI it1 ≤ 1048576 := by
    simp only [List.append_nil, List.cons_append, List.nil_append, Rows.uptoBulkAll, Ty.bulk] at hbulk hb1
    omega
  have ht : F.Tab W := by
    have hL2 : laidMet Tryd.prog Rows.typesItemsUptoRow.laid W := by rw [MakeChecks.laidMetH_plain _ _ _ (by kernel_rfl)] at hL; exact hL
    have hL3 := hL2.filter (fun x => x.1 == "internal/strconv.uint64pow10")
    have e : Rows.typesItemsUptoRow.laid.filter (fun x => x.1 == "internal/strconv.uint64pow10") = [("internal/strconv.uint64pow10", Lib.tabData .u64 Lib.pow10Tab)] := by kernel_rfl
    rw [e] at hL3
    exact Lib.tabIs_of_head (g := 1) (t := 99) (e := 22) (n := 20) (by kernel_rfl) (by kernel_rfl) Tryd.underlying99 Tryd.underlying22 (by kernel_rfl) (by kernel_rfl) hL3
  have hwalk := walk _ it0 _ it1 W hm0 ok0 hl0 hm1 ok1 hl1 ht
  refine hwalk.mono fun e W' ⟨he, hg⟩ => ?_
  subst he
  exact ⟨_, rfl, _, _, _, [], p0 ++ (p1 ++ ([])), [], hW', (trodAll_cons_mk (shut_bool Tryd.underlying4 _) trodAll_mk0), (trodAll_cons_mk (back0 _ hg) (trodAll_cons_mk (back1 _ hg) trodAll_mk0)), rfl, World.keptBut_mono (fun _ f => f.elim) hg.kept, fun h => by cases h⟩

theorem oa : Tryd.pinned.checked.prog.funcNamed Rows.typesItemsUptoRow.func = some 5 := by kernel_rfl
theorem oe : (Rows.typesItemsUptoRow.inPlace == Tryd.pinned.checked.prog.inPlace 5) = true := by kernel_rfl
theorem of_ : (Rows.typesItemsUptoRow.unfollowed == Tryd.pinned.checked.prog.unfollowed 5) = true := by kernel_rfl
theorem og : (Rows.typesItemsUptoRow.recurses == Tryd.pinned.checked.prog.recurses 5) = true := by kernel_rfl
theorem oh : (Rows.typesItemsUptoRow.named == Tryd.pinned.checked.prog.varsNamed 5) = true := by kernel_rfl
theorem oi : laidOutB Tryd.pinned.checked.prog = true := by kernel_rfl
theorem ob : joinedFacts Tryd.pinned.checked.prog 5 Tryd.f5 Rows.typesItemsSpec Rows.typesItemsUptoRow = true := by
  unfold joinedFacts
  rw [oe, of_, og, oh, oi]
  kernel_rfl
theorem oc : Func.isInstance Tryd.pinned.checked.prog Tryd.f5 Rows.typesItemsUptoRow.origin Rows.typesItemsUptoRow.targs := of_decide_eq_true (by kernel_rfl)
theorem od : Func.isWrapper Tryd.pinned.checked.prog Tryd.f5 Rows.typesItemsUptoRow.wrapper Rows.typesItemsUptoRow.mainSum := by unfold Func.isWrapper; first | (rw [if_pos (by decide +kernel)]; kernel_rfl) | (rw [if_neg (by decide +kernel)]; exact ⟨rfl, rfl⟩)
theorem over : Rows.typesItemsUptoRow.holds Tryd.pinned (Rows.OpenSpec.upto Rows.typesItemsSpec) :=
  OpenClaim.holds_of_cond 5 Tryd.f5 rfl rfl rfl rfl rfl rfl rfl ⟨rfl, rfl, rfl, rfl, rfl⟩ rfl rfl rfl rfl rfl oa Tryd.func5 ob oc od
    (fun os started H enc _ F0 => by rw [OpenClaim.pre_eq_preRow]; exact lifted os started H enc F0)
theorem ca : OpenClaim.wfByText (Rows.OpenSpec.upto Rows.typesItemsSpec) Rows.typesItemsUptoRow = true := by kernel_rfl
theorem cb : Tryd.pinned.checked.prog.mainIs = some ((true, "a63a4d7b60dc1ac3ab436d108f20ea16d2e71ec61920f5ca424192880c97044f").fst, (true, "a63a4d7b60dc1ac3ab436d108f20ea16d2e71ec61920f5ca424192880c97044f").snd.toList) := by kernel_rfl
theorem cc : false = Rows.typesItemsUptoRow.goesBy Tryd.pinned.checked.prog := by kernel_rfl
theorem cd : Tryd.prog.funcNamed "foundry/foundrylaw08.TypesItems" = some 5 := by kernel_rfl
theorem ce : false = Tryd.pinned.checked.prog.looks [] := by kernel_rfl
theorem cf : ([40, 40].all fun u => !Tryd.prog.wantsStandIn u) = true := by kernel_rfl
theorem card_holds : Rows.TypesItemsUptoCardSaid :=
  Claim7.holds_tied_plain_at .later [] [.data, .data, .data] true (true, "a63a4d7b60dc1ac3ab436d108f20ea16d2e71ec61920f5ca424192880c97044f") false over (fun _ h => by cases h) ca (fun _ h => by cases h) typesItemsUpto_row_tie rfl ⟨rfl, rfl⟩ cb rfl
    (fun f fn hf hfn => by
      obtain rfl : f = 5 := Option.some.inj (cd.symm.trans hf) |>.symm
      obtain rfl : fn = Tryd.f5 := (Option.some.inj (Tryd.func5.symm.trans hfn)).symm
      exact ⟨ce, fun j t ht => by
        rw [Tryd.params5] at ht
        have hm : t ∈ [40, 40] := by simpa using Array.mem_of_getElem? ht
        have hall := cf
        exact (show Tryd.prog.wantsStandIn t = false by simpa using List.all_eq_true.1 hall t hm)⟩)
    cc
end Go.Proofs.YtddkmefpfhdliaaDoor.typesItems
namespace Go.Proofs.YtddkmefpfhdliaaDoor
theorem typesItems_holds : Rows.TypesItemsUptoCardSaid := typesItems.card_holds
#print axioms typesItems_holds
end Go.Proofs.YtddkmefpfhdliaaDoor
