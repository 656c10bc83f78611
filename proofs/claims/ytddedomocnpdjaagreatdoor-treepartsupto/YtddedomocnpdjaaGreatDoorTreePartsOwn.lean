/- TreeParts returns true for every input where what it reads is of bulk at most 1048576, in whatever memory; each argument reads afterwards as it did; the listed tables of the library are tied to the program text. -/
import Derived.Test.YtddedomocnpdjaaGreatDoorRows
import Derived.Test.YtddedomocnpdjaaGreatDoorTie
import Derived.Test.YtddedomocnpdjaaGreatDoorCards
import Derived.Test.YtddedomocnpdjaaGreatDoorTrPx
import Derived.WalkKit
import Derived.ProofKit
import Derived.OpenShut
import Derived.Handy
import Derived.ChangeMaps5
import Derived.WideKeyArgs
import Derived.SizedLaws
import Derived.LaidSub
import Derived.Lib.LaidTab
import Derived.Lay
import Derived.SevenTiedAt
import Derived.Deep.DeepHandedRow
namespace Go.Proofs.YtddedomocnpdjaaGreatDoor.treeParts
open Go.ChangeShapes Go.WideShapes Go.ChangeAt Go.RowKit Go.ChangeMaps
set_option linter.unusedVariables false
set_option linter.unusedSimpArgs false

theorem own : ownKnob Tryz.prog.godebug = none := by kernel_rfl
theorem laidOut : laidOutB Tryz.prog = true := by kernel_rfl
theorem readable25 : Tryz.prog.readableRec 25 = true := by kernel_rfl
theorem known25 : 25 < Tryz.prog.types.size := of_decide_eq_true (by kernel_rfl)
theorem readable30 : Tryz.prog.readableRec 30 = true := by kernel_rfl
theorem known30 : 30 < Tryz.prog.types.size := of_decide_eq_true (by kernel_rfl)
theorem same {W W' : World} (hf : Fr (fun _ => False) W W') {p : MemPlace} (hp : p.block < W.heap.size) : W.sameAt W' p := by
  cases p with
  | cell b off => exact World.cell?_of_block (a := ⟨b, off, none⟩) (hf.block b hp (fun f => f))
  | map b => exact hf.block b hp (fun f => f)

set_option maxRecDepth 100000 in
theorem lifted (os : Os) (started : os.Started) (H : Type) (enc : TypeId × Value → H) (F0 : Stop.Interp) :
    ReturnsInHanded {} Tryz.checked os 3 .any ((Rows.OpenSpec.upto Rows.treePartsSpec).preRow enc Tryz.prog Tryz.f3 Rows.treePartsUptoRow.domain false Rows.treePartsUptoRow.laid) (((Rows.OpenSpec.upto Rows.treePartsSpec).at F0).post enc Tryz.prog Tryz.f3 false true false false) := by
  have hx : DataW.whole enc Tryz.prog ((World.laidAll Tryz.prog os Rows.treePartsUptoRow.laid).forCall (fun _ _ => 0) ⟨#[], #[.agg #[.string ⟨#[]⟩, .slice none 0 0, .slice none 0 0], .agg #[.int .i64 0, .bool false, .string ⟨#[]⟩, .int .i64 0, .slice none 0 0, .slice none 0 0, .slice none 0 0]], []⟩).memory Tryz.f3.params.toList Rows.treePartsSpec.vars false #[.agg #[.string ⟨#[]⟩, .slice none 0 0, .slice none 0 0], .agg #[.int .i64 0, .bool false, .string ⟨#[]⟩, .int .i64 0, .slice none 0 0, .slice none 0 0, .slice none 0 0]].toList 8 = some ([.agg [.lit (.string []), .nil, .nil], .agg [.lit (.int .i64 0), .lit (.bool false), .lit (.string []), .lit (.int .i64 0), .nil, .nil, .nil]], [], []) := by kernel_rfl
  refine returnsInHanded_of_row (C := Tryz.checked) (s := (Rows.OpenSpec.upto Rows.treePartsSpec)) own started (by kernel_rfl) Tryz.func3
    (witness_row_at (enc := enc) (C := Tryz.checked) false (World.laidAll Tryz.prog os Rows.treePartsUptoRow.laid) #[.agg #[.string ⟨#[]⟩, .slice none 0 0, .slice none 0 0], .agg #[.int .i64 0, .bool false, .string ⟨#[]⟩, .int .i64 0, .slice none 0 0, .slice none 0 0, .slice none 0 0]] (World.laidAll_os _ _ _) (by kernel_rfl) (by kernel_rfl) (by kernel_rfl)
      (OpenSpec.preRow_of_cond 8 hx (by kernel_rfl) (fun k hk => by cases hk; kernel_rfl) (by kernel_rfl) (laidMet_laidAll _ (by kernel_rfl) (by kernel_rfl)))) ?_
  intro W base args ds gs before hval0 hW _ hcond _ hL _ _
  have hbulk : Rows.uptoBulkAll (ds ++ gs) ≤ 1048576 := of_decide_eq_true (hcond _ rfl)
  clear hcond
  have hval : ∀ (j : Nat) t v, Tryz.f3.params[j]? = some t → args[j]? = some v → Value.okWide Tryz.prog W .any base t v := hval0
  have hW' := hW
  obtain ⟨p, q, hA0, hV, rfl, hfz, hnd⟩ := hW
  have hA : DataW.TrodAll enc Tryz.prog W 0 (fun _ => true) true Tryz.f3.params.toList args.toList ds p := hA0
  rw [Tryz.params3] at hA hval
  obtain ⟨v0, vs0, d0, ds0, p0, q0, hargs, rfl, rfl, h0, r0⟩ := trodAll_cons hA
  obtain ⟨v1, vs1, d1, ds1, p1, q1, rfl, rfl, rfl, h1, r1⟩ := trodAll_cons r0
  obtain ⟨rfl, rfl, rfl⟩ := trodAll_nil r1
  obtain rfl : args = #[v0, v1] := by cases args; simp_all
  obtain ⟨rfl, rfl⟩ := trodVars_none hV
  clear hA0 hval0
  simp only [List.append_nil] at hW'
  have hlt0 : ∀ x ∈ p0, x.block < W.heap.size := fun x hx => by simpa using hW'.lt x (by simp [hx])
  have back0 : ∀ W', Fr (fun _ => False) W W' → DataW.Trod enc Tryz.prog W' 0 (fun b => decide (b < W.heap.size)) true 25 v0 d0 p0 := fun W' hf => Go.WideElems.Trod_stays laidOut readable25 known25 h0 (fun x hx => same hf (hlt0 x hx)) (fun x hx => by simpa using hlt0 x hx)
  obtain ⟨fuel0, hf0⟩ := h0
  obtain ⟨m0, hm0, om0, hb0⟩ := In.mo_arg hf0
  have hlt1 : ∀ x ∈ p1, x.block < W.heap.size := fun x hx => by simpa using hW'.lt x (by simp [hx])
  have back1 : ∀ W', Fr (fun _ => False) W W' → DataW.Trod enc Tryz.prog W' 0 (fun b => decide (b < W.heap.size)) true 30 v1 d1 p1 := fun W' hf => Go.WideElems.Trod_stays laidOut readable30 known30 h1 (fun x hx => same hf (hlt1 x hx)) (fun x hx => by simpa using hlt1 x hx)
  obtain ⟨fuel1, hf1⟩ := h1
  obtain ⟨dd1, hm1, od1, hb1⟩ := In.de_arg hf1
  have hn0 : ∀ ao cap cap', v0 = moV m0 ao cap none cap' → cap' = 0 := fun ao cap cap' e => by rw [e] at hf0; exact In.mo_nil hf0
  have hl0 : m0.name.length + (m0.imports.map fun p => p.length + 1).sum + (m0.decls.map In.bkD).sum + 1 ≤ 1048576 := by
    simp only [List.append_nil, List.cons_append, List.nil_append, Rows.uptoBulkAll, In.bulk] at hbulk hb0
    omega
  have hl1 : In.bkD dd1 ≤ 1048577 := by
    simp only [List.append_nil, List.cons_append, List.nil_append, Rows.uptoBulkAll, In.bulk] at hbulk hb1
    omega
  have ht : F.Tab W := by
    have hL2 : laidMet Tryz.prog Rows.treePartsUptoRow.laid W := by rw [MakeChecks.laidMetH_plain _ _ _ (by kernel_rfl)] at hL; exact hL
    have hL3 := hL2.filter (fun x => x.1 == "internal/strconv.uint64pow10")
    have e : Rows.treePartsUptoRow.laid.filter (fun x => x.1 == "internal/strconv.uint64pow10") = [("internal/strconv.uint64pow10", Lib.tabData .u64 Lib.pow10Tab)] := by kernel_rfl
    rw [e] at hL3
    exact Lib.tabIs_of_head (g := 2) (t := 200) (e := 39) (n := 20) (by kernel_rfl) (by kernel_rfl) Tryz.underlying200 Tryz.underlying39 (by kernel_rfl) (by kernel_rfl) hL3
  have hwalk := walk _ m0 _ dd1 W hm0 om0 hl0 hn0 hm1 od1 hl1 ht
  refine hwalk.mono fun e W' ⟨he, hg⟩ => ?_
  subst he
  exact ⟨_, rfl, _, _, _, [], p0 ++ (p1 ++ ([])), [], hW', (trodAll_cons_mk (shut_bool Tryz.underlying4 _) trodAll_mk0), (trodAll_cons_mk (back0 _ hg) (trodAll_cons_mk (back1 _ hg) trodAll_mk0)), rfl, World.keptBut_mono (fun _ f => f.elim) hg.kept, fun h => by cases h⟩

theorem oa : Tryz.pinned.checked.prog.funcNamed Rows.treePartsUptoRow.func = some 3 := by kernel_rfl
theorem oe : (Rows.treePartsUptoRow.inPlace == Tryz.pinned.checked.prog.inPlace 3) = true := by kernel_rfl
theorem of_ : (Rows.treePartsUptoRow.unfollowed == Tryz.pinned.checked.prog.unfollowed 3) = true := by kernel_rfl
theorem og : (Rows.treePartsUptoRow.recurses == Tryz.pinned.checked.prog.recurses 3) = true := by kernel_rfl
theorem oh : (Rows.treePartsUptoRow.named == Tryz.pinned.checked.prog.varsNamed 3) = true := by kernel_rfl
theorem oi : laidOutB Tryz.pinned.checked.prog = true := by kernel_rfl
theorem ob : joinedFacts Tryz.pinned.checked.prog 3 Tryz.f3 Rows.treePartsSpec Rows.treePartsUptoRow = true := by
  unfold joinedFacts
  rw [oe, of_, og, oh, oi]
  kernel_rfl
theorem oc : Func.isInstance Tryz.pinned.checked.prog Tryz.f3 Rows.treePartsUptoRow.origin Rows.treePartsUptoRow.targs := of_decide_eq_true (by kernel_rfl)
theorem od : Func.isWrapper Tryz.pinned.checked.prog Tryz.f3 Rows.treePartsUptoRow.wrapper Rows.treePartsUptoRow.mainSum := by unfold Func.isWrapper; first | (rw [if_pos (by decide +kernel)]; kernel_rfl) | (rw [if_neg (by decide +kernel)]; exact ⟨rfl, rfl⟩)
theorem over : Rows.treePartsUptoRow.holds Tryz.pinned (Rows.OpenSpec.upto Rows.treePartsSpec) :=
  OpenClaim.holds_of_cond 3 Tryz.f3 rfl rfl rfl rfl rfl rfl rfl ⟨rfl, rfl, rfl, rfl, rfl⟩ rfl rfl rfl rfl rfl oa Tryz.func3 ob oc od
    (fun os started H enc _ F0 => by rw [OpenClaim.pre_eq_preRow]; exact lifted os started H enc F0)
theorem ca : OpenClaim.wfByText (Rows.OpenSpec.upto Rows.treePartsSpec) Rows.treePartsUptoRow = true := by kernel_rfl
theorem cb : Tryz.pinned.checked.prog.mainIs = some ((true, "f4937686f306cf73e1cb47026653c175f31168d03d8481f9187b829a6e512df6").fst, (true, "f4937686f306cf73e1cb47026653c175f31168d03d8481f9187b829a6e512df6").snd.toList) := by kernel_rfl
theorem cc : false = Rows.treePartsUptoRow.goesBy Tryz.pinned.checked.prog := by kernel_rfl
theorem cd : Tryz.prog.funcNamed "foundry/foundrylaw06.TreeParts" = some 3 := by kernel_rfl
theorem ce : true = Tryz.pinned.checked.prog.looks [] := by kernel_rfl
theorem cf : ([25, 30].all fun u => !Tryz.prog.wantsStandIn u) = true := by kernel_rfl
theorem card_holds : Rows.TreePartsUptoCardSaid :=
  Claim7.holds_tied_plain_at .later [] [.data, .data, .data] true (true, "f4937686f306cf73e1cb47026653c175f31168d03d8481f9187b829a6e512df6") true over (fun _ h => by cases h) ca (fun _ h => by cases h) treePartsUpto_row_tie rfl ⟨rfl, rfl⟩ cb rfl
    (fun f fn hf hfn => by
      obtain rfl : f = 3 := Option.some.inj (cd.symm.trans hf) |>.symm
      obtain rfl : fn = Tryz.f3 := (Option.some.inj (Tryz.func3.symm.trans hfn)).symm
      exact ⟨ce, fun j t ht => by
        rw [Tryz.params3] at ht
        have hm : t ∈ [25, 30] := by simpa using Array.mem_of_getElem? ht
        have hall := cf
        exact (show Tryz.prog.wantsStandIn t = false by simpa using List.all_eq_true.1 hall t hm)⟩)
    cc
end Go.Proofs.YtddedomocnpdjaaGreatDoor.treeParts
namespace Go.Proofs.YtddedomocnpdjaaGreatDoor
theorem treeParts_holds : Rows.TreePartsUptoCardSaid := treeParts.card_holds
#print axioms treeParts_holds
end Go.Proofs.YtddedomocnpdjaaGreatDoor
