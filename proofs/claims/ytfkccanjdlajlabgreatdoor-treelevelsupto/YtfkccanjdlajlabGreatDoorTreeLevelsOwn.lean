/- TreeLevels returns true for every input where what it reads is of bulk at most 1048576, in whatever memory; each argument reads afterwards as it did; the listed tables of the library are tied to the program text. -/
import Derived.Test.YtfkccanjdlajlabGreatDoorRows
import Derived.Test.YtfkccanjdlajlabGreatDoorTie
import Derived.Test.YtfkccanjdlajlabGreatDoorCards
import Derived.Test.YtfkccanjdlajlabGreatDoorTrZ
import Derived.WalkKit
import Derived.ProofKit
import Derived.OpenShut
import Derived.Handy
import Derived.ChangeMaps5
import Derived.WideKeyArgs
import Derived.SizedLaws
import Derived.LaidSub
import Derived.Lib.LaidTab
import Derived.Lay
import Derived.SevenTiedAt
import Derived.Deep.DeepHandedRow
namespace Go.Proofs.YtfkccanjdlajlabGreatDoor.treeLevels
open Go.ChangeShapes Go.WideShapes Go.ChangeAt Go.RowKit Go.ChangeMaps
set_option linter.unusedVariables false
set_option linter.unusedSimpArgs false

theorem own : ownKnob Tryz.prog.godebug = none := by kernel_rfl
theorem laidOut : laidOutB Tryz.prog = true := by kernel_rfl
theorem readable44 : Tryz.prog.readableRec 44 = true := by kernel_rfl
theorem known44 : 44 < Tryz.prog.types.size := of_decide_eq_true (by kernel_rfl)
theorem same {W W' : World} (hf : Fr (fun _ => False) W W') {p : MemPlace} (hp : p.block < W.heap.size) : W.sameAt W' p := by
  cases p with
  | cell b off => exact World.cell?_of_block (a := ⟨b, off, none⟩) (hf.block b hp (fun f => f))
  | map b => exact hf.block b hp (fun f => f)

set_option maxRecDepth 100000 in
theorem lifted (os : Os) (started : os.Started) (H : Type) (enc : TypeId × Value → H) (F0 : Stop.Interp) :
    ReturnsInHanded {} Tryz.checked os 6 .any ((Rows.OpenSpec.upto Rows.treeLevelsSpec).preRow enc Tryz.prog Tryz.f6 Rows.treeLevelsUptoRow.domain false Rows.treeLevelsUptoRow.laid) (((Rows.OpenSpec.upto Rows.treeLevelsSpec).at F0).post enc Tryz.prog Tryz.f6 false true false false) := by
  have hx : DataW.whole enc Tryz.prog ((World.laidAll Tryz.prog os Rows.treeLevelsUptoRow.laid).forCall (fun _ _ => 0) ⟨#[], #[.agg #[.int .i64 0, .int .i64 0, .string ⟨#[]⟩, .string ⟨#[]⟩, .int .i64 0, .int .u64 0, .slice none 0 0], .agg #[.int .i64 0, .int .i64 0, .string ⟨#[]⟩, .string ⟨#[]⟩, .int .i64 0, .int .u64 0, .slice none 0 0], .int .i64 0], []⟩).memory Tryz.f6.params.toList Rows.treeLevelsSpec.vars false #[.agg #[.int .i64 0, .int .i64 0, .string ⟨#[]⟩, .string ⟨#[]⟩, .int .i64 0, .int .u64 0, .slice none 0 0], .agg #[.int .i64 0, .int .i64 0, .string ⟨#[]⟩, .string ⟨#[]⟩, .int .i64 0, .int .u64 0, .slice none 0 0], .int .i64 0].toList 8 = some ([.agg [.lit (.int .i64 0), .lit (.int .i64 0), .lit (.string []), .lit (.string []), .agg [.lit (.int .i64 0), .lit (.int .u64 0)], .nil], .agg [.lit (.int .i64 0), .lit (.int .i64 0), .lit (.string []), .lit (.string []), .agg [.lit (.int .i64 0), .lit (.int .u64 0)], .nil], .lit (.int .i64 0)], [], []) := by kernel_rfl
  refine returnsInHanded_of_row (C := Tryz.checked) (s := (Rows.OpenSpec.upto Rows.treeLevelsSpec)) own started (by kernel_rfl) Tryz.func6
    (witness_row_at (enc := enc) (C := Tryz.checked) false (World.laidAll Tryz.prog os Rows.treeLevelsUptoRow.laid) #[.agg #[.int .i64 0, .int .i64 0, .string ⟨#[]⟩, .string ⟨#[]⟩, .int .i64 0, .int .u64 0, .slice none 0 0], .agg #[.int .i64 0, .int .i64 0, .string ⟨#[]⟩, .string ⟨#[]⟩, .int .i64 0, .int .u64 0, .slice none 0 0], .int .i64 0] (World.laidAll_os _ _ _) (by kernel_rfl) (by kernel_rfl) (by kernel_rfl)
      (OpenSpec.preRow_of_cond 8 hx (by kernel_rfl) (fun k hk => by cases hk; kernel_rfl) (by kernel_rfl) (laidMet_laidAll _ (by kernel_rfl) (by kernel_rfl)))) ?_
  intro W base args ds gs before hval0 hW _ hcond _ hL _ _
  have hbulk : Rows.uptoBulkAll (ds ++ gs) ≤ 1048576 := of_decide_eq_true (hcond _ rfl)
  clear hcond
  have hval : ∀ (j : Nat) t v, Tryz.f6.params[j]? = some t → args[j]? = some v → Value.okWide Tryz.prog W .any base t v := hval0
  have hW' := hW
  obtain ⟨p, q, hA0, hV, rfl, hfz, hnd⟩ := hW
  have hA : DataW.TrodAll enc Tryz.prog W 0 (fun _ => true) true Tryz.f6.params.toList args.toList ds p := hA0
  rw [Tryz.params6] at hA hval
  obtain ⟨v0, vs0, d0, ds0, p0, q0, hargs, rfl, rfl, h0, r0⟩ := trodAll_cons hA
  obtain ⟨v1, vs1, d1, ds1, p1, q1, rfl, rfl, rfl, h1, r1⟩ := trodAll_cons r0
  obtain ⟨v2, vs2, d2, ds2, p2, q2, rfl, rfl, rfl, h2, r2⟩ := trodAll_cons r1
  obtain ⟨rfl, rfl, rfl⟩ := trodAll_nil r2
  obtain rfl : args = #[v0, v1, v2] := by cases args; simp_all
  obtain ⟨rfl, rfl⟩ := trodVars_none hV
  obtain ⟨a2, rfl, rfl, rfl, w2⟩ := open_int Tryz.underlying3 (hval 2 3 v2 rfl rfl) h2
  clear hA0 hval0
  simp only [List.append_nil] at hW'
  have hlt0 : ∀ x ∈ p0, x.block < W.heap.size := fun x hx => by simpa using hW'.lt x (by simp [hx])
  have back0 : ∀ W', Fr (fun _ => False) W W' → DataW.Trod enc Tryz.prog W' 0 (fun b => decide (b < W.heap.size)) true 44 v0 d0 p0 := fun W' hf => Go.WideElems.Trod_stays laidOut readable44 known44 h0 (fun x hx => same hf (hlt0 x hx)) (fun x hx => by simpa using hlt0 x hx)
  obtain ⟨fuel0, hf0⟩ := h0
  obtain ⟨h0x, k0, hm0, oh0, ok0, hb0⟩ := In.ex_arg hf0
  have hlt1 : ∀ x ∈ p1, x.block < W.heap.size := fun x hx => by simpa using hW'.lt x (by simp [hx])
  have back1 : ∀ W', Fr (fun _ => False) W W' → DataW.Trod enc Tryz.prog W' 0 (fun b => decide (b < W.heap.size)) true 44 v1 d1 p1 := fun W' hf => Go.WideElems.Trod_stays laidOut readable44 known44 h1 (fun x hx => same hf (hlt1 x hx)) (fun x hx => by simpa using hlt1 x hx)
  obtain ⟨fuel1, hf1⟩ := h1
  obtain ⟨h1x, k1, hm1, oh1, ok1, hb1⟩ := In.ex_arg hf1
  have hl0 : h0x.mod.length + h0x.name.length + In.bkX k0 ≤ 1048576 := by
    simp only [List.append_nil, List.cons_append, List.nil_append, Rows.uptoBulkAll, In.bulk] at hbulk hb0
    omega
  have hl1 : h1x.mod.length + h1x.name.length + In.bkX k1 ≤ 1048576 := by
    simp only [List.append_nil, List.cons_append, List.nil_append, Rows.uptoBulkAll, In.bulk] at hbulk hb1
    omega
  have ht : F.Tab W := by
    have hL2 : laidMet Tryz.prog Rows.treeLevelsUptoRow.laid W := by rw [MakeChecks.laidMetH_plain _ _ _ (by kernel_rfl)] at hL; exact hL
    have hL3 := hL2.filter (fun x => x.1 == "internal/strconv.uint64pow10")
    have e : Rows.treeLevelsUptoRow.laid.filter (fun x => x.1 == "internal/strconv.uint64pow10") = [("internal/strconv.uint64pow10", Lib.tabData .u64 Lib.pow10Tab)] := by kernel_rfl
    rw [e] at hL3
    exact Lib.tabIs_of_head (g := 2) (t := 219) (e := 40) (n := 20) (by kernel_rfl) (by kernel_rfl) Tryz.underlying219 Tryz.underlying40 (by kernel_rfl) (by kernel_rfl) hL3
  have hwalk := walk _ h0x k0 _ h1x k1 a2 W hm0 oh0 ok0 hl0 hm1 oh1 ok1 hl1 w2 ht
  refine hwalk.mono fun e W' ⟨he, hg⟩ => ?_
  subst he
  exact ⟨_, rfl, _, _, _, [], p0 ++ (p1 ++ ([] ++ ([]))), [], hW', (trodAll_cons_mk (shut_bool Tryz.underlying4 _) trodAll_mk0), (trodAll_cons_mk (back0 _ hg) (trodAll_cons_mk (back1 _ hg) (trodAll_cons_mk (shut_int Tryz.underlying3 w2) trodAll_mk0))), rfl, World.keptBut_mono (fun _ f => f.elim) hg.kept, fun h => by cases h⟩

theorem over : Rows.treeLevelsUptoRow.holds Tryz.pinned (Rows.OpenSpec.upto Rows.treeLevelsSpec) :=
  OpenClaim.holds_of_cond 6 Tryz.f6 rfl rfl rfl rfl rfl rfl rfl ⟨rfl, rfl, rfl, rfl, rfl⟩ rfl rfl rfl rfl rfl (by kernel_rfl) Tryz.func6 (by kernel_rfl)
    (of_decide_eq_true (by kernel_rfl)) (by unfold Func.isWrapper; first | (rw [if_pos (by decide +kernel)]; kernel_rfl) | (rw [if_neg (by decide +kernel)]; exact ⟨rfl, rfl⟩))
    (fun os started H enc _ F0 => by rw [OpenClaim.pre_eq_preRow]; exact lifted os started H enc F0)
theorem card_holds : Rows.TreeLevelsUptoCardSaid :=
  Claim7.holds_tied_plain_at .later [] [.data, .data, .data] true (true, "96806037e17097e23b9162a6339e882e46c184e79aef4c5b801ceaf8dc1ac182") true over (fun _ h => by cases h) (by kernel_rfl) (fun _ h => by cases h) treeLevelsUpto_row_tie rfl ⟨rfl, rfl⟩ (by kernel_rfl) rfl
    (fun f fn hf hfn => by
      obtain rfl : f = 6 := Option.some.inj ((show Tryz.prog.funcNamed "foundry/foundrylaw06.TreeLevels" = some 6 by kernel_rfl).symm.trans hf) |>.symm
      obtain rfl : fn = Tryz.f6 := (Option.some.inj (Tryz.func6.symm.trans hfn)).symm
      exact ⟨by kernel_rfl, fun j t ht => by
        rw [Tryz.params6] at ht
        have hm : t ∈ [44, 44, 3] := by simpa using Array.mem_of_getElem? ht
        have hall : ([44, 44, 3].all fun u => !Tryz.prog.wantsStandIn u) = true := by kernel_rfl
        exact (show Tryz.prog.wantsStandIn t = false by simpa using List.all_eq_true.1 hall t hm)⟩)
    (by kernel_rfl)
end Go.Proofs.YtfkccanjdlajlabGreatDoor.treeLevels
namespace Go.Proofs.YtfkccanjdlajlabGreatDoor
theorem treeLevels_holds : Rows.TreeLevelsUptoCardSaid := treeLevels.card_holds
#print axioms treeLevels_holds
end Go.Proofs.YtfkccanjdlajlabGreatDoor
