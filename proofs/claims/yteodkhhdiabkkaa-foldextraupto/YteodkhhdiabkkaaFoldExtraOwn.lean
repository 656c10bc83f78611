/- FoldExtra returns true for every input where what it reads is of bulk at most 1048576, in whatever memory; each argument reads afterwards as it did. -/
import Derived.Test.YteodkhhdiabkkaaRows
import Derived.Test.YteodkhhdiabkkaaFoV4
import Derived.Test.YteodkhhdiabkkaaFoIn
import Derived.WalkKit
import Derived.ProofKit
import Derived.OpenShut
import Derived.JoinedCond
import Derived.WideKeyArgs
import Derived.SizedLaws
import Derived.ChangeSame
import Derived.ReadAgain
import Derived.ChangeMaps5
namespace Go.Proofs.Yteodkhhdiabkkaa.foldExtra
open Go.ChangeShapes Go.WideShapes Go.ChangeAt Go.RowKit Go.ChangeMaps
set_option linter.unusedVariables false
set_option linter.unusedSimpArgs false

theorem own : ownKnob Try.prog.godebug = none := by kernel_rfl
theorem laidOut : laidOutB Try.prog = true := by kernel_rfl
theorem readable27 : Try.prog.readableRec 27 = true := by kernel_rfl
theorem known27 : 27 < Try.prog.types.size := of_decide_eq_true (by kernel_rfl)
theorem readable28 : Try.prog.readableRec 28 = true := by kernel_rfl
theorem known28 : 28 < Try.prog.types.size := of_decide_eq_true (by kernel_rfl)
theorem same {W W' : World} (hf : Fr (fun _ => False) W W') {p : MemPlace} (hp : p.block < W.heap.size) : W.sameAt W' p := by
  cases p with
  | cell b off => exact World.cell?_of_block (a := ⟨b, off, none⟩) (hf.block b hp (fun f => f))
  | map b => exact hf.block b hp (fun f => f)

set_option maxRecDepth 100000 in
theorem lifted (os : Os) (started : os.Started) (H : Type) (enc : TypeId × Value → H) (F : Stop.Interp) :
    ReturnsInHanded {} Try.checked os 4 .any ((Rows.OpenSpec.upto Rows.foldExtraSpec).pre6 enc Try.prog Try.f4 Rows.foldExtraUptoRow.domain false) (((Rows.OpenSpec.upto Rows.foldExtraSpec).at F).post enc Try.prog Try.f4 false true false false) := by
  refine returnsInHanded_of_cond (C := Try.checked) (s := (Rows.OpenSpec.upto Rows.foldExtraSpec)) (k := Rows.uptoSmall) rfl own started (by kernel_rfl) Try.func4
    (OpenSpec.witness (enc := enc) (C := Try.checked) (s := (Rows.OpenSpec.upto Rows.foldExtraSpec)) (k := Rows.uptoSmall) rfl false ⟨#[], #[.agg #[.int .i64 0, .int .i64 0, .string ⟨#[]⟩, .string ⟨#[]⟩, .int .i64 0, .int .u64 0, .slice none 0 0], .slice none 0 0, .slice none 0 0], []⟩ 8 (by kernel_rfl) (by kernel_rfl) (by kernel_rfl)
      (x := ([.agg [.lit (.int .i64 0), .lit (.int .i64 0), .lit (.string []), .lit (.string []), .agg [.lit (.int .i64 0), .lit (.int .u64 0)], .nil], .nil, .nil], [], [])) (by kernel_rfl) rfl (by kernel_rfl)) ?_
  intro W base args ds gs before hval0 hW _ hk _
  have hbulk : Rows.uptoBulkAll (ds ++ gs) ≤ 1048576 := of_decide_eq_true hk
  clear hk
  have hval : ∀ (j : Nat) t v, Try.f4.params[j]? = some t → args[j]? = some v → Value.okWide Try.prog W .any base t v := hval0
  have hW' := hW
  obtain ⟨p, q, hA0, hV, rfl, hfz, hnd⟩ := hW
  have hA : DataW.TrodAll enc Try.prog W 0 (fun _ => true) true Try.f4.params.toList args.toList ds p := hA0
  rw [Try.params4] at hA hval
  obtain ⟨v0, vs0, d0, ds0, p0, q0, hargs, rfl, rfl, h0, r0⟩ := trodAll_cons hA
  obtain ⟨v1, vs1, d1, ds1, p1, q1, rfl, rfl, rfl, h1, r1⟩ := trodAll_cons r0
  obtain ⟨v2, vs2, d2, ds2, p2, q2, rfl, rfl, rfl, h2, r2⟩ := trodAll_cons r1
  obtain ⟨rfl, rfl, rfl⟩ := trodAll_nil r2
  obtain rfl : args = #[v0, v1, v2] := by cases args; simp_all
  obtain ⟨rfl, rfl⟩ := trodVars_none hV
  clear hA0 hval0
  simp only [List.append_nil] at hW'
  have hlt0 : ∀ x ∈ p0, x.block < W.heap.size := fun x hx => by simpa using hW'.lt x (by simp [hx])
  have back0 : ∀ W', Fr (fun _ => False) W W' → DataW.Trod enc Try.prog W' 0 (fun b => decide (b < W.heap.size)) true 27 v0 d0 p0 := fun W' hf => Go.WideElems.Trod_stays laidOut readable27 known27 h0 (fun x hx => same hf (hlt0 x hx)) (fun x hx => by simpa using hlt0 x hx)
  obtain ⟨fuel0, hf0⟩ := h0
  obtain ⟨h0x, k0, hm0, oh0, ok0, hb0⟩ := In.ex_arg hf0
  have hlt1 : ∀ x ∈ p1, x.block < W.heap.size := fun x hx => by simpa using hW'.lt x (by simp [hx])
  have back1 : ∀ W', Fr (fun _ => False) W W' → DataW.Trod enc Try.prog W' 0 (fun b => decide (b < W.heap.size)) true 28 v1 d1 p1 := fun W' hf => Go.WideElems.Trod_stays laidOut readable28 known28 h1 (fun x hx => same hf (hlt1 x hx)) (fun x hx => by simpa using hlt1 x hx)
  obtain ⟨fuel1, hf1⟩ := h1
  obtain ⟨o1, n1, c1, rfl⟩ := okWide_slice Try.underlying28 (hval 1 28 v1 rfl rfl)
  obtain ⟨l1, hm1, ok1, hb1⟩ := Fo.cons_arg hf1
  have hlt2 : ∀ x ∈ p2, x.block < W.heap.size := fun x hx => by simpa using hW'.lt x (by simp [hx])
  have back2 : ∀ W', Fr (fun _ => False) W W' → DataW.Trod enc Try.prog W' 0 (fun b => decide (b < W.heap.size)) true 28 v2 d2 p2 := fun W' hf => Go.WideElems.Trod_stays laidOut readable28 known28 h2 (fun x hx => same hf (hlt2 x hx)) (fun x hx => by simpa using hlt2 x hx)
  obtain ⟨fuel2, hf2⟩ := h2
  obtain ⟨o2, n2, c2, rfl⟩ := okWide_slice Try.underlying28 (hval 2 28 v2 rfl rfl)
  obtain ⟨l2, hm2, ok2, hb2⟩ := Fo.cons_arg hf2
  have hl0 : h0x.mod.length + h0x.name.length + In.bkX k0 ≤ 1048576 := by
    simp only [List.append_nil, List.cons_append, List.nil_append, Rows.uptoBulkAll, In.bulk] at hbulk hb0
    omega
  have hl1 : Fo.bk_cons l1 ≤ 1048576 := by
    simp only [List.append_nil, List.cons_append, List.nil_append, Rows.uptoBulkAll, Fo.bulk, Ty.bulk] at hbulk hb1
    omega
  have hl2 : Fo.bk_cons l2 ≤ 1048576 := by
    simp only [List.append_nil, List.cons_append, List.nil_append, Rows.uptoBulkAll, Fo.bulk, Ty.bulk] at hbulk hb2
    omega
  have hwalk := walk _ h0x k0 _ l1 _ l2 W hm0 oh0 ok0 hl0 hm1 ok1 hl1 hm2 ok2 hl2
  refine hwalk.mono fun e W' ⟨he, hg⟩ => ?_
  subst he
  exact ⟨_, rfl, _, _, _, [], p0 ++ (p1 ++ (p2 ++ ([]))), [], hW', (trodAll_cons_mk (shut_bool Try.underlying4 _) trodAll_mk0), (trodAll_cons_mk (back0 _ hg) (trodAll_cons_mk (back1 _ hg) (trodAll_cons_mk (back2 _ hg) trodAll_mk0))), rfl, World.keptBut_mono (fun _ f => f.elim) hg.kept, fun h => by cases h⟩

theorem oa : Try.pinned.checked.prog.funcNamed Rows.foldExtraUptoRow.func = some 4 := by kernel_rfl
theorem oe : (Rows.foldExtraUptoRow.inPlace == Try.pinned.checked.prog.inPlace 4) = true := by kernel_rfl
theorem of_ : (Rows.foldExtraUptoRow.unfollowed == Try.pinned.checked.prog.unfollowed 4) = true := by kernel_rfl
theorem og : (Rows.foldExtraUptoRow.recurses == Try.pinned.checked.prog.recurses 4) = true := by kernel_rfl
theorem oh : (Rows.foldExtraUptoRow.named == Try.pinned.checked.prog.varsNamed 4) = true := by kernel_rfl
theorem oi : laidOutB Try.pinned.checked.prog = true := by kernel_rfl
theorem ob : joinedFacts Try.pinned.checked.prog 4 Try.f4 Rows.foldExtraSpec Rows.foldExtraUptoRow = true := by
  unfold joinedFacts
  rw [oe, of_, og, oh, oi]
  kernel_rfl
theorem oc : Func.isInstance Try.pinned.checked.prog Try.f4 Rows.foldExtraUptoRow.origin Rows.foldExtraUptoRow.targs := of_decide_eq_true (by kernel_rfl)
theorem od : Func.isWrapper Try.pinned.checked.prog Try.f4 Rows.foldExtraUptoRow.wrapper Rows.foldExtraUptoRow.mainSum := by unfold Func.isWrapper; first | (rw [if_pos (by decide +kernel)]; kernel_rfl) | (rw [if_neg (by decide +kernel)]; exact ⟨rfl, rfl⟩)
theorem over : Rows.foldExtraUptoRow.holds Try.pinned (Rows.OpenSpec.upto Rows.foldExtraSpec) :=
  OpenClaim.holds_of_cond 4 Try.f4 rfl rfl rfl rfl rfl rfl rfl ⟨rfl, rfl, rfl, rfl, rfl⟩ rfl rfl rfl rfl rfl oa Try.func4 ob oc od
    (fun os started H enc _ F => lifted os started H enc F)
end Go.Proofs.Yteodkhhdiabkkaa.foldExtra
namespace Go.Proofs.Yteodkhhdiabkkaa
theorem foldExtra_holds : Rows.FoldExtraUptoSaid := foldExtra.over
#print axioms foldExtra_holds
end Go.Proofs.Yteodkhhdiabkkaa
