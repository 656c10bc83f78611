/- IfaceDecodes returns true for every input, in whatever memory; each argument reads afterwards as it did. -/
import Derived.Test.YtakkiipkmogagaaGreatRows
import Derived.Test.YtakkiipkmogagaaGreatIdP
import Derived.WalkKit
import Derived.ProofKit
import Derived.OpenShut
import Derived.JoinedCond
import Derived.WideKeyArgs
import Derived.SizedLaws
import Derived.ChangeSame
import Derived.ReadAgain
import Derived.ChangeMaps5
namespace Go.Proofs.YtakkiipkmogagaaGreat.ifaceDecodes
open Go.ChangeShapes Go.WideShapes Go.ChangeAt Go.RowKit Go.ChangeMaps
set_option linter.unusedVariables false
set_option linter.unusedSimpArgs false

theorem own : ownKnob Tryz.prog.godebug = none := by kernel_rfl
theorem laidOut : laidOutB Tryz.prog = true := by kernel_rfl
theorem readable22 : Tryz.prog.readableRec 22 = true := by kernel_rfl
theorem known22 : 22 < Tryz.prog.types.size := of_decide_eq_true (by kernel_rfl)
theorem same {W W' : World} (hf : Fr (fun _ => False) W W') {p : MemPlace} (hp : p.block < W.heap.size) : W.sameAt W' p := by
  cases p with
  | cell b off => exact World.cell?_of_block (a := ⟨b, off, none⟩) (hf.block b hp (fun f => f))
  | map b => exact hf.block b hp (fun f => f)

set_option maxRecDepth 100000 in
theorem lifted (os : Os) (started : os.Started) (H : Type) (enc : TypeId × Value → H) :
    ReturnsInHanded {} Tryz.checked os 3 .any (Rows.ifaceDecodesSpec.pre6 enc Tryz.prog Tryz.f3 Rows.ifaceDecodesRow.domain false) (Rows.ifaceDecodesSpec.post enc Tryz.prog Tryz.f3 false true false false) := by
  refine returnsInHanded_of_change_sized (C := Tryz.checked) own started (by kernel_rfl) Tryz.func3
    (ChangeSpec.witness6 (enc := enc) (C := Tryz.checked) false ⟨#[], #[.slice none 0 0], []⟩ 8 (by kernel_rfl) (by kernel_rfl) (by kernel_rfl) (by kernel_rfl)) ?_
  intro W base args ds gs before hval0 hW _ hsz0 _
  have hval : ∀ (j : Nat) t v, Tryz.f3.params[j]? = some t → args[j]? = some v → Value.okWide Tryz.prog W .any base t v := hval0
  have hW' := hW
  obtain ⟨p, q, hA0, hV, rfl, hfz, hnd⟩ := hW
  have hA : DataW.TrodAll enc Tryz.prog W 0 (fun _ => true) true Tryz.f3.params.toList args.toList ds p := hA0
  have hsz : (DataW.weightsEach Tryz.prog Tryz.f3.params.toList ds).all (· ≤ reachBytes) = true := by
    obtain ⟨rfl, _⟩ := trodVars_none hV
    have h := hsz0
    rw [show (Rows.ifaceDecodesSpec).plain.varTypes Tryz.checked.prog = [] from rfl, List.append_nil, List.append_nil] at h
    exact h
  rw [Tryz.params3] at hA hval hsz
  obtain ⟨v0, vs0, d0, ds0, p0, q0, hargs, rfl, rfl, h0, r0⟩ := trodAll_cons hA
  obtain ⟨rfl, rfl, rfl⟩ := trodAll_nil r0
  obtain rfl : args = #[v0] := by cases args; simp_all
  obtain ⟨rfl, rfl⟩ := trodVars_none hV
  clear hA0 hval0
  simp only [List.append_nil] at hW'
  have hlt0 : ∀ x ∈ p0, x.block < W.heap.size := fun x hx => by simpa using hW'.lt x (by simp [hx])
  have back0 : ∀ W', Fr (fun _ => False) W W' → DataW.Trod enc Tryz.prog W' 0 (fun b => decide (b < W.heap.size)) true 22 v0 d0 p0 := fun W' hf => Go.WideElems.Trod_stays laidOut readable22 known22 h0 (fun x hx => same hf (hlt0 x hx)) (fun x hx => by simpa using hlt0 x hx)
  obtain ⟨fuel0, hf0⟩ := h0
  obtain ⟨go0, gn0, gc0, hgv0⟩ := okWide_slice Tryz.underlying22 (hval 0 22 v0 rfl rfl)
  obtain ⟨x0, hP0⟩ := Ty.bytz_arg (by rw [hgv0]; rfl) (hval 0 22 v0 rfl rfl) hf0 (fun n hn => by have := List.all_eq_true.1 hsz n (DataW.weights_mem_each (j := 0) rfl rfl n hn); simpa using this)
  have hwalk := walk v0 x0 W hP0
  refine hwalk.mono fun e W' ⟨he, hg⟩ => ?_
  subst he
  exact ⟨_, rfl, _, _, _, [], p0 ++ ([]), [], hW', (trodAll_cons_mk (shut_bool Tryz.underlying4 _) trodAll_mk0), (trodAll_cons_mk (back0 _ hg) trodAll_mk0), rfl, World.keptBut_mono (fun _ f => f.elim) hg.kept, fun h => by cases h⟩

theorem oa : Tryz.pinned.checked.prog.funcNamed Rows.ifaceDecodesRow.func = some 3 := by kernel_rfl
theorem oe : (Rows.ifaceDecodesRow.inPlace == Tryz.pinned.checked.prog.inPlace 3) = true := by kernel_rfl
theorem of_ : (Rows.ifaceDecodesRow.unfollowed == Tryz.pinned.checked.prog.unfollowed 3) = true := by kernel_rfl
theorem og : (Rows.ifaceDecodesRow.recurses == Tryz.pinned.checked.prog.recurses 3) = true := by kernel_rfl
theorem oh : (Rows.ifaceDecodesRow.named == Tryz.pinned.checked.prog.varsNamed 3) = true := by kernel_rfl
theorem oi : laidOutB Tryz.pinned.checked.prog = true := by kernel_rfl
theorem ob : joinedFacts Tryz.pinned.checked.prog 3 Tryz.f3 Rows.ifaceDecodesSpec Rows.ifaceDecodesRow = true := by
  unfold joinedFacts
  rw [oe, of_, og, oh, oi]
  kernel_rfl
theorem oc : Func.isInstance Tryz.pinned.checked.prog Tryz.f3 Rows.ifaceDecodesRow.origin Rows.ifaceDecodesRow.targs := of_decide_eq_true (by kernel_rfl)
theorem od : Func.isWrapper Tryz.pinned.checked.prog Tryz.f3 Rows.ifaceDecodesRow.wrapper Rows.ifaceDecodesRow.mainSum := by unfold Func.isWrapper; first | (rw [if_pos (by decide +kernel)]; kernel_rfl) | (rw [if_neg (by decide +kernel)]; exact ⟨rfl, rfl⟩)
theorem over : Rows.ifaceDecodesRow.holds Tryz.pinned (OpenSpec.ofChange Rows.ifaceDecodesSpec) :=
  OpenClaim.holds_of_wide 3 Tryz.f3 rfl rfl rfl rfl rfl rfl rfl ⟨rfl, rfl, rfl, rfl, rfl⟩ rfl rfl rfl rfl rfl oa Tryz.func3 ob oc od
    (fun os started H enc _ => lifted os started H enc)
end Go.Proofs.YtakkiipkmogagaaGreat.ifaceDecodes
namespace Go.Proofs.YtakkiipkmogagaaGreat
theorem ifaceDecodes_holds : Rows.IfaceDecodesSaid := ifaceDecodes.over
#print axioms ifaceDecodes_holds
end Go.Proofs.YtakkiipkmogagaaGreat
