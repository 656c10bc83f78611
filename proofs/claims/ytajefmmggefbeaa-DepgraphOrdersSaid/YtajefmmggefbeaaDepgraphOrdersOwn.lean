/- DepgraphOrders returns true for every input, in whatever memory; each argument reads afterwards as it did. -/
import Derived.Test.YtajefmmggefbeaaRows
import Derived.Test.YtajefmmggefbeaaDgY9
import Derived.Test.YtajefmmggefbeaaDgIn
import Derived.Test.YtajefmmggefbeaaNmIn
import Derived.WalkKit
import Derived.ProofKit
import Derived.OpenShut
import Derived.JoinedCond
import Derived.WideKeyArgs
import Derived.SizedLaws
import Derived.ChangeSame
import Derived.ReadAgain
import Derived.ChangeMaps5
namespace Go.Proofs.Ytajefmmggefbeaa.depgraphOrders
open Go.ChangeShapes Go.WideShapes Go.ChangeAt Go.RowKit Go.ChangeMaps
set_option linter.unusedVariables false
set_option linter.unusedSimpArgs false

theorem own : ownKnob Try.prog.godebug = none := by kernel_rfl
theorem laidOut : laidOutB Try.prog = true := by kernel_rfl
theorem readable22 : Try.prog.readableRec 22 = true := by kernel_rfl
theorem known22 : 22 < Try.prog.types.size := of_decide_eq_true (by kernel_rfl)
theorem same {W W' : World} (hf : Fr (fun _ => False) W W') {p : MemPlace} (hp : p.block < W.heap.size) : W.sameAt W' p := by
  cases p with
  | cell b off => exact World.cell?_of_block (a := ⟨b, off, none⟩) (hf.block b hp (fun f => f))
  | map b => exact hf.block b hp (fun f => f)

set_option maxRecDepth 100000 in
theorem lifted (os : Os) (started : os.Started) (H : Type) (enc : TypeId × Value → H) :
    ReturnsInHanded {} Try.checked os 4 .any (Rows.depgraphOrdersSpec.pre6 enc Try.prog Try.f4 Rows.depgraphOrdersRow.domain false) (Rows.depgraphOrdersSpec.post enc Try.prog Try.f4 false true false false) := by
  refine returnsInHanded_of_change_sized (C := Try.checked) own started (by kernel_rfl) Try.func4
    (ChangeSpec.witness6 (enc := enc) (C := Try.checked) false ⟨#[], #[.slice none 0 0], []⟩ 8 (by kernel_rfl) (by kernel_rfl) (by kernel_rfl) (by kernel_rfl)) ?_
  intro W base args ds gs before hval0 hW _ hsz0 _
  have hval : ∀ (j : Nat) t v, Try.f4.params[j]? = some t → args[j]? = some v → Value.okWide Try.prog W .any base t v := hval0
  have hW' := hW
  obtain ⟨p, q, hA0, hV, rfl, hfz, hnd⟩ := hW
  have hA : DataW.TrodAll enc Try.prog W 0 (fun _ => true) true Try.f4.params.toList args.toList ds p := hA0
  have hsz : (DataW.weightsEach Try.prog Try.f4.params.toList ds).all (· ≤ reachBytes) = true := by
    obtain ⟨rfl, _⟩ := trodVars_none hV
    have h := hsz0
    rw [show (Rows.depgraphOrdersSpec).plain.varTypes Try.checked.prog = [] from rfl, List.append_nil, List.append_nil] at h
    exact h
  rw [Try.params4] at hA hval hsz
  obtain ⟨v0, vs0, d0, ds0, p0, q0, hargs, rfl, rfl, h0, r0⟩ := trodAll_cons hA
  obtain ⟨rfl, rfl, rfl⟩ := trodAll_nil r0
  obtain rfl : args = #[v0] := by cases args; simp_all
  obtain ⟨rfl, rfl⟩ := trodVars_none hV
  clear hA0 hval0
  simp only [List.append_nil] at hW'
  have hlt0 : ∀ x ∈ p0, x.block < W.heap.size := fun x hx => by simpa using hW'.lt x (by simp [hx])
  have back0 : ∀ W', Fr (fun _ => False) W W' → DataW.Trod enc Try.prog W' 0 (fun b => decide (b < W.heap.size)) true 22 v0 d0 p0 := fun W' hf => Go.WideElems.Trod_stays laidOut readable22 known22 h0 (fun x hx => same hf (hlt0 x hx)) (fun x hx => by simpa using hlt0 x hx)
  obtain ⟨fuel0, hf0⟩ := h0
  obtain ⟨o0, n0, c0, rfl⟩ := okWide_slice Try.underlying22 (hval 0 22 v0 rfl rfl)
  obtain ⟨nl0, hm0, ok0⟩ := Dg.nodes_arg hf0
  have hs0 := Dg.nodes_size hf0 hm0 (fun n hn => by have := List.all_eq_true.1 hsz n (DataW.weights_mem_each (j := 0) rfl rfl n hn); simpa using this)
  have hwalk := walk _ nl0 W hm0 ok0 hs0
  refine hwalk.mono fun e W' ⟨he, hg⟩ => ?_
  subst he
  exact ⟨_, rfl, _, _, _, [], p0 ++ ([]), [], hW', (trodAll_cons_mk (shut_bool Try.underlying4 _) trodAll_mk0), (trodAll_cons_mk (back0 _ hg) trodAll_mk0), rfl, World.keptBut_mono (fun _ f => f.elim) hg.kept, fun h => by cases h⟩

theorem oa : Try.pinned.checked.prog.funcNamed Rows.depgraphOrdersRow.func = some 4 := by kernel_rfl
theorem oe : (Rows.depgraphOrdersRow.inPlace == Try.pinned.checked.prog.inPlace 4) = true := by kernel_rfl
theorem of_ : (Rows.depgraphOrdersRow.unfollowed == Try.pinned.checked.prog.unfollowed 4) = true := by kernel_rfl
theorem og : (Rows.depgraphOrdersRow.recurses == Try.pinned.checked.prog.recurses 4) = true := by kernel_rfl
theorem oh : (Rows.depgraphOrdersRow.named == Try.pinned.checked.prog.varsNamed 4) = true := by kernel_rfl
theorem oi : laidOutB Try.pinned.checked.prog = true := by kernel_rfl
theorem ob : joinedFacts Try.pinned.checked.prog 4 Try.f4 Rows.depgraphOrdersSpec Rows.depgraphOrdersRow = true := by
  unfold joinedFacts
  rw [oe, of_, og, oh, oi]
  kernel_rfl
theorem oc : Func.isInstance Try.pinned.checked.prog Try.f4 Rows.depgraphOrdersRow.origin Rows.depgraphOrdersRow.targs := of_decide_eq_true (by kernel_rfl)
theorem od : Func.isWrapper Try.pinned.checked.prog Try.f4 Rows.depgraphOrdersRow.wrapper Rows.depgraphOrdersRow.mainSum := by unfold Func.isWrapper; first | (rw [if_pos (by decide +kernel)]; kernel_rfl) | (rw [if_neg (by decide +kernel)]; exact ⟨rfl, rfl⟩)
theorem over : Rows.depgraphOrdersRow.holds Try.pinned (OpenSpec.ofChange Rows.depgraphOrdersSpec) :=
  OpenClaim.holds_of_wide 4 Try.f4 rfl rfl rfl rfl rfl rfl rfl ⟨rfl, rfl, rfl, rfl, rfl⟩ rfl rfl rfl rfl rfl oa Try.func4 ob oc od
    (fun os started H enc _ => lifted os started H enc)
end Go.Proofs.Ytajefmmggefbeaa.depgraphOrders
namespace Go.Proofs.Ytajefmmggefbeaa
theorem depgraphOrders_holds : Rows.DepgraphOrdersSaid := depgraphOrders.over
#print axioms depgraphOrders_holds
end Go.Proofs.Ytajefmmggefbeaa
