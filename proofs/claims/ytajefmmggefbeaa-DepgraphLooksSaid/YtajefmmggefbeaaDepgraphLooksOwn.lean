/- DepgraphLooks returns true for every input, in whatever memory; each argument reads afterwards as it did. -/
import Derived.Test.YtajefmmggefbeaaRows
import Derived.Test.YtajefmmggefbeaaDgY8
import Derived.Test.YtajefmmggefbeaaDgIn
import Derived.Test.YtajefmmggefbeaaNmIn
import Derived.WalkKit
import Derived.ProofKit
import Derived.OpenShut
import Derived.JoinedCond
import Derived.WideKeyArgs
import Derived.SizedLaws
import Derived.ChangeSame
import Derived.ReadAgain
import Derived.ChangeMaps5
namespace Go.Proofs.Ytajefmmggefbeaa.depgraphLooks
open Go.ChangeShapes Go.WideShapes Go.ChangeAt Go.RowKit Go.ChangeMaps
set_option linter.unusedVariables false
set_option linter.unusedSimpArgs false

theorem own : ownKnob Try.prog.godebug = none := by kernel_rfl
theorem laidOut : laidOutB Try.prog = true := by kernel_rfl
theorem readable23 : Try.prog.readableRec 23 = true := by kernel_rfl
theorem known23 : 23 < Try.prog.types.size := of_decide_eq_true (by kernel_rfl)
theorem readable22 : Try.prog.readableRec 22 = true := by kernel_rfl
theorem known22 : 22 < Try.prog.types.size := of_decide_eq_true (by kernel_rfl)
theorem same {W W' : World} (hf : Fr (fun _ => False) W W') {p : MemPlace} (hp : p.block < W.heap.size) : W.sameAt W' p := by
  cases p with
  | cell b off => exact World.cell?_of_block (a := ⟨b, off, none⟩) (hf.block b hp (fun f => f))
  | map b => exact hf.block b hp (fun f => f)

set_option maxRecDepth 100000 in
theorem lifted (os : Os) (started : os.Started) (H : Type) (enc : TypeId × Value → H) :
    ReturnsInHanded {} Try.checked os 3 .any (Rows.depgraphLooksSpec.pre6 enc Try.prog Try.f3 Rows.depgraphLooksRow.domain false) (Rows.depgraphLooksSpec.post enc Try.prog Try.f3 false true false false) := by
  refine returnsInHanded_of_change_sized (C := Try.checked) own started (by kernel_rfl) Try.func3
    (ChangeSpec.witness6 (enc := enc) (C := Try.checked) false ⟨#[], #[.slice none 0 0, .string ⟨#[]⟩, .slice none 0 0], []⟩ 8 (by kernel_rfl) (by kernel_rfl) (by kernel_rfl) (by kernel_rfl)) ?_
  intro W base args ds gs before hval0 hW _ hsz0 _
  have hval : ∀ (j : Nat) t v, Try.f3.params[j]? = some t → args[j]? = some v → Value.okWide Try.prog W .any base t v := hval0
  have hW' := hW
  obtain ⟨p, q, hA0, hV, rfl, hfz, hnd⟩ := hW
  have hA : DataW.TrodAll enc Try.prog W 0 (fun _ => true) true Try.f3.params.toList args.toList ds p := hA0
  have hsz : (DataW.weightsEach Try.prog Try.f3.params.toList ds).all (· ≤ reachBytes) = true := by
    obtain ⟨rfl, _⟩ := trodVars_none hV
    have h := hsz0
    rw [show (Rows.depgraphLooksSpec).plain.varTypes Try.checked.prog = [] from rfl, List.append_nil, List.append_nil] at h
    exact h
  rw [Try.params3] at hA hval hsz
  obtain ⟨v0, vs0, d0, ds0, p0, q0, hargs, rfl, rfl, h0, r0⟩ := trodAll_cons hA
  obtain ⟨v1, vs1, d1, ds1, p1, q1, rfl, rfl, rfl, h1, r1⟩ := trodAll_cons r0
  obtain ⟨v2, vs2, d2, ds2, p2, q2, rfl, rfl, rfl, h2, r2⟩ := trodAll_cons r1
  obtain ⟨rfl, rfl, rfl⟩ := trodAll_nil r2
  obtain rfl : args = #[v0, v1, v2] := by cases args; simp_all
  obtain ⟨rfl, rfl⟩ := trodVars_none hV
  obtain ⟨a1, rfl, rfl, rfl, w1⟩ := open_string Try.underlying9 (hval 1 9 v1 rfl rfl) h1
  have l1 : a1.data.toList.length ≤ 140737488351232 := by simpa [reachBytes] using sized_string hsz (j := 1) rfl rfl
  clear hA0 hval0
  simp only [List.append_nil] at hW'
  have hlt0 : ∀ x ∈ p0, x.block < W.heap.size := fun x hx => by simpa using hW'.lt x (by simp [hx])
  have back0 : ∀ W', Fr (fun _ => False) W W' → DataW.Trod enc Try.prog W' 0 (fun b => decide (b < W.heap.size)) true 22 v0 d0 p0 := fun W' hf => Go.WideElems.Trod_stays laidOut readable22 known22 h0 (fun x hx => same hf (hlt0 x hx)) (fun x hx => by simpa using hlt0 x hx)
  obtain ⟨fuel0, hf0⟩ := h0
  obtain ⟨o0, n0, c0, rfl⟩ := okWide_slice Try.underlying22 (hval 0 22 v0 rfl rfl)
  obtain ⟨nl0, hm0, ok0⟩ := Dg.nodes_arg hf0
  have hs0 := Dg.nodes_size hf0 hm0 (fun n hn => by have := List.all_eq_true.1 hsz n (DataW.weights_mem_each (j := 0) rfl rfl n hn); simpa using this)
  have hlt2 : ∀ x ∈ p2, x.block < W.heap.size := fun x hx => by simpa using hW'.lt x (by simp [hx])
  have back2 : ∀ W', Fr (fun _ => False) W W' → DataW.Trod enc Try.prog W' 0 (fun b => decide (b < W.heap.size)) true 23 v2 d2 p2 := fun W' hf => Go.WideElems.Trod_stays laidOut readable23 known23 h2 (fun x hx => same hf (hlt2 x hx)) (fun x hx => by simpa using hlt2 x hx)
  obtain ⟨fuel2, hf2⟩ := h2
  obtain ⟨o2, n2, c2, rfl⟩ := okWide_slice Try.underlying23 (hval 2 23 v2 rfl rfl)
  obtain ⟨t2, ht2, hb2, hbs2, hbm2, he2⟩ := strs_in hf2
  have hl2 : t2.length * 16 ≤ 140737488355328 := by
    rcases he2 with rfl | ⟨elems, spare, e1, e2⟩
    · simp
    · simp only at e1
      subst e1
      have := sized_slice hsz (j := 2) rfl rfl Try.underlying23
      rw [show Try.prog.bytesOf 9 = 16 by kernel_rfl] at this
      simp only [reachBytes] at this
      omega
  have hwalk := walk _ nl0 a1.data.toList _ t2 W hm0 ok0 hs0 l1 ht2 hl2 hbm2
  rw [show (⟨a1.data.toList.toArray⟩ : ByteArray) = a1 by simp] at hwalk
  refine hwalk.mono fun e W' ⟨he, hg⟩ => ?_
  subst he
  exact ⟨_, rfl, _, _, _, [], p0 ++ ([] ++ (p2 ++ ([]))), [], hW', (trodAll_cons_mk (shut_bool Try.underlying4 _) trodAll_mk0), (trodAll_cons_mk (back0 _ hg) (trodAll_cons_mk (shut_string Try.underlying9 w1) (trodAll_cons_mk (back2 _ hg) trodAll_mk0))), rfl, World.keptBut_mono (fun _ f => f.elim) hg.kept, fun h => by cases h⟩

theorem oa : Try.pinned.checked.prog.funcNamed Rows.depgraphLooksRow.func = some 3 := by kernel_rfl
theorem oe : (Rows.depgraphLooksRow.inPlace == Try.pinned.checked.prog.inPlace 3) = true := by kernel_rfl
theorem of_ : (Rows.depgraphLooksRow.unfollowed == Try.pinned.checked.prog.unfollowed 3) = true := by kernel_rfl
theorem og : (Rows.depgraphLooksRow.recurses == Try.pinned.checked.prog.recurses 3) = true := by kernel_rfl
theorem oh : (Rows.depgraphLooksRow.named == Try.pinned.checked.prog.varsNamed 3) = true := by kernel_rfl
theorem oi : laidOutB Try.pinned.checked.prog = true := by kernel_rfl
theorem ob : joinedFacts Try.pinned.checked.prog 3 Try.f3 Rows.depgraphLooksSpec Rows.depgraphLooksRow = true := by
  unfold joinedFacts
  rw [oe, of_, og, oh, oi]
  kernel_rfl
theorem oc : Func.isInstance Try.pinned.checked.prog Try.f3 Rows.depgraphLooksRow.origin Rows.depgraphLooksRow.targs := of_decide_eq_true (by kernel_rfl)
theorem od : Func.isWrapper Try.pinned.checked.prog Try.f3 Rows.depgraphLooksRow.wrapper Rows.depgraphLooksRow.mainSum := by unfold Func.isWrapper; first | (rw [if_pos (by decide +kernel)]; kernel_rfl) | (rw [if_neg (by decide +kernel)]; exact ⟨rfl, rfl⟩)
theorem over : Rows.depgraphLooksRow.holds Try.pinned (OpenSpec.ofChange Rows.depgraphLooksSpec) :=
  OpenClaim.holds_of_wide 3 Try.f3 rfl rfl rfl rfl rfl rfl rfl ⟨rfl, rfl, rfl, rfl, rfl⟩ rfl rfl rfl rfl rfl oa Try.func3 ob oc od
    (fun os started H enc _ => lifted os started H enc)
end Go.Proofs.Ytajefmmggefbeaa.depgraphLooks
namespace Go.Proofs.Ytajefmmggefbeaa
theorem depgraphLooks_holds : Rows.DepgraphLooksSaid := depgraphLooks.over
#print axioms depgraphLooks_holds
end Go.Proofs.Ytajefmmggefbeaa
