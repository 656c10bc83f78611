/- DepgraphNils returns true for every input, in whatever memory; each argument reads afterwards as it did. -/
import Derived.Test.YtdnghklfeldbpaaRows
import Derived.Test.YtdnghklfeldbpaaDgY1
import Derived.Test.YtdnghklfeldbpaaNmIn
import Derived.WalkKit
import Derived.ProofKit
import Derived.OpenShut
import Derived.JoinedCond
import Derived.WideKeyArgs
import Derived.SizedLaws
import Derived.ChangeSame
import Derived.ReadAgain
import Derived.ChangeMaps5
namespace Go.Proofs.Ytdnghklfeldbpaa.depgraphNils
open Go.ChangeShapes Go.WideShapes Go.ChangeAt Go.RowKit Go.ChangeMaps
set_option linter.unusedVariables false
set_option linter.unusedSimpArgs false

theorem own : ownKnob Try.prog.godebug = none := by kernel_rfl
theorem laidOut : laidOutB Try.prog = true := by kernel_rfl
theorem readable23 : Try.prog.readableRec 23 = true := by kernel_rfl
theorem known23 : 23 < Try.prog.types.size := of_decide_eq_true (by kernel_rfl)
theorem same {W W' : World} (hf : Fr (fun _ => False) W W') {p : MemPlace} (hp : p.block < W.heap.size) : W.sameAt W' p := by
  cases p with
  | cell b off => exact World.cell?_of_block (a := ⟨b, off, none⟩) (hf.block b hp (fun f => f))
  | map b => exact hf.block b hp (fun f => f)

set_option maxRecDepth 100000 in
theorem lifted (os : Os) (started : os.Started) (H : Type) (enc : TypeId × Value → H) :
    ReturnsInHanded {} Try.checked os 9 .any (Rows.depgraphNilsSpec.pre6 enc Try.prog Try.f9 Rows.depgraphNilsRow.domain false) (Rows.depgraphNilsSpec.post enc Try.prog Try.f9 false true false false) := by
  refine returnsInHanded_of_change_sized (C := Try.checked) own started (by kernel_rfl) Try.func9
    (ChangeSpec.witness6 (enc := enc) (C := Try.checked) false ⟨#[], #[.string ⟨#[]⟩, .slice none 0 0], []⟩ 8 (by kernel_rfl) (by kernel_rfl) (by kernel_rfl) (by kernel_rfl)) ?_
  intro W base args ds gs before hval0 hW _ hsz0 _
  have hval : ∀ (j : Nat) t v, Try.f9.params[j]? = some t → args[j]? = some v → Value.okWide Try.prog W .any base t v := hval0
  have hW' := hW
  obtain ⟨p, q, hA0, hV, rfl, hfz, hnd⟩ := hW
  have hA : DataW.TrodAll enc Try.prog W 0 (fun _ => true) true Try.f9.params.toList args.toList ds p := hA0
  have hsz : (DataW.weightsEach Try.prog Try.f9.params.toList ds).all (· ≤ reachBytes) = true := by
    obtain ⟨rfl, _⟩ := trodVars_none hV
    have h := hsz0
    rw [show (Rows.depgraphNilsSpec).plain.varTypes Try.checked.prog = [] from rfl, List.append_nil, List.append_nil] at h
    exact h
  rw [Try.params9] at hA hval hsz
  obtain ⟨v0, vs0, d0, ds0, p0, q0, hargs, rfl, rfl, h0, r0⟩ := trodAll_cons hA
  obtain ⟨v1, vs1, d1, ds1, p1, q1, rfl, rfl, rfl, h1, r1⟩ := trodAll_cons r0
  obtain ⟨rfl, rfl, rfl⟩ := trodAll_nil r1
  obtain rfl : args = #[v0, v1] := by cases args; simp_all
  obtain ⟨rfl, rfl⟩ := trodVars_none hV
  obtain ⟨a0, rfl, rfl, rfl, w0⟩ := open_string Try.underlying9 (hval 0 9 v0 rfl rfl) h0
  have l0 : a0.data.toList.length ≤ 140737488351232 := by simpa [reachBytes] using sized_string hsz (j := 0) rfl rfl
  clear hA0 hval0
  simp only [List.append_nil] at hW'
  have hlt1 : ∀ x ∈ p1, x.block < W.heap.size := fun x hx => by simpa using hW'.lt x (by simp [hx])
  have back1 : ∀ W', Fr (fun _ => False) W W' → DataW.Trod enc Try.prog W' 0 (fun b => decide (b < W.heap.size)) true 23 v1 d1 p1 := fun W' hf => Go.WideElems.Trod_stays laidOut readable23 known23 h1 (fun x hx => same hf (hlt1 x hx)) (fun x hx => by simpa using hlt1 x hx)
  obtain ⟨fuel1, hf1⟩ := h1
  obtain ⟨o1, n1, c1, rfl⟩ := okWide_slice Try.underlying23 (hval 1 23 v1 rfl rfl)
  obtain ⟨t1, ht1, hb1, hbs1, hbm1, he1⟩ := strs_in hf1
  have hl1 : t1.length * 16 ≤ 140737488355328 := by
    rcases he1 with rfl | ⟨elems, spare, e1, e2⟩
    · simp
    · simp only at e1
      subst e1
      have := sized_slice hsz (j := 1) rfl rfl Try.underlying23
      rw [show Try.prog.bytesOf 9 = 16 by kernel_rfl] at this
      simp only [reachBytes] at this
      omega
  have hwalk := walk a0.data.toList _ t1 W l0 ht1 hl1 hbm1
  rw [show (⟨a0.data.toList.toArray⟩ : ByteArray) = a0 by simp] at hwalk
  refine hwalk.mono fun e W' ⟨he, hg⟩ => ?_
  subst he
  exact ⟨_, rfl, _, _, _, [], [] ++ (p1 ++ ([])), [], hW', (trodAll_cons_mk (shut_bool Try.underlying4 _) trodAll_mk0), (trodAll_cons_mk (shut_string Try.underlying9 w0) (trodAll_cons_mk (back1 _ hg) trodAll_mk0)), rfl, World.keptBut_mono (fun _ f => f.elim) hg.kept, fun h => by cases h⟩

theorem oa : Try.pinned.checked.prog.funcNamed Rows.depgraphNilsRow.func = some 9 := by kernel_rfl
theorem oe : (Rows.depgraphNilsRow.inPlace == Try.pinned.checked.prog.inPlace 9) = true := by kernel_rfl
theorem of_ : (Rows.depgraphNilsRow.unfollowed == Try.pinned.checked.prog.unfollowed 9) = true := by kernel_rfl
theorem og : (Rows.depgraphNilsRow.recurses == Try.pinned.checked.prog.recurses 9) = true := by kernel_rfl
theorem oh : (Rows.depgraphNilsRow.named == Try.pinned.checked.prog.varsNamed 9) = true := by kernel_rfl
theorem oi : laidOutB Try.pinned.checked.prog = true := by kernel_rfl
theorem ob : joinedFacts Try.pinned.checked.prog 9 Try.f9 Rows.depgraphNilsSpec Rows.depgraphNilsRow = true := by
  unfold joinedFacts
  rw [oe, of_, og, oh, oi]
  kernel_rfl
theorem oc : Func.isInstance Try.pinned.checked.prog Try.f9 Rows.depgraphNilsRow.origin Rows.depgraphNilsRow.targs := of_decide_eq_true (by kernel_rfl)
theorem od : Func.isWrapper Try.pinned.checked.prog Try.f9 Rows.depgraphNilsRow.wrapper Rows.depgraphNilsRow.mainSum := by unfold Func.isWrapper; first | (rw [if_pos (by decide +kernel)]; kernel_rfl) | (rw [if_neg (by decide +kernel)]; exact ⟨rfl, rfl⟩)
theorem over : Rows.depgraphNilsRow.holds Try.pinned (OpenSpec.ofChange Rows.depgraphNilsSpec) :=
  OpenClaim.holds_of_wide 9 Try.f9 rfl rfl rfl rfl rfl rfl rfl ⟨rfl, rfl, rfl, rfl, rfl⟩ rfl rfl rfl rfl rfl oa Try.func9 ob oc od
    (fun os started H enc _ => lifted os started H enc)
end Go.Proofs.Ytdnghklfeldbpaa.depgraphNils
namespace Go.Proofs.Ytdnghklfeldbpaa
theorem depgraphNils_holds : Rows.DepgraphNilsSaid := depgraphNils.over
#print axioms depgraphNils_holds
end Go.Proofs.Ytdnghklfeldbpaa
