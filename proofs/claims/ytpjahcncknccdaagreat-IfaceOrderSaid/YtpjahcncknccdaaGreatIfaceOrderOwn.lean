/- IfaceOrder returns true for every input, in whatever memory; each argument reads afterwards as it did. -/
import Derived.Test.YtpjahcncknccdaaGreatRows
import Derived.Test.YtpjahcncknccdaaGreatIcY
import Derived.Test.YtpjahcncknccdaaGreatTrIn
import Derived.Test.YtpjahcncknccdaaGreatFoIn
import Derived.WalkKit
import Derived.ProofKit
import Derived.OpenShut
import Derived.JoinedCond
import Derived.WideKeyArgs
import Derived.SizedLaws
import Derived.ChangeSame
import Derived.ReadAgain
import Derived.ChangeMaps5
namespace Go.Proofs.YtpjahcncknccdaaGreat.ifaceOrder
open Go.ChangeShapes Go.WideShapes Go.ChangeAt Go.RowKit Go.ChangeMaps
set_option linter.unusedVariables false
set_option linter.unusedSimpArgs false

theorem own : ownKnob Tryz.prog.godebug = none := by kernel_rfl
theorem laidOut : laidOutB Tryz.prog = true := by kernel_rfl
theorem readable39 : Tryz.prog.readableRec 39 = true := by kernel_rfl
theorem known39 : 39 < Tryz.prog.types.size := of_decide_eq_true (by kernel_rfl)
theorem readable40 : Tryz.prog.readableRec 40 = true := by kernel_rfl
theorem known40 : 40 < Tryz.prog.types.size := of_decide_eq_true (by kernel_rfl)
theorem same {W W' : World} (hf : Fr (fun _ => False) W W') {p : MemPlace} (hp : p.block < W.heap.size) : W.sameAt W' p := by
  cases p with
  | cell b off => exact World.cell?_of_block (a := ⟨b, off, none⟩) (hf.block b hp (fun f => f))
  | map b => exact hf.block b hp (fun f => f)

set_option maxRecDepth 100000 in
theorem lifted (os : Os) (started : os.Started) (H : Type) (enc : TypeId × Value → H) :
    ReturnsInHanded {} Tryz.checked os 5 .any (Rows.ifaceOrderSpec.pre6 enc Tryz.prog Tryz.f5 Rows.ifaceOrderRow.domain false) (Rows.ifaceOrderSpec.post enc Tryz.prog Tryz.f5 false true false false) := by
  refine returnsInHanded_of_change_sized (C := Tryz.checked) own started (by kernel_rfl) Tryz.func5
    (ChangeSpec.witness6 (enc := enc) (C := Tryz.checked) false ⟨#[], #[.agg #[.string ⟨#[]⟩, .slice none 0 0, .slice none 0 0], .slice none 0 0, .int .i64 0], []⟩ 8 (by kernel_rfl) (by kernel_rfl) (by kernel_rfl) (by kernel_rfl)) ?_
  intro W base args ds gs before hval0 hW _ hsz0 _
  have hval : ∀ (j : Nat) t v, Tryz.f5.params[j]? = some t → args[j]? = some v → Value.okWide Tryz.prog W .any base t v := hval0
  have hW' := hW
  obtain ⟨p, q, hA0, hV, rfl, hfz, hnd⟩ := hW
  have hA : DataW.TrodAll enc Tryz.prog W 0 (fun _ => true) true Tryz.f5.params.toList args.toList ds p := hA0
  have hsz : (DataW.weightsEach Tryz.prog Tryz.f5.params.toList ds).all (· ≤ reachBytes) = true := by
    obtain ⟨rfl, _⟩ := trodVars_none hV
    have h := hsz0
    rw [show (Rows.ifaceOrderSpec).plain.varTypes Tryz.checked.prog = [] from rfl, List.append_nil, List.append_nil] at h
    exact h
  rw [Tryz.params5] at hA hval hsz
  obtain ⟨v0, vs0, d0, ds0, p0, q0, hargs, rfl, rfl, h0, r0⟩ := trodAll_cons hA
  obtain ⟨v1, vs1, d1, ds1, p1, q1, rfl, rfl, rfl, h1, r1⟩ := trodAll_cons r0
  obtain ⟨v2, vs2, d2, ds2, p2, q2, rfl, rfl, rfl, h2, r2⟩ := trodAll_cons r1
  obtain ⟨rfl, rfl, rfl⟩ := trodAll_nil r2
  obtain rfl : args = #[v0, v1, v2] := by cases args; simp_all
  obtain ⟨rfl, rfl⟩ := trodVars_none hV
  obtain ⟨a2, rfl, rfl, rfl, w2⟩ := open_int Tryz.underlying3 (hval 2 3 v2 rfl rfl) h2
  clear hA0 hval0
  simp only [List.append_nil] at hW'
  have hlt0 : ∀ x ∈ p0, x.block < W.heap.size := fun x hx => by simpa using hW'.lt x (by simp [hx])
  have back0 : ∀ W', Fr (fun _ => False) W W' → DataW.Trod enc Tryz.prog W' 0 (fun b => decide (b < W.heap.size)) true 39 v0 d0 p0 := fun W' hf => Go.WideElems.Trod_stays laidOut readable39 known39 h0 (fun x hx => same hf (hlt0 x hx)) (fun x hx => by simpa using hlt0 x hx)
  obtain ⟨fuel0, hf0⟩ := h0
  obtain ⟨m0, hm0, om0, hb0⟩ := In.mo_arg hf0
  have hlt1 : ∀ x ∈ p1, x.block < W.heap.size := fun x hx => by simpa using hW'.lt x (by simp [hx])
  have back1 : ∀ W', Fr (fun _ => False) W W' → DataW.Trod enc Tryz.prog W' 0 (fun b => decide (b < W.heap.size)) true 40 v1 d1 p1 := fun W' hf => Go.WideElems.Trod_stays laidOut readable40 known40 h1 (fun x hx => same hf (hlt1 x hx)) (fun x hx => by simpa using hlt1 x hx)
  obtain ⟨fuel1, hf1⟩ := h1
  obtain ⟨o1, n1, c1, rfl⟩ := okWide_slice Tryz.underlying40 (hval 1 40 v1 rfl rfl)
  obtain ⟨l1, hm1, ok1, hb1⟩ := Fo.ifaces_arg hf1
  have hwalk := walk _ m0 _ l1 a2 W hm0 om0 hm1 ok1 w2
  refine hwalk.mono fun e W' ⟨he, hg⟩ => ?_
  subst he
  exact ⟨_, rfl, _, _, _, [], p0 ++ (p1 ++ ([] ++ ([]))), [], hW', (trodAll_cons_mk (shut_bool Tryz.underlying4 _) trodAll_mk0), (trodAll_cons_mk (back0 _ hg) (trodAll_cons_mk (back1 _ hg) (trodAll_cons_mk (shut_int Tryz.underlying3 w2) trodAll_mk0))), rfl, World.keptBut_mono (fun _ f => f.elim) hg.kept, fun h => by cases h⟩

theorem oa : Tryz.pinned.checked.prog.funcNamed Rows.ifaceOrderRow.func = some 5 := by kernel_rfl
theorem oe : (Rows.ifaceOrderRow.inPlace == Tryz.pinned.checked.prog.inPlace 5) = true := by kernel_rfl
theorem of_ : (Rows.ifaceOrderRow.unfollowed == Tryz.pinned.checked.prog.unfollowed 5) = true := by kernel_rfl
theorem og : (Rows.ifaceOrderRow.recurses == Tryz.pinned.checked.prog.recurses 5) = true := by kernel_rfl
theorem oh : (Rows.ifaceOrderRow.named == Tryz.pinned.checked.prog.varsNamed 5) = true := by kernel_rfl
theorem oi : laidOutB Tryz.pinned.checked.prog = true := by kernel_rfl
theorem ob : joinedFacts Tryz.pinned.checked.prog 5 Tryz.f5 Rows.ifaceOrderSpec Rows.ifaceOrderRow = true := by
  unfold joinedFacts
  rw [oe, of_, og, oh, oi]
  kernel_rfl
theorem oc : Func.isInstance Tryz.pinned.checked.prog Tryz.f5 Rows.ifaceOrderRow.origin Rows.ifaceOrderRow.targs := of_decide_eq_true (by kernel_rfl)
theorem od : Func.isWrapper Tryz.pinned.checked.prog Tryz.f5 Rows.ifaceOrderRow.wrapper Rows.ifaceOrderRow.mainSum := by unfold Func.isWrapper; first | (rw [if_pos (by decide +kernel)]; kernel_rfl) | (rw [if_neg (by decide +kernel)]; exact ⟨rfl, rfl⟩)
theorem over : Rows.ifaceOrderRow.holds Tryz.pinned (OpenSpec.ofChange Rows.ifaceOrderSpec) :=
  OpenClaim.holds_of_wide 5 Tryz.f5 rfl rfl rfl rfl rfl rfl rfl ⟨rfl, rfl, rfl, rfl, rfl⟩ rfl rfl rfl rfl rfl oa Tryz.func5 ob oc od
    (fun os started H enc _ => lifted os started H enc)
end Go.Proofs.YtpjahcncknccdaaGreat.ifaceOrder
namespace Go.Proofs.YtpjahcncknccdaaGreat
theorem ifaceOrder_holds : Rows.IfaceOrderSaid := ifaceOrder.over
#print axioms ifaceOrder_holds
end Go.Proofs.YtpjahcncknccdaaGreat
