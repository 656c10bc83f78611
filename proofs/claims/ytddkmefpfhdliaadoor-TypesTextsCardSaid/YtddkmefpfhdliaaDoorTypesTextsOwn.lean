/- TypesTexts returns true for every input, in whatever memory; each argument reads afterwards as it did; the listed tables of the library are tied to the program text. -/
import Derived.Test.YtddkmefpfhdliaaDoorRows
import Derived.Test.YtddkmefpfhdliaaDoorTie
import Derived.Test.YtddkmefpfhdliaaDoorCards
import Derived.Test.YtddkmefpfhdliaaDoorTyV5
import Derived.Test.YtddkmefpfhdliaaDoorTyIn
import Derived.WalkKit
import Derived.ProofKit
import Derived.OpenShut
import Derived.Handy
import Derived.ChangeMaps5
import Derived.WideKeyArgs
import Derived.SizedLaws
import Derived.LaidSub
import Derived.Lib.LaidTab
import Derived.Lay
import Derived.SevenTiedAt
namespace Go.Proofs.YtddkmefpfhdliaaDoor.typesTexts
open Go.ChangeShapes Go.WideShapes Go.ChangeAt Go.RowKit Go.ChangeMaps
set_option linter.unusedVariables false
set_option linter.unusedSimpArgs false

theorem own : ownKnob Tryd.prog.godebug = none := by kernel_rfl
theorem laidOut : laidOutB Tryd.prog = true := by kernel_rfl
theorem readable24 : Tryd.prog.readableRec 24 = true := by kernel_rfl
theorem known24 : 24 < Tryd.prog.types.size := of_decide_eq_true (by kernel_rfl)
theorem readable40 : Tryd.prog.readableRec 40 = true := by kernel_rfl
theorem known40 : 40 < Tryd.prog.types.size := of_decide_eq_true (by kernel_rfl)
theorem same {W W' : World} (hf : Fr (fun _ => False) W W') {p : MemPlace} (hp : p.block < W.heap.size) : W.sameAt W' p := by
  cases p with
  | cell b off => exact World.cell?_of_block (a := ⟨b, off, none⟩) (hf.block b hp (fun f => f))
  | map b => exact hf.block b hp (fun f => f)

set_option maxRecDepth 100000 in
theorem lifted (os : Os) (started : os.Started) (H : Type) (enc : TypeId × Value → H) :
    ReturnsInHanded {} Tryd.checked os 7 .any (fun w args => (Rows.typesTextsSpec.pre enc Tryd.prog Tryd.f7 [] false w args ∧ laidMetH Tryd.prog Rows.typesTextsRow.laid w) ∧ sizedMet enc Tryd.prog Tryd.f7 (OpenSpec.ofChange Rows.typesTextsSpec) false w args) (Rows.typesTextsSpec.post enc Tryd.prog Tryd.f7 false true false false) := by
  refine returnsInHanded_of_change_and (C := Tryd.checked) (X := fun w _ => laidMetH Tryd.prog Rows.typesTextsRow.laid w) (fun _ _ _ hh h => h.of_heap hh) own started (by kernel_rfl) Tryd.func7
    (ChangeSpec.witness_shaped (enc := enc) (C := Tryd.checked) (os := os) (X := fun w _ => laidMetH Tryd.prog Rows.typesTextsRow.laid w) false (World.laidAll Tryd.prog os Rows.typesTextsRow.laid) #[.agg #[.int .i64 0, .string ⟨#[]⟩, .int .i64 0, .int .u64 0, .slice none 0 0], .agg #[.int .i64 0, .string ⟨#[]⟩, .int .i64 0, .int .u64 0, .slice none 0 0], .agg #[.int .i64 0, .int .u64 0], .agg #[.int .i64 0, .int .u64 0]] 8 (World.laidAll_os _ _ _)
      (World.shaped_of_ZipB (by kernel_rfl) (by kernel_rfl)) (by kernel_rfl) (by kernel_rfl) (by kernel_rfl)
      (by rw [MakeChecks.laidMetH_plain _ _ _ (by kernel_rfl)]; exact laidMet_laidAll _ (by kernel_rfl) (by kernel_rfl))) ?_
  intro W base args ds gs before hval0 hW hcnd hsz0 hL _
  have hsz : (DataW.weightsEach Tryd.prog (Tryd.f7.params.toList ++ Rows.typesTextsSpec.plain.varTypes Tryd.prog) (ds ++ gs)).all (· ≤ reachBytes) = true := hsz0
  clear hsz0
  have hval : ∀ (j : Nat) t v, Tryd.f7.params[j]? = some t → args[j]? = some v → Value.okWide Tryd.prog W .any base t v := hval0
  have hW' := hW
  obtain ⟨p, q, hA0, hV, rfl, hfz, hnd⟩ := hW
  have hA : DataW.TrodAll enc Tryd.prog W 0 (fun _ => true) true Tryd.f7.params.toList args.toList ds p := hA0
  rw [Tryd.params7] at hA hval hsz
  obtain ⟨v0, vs0, d0, ds0, p0, q0, hargs, rfl, rfl, h0, r0⟩ := trodAll_cons hA
  obtain ⟨v1, vs1, d1, ds1, p1, q1, rfl, rfl, rfl, h1, r1⟩ := trodAll_cons r0
  obtain ⟨v2, vs2, d2, ds2, p2, q2, rfl, rfl, rfl, h2, r2⟩ := trodAll_cons r1
  obtain ⟨v3, vs3, d3, ds3, p3, q3, rfl, rfl, rfl, h3, r3⟩ := trodAll_cons r2
  obtain ⟨rfl, rfl, rfl⟩ := trodAll_nil r3
  obtain rfl : args = #[v0, v1, v2, v3] := by cases args; simp_all
  obtain ⟨rfl, rfl⟩ := trodVars_none hV
  clear hA0 hval0
  simp only [List.append_nil] at hW'
  have hlt0 : ∀ x ∈ p0, x.block < W.heap.size := fun x hx => by simpa using hW'.lt x (by simp [hx])
  have back0 : ∀ W', Fr (fun _ => False) W W' → DataW.Trod enc Tryd.prog W' 0 (fun b => decide (b < W.heap.size)) true 40 v0 d0 p0 := fun W' hf => Go.WideElems.Trod_stays laidOut readable40 known40 h0 (fun x hx => same hf (hlt0 x hx)) (fun x hx => by simpa using hlt0 x hx)
  obtain ⟨fuel0, hf0⟩ := h0
  obtain ⟨it0, hm0, ok0, hb0⟩ := Ty.item_arg hf0
  have hlt1 : ∀ x ∈ p1, x.block < W.heap.size := fun x hx => by simpa using hW'.lt x (by simp [hx])
  have back1 : ∀ W', Fr (fun _ => False) W W' → DataW.Trod enc Tryd.prog W' 0 (fun b => decide (b < W.heap.size)) true 40 v1 d1 p1 := fun W' hf => Go.WideElems.Trod_stays laidOut readable40 known40 h1 (fun x hx => same hf (hlt1 x hx)) (fun x hx => by simpa using hlt1 x hx)
  obtain ⟨fuel1, hf1⟩ := h1
  obtain ⟨it1, hm1, ok1, hb1⟩ := Ty.item_arg hf1
  have hlt2 : ∀ x ∈ p2, x.block < W.heap.size := fun x hx => by simpa using hW'.lt x (by simp [hx])
  have back2 : ∀ W', Fr (fun _ => False) W W' → DataW.Trod enc Tryd.prog W' 0 (fun b => decide (b < W.heap.size)) true 24 v2 d2 p2 := fun W' hf => Go.WideElems.Trod_stays laidOut readable24 known24 h2 (fun x hx => same hf (hlt2 x hx)) (fun x hx => by simpa using hlt2 x hx)
  obtain ⟨fuel2, hf2⟩ := h2
  obtain ⟨vt2, vb2, hm2, iv2, uv2⟩ := Ty.val_arg hf2
  subst hm2
  have hlt3 : ∀ x ∈ p3, x.block < W.heap.size := fun x hx => by simpa using hW'.lt x (by simp [hx])
  have back3 : ∀ W', Fr (fun _ => False) W W' → DataW.Trod enc Tryd.prog W' 0 (fun b => decide (b < W.heap.size)) true 24 v3 d3 p3 := fun W' hf => Go.WideElems.Trod_stays laidOut readable24 known24 h3 (fun x hx => same hf (hlt3 x hx)) (fun x hx => by simpa using hlt3 x hx)
  obtain ⟨fuel3, hf3⟩ := h3
  obtain ⟨vt3, vb3, hm3, iv3, uv3⟩ := Ty.val_arg hf3
  subst hm3
  have ht : F.Tab W := by
    have hL2 : laidMet Tryd.prog Rows.typesTextsRow.laid W := by rw [MakeChecks.laidMetH_plain _ _ _ (by kernel_rfl)] at hL; exact hL
    have hL3 := hL2.filter (fun x => x.1 == "internal/strconv.uint64pow10")
    have e : Rows.typesTextsRow.laid.filter (fun x => x.1 == "internal/strconv.uint64pow10") = [("internal/strconv.uint64pow10", Lib.tabData .u64 Lib.pow10Tab)] := by kernel_rfl
    rw [e] at hL3
    exact Lib.tabIs_of_head (g := 1) (t := 99) (e := 22) (n := 20) (by kernel_rfl) (by kernel_rfl) Tryd.underlying99 Tryd.underlying22 (by kernel_rfl) (by kernel_rfl) hL3
  have hwalk := walk _ it0 _ it1 vt2 vb2 vt3 vb3 W hm0 ok0 hm1 ok1 ⟨iv2, uv2⟩ ⟨iv3, uv3⟩ ht
  refine hwalk.mono fun e W' ⟨he, hg⟩ => ?_
  subst he
  exact ⟨_, rfl, _, _, _, [], p0 ++ (p1 ++ (p2 ++ (p3 ++ ([])))), [], hW', (trodAll_cons_mk (shut_bool Tryd.underlying4 _) trodAll_mk0), (trodAll_cons_mk (back0 _ hg) (trodAll_cons_mk (back1 _ hg) (trodAll_cons_mk (back2 _ hg) (trodAll_cons_mk (back3 _ hg) trodAll_mk0)))), rfl, World.keptBut_mono (fun _ f => f.elim) hg.kept, fun h => by cases h⟩

theorem oa : Tryd.pinned.checked.prog.funcNamed Rows.typesTextsRow.func = some 7 := by kernel_rfl
theorem oe : (Rows.typesTextsRow.inPlace == Tryd.pinned.checked.prog.inPlace 7) = true := by kernel_rfl
theorem of_ : (Rows.typesTextsRow.unfollowed == Tryd.pinned.checked.prog.unfollowed 7) = true := by kernel_rfl
theorem og : (Rows.typesTextsRow.recurses == Tryd.pinned.checked.prog.recurses 7) = true := by kernel_rfl
theorem oh : (Rows.typesTextsRow.named == Tryd.pinned.checked.prog.varsNamed 7) = true := by kernel_rfl
theorem oi : laidOutB Tryd.pinned.checked.prog = true := by kernel_rfl
theorem ob : joinedFacts Tryd.pinned.checked.prog 7 Tryd.f7 Rows.typesTextsSpec Rows.typesTextsRow = true := by
  unfold joinedFacts
  rw [oe, of_, og, oh, oi]
  kernel_rfl
theorem oc : Func.isInstance Tryd.pinned.checked.prog Tryd.f7 Rows.typesTextsRow.origin Rows.typesTextsRow.targs := of_decide_eq_true (by kernel_rfl)
theorem od : Func.isWrapper Tryd.pinned.checked.prog Tryd.f7 Rows.typesTextsRow.wrapper Rows.typesTextsRow.mainSum := by unfold Func.isWrapper; first | (rw [if_pos (by decide +kernel)]; kernel_rfl) | (rw [if_neg (by decide +kernel)]; exact ⟨rfl, rfl⟩)
theorem over : Rows.typesTextsRow.holds Tryd.pinned (OpenSpec.ofChange Rows.typesTextsSpec) :=
  OpenClaim.holds_of_wide 7 Tryd.f7 rfl rfl rfl rfl rfl rfl rfl ⟨rfl, rfl, rfl, rfl, rfl⟩ rfl rfl rfl rfl rfl oa Tryd.func7 ob oc od
    (fun os started H enc _ => lifted os started H enc)
theorem ca : OpenClaim.wfByText (OpenSpec.ofChange Rows.typesTextsSpec) Rows.typesTextsRow = true := by kernel_rfl
theorem cb : Tryd.pinned.checked.prog.mainIs = some ((true, "a63a4d7b60dc1ac3ab436d108f20ea16d2e71ec61920f5ca424192880c97044f").fst, (true, "a63a4d7b60dc1ac3ab436d108f20ea16d2e71ec61920f5ca424192880c97044f").snd.toList) := by kernel_rfl
theorem cc : false = Rows.typesTextsRow.goesBy Tryd.pinned.checked.prog := by kernel_rfl
theorem cd : Tryd.prog.funcNamed "foundry/foundrylaw08.TypesTexts" = some 7 := by kernel_rfl
theorem ce : false = Tryd.pinned.checked.prog.looks [] := by kernel_rfl
theorem cf : ([40, 40, 24, 24].all fun u => !Tryd.prog.wantsStandIn u) = true := by kernel_rfl
theorem card_holds : Rows.TypesTextsCardSaid :=
  Claim7.holds_tied_plain_at .later [] [.data, .data, .data] true (true, "a63a4d7b60dc1ac3ab436d108f20ea16d2e71ec61920f5ca424192880c97044f") false over (fun _ h => by cases h) ca (fun _ h => by cases h) typesTexts_row_tie rfl ⟨rfl, rfl⟩ cb rfl
    (fun f fn hf hfn => by
      obtain rfl : f = 7 := Option.some.inj (cd.symm.trans hf) |>.symm
      obtain rfl : fn = Tryd.f7 := (Option.some.inj (Tryd.func7.symm.trans hfn)).symm
      exact ⟨ce, fun j t ht => by
        rw [Tryd.params7] at ht
        have hm : t ∈ [40, 40, 24, 24] := by simpa using Array.mem_of_getElem? ht
        have hall := cf
        exact (show Tryd.prog.wantsStandIn t = false by simpa using List.all_eq_true.1 hall t hm)⟩)
    cc
end Go.Proofs.YtddkmefpfhdliaaDoor.typesTexts
namespace Go.Proofs.YtddkmefpfhdliaaDoor
theorem typesTexts_holds : Rows.TypesTextsCardSaid := typesTexts.card_holds
#print axioms typesTexts_holds
end Go.Proofs.YtddkmefpfhdliaaDoor
