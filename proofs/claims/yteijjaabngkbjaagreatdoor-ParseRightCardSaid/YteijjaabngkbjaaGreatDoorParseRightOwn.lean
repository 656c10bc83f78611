/- ParseRight returns true for every input, in whatever memory; each argument reads afterwards as it did; the listed tables of the library are tied to the program text. -/
import Derived.Test.YteijjaabngkbjaaGreatDoorRows
import Derived.Test.YteijjaabngkbjaaGreatDoorTie
import Derived.Test.YteijjaabngkbjaaGreatDoorCards
import Derived.Test.YteijjaabngkbjaaGreatDoorPxEB
import Derived.WalkKit
import Derived.ProofKit
import Derived.OpenShut
import Derived.Handy
import Derived.ChangeMaps5
import Derived.WideKeyArgs
import Derived.SizedLaws
import Derived.LaidSub
import Derived.Lib.LaidTab
import Derived.Lay
import Derived.SevenTiedAt
namespace Go.Proofs.YteijjaabngkbjaaGreatDoor.parseRight
open Go.ChangeShapes Go.WideShapes Go.ChangeAt Go.RowKit Go.ChangeMaps
set_option linter.unusedVariables false
set_option linter.unusedSimpArgs false

theorem own : ownKnob Tryz.prog.godebug = none := by kernel_rfl
theorem laidOut : laidOutB Tryz.prog = true := by kernel_rfl
theorem same {W W' : World} (hf : Fr (fun _ => False) W W') {p : MemPlace} (hp : p.block < W.heap.size) : W.sameAt W' p := by
  cases p with
  | cell b off => exact World.cell?_of_block (a := ⟨b, off, none⟩) (hf.block b hp (fun f => f))
  | map b => exact hf.block b hp (fun f => f)

set_option maxRecDepth 100000 in
theorem lifted (os : Os) (started : os.Started) (H : Type) (enc : TypeId × Value → H) :
    ReturnsInHanded {} Tryz.checked os 7 .any (fun w args => (Rows.parseRightSpec.pre enc Tryz.prog Tryz.f7 [] false w args ∧ laidMetH Tryz.prog Rows.parseRightRow.laid w) ∧ sizedMet enc Tryz.prog Tryz.f7 (OpenSpec.ofChange Rows.parseRightSpec) false w args) (Rows.parseRightSpec.post enc Tryz.prog Tryz.f7 false true false false) := by
  refine returnsInHanded_of_change_and (C := Tryz.checked) (X := fun w _ => laidMetH Tryz.prog Rows.parseRightRow.laid w) (fun _ _ _ hh h => h.of_heap hh) own started (by kernel_rfl) Tryz.func7
    (ChangeSpec.witness_shaped (enc := enc) (C := Tryz.checked) (os := os) (X := fun w _ => laidMetH Tryz.prog Rows.parseRightRow.laid w) false (World.laidAll Tryz.prog os Rows.parseRightRow.laid) #[.string ⟨#[]⟩] 8 (World.laidAll_os _ _ _)
      (World.shaped_of_ZipB (by kernel_rfl) (by kernel_rfl)) (by kernel_rfl) (by kernel_rfl) (by kernel_rfl)
      (by rw [MakeChecks.laidMetH_plain _ _ _ (by kernel_rfl)]; exact laidMet_laidAll _ (by kernel_rfl) (by kernel_rfl))) ?_
  intro W base args ds gs before hval0 hW hcnd hsz0 hL _
  have hsz : (DataW.weightsEach Tryz.prog (Tryz.f7.params.toList ++ Rows.parseRightSpec.plain.varTypes Tryz.prog) (ds ++ gs)).all (· ≤ reachBytes) = true := hsz0
  clear hsz0
  have hval : ∀ (j : Nat) t v, Tryz.f7.params[j]? = some t → args[j]? = some v → Value.okWide Tryz.prog W .any base t v := hval0
  have hW' := hW
  obtain ⟨p, q, hA0, hV, rfl, hfz, hnd⟩ := hW
  have hA : DataW.TrodAll enc Tryz.prog W 0 (fun _ => true) true Tryz.f7.params.toList args.toList ds p := hA0
  rw [Tryz.params7] at hA hval hsz
  obtain ⟨v0, vs0, d0, ds0, p0, q0, hargs, rfl, rfl, h0, r0⟩ := trodAll_cons hA
  obtain ⟨rfl, rfl, rfl⟩ := trodAll_nil r0
  obtain rfl : args = #[v0] := by cases args; simp_all
  obtain ⟨rfl, rfl⟩ := trodVars_none hV
  obtain ⟨a0, rfl, rfl, rfl, w0⟩ := open_string Tryz.underlying9 (hval 0 9 v0 rfl rfl) h0
  have l0 : a0.data.toList.length ≤ 140737488351232 := by simpa [reachBytes] using sized_string hsz (j := 0) rfl rfl
  clear hA0 hval0
  simp only [List.append_nil] at hW'
  have ht : F.Tab W := by
    have hL2 : laidMet Tryz.prog Rows.parseRightRow.laid W := by rw [MakeChecks.laidMetH_plain _ _ _ (by kernel_rfl)] at hL; exact hL
    have hL3 := hL2.filter (fun x => x.1 == "internal/strconv.uint64pow10")
    have e : Rows.parseRightRow.laid.filter (fun x => x.1 == "internal/strconv.uint64pow10") = [("internal/strconv.uint64pow10", Lib.tabData .u64 Lib.pow10Tab)] := by kernel_rfl
    rw [e] at hL3
    exact Lib.tabIs_of_head (g := 2) (t := 245) (e := 38) (n := 20) (by kernel_rfl) (by kernel_rfl) Tryz.underlying245 Tryz.underlying38 (by kernel_rfl) (by kernel_rfl) hL3
  have hwalk := walk a0.data.toList W l0 ht
  rw [show (⟨a0.data.toList.toArray⟩ : ByteArray) = a0 by simp] at hwalk
  refine hwalk.mono fun e W' ⟨he, hg⟩ => ?_
  subst he
  exact ⟨_, rfl, _, _, _, [], [] ++ ([]), [], hW', (trodAll_cons_mk (shut_bool Tryz.underlying4 _) trodAll_mk0), (trodAll_cons_mk (shut_string Tryz.underlying9 w0) trodAll_mk0), rfl, World.keptBut_mono (fun _ f => f.elim) hg.kept, fun h => by cases h⟩

theorem oa : Tryz.pinned.checked.prog.funcNamed Rows.parseRightRow.func = some 7 := by kernel_rfl
theorem oe : (Rows.parseRightRow.inPlace == Tryz.pinned.checked.prog.inPlace 7) = true := by kernel_rfl
theorem of_ : (Rows.parseRightRow.unfollowed == Tryz.pinned.checked.prog.unfollowed 7) = true := by kernel_rfl
theorem og : (Rows.parseRightRow.recurses == Tryz.pinned.checked.prog.recurses 7) = true := by kernel_rfl
theorem oh : (Rows.parseRightRow.named == Tryz.pinned.checked.prog.varsNamed 7) = true := by kernel_rfl
theorem oi : laidOutB Tryz.pinned.checked.prog = true := by kernel_rfl
theorem ob : joinedFacts Tryz.pinned.checked.prog 7 Tryz.f7 Rows.parseRightSpec Rows.parseRightRow = true := by
  unfold joinedFacts
  rw [oe, of_, og, oh, oi]
  kernel_rfl
theorem oc : Func.isInstance Tryz.pinned.checked.prog Tryz.f7 Rows.parseRightRow.origin Rows.parseRightRow.targs := of_decide_eq_true (by kernel_rfl)
theorem od : Func.isWrapper Tryz.pinned.checked.prog Tryz.f7 Rows.parseRightRow.wrapper Rows.parseRightRow.mainSum := by unfold Func.isWrapper; first | (rw [if_pos (by decide +kernel)]; kernel_rfl) | (rw [if_neg (by decide +kernel)]; exact ⟨rfl, rfl⟩)
theorem over : Rows.parseRightRow.holds Tryz.pinned (OpenSpec.ofChange Rows.parseRightSpec) :=
  OpenClaim.holds_of_wide 7 Tryz.f7 rfl rfl rfl rfl rfl rfl rfl ⟨rfl, rfl, rfl, rfl, rfl⟩ rfl rfl rfl rfl rfl oa Tryz.func7 ob oc od
    (fun os started H enc _ => lifted os started H enc)
theorem ca : OpenClaim.wfByText (OpenSpec.ofChange Rows.parseRightSpec) Rows.parseRightRow = true := by kernel_rfl
theorem cb : Tryz.pinned.checked.prog.mainIs = some ((true, "61dca71b7787afa5168315996e54971a174420890ebcc97d80929271265d6818").fst, (true, "61dca71b7787afa5168315996e54971a174420890ebcc97d80929271265d6818").snd.toList) := by kernel_rfl
theorem cc : false = Rows.parseRightRow.goesBy Tryz.pinned.checked.prog := by kernel_rfl
theorem cd : Tryz.prog.funcNamed "foundry/foundrylaw07.ParseRight" = some 7 := by kernel_rfl
theorem ce : true = Tryz.pinned.checked.prog.looks [] := by kernel_rfl
theorem cf : ([9].all fun u => !Tryz.prog.wantsStandIn u) = true := by kernel_rfl
theorem card_holds : Rows.ParseRightCardSaid :=
  Claim7.holds_tied_plain_at .later [] [.data, .data, .data] true (true, "61dca71b7787afa5168315996e54971a174420890ebcc97d80929271265d6818") true over (fun _ h => by cases h) ca (fun _ h => by cases h) parseRight_row_tie rfl ⟨rfl, rfl⟩ cb rfl
    (fun f fn hf hfn => by
      obtain rfl : f = 7 := Option.some.inj (cd.symm.trans hf) |>.symm
      obtain rfl : fn = Tryz.f7 := (Option.some.inj (Tryz.func7.symm.trans hfn)).symm
      exact ⟨ce, fun j t ht => by
        rw [Tryz.params7] at ht
        have hm : t ∈ [9] := by simpa using Array.mem_of_getElem? ht
        have hall := cf
        exact (show Tryz.prog.wantsStandIn t = false by simpa using List.all_eq_true.1 hall t hm)⟩)
    cc
end Go.Proofs.YteijjaabngkbjaaGreatDoor.parseRight
namespace Go.Proofs.YteijjaabngkbjaaGreatDoor
theorem parseRight_holds : Rows.ParseRightCardSaid := parseRight.card_holds
#print axioms parseRight_holds
end Go.Proofs.YteijjaabngkbjaaGreatDoor
