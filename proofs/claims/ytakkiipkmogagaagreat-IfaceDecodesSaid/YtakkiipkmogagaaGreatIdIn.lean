/- A []byte that comes in. -/
import Derived.Test.YtakkiipkmogagaaGreatTyIn
import Derived.Test.YtakkiipkmogagaaGreatIcBll
import Derived.SizedLaws
namespace Go.Proofs.YtakkiipkmogagaaGreat.Ty
open Go.RowKit Go.WideShapes Go.ChangeShapes Go.ChangeAt Go.Deep
set_option linter.unusedSimpArgs false
set_option linter.unusedVariables false
variable {H : Type} {enc : TypeId × Value → H} {W : World}
theorem cells_u8 : Tryz.prog.cellsOf 5 = 1 := by kernel_rfl
theorem wf_u8 {z : Int} (h : (Lit.int .u8 z).wf = true) : 0 ≤ z ∧ z ≤ 255 := by
  have : 0 ≤ z ∧ z ≤ 255 := by simpa [Lit.wf, IntKind.min, IntKind.max, IntKind.signed, IntKind.bits] using h
  exact this
theorem bytes_arg {fuel : Nat} {c : Value} {x : DataW H × List MemPlace} (h : DataW.trod enc Tryz.prog W 0 (fun _ => true) true fuel 22 [c] = some x) :
    ∃ (l : List UInt8), Wi.Sl W c (Wi.bc l) := by
  rcases open_sl Tryz.underlying22 h with rfl | ⟨a, len, cap, n, el, rest, hn, rfl, hl, hm, hx, hlen, hel⟩
  · exact ⟨[], Wi.Sl.nil _⟩
  · rw [cells_u8] at hel
    have hpl : 0 < len → a.spot = none := by
      intro h0
      obtain ⟨y, cs, _, hc, ht⟩ := hel 0 h0
      obtain ⟨z, e0, _, _⟩ := DataW.trod_int Tryz.underlying5 ht
      subst e0
      obtain ⟨_, _, hcc⟩ := World.cells?_some hc
      have := hcc 0 (by omega)
      rw [show a.add (0 * 1) = a by simp [Addr.add]] at this
      exact Addr_plain (this.trans rfl)
    have key : ∀ (m i : Nat), i + m = len → ∃ r : List UInt8, r.length = m ∧ ∀ (j : Nat) (p : UInt8), r[j]? = some p → a.spot = none ∧ W.cell? ⟨a.block, a.off + (i + j), none⟩ = some (.int .u8 (p.toNat : Int)) := by
      intro m
      induction m with
      | zero => intro i _; exact ⟨[], rfl, by simp⟩
      | succ m ihm =>
        intro i hi
        obtain ⟨r, r1, r2⟩ := ihm (i + 1) (by omega)
        obtain ⟨y, cs, hy, hc, ht⟩ := hel i (by omega)
        obtain ⟨hcl, _, hcc⟩ := World.cells?_some hc
        obtain ⟨z, e0, rfl, w0⟩ := DataW.trod_int Tryz.underlying5 ht
        subst e0
        have h0 := hcc 0 (by omega)
        have hsp : a.spot = none := hpl (by omega)
        have hz := wf_u8 w0
        have ez : ((UInt8.ofNat z.toNat).toNat : Int) = z := by rw [UInt8.toNat_ofNat']; omega
        refine ⟨UInt8.ofNat z.toNat :: r, by simp [r1], fun j p hj => ⟨hsp, ?_⟩⟩
        cases j with
        | zero =>
          obtain rfl : UInt8.ofNat z.toNat = p := by simpa using hj
          obtain ⟨b, off, spot⟩ := a
          simp only at hsp
          subst hsp
          rw [Addr.add_lit, Addr.add_lit] at h0
          rw [ez]
          simpa using h0
        | succ j =>
          have := (r2 j p (by simpa using hj)).2
          rw [show i + 1 + j = i + (j + 1) by omega] at this
          exact this
    obtain ⟨r, r1, r2⟩ := key len 0 (by omega)
    refine ⟨r, some a, cap, by rw [Wi.bc_length, r1], by rw [Wi.bc_length, r1]; exact hl, hm, (fun h => by cases h), ?_⟩
    by_cases h0 : len = 0
    · left
      rw [List.eq_nil_of_length_eq_zero (show r.length = 0 by rw [r1, h0])]
      rfl
    · right
      have hsp := hpl (by omega)
      obtain ⟨b, off, spot⟩ := a
      simp only at hsp
      subst hsp
      refine ⟨b, off, rfl, fun i v hv => ?_⟩
      unfold Wi.bc at hv
      rw [List.getElem?_map] at hv
      cases hp : r[i]? with
      | none => rw [hp] at hv; cases hv
      | some p =>
        rw [hp] at hv
        simp only [Option.map_some, Option.some.injEq] at hv
        subst hv
        have := (r2 i p hp).2
        simpa using this
theorem bytes_size {fuel : Nat} {l : List UInt8} {c : Value} {x : DataW H × List MemPlace} (ht : DataW.trod enc Tryz.prog W 0 (fun _ => true) true fuel 22 [c] = some x) (hI : Wi.Sl W c (Wi.bc l)) (hw : ∀ n ∈ x.1.weights Tryz.prog 22, n ≤ reachBytes) : l.length ≤ 140737488351232 := by
  obtain ⟨ao, cap, rfl, _⟩ := hI
  rw [Wi.bc_length] at ht
  rcases open_sl Tryz.underlying22 ht with h0 | ⟨a, len, cap2, n2, el, rest, hfu, h0, _, _, hx, hl, hel⟩
  · simp only [Value.slice.injEq] at h0
    rw [h0.2.1]
    simp
  · simp only [Value.slice.injEq] at h0
    have hb : Tryz.prog.bytesOf 5 = 1 := by kernel_rfl
    have e : x.1.weights Tryz.prog 22 = (el.length + rest.length) * Tryz.prog.bytesOf 5 :: (DataW.weightsAll Tryz.prog 5 (el.map (·.1)) ++ DataW.weightsAll Tryz.prog 5 (rest.map (·.1))) := by
      rw [hx]
      simp only [DataW.weights, Tryz.underlying22, List.length_map]
    rw [e] at hw
    have := hw _ (List.mem_cons_self ..)
    rw [hb] at this
    unfold reachBytes at this
    omega
end Go.Proofs.YtakkiipkmogagaaGreat.Ty
