/- The document's SameIface, of one and the same. -/
import Derived.Test.YtpjahcncknccdaaGreatIcE
import Derived.Test.YtpjahcncknccdaaGreatTyH2
namespace Go.Proofs.YtpjahcncknccdaaGreat.Fo.Ic
open Go.RowKit Te
set_option linter.unusedSimpArgs false
set_option linter.unusedVariables false
set_option maxRecDepth 20000

set_option maxHeartbeats 2000000 in
theorem rsame_eq (f : Ty.Fc) (vf vg : Value) (w : World) (hf : Ty.FcI w f vf) (hg : Ty.FcI w f vg) : Calls Tryz.prog 15 #[vf, vg] w fun e w' => e = .returned (.bool true) ∧ Fr FN w w' := by
  obtain ⟨nm, l⟩ := f
  obtain ⟨ao, ca, rfl, h1⟩ := hf
  obtain ⟨bo, cb, rfl, h2⟩ := hg
  simp only at h1 h2 ⊢
  have m1 := h1.1
  have m2 : ca ≤ 9223372036854775807 := by have := h1.2.1; unfold maxLen at this; omega
  have m3 := h2.1
  have m4 : cb ≤ 9223372036854775807 := by have := h2.2.1; unfold maxLen at this; omega
  obtain ⟨V, hV⟩ : ∃ V, V = (w.alloc (.cells #[ct nm, .slice ao l.length ca] 24)).alloc (.cells #[ct nm, .slice bo l.length cb] 24) := ⟨_, rfl⟩
  have fV : Fr FN w V := by rw [hV]; exact (Fr.alloc _ _ _).same (Fr.alloc _ _ _)
  have hA : V.heap[w.heap.size]? = some (.cells #[ct nm, .slice ao l.length ca] 24 (0, 0)) := by rw [hV]; exact (alloc_old _ _ _ (by simp)).trans (alloc_new _ _)
  have hB : V.heap[w.heap.size + 1]? = some (.cells #[ct nm, .slice bo l.length cb] 24 (0, 0)) := by rw [hV]; exact alloc_at _ _ _ (by simp)
  have boxes : ∀ u, Fr FN V u → u.cell? ⟨w.heap.size, 0, none⟩ = some (ct nm) ∧ u.cell? ⟨w.heap.size, 1, none⟩ = some (.slice ao l.length ca) ∧ u.cell? ⟨w.heap.size + 1, 0, none⟩ = some (ct nm) ∧ u.cell? ⟨w.heap.size + 1, 1, none⟩ = some (.slice bo l.length cb) := fun u hu => by
    have p := hu.heap hA (fun f => f)
    have q := hu.heap hB (fun f => f)
    exact ⟨cell_of_row _ _ 0 _ _ _ p, cell_of_row _ _ 1 _ _ _ p, cell_of_row _ _ 0 _ _ _ q, cell_of_row _ _ 1 _ _ _ q⟩
  have boxesH : Hidden (∀ u, Fr FN V u → u.cell? ⟨w.heap.size, 0, none⟩ = some (ct nm) ∧ u.cell? ⟨w.heap.size, 1, none⟩ = some (.slice ao l.length ca) ∧ u.cell? ⟨w.heap.size + 1, 0, none⟩ = some (ct nm) ∧ u.cell? ⟨w.heap.size + 1, 1, none⟩ = some (.slice bo l.length cb)) := boxes
  have h1H : Hidden (Ty.ItL V ao ca l) := h1.keep fV
  have h2H : Hidden (Ty.ItL V bo cb l) := h2.keep fV
  have fVH : Hidden (Fr FN w V) := fV
  have hVH : Hidden (V = _) := hV
  obtain ⟨a0, a1, a2, a3⟩ := boxes V (Fr.refl _ _)
  rw [hV] at a0 a1 a2 a3
  clear h1 h2 fV hA hB boxes hV
  go_enter Tryz.func15, Tryz.ntmps15
  go_wp2_with fail
  rw [← (show V = _ from hVH)]
  go_loopg [5] l.length (fun g iv wr => ∃ j : Nat, iv = ci (j : Int) ∧ j ≤ l.length ∧ g = l.length - j ∧ Fr FN V wr)
  case atStart => exact ⟨0, rfl, by omega, rfl, Fr.refl _ _⟩
  case round =>
    obtain ⟨j, rfl, hj, hgk, hfr⟩ := hrel
    have hgkH : Hidden (gk = l.length - j) := hgk
    have hfrH : Hidden (Fr FN V wr) := hfr
    obtain ⟨b0, b1, b2, b3⟩ := (show ∀ u, Fr FN V u → _ from boxesH) wr hfr
    clear hgk a0 a1 a2 a3
    by_cases hjl : j < l.length
    · obtain ⟨x, hx⟩ : ∃ x, l[j]? = some x := ⟨l[j], List.getElem?_eq_getElem hjl⟩
      obtain ⟨b, off, ap, cp, rfl, hin, d0, d1, d2, d3, d4⟩ := Ty.ItL.at ((show Ty.ItL V _ ca l from h1H).keep hfr) hx
      obtain ⟨b', off', ap', cp', rfl, hin', c0, c1, c2, c3, c4⟩ := Ty.ItL.at ((show Ty.ItL V _ cb l from h2H).keep hfr) hx
      have ks : ∀ u, Fr FN wr u → Calls Tryz.prog 36 #[.agg #[ci x.kind, ct x.name, ci x.typ, .int .u64 x.bits, .slice ap x.params.length cp], .agg #[ci x.kind, ct x.name, ci x.typ, .int .u64 x.bits, .slice ap' x.params.length cp']] u fun e w' => e = .returned (.bool true) ∧ Fr FN wr w' := fun u hu => by
        have := Ty.rsameItem_any x x _ _ u ⟨ap, cp, rfl, hin.keep hu⟩ ⟨ap', cp', rfl, hin'.keep hu⟩
        rw [decide_eq_true rfl] at this
        exact this.mono fun _ _ ⟨q1, q2⟩ => ⟨q1, hu.same q2⟩
      clear hin hin' hx hfr
      go_wp2_with fail
      go_region_held3 (fun w' => w'.cell? ⟨w.heap.size, 1, none⟩ = some (.slice (some ⟨b, off, none⟩) l.length ca) ∧ w'.cell? ⟨w.heap.size + 1, 1, none⟩ = some (.slice (some ⟨b', off', none⟩) l.length cb) ∧ w'.cell? ⟨b, off + j * 5, none⟩ = some (ci x.kind) ∧ w'.cell? ⟨b, off + j * 5 + 1, none⟩ = some (ct x.name) ∧ w'.cell? ⟨b, off + j * 5 + 2, none⟩ = some (ci x.typ) ∧ w'.cell? ⟨b, off + j * 5 + 3, none⟩ = some (.int .u64 x.bits) ∧ w'.cell? ⟨b, off + j * 5 + 4, none⟩ = some (.slice ap x.params.length cp) ∧ w'.cell? ⟨b', off' + j * 5, none⟩ = some (ci x.kind) ∧ w'.cell? ⟨b', off' + j * 5 + 1, none⟩ = some (ct x.name) ∧ w'.cell? ⟨b', off' + j * 5 + 2, none⟩ = some (ci x.typ) ∧ w'.cell? ⟨b', off' + j * 5 + 3, none⟩ = some (.int .u64 x.bits) ∧ w'.cell? ⟨b', off' + j * 5 + 4, none⟩ = some (.slice ap' x.params.length cp')) (first | (refine ⟨by with_reducible assumption, by with_reducible assumption, by with_reducible assumption, by with_reducible assumption, by with_reducible assumption, by with_reducible assumption, by with_reducible assumption, by with_reducible assumption, by with_reducible assumption, by with_reducible assumption, by with_reducible assumption, by with_reducible assumption⟩) | go_keep) (first | (go_at_call 36; (with_reducible refine Calls.mono (ks wr.drew (Fr.drew _ _)) ?_); rintro e w7 ⟨rfl, f7⟩; have y1 := f7.cellN b1; have y3 := f7.cellN b3; have x0 := f7.cellN d0; have x1 := f7.cellN d1; have x2 := f7.cellN d2; have x3 := f7.cellN d3; have x4 := f7.cellN d4; have z0 := f7.cellN c0; have z1 := f7.cellN c1; have z2 := f7.cellN c2; have z3 := f7.cellN c3; have z4 := f7.cellN c4))
      go_wp2_with fail
      go_roundg (l.length - (j + 1))
      case measure => have : gk = l.length - j := hgkH; omega
      case rel => exact ⟨j + 1, by go_num, by omega, rfl, (show Fr FN V wr from hfrH).same f7⟩
    · obtain rfl : j = l.length := by omega
      go_wp2_with fail
      go_ret
      exact ⟨rfl, (show Fr FN w V from fVH).same hfr⟩
end Go.Proofs.YtpjahcncknccdaaGreat.Fo.Ic
