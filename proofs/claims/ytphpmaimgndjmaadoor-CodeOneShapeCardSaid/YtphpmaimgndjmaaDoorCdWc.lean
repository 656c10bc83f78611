/- Shapes with a try more, with a try less. -/
import Derived.Test.YtphpmaimgndjmaaDoorCdWb
namespace Go.Proofs.YtphpmaimgndjmaaDoor.Cd
open Go.RowKit Ty
set_option linter.unusedSimpArgs false
set_option linter.unusedVariables false

theorem three_put {w : World} {g : Nat} {x0 x1 x2 : Value} {t : TypeId} (h : w.heap[g]? = some (.cells #[x0, x1, x2] t (0, 0))) (v0 v1 v2 : Value) :
    (((w.setCell ⟨g, 0, none⟩ v0).setCell ⟨g, 1, none⟩ v1).setCell ⟨g, 2, none⟩ v2).heap[g]? = some (.cells #[v0, v1, v2] t (0, 0)) := by
  have h0 : (w.setCell ⟨g, 0, none⟩ v0).heap[g]? = some (.cells #[v0, x1, x2] t (0, 0)) := heap_setCell_same _ g 0 _ t v0 h
  have h1 : ((w.setCell ⟨g, 0, none⟩ v0).setCell ⟨g, 1, none⟩ v1).heap[g]? = some (.cells #[v0, v1, x2] t (0, 0)) := heap_setCell_same _ g 1 _ t v1 h0
  exact heap_setCell_same _ g 2 _ t v2 h1
theorem three_fr (w : World) (g : Nat) (v0 v1 v2 : Value) : Fr (fun k => k = g) w (((w.setCell ⟨g, 0, none⟩ v0).setCell ⟨g, 1, none⟩ v1).setCell ⟨g, 2, none⟩ v2) :=
  ((Fr.setCell w ⟨g, 0, none⟩ v0).same (Fr.setCell _ ⟨g, 1, none⟩ v1)).same (Fr.setCell _ ⟨g, 2, none⟩ v2)
theorem last_10 (a b : Bs) (ha : a = [] ∨ ∃ r, a = r ++ [10]) (hb : ∀ c ∈ b, c ≠ 10) : Lib.lastIndexByte ⟨(a ++ b).toArray⟩ 10 + 1 = (a.length : Int) := by
  have hs : (⟨(a ++ b).toArray⟩ : ByteArray).size = a.length + b.length := by simp [ByteArray.size]
  have get : ∀ j : Nat, j < a.length + b.length → ∀ c, (a ++ b)[j]? = some c → (⟨(a ++ b).toArray⟩ : ByteArray).data[j]! = c := by
    intro j hj c hc
    rw [getElem!_pos _ j (by simpa using hj)]
    have := (List.getElem?_eq_some_iff.1 hc).2
    simpa using this
  have hbn : ∀ j : Nat, a.length ≤ j → j < a.length + b.length → (((⟨(a ++ b).toArray⟩ : ByteArray).data[j]!).toNat : Int) ≠ 10 := by
    intro j h1 h2 e
    obtain ⟨c, hc⟩ : ∃ c, b[j - a.length]? = some c := ⟨_, List.getElem?_eq_getElem (by omega)⟩
    have h3 : (a ++ b)[j]? = some c := by rw [List.getElem?_append_right h1]; exact hc
    rw [get j h2 c h3] at e
    refine hb c (List.mem_of_getElem? hc) ?_
    have : c.toNat = (10 : UInt8).toNat := by have : c.toNat = 10 := by omega
                                              rw [this]; rfl
    exact UInt8.toNat_inj.1 this
  unfold Lib.lastIndexByte
  rw [hs]
  rcases ha with rfl | ⟨r, rfl⟩
  · rcases Lib.lastIdx_spec ⟨([] ++ b).toArray⟩ 10 (([] : Bs).length + b.length) with ⟨e, _⟩ | ⟨i, hi, _, hc, _⟩
    · rw [e]; rfl
    · exact absurd hc (hbn i (by simp) hi)
  · have h10 : (((⟨((r ++ [10]) ++ b).toArray⟩ : ByteArray).data[r.length]!).toNat : Int) = 10 := by
      rw [get r.length (by simp; omega) 10 (by simp)]
      rfl
    rcases Lib.lastIdx_spec ⟨((r ++ [10]) ++ b).toArray⟩ 10 ((r ++ [10]).length + b.length) with ⟨_, h⟩ | ⟨i, hi, e, hc, h⟩
    · exact absurd h10 (h r.length (by simp; omega))
    · have h1 : i < (r ++ [10]).length := by
        by_cases h2 : i < (r ++ [10]).length
        · exact h2
        · exact absurd hc (hbn i (by omega) hi)
      have h3 : i = r.length := by
        by_cases h4 : i = r.length
        · exact h4
        · exact absurd h10 (h r.length (by simp at h1; omega) (by simp; omega))
      rw [e, h3]
      simp
theorem trim_10 (r : Bs) : Lib.trimSuffix (r ++ [10]) [10] = r := by
  have h : Lib.hasSuffix (r ++ [10]) [10] = true := by
    unfold Lib.hasSuffix
    rw [List.isSuffixOf_iff_suffix]
    exact ⟨r, rfl⟩
  unfold Lib.trimSuffix
  rw [h, if_pos rfl]
  simp
theorem encTr_len : ∀ (l : List (Int × List Int)), (∀ x ∈ l, 0 ≤ x.1 ∧ x.1 ≤ 65535 ∧ x.2.length ≤ 512) → (encTr l).length ≤ l.length * 700
  | [], _ => by simp [encTr]
  | x :: l, h => by
    have h1 := encTr_len l (fun y hy => h y (List.mem_cons_of_mem _ hy))
    have h2 := h x (List.mem_cons_self)
    have h3 := (D.itoa_len x.1 (by unfold D.I64; omega)).1
    have h4 : (encSt x.2).length = x.2.length := by simp [encSt]
    have e : encTr (x :: l) = encOne x ++ encTr l := rfl
    rw [e, List.length_append]
    unfold encOne encLn
    simp only [List.length_append, List.length_cons, List.length_nil]
    omega
set_option maxRecDepth 20000 in
set_option maxHeartbeats 2000000 in
theorem opening_any (x y : Bs) (m : Nat) (N : Int) (hN : D.I64 N) (hx : x.length ≤ 1000) (hy : y.length ≤ 1000000) (hm : m ≤ 1000) (w : World) (ht : F.Tab w) :
    Calls Tryd.prog 55 #[.agg #[ct x, ct y, ci (m : Int)], ci N] w fun e w' => e = .returned (.agg #[ct x, ct (y ++ (Lib.itoa N ++ x ++ [10])), ci ((m : Int) + 1)]) ∧ Fr (fun _ => False) w w' := by
  have hl := (D.itoa_len N hN).1
  obtain ⟨V, hV⟩ : ∃ V, V = (w.alloc (.cells #[ct x, ct y, ci (m : Int)] 75 (0, 0))).alloc (.cells #[ct [], ct [], ci 0] 75 (0, 0)) := ⟨_, rfl⟩
  have fV : Fr (fun _ => False) w V := by rw [hV]; exact (Fr.alloc _ _ _).same (Fr.alloc _ _ _)
  have hb0 : V.heap[w.heap.size]? = some (.cells #[ct x, ct y, ci (m : Int)] 75 (0, 0)) := by rw [hV]; exact heap_alloc2_old _ _ _
  have hb1 : V.heap[w.heap.size + 1]? = some (.cells #[ct [], ct [], ci 0] 75 (0, 0)) := by rw [hV]; exact heap_alloc2_new _ _ _
  have kd : ∀ W, Fr (fun _ => False) V W → Calls Tryd.prog 35 #[ci N] W fun r w' => r = .returned (.string ⟨(Lib.itoa N).toArray⟩) ∧ Fr (fun _ => False) W w' := fun W f => (D.dec_any N hN W (tab_fr ht (fV.same f))).mono (fun e w' h => ⟨h.1, kb_frD h.2⟩)
  generalize Lib.itoa N = D1 at kd hl ⊢
  have hc1 := fun W : World => run_string_add_lists (P := Tryd.prog) W D1 x (by omega) (by omega)
  have hc2 := fun W : World => run_string_add_lists (P := Tryd.prog) W (D1 ++ x) [10] (by simp; omega) (by simp)
  have hc3 := fun W : World => run_string_add_lists (P := Tryd.prog) W y (D1 ++ x ++ [10]) (by omega) (by simp; omega)
  obtain ⟨N1, hN1⟩ : ∃ z, z = D1 ++ x := ⟨_, rfl⟩
  rw [← hN1] at hc1 hc2 hc3 ⊢
  obtain ⟨N2, hN2⟩ : ∃ z, z = N1 ++ [10] := ⟨_, rfl⟩
  rw [← hN2] at hc2 hc3 ⊢
  obtain ⟨N3, hN3⟩ : ∃ z, z = y ++ N2 := ⟨_, rfl⟩
  rw [← hN3] at hc3 ⊢
  have hw2 : IntKind.i64.wrap ((m : Int) + 1) = (m : Int) + 1 := by rw [IntKind.wrap_i64]; omega
  have hfV : Hidden (Fr (fun _ => False) w V) := fV
  have hb0H : Hidden (V.heap[w.heap.size]? = some (.cells #[ct x, ct y, ci (m : Int)] 75 (0, 0))) := hb0
  have hb1H : Hidden (V.heap[w.heap.size + 1]? = some (.cells #[ct [], ct [], ci 0] 75 (0, 0))) := hb1
  have hVH : Hidden (V = _) := hV
  clear hN1 hN2 hN3 fV hV hl ht hN
  go_enter Tryd.func55, Tryd.ntmps55
  go_upto_region 1 with fail
  rw [← (show V = _ from hVH)]
  clear hVH
  obtain ⟨c0, c1, c2⟩ := box3 hb0
  have z1 := frozen_of_row hb0 1
  generalize hG : w.heap.size = G at *
  have hGH : Hidden (w.heap.size = G) := hG
  clear hG
  go_region_with (first
    | (go_at_call 35; refine (kd _ (by first | exact Fr.refl _ _ | exact Fr.drew _ _)).mono ?_; rintro e w1 ⟨rfl, f1⟩; have d0 := f1.cellN c0; have d1 := f1.cellN c1; have z2 := frozen_of_row (f1.heap (show V.heap[G]? = _ from hb0H) (fun f => f)) 1))
  all_goals
    have hU0 : (w1.setCell ⟨G, 1, none⟩ (ct N3)).heap[G]? = some (.cells #[ct x, ct N3, ci (m : Int)] 75 (0, 0)) := heap_setCell_same w1 G 1 _ _ _ (f1.heap (show V.heap[G]? = _ from hb0H) (fun f => f))
    have hU1 : (w1.setCell ⟨G, 1, none⟩ (ct N3)).heap[G + 1]? = some (.cells #[ct [], ct [], ci 0] 75 (0, 0)) := (Fr.setCell w1 ⟨G, 1, none⟩ _).heap (f1.heap (show V.heap[G + 1]? = _ from hb1H) (fun f => f)) (by show ¬ G + 1 = G; omega)
    have hUf : Hidden (Fr (fun k => k = G) V (w1.setCell ⟨G, 1, none⟩ (ct N3))) := ((Fr.drew (fun k => k = G) V).same (f1.mono (fun _ _ f => f.elim))).same (Fr.setCell w1 ⟨G, 1, none⟩ _)
    generalize w1.setCell ⟨G, 1, none⟩ (ct N3) = U at hU0 hU1 hUf ⊢
    obtain ⟨e0, e1, e2⟩ := box3 hU0
    obtain ⟨g0, g1, g2⟩ := box3 hU1
    have y2 := frozen_of_row hU0 2
    have x0 := frozen_of_row hU1 0
    have x1 := frozen_of_row hU1 1
    have x2 := frozen_of_row hU1 2
    have hU1H : Hidden (U.heap[G + 1]? = some (.cells #[ct [], ct [], ci 0] 75 (0, 0))) := hU1
    clear hb0 hb1 hU0 hU1 c0 c1 c2 z1 d0 d1 z2 hc1 hc2 hc3
    go_wp2_with fail
    refine post_one rfl rfl _ #[ct x, ct N3, ci ((m : Int) + 1)] 75 _ rfl ?_ Tryd.underlying75 rfl (by kernel_rfl) ⟨rfl, ?_⟩
    · exact three_put ((Fr.setCell U ⟨G, 2, none⟩ _).heap (show U.heap[G + 1]? = _ from hU1H) (by show ¬ G + 1 = G; omega)) _ _ _
    · have hle : w.heap.size = G := hGH
      exact ((Fr.over (show Fr (fun _ => False) w V from hfV) (show Fr (fun k => k = G) V U from hUf) (fun k e => by omega)).over (Fr.setCell U ⟨G, 2, none⟩ _) (fun k e => by have e : k = G := e; omega)).over (three_fr _ (G + 1) _ _ _) (fun k e => by omega)
set_option maxRecDepth 20000 in
set_option maxHeartbeats 2000000 in
theorem closing_any (x y a b : Bs) (m : Nat) (hy : y = a ++ b ++ [10]) (ha : a = [] ∨ ∃ r, a = r ++ [10]) (hb : ∀ c ∈ b, c ≠ 10) (hx : x.length ≤ 1000) (hyl : y.length ≤ 1000000) (hm : m ≤ 1000) (w : World) :
    Calls Tryd.prog 57 #[.agg #[ct x, ct y, ci (m : Int)]] w fun e w' => e = .returned (.agg #[ct x, ct a, ci ((m : Int) - 1)]) ∧ Fr (fun _ => False) w w' := by
  have kt := fun W => Tryd.strings_TrimSuffix ⟨y.toArray⟩ ⟨#[10]⟩ W (by simp [ByteArray.size]; omega)
  have kl := fun W => Tryd.strings_LastIndex_one ⟨(a ++ b).toArray⟩ ⟨#[10]⟩ rfl (by have : (a ++ b).length ≤ y.length := by rw [hy]; simp
                                                                                    simp [ByteArray.size] at this ⊢; omega) W
  have et : Lib.trimSuffix (⟨y.toArray⟩ : ByteArray).data.toList (⟨#[10]⟩ : ByteArray).data.toList = a ++ b := by rw [hy]; exact trim_10 (a ++ b)
  have el : Lib.lastIndexByte ⟨(a ++ b).toArray⟩ (((⟨#[10]⟩ : ByteArray)[0]'(by decide)).toNat : Int) = (a.length : Int) - 1 := by
    have := last_10 a b ha hb
    have e : (((⟨#[10]⟩ : ByteArray)[0]'(by decide)).toNat : Int) = 10 := rfl
    rw [e]
    omega
  rw [et] at kt
  rw [el] at kl
  have hal : a.length ≤ (a ++ b).length := by simp
  have habl : (a ++ b).length ≤ 1000000 := by have : (a ++ b).length ≤ y.length := by rw [hy]; simp
                                              omega
  have hsl := fun W : World => slice_head (a ++ b) a.length hal (by omega) W
  rw [List.take_left] at hsl
  obtain ⟨A, hA⟩ : ∃ A, A = a.length := ⟨_, rfl⟩
  rw [← hA] at hsl kl
  have hw1 : wrap64 (A : Int) = (A : Int) := by unfold wrap64; omega
  have hw2 : IntKind.i64.wrap ((m : Int) - 1) = (m : Int) - 1 := by rw [IntKind.wrap_i64]; omega
  generalize a ++ b = ab at *
  clear hA hal habl et el hy ha hb
  go_enter Tryd.func57, Tryd.ntmps57
  go_wp2_with (first
    | (go_at_call 68; refine (kt _).mono ?_; rintro e w1 ⟨rfl, rfl⟩)
    | (go_at_call 69; refine (kl _).mono ?_; rintro e w2 ⟨rfl, rfl⟩))
  refine post_one rfl rfl _ #[ct x, ct a, ci ((m : Int) - 1)] 75 _ rfl ?_ Tryd.underlying75 rfl (by kernel_rfl) ⟨rfl, (Fr.alloc _ _ _).same (Fr.alloc _ _ _)⟩
  exact alloc_at _ _ _ (by simp)
end Go.Proofs.YtphpmaimgndjmaaDoor.Cd
