/- How much memory an interface's items take. -/
import Derived.Test.YtpjahcncknccdaaGreatTyIn
import Derived.SizedLaws
namespace Go.Proofs.YtpjahcncknccdaaGreat.Ty
open Go.RowKit
set_option linter.unusedSimpArgs false
set_option linter.unusedVariables false
variable {H : Type} {enc : TypeId × Value → H} {W : World}

theorem mem_all {P : Program} {e : TypeId} : ∀ {l : List (DataW H)} {i : Nat} {d : DataW H}, l[i]? = some d → ∀ n ∈ d.weights P e, n ∈ DataW.weightsAll P e l
  | [], i, d, h => by simp at h
  | x :: r, 0, d, h => fun n hn => by
    obtain rfl : x = d := by simpa using h
    simp [DataW.weightsAll, hn]
  | x :: r, i + 1, d, h => fun n hn => by
    have := mem_all (l := r) (i := i) (by simpa using h) n hn
    simp [DataW.weightsAll, this]
set_option maxRecDepth 20000 in
theorem item_size {fuel : Nat} {c0 c1 c2 c3 : Value} {ao : Option Addr} {len cap : Nat} {x : DataW H × List MemPlace} (h : DataW.trod enc Tryz.prog W 0 (fun _ => true) true fuel 59 [c0, c1, c2, c3, .slice ao len cap] = some x) (hw : ∀ n ∈ x.1.weights Tryz.prog 59, n ≤ reachBytes) : len * 8 ≤ reachBytes := by
  obtain ⟨xs, n, rfl, rfl, hlen, hxl, hf⟩ := DataW.trod_struct Tryz.underlying59 h
  have hxl : xs.length = 5 := hxl
  match xs, hxl with
  | [x0, x1, x2, x3, x4], _ =>
    have f4 : DataW.trod enc Tryz.prog W 0 (fun _ => true) true n 57 [.slice ao len cap] = some x4 := by
      have : DataW.trod enc Tryz.prog W 0 (fun _ => true) true n 57 (([c0, c1, c2, c3, .slice ao len cap].drop 4).take (Tryz.prog.cellsOf 57)) = some x4 := hf 4 _ rfl
      rw [cells_ints] at this
      exact this
    rcases open_sl Tryz.underlying57 f4 with h0 | ⟨a, len', cap2, n2, el, rest, _, h0, _, _, hx, hl, _⟩
    · simp only [Value.slice.injEq] at h0
      rw [h0.2.1]
      simp
    · simp only [Value.slice.injEq] at h0
      have hb : Tryz.prog.bytesOf 3 = 8 := by kernel_rfl
      have hmem : (el.length + rest.length) * Tryz.prog.bytesOf 3 ∈ (DataW.agg ([x0, x1, x2, x3, x4].map (·.1))).weights Tryz.prog 59 := by
        simp only [DataW.weights, Tryz.underlying59, List.map_cons, List.map_nil, DataW.weightsEach, hx, Tryz.underlying57]
        simp
      have := hw _ hmem
      rw [hb, hl] at this
      rw [h0.2.1]
      omega
set_option maxRecDepth 20000 in
theorem items_size {fuel : Nat} {ao : Option Addr} {cap : Nat} {l : List It} {x : DataW H × List MemPlace} (h : DataW.trod enc Tryz.prog W 0 (fun _ => true) true fuel 22 [.slice ao l.length cap] = some x) (hI : ItL W ao cap l) (hw : ∀ n ∈ x.1.weights Tryz.prog 22, n ≤ reachBytes) :
    l.length ≤ 2199023255552 ∧ ∀ i ∈ l, i.params.length ≤ 17592186044416 := by
  rcases open_sl Tryz.underlying22 h with h0 | ⟨a, len, cap2, n2, el, rest, _, h0, _, _, hx, hl, hel⟩
  · simp only [Value.slice.injEq] at h0
    have : l = [] := List.eq_nil_of_length_eq_zero h0.2.1
    subst this
    exact ⟨by simp, by simp⟩
  · simp only [Value.slice.injEq] at h0
    obtain ⟨rfl, hlen, rfl⟩ := h0
    have hb : Tryz.prog.bytesOf 59 = 64 := by kernel_rfl
    have e : x.1.weights Tryz.prog 22 = (el.length + rest.length) * Tryz.prog.bytesOf 59 :: (DataW.weightsAll Tryz.prog 59 (el.map (·.1)) ++ DataW.weightsAll Tryz.prog 59 (rest.map (·.1))) := by
      rw [hx]
      simp only [DataW.weights, Tryz.underlying22, List.length_map]
    rw [e] at hw
    refine ⟨?_, fun i hi => ?_⟩
    · have := hw _ (List.mem_cons_self ..)
      rw [hb] at this
      unfold reachBytes at this
      omega
    · obtain ⟨j, hj⟩ := List.getElem?_of_mem hi
      have hjl : j < l.length := (List.getElem?_eq_some_iff.1 hj).1
      obtain ⟨_, _, _, h4⟩ := hI
      rcases h4 with h4 | ⟨b, off, hab, h4⟩
      · subst h4; simp at hi
      obtain rfl : a = ⟨b, off, none⟩ := Option.some.inj hab
      obtain ⟨ap, cp, _, hc⟩ := h4 j i hj
      obtain ⟨y, cs, hy, hcs, ht⟩ := hel j (by omega)
      obtain ⟨_, hcl, hcc⟩ := World.cells?_some hcs
      rw [cells_item] at hcl hcc
      match cs, hcl with
      | [c0, c1, c2, c3, c4], _ =>
        have k1 := hcc 4 (by omega)
        have k2 := hc 4 (.slice ap i.params.length cp) rfl
        rw [Addr.add_lit, Addr.add_lit, k2] at k1
        obtain rfl : Value.slice ap i.params.length cp = c4 := by simpa using k1
        have := item_size ht (fun m hm => hw m (List.mem_cons_of_mem _ (List.mem_append_left _ (mem_all (i := j) (by rw [List.getElem?_map, hy]; rfl) m hm))))
        unfold reachBytes at this
        omega
set_option maxRecDepth 20000 in
theorem iface_size {fuel : Nat} {f : Fc} {v : Value} {x : DataW H × List MemPlace} (h : DataW.trod enc Tryz.prog W 0 (fun _ => true) true fuel 24 v.cells.toList = some x) (hm : FcI W f v) (hw : ∀ n ∈ x.1.weights Tryz.prog 24, n ≤ reachBytes) :
    f.items.length ≤ 2199023255552 ∧ ∀ i ∈ f.items, i.params.length ≤ 17592186044416 := by
  obtain ⟨ao, cap, rfl, hI⟩ := hm
  obtain ⟨xs, n, rfl, rfl, hlen, hxl, hf⟩ := DataW.trod_struct Tryz.underlying24 h
  have hxl : xs.length = 2 := hxl
  match xs, hxl with
  | [x0, x1], _ =>
    have f1 : DataW.trod enc Tryz.prog W 0 (fun _ => true) true n 22 [.slice ao f.items.length cap] = some x1 := by
      have : DataW.trod enc Tryz.prog W 0 (fun _ => true) true n 22 (([ct f.name, .slice ao f.items.length cap].drop 1).take (Tryz.prog.cellsOf 22)) = some x1 := hf 1 _ rfl
      rw [cells_items] at this
      exact this
    refine items_size f1 hI fun m hm => hw m ?_
    simp only [DataW.weights, Tryz.underlying24, List.map_cons, List.map_nil, DataW.weightsEach]
    simp [hm]
end Go.Proofs.YtpjahcncknccdaaGreat.Ty
