/- Nodes that come in: what they hold, and how much it is. -/
import Derived.Test.YtajefmmggefbeaaDgK
import Derived.Test.YtajefmmggefbeaaNmIn
import Derived.SizedLaws
namespace Go.Proofs.Ytajefmmggefbeaa.Dg
open Go.RowKit Go.WideShapes Go.ChangeShapes Go.ChangeAt Go.Deep
set_option linter.unusedSimpArgs false
set_option linter.unusedVariables false
theorem cells_node : Try.prog.cellsOf 57 = 2 := by kernel_rfl
theorem cells_strs : Try.prog.cellsOf 23 = 1 := by kernel_rfl
variable {H : Type} {enc : TypeId × Value → H} {W : World}
/-- A slice opened. -/
theorem open_sl {t e : TypeId} {fuel : Nat} {c : Value} {x : DataW H × List MemPlace} (ht : Try.prog.underlying t = some (.slice e)) (h : DataW.trod enc Try.prog W 0 (fun _ => true) true fuel t [c] = some x) :
    c = .slice none 0 0 ∨ ∃ (a : Addr) (len cap n : Nat) (el rest : List (DataW H × List MemPlace)), fuel = n + 1 ∧ c = .slice (some a) len cap ∧ len ≤ cap ∧ cap ≤ maxLen ∧ x.1 = .slice (el.map (·.1)) (rest.map (·.1)) ∧ el.length = len ∧
      ∀ i, i < len → ∃ y cs, el[i]? = some y ∧ W.cells? 0 (a.add (i * Try.prog.cellsOf e)) (Try.prog.cellsOf e) = some cs ∧ DataW.trod enc Try.prog W 0 (fun _ => true) true n e cs = some y := by
  rcases DataW.trod_slice ht h with ⟨h0, _⟩ | ⟨a, len, cap, el, rest, n, hn, hcs, rfl, hb, hl, hm, hlen, hel, _, _⟩
  · simp only [List.cons.injEq, and_true] at h0
    exact Or.inl h0
  · simp only [List.cons.injEq, and_true] at hcs
    refine Or.inr ⟨a, len, cap, n, el, rest, hn, hcs, hl, hm, rfl, hlen, fun i hi => ?_⟩
    have key := hel i hi
    rw [List.getElem?_eq_getElem (by omega)] at key
    obtain ⟨cs, h1, h2⟩ := Option.bind_eq_some_iff.1 key
    exact ⟨_, cs, List.getElem?_eq_getElem (by omega), h1, h2⟩
theorem str_ok {s : ByteArray} (h : s.size ≤ maxLen) : OkN s.data.toList := by
  have : s.data.toList.length ≤ maxLen := by rw [Array.length_toList]; exact h
  unfold maxLen at this
  unfold OkN
  omega
abbrev OkNd (n : Nd) : Prop := OkN n.1 ∧ ∀ x ∈ n.2, OkN x
set_option maxRecDepth 20000 in
theorem node_in {fuel : Nat} {cs : List Value} {x : DataW H × List MemPlace} (h : DataW.trod enc Try.prog W 0 (fun _ => true) true fuel 57 cs = some x) :
    ∃ (n : Nd) (c1 : Value), cs = [ct n.1, c1] ∧ Tl W c1 n.2 ∧ OkNd n := by
  obtain ⟨xs, n, rfl, rfl, hlen, hxl, hf⟩ := DataW.trod_struct Try.underlying57 h
  rw [cells_node] at hlen
  have hxl : xs.length = 2 := hxl
  match cs, hlen, xs, hxl with
  | [c0, c1], _, [x0, x1], _ =>
    have f0 : DataW.trod enc Try.prog W 0 (fun _ => true) true n 9 [c0] = some x0 := by
      have : DataW.trod enc Try.prog W 0 (fun _ => true) true n 9 (([c0, c1].drop 0).take (Try.prog.cellsOf 9)) = some x0 := hf 0 _ rfl
      rw [Try.cells_str] at this
      exact this
    have f1 : DataW.trod enc Try.prog W 0 (fun _ => true) true n 23 [c1] = some x1 := by
      have : DataW.trod enc Try.prog W 0 (fun _ => true) true n 23 (([c0, c1].drop 1).take (Try.prog.cellsOf 23)) = some x1 := hf 1 _ rfl
      rw [cells_strs] at this
      exact this
    obtain ⟨z0, e0, rfl, w0⟩ := DataW.trod_string Try.underlying9 f0
    obtain rfl : c0 = .string z0 := by simpa using e0
    obtain ⟨t, h1, _, _, h2, _⟩ := strs_in f1
    exact ⟨(z0.data.toList, t), c1, by simp [ct], h1, str_ok w0, h2⟩
theorem nodes_arg {fuel : Nat} {c : Value} {x : DataW H × List MemPlace} (h : DataW.trod enc Try.prog W 0 (fun _ => true) true fuel 22 [c] = some x) :
    ∃ nl : List Nd, NL W c nl ∧ ∀ n ∈ nl, OkN n.1 ∧ ∀ x ∈ n.2, OkN x := by
  rcases open_sl Try.underlying22 h with rfl | ⟨a, len, cap, n, el, rest, hn, rfl, hl, hm, hx, hlen, hel⟩
  · exact ⟨[], ⟨none, 0, rfl, by simp, by omega, Or.inl rfl⟩, by simp⟩
  · rw [cells_node] at hel
    have hpl : 0 < len → a.spot = none := by
      intro h0
      obtain ⟨y, cs, _, hc, ht⟩ := hel 0 h0
      obtain ⟨pp, c1, rfl, qq0, qq1⟩ := node_in ht
      obtain ⟨_, _, hcc⟩ := World.cells?_some hc
      have := hcc 0 (by omega)
      rw [show a.add (0 * 2) = a by simp [Addr.add]] at this
      exact Addr_plain (this.trans rfl)
    have key : ∀ (m i : Nat), i + m = len → ∃ r : List Nd, r.length = m ∧ (∀ (j : Nat) (p : Nd), r[j]? = some p → ∃ x, W.cell? ⟨a.block, a.off + (i + j) * 2, none⟩ = some (ct p.1) ∧ W.cell? ⟨a.block, a.off + (i + j) * 2 + 1, none⟩ = some x ∧ Tl W x p.2) ∧ (∀ p ∈ r, OkNd p) := by
      intro m
      induction m with
      | zero => intro i _; exact ⟨[], rfl, by simp, by simp⟩
      | succ m ihm =>
        intro i hi
        obtain ⟨r, r1, r2, r3⟩ := ihm (i + 1) (by omega)
        obtain ⟨y, cs, hy, hc, ht⟩ := hel i (by omega)
        obtain ⟨pp, c1, rfl, q0, q1⟩ := node_in ht
        obtain ⟨_, _, hcc⟩ := World.cells?_some hc
        have hsp := hpl (by omega)
        obtain ⟨b, off, spot⟩ := a
        simp only at hsp
        subst hsp
        refine ⟨pp :: r, by simp [r1], fun j p hj => ?_, ?_⟩
        · cases j with
          | zero =>
            obtain rfl : pp = p := by simpa using hj
            have k0 := hcc 0 (by omega)
            have k1 := hcc 1 (by omega)
            rw [Addr.add_lit, Addr.add_lit] at k0 k1
            rw [show i + 0 = i by omega]
            exact ⟨c1, k0, k1, q0⟩
          | succ j =>
            have := r2 j p (by simpa using hj)
            rw [show i + 1 + j = i + (j + 1) by omega] at this
            exact this
        · intro p hp
          rcases List.mem_cons.1 hp with rfl | hp
          · exact q1
          · exact r3 p hp
    obtain ⟨r, r1, r2, r3⟩ := key len 0 (by omega)
    refine ⟨r, ⟨some a, cap, by rw [r1], by rw [r1]; exact hl, by unfold maxLen at hm; omega, ?_⟩, r3⟩
    by_cases h0 : len = 0
    · left; exact List.eq_nil_of_length_eq_zero (by rw [r1, h0])
    · right
      have hsp := hpl (by omega)
      obtain ⟨b, off, spot⟩ := a
      simp only at hsp
      subst hsp
      refine ⟨b, off, rfl, fun i p hp => ?_⟩
      have := r2 i p hp
      simpa using this
theorem mem_all {P : Program} {e : TypeId} : ∀ {l : List (DataW H)} {i : Nat} {d : DataW H}, l[i]? = some d → ∀ n ∈ d.weights P e, n ∈ DataW.weightsAll P e l
  | [], i, d, h => by simp at h
  | x :: r, 0, d, h => fun n hn => by
    obtain rfl : x = d := by simpa using h
    simp [DataW.weightsAll, hn]
  | x :: r, i + 1, d, h => fun n hn => by
    have := mem_all (l := r) (i := i) (by simpa using h) n hn
    simp [DataW.weightsAll, this]
set_option maxRecDepth 20000 in
theorem node_size {fuel : Nat} {c0 : Value} {ao : Option Addr} {len cap : Nat} {x : DataW H × List MemPlace} (h : DataW.trod enc Try.prog W 0 (fun _ => true) true fuel 57 [c0, .slice ao len cap] = some x) (hw : ∀ n ∈ x.1.weights Try.prog 57, n ≤ reachBytes) : len * 16 ≤ reachBytes := by
  obtain ⟨xs, n, rfl, rfl, hlen, hxl, hf⟩ := DataW.trod_struct Try.underlying57 h
  have hxl : xs.length = 2 := hxl
  match xs, hxl with
  | [x0, x1], _ =>
    have f1 : DataW.trod enc Try.prog W 0 (fun _ => true) true n 23 [.slice ao len cap] = some x1 := by
      have : DataW.trod enc Try.prog W 0 (fun _ => true) true n 23 (([c0, .slice ao len cap].drop 1).take (Try.prog.cellsOf 23)) = some x1 := hf 1 _ rfl
      rw [cells_strs] at this
      exact this
    rcases open_sl Try.underlying23 f1 with h0 | ⟨a, len', cap2, n2, el, rest, _, h0, _, _, hx, hl, _⟩
    · simp only [Value.slice.injEq] at h0
      rw [h0.2.1]
      simp
    · simp only [Value.slice.injEq] at h0
      have hb : Try.prog.bytesOf 9 = 16 := by kernel_rfl
      have hmem : (el.length + rest.length) * Try.prog.bytesOf 9 ∈ (DataW.agg ([x0, x1].map (·.1))).weights Try.prog 57 := by
        simp only [DataW.weights, Try.underlying57, List.map_cons, List.map_nil, DataW.weightsEach, hx, Try.underlying23]
        simp
      have := hw _ hmem
      rw [hb, hl] at this
      rw [h0.2.1]
      omega
set_option maxRecDepth 20000 in
theorem nodes_size {fuel : Nat} {v : Value} {nl : List Nd} {x : DataW H × List MemPlace} (h : DataW.trod enc Try.prog W 0 (fun _ => true) true fuel 22 [v] = some x) (hm : NL W v nl) (hw : ∀ n ∈ x.1.weights Try.prog 22, n ≤ reachBytes) :
    nl.length * 40 ≤ 140737488355328 ∧ ∀ n ∈ nl, n.2.length * 16 ≤ 140737488355328 := by
  obtain ⟨ao, cap, rfl, _, _, h4⟩ := hm
  rcases open_sl Try.underlying22 h with h0 | ⟨a, len, cap2, n2, el, rest, _, h0, _, _, hx, hl, hel⟩
  · simp only [Value.slice.injEq] at h0
    have : nl = [] := List.eq_nil_of_length_eq_zero h0.2.1
    subst this
    exact ⟨by simp, by simp⟩
  · simp only [Value.slice.injEq] at h0
    obtain ⟨rfl, hlen, rfl⟩ := h0
    have hb : Try.prog.bytesOf 57 = 40 := by kernel_rfl
    have e : x.1.weights Try.prog 22 = (el.length + rest.length) * Try.prog.bytesOf 57 :: (DataW.weightsAll Try.prog 57 (el.map (·.1)) ++ DataW.weightsAll Try.prog 57 (rest.map (·.1))) := by
      rw [hx]
      simp only [DataW.weights, Try.underlying22, List.length_map]
    rw [e] at hw
    refine ⟨?_, fun i hi => ?_⟩
    · have := hw _ (List.mem_cons_self ..)
      rw [hb] at this
      unfold reachBytes at this
      omega
    · obtain ⟨j, hj⟩ := List.getElem?_of_mem hi
      have hjl : j < nl.length := (List.getElem?_eq_some_iff.1 hj).1
      rcases h4 with h4 | ⟨b, off, hab, h4⟩
      · subst h4; simp at hi
      obtain rfl : a = ⟨b, off, none⟩ := Option.some.inj hab
      obtain ⟨xx, k1, k2, ap, cp, rfl, _⟩ := h4 j i hj
      obtain ⟨y, cs, hy, hcs, ht⟩ := hel j (by omega)
      obtain ⟨_, hcl, hcc⟩ := World.cells?_some hcs
      rw [cells_node] at hcl hcc
      match cs, hcl with
      | [c0, c1], _ =>
        have q1 := hcc 1 (by omega)
        rw [Addr.add_lit, Addr.add_lit, k2] at q1
        obtain rfl : Value.slice ap i.2.length cp = c1 := by simpa using q1
        have := node_size ht (fun m hm => hw m (List.mem_cons_of_mem _ (List.mem_append_left _ (mem_all (i := j) (by rw [List.getElem?_map, hy]; rfl) m hm))))
        unfold reachBytes at this
        omega
end Go.Proofs.Ytajefmmggefbeaa.Dg
