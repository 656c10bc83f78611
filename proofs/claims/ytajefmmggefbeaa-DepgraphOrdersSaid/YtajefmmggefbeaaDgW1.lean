/- The document's graph in memory; at, Names, Imports, Users, Missing. -/
import Derived.Test.YtajefmmggefbeaaDgK
import Derived.Test.YtajefmmggefbeaaDgE2
namespace Go.Proofs.Ytajefmmggefbeaa.Dg
open Go.RowKit Go.Sort
set_option linter.unusedSimpArgs false
set_option linter.unusedVariables false

/-- Its row of nodes. -/
def RL (w : World) (ao : Option Addr) (cap : Nat) (g : Gr) : Prop :=
  g.ks.length ≤ cap ∧ cap ≤ 9223372036854775807 ∧ (g.ks = [] ∨ ∃ b off, ao = some ⟨b, off, none⟩ ∧ ∀ (i : Nat) (x : Str), g.ks[i]? = some x → ∃ aoi capi, w.cell? ⟨b, off + i * 2, none⟩ = some (ct x) ∧ w.cell? ⟨b, off + i * 2 + 1, none⟩ = some (.slice aoi (g.im x).length capi) ∧ Tl w (.slice aoi (g.im x).length capi) (g.im x))
theorem RL.later {w w' : World} {ao : Option Addr} {cap : Nat} {g : Gr} (h : RL w ao cap g) (hf : Fr (fun _ => False) w w') : RL w' ao cap g := by
  obtain ⟨h1, h2, h3⟩ := h
  refine ⟨h1, h2, ?_⟩
  rcases h3 with h3 | ⟨b, off, rfl, hc⟩
  · exact Or.inl h3
  · refine Or.inr ⟨b, off, rfl, fun i x hx => ?_⟩
    obtain ⟨aoi, capi, c1, c2, c3⟩ := hc i x hx
    exact ⟨aoi, capi, hf.cellN c1, hf.cellN c2, c3.later hf⟩
theorem RL.at {w : World} {ao : Option Addr} {cap : Nat} {g : Gr} (h : RL w ao cap g) {j : Nat} {x : Str} (hx : g.ks[j]? = some x) : ∃ b off aoi capi, ao = some ⟨b, off, none⟩ ∧ w.cell? ⟨b, off + j * 2, none⟩ = some (ct x) ∧ w.cell? ⟨b, off + j * 2 + 1, none⟩ = some (.slice aoi (g.im x).length capi) ∧ Tl w (.slice aoi (g.im x).length capi) (g.im x) := by
  obtain ⟨_, _, h3⟩ := h
  rcases h3 with h3 | ⟨b, off, rfl, hc⟩
  · rw [h3] at hx; simp at hx
  · obtain ⟨aoi, capi, c1, c2, c3⟩ := hc j x hx
    exact ⟨b, off, aoi, capi, rfl, c1, c2, c3⟩
/-- A graph, as the document holds it. -/
structure Rg (w : World) (p : Value) (g : Gr) : Prop where
  wf : g.WF
  small : g.ks.length ≤ 32
  ims : ∀ n, (g.im n).length ≤ 16
  ok : ∀ n ∈ g.ks, n.length ≤ 32
  oki : ∀ n, ∀ m ∈ g.im n, m.length ≤ 32
  cell : ∃ B ao cap, p = .pointer (some ⟨B, 0, none⟩) ∧ w.cell? ⟨B, 0, none⟩ = some (.slice ao g.ks.length cap) ∧ RL w ao cap g
theorem Rg.later {w w' : World} {p : Value} {g : Gr} (h : Rg w p g) (hf : Fr (fun _ => False) w w') : Rg w' p g := by
  refine ⟨h.wf, h.small, h.ims, h.ok, h.oki, ?_⟩
  obtain ⟨B, ao, cap, k1, k2, k3⟩ := h.cell
  exact ⟨B, ao, cap, k1, hf.cellN k2, k3.later hf⟩
theorem Rg.okN {w : World} {p : Value} {g : Gr} (h : Rg w p g) {n : Str} (hn : n ∈ g.ks) : OkN n := by have := h.ok n hn; unfold OkN; omega
theorem Rg.okI {w : World} {p : Value} {g : Gr} (h : Rg w p g) {n m : Str} (hn : m ∈ g.im n) : OkN m := by have := h.oki n m hn; unfold OkN; omega

theorem rhas_any (v : Value) (l : List Str) (s : Str) (r : Bool) (hr : decide (s ∈ l) = r) (w : World) (h : Tl w v l) :
    Calls Try.prog 36 #[v, ct s] w fun e w' => e = .returned (.bool r) ∧ w' = w := by
  obtain ⟨⟨r1, r2⟩, hR⟩ : ∃ R, findS l s = R := ⟨_, rfl⟩
  have kf := rfind_any v l s _ hR w h
  have e : r2 = r := by rw [← hr, ← findS_mem, hR]
  subst e
  obtain ⟨ao, cap, rfl, h1, h2, h3, h4⟩ := h
  generalize l.length = n at *
  clear hr hR h3 h4
  go_enter Try.func36, Try.ntmps36
  go_wp2_with (go_at_call 59; refine kf.mono ?_; rintro e w1 ⟨rfl, rfl⟩)
  go_ret
  exact ⟨rfl, rfl⟩
set_option maxHeartbeats 1000000 in
theorem rat_any (p : Value) (g : Gr) (n : Str) (R : Int) (hR : Hidden (idxGo n g.ks 0 = R)) (w : World) (h : Rg w p g) :
    Calls Try.prog 31 #[p, ct n] w fun e w' => e = .returned (.int .i64 R) ∧ w' = w := by
  obtain ⟨B, ao, cap, rfl, cB, hrow⟩ := h.cell
  have hsm := h.small
  have hrowH : Hidden (RL w ao cap g) := hrow
  have hc1 := hrow.1
  have hc2 := hrow.2.1
  clear h hrow
  go_enter Try.func31, Try.ntmps31
  go_wp2
  go_loopg [5] g.ks.length (fun k iv wr => ∃ j : Nat, iv = .int .i64 (j : Int) ∧ j ≤ g.ks.length ∧ k = g.ks.length - j ∧ wr = w ∧ idxGo n (g.ks.drop j) j = R)
  case atStart => exact ⟨0, rfl, by omega, rfl, rfl, hR⟩
  case round =>
    obtain ⟨j, rfl, hj, hk, rfl, hf⟩ := hrel
    have hkH : Hidden (gk = g.ks.length - j) := hk
    clear hk hR
    by_cases hjl : j < g.ks.length
    · obtain ⟨x, hx⟩ : ∃ x, g.ks[j]? = some x := ⟨g.ks[j], List.getElem?_eq_getElem hjl⟩
      obtain ⟨b, off, aoi, capi, rfl, c1, c2, ct3⟩ := RL.at (show RL wr ao cap g from hrowH) hx
      rw [drop_at hx, idxGo] at hf
      clear hx c2 ct3
      by_cases hxs : x = n
      · subst hxs
        rw [if_pos rfl] at hf
        subst hf
        go_wp2
        go_ret
        exact ⟨rfl, rfl⟩
      · rw [if_neg hxs] at hf
        have hne : (x == n) = false := beq_eq_false_iff_ne.2 hxs
        have hfH : Hidden (idxGo n (g.ks.drop (j + 1)) (j + 1) = R) := hf
        clear hf hxs
        go_wp2
        go_roundg (g.ks.length - (j + 1))
        case measure => have := (show gk = g.ks.length - j from hkH); omega
        case rel => exact ⟨j + 1, by go_num, by omega, rfl, rfl, hfH⟩
    · obtain rfl : j = g.ks.length := by omega
      rw [List.drop_eq_nil_of_le (by omega)] at hf
      obtain rfl : (-1 : Int) = R := hf
      go_wp2
      go_ret
      exact ⟨rfl, rfl⟩
theorem rimports_no (p : Value) (g : Gr) (n : Str) (w : World) (h : Rg w p g) (a1 : n ∉ g.ks) (a3 : idxGo n g.ks 0 = -1) :
    Calls Try.prog 12 #[p, ct n] w fun e w' => e = .returned (.slice none 0 0) ∧ w' = w := by
  have ka := rat_any p g n _ a3 w h
  obtain ⟨B, ao, cap, rfl, _⟩ := h.cell
  clear h a1 a3
  go_enter Try.func12, Try.ntmps12
  go_wp2_with (go_at_call 31; refine ka.mono ?_; rintro e w1 ⟨rfl, hw⟩; replace hw := hw.symm; subst hw)
  go_ret
  exact ⟨rfl, rfl⟩
theorem rimports_yes (B b off k cap n2 capi : Nat) (aoi : Option Addr) (g : Gr) (n : Str) (w : World) (ka : Calls Try.prog 31 #[.pointer (some ⟨B, 0, none⟩), ct n] w fun e w' => e = .returned (.int .i64 (k : Int)) ∧ w' = w)
    (cB : w.cell? ⟨B, 0, none⟩ = some (.slice (some ⟨b, off, none⟩) g.ks.length cap)) (hkl : k < g.ks.length) (hc1 : g.ks.length ≤ cap) (hc2 : cap ≤ 9223372036854775807) (c2 : w.cell? ⟨b, off + k * 2 + 1, none⟩ = some (.slice aoi n2 capi)) :
    Calls Try.prog 12 #[.pointer (some ⟨B, 0, none⟩), ct n] w fun e w' => e = .returned (.slice aoi n2 capi) ∧ w' = w := by
  go_enter Try.func12, Try.ntmps12
  go_wp2_with (go_at_call 31; refine ka.mono ?_; rintro e w1 ⟨rfl, hw⟩; replace hw := hw.symm; subst hw)
  go_ret
  exact ⟨rfl, rfl⟩
/-- Imports hands out the graph's own row, the same whenever it is asked. -/
theorem Rg.imports {p : Value} {g : Gr} {w : World} (h : Rg w p g) (n : Str) : ∃ ao cap, Tl w (.slice ao (g.im n).length cap) (g.im n) ∧ ∀ W, Fr (fun _ => False) w W → Calls Try.prog 12 #[p, ct n] W fun e w' => e = .returned (.slice ao (g.im n).length cap) ∧ w' = W := by
  rcases findS_spec g.ks n with ⟨a1, _, a3⟩ | ⟨k, a1, _, a3⟩
  · rw [h.wf.no n a1]
    exact ⟨none, 0, Tl.nil w, fun W hW => rimports_no p g n W (h.later hW) a1 a3⟩
  · obtain ⟨B, ao, cap, e, cB, hrow⟩ := h.cell
    obtain ⟨b, off, aoi, capi, rfl, c1, c2, ct3⟩ := RL.at hrow a1
    refine ⟨aoi, capi, ct3, fun W hW => ?_⟩
    have ka := rat_any p g n _ a3 W (h.later hW)
    subst e
    exact rimports_yes B b off k cap _ capi aoi g n W ka (hW.cellN cB) (List.getElem?_eq_some_iff.1 a1).1 hrow.1 hrow.2.1 (hW.cellN c2)
theorem rimports_any (p : Value) (g : Gr) (n : Str) (w : World) (h : Rg w p g) :
    Calls Try.prog 12 #[p, ct n] w fun e w' => RetL (g.im n) e w' ∧ w' = w := by
  obtain ⟨ao, cap, ht, k⟩ := h.imports n
  refine (k w (Fr.refl _ _)).mono ?_
  rintro e w' ⟨rfl, rfl⟩
  exact ⟨RetL.of ht, rfl⟩
theorem take_snoc {l : List Str} {j : Nat} {x : Str} (hx : l[j]? = some x) : l.take (j + 1) = l.take j ++ [x] := by rw [List.take_add_one, hx]; rfl
set_option maxHeartbeats 2000000 in
theorem rnames_any (p : Value) (g : Gr) (w : World) (h : Rg w p g) :
    Calls Try.prog 10 #[p] w fun e w' => Ret w.heap.size g.ks e w' ∧ Fr (fun _ => False) w w' := by
  obtain ⟨B, ao, cap, rfl, cB, hrow⟩ := h.cell
  have hsm := h.small
  have hrowH : Hidden (RL w ao cap g) := hrow
  have hc1 := hrow.1
  have hc2 := hrow.2.1
  clear h hrow
  go_enter Try.func10, Try.ntmps10
  go_wp2
  go_loopg [3, 4] g.ks.length (fun k uv iv wr => ∃ j : Nat, iv = .int .i64 (j : Int) ∧ j ≤ g.ks.length ∧ k = g.ks.length - j ∧ To wr w.heap.size uv (g.ks.take j) ∧ Fr (fun _ => False) w wr)
  case atStart => exact ⟨0, rfl, by omega, rfl, To.nil _ _, Fr.refl _ _⟩
  case round =>
    obtain ⟨j, rfl, hj, hk, hto, hf⟩ := hrel
    have hkH : Hidden (gk = g.ks.length - j) := hk
    have hfH : Hidden (Fr (fun _ => False) w wr) := hf
    have htoH : Hidden (To wr w.heap.size u3 (g.ks.take j)) := hto
    have cBr := hf.cellN cB
    clear hk
    by_cases hjl : j < g.ks.length
    · obtain ⟨x, hx⟩ : ∃ x, g.ks[j]? = some x := ⟨g.ks[j], List.getElem?_eq_getElem hjl⟩
      obtain ⟨b, off, aoi, capi, rfl, c1, c2, ct3⟩ := RL.at ((show RL w ao cap g from hrowH).later hf) hx
      have hsn : Hidden (g.ks.take (j + 1) = g.ks.take j ++ [x]) := take_snoc hx
      have hlen : Hidden ((g.ks.take j).length ≤ j) := by show _ ≤ _; simp; omega
      clear hx c2 ct3 hto hf
      go_wp2_with (at_builtin; refine wpList_app rfl _ _ rfl w.heap.size _ _ _ [x] rfl (To.keep htoH (Fr.alloc (fun _ => False) _ _) (fun _ _ f => f)) rfl (Tl.one _ x) (Nat.le_trans (show Fr (fun _ => False) w wr from hfH).size (by simp)) (by have : _ ≤ j := hlen; simp only [List.length_cons, List.length_nil]; omega) ?_; intro v3 w3 ht3 f3 _)
      go_roundg (g.ks.length - (j + 1))
      case measure => have := (show gk = g.ks.length - j from hkH); omega
      case rel =>
        refine ⟨j + 1, by go_num, by omega, rfl, ?_, ?_⟩
        · rw [show g.ks.take (j + 1) = _ from hsn]; exact ht3
        · refine ((show Fr (fun _ => False) w wr from hfH).same (Fr.alloc _ _ _)).over f3 fun k hk => ?_
          exact ((show To wr w.heap.size _ _ from htoH).own k hk).1
    · obtain rfl : j = g.ks.length := by omega
      clear hf hto
      go_wp2
      go_ret
      refine ⟨Ret.of ?_, hfH⟩
      simpa using (show To wr w.heap.size u3 (g.ks.take g.ks.length) from htoH)
set_option maxRecDepth 20000 in
set_option maxHeartbeats 4000000 in
theorem rusers_any (p : Value) (g : Gr) (n : Str) (w : World) (h : Rg w p g) :
    Calls Try.prog 14 #[p, ct n] w fun e w' => Ret w.heap.size (usersS g n) e w' ∧ Fr (fun _ => False) w w' := by
  obtain ⟨B, ao, cap, rfl, cB, hrow⟩ := h.cell
  have hsm := h.small
  have hrowH : Hidden (RL w ao cap g) := hrow
  have hc1 := hrow.1
  have hc2 := hrow.2.1
  clear h hrow
  go_enter Try.func14, Try.ntmps14
  go_wp2
  go_loopg [5, 6] g.ks.length (fun k uv iv wr => ∃ j : Nat, iv = .int .i64 (j : Int) ∧ j ≤ g.ks.length ∧ k = g.ks.length - j ∧ To wr w.heap.size uv ((g.ks.take j).filter fun u => decide (n ∈ g.im u)) ∧ Fr (fun _ => False) w wr)
  case atStart => exact ⟨0, rfl, by omega, rfl, To.nil _ _, Fr.refl _ _⟩
  case round =>
    obtain ⟨j, rfl, hj, hk, hto, hf⟩ := hrel
    have hkH : Hidden (gk = g.ks.length - j) := hk
    have hfH : Hidden (Fr (fun _ => False) w wr) := hf
    have htoH : Hidden (To wr w.heap.size u5 ((g.ks.take j).filter fun u => decide (n ∈ g.im u))) := hto
    have cBr := hf.cellN cB
    clear hk
    by_cases hjl : j < g.ks.length
    · obtain ⟨x, hx⟩ : ∃ x, g.ks[j]? = some x := ⟨g.ks[j], List.getElem?_eq_getElem hjl⟩
      obtain ⟨b, off, aoi, capi, rfl, c1, c2, ct3⟩ := RL.at ((show RL w ao cap g from hrowH).later hf) hx
      obtain ⟨r2, hr2⟩ : ∃ r, decide (n ∈ g.im x) = r := ⟨_, rfl⟩
      have kf := rhas_any _ _ n r2 hr2 wr ct3
      have hr2H : Hidden (decide (n ∈ g.im x) = r2) := hr2
      have hsn : Hidden ((g.ks.take (j + 1)).filter (fun u => decide (n ∈ g.im u)) = (g.ks.take j).filter (fun u => decide (n ∈ g.im u)) ++ if decide (n ∈ g.im x) = true then [x] else []) := filter_snoc hx _
      have hlen : Hidden (((g.ks.take j).filter fun u => decide (n ∈ g.im u)).length ≤ j) := by
        show _ ≤ _
        exact Nat.le_trans (List.length_filter_le _ _) (by simp; omega)
      clear hx ct3 hto hf hr2
      cases r2
      · go_wp2_with (go_at_call 36; refine kf.mono ?_; rintro e w2 ⟨rfl, hw2⟩; replace hw2 := hw2.symm; subst hw2)
        go_roundg (g.ks.length - (j + 1))
        case measure => have := (show gk = g.ks.length - j from hkH); omega
        case rel =>
          refine ⟨j + 1, by go_num, by omega, rfl, ?_, hfH⟩
          have e1 : (g.ks.take (j + 1)).filter _ = _ := hsn
          rw [e1, (show decide (n ∈ g.im x) = false from hr2H)]
          simpa using (show To wr w.heap.size _ _ from htoH)
      · go_wp2_with (first
          | (go_at_call 36; refine kf.mono ?_; rintro e w2 ⟨rfl, hw2⟩; replace hw2 := hw2.symm; subst hw2)
          | (at_builtin; refine wpList_app rfl _ _ rfl w.heap.size _ _ _ [x] rfl (To.keep htoH (Fr.alloc (fun _ => False) _ _) (fun _ _ f => f)) rfl (Tl.one _ x) (Nat.le_trans (show Fr (fun _ => False) w wr from hfH).size (by simp)) (by have : _ ≤ j := hlen; simp only [List.length_cons, List.length_nil]; omega) ?_; intro v3 w3 ht3 f3 _))
        go_roundg (g.ks.length - (j + 1))
        case measure => have := (show gk = g.ks.length - j from hkH); omega
        case rel =>
          refine ⟨j + 1, by go_num, by omega, rfl, ?_, ?_⟩
          · have e1 : (g.ks.take (j + 1)).filter _ = _ := hsn
            rw [e1, (show decide (n ∈ g.im x) = true from hr2H)]
            simpa using ht3
          · refine ((show Fr (fun _ => False) w wr from hfH).same (Fr.alloc _ _ _)).over f3 fun k hk => ?_
            exact ((show To wr w.heap.size _ _ from htoH).own k hk).1
    · obtain rfl : j = g.ks.length := by omega
      clear hf hto
      go_wp2
      go_ret
      refine ⟨Ret.of ?_, hfH⟩
      simpa [usersS, List.take_length] using (show To wr w.heap.size u5 ((g.ks.take g.ks.length).filter fun u => decide (n ∈ g.im u)) from htoH)
end Go.Proofs.Ytajefmmggefbeaa.Dg
