/- Names, Imports, Users, Missing. -/
import Derived.Test.YtajefmmggefbeaaDgO
namespace Go.Proofs.Ytajefmmggefbeaa.Dg
open Go.RowKit Go.Sort
set_option linter.unusedSimpArgs false
set_option linter.unusedVariables false

/-- A list of texts is handed back, in memory of the call's own. -/
def Ret (B : Nat) (l : List Str) (e : Ending) (w' : World) : Prop := ∃ ao cap, e = .returned (.slice ao l.length cap) ∧ To w' B (.slice ao l.length cap) l
theorem Ret.of {B : Nat} {l : List Str} {v : Value} {w' : World} (h : To w' B v l) : Ret B l (.returned v) w' := by
  obtain ⟨ao, cap, rfl, _, _⟩ := h.shape
  exact ⟨ao, cap, rfl, h⟩
theorem Gt.nil_ks {w : World} {g : Gr} (h : Gt w (.map none) g) : g.ks = [] := by
  rcases h with ⟨_, h1, _⟩ | ⟨b, n, D, e, _⟩
  · exact h1
  · cases e
theorem Gt.some_own {w : World} {b : Nat} {g : Gr} (h : Gt w (.map (some b)) g) : ∃ n D, w.ownsMap Try.prog 9 RS b n D ∧ n ≤ 32 ∧ ∀ s : Str, Maps.has D (.string s) = decide (s ∈ g.ks) := by
  rcases h with ⟨e, _⟩ | ⟨b', n, D, e, h1, h2, h3⟩
  · cases e
  · cases e
    refine ⟨n, D, h1, h2, fun s => ?_⟩
    rcases h3 s with ⟨k1, _, k3⟩ | ⟨k1, k2, _⟩
    · rw [k3]; simp [k1]
    · rw [k2]; simp [k1]
set_option maxHeartbeats 1000000 in
theorem names_any (p : Value) (g : Gr) (w : World) (h : Gp w p g) :
    Calls Try.prog 9 #[p] w fun e w' => Ret w.heap.size g.ks e w' ∧ Fr (fun _ => False) w w' := by
  obtain ⟨mb, hgt, kt⟩ := h.table
  have kt := kt w (Fr.refl _ _)
  have kk := gkeys mb w
  have hss := h.wf.ks
  cases mb with
  | none =>
    have ks := gsorted_nil w
    rw [hgt.nil_ks]
    clear hgt h hss
    go_enter Try.func9, Try.ntmps9
    go_wp2_with (first
      | (go_at_call 30; refine kt.mono ?_; rintro e w1 ⟨rfl, rfl⟩)
      | (go_at_call 33; refine kk.mono ?_; rintro e w1 ⟨rfl, rfl⟩)
      | (go_at_call 32; refine ks.mono ?_; rintro e w1 ⟨v, rfl, ht, f1⟩))
    go_ret
    exact ⟨Ret.of ht, f1⟩
  | some b =>
    obtain ⟨n, D, ho, hn, hm⟩ := hgt.some_own
    have ks := gsorted b n D RS w ho (by omega) g.ks hss hm
    clear hgt h ho hn hm hss
    go_enter Try.func9, Try.ntmps9
    go_wp2_with (first
      | (go_at_call 30; refine kt.mono ?_; rintro e w1 ⟨rfl, rfl⟩)
      | (go_at_call 33; refine kk.mono ?_; rintro e w1 ⟨rfl, rfl⟩)
      | (go_at_call 32; refine ks.mono ?_; rintro e w1 ⟨v, rfl, ht, f1⟩))
    go_ret
    exact ⟨Ret.of ht, f1⟩
set_option maxHeartbeats 1000000 in
theorem imports_any (p : Value) (g : Gr) (n : Str) (w : World) (h : Gp w p g) (hn : OkN n) :
    Calls Try.prog 11 #[p, ct n] w fun e w' => Ret w.heap.size (g.im n) e w' ∧ Fr (fun _ => False) w w' := by
  obtain ⟨mb, hgt, kt⟩ := h.table
  have kt := kt w (Fr.refl _ _)
  obtain ⟨ao, cap, hl, htl⟩ := hgt.look n hn
  have kc := clone_any _ _ _ htl (by have := h.ims n; omega)
  clear hgt h htl hn
  go_enter Try.func11, Try.ntmps11
  go_wp2_with (first
    | (go_at_call 30; refine kt.mono ?_; rintro e w1 ⟨rfl, rfl⟩)
    | (go_at_call 34; refine kc.mono ?_; rintro e w1 ⟨v, rfl, ht, f1⟩))
  go_ret
  exact ⟨Ret.of ht, f1⟩
/-- The cell of a text in a row. -/
theorem Tl.at {w : World} {ao : Option Addr} {n cap : Nat} {l : List Str} (h : Tl w (.slice ao n cap) l) {j : Nat} {x : Str} (hx : l[j]? = some x) : ∃ b off, ao = some ⟨b, off, none⟩ ∧ w.cell? ⟨b, off + j, none⟩ = some (ct x) := by
  obtain ⟨ao', cap', e, _, _, _, h4⟩ := h
  cases e
  rcases h4 with rfl | ⟨b, off, rfl, hc⟩
  · simp at hx
  · exact ⟨b, off, rfl, hc j x hx⟩
theorem filter_snoc {l : List Str} {j : Nat} {x : Str} (hx : l[j]? = some x) (p : Str → Bool) : (l.take (j + 1)).filter p = (l.take j).filter p ++ if p x = true then [x] else [] := by
  rw [List.take_add_one, hx, List.filter_append]
  cases h : p x <;> simp [h]
set_option maxRecDepth 20000 in
set_option maxHeartbeats 4000000 in
theorem users_any (p : Value) (g : Gr) (n : Str) (w : World) (h : Gp w p g) :
    Calls Try.prog 13 #[p, ct n] w fun e w' => Ret w.heap.size (usersS g n) e w' ∧ Fr (fun _ => False) w w' := by
  have kn := names_any p g w h
  obtain ⟨mb, hgt, kt⟩ := h.table
  have hgtH : Hidden (Gt w (.map mb) g) := hgt
  have hH : Hidden (Gp w p g) := h
  have hsm := h.small
  clear hgt h
  go_enter Try.func13, Try.ntmps13
  go_wp2_with (go_at_call 9; refine kn.mono ?_; rintro e w1 ⟨⟨ao, cap, rfl, ht1⟩, f1⟩; have ht1H : Hidden (To w1 w.heap.size (.slice ao g.ks.length cap) g.ks) := ht1; have f1H : Hidden (Fr (fun _ => False) w w1) := f1; clear ht1 f1)
  go_loopg [5, 13] g.ks.length (fun k uv iv wr => ∃ j : Nat, iv = .int .i64 (j : Int) ∧ j ≤ g.ks.length ∧ k = g.ks.length - j ∧ To wr w1.heap.size uv ((g.ks.take j).filter fun u => decide (n ∈ g.im u)) ∧ Fr (fun _ => False) w1 wr)
  case atStart => exact ⟨0, rfl, by omega, rfl, To.nil _ _, Fr.refl _ _⟩
  case round =>
    obtain ⟨j, rfl, hj, hk, hto, hf⟩ := hrel
    have hkH : Hidden (gk = g.ks.length - j) := hk
    have hfH : Hidden (Fr (fun _ => False) w1 wr) := hf
    have fw : Hidden (Fr (fun _ => False) w wr) := (show Fr (fun _ => False) w w1 from f1H).same hf
    have htoH : Hidden (To wr w1.heap.size u5 ((g.ks.take j).filter fun u => decide (n ∈ g.im u))) := hto
    obtain ⟨aou, capu, hu, u1, u2⟩ := hto.shape
    subst hu
    clear hk
    by_cases hjl : j < g.ks.length
    · obtain ⟨x, hx⟩ : ∃ x, g.ks[j]? = some x := ⟨g.ks[j], List.getElem?_eq_getElem hjl⟩
      obtain ⟨b, off, rfl, c0⟩ := Tl.at (show To w1 w.heap.size (.slice ao g.ks.length cap) g.ks from ht1H).tn.tl hx
      have c1 := hf.cellN c0
      have hcap : g.ks.length ≤ cap := Tl.cap_le (show To w1 w.heap.size (.slice (some ⟨b, off, none⟩) g.ks.length cap) g.ks from ht1H).tn.tl
      obtain ⟨aoi, capi, hl, htl⟩ := (show Gt w (.map mb) g from hgtH).later fw |>.look x ((show Gp w p g from hH).okN (List.mem_of_getElem? hx))
      have ktr := kt wr fw
      obtain ⟨⟨r1, r2⟩, hR⟩ : ∃ R, findS (g.im x) n = R := ⟨_, rfl⟩
      have kf := find_any _ _ n _ hR wr htl
      have hr2 : Hidden (r2 = decide (n ∈ g.im x)) := by show _ = _; rw [← findS_mem, hR]
      have hsn : Hidden ((g.ks.take (j + 1)).filter (fun u => decide (n ∈ g.im u)) = (g.ks.take j).filter (fun u => decide (n ∈ g.im u)) ++ if decide (n ∈ g.im x) = true then [x] else []) := filter_snoc hx _
      have hlen : Hidden (((g.ks.take j).filter fun u => decide (n ∈ g.im u)).length ≤ j) := by
        show _ ≤ _
        exact Nat.le_trans (List.length_filter_le _ _) (by simp; omega)
      clear htl hR hx c0 hf hto
      cases r2
      · go_wp2_with (first
          | (go_at_call 30; refine ktr.mono ?_; rintro e w2 ⟨rfl, hw2⟩; replace hw2 := hw2.symm; subst hw2)
          | (go_at_call 35; refine kf.mono ?_; rintro e w2 ⟨rfl, hw2⟩; replace hw2 := hw2.symm; subst hw2))
        go_roundg (g.ks.length - (j + 1))
        case measure => have := (show gk = g.ks.length - j from hkH); omega
        case rel =>
          refine ⟨j + 1, by go_num, by omega, rfl, ?_, hfH⟩
          have e1 : (g.ks.take (j + 1)).filter _ = _ := hsn
          rw [e1, ← (show false = decide (n ∈ g.im x) from hr2)]
          simpa using (show To wr w1.heap.size _ _ from htoH)
      · go_wp2_with (first
          | (go_at_call 30; refine ktr.mono ?_; rintro e w2 ⟨rfl, hw2⟩; replace hw2 := hw2.symm; subst hw2)
          | (go_at_call 35; refine kf.mono ?_; rintro e w2 ⟨rfl, hw2⟩; replace hw2 := hw2.symm; subst hw2)
          | (at_builtin; refine wpList_app rfl _ _ rfl w1.heap.size _ _ _ [x] rfl (To.keep htoH (Fr.alloc (fun _ => False) _ _) (fun _ _ f => f)) rfl (Tl.one _ x) (Nat.le_trans (show Fr (fun _ => False) w1 wr from hfH).size (by simp)) (by have : _ ≤ j := hlen; simp only [List.length_cons, List.length_nil]; omega) ?_; intro v3 w3 ht3 f3 _))
        go_roundg (g.ks.length - (j + 1))
        case measure => have := (show gk = g.ks.length - j from hkH); omega
        case rel =>
          refine ⟨j + 1, by go_num, by omega, rfl, ?_, ?_⟩
          · have e1 : (g.ks.take (j + 1)).filter _ = _ := hsn
            rw [e1, ← (show true = decide (n ∈ g.im x) from hr2)]
            simpa using ht3
          · refine ((show Fr (fun _ => False) w1 wr from hfH).same (Fr.alloc _ _ _)).over f3 fun k hk => ?_
            exact ((show To wr w1.heap.size _ _ from htoH).own k hk).1
    · obtain rfl : j = g.ks.length := by omega
      clear hf hto
      go_wp2
      go_ret
      refine ⟨Ret.of (v := .slice aou _ capu) ?_, fw⟩
      have ht : To wr w1.heap.size (.slice aou (((g.ks.take g.ks.length).filter fun u => decide (n ∈ g.im u)).length) capu) (usersS g n) := by
        simpa [usersS, List.take_length] using (show To wr w1.heap.size _ _ from htoH)
      exact To.lower ht (show Fr (fun _ => False) w w1 from f1H).size

/-- What is missing, from a place of a node's imports on. -/
def missIn (g : Gr) (u : Str) (ns rest : List Str) : Option (Str × Str) := match ns.find? (fun n => decide (n ∉ g.ks)) with
  | some n => some (u, n)
  | none => missGo g rest
theorem missGo_cons (g : Gr) (u : Str) (r : List Str) : missGo g (u :: r) = missIn g u (g.im u) r := rfl
theorem missIn_nil (g : Gr) (u : Str) (r : List Str) : missIn g u [] r = missGo g r := rfl
theorem missIn_in (g : Gr) (u n : Str) (ns r : List Str) (h : n ∈ g.ks) : missIn g u (n :: ns) r = missIn g u ns r := by
  unfold missIn; rw [List.find?_cons]; simp [h]
theorem missIn_out (g : Gr) (u n : Str) (ns r : List Str) (h : n ∉ g.ks) : missIn g u (n :: ns) r = some (u, n) := by
  unfold missIn; rw [List.find?_cons]; simp [h]
/-- What Missing answers. -/
def missV (r : Option (Str × Str)) : Value := match r with
  | some (u, n) => .tuple #[ct u, ct n, .bool true]
  | none => .tuple #[ct [], ct [], .bool false]
set_option maxRecDepth 20000 in
set_option maxHeartbeats 4000000 in
theorem missing_any (p : Value) (g : Gr) (w : World) (h : Gp w p g) :
    Calls Try.prog 6 #[p] w fun e w' => e = .returned (missV (missS g)) ∧ Fr (fun _ => False) w w' := by
  have kn := names_any p g w h
  obtain ⟨mb, hgt, kt⟩ := h.table
  have hgtH : Hidden (Gt w (.map mb) g) := hgt
  have hH : Hidden (Gp w p g) := h
  have hsm := h.small
  obtain ⟨R, hR⟩ : ∃ R, missS g = R := ⟨_, rfl⟩
  rw [hR]
  have hRH : Hidden (missGo g g.ks = R) := hR
  clear hgt h hR
  go_enter Try.func6, Try.ntmps6
  go_wp2_with (go_at_call 9; refine kn.mono ?_; rintro e w1 ⟨⟨ao, cap, rfl, ht1⟩, f1⟩; have ht1H : Hidden (To w1 w.heap.size (.slice ao g.ks.length cap) g.ks) := ht1; have f1H : Hidden (Fr (fun _ => False) w w1) := f1; clear ht1 f1)
  go_loopg [14] g.ks.length (fun k iv wr => ∃ j : Nat, iv = .int .i64 (j : Int) ∧ j ≤ g.ks.length ∧ k = g.ks.length - j ∧ missGo g (g.ks.drop j) = R ∧ wr = w1)
  case atStart => exact ⟨0, rfl, by omega, rfl, hRH, rfl⟩
  case round =>
    obtain ⟨j, rfl, hj, hk, hm, hw⟩ := hrel
    subst hw
    have hkH : Hidden (gk = g.ks.length - j) := hk
    have hmH : Hidden (missGo g (g.ks.drop j) = R) := hm
    clear hk hm
    by_cases hjl : j < g.ks.length
    · obtain ⟨x, hx⟩ : ∃ x, g.ks[j]? = some x := ⟨g.ks[j], List.getElem?_eq_getElem hjl⟩
      obtain ⟨b, off, rfl, c0⟩ := Tl.at (show To wr w.heap.size (.slice ao g.ks.length cap) g.ks from ht1H).tn.tl hx
      have hcap : g.ks.length ≤ cap := Tl.cap_le (show To wr w.heap.size (.slice (some ⟨b, off, none⟩) g.ks.length cap) g.ks from ht1H).tn.tl
      obtain ⟨aoi, capi, hl, htl⟩ := (show Gt w (.map mb) g from hgtH).later f1H |>.look x ((show Gp w p g from hH).okN (List.mem_of_getElem? hx))
      have htlH : Hidden (Tl wr (.slice aoi (g.im x).length capi) (g.im x)) := htl
      have ktr := kt wr f1H
      have him := (show Gp w p g from hH).ims x
      have hcapi := Tl.cap_le htl
      have hm2 : Hidden (missIn g x (g.im x) (g.ks.drop (j + 1)) = R) := by
        show _ = _
        rw [← missGo_cons, ← drop_at hx]; exact hmH
      clear htl hx
      go_wp2_with (go_at_call 30; refine ktr.mono ?_; rintro e w2 ⟨rfl, hw2⟩; replace hw2 := hw2.symm; subst hw2)
      obtain ⟨gko, hgko⟩ : ∃ gko, gko = gk := ⟨gk, rfl⟩
      subst hgko
      obtain ⟨V, hV⟩ : ∃ V, V = wr := ⟨wr, rfl⟩
      subst hV
      go_loopg [23] (g.im x).length (fun k iv wr' => ∃ i : Nat, iv = .int .i64 (i : Int) ∧ i ≤ (g.im x).length ∧ k = (g.im x).length - i ∧ missIn g x ((g.im x).drop i) (g.ks.drop (j + 1)) = R ∧ wr' = V)
      case atStart => exact ⟨0, rfl, by omega, rfl, hm2, rfl⟩
      case round =>
        obtain ⟨i, rfl, hi, hk, hm, hw⟩ := hrel
        subst hw
        have hkH2 : Hidden (gk = (g.im x).length - i) := hk
        have hmH3 : Hidden (missIn g x ((g.im x).drop i) (g.ks.drop (j + 1)) = R) := hm
        clear hk hm
        by_cases hil : i < (g.im x).length
        · obtain ⟨y, hy⟩ : ∃ y, (g.im x)[i]? = some y := ⟨(g.im x)[i], List.getElem?_eq_getElem hil⟩
          obtain ⟨b2, off2, rfl, c2⟩ := Tl.at (show Tl wr (.slice aoi (g.im x).length capi) (g.im x) from htlH) hy
          obtain ⟨ao3, n3, cap3, hl3⟩ := ((show Gt w (.map mb) g from hgtH).later f1H).look_ok y ((show Gp w p g from hH).okI (List.mem_of_getElem? hy))
          have hm4 : Hidden (missIn g x (y :: (g.im x).drop (i + 1)) (g.ks.drop (j + 1)) = R) := by
            show _ = _
            rw [← drop_at hy]; exact hmH3
          clear hy
          by_cases hyk : y ∈ g.ks
          · rw [decide_eq_true hyk] at hl3
            have hm5 : Hidden (missIn g x ((g.im x).drop (i + 1)) (g.ks.drop (j + 1)) = R) := by
              show _ = _
              rw [← missIn_in g x y _ _ hyk]; exact hm4
            clear hyk
            go_wp2_with (go_at_call 30; refine ktr.mono ?_; rintro e w2 ⟨rfl, hw2⟩; replace hw2 := hw2.symm; subst hw2)
            go_roundg ((g.im x).length - (i + 1))
            case measure => have := (show gk = (g.im x).length - i from hkH2); omega
            case rel => exact ⟨i + 1, by go_num, by omega, rfl, hm5, rfl⟩
          · rw [decide_eq_false hyk] at hl3
            have hm5 : Hidden (some (x, y) = R) := by
              show _ = _
              rw [← missIn_out g x y _ _ hyk]; exact hm4
            clear hyk
            go_wp2_with (go_at_call 30; refine ktr.mono ?_; rintro e w2 ⟨rfl, hw2⟩; replace hw2 := hw2.symm; subst hw2)
            go_ret3
            refine ⟨?_, f1H⟩
            rw [← (show some (x, y) = R from hm5)]
            rfl
        · obtain rfl : i = (g.im x).length := by omega
          have hm5 : Hidden (missGo g (g.ks.drop (j + 1)) = R) := by
            show _ = _
            rw [← missIn_nil g x, ← (List.drop_eq_nil_of_le (Nat.le_refl (g.im x).length))]; exact hmH3
          go_wp2
          go_roundg (g.ks.length - (j + 1))
          case measure => have := (show gko = g.ks.length - j from hkH); omega
          case rel => exact ⟨j + 1, by go_num, by omega, rfl, hm5, rfl⟩
    · obtain rfl : j = g.ks.length := by omega
      have hm5 : Hidden (none = R) := by
        show _ = _
        rw [← (show missGo g (g.ks.drop g.ks.length) = R from hmH), List.drop_eq_nil_of_le (Nat.le_refl _)]; rfl
      go_wp2
      go_ret3
      refine ⟨?_, f1H⟩
      rw [← (show none = R from hm5)]
      rfl
end Go.Proofs.Ytajefmmggefbeaa.Dg
