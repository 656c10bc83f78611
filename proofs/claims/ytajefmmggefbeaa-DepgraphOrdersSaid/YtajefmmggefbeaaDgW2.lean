/- The document's Missing, Under, Over. -/
import Derived.Test.YtajefmmggefbeaaDgW1
import Derived.Test.YtajefmmggefbeaaNmRSet
namespace Go.Proofs.Ytajefmmggefbeaa.Dg
open Go.RowKit Go.Sort
set_option linter.unusedSimpArgs false
set_option linter.unusedVariables false

set_option maxRecDepth 20000 in
set_option maxHeartbeats 4000000 in
theorem rmissing_any (p : Value) (g : Gr) (w : World) (h : Rg w p g) :
    Calls Try.prog 7 #[p] w fun e w' => e = .returned (missV (missS g)) ∧ Fr (fun _ => False) w w' := by
  have hH : Hidden (Rg w p g) := h
  obtain ⟨B, ao, cap, rfl, cB, hrow⟩ := h.cell
  have hsm := h.small
  have hrowH : Hidden (RL w ao cap g) := hrow
  have hc1 := hrow.1
  have hc2 := hrow.2.1
  obtain ⟨R, hR⟩ : ∃ R, missS g = R := ⟨_, rfl⟩
  rw [hR]
  have hRH : Hidden (missGo g g.ks = R) := hR
  clear h hrow hR
  go_enter Try.func7, Try.ntmps7
  go_wp2
  go_loopg [5] g.ks.length (fun k iv wr => ∃ j : Nat, iv = .int .i64 (j : Int) ∧ j ≤ g.ks.length ∧ k = g.ks.length - j ∧ missGo g (g.ks.drop j) = R ∧ wr = w)
  case atStart => exact ⟨0, rfl, by omega, rfl, hRH, rfl⟩
  case round =>
    obtain ⟨j, rfl, hj, hk, hm, hw⟩ := hrel
    subst hw
    have hkH : Hidden (gk = g.ks.length - j) := hk
    have hmH : Hidden (missGo g (g.ks.drop j) = R) := hm
    clear hk hm
    by_cases hjl : j < g.ks.length
    · obtain ⟨x, hx⟩ : ∃ x, g.ks[j]? = some x := ⟨g.ks[j], List.getElem?_eq_getElem hjl⟩
      obtain ⟨b, off, aoi, capi, rfl, c1, c2, ct3⟩ := RL.at (show RL wr ao cap g from hrowH) hx
      have htlH : Hidden (Tl wr (.slice aoi (g.im x).length capi) (g.im x)) := ct3
      have him := (show Rg wr _ g from hH).ims x
      have hcapi := Tl.cap_le ct3
      have hm2 : Hidden (missIn g x (g.im x) (g.ks.drop (j + 1)) = R) := by
        show _ = _
        rw [← missGo_cons, ← drop_at hx]; exact hmH
      clear ct3 hx
      go_wp2_with fail
      obtain ⟨gko, hgko⟩ : ∃ gko, gko = gk := ⟨gk, rfl⟩
      subst hgko
      obtain ⟨V, hV⟩ : ∃ V, V = wr := ⟨wr, rfl⟩
      subst hV
      go_loopg [6] (g.im x).length (fun k iv wr' => ∃ i : Nat, iv = .int .i64 (i : Int) ∧ i ≤ (g.im x).length ∧ k = (g.im x).length - i ∧ missIn g x ((g.im x).drop i) (g.ks.drop (j + 1)) = R ∧ wr' = V)
      case atStart => exact ⟨0, rfl, by omega, rfl, hm2, rfl⟩
      case round =>
        obtain ⟨i, rfl, hi, hk, hm, hw⟩ := hrel
        subst hw
        have hkH2 : Hidden (gk = (g.im x).length - i) := hk
        have hmH3 : Hidden (missIn g x ((g.im x).drop i) (g.ks.drop (j + 1)) = R) := hm
        clear hk hm
        by_cases hil : i < (g.im x).length
        · obtain ⟨y, hy⟩ : ∃ y, (g.im x)[i]? = some y := ⟨(g.im x)[i], List.getElem?_eq_getElem hil⟩
          obtain ⟨b2, off2, rfl, d2⟩ := Tl.at (show Tl wr (.slice aoi (g.im x).length capi) (g.im x) from htlH) hy
          have hm4 : Hidden (missIn g x (y :: (g.im x).drop (i + 1)) (g.ks.drop (j + 1)) = R) := by
            show _ = _
            rw [← drop_at hy]; exact hmH3
          clear hy
          rcases findS_spec g.ks y with ⟨a1, _, a3⟩ | ⟨q, a1, _, a3⟩
          · have ka := rat_any _ g y _ a3 wr hH
            have hm5 : Hidden (some (x, y) = R) := by
              show _ = _
              rw [← missIn_out g x y _ _ a1]; exact hm4
            clear a1 a3
            go_wp2_with (go_at_call 31; refine ka.mono ?_; rintro e w2 ⟨rfl, hw2⟩; replace hw2 := hw2.symm; subst hw2)
            go_region
            go_wp2
            go_ret3
            refine ⟨?_, Fr.drew _ _⟩
            rw [← (show some (x, y) = R from hm5)]
            rfl
          · have ka := rat_any _ g y _ a3 wr hH
            have hm5 : Hidden (missIn g x ((g.im x).drop (i + 1)) (g.ks.drop (j + 1)) = R) := by
              show _ = _
              rw [← missIn_in g x y _ _ (List.mem_of_getElem? a1)]; exact hm4
            clear a1 a3
            go_wp2_with (go_at_call 31; refine ka.mono ?_; rintro e w2 ⟨rfl, hw2⟩; replace hw2 := hw2.symm; subst hw2)
            go_roundg ((g.im x).length - (i + 1))
            case measure => have := (show gk = (g.im x).length - i from hkH2); omega
            case rel => exact ⟨i + 1, by go_num, by omega, rfl, hm5, rfl⟩
        · obtain rfl : i = (g.im x).length := by omega
          have hm5 : Hidden (missGo g (g.ks.drop (j + 1)) = R) := by
            show _ = _
            rw [← missIn_nil g x, ← (List.drop_eq_nil_of_le (Nat.le_refl (g.im x).length))]; exact hmH3
          go_wp2
          go_roundg (g.ks.length - (j + 1))
          case measure => have := (show gko = g.ks.length - j from hkH); omega
          case rel => exact ⟨j + 1, by go_num, by omega, rfl, hm5, rfl⟩
    · obtain rfl : j = g.ks.length := by omega
      have hm5 : Hidden (none = R) := by
        show _ = _
        rw [← (show missGo g (g.ks.drop g.ks.length) = R from hmH), List.drop_eq_nil_of_le (Nat.le_refl _)]; rfl
      go_wp2
      go_ret3
      refine ⟨?_, Fr.refl _ _⟩
      rw [← (show none = R from hm5)]
      rfl

/-- While the document gathers what a name leads to. -/
structure VInv (g : Gr) (n : Str) (i : Nat) (out : List Str) : Prop where
  nodup : out.Nodup
  im : ∀ x ∈ g.im n, x ∈ out
  reach : ∀ x ∈ out, Reach g n x
  on : ∀ y ∈ out.take i, ∀ x ∈ g.im y, x ∈ out
structure VIn (g : Gr) (n : Str) (i : Nat) (x : Str) (k : Nat) (out : List Str) : Prop extends VInv g n i out where
  here : out[i]? = some x
  part : ∀ y ∈ (g.im x).take k, y ∈ out
theorem VInv.start {g : Gr} (hg : g.WF) (n : Str) : VInv g n 0 (g.im n) := ⟨nodup_of_ss (hg.im n), fun x h => h, fun x h => .one h, fun y h => by simp at h⟩
theorem VInv.enter {g : Gr} {n x : Str} {i : Nat} {out : List Str} (h : VInv g n i out) (hx : out[i]? = some x) : VIn g n i x 0 out := ⟨h, hx, fun y hy => by simp at hy⟩
theorem VIn.old {g : Gr} {n x y : Str} {i k : Nat} {out : List Str} (h : VIn g n i x k out) (hy : (g.im x)[k]? = some y) (ho : y ∈ out) : VIn g n i x (k + 1) out :=
  ⟨h.toVInv, h.here, fun z hz => by
    rw [take_snoc hy, List.mem_append] at hz
    rcases hz with hz | hz
    · exact h.part z hz
    · simp at hz; subst hz; exact ho⟩
theorem VIn.new {g : Gr} {n x y : Str} {i k : Nat} {out : List Str} (h : VIn g n i x k out) (hy : (g.im x)[k]? = some y) (ho : y ∉ out) : VIn g n i x (k + 1) (out ++ [y]) := by
  have hil := (List.getElem?_eq_some_iff.1 h.here).1
  refine ⟨⟨?_, fun z hz => by simp [h.im z hz], fun z hz => ?_, fun z hz u hu => ?_⟩, ?_, fun z hz => ?_⟩
  · rw [List.nodup_append]
    refine ⟨h.nodup, by simp, fun a ha b hb e => ?_⟩
    simp at hb; subst hb e; exact ho ha
  · rcases List.mem_append.1 hz with hz | hz
    · exact h.reach z hz
    · simp at hz; subst hz
      exact .more (h.reach x (List.mem_of_getElem? h.here)) (List.mem_of_getElem? hy)
  · rw [List.take_append_of_le_length (by omega)] at hz
    simp [h.on z hz u hu]
  · rw [List.getElem?_append_left hil]; exact h.here
  · rw [take_snoc hy, List.mem_append] at hz
    rcases hz with hz | hz
    · simp [h.part z hz]
    · simp at hz; subst hz; simp
theorem VIn.leave {g : Gr} {n x : Str} {i : Nat} {out : List Str} (h : VIn g n i x (g.im x).length out) : VInv g n (i + 1) out :=
  ⟨h.nodup, h.im, h.reach, fun z hz u hu => by
    rw [take_snoc h.here, List.mem_append] at hz
    rcases hz with hz | hz
    · exact h.on z hz u hu
    · simp at hz; subst hz
      exact h.part u (by rw [List.take_length]; exact hu)⟩
theorem VInv.end {g : Gr} {n : Str} {out : List Str} (h : VInv g n out.length out) : IsUnder g n (setS out) := by
  refine ⟨setS_ss _, fun x => ?_⟩
  rw [mem_setS]
  refine ⟨h.reach x, fun k => ?_⟩
  induction k with
  | one h1 => exact h.im _ h1
  | more _ h2 ih => exact h.on _ (by rw [List.take_length]; exact ih) _ h2
theorem flat512 {w : World} {p : Value} {g : Gr} (h : Rg w p g) : (g.ks.flatMap g.im).length ≤ 512 := by
  have key : ∀ l : List Str, (l.flatMap g.im).length ≤ 16 * l.length := by
    intro l
    induction l with
    | nil => simp
    | cons a r ih =>
      rw [List.flatMap_cons, List.length_append, List.length_cons]
      have := h.ims a
      omega
  have := key g.ks
  have := h.small
  omega
theorem reach_flat {g : Gr} (hg : g.WF) {n x : Str} (h : Reach g n x) : x ∈ g.ks.flatMap g.im := by
  rcases h.last with k | ⟨b, _, k⟩
  · exact List.mem_flatMap.2 ⟨n, Reach.node hg (.one k), k⟩
  · exact List.mem_flatMap.2 ⟨b, Reach.node hg (.one k), k⟩
theorem rreach_ok {w : World} {p : Value} {g : Gr} (h : Rg w p g) {n x : Str} (hr : Reach g n x) : OkN x := by
  rcases hr.last with k | ⟨b, _, k⟩
  · exact h.okI k
  · exact h.okI k
theorem VInv.small {w : World} {p : Value} {g : Gr} (hr : Rg w p g) {n : Str} {i : Nat} {out : List Str} (h : VInv g n i out) : out.length ≤ 512 :=
  Nat.le_trans (nodup_le h.nodup (fun x hx => reach_flat hr.wf (h.reach x hx))) (flat512 hr)
/-- A row that was there is apart from what is of the call's own. -/
theorem Tl.apart {w W : World} {v v' : Value} {l m : List Str} (h : Tl w v l) (ht : To W w.heap.size v' m) : l ≠ [] → ∀ k, v.ownBlock = some k → ¬ v'.ownBlock = some k := by
  intro hl k hk hk'
  obtain ⟨ao, cap, rfl, _, _, _, h4⟩ := h
  rcases h4 with h0 | ⟨b, off, rfl, hc⟩
  · exact hl h0
  · have hb : b = k := by simpa [Value.ownBlock] using hk
    subst hb
    obtain ⟨x, hx⟩ : ∃ x, l[0]? = some x := by
      cases l with
      | nil => exact absurd rfl hl
      | cons x l => exact ⟨x, rfl⟩
    have h1 := World.block_lt_of_cell? w _ (hc 0 x hx)
    have h2 := (ht.own _ hk').1
    simp only at h1
    omega
set_option maxRecDepth 20000 in
set_option maxHeartbeats 4000000 in
theorem runder_any (p : Value) (g : Gr) (n : Str) (w : World) (h : Rg w p g) :
    Calls Try.prog 16 #[p, ct n] w fun e w' => (∃ l, Ret w.heap.size l e w' ∧ IsUnder g n l) ∧ Fr (fun _ => False) w w' := by
  have hH : Hidden (Rg w p g) := h
  obtain ⟨aoi, capi, ti, ki⟩ := h.imports n
  have ki := ki (w.alloc (.cells #[] 9)) (Fr.alloc _ _ _)
  have tiH : Hidden (Tl (w.alloc (.cells #[] 9)) (.slice aoi (g.im n).length capi) (g.im n)) := ti.later (Fr.alloc _ _ _)
  have him : Hidden ((g.im n).length ≤ 16) := h.ims n
  have ep : ∃ B, p = .pointer (some ⟨B, 0, none⟩) := by obtain ⟨B, _, _, e, _⟩ := h.cell; exact ⟨B, e⟩
  obtain ⟨B, hp⟩ := ep
  clear h ti
  subst hp
  go_enter Try.func16, Try.ntmps16
  go_wp2_with (first
    | (go_at_call 12; refine ki.mono ?_; rintro e w1 ⟨rfl, hw1⟩; replace hw1 := hw1.symm; subst hw1)
    | (at_builtin; refine wpList_app rfl _ _ rfl w.heap.size _ _ [] (g.im n) rfl (To.empty w w.heap.size (Nat.le_refl _)) rfl tiH (by simp) (by have : _ ≤ 16 := him; simp; omega) ?_; intro v2 w2 t2 f2 _
       have f2H : Hidden (Fr (fun _ => False) w w2) := (Fr.alloc (fun _ => False) w _).over f2 (fun k hk => ((To.empty w w.heap.size (Nat.le_refl _)).own k hk).1)
       have t2H : Hidden (To w2 w.heap.size v2 (g.im n)) := by rw [List.nil_append] at t2; exact t2
       clear t2 f2))
  go_loopg [5, 6] 513 (fun q ov iv wr => ∃ (i : Nat) (out : List Str), iv = .int .i64 (i : Int) ∧ i ≤ out.length ∧ q = 513 - i ∧ VInv g n i out ∧ To wr w.heap.size ov out ∧ Fr (fun _ => False) w wr)
  case atStart => exact ⟨0, g.im n, rfl, by omega, rfl, VInv.start (show Rg w _ g from hH).wf n, t2H, f2H⟩
  case round =>
    obtain ⟨i, out, rfl, hi, hk, hv, ht, hf⟩ := hrel
    have hkH : Hidden (gk = 513 - i) := hk
    have hvH : Hidden (VInv g n i out) := hv
    have htH : Hidden (To wr w.heap.size u5 out) := ht
    have hfH : Hidden (Fr (fun _ => False) w wr) := hf
    have hsmall := hv.small (show Rg w _ g from hH)
    obtain ⟨aoo, capo, hu, o1, o2⟩ := ht.shape
    subst hu
    clear hk hv t2H f2H
    by_cases hil : i < out.length
    · obtain ⟨x, hx⟩ : ∃ x, out[i]? = some x := ⟨out[i], List.getElem?_eq_getElem hil⟩
      obtain ⟨b, off, rfl, c1⟩ := Tl.at ht.tn.tl hx
      obtain ⟨aox, capx, tx, kx⟩ := (show Rg w _ g from hH).imports x
      have kx := kx wr hf
      have txH : Hidden (Tl w (.slice aox (g.im x).length capx) (g.im x)) := tx
      have hcx := Tl.cap_le tx
      have hvi : Hidden (VIn g n i x 0 out) := (show VInv g n i out from hvH).enter hx
      have himx := (show Rg w _ g from hH).ims x
      clear hx ht hf tx
      go_wp2_with (go_at_call 12; refine kx.mono ?_; rintro e w3 ⟨rfl, hw3⟩; replace hw3 := hw3.symm; subst hw3)
      obtain ⟨gko, hgko⟩ : ∃ gko, gko = gk := ⟨gk, rfl⟩
      subst hgko
      obtain ⟨V, hV⟩ : ∃ V, V = wr := ⟨wr, rfl⟩
      subst hV
      clear c1
      go_loopg [5, 8] (g.im x).length (fun q ov iv wr' => ∃ (k : Nat) (out' : List Str), iv = .int .i64 (k : Int) ∧ k ≤ (g.im x).length ∧ q = (g.im x).length - k ∧ VIn g n i x k out' ∧ To wr' w.heap.size ov out' ∧ Fr (fun _ => False) w wr')
      case atStart => exact ⟨0, out, rfl, by omega, rfl, hvi, htH, hfH⟩
      case round =>
        obtain ⟨k, out2, rfl, hk2, hq2, hv2, ht2, hf2⟩ := hrel
        have hqH2 : Hidden (gk = (g.im x).length - k) := hq2
        have hvH2 : Hidden (VIn g n i x k out2) := hv2
        have htH2 : Hidden (To wr w.heap.size u5 out2) := ht2
        have hfH2 : Hidden (Fr (fun _ => False) w wr) := hf2
        have hsm2 : Hidden (out2.length ≤ 512) := hv2.toVInv.small (show Rg w _ g from hH)
        have hil2 : Hidden (i < out2.length) := (List.getElem?_eq_some_iff.1 hv2.here).1
        clear hq2
        by_cases hkl : k < (g.im x).length
        · obtain ⟨y, hy⟩ : ∃ y, (g.im x)[k]? = some y := ⟨(g.im x)[k], List.getElem?_eq_getElem hkl⟩
          obtain ⟨b2, off2, rfl, d2⟩ := Tl.at ((show Tl w (.slice aox (g.im x).length capx) (g.im x) from txH).later hf2) hy
          by_cases hin : y ∈ out2
          · have kh := rhas_any u5 out2 y true (by simp [hin]) wr ht2.tn.tl
            have hv3 : Hidden (VIn g n i x (k + 1) out2) := hv2.old hy hin
            clear hy hin hv2 ht2 hf2
            go_wp2_with (go_at_call 36; refine kh.mono ?_; rintro e w4 ⟨rfl, hw4⟩; replace hw4 := hw4.symm; subst hw4)
            go_roundg ((g.im x).length - (k + 1))
            case measure => have := (show gk = (g.im x).length - k from hqH2); omega
            case rel => exact ⟨k + 1, out2, by go_num, by omega, rfl, hv3, htH2, hfH2⟩
          · have kh := rhas_any u5 out2 y false (by simp [hin]) wr ht2.tn.tl
            have hv3 : Hidden (VIn g n i x (k + 1) (out2 ++ [y])) := hv2.new hy hin
            clear hy hin hv2 ht2 hf2
            go_wp2_with (first
              | (go_at_call 36; refine kh.mono ?_; rintro e w4 ⟨rfl, hw4⟩; replace hw4 := hw4.symm; subst hw4)
              | (at_builtin; refine wpList_app rfl _ _ rfl w.heap.size _ _ out2 [y] rfl (To.keep htH2 (Fr.alloc (fun _ => False) _ _) (fun _ _ f => f)) rfl (Tl.one _ y) (Nat.le_trans (show Fr (fun _ => False) w wr from hfH2).size (by simp)) (by have : _ ≤ 512 := hsm2; simp only [List.length_cons, List.length_nil]; omega) ?_; intro v5 w5 t5 f5 _))
            go_roundg ((g.im x).length - (k + 1))
            case measure => have := (show gk = (g.im x).length - k from hqH2); omega
            case rel =>
              refine ⟨k + 1, out2 ++ [y], by go_num, by omega, rfl, hv3, t5, ?_⟩
              refine ((show Fr (fun _ => False) w wr from hfH2).same (Fr.alloc _ _ _)).over f5 fun k hk => ?_
              exact ((show To wr w.heap.size _ _ from htH2).own k hk).1
        · obtain rfl : k = (g.im x).length := by omega
          have hv3 : Hidden (VInv g n (i + 1) out2) := hv2.leave
          clear hv2 ht2 hf2
          go_wp2
          go_roundg (513 - (i + 1))
          case measure => have := (show gko = 513 - i from hkH); omega
          case rel => exact ⟨i + 1, out2, by go_num, hil2, rfl, hv3, htH2, hfH2⟩
    · obtain rfl : i = out.length := by omega
      have hu : Hidden (IsUnder g n (setS out)) := (show VInv g n out.length out from hvH).end
      have ks := rset_any _ out wr ht.tn.tl (by omega) (fun y hy => rreach_ok (show Rg w _ g from hH) ((show VInv g n out.length out from hvH).reach y hy))
      clear ht hf
      go_wp2_with (go_at_call 39; refine ks.mono ?_; rintro e w6 ⟨v6, rfl, t6, f6⟩)
      go_ret
      exact ⟨⟨_, Ret.of (t6.lower (show Fr (fun _ => False) w wr from hfH).size), hu⟩, Fr.same hfH f6⟩
end Go.Proofs.Ytajefmmggefbeaa.Dg
