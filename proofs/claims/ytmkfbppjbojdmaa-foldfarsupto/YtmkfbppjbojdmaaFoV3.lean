/- The document's Far; Like; FoldFars. -/
import Derived.Test.YtmkfbppjbojdmaaFoP
namespace Go.Proofs.Ytmkfbppjbojdmaa.Fo
open Go.RowKit Te
set_option linter.unusedSimpArgs false
set_option linter.unusedVariables false

abbrev RoW (w : World) (B : Nat) (v : Value) (l : List Con) : Prop := Rw.Row RC 39 4 w B v l
theorem RoW.col {w : World} {B : Nat} {v : Value} {l : List Con} (h : RoW w B v l) : ∃ ao cap, v = .slice ao l.length cap ∧ CoL w ao cap l := by
  obtain ⟨ao, cap, h1, h2, h3, h4⟩ := h.slice
  refine ⟨ao, cap, h1, h2, h3, ?_⟩
  rcases h4 with h4 | ⟨g, rfl, hc⟩
  · exact Or.inl h4
  · refine Or.inr ⟨g, 0, rfl, fun i x hx j u hu => ?_⟩
    obtain ⟨c, h5, _, h6⟩ := hc i x hx
    have h5 : c = coC x := h5
    subst h5
    rw [Nat.zero_add]
    exact h6 j u hu
set_option maxRecDepth 20000 in
set_option maxHeartbeats 8000000 in
theorem rfar_any (l : List Ty.Fc) (ao : Option Addr) (cap : Nat) (w : World) (h1 : l.length ≤ cap) (h2 : cap ≤ maxLen) (h3 : l = [] ∨ ∃ b off, ao = some ⟨b, off, none⟩ ∧ ∀ (i : Nat) (x : Ty.Fc), l[i]? = some x → LayF w b (off + i * 2) x) (hb : allI l * 48 ≤ 140737488355328) :
    Calls Try.prog 7 #[.slice ao l.length cap] w fun e w' => ∃ v, e = .returned v ∧ RoW w' w.heap.size v (farS l) ∧ Fr FN w w' := by
  have m2 : cap ≤ 9223372036854775807 := by unfold maxLen at h2; omega
  have h3H : Hidden (l = [] ∨ ∃ b off, ao = some ⟨b, off, none⟩ ∧ ∀ (i : Nat) (x : Ty.Fc), l[i]? = some x → LayF w b (off + i * 2) x) := h3
  have hbH : Hidden (allI l * 48 ≤ 140737488355328) := hb
  clear h3 hb h2
  go_enter Try.func7, Try.ntmps7
  go_wp2_with fail
  go_loopg [3, 4] l.length (fun g lv iv wr => ∃ (i : Nat), iv = ci (i : Int) ∧ i ≤ l.length ∧ RoW wr w.heap.size lv (farS (l.take i)) ∧ g = l.length - i ∧ Fr FN w wr)
  case atStart => exact ⟨0, rfl, by omega, row_none _ _ _, rfl, Fr.refl _ _⟩
  case round =>
    obtain ⟨i, rfl, hi, hrow, hgk, hfr⟩ := hrel
    have hgkH : Hidden (gk = l.length - i) := hgk
    obtain ⟨ao2, cap2, hv, _⟩ := hrow.slice
    subst hv
    have hrowH : Hidden (RoW wr w.heap.size (.slice ao2 (farS (l.take i)).length cap2) (farS (l.take i))) := hrow
    have hfrH : Hidden (Fr FN w wr) := hfr
    have hfz := hfr.size
    clear hgk hrow
    by_cases hil : i < l.length
    · obtain ⟨f, ht⟩ : ∃ f, l[i]? = some f := ⟨l[i], List.getElem?_eq_getElem hil⟩
      obtain ⟨b, off, ai, ic, rfl, hit, d0, d1⟩ := FcL_at (show l = [] ∨ _ from h3H) ht
      have hbw : Hidden (b < w.heap.size) := cell_lt d0
      have d0H : Hidden (w.cell? ⟨b, off + i * 2, none⟩ = some (ct f.name)) := d0
      have d1H : Hidden (w.cell? ⟨b, off + i * 2 + 1, none⟩ = some (.slice ai f.items.length ic)) := d1
      have hitH : Hidden (Ty.ItL w ai ic f.items) := hit
      have n1 := hit.1
      have n2 : ic ≤ 9223372036854775807 := by have := hit.2.1; unfold maxLen at this; omega
      have hts : Hidden (farS (l.take (i + 1)) = farS (l.take i) ++ farI f.name f.items) := farS_snoc ht
      have hcnt : Hidden ((farS (l.take i)).length + f.items.length ≤ allI l) := by have := farS_len (l.take i); have := allI_take l i ht; show _ ≤ _; omega
      obtain ⟨V, hV⟩ : ∃ V, V = wr := ⟨wr, rfl⟩
      rw [← hV] at hrowH hfrH hfz
      subst hV
      clear ht hfr hit d0 d1
      go_wp2_with fail
      go_loopg [3, 5] f.items.length (fun g lv iv wr => ∃ (j : Nat), iv = ci (j : Int) ∧ j ≤ f.items.length ∧ RoW wr w.heap.size lv (farS (l.take i) ++ farI f.name (f.items.take j)) ∧ g = f.items.length - j ∧ Fr FN w wr)
      case atStart =>
        refine ⟨0, rfl, by omega, ?_, rfl, hfrH⟩
        have := (show RoW V w.heap.size _ (farS (l.take i)) from hrowH)
        simpa [farI] using this
      case round =>
        obtain ⟨j, rfl, hj, hrow, hgk, hfr⟩ := hrel
        have hgk2 : Hidden (gk = f.items.length - j) := hgk
        obtain ⟨ao3, cap3, hv, hc1, hc2, _⟩ := hrow.slice
        have hclH : Hidden ((farS (l.take i) ++ farI f.name (f.items.take j)).length < allI l ∨ f.items.length ≤ j) := by
          by_cases hjj : f.items.length ≤ j
          · exact Or.inr hjj
          · left
            have := farI_len f.name (f.items.take j)
            have : (f.items.take j).length = j := by rw [List.length_take]; omega
            have : (farS (l.take i)).length + f.items.length ≤ allI l := hcnt
            rw [List.length_append]; omega
        generalize hL : (farS (l.take i) ++ farI f.name (f.items.take j)).length = n at hv hc1
        have hLH : Hidden ((farS (l.take i) ++ farI f.name (f.items.take j)).length = n) := hL
        subst hv
        have hrow2 : Hidden (RoW wr w.heap.size (.slice ao3 n cap3) (farS (l.take i) ++ farI f.name (f.items.take j))) := hrow
        have hfr2 : Hidden (Fr FN w wr) := hfr
        have hfz2 := hfr.size
        have d0 := hfr.cellN d0H
        have d1 := hfr.cellN d1H
        clear hgk hrow hc2 hL
        by_cases hjl : j < f.items.length
        · obtain ⟨p, hp⟩ : ∃ p, f.items[j]? = some p := ⟨f.items[j], List.getElem?_eq_getElem hjl⟩
          obtain ⟨b2, off2, ap, cp, rfl, e0, e1, e2, e3, e4⟩ := ItL_at (show Ty.ItL w ai ic f.items from hitH) hp
          replace e0 := hfr.cellN e0
          replace e1 := hfr.cellN e1
          replace e2 := hfr.cellN e2
          replace e3 := hfr.cellN e3
          replace e4 := hfr.cellN e4
          have hsn : Hidden (farI f.name (f.items.take (j + 1)) = farI f.name (f.items.take j) ++ (if p.kind = 1 then [⟨f.name, p.name, p.typ, p.bits⟩] else [])) := farI_snoc hp
          obtain ⟨pk, pn, pt, pb, pp⟩ := p
          dsimp only at e0 e1 e2 e3 e4 hsn
          have fc := Fr.alloc FN wr (itO ⟨pk, pn, pt, pb, pp⟩ (.slice ap pp.length cp))
          by_cases hk1 : pk = 1
          · subst hk1
            have hsn2 : Hidden (farS (l.take i) ++ farI f.name (f.items.take (j + 1)) = (farS (l.take i) ++ farI f.name (f.items.take j)) ++ [⟨f.name, pn, pt, pb⟩]) := by rw [show farI f.name (f.items.take (j + 1)) = _ from hsn, if_pos rfl, List.append_assoc]; rfl
            obtain ⟨Wi, hWi⟩ : ∃ W, W = wr.alloc (itO ⟨1, pn, pt, pb, pp⟩ (.slice ap pp.length cp)) := ⟨_, rfl⟩
            have hb7 : Wi.heap[wr.heap.size]? = some (itO ⟨1, pn, pt, pb, pp⟩ (.slice ap pp.length cp)) := by rw [hWi]; exact alloc_new _ _
            have hszi : Hidden (Wi.heap.size = wr.heap.size + 1) := by rw [hWi]; simp [Hidden]
            rw [← hWi] at fc
            have y1 : Wi.cell? ⟨wr.heap.size, 1, none⟩ = some (ct pn) := cell_of_row _ _ 1 _ _ _ hb7
            have y2 : Wi.cell? ⟨wr.heap.size, 2, none⟩ = some (ci pt) := cell_of_row _ _ 2 _ _ _ hb7
            have y3 : Wi.cell? ⟨wr.heap.size, 3, none⟩ = some (.int .u64 pb) := cell_of_row _ _ 3 _ _ _ hb7
            have y0 := fc.cellN d0
            have hrow3H : Hidden (RoW Wi w.heap.size (.slice ao3 n cap3) (farS (l.take i) ++ farI f.name (f.items.take j))) := row_keepN hrow2 fc
            have hfi : Hidden (Fr FN w Wi) := hfr.same fc
            have hlow : Hidden (∀ k, (Value.slice ao3 n cap3).ownBlock = some k → w.heap.size ≤ k ∧ k < wr.heap.size) := fun k hk => (show RoW wr w.heap.size (.slice ao3 n cap3) _ from hrow2).low k hk
            have hWiH : Hidden (Wi = _) := hWi
            clear hp hsn hWi hb7
            go_wp2_with fail
            rw [← (show Wi = _ from hWiH)]
            go_region_held3 (fun w' => w'.cell? ⟨b, off + i * 2, none⟩ = some (ct f.name) ∧ w'.cell? ⟨wr.heap.size, 1, none⟩ = some (ct pn) ∧ w'.cell? ⟨wr.heap.size, 2, none⟩ = some (ci pt) ∧ w'.cell? ⟨wr.heap.size, 3, none⟩ = some (.int .u64 pb)) (first | (refine ⟨by with_reducible assumption, by with_reducible assumption, by with_reducible assumption, by with_reducible assumption⟩) | go_keep) (first
              | (refine Rw.step_rows (R := RC) rfl _ _ 26 39 (.agg #[.string ⟨#[]⟩, .string ⟨#[]⟩, .int .i64 0, .int .u64 0]) 4 48 Try.underlying26 info_rcon rfl (by decide) rfl w.heap.size (.slice ao3 n cap3) (farS (l.take i) ++ farI f.name (f.items.take j)) [⟨f.name, pn, pt, pb⟩] (coC ⟨f.name, pn, pt, pb⟩) ⟨Wi.heap.size, 0, none⟩ 1 1 rfl ?c0 rfl rfl (chunk1 _) ?c1 (coC_one _) ?c2 ?c3 ?c4 ?_
                 case c0 => exact row_keepN (row_keepN hrow3H (Fr.alloc _ _ _)) (Fr.drew _ _)
                 case c1 => exact co_row (c := ⟨f.name, pn, pt, pb⟩) (w := (Wi.alloc _).drew) (alloc_new _ _)
                 case c2 => have h1 : _ < _ ∨ _ ≤ _ := hclH; have : allI l * 48 ≤ 140737488355328 := hbH; simp only [maxLen, List.length_singleton]; omega
                 case c3 => have h1 : _ < _ ∨ _ ≤ _ := hclH; have : allI l * 48 ≤ 140737488355328 := hbH; simp only [List.length_singleton]; omega
                 case c4 => have : Wi.heap.size = wr.heap.size + 1 := hszi; simp; omega
                 intro v4 w4 hr4 f4 _
                 have kp : ∀ (g m : Nat) (u : Value), (∀ k, (Value.slice ao3 n cap3).ownBlock = some k → k ≠ g) → Wi.cell? ⟨g, m, none⟩ = some u → w4.cell? ⟨g, m, none⟩ = some u := fun g m u hg hu => f4.cell (((Fr.alloc FN Wi _).same (Fr.drew _ _)).cellN hu) (fun e => hg g e rfl)
                 have n0 : ∀ k, (Value.slice ao3 n cap3).ownBlock = some k → k ≠ b := fun k hk e => by have := (show ∀ k, _ → w.heap.size ≤ k ∧ k < wr.heap.size from hlow) k hk; have : b < w.heap.size := hbw; omega
                 have n9 : ∀ k, (Value.slice ao3 n cap3).ownBlock = some k → k ≠ wr.heap.size := fun k hk e => by have := (show ∀ k, _ → w.heap.size ≤ k ∧ k < wr.heap.size from hlow) k hk; omega
                 have q0 := kp _ _ _ n0 y0
                 have q1 := kp _ _ _ n9 y1
                 have q2 := kp _ _ _ n9 y2
                 have q3 := kp _ _ _ n9 y3
                 clear kp n0 n9))
            go_wp2_with fail
            have g4 : Fr FN w w4 := (show Fr FN w Wi from hfi).over (((Fr.alloc FN Wi _).same (Fr.drew _ _)).mono (fun _ _ f => f.elim) |>.same f4) (fun k hk => ((show ∀ k, _ → w.heap.size ≤ k ∧ k < wr.heap.size from hlow) k hk).1)
            have hr5 : RoW w4 w.heap.size v4 (farS (l.take i) ++ farI f.name (f.items.take (j + 1))) := by rw [show farS (l.take i) ++ farI f.name (f.items.take (j + 1)) = _ from hsn2]; exact hr4
            go_roundg (f.items.length - (j + 1))
            case measure => have : gk = f.items.length - j := hgk2; omega
            case rel => exact ⟨j + 1, by go_num, by omega, hr5, rfl, g4⟩
          · have hsn2 : Hidden (farI f.name (f.items.take (j + 1)) = farI f.name (f.items.take j)) := by rw [show farI f.name (f.items.take (j + 1)) = _ from hsn, if_neg hk1, List.append_nil]; rfl
            have k1 : (pk == 1) = false := by simp [hk1]
            have hrow3H : Hidden (RoW (wr.alloc (itO ⟨pk, pn, pt, pb, pp⟩ (.slice ap pp.length cp))) w.heap.size (.slice ao3 n cap3) (farS (l.take i) ++ farI f.name (f.items.take (j + 1)))) := by rw [show farI f.name (f.items.take (j + 1)) = _ from hsn2]; exact row_keepN hrow2 fc
            clear hp hsn hk1
            go_wp2_with fail
            go_roundg (f.items.length - (j + 1))
            case measure => have : gk = f.items.length - j := hgk2; omega
            case rel => exact ⟨j + 1, by go_num, by omega, hrow3H, rfl, hfr.same fc⟩
        · obtain rfl : j = f.items.length := by omega
          have hrow3 : Hidden (RoW wr w.heap.size (.slice ao3 n cap3) (farS (l.take (i + 1)))) := by
            rw [show farS (l.take (i + 1)) = _ from hts]
            have := (show RoW wr w.heap.size (.slice ao3 n cap3) _ from hrow2)
            rw [List.take_length] at this
            exact this
          go_wp2_with fail
          go_roundg (l.length - (i + 1))
          case measure => have : _ = l.length - i := hgkH; omega
          case rel => exact ⟨i + 1, by go_num, by omega, hrow3, rfl, hfr2⟩
    · obtain rfl : i = l.length := by omega
      go_wp2_with fail
      go_ret
      refine ⟨_, rfl, ?_, hfrH⟩
      have e : farS (l.take l.length) = farS l := by rw [List.take_length]
      rw [← e]
      exact hrowH
set_option maxRecDepth 20000 in
set_option maxHeartbeats 8000000 in
theorem like_any (l : List Con) (ao : Option Addr) (cap : Nat) (ao' : Option Addr) (cap' : Nat) (w : World) (h : CoL w ao cap l) (h' : CoL w ao' cap' l) :
    Calls Try.prog 5 #[.slice ao l.length cap, .slice ao' l.length cap'] w fun e w' => e = .returned (.bool true) ∧ Fr FN w w' := by
  have m1 := h.1
  have m2 : cap ≤ 9223372036854775807 := by have := h.2.1; unfold maxLen at this; omega
  have m3 := h'.1
  have m4 : cap' ≤ 9223372036854775807 := by have := h'.2.1; unfold maxLen at this; omega
  have hH : Hidden (CoL w ao cap l) := h
  have hH' : Hidden (CoL w ao' cap' l) := h'
  clear h h'
  go_enter Try.func5, Try.ntmps5
  go_wp2_with fail
  go_loopg [5] l.length (fun g iv wr => ∃ (i : Nat), iv = ci (i : Int) ∧ i ≤ l.length ∧ g = l.length - i ∧ Fr FN w wr)
  case atStart => exact ⟨0, rfl, by omega, rfl, Fr.refl _ _⟩
  case round =>
    obtain ⟨i, rfl, hi, hgk, hfr⟩ := hrel
    have hgkH : Hidden (gk = l.length - i) := hgk
    have hfrH : Hidden (Fr FN w wr) := hfr
    clear hgk
    by_cases hil : i < l.length
    · obtain ⟨c, ht⟩ : ∃ c, l[i]? = some c := ⟨l[i], List.getElem?_eq_getElem hil⟩
      obtain ⟨g, off, rfl, d0, d1, d2, d3⟩ := CoL.at ((show CoL w _ cap l from hH).keep hfr) ht
      obtain ⟨g2, off2, rfl, e0, e1, e2, e3⟩ := CoL.at ((show CoL w _ cap' l from hH').keep hfr) ht
      clear ht
      go_wp2_with fail
      go_region_held3 (fun w' => w'.cell? ⟨g, off + i * 4, none⟩ = some (ct c.mod) ∧ w'.cell? ⟨g, off + i * 4 + 1, none⟩ = some (ct c.name) ∧ w'.cell? ⟨g, off + i * 4 + 2, none⟩ = some (ci c.t) ∧ w'.cell? ⟨g, off + i * 4 + 3, none⟩ = some (.int .u64 c.b) ∧ w'.cell? ⟨g2, off2 + i * 4, none⟩ = some (ct c.mod) ∧ w'.cell? ⟨g2, off2 + i * 4 + 1, none⟩ = some (ct c.name) ∧ w'.cell? ⟨g2, off2 + i * 4 + 2, none⟩ = some (ci c.t) ∧ w'.cell? ⟨g2, off2 + i * 4 + 3, none⟩ = some (.int .u64 c.b)) (go_keep) (fail)
      go_wp2_with fail
      go_roundg (l.length - (i + 1))
      case measure => have : gk = l.length - i := hgkH; omega
      case rel => exact ⟨i + 1, by go_num, by omega, rfl, (show Fr FN w wr from hfrH).same (Fr.drew _ _)⟩
    · obtain rfl : i = l.length := by omega
      go_wp2_with fail
      go_ret
      exact ⟨rfl, hfrH⟩
end Go.Proofs.Ytmkfbppjbojdmaa.Fo
namespace Go.Proofs.Ytmkfbppjbojdmaa.foldFars
theorem sum_ge (l : List Ty.It) : l.length ≤ (l.map Ty.bkI).sum := by
  induction l with
  | nil => simp
  | cons c r ih => simp only [List.length_cons, List.map_cons, List.sum_cons, Ty.bkI]; omega
theorem all_le (l : List Ty.Fc) : Fo.allI l ≤ Fo.bk_ifaces l := by
  unfold Fo.allI Fo.bk_ifaces
  induction l with
  | nil => simp
  | cons f r ih =>
    have := sum_ge f.items
    simp only [List.map_cons, List.sum_cons, Fo.bkF]
    omega
theorem walk (v : Value) (l : List Ty.Fc) (W : World) (h0 : Fo.FcL W v l) (_h1 : ∀ f ∈ l, Fo.OkF f) (h2 : Fo.bk_ifaces l ≤ 1048576) :
    Calls Try.prog 3 #[v] W fun e w' => e = .returned (.bool true) ∧ Fr (fun _ => False) W w' := by
  obtain ⟨ao, cap, rfl, a1, a2, a3⟩ := h0
  have hle := all_le l
  have k1 := Fo.far_any l ao cap W a1 a2 a3 (by omega)
  have k2 := fun (w1 : World) (f : Fr Fo.FN W w1) => Fo.rfar_any l ao cap w1 a1 a2 (a3.imp id fun ⟨b, off, e, hc⟩ => ⟨b, off, e, fun i x hx => by
    obtain ⟨ai, ic, b1, b2, b3⟩ := hc i x hx
    exact ⟨ai, ic, b1.keep f, f.cellN b2, f.cellN b3⟩⟩) (by omega)
  clear a1 a2 a3 h2 hle
  go_enter Try.func3, Try.ntmps3
  go_wp2_with fail
  go_at_call 6
  refine k1.mono ?_
  rintro e w1 ⟨v1, rfl, hr1, f1⟩
  obtain ⟨a1, c1, hv1, hc1⟩ := Fo.CoW.col hr1
  subst hv1
  have k3 := k2 w1 f1
  clear k2 hr1
  go_wp2_with fail
  go_at_call 7
  refine k3.mono ?_
  rintro e w2 ⟨v2, rfl, hr2, f2⟩
  obtain ⟨a2, c2, hv2, hc2⟩ := Fo.RoW.col hr2
  subst hv2
  have k4 := Fo.like_any _ a1 c1 a2 c2 w2 (hc1.keep f2) hc2
  clear hr2 hc1 hc2
  go_wp2_with fail
  go_at_call 5
  refine k4.mono ?_
  rintro e w3 ⟨rfl, f3⟩
  go_wp2_with (go_at_call 8; refine (Fo.alive_any _).mono ?_; rintro e w4 ⟨rfl, f4⟩)
  go_ret
  exact ⟨rfl, (f1.same f2).same (f3.same f4)⟩
end Go.Proofs.Ytmkfbppjbojdmaa.foldFars
