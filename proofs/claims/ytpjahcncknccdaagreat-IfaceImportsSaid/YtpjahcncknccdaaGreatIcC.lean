/- iface.imported. -/
import Derived.Test.YtpjahcncknccdaaGreatIcB
namespace Go.Proofs.YtpjahcncknccdaaGreat.Fo.Ic
open Go.RowKit Te
set_option linter.unusedSimpArgs false
set_option linter.unusedVariables false

theorem wpl_one {α : Type} {R : α → List Value → Prop} {w : World} {ops : Array Oper} {rest : List Oper} {o : Oper} {a : Act} {Q : Exit → Act → World → Prop} (hgd : o.guard = none) (s x : Operand) (ty e : TypeId) (z : Value) (size bytes : Nat)
    (hty : Tryz.prog.underlying ty = some (.slice e)) (hinfo : (Tryz.prog.info? e).map (fun i => (i.zero, i.size, i.bytes)) = some (some z, size, bytes)) (hzs : z.cells.size = size) (hsz : 0 < size)
    (ho : o.op = .call { callee := .builtin .append, args := #[s, x], argTypes := #[ty, ty] }) (B : Nat) (v : Value) (l : List α) (c : α) (cs : List Value) (g : Nat) (t : TypeId)
    (hs : a.eval s = v) (hr : Rw.Row R e size w B v l) (hx : a.eval x = .slice (some ⟨g, 0, none⟩) 1 1) (hlen : cs.length = size) (hR : R c cs) (hy : w.heap[g]? = some (.cells cs.toArray t (0, 0))) (h1 : ∀ u ∈ cs, u.oneCell' = true)
    (hm : l.length + 1 ≤ maxLen) (hb : (l.length + 1) * bytes ≤ 140737488355328) (hB : B ≤ w.heap.size)
    (h : ∀ v' w', Rw.Row R e size w' B v' (l ++ [c]) → Fr (fun b => v.ownBlock = some b) w w' → (v'.ownBlock = v.ownBlock ∨ v'.ownBlock = some w.heap.size) → wpList Tryz.prog ops Q rest (a.put o.dst v') w') : wpList Tryz.prog ops Q (o :: rest) a w := by
  obtain ⟨cells, hr1, hr2⟩ := hr
  refine wpl_append hgd s x ty e z size bytes hty hinfo hzs hsz ho B v l.length cells ⟨g, 0, none⟩ 1 1 cs hs hr1 hx (by omega) ?_ h1 hm hb hB ?_
  · intro j u hu
    rw [Addr.add_lit, Nat.zero_add, cell_of_row w g j cs.toArray t (0, 0) hy]
    simpa using hu
  · intro v' w' h1 h2 h3
    exact h v' w' ⟨cells ++ cs, by rw [List.length_append]; exact h1, hr2.app ⟨cs, [], by simp, hlen, hR, rfl⟩⟩ h2 h3
/-- An interface of a row, whose items are those of a world. -/
def RF (W : World) (f : Ty.Fc) (cs : List Value) : Prop := ∃ ai ic, Ty.ItL W ai ic f.items ∧ cs = [ct f.name, .slice ai f.items.length ic]
theorem info_if : (Tryz.prog.info? 24).map (fun i => (i.zero, i.size, i.bytes)) = some (some (.agg #[.string ⟨#[]⟩, .slice none 0 0]), 2, 40) := by kernel_rfl
theorem if_none (W w : World) (B : Nat) : Rw.Row (RF W) 24 2 w B (.slice none 0 0) [] := ⟨[], ⟨by simp, Or.inl ⟨rfl, rfl⟩⟩, rfl⟩
set_option maxRecDepth 20000 in
set_option maxHeartbeats 4000000 in
theorem imported_any (imps : List Bs) (ao : Option Addr) (cap : Nat) (l : List Ty.Fc) (bo : Option Addr) (bc : Nat) (w : World) (h1 : SvL w ao cap imps) (h2 : l.length ≤ bc) (h3 : bc ≤ maxLen)
    (h4 : Hidden (l = [] ∨ ∃ b off, bo = some ⟨b, off, none⟩ ∧ ∀ (i : Nat) (x : Ty.Fc), l[i]? = some x → LayF w b (off + i * 2) x)) (hokl : ∀ f ∈ l, Ty.OkN f.name ∧ ∀ i ∈ f.items, Ty.OkI i) (hb : imps.length ≤ 16) (R : Option (List Ty.Fc)) (hR : Hidden (impS l imps = R)) :
    Calls Tryz.prog 32 #[.slice ao imps.length cap, .slice bo l.length bc] w fun e w' => ∃ v, e = .returned (.tuple #[v, .bool R.isSome]) ∧ (∀ g, R = some g → Rw.Row (RF w) 24 2 w' w.heap.size v g) ∧ Fr FN w w' := by
  have m1 := h1.1
  have m2 : cap ≤ 9223372036854775807 := by have := h1.2.1; unfold maxLen at this; omega
  have m3 : bc ≤ 9223372036854775807 := by unfold maxLen at h3; omega
  have h1H : Hidden (SvL w ao cap imps) := h1
  have hoklH : Hidden (∀ f ∈ l, Ty.OkN f.name ∧ ∀ i ∈ f.items, Ty.OkI i) := hokl
  have hbH : Hidden (imps.length ≤ 16) := hb
  clear h1 hokl h3 hb
  go_enter Tryz.func32, Tryz.ntmps32
  go_wp2_with fail
  go_loopg [6, 14] imps.length (fun g lv iv wr => ∃ (i : Nat) (acc : List Ty.Fc), iv = ci (i : Int) ∧ i ≤ imps.length ∧ g = imps.length - i ∧ acc.length ≤ i ∧ impGo l (imps.drop i) (imps.take i) acc = R ∧ Rw.Row (RF w) 24 2 wr w.heap.size lv acc ∧ Fr FN w wr)
  case atStart => exact ⟨0, [], rfl, by omega, rfl, by simp, hR, if_none _ _ _, Fr.refl _ _⟩
  case round =>
    obtain ⟨i, acc, rfl, hi, hgk, hac, hgo, hrow, hfr⟩ := hrel
    obtain ⟨ao2, cap2, hv, _⟩ := hrow.slice
    subst hv
    have hgkH : Hidden (gk = imps.length - i) := hgk
    have hrowH : Hidden (Rw.Row (RF w) 24 2 wr w.heap.size (.slice ao2 acc.length cap2) acc) := hrow
    have hfrH : Hidden (Fr FN w wr) := hfr
    clear hgk hrow
    by_cases hil : i < imps.length
    · obtain ⟨x, hx⟩ : ∃ x, imps[i]? = some x := ⟨imps[i], List.getElem?_eq_getElem hil⟩
      obtain ⟨b, off, rfl, hcs⟩ : ∃ b off, ao = some ⟨b, off, none⟩ ∧ ∀ (j : Nat) (y : Bs), imps[j]? = some y → w.cell? ⟨b, off + j, none⟩ = some (ct y) := by
        rcases (show SvL w ao cap imps from h1H).2.2 with h0 | ⟨b, off, e, h0⟩
        · rw [h0] at hil; simp at hil
        · exact ⟨b, off, e, h0⟩
      have d0 := hfr.cellN (hcs i x hx)
      have hic : i ≤ cap := by omega
      have hi0 : (0 : Int) ≤ (i : Int) := by omega
      have hi1 : (i : Int) ≤ (cap : Int) := by omega
      have kf : ∀ u, Fr FN w u → Calls Tryz.prog 62 #[.slice (some ⟨b, off, none⟩) i cap, .string ⟨x.toArray⟩] u fun e w' => e = .returned (.tuple #[ci ((idxT x (imps.take i) 0).toNat : Int), .bool (decide (x ∈ imps.take i))]) ∧ w' = u := fun u hu =>
        find_any (some ⟨b, off, none⟩) i cap (imps.take i) x u (by show _ = _; rw [List.length_take]; omega) (by omega) m2 (by
          right
          refine ⟨b, off, rfl, fun j y hy => hu.cellN (hcs j y ?_)⟩
          rw [List.getElem?_take] at hy
          split at hy
          · exact hy
          · cases hy)
      rw [dropAt hx] at hgo
      unfold impGo at hgo
      have htk : imps.take i ++ [x] = imps.take (i + 1) := (take_snoc hx).symm
      rw [htk] at hgo
      have hgoH : Hidden (_ = R) := hgo
      have fa := Fr.alloc FN wr (.cells #[ct x] 9)
      have kI : ∀ u, Fr FN (wr.alloc (.cells #[ct x] 9)) u → Calls Tryz.prog 63 #[.slice bo l.length bc, .func (.func 64) #[] #[.pointer (some ⟨wr.heap.size, 0, none⟩)]] u fun e w' => e = .returned (.int .i64 (idxF x l 0)) ∧ Fr FN u w' := fun u hu =>
        ifunc_any bo l.length bc l x wr.heap.size _ u rfl h2 m3 (by
          rcases (show l = [] ∨ _ from h4) with h0 | ⟨b, off, e, h0⟩
          · exact Or.inl h0
          · exact Or.inr ⟨b, off, e, fun i y hy => by
              obtain ⟨ap, cp, q1, q2, q3⟩ := h0 i y hy
              have ff := (hfr.same fa).same hu
              exact ⟨ap, cp, q1.keep ff, ff.cellN q2, ff.cellN q3⟩⟩) (hu.cellN (cell_of_row _ _ 0 _ _ _ (alloc_new wr _))) rfl
      have hbx : (wr.alloc (.cells #[ct x] 9)).cell? ⟨wr.heap.size, 0, none⟩ = some (ct x) := cell_of_row _ _ 0 _ _ _ (alloc_new wr _)
      have hbxH : Hidden ((wr.alloc (.cells #[ct x] 9)).cell? ⟨wr.heap.size, 0, none⟩ = some (ct x)) := hbx
      obtain ⟨V, hV⟩ : ∃ V, V = wr.alloc (.cells #[ct x] 9) := ⟨_, rfl⟩
      have fV : Fr FN w V := by rw [hV]; exact hfr.same fa
      have fVH : Hidden (Fr FN w V) := fV
      have fwV : Hidden (Fr FN wr V) := by rw [hV]; exact fa
      rw [← hV] at kI hbx
      have hVH : Hidden (V = wr.alloc (.cells #[ct x] 9)) := hV
      have kfV : ∀ u, Fr FN V u → Calls Tryz.prog 62 #[.slice (some ⟨b, off, none⟩) i cap, .string ⟨x.toArray⟩] u fun e w' => e = .returned (.tuple #[ci ((idxT x (imps.take i) 0).toNat : Int), .bool (decide (x ∈ imps.take i))]) ∧ w' = u := fun u hu => kf u (fV.same hu)
      generalize (((idxT x (imps.take i) 0).toNat : Nat) : Int) = kq at kfV
      clear kf hcs hgo htk hV hfr fa fV
      have kI2 : ∀ u, Fr FN V u → Calls Tryz.prog 63 #[.slice bo l.length bc, .func (.func 64) #[] #[.pointer (some ⟨wr.heap.size, 0, none⟩)]] u fun e w' => e = .returned (.int .i64 (idxF x l 0)) ∧ Fr FN V w' := fun u hu => (kI u hu).mono fun _ _ ⟨q1, q2⟩ => ⟨q1, hu.same q2⟩
      clear kI
      by_cases hm : x ∈ imps.take i
      · rw [decide_eq_true hm] at kfV
        rw [Hidden, if_pos hm] at hgoH
        have hgo2 : Hidden (impGo l (imps.drop (i + 1)) (imps.take (i + 1)) acc = R) := hgoH
        clear hgoH hm kI2
        go_wp2_with fail
        rw [← (show V = _ from hVH)]
        go_region_held3 (fun w' => w'.cell? ⟨wr.heap.size, 0, none⟩ = some (ct x)) (first | (with_reducible assumption) | go_keep) (first | (go_at_call 62; (with_reducible refine Calls.mono (kfV V.drew (Fr.drew _ _)) ?_); rintro e w2 ⟨rfl, hw2⟩; rw [hw2]; clear hw2))
        go_wp2_with fail
        go_roundg (imps.length - (i + 1))
        case measure => have : gk = imps.length - i := hgkH; omega
        case rel => exact ⟨i + 1, acc, by go_num, by omega, rfl, by omega, hgo2, ((show Rw.Row (RF w) _ 2 wr _ _ _ from hrowH).keep fwV (fun _ _ f => f)).keep (Fr.drew FN V) (fun _ _ f => f), (show Fr FN w V from fVH).same (Fr.drew _ _)⟩
      · rw [decide_eq_false hm] at kfV
        rw [Hidden, if_neg hm] at hgoH
        clear hm
        rcases idxF_spec x l 0 with ⟨hg0, e0⟩ | ⟨k, f, hk, hfn, e0, hg0⟩
        · rw [e0] at kI2
          rw [hg0] at hgoH
          obtain rfl : none = R := hgoH
          clear hg0 e0 hR
          go_wp2_with fail
          rw [← (show V = _ from hVH)]
          go_region_held3 (fun w' => w'.cell? ⟨wr.heap.size, 0, none⟩ = some (ct x)) (first | (with_reducible assumption) | go_keep) (first | (go_at_call 62; (with_reducible refine Calls.mono (kfV V.drew (Fr.drew _ _)) ?_); rintro e w2 ⟨rfl, hw2⟩; rw [hw2]; clear hw2))
          go_wp2_with (go_at_call 63; refine Calls.mono (kI2 V.drew (Fr.drew _ _)) ?_; rintro e w3 ⟨rfl, f3⟩)
          go_ret2
          exact ⟨_, rfl, (fun g hg => nomatch hg), (show Fr FN w V from fVH).same f3⟩
        · rw [Nat.zero_add] at e0
          rw [e0] at kI2
          rw [hg0] at hgoH
          have hkl : k < l.length := (List.getElem?_eq_some_iff.1 hk).1
          obtain ⟨b2, off2, ai, ic, rfl, hit, c0, c1⟩ := FcL_at (show l = [] ∨ _ from h4) hk
          have hof := (show ∀ f ∈ l, Ty.OkN f.name ∧ ∀ i ∈ f.items, Ty.OkI i from hoklH) f (List.mem_of_getElem? hk)
          have kr : ∀ u, Fr FN V u → Calls Tryz.prog 9 #[.agg #[ct f.name, .slice ai f.items.length ic]] u fun e w' => e = .returned (ci (Ty.rightF f)) ∧ Fr FN V w' := fun u hu => (Ty.rightIface_any f _ u ⟨ai, ic, rfl, hit.keep ((show Fr FN w V from fVH).same hu)⟩ hof.1 hof.2).mono fun _ _ ⟨q1, q2⟩ => ⟨q1, hu.same q2⟩
          replace c0 := (show Fr FN w V from fVH).cellN c0
          replace c1 := (show Fr FN w V from fVH).cellN c1
          have hitH : Hidden (Ty.ItL w ai ic f.items) := hit
          have hk0 : (0 : Int) ≤ (k : Int) := by omega
          have hk1 : (k : Int) < (l.length : Int) := by omega
          have hgo3 : (if Ty.rightF f ≠ 0 then none else impGo l (imps.drop (i + 1)) (imps.take (i + 1)) (acc ++ [f])) = R := hgoH
          generalize Ty.rightF f = rf at kr hgo3
          clear hgoH hg0 e0 hof hit hk hfn
          by_cases hrf : rf = 0
          · subst hrf
            rw [if_neg (by simp)] at hgo3
            have hgo2 : Hidden (impGo l (imps.drop (i + 1)) (imps.take (i + 1)) (acc ++ [f]) = R) := hgo3
            clear hgo3
            go_wp2_with fail
            rw [← (show V = _ from hVH)]
            go_region_held3 (fun w' => w'.cell? ⟨wr.heap.size, 0, none⟩ = some (ct x)) (first | (with_reducible assumption) | go_keep) (first | (go_at_call 62; (with_reducible refine Calls.mono (kfV V.drew (Fr.drew _ _)) ?_); rintro e w2 ⟨rfl, hw2⟩; rw [hw2]; clear hw2))
            go_wp2_with (first
              | (go_at_call 63; refine Calls.mono (kI2 V.drew (Fr.drew _ _)) ?_; rintro e w3 ⟨rfl, f3⟩; have p0 := f3.cellN c0; have p1 := f3.cellN c1)
              | (go_at_call 9; have f3' := f3; refine Calls.mono (kr _ f3') ?_; rintro e w4 ⟨rfl, f4⟩; have r0 := f4.cellN c0; have r1 := f4.cellN c1; have fwr4 : Fr FN wr w4 := (show Fr FN wr V from fwV).same f4; have hrow4 : Hidden (Rw.Row (RF w) 24 2 (w4.alloc (.cells [ct f.name, .slice ai f.items.length ic].toArray 24 (0, 0))) w.heap.size (.slice ao2 acc.length cap2) acc) := (show Rw.Row (RF w) _ 2 wr _ _ _ from hrowH).keep (fwr4.same (Fr.alloc _ _ _)) (fun _ _ f => f); have fw4 : Hidden (Fr FN w w4) := (show Fr FN w V from fVH).same f4)
              | (at_builtin; have hrow4' := hrow4; refine wpl_one (R := RF w) rfl _ _ 40 24 _ 2 40 Tryz.underlying40 info_if rfl (by decide) rfl w.heap.size (.slice ao2 acc.length cap2) acc f [ct f.name, .slice ai f.items.length ic] w4.heap.size 24 rfl hrow4' rfl rfl ⟨ai, ic, hitH, rfl⟩ (alloc_new _ _) ?_ ?_ ?_ ?_ ?_; (focus (intro u hu; simp only [List.mem_cons, List.not_mem_nil, or_false] at hu; rcases hu with rfl | rfl <;> rfl)); (focus (simp only [maxLen]; have : imps.length ≤ 16 := hbH; omega)); (focus (have : imps.length ≤ 16 := hbH; omega)); (focus (have := (show Fr FN w w4 from fw4).size; simp; omega)); intro v5 w5 hr5 f5 _))
            have g5 : Fr FN w w5 := ((show Fr FN w w4 from fw4).same (Fr.alloc _ _ _)).over f5 (fun k hk => (Rw.Row.low (show Rw.Row (RF w) _ 2 _ _ _ _ from hrow4) k hk).1)
            go_roundg (imps.length - (i + 1))
            case measure => have : gk = imps.length - i := hgkH; omega
            case rel => exact ⟨i + 1, acc ++ [f], by go_num, by omega, rfl, by simp; omega, hgo2, hr5, g5⟩
          · rw [if_pos (by simpa using hrf)] at hgo3
            subst hgo3
            have b1 : (rf != 0) = true := by simpa using hrf
            clear hR hrf
            go_wp2_with fail
            rw [← (show V = _ from hVH)]
            go_region_held3 (fun w' => w'.cell? ⟨wr.heap.size, 0, none⟩ = some (ct x)) (first | (with_reducible assumption) | go_keep) (first | (go_at_call 62; (with_reducible refine Calls.mono (kfV V.drew (Fr.drew _ _)) ?_); rintro e w2 ⟨rfl, hw2⟩; rw [hw2]; clear hw2))
            go_wp2_with (first
              | (go_at_call 63; refine Calls.mono (kI2 V.drew (Fr.drew _ _)) ?_; rintro e w3 ⟨rfl, f3⟩; have p0 := f3.cellN c0; have p1 := f3.cellN c1)
              | (go_at_call 9; have f3' := f3; refine Calls.mono (kr _ f3') ?_; rintro e w4 ⟨rfl, f4⟩))
            go_ret2
            exact ⟨_, rfl, (fun g hg => nomatch hg), (show Fr FN w V from fVH).same f4⟩
    · obtain rfl : i = imps.length := by omega
      rw [List.drop_length] at hgo
      unfold impGo at hgo
      subst hgo
      go_wp2_with fail
      go_ret2
      exact ⟨_, rfl, fun g hg => by cases hg; exact hrowH, hfrH⟩
end Go.Proofs.YtpjahcncknccdaaGreat.Fo.Ic
