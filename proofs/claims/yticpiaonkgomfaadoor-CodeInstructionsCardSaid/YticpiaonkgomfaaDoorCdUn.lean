/- CodeUnlike, walked. -/
import Derived.Test.YticpiaonkgomfaaDoorCdLw
import Derived.Test.YticpiaonkgomfaaDoorCdU
import Derived.Test.YticpiaonkgomfaaDoorCdIn
namespace Go.Proofs.YticpiaonkgomfaaDoor.Cd
open Go.RowKit Ty
set_option linter.unusedSimpArgs false
set_option linter.unusedVariables false

theorem textS_len (b : Int) (hb : U64 b) : (F.textS b).length ≤ 4000 := by
  have hp := F.parts_bounds b ⟨hb.1, hb.2⟩
  have := F.sizeL_len (F.Fl.classS b) (F.partM b).toNat (F.partE b) hp.1 hp.2.1 hp.2.2
  unfold F.textS
  rw [List.length_append]
  split <;> simp <;> omega
theorem showS_len (t b : Int) (hb : U64 b) : (showS t b).length ≤ 4000 := by
  unfold showS
  split
  · exact Nat.le_trans (D.itoa_len _ (wrap_I b)).1 (by omega)
  · split
    · exact textS_len b hb
    · split
      · unfold truthS; split <;> simp
      · simp
theorem operS_len (i : In) (hb : U64 i.b) (hn : Ty.I64 i.n) : (operS i).length ≤ 8000000 := by
  unfold operS
  split
  · have := showS_len i.t i.b hb; omega
  split
  · unfold unW; repeat' split
    all_goals simp
  split
  · unfold binW
    by_cases c1 : i.n = 1
    · rw [if_pos c1]; simp
    rw [if_neg c1]
    repeat' split
    all_goals simp
  · have := (D.itoa_len i.n hn).1; omega
theorem enc_one (g : Nat) (i : In) (hb : U64 i.b) (w : World) (h : w.heap[g]? = some (.cells #[ci i.op, ci i.n, ci i.t, .int .u64 i.b] 27 (0, 0))) :
    Calls Tryd.prog 21 #[.slice (some ⟨g, 0, none⟩) 1 1] w fun e w' => ∃ ao cap, e = .returned (.tuple #[.slice ao (encA [i]).2.length cap, ci (encA [i]).1]) ∧ BL w' ao cap (encA [i]).2 ∧ Fr (fun _ => False) w w' := by
  have hil : IL w (some ⟨g, 0, none⟩) 1 [i] := IL_row (l := [i]) h (by simp) (by simp [maxLen])
  refine (encode_any (some ⟨g, 0, none⟩) 1 [i] w hil (fun x hx => by simp at hx; subst hx; exact hb)).mono ?_
  rintro e w' ⟨v, rfl, hbw, f⟩
  obtain ⟨ao, cap, rfl, hbl⟩ := hbw.bl
  exact ⟨ao, cap, rfl, hbl, f⟩
theorem encA_right {i : In} (h : rightS i = true) : encA [i] = (0, encI i) := by
  unfold encA
  rw [if_neg (by simp), if_pos (by simp [h])]
  simp [encS]
theorem encA_wrong {i : In} (h : rightS i = false) : encA [i] = (51, []) := by
  unfold encA
  rw [if_neg (by simp), if_neg (by simp [h])]
set_option maxRecDepth 20000 in
set_option maxHeartbeats 4000000 in
theorem unlike_walk (x y : In) (hx : OkIn x) (hy : OkIn y) (w : World) (ht : F.Tab w) : Calls Tryd.prog 7 #[inV x, inV y] w fun e w' => e = .returned (.bool true) ∧ Fr (fun _ => False) w w' := by
  have krx := fun W => right_any x hx.b W
  have kry := fun W => right_any y hy.b W
  obtain ⟨U, hU⟩ : ∃ U, U = (w.alloc (.cells #[ci x.op, ci x.n, ci x.t, .int .u64 x.b] 26 (0, 0))).alloc (.cells #[ci y.op, ci y.n, ci y.t, .int .u64 y.b] 26 (0, 0)) := ⟨_, rfl⟩
  have fU : Fr (fun _ => False) w U := by rw [hU]; exact (Fr.alloc _ _ _).same (Fr.alloc _ _ _)
  have kl := live_any U (tab_fr ht fU)
  have bx := box4 (show U.heap[w.heap.size]? = some (.cells #[ci x.op, ci x.n, ci x.t, .int .u64 x.b] 26 (0, 0)) by rw [hU]; exact heap_alloc2_old _ _ _)
  have byy := box4 (show U.heap[w.heap.size + 1]? = some (.cells #[ci y.op, ci y.n, ci y.t, .int .u64 y.b] 26 (0, 0)) by rw [hU]; exact heap_alloc2_new _ _ _)
  have bxH : Hidden _ := bx
  have byH : Hidden _ := byy
  have hUH : Hidden (U = _) := hU
  have fUH : Hidden (Fr (fun _ => False) w U) := fU
  have htH : Hidden (F.Tab w) := ht
  have hxH : Hidden (OkIn x) := hx
  have hyH : Hidden (OkIn y) := hy
  clear hU bx byy fU ht hx hy
  obtain ⟨xo, xn, xt, xb⟩ := x
  obtain ⟨yo, yn, yt, yb⟩ := y
  go_enter Tryd.func7, Tryd.ntmps7
  go_wp2_with fail
  rw [← (show U = _ from hUH)]
  clear hUH
  go_at_call 14
  refine kl.mono ?_
  rintro e w1 ⟨rfl, f1⟩
  obtain ⟨p0, p1, p2, p3⟩ := bxH
  obtain ⟨q0, q1, q2, q3⟩ := byH
  replace p0 := f1.cellN p0
  replace p1 := f1.cellN p1
  replace p2 := f1.cellN p2
  replace p3 := f1.cellN p3
  replace q0 := f1.cellN q0
  replace q1 := f1.cellN q1
  replace q2 := f1.cellN q2
  replace q3 := f1.cellN q3
  have fw1 : Hidden (Fr (fun _ => False) w w1) := (show Fr (fun _ => False) w U from fUH).same f1
  clear f1 kl
  have hfa : Fr (fun _ => False) w1 (w1.alloc (.cells #[ci xo, ci xn, ci xt, .int .u64 xb] 27 (0, 0))) := Fr.alloc _ _ _
  have r0 := hfa.cellN q0
  have r1 := hfa.cellN q1
  have r2 := hfa.cellN q2
  have r3 := hfa.cellN q3
  clear hfa q0 q1 q2 q3
  go_wp2_with fail
  go_at_call 8
  refine (krx _).mono ?_
  rintro e w2 ⟨rfl, f2⟩
  have X2 : w2.heap[w1.heap.size]? = some (.cells #[ci xo, ci xn, ci xt, .int .u64 xb] 27 (0, 0)) := f2.heap (heap_alloc2_old _ _ _) (fun f => f)
  have Y2 : w2.heap[w1.heap.size + 1]? = some (.cells #[ci yo, ci yn, ci yt, .int .u64 yb] 27 (0, 0)) := f2.heap (heap_alloc2_new _ _ _) (fun f => f)
  have fw2 : Hidden (Fr (fun _ => False) w w2) := (show Fr (fun _ => False) w w1 from fw1).same (((Fr.alloc _ _ _).same (Fr.alloc _ _ _)).same f2)
  clear f2 fw1 p0 p1 p2 p3 r0 r1 r2 r3 krx
  obtain ⟨X, hX⟩ : ∃ X, X = w1.heap.size := ⟨_, rfl⟩
  rw [← hX] at X2 Y2 ⊢
  clear hX
  obtain ⟨x0, x1, x2, x3⟩ := box4 X2
  obtain ⟨y0, y1, y2, y3⟩ := box4 Y2
  have tX2 : Hidden _ := X2
  have tY2 : Hidden _ := Y2
  clear X2 Y2
  have hxo : Hidden (OkIn ⟨xo, xn, xt, xb⟩) := hxH
  have hyo : Hidden (OkIn ⟨yo, yn, yt, yb⟩) := hyH
  have ktx : ∀ W, Fr (fun _ => False) w2 W → Calls Tryd.prog 12 #[inV ⟨xo, xn, xt, xb⟩] W fun e w' => e = .returned (ct (textS ⟨xo, xn, xt, xb⟩)) ∧ Fr (fun _ => False) W w' := fun W hW => text_any _ (show OkIn _ from hxo).b (show OkIn _ from hxo).n (operS_len _ (show OkIn _ from hxo).b (show OkIn _ from hxo).n) W (tab_fr htH ((show Fr _ w w2 from fw2).same hW))
  have kty : ∀ W, Fr (fun _ => False) w2 W → Calls Tryd.prog 12 #[inV ⟨yo, yn, yt, yb⟩] W fun e w' => e = .returned (ct (textS ⟨yo, yn, yt, yb⟩)) ∧ Fr (fun _ => False) W w' := fun W hW => text_any _ (show OkIn _ from hyo).b (show OkIn _ from hyo).n (operS_len _ (show OkIn _ from hyo).b (show OkIn _ from hyo).n) W (tab_fr htH ((show Fr _ w w2 from fw2).same hW))
  have kex := fun g W h => enc_one g ⟨xo, xn, xt, xb⟩ (show OkIn _ from hxo).b W h
  have key := fun g W h => enc_one g ⟨yo, yn, yt, yb⟩ (show OkIn _ from hyo).b W h
  by_cases hrx : rightS ⟨xo, xn, xt, xb⟩ = true
  · rw [hrx]
    have hrxH : Hidden (rightS ⟨xo, xn, xt, xb⟩ = true) := hrx
    clear hrx
    go_wp2_with fail
    go_at_call 8
    refine (kry _).mono ?_
    rintro e w3 ⟨rfl, f3⟩
    replace x0 := f3.cellN x0
    replace x1 := f3.cellN x1
    replace x2 := f3.cellN x2
    replace x3 := f3.cellN x3
    replace y0 := f3.cellN y0
    replace y1 := f3.cellN y1
    replace y2 := f3.cellN y2
    replace y3 := f3.cellN y3
    by_cases hry : rightS ⟨yo, yn, yt, yb⟩ = true
    · rw [hry]
      have hryH : Hidden (rightS ⟨yo, yn, yt, yb⟩ = true) := hry
      have kS := fun W => samev_any xt xb yt yb W
      have ti : Hidden (textS ⟨xo, xn, xt, xb⟩ = textS ⟨yo, yn, yt, yb⟩ → (⟨xo, xn, xt, xb⟩ : In) = ⟨yo, yn, yt, yb⟩) := fun h => text_inj hrxH hryH (show OkIn _ from hxo).b (show OkIn _ from hyo).b h
      have ei : Hidden (encI ⟨xo, xn, xt, xb⟩ = encI ⟨yo, yn, yt, yb⟩ → (⟨xo, xn, xt, xb⟩ : In) = ⟨yo, yn, yt, yb⟩) := fun h => encI_inj hrxH hryH (show OkIn _ from hxo).b (show OkIn _ from hyo).b h
      rw [encA_right (show rightS _ = true from hrxH)] at kex
      rw [encA_right (show rightS _ = true from hryH)] at key
      by_cases he : (⟨xo, xn, xt, xb⟩ : In) = ⟨yo, yn, yt, yb⟩
      · cases he
        generalize hE : encI ⟨xo, xn, xt, xb⟩ = E at kex key
        generalize hT : textS ⟨xo, xn, xt, xb⟩ = T at ktx kty
        simp only [and_self, decide_true] at kS
        clear ti ei hE hT hry hrxH hryH
        go_wp2_with fail
        go_at_call 23
        refine (kS _).mono ?_
        rintro e w4 ⟨rfl, f4⟩
        replace x0 := f4.cellN x0; replace x1 := f4.cellN x1; replace x2 := f4.cellN x2; replace x3 := f4.cellN x3; replace y0 := f4.cellN y0; replace y1 := f4.cellN y1; replace y2 := f4.cellN y2; replace y3 := f4.cellN y3
        go_wp2_with fail
        go_at_call 21
        refine (kex _ _ (alloc_new _ _)).mono ?_
        rintro e w5 ⟨ao, ca, rfl, ba, f5⟩
        have f5' := (Fr.alloc (fun _ => False) _ _).same f5
        replace x0 := f5'.cellN x0; replace x1 := f5'.cellN x1; replace x2 := f5'.cellN x2; replace x3 := f5'.cellN x3; replace y0 := f5'.cellN y0; replace y1 := f5'.cellN y1; replace y2 := f5'.cellN y2; replace y3 := f5'.cellN y3
        clear f5
        go_wp2_with fail
        go_at_call 21
        refine (key _ _ (alloc_new _ _)).mono ?_
        rintro e w6 ⟨bo, cb, rfl, bb, f6⟩
        have f6' := (Fr.alloc (fun _ => False) _ _).same f6
        replace x0 := f6'.cellN x0; replace x1 := f6'.cellN x1; replace x2 := f6'.cellN x2; replace x3 := f6'.cellN x3; replace y0 := f6'.cellN y0; replace y1 := f6'.cellN y1; replace y2 := f6'.cellN y2; replace y3 := f6'.cellN y3
        replace ba := ba.keep f6'
        clear f6
        have fw6 : Hidden (Fr (fun _ => False) w w6) := (show Fr (fun _ => False) w w2 from fw2).same ((f3.same f4).same (f5'.same f6'))
        have f26 := (f3.same f4).same (f5'.same f6')
        have ktx' : ∀ W, Fr (fun _ => False) w6 W → _ := fun W hW => ktx W (f26.same hW)
        have kty' : ∀ W, Fr (fun _ => False) w6 W → _ := fun W hW => kty W (f26.same hW)
        have ksb : ∀ W, Fr (fun _ => False) w6 W → Calls Tryd.prog 22 _ W fun e w' => e = .returned (.bool true) ∧ Fr (fun _ => False) W w' := fun W hW => (sameB_any ao bo ca cb _ _ true W (ba.keep hW) (bb.keep hW) (by show _ = _; simp)).mono fun e w' h => ⟨h.1, by rw [h.2]; exact Fr.refl _ _⟩
        clear f3 f4 f5' f6' f26 ktx kty kex key ba bb kS fw2 tX2 tY2
        go_upto_region 13 with fail
        refine wp_region_grow (by kernel_rfl) (by kernel_rfl) ?_
        (repeat (first | (refine grow_op (v := ?_) ?_ ?_ ?_; rotate_left; (focus (first | exact wanted_none rfl | (go_simp; done))); (focus (intro w' hw'; have x0 := hw'.cellN x0; have x1 := hw'.cellN x1; have x2 := hw'.cellN x2; have x3 := hw'.cellN x3; have y0 := hw'.cellN y0; have y1 := hw'.cellN y1; have y2 := hw'.cellN y2; have y3 := hw'.cellN y3; (go_simp; first | with_reducible rfl | (go_at_call 12; refine calls_grow hw' ?_; first | (have q := ktx' w' hw'; with_reducible exact q) | (have q := kty' w' hw'; with_reducible exact q)) | (go_at_call 22; refine calls_grow hw' ?_; first | (have q := ksb w' hw'; with_reducible exact q))))); (intro a' ha; simp only [Act.put, List.setIfInBounds_toArray, List.set_cons_zero, List.set_cons_succ] at ha; subst ha)) | (refine grow_no ?_ ?_; (focus (first | (go_simp; done) | rfl)); (intro a' ha; simp only [Act.put, List.setIfInBounds_toArray, List.set_cons_zero, List.set_cons_succ] at ha; subst ha)))); refine grow_nil ?_; intro w7 q7
        go_wp2_with fail
        go_ret
        exact ⟨rfl, (show Fr (fun _ => False) w w6 from fw6).same q7⟩
      · replace ti : textS ⟨xo, xn, xt, xb⟩ ≠ textS ⟨yo, yn, yt, yb⟩ := fun h => he ((show _ → _ from ti) h)
        replace ei : encI ⟨xo, xn, xt, xb⟩ ≠ encI ⟨yo, yn, yt, yb⟩ := fun h => he ((show _ → _ from ei) h)
        generalize hE1 : encI ⟨xo, xn, xt, xb⟩ = E1 at kex ei
        generalize hE2 : encI ⟨yo, yn, yt, yb⟩ = E2 at key ei
        generalize hT1 : textS ⟨xo, xn, xt, xb⟩ = T1 at ktx ti
        generalize hT2 : textS ⟨yo, yn, yt, yb⟩ = T2 at kty ti
        have eiH : Hidden (E1 ≠ E2) := ei
        have tiH : Hidden (T1 ≠ T2) := ti
        have tib : (T1 == T2) = false := by simpa using (show T1 ≠ T2 from tiH)
        clear hE1 hE2 hT1 hT2 hry ti ei hrxH hryH
        by_cases h1 : xo = yo
        · subst h1
          by_cases h2 : xn = yn
          · subst h2
            have h3 : decide (xt = yt ∧ xb = yb) = false := by
              simp only [decide_eq_false_iff_not]
              rintro ⟨rfl, rfl⟩
              exact he rfl
            rw [h3] at kS
            clear he h3
            go_wp2_with fail
            go_at_call 23
            refine (kS _).mono ?_
            rintro e w4 ⟨rfl, f4⟩
            replace x0 := f4.cellN x0; replace x1 := f4.cellN x1; replace x2 := f4.cellN x2; replace x3 := f4.cellN x3; replace y0 := f4.cellN y0; replace y1 := f4.cellN y1; replace y2 := f4.cellN y2; replace y3 := f4.cellN y3
            go_wp2_with fail
            go_at_call 21
            refine (kex _ _ (alloc_new _ _)).mono ?_
            rintro e w5 ⟨ao, ca, rfl, ba, f5⟩
            have f5' := (Fr.alloc (fun _ => False) _ _).same f5
            replace x0 := f5'.cellN x0; replace x1 := f5'.cellN x1; replace x2 := f5'.cellN x2; replace x3 := f5'.cellN x3; replace y0 := f5'.cellN y0; replace y1 := f5'.cellN y1; replace y2 := f5'.cellN y2; replace y3 := f5'.cellN y3
            clear f5
            go_wp2_with fail
            go_at_call 21
            refine (key _ _ (alloc_new _ _)).mono ?_
            rintro e w6 ⟨bo, cb, rfl, bb, f6⟩
            have f6' := (Fr.alloc (fun _ => False) _ _).same f6
            replace x0 := f6'.cellN x0; replace x1 := f6'.cellN x1; replace x2 := f6'.cellN x2; replace x3 := f6'.cellN x3; replace y0 := f6'.cellN y0; replace y1 := f6'.cellN y1; replace y2 := f6'.cellN y2; replace y3 := f6'.cellN y3
            replace ba := ba.keep f6'
            clear f6
            have fw6 : Hidden (Fr (fun _ => False) w w6) := (show Fr (fun _ => False) w w2 from fw2).same ((f3.same f4).same (f5'.same f6'))
            have f26 := (f3.same f4).same (f5'.same f6')
            have ktx' : ∀ W, Fr (fun _ => False) w6 W → _ := fun W hW => ktx W (f26.same hW)
            have kty' : ∀ W, Fr (fun _ => False) w6 W → _ := fun W hW => kty W (f26.same hW)
            have ksb : ∀ W, Fr (fun _ => False) w6 W → Calls Tryd.prog 22 _ W fun e w' => e = .returned (.bool false) ∧ Fr (fun _ => False) W w' := fun W hW => (sameB_any ao bo ca cb _ _ false W (ba.keep hW) (bb.keep hW) (by show _ = _; simp only [Eq.comm (a := false), decide_eq_false_iff_not]; exact eiH)).mono fun e w' h => ⟨h.1, by rw [h.2]; exact Fr.refl _ _⟩
            clear f3 f4 f5' f6' f26 ktx kty kex key ba bb kS fw2 tX2 tY2
            go_upto_region 13 with fail
            refine wp_region_grow (by kernel_rfl) (by kernel_rfl) ?_
            (repeat (first | (refine grow_op (v := ?_) ?_ ?_ ?_; rotate_left; (focus (first | exact wanted_none rfl | (go_simp; done))); (focus (intro w' hw'; have x0 := hw'.cellN x0; have x1 := hw'.cellN x1; have x2 := hw'.cellN x2; have x3 := hw'.cellN x3; have y0 := hw'.cellN y0; have y1 := hw'.cellN y1; have y2 := hw'.cellN y2; have y3 := hw'.cellN y3; (go_simp; first | with_reducible rfl | (go_at_call 12; refine calls_grow hw' ?_; first | (have q := ktx' w' hw'; with_reducible exact q) | (have q := kty' w' hw'; with_reducible exact q)) | (go_at_call 22; refine calls_grow hw' ?_; first | (have q := ksb w' hw'; with_reducible exact q))))); (intro a' ha; simp only [Act.put, List.setIfInBounds_toArray, List.set_cons_zero, List.set_cons_succ] at ha; subst ha)) | (refine grow_no ?_ ?_; (focus (first | (go_simp; done) | rfl)); (intro a' ha; simp only [Act.put, List.setIfInBounds_toArray, List.set_cons_zero, List.set_cons_succ] at ha; subst ha)))); refine grow_nil ?_; intro w7 q7
            go_wp2_with fail
            go_ret
            exact ⟨rfl, (show Fr (fun _ => False) w w6 from fw6).same q7⟩
          · have h2b : (xn == yn) = false := by simp [h2]
            clear he h2
            go_wp2_with fail
            have f4 := Fr.refl (fun _ => False) w3
            go_at_call 21
            refine (kex _ _ (alloc_new _ _)).mono ?_
            rintro e w5 ⟨ao, ca, rfl, ba, f5⟩
            have f5' := (Fr.alloc (fun _ => False) _ _).same f5
            replace x0 := f5'.cellN x0; replace x1 := f5'.cellN x1; replace x2 := f5'.cellN x2; replace x3 := f5'.cellN x3; replace y0 := f5'.cellN y0; replace y1 := f5'.cellN y1; replace y2 := f5'.cellN y2; replace y3 := f5'.cellN y3
            clear f5
            go_wp2_with fail
            go_at_call 21
            refine (key _ _ (alloc_new _ _)).mono ?_
            rintro e w6 ⟨bo, cb, rfl, bb, f6⟩
            have f6' := (Fr.alloc (fun _ => False) _ _).same f6
            replace x0 := f6'.cellN x0; replace x1 := f6'.cellN x1; replace x2 := f6'.cellN x2; replace x3 := f6'.cellN x3; replace y0 := f6'.cellN y0; replace y1 := f6'.cellN y1; replace y2 := f6'.cellN y2; replace y3 := f6'.cellN y3
            replace ba := ba.keep f6'
            clear f6
            have fw6 : Hidden (Fr (fun _ => False) w w6) := (show Fr (fun _ => False) w w2 from fw2).same ((f3.same f4).same (f5'.same f6'))
            have f26 := (f3.same f4).same (f5'.same f6')
            have ktx' : ∀ W, Fr (fun _ => False) w6 W → _ := fun W hW => ktx W (f26.same hW)
            have kty' : ∀ W, Fr (fun _ => False) w6 W → _ := fun W hW => kty W (f26.same hW)
            have ksb : ∀ W, Fr (fun _ => False) w6 W → Calls Tryd.prog 22 _ W fun e w' => e = .returned (.bool false) ∧ Fr (fun _ => False) W w' := fun W hW => (sameB_any ao bo ca cb _ _ false W (ba.keep hW) (bb.keep hW) (by show _ = _; simp only [Eq.comm (a := false), decide_eq_false_iff_not]; exact eiH)).mono fun e w' h => ⟨h.1, by rw [h.2]; exact Fr.refl _ _⟩
            clear f3 f4 f5' f6' f26 ktx kty kex key ba bb kS fw2 tX2 tY2
            go_upto_region 13 with fail
            refine wp_region_grow (by kernel_rfl) (by kernel_rfl) ?_
            (repeat (first | (refine grow_op (v := ?_) ?_ ?_ ?_; rotate_left; (focus (first | exact wanted_none rfl | (go_simp; done))); (focus (intro w' hw'; have x0 := hw'.cellN x0; have x1 := hw'.cellN x1; have x2 := hw'.cellN x2; have x3 := hw'.cellN x3; have y0 := hw'.cellN y0; have y1 := hw'.cellN y1; have y2 := hw'.cellN y2; have y3 := hw'.cellN y3; (go_simp; first | with_reducible rfl | (go_at_call 12; refine calls_grow hw' ?_; first | (have q := ktx' w' hw'; with_reducible exact q) | (have q := kty' w' hw'; with_reducible exact q)) | (go_at_call 22; refine calls_grow hw' ?_; first | (have q := ksb w' hw'; with_reducible exact q))))); (intro a' ha; simp only [Act.put, List.setIfInBounds_toArray, List.set_cons_zero, List.set_cons_succ] at ha; subst ha)) | (refine grow_no ?_ ?_; (focus (first | (go_simp; done) | rfl)); (intro a' ha; simp only [Act.put, List.setIfInBounds_toArray, List.set_cons_zero, List.set_cons_succ] at ha; subst ha)))); refine grow_nil ?_; intro w7 q7
            go_wp2_with fail
            go_ret
            exact ⟨rfl, (show Fr (fun _ => False) w w6 from fw6).same q7⟩
        · have h1b : (xo == yo) = false := by simp [h1]
          clear he h1
          go_wp2_with fail
          have f4 := Fr.refl (fun _ => False) w3
          go_at_call 21
          refine (kex _ _ (alloc_new _ _)).mono ?_
          rintro e w5 ⟨ao, ca, rfl, ba, f5⟩
          have f5' := (Fr.alloc (fun _ => False) _ _).same f5
          replace x0 := f5'.cellN x0; replace x1 := f5'.cellN x1; replace x2 := f5'.cellN x2; replace x3 := f5'.cellN x3; replace y0 := f5'.cellN y0; replace y1 := f5'.cellN y1; replace y2 := f5'.cellN y2; replace y3 := f5'.cellN y3
          clear f5
          go_wp2_with fail
          go_at_call 21
          refine (key _ _ (alloc_new _ _)).mono ?_
          rintro e w6 ⟨bo, cb, rfl, bb, f6⟩
          have f6' := (Fr.alloc (fun _ => False) _ _).same f6
          replace x0 := f6'.cellN x0; replace x1 := f6'.cellN x1; replace x2 := f6'.cellN x2; replace x3 := f6'.cellN x3; replace y0 := f6'.cellN y0; replace y1 := f6'.cellN y1; replace y2 := f6'.cellN y2; replace y3 := f6'.cellN y3
          replace ba := ba.keep f6'
          clear f6
          have fw6 : Hidden (Fr (fun _ => False) w w6) := (show Fr (fun _ => False) w w2 from fw2).same ((f3.same f4).same (f5'.same f6'))
          have f26 := (f3.same f4).same (f5'.same f6')
          have ktx' : ∀ W, Fr (fun _ => False) w6 W → _ := fun W hW => ktx W (f26.same hW)
          have kty' : ∀ W, Fr (fun _ => False) w6 W → _ := fun W hW => kty W (f26.same hW)
          have ksb : ∀ W, Fr (fun _ => False) w6 W → Calls Tryd.prog 22 _ W fun e w' => e = .returned (.bool false) ∧ Fr (fun _ => False) W w' := fun W hW => (sameB_any ao bo ca cb _ _ false W (ba.keep hW) (bb.keep hW) (by show _ = _; simp only [Eq.comm (a := false), decide_eq_false_iff_not]; exact eiH)).mono fun e w' h => ⟨h.1, by rw [h.2]; exact Fr.refl _ _⟩
          clear f3 f4 f5' f6' f26 ktx kty kex key ba bb kS fw2 tX2 tY2
          go_upto_region 13 with fail
          refine wp_region_grow (by kernel_rfl) (by kernel_rfl) ?_
          (repeat (first | (refine grow_op (v := ?_) ?_ ?_ ?_; rotate_left; (focus (first | exact wanted_none rfl | (go_simp; done))); (focus (intro w' hw'; have x0 := hw'.cellN x0; have x1 := hw'.cellN x1; have x2 := hw'.cellN x2; have x3 := hw'.cellN x3; have y0 := hw'.cellN y0; have y1 := hw'.cellN y1; have y2 := hw'.cellN y2; have y3 := hw'.cellN y3; (go_simp; first | with_reducible rfl | (go_at_call 12; refine calls_grow hw' ?_; first | (have q := ktx' w' hw'; with_reducible exact q) | (have q := kty' w' hw'; with_reducible exact q)) | (go_at_call 22; refine calls_grow hw' ?_; first | (have q := ksb w' hw'; with_reducible exact q))))); (intro a' ha; simp only [Act.put, List.setIfInBounds_toArray, List.set_cons_zero, List.set_cons_succ] at ha; subst ha)) | (refine grow_no ?_ ?_; (focus (first | (go_simp; done) | rfl)); (intro a' ha; simp only [Act.put, List.setIfInBounds_toArray, List.set_cons_zero, List.set_cons_succ] at ha; subst ha)))); refine grow_nil ?_; intro w7 q7
          go_wp2_with fail
          go_ret
          exact ⟨rfl, (show Fr (fun _ => False) w w6 from fw6).same q7⟩
    · have hry' : rightS ⟨yo, yn, yt, yb⟩ = false := by simpa using hry
      rw [hry']
      clear hry hry'
      obtain ⟨c, r, hcr⟩ : ∃ c r, textS ⟨xo, xn, xt, xb⟩ = c :: r := by
        cases h : textS ⟨xo, xn, xt, xb⟩ with
        | nil => exact absurd h (text_pos (show rightS _ = true from hrxH))
        | cons c r => exact ⟨c, r, rfl⟩
      rw [hcr] at ktx
      clear hcr
      go_wp2_with fail
      go_at_call 12
      refine (ktx _ f3).mono ?_
      rintro e w4 ⟨rfl, f4⟩
      go_wp2_with fail
      go_ret
      refine ⟨ret_bl ?_, (show Fr (fun _ => False) w w2 from fw2).same (f3.same f4)⟩
      simp
  · have hrx' : rightS ⟨xo, xn, xt, xb⟩ = false := by simpa using hrx
    have htx : textS ⟨xo, xn, xt, xb⟩ = [] := by unfold textS; rw [if_neg (by simp [hrx'])]
    rw [encA_wrong hrx'] at kex
    rw [htx] at ktx
    rw [hrx']
    clear hrx hrx' htx
    go_wp2_with fail
    go_at_call 21
    refine (kex _ _ (alloc_new _ _)).mono ?_
    rintro e w3 ⟨ao, cap, rfl, hb, f3⟩
    have f3' := (Fr.alloc (fun _ => False) _ _).same f3
    replace x0 := f3'.cellN x0
    replace x1 := f3'.cellN x1
    replace x2 := f3'.cellN x2
    replace x3 := f3'.cellN x3
    clear f3
    go_wp2_with fail
    go_at_call 12
    refine (ktx _ f3').mono ?_
    rintro e w4 ⟨rfl, f4⟩
    go_wp2_with fail
    go_ret
    exact ⟨rfl, (show Fr (fun _ => False) w w2 from fw2).same (f3'.same f4)⟩
end Go.Proofs.YticpiaonkgomfaaDoor.Cd
namespace Go.Proofs.YticpiaonkgomfaaDoor.codeUnlike
open Go.RowKit Ty Cd
theorem walk (v : Value) (x : In) (u : Value) (y : In) (W : World) (hx : InA W v x) (hy : InA W u y) (ht : F.Tab W) : Calls Tryd.prog 7 #[v, u] W fun e w' => e = .returned (.bool true) ∧ Fr (fun _ => False) W w' := by
  obtain ⟨rfl, ox⟩ := hx
  obtain ⟨rfl, oy⟩ := hy
  exact unlike_walk x y ox oy W ht
end Go.Proofs.YticpiaonkgomfaaDoor.codeUnlike
