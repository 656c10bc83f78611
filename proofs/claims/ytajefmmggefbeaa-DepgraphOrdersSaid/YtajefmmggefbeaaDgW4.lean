/- The document's Ring, Order, Levels. -/
import Derived.Test.YtajefmmggefbeaaDgW3
namespace Go.Proofs.Ytajefmmggefbeaa.Dg
open Go.RowKit Go.Sort
set_option linter.unusedSimpArgs false
set_option linter.unusedVariables false

/-- On the way round. -/
structure Rnd (g : Gr) (s : Str) (R : List Str) (n : Nat) (out : List Str) (y : Str) : Prop where
  last : out[out.length - 1]? = some y
  ne : 1 ≤ out.length
  far : Far g y s n
  le : n ≤ g.ks.length
  rest : ∀ t, Tail g s n y t → out ++ t = R
theorem Rnd.pos {g : Gr} {s : Str} {R : List Str} {n : Nat} {out : List Str} {y : Str} (h : Rnd g s R n out y) : 1 ≤ n := h.far.1.pos
theorem Rnd.end {g : Gr} {s : Str} {R : List Str} {out : List Str} {y : Str} (h : Rnd g s R 1 out y) : out = R := by
  have := h.rest [] (.nil (stp_one.1 h.far.1))
  simpa using this
theorem Rnd.next {g : Gr} {s : Str} {R : List Str} {n : Nat} {out : List Str} {y : Str} (h : Rnd g s R (n + 1) out y) (hn : 1 ≤ n) {k : Nat} {x : Str} (hx : (g.im y)[k]? = some x) (hf : Far g x s n) (hb : ∀ i z, i < k → (g.im y)[i]? = some z → ¬ Far g z s n) (hg : g.WF) : Rnd g s R n (out ++ [x]) x := by
  refine ⟨?_, by simp, hf, by have := h.le; omega, fun t ht => ?_⟩
  · simp
  · rw [List.append_assoc]
    refine h.rest (x :: t) (.cons (List.mem_of_getElem? hx) hf (fun z hz hlt hfz => ?_) ht)
    obtain ⟨i, hi⟩ := List.getElem?_of_mem hz
    refine hb i z ?_ hi hfz
    apply Classical.byContradiction
    intro hge
    have hil := (List.getElem?_eq_some_iff.1 hi).1
    have hkl := (List.getElem?_eq_some_iff.1 hx).1
    rcases Nat.lt_or_ge k i with q | q
    · have := (List.pairwise_iff_getElem.1 (hg.im y)) k i hkl hil q
      rw [(List.getElem?_eq_some_iff.1 hi).2, (List.getElem?_eq_some_iff.1 hx).2] at this
      exact Std.lt_irrefl (Std.lt_trans hlt this)
    · obtain rfl : i = k := by omega
      rw [hi] at hx
      obtain rfl := Option.some.inj hx
      exact Std.lt_irrefl hlt
theorem Rnd.there {g : Gr} {s : Str} {R : List Str} {n : Nat} {out : List Str} {y : Str} (h : Rnd g s R (n + 1) out y) (hn : 1 ≤ n) : ∃ (k : Nat) (x : Str), (g.im y)[k]? = some x ∧ Far g x s n := by
  obtain ⟨c, h1, h2⟩ := (stp_front hn).1 h.far.1
  obtain ⟨k, hk⟩ := List.getElem?_of_mem h1
  exact ⟨k, c, hk, h.far.next h1 h2⟩
theorem Rnd.start {g : Gr} (hg : g.WF) {s : Str} {r : List Str} {n : Nat} (hf : Far g s s n) (hl : n ≤ g.ks.length) : Rnd g s (ringOf g (s :: r)) n [s] s :=
  ⟨rfl, by simp, hf, hl, fun t ht => by rw [ring_take hg hf ht]; rfl⟩
theorem To.one (w : World) (s : Str) (B : Nat) (hB : B ≤ w.heap.size) : To (w.alloc (.cells #[ct s] 9)) B (.slice (some ⟨w.heap.size, 0, none⟩) 1 1) [s] :=
  ⟨by simp, Or.inr ⟨w.heap.size, 1, #[ct s], rfl, hB, alloc_new w _, by simp, by decide, by simp, by simp⟩⟩
set_option maxRecDepth 20000 in
set_option maxHeartbeats 4000000 in
theorem rring_any (p : Value) (g : Gr) (w : World) (h : Rg w p g) :
    Calls Try.prog 25 #[p] w fun e w' => Ret w.heap.size (ringS g) e w' ∧ Fr (fun _ => False) w w' := by
  have hH : Hidden (Rg w p g) := h
  obtain ⟨B, ao, cap, rfl, cB, hrow⟩ := h.cell
  have hsm := h.small
  have hrowH : Hidden (RL w ao cap g) := hrow
  have hc1 := hrow.1
  have hc2 := hrow.2.1
  obtain ⟨R, hR⟩ : ∃ R, ringS g = R := ⟨_, rfl⟩
  rw [hR]
  have hRH : Hidden (ringOf g g.ks = R) := hR
  clear h hrow hR
  go_enter Try.func25, Try.ntmps25
  go_wp2
  go_loopg [3] g.ks.length (fun k iv wr => ∃ j : Nat, iv = .int .i64 (j : Int) ∧ j ≤ g.ks.length ∧ k = g.ks.length - j ∧ ringOf g (g.ks.drop j) = R ∧ Fr (fun _ => False) w wr)
  case atStart => exact ⟨0, rfl, by omega, rfl, hRH, Fr.refl _ _⟩
  case round =>
    obtain ⟨j, rfl, hj, hk, hr, hf⟩ := hrel
    have hkH : Hidden (gk = g.ks.length - j) := hk
    have hfH : Hidden (Fr (fun _ => False) w wr) := hf
    have hrH : Hidden (ringOf g (g.ks.drop j) = R) := hr
    have cBr := hf.cellN cB
    clear hk hr hRH
    by_cases hjl : j < g.ks.length
    · obtain ⟨x, hx⟩ : ∃ x, g.ks[j]? = some x := ⟨g.ks[j], List.getElem?_eq_getElem hjl⟩
      obtain ⟨b, off, aoi, capi, rfl, c1, c2, ct3⟩ := RL.at ((show RL w ao cap g from hrowH).later hf) hx
      have kf := rfar_any _ g x x wr ((show Rg w _ g from hH).later hf)
      have hr2 : Hidden (ringOf g (x :: g.ks.drop (j + 1)) = R) := by show _ = _; rw [← drop_at hx]; exact hrH
      clear hx c2 ct3 hf
      go_wp2_with fail
      refine kf.mono ?_
      rintro e w2 ⟨⟨r, rfl, hfr⟩, f2⟩
      have f2H : Hidden (Fr (fun _ => False) w w2) := Fr.same hfH f2
      have hfrH : Hidden (FarR g x x r) := hfr
      have hrl := hfr.le
      clear hfr f2 kf
      by_cases hr0 : r = 0
      · subst hr0
        have hr3 : Hidden (ringOf g (g.ks.drop (j + 1)) = R) := by
          show _ = _
          rw [← ring_skip (show Rg w _ g from hH).wf (s := x) (r := g.ks.drop (j + 1))]
          · exact hr2
          · rcases (show FarR g x x 0 from hfrH) with ⟨_, k⟩ | ⟨k, _⟩
            · exact k
            · exact absurd k.1.pos (by omega)
        go_wp2
        go_roundg (g.ks.length - (j + 1))
        case measure => have := (show gk = g.ks.length - j from hkH); omega
        case rel => exact ⟨j + 1, by go_num, by omega, rfl, hr3, f2H⟩
      · have hz : ((r : Int) == 0) = false := by simp; omega
        have hst : Hidden (Rnd g x R r [x] x) := by
          show Rnd _ _ _ _ _ _
          have hff : Far g x x r := ((show FarR g x x r from hfrH).iff (by omega) hrl).2 rfl
          rw [← (show ringOf g (x :: g.ks.drop (j + 1)) = R from hr2)]
          exact Rnd.start (show Rg w _ g from hH).wf hff hrl
        have hsz2 : Hidden (w.heap.size ≤ w2.heap.size) := (show Fr (fun _ => False) w w2 from f2H).size
        have t0 : Hidden (To (w2.alloc (.cells #[ct x] 9)) w.heap.size (.slice (some ⟨w2.heap.size, 0, none⟩) 1 1) [x]) := To.one w2 x w.heap.size hsz2
        have f3H : Hidden (Fr (fun _ => False) w (w2.alloc (.cells #[ct x] 9))) := Fr.same f2H (Fr.alloc _ _ _)
        clear cBr c1
        go_wp2_with fail
        go_loopg [5, 6] r (fun q nv ov wr' => ∃ (n : Nat) (out : List Str) (y : Str), nv = .int .i64 (n : Int) ∧ q = n ∧ Rnd g x R n out y ∧ To wr' w.heap.size ov out ∧ out.length + n = r + 1 ∧ Fr (fun _ => False) w wr')
        case atStart => exact ⟨r, [x], x, rfl, rfl, hst, t0, by simp; omega, f3H⟩
        case round =>
          obtain ⟨n, out, y, rfl, hq, hrn, hto, hol, hf4⟩ := hrel
          have hqH : Hidden (gk = n) := hq
          have hrnH : Hidden (Rnd g x R n out y) := hrn
          have htoH : Hidden (To wr w.heap.size u6 out) := hto
          have hfH4 : Hidden (Fr (fun _ => False) w wr) := hf4
          have hn1 := hrn.pos
          have hnl := hrn.le
          have hne := hrn.ne
          obtain ⟨aoo, capo, hu, o1, o2⟩ := hto.shape
          subst hu
          have holH : Hidden (out.length + n = r + 1) := hol
          clear hq hst t0 f3H
          by_cases h1 : n = 1
          · subst h1
            have e0 : Hidden (out = R) := hrn.end
            clear hrn hto hf4
            go_wp2
            go_ret
            refine ⟨Ret.of ?_, hfH4⟩
            rw [← (show out = R from e0)]
            exact htoH
          · obtain ⟨m, rfl⟩ : ∃ m, n = m + 1 := ⟨n - 1, by omega⟩
            have hm1 : 1 ≤ m := by omega
            obtain ⟨b3, off3, rfl, c3⟩ := Tl.at hto.tn.tl hrn.last
            have cx : ((out.length : Int) - 1) = ((out.length - 1 : Nat) : Int) := by omega
            obtain ⟨aol, capl, tl, kl⟩ := (show Rg w _ g from hH).imports y
            have kl := kl wr hf4
            have tlH : Hidden (Tl w (.slice aol (g.im y).length capl) (g.im y)) := tl
            have hcl := Tl.cap_le tl
            have hil := (show Rg w _ g from hH).ims y
            obtain ⟨k0, x0, hk0, hfx0⟩ := hrn.there hm1
            have hk0l := (List.getElem?_eq_some_iff.1 hk0).1
            have hk0H : Hidden ((g.im y)[k0]? = some x0 ∧ Far g x0 x m) := ⟨hk0, hfx0⟩
            have hn2 : Hidden (((m + 1 : Nat) : Int) - 1 = (m : Int)) := by show _ = _; omega
            clear hrn hto hf4 tl hk0 hfx0 hol
            obtain ⟨ol, hol2⟩ : ∃ ol, out.length = ol + 1 := ⟨out.length - 1, by omega⟩
            have hol2H : Hidden (out.length = ol + 1) := hol2
            have c3' : wr.cell? ⟨b3, off3 + ol, none⟩ = some (ct y) := by rw [hol2] at c3; simpa using c3
            rw [hol2] at o1 ⊢
            clear c3 cx hol2 hne
            go_wp2_with (go_at_call 12; refine kl.mono ?_; rintro e w4 ⟨rfl, hw4⟩; replace hw4 := hw4.symm; subst hw4)
            obtain ⟨V, hV⟩ : ∃ V, V = wr := ⟨wr, rfl⟩
            subst hV
            obtain ⟨gko, hgko⟩ : ∃ gko, gko = gk := ⟨gk, rfl⟩
            subst hgko
            clear c3'
            go_loopg [8] k0 (fun q iv wr' => ∃ k : Nat, iv = .int .i64 (k : Int) ∧ k ≤ k0 ∧ q = k0 - k ∧ (∀ i z, i < k → (g.im y)[i]? = some z → ¬ Far g z x m) ∧ Fr (fun _ => False) V wr')
            case atStart => exact ⟨0, rfl, by omega, by omega, fun i z hi => absurd hi (by omega), Fr.refl _ _⟩
            case round =>
              obtain ⟨k, rfl, hkk, hq5, hbf, hf5⟩ := hrel
              have hqH5 : Hidden (gk = k0 - k) := hq5
              have hbfH : Hidden (∀ i z, i < k → (g.im y)[i]? = some z → ¬ Far g z x m) := hbf
              have hfH5 : Hidden (Fr (fun _ => False) V wr) := hf5
              have fw : Hidden (Fr (fun _ => False) w wr) := Fr.same hfH4 hf5
              obtain ⟨z, hz⟩ : ∃ z, (g.im y)[k]? = some z := ⟨(g.im y)[k]'(by omega), List.getElem?_eq_getElem (by omega)⟩
              obtain ⟨b6, off6, e6, c6⟩ := Tl.at ((show Tl w (.slice aol (g.im y).length capl) (g.im y) from tlH).later fw) hz
              subst e6
              have hzH : Hidden ((g.im y)[k]? = some z) := hz
              have kf2 := rfar_any _ g z x wr ((show Rg w _ g from hH).later fw)
              clear hq5 hbf hf5 hz
              go_wp2_with fail
              refine kf2.mono ?_
              rintro e w6 ⟨⟨r6, rfl, hfr6⟩, f6⟩
              have f6H : Hidden (Fr (fun _ => False) V w6) := Fr.same hfH5 f6
              have hiff : Hidden (Far g z x m ↔ r6 = m) := hfr6.iff hm1 (by omega)
              have c7 := f6.cellN c6
              clear kf2 hfr6 f6 c6
              by_cases hr6 : r6 = m
              · subst hr6
                have hrn3 : Hidden (Rnd g x R r6 (out ++ [z]) z) := (show Rnd g x R (r6 + 1) out y from hrnH).next hm1 hzH ((show Far g z x r6 ↔ r6 = r6 from hiff).2 rfl) hbfH (show Rg w _ g from hH).wf
                have t6 : Hidden (To w6 w.heap.size (.slice (some ⟨b3, off3, none⟩) (ol + 1) capo) out) := by
                  have := To.later (show To V w.heap.size (.slice (some ⟨b3, off3, none⟩) out.length capo) out from htoH) f6H
                  rw [(show out.length = ol + 1 from hol2H)] at this
                  exact this
                go_wp2_with (at_builtin; refine wpList_app rfl _ _ rfl w.heap.size _ _ out [z] rfl (To.keep t6 (Fr.alloc (fun _ => False) _ _) (fun _ _ f => f)) rfl (Tl.one _ z) (Nat.le_trans (show Fr (fun _ => False) w w6 from Fr.same hfH4 f6H).size (by simp)) (by have h1 : out.length + (r6 + 1) = r + 1 := holH; simp only [List.length_cons, List.length_nil]; omega) ?_; intro v8 w8 t8 f8 _)
                go_roundg r6
                case measure => have := (show gko = r6 + 1 from hqH); omega
                case rel =>
                  refine ⟨r6, out ++ [z], z, rfl, rfl, hrn3, t8, by have h1 : out.length + (r6 + 1) = r + 1 := holH; rw [List.length_append, List.length_singleton]; omega, ?_⟩
                  refine ((show Fr (fun _ => False) w w6 from Fr.same hfH4 f6H).same (Fr.alloc _ _ _)).over f8 fun k hk => ?_
                  exact ((show To w6 w.heap.size _ _ from t6).own k hk).1
              · have hne6 : ((r6 : Int) == (m : Int)) = false := by simp; omega
                have hne7 : ((r6 : Int) != (m : Int)) = true := by simp; omega
                have hnf : Hidden (¬ Far g z x m) := fun h => hr6 ((show Far g z x m ↔ r6 = m from hiff).1 h)
                have hkn : k < k0 := by
                  rcases Nat.lt_or_ge k k0 with q | q
                  · exact q
                  · obtain rfl : k = k0 := by omega
                    have h0 := (show (g.im y)[k]? = some x0 ∧ Far g x0 x m from hk0H)
                    have e0 : z = x0 := Option.some.inj ((show (g.im y)[k]? = some z from hzH).symm.trans h0.1)
                    subst e0
                    exact absurd h0.2 hnf
                clear hr6
                go_wp2
                go_roundg (k0 - (k + 1))
                case measure => have := (show gk = k0 - k from hqH5); omega
                case rel =>
                  refine ⟨k + 1, by go_num, by omega, rfl, fun i u hi hu => ?_, f6H⟩
                  rcases Nat.lt_or_ge i k with q | q
                  · exact (show ∀ i z, i < k → (g.im y)[i]? = some z → ¬ Far g z x m from hbfH) i u q hu
                  · obtain rfl : i = k := by omega
                    have e0 : z = u := Option.some.inj ((show (g.im y)[i]? = some z from hzH).symm.trans hu)
                    subst e0
                    exact hnf
    · obtain rfl : j = g.ks.length := by omega
      have hr0 : Hidden ([] = R) := by
        show _ = _
        rw [← (show ringOf g (g.ks.drop g.ks.length) = R from hrH), List.drop_eq_nil_of_le (Nat.le_refl _)]; rfl
      clear hf
      go_wp2
      go_ret
      refine ⟨Ret.of ?_, hfH⟩
      rw [← (show [] = R from hr0)]
      exact To.nil _ _
end Go.Proofs.Ytajefmmggefbeaa.Dg
